/- Contracts of the program's signs: comparisons, doubled squares. -/
import Derived.Test.YtafbdnjabgfjeaaDoorWcd
import Derived.WalkSmall
namespace Go.Proofs.YtafbdnjabgfjeaaDoor
open Go Go.RowKit OriM

theorem cmp64_any (a : Int) (w : World) : Calls Tryd.prog 163 #[.int .i64 a, .int .i64 0] w (Ret (.int .i64 a.sign) w) := by
  rcases Int.lt_trichotomy a 0 with h | h | h
  · have e := Lib.hid (Int.sign_eq_neg_one_of_neg h)
    go_enter Tryd.func163, Tryd.ntmps163
    go_wp2
    go_ret
    exact ⟨by rw [e.out]; rfl, rfl⟩
  · subst h
    go_enter Tryd.func163, Tryd.ntmps163
    go_wp2
    go_ret
    exact ⟨rfl, rfl⟩
  · have e := Lib.hid (Int.sign_eq_one_of_pos h)
    go_enter Tryd.func163, Tryd.ntmps163
    go_wp2
    go_ret
    exact ⟨by rw [e.out]; rfl, rfl⟩

theorem cmpInt_any (a : Int) (w : World) : Calls Tryd.prog 164 #[.int .i64 a, .int .i64 0] w (Ret (.int .i64 a.sign) w) := by
  rcases Int.lt_trichotomy a 0 with h | h | h
  · have e := Lib.hid (Int.sign_eq_neg_one_of_neg h)
    go_enter Tryd.func164, Tryd.ntmps164
    go_wp2
    go_ret
    exact ⟨by rw [e.out]; rfl, rfl⟩
  · subst h
    go_enter Tryd.func164, Tryd.ntmps164
    go_wp2
    go_ret
    exact ⟨rfl, rfl⟩
  · have e := Lib.hid (Int.sign_eq_one_of_pos h)
    go_enter Tryd.func164, Tryd.ntmps164
    go_wp2
    go_ret
    exact ⟨by rw [e.out]; rfl, rfl⟩

/-- The square of a number below 2^30, in two words. -/
theorem and_low (x : Int) (h0 : 0 ≤ x) (h1 : x ≤ 1073741824) : bits BinOp.and IntKind.u64 x 4294967295 = x := by
  obtain ⟨n, rfl⟩ := Int.eq_ofNat_of_zero_le h0
  have h := bits_and_u64_nat n 4294967295 (by omega) (by omega)
  rw [show ((4294967295 : Nat) : Int) = 4294967295 from rfl] at h
  rw [h, show (4294967295 : Nat) = 2 ^ 32 - 1 from rfl, Nat.and_two_pow_sub_one_eq_mod]
  omega

theorem mulSq_any (x s : Int) (w : World) (h0 : 0 ≤ x) (h1 : x ≤ 1073741824) (hs : x * x = s) (s0 : 0 ≤ s) (s1 : s ≤ 1152921504606846976) :
    Calls Tryd.prog 178 #[.int .u64 x, .int .u64 x] w (Ret (.tuple #[.int .u64 0, .int .u64 s]) w) := by
  have ha := and_low x h0 h1
  have hq : x / 4294967296 = 0 := by omega
  have ht := and_low (s / 4294967296) (by omega) (by omega)
  have hu : s / 4294967296 / 4294967296 = 0 := by omega
  have hv : IntKind.u64.wrap (s / 4294967296) = s / 4294967296 := by rw [IntKind.wrap_u64]; omega
  go_enter Tryd.func178, Tryd.ntmps178
  go_wp2
  go_ret2
  exact ⟨rfl, rfl⟩

/-- Is 2 b b greater than a a? -/
def dbl (b a : Int) : Bool := decide (a * a < 2 * (b * b))

theorem sq_bounds {x : Int} (h0 : 0 ≤ x) (h1 : x ≤ 1073741824) : 0 ≤ x * x ∧ x * x ≤ 1152921504606846976 := by
  have := sq_le h0 h1
  exact ⟨sq_nonneg x, by omega⟩

theorem exceeds_any (b a : Int) (w : World) (b0 : 0 ≤ b) (b1 : b ≤ 1073741824) (a0 : 0 ≤ a) (a1 : a ≤ 1073741824) :
    Calls Tryd.prog 165 #[.int .u64 b, .int .u64 a] w (Ret (.bool (dbl b a)) w) := by
  obtain ⟨s0, s1⟩ := sq_bounds b0 b1
  obtain ⟨t0, t1⟩ := sq_bounds a0 a1
  have HB := Lib.hid (fun w => mulSq_any b (b * b) w b0 b1 rfl s0 s1)
  have HA := Lib.hid (fun w => mulSq_any a (a * a) w a0 a1 rfl t0 t1)
  have E := Lib.hid (show decide (a * a < b * b * 2) = dbl b a by unfold dbl; rw [Int.mul_comm 2])
  clear b0 b1 a0 a1
  generalize b * b = s at *
  generalize a * a = t at *
  have q1 : s / 9223372036854775808 = 0 := by omega
  have q2 : bits BinOp.or IntKind.u64 0 0 = 0 := by decide
  go_enter Tryd.func165, Tryd.ntmps165
  go_wp2_with (first
    | (go_at_call_of 178 (Value.int IntKind.u64 a); refine (HA.out _).mono ?_; rintro e w1 ⟨rfl, rfl⟩)
    | (go_at_call_of 178 (Value.int IntKind.u64 b); refine (HB.out _).mono ?_; rintro e w1 ⟨rfl, rfl⟩))
  go_ret
  exact ⟨congrArg (fun b => Ending.returned (Value.bool b)) E.out, rfl⟩

theorem Ret.q {P : Program} {f : FuncId} {args : Array Value} {w : World} {n : Nat} {v : Value} (h : Calls P f args (w.drewN n) (Ret v (w.drewN n))) :
    Calls P f args (w.drewN n) fun e w'' => e = .returned v ∧ ∃ m, w'' = w.drewN m := h.mono fun _ _ ⟨he, hm⟩ => ⟨he, n, hm.symm⟩

theorem Ret.q2 {P : Program} {f : FuncId} {args : Array Value} {w : World} {a n : Nat} {v : Value} (h : Calls P f args (w.drewN (a + n)) (Ret v (w.drewN (a + n)))) :
    Calls P f args (w.drewN (a + n)) fun e w'' => e = .returned v ∧ ∃ m, w'' = w.drewN (a + m) := h.mono fun _ _ ⟨he, hm⟩ => ⟨he, n, hm.symm⟩

theorem absN_sq (a : Int) : absN a * absN a = a * a := by
  unfold absN
  rcases Int.natAbs_eq a with h | h
  · rw [← h]
  · have e : (a.natAbs : Int) = -a := by omega
    rw [e, Int.neg_mul_neg]

theorem sign_nn (a b k : Int) (w : World) (ea : a.sign = (-1)) (eb : b.sign = (-1)) :
    Calls Tryd.prog 136 #[num a b k] w (RetB (.int .i64 (Q.sgn2 a b)) w) := by
  have HA := Lib.hid (fun w => ea ▸ cmp64_any a w)
  have HB := Lib.hid (fun w => eb ▸ cmp64_any b w)
  have HC := Lib.hid (fun w => cmpInt_any (-2) w)
  rw [show Int.sign (-2) = (-1) by decide] at HC
  have E := Lib.hid (show Q.sgn2 a b = (-1) by unfold Q.sgn2; rw [ea, eb]; simp)
  clear ea eb
  go_enter Tryd.func136, Tryd.ntmps136
  go_wp2_with fail
  go_quiet ((first | (go_at_call_of 163 (Value.int IntKind.i64 a); exact Ret.q (HA.out _)) | (go_at_call_of 163 (Value.int IntKind.i64 b); exact Ret.q (HB.out _))))
  go_wp2_with (go_at_call 164; refine (HC.out _).mono ?_; rintro e w1 ⟨rfl, rfl⟩)
  go_ret
  exact ⟨by rw [E.out]; rfl, by (repeat (first | with_reducible exact Below.refl _ _ | with_reducible refine below_drewN ?_ _ | with_reducible refine Below.drew ?_ | with_reducible refine Below.alloc ?_ (by first | omega | (simp; done) | (simp; omega)) _ | with_reducible refine Below.setCell ?_ (by first | omega | (simp; done) | (simp; omega)) _ | with_reducible refine Below.trans ?_ (Below.mono (by assumption) (by first | omega | (simp; done) | (simp; omega)))))⟩
theorem sign_nz (a b k : Int) (w : World) (ea : a.sign = (-1)) (eb : b.sign = 0) :
    Calls Tryd.prog 136 #[num a b k] w (RetB (.int .i64 (Q.sgn2 a b)) w) := by
  have HA := Lib.hid (fun w => ea ▸ cmp64_any a w)
  have HB := Lib.hid (fun w => eb ▸ cmp64_any b w)
  have HC := Lib.hid (fun w => cmpInt_any (-1) w)
  rw [show Int.sign (-1) = (-1) by decide] at HC
  have E := Lib.hid (show Q.sgn2 a b = (-1) by unfold Q.sgn2; rw [ea, eb]; simp)
  clear ea eb
  go_enter Tryd.func136, Tryd.ntmps136
  go_wp2_with fail
  go_quiet ((first | (go_at_call_of 163 (Value.int IntKind.i64 a); exact Ret.q (HA.out _)) | (go_at_call_of 163 (Value.int IntKind.i64 b); exact Ret.q (HB.out _))))
  go_wp2_with (go_at_call 164; refine (HC.out _).mono ?_; rintro e w1 ⟨rfl, rfl⟩)
  go_ret
  exact ⟨by rw [E.out]; rfl, by (repeat (first | with_reducible exact Below.refl _ _ | with_reducible refine below_drewN ?_ _ | with_reducible refine Below.drew ?_ | with_reducible refine Below.alloc ?_ (by first | omega | (simp; done) | (simp; omega)) _ | with_reducible refine Below.setCell ?_ (by first | omega | (simp; done) | (simp; omega)) _ | with_reducible refine Below.trans ?_ (Below.mono (by assumption) (by first | omega | (simp; done) | (simp; omega)))))⟩
theorem sign_zn (a b k : Int) (w : World) (ea : a.sign = 0) (eb : b.sign = (-1)) :
    Calls Tryd.prog 136 #[num a b k] w (RetB (.int .i64 (Q.sgn2 a b)) w) := by
  have HA := Lib.hid (fun w => ea ▸ cmp64_any a w)
  have HB := Lib.hid (fun w => eb ▸ cmp64_any b w)
  have HC := Lib.hid (fun w => cmpInt_any (-1) w)
  rw [show Int.sign (-1) = (-1) by decide] at HC
  have E := Lib.hid (show Q.sgn2 a b = (-1) by unfold Q.sgn2; rw [ea, eb]; simp)
  clear ea eb
  go_enter Tryd.func136, Tryd.ntmps136
  go_wp2_with fail
  go_quiet ((first | (go_at_call_of 163 (Value.int IntKind.i64 a); exact Ret.q (HA.out _)) | (go_at_call_of 163 (Value.int IntKind.i64 b); exact Ret.q (HB.out _))))
  go_wp2_with (go_at_call 164; refine (HC.out _).mono ?_; rintro e w1 ⟨rfl, rfl⟩)
  go_ret
  exact ⟨by rw [E.out]; rfl, by (repeat (first | with_reducible exact Below.refl _ _ | with_reducible refine below_drewN ?_ _ | with_reducible refine Below.drew ?_ | with_reducible refine Below.alloc ?_ (by first | omega | (simp; done) | (simp; omega)) _ | with_reducible refine Below.setCell ?_ (by first | omega | (simp; done) | (simp; omega)) _ | with_reducible refine Below.trans ?_ (Below.mono (by assumption) (by first | omega | (simp; done) | (simp; omega)))))⟩
theorem sign_zz (a b k : Int) (w : World) (ea : a.sign = 0) (eb : b.sign = 0) :
    Calls Tryd.prog 136 #[num a b k] w (RetB (.int .i64 (Q.sgn2 a b)) w) := by
  have HA := Lib.hid (fun w => ea ▸ cmp64_any a w)
  have HB := Lib.hid (fun w => eb ▸ cmp64_any b w)
  have HC := Lib.hid (fun w => cmpInt_any 0 w)
  rw [show Int.sign 0 = 0 by decide] at HC
  have E := Lib.hid (show Q.sgn2 a b = 0 by unfold Q.sgn2; rw [ea, eb]; simp)
  clear ea eb
  go_enter Tryd.func136, Tryd.ntmps136
  go_wp2_with fail
  go_quiet ((first | (go_at_call_of 163 (Value.int IntKind.i64 a); exact Ret.q (HA.out _)) | (go_at_call_of 163 (Value.int IntKind.i64 b); exact Ret.q (HB.out _))))
  go_wp2_with (go_at_call 164; refine (HC.out _).mono ?_; rintro e w1 ⟨rfl, rfl⟩)
  go_ret
  exact ⟨by rw [E.out]; rfl, by (repeat (first | with_reducible exact Below.refl _ _ | with_reducible refine below_drewN ?_ _ | with_reducible refine Below.drew ?_ | with_reducible refine Below.alloc ?_ (by first | omega | (simp; done) | (simp; omega)) _ | with_reducible refine Below.setCell ?_ (by first | omega | (simp; done) | (simp; omega)) _ | with_reducible refine Below.trans ?_ (Below.mono (by assumption) (by first | omega | (simp; done) | (simp; omega)))))⟩
theorem sign_zp (a b k : Int) (w : World) (ea : a.sign = 0) (eb : b.sign = 1) :
    Calls Tryd.prog 136 #[num a b k] w (RetB (.int .i64 (Q.sgn2 a b)) w) := by
  have HA := Lib.hid (fun w => ea ▸ cmp64_any a w)
  have HB := Lib.hid (fun w => eb ▸ cmp64_any b w)
  have HC := Lib.hid (fun w => cmpInt_any 1 w)
  rw [show Int.sign 1 = 1 by decide] at HC
  have E := Lib.hid (show Q.sgn2 a b = 1 by unfold Q.sgn2; rw [ea, eb]; simp)
  clear ea eb
  go_enter Tryd.func136, Tryd.ntmps136
  go_wp2_with fail
  go_quiet ((first | (go_at_call_of 163 (Value.int IntKind.i64 a); exact Ret.q (HA.out _)) | (go_at_call_of 163 (Value.int IntKind.i64 b); exact Ret.q (HB.out _))))
  go_wp2_with (go_at_call 164; refine (HC.out _).mono ?_; rintro e w1 ⟨rfl, rfl⟩)
  go_ret
  exact ⟨by rw [E.out]; rfl, by (repeat (first | with_reducible exact Below.refl _ _ | with_reducible refine below_drewN ?_ _ | with_reducible refine Below.drew ?_ | with_reducible refine Below.alloc ?_ (by first | omega | (simp; done) | (simp; omega)) _ | with_reducible refine Below.setCell ?_ (by first | omega | (simp; done) | (simp; omega)) _ | with_reducible refine Below.trans ?_ (Below.mono (by assumption) (by first | omega | (simp; done) | (simp; omega)))))⟩
theorem sign_pz (a b k : Int) (w : World) (ea : a.sign = 1) (eb : b.sign = 0) :
    Calls Tryd.prog 136 #[num a b k] w (RetB (.int .i64 (Q.sgn2 a b)) w) := by
  have HA := Lib.hid (fun w => ea ▸ cmp64_any a w)
  have HB := Lib.hid (fun w => eb ▸ cmp64_any b w)
  have HC := Lib.hid (fun w => cmpInt_any 1 w)
  rw [show Int.sign 1 = 1 by decide] at HC
  have E := Lib.hid (show Q.sgn2 a b = 1 by unfold Q.sgn2; rw [ea, eb]; simp)
  clear ea eb
  go_enter Tryd.func136, Tryd.ntmps136
  go_wp2_with fail
  go_quiet ((first | (go_at_call_of 163 (Value.int IntKind.i64 a); exact Ret.q (HA.out _)) | (go_at_call_of 163 (Value.int IntKind.i64 b); exact Ret.q (HB.out _))))
  go_wp2_with (go_at_call 164; refine (HC.out _).mono ?_; rintro e w1 ⟨rfl, rfl⟩)
  go_ret
  exact ⟨by rw [E.out]; rfl, by (repeat (first | with_reducible exact Below.refl _ _ | with_reducible refine below_drewN ?_ _ | with_reducible refine Below.drew ?_ | with_reducible refine Below.alloc ?_ (by first | omega | (simp; done) | (simp; omega)) _ | with_reducible refine Below.setCell ?_ (by first | omega | (simp; done) | (simp; omega)) _ | with_reducible refine Below.trans ?_ (Below.mono (by assumption) (by first | omega | (simp; done) | (simp; omega)))))⟩
theorem sign_pp (a b k : Int) (w : World) (ea : a.sign = 1) (eb : b.sign = 1) :
    Calls Tryd.prog 136 #[num a b k] w (RetB (.int .i64 (Q.sgn2 a b)) w) := by
  have HA := Lib.hid (fun w => ea ▸ cmp64_any a w)
  have HB := Lib.hid (fun w => eb ▸ cmp64_any b w)
  have HC := Lib.hid (fun w => cmpInt_any 2 w)
  rw [show Int.sign 2 = 1 by decide] at HC
  have E := Lib.hid (show Q.sgn2 a b = 1 by unfold Q.sgn2; rw [ea, eb]; simp)
  clear ea eb
  go_enter Tryd.func136, Tryd.ntmps136
  go_wp2_with fail
  go_quiet ((first | (go_at_call_of 163 (Value.int IntKind.i64 a); exact Ret.q (HA.out _)) | (go_at_call_of 163 (Value.int IntKind.i64 b); exact Ret.q (HB.out _))))
  go_wp2_with (go_at_call 164; refine (HC.out _).mono ?_; rintro e w1 ⟨rfl, rfl⟩)
  go_ret
  exact ⟨by rw [E.out]; rfl, by (repeat (first | with_reducible exact Below.refl _ _ | with_reducible refine below_drewN ?_ _ | with_reducible refine Below.drew ?_ | with_reducible refine Below.alloc ?_ (by first | omega | (simp; done) | (simp; omega)) _ | with_reducible refine Below.setCell ?_ (by first | omega | (simp; done) | (simp; omega)) _ | with_reducible refine Below.trans ?_ (Below.mono (by assumption) (by first | omega | (simp; done) | (simp; omega)))))⟩
theorem sign_np (a b k : Int) (w : World) (a1 : -1073741824 ≤ a) (a2 : a ≤ 1073741824) (b1 : -1073741824 ≤ b) (b2 : b ≤ 1073741824) (ea : a.sign = (-1)) (eb : b.sign = 1) :
    Calls Tryd.prog 136 #[num a b k] w (RetB (.int .i64 (Q.sgn2 a b)) w) := by
  have HA := Lib.hid (fun w => ea ▸ cmp64_any a w)
  have HB := Lib.hid (fun w => eb ▸ cmp64_any b w)
  have XA := Lib.hid (fun w => absolute_any a w (by omega) (by omega))
  have XB := Lib.hid (fun w => absolute_any b w (by omega) (by omega))
  have HD := Lib.hid (fun w => exceeds_any (absN b) (absN a) w (by unfold absN; omega) (by unfold absN; omega) (by unfold absN; omega) (by unfold absN; omega))
  have ed : dbl (absN b) (absN a) = decide (a * a < 2 * (b * b)) := by unfold dbl; rw [absN_sq, absN_sq]
  have es : Q.sgn2 a b = if dbl (absN b) (absN a) then 1 else (-1) := by
    rw [ed]; unfold Q.sgn2; rw [ea, eb]; simp
  rw [es]
  clear ea eb a1 a2 b1 b2 ed es
  generalize dbl (absN b) (absN a) = d at *
  cases d
  all_goals
    go_enter Tryd.func136, Tryd.ntmps136
    go_wp2_with fail
    go_quiet ((first | (go_at_call_of 163 (Value.int IntKind.i64 a); exact Ret.q (HA.out _)) | (go_at_call_of 163 (Value.int IntKind.i64 b); exact Ret.q (HB.out _))))
    go_wp2_with fail
    go_quiet ((first | (go_at_call_of 166 (Value.int IntKind.i64 a); exact Ret.q2 (XA.out _)) | (go_at_call_of 166 (Value.int IntKind.i64 b); exact Ret.q2 (XB.out _)) | (go_at_call 165; exact Ret.q2 (HD.out _))))
    go_wp2_with fail
    go_ret
    exact ⟨rfl, by (repeat (first | with_reducible exact Below.refl _ _ | with_reducible refine below_drewN ?_ _ | with_reducible refine Below.drew ?_ | with_reducible refine Below.alloc ?_ (by first | omega | (simp; done) | (simp; omega)) _ | with_reducible refine Below.setCell ?_ (by first | omega | (simp; done) | (simp; omega)) _ | with_reducible refine Below.trans ?_ (Below.mono (by assumption) (by first | omega | (simp; done) | (simp; omega)))))⟩
theorem sign_pn (a b k : Int) (w : World) (a1 : -1073741824 ≤ a) (a2 : a ≤ 1073741824) (b1 : -1073741824 ≤ b) (b2 : b ≤ 1073741824) (ea : a.sign = 1) (eb : b.sign = (-1)) :
    Calls Tryd.prog 136 #[num a b k] w (RetB (.int .i64 (Q.sgn2 a b)) w) := by
  have HA := Lib.hid (fun w => ea ▸ cmp64_any a w)
  have HB := Lib.hid (fun w => eb ▸ cmp64_any b w)
  have XA := Lib.hid (fun w => absolute_any a w (by omega) (by omega))
  have XB := Lib.hid (fun w => absolute_any b w (by omega) (by omega))
  have HD := Lib.hid (fun w => exceeds_any (absN b) (absN a) w (by unfold absN; omega) (by unfold absN; omega) (by unfold absN; omega) (by unfold absN; omega))
  have ed : dbl (absN b) (absN a) = decide (a * a < 2 * (b * b)) := by unfold dbl; rw [absN_sq, absN_sq]
  have es : Q.sgn2 a b = if dbl (absN b) (absN a) then (-1) else 1 := by
    rw [ed]; unfold Q.sgn2; rw [ea, eb]; simp
  rw [es]
  clear ea eb a1 a2 b1 b2 ed es
  generalize dbl (absN b) (absN a) = d at *
  cases d
  all_goals
    go_enter Tryd.func136, Tryd.ntmps136
    go_wp2_with fail
    go_quiet ((first | (go_at_call_of 163 (Value.int IntKind.i64 a); exact Ret.q (HA.out _)) | (go_at_call_of 163 (Value.int IntKind.i64 b); exact Ret.q (HB.out _))))
    go_wp2_with fail
    go_quiet ((first | (go_at_call_of 166 (Value.int IntKind.i64 a); exact Ret.q2 (XA.out _)) | (go_at_call_of 166 (Value.int IntKind.i64 b); exact Ret.q2 (XB.out _)) | (go_at_call 165; exact Ret.q2 (HD.out _))))
    go_wp2_with fail
    go_ret
    exact ⟨rfl, by (repeat (first | with_reducible exact Below.refl _ _ | with_reducible refine below_drewN ?_ _ | with_reducible refine Below.drew ?_ | with_reducible refine Below.alloc ?_ (by first | omega | (simp; done) | (simp; omega)) _ | with_reducible refine Below.setCell ?_ (by first | omega | (simp; done) | (simp; omega)) _ | with_reducible refine Below.trans ?_ (Below.mono (by assumption) (by first | omega | (simp; done) | (simp; omega)))))⟩

theorem sign_any (a b k : Int) (w : World) (a1 : -1073741824 ≤ a) (a2 : a ≤ 1073741824) (b1 : -1073741824 ≤ b) (b2 : b ≤ 1073741824) :
    Calls Tryd.prog 136 #[num a b k] w (RetB (.int .i64 (Q.sgn2 a b)) w) := by
  rcases Int.lt_trichotomy a 0 with h | h | h <;> rcases Int.lt_trichotomy b 0 with g | g | g
  · exact sign_nn a b k w (Int.sign_eq_neg_one_of_neg h) (Int.sign_eq_neg_one_of_neg g)
  · exact sign_nz a b k w (Int.sign_eq_neg_one_of_neg h) (by rw [g]; rfl)
  · exact sign_np a b k w a1 a2 b1 b2 (Int.sign_eq_neg_one_of_neg h) (Int.sign_eq_one_of_pos g)
  · exact sign_zn a b k w (by rw [h]; rfl) (Int.sign_eq_neg_one_of_neg g)
  · exact sign_zz a b k w (by rw [h]; rfl) (by rw [g]; rfl)
  · exact sign_zp a b k w (by rw [h]; rfl) (Int.sign_eq_one_of_pos g)
  · exact sign_pn a b k w a1 a2 b1 b2 (Int.sign_eq_one_of_pos h) (Int.sign_eq_neg_one_of_neg g)
  · exact sign_pz a b k w (Int.sign_eq_one_of_pos h) (by rw [g]; rfl)
  · exact sign_pp a b k w (Int.sign_eq_one_of_pos h) (Int.sign_eq_one_of_pos g)
end Go.Proofs.YtafbdnjabgfjeaaDoor
