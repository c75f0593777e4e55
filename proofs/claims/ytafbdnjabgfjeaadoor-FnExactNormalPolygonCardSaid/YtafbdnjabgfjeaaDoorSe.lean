/- Contracts of the model's signs; the program's SignNum and CompareNum. -/
import Derived.Test.YtafbdnjabgfjeaaDoorWs
import Derived.Test.YtafbdnjabgfjeaaDoorSd
namespace Go.Proofs.YtafbdnjabgfjeaaDoor
open Go Go.RowKit OriM

theorem lSquare_pos (x s : Int) (w : World) (h0 : 0 ≤ x) (h1 : x ≤ 1073741824) (hs : x * x = s) (s0 : 0 ≤ s) (s1 : s ≤ 1152921504606846976) :
    Calls Tryd.prog 175 #[.int .i64 x] w (Ret (.tuple #[.int .u64 0, .int .u64 s]) w) := by
  have ha := and_low x h0 h1
  have hq : x / 4294967296 = 0 := by omega
  have hl : ¬ s < s := Int.lt_irrefl s
  go_enter Tryd.func175, Tryd.ntmps175
  go_wp2
  go_ret2
  exact ⟨rfl, rfl⟩

theorem lSquare_neg (x s : Int) (w : World) (h0 : 0 < x) (h1 : x ≤ 1073741824) (hs : x * x = s) (s0 : 0 ≤ s) (s1 : s ≤ 1152921504606846976) :
    Calls Tryd.prog 175 #[.int .i64 (-x)] w (Ret (.tuple #[.int .u64 0, .int .u64 s]) w) := by
  have ha := and_low x (by omega) h1
  have hq : x / 4294967296 = 0 := by omega
  have hl : ¬ s < s := Int.lt_irrefl s
  have hn : -x < 0 := by omega
  go_enter Tryd.func175, Tryd.ntmps175
  go_wp2
  go_ret2
  exact ⟨rfl, rfl⟩

theorem lSquare_any (x : Int) (w : World) (h0 : -1073741824 ≤ x) (h1 : x ≤ 1073741824) :
    Calls Tryd.prog 175 #[.int .i64 x] w (Ret (.tuple #[.int .u64 0, .int .u64 (x * x)]) w) := by
  rcases (show x < 0 ∨ 0 ≤ x by omega) with h | h
  · obtain ⟨y, rfl⟩ : ∃ y, x = -y := ⟨-x, by omega⟩
    obtain ⟨s0, s1⟩ := sq_bounds (x := y) (by omega) (by omega)
    rw [Int.neg_mul_neg]
    exact lSquare_neg y (y * y) w (by omega) (by omega) rfl s0 s1
  · obtain ⟨s0, s1⟩ := sq_bounds h h1
    exact lSquare_pos x (x * x) w h h1 rfl s0 s1

theorem sq_bounds' {x : Int} (h0 : -1073741824 ≤ x) (h1 : x ≤ 1073741824) : 0 ≤ x * x ∧ x * x ≤ 1152921504606846976 := by
  rcases (show x < 0 ∨ 0 ≤ x by omega) with h | h
  · have := sq_bounds (x := -x) (by omega) (by omega)
    rwa [Int.neg_mul_neg] at this
  · exact sq_bounds h h1

theorem lLess_any (a b : Int) (w : World) (a1 : -1073741824 ≤ a) (a2 : a ≤ 1073741824) (b1 : -1073741824 ≤ b) (b2 : b ≤ 1073741824) :
    Calls Tryd.prog 160 #[.int .i64 a, .int .i64 b] w (Ret (.bool (dbl b a)) w) := by
  obtain ⟨s0, s1⟩ := sq_bounds' b1 b2
  obtain ⟨t0, t1⟩ := sq_bounds' a1 a2
  have HA := Lib.hid (fun w => lSquare_any a w a1 a2)
  have HB := Lib.hid (fun w => lSquare_any b w b1 b2)
  have E := Lib.hid (show decide (a * a < b * b * 2) = dbl b a by unfold dbl; rw [Int.mul_comm 2])
  clear a1 a2 b1 b2
  generalize b * b = s at *
  generalize a * a = t at *
  have q1 : s / 9223372036854775808 = 0 := by omega
  go_enter Tryd.func160, Tryd.ntmps160
  go_wp2_with fail
  refine (HA.out _).mono ?_
  rintro e w1 ⟨rfl, rfl⟩
  go_wp2_with fail
  refine (HB.out _).mono ?_
  rintro e w1 ⟨rfl, rfl⟩
  go_wp2_with fail
  go_ret
  exact ⟨congrArg (fun b => Ending.returned (Value.bool b)) E.out, rfl⟩

theorem lSign_zero (k : Int) (w : World) : Calls Tryd.prog 125 #[num 0 0 k] w (RetB (.int .i64 (Q.sgn2 0 0)) w) := by
  rw [show Q.sgn2 0 0 = 0 by decide]
  go_enter Tryd.func125, Tryd.ntmps125
  go_wp2_with fail
  go_ret
  exact ⟨rfl, by (repeat (first | with_reducible exact Below.refl _ _ | with_reducible refine Below.drew ?_ | with_reducible refine Below.alloc ?_ (by first | omega | (simp; done) | (simp; omega)) _ | with_reducible refine Below.setCell ?_ (by first | omega | (simp; done) | (simp; omega)) _ | with_reducible refine Below.trans ?_ (Below.mono (by assumption) (by first | omega | (simp; done) | (simp; omega)))))⟩

theorem lSign_pos (a b k : Int) (w : World) (h0 : (a == 0 && b == 0) = false) (ha : 0 ≤ a) (hb : 0 ≤ b) : Calls Tryd.prog 125 #[num a b k] w (RetB (.int .i64 (Q.sgn2 a b)) w) := by
  have E := Lib.hid (show Q.sgn2 a b = 1 by
    simp at h0
    rcases Int.lt_or_eq_of_le ha with h | h <;> rcases Int.lt_or_eq_of_le hb with g | g
    · unfold Q.sgn2; rw [Int.sign_eq_one_of_pos h, Int.sign_eq_one_of_pos g]; simp
    · subst g; unfold Q.sgn2; rw [Int.sign_eq_one_of_pos h]; simp
    · subst h; unfold Q.sgn2; rw [Int.sign_eq_one_of_pos g]; simp
    · omega)
  by_cases h : a = 0
  · subst h
    have hb0 : (b == 0) = false := by simpa using h0
    clear h0
    go_enter Tryd.func125, Tryd.ntmps125
    go_wp2_with fail
    go_ret
    exact ⟨by rw [E.out]; rfl, by (repeat (first | with_reducible exact Below.refl _ _ | with_reducible refine Below.drew ?_ | with_reducible refine Below.alloc ?_ (by first | omega | (simp; done) | (simp; omega)) _ | with_reducible refine Below.setCell ?_ (by first | omega | (simp; done) | (simp; omega)) _ | with_reducible refine Below.trans ?_ (Below.mono (by assumption) (by first | omega | (simp; done) | (simp; omega)))))⟩
  · have ha0 : (a == 0) = false := by simpa using h
    clear h0 h
    go_enter Tryd.func125, Tryd.ntmps125
    go_wp2_with fail
    go_ret
    exact ⟨by rw [E.out]; rfl, by (repeat (first | with_reducible exact Below.refl _ _ | with_reducible refine Below.drew ?_ | with_reducible refine Below.alloc ?_ (by first | omega | (simp; done) | (simp; omega)) _ | with_reducible refine Below.setCell ?_ (by first | omega | (simp; done) | (simp; omega)) _ | with_reducible refine Below.trans ?_ (Below.mono (by assumption) (by first | omega | (simp; done) | (simp; omega)))))⟩

theorem lSign_neg (a b k : Int) (w : World) (h0 : (a == 0 && b == 0) = false) (ha : a ≤ 0) (hb : b ≤ 0) : Calls Tryd.prog 125 #[num a b k] w (RetB (.int .i64 (Q.sgn2 a b)) w) := by
  have E := Lib.hid (show Q.sgn2 a b = -1 by
    simp at h0
    rcases Int.lt_or_eq_of_le ha with h | h <;> rcases Int.lt_or_eq_of_le hb with g | g
    · unfold Q.sgn2; rw [Int.sign_eq_neg_one_of_neg h, Int.sign_eq_neg_one_of_neg g]; simp
    · subst g; unfold Q.sgn2; rw [Int.sign_eq_neg_one_of_neg h]; simp
    · subst h; unfold Q.sgn2; rw [Int.sign_eq_neg_one_of_neg g]; simp
    · omega)
  by_cases h : a = 0
  · subst h
    have hb1 : b < 0 := by simp at h0; omega
    have hb0 : (b == 0) = false := by simpa using h0
    clear h0
    go_enter Tryd.func125, Tryd.ntmps125
    go_wp2_with fail
    go_ret
    exact ⟨by rw [E.out]; rfl, by (repeat (first | with_reducible exact Below.refl _ _ | with_reducible refine Below.drew ?_ | with_reducible refine Below.alloc ?_ (by first | omega | (simp; done) | (simp; omega)) _ | with_reducible refine Below.setCell ?_ (by first | omega | (simp; done) | (simp; omega)) _ | with_reducible refine Below.trans ?_ (Below.mono (by assumption) (by first | omega | (simp; done) | (simp; omega)))))⟩
  · have ha0 : (a == 0) = false := by simpa using h
    have ha1 : a < 0 := by omega
    clear h0 h
    go_enter Tryd.func125, Tryd.ntmps125
    go_wp2_with fail
    go_ret
    exact ⟨by rw [E.out]; rfl, by (repeat (first | with_reducible exact Below.refl _ _ | with_reducible refine Below.drew ?_ | with_reducible refine Below.alloc ?_ (by first | omega | (simp; done) | (simp; omega)) _ | with_reducible refine Below.setCell ?_ (by first | omega | (simp; done) | (simp; omega)) _ | with_reducible refine Below.trans ?_ (Below.mono (by assumption) (by first | omega | (simp; done) | (simp; omega)))))⟩

theorem lSign_np (a b k : Int) (w : World) (a1 : -1073741824 ≤ a) (b2 : b ≤ 1073741824) (ha : a < 0) (hb : 0 < b) : Calls Tryd.prog 125 #[num a b k] w (RetB (.int .i64 (Q.sgn2 a b)) w) := by
  have HL := Lib.hid (fun w => lLess_any a b w a1 (by omega) (by omega) b2)
  have es : Q.sgn2 a b = if dbl b a then 1 else -1 := by
    unfold Q.sgn2 dbl; rw [Int.sign_eq_neg_one_of_neg ha, Int.sign_eq_one_of_pos hb]; simp
  rw [es]
  clear a1 b2 es
  have ha0 : (a == 0) = false := by simp; omega
  generalize dbl b a = d at *
  cases d
  all_goals
    go_enter Tryd.func125, Tryd.ntmps125
    go_wp2_with fail
    go_quiet ((go_at_call 160; exact Ret.q (HL.out _)))
    go_wp2_with fail
    go_ret
    exact ⟨rfl, by (repeat (first | with_reducible exact Below.refl _ _ | with_reducible refine below_drewN ?_ _ | with_reducible refine Below.drew ?_ | with_reducible refine Below.alloc ?_ (by first | omega | (simp; done) | (simp; omega)) _ | with_reducible refine Below.setCell ?_ (by first | omega | (simp; done) | (simp; omega)) _ | with_reducible refine Below.trans ?_ (Below.mono (by assumption) (by first | omega | (simp; done) | (simp; omega)))))⟩

theorem lSign_pn (a b k : Int) (w : World) (a2 : a ≤ 1073741824) (b1 : -1073741824 ≤ b) (ha : 0 < a) (hb : b < 0) : Calls Tryd.prog 125 #[num a b k] w (RetB (.int .i64 (Q.sgn2 a b)) w) := by
  have HL := Lib.hid (fun w => lLess_any a b w (by omega) a2 b1 (by omega))
  have es : Q.sgn2 a b = if dbl b a then -1 else 1 := by
    unfold Q.sgn2 dbl; rw [Int.sign_eq_neg_one_of_neg hb, Int.sign_eq_one_of_pos ha]; simp
  rw [es]
  clear a2 b1 es
  have ha0 : (a == 0) = false := by simp; omega
  generalize dbl b a = d at *
  have hbd : decide (0 < b) = false := by simp; omega
  cases d
  all_goals
    go_enter Tryd.func125, Tryd.ntmps125
    go_wp2_with fail
    go_quiet ((go_at_call 160; exact Ret.q (HL.out _)))
    go_wp2_with fail
    go_ret
    exact ⟨rfl, by (repeat (first | with_reducible exact Below.refl _ _ | with_reducible refine below_drewN ?_ _ | with_reducible refine Below.drew ?_ | with_reducible refine Below.alloc ?_ (by first | omega | (simp; done) | (simp; omega)) _ | with_reducible refine Below.setCell ?_ (by first | omega | (simp; done) | (simp; omega)) _ | with_reducible refine Below.trans ?_ (Below.mono (by assumption) (by first | omega | (simp; done) | (simp; omega)))))⟩

theorem lSign_any (a b k : Int) (w : World) (a1 : -1073741824 ≤ a) (a2 : a ≤ 1073741824) (b1 : -1073741824 ≤ b) (b2 : b ≤ 1073741824) :
    Calls Tryd.prog 125 #[num a b k] w (RetB (.int .i64 (Q.sgn2 a b)) w) := by
  by_cases h0 : (a == 0 && b == 0) = true
  · simp at h0; obtain ⟨rfl, rfl⟩ := h0; exact lSign_zero k w
  · have h0' : (a == 0 && b == 0) = false := by simpa using h0
    by_cases ha : 0 ≤ a
    · by_cases hb : 0 ≤ b
      · exact lSign_pos a b k w h0' ha hb
      · by_cases hz : a = 0
        · exact lSign_neg a b k w h0' (by omega) (by omega)
        · exact lSign_pn a b k w a2 b1 (by omega) (by omega)
    · by_cases hb : b ≤ 0
      · exact lSign_neg a b k w h0' (by omega) hb
      · exact lSign_np a b k w a1 b2 (by omega) (by omega)

theorem sgn_low (a b : Int) (k : Nat) : Q.sgn2 (lowA a b k) (lowB a b k) = Q.sgn2 a b := by
  obtain ⟨h1, h2⟩ := twos_dvd k a b
  rw [← Q.sgn2_scale (two_pow_pos (twos k a b)) (lowA a b k) (lowB a b k)]
  congr 1
  · unfold lowA; rw [Int.mul_comm]; exact h1.symm
  · unfold lowB; rw [Int.mul_comm]; exact h2.symm

theorem div_small {q c x : Int} (p : 0 < q) (h : x = q * c) (x1 : -268435456 ≤ x) (x2 : x ≤ 268435456) : -1073741824 ≤ c ∧ c ≤ 1073741824 := by
  constructor
  · apply Int.le_of_not_gt; intro hc
    have : q * c ≤ 1 * c := Int.mul_le_mul_of_nonpos_right (by omega) (by omega)
    omega
  · apply Int.le_of_not_gt; intro hc
    have : 1 * c ≤ q * c := Int.mul_le_mul_of_nonneg_right (by omega) (by omega)
    omega
theorem low_small {a b : Int} (k : Nat) (a1 : -268435456 ≤ a) (a2 : a ≤ 268435456) (b1 : -268435456 ≤ b) (b2 : b ≤ 268435456) : -1073741824 ≤ lowA a b k ∧ lowA a b k ≤ 1073741824 ∧ -1073741824 ≤ lowB a b k ∧ lowB a b k ≤ 1073741824 := by
  obtain ⟨h1, h2⟩ := twos_dvd k a b
  have p := two_pow_pos (twos k a b)
  obtain ⟨x, y⟩ := div_small p h1 a1 a2
  obtain ⟨z, t⟩ := div_small p h2 b1 b2
  exact ⟨x, y, z, t⟩
end Go.Proofs.YtafbdnjabgfjeaaDoor
