/- Contracts: trailing zeros, lowest terms, validity, limits. -/
import Derived.Test.YtafbdnjabgfjeaaDoorWa
import Derived.Laws.Bits64b
import Derived.Deep.RegionHeld3
namespace Go.Proofs.YtafbdnjabgfjeaaDoor
open Go Go.RowKit OriM

/-- The library's table lies in its variable. -/
def TzTab (w : World) : Prop := 1 < w.heap.size ∧ ∀ j, j < 64 → w.cell? ⟨1, j, none⟩ = some (.int .u8 (Lib.deBruijn64tab.getD j 0))
theorem TzTab.below {B : Nat} {w w' : World} (h : TzTab w) (hb : Below B w w') (hB : w.heap.size ≤ B) : TzTab w' :=
  ⟨by have := hb.size; have := h.1; omega, fun j hj => by rw [hb.cell (p := ⟨1, j, none⟩) (Nat.lt_of_lt_of_le h.1 hB)]; exact h.2 j hj⟩
theorem TzTab.alloc {w : World} (h : TzTab w) (o : Obj) : TzTab (w.alloc o) := h.below ((Below.refl _ _).alloc (Nat.le_refl _) o) (Nat.le_refl _)
theorem TzTab.drew {w : World} (h : TzTab w) : TzTab w.drew := h.below ((Below.refl w.heap.size _).drew) (Nat.le_refl _)

theorem tz_key (x a : Nat) (hx : x < 18446744073709551616) (hx0 : x ≠ 0) (hlow : x &&& (18446744073709551616 - x) = a) :
    IntKind.u64.wrap (bits BinOp.and IntKind.u64 (x : Int) (IntKind.u64.wrap (-(x : Int))) * 285870213051353865) / 288230376151711744 = ((a * 285870213051353865 % 18446744073709551616 / 288230376151711744 : Nat) : Int) := by
  have e1 : IntKind.u64.wrap (-(x : Int)) = ((18446744073709551616 - x : Nat) : Int) := by rw [IntKind.wrap_u64]; omega
  rw [e1, bits_and_u64_nat x _ hx (by omega), hlow, IntKind.wrap_u64]
  omega

theorem tz_core (x k idx : Nat) (w : World) (hx0 : ((x : Int) == 0) = false)
    (key : IntKind.u64.wrap (bits BinOp.and IntKind.u64 (x : Int) (IntKind.u64.wrap (-(x : Int))) * 285870213051353865) / 288230376151711744 = (idx : Int))
    (hi : idx < 64) (hk : k < 64) (hcell : w.cell? ⟨1, idx, none⟩ = some (.int .u8 k)) :
    Calls Tryd.prog 174 #[.int .u64 x] w (Ret (.int .i64 k) w) := by
  go_enter Tryd.func174, Tryd.ntmps174
  go_wp2_with (simp only [key])
  go_ret
  exact ⟨rfl, rfl⟩

theorem tz_zero (w : World) : Calls Tryd.prog 174 #[.int .u64 0] w (Ret (.int .i64 64) w) := by
  go_enter Tryd.func174, Tryd.ntmps174
  go_wp2
  go_ret
  exact ⟨rfl, rfl⟩

theorem tz_any (x : Nat) (hx : x < 18446744073709551616) (w : World) (hT : TzTab w) :
    Calls Tryd.prog 174 #[.int .u64 x] w (Ret (.int .i64 (Lib.ctz 64 x : Nat)) w) := by
  by_cases hx0 : x = 0
  · subst hx0
    exact tz_zero w
  · obtain ⟨hlow, hk⟩ := Lib.lowest_bit 64 x hx0 hx
    obtain ⟨hi, htab⟩ := Lib.deBruijn64_at _ hk
    have hcell := hT.2 _ hi
    rw [htab] at hcell
    exact tz_core x _ _ w (by simp; omega) (tz_key x _ hx hx0 hlow) hi hk hcell

theorem wrap_back (n : Nat) (h : n < 18446744073709551616) : IntKind.u64.wrap (IntKind.i64.wrap (n : Int)) = (n : Int) := by
  simp only [IntKind.wrap_u64]
  simp [IntKind.wrap, IntKind.signed, IntKind.bits]
  omega

theorem bitsOf_lt (a : Int) : bitsOf 64 a < 18446744073709551616 := by unfold bitsOf; omega
theorem or_lt (a b : Int) : bitsOf 64 a ||| bitsOf 64 b < 18446744073709551616 := Nat.or_lt_two_pow (n := 64) (bitsOf_lt a) (bitsOf_lt b)

/-- a | b as 64 bits. -/
theorem or_u64 (a b : Int) : IntKind.u64.wrap (bits BinOp.or IntKind.i64 a b) = ((bitsOf 64 a ||| bitsOf 64 b : Nat) : Int) := by
  show IntKind.u64.wrap (IntKind.i64.wrap ((BitVec.ofInt 64 a ||| BitVec.ofInt 64 b).toNat : Int)) = _
  rw [BitVec.toNat_or, BitVec.toNat_ofInt, BitVec.toNat_ofInt]
  exact wrap_back _ (or_lt a b)

theorem tz_min (a b k : Int) (k0 : 0 ≤ k) (k1 : k ≤ 62) : ∃ c : Nat, min k.toNat c = twos k.toNat a b ∧ c ≤ 64 ∧ ∀ w, TzTab w →
    Calls Tryd.prog 174 #[.int .u64 (bitsOf 64 a ||| bitsOf 64 b : Nat)] w (Ret (.int .i64 (c : Int)) w) := by
  refine ⟨_, min_ctz k.toNat a b (by omega), ?_, fun w hT => tz_any _ (or_lt a b) w hT⟩
  by_cases h : bitsOf 64 a ||| bitsOf 64 b = 0
  · rw [h]; decide
  · have := (Lib.lowest_bit 64 _ h (or_lt a b)).2; omega

theorem lowest_any (a b k : Int) (w : World) (k0 : 0 ≤ k) (k1 : k ≤ 62) (hT : TzTab w) :
    Calls Tryd.prog 154 #[num a b k] w (RetB (num (lowA a b k.toNat) (lowB a b k.toNat) (lowK a b k.toNat)) w) := by
  have ho := or_u64 a b
  obtain ⟨c, hm, hc, htz⟩ := tz_min a b k k0 k1
  have HTZ := Lib.hid htz
  clear htz
  by_cases h : k ≤ c
  · have e1 := Lib.hid (show twos k.toNat a b = k.toNat by omega)
    clear hm
    go_enter Tryd.func154, Tryd.ntmps154
    go_wp2_with (go_at_call 174; refine (HTZ.out _ ((hT.alloc _).alloc _)).mono ?_; rintro e w' ⟨rfl, rfl⟩)
    go_region
    go_wp2
    have e : num (a / 2 ^ k.toNat) (b / 2 ^ k.toNat) 0 = num (lowA a b k.toNat) (lowB a b k.toNat) (lowK a b k.toNat) := by
      simp only [lowA, lowB, lowK, e1.out]; simp
    exact bodyPost_ret (v := num (a / 2 ^ k.toNat) (b / 2 ^ k.toNat) 0) (by simp [results, Tryd.results154, go_sem]) rfl ⟨congrArg _ e, (((Below.refl _ _).alloc (by simp) _).alloc (by simp) _).drew⟩
  · have e1 := Lib.hid (show twos k.toNat a b = c by omega)
    clear hm
    go_enter Tryd.func154, Tryd.ntmps154
    go_wp2_with (go_at_call 174; refine (HTZ.out _ ((hT.alloc _).alloc _)).mono ?_; rintro e w' ⟨rfl, rfl⟩)
    go_region
    go_wp2
    have e : num (a / 2 ^ c) (b / 2 ^ c) (k - c) = num (lowA a b k.toNat) (lowB a b k.toNat) (lowK a b k.toNat) := by
      simp only [lowA, lowB, lowK, e1.out]; rw [show ((k.toNat - c : Nat) : Int) = k - c by omega]
    exact bodyPost_ret (v := num (a / 2 ^ c) (b / 2 ^ c) (k - c)) (by simp [results, Tryd.results154, go_sem]) rfl ⟨congrArg _ e, (((Below.refl _ _).alloc (by simp) _).alloc (by simp) _).drew⟩

theorem Below.undrew {w w' : World} (h : Below w.drew.heap.size w.drew w') : Below w.heap.size w w' := ⟨h.os, h.tape, h.output, h.size, h.block⟩

/-- What a callee that makes memory leaves: the old cells, the old marks, the size. -/
theorem bcell {W w1 : World} (hb : Below W.heap.size W w1) : (∀ b o, b < W.heap.size → w1.cell? ⟨b, o, none⟩ = W.cell? ⟨b, o, none⟩) ∧ (∀ b o, b < W.heap.size → w1.frozen? ⟨b, o, none⟩ = W.frozen? ⟨b, o, none⟩) :=
  ⟨fun b o h => hb.cell (p := ⟨b, o, none⟩) h, fun b o h => hb.frozen (p := ⟨b, o, none⟩) h⟩

theorem within_k {a b k : Int} (h : withinB a b k = true) : 0 ≤ k ∧ k ≤ 10 := by simp [withinB, inB] at h; omega

theorem eq_run (a b k a' b' k' : Int) (w : World) : (Op.equalIn 10000 25 (.agg #[.int .i64 a, .int .i64 b, .int .i64 k]) (.agg #[.int .i64 a', .int .i64 b', .int .i64 k'])).run Tryd.prog w = .ok (eqB a b k a' b' k') w := by
  have u2 := Tryd.underlying2
  have a2 := Tryd.isAgg2
  have z2 := Tryd.sizeOf2
  have hS : Tryd.prog.underlying 25 = some (.struct (Tryd.prog.fieldsOf 25)) := by kernel_rfl
  have hp : Tryd.prog.stoodInHeld 25 = false := by kernel_rfl
  rw [show (10000 : Nat) = 9999 + 1 from rfl, run_equalIn_agg w 9999 25 _ _ hS hp]
  simp only [Program.fieldsOf, Tryd.underlying25]
  go_simp
  by_cases h1 : a = a' <;> by_cases h2 : b = b' <;> by_cases h3 : k = k' <;> simp [h1, h2, h3, eqB]

theorem oddB_canon {a b k : Int} (k0 : 0 ≤ k) : oddB a b k = true ↔ Canon a b k.toNat := by
  simp only [oddB, Canon, Bool.or_eq_true, beq_iff_eq, Bool.not_eq_true', beq_eq_false_iff_ne]
  omega
theorem valid_eq {a b k : Int} (h : withinB a b k = true) : eqB a b k (lowA a b k.toNat) (lowB a b k.toNat) (lowK a b k.toNat) = validB a b k := by
  have k0 := (within_k h).1
  unfold validB
  rw [h, Bool.true_and, Bool.eq_iff_iff, oddB_canon k0]
  simp only [eqB, Bool.and_eq_true, beq_iff_eq]
  constructor
  · rintro ⟨h1, h2, h3⟩
    have := low_canon k.toNat a b
    rw [← h1, ← h2, show lowK a b k.toNat = k.toNat by omega] at this
    exact this
  · intro c
    obtain ⟨h1, h2, h3⟩ := low_of_canon c
    exact ⟨h1.symm, h2.symm, by omega⟩

theorem valid_any (a b k : Int) (w : World) (a1 : -9223372036854775808 ≤ a) (a2 : a ≤ 9223372036854775807) (b1 : -9223372036854775808 ≤ b) (b2 : b ≤ 9223372036854775807) (hT : TzTab w) :
    Calls Tryd.prog 113 #[num a b k] w (RetB (.bool (validB a b k)) w) := by
  by_cases h : withinB a b k = true
  · have HW : ∀ w, Calls Tryd.prog 155 #[num a b k] w (RetB (.bool true) w) := fun w => by rw [← h]; exact within_any a b k w a1 a2 b1 b2
    have H := Lib.hid HW
    have e1 := Lib.hid (valid_eq h)
    have k0 : 0 ≤ k := (within_k h).1
    have k1 : k ≤ 62 := by have := (within_k h).2; omega
    clear HW h a1 a2 b1 b2
    have heq := eq_run
    go_enter Tryd.func113, Tryd.ntmps113
    go_wp2_with fail
    go_region_held3 (fun w' => w'.cell? ⟨w.heap.size, 0, none⟩ = some (.int .i64 a) ∧ w'.cell? ⟨w.heap.size, 1, none⟩ = some (.int .i64 b) ∧ w'.cell? ⟨w.heap.size, 2, none⟩ = some (.int .i64 k)) ((simp [*]))
      ((first
      | (go_at_call 155; refine (H.out _).mono ?_; rintro e w1 ⟨rfl, hb1⟩; obtain ⟨hc1, hf1⟩ := bcell hb1; have hT1 := TzTab.below ((hT.alloc _).drew) hb1 (Nat.le_refl _); have hz1 : w.heap.size < w1.heap.size := by (have h9 := hb1.size; simp at h9; omega))
      | (go_at_call 154; refine (lowest_any a b k _ k0 k1 hT1).mono ?_; rintro e w2 ⟨rfl, hb2⟩; obtain ⟨hc2, hf2⟩ := bcell hb2)))
    go_wp2
    go_ret
    exact ⟨by rw [← e1.out]; rfl, (((Below.refl _ _).alloc (by simp) _).drew.trans (hb1.mono (by simp))).trans (hb2.mono (by omega))⟩
  · have HW : ∀ w, Calls Tryd.prog 155 #[num a b k] w (RetB (.bool false) w) := fun w => by rw [show false = withinB a b k by simpa using h]; exact within_any a b k w a1 a2 b1 b2
    have H := Lib.hid HW
    have e1 := Lib.hid (show false = validB a b k by simp [validB, h])
    clear HW h a1 a2 b1 b2
    go_enter Tryd.func113, Tryd.ntmps113
    go_wp2_with fail
    go_region_with (first
      | (go_at_call 155; refine (H.out _).mono ?_; rintro e w1 ⟨rfl, hb1⟩; obtain ⟨hc1, hf1⟩ := bcell hb1))
    all_goals (go_wp2; go_ret; exact ⟨congrArg (fun b => Ending.returned (Value.bool b)) e1.out, by (repeat (first | with_reducible exact Below.refl _ _ | with_reducible refine Below.drew ?_ | with_reducible refine Below.alloc ?_ (by first | omega | (simp; done) | (simp; omega)) _ | with_reducible refine Below.setCell ?_ (by first | omega | (simp; done) | (simp; omega)) _ | with_reducible refine Below.trans ?_ (Below.mono (by assumption) (by first | omega | (simp; done) | (simp; omega)))))⟩)

/-- What limited gives: lowest terms, if they are within the limits. -/
def limA (a b k : Int) : Int := if withinB (lowA a b k.toNat) (lowB a b k.toNat) (lowK a b k.toNat) then lowA a b k.toNat else 0
def limB (a b k : Int) : Int := if withinB (lowA a b k.toNat) (lowB a b k.toNat) (lowK a b k.toNat) then lowB a b k.toNat else 0
def limK (a b k : Int) : Int := if withinB (lowA a b k.toNat) (lowB a b k.toNat) (lowK a b k.toNat) then lowK a b k.toNat else 0
def limO (a b k : Int) : Bool := withinB (lowA a b k.toNat) (lowB a b k.toNat) (lowK a b k.toNat)
/-- A number and a bool, as a value. -/
abbrev numOk (a b k : Int) (o : Bool) : Value := .tuple #[num a b k, .bool o]

theorem div_bound {a : Int} (n : Nat) (a1 : -9223372036854775808 ≤ a) (a2 : a ≤ 9223372036854775807) : -9223372036854775808 ≤ a / 2 ^ n ∧ a / 2 ^ n ≤ 9223372036854775807 := by
  have p := two_pow_pos n
  constructor
  · apply Int.le_ediv_of_mul_le p
    have : (-9223372036854775808 : Int) * 2 ^ n ≤ -9223372036854775808 * 1 := Int.mul_le_mul_of_nonpos_left (by omega) (by omega)
    omega
  · by_cases h : 0 ≤ a
    · exact Int.le_trans (Int.ediv_le_self _ h) a2
    · have := Int.ediv_neg_of_neg_of_pos (show a < 0 by omega) p; omega

theorem limited_any (a b k : Int) (w : World) (a1 : -9223372036854775808 ≤ a) (a2 : a ≤ 9223372036854775807) (b1 : -9223372036854775808 ≤ b) (b2 : b ≤ 9223372036854775807) (k0 : 0 ≤ k) (k1 : k ≤ 62) (hT : TzTab w) :
    Calls Tryd.prog 104 #[num a b k] w (RetB (numOk (limA a b k) (limB a b k) (limK a b k) (limO a b k)) w) := by
  obtain ⟨a3, a4⟩ := div_bound (twos k.toNat a b) a1 a2
  obtain ⟨b3, b4⟩ := div_bound (twos k.toNat a b) b1 b2
  have HW := Lib.hid (fun w => within_any (lowA a b k.toNat) (lowB a b k.toNat) (lowK a b k.toNat) w a3 a4 b3 b4)
  clear a1 a2 b1 b2 a3 a4 b3 b4
  by_cases h : withinB (lowA a b k.toNat) (lowB a b k.toNat) (lowK a b k.toNat) = true
  · have e : numOk (lowA a b k.toNat) (lowB a b k.toNat) (lowK a b k.toNat) true = numOk (limA a b k) (limB a b k) (limK a b k) (limO a b k) := by simp [limA, limB, limK, limO, h]
    have E := Lib.hid e
    clear e
    go_enter Tryd.func104, Tryd.ntmps104
    go_wp2_with (first
      | (go_at_call 154; refine (lowest_any a b k _ k0 k1 ?_).mono ?_; (repeat (first | with_reducible assumption | with_reducible apply TzTab.drew | with_reducible apply TzTab.alloc)); rintro e w1 ⟨rfl, hb1⟩; obtain ⟨hc1, hf1⟩ := bcell hb1; have hz1 := hb1.size; simp at hz1; have hz1a : w.heap.size ≤ w1.heap.size := (by omega); have hz1b : w.heap.size < w1.heap.size := (by omega); have hz1c : w.heap.size + 1 < w1.heap.size := (by omega))
      | (go_at_call 155; refine (HW.out _).mono ?_; rintro e w2 ⟨rfl, hb2⟩; obtain ⟨hc2, hf2⟩ := bcell hb2; have hz2 := hb2.size; simp at hz2))
    exact bodyPost_ret (v := numOk (lowA a b k.toNat) (lowB a b k.toNat) (lowK a b k.toNat) true) (by simp [results, Tryd.results104, go_sem, *]) rfl ⟨congrArg _ E.out, by (repeat (first | with_reducible exact Below.refl _ _ | with_reducible refine Below.drew ?_ | with_reducible refine Below.alloc ?_ (by first | omega | (simp; done) | (simp; omega)) _ | with_reducible refine Below.setCell ?_ (by first | omega | (simp; done) | (simp; omega)) _ | with_reducible refine Below.trans ?_ (Below.mono (by assumption) (by first | omega | (simp; done) | (simp; omega)))))⟩
  · have e : numOk 0 0 0 false = numOk (limA a b k) (limB a b k) (limK a b k) (limO a b k) := by simp [limA, limB, limK, limO, h]
    have E := Lib.hid e
    clear e
    go_enter Tryd.func104, Tryd.ntmps104
    go_wp2_with (first
      | (go_at_call 154; refine (lowest_any a b k _ k0 k1 ?_).mono ?_; (repeat (first | with_reducible assumption | with_reducible apply TzTab.drew | with_reducible apply TzTab.alloc)); rintro e w1 ⟨rfl, hb1⟩; obtain ⟨hc1, hf1⟩ := bcell hb1; have hz1 := hb1.size; simp at hz1; have hz1a : w.heap.size ≤ w1.heap.size := (by omega); have hz1b : w.heap.size < w1.heap.size := (by omega); have hz1c : w.heap.size + 1 < w1.heap.size := (by omega))
      | (go_at_call 155; refine (HW.out _).mono ?_; rintro e w2 ⟨rfl, hb2⟩; obtain ⟨hc2, hf2⟩ := bcell hb2; have hz2 := hb2.size; simp at hz2))
    exact bodyPost_ret (v := numOk 0 0 0 false) (by simp [results, Tryd.results104, go_sem, *]) rfl ⟨congrArg _ E.out, by (repeat (first | with_reducible exact Below.refl _ _ | with_reducible refine Below.drew ?_ | with_reducible refine Below.alloc ?_ (by first | omega | (simp; done) | (simp; omega)) _ | with_reducible refine Below.setCell ?_ (by first | omega | (simp; done) | (simp; omega)) _ | with_reducible refine Below.trans ?_ (Below.mono (by assumption) (by first | omega | (simp; done) | (simp; omega)))))⟩
end Go.Proofs.YtafbdnjabgfjeaaDoor
