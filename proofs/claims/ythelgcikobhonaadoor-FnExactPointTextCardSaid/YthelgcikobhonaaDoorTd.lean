/- The model's numerals, whatever the number; the program's parts of a text. -/
import Derived.Test.YthelgcikobhonaaDoorTc
namespace Go.Proofs.YthelgcikobhonaaDoor
open Go Go.RowKit OriM

set_option maxHeartbeats 2000000 in
theorem dec_low (n q r : Int) (h0 : n ≤ -10) (h1 : -2147483647 ≤ n) (hq : n.tdiv 10 = q) (hr : n.tmod 10 = r) (q0 : -2147483647 ≤ q) (q1 : q < 0) (r0 : -9 ≤ r) (r1 : r ≤ 0) (w : World)
    (HD : Hid (∀ w, Calls Tryd.prog 27 #[.int .i64 q] w (RetB (tv (Lib.itoa q)) w))) : Calls Tryd.prog 27 #[.int .i64 n] w (RetB (tv (Lib.itoa n)) w) := by
  have HE := Lib.hid (show Lib.itoa n = Lib.itoa q ++ Lib.itoa (-r) by rw [itoa_low h0, hq, hr])
  have HF := Lib.hid fun w => dec_dig (-r) (by omega) (by omega) w
  have hl : ¬ 9223372036854775807 < (Lib.itoa q).length + (Lib.itoa (-r)).length := by have := itoa_len (n := q) (by omega) (by omega); have := itoa_len (n := -r) (by omega) (by omega); omega
  have e1 : IntKind.i64.wrap q = q := IntWalk.i64_in _ ⟨by omega, by omega⟩
  have e2 : IntKind.i64.wrap r = r := IntWalk.i64_in _ ⟨by omega, by omega⟩
  have e3 : IntKind.i64.wrap (-r) = -r := IntWalk.i64_in _ ⟨by omega, by omega⟩
  go_enter Tryd.func27, Tryd.ntmps27
  go_wp2_with fail
  refine (HD.out _).mono ?_
  rintro e w1 ⟨rfl, b1⟩
  have hz1 := b1.size
  go_wp2_with fail
  refine (HF.out _).mono ?_
  rintro e w2 ⟨rfl, b2⟩
  go_wp2_with fail
  go_ret
  refine ⟨?_, by (repeat (first | with_reducible exact Below.refl _ _ | with_reducible assumption | with_reducible refine below_drewN ?_ _ | with_reducible refine Below.drew ?_ | with_reducible refine Below.alloc ?_ (by first | omega | (simp; done) | (simp; omega)) _ | with_reducible refine Below.setCell ?_ (by first | omega | (simp; done) | (simp; omega)) _ | with_reducible refine Below.trans ?_ (Below.mono (by assumption) (by first | omega | (simp; done) | (simp; omega)))))⟩
  show Ending.returned (.string ((⟨(Lib.itoa q).toArray⟩ : ByteArray) ++ ⟨(Lib.itoa (-r)).toArray⟩)) = _
  (rw [ba_append, HE.out]) <;> rfl
theorem dec_all : ∀ (k : Nat) (n : Int), n.natAbs < k → -2147483647 ≤ n → n ≤ 2147483647 → ∀ w, Calls Tryd.prog 27 #[.int .i64 n] w (RetB (tv (Lib.itoa n)) w)
  | 0, _, h, _, _, _ => absurd h (by omega)
  | k + 1, n, h, h0, h1, w => by
    by_cases c0 : 10 ≤ n
    · exact dec_big' n c0 h1 w (Lib.hid fun w => dec_all k (n / 10) (by omega) (by omega) (by omega) w)
    · by_cases c1 : 0 ≤ n
      · exact dec_dig n c1 (by omega) w
      · by_cases c2 : -10 < n
        · exact dec_neg n c2 (by omega) w
        · have e1 : n.tdiv 10 = -((-n) / 10) := by
            rw [show n = -(-n) by omega, Int.neg_tdiv, Int.tdiv_eq_ediv_of_nonneg (by omega)]; omega
          have e2 : n.tmod 10 = -((-n) % 10) := by
            rw [show n = -(-n) by omega, Int.neg_tmod, Int.tmod_eq_emod_of_nonneg (by omega)]; omega
          exact dec_low n _ _ (by omega) h0 e1 e2 (by omega) (by omega) (by omega) (by omega) w (Lib.hid fun w => dec_all k _ (by omega) (by omega) (by omega) w)
theorem dec_any (n : Int) (h0 : -2147483647 ≤ n) (h1 : n ≤ 2147483647) (w : World) : Calls Tryd.prog 27 #[.int .i64 n] w (RetB (tv (Lib.itoa n)) w) := dec_all (n.natAbs + 1) n (by omega) h0 h1 w

/-! ### The program's parts -/
abbrev Fmt (a : Int) (A : List UInt8) (w : World) : Prop := Calls Tryd.prog 29 #[.int .i64 a, .int .i64 10] w (RetB (tv A) w)
/-- The parts of a text: a + b r. -/
def partsT (a b : Int) (A B : List UInt8) : List UInt8 := if b = 0 then A else if a = 0 then B ++ [114] else if b > 0 then A ++ [43] ++ (B ++ [114]) else A ++ (B ++ [114])
set_option maxHeartbeats 2000000 in
theorem iParts_core (a b : Int) (A B : List UInt8) (hA : A.length ≤ 11) (hB : B.length ≤ 11) (w : World) (hT : TT w) (H1 : Hid (∀ w, TT w → Fmt a A w)) (H2 : Hid (∀ w, TT w → Fmt b B w)) :
    Calls Tryd.prog 37 #[.int .i64 a, .int .i64 b] w (RetB (tv (partsT a b A B)) w) := by
  have l1 : ¬ 9223372036854775807 < B.length + 1 := by omega
  have l2 : ¬ 9223372036854775807 < A.length + 1 := by omega
  have l3 : ¬ 9223372036854775807 < A.length + 1 + (B.length + 1) := by omega
  have l4 : ¬ 9223372036854775807 < A.length + (B.length + 1) := by omega
  have HT := Lib.hid hT
  clear hT hA hB
  unfold Fmt at H1 H2
  by_cases hb : b = 0
  · have HE := Lib.hid (show partsT a b A B = A by unfold partsT; rw [if_pos hb])
    subst hb
    go_enter Tryd.func37, Tryd.ntmps37
    go_wp2_with fail
    refine (H1.out _ HT.out).mono ?_
    rintro e w1 ⟨rfl, b1⟩
    have hz1 := b1.size
    go_wp2_with fail
    refine (H2.out _ (TT.below HT.out b1 (Nat.le_refl _))).mono ?_
    rintro e w2 ⟨rfl, b2⟩
    go_wp2_with fail
    go_ret
    exact ⟨by rw [HE.out]; rfl, by (repeat (first | with_reducible exact Below.refl _ _ | with_reducible assumption | with_reducible refine below_drewN ?_ _ | with_reducible refine Below.drew ?_ | with_reducible refine Below.alloc ?_ (by first | omega | (simp; done) | (simp; omega)) _ | with_reducible refine Below.setCell ?_ (by first | omega | (simp; done) | (simp; omega)) _ | with_reducible refine Below.trans ?_ (Below.mono (by assumption) (by first | omega | (simp; done) | (simp; omega)))))⟩
  · by_cases ha : a = 0
    · have HE := Lib.hid (show partsT a b A B = B ++ [114] by unfold partsT; rw [if_neg hb, if_pos ha])
      have hb' : (b == 0) = false := by rw [beq_eq_false_iff_ne]; exact hb
      subst ha
      clear hb
      go_enter Tryd.func37, Tryd.ntmps37
      go_wp2_with fail
      refine (H1.out _ HT.out).mono ?_
      rintro e w1 ⟨rfl, b1⟩
      have hz1 := b1.size
      go_wp2_with fail
      refine (H2.out _ (TT.below HT.out b1 (Nat.le_refl _))).mono ?_
      rintro e w2 ⟨rfl, b2⟩
      go_wp2_with fail
      go_ret
      refine ⟨?_, by (repeat (first | with_reducible exact Below.refl _ _ | with_reducible assumption | with_reducible refine below_drewN ?_ _ | with_reducible refine Below.drew ?_ | with_reducible refine Below.alloc ?_ (by first | omega | (simp; done) | (simp; omega)) _ | with_reducible refine Below.setCell ?_ (by first | omega | (simp; done) | (simp; omega)) _ | with_reducible refine Below.trans ?_ (Below.mono (by assumption) (by first | omega | (simp; done) | (simp; omega)))))⟩
      show Ending.returned (.string ((⟨B.toArray⟩ : ByteArray) ++ ⟨[114].toArray⟩)) = _
      (rw [ba_append, HE.out]) <;> rfl
    · have hb' : (b == 0) = false := by rw [beq_eq_false_iff_ne]; exact hb
      have ha' : (a == 0) = false := by rw [beq_eq_false_iff_ne]; exact ha
      by_cases hp : b > 0
      · have HE := Lib.hid (show partsT a b A B = A ++ [43] ++ (B ++ [114]) by unfold partsT; rw [if_neg hb, if_neg ha, if_pos hp])
        have hp' : 0 < b := hp
        go_enter Tryd.func37, Tryd.ntmps37
        go_wp2_with fail
        refine (H1.out _ HT.out).mono ?_
        rintro e w1 ⟨rfl, b1⟩
        have hz1 := b1.size
        go_wp2_with fail
        refine (H2.out _ (TT.below HT.out b1 (Nat.le_refl _))).mono ?_
        rintro e w2 ⟨rfl, b2⟩
        go_wp2_with fail
        go_ret
        refine ⟨?_, by (repeat (first | with_reducible exact Below.refl _ _ | with_reducible assumption | with_reducible refine below_drewN ?_ _ | with_reducible refine Below.drew ?_ | with_reducible refine Below.alloc ?_ (by first | omega | (simp; done) | (simp; omega)) _ | with_reducible refine Below.setCell ?_ (by first | omega | (simp; done) | (simp; omega)) _ | with_reducible refine Below.trans ?_ (Below.mono (by assumption) (by first | omega | (simp; done) | (simp; omega)))))⟩
        show Ending.returned (.string (((⟨A.toArray⟩ : ByteArray) ++ ⟨[43].toArray⟩) ++ ((⟨B.toArray⟩ : ByteArray) ++ ⟨[114].toArray⟩))) = _
        (rw [ba_append, ba_append, ba_append, HE.out]) <;> rfl
      · have HE := Lib.hid (show partsT a b A B = A ++ (B ++ [114]) by unfold partsT; rw [if_neg hb, if_neg ha, if_neg hp])
        have hp' : ¬ 0 < b := hp
        go_enter Tryd.func37, Tryd.ntmps37
        go_wp2_with fail
        refine (H1.out _ HT.out).mono ?_
        rintro e w1 ⟨rfl, b1⟩
        have hz1 := b1.size
        go_wp2_with fail
        refine (H2.out _ (TT.below HT.out b1 (Nat.le_refl _))).mono ?_
        rintro e w2 ⟨rfl, b2⟩
        go_wp2_with fail
        go_ret
        refine ⟨?_, by (repeat (first | with_reducible exact Below.refl _ _ | with_reducible assumption | with_reducible refine below_drewN ?_ _ | with_reducible refine Below.drew ?_ | with_reducible refine Below.alloc ?_ (by first | omega | (simp; done) | (simp; omega)) _ | with_reducible refine Below.setCell ?_ (by first | omega | (simp; done) | (simp; omega)) _ | with_reducible refine Below.trans ?_ (Below.mono (by assumption) (by first | omega | (simp; done) | (simp; omega)))))⟩
        show Ending.returned (.string ((⟨A.toArray⟩ : ByteArray) ++ ((⟨B.toArray⟩ : ByteArray) ++ ⟨[114].toArray⟩))) = _
        (rw [ba_append, ba_append, HE.out]) <;> rfl

/-- The text of a number. -/
def putIn (x y : Bool) (P : List UInt8) : List UInt8 := if x && y then [40] ++ P ++ [41] else P
def textT (a b k : Int) (A B D : List UInt8) : List UInt8 := if k = 0 then partsT a b A B else putIn (a != 0) (b != 0) (partsT a b A B) ++ [47] ++ D
theorem parts_len {a b : Int} {A B : List UInt8} (hA : A.length ≤ 11) (hB : B.length ≤ 11) : (partsT a b A B).length ≤ 24 := by
  unfold partsT
  split
  · omega
  · split
    · simp; omega
    · split <;> simp <;> omega
theorem pow_bd {k : Int} (k1 : 1 ≤ k) (k2 : k ≤ 10) : (2 : Int) ≤ 2 ^ k.toNat ∧ (2 : Int) ^ k.toNat ≤ 1024 := by
  rcases (show k = 1 ∨ k = 2 ∨ k = 3 ∨ k = 4 ∨ k = 5 ∨ k = 6 ∨ k = 7 ∨ k = 8 ∨ k = 9 ∨ k = 10 by omega) with rfl | rfl | rfl | rfl | rfl | rfl | rfl | rfl | rfl | rfl <;> decide
theorem text_len {a b k : Int} {A B D : List UInt8} (hA : A.length ≤ 11) (hB : B.length ≤ 11) (hD : D.length ≤ 11) : (textT a b k A B D).length ≤ 40 := by
  have := parts_len (a := a) (b := b) hA hB
  unfold textT putIn
  split
  · omega
  · split <;> simp <;> omega
set_option maxHeartbeats 2000000 in
theorem iText_zero (a b : Int) (P : List UInt8) (w : World) (hT : TT w) (H1 : Hid (∀ w, TT w → Calls Tryd.prog 37 #[.int .i64 a, .int .i64 b] w (RetB (tv P) w))) :
    Calls Tryd.prog 22 #[num a b 0] w (RetB (tv P) w) := by
  have HT := Lib.hid hT
  clear hT
  go_enter Tryd.func22, Tryd.ntmps22
  go_wp2_with fail
  refine (H1.out _ (TT.below HT.out (B := w.heap.size) (by (repeat (first | with_reducible exact Below.refl _ _ | with_reducible assumption | with_reducible refine below_drewN ?_ _ | with_reducible refine Below.drew ?_ | with_reducible refine Below.alloc ?_ (by first | omega | (simp; done) | (simp; omega)) _ | with_reducible refine Below.setCell ?_ (by first | omega | (simp; done) | (simp; omega)) _ | with_reducible refine Below.trans ?_ (Below.mono (by assumption) (by first | omega | (simp; done) | (simp; omega)))))) (Nat.le_refl _))).mono ?_
  rintro e w1 ⟨rfl, b1⟩
  obtain ⟨hc1, hf1⟩ := bcell b1
  have hz1 := b1.size
  simp at hz1
  have z1 : w.heap.size < w1.heap.size := by omega
  go_wp2_with fail
  go_ret
  exact ⟨rfl, by (repeat (first | with_reducible exact Below.refl _ _ | with_reducible assumption | with_reducible refine below_drewN ?_ _ | with_reducible refine Below.drew ?_ | with_reducible refine Below.alloc ?_ (by first | omega | (simp; done) | (simp; omega)) _ | with_reducible refine Below.setCell ?_ (by first | omega | (simp; done) | (simp; omega)) _ | with_reducible refine Below.trans ?_ (Below.mono (by assumption) (by first | omega | (simp; done) | (simp; omega)))))⟩
set_option maxHeartbeats 4000000 in
theorem iText_more (a b k : Int) (x y : Bool) (P D : List UInt8) (w : World) (hT : TT w) (k1 : 1 ≤ k) (k2 : k ≤ 10) (hP : P.length ≤ 24) (hD : D.length ≤ 11) (hx : (a != 0) = x) (hy : (b != 0) = y)
    (H1 : Hid (∀ w, TT w → Calls Tryd.prog 37 #[.int .i64 a, .int .i64 b] w (RetB (tv P) w))) (H2 : Hid (∀ w, TT w → Fmt (2 ^ k.toNat) D w)) :
    Calls Tryd.prog 22 #[num a b k] w (RetB (tv (putIn x y P ++ [47] ++ D)) w) := by
  have HT := Lib.hid hT
  clear hT
  unfold Fmt at H2
  have l1 : ¬ 9223372036854775807 < 1 + P.length := by omega
  have l2 : ¬ 9223372036854775807 < 1 + P.length + 1 := by omega
  have l3 : ¬ 9223372036854775807 < 1 + P.length + 1 + 1 := by omega
  have l4 : ¬ 9223372036854775807 < P.length + 1 := by omega
  have l5 : ¬ 9223372036854775807 < P.length + 1 + D.length := by omega
  have l6 : ¬ 9223372036854775807 < 1 + P.length + 1 + 1 + D.length := by omega
  have hw : wrap64 (2 ^ k.toNat) = 2 ^ k.toNat := by
    rcases (show k = 1 ∨ k = 2 ∨ k = 3 ∨ k = 4 ∨ k = 5 ∨ k = 6 ∨ k = 7 ∨ k = 8 ∨ k = 9 ∨ k = 10 by omega) with rfl | rfl | rfl | rfl | rfl | rfl | rfl | rfl | rfl | rfl <;> exact IntWalk.wrap64_in _ ⟨by decide, by decide⟩
  clear hP hD
  cases x <;> cases y
  · go_enter Tryd.func22, Tryd.ntmps22
    go_wp2_with fail
    refine (H1.out _ ?_).mono ?_
    · exact TT.below HT.out (B := w.heap.size) (by (repeat (first | with_reducible exact Below.refl _ _ | with_reducible assumption | with_reducible refine below_drewN ?_ _ | with_reducible refine Below.drew ?_ | with_reducible refine Below.alloc ?_ (by first | omega | (simp; done) | (simp; omega)) _ | with_reducible refine Below.setCell ?_ (by first | omega | (simp; done) | (simp; omega)) _ | with_reducible refine Below.trans ?_ (Below.mono (by assumption) (by first | omega | (simp; done) | (simp; omega)))))) (Nat.le_refl _)
    rintro e w1 ⟨rfl, b1⟩
    obtain ⟨hc1, hf1⟩ := bcell b1
    have hz1 := b1.size
    simp at hz1
    have z1 : w.heap.size < w1.heap.size := by omega
    go_wp2_with fail
    refine (H2.out _ ?_).mono ?_
    · exact TT.below HT.out (B := w.heap.size) (by (repeat (first | with_reducible exact Below.refl _ _ | with_reducible assumption | with_reducible refine below_drewN ?_ _ | with_reducible refine Below.drew ?_ | with_reducible refine Below.alloc ?_ (by first | omega | (simp; done) | (simp; omega)) _ | with_reducible refine Below.setCell ?_ (by first | omega | (simp; done) | (simp; omega)) _ | with_reducible refine Below.trans ?_ (Below.mono (by assumption) (by first | omega | (simp; done) | (simp; omega)))))) (Nat.le_refl _)
    rintro e w2 ⟨rfl, b2⟩
    go_wp2_with fail
    go_ret
    refine ⟨?_, by (repeat (first | with_reducible exact Below.refl _ _ | with_reducible assumption | with_reducible refine below_drewN ?_ _ | with_reducible refine Below.drew ?_ | with_reducible refine Below.alloc ?_ (by first | omega | (simp; done) | (simp; omega)) _ | with_reducible refine Below.setCell ?_ (by first | omega | (simp; done) | (simp; omega)) _ | with_reducible refine Below.trans ?_ (Below.mono (by assumption) (by first | omega | (simp; done) | (simp; omega)))))⟩
    show Ending.returned (.string (((⟨P.toArray⟩ : ByteArray) ++ ⟨[47].toArray⟩) ++ ⟨D.toArray⟩)) = _
    (rw [ba_append, ba_append]) <;> rfl
  · go_enter Tryd.func22, Tryd.ntmps22
    go_wp2_with fail
    refine (H1.out _ ?_).mono ?_
    · exact TT.below HT.out (B := w.heap.size) (by (repeat (first | with_reducible exact Below.refl _ _ | with_reducible assumption | with_reducible refine below_drewN ?_ _ | with_reducible refine Below.drew ?_ | with_reducible refine Below.alloc ?_ (by first | omega | (simp; done) | (simp; omega)) _ | with_reducible refine Below.setCell ?_ (by first | omega | (simp; done) | (simp; omega)) _ | with_reducible refine Below.trans ?_ (Below.mono (by assumption) (by first | omega | (simp; done) | (simp; omega)))))) (Nat.le_refl _)
    rintro e w1 ⟨rfl, b1⟩
    obtain ⟨hc1, hf1⟩ := bcell b1
    have hz1 := b1.size
    simp at hz1
    have z1 : w.heap.size < w1.heap.size := by omega
    go_wp2_with fail
    refine (H2.out _ ?_).mono ?_
    · exact TT.below HT.out (B := w.heap.size) (by (repeat (first | with_reducible exact Below.refl _ _ | with_reducible assumption | with_reducible refine below_drewN ?_ _ | with_reducible refine Below.drew ?_ | with_reducible refine Below.alloc ?_ (by first | omega | (simp; done) | (simp; omega)) _ | with_reducible refine Below.setCell ?_ (by first | omega | (simp; done) | (simp; omega)) _ | with_reducible refine Below.trans ?_ (Below.mono (by assumption) (by first | omega | (simp; done) | (simp; omega)))))) (Nat.le_refl _)
    rintro e w2 ⟨rfl, b2⟩
    go_wp2_with fail
    go_ret
    refine ⟨?_, by (repeat (first | with_reducible exact Below.refl _ _ | with_reducible assumption | with_reducible refine below_drewN ?_ _ | with_reducible refine Below.drew ?_ | with_reducible refine Below.alloc ?_ (by first | omega | (simp; done) | (simp; omega)) _ | with_reducible refine Below.setCell ?_ (by first | omega | (simp; done) | (simp; omega)) _ | with_reducible refine Below.trans ?_ (Below.mono (by assumption) (by first | omega | (simp; done) | (simp; omega)))))⟩
    show Ending.returned (.string (((⟨P.toArray⟩ : ByteArray) ++ ⟨[47].toArray⟩) ++ ⟨D.toArray⟩)) = _
    (rw [ba_append, ba_append]) <;> rfl
  · go_enter Tryd.func22, Tryd.ntmps22
    go_wp2_with fail
    refine (H1.out _ ?_).mono ?_
    · exact TT.below HT.out (B := w.heap.size) (by (repeat (first | with_reducible exact Below.refl _ _ | with_reducible assumption | with_reducible refine below_drewN ?_ _ | with_reducible refine Below.drew ?_ | with_reducible refine Below.alloc ?_ (by first | omega | (simp; done) | (simp; omega)) _ | with_reducible refine Below.setCell ?_ (by first | omega | (simp; done) | (simp; omega)) _ | with_reducible refine Below.trans ?_ (Below.mono (by assumption) (by first | omega | (simp; done) | (simp; omega)))))) (Nat.le_refl _)
    rintro e w1 ⟨rfl, b1⟩
    obtain ⟨hc1, hf1⟩ := bcell b1
    have hz1 := b1.size
    simp at hz1
    have z1 : w.heap.size < w1.heap.size := by omega
    go_wp2_with fail
    refine (H2.out _ ?_).mono ?_
    · exact TT.below HT.out (B := w.heap.size) (by (repeat (first | with_reducible exact Below.refl _ _ | with_reducible assumption | with_reducible refine below_drewN ?_ _ | with_reducible refine Below.drew ?_ | with_reducible refine Below.alloc ?_ (by first | omega | (simp; done) | (simp; omega)) _ | with_reducible refine Below.setCell ?_ (by first | omega | (simp; done) | (simp; omega)) _ | with_reducible refine Below.trans ?_ (Below.mono (by assumption) (by first | omega | (simp; done) | (simp; omega)))))) (Nat.le_refl _)
    rintro e w2 ⟨rfl, b2⟩
    go_wp2_with fail
    go_ret
    refine ⟨?_, by (repeat (first | with_reducible exact Below.refl _ _ | with_reducible assumption | with_reducible refine below_drewN ?_ _ | with_reducible refine Below.drew ?_ | with_reducible refine Below.alloc ?_ (by first | omega | (simp; done) | (simp; omega)) _ | with_reducible refine Below.setCell ?_ (by first | omega | (simp; done) | (simp; omega)) _ | with_reducible refine Below.trans ?_ (Below.mono (by assumption) (by first | omega | (simp; done) | (simp; omega)))))⟩
    show Ending.returned (.string (((⟨P.toArray⟩ : ByteArray) ++ ⟨[47].toArray⟩) ++ ⟨D.toArray⟩)) = _
    (rw [ba_append, ba_append]) <;> rfl
  · go_enter Tryd.func22, Tryd.ntmps22
    go_wp2_with fail
    refine (H1.out _ ?_).mono ?_
    · exact TT.below HT.out (B := w.heap.size) (by (repeat (first | with_reducible exact Below.refl _ _ | with_reducible assumption | with_reducible refine below_drewN ?_ _ | with_reducible refine Below.drew ?_ | with_reducible refine Below.alloc ?_ (by first | omega | (simp; done) | (simp; omega)) _ | with_reducible refine Below.setCell ?_ (by first | omega | (simp; done) | (simp; omega)) _ | with_reducible refine Below.trans ?_ (Below.mono (by assumption) (by first | omega | (simp; done) | (simp; omega)))))) (Nat.le_refl _)
    rintro e w1 ⟨rfl, b1⟩
    obtain ⟨hc1, hf1⟩ := bcell b1
    have hz1 := b1.size
    simp at hz1
    have z1 : w.heap.size < w1.heap.size := by omega
    go_wp2_with fail
    refine (H2.out _ ?_).mono ?_
    · exact TT.below HT.out (B := w.heap.size) (by (repeat (first | with_reducible exact Below.refl _ _ | with_reducible assumption | with_reducible refine below_drewN ?_ _ | with_reducible refine Below.drew ?_ | with_reducible refine Below.alloc ?_ (by first | omega | (simp; done) | (simp; omega)) _ | with_reducible refine Below.setCell ?_ (by first | omega | (simp; done) | (simp; omega)) _ | with_reducible refine Below.trans ?_ (Below.mono (by assumption) (by first | omega | (simp; done) | (simp; omega)))))) (Nat.le_refl _)
    rintro e w2 ⟨rfl, b2⟩
    go_wp2_with fail
    go_ret
    refine ⟨?_, by (repeat (first | with_reducible exact Below.refl _ _ | with_reducible assumption | with_reducible refine below_drewN ?_ _ | with_reducible refine Below.drew ?_ | with_reducible refine Below.alloc ?_ (by first | omega | (simp; done) | (simp; omega)) _ | with_reducible refine Below.setCell ?_ (by first | omega | (simp; done) | (simp; omega)) _ | with_reducible refine Below.trans ?_ (Below.mono (by assumption) (by first | omega | (simp; done) | (simp; omega)))))⟩
    show Ending.returned (.string (((((⟨[40].toArray⟩ : ByteArray) ++ ⟨P.toArray⟩) ++ ⟨[41].toArray⟩) ++ ⟨[47].toArray⟩) ++ ⟨D.toArray⟩)) = _
    (rw [ba_append, ba_append, ba_append, ba_append]) <;> rfl
end Go.Proofs.YthelgcikobhonaaDoor
