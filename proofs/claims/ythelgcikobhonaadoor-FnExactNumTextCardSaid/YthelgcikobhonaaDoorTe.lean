/- The model's text of a number. -/
import Derived.Test.YthelgcikobhonaaDoorTd
import Derived.Deep.RegionHeld3
import Derived.Deep.DrawnRows
namespace Go.Proofs.YthelgcikobhonaaDoor
open Go Go.RowKit OriM
attribute [local go_sem ↓] Go.wp_at_zero Go.wp_at_succ

set_option maxHeartbeats 4000000 in
theorem sText_c1z (a b k : Int) (A B D : List UInt8) (w : World) (hb : b = 0) (hk : k = 0) (hL : A.length ≤ 11 ∧ B.length ≤ 11 ∧ D.length ≤ 11)
    (HA : Hid (∀ w, Calls Tryd.prog 27 #[.int .i64 a] w (RetB (tv A) w))) : Calls Tryd.prog 20 #[num a b k] w (RetB (tv (textT a b k A B D)) w) := by
  obtain ⟨hA, hB, hD⟩ := hL
  have HE := Lib.hid (show textT a b k A B D = A by
    unfold textT partsT; rw [if_pos hk, if_pos hb])
  clear hA hB hD
  subst hb
  subst hk
  go_enter Tryd.func20, Tryd.ntmps20
  go_wp2_with fail
  refine (HA.out _).mono ?_
  rintro e w1 ⟨rfl, b1⟩; (try replace b1 := Below.undrew b1); obtain ⟨hc1, hf1⟩ := bcell b1; have hz1 := b1.size; (try simp at hz1); (try have z1 : w.heap.size < w1.heap.size := (by omega))
  go_wp2_with fail
  go_ret
  refine ⟨?_, by (repeat (first | with_reducible exact Below.refl _ _ | with_reducible assumption | with_reducible refine below_drewN ?_ _ | with_reducible refine Below.drew ?_ | with_reducible refine Below.alloc ?_ (by first | omega | (simp; done) | (simp; omega)) _ | with_reducible refine Below.setCell ?_ (by first | omega | (simp; done) | (simp; omega)) _ | with_reducible refine Below.trans ?_ (Below.mono (by assumption) (by first | omega | (simp; done) | (simp; omega)))))⟩
  show Ending.returned (.string (⟨A.toArray⟩ : ByteArray)) = _
  (rw [HE.out]) <;> rfl

set_option maxHeartbeats 4000000 in
theorem sText_c2z (a b k : Int) (A B D : List UInt8) (w : World) (hb : b ≠ 0) (ha : a = 0) (hk : k = 0) (hL : A.length ≤ 11 ∧ B.length ≤ 11 ∧ D.length ≤ 11)
    (HB : Hid (∀ w, Calls Tryd.prog 27 #[.int .i64 b] w (RetB (tv B) w))) : Calls Tryd.prog 20 #[num a b k] w (RetB (tv (textT a b k A B D)) w) := by
  obtain ⟨hA, hB, hD⟩ := hL
  have l0 : ¬ 9223372036854775807 < B.length + 1 := by omega
  have HE := Lib.hid (show textT a b k A B D = B ++ [114] by
    unfold textT partsT; rw [if_pos hk, if_neg hb, if_pos ha])
  have hb0 : (b == 0) = false := by rw [beq_eq_false_iff_ne]; exact hb
  have hb1 : (b != 0) = true := by rw [bne_iff_ne]; exact hb
  clear hA hB hD
  subst ha
  subst hk
  go_enter Tryd.func20, Tryd.ntmps20
  go_wp2_with fail
  refine (HB.out _).mono ?_
  rintro e w1 ⟨rfl, b1⟩; (try replace b1 := Below.undrew b1); obtain ⟨hc1, hf1⟩ := bcell b1; have hz1 := b1.size; (try simp at hz1); (try have z1 : w.heap.size < w1.heap.size := (by omega))
  go_wp2_with fail
  go_ret
  refine ⟨?_, by (repeat (first | with_reducible exact Below.refl _ _ | with_reducible assumption | with_reducible refine below_drewN ?_ _ | with_reducible refine Below.drew ?_ | with_reducible refine Below.alloc ?_ (by first | omega | (simp; done) | (simp; omega)) _ | with_reducible refine Below.setCell ?_ (by first | omega | (simp; done) | (simp; omega)) _ | with_reducible refine Below.trans ?_ (Below.mono (by assumption) (by first | omega | (simp; done) | (simp; omega)))))⟩
  show Ending.returned (.string ((⟨B.toArray⟩ : ByteArray) ++ ⟨[114].toArray⟩ : ByteArray)) = _
  (rw [ba_append, HE.out]) <;> rfl

set_option maxHeartbeats 4000000 in
theorem sText_c3z (a b k : Int) (A B D : List UInt8) (w : World) (ha : a ≠ 0) (hp : 0 < b) (hk : k = 0) (hL : A.length ≤ 11 ∧ B.length ≤ 11 ∧ D.length ≤ 11)
    (HA : Hid (∀ w, Calls Tryd.prog 27 #[.int .i64 a] w (RetB (tv A) w)))
    (HB : Hid (∀ w, Calls Tryd.prog 27 #[.int .i64 b] w (RetB (tv B) w))) : Calls Tryd.prog 20 #[num a b k] w (RetB (tv (textT a b k A B D)) w) := by
  obtain ⟨hA, hB, hD⟩ := hL
  have l0 : ¬ 9223372036854775807 < A.length + 1 := by omega
  have l1 : ¬ 9223372036854775807 < A.length + 1 + B.length := by omega
  have l2 : ¬ 9223372036854775807 < A.length + 1 + B.length + 1 := by omega
  have HE := Lib.hid (show textT a b k A B D = A ++ [43] ++ B ++ [114] by
    unfold textT partsT; rw [if_pos hk, if_neg (show ¬ b = 0 by omega), if_neg ha, if_pos hp]; simp)
  have hb : b ≠ 0 := by omega
  have hb0 : (b == 0) = false := by rw [beq_eq_false_iff_ne]; exact hb
  have hb1 : (b != 0) = true := by rw [bne_iff_ne]; exact hb
  have ha0 : (a == 0) = false := by rw [beq_eq_false_iff_ne]; exact ha
  have ha1 : (a != 0) = true := by rw [bne_iff_ne]; exact ha
  clear hA hB hD
  subst hk
  go_enter Tryd.func20, Tryd.ntmps20
  go_wp2_with fail
  go_region_held3 (fun w' => w'.cell? ⟨w.heap.size, 0, none⟩ = some (Value.int IntKind.i64 a) ∧ w'.cell? ⟨w.heap.size, 1, none⟩ = some (Value.int IntKind.i64 b) ∧ w'.cell? ⟨w.heap.size, 2, none⟩ = some (Value.int IntKind.i64 0)) ((first | (go_simp; done) | (simp [*]; done)))
    ((first
    | (go_at_call_of 27 (Value.int IntKind.i64 a); refine (HA.out _).mono ?_; rintro e w1 ⟨rfl, b1⟩; (try replace b1 := Below.undrew b1); obtain ⟨hc1, hf1⟩ := bcell b1; have hz1 := b1.size; (try simp at hz1); (try have z1 : w.heap.size < w1.heap.size := (by omega)))
    | (go_at_call_of 27 (Value.int IntKind.i64 b); refine (HB.out _).mono ?_; rintro e w2 ⟨rfl, b2⟩; (try replace b2 := Below.undrew b2); obtain ⟨hc2, hf2⟩ := bcell b2; have hz2 := b2.size; (try simp at hz2); (try have z2 : w.heap.size < w2.heap.size := (by omega)))))
  go_wp2_with fail
  go_ret
  refine ⟨?_, by (repeat (first | with_reducible exact Below.refl _ _ | with_reducible assumption | with_reducible refine below_drewN ?_ _ | with_reducible refine Below.drew ?_ | with_reducible refine Below.alloc ?_ (by first | omega | (simp; done) | (simp; omega)) _ | with_reducible refine Below.setCell ?_ (by first | omega | (simp; done) | (simp; omega)) _ | with_reducible refine Below.trans ?_ (Below.mono (by assumption) (by first | omega | (simp; done) | (simp; omega)))))⟩
  show Ending.returned (.string ((((⟨A.toArray⟩ : ByteArray) ++ ⟨[43].toArray⟩ : ByteArray) ++ ⟨B.toArray⟩ : ByteArray) ++ ⟨[114].toArray⟩ : ByteArray)) = _
  (rw [ba_append, ba_append, ba_append, HE.out]) <;> rfl

set_option maxHeartbeats 4000000 in
theorem sText_c4z (a b k : Int) (A B D : List UInt8) (w : World) (hb : b ≠ 0) (ha : a ≠ 0) (hp : ¬ 0 < b) (hk : k = 0) (hL : A.length ≤ 11 ∧ B.length ≤ 11 ∧ D.length ≤ 11)
    (HA : Hid (∀ w, Calls Tryd.prog 27 #[.int .i64 a] w (RetB (tv A) w)))
    (HB : Hid (∀ w, Calls Tryd.prog 27 #[.int .i64 b] w (RetB (tv B) w))) : Calls Tryd.prog 20 #[num a b k] w (RetB (tv (textT a b k A B D)) w) := by
  obtain ⟨hA, hB, hD⟩ := hL
  have l0 : ¬ 9223372036854775807 < A.length + B.length := by omega
  have l1 : ¬ 9223372036854775807 < A.length + B.length + 1 := by omega
  have HE := Lib.hid (show textT a b k A B D = A ++ B ++ [114] by
    unfold textT partsT; rw [if_pos hk, if_neg hb, if_neg ha, if_neg hp]; simp)
  have hb0 : (b == 0) = false := by rw [beq_eq_false_iff_ne]; exact hb
  have hb1 : (b != 0) = true := by rw [bne_iff_ne]; exact hb
  have ha0 : (a == 0) = false := by rw [beq_eq_false_iff_ne]; exact ha
  have ha1 : (a != 0) = true := by rw [bne_iff_ne]; exact ha
  clear hA hB hD
  subst hk
  go_enter Tryd.func20, Tryd.ntmps20
  go_wp2_with fail
  go_region_held3 (fun w' => w'.cell? ⟨w.heap.size, 0, none⟩ = some (Value.int IntKind.i64 a) ∧ w'.cell? ⟨w.heap.size, 1, none⟩ = some (Value.int IntKind.i64 b) ∧ w'.cell? ⟨w.heap.size, 2, none⟩ = some (Value.int IntKind.i64 0)) ((first | (go_simp; done) | (simp [*]; done)))
    ((first
    | (go_at_call_of 27 (Value.int IntKind.i64 a); refine (HA.out _).mono ?_; rintro e w1 ⟨rfl, b1⟩; (try replace b1 := Below.undrew b1); obtain ⟨hc1, hf1⟩ := bcell b1; have hz1 := b1.size; (try simp at hz1); (try have z1 : w.heap.size < w1.heap.size := (by omega)))
    | (go_at_call_of 27 (Value.int IntKind.i64 b); refine (HB.out _).mono ?_; rintro e w2 ⟨rfl, b2⟩; (try replace b2 := Below.undrew b2); obtain ⟨hc2, hf2⟩ := bcell b2; have hz2 := b2.size; (try simp at hz2); (try have z2 : w.heap.size < w2.heap.size := (by omega)))))
  go_wp2_with fail
  go_ret
  refine ⟨?_, by (repeat (first | with_reducible exact Below.refl _ _ | with_reducible assumption | with_reducible refine below_drewN ?_ _ | with_reducible refine Below.drew ?_ | with_reducible refine Below.alloc ?_ (by first | omega | (simp; done) | (simp; omega)) _ | with_reducible refine Below.setCell ?_ (by first | omega | (simp; done) | (simp; omega)) _ | with_reducible refine Below.trans ?_ (Below.mono (by assumption) (by first | omega | (simp; done) | (simp; omega)))))⟩
  show Ending.returned (.string (((⟨A.toArray⟩ : ByteArray) ++ ⟨B.toArray⟩ : ByteArray) ++ ⟨[114].toArray⟩ : ByteArray)) = _
  (rw [ba_append, ba_append, HE.out]) <;> rfl

set_option maxHeartbeats 4000000 in
theorem sText_c1m (a b k : Int) (A B D : List UInt8) (w : World) (hb : b = 0) (ha : a = 0) (k1 : 1 ≤ k) (k2 : k ≤ 10) (hL : A.length ≤ 11 ∧ B.length ≤ 11 ∧ D.length ≤ 11)
    (HA : Hid (∀ w, Calls Tryd.prog 27 #[.int .i64 a] w (RetB (tv A) w)))
    (HD : Hid (∀ w, Calls Tryd.prog 27 #[.int .i64 (2 ^ k.toNat)] w (RetB (tv D) w))) : Calls Tryd.prog 20 #[num a b k] w (RetB (tv (textT a b k A B D)) w) := by
  obtain ⟨hA, hB, hD⟩ := hL
  have l0 : ¬ 9223372036854775807 < A.length + 1 := by omega
  have l1 : ¬ 9223372036854775807 < A.length + 1 + D.length := by omega
  have hw : wrap64 (2 ^ k.toNat) = 2 ^ k.toNat := IntWalk.wrap64_in _ (by have := pow_bd k1 k2; constructor <;> omega)
  have hk0 : (k == 0) = false := by rw [beq_eq_false_iff_ne]; omega
  have hku : IntKind.u64.wrap k = k := by rw [IntKind.wrap_u64]; omega
  have HE := Lib.hid (show textT a b k A B D = A ++ [47] ++ D by
    unfold textT partsT putIn; rw [if_neg (show ¬ k = 0 by omega), if_pos hb]; simp [hb])
  clear hA hB hD
  subst hb
  subst ha
  go_enter Tryd.func20, Tryd.ntmps20
  go_wp2_with fail
  refine (HA.out _).mono ?_
  rintro e w1 ⟨rfl, b1⟩; (try replace b1 := Below.undrew b1); obtain ⟨hc1, hf1⟩ := bcell b1; have hz1 := b1.size; (try simp at hz1); (try have z1 : w.heap.size < w1.heap.size := (by omega))
  go_wp2_with fail
  refine (HD.out _).mono ?_
  rintro e w3 ⟨rfl, b3⟩; (try replace b3 := Below.undrew b3); obtain ⟨hc3, hf3⟩ := bcell b3; have hz3 := b3.size; (try simp at hz3); (try have z3 : w.heap.size < w3.heap.size := (by omega))
  go_wp2_with fail
  go_ret
  refine ⟨?_, by (repeat (first | with_reducible exact Below.refl _ _ | with_reducible assumption | with_reducible refine below_drewN ?_ _ | with_reducible refine Below.drew ?_ | with_reducible refine Below.alloc ?_ (by first | omega | (simp; done) | (simp; omega)) _ | with_reducible refine Below.setCell ?_ (by first | omega | (simp; done) | (simp; omega)) _ | with_reducible refine Below.trans ?_ (Below.mono (by assumption) (by first | omega | (simp; done) | (simp; omega)))))⟩
  show Ending.returned (.string (((⟨A.toArray⟩ : ByteArray) ++ ⟨[47].toArray⟩ : ByteArray) ++ ⟨D.toArray⟩ : ByteArray)) = _
  (rw [ba_append, ba_append, HE.out]) <;> rfl

set_option maxHeartbeats 4000000 in
theorem sText_c1n (a b k : Int) (A B D : List UInt8) (w : World) (hb : b = 0) (ha : a ≠ 0) (k1 : 1 ≤ k) (k2 : k ≤ 10) (hL : A.length ≤ 11 ∧ B.length ≤ 11 ∧ D.length ≤ 11)
    (HA : Hid (∀ w, Calls Tryd.prog 27 #[.int .i64 a] w (RetB (tv A) w)))
    (HD : Hid (∀ w, Calls Tryd.prog 27 #[.int .i64 (2 ^ k.toNat)] w (RetB (tv D) w))) : Calls Tryd.prog 20 #[num a b k] w (RetB (tv (textT a b k A B D)) w) := by
  obtain ⟨hA, hB, hD⟩ := hL
  have l0 : ¬ 9223372036854775807 < A.length + 1 := by omega
  have l1 : ¬ 9223372036854775807 < A.length + 1 + D.length := by omega
  have hw : wrap64 (2 ^ k.toNat) = 2 ^ k.toNat := IntWalk.wrap64_in _ (by have := pow_bd k1 k2; constructor <;> omega)
  have hk0 : (k == 0) = false := by rw [beq_eq_false_iff_ne]; omega
  have hku : IntKind.u64.wrap k = k := by rw [IntKind.wrap_u64]; omega
  have HE := Lib.hid (show textT a b k A B D = A ++ [47] ++ D by
    unfold textT partsT putIn; rw [if_neg (show ¬ k = 0 by omega), if_pos hb]; simp [hb])
  have ha0 : (a == 0) = false := by rw [beq_eq_false_iff_ne]; exact ha
  have ha1 : (a != 0) = true := by rw [bne_iff_ne]; exact ha
  clear hA hB hD
  subst hb
  go_enter Tryd.func20, Tryd.ntmps20
  go_wp2_with fail
  refine (HA.out _).mono ?_
  rintro e w1 ⟨rfl, b1⟩; (try replace b1 := Below.undrew b1); obtain ⟨hc1, hf1⟩ := bcell b1; have hz1 := b1.size; (try simp at hz1); (try have z1 : w.heap.size < w1.heap.size := (by omega))
  go_wp2_with fail
  refine (HD.out _).mono ?_
  rintro e w3 ⟨rfl, b3⟩; (try replace b3 := Below.undrew b3); obtain ⟨hc3, hf3⟩ := bcell b3; have hz3 := b3.size; (try simp at hz3); (try have z3 : w.heap.size < w3.heap.size := (by omega))
  go_wp2_with fail
  go_ret
  refine ⟨?_, by (repeat (first | with_reducible exact Below.refl _ _ | with_reducible assumption | with_reducible refine below_drewN ?_ _ | with_reducible refine Below.drew ?_ | with_reducible refine Below.alloc ?_ (by first | omega | (simp; done) | (simp; omega)) _ | with_reducible refine Below.setCell ?_ (by first | omega | (simp; done) | (simp; omega)) _ | with_reducible refine Below.trans ?_ (Below.mono (by assumption) (by first | omega | (simp; done) | (simp; omega)))))⟩
  show Ending.returned (.string (((⟨A.toArray⟩ : ByteArray) ++ ⟨[47].toArray⟩ : ByteArray) ++ ⟨D.toArray⟩ : ByteArray)) = _
  (rw [ba_append, ba_append, HE.out]) <;> rfl

set_option maxHeartbeats 4000000 in
theorem sText_c2m (a b k : Int) (A B D : List UInt8) (w : World) (hb : b ≠ 0) (ha : a = 0) (k1 : 1 ≤ k) (k2 : k ≤ 10) (hL : A.length ≤ 11 ∧ B.length ≤ 11 ∧ D.length ≤ 11)
    (HB : Hid (∀ w, Calls Tryd.prog 27 #[.int .i64 b] w (RetB (tv B) w)))
    (HD : Hid (∀ w, Calls Tryd.prog 27 #[.int .i64 (2 ^ k.toNat)] w (RetB (tv D) w))) : Calls Tryd.prog 20 #[num a b k] w (RetB (tv (textT a b k A B D)) w) := by
  obtain ⟨hA, hB, hD⟩ := hL
  have l0 : ¬ 9223372036854775807 < B.length + 1 := by omega
  have l1 : ¬ 9223372036854775807 < B.length + 1 + 1 := by omega
  have l2 : ¬ 9223372036854775807 < B.length + 1 + 1 + D.length := by omega
  have hw : wrap64 (2 ^ k.toNat) = 2 ^ k.toNat := IntWalk.wrap64_in _ (by have := pow_bd k1 k2; constructor <;> omega)
  have hk0 : (k == 0) = false := by rw [beq_eq_false_iff_ne]; omega
  have hku : IntKind.u64.wrap k = k := by rw [IntKind.wrap_u64]; omega
  have HE := Lib.hid (show textT a b k A B D = B ++ [114] ++ [47] ++ D by
    unfold textT partsT putIn; rw [if_neg (show ¬ k = 0 by omega), if_neg hb, if_pos ha]; simp [ha])
  have hb0 : (b == 0) = false := by rw [beq_eq_false_iff_ne]; exact hb
  have hb1 : (b != 0) = true := by rw [bne_iff_ne]; exact hb
  clear hA hB hD
  subst ha
  go_enter Tryd.func20, Tryd.ntmps20
  go_wp2_with fail
  refine (HB.out _).mono ?_
  rintro e w1 ⟨rfl, b1⟩; (try replace b1 := Below.undrew b1); obtain ⟨hc1, hf1⟩ := bcell b1; have hz1 := b1.size; (try simp at hz1); (try have z1 : w.heap.size < w1.heap.size := (by omega))
  go_wp2_with fail
  refine (HD.out _).mono ?_
  rintro e w3 ⟨rfl, b3⟩; (try replace b3 := Below.undrew b3); obtain ⟨hc3, hf3⟩ := bcell b3; have hz3 := b3.size; (try simp at hz3); (try have z3 : w.heap.size < w3.heap.size := (by omega))
  go_wp2_with fail
  go_ret
  refine ⟨?_, by (repeat (first | with_reducible exact Below.refl _ _ | with_reducible assumption | with_reducible refine below_drewN ?_ _ | with_reducible refine Below.drew ?_ | with_reducible refine Below.alloc ?_ (by first | omega | (simp; done) | (simp; omega)) _ | with_reducible refine Below.setCell ?_ (by first | omega | (simp; done) | (simp; omega)) _ | with_reducible refine Below.trans ?_ (Below.mono (by assumption) (by first | omega | (simp; done) | (simp; omega)))))⟩
  show Ending.returned (.string ((((⟨B.toArray⟩ : ByteArray) ++ ⟨[114].toArray⟩ : ByteArray) ++ ⟨[47].toArray⟩ : ByteArray) ++ ⟨D.toArray⟩ : ByteArray)) = _
  (rw [ba_append, ba_append, ba_append, HE.out]) <;> rfl

set_option maxHeartbeats 4000000 in
theorem sText_c3m (a b k : Int) (A B D : List UInt8) (w : World) (ha : a ≠ 0) (hp : 0 < b) (k1 : 1 ≤ k) (k2 : k ≤ 10) (hL : A.length ≤ 11 ∧ B.length ≤ 11 ∧ D.length ≤ 11)
    (HA : Hid (∀ w, Calls Tryd.prog 27 #[.int .i64 a] w (RetB (tv A) w)))
    (HB : Hid (∀ w, Calls Tryd.prog 27 #[.int .i64 b] w (RetB (tv B) w)))
    (HD : Hid (∀ w, Calls Tryd.prog 27 #[.int .i64 (2 ^ k.toNat)] w (RetB (tv D) w))) : Calls Tryd.prog 20 #[num a b k] w (RetB (tv (textT a b k A B D)) w) := by
  obtain ⟨hA, hB, hD⟩ := hL
  have l0 : ¬ 9223372036854775807 < A.length + 1 := by omega
  have l1 : ¬ 9223372036854775807 < A.length + 1 + B.length := by omega
  have l2 : ¬ 9223372036854775807 < A.length + 1 + B.length + 1 := by omega
  have l3 : ¬ 9223372036854775807 < 1 + (A.length + 1 + B.length + 1) := by omega
  have l4 : ¬ 9223372036854775807 < 1 + (A.length + 1 + B.length + 1) + 1 := by omega
  have l5 : ¬ 9223372036854775807 < 1 + (A.length + 1 + B.length + 1) + 1 + 1 := by omega
  have l6 : ¬ 9223372036854775807 < 1 + (A.length + 1 + B.length + 1) + 1 + 1 + D.length := by omega
  have hw : wrap64 (2 ^ k.toNat) = 2 ^ k.toNat := IntWalk.wrap64_in _ (by have := pow_bd k1 k2; constructor <;> omega)
  have hk0 : (k == 0) = false := by rw [beq_eq_false_iff_ne]; omega
  have hku : IntKind.u64.wrap k = k := by rw [IntKind.wrap_u64]; omega
  have HE := Lib.hid (show textT a b k A B D = [40] ++ (A ++ [43] ++ B ++ [114]) ++ [41] ++ [47] ++ D by
    unfold textT partsT putIn; rw [if_neg (show ¬ k = 0 by omega), if_neg (show ¬ b = 0 by omega), if_neg ha, if_pos hp]; simp [ha, show ¬ b = 0 by omega])
  have hb : b ≠ 0 := by omega
  have hb0 : (b == 0) = false := by rw [beq_eq_false_iff_ne]; exact hb
  have hb1 : (b != 0) = true := by rw [bne_iff_ne]; exact hb
  have ha0 : (a == 0) = false := by rw [beq_eq_false_iff_ne]; exact ha
  have ha1 : (a != 0) = true := by rw [bne_iff_ne]; exact ha
  clear hA hB hD
  go_enter Tryd.func20, Tryd.ntmps20
  go_wp2_with fail
  go_region_held3 (fun w' => w'.cell? ⟨w.heap.size, 0, none⟩ = some (Value.int IntKind.i64 a) ∧ w'.cell? ⟨w.heap.size, 1, none⟩ = some (Value.int IntKind.i64 b) ∧ w'.cell? ⟨w.heap.size, 2, none⟩ = some (Value.int IntKind.i64 k)) ((first | (go_simp; done) | (simp [*]; done)))
    ((first
    | (go_at_call_of 27 (Value.int IntKind.i64 a); refine (HA.out _).mono ?_; rintro e w1 ⟨rfl, b1⟩; (try replace b1 := Below.undrew b1); obtain ⟨hc1, hf1⟩ := bcell b1; have hz1 := b1.size; (try simp at hz1); (try have z1 : w.heap.size < w1.heap.size := (by omega)))
    | (go_at_call_of 27 (Value.int IntKind.i64 b); refine (HB.out _).mono ?_; rintro e w2 ⟨rfl, b2⟩; (try replace b2 := Below.undrew b2); obtain ⟨hc2, hf2⟩ := bcell b2; have hz2 := b2.size; (try simp at hz2); (try have z2 : w.heap.size < w2.heap.size := (by omega)))))
  go_wp2_with fail
  refine (HD.out _).mono ?_
  rintro e w3 ⟨rfl, b3⟩; (try replace b3 := Below.undrew b3); obtain ⟨hc3, hf3⟩ := bcell b3; have hz3 := b3.size; (try simp at hz3); (try have z3 : w.heap.size < w3.heap.size := (by omega))
  go_wp2_with fail
  go_ret
  refine ⟨?_, by (repeat (first | with_reducible exact Below.refl _ _ | with_reducible assumption | with_reducible refine below_drewN ?_ _ | with_reducible refine Below.drew ?_ | with_reducible refine Below.alloc ?_ (by first | omega | (simp; done) | (simp; omega)) _ | with_reducible refine Below.setCell ?_ (by first | omega | (simp; done) | (simp; omega)) _ | with_reducible refine Below.trans ?_ (Below.mono (by assumption) (by first | omega | (simp; done) | (simp; omega)))))⟩
  show Ending.returned (.string (((((⟨[40].toArray⟩ : ByteArray) ++ ((((⟨A.toArray⟩ : ByteArray) ++ ⟨[43].toArray⟩ : ByteArray) ++ ⟨B.toArray⟩ : ByteArray) ++ ⟨[114].toArray⟩ : ByteArray) : ByteArray) ++ ⟨[41].toArray⟩ : ByteArray) ++ ⟨[47].toArray⟩ : ByteArray) ++ ⟨D.toArray⟩ : ByteArray)) = _
  (rw [ba_append, ba_append, ba_append, ba_append, ba_append, ba_append, ba_append, HE.out]) <;> rfl

set_option maxHeartbeats 4000000 in
theorem sText_c4m (a b k : Int) (A B D : List UInt8) (w : World) (hb : b ≠ 0) (ha : a ≠ 0) (hp : ¬ 0 < b) (k1 : 1 ≤ k) (k2 : k ≤ 10) (hL : A.length ≤ 11 ∧ B.length ≤ 11 ∧ D.length ≤ 11)
    (HA : Hid (∀ w, Calls Tryd.prog 27 #[.int .i64 a] w (RetB (tv A) w)))
    (HB : Hid (∀ w, Calls Tryd.prog 27 #[.int .i64 b] w (RetB (tv B) w)))
    (HD : Hid (∀ w, Calls Tryd.prog 27 #[.int .i64 (2 ^ k.toNat)] w (RetB (tv D) w))) : Calls Tryd.prog 20 #[num a b k] w (RetB (tv (textT a b k A B D)) w) := by
  obtain ⟨hA, hB, hD⟩ := hL
  have l0 : ¬ 9223372036854775807 < A.length + B.length := by omega
  have l1 : ¬ 9223372036854775807 < A.length + B.length + 1 := by omega
  have l2 : ¬ 9223372036854775807 < 1 + (A.length + B.length + 1) := by omega
  have l3 : ¬ 9223372036854775807 < 1 + (A.length + B.length + 1) + 1 := by omega
  have l4 : ¬ 9223372036854775807 < 1 + (A.length + B.length + 1) + 1 + 1 := by omega
  have l5 : ¬ 9223372036854775807 < 1 + (A.length + B.length + 1) + 1 + 1 + D.length := by omega
  have hw : wrap64 (2 ^ k.toNat) = 2 ^ k.toNat := IntWalk.wrap64_in _ (by have := pow_bd k1 k2; constructor <;> omega)
  have hk0 : (k == 0) = false := by rw [beq_eq_false_iff_ne]; omega
  have hku : IntKind.u64.wrap k = k := by rw [IntKind.wrap_u64]; omega
  have HE := Lib.hid (show textT a b k A B D = [40] ++ (A ++ B ++ [114]) ++ [41] ++ [47] ++ D by
    unfold textT partsT putIn; rw [if_neg (show ¬ k = 0 by omega), if_neg hb, if_neg ha, if_neg hp]; simp [hb, ha])
  have hb0 : (b == 0) = false := by rw [beq_eq_false_iff_ne]; exact hb
  have hb1 : (b != 0) = true := by rw [bne_iff_ne]; exact hb
  have ha0 : (a == 0) = false := by rw [beq_eq_false_iff_ne]; exact ha
  have ha1 : (a != 0) = true := by rw [bne_iff_ne]; exact ha
  clear hA hB hD
  go_enter Tryd.func20, Tryd.ntmps20
  go_wp2_with fail
  go_region_held3 (fun w' => w'.cell? ⟨w.heap.size, 0, none⟩ = some (Value.int IntKind.i64 a) ∧ w'.cell? ⟨w.heap.size, 1, none⟩ = some (Value.int IntKind.i64 b) ∧ w'.cell? ⟨w.heap.size, 2, none⟩ = some (Value.int IntKind.i64 k)) ((first | (go_simp; done) | (simp [*]; done)))
    ((first
    | (go_at_call_of 27 (Value.int IntKind.i64 a); refine (HA.out _).mono ?_; rintro e w1 ⟨rfl, b1⟩; (try replace b1 := Below.undrew b1); obtain ⟨hc1, hf1⟩ := bcell b1; have hz1 := b1.size; (try simp at hz1); (try have z1 : w.heap.size < w1.heap.size := (by omega)))
    | (go_at_call_of 27 (Value.int IntKind.i64 b); refine (HB.out _).mono ?_; rintro e w2 ⟨rfl, b2⟩; (try replace b2 := Below.undrew b2); obtain ⟨hc2, hf2⟩ := bcell b2; have hz2 := b2.size; (try simp at hz2); (try have z2 : w.heap.size < w2.heap.size := (by omega)))))
  go_wp2_with fail
  refine (HD.out _).mono ?_
  rintro e w3 ⟨rfl, b3⟩; (try replace b3 := Below.undrew b3); obtain ⟨hc3, hf3⟩ := bcell b3; have hz3 := b3.size; (try simp at hz3); (try have z3 : w.heap.size < w3.heap.size := (by omega))
  go_wp2_with fail
  go_ret
  refine ⟨?_, by (repeat (first | with_reducible exact Below.refl _ _ | with_reducible assumption | with_reducible refine below_drewN ?_ _ | with_reducible refine Below.drew ?_ | with_reducible refine Below.alloc ?_ (by first | omega | (simp; done) | (simp; omega)) _ | with_reducible refine Below.setCell ?_ (by first | omega | (simp; done) | (simp; omega)) _ | with_reducible refine Below.trans ?_ (Below.mono (by assumption) (by first | omega | (simp; done) | (simp; omega)))))⟩
  show Ending.returned (.string (((((⟨[40].toArray⟩ : ByteArray) ++ (((⟨A.toArray⟩ : ByteArray) ++ ⟨B.toArray⟩ : ByteArray) ++ ⟨[114].toArray⟩ : ByteArray) : ByteArray) ++ ⟨[41].toArray⟩ : ByteArray) ++ ⟨[47].toArray⟩ : ByteArray) ++ ⟨D.toArray⟩ : ByteArray)) = _
  (rw [ba_append, ba_append, ba_append, ba_append, ba_append, ba_append, HE.out]) <;> rfl

end Go.Proofs.YthelgcikobhonaaDoor
