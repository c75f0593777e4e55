/- Texts of numbers, points, lines and motions, over the contracts of their callees. -/
import Derived.Test.YthelgcikobhonaaDoorTb
import Derived.Deep.RegionHeld3
import Derived.Deep.DrawnRows
namespace Go.Proofs.YthelgcikobhonaaDoor
open Go Go.RowKit OriM
attribute [local go_sem ↓] Go.wp_at_zero Go.wp_at_succ

set_option maxHeartbeats 4000000 in
theorem iNT_no (xa xb xk : Int) (w : World) (hT : TT w)
    (H1 : Hid (∀ w, TT w → Calls Tryd.prog 21 #[Value.agg #[Value.int IntKind.i64 xa, Value.int IntKind.i64 xb, Value.int IntKind.i64 xk]] w (RetB (Value.bool false) w)))
    : Calls Tryd.prog 9 #[Value.agg #[Value.int IntKind.i64 xa, Value.int IntKind.i64 xb, Value.int IntKind.i64 xk]] w (RetB (tv ([])) w) := by
  have HT := Lib.hid hT
  clear hT
  go_enter Tryd.func9, Tryd.ntmps9
  go_wp2_with fail
  refine (H1.out _ ?_).mono ?_
  · exact TT.below HT.out (B := w.heap.size) (by (repeat (first | with_reducible exact Below.refl _ _ | with_reducible assumption | with_reducible refine below_drewN ?_ _ | with_reducible refine Below.drew ?_ | with_reducible refine Below.alloc ?_ (by first | omega | (simp; done) | (simp; omega)) _ | with_reducible refine Below.setCell ?_ (by first | omega | (simp; done) | (simp; omega)) _ | with_reducible refine Below.trans ?_ (Below.mono (by assumption) (by first | omega | (simp; done) | (simp; omega)))))) (Nat.le_refl _)
  rintro e1 w1 ⟨rfl, b1⟩; (try replace b1 := Below.undrew b1); obtain ⟨hc1, hf1⟩ := bcell b1; have hz1 := b1.size; (try simp at hz1); (try have z1 : w.heap.size < w1.heap.size := (by omega))
  go_wp2_with fail
  go_ret
  exact ⟨rfl, by (repeat (first | with_reducible exact Below.refl _ _ | with_reducible assumption | with_reducible refine below_drewN ?_ _ | with_reducible refine Below.drew ?_ | with_reducible refine Below.alloc ?_ (by first | omega | (simp; done) | (simp; omega)) _ | with_reducible refine Below.setCell ?_ (by first | omega | (simp; done) | (simp; omega)) _ | with_reducible refine Below.trans ?_ (Below.mono (by assumption) (by first | omega | (simp; done) | (simp; omega)))))⟩

set_option maxHeartbeats 4000000 in
theorem iNT_ok (xa xb xk : Int) (X : List UInt8) (w : World) (hT : TT w)
    (H1 : Hid (∀ w, TT w → Calls Tryd.prog 21 #[Value.agg #[Value.int IntKind.i64 xa, Value.int IntKind.i64 xb, Value.int IntKind.i64 xk]] w (RetB (Value.bool true) w)))
    (H2 : Hid (∀ w, TT w → Calls Tryd.prog 22 #[Value.agg #[Value.int IntKind.i64 xa, Value.int IntKind.i64 xb, Value.int IntKind.i64 xk]] w (RetB (tv X) w)))
    : Calls Tryd.prog 9 #[Value.agg #[Value.int IntKind.i64 xa, Value.int IntKind.i64 xb, Value.int IntKind.i64 xk]] w (RetB (tv (X)) w) := by
  have HT := Lib.hid hT
  clear hT
  go_enter Tryd.func9, Tryd.ntmps9
  go_wp2_with fail
  refine (H1.out _ ?_).mono ?_
  · exact TT.below HT.out (B := w.heap.size) (by (repeat (first | with_reducible exact Below.refl _ _ | with_reducible assumption | with_reducible refine below_drewN ?_ _ | with_reducible refine Below.drew ?_ | with_reducible refine Below.alloc ?_ (by first | omega | (simp; done) | (simp; omega)) _ | with_reducible refine Below.setCell ?_ (by first | omega | (simp; done) | (simp; omega)) _ | with_reducible refine Below.trans ?_ (Below.mono (by assumption) (by first | omega | (simp; done) | (simp; omega)))))) (Nat.le_refl _)
  rintro e1 w1 ⟨rfl, b1⟩; (try replace b1 := Below.undrew b1); obtain ⟨hc1, hf1⟩ := bcell b1; have hz1 := b1.size; (try simp at hz1); (try have z1 : w.heap.size < w1.heap.size := (by omega))
  go_wp2_with fail
  refine (H2.out _ ?_).mono ?_
  · exact TT.below HT.out (B := w.heap.size) (by (repeat (first | with_reducible exact Below.refl _ _ | with_reducible assumption | with_reducible refine below_drewN ?_ _ | with_reducible refine Below.drew ?_ | with_reducible refine Below.alloc ?_ (by first | omega | (simp; done) | (simp; omega)) _ | with_reducible refine Below.setCell ?_ (by first | omega | (simp; done) | (simp; omega)) _ | with_reducible refine Below.trans ?_ (Below.mono (by assumption) (by first | omega | (simp; done) | (simp; omega)))))) (Nat.le_refl _)
  rintro e2 w2 ⟨rfl, b2⟩; (try replace b2 := Below.undrew b2); obtain ⟨hc2, hf2⟩ := bcell b2; have hz2 := b2.size; (try simp at hz2); (try have z2 : w.heap.size < w2.heap.size := (by omega))
  go_wp2_with fail
  go_ret
  exact ⟨rfl, by (repeat (first | with_reducible exact Below.refl _ _ | with_reducible assumption | with_reducible refine below_drewN ?_ _ | with_reducible refine Below.drew ?_ | with_reducible refine Below.alloc ?_ (by first | omega | (simp; done) | (simp; omega)) _ | with_reducible refine Below.setCell ?_ (by first | omega | (simp; done) | (simp; omega)) _ | with_reducible refine Below.trans ?_ (Below.mono (by assumption) (by first | omega | (simp; done) | (simp; omega)))))⟩

set_option maxHeartbeats 4000000 in
theorem sNT_no (xa xb xk : Int) (w : World) (hT : TT w)
    (H1 : Hid (∀ w, TT w → Calls Tryd.prog 19 #[Value.agg #[Value.int IntKind.i64 xa, Value.int IntKind.i64 xb, Value.int IntKind.i64 xk]] w (RetB (Value.bool false) w)))
    : Calls Tryd.prog 7 #[Value.agg #[Value.int IntKind.i64 xa, Value.int IntKind.i64 xb, Value.int IntKind.i64 xk]] w (RetB (tv ([])) w) := by
  have HT := Lib.hid hT
  clear hT
  go_enter Tryd.func7, Tryd.ntmps7
  go_wp2_with fail
  refine (H1.out _ ?_).mono ?_
  · exact TT.below HT.out (B := w.heap.size) (by (repeat (first | with_reducible exact Below.refl _ _ | with_reducible assumption | with_reducible refine below_drewN ?_ _ | with_reducible refine Below.drew ?_ | with_reducible refine Below.alloc ?_ (by first | omega | (simp; done) | (simp; omega)) _ | with_reducible refine Below.setCell ?_ (by first | omega | (simp; done) | (simp; omega)) _ | with_reducible refine Below.trans ?_ (Below.mono (by assumption) (by first | omega | (simp; done) | (simp; omega)))))) (Nat.le_refl _)
  rintro e1 w1 ⟨rfl, b1⟩; (try replace b1 := Below.undrew b1); obtain ⟨hc1, hf1⟩ := bcell b1; have hz1 := b1.size; (try simp at hz1); (try have z1 : w.heap.size < w1.heap.size := (by omega))
  go_wp2_with fail
  go_ret
  exact ⟨rfl, by (repeat (first | with_reducible exact Below.refl _ _ | with_reducible assumption | with_reducible refine below_drewN ?_ _ | with_reducible refine Below.drew ?_ | with_reducible refine Below.alloc ?_ (by first | omega | (simp; done) | (simp; omega)) _ | with_reducible refine Below.setCell ?_ (by first | omega | (simp; done) | (simp; omega)) _ | with_reducible refine Below.trans ?_ (Below.mono (by assumption) (by first | omega | (simp; done) | (simp; omega)))))⟩

set_option maxHeartbeats 4000000 in
theorem sNT_ok (xa xb xk : Int) (X : List UInt8) (w : World) (hT : TT w)
    (H1 : Hid (∀ w, TT w → Calls Tryd.prog 19 #[Value.agg #[Value.int IntKind.i64 xa, Value.int IntKind.i64 xb, Value.int IntKind.i64 xk]] w (RetB (Value.bool true) w)))
    (H2 : Hid (∀ w, TT w → Calls Tryd.prog 20 #[Value.agg #[Value.int IntKind.i64 xa, Value.int IntKind.i64 xb, Value.int IntKind.i64 xk]] w (RetB (tv X) w)))
    : Calls Tryd.prog 7 #[Value.agg #[Value.int IntKind.i64 xa, Value.int IntKind.i64 xb, Value.int IntKind.i64 xk]] w (RetB (tv (X)) w) := by
  have HT := Lib.hid hT
  clear hT
  go_enter Tryd.func7, Tryd.ntmps7
  go_wp2_with fail
  refine (H1.out _ ?_).mono ?_
  · exact TT.below HT.out (B := w.heap.size) (by (repeat (first | with_reducible exact Below.refl _ _ | with_reducible assumption | with_reducible refine below_drewN ?_ _ | with_reducible refine Below.drew ?_ | with_reducible refine Below.alloc ?_ (by first | omega | (simp; done) | (simp; omega)) _ | with_reducible refine Below.setCell ?_ (by first | omega | (simp; done) | (simp; omega)) _ | with_reducible refine Below.trans ?_ (Below.mono (by assumption) (by first | omega | (simp; done) | (simp; omega)))))) (Nat.le_refl _)
  rintro e1 w1 ⟨rfl, b1⟩; (try replace b1 := Below.undrew b1); obtain ⟨hc1, hf1⟩ := bcell b1; have hz1 := b1.size; (try simp at hz1); (try have z1 : w.heap.size < w1.heap.size := (by omega))
  go_wp2_with fail
  refine (H2.out _ ?_).mono ?_
  · exact TT.below HT.out (B := w.heap.size) (by (repeat (first | with_reducible exact Below.refl _ _ | with_reducible assumption | with_reducible refine below_drewN ?_ _ | with_reducible refine Below.drew ?_ | with_reducible refine Below.alloc ?_ (by first | omega | (simp; done) | (simp; omega)) _ | with_reducible refine Below.setCell ?_ (by first | omega | (simp; done) | (simp; omega)) _ | with_reducible refine Below.trans ?_ (Below.mono (by assumption) (by first | omega | (simp; done) | (simp; omega)))))) (Nat.le_refl _)
  rintro e2 w2 ⟨rfl, b2⟩; (try replace b2 := Below.undrew b2); obtain ⟨hc2, hf2⟩ := bcell b2; have hz2 := b2.size; (try simp at hz2); (try have z2 : w.heap.size < w2.heap.size := (by omega))
  go_wp2_with fail
  go_ret
  exact ⟨rfl, by (repeat (first | with_reducible exact Below.refl _ _ | with_reducible assumption | with_reducible refine below_drewN ?_ _ | with_reducible refine Below.drew ?_ | with_reducible refine Below.alloc ?_ (by first | omega | (simp; done) | (simp; omega)) _ | with_reducible refine Below.setCell ?_ (by first | omega | (simp; done) | (simp; omega)) _ | with_reducible refine Below.trans ?_ (Below.mono (by assumption) (by first | omega | (simp; done) | (simp; omega)))))⟩

set_option maxHeartbeats 4000000 in
theorem iPT_no (xa xb xk xc xd xl : Int) (w : World) (hT : TT w)
    (H1 : Hid (∀ w, TT w → Calls Tryd.prog 25 #[Value.agg #[Value.int IntKind.i64 xa, Value.int IntKind.i64 xb, Value.int IntKind.i64 xk, Value.int IntKind.i64 xc, Value.int IntKind.i64 xd, Value.int IntKind.i64 xl]] w (RetB (Value.bool false) w)))
    : Calls Tryd.prog 12 #[Value.agg #[Value.int IntKind.i64 xa, Value.int IntKind.i64 xb, Value.int IntKind.i64 xk, Value.int IntKind.i64 xc, Value.int IntKind.i64 xd, Value.int IntKind.i64 xl]] w (RetB (tv ([])) w) := by
  have HT := Lib.hid hT
  clear hT
  go_enter Tryd.func12, Tryd.ntmps12
  go_wp2_with fail
  refine (H1.out _ ?_).mono ?_
  · exact TT.below HT.out (B := w.heap.size) (by (repeat (first | with_reducible exact Below.refl _ _ | with_reducible assumption | with_reducible refine below_drewN ?_ _ | with_reducible refine Below.drew ?_ | with_reducible refine Below.alloc ?_ (by first | omega | (simp; done) | (simp; omega)) _ | with_reducible refine Below.setCell ?_ (by first | omega | (simp; done) | (simp; omega)) _ | with_reducible refine Below.trans ?_ (Below.mono (by assumption) (by first | omega | (simp; done) | (simp; omega)))))) (Nat.le_refl _)
  rintro e1 w1 ⟨rfl, b1⟩; (try replace b1 := Below.undrew b1); obtain ⟨hc1, hf1⟩ := bcell b1; have hz1 := b1.size; (try simp at hz1); (try have z1 : w.heap.size < w1.heap.size := (by omega))
  go_wp2_with fail
  go_ret
  exact ⟨rfl, by (repeat (first | with_reducible exact Below.refl _ _ | with_reducible assumption | with_reducible refine below_drewN ?_ _ | with_reducible refine Below.drew ?_ | with_reducible refine Below.alloc ?_ (by first | omega | (simp; done) | (simp; omega)) _ | with_reducible refine Below.setCell ?_ (by first | omega | (simp; done) | (simp; omega)) _ | with_reducible refine Below.trans ?_ (Below.mono (by assumption) (by first | omega | (simp; done) | (simp; omega)))))⟩

set_option maxHeartbeats 4000000 in
theorem iPT_ok (xa xb xk xc xd xl : Int) (X Y : List UInt8) (w : World) (hT : TT w) (hL : X.length ≤ 120 ∧ Y.length ≤ 120)
    (H1 : Hid (∀ w, TT w → Calls Tryd.prog 25 #[Value.agg #[Value.int IntKind.i64 xa, Value.int IntKind.i64 xb, Value.int IntKind.i64 xk, Value.int IntKind.i64 xc, Value.int IntKind.i64 xd, Value.int IntKind.i64 xl]] w (RetB (Value.bool true) w)))
    (H2 : Hid (∀ w, TT w → Calls Tryd.prog 22 #[Value.agg #[Value.int IntKind.i64 xa, Value.int IntKind.i64 xb, Value.int IntKind.i64 xk]] w (RetB (tv X) w)))
    (H3 : Hid (∀ w, TT w → Calls Tryd.prog 22 #[Value.agg #[Value.int IntKind.i64 xc, Value.int IntKind.i64 xd, Value.int IntKind.i64 xl]] w (RetB (tv Y) w)))
    : Calls Tryd.prog 12 #[Value.agg #[Value.int IntKind.i64 xa, Value.int IntKind.i64 xb, Value.int IntKind.i64 xk, Value.int IntKind.i64 xc, Value.int IntKind.i64 xd, Value.int IntKind.i64 xl]] w (RetB (tv ([40] ++ X ++ [44] ++ Y ++ [41])) w) := by
  have l0 : ¬ 9223372036854775807 < 1 + X.length := by omega
  have l1 : ¬ 9223372036854775807 < 1 + X.length + 1 := by omega
  have l2 : ¬ 9223372036854775807 < 1 + X.length + 1 + Y.length := by omega
  have l3 : ¬ 9223372036854775807 < 1 + X.length + 1 + Y.length + 1 := by omega
  clear hL
  have HT := Lib.hid hT
  clear hT
  go_enter Tryd.func12, Tryd.ntmps12
  go_wp2_with fail
  refine (H1.out _ ?_).mono ?_
  · exact TT.below HT.out (B := w.heap.size) (by (repeat (first | with_reducible exact Below.refl _ _ | with_reducible assumption | with_reducible refine below_drewN ?_ _ | with_reducible refine Below.drew ?_ | with_reducible refine Below.alloc ?_ (by first | omega | (simp; done) | (simp; omega)) _ | with_reducible refine Below.setCell ?_ (by first | omega | (simp; done) | (simp; omega)) _ | with_reducible refine Below.trans ?_ (Below.mono (by assumption) (by first | omega | (simp; done) | (simp; omega)))))) (Nat.le_refl _)
  rintro e1 w1 ⟨rfl, b1⟩; (try replace b1 := Below.undrew b1); obtain ⟨hc1, hf1⟩ := bcell b1; have hz1 := b1.size; (try simp at hz1); (try have z1 : w.heap.size < w1.heap.size := (by omega))
  go_wp2_with fail
  go_region_held3 (fun w' => w'.cell? ⟨w.heap.size, 0, none⟩ = some (Value.int IntKind.i64 xa) ∧ w'.cell? ⟨w.heap.size, 1, none⟩ = some (Value.int IntKind.i64 xb) ∧ w'.cell? ⟨w.heap.size, 2, none⟩ = some (Value.int IntKind.i64 xk) ∧ w'.cell? ⟨w.heap.size, 3, none⟩ = some (Value.int IntKind.i64 xc) ∧ w'.cell? ⟨w.heap.size, 4, none⟩ = some (Value.int IntKind.i64 xd) ∧ w'.cell? ⟨w.heap.size, 5, none⟩ = some (Value.int IntKind.i64 xl)) ((first | (go_simp; done) | (simp [*]; done)))
    ((first
    | (go_at_call_of 22 (Value.agg #[Value.int IntKind.i64 xa, Value.int IntKind.i64 xb, Value.int IntKind.i64 xk]); refine (H2.out _ ?_).mono ?_; exact TT.below HT.out (B := w.heap.size) (by (repeat (first | with_reducible exact Below.refl _ _ | with_reducible assumption | with_reducible refine below_drewN ?_ _ | with_reducible refine Below.drew ?_ | with_reducible refine Below.alloc ?_ (by first | omega | (simp; done) | (simp; omega)) _ | with_reducible refine Below.setCell ?_ (by first | omega | (simp; done) | (simp; omega)) _ | with_reducible refine Below.trans ?_ (Below.mono (by assumption) (by first | omega | (simp; done) | (simp; omega)))))) (Nat.le_refl _); rintro e2 w2 ⟨rfl, b2⟩; (try replace b2 := Below.undrew b2); obtain ⟨hc2, hf2⟩ := bcell b2; have hz2 := b2.size; (try simp at hz2); (try have z2 : w.heap.size < w2.heap.size := (by omega)))
    | (go_at_call_of 22 (Value.agg #[Value.int IntKind.i64 xc, Value.int IntKind.i64 xd, Value.int IntKind.i64 xl]); refine (H3.out _ ?_).mono ?_; exact TT.below HT.out (B := w.heap.size) (by (repeat (first | with_reducible exact Below.refl _ _ | with_reducible assumption | with_reducible refine below_drewN ?_ _ | with_reducible refine Below.drew ?_ | with_reducible refine Below.alloc ?_ (by first | omega | (simp; done) | (simp; omega)) _ | with_reducible refine Below.setCell ?_ (by first | omega | (simp; done) | (simp; omega)) _ | with_reducible refine Below.trans ?_ (Below.mono (by assumption) (by first | omega | (simp; done) | (simp; omega)))))) (Nat.le_refl _); rintro e3 w3 ⟨rfl, b3⟩; (try replace b3 := Below.undrew b3); obtain ⟨hc3, hf3⟩ := bcell b3; have hz3 := b3.size; (try simp at hz3); (try have z3 : w.heap.size < w3.heap.size := (by omega)))))
  go_wp2_with fail
  go_ret
  refine ⟨?_, by (repeat (first | with_reducible exact Below.refl _ _ | with_reducible assumption | with_reducible refine below_drewN ?_ _ | with_reducible refine Below.drew ?_ | with_reducible refine Below.alloc ?_ (by first | omega | (simp; done) | (simp; omega)) _ | with_reducible refine Below.setCell ?_ (by first | omega | (simp; done) | (simp; omega)) _ | with_reducible refine Below.trans ?_ (Below.mono (by assumption) (by first | omega | (simp; done) | (simp; omega)))))⟩
  show Ending.returned (.string (((((⟨[40].toArray⟩ : ByteArray) ++ ⟨X.toArray⟩ : ByteArray) ++ ⟨[44].toArray⟩ : ByteArray) ++ ⟨Y.toArray⟩ : ByteArray) ++ ⟨[41].toArray⟩ : ByteArray)) = _
  (rw [ba_append, ba_append, ba_append, ba_append]) <;> rfl

set_option maxHeartbeats 4000000 in
theorem s02T (xa xb xk xc xd xl : Int) (X Y : List UInt8) (w : World) (hT : TT w) (hL : X.length ≤ 120 ∧ Y.length ≤ 120)
    (H1 : Hid (∀ w, TT w → Calls Tryd.prog 20 #[Value.agg #[Value.int IntKind.i64 xa, Value.int IntKind.i64 xb, Value.int IntKind.i64 xk]] w (RetB (tv X) w)))
    (H2 : Hid (∀ w, TT w → Calls Tryd.prog 20 #[Value.agg #[Value.int IntKind.i64 xc, Value.int IntKind.i64 xd, Value.int IntKind.i64 xl]] w (RetB (tv Y) w)))
    : Calls Tryd.prog 24 #[Value.agg #[Value.int IntKind.i64 xa, Value.int IntKind.i64 xb, Value.int IntKind.i64 xk, Value.int IntKind.i64 xc, Value.int IntKind.i64 xd, Value.int IntKind.i64 xl]] w (RetB (tv ([40] ++ X ++ [44] ++ Y ++ [41])) w) := by
  have l0 : ¬ 9223372036854775807 < 1 + X.length := by omega
  have l1 : ¬ 9223372036854775807 < 1 + X.length + 1 := by omega
  have l2 : ¬ 9223372036854775807 < 1 + X.length + 1 + Y.length := by omega
  have l3 : ¬ 9223372036854775807 < 1 + X.length + 1 + Y.length + 1 := by omega
  clear hL
  have HT := Lib.hid hT
  clear hT
  go_enter Tryd.func24, Tryd.ntmps24
  go_wp2_with fail
  go_region_held3 (fun w' => w'.cell? ⟨w.heap.size, 0, none⟩ = some (Value.int IntKind.i64 xa) ∧ w'.cell? ⟨w.heap.size, 1, none⟩ = some (Value.int IntKind.i64 xb) ∧ w'.cell? ⟨w.heap.size, 2, none⟩ = some (Value.int IntKind.i64 xk) ∧ w'.cell? ⟨w.heap.size, 3, none⟩ = some (Value.int IntKind.i64 xc) ∧ w'.cell? ⟨w.heap.size, 4, none⟩ = some (Value.int IntKind.i64 xd) ∧ w'.cell? ⟨w.heap.size, 5, none⟩ = some (Value.int IntKind.i64 xl)) ((first | (go_simp; done) | (simp [*]; done)))
    ((first
    | (go_at_call_of 20 (Value.agg #[Value.int IntKind.i64 xa, Value.int IntKind.i64 xb, Value.int IntKind.i64 xk]); refine (H1.out _ ?_).mono ?_; exact TT.below HT.out (B := w.heap.size) (by (repeat (first | with_reducible exact Below.refl _ _ | with_reducible assumption | with_reducible refine below_drewN ?_ _ | with_reducible refine Below.drew ?_ | with_reducible refine Below.alloc ?_ (by first | omega | (simp; done) | (simp; omega)) _ | with_reducible refine Below.setCell ?_ (by first | omega | (simp; done) | (simp; omega)) _ | with_reducible refine Below.trans ?_ (Below.mono (by assumption) (by first | omega | (simp; done) | (simp; omega)))))) (Nat.le_refl _); rintro e1 w1 ⟨rfl, b1⟩; (try replace b1 := Below.undrew b1); obtain ⟨hc1, hf1⟩ := bcell b1; have hz1 := b1.size; (try simp at hz1); (try have z1 : w.heap.size < w1.heap.size := (by omega)))
    | (go_at_call_of 20 (Value.agg #[Value.int IntKind.i64 xc, Value.int IntKind.i64 xd, Value.int IntKind.i64 xl]); refine (H2.out _ ?_).mono ?_; exact TT.below HT.out (B := w.heap.size) (by (repeat (first | with_reducible exact Below.refl _ _ | with_reducible assumption | with_reducible refine below_drewN ?_ _ | with_reducible refine Below.drew ?_ | with_reducible refine Below.alloc ?_ (by first | omega | (simp; done) | (simp; omega)) _ | with_reducible refine Below.setCell ?_ (by first | omega | (simp; done) | (simp; omega)) _ | with_reducible refine Below.trans ?_ (Below.mono (by assumption) (by first | omega | (simp; done) | (simp; omega)))))) (Nat.le_refl _); rintro e2 w2 ⟨rfl, b2⟩; (try replace b2 := Below.undrew b2); obtain ⟨hc2, hf2⟩ := bcell b2; have hz2 := b2.size; (try simp at hz2); (try have z2 : w.heap.size < w2.heap.size := (by omega)))))
  go_wp2_with fail
  go_ret
  refine ⟨?_, by (repeat (first | with_reducible exact Below.refl _ _ | with_reducible assumption | with_reducible refine below_drewN ?_ _ | with_reducible refine Below.drew ?_ | with_reducible refine Below.alloc ?_ (by first | omega | (simp; done) | (simp; omega)) _ | with_reducible refine Below.setCell ?_ (by first | omega | (simp; done) | (simp; omega)) _ | with_reducible refine Below.trans ?_ (Below.mono (by assumption) (by first | omega | (simp; done) | (simp; omega)))))⟩
  show Ending.returned (.string (((((⟨[40].toArray⟩ : ByteArray) ++ ⟨X.toArray⟩ : ByteArray) ++ ⟨[44].toArray⟩ : ByteArray) ++ ⟨Y.toArray⟩ : ByteArray) ++ ⟨[41].toArray⟩ : ByteArray)) = _
  (rw [ba_append, ba_append, ba_append, ba_append]) <;> rfl

set_option maxHeartbeats 4000000 in
theorem sPT_no (xa xb xk xc xd xl : Int) (w : World) (hT : TT w)
    (H1 : Hid (∀ w, TT w → Calls Tryd.prog 23 #[Value.agg #[Value.int IntKind.i64 xa, Value.int IntKind.i64 xb, Value.int IntKind.i64 xk, Value.int IntKind.i64 xc, Value.int IntKind.i64 xd, Value.int IntKind.i64 xl]] w (RetB (Value.bool false) w)))
    : Calls Tryd.prog 10 #[Value.agg #[Value.int IntKind.i64 xa, Value.int IntKind.i64 xb, Value.int IntKind.i64 xk, Value.int IntKind.i64 xc, Value.int IntKind.i64 xd, Value.int IntKind.i64 xl]] w (RetB (tv ([])) w) := by
  have HT := Lib.hid hT
  clear hT
  go_enter Tryd.func10, Tryd.ntmps10
  go_wp2_with fail
  refine (H1.out _ ?_).mono ?_
  · exact TT.below HT.out (B := w.heap.size) (by (repeat (first | with_reducible exact Below.refl _ _ | with_reducible assumption | with_reducible refine below_drewN ?_ _ | with_reducible refine Below.drew ?_ | with_reducible refine Below.alloc ?_ (by first | omega | (simp; done) | (simp; omega)) _ | with_reducible refine Below.setCell ?_ (by first | omega | (simp; done) | (simp; omega)) _ | with_reducible refine Below.trans ?_ (Below.mono (by assumption) (by first | omega | (simp; done) | (simp; omega)))))) (Nat.le_refl _)
  rintro e1 w1 ⟨rfl, b1⟩; (try replace b1 := Below.undrew b1); obtain ⟨hc1, hf1⟩ := bcell b1; have hz1 := b1.size; (try simp at hz1); (try have z1 : w.heap.size < w1.heap.size := (by omega))
  go_wp2_with fail
  go_ret
  exact ⟨rfl, by (repeat (first | with_reducible exact Below.refl _ _ | with_reducible assumption | with_reducible refine below_drewN ?_ _ | with_reducible refine Below.drew ?_ | with_reducible refine Below.alloc ?_ (by first | omega | (simp; done) | (simp; omega)) _ | with_reducible refine Below.setCell ?_ (by first | omega | (simp; done) | (simp; omega)) _ | with_reducible refine Below.trans ?_ (Below.mono (by assumption) (by first | omega | (simp; done) | (simp; omega)))))⟩

set_option maxHeartbeats 4000000 in
theorem sPT_ok (xa xb xk xc xd xl : Int) (P : List UInt8) (w : World) (hT : TT w)
    (H1 : Hid (∀ w, TT w → Calls Tryd.prog 23 #[Value.agg #[Value.int IntKind.i64 xa, Value.int IntKind.i64 xb, Value.int IntKind.i64 xk, Value.int IntKind.i64 xc, Value.int IntKind.i64 xd, Value.int IntKind.i64 xl]] w (RetB (Value.bool true) w)))
    (H2 : Hid (∀ w, TT w → Calls Tryd.prog 24 #[Value.agg #[Value.int IntKind.i64 xa, Value.int IntKind.i64 xb, Value.int IntKind.i64 xk, Value.int IntKind.i64 xc, Value.int IntKind.i64 xd, Value.int IntKind.i64 xl]] w (RetB (tv P) w)))
    : Calls Tryd.prog 10 #[Value.agg #[Value.int IntKind.i64 xa, Value.int IntKind.i64 xb, Value.int IntKind.i64 xk, Value.int IntKind.i64 xc, Value.int IntKind.i64 xd, Value.int IntKind.i64 xl]] w (RetB (tv (P)) w) := by
  have HT := Lib.hid hT
  clear hT
  go_enter Tryd.func10, Tryd.ntmps10
  go_wp2_with fail
  refine (H1.out _ ?_).mono ?_
  · exact TT.below HT.out (B := w.heap.size) (by (repeat (first | with_reducible exact Below.refl _ _ | with_reducible assumption | with_reducible refine below_drewN ?_ _ | with_reducible refine Below.drew ?_ | with_reducible refine Below.alloc ?_ (by first | omega | (simp; done) | (simp; omega)) _ | with_reducible refine Below.setCell ?_ (by first | omega | (simp; done) | (simp; omega)) _ | with_reducible refine Below.trans ?_ (Below.mono (by assumption) (by first | omega | (simp; done) | (simp; omega)))))) (Nat.le_refl _)
  rintro e1 w1 ⟨rfl, b1⟩; (try replace b1 := Below.undrew b1); obtain ⟨hc1, hf1⟩ := bcell b1; have hz1 := b1.size; (try simp at hz1); (try have z1 : w.heap.size < w1.heap.size := (by omega))
  go_wp2_with fail
  refine (H2.out _ ?_).mono ?_
  · exact TT.below HT.out (B := w.heap.size) (by (repeat (first | with_reducible exact Below.refl _ _ | with_reducible assumption | with_reducible refine below_drewN ?_ _ | with_reducible refine Below.drew ?_ | with_reducible refine Below.alloc ?_ (by first | omega | (simp; done) | (simp; omega)) _ | with_reducible refine Below.setCell ?_ (by first | omega | (simp; done) | (simp; omega)) _ | with_reducible refine Below.trans ?_ (Below.mono (by assumption) (by first | omega | (simp; done) | (simp; omega)))))) (Nat.le_refl _)
  rintro e2 w2 ⟨rfl, b2⟩; (try replace b2 := Below.undrew b2); obtain ⟨hc2, hf2⟩ := bcell b2; have hz2 := b2.size; (try simp at hz2); (try have z2 : w.heap.size < w2.heap.size := (by omega))
  go_wp2_with fail
  go_ret
  exact ⟨rfl, by (repeat (first | with_reducible exact Below.refl _ _ | with_reducible assumption | with_reducible refine below_drewN ?_ _ | with_reducible refine Below.drew ?_ | with_reducible refine Below.alloc ?_ (by first | omega | (simp; done) | (simp; omega)) _ | with_reducible refine Below.setCell ?_ (by first | omega | (simp; done) | (simp; omega)) _ | with_reducible refine Below.trans ?_ (Below.mono (by assumption) (by first | omega | (simp; done) | (simp; omega)))))⟩

set_option maxHeartbeats 4000000 in
theorem iLT_no (d xa xb xk : Int) (w : World) (hT : TT w)
    (H1 : Hid (∀ w, TT w → Calls Tryd.prog 28 #[Value.agg #[Value.int IntKind.i64 d, Value.int IntKind.i64 xa, Value.int IntKind.i64 xb, Value.int IntKind.i64 xk]] w (RetB (Value.bool false) w)))
    : Calls Tryd.prog 15 #[Value.agg #[Value.int IntKind.i64 d, Value.int IntKind.i64 xa, Value.int IntKind.i64 xb, Value.int IntKind.i64 xk]] w (RetB (tv ([])) w) := by
  have HT := Lib.hid hT
  clear hT
  go_enter Tryd.func15, Tryd.ntmps15
  go_wp2_with fail
  refine (H1.out _ ?_).mono ?_
  · exact TT.below HT.out (B := w.heap.size) (by (repeat (first | with_reducible exact Below.refl _ _ | with_reducible assumption | with_reducible refine below_drewN ?_ _ | with_reducible refine Below.drew ?_ | with_reducible refine Below.alloc ?_ (by first | omega | (simp; done) | (simp; omega)) _ | with_reducible refine Below.setCell ?_ (by first | omega | (simp; done) | (simp; omega)) _ | with_reducible refine Below.trans ?_ (Below.mono (by assumption) (by first | omega | (simp; done) | (simp; omega)))))) (Nat.le_refl _)
  rintro e1 w1 ⟨rfl, b1⟩; (try replace b1 := Below.undrew b1); obtain ⟨hc1, hf1⟩ := bcell b1; have hz1 := b1.size; (try simp at hz1); (try have z1 : w.heap.size < w1.heap.size := (by omega))
  go_wp2_with fail
  go_ret
  exact ⟨rfl, by (repeat (first | with_reducible exact Below.refl _ _ | with_reducible assumption | with_reducible refine below_drewN ?_ _ | with_reducible refine Below.drew ?_ | with_reducible refine Below.alloc ?_ (by first | omega | (simp; done) | (simp; omega)) _ | with_reducible refine Below.setCell ?_ (by first | omega | (simp; done) | (simp; omega)) _ | with_reducible refine Below.trans ?_ (Below.mono (by assumption) (by first | omega | (simp; done) | (simp; omega)))))⟩

set_option maxHeartbeats 4000000 in
theorem iLT_ok (d xa xb xk : Int) (D X : List UInt8) (w : World) (hT : TT w) (hL : D.length ≤ 120 ∧ X.length ≤ 120)
    (H1 : Hid (∀ w, TT w → Calls Tryd.prog 28 #[Value.agg #[Value.int IntKind.i64 d, Value.int IntKind.i64 xa, Value.int IntKind.i64 xb, Value.int IntKind.i64 xk]] w (RetB (Value.bool true) w)))
    (H2 : Hid (∀ w, TT w → Calls Tryd.prog 29 #[Value.int IntKind.i64 d, Value.int IntKind.i64 10] w (RetB (tv D) w)))
    (H3 : Hid (∀ w, TT w → Calls Tryd.prog 22 #[Value.agg #[Value.int IntKind.i64 xa, Value.int IntKind.i64 xb, Value.int IntKind.i64 xk]] w (RetB (tv X) w)))
    : Calls Tryd.prog 15 #[Value.agg #[Value.int IntKind.i64 d, Value.int IntKind.i64 xa, Value.int IntKind.i64 xb, Value.int IntKind.i64 xk]] w (RetB (tv (D ++ [64] ++ X)) w) := by
  have l0 : ¬ 9223372036854775807 < D.length + 1 := by omega
  have l1 : ¬ 9223372036854775807 < D.length + 1 + X.length := by omega
  clear hL
  have HT := Lib.hid hT
  clear hT
  go_enter Tryd.func15, Tryd.ntmps15
  go_wp2_with fail
  refine (H1.out _ ?_).mono ?_
  · exact TT.below HT.out (B := w.heap.size) (by (repeat (first | with_reducible exact Below.refl _ _ | with_reducible assumption | with_reducible refine below_drewN ?_ _ | with_reducible refine Below.drew ?_ | with_reducible refine Below.alloc ?_ (by first | omega | (simp; done) | (simp; omega)) _ | with_reducible refine Below.setCell ?_ (by first | omega | (simp; done) | (simp; omega)) _ | with_reducible refine Below.trans ?_ (Below.mono (by assumption) (by first | omega | (simp; done) | (simp; omega)))))) (Nat.le_refl _)
  rintro e1 w1 ⟨rfl, b1⟩; (try replace b1 := Below.undrew b1); obtain ⟨hc1, hf1⟩ := bcell b1; have hz1 := b1.size; (try simp at hz1); (try have z1 : w.heap.size < w1.heap.size := (by omega))
  go_wp2_with fail
  go_region_held3 (fun w' => w'.cell? ⟨w.heap.size, 0, none⟩ = some (Value.int IntKind.i64 d) ∧ w'.cell? ⟨w.heap.size, 1, none⟩ = some (Value.int IntKind.i64 xa) ∧ w'.cell? ⟨w.heap.size, 2, none⟩ = some (Value.int IntKind.i64 xb) ∧ w'.cell? ⟨w.heap.size, 3, none⟩ = some (Value.int IntKind.i64 xk)) ((first | (go_simp; done) | (simp [*]; done)))
    ((first
    | (go_at_call 29; refine (H2.out _ ?_).mono ?_; exact TT.below HT.out (B := w.heap.size) (by (repeat (first | with_reducible exact Below.refl _ _ | with_reducible assumption | with_reducible refine below_drewN ?_ _ | with_reducible refine Below.drew ?_ | with_reducible refine Below.alloc ?_ (by first | omega | (simp; done) | (simp; omega)) _ | with_reducible refine Below.setCell ?_ (by first | omega | (simp; done) | (simp; omega)) _ | with_reducible refine Below.trans ?_ (Below.mono (by assumption) (by first | omega | (simp; done) | (simp; omega)))))) (Nat.le_refl _); rintro e2 w2 ⟨rfl, b2⟩; (try replace b2 := Below.undrew b2); obtain ⟨hc2, hf2⟩ := bcell b2; have hz2 := b2.size; (try simp at hz2); (try have z2 : w.heap.size < w2.heap.size := (by omega)))
    | (go_at_call 22; refine (H3.out _ ?_).mono ?_; exact TT.below HT.out (B := w.heap.size) (by (repeat (first | with_reducible exact Below.refl _ _ | with_reducible assumption | with_reducible refine below_drewN ?_ _ | with_reducible refine Below.drew ?_ | with_reducible refine Below.alloc ?_ (by first | omega | (simp; done) | (simp; omega)) _ | with_reducible refine Below.setCell ?_ (by first | omega | (simp; done) | (simp; omega)) _ | with_reducible refine Below.trans ?_ (Below.mono (by assumption) (by first | omega | (simp; done) | (simp; omega)))))) (Nat.le_refl _); rintro e3 w3 ⟨rfl, b3⟩; (try replace b3 := Below.undrew b3); obtain ⟨hc3, hf3⟩ := bcell b3; have hz3 := b3.size; (try simp at hz3); (try have z3 : w.heap.size < w3.heap.size := (by omega)))))
  go_wp2_with fail
  go_ret
  refine ⟨?_, by (repeat (first | with_reducible exact Below.refl _ _ | with_reducible assumption | with_reducible refine below_drewN ?_ _ | with_reducible refine Below.drew ?_ | with_reducible refine Below.alloc ?_ (by first | omega | (simp; done) | (simp; omega)) _ | with_reducible refine Below.setCell ?_ (by first | omega | (simp; done) | (simp; omega)) _ | with_reducible refine Below.trans ?_ (Below.mono (by assumption) (by first | omega | (simp; done) | (simp; omega)))))⟩
  show Ending.returned (.string (((⟨D.toArray⟩ : ByteArray) ++ ⟨[64].toArray⟩ : ByteArray) ++ ⟨X.toArray⟩ : ByteArray)) = _
  (rw [ba_append, ba_append]) <;> rfl

set_option maxHeartbeats 4000000 in
theorem sLT_no (d xa xb xk : Int) (w : World) (hT : TT w)
    (H1 : Hid (∀ w, TT w → Calls Tryd.prog 26 #[Value.agg #[Value.int IntKind.i64 d, Value.int IntKind.i64 xa, Value.int IntKind.i64 xb, Value.int IntKind.i64 xk]] w (RetB (Value.bool false) w)))
    : Calls Tryd.prog 13 #[Value.agg #[Value.int IntKind.i64 d, Value.int IntKind.i64 xa, Value.int IntKind.i64 xb, Value.int IntKind.i64 xk]] w (RetB (tv ([])) w) := by
  have HT := Lib.hid hT
  clear hT
  go_enter Tryd.func13, Tryd.ntmps13
  go_wp2_with fail
  refine (H1.out _ ?_).mono ?_
  · exact TT.below HT.out (B := w.heap.size) (by (repeat (first | with_reducible exact Below.refl _ _ | with_reducible assumption | with_reducible refine below_drewN ?_ _ | with_reducible refine Below.drew ?_ | with_reducible refine Below.alloc ?_ (by first | omega | (simp; done) | (simp; omega)) _ | with_reducible refine Below.setCell ?_ (by first | omega | (simp; done) | (simp; omega)) _ | with_reducible refine Below.trans ?_ (Below.mono (by assumption) (by first | omega | (simp; done) | (simp; omega)))))) (Nat.le_refl _)
  rintro e1 w1 ⟨rfl, b1⟩; (try replace b1 := Below.undrew b1); obtain ⟨hc1, hf1⟩ := bcell b1; have hz1 := b1.size; (try simp at hz1); (try have z1 : w.heap.size < w1.heap.size := (by omega))
  go_wp2_with fail
  go_ret
  exact ⟨rfl, by (repeat (first | with_reducible exact Below.refl _ _ | with_reducible assumption | with_reducible refine below_drewN ?_ _ | with_reducible refine Below.drew ?_ | with_reducible refine Below.alloc ?_ (by first | omega | (simp; done) | (simp; omega)) _ | with_reducible refine Below.setCell ?_ (by first | omega | (simp; done) | (simp; omega)) _ | with_reducible refine Below.trans ?_ (Below.mono (by assumption) (by first | omega | (simp; done) | (simp; omega)))))⟩

set_option maxHeartbeats 4000000 in
theorem sLT_ok (d xa xb xk : Int) (D X : List UInt8) (w : World) (hT : TT w) (hL : D.length ≤ 120 ∧ X.length ≤ 120)
    (H1 : Hid (∀ w, TT w → Calls Tryd.prog 26 #[Value.agg #[Value.int IntKind.i64 d, Value.int IntKind.i64 xa, Value.int IntKind.i64 xb, Value.int IntKind.i64 xk]] w (RetB (Value.bool true) w)))
    (H2 : Hid (∀ w, TT w → Calls Tryd.prog 27 #[Value.int IntKind.i64 d] w (RetB (tv D) w)))
    (H3 : Hid (∀ w, TT w → Calls Tryd.prog 20 #[Value.agg #[Value.int IntKind.i64 xa, Value.int IntKind.i64 xb, Value.int IntKind.i64 xk]] w (RetB (tv X) w)))
    : Calls Tryd.prog 13 #[Value.agg #[Value.int IntKind.i64 d, Value.int IntKind.i64 xa, Value.int IntKind.i64 xb, Value.int IntKind.i64 xk]] w (RetB (tv (D ++ [64] ++ X)) w) := by
  have l0 : ¬ 9223372036854775807 < D.length + 1 := by omega
  have l1 : ¬ 9223372036854775807 < D.length + 1 + X.length := by omega
  clear hL
  have HT := Lib.hid hT
  clear hT
  go_enter Tryd.func13, Tryd.ntmps13
  go_wp2_with fail
  refine (H1.out _ ?_).mono ?_
  · exact TT.below HT.out (B := w.heap.size) (by (repeat (first | with_reducible exact Below.refl _ _ | with_reducible assumption | with_reducible refine below_drewN ?_ _ | with_reducible refine Below.drew ?_ | with_reducible refine Below.alloc ?_ (by first | omega | (simp; done) | (simp; omega)) _ | with_reducible refine Below.setCell ?_ (by first | omega | (simp; done) | (simp; omega)) _ | with_reducible refine Below.trans ?_ (Below.mono (by assumption) (by first | omega | (simp; done) | (simp; omega)))))) (Nat.le_refl _)
  rintro e1 w1 ⟨rfl, b1⟩; (try replace b1 := Below.undrew b1); obtain ⟨hc1, hf1⟩ := bcell b1; have hz1 := b1.size; (try simp at hz1); (try have z1 : w.heap.size < w1.heap.size := (by omega))
  go_wp2_with fail
  go_region_held3 (fun w' => w'.cell? ⟨w.heap.size, 0, none⟩ = some (Value.int IntKind.i64 d) ∧ w'.cell? ⟨w.heap.size, 1, none⟩ = some (Value.int IntKind.i64 xa) ∧ w'.cell? ⟨w.heap.size, 2, none⟩ = some (Value.int IntKind.i64 xb) ∧ w'.cell? ⟨w.heap.size, 3, none⟩ = some (Value.int IntKind.i64 xk)) ((first | (go_simp; done) | (simp [*]; done)))
    ((first
    | (go_at_call 27; refine (H2.out _ ?_).mono ?_; exact TT.below HT.out (B := w.heap.size) (by (repeat (first | with_reducible exact Below.refl _ _ | with_reducible assumption | with_reducible refine below_drewN ?_ _ | with_reducible refine Below.drew ?_ | with_reducible refine Below.alloc ?_ (by first | omega | (simp; done) | (simp; omega)) _ | with_reducible refine Below.setCell ?_ (by first | omega | (simp; done) | (simp; omega)) _ | with_reducible refine Below.trans ?_ (Below.mono (by assumption) (by first | omega | (simp; done) | (simp; omega)))))) (Nat.le_refl _); rintro e2 w2 ⟨rfl, b2⟩; (try replace b2 := Below.undrew b2); obtain ⟨hc2, hf2⟩ := bcell b2; have hz2 := b2.size; (try simp at hz2); (try have z2 : w.heap.size < w2.heap.size := (by omega)))
    | (go_at_call 20; refine (H3.out _ ?_).mono ?_; exact TT.below HT.out (B := w.heap.size) (by (repeat (first | with_reducible exact Below.refl _ _ | with_reducible assumption | with_reducible refine below_drewN ?_ _ | with_reducible refine Below.drew ?_ | with_reducible refine Below.alloc ?_ (by first | omega | (simp; done) | (simp; omega)) _ | with_reducible refine Below.setCell ?_ (by first | omega | (simp; done) | (simp; omega)) _ | with_reducible refine Below.trans ?_ (Below.mono (by assumption) (by first | omega | (simp; done) | (simp; omega)))))) (Nat.le_refl _); rintro e3 w3 ⟨rfl, b3⟩; (try replace b3 := Below.undrew b3); obtain ⟨hc3, hf3⟩ := bcell b3; have hz3 := b3.size; (try simp at hz3); (try have z3 : w.heap.size < w3.heap.size := (by omega)))))
  go_wp2_with fail
  go_ret
  refine ⟨?_, by (repeat (first | with_reducible exact Below.refl _ _ | with_reducible assumption | with_reducible refine below_drewN ?_ _ | with_reducible refine Below.drew ?_ | with_reducible refine Below.alloc ?_ (by first | omega | (simp; done) | (simp; omega)) _ | with_reducible refine Below.setCell ?_ (by first | omega | (simp; done) | (simp; omega)) _ | with_reducible refine Below.trans ?_ (Below.mono (by assumption) (by first | omega | (simp; done) | (simp; omega)))))⟩
  show Ending.returned (.string (((⟨D.toArray⟩ : ByteArray) ++ ⟨[64].toArray⟩ : ByteArray) ++ ⟨X.toArray⟩ : ByteArray)) = _
  (rw [ba_append, ba_append]) <;> rfl

set_option maxHeartbeats 4000000 in
theorem iMT_no (t ma mb mk mc md ml : Int) (f : Bool) (w : World) (hT : TT w)
    (H1 : Hid (∀ w, TT w → Calls Tryd.prog 32 #[Value.agg #[Value.int IntKind.i64 t, Value.bool f, Value.int IntKind.i64 ma, Value.int IntKind.i64 mb, Value.int IntKind.i64 mk, Value.int IntKind.i64 mc, Value.int IntKind.i64 md, Value.int IntKind.i64 ml]] w (RetB (Value.bool false) w)))
    : Calls Tryd.prog 18 #[Value.agg #[Value.int IntKind.i64 t, Value.bool f, Value.int IntKind.i64 ma, Value.int IntKind.i64 mb, Value.int IntKind.i64 mk, Value.int IntKind.i64 mc, Value.int IntKind.i64 md, Value.int IntKind.i64 ml]] w (RetB (tv ([])) w) := by
  have HT := Lib.hid hT
  clear hT
  go_enter Tryd.func18, Tryd.ntmps18
  go_wp2_with fail
  refine (H1.out _ ?_).mono ?_
  · exact TT.below HT.out (B := w.heap.size) (by (repeat (first | with_reducible exact Below.refl _ _ | with_reducible assumption | with_reducible refine below_drewN ?_ _ | with_reducible refine Below.drew ?_ | with_reducible refine Below.alloc ?_ (by first | omega | (simp; done) | (simp; omega)) _ | with_reducible refine Below.setCell ?_ (by first | omega | (simp; done) | (simp; omega)) _ | with_reducible refine Below.trans ?_ (Below.mono (by assumption) (by first | omega | (simp; done) | (simp; omega)))))) (Nat.le_refl _)
  rintro e1 w1 ⟨rfl, b1⟩; (try replace b1 := Below.undrew b1); obtain ⟨hc1, hf1⟩ := bcell b1; have hz1 := b1.size; (try simp at hz1); (try have z1 : w.heap.size < w1.heap.size := (by omega))
  go_wp2_with fail
  go_ret
  exact ⟨rfl, by (repeat (first | with_reducible exact Below.refl _ _ | with_reducible assumption | with_reducible refine below_drewN ?_ _ | with_reducible refine Below.drew ?_ | with_reducible refine Below.alloc ?_ (by first | omega | (simp; done) | (simp; omega)) _ | with_reducible refine Below.setCell ?_ (by first | omega | (simp; done) | (simp; omega)) _ | with_reducible refine Below.trans ?_ (Below.mono (by assumption) (by first | omega | (simp; done) | (simp; omega)))))⟩

set_option maxHeartbeats 4000000 in
theorem iMT_false (t ma mb mk mc md ml : Int) (D P : List UInt8) (w : World) (hT : TT w) (hL : D.length ≤ 120 ∧ P.length ≤ 120)
    (H1 : Hid (∀ w, TT w → Calls Tryd.prog 32 #[Value.agg #[Value.int IntKind.i64 t, Value.bool false, Value.int IntKind.i64 ma, Value.int IntKind.i64 mb, Value.int IntKind.i64 mk, Value.int IntKind.i64 mc, Value.int IntKind.i64 md, Value.int IntKind.i64 ml]] w (RetB (Value.bool true) w)))
    (H2 : Hid (∀ w, TT w → Calls Tryd.prog 29 #[Value.int IntKind.i64 t, Value.int IntKind.i64 10] w (RetB (tv D) w)))
    (H3 : Hid (∀ w, TT w → Calls Tryd.prog 33 #[Value.agg #[Value.int IntKind.i64 t, Value.bool false, Value.int IntKind.i64 ma, Value.int IntKind.i64 mb, Value.int IntKind.i64 mk, Value.int IntKind.i64 mc, Value.int IntKind.i64 md, Value.int IntKind.i64 ml]] w (RetB (Value.agg #[Value.int IntKind.i64 ma, Value.int IntKind.i64 mb, Value.int IntKind.i64 mk, Value.int IntKind.i64 mc, Value.int IntKind.i64 md, Value.int IntKind.i64 ml]) w)))
    (H4 : Hid (∀ w, TT w → Calls Tryd.prog 12 #[Value.agg #[Value.int IntKind.i64 ma, Value.int IntKind.i64 mb, Value.int IntKind.i64 mk, Value.int IntKind.i64 mc, Value.int IntKind.i64 md, Value.int IntKind.i64 ml]] w (RetB (tv P) w)))
    : Calls Tryd.prog 18 #[Value.agg #[Value.int IntKind.i64 t, Value.bool false, Value.int IntKind.i64 ma, Value.int IntKind.i64 mb, Value.int IntKind.i64 mk, Value.int IntKind.i64 mc, Value.int IntKind.i64 md, Value.int IntKind.i64 ml]] w (RetB (tv ([114] ++ D ++ [32] ++ P)) w) := by
  have l0 : ¬ 9223372036854775807 < 1 + D.length := by omega
  have l1 : ¬ 9223372036854775807 < 1 + D.length + 1 := by omega
  have l2 : ¬ 9223372036854775807 < 1 + D.length + 1 + P.length := by omega
  clear hL
  have HT := Lib.hid hT
  clear hT
  go_enter Tryd.func18, Tryd.ntmps18
  go_wp2_with fail
  refine (H1.out _ ?_).mono ?_
  · exact TT.below HT.out (B := w.heap.size) (by (repeat (first | with_reducible exact Below.refl _ _ | with_reducible assumption | with_reducible refine below_drewN ?_ _ | with_reducible refine Below.drew ?_ | with_reducible refine Below.alloc ?_ (by first | omega | (simp; done) | (simp; omega)) _ | with_reducible refine Below.setCell ?_ (by first | omega | (simp; done) | (simp; omega)) _ | with_reducible refine Below.trans ?_ (Below.mono (by assumption) (by first | omega | (simp; done) | (simp; omega)))))) (Nat.le_refl _)
  rintro e1 w1 ⟨rfl, b1⟩; (try replace b1 := Below.undrew b1); obtain ⟨hc1, hf1⟩ := bcell b1; have hz1 := b1.size; (try simp at hz1); (try have z1 : w.heap.size < w1.heap.size := (by omega))
  go_wp2_with fail
  go_region_held3 (fun w' => w'.cell? ⟨w.heap.size, 0, none⟩ = some (Value.int IntKind.i64 t) ∧ w'.cell? ⟨w.heap.size, 1, none⟩ = some (Value.bool false) ∧ w'.cell? ⟨w.heap.size, 2, none⟩ = some (Value.int IntKind.i64 ma) ∧ w'.cell? ⟨w.heap.size, 3, none⟩ = some (Value.int IntKind.i64 mb) ∧ w'.cell? ⟨w.heap.size, 4, none⟩ = some (Value.int IntKind.i64 mk) ∧ w'.cell? ⟨w.heap.size, 5, none⟩ = some (Value.int IntKind.i64 mc) ∧ w'.cell? ⟨w.heap.size, 6, none⟩ = some (Value.int IntKind.i64 md) ∧ w'.cell? ⟨w.heap.size, 7, none⟩ = some (Value.int IntKind.i64 ml)) ((first | (go_simp; done) | (simp [*]; done)))
    ((first
    | (go_at_call 29; refine (H2.out _ ?_).mono ?_; exact TT.below HT.out (B := w.heap.size) (by (repeat (first | with_reducible exact Below.refl _ _ | with_reducible assumption | with_reducible refine below_drewN ?_ _ | with_reducible refine Below.drew ?_ | with_reducible refine Below.alloc ?_ (by first | omega | (simp; done) | (simp; omega)) _ | with_reducible refine Below.setCell ?_ (by first | omega | (simp; done) | (simp; omega)) _ | with_reducible refine Below.trans ?_ (Below.mono (by assumption) (by first | omega | (simp; done) | (simp; omega)))))) (Nat.le_refl _); rintro e2 w2 ⟨rfl, b2⟩; (try replace b2 := Below.undrew b2); obtain ⟨hc2, hf2⟩ := bcell b2; have hz2 := b2.size; (try simp at hz2); (try have z2 : w.heap.size < w2.heap.size := (by omega)))
    | (go_at_call 33; refine (H3.out _ ?_).mono ?_; exact TT.below HT.out (B := w.heap.size) (by (repeat (first | with_reducible exact Below.refl _ _ | with_reducible assumption | with_reducible refine below_drewN ?_ _ | with_reducible refine Below.drew ?_ | with_reducible refine Below.alloc ?_ (by first | omega | (simp; done) | (simp; omega)) _ | with_reducible refine Below.setCell ?_ (by first | omega | (simp; done) | (simp; omega)) _ | with_reducible refine Below.trans ?_ (Below.mono (by assumption) (by first | omega | (simp; done) | (simp; omega)))))) (Nat.le_refl _); rintro e3 w3 ⟨rfl, b3⟩; (try replace b3 := Below.undrew b3); obtain ⟨hc3, hf3⟩ := bcell b3; have hz3 := b3.size; (try simp at hz3); (try have z3 : w.heap.size < w3.heap.size := (by omega)))
    | (go_at_call 12; refine (H4.out _ ?_).mono ?_; exact TT.below HT.out (B := w.heap.size) (by (repeat (first | with_reducible exact Below.refl _ _ | with_reducible assumption | with_reducible refine below_drewN ?_ _ | with_reducible refine Below.drew ?_ | with_reducible refine Below.alloc ?_ (by first | omega | (simp; done) | (simp; omega)) _ | with_reducible refine Below.setCell ?_ (by first | omega | (simp; done) | (simp; omega)) _ | with_reducible refine Below.trans ?_ (Below.mono (by assumption) (by first | omega | (simp; done) | (simp; omega)))))) (Nat.le_refl _); rintro e4 w4 ⟨rfl, b4⟩; (try replace b4 := Below.undrew b4); obtain ⟨hc4, hf4⟩ := bcell b4; have hz4 := b4.size; (try simp at hz4); (try have z4 : w.heap.size < w4.heap.size := (by omega)))))
  go_wp2_with fail
  go_ret
  refine ⟨?_, by (repeat (first | with_reducible exact Below.refl _ _ | with_reducible assumption | with_reducible refine below_drewN ?_ _ | with_reducible refine Below.drew ?_ | with_reducible refine Below.alloc ?_ (by first | omega | (simp; done) | (simp; omega)) _ | with_reducible refine Below.setCell ?_ (by first | omega | (simp; done) | (simp; omega)) _ | with_reducible refine Below.trans ?_ (Below.mono (by assumption) (by first | omega | (simp; done) | (simp; omega)))))⟩
  show Ending.returned (.string ((((⟨[114].toArray⟩ : ByteArray) ++ ⟨D.toArray⟩ : ByteArray) ++ ⟨[32].toArray⟩ : ByteArray) ++ ⟨P.toArray⟩ : ByteArray)) = _
  (rw [ba_append, ba_append, ba_append]) <;> rfl

set_option maxHeartbeats 4000000 in
theorem s04T_false (t ma mb mk mc md ml : Int) (D P : List UInt8) (w : World) (hT : TT w) (hL : D.length ≤ 120 ∧ P.length ≤ 120)
    (H1 : Hid (∀ w, TT w → Calls Tryd.prog 27 #[Value.int IntKind.i64 t] w (RetB (tv D) w)))
    (H2 : Hid (∀ w, TT w → Calls Tryd.prog 24 #[Value.agg #[Value.int IntKind.i64 ma, Value.int IntKind.i64 mb, Value.int IntKind.i64 mk, Value.int IntKind.i64 mc, Value.int IntKind.i64 md, Value.int IntKind.i64 ml]] w (RetB (tv P) w)))
    : Calls Tryd.prog 31 #[Value.agg #[Value.int IntKind.i64 t, Value.bool false, Value.int IntKind.i64 ma, Value.int IntKind.i64 mb, Value.int IntKind.i64 mk, Value.int IntKind.i64 mc, Value.int IntKind.i64 md, Value.int IntKind.i64 ml]] w (RetB (tv ([114] ++ D ++ [32] ++ P)) w) := by
  have l0 : ¬ 9223372036854775807 < 1 + D.length := by omega
  have l1 : ¬ 9223372036854775807 < 1 + D.length + 1 := by omega
  have l2 : ¬ 9223372036854775807 < 1 + D.length + 1 + P.length := by omega
  clear hL
  have HT := Lib.hid hT
  clear hT
  go_enter Tryd.func31, Tryd.ntmps31
  go_wp2_with fail
  go_region_held3 (fun w' => w'.cell? ⟨w.heap.size, 0, none⟩ = some (Value.int IntKind.i64 t) ∧ w'.cell? ⟨w.heap.size, 2, none⟩ = some (Value.int IntKind.i64 ma) ∧ w'.cell? ⟨w.heap.size, 3, none⟩ = some (Value.int IntKind.i64 mb) ∧ w'.cell? ⟨w.heap.size, 4, none⟩ = some (Value.int IntKind.i64 mk) ∧ w'.cell? ⟨w.heap.size, 5, none⟩ = some (Value.int IntKind.i64 mc) ∧ w'.cell? ⟨w.heap.size, 6, none⟩ = some (Value.int IntKind.i64 md) ∧ w'.cell? ⟨w.heap.size, 7, none⟩ = some (Value.int IntKind.i64 ml)) ((first | (go_simp; done) | (simp [*]; done)))
    ((first
    | (go_at_call 27; refine (H1.out _ ?_).mono ?_; exact TT.below HT.out (B := w.heap.size) (by (repeat (first | with_reducible exact Below.refl _ _ | with_reducible assumption | with_reducible refine below_drewN ?_ _ | with_reducible refine Below.drew ?_ | with_reducible refine Below.alloc ?_ (by first | omega | (simp; done) | (simp; omega)) _ | with_reducible refine Below.setCell ?_ (by first | omega | (simp; done) | (simp; omega)) _ | with_reducible refine Below.trans ?_ (Below.mono (by assumption) (by first | omega | (simp; done) | (simp; omega)))))) (Nat.le_refl _); rintro e1 w1 ⟨rfl, b1⟩; (try replace b1 := Below.undrew b1); obtain ⟨hc1, hf1⟩ := bcell b1; have hz1 := b1.size; (try simp at hz1); (try have z1 : w.heap.size < w1.heap.size := (by omega)))
    | (go_at_call 24; refine (H2.out _ ?_).mono ?_; exact TT.below HT.out (B := w.heap.size) (by (repeat (first | with_reducible exact Below.refl _ _ | with_reducible assumption | with_reducible refine below_drewN ?_ _ | with_reducible refine Below.drew ?_ | with_reducible refine Below.alloc ?_ (by first | omega | (simp; done) | (simp; omega)) _ | with_reducible refine Below.setCell ?_ (by first | omega | (simp; done) | (simp; omega)) _ | with_reducible refine Below.trans ?_ (Below.mono (by assumption) (by first | omega | (simp; done) | (simp; omega)))))) (Nat.le_refl _); rintro e2 w2 ⟨rfl, b2⟩; (try replace b2 := Below.undrew b2); obtain ⟨hc2, hf2⟩ := bcell b2; have hz2 := b2.size; (try simp at hz2); (try have z2 : w.heap.size < w2.heap.size := (by omega)))))
  go_wp2_with fail
  go_ret
  refine ⟨?_, by (repeat (first | with_reducible exact Below.refl _ _ | with_reducible assumption | with_reducible refine below_drewN ?_ _ | with_reducible refine Below.drew ?_ | with_reducible refine Below.alloc ?_ (by first | omega | (simp; done) | (simp; omega)) _ | with_reducible refine Below.setCell ?_ (by first | omega | (simp; done) | (simp; omega)) _ | with_reducible refine Below.trans ?_ (Below.mono (by assumption) (by first | omega | (simp; done) | (simp; omega)))))⟩
  show Ending.returned (.string ((((⟨[114].toArray⟩ : ByteArray) ++ ⟨D.toArray⟩ : ByteArray) ++ ⟨[32].toArray⟩ : ByteArray) ++ ⟨P.toArray⟩ : ByteArray)) = _
  (rw [ba_append, ba_append, ba_append]) <;> rfl

set_option maxHeartbeats 4000000 in
theorem iMT_true (t ma mb mk mc md ml : Int) (D P : List UInt8) (w : World) (hT : TT w) (hL : D.length ≤ 120 ∧ P.length ≤ 120)
    (H1 : Hid (∀ w, TT w → Calls Tryd.prog 32 #[Value.agg #[Value.int IntKind.i64 t, Value.bool true, Value.int IntKind.i64 ma, Value.int IntKind.i64 mb, Value.int IntKind.i64 mk, Value.int IntKind.i64 mc, Value.int IntKind.i64 md, Value.int IntKind.i64 ml]] w (RetB (Value.bool true) w)))
    (H2 : Hid (∀ w, TT w → Calls Tryd.prog 29 #[Value.int IntKind.i64 t, Value.int IntKind.i64 10] w (RetB (tv D) w)))
    (H3 : Hid (∀ w, TT w → Calls Tryd.prog 33 #[Value.agg #[Value.int IntKind.i64 t, Value.bool true, Value.int IntKind.i64 ma, Value.int IntKind.i64 mb, Value.int IntKind.i64 mk, Value.int IntKind.i64 mc, Value.int IntKind.i64 md, Value.int IntKind.i64 ml]] w (RetB (Value.agg #[Value.int IntKind.i64 ma, Value.int IntKind.i64 mb, Value.int IntKind.i64 mk, Value.int IntKind.i64 mc, Value.int IntKind.i64 md, Value.int IntKind.i64 ml]) w)))
    (H4 : Hid (∀ w, TT w → Calls Tryd.prog 12 #[Value.agg #[Value.int IntKind.i64 ma, Value.int IntKind.i64 mb, Value.int IntKind.i64 mk, Value.int IntKind.i64 mc, Value.int IntKind.i64 md, Value.int IntKind.i64 ml]] w (RetB (tv P) w)))
    : Calls Tryd.prog 18 #[Value.agg #[Value.int IntKind.i64 t, Value.bool true, Value.int IntKind.i64 ma, Value.int IntKind.i64 mb, Value.int IntKind.i64 mk, Value.int IntKind.i64 mc, Value.int IntKind.i64 md, Value.int IntKind.i64 ml]] w (RetB (tv ([102] ++ D ++ [32] ++ P)) w) := by
  have l0 : ¬ 9223372036854775807 < 1 + D.length := by omega
  have l1 : ¬ 9223372036854775807 < 1 + D.length + 1 := by omega
  have l2 : ¬ 9223372036854775807 < 1 + D.length + 1 + P.length := by omega
  clear hL
  have HT := Lib.hid hT
  clear hT
  go_enter Tryd.func18, Tryd.ntmps18
  go_wp2_with fail
  refine (H1.out _ ?_).mono ?_
  · exact TT.below HT.out (B := w.heap.size) (by (repeat (first | with_reducible exact Below.refl _ _ | with_reducible assumption | with_reducible refine below_drewN ?_ _ | with_reducible refine Below.drew ?_ | with_reducible refine Below.alloc ?_ (by first | omega | (simp; done) | (simp; omega)) _ | with_reducible refine Below.setCell ?_ (by first | omega | (simp; done) | (simp; omega)) _ | with_reducible refine Below.trans ?_ (Below.mono (by assumption) (by first | omega | (simp; done) | (simp; omega)))))) (Nat.le_refl _)
  rintro e1 w1 ⟨rfl, b1⟩; (try replace b1 := Below.undrew b1); obtain ⟨hc1, hf1⟩ := bcell b1; have hz1 := b1.size; (try simp at hz1); (try have z1 : w.heap.size < w1.heap.size := (by omega))
  go_wp2_with fail
  go_region_held3 (fun w' => w'.cell? ⟨w.heap.size, 0, none⟩ = some (Value.int IntKind.i64 t) ∧ w'.cell? ⟨w.heap.size, 1, none⟩ = some (Value.bool true) ∧ w'.cell? ⟨w.heap.size, 2, none⟩ = some (Value.int IntKind.i64 ma) ∧ w'.cell? ⟨w.heap.size, 3, none⟩ = some (Value.int IntKind.i64 mb) ∧ w'.cell? ⟨w.heap.size, 4, none⟩ = some (Value.int IntKind.i64 mk) ∧ w'.cell? ⟨w.heap.size, 5, none⟩ = some (Value.int IntKind.i64 mc) ∧ w'.cell? ⟨w.heap.size, 6, none⟩ = some (Value.int IntKind.i64 md) ∧ w'.cell? ⟨w.heap.size, 7, none⟩ = some (Value.int IntKind.i64 ml)) ((first | (go_simp; done) | (simp [*]; done)))
    ((first
    | (go_at_call 29; refine (H2.out _ ?_).mono ?_; exact TT.below HT.out (B := w.heap.size) (by (repeat (first | with_reducible exact Below.refl _ _ | with_reducible assumption | with_reducible refine below_drewN ?_ _ | with_reducible refine Below.drew ?_ | with_reducible refine Below.alloc ?_ (by first | omega | (simp; done) | (simp; omega)) _ | with_reducible refine Below.setCell ?_ (by first | omega | (simp; done) | (simp; omega)) _ | with_reducible refine Below.trans ?_ (Below.mono (by assumption) (by first | omega | (simp; done) | (simp; omega)))))) (Nat.le_refl _); rintro e2 w2 ⟨rfl, b2⟩; (try replace b2 := Below.undrew b2); obtain ⟨hc2, hf2⟩ := bcell b2; have hz2 := b2.size; (try simp at hz2); (try have z2 : w.heap.size < w2.heap.size := (by omega)))
    | (go_at_call 33; refine (H3.out _ ?_).mono ?_; exact TT.below HT.out (B := w.heap.size) (by (repeat (first | with_reducible exact Below.refl _ _ | with_reducible assumption | with_reducible refine below_drewN ?_ _ | with_reducible refine Below.drew ?_ | with_reducible refine Below.alloc ?_ (by first | omega | (simp; done) | (simp; omega)) _ | with_reducible refine Below.setCell ?_ (by first | omega | (simp; done) | (simp; omega)) _ | with_reducible refine Below.trans ?_ (Below.mono (by assumption) (by first | omega | (simp; done) | (simp; omega)))))) (Nat.le_refl _); rintro e3 w3 ⟨rfl, b3⟩; (try replace b3 := Below.undrew b3); obtain ⟨hc3, hf3⟩ := bcell b3; have hz3 := b3.size; (try simp at hz3); (try have z3 : w.heap.size < w3.heap.size := (by omega)))
    | (go_at_call 12; refine (H4.out _ ?_).mono ?_; exact TT.below HT.out (B := w.heap.size) (by (repeat (first | with_reducible exact Below.refl _ _ | with_reducible assumption | with_reducible refine below_drewN ?_ _ | with_reducible refine Below.drew ?_ | with_reducible refine Below.alloc ?_ (by first | omega | (simp; done) | (simp; omega)) _ | with_reducible refine Below.setCell ?_ (by first | omega | (simp; done) | (simp; omega)) _ | with_reducible refine Below.trans ?_ (Below.mono (by assumption) (by first | omega | (simp; done) | (simp; omega)))))) (Nat.le_refl _); rintro e4 w4 ⟨rfl, b4⟩; (try replace b4 := Below.undrew b4); obtain ⟨hc4, hf4⟩ := bcell b4; have hz4 := b4.size; (try simp at hz4); (try have z4 : w.heap.size < w4.heap.size := (by omega)))))
  go_wp2_with fail
  go_ret
  refine ⟨?_, by (repeat (first | with_reducible exact Below.refl _ _ | with_reducible assumption | with_reducible refine below_drewN ?_ _ | with_reducible refine Below.drew ?_ | with_reducible refine Below.alloc ?_ (by first | omega | (simp; done) | (simp; omega)) _ | with_reducible refine Below.setCell ?_ (by first | omega | (simp; done) | (simp; omega)) _ | with_reducible refine Below.trans ?_ (Below.mono (by assumption) (by first | omega | (simp; done) | (simp; omega)))))⟩
  show Ending.returned (.string ((((⟨[102].toArray⟩ : ByteArray) ++ ⟨D.toArray⟩ : ByteArray) ++ ⟨[32].toArray⟩ : ByteArray) ++ ⟨P.toArray⟩ : ByteArray)) = _
  (rw [ba_append, ba_append, ba_append]) <;> rfl

set_option maxHeartbeats 4000000 in
theorem s04T_true (t ma mb mk mc md ml : Int) (D P : List UInt8) (w : World) (hT : TT w) (hL : D.length ≤ 120 ∧ P.length ≤ 120)
    (H1 : Hid (∀ w, TT w → Calls Tryd.prog 27 #[Value.int IntKind.i64 t] w (RetB (tv D) w)))
    (H2 : Hid (∀ w, TT w → Calls Tryd.prog 24 #[Value.agg #[Value.int IntKind.i64 ma, Value.int IntKind.i64 mb, Value.int IntKind.i64 mk, Value.int IntKind.i64 mc, Value.int IntKind.i64 md, Value.int IntKind.i64 ml]] w (RetB (tv P) w)))
    : Calls Tryd.prog 31 #[Value.agg #[Value.int IntKind.i64 t, Value.bool true, Value.int IntKind.i64 ma, Value.int IntKind.i64 mb, Value.int IntKind.i64 mk, Value.int IntKind.i64 mc, Value.int IntKind.i64 md, Value.int IntKind.i64 ml]] w (RetB (tv ([102] ++ D ++ [32] ++ P)) w) := by
  have l0 : ¬ 9223372036854775807 < 1 + D.length := by omega
  have l1 : ¬ 9223372036854775807 < 1 + D.length + 1 := by omega
  have l2 : ¬ 9223372036854775807 < 1 + D.length + 1 + P.length := by omega
  clear hL
  have HT := Lib.hid hT
  clear hT
  go_enter Tryd.func31, Tryd.ntmps31
  go_wp2_with fail
  go_region_held3 (fun w' => w'.cell? ⟨w.heap.size, 0, none⟩ = some (Value.int IntKind.i64 t) ∧ w'.cell? ⟨w.heap.size, 2, none⟩ = some (Value.int IntKind.i64 ma) ∧ w'.cell? ⟨w.heap.size, 3, none⟩ = some (Value.int IntKind.i64 mb) ∧ w'.cell? ⟨w.heap.size, 4, none⟩ = some (Value.int IntKind.i64 mk) ∧ w'.cell? ⟨w.heap.size, 5, none⟩ = some (Value.int IntKind.i64 mc) ∧ w'.cell? ⟨w.heap.size, 6, none⟩ = some (Value.int IntKind.i64 md) ∧ w'.cell? ⟨w.heap.size, 7, none⟩ = some (Value.int IntKind.i64 ml)) ((first | (go_simp; done) | (simp [*]; done)))
    ((first
    | (go_at_call 27; refine (H1.out _ ?_).mono ?_; exact TT.below HT.out (B := w.heap.size) (by (repeat (first | with_reducible exact Below.refl _ _ | with_reducible assumption | with_reducible refine below_drewN ?_ _ | with_reducible refine Below.drew ?_ | with_reducible refine Below.alloc ?_ (by first | omega | (simp; done) | (simp; omega)) _ | with_reducible refine Below.setCell ?_ (by first | omega | (simp; done) | (simp; omega)) _ | with_reducible refine Below.trans ?_ (Below.mono (by assumption) (by first | omega | (simp; done) | (simp; omega)))))) (Nat.le_refl _); rintro e1 w1 ⟨rfl, b1⟩; (try replace b1 := Below.undrew b1); obtain ⟨hc1, hf1⟩ := bcell b1; have hz1 := b1.size; (try simp at hz1); (try have z1 : w.heap.size < w1.heap.size := (by omega)))
    | (go_at_call 24; refine (H2.out _ ?_).mono ?_; exact TT.below HT.out (B := w.heap.size) (by (repeat (first | with_reducible exact Below.refl _ _ | with_reducible assumption | with_reducible refine below_drewN ?_ _ | with_reducible refine Below.drew ?_ | with_reducible refine Below.alloc ?_ (by first | omega | (simp; done) | (simp; omega)) _ | with_reducible refine Below.setCell ?_ (by first | omega | (simp; done) | (simp; omega)) _ | with_reducible refine Below.trans ?_ (Below.mono (by assumption) (by first | omega | (simp; done) | (simp; omega)))))) (Nat.le_refl _); rintro e2 w2 ⟨rfl, b2⟩; (try replace b2 := Below.undrew b2); obtain ⟨hc2, hf2⟩ := bcell b2; have hz2 := b2.size; (try simp at hz2); (try have z2 : w.heap.size < w2.heap.size := (by omega)))))
  go_wp2_with fail
  go_ret
  refine ⟨?_, by (repeat (first | with_reducible exact Below.refl _ _ | with_reducible assumption | with_reducible refine below_drewN ?_ _ | with_reducible refine Below.drew ?_ | with_reducible refine Below.alloc ?_ (by first | omega | (simp; done) | (simp; omega)) _ | with_reducible refine Below.setCell ?_ (by first | omega | (simp; done) | (simp; omega)) _ | with_reducible refine Below.trans ?_ (Below.mono (by assumption) (by first | omega | (simp; done) | (simp; omega)))))⟩
  show Ending.returned (.string ((((⟨[102].toArray⟩ : ByteArray) ++ ⟨D.toArray⟩ : ByteArray) ++ ⟨[32].toArray⟩ : ByteArray) ++ ⟨P.toArray⟩ : ByteArray)) = _
  (rw [ba_append, ba_append, ba_append]) <;> rfl

set_option maxHeartbeats 4000000 in
theorem sMT_no (t ma mb mk mc md ml : Int) (f : Bool) (w : World) (hT : TT w)
    (H1 : Hid (∀ w, TT w → Calls Tryd.prog 30 #[Value.agg #[Value.int IntKind.i64 t, Value.bool f, Value.int IntKind.i64 ma, Value.int IntKind.i64 mb, Value.int IntKind.i64 mk, Value.int IntKind.i64 mc, Value.int IntKind.i64 md, Value.int IntKind.i64 ml]] w (RetB (Value.bool false) w)))
    : Calls Tryd.prog 16 #[Value.agg #[Value.int IntKind.i64 t, Value.bool f, Value.int IntKind.i64 ma, Value.int IntKind.i64 mb, Value.int IntKind.i64 mk, Value.int IntKind.i64 mc, Value.int IntKind.i64 md, Value.int IntKind.i64 ml]] w (RetB (tv ([])) w) := by
  have HT := Lib.hid hT
  clear hT
  go_enter Tryd.func16, Tryd.ntmps16
  go_wp2_with fail
  refine (H1.out _ ?_).mono ?_
  · exact TT.below HT.out (B := w.heap.size) (by (repeat (first | with_reducible exact Below.refl _ _ | with_reducible assumption | with_reducible refine below_drewN ?_ _ | with_reducible refine Below.drew ?_ | with_reducible refine Below.alloc ?_ (by first | omega | (simp; done) | (simp; omega)) _ | with_reducible refine Below.setCell ?_ (by first | omega | (simp; done) | (simp; omega)) _ | with_reducible refine Below.trans ?_ (Below.mono (by assumption) (by first | omega | (simp; done) | (simp; omega)))))) (Nat.le_refl _)
  rintro e1 w1 ⟨rfl, b1⟩; (try replace b1 := Below.undrew b1); obtain ⟨hc1, hf1⟩ := bcell b1; have hz1 := b1.size; (try simp at hz1); (try have z1 : w.heap.size < w1.heap.size := (by omega))
  go_wp2_with fail
  go_ret
  exact ⟨rfl, by (repeat (first | with_reducible exact Below.refl _ _ | with_reducible assumption | with_reducible refine below_drewN ?_ _ | with_reducible refine Below.drew ?_ | with_reducible refine Below.alloc ?_ (by first | omega | (simp; done) | (simp; omega)) _ | with_reducible refine Below.setCell ?_ (by first | omega | (simp; done) | (simp; omega)) _ | with_reducible refine Below.trans ?_ (Below.mono (by assumption) (by first | omega | (simp; done) | (simp; omega)))))⟩

set_option maxHeartbeats 4000000 in
theorem sMT_ok (t ma mb mk mc md ml : Int) (P : List UInt8) (f : Bool) (w : World) (hT : TT w)
    (H1 : Hid (∀ w, TT w → Calls Tryd.prog 30 #[Value.agg #[Value.int IntKind.i64 t, Value.bool f, Value.int IntKind.i64 ma, Value.int IntKind.i64 mb, Value.int IntKind.i64 mk, Value.int IntKind.i64 mc, Value.int IntKind.i64 md, Value.int IntKind.i64 ml]] w (RetB (Value.bool true) w)))
    (H2 : Hid (∀ w, TT w → Calls Tryd.prog 31 #[Value.agg #[Value.int IntKind.i64 t, Value.bool f, Value.int IntKind.i64 ma, Value.int IntKind.i64 mb, Value.int IntKind.i64 mk, Value.int IntKind.i64 mc, Value.int IntKind.i64 md, Value.int IntKind.i64 ml]] w (RetB (tv P) w)))
    : Calls Tryd.prog 16 #[Value.agg #[Value.int IntKind.i64 t, Value.bool f, Value.int IntKind.i64 ma, Value.int IntKind.i64 mb, Value.int IntKind.i64 mk, Value.int IntKind.i64 mc, Value.int IntKind.i64 md, Value.int IntKind.i64 ml]] w (RetB (tv (P)) w) := by
  have HT := Lib.hid hT
  clear hT
  go_enter Tryd.func16, Tryd.ntmps16
  go_wp2_with fail
  refine (H1.out _ ?_).mono ?_
  · exact TT.below HT.out (B := w.heap.size) (by (repeat (first | with_reducible exact Below.refl _ _ | with_reducible assumption | with_reducible refine below_drewN ?_ _ | with_reducible refine Below.drew ?_ | with_reducible refine Below.alloc ?_ (by first | omega | (simp; done) | (simp; omega)) _ | with_reducible refine Below.setCell ?_ (by first | omega | (simp; done) | (simp; omega)) _ | with_reducible refine Below.trans ?_ (Below.mono (by assumption) (by first | omega | (simp; done) | (simp; omega)))))) (Nat.le_refl _)
  rintro e1 w1 ⟨rfl, b1⟩; (try replace b1 := Below.undrew b1); obtain ⟨hc1, hf1⟩ := bcell b1; have hz1 := b1.size; (try simp at hz1); (try have z1 : w.heap.size < w1.heap.size := (by omega))
  go_wp2_with fail
  refine (H2.out _ ?_).mono ?_
  · exact TT.below HT.out (B := w.heap.size) (by (repeat (first | with_reducible exact Below.refl _ _ | with_reducible assumption | with_reducible refine below_drewN ?_ _ | with_reducible refine Below.drew ?_ | with_reducible refine Below.alloc ?_ (by first | omega | (simp; done) | (simp; omega)) _ | with_reducible refine Below.setCell ?_ (by first | omega | (simp; done) | (simp; omega)) _ | with_reducible refine Below.trans ?_ (Below.mono (by assumption) (by first | omega | (simp; done) | (simp; omega)))))) (Nat.le_refl _)
  rintro e2 w2 ⟨rfl, b2⟩; (try replace b2 := Below.undrew b2); obtain ⟨hc2, hf2⟩ := bcell b2; have hz2 := b2.size; (try simp at hz2); (try have z2 : w.heap.size < w2.heap.size := (by omega))
  go_wp2_with fail
  go_ret
  exact ⟨rfl, by (repeat (first | with_reducible exact Below.refl _ _ | with_reducible assumption | with_reducible refine below_drewN ?_ _ | with_reducible refine Below.drew ?_ | with_reducible refine Below.alloc ?_ (by first | omega | (simp; done) | (simp; omega)) _ | with_reducible refine Below.setCell ?_ (by first | omega | (simp; done) | (simp; omega)) _ | with_reducible refine Below.trans ?_ (Below.mono (by assumption) (by first | omega | (simp; done) | (simp; omega)))))⟩

end Go.Proofs.YthelgcikobhonaaDoor
