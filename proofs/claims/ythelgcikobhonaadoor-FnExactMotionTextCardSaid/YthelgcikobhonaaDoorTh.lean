/- The walks of the laws of texts, over the contracts of their callees. -/
import Derived.Test.YthelgcikobhonaaDoorTb
import Derived.Deep.RegionHeld3
import Derived.Deep.DrawnRows
namespace Go.Proofs.YthelgcikobhonaaDoor
open Go Go.RowKit OriM
attribute [local go_sem ↓] Go.wp_at_zero Go.wp_at_succ

set_option maxHeartbeats 4000000 in
theorem exactNumText.core (xa xb xk : Int) (R : List UInt8) (w : World) (hT : TT w)
    (H1 : Hid (∀ w, TT w → Calls Tryd.prog 8 #[Value.agg #[Value.int IntKind.i64 xa, Value.int IntKind.i64 xb, Value.int IntKind.i64 xk]] w (RetB (Value.agg #[Value.int IntKind.i64 xa, Value.int IntKind.i64 xb, Value.int IntKind.i64 xk]) w)))
    (H2 : Hid (∀ w, TT w → Calls Tryd.prog 7 #[Value.agg #[Value.int IntKind.i64 xa, Value.int IntKind.i64 xb, Value.int IntKind.i64 xk]] w (RetB (tv R) w)))
    (H4 : Hid (∀ w, TT w → Calls Tryd.prog 9 #[Value.agg #[Value.int IntKind.i64 xa, Value.int IntKind.i64 xb, Value.int IntKind.i64 xk]] w (RetB (tv R) w)))
    : Calls Tryd.prog 3 #[Value.agg #[Value.int IntKind.i64 xa, Value.int IntKind.i64 xb, Value.int IntKind.i64 xk]] w (RetB (.bool true) w) := by
  have HT := Lib.hid hT
  clear hT
  go_enter Tryd.func3, Tryd.ntmps3
  go_wp2_with fail
  refine (H1.out _ ?_).mono ?_
  · exact TT.below HT.out (B := w.heap.size) (by (repeat (first | with_reducible exact Below.refl _ _ | with_reducible assumption | with_reducible refine below_drewN ?_ _ | with_reducible refine Below.drew ?_ | with_reducible refine Below.alloc ?_ (by first | omega | (simp; done) | (simp; omega)) _ | with_reducible refine Below.setCell ?_ (by first | omega | (simp; done) | (simp; omega)) _ | with_reducible refine Below.trans ?_ (Below.mono (by assumption) (by first | omega | (simp; done) | (simp; omega)))))) (Nat.le_refl _)
  rintro e1 w1 ⟨rfl, b1⟩; (try replace b1 := Below.undrew b1); obtain ⟨hc1, hf1⟩ := bcell b1; have hz1 := b1.size; (try simp at hz1); (try have z1 : w.heap.size < w1.heap.size := (by omega))
  go_wp2_with fail
  refine (H2.out _ ?_).mono ?_
  · exact TT.below HT.out (B := w.heap.size) (by (repeat (first | with_reducible exact Below.refl _ _ | with_reducible assumption | with_reducible refine below_drewN ?_ _ | with_reducible refine Below.drew ?_ | with_reducible refine Below.alloc ?_ (by first | omega | (simp; done) | (simp; omega)) _ | with_reducible refine Below.setCell ?_ (by first | omega | (simp; done) | (simp; omega)) _ | with_reducible refine Below.trans ?_ (Below.mono (by assumption) (by first | omega | (simp; done) | (simp; omega)))))) (Nat.le_refl _)
  rintro e2 w2 ⟨rfl, b2⟩; (try replace b2 := Below.undrew b2); obtain ⟨hc2, hf2⟩ := bcell b2; have hz2 := b2.size; (try simp at hz2); (try have z2 : w.heap.size < w2.heap.size := (by omega))
  go_wp2_with fail
  refine (H1.out _ ?_).mono ?_
  · exact TT.below HT.out (B := w.heap.size) (by (repeat (first | with_reducible exact Below.refl _ _ | with_reducible assumption | with_reducible refine below_drewN ?_ _ | with_reducible refine Below.drew ?_ | with_reducible refine Below.alloc ?_ (by first | omega | (simp; done) | (simp; omega)) _ | with_reducible refine Below.setCell ?_ (by first | omega | (simp; done) | (simp; omega)) _ | with_reducible refine Below.trans ?_ (Below.mono (by assumption) (by first | omega | (simp; done) | (simp; omega)))))) (Nat.le_refl _)
  rintro e3 w3 ⟨rfl, b3⟩; (try replace b3 := Below.undrew b3); obtain ⟨hc3, hf3⟩ := bcell b3; have hz3 := b3.size; (try simp at hz3); (try have z3 : w.heap.size < w3.heap.size := (by omega))
  go_wp2_with fail
  refine (H4.out _ ?_).mono ?_
  · exact TT.below HT.out (B := w.heap.size) (by (repeat (first | with_reducible exact Below.refl _ _ | with_reducible assumption | with_reducible refine below_drewN ?_ _ | with_reducible refine Below.drew ?_ | with_reducible refine Below.alloc ?_ (by first | omega | (simp; done) | (simp; omega)) _ | with_reducible refine Below.setCell ?_ (by first | omega | (simp; done) | (simp; omega)) _ | with_reducible refine Below.trans ?_ (Below.mono (by assumption) (by first | omega | (simp; done) | (simp; omega)))))) (Nat.le_refl _)
  rintro e4 w4 ⟨rfl, b4⟩; (try replace b4 := Below.undrew b4); obtain ⟨hc4, hf4⟩ := bcell b4; have hz4 := b4.size; (try simp at hz4); (try have z4 : w.heap.size < w4.heap.size := (by omega))
  go_wp2_with fail
  go_ret
  exact ⟨rfl, by (repeat (first | with_reducible exact Below.refl _ _ | with_reducible assumption | with_reducible refine below_drewN ?_ _ | with_reducible refine Below.drew ?_ | with_reducible refine Below.alloc ?_ (by first | omega | (simp; done) | (simp; omega)) _ | with_reducible refine Below.setCell ?_ (by first | omega | (simp; done) | (simp; omega)) _ | with_reducible refine Below.trans ?_ (Below.mono (by assumption) (by first | omega | (simp; done) | (simp; omega)))))⟩

set_option maxHeartbeats 4000000 in
theorem exactPointText.core (xa xb xk xc xd xl : Int) (R : List UInt8) (w : World) (hT : TT w)
    (H1 : Hid (∀ w, TT w → Calls Tryd.prog 11 #[Value.agg #[Value.int IntKind.i64 xa, Value.int IntKind.i64 xb, Value.int IntKind.i64 xk, Value.int IntKind.i64 xc, Value.int IntKind.i64 xd, Value.int IntKind.i64 xl]] w (RetB (Value.agg #[Value.int IntKind.i64 xa, Value.int IntKind.i64 xb, Value.int IntKind.i64 xk, Value.int IntKind.i64 xc, Value.int IntKind.i64 xd, Value.int IntKind.i64 xl]) w)))
    (H2 : Hid (∀ w, TT w → Calls Tryd.prog 10 #[Value.agg #[Value.int IntKind.i64 xa, Value.int IntKind.i64 xb, Value.int IntKind.i64 xk, Value.int IntKind.i64 xc, Value.int IntKind.i64 xd, Value.int IntKind.i64 xl]] w (RetB (tv R) w)))
    (H4 : Hid (∀ w, TT w → Calls Tryd.prog 12 #[Value.agg #[Value.int IntKind.i64 xa, Value.int IntKind.i64 xb, Value.int IntKind.i64 xk, Value.int IntKind.i64 xc, Value.int IntKind.i64 xd, Value.int IntKind.i64 xl]] w (RetB (tv R) w)))
    : Calls Tryd.prog 4 #[Value.agg #[Value.int IntKind.i64 xa, Value.int IntKind.i64 xb, Value.int IntKind.i64 xk, Value.int IntKind.i64 xc, Value.int IntKind.i64 xd, Value.int IntKind.i64 xl]] w (RetB (.bool true) w) := by
  have HT := Lib.hid hT
  clear hT
  go_enter Tryd.func4, Tryd.ntmps4
  go_wp2_with fail
  refine (H1.out _ ?_).mono ?_
  · exact TT.below HT.out (B := w.heap.size) (by (repeat (first | with_reducible exact Below.refl _ _ | with_reducible assumption | with_reducible refine below_drewN ?_ _ | with_reducible refine Below.drew ?_ | with_reducible refine Below.alloc ?_ (by first | omega | (simp; done) | (simp; omega)) _ | with_reducible refine Below.setCell ?_ (by first | omega | (simp; done) | (simp; omega)) _ | with_reducible refine Below.trans ?_ (Below.mono (by assumption) (by first | omega | (simp; done) | (simp; omega)))))) (Nat.le_refl _)
  rintro e1 w1 ⟨rfl, b1⟩; (try replace b1 := Below.undrew b1); obtain ⟨hc1, hf1⟩ := bcell b1; have hz1 := b1.size; (try simp at hz1); (try have z1 : w.heap.size < w1.heap.size := (by omega))
  go_wp2_with fail
  refine (H2.out _ ?_).mono ?_
  · exact TT.below HT.out (B := w.heap.size) (by (repeat (first | with_reducible exact Below.refl _ _ | with_reducible assumption | with_reducible refine below_drewN ?_ _ | with_reducible refine Below.drew ?_ | with_reducible refine Below.alloc ?_ (by first | omega | (simp; done) | (simp; omega)) _ | with_reducible refine Below.setCell ?_ (by first | omega | (simp; done) | (simp; omega)) _ | with_reducible refine Below.trans ?_ (Below.mono (by assumption) (by first | omega | (simp; done) | (simp; omega)))))) (Nat.le_refl _)
  rintro e2 w2 ⟨rfl, b2⟩; (try replace b2 := Below.undrew b2); obtain ⟨hc2, hf2⟩ := bcell b2; have hz2 := b2.size; (try simp at hz2); (try have z2 : w.heap.size < w2.heap.size := (by omega))
  go_wp2_with fail
  refine (H1.out _ ?_).mono ?_
  · exact TT.below HT.out (B := w.heap.size) (by (repeat (first | with_reducible exact Below.refl _ _ | with_reducible assumption | with_reducible refine below_drewN ?_ _ | with_reducible refine Below.drew ?_ | with_reducible refine Below.alloc ?_ (by first | omega | (simp; done) | (simp; omega)) _ | with_reducible refine Below.setCell ?_ (by first | omega | (simp; done) | (simp; omega)) _ | with_reducible refine Below.trans ?_ (Below.mono (by assumption) (by first | omega | (simp; done) | (simp; omega)))))) (Nat.le_refl _)
  rintro e3 w3 ⟨rfl, b3⟩; (try replace b3 := Below.undrew b3); obtain ⟨hc3, hf3⟩ := bcell b3; have hz3 := b3.size; (try simp at hz3); (try have z3 : w.heap.size < w3.heap.size := (by omega))
  go_wp2_with fail
  refine (H4.out _ ?_).mono ?_
  · exact TT.below HT.out (B := w.heap.size) (by (repeat (first | with_reducible exact Below.refl _ _ | with_reducible assumption | with_reducible refine below_drewN ?_ _ | with_reducible refine Below.drew ?_ | with_reducible refine Below.alloc ?_ (by first | omega | (simp; done) | (simp; omega)) _ | with_reducible refine Below.setCell ?_ (by first | omega | (simp; done) | (simp; omega)) _ | with_reducible refine Below.trans ?_ (Below.mono (by assumption) (by first | omega | (simp; done) | (simp; omega)))))) (Nat.le_refl _)
  rintro e4 w4 ⟨rfl, b4⟩; (try replace b4 := Below.undrew b4); obtain ⟨hc4, hf4⟩ := bcell b4; have hz4 := b4.size; (try simp at hz4); (try have z4 : w.heap.size < w4.heap.size := (by omega))
  go_wp2_with fail
  go_ret
  exact ⟨rfl, by (repeat (first | with_reducible exact Below.refl _ _ | with_reducible assumption | with_reducible refine below_drewN ?_ _ | with_reducible refine Below.drew ?_ | with_reducible refine Below.alloc ?_ (by first | omega | (simp; done) | (simp; omega)) _ | with_reducible refine Below.setCell ?_ (by first | omega | (simp; done) | (simp; omega)) _ | with_reducible refine Below.trans ?_ (Below.mono (by assumption) (by first | omega | (simp; done) | (simp; omega)))))⟩

set_option maxHeartbeats 4000000 in
theorem exactLineText.core (d xa xb xk : Int) (R : List UInt8) (w : World) (hT : TT w)
    (H1 : Hid (∀ w, TT w → Calls Tryd.prog 14 #[Value.agg #[Value.int IntKind.i64 d, Value.int IntKind.i64 xa, Value.int IntKind.i64 xb, Value.int IntKind.i64 xk]] w (RetB (Value.agg #[Value.int IntKind.i64 d, Value.int IntKind.i64 xa, Value.int IntKind.i64 xb, Value.int IntKind.i64 xk]) w)))
    (H2 : Hid (∀ w, TT w → Calls Tryd.prog 13 #[Value.agg #[Value.int IntKind.i64 d, Value.int IntKind.i64 xa, Value.int IntKind.i64 xb, Value.int IntKind.i64 xk]] w (RetB (tv R) w)))
    (H4 : Hid (∀ w, TT w → Calls Tryd.prog 15 #[Value.agg #[Value.int IntKind.i64 d, Value.int IntKind.i64 xa, Value.int IntKind.i64 xb, Value.int IntKind.i64 xk]] w (RetB (tv R) w)))
    : Calls Tryd.prog 5 #[Value.agg #[Value.int IntKind.i64 d, Value.int IntKind.i64 xa, Value.int IntKind.i64 xb, Value.int IntKind.i64 xk]] w (RetB (.bool true) w) := by
  have HT := Lib.hid hT
  clear hT
  go_enter Tryd.func5, Tryd.ntmps5
  go_wp2_with fail
  refine (H1.out _ ?_).mono ?_
  · exact TT.below HT.out (B := w.heap.size) (by (repeat (first | with_reducible exact Below.refl _ _ | with_reducible assumption | with_reducible refine below_drewN ?_ _ | with_reducible refine Below.drew ?_ | with_reducible refine Below.alloc ?_ (by first | omega | (simp; done) | (simp; omega)) _ | with_reducible refine Below.setCell ?_ (by first | omega | (simp; done) | (simp; omega)) _ | with_reducible refine Below.trans ?_ (Below.mono (by assumption) (by first | omega | (simp; done) | (simp; omega)))))) (Nat.le_refl _)
  rintro e1 w1 ⟨rfl, b1⟩; (try replace b1 := Below.undrew b1); obtain ⟨hc1, hf1⟩ := bcell b1; have hz1 := b1.size; (try simp at hz1); (try have z1 : w.heap.size < w1.heap.size := (by omega))
  go_wp2_with fail
  refine (H2.out _ ?_).mono ?_
  · exact TT.below HT.out (B := w.heap.size) (by (repeat (first | with_reducible exact Below.refl _ _ | with_reducible assumption | with_reducible refine below_drewN ?_ _ | with_reducible refine Below.drew ?_ | with_reducible refine Below.alloc ?_ (by first | omega | (simp; done) | (simp; omega)) _ | with_reducible refine Below.setCell ?_ (by first | omega | (simp; done) | (simp; omega)) _ | with_reducible refine Below.trans ?_ (Below.mono (by assumption) (by first | omega | (simp; done) | (simp; omega)))))) (Nat.le_refl _)
  rintro e2 w2 ⟨rfl, b2⟩; (try replace b2 := Below.undrew b2); obtain ⟨hc2, hf2⟩ := bcell b2; have hz2 := b2.size; (try simp at hz2); (try have z2 : w.heap.size < w2.heap.size := (by omega))
  go_wp2_with fail
  refine (H1.out _ ?_).mono ?_
  · exact TT.below HT.out (B := w.heap.size) (by (repeat (first | with_reducible exact Below.refl _ _ | with_reducible assumption | with_reducible refine below_drewN ?_ _ | with_reducible refine Below.drew ?_ | with_reducible refine Below.alloc ?_ (by first | omega | (simp; done) | (simp; omega)) _ | with_reducible refine Below.setCell ?_ (by first | omega | (simp; done) | (simp; omega)) _ | with_reducible refine Below.trans ?_ (Below.mono (by assumption) (by first | omega | (simp; done) | (simp; omega)))))) (Nat.le_refl _)
  rintro e3 w3 ⟨rfl, b3⟩; (try replace b3 := Below.undrew b3); obtain ⟨hc3, hf3⟩ := bcell b3; have hz3 := b3.size; (try simp at hz3); (try have z3 : w.heap.size < w3.heap.size := (by omega))
  go_wp2_with fail
  refine (H4.out _ ?_).mono ?_
  · exact TT.below HT.out (B := w.heap.size) (by (repeat (first | with_reducible exact Below.refl _ _ | with_reducible assumption | with_reducible refine below_drewN ?_ _ | with_reducible refine Below.drew ?_ | with_reducible refine Below.alloc ?_ (by first | omega | (simp; done) | (simp; omega)) _ | with_reducible refine Below.setCell ?_ (by first | omega | (simp; done) | (simp; omega)) _ | with_reducible refine Below.trans ?_ (Below.mono (by assumption) (by first | omega | (simp; done) | (simp; omega)))))) (Nat.le_refl _)
  rintro e4 w4 ⟨rfl, b4⟩; (try replace b4 := Below.undrew b4); obtain ⟨hc4, hf4⟩ := bcell b4; have hz4 := b4.size; (try simp at hz4); (try have z4 : w.heap.size < w4.heap.size := (by omega))
  go_wp2_with fail
  go_ret
  exact ⟨rfl, by (repeat (first | with_reducible exact Below.refl _ _ | with_reducible assumption | with_reducible refine below_drewN ?_ _ | with_reducible refine Below.drew ?_ | with_reducible refine Below.alloc ?_ (by first | omega | (simp; done) | (simp; omega)) _ | with_reducible refine Below.setCell ?_ (by first | omega | (simp; done) | (simp; omega)) _ | with_reducible refine Below.trans ?_ (Below.mono (by assumption) (by first | omega | (simp; done) | (simp; omega)))))⟩

set_option maxHeartbeats 4000000 in
theorem exactMotionText.core (t ma mb mk mc md ml : Int) (R : List UInt8) (f : Bool) (w : World) (hT : TT w)
    (H1 : Hid (∀ w, TT w → Calls Tryd.prog 17 #[Value.agg #[Value.int IntKind.i64 t, Value.bool f, Value.int IntKind.i64 ma, Value.int IntKind.i64 mb, Value.int IntKind.i64 mk, Value.int IntKind.i64 mc, Value.int IntKind.i64 md, Value.int IntKind.i64 ml]] w (RetB (Value.agg #[Value.int IntKind.i64 t, Value.bool f, Value.int IntKind.i64 ma, Value.int IntKind.i64 mb, Value.int IntKind.i64 mk, Value.int IntKind.i64 mc, Value.int IntKind.i64 md, Value.int IntKind.i64 ml]) w)))
    (H2 : Hid (∀ w, TT w → Calls Tryd.prog 16 #[Value.agg #[Value.int IntKind.i64 t, Value.bool f, Value.int IntKind.i64 ma, Value.int IntKind.i64 mb, Value.int IntKind.i64 mk, Value.int IntKind.i64 mc, Value.int IntKind.i64 md, Value.int IntKind.i64 ml]] w (RetB (tv R) w)))
    (H4 : Hid (∀ w, TT w → Calls Tryd.prog 18 #[Value.agg #[Value.int IntKind.i64 t, Value.bool f, Value.int IntKind.i64 ma, Value.int IntKind.i64 mb, Value.int IntKind.i64 mk, Value.int IntKind.i64 mc, Value.int IntKind.i64 md, Value.int IntKind.i64 ml]] w (RetB (tv R) w)))
    : Calls Tryd.prog 6 #[Value.agg #[Value.int IntKind.i64 t, Value.bool f, Value.int IntKind.i64 ma, Value.int IntKind.i64 mb, Value.int IntKind.i64 mk, Value.int IntKind.i64 mc, Value.int IntKind.i64 md, Value.int IntKind.i64 ml]] w (RetB (.bool true) w) := by
  have HT := Lib.hid hT
  clear hT
  go_enter Tryd.func6, Tryd.ntmps6
  go_wp2_with fail
  refine (H1.out _ ?_).mono ?_
  · exact TT.below HT.out (B := w.heap.size) (by (repeat (first | with_reducible exact Below.refl _ _ | with_reducible assumption | with_reducible refine below_drewN ?_ _ | with_reducible refine Below.drew ?_ | with_reducible refine Below.alloc ?_ (by first | omega | (simp; done) | (simp; omega)) _ | with_reducible refine Below.setCell ?_ (by first | omega | (simp; done) | (simp; omega)) _ | with_reducible refine Below.trans ?_ (Below.mono (by assumption) (by first | omega | (simp; done) | (simp; omega)))))) (Nat.le_refl _)
  rintro e1 w1 ⟨rfl, b1⟩; (try replace b1 := Below.undrew b1); obtain ⟨hc1, hf1⟩ := bcell b1; have hz1 := b1.size; (try simp at hz1); (try have z1 : w.heap.size < w1.heap.size := (by omega))
  go_wp2_with fail
  refine (H2.out _ ?_).mono ?_
  · exact TT.below HT.out (B := w.heap.size) (by (repeat (first | with_reducible exact Below.refl _ _ | with_reducible assumption | with_reducible refine below_drewN ?_ _ | with_reducible refine Below.drew ?_ | with_reducible refine Below.alloc ?_ (by first | omega | (simp; done) | (simp; omega)) _ | with_reducible refine Below.setCell ?_ (by first | omega | (simp; done) | (simp; omega)) _ | with_reducible refine Below.trans ?_ (Below.mono (by assumption) (by first | omega | (simp; done) | (simp; omega)))))) (Nat.le_refl _)
  rintro e2 w2 ⟨rfl, b2⟩; (try replace b2 := Below.undrew b2); obtain ⟨hc2, hf2⟩ := bcell b2; have hz2 := b2.size; (try simp at hz2); (try have z2 : w.heap.size < w2.heap.size := (by omega))
  go_wp2_with fail
  refine (H1.out _ ?_).mono ?_
  · exact TT.below HT.out (B := w.heap.size) (by (repeat (first | with_reducible exact Below.refl _ _ | with_reducible assumption | with_reducible refine below_drewN ?_ _ | with_reducible refine Below.drew ?_ | with_reducible refine Below.alloc ?_ (by first | omega | (simp; done) | (simp; omega)) _ | with_reducible refine Below.setCell ?_ (by first | omega | (simp; done) | (simp; omega)) _ | with_reducible refine Below.trans ?_ (Below.mono (by assumption) (by first | omega | (simp; done) | (simp; omega)))))) (Nat.le_refl _)
  rintro e3 w3 ⟨rfl, b3⟩; (try replace b3 := Below.undrew b3); obtain ⟨hc3, hf3⟩ := bcell b3; have hz3 := b3.size; (try simp at hz3); (try have z3 : w.heap.size < w3.heap.size := (by omega))
  go_wp2_with fail
  refine (H4.out _ ?_).mono ?_
  · exact TT.below HT.out (B := w.heap.size) (by (repeat (first | with_reducible exact Below.refl _ _ | with_reducible assumption | with_reducible refine below_drewN ?_ _ | with_reducible refine Below.drew ?_ | with_reducible refine Below.alloc ?_ (by first | omega | (simp; done) | (simp; omega)) _ | with_reducible refine Below.setCell ?_ (by first | omega | (simp; done) | (simp; omega)) _ | with_reducible refine Below.trans ?_ (Below.mono (by assumption) (by first | omega | (simp; done) | (simp; omega)))))) (Nat.le_refl _)
  rintro e4 w4 ⟨rfl, b4⟩; (try replace b4 := Below.undrew b4); obtain ⟨hc4, hf4⟩ := bcell b4; have hz4 := b4.size; (try simp at hz4); (try have z4 : w.heap.size < w4.heap.size := (by omega))
  go_wp2_with fail
  go_ret
  exact ⟨rfl, by (repeat (first | with_reducible exact Below.refl _ _ | with_reducible assumption | with_reducible refine below_drewN ?_ _ | with_reducible refine Below.drew ?_ | with_reducible refine Below.alloc ?_ (by first | omega | (simp; done) | (simp; omega)) _ | with_reducible refine Below.setCell ?_ (by first | omega | (simp; done) | (simp; omega)) _ | with_reducible refine Below.trans ?_ (Below.mono (by assumption) (by first | omega | (simp; done) | (simp; omega)))))⟩
end Go.Proofs.YthelgcikobhonaaDoor
