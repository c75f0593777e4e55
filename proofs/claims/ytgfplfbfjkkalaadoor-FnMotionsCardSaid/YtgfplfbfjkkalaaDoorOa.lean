/- Walks of the functions on motions, path by path, over the contracts of their callees. -/
import Derived.Test.YtgfplfbfjkkalaaDoorGl
import Derived.Deep.RegionHeld3
import Derived.Deep.DeepCutAuto
import Derived.Deep.DrawnRows
namespace Go.Proofs.YtgfplfbfjkkalaaDoor
open Go Go.RowKit OriM
variable {β : Bool}
attribute [local go_sem ↓] Go.wp_at_zero Go.wp_at_succ

set_option maxHeartbeats 1000000 in
theorem shift_core (t ma mb mk mc md ml : Int) (f : Bool) (w : World) (_hT : LT β w)
    : Calls Tryd.prog 63 #[Value.agg #[Value.int IntKind.i64 t, Value.bool f, Value.int IntKind.i64 ma, Value.int IntKind.i64 mb, Value.int IntKind.i64 mk, Value.int IntKind.i64 mc, Value.int IntKind.i64 md, Value.int IntKind.i64 ml]] w (RetB (Value.agg #[Value.int IntKind.i64 ma, Value.int IntKind.i64 mb, Value.int IntKind.i64 mk, Value.int IntKind.i64 mc, Value.int IntKind.i64 md, Value.int IntKind.i64 ml]) w) := by
  go_enter Tryd.func63, Tryd.ntmps63
  go_wp2_with fail
  exact bodyPost_ret (v := Value.agg #[Value.int IntKind.i64 ma, Value.int IntKind.i64 mb, Value.int IntKind.i64 mk, Value.int IntKind.i64 mc, Value.int IntKind.i64 md, Value.int IntKind.i64 ml]) (by simp [results, Tryd.results63, go_sem, *]) rfl ⟨rfl, by (repeat (first | with_reducible exact Below.refl _ _ | with_reducible assumption | with_reducible refine below_drewN ?_ _ | with_reducible refine Below.drew ?_ | with_reducible refine Below.alloc ?_ (by first | omega | (simp; done) | (simp; omega)) _ | with_reducible refine Below.setCell ?_ (by first | omega | (simp; done) | (simp; omega)) _ | with_reducible refine Below.trans ?_ (Below.mono (by assumption) (by first | omega | (simp; done) | (simp; omega)))))⟩

set_option maxHeartbeats 1000000 in
theorem iVM_lo (t ma mb mk mc md ml : Int) (f : Bool) (w : World) (_hT : LT β w) (h0 : t < 0)
    : Calls Tryd.prog 27 #[Value.agg #[Value.int IntKind.i64 t, Value.bool f, Value.int IntKind.i64 ma, Value.int IntKind.i64 mb, Value.int IntKind.i64 mk, Value.int IntKind.i64 mc, Value.int IntKind.i64 md, Value.int IntKind.i64 ml]] w (RetB (Value.bool false) w) := by
  go_enter Tryd.func27, Tryd.ntmps27
  go_wp2_with fail
  go_ret
  exact ⟨rfl, by (repeat (first | with_reducible exact Below.refl _ _ | with_reducible assumption | with_reducible refine below_drewN ?_ _ | with_reducible refine Below.drew ?_ | with_reducible refine Below.alloc ?_ (by first | omega | (simp; done) | (simp; omega)) _ | with_reducible refine Below.setCell ?_ (by first | omega | (simp; done) | (simp; omega)) _ | with_reducible refine Below.trans ?_ (Below.mono (by assumption) (by first | omega | (simp; done) | (simp; omega)))))⟩

set_option maxHeartbeats 1000000 in
theorem iVM_hi (t ma mb mk mc md ml : Int) (f : Bool) (w : World) (_hT : LT β w) (h0 : 8 ≤ t)
    : Calls Tryd.prog 27 #[Value.agg #[Value.int IntKind.i64 t, Value.bool f, Value.int IntKind.i64 ma, Value.int IntKind.i64 mb, Value.int IntKind.i64 mk, Value.int IntKind.i64 mc, Value.int IntKind.i64 md, Value.int IntKind.i64 ml]] w (RetB (Value.bool false) w) := by
  go_enter Tryd.func27, Tryd.ntmps27
  go_wp2_with fail
  go_ret
  exact ⟨rfl, by (repeat (first | with_reducible exact Below.refl _ _ | with_reducible assumption | with_reducible refine below_drewN ?_ _ | with_reducible refine Below.drew ?_ | with_reducible refine Below.alloc ?_ (by first | omega | (simp; done) | (simp; omega)) _ | with_reducible refine Below.setCell ?_ (by first | omega | (simp; done) | (simp; omega)) _ | with_reducible refine Below.trans ?_ (Below.mono (by assumption) (by first | omega | (simp; done) | (simp; omega)))))⟩

set_option maxHeartbeats 1000000 in
theorem iVM_ok (t ma mb mk mc md ml : Int) (f r : Bool) (w : World) (hT : LT β w) (h0 : 0 ≤ t) (h1 : t < 8)
    (H1 : Hid (∀ w, LT β w → Calls Tryd.prog 63 #[Value.agg #[Value.int IntKind.i64 t, Value.bool f, Value.int IntKind.i64 ma, Value.int IntKind.i64 mb, Value.int IntKind.i64 mk, Value.int IntKind.i64 mc, Value.int IntKind.i64 md, Value.int IntKind.i64 ml]] w (RetB (Value.agg #[Value.int IntKind.i64 ma, Value.int IntKind.i64 mb, Value.int IntKind.i64 mk, Value.int IntKind.i64 mc, Value.int IntKind.i64 md, Value.int IntKind.i64 ml]) w)))
    (H2 : Hid (∀ w, LT β w → Calls Tryd.prog 33 #[Value.agg #[Value.int IntKind.i64 ma, Value.int IntKind.i64 mb, Value.int IntKind.i64 mk, Value.int IntKind.i64 mc, Value.int IntKind.i64 md, Value.int IntKind.i64 ml]] w (RetB (Value.bool r) w)))
    : Calls Tryd.prog 27 #[Value.agg #[Value.int IntKind.i64 t, Value.bool f, Value.int IntKind.i64 ma, Value.int IntKind.i64 mb, Value.int IntKind.i64 mk, Value.int IntKind.i64 mc, Value.int IntKind.i64 md, Value.int IntKind.i64 ml]] w (RetB (Value.bool r) w) := by
  go_enter Tryd.func27, Tryd.ntmps27
  go_wp2_with fail
  refine (H1.out _ ?_).mono ?_
  · exact LT.below (w := w) hT (by (repeat (first | with_reducible exact Below.refl _ _ | with_reducible assumption | with_reducible refine below_drewN ?_ _ | with_reducible refine Below.drew ?_ | with_reducible refine Below.alloc ?_ (by first | omega | (simp; done) | (simp; omega)) _ | with_reducible refine Below.setCell ?_ (by first | omega | (simp; done) | (simp; omega)) _ | with_reducible refine Below.trans ?_ (Below.mono (by assumption) (by first | omega | (simp; done) | (simp; omega)))))) (Nat.le_refl _)
  rintro e w1 ⟨rfl, hb1⟩; (try replace hb1 := Below.undrew hb1); obtain ⟨hc1, hf1⟩ := bcell hb1; have hz1 := hb1.size; (try simp at hz1); (try have z1_0 : w.heap.size < w1.heap.size := (by omega))
  go_wp2_with fail
  refine (H2.out _ ?_).mono ?_
  · exact LT.below (w := w) hT (by (repeat (first | with_reducible exact Below.refl _ _ | with_reducible assumption | with_reducible refine below_drewN ?_ _ | with_reducible refine Below.drew ?_ | with_reducible refine Below.alloc ?_ (by first | omega | (simp; done) | (simp; omega)) _ | with_reducible refine Below.setCell ?_ (by first | omega | (simp; done) | (simp; omega)) _ | with_reducible refine Below.trans ?_ (Below.mono (by assumption) (by first | omega | (simp; done) | (simp; omega)))))) (Nat.le_refl _)
  rintro e w2 ⟨rfl, hb2⟩; (try replace hb2 := Below.undrew hb2); obtain ⟨hc2, hf2⟩ := bcell hb2; have hz2 := hb2.size; (try simp at hz2); (try have z2_0 : w.heap.size < w2.heap.size := (by omega))
  go_wp2_with fail
  go_ret
  exact ⟨rfl, by (repeat (first | with_reducible exact Below.refl _ _ | with_reducible assumption | with_reducible refine below_drewN ?_ _ | with_reducible refine Below.drew ?_ | with_reducible refine Below.alloc ?_ (by first | omega | (simp; done) | (simp; omega)) _ | with_reducible refine Below.setCell ?_ (by first | omega | (simp; done) | (simp; omega)) _ | with_reducible refine Below.trans ?_ (Below.mono (by assumption) (by first | omega | (simp; done) | (simp; omega)))))⟩

set_option maxHeartbeats 1000000 in
theorem sMK_no1 (t ma mb mk mc md ml : Int) (f : Bool) (w : World) (hT : LT β w)
    (H1 : Hid (∀ w, LT β w → Calls Tryd.prog 61 #[Value.int IntKind.i64 t, Value.int IntKind.i64 0, Value.int IntKind.i64 7] w (RetB (Value.bool false) w)))
    : Calls Tryd.prog 25 #[Value.agg #[Value.int IntKind.i64 t, Value.bool f, Value.int IntKind.i64 ma, Value.int IntKind.i64 mb, Value.int IntKind.i64 mk, Value.int IntKind.i64 mc, Value.int IntKind.i64 md, Value.int IntKind.i64 ml]] w (RetB (Value.bool false) w) := by
  go_enter Tryd.func25, Tryd.ntmps25
  go_wp2_with fail
  refine (H1.out _ ?_).mono ?_
  · exact LT.below (w := w) hT (by (repeat (first | with_reducible exact Below.refl _ _ | with_reducible assumption | with_reducible refine below_drewN ?_ _ | with_reducible refine Below.drew ?_ | with_reducible refine Below.alloc ?_ (by first | omega | (simp; done) | (simp; omega)) _ | with_reducible refine Below.setCell ?_ (by first | omega | (simp; done) | (simp; omega)) _ | with_reducible refine Below.trans ?_ (Below.mono (by assumption) (by first | omega | (simp; done) | (simp; omega)))))) (Nat.le_refl _)
  rintro e w1 ⟨rfl, hb1⟩; (try replace hb1 := Below.undrew hb1); obtain ⟨hc1, hf1⟩ := bcell hb1; have hz1 := hb1.size; (try simp at hz1); (try have z1_0 : w.heap.size < w1.heap.size := (by omega))
  go_wp2_with fail
  go_ret
  exact ⟨rfl, by (repeat (first | with_reducible exact Below.refl _ _ | with_reducible assumption | with_reducible refine below_drewN ?_ _ | with_reducible refine Below.drew ?_ | with_reducible refine Below.alloc ?_ (by first | omega | (simp; done) | (simp; omega)) _ | with_reducible refine Below.setCell ?_ (by first | omega | (simp; done) | (simp; omega)) _ | with_reducible refine Below.trans ?_ (Below.mono (by assumption) (by first | omega | (simp; done) | (simp; omega)))))⟩

set_option maxHeartbeats 1000000 in
theorem sMK_no2 (t ma mb mk mc md ml : Int) (f : Bool) (w : World) (hT : LT β w)
    (H1 : Hid (∀ w, LT β w → Calls Tryd.prog 61 #[Value.int IntKind.i64 t, Value.int IntKind.i64 0, Value.int IntKind.i64 7] w (RetB (Value.bool true) w)))
    (H2 : Hid (∀ w, LT β w → Calls Tryd.prog 62 #[Value.agg #[Value.int IntKind.i64 ma, Value.int IntKind.i64 mb, Value.int IntKind.i64 mk]] w (RetB (Value.bool false) w)))
    : Calls Tryd.prog 25 #[Value.agg #[Value.int IntKind.i64 t, Value.bool f, Value.int IntKind.i64 ma, Value.int IntKind.i64 mb, Value.int IntKind.i64 mk, Value.int IntKind.i64 mc, Value.int IntKind.i64 md, Value.int IntKind.i64 ml]] w (RetB (Value.bool false) w) := by
  go_enter Tryd.func25, Tryd.ntmps25
  go_wp2_with fail
  refine (H1.out _ ?_).mono ?_
  · exact LT.below (w := w) hT (by (repeat (first | with_reducible exact Below.refl _ _ | with_reducible assumption | with_reducible refine below_drewN ?_ _ | with_reducible refine Below.drew ?_ | with_reducible refine Below.alloc ?_ (by first | omega | (simp; done) | (simp; omega)) _ | with_reducible refine Below.setCell ?_ (by first | omega | (simp; done) | (simp; omega)) _ | with_reducible refine Below.trans ?_ (Below.mono (by assumption) (by first | omega | (simp; done) | (simp; omega)))))) (Nat.le_refl _)
  rintro e w1 ⟨rfl, hb1⟩; (try replace hb1 := Below.undrew hb1); obtain ⟨hc1, hf1⟩ := bcell hb1; have hz1 := hb1.size; (try simp at hz1); (try have z1_0 : w.heap.size < w1.heap.size := (by omega))
  go_wp2_with fail
  refine (H2.out _ ?_).mono ?_
  · exact LT.below (w := w) hT (by (repeat (first | with_reducible exact Below.refl _ _ | with_reducible assumption | with_reducible refine below_drewN ?_ _ | with_reducible refine Below.drew ?_ | with_reducible refine Below.alloc ?_ (by first | omega | (simp; done) | (simp; omega)) _ | with_reducible refine Below.setCell ?_ (by first | omega | (simp; done) | (simp; omega)) _ | with_reducible refine Below.trans ?_ (Below.mono (by assumption) (by first | omega | (simp; done) | (simp; omega)))))) (Nat.le_refl _)
  rintro e w2 ⟨rfl, hb2⟩; (try replace hb2 := Below.undrew hb2); obtain ⟨hc2, hf2⟩ := bcell hb2; have hz2 := hb2.size; (try simp at hz2); (try have z2_0 : w.heap.size < w2.heap.size := (by omega))
  go_wp2_with fail
  go_ret
  exact ⟨rfl, by (repeat (first | with_reducible exact Below.refl _ _ | with_reducible assumption | with_reducible refine below_drewN ?_ _ | with_reducible refine Below.drew ?_ | with_reducible refine Below.alloc ?_ (by first | omega | (simp; done) | (simp; omega)) _ | with_reducible refine Below.setCell ?_ (by first | omega | (simp; done) | (simp; omega)) _ | with_reducible refine Below.trans ?_ (Below.mono (by assumption) (by first | omega | (simp; done) | (simp; omega)))))⟩

set_option maxHeartbeats 1000000 in
theorem sMK_ok (t ma mb mk mc md ml : Int) (f r : Bool) (w : World) (hT : LT β w)
    (H1 : Hid (∀ w, LT β w → Calls Tryd.prog 61 #[Value.int IntKind.i64 t, Value.int IntKind.i64 0, Value.int IntKind.i64 7] w (RetB (Value.bool true) w)))
    (H2 : Hid (∀ w, LT β w → Calls Tryd.prog 62 #[Value.agg #[Value.int IntKind.i64 ma, Value.int IntKind.i64 mb, Value.int IntKind.i64 mk]] w (RetB (Value.bool true) w)))
    (H3 : Hid (∀ w, LT β w → Calls Tryd.prog 62 #[Value.agg #[Value.int IntKind.i64 mc, Value.int IntKind.i64 md, Value.int IntKind.i64 ml]] w (RetB (Value.bool r) w)))
    : Calls Tryd.prog 25 #[Value.agg #[Value.int IntKind.i64 t, Value.bool f, Value.int IntKind.i64 ma, Value.int IntKind.i64 mb, Value.int IntKind.i64 mk, Value.int IntKind.i64 mc, Value.int IntKind.i64 md, Value.int IntKind.i64 ml]] w (RetB (Value.bool r) w) := by
  go_enter Tryd.func25, Tryd.ntmps25
  go_wp2_with fail
  refine (H1.out _ ?_).mono ?_
  · exact LT.below (w := w) hT (by (repeat (first | with_reducible exact Below.refl _ _ | with_reducible assumption | with_reducible refine below_drewN ?_ _ | with_reducible refine Below.drew ?_ | with_reducible refine Below.alloc ?_ (by first | omega | (simp; done) | (simp; omega)) _ | with_reducible refine Below.setCell ?_ (by first | omega | (simp; done) | (simp; omega)) _ | with_reducible refine Below.trans ?_ (Below.mono (by assumption) (by first | omega | (simp; done) | (simp; omega)))))) (Nat.le_refl _)
  rintro e w1 ⟨rfl, hb1⟩; (try replace hb1 := Below.undrew hb1); obtain ⟨hc1, hf1⟩ := bcell hb1; have hz1 := hb1.size; (try simp at hz1); (try have z1_0 : w.heap.size < w1.heap.size := (by omega))
  go_wp2_with fail
  refine (H2.out _ ?_).mono ?_
  · exact LT.below (w := w) hT (by (repeat (first | with_reducible exact Below.refl _ _ | with_reducible assumption | with_reducible refine below_drewN ?_ _ | with_reducible refine Below.drew ?_ | with_reducible refine Below.alloc ?_ (by first | omega | (simp; done) | (simp; omega)) _ | with_reducible refine Below.setCell ?_ (by first | omega | (simp; done) | (simp; omega)) _ | with_reducible refine Below.trans ?_ (Below.mono (by assumption) (by first | omega | (simp; done) | (simp; omega)))))) (Nat.le_refl _)
  rintro e w2 ⟨rfl, hb2⟩; (try replace hb2 := Below.undrew hb2); obtain ⟨hc2, hf2⟩ := bcell hb2; have hz2 := hb2.size; (try simp at hz2); (try have z2_0 : w.heap.size < w2.heap.size := (by omega))
  go_wp2_with fail
  refine (H3.out _ ?_).mono ?_
  · exact LT.below (w := w) hT (by (repeat (first | with_reducible exact Below.refl _ _ | with_reducible assumption | with_reducible refine below_drewN ?_ _ | with_reducible refine Below.drew ?_ | with_reducible refine Below.alloc ?_ (by first | omega | (simp; done) | (simp; omega)) _ | with_reducible refine Below.setCell ?_ (by first | omega | (simp; done) | (simp; omega)) _ | with_reducible refine Below.trans ?_ (Below.mono (by assumption) (by first | omega | (simp; done) | (simp; omega)))))) (Nat.le_refl _)
  rintro e w3 ⟨rfl, hb3⟩; (try replace hb3 := Below.undrew hb3); obtain ⟨hc3, hf3⟩ := bcell hb3; have hz3 := hb3.size; (try simp at hz3); (try have z3_0 : w.heap.size < w3.heap.size := (by omega))
  go_wp2_with fail
  go_ret
  exact ⟨rfl, by (repeat (first | with_reducible exact Below.refl _ _ | with_reducible assumption | with_reducible refine below_drewN ?_ _ | with_reducible refine Below.drew ?_ | with_reducible refine Below.alloc ?_ (by first | omega | (simp; done) | (simp; omega)) _ | with_reducible refine Below.setCell ?_ (by first | omega | (simp; done) | (simp; omega)) _ | with_reducible refine Below.trans ?_ (Below.mono (by assumption) (by first | omega | (simp; done) | (simp; omega)))))⟩

set_option maxHeartbeats 1000000 in
theorem sVM (t ma mb mk mc md ml : Int) (f r : Bool) (w : World) (hT : LT β w)
    (H1 : Hid (∀ w, LT β w → Calls Tryd.prog 25 #[Value.agg #[Value.int IntKind.i64 t, Value.bool f, Value.int IntKind.i64 ma, Value.int IntKind.i64 mb, Value.int IntKind.i64 mk, Value.int IntKind.i64 mc, Value.int IntKind.i64 md, Value.int IntKind.i64 ml]] w (RetB (Value.bool r) w)))
    : Calls Tryd.prog 8 #[Value.agg #[Value.int IntKind.i64 t, Value.bool f, Value.int IntKind.i64 ma, Value.int IntKind.i64 mb, Value.int IntKind.i64 mk, Value.int IntKind.i64 mc, Value.int IntKind.i64 md, Value.int IntKind.i64 ml]] w (RetB (Value.bool r) w) := by
  go_enter Tryd.func8, Tryd.ntmps8
  go_wp2_with fail
  refine (H1.out _ ?_).mono ?_
  · exact LT.below (w := w) hT (by (repeat (first | with_reducible exact Below.refl _ _ | with_reducible assumption | with_reducible refine below_drewN ?_ _ | with_reducible refine Below.drew ?_ | with_reducible refine Below.alloc ?_ (by first | omega | (simp; done) | (simp; omega)) _ | with_reducible refine Below.setCell ?_ (by first | omega | (simp; done) | (simp; omega)) _ | with_reducible refine Below.trans ?_ (Below.mono (by assumption) (by first | omega | (simp; done) | (simp; omega)))))) (Nat.le_refl _)
  rintro e w1 ⟨rfl, hb1⟩; (try replace hb1 := Below.undrew hb1); obtain ⟨hc1, hf1⟩ := bcell hb1; have hz1 := hb1.size; (try simp at hz1); (try have z1_0 : w.heap.size < w1.heap.size := (by omega))
  go_wp2_with fail
  go_ret
  exact ⟨rfl, by (repeat (first | with_reducible exact Below.refl _ _ | with_reducible assumption | with_reducible refine below_drewN ?_ _ | with_reducible refine Below.drew ?_ | with_reducible refine Below.alloc ?_ (by first | omega | (simp; done) | (simp; omega)) _ | with_reducible refine Below.setCell ?_ (by first | omega | (simp; done) | (simp; omega)) _ | with_reducible refine Below.trans ?_ (Below.mono (by assumption) (by first | omega | (simp; done) | (simp; omega)))))⟩

end Go.Proofs.YtgfplfbfjkkalaaDoor
