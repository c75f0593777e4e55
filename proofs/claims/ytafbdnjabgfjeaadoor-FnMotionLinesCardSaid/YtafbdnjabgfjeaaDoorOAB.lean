/- Walks of the functions on motions, path by path, over the contracts of their callees. -/
import Derived.Test.YtafbdnjabgfjeaaDoorGl
import Derived.Deep.RegionHeld3
import Derived.Deep.DeepCutAuto
import Derived.Deep.DrawnRows
section
namespace Go.Proofs.YtafbdnjabgfjeaaDoor
open Go Go.RowKit OriM
variable {β : Bool}
attribute [local go_sem ↓] Go.wp_at_zero Go.wp_at_succ

set_option maxHeartbeats 1000000 in
theorem shift_core (t ma mb mk mc md ml : Int) (f : Bool) (w : World) (_hT : LT β w)
    : Calls Tryd.prog 112 #[Value.agg #[Value.int IntKind.i64 t, Value.bool f, Value.int IntKind.i64 ma, Value.int IntKind.i64 mb, Value.int IntKind.i64 mk, Value.int IntKind.i64 mc, Value.int IntKind.i64 md, Value.int IntKind.i64 ml]] w (RetB (Value.agg #[Value.int IntKind.i64 ma, Value.int IntKind.i64 mb, Value.int IntKind.i64 mk, Value.int IntKind.i64 mc, Value.int IntKind.i64 md, Value.int IntKind.i64 ml]) w) := by
  go_enter Tryd.func112, Tryd.ntmps112
  go_wp2_with fail
  exact bodyPost_ret (v := Value.agg #[Value.int IntKind.i64 ma, Value.int IntKind.i64 mb, Value.int IntKind.i64 mk, Value.int IntKind.i64 mc, Value.int IntKind.i64 md, Value.int IntKind.i64 ml]) (by simp [results, Tryd.results112, go_sem, *]) rfl ⟨rfl, by (repeat (first | with_reducible exact Below.refl _ _ | with_reducible assumption | with_reducible refine below_drewN ?_ _ | with_reducible refine Below.drew ?_ | with_reducible refine Below.alloc ?_ (by first | omega | (simp; done) | (simp; omega)) _ | with_reducible refine Below.setCell ?_ (by first | omega | (simp; done) | (simp; omega)) _ | with_reducible refine Below.trans ?_ (Below.mono (by assumption) (by first | omega | (simp; done) | (simp; omega)))))⟩

set_option maxHeartbeats 1000000 in
theorem iVM_lo (t ma mb mk mc md ml : Int) (f : Bool) (w : World) (_hT : LT β w) (h0 : t < 0)
    : Calls Tryd.prog 54 #[Value.agg #[Value.int IntKind.i64 t, Value.bool f, Value.int IntKind.i64 ma, Value.int IntKind.i64 mb, Value.int IntKind.i64 mk, Value.int IntKind.i64 mc, Value.int IntKind.i64 md, Value.int IntKind.i64 ml]] w (RetB (Value.bool false) w) := by
  go_enter Tryd.func54, Tryd.ntmps54
  go_wp2_with fail
  go_ret
  exact ⟨rfl, by (repeat (first | with_reducible exact Below.refl _ _ | with_reducible assumption | with_reducible refine below_drewN ?_ _ | with_reducible refine Below.drew ?_ | with_reducible refine Below.alloc ?_ (by first | omega | (simp; done) | (simp; omega)) _ | with_reducible refine Below.setCell ?_ (by first | omega | (simp; done) | (simp; omega)) _ | with_reducible refine Below.trans ?_ (Below.mono (by assumption) (by first | omega | (simp; done) | (simp; omega)))))⟩

set_option maxHeartbeats 1000000 in
theorem iVM_hi (t ma mb mk mc md ml : Int) (f : Bool) (w : World) (_hT : LT β w) (h0 : 8 ≤ t)
    : Calls Tryd.prog 54 #[Value.agg #[Value.int IntKind.i64 t, Value.bool f, Value.int IntKind.i64 ma, Value.int IntKind.i64 mb, Value.int IntKind.i64 mk, Value.int IntKind.i64 mc, Value.int IntKind.i64 md, Value.int IntKind.i64 ml]] w (RetB (Value.bool false) w) := by
  go_enter Tryd.func54, Tryd.ntmps54
  go_wp2_with fail
  go_ret
  exact ⟨rfl, by (repeat (first | with_reducible exact Below.refl _ _ | with_reducible assumption | with_reducible refine below_drewN ?_ _ | with_reducible refine Below.drew ?_ | with_reducible refine Below.alloc ?_ (by first | omega | (simp; done) | (simp; omega)) _ | with_reducible refine Below.setCell ?_ (by first | omega | (simp; done) | (simp; omega)) _ | with_reducible refine Below.trans ?_ (Below.mono (by assumption) (by first | omega | (simp; done) | (simp; omega)))))⟩

set_option maxHeartbeats 1000000 in
theorem iVM_ok (t ma mb mk mc md ml : Int) (f r : Bool) (w : World) (hT : LT β w) (h0 : 0 ≤ t) (h1 : t < 8)
    (H1 : Hid (∀ w, LT β w → Calls Tryd.prog 112 #[Value.agg #[Value.int IntKind.i64 t, Value.bool f, Value.int IntKind.i64 ma, Value.int IntKind.i64 mb, Value.int IntKind.i64 mk, Value.int IntKind.i64 mc, Value.int IntKind.i64 md, Value.int IntKind.i64 ml]] w (RetB (Value.agg #[Value.int IntKind.i64 ma, Value.int IntKind.i64 mb, Value.int IntKind.i64 mk, Value.int IntKind.i64 mc, Value.int IntKind.i64 md, Value.int IntKind.i64 ml]) w)))
    (H2 : Hid (∀ w, LT β w → Calls Tryd.prog 63 #[Value.agg #[Value.int IntKind.i64 ma, Value.int IntKind.i64 mb, Value.int IntKind.i64 mk, Value.int IntKind.i64 mc, Value.int IntKind.i64 md, Value.int IntKind.i64 ml]] w (RetB (Value.bool r) w)))
    : Calls Tryd.prog 54 #[Value.agg #[Value.int IntKind.i64 t, Value.bool f, Value.int IntKind.i64 ma, Value.int IntKind.i64 mb, Value.int IntKind.i64 mk, Value.int IntKind.i64 mc, Value.int IntKind.i64 md, Value.int IntKind.i64 ml]] w (RetB (Value.bool r) w) := by
  go_enter Tryd.func54, Tryd.ntmps54
  go_wp2_with fail
  refine (H1.out _ ?_).mono ?_
  · exact LT.below (w := w) hT (by (repeat (first | with_reducible exact Below.refl _ _ | with_reducible assumption | with_reducible refine below_drewN ?_ _ | with_reducible refine Below.drew ?_ | with_reducible refine Below.alloc ?_ (by first | omega | (simp; done) | (simp; omega)) _ | with_reducible refine Below.setCell ?_ (by first | omega | (simp; done) | (simp; omega)) _ | with_reducible refine Below.trans ?_ (Below.mono (by assumption) (by first | omega | (simp; done) | (simp; omega)))))) (Nat.le_refl _)
  rintro e w1 ⟨rfl, hb1⟩; (try replace hb1 := Below.undrew hb1); obtain ⟨hc1, hf1⟩ := bcell hb1; have hz1 := hb1.size; (try simp at hz1); (try have z1_0 : w.heap.size < w1.heap.size := (by omega))
  go_wp2_with fail
  refine (H2.out _ ?_).mono ?_
  · exact LT.below (w := w) hT (by (repeat (first | with_reducible exact Below.refl _ _ | with_reducible assumption | with_reducible refine below_drewN ?_ _ | with_reducible refine Below.drew ?_ | with_reducible refine Below.alloc ?_ (by first | omega | (simp; done) | (simp; omega)) _ | with_reducible refine Below.setCell ?_ (by first | omega | (simp; done) | (simp; omega)) _ | with_reducible refine Below.trans ?_ (Below.mono (by assumption) (by first | omega | (simp; done) | (simp; omega)))))) (Nat.le_refl _)
  rintro e w2 ⟨rfl, hb2⟩; (try replace hb2 := Below.undrew hb2); obtain ⟨hc2, hf2⟩ := bcell hb2; have hz2 := hb2.size; (try simp at hz2); (try have z2_0 : w.heap.size < w2.heap.size := (by omega))
  go_wp2_with fail
  go_ret
  exact ⟨rfl, by (repeat (first | with_reducible exact Below.refl _ _ | with_reducible assumption | with_reducible refine below_drewN ?_ _ | with_reducible refine Below.drew ?_ | with_reducible refine Below.alloc ?_ (by first | omega | (simp; done) | (simp; omega)) _ | with_reducible refine Below.setCell ?_ (by first | omega | (simp; done) | (simp; omega)) _ | with_reducible refine Below.trans ?_ (Below.mono (by assumption) (by first | omega | (simp; done) | (simp; omega)))))⟩

set_option maxHeartbeats 1000000 in
theorem sMK_no1 (t ma mb mk mc md ml : Int) (f : Bool) (w : World) (hT : LT β w)
    (H1 : Hid (∀ w, LT β w → Calls Tryd.prog 110 #[Value.int IntKind.i64 t, Value.int IntKind.i64 0, Value.int IntKind.i64 7] w (RetB (Value.bool false) w)))
    : Calls Tryd.prog 51 #[Value.agg #[Value.int IntKind.i64 t, Value.bool f, Value.int IntKind.i64 ma, Value.int IntKind.i64 mb, Value.int IntKind.i64 mk, Value.int IntKind.i64 mc, Value.int IntKind.i64 md, Value.int IntKind.i64 ml]] w (RetB (Value.bool false) w) := by
  go_enter Tryd.func51, Tryd.ntmps51
  go_wp2_with fail
  refine (H1.out _ ?_).mono ?_
  · exact LT.below (w := w) hT (by (repeat (first | with_reducible exact Below.refl _ _ | with_reducible assumption | with_reducible refine below_drewN ?_ _ | with_reducible refine Below.drew ?_ | with_reducible refine Below.alloc ?_ (by first | omega | (simp; done) | (simp; omega)) _ | with_reducible refine Below.setCell ?_ (by first | omega | (simp; done) | (simp; omega)) _ | with_reducible refine Below.trans ?_ (Below.mono (by assumption) (by first | omega | (simp; done) | (simp; omega)))))) (Nat.le_refl _)
  rintro e w1 ⟨rfl, hb1⟩; (try replace hb1 := Below.undrew hb1); obtain ⟨hc1, hf1⟩ := bcell hb1; have hz1 := hb1.size; (try simp at hz1); (try have z1_0 : w.heap.size < w1.heap.size := (by omega))
  go_wp2_with fail
  go_ret
  exact ⟨rfl, by (repeat (first | with_reducible exact Below.refl _ _ | with_reducible assumption | with_reducible refine below_drewN ?_ _ | with_reducible refine Below.drew ?_ | with_reducible refine Below.alloc ?_ (by first | omega | (simp; done) | (simp; omega)) _ | with_reducible refine Below.setCell ?_ (by first | omega | (simp; done) | (simp; omega)) _ | with_reducible refine Below.trans ?_ (Below.mono (by assumption) (by first | omega | (simp; done) | (simp; omega)))))⟩

set_option maxHeartbeats 1000000 in
theorem sMK_no2 (t ma mb mk mc md ml : Int) (f : Bool) (w : World) (hT : LT β w)
    (H1 : Hid (∀ w, LT β w → Calls Tryd.prog 110 #[Value.int IntKind.i64 t, Value.int IntKind.i64 0, Value.int IntKind.i64 7] w (RetB (Value.bool true) w)))
    (H2 : Hid (∀ w, LT β w → Calls Tryd.prog 111 #[Value.agg #[Value.int IntKind.i64 ma, Value.int IntKind.i64 mb, Value.int IntKind.i64 mk]] w (RetB (Value.bool false) w)))
    : Calls Tryd.prog 51 #[Value.agg #[Value.int IntKind.i64 t, Value.bool f, Value.int IntKind.i64 ma, Value.int IntKind.i64 mb, Value.int IntKind.i64 mk, Value.int IntKind.i64 mc, Value.int IntKind.i64 md, Value.int IntKind.i64 ml]] w (RetB (Value.bool false) w) := by
  go_enter Tryd.func51, Tryd.ntmps51
  go_wp2_with fail
  refine (H1.out _ ?_).mono ?_
  · exact LT.below (w := w) hT (by (repeat (first | with_reducible exact Below.refl _ _ | with_reducible assumption | with_reducible refine below_drewN ?_ _ | with_reducible refine Below.drew ?_ | with_reducible refine Below.alloc ?_ (by first | omega | (simp; done) | (simp; omega)) _ | with_reducible refine Below.setCell ?_ (by first | omega | (simp; done) | (simp; omega)) _ | with_reducible refine Below.trans ?_ (Below.mono (by assumption) (by first | omega | (simp; done) | (simp; omega)))))) (Nat.le_refl _)
  rintro e w1 ⟨rfl, hb1⟩; (try replace hb1 := Below.undrew hb1); obtain ⟨hc1, hf1⟩ := bcell hb1; have hz1 := hb1.size; (try simp at hz1); (try have z1_0 : w.heap.size < w1.heap.size := (by omega))
  go_wp2_with fail
  refine (H2.out _ ?_).mono ?_
  · exact LT.below (w := w) hT (by (repeat (first | with_reducible exact Below.refl _ _ | with_reducible assumption | with_reducible refine below_drewN ?_ _ | with_reducible refine Below.drew ?_ | with_reducible refine Below.alloc ?_ (by first | omega | (simp; done) | (simp; omega)) _ | with_reducible refine Below.setCell ?_ (by first | omega | (simp; done) | (simp; omega)) _ | with_reducible refine Below.trans ?_ (Below.mono (by assumption) (by first | omega | (simp; done) | (simp; omega)))))) (Nat.le_refl _)
  rintro e w2 ⟨rfl, hb2⟩; (try replace hb2 := Below.undrew hb2); obtain ⟨hc2, hf2⟩ := bcell hb2; have hz2 := hb2.size; (try simp at hz2); (try have z2_0 : w.heap.size < w2.heap.size := (by omega))
  go_wp2_with fail
  go_ret
  exact ⟨rfl, by (repeat (first | with_reducible exact Below.refl _ _ | with_reducible assumption | with_reducible refine below_drewN ?_ _ | with_reducible refine Below.drew ?_ | with_reducible refine Below.alloc ?_ (by first | omega | (simp; done) | (simp; omega)) _ | with_reducible refine Below.setCell ?_ (by first | omega | (simp; done) | (simp; omega)) _ | with_reducible refine Below.trans ?_ (Below.mono (by assumption) (by first | omega | (simp; done) | (simp; omega)))))⟩

set_option maxHeartbeats 1000000 in
theorem sMK_ok (t ma mb mk mc md ml : Int) (f r : Bool) (w : World) (hT : LT β w)
    (H1 : Hid (∀ w, LT β w → Calls Tryd.prog 110 #[Value.int IntKind.i64 t, Value.int IntKind.i64 0, Value.int IntKind.i64 7] w (RetB (Value.bool true) w)))
    (H2 : Hid (∀ w, LT β w → Calls Tryd.prog 111 #[Value.agg #[Value.int IntKind.i64 ma, Value.int IntKind.i64 mb, Value.int IntKind.i64 mk]] w (RetB (Value.bool true) w)))
    (H3 : Hid (∀ w, LT β w → Calls Tryd.prog 111 #[Value.agg #[Value.int IntKind.i64 mc, Value.int IntKind.i64 md, Value.int IntKind.i64 ml]] w (RetB (Value.bool r) w)))
    : Calls Tryd.prog 51 #[Value.agg #[Value.int IntKind.i64 t, Value.bool f, Value.int IntKind.i64 ma, Value.int IntKind.i64 mb, Value.int IntKind.i64 mk, Value.int IntKind.i64 mc, Value.int IntKind.i64 md, Value.int IntKind.i64 ml]] w (RetB (Value.bool r) w) := by
  go_enter Tryd.func51, Tryd.ntmps51
  go_wp2_with fail
  refine (H1.out _ ?_).mono ?_
  · exact LT.below (w := w) hT (by (repeat (first | with_reducible exact Below.refl _ _ | with_reducible assumption | with_reducible refine below_drewN ?_ _ | with_reducible refine Below.drew ?_ | with_reducible refine Below.alloc ?_ (by first | omega | (simp; done) | (simp; omega)) _ | with_reducible refine Below.setCell ?_ (by first | omega | (simp; done) | (simp; omega)) _ | with_reducible refine Below.trans ?_ (Below.mono (by assumption) (by first | omega | (simp; done) | (simp; omega)))))) (Nat.le_refl _)
  rintro e w1 ⟨rfl, hb1⟩; (try replace hb1 := Below.undrew hb1); obtain ⟨hc1, hf1⟩ := bcell hb1; have hz1 := hb1.size; (try simp at hz1); (try have z1_0 : w.heap.size < w1.heap.size := (by omega))
  go_wp2_with fail
  refine (H2.out _ ?_).mono ?_
  · exact LT.below (w := w) hT (by (repeat (first | with_reducible exact Below.refl _ _ | with_reducible assumption | with_reducible refine below_drewN ?_ _ | with_reducible refine Below.drew ?_ | with_reducible refine Below.alloc ?_ (by first | omega | (simp; done) | (simp; omega)) _ | with_reducible refine Below.setCell ?_ (by first | omega | (simp; done) | (simp; omega)) _ | with_reducible refine Below.trans ?_ (Below.mono (by assumption) (by first | omega | (simp; done) | (simp; omega)))))) (Nat.le_refl _)
  rintro e w2 ⟨rfl, hb2⟩; (try replace hb2 := Below.undrew hb2); obtain ⟨hc2, hf2⟩ := bcell hb2; have hz2 := hb2.size; (try simp at hz2); (try have z2_0 : w.heap.size < w2.heap.size := (by omega))
  go_wp2_with fail
  refine (H3.out _ ?_).mono ?_
  · exact LT.below (w := w) hT (by (repeat (first | with_reducible exact Below.refl _ _ | with_reducible assumption | with_reducible refine below_drewN ?_ _ | with_reducible refine Below.drew ?_ | with_reducible refine Below.alloc ?_ (by first | omega | (simp; done) | (simp; omega)) _ | with_reducible refine Below.setCell ?_ (by first | omega | (simp; done) | (simp; omega)) _ | with_reducible refine Below.trans ?_ (Below.mono (by assumption) (by first | omega | (simp; done) | (simp; omega)))))) (Nat.le_refl _)
  rintro e w3 ⟨rfl, hb3⟩; (try replace hb3 := Below.undrew hb3); obtain ⟨hc3, hf3⟩ := bcell hb3; have hz3 := hb3.size; (try simp at hz3); (try have z3_0 : w.heap.size < w3.heap.size := (by omega))
  go_wp2_with fail
  go_ret
  exact ⟨rfl, by (repeat (first | with_reducible exact Below.refl _ _ | with_reducible assumption | with_reducible refine below_drewN ?_ _ | with_reducible refine Below.drew ?_ | with_reducible refine Below.alloc ?_ (by first | omega | (simp; done) | (simp; omega)) _ | with_reducible refine Below.setCell ?_ (by first | omega | (simp; done) | (simp; omega)) _ | with_reducible refine Below.trans ?_ (Below.mono (by assumption) (by first | omega | (simp; done) | (simp; omega)))))⟩

set_option maxHeartbeats 1000000 in
theorem sVM (t ma mb mk mc md ml : Int) (f r : Bool) (w : World) (hT : LT β w)
    (H1 : Hid (∀ w, LT β w → Calls Tryd.prog 51 #[Value.agg #[Value.int IntKind.i64 t, Value.bool f, Value.int IntKind.i64 ma, Value.int IntKind.i64 mb, Value.int IntKind.i64 mk, Value.int IntKind.i64 mc, Value.int IntKind.i64 md, Value.int IntKind.i64 ml]] w (RetB (Value.bool r) w)))
    : Calls Tryd.prog 13 #[Value.agg #[Value.int IntKind.i64 t, Value.bool f, Value.int IntKind.i64 ma, Value.int IntKind.i64 mb, Value.int IntKind.i64 mk, Value.int IntKind.i64 mc, Value.int IntKind.i64 md, Value.int IntKind.i64 ml]] w (RetB (Value.bool r) w) := by
  go_enter Tryd.func13, Tryd.ntmps13
  go_wp2_with fail
  refine (H1.out _ ?_).mono ?_
  · exact LT.below (w := w) hT (by (repeat (first | with_reducible exact Below.refl _ _ | with_reducible assumption | with_reducible refine below_drewN ?_ _ | with_reducible refine Below.drew ?_ | with_reducible refine Below.alloc ?_ (by first | omega | (simp; done) | (simp; omega)) _ | with_reducible refine Below.setCell ?_ (by first | omega | (simp; done) | (simp; omega)) _ | with_reducible refine Below.trans ?_ (Below.mono (by assumption) (by first | omega | (simp; done) | (simp; omega)))))) (Nat.le_refl _)
  rintro e w1 ⟨rfl, hb1⟩; (try replace hb1 := Below.undrew hb1); obtain ⟨hc1, hf1⟩ := bcell hb1; have hz1 := hb1.size; (try simp at hz1); (try have z1_0 : w.heap.size < w1.heap.size := (by omega))
  go_wp2_with fail
  go_ret
  exact ⟨rfl, by (repeat (first | with_reducible exact Below.refl _ _ | with_reducible assumption | with_reducible refine below_drewN ?_ _ | with_reducible refine Below.drew ?_ | with_reducible refine Below.alloc ?_ (by first | omega | (simp; done) | (simp; omega)) _ | with_reducible refine Below.setCell ?_ (by first | omega | (simp; done) | (simp; omega)) _ | with_reducible refine Below.trans ?_ (Below.mono (by assumption) (by first | omega | (simp; done) | (simp; omega)))))⟩

end Go.Proofs.YtafbdnjabgfjeaaDoor
end
section
namespace Go.Proofs.YtafbdnjabgfjeaaDoor
open Go Go.RowKit OriM
variable {β : Bool}
attribute [local go_sem ↓] Go.wp_at_zero Go.wp_at_succ

set_option maxHeartbeats 1000000 in
theorem iMD_no (t ma mb mk mc md ml d : Int) (f : Bool) (w : World) (hT : LT β w)
    (H1 : Hid (∀ w, LT β w → Calls Tryd.prog 54 #[Value.agg #[Value.int IntKind.i64 t, Value.bool f, Value.int IntKind.i64 ma, Value.int IntKind.i64 mb, Value.int IntKind.i64 mk, Value.int IntKind.i64 mc, Value.int IntKind.i64 md, Value.int IntKind.i64 ml]] w (RetB (Value.bool false) w)))
    : Calls Tryd.prog 20 #[Value.agg #[Value.int IntKind.i64 t, Value.bool f, Value.int IntKind.i64 ma, Value.int IntKind.i64 mb, Value.int IntKind.i64 mk, Value.int IntKind.i64 mc, Value.int IntKind.i64 md, Value.int IntKind.i64 ml], Value.int IntKind.i64 d] w (RetB (Value.int IntKind.i64 (-1)) w) := by
  go_enter Tryd.func20, Tryd.ntmps20
  go_wp2_with fail
  refine (H1.out _ ?_).mono ?_
  · exact LT.below (w := w) hT (by (repeat (first | with_reducible exact Below.refl _ _ | with_reducible assumption | with_reducible refine below_drewN ?_ _ | with_reducible refine Below.drew ?_ | with_reducible refine Below.alloc ?_ (by first | omega | (simp; done) | (simp; omega)) _ | with_reducible refine Below.setCell ?_ (by first | omega | (simp; done) | (simp; omega)) _ | with_reducible refine Below.trans ?_ (Below.mono (by assumption) (by first | omega | (simp; done) | (simp; omega)))))) (Nat.le_refl _)
  rintro e w1 ⟨rfl, hb1⟩; (try replace hb1 := Below.undrew hb1); obtain ⟨hc1, hf1⟩ := bcell hb1; have hz1 := hb1.size; (try simp at hz1); (try have z1_0 : w.heap.size < w1.heap.size := (by omega))
  go_wp2_with fail
  go_ret
  exact ⟨rfl, by (repeat (first | with_reducible exact Below.refl _ _ | with_reducible assumption | with_reducible refine below_drewN ?_ _ | with_reducible refine Below.drew ?_ | with_reducible refine Below.alloc ?_ (by first | omega | (simp; done) | (simp; omega)) _ | with_reducible refine Below.setCell ?_ (by first | omega | (simp; done) | (simp; omega)) _ | with_reducible refine Below.trans ?_ (Below.mono (by assumption) (by first | omega | (simp; done) | (simp; omega)))))⟩

set_option maxHeartbeats 1000000 in
theorem iMD_lo (t ma mb mk mc md ml d : Int) (f : Bool) (w : World) (hT : LT β w) (h0 : d < 0)
    (H1 : Hid (∀ w, LT β w → Calls Tryd.prog 54 #[Value.agg #[Value.int IntKind.i64 t, Value.bool f, Value.int IntKind.i64 ma, Value.int IntKind.i64 mb, Value.int IntKind.i64 mk, Value.int IntKind.i64 mc, Value.int IntKind.i64 md, Value.int IntKind.i64 ml]] w (RetB (Value.bool true) w)))
    : Calls Tryd.prog 20 #[Value.agg #[Value.int IntKind.i64 t, Value.bool f, Value.int IntKind.i64 ma, Value.int IntKind.i64 mb, Value.int IntKind.i64 mk, Value.int IntKind.i64 mc, Value.int IntKind.i64 md, Value.int IntKind.i64 ml], Value.int IntKind.i64 d] w (RetB (Value.int IntKind.i64 (-1)) w) := by
  go_enter Tryd.func20, Tryd.ntmps20
  go_wp2_with fail
  refine (H1.out _ ?_).mono ?_
  · exact LT.below (w := w) hT (by (repeat (first | with_reducible exact Below.refl _ _ | with_reducible assumption | with_reducible refine below_drewN ?_ _ | with_reducible refine Below.drew ?_ | with_reducible refine Below.alloc ?_ (by first | omega | (simp; done) | (simp; omega)) _ | with_reducible refine Below.setCell ?_ (by first | omega | (simp; done) | (simp; omega)) _ | with_reducible refine Below.trans ?_ (Below.mono (by assumption) (by first | omega | (simp; done) | (simp; omega)))))) (Nat.le_refl _)
  rintro e w1 ⟨rfl, hb1⟩; (try replace hb1 := Below.undrew hb1); obtain ⟨hc1, hf1⟩ := bcell hb1; have hz1 := hb1.size; (try simp at hz1); (try have z1_0 : w.heap.size < w1.heap.size := (by omega))
  go_wp2_with fail
  go_ret
  exact ⟨rfl, by (repeat (first | with_reducible exact Below.refl _ _ | with_reducible assumption | with_reducible refine below_drewN ?_ _ | with_reducible refine Below.drew ?_ | with_reducible refine Below.alloc ?_ (by first | omega | (simp; done) | (simp; omega)) _ | with_reducible refine Below.setCell ?_ (by first | omega | (simp; done) | (simp; omega)) _ | with_reducible refine Below.trans ?_ (Below.mono (by assumption) (by first | omega | (simp; done) | (simp; omega)))))⟩

set_option maxHeartbeats 1000000 in
theorem iMD_hi (t ma mb mk mc md ml d : Int) (f : Bool) (w : World) (hT : LT β w) (h0 : 16 ≤ d)
    (H1 : Hid (∀ w, LT β w → Calls Tryd.prog 54 #[Value.agg #[Value.int IntKind.i64 t, Value.bool f, Value.int IntKind.i64 ma, Value.int IntKind.i64 mb, Value.int IntKind.i64 mk, Value.int IntKind.i64 mc, Value.int IntKind.i64 md, Value.int IntKind.i64 ml]] w (RetB (Value.bool true) w)))
    : Calls Tryd.prog 20 #[Value.agg #[Value.int IntKind.i64 t, Value.bool f, Value.int IntKind.i64 ma, Value.int IntKind.i64 mb, Value.int IntKind.i64 mk, Value.int IntKind.i64 mc, Value.int IntKind.i64 md, Value.int IntKind.i64 ml], Value.int IntKind.i64 d] w (RetB (Value.int IntKind.i64 (-1)) w) := by
  go_enter Tryd.func20, Tryd.ntmps20
  go_wp2_with fail
  refine (H1.out _ ?_).mono ?_
  · exact LT.below (w := w) hT (by (repeat (first | with_reducible exact Below.refl _ _ | with_reducible assumption | with_reducible refine below_drewN ?_ _ | with_reducible refine Below.drew ?_ | with_reducible refine Below.alloc ?_ (by first | omega | (simp; done) | (simp; omega)) _ | with_reducible refine Below.setCell ?_ (by first | omega | (simp; done) | (simp; omega)) _ | with_reducible refine Below.trans ?_ (Below.mono (by assumption) (by first | omega | (simp; done) | (simp; omega)))))) (Nat.le_refl _)
  rintro e w1 ⟨rfl, hb1⟩; (try replace hb1 := Below.undrew hb1); obtain ⟨hc1, hf1⟩ := bcell hb1; have hz1 := hb1.size; (try simp at hz1); (try have z1_0 : w.heap.size < w1.heap.size := (by omega))
  go_wp2_with fail
  go_ret
  exact ⟨rfl, by (repeat (first | with_reducible exact Below.refl _ _ | with_reducible assumption | with_reducible refine below_drewN ?_ _ | with_reducible refine Below.drew ?_ | with_reducible refine Below.alloc ?_ (by first | omega | (simp; done) | (simp; omega)) _ | with_reducible refine Below.setCell ?_ (by first | omega | (simp; done) | (simp; omega)) _ | with_reducible refine Below.trans ?_ (Below.mono (by assumption) (by first | omega | (simp; done) | (simp; omega)))))⟩

set_option maxHeartbeats 1000000 in
theorem iMD_ok (t ma mb mk mc md ml d r : Int) (f : Bool) (w : World) (hT : LT β w) (h0 : 0 ≤ d) (h1 : d < 16)
    (H1 : Hid (∀ w, LT β w → Calls Tryd.prog 54 #[Value.agg #[Value.int IntKind.i64 t, Value.bool f, Value.int IntKind.i64 ma, Value.int IntKind.i64 mb, Value.int IntKind.i64 mk, Value.int IntKind.i64 mc, Value.int IntKind.i64 md, Value.int IntKind.i64 ml]] w (RetB (Value.bool true) w)))
    (H2 : Hid (∀ w, LT β w → Calls Tryd.prog 61 #[Value.agg #[Value.int IntKind.i64 t, Value.bool f, Value.int IntKind.i64 ma, Value.int IntKind.i64 mb, Value.int IntKind.i64 mk, Value.int IntKind.i64 mc, Value.int IntKind.i64 md, Value.int IntKind.i64 ml], Value.int IntKind.i64 d] w (RetB (Value.int IntKind.i64 r) w)))
    : Calls Tryd.prog 20 #[Value.agg #[Value.int IntKind.i64 t, Value.bool f, Value.int IntKind.i64 ma, Value.int IntKind.i64 mb, Value.int IntKind.i64 mk, Value.int IntKind.i64 mc, Value.int IntKind.i64 md, Value.int IntKind.i64 ml], Value.int IntKind.i64 d] w (RetB (Value.int IntKind.i64 r) w) := by
  go_enter Tryd.func20, Tryd.ntmps20
  go_wp2_with fail
  refine (H1.out _ ?_).mono ?_
  · exact LT.below (w := w) hT (by (repeat (first | with_reducible exact Below.refl _ _ | with_reducible assumption | with_reducible refine below_drewN ?_ _ | with_reducible refine Below.drew ?_ | with_reducible refine Below.alloc ?_ (by first | omega | (simp; done) | (simp; omega)) _ | with_reducible refine Below.setCell ?_ (by first | omega | (simp; done) | (simp; omega)) _ | with_reducible refine Below.trans ?_ (Below.mono (by assumption) (by first | omega | (simp; done) | (simp; omega)))))) (Nat.le_refl _)
  rintro e w1 ⟨rfl, hb1⟩; (try replace hb1 := Below.undrew hb1); obtain ⟨hc1, hf1⟩ := bcell hb1; have hz1 := hb1.size; (try simp at hz1); (try have z1_0 : w.heap.size < w1.heap.size := (by omega))
  go_wp2_with fail
  refine (H2.out _ ?_).mono ?_
  · exact LT.below (w := w) hT (by (repeat (first | with_reducible exact Below.refl _ _ | with_reducible assumption | with_reducible refine below_drewN ?_ _ | with_reducible refine Below.drew ?_ | with_reducible refine Below.alloc ?_ (by first | omega | (simp; done) | (simp; omega)) _ | with_reducible refine Below.setCell ?_ (by first | omega | (simp; done) | (simp; omega)) _ | with_reducible refine Below.trans ?_ (Below.mono (by assumption) (by first | omega | (simp; done) | (simp; omega)))))) (Nat.le_refl _)
  rintro e w2 ⟨rfl, hb2⟩; (try replace hb2 := Below.undrew hb2); obtain ⟨hc2, hf2⟩ := bcell hb2; have hz2 := hb2.size; (try simp at hz2); (try have z2_0 : w.heap.size < w2.heap.size := (by omega))
  go_wp2_with fail
  go_ret
  exact ⟨rfl, by (repeat (first | with_reducible exact Below.refl _ _ | with_reducible assumption | with_reducible refine below_drewN ?_ _ | with_reducible refine Below.drew ?_ | with_reducible refine Below.alloc ?_ (by first | omega | (simp; done) | (simp; omega)) _ | with_reducible refine Below.setCell ?_ (by first | omega | (simp; done) | (simp; omega)) _ | with_reducible refine Below.trans ?_ (Below.mono (by assumption) (by first | omega | (simp; done) | (simp; omega)))))⟩

set_option maxHeartbeats 1000000 in
theorem sMOf_core (t ma mb mk mc md ml pa pb pk qa qb qk : Int) (f : Bool) (w : World) (hT : LT β w)
    (H1 : Hid (∀ w, LT β w → Calls Tryd.prog 123 #[Value.agg #[Value.int IntKind.i64 ma, Value.int IntKind.i64 mb, Value.int IntKind.i64 mk]] w (RetB (Value.agg #[Value.int IntKind.i64 pa, Value.int IntKind.i64 pb, Value.int IntKind.i64 pk]) w)))
    (H2 : Hid (∀ w, LT β w → Calls Tryd.prog 123 #[Value.agg #[Value.int IntKind.i64 mc, Value.int IntKind.i64 md, Value.int IntKind.i64 ml]] w (RetB (Value.agg #[Value.int IntKind.i64 qa, Value.int IntKind.i64 qb, Value.int IntKind.i64 qk]) w)))
    : Calls Tryd.prog 67 #[Value.agg #[Value.int IntKind.i64 t, Value.bool f, Value.int IntKind.i64 ma, Value.int IntKind.i64 mb, Value.int IntKind.i64 mk, Value.int IntKind.i64 mc, Value.int IntKind.i64 md, Value.int IntKind.i64 ml]] w (RetB (Value.agg #[Value.int IntKind.i64 t, Value.bool f, Value.int IntKind.i64 pa, Value.int IntKind.i64 pb, Value.int IntKind.i64 pk, Value.int IntKind.i64 qa, Value.int IntKind.i64 qb, Value.int IntKind.i64 qk]) w) := by
  go_enter Tryd.func67, Tryd.ntmps67
  go_wp2_with fail
  go_region_held3 (fun w' => w'.cell? ⟨w.heap.size, 0, none⟩ = some (Value.int IntKind.i64 t) ∧ w'.cell? ⟨w.heap.size, 1, none⟩ = some (Value.bool f) ∧ w'.cell? ⟨w.heap.size, 2, none⟩ = some (Value.int IntKind.i64 ma) ∧ w'.cell? ⟨w.heap.size, 3, none⟩ = some (Value.int IntKind.i64 mb) ∧ w'.cell? ⟨w.heap.size, 4, none⟩ = some (Value.int IntKind.i64 mk) ∧ w'.cell? ⟨w.heap.size, 5, none⟩ = some (Value.int IntKind.i64 mc) ∧ w'.cell? ⟨w.heap.size, 6, none⟩ = some (Value.int IntKind.i64 md) ∧ w'.cell? ⟨w.heap.size, 7, none⟩ = some (Value.int IntKind.i64 ml)) ((first | (go_simp; done) | (simp [*]; done)))
    ((first
    | (go_at_call_of 123 (Value.agg #[Value.int IntKind.i64 ma, Value.int IntKind.i64 mb, Value.int IntKind.i64 mk]); refine (H1.out _ ?_).mono ?_; exact LT.below (w := w) hT (by (repeat (first | with_reducible exact Below.refl _ _ | with_reducible assumption | with_reducible refine below_drewN ?_ _ | with_reducible refine Below.drew ?_ | with_reducible refine Below.alloc ?_ (by first | omega | (simp; done) | (simp; omega)) _ | with_reducible refine Below.setCell ?_ (by first | omega | (simp; done) | (simp; omega)) _ | with_reducible refine Below.trans ?_ (Below.mono (by assumption) (by first | omega | (simp; done) | (simp; omega)))))) (Nat.le_refl _); rintro e w1 ⟨rfl, hb1⟩; (try replace hb1 := Below.undrew hb1); obtain ⟨hc1, hf1⟩ := bcell hb1; have hz1 := hb1.size; (try simp at hz1); (have zz_1_0 : w.heap.size < w.heap.size + 1 + 1 := (by omega)); (try have z1_0 : w.heap.size < w1.heap.size := (by omega)); (try have z1_1 : w.heap.size + 1 < w1.heap.size := (by omega)))
    | (go_at_call_of 123 (Value.agg #[Value.int IntKind.i64 mc, Value.int IntKind.i64 md, Value.int IntKind.i64 ml]); refine (H2.out _ ?_).mono ?_; exact LT.below (w := w) hT (by (repeat (first | with_reducible exact Below.refl _ _ | with_reducible assumption | with_reducible refine below_drewN ?_ _ | with_reducible refine Below.drew ?_ | with_reducible refine Below.alloc ?_ (by first | omega | (simp; done) | (simp; omega)) _ | with_reducible refine Below.setCell ?_ (by first | omega | (simp; done) | (simp; omega)) _ | with_reducible refine Below.trans ?_ (Below.mono (by assumption) (by first | omega | (simp; done) | (simp; omega)))))) (Nat.le_refl _); rintro e w2 ⟨rfl, hb2⟩; (try replace hb2 := Below.undrew hb2); obtain ⟨hc2, hf2⟩ := bcell hb2; have hz2 := hb2.size; (try simp at hz2); (try have z2_0 : w.heap.size < w2.heap.size := (by omega)); (try have z2_1 : w.heap.size + 1 < w2.heap.size := (by omega)))))
  go_wp2_with fail
  exact bodyPost_ret (v := Value.agg #[Value.int IntKind.i64 t, Value.bool f, Value.int IntKind.i64 pa, Value.int IntKind.i64 pb, Value.int IntKind.i64 pk, Value.int IntKind.i64 qa, Value.int IntKind.i64 qb, Value.int IntKind.i64 qk]) (by simp [results, Tryd.results67, go_sem, *]) rfl ⟨rfl, by (repeat (first | with_reducible exact Below.refl _ _ | with_reducible assumption | with_reducible refine below_drewN ?_ _ | with_reducible refine Below.drew ?_ | with_reducible refine Below.alloc ?_ (by first | omega | (simp; done) | (simp; omega)) _ | with_reducible refine Below.setCell ?_ (by first | omega | (simp; done) | (simp; omega)) _ | with_reducible refine Below.trans ?_ (Below.mono (by assumption) (by first | omega | (simp; done) | (simp; omega)))))⟩

set_option maxHeartbeats 1000000 in
set_option maxRecDepth 100000 in
theorem iDir_no (t ma mb mk mc md ml d : Int) (w : World) (_hT : LT β w) (h0 : 0 ≤ t) (h1 : t < 8) (h2 : 0 ≤ d) (h3 : d < 16)
    : Calls Tryd.prog 61 #[Value.agg #[Value.int IntKind.i64 t, Value.bool false, Value.int IntKind.i64 ma, Value.int IntKind.i64 mb, Value.int IntKind.i64 mk, Value.int IntKind.i64 mc, Value.int IntKind.i64 md, Value.int IntKind.i64 ml], Value.int IntKind.i64 d] w (RetB (Value.int IntKind.i64 ((t * 2 + d) % 16)) w) := by
  have e1 : IntKind.i64.wrap (t * 2) = t * 2 := wrap_in (by omega) (by omega)
  have e2 : IntKind.i64.wrap (t * 2 + d) = t * 2 + d := wrap_in (by omega) (by omega)
  have e3 : (t * 2 + d).tmod 16 = (t * 2 + d) % 16 := Int.tmod_eq_emod_of_nonneg (by omega)
  go_enter Tryd.func61, Tryd.ntmps61
  go_wp2_with fail
  go_ret
  exact ⟨rfl, by (repeat (first | with_reducible exact Below.refl _ _ | with_reducible assumption | with_reducible refine below_drewN ?_ _ | with_reducible refine Below.drew ?_ | with_reducible refine Below.alloc ?_ (by first | omega | (simp; done) | (simp; omega)) _ | with_reducible refine Below.setCell ?_ (by first | omega | (simp; done) | (simp; omega)) _ | with_reducible refine Below.trans ?_ (Below.mono (by assumption) (by first | omega | (simp; done) | (simp; omega)))))⟩

set_option maxHeartbeats 1000000 in
set_option maxRecDepth 100000 in
theorem iDir_yes (t ma mb mk mc md ml d : Int) (w : World) (_hT : LT β w) (h0 : 0 ≤ t) (h1 : t < 8) (h2 : 0 ≤ d) (h3 : d < 16)
    : Calls Tryd.prog 61 #[Value.agg #[Value.int IntKind.i64 t, Value.bool true, Value.int IntKind.i64 ma, Value.int IntKind.i64 mb, Value.int IntKind.i64 mk, Value.int IntKind.i64 mc, Value.int IntKind.i64 md, Value.int IntKind.i64 ml], Value.int IntKind.i64 d] w (RetB (Value.int IntKind.i64 ((t * 2 + (16 - d)) % 16)) w) := by
  have e1 : IntKind.i64.wrap (t * 2) = t * 2 := wrap_in (by omega) (by omega)
  have e4 : IntKind.i64.wrap (16 - d) = 16 - d := wrap_in (by omega) (by omega)
  have e2 : IntKind.i64.wrap (t * 2 + (16 - d)) = t * 2 + (16 - d) := wrap_in (by omega) (by omega)
  have e3 : (t * 2 + (16 - d)).tmod 16 = (t * 2 + (16 - d)) % 16 := Int.tmod_eq_emod_of_nonneg (by omega)
  go_enter Tryd.func61, Tryd.ntmps61
  go_wp2_with fail
  go_ret
  exact ⟨rfl, by (repeat (first | with_reducible exact Below.refl _ _ | with_reducible assumption | with_reducible refine below_drewN ?_ _ | with_reducible refine Below.drew ?_ | with_reducible refine Below.alloc ?_ (by first | omega | (simp; done) | (simp; omega)) _ | with_reducible refine Below.setCell ?_ (by first | omega | (simp; done) | (simp; omega)) _ | with_reducible refine Below.trans ?_ (Below.mono (by assumption) (by first | omega | (simp; done) | (simp; omega)))))⟩

set_option maxHeartbeats 1000000 in
set_option maxRecDepth 100000 in
theorem sDir_no (t ma mb mk mc md ml d r : Int) (w : World) (hT : LT β w) (h0 : 0 ≤ t) (h1 : t < 8) (h2 : 0 ≤ d) (h3 : d < 16)
    (H1 : Hid (∀ w, LT β w → Calls Tryd.prog 143 #[Value.int IntKind.i64 (d + 2 * t)] w (RetB (Value.int IntKind.i64 r) w)))
    : Calls Tryd.prog 122 #[Value.agg #[Value.int IntKind.i64 t, Value.bool false, Value.int IntKind.i64 ma, Value.int IntKind.i64 mb, Value.int IntKind.i64 mk, Value.int IntKind.i64 mc, Value.int IntKind.i64 md, Value.int IntKind.i64 ml], Value.int IntKind.i64 d] w (RetB (Value.int IntKind.i64 r) w) := by
  have e1 : IntKind.i64.wrap (2 * t) = 2 * t := wrap_in (by omega) (by omega)
  have e2 : IntKind.i64.wrap (d + 2 * t) = d + 2 * t := wrap_in (by omega) (by omega)
  go_enter Tryd.func122, Tryd.ntmps122
  go_wp2_with fail
  refine (H1.out _ ?_).mono ?_
  · exact LT.below (w := w) hT (by (repeat (first | with_reducible exact Below.refl _ _ | with_reducible assumption | with_reducible refine below_drewN ?_ _ | with_reducible refine Below.drew ?_ | with_reducible refine Below.alloc ?_ (by first | omega | (simp; done) | (simp; omega)) _ | with_reducible refine Below.setCell ?_ (by first | omega | (simp; done) | (simp; omega)) _ | with_reducible refine Below.trans ?_ (Below.mono (by assumption) (by first | omega | (simp; done) | (simp; omega)))))) (Nat.le_refl _)
  rintro e w1 ⟨rfl, hb1⟩; (try replace hb1 := Below.undrew hb1); obtain ⟨hc1, hf1⟩ := bcell hb1; have hz1 := hb1.size; (try simp at hz1); (try have z1_0 : w.heap.size < w1.heap.size := (by omega))
  go_wp2_with fail
  go_ret
  exact ⟨rfl, by (repeat (first | with_reducible exact Below.refl _ _ | with_reducible assumption | with_reducible refine below_drewN ?_ _ | with_reducible refine Below.drew ?_ | with_reducible refine Below.alloc ?_ (by first | omega | (simp; done) | (simp; omega)) _ | with_reducible refine Below.setCell ?_ (by first | omega | (simp; done) | (simp; omega)) _ | with_reducible refine Below.trans ?_ (Below.mono (by assumption) (by first | omega | (simp; done) | (simp; omega)))))⟩

set_option maxHeartbeats 1000000 in
set_option maxRecDepth 100000 in
theorem sDir_yes (t ma mb mk mc md ml d r : Int) (w : World) (hT : LT β w) (h0 : 0 ≤ t) (h1 : t < 8) (h2 : 0 ≤ d) (h3 : d < 16)
    (H1 : Hid (∀ w, LT β w → Calls Tryd.prog 143 #[Value.int IntKind.i64 (-d + 2 * t)] w (RetB (Value.int IntKind.i64 r) w)))
    : Calls Tryd.prog 122 #[Value.agg #[Value.int IntKind.i64 t, Value.bool true, Value.int IntKind.i64 ma, Value.int IntKind.i64 mb, Value.int IntKind.i64 mk, Value.int IntKind.i64 mc, Value.int IntKind.i64 md, Value.int IntKind.i64 ml], Value.int IntKind.i64 d] w (RetB (Value.int IntKind.i64 r) w) := by
  have e1 : IntKind.i64.wrap (2 * t) = 2 * t := wrap_in (by omega) (by omega)
  have e4 : IntKind.i64.wrap (-d) = -d := wrap_in (by omega) (by omega)
  have e2 : IntKind.i64.wrap (-d + 2 * t) = -d + 2 * t := wrap_in (by omega) (by omega)
  go_enter Tryd.func122, Tryd.ntmps122
  go_wp2_with fail
  refine (H1.out _ ?_).mono ?_
  · exact LT.below (w := w) hT (by (repeat (first | with_reducible exact Below.refl _ _ | with_reducible assumption | with_reducible refine below_drewN ?_ _ | with_reducible refine Below.drew ?_ | with_reducible refine Below.alloc ?_ (by first | omega | (simp; done) | (simp; omega)) _ | with_reducible refine Below.setCell ?_ (by first | omega | (simp; done) | (simp; omega)) _ | with_reducible refine Below.trans ?_ (Below.mono (by assumption) (by first | omega | (simp; done) | (simp; omega)))))) (Nat.le_refl _)
  rintro e w1 ⟨rfl, hb1⟩; (try replace hb1 := Below.undrew hb1); obtain ⟨hc1, hf1⟩ := bcell hb1; have hz1 := hb1.size; (try simp at hz1); (try have z1_0 : w.heap.size < w1.heap.size := (by omega))
  go_wp2_with fail
  go_ret
  exact ⟨rfl, by (repeat (first | with_reducible exact Below.refl _ _ | with_reducible assumption | with_reducible refine below_drewN ?_ _ | with_reducible refine Below.drew ?_ | with_reducible refine Below.alloc ?_ (by first | omega | (simp; done) | (simp; omega)) _ | with_reducible refine Below.setCell ?_ (by first | omega | (simp; done) | (simp; omega)) _ | with_reducible refine Below.trans ?_ (Below.mono (by assumption) (by first | omega | (simp; done) | (simp; omega)))))⟩

end Go.Proofs.YtafbdnjabgfjeaaDoor
end
