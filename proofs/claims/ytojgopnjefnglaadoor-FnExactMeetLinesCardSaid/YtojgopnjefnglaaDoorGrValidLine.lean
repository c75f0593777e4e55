/- The walk of FnExactValidLine over the contracts of both functions. -/
import Derived.Test.YtojgopnjefnglaaDoorGl
import Derived.Deep.RegionHeld3
import Derived.Deep.DeepCutAuto
import Derived.Deep.DrawnRows
namespace Go.Proofs.YtojgopnjefnglaaDoor
open Go Go.RowKit OriM
variable {β : Bool}
attribute [local go_sem ↓] Go.wp_at_zero Go.wp_at_succ

set_option maxHeartbeats 4000000 in
theorem exactValidLine.core (xd xa xb xk : Int) (ru : Bool) (w : World) (hT : LT β w)
    (H1 : Hid (∀ w, LT β w → Calls Tryd.prog 19 #[Value.agg #[Value.int IntKind.i64 xd, Value.int IntKind.i64 xa, Value.int IntKind.i64 xb, Value.int IntKind.i64 xk]] w (RetB (Value.agg #[Value.int IntKind.i64 xd, Value.int IntKind.i64 xa, Value.int IntKind.i64 xb, Value.int IntKind.i64 xk]) w)))
    (H2 : Hid (∀ w, LT β w → Calls Tryd.prog 18 #[Value.agg #[Value.int IntKind.i64 xd, Value.int IntKind.i64 xa, Value.int IntKind.i64 xb, Value.int IntKind.i64 xk]] w (RetB (Value.bool ru) w)))
    (H3 : Hid (∀ w, LT β w → Calls Tryd.prog 19 #[Value.agg #[Value.int IntKind.i64 xd, Value.int IntKind.i64 xa, Value.int IntKind.i64 xb, Value.int IntKind.i64 xk]] w (RetB (Value.agg #[Value.int IntKind.i64 xd, Value.int IntKind.i64 xa, Value.int IntKind.i64 xb, Value.int IntKind.i64 xk]) w)))
    (H4 : Hid (∀ w, LT β w → Calls Tryd.prog 20 #[Value.agg #[Value.int IntKind.i64 xd, Value.int IntKind.i64 xa, Value.int IntKind.i64 xb, Value.int IntKind.i64 xk]] w (RetB (Value.bool ru) w)))
    : Calls Tryd.prog 4 #[Value.agg #[Value.int IntKind.i64 xd, Value.int IntKind.i64 xa, Value.int IntKind.i64 xb, Value.int IntKind.i64 xk]] w (RetB (Value.bool true) w) := by
  go_enter Tryd.func4, Tryd.ntmps4
  go_wp2_with fail
  refine (H1.out _ ?_).mono ?_
  · exact LT.below (w := w) hT (by (repeat (first | with_reducible exact Below.refl _ _ | with_reducible assumption | with_reducible refine below_drewN ?_ _ | with_reducible refine Below.drew ?_ | with_reducible refine Below.alloc ?_ (by first | omega | (simp; done) | (simp; omega)) _ | with_reducible refine Below.setCell ?_ (by first | omega | (simp; done) | (simp; omega)) _ | with_reducible refine Below.trans ?_ (Below.mono (by assumption) (by first | omega | (simp; done) | (simp; omega)))))) (Nat.le_refl _)
  rintro e w1 ⟨rfl, hb1⟩; (try replace hb1 := Below.undrew hb1); obtain ⟨hc1, hf1⟩ := bcell hb1; have hz1 := hb1.size; (try simp at hz1); (try have z1_0 : w.heap.size < w1.heap.size := (by omega))
  go_wp2_with fail
  refine (H2.out _ ?_).mono ?_
  · exact LT.below (w := w) hT (by (repeat (first | with_reducible exact Below.refl _ _ | with_reducible assumption | with_reducible refine below_drewN ?_ _ | with_reducible refine Below.drew ?_ | with_reducible refine Below.alloc ?_ (by first | omega | (simp; done) | (simp; omega)) _ | with_reducible refine Below.setCell ?_ (by first | omega | (simp; done) | (simp; omega)) _ | with_reducible refine Below.trans ?_ (Below.mono (by assumption) (by first | omega | (simp; done) | (simp; omega)))))) (Nat.le_refl _)
  rintro e w2 ⟨rfl, hb2⟩; (try replace hb2 := Below.undrew hb2); obtain ⟨hc2, hf2⟩ := bcell hb2; have hz2 := hb2.size; (try simp at hz2); (try have z2_0 : w.heap.size < w2.heap.size := (by omega))
  go_wp2_with fail
  refine (H3.out _ ?_).mono ?_
  · exact LT.below (w := w) hT (by (repeat (first | with_reducible exact Below.refl _ _ | with_reducible assumption | with_reducible refine below_drewN ?_ _ | with_reducible refine Below.drew ?_ | with_reducible refine Below.alloc ?_ (by first | omega | (simp; done) | (simp; omega)) _ | with_reducible refine Below.setCell ?_ (by first | omega | (simp; done) | (simp; omega)) _ | with_reducible refine Below.trans ?_ (Below.mono (by assumption) (by first | omega | (simp; done) | (simp; omega)))))) (Nat.le_refl _)
  rintro e w3 ⟨rfl, hb3⟩; (try replace hb3 := Below.undrew hb3); obtain ⟨hc3, hf3⟩ := bcell hb3; have hz3 := hb3.size; (try simp at hz3); (try have z3_0 : w.heap.size < w3.heap.size := (by omega))
  go_wp2_with fail
  refine (H4.out _ ?_).mono ?_
  · exact LT.below (w := w) hT (by (repeat (first | with_reducible exact Below.refl _ _ | with_reducible assumption | with_reducible refine below_drewN ?_ _ | with_reducible refine Below.drew ?_ | with_reducible refine Below.alloc ?_ (by first | omega | (simp; done) | (simp; omega)) _ | with_reducible refine Below.setCell ?_ (by first | omega | (simp; done) | (simp; omega)) _ | with_reducible refine Below.trans ?_ (Below.mono (by assumption) (by first | omega | (simp; done) | (simp; omega)))))) (Nat.le_refl _)
  rintro e w4 ⟨rfl, hb4⟩; (try replace hb4 := Below.undrew hb4); obtain ⟨hc4, hf4⟩ := bcell hb4; have hz4 := hb4.size; (try simp at hz4); (try have z4_0 : w.heap.size < w4.heap.size := (by omega))
  go_wp2_with fail
  go_ret
  exact ⟨rfl, by (repeat (first | with_reducible exact Below.refl _ _ | with_reducible assumption | with_reducible refine below_drewN ?_ _ | with_reducible refine Below.drew ?_ | with_reducible refine Below.alloc ?_ (by first | omega | (simp; done) | (simp; omega)) _ | with_reducible refine Below.setCell ?_ (by first | omega | (simp; done) | (simp; omega)) _ | with_reducible refine Below.trans ?_ (Below.mono (by assumption) (by first | omega | (simp; done) | (simp; omega)))))⟩
end Go.Proofs.YtojgopnjefnglaaDoor
