/- Copies of arguments, validity, over the contracts of their callees (a seat of texts). -/
import Derived.Test.YthelgcikobhonaaDoorTb
import Derived.Deep.RegionHeld3
import Derived.Deep.DeepCutAuto
import Derived.Deep.DrawnRows
namespace Go.Proofs.YthelgcikobhonaaDoor
open Go Go.RowKit OriM
attribute [local go_sem ↓] Go.wp_at_zero Go.wp_at_succ

set_option maxHeartbeats 1000000 in
theorem tPoint (xa xb xk xc xd xl : Int) (w : World) (hT : TT w)
    (H1 : Hid (∀ w, TT w → Calls Tryd.prog 8 #[Value.agg #[Value.int IntKind.i64 xa, Value.int IntKind.i64 xb, Value.int IntKind.i64 xk]] w (RetB (Value.agg #[Value.int IntKind.i64 xa, Value.int IntKind.i64 xb, Value.int IntKind.i64 xk]) w)))
    (H2 : Hid (∀ w, TT w → Calls Tryd.prog 8 #[Value.agg #[Value.int IntKind.i64 xc, Value.int IntKind.i64 xd, Value.int IntKind.i64 xl]] w (RetB (Value.agg #[Value.int IntKind.i64 xc, Value.int IntKind.i64 xd, Value.int IntKind.i64 xl]) w)))
    : Calls Tryd.prog 11 #[Value.agg #[Value.int IntKind.i64 xa, Value.int IntKind.i64 xb, Value.int IntKind.i64 xk, Value.int IntKind.i64 xc, Value.int IntKind.i64 xd, Value.int IntKind.i64 xl]] w (RetB (Value.agg #[Value.int IntKind.i64 xa, Value.int IntKind.i64 xb, Value.int IntKind.i64 xk, Value.int IntKind.i64 xc, Value.int IntKind.i64 xd, Value.int IntKind.i64 xl]) w) := by
  go_enter Tryd.func11, Tryd.ntmps11
  go_wp2_with fail
  refine (H1.out _ ?_).mono ?_
  · exact TT.below (w := w) hT (by (repeat (first | with_reducible exact Below.refl _ _ | with_reducible assumption | with_reducible refine below_drewN ?_ _ | with_reducible refine Below.drew ?_ | with_reducible refine Below.alloc ?_ (by first | omega | (simp; done) | (simp; omega)) _ | with_reducible refine Below.setCell ?_ (by first | omega | (simp; done) | (simp; omega)) _ | with_reducible refine Below.trans ?_ (Below.mono (by assumption) (by first | omega | (simp; done) | (simp; omega)))))) (Nat.le_refl _)
  rintro e w1 ⟨rfl, hb1⟩; (try replace hb1 := Below.undrew hb1); obtain ⟨hc1, hf1⟩ := bcell hb1; have hz1 := hb1.size; (try simp at hz1); (have zz_1_0 : w.heap.size < w.heap.size + 1 + 1 + 1 := (by omega)); (have zz_1_1 : w.heap.size + 1 < w.heap.size + 1 + 1 + 1 := (by omega)); (try have z1_0 : w.heap.size < w1.heap.size := (by omega)); (try have z1_1 : w.heap.size + 1 < w1.heap.size := (by omega)); (try have z1_2 : w.heap.size + 1 + 1 < w1.heap.size := (by omega))
  go_wp2_with fail
  refine (H2.out _ ?_).mono ?_
  · exact TT.below (w := w) hT (by (repeat (first | with_reducible exact Below.refl _ _ | with_reducible assumption | with_reducible refine below_drewN ?_ _ | with_reducible refine Below.drew ?_ | with_reducible refine Below.alloc ?_ (by first | omega | (simp; done) | (simp; omega)) _ | with_reducible refine Below.setCell ?_ (by first | omega | (simp; done) | (simp; omega)) _ | with_reducible refine Below.trans ?_ (Below.mono (by assumption) (by first | omega | (simp; done) | (simp; omega)))))) (Nat.le_refl _)
  rintro e w2 ⟨rfl, hb2⟩; (try replace hb2 := Below.undrew hb2); obtain ⟨hc2, hf2⟩ := bcell hb2; have hz2 := hb2.size; (try simp at hz2); (try have z2_0 : w.heap.size < w2.heap.size := (by omega)); (try have z2_1 : w.heap.size + 1 < w2.heap.size := (by omega)); (try have z2_2 : w.heap.size + 1 + 1 < w2.heap.size := (by omega))
  go_wp2_with fail
  exact bodyPost_ret (v := Value.agg #[Value.int IntKind.i64 xa, Value.int IntKind.i64 xb, Value.int IntKind.i64 xk, Value.int IntKind.i64 xc, Value.int IntKind.i64 xd, Value.int IntKind.i64 xl]) (by simp [results, Tryd.results11, go_sem, *]) rfl ⟨rfl, by (repeat (first | with_reducible exact Below.refl _ _ | with_reducible assumption | with_reducible refine below_drewN ?_ _ | with_reducible refine Below.drew ?_ | with_reducible refine Below.alloc ?_ (by first | omega | (simp; done) | (simp; omega)) _ | with_reducible refine Below.setCell ?_ (by first | omega | (simp; done) | (simp; omega)) _ | with_reducible refine Below.trans ?_ (Below.mono (by assumption) (by first | omega | (simp; done) | (simp; omega)))))⟩

set_option maxHeartbeats 1000000 in
theorem tLine (d xa xb xk : Int) (w : World) (hT : TT w)
    (H1 : Hid (∀ w, TT w → Calls Tryd.prog 8 #[Value.agg #[Value.int IntKind.i64 xa, Value.int IntKind.i64 xb, Value.int IntKind.i64 xk]] w (RetB (Value.agg #[Value.int IntKind.i64 xa, Value.int IntKind.i64 xb, Value.int IntKind.i64 xk]) w)))
    : Calls Tryd.prog 14 #[Value.agg #[Value.int IntKind.i64 d, Value.int IntKind.i64 xa, Value.int IntKind.i64 xb, Value.int IntKind.i64 xk]] w (RetB (Value.agg #[Value.int IntKind.i64 d, Value.int IntKind.i64 xa, Value.int IntKind.i64 xb, Value.int IntKind.i64 xk]) w) := by
  go_enter Tryd.func14, Tryd.ntmps14
  go_wp2_with fail
  refine (H1.out _ ?_).mono ?_
  · exact TT.below (w := w) hT (by (repeat (first | with_reducible exact Below.refl _ _ | with_reducible assumption | with_reducible refine below_drewN ?_ _ | with_reducible refine Below.drew ?_ | with_reducible refine Below.alloc ?_ (by first | omega | (simp; done) | (simp; omega)) _ | with_reducible refine Below.setCell ?_ (by first | omega | (simp; done) | (simp; omega)) _ | with_reducible refine Below.trans ?_ (Below.mono (by assumption) (by first | omega | (simp; done) | (simp; omega)))))) (Nat.le_refl _)
  rintro e w1 ⟨rfl, hb1⟩; (try replace hb1 := Below.undrew hb1); obtain ⟨hc1, hf1⟩ := bcell hb1; have hz1 := hb1.size; (try simp at hz1); (have zz_1_0 : w.heap.size < w.heap.size + 1 + 1 + 1 := (by omega)); (have zz_1_1 : w.heap.size + 1 < w.heap.size + 1 + 1 + 1 := (by omega)); (try have z1_0 : w.heap.size < w1.heap.size := (by omega)); (try have z1_1 : w.heap.size + 1 < w1.heap.size := (by omega)); (try have z1_2 : w.heap.size + 1 + 1 < w1.heap.size := (by omega))
  go_wp2_with fail
  exact bodyPost_ret (v := Value.agg #[Value.int IntKind.i64 d, Value.int IntKind.i64 xa, Value.int IntKind.i64 xb, Value.int IntKind.i64 xk]) (by simp [results, Tryd.results14, go_sem, *]) rfl ⟨rfl, by (repeat (first | with_reducible exact Below.refl _ _ | with_reducible assumption | with_reducible refine below_drewN ?_ _ | with_reducible refine Below.drew ?_ | with_reducible refine Below.alloc ?_ (by first | omega | (simp; done) | (simp; omega)) _ | with_reducible refine Below.setCell ?_ (by first | omega | (simp; done) | (simp; omega)) _ | with_reducible refine Below.trans ?_ (Below.mono (by assumption) (by first | omega | (simp; done) | (simp; omega)))))⟩

set_option maxHeartbeats 1000000 in
theorem tMotion (t ma mb mk mc md ml : Int) (f : Bool) (w : World) (hT : TT w)
    (H1 : Hid (∀ w, TT w → Calls Tryd.prog 8 #[Value.agg #[Value.int IntKind.i64 ma, Value.int IntKind.i64 mb, Value.int IntKind.i64 mk]] w (RetB (Value.agg #[Value.int IntKind.i64 ma, Value.int IntKind.i64 mb, Value.int IntKind.i64 mk]) w)))
    (H2 : Hid (∀ w, TT w → Calls Tryd.prog 8 #[Value.agg #[Value.int IntKind.i64 mc, Value.int IntKind.i64 md, Value.int IntKind.i64 ml]] w (RetB (Value.agg #[Value.int IntKind.i64 mc, Value.int IntKind.i64 md, Value.int IntKind.i64 ml]) w)))
    : Calls Tryd.prog 17 #[Value.agg #[Value.int IntKind.i64 t, Value.bool f, Value.int IntKind.i64 ma, Value.int IntKind.i64 mb, Value.int IntKind.i64 mk, Value.int IntKind.i64 mc, Value.int IntKind.i64 md, Value.int IntKind.i64 ml]] w (RetB (Value.agg #[Value.int IntKind.i64 t, Value.bool f, Value.int IntKind.i64 ma, Value.int IntKind.i64 mb, Value.int IntKind.i64 mk, Value.int IntKind.i64 mc, Value.int IntKind.i64 md, Value.int IntKind.i64 ml]) w) := by
  go_enter Tryd.func17, Tryd.ntmps17
  go_wp2_with fail
  refine (H1.out _ ?_).mono ?_
  · exact TT.below (w := w) hT (by (repeat (first | with_reducible exact Below.refl _ _ | with_reducible assumption | with_reducible refine below_drewN ?_ _ | with_reducible refine Below.drew ?_ | with_reducible refine Below.alloc ?_ (by first | omega | (simp; done) | (simp; omega)) _ | with_reducible refine Below.setCell ?_ (by first | omega | (simp; done) | (simp; omega)) _ | with_reducible refine Below.trans ?_ (Below.mono (by assumption) (by first | omega | (simp; done) | (simp; omega)))))) (Nat.le_refl _)
  rintro e w1 ⟨rfl, hb1⟩; (try replace hb1 := Below.undrew hb1); obtain ⟨hc1, hf1⟩ := bcell hb1; have hz1 := hb1.size; (try simp at hz1); (have zz_1_0 : w.heap.size < w.heap.size + 1 + 1 + 1 := (by omega)); (have zz_1_1 : w.heap.size + 1 < w.heap.size + 1 + 1 + 1 := (by omega)); (try have z1_0 : w.heap.size < w1.heap.size := (by omega)); (try have z1_1 : w.heap.size + 1 < w1.heap.size := (by omega)); (try have z1_2 : w.heap.size + 1 + 1 < w1.heap.size := (by omega))
  go_wp2_with fail
  refine (H2.out _ ?_).mono ?_
  · exact TT.below (w := w) hT (by (repeat (first | with_reducible exact Below.refl _ _ | with_reducible assumption | with_reducible refine below_drewN ?_ _ | with_reducible refine Below.drew ?_ | with_reducible refine Below.alloc ?_ (by first | omega | (simp; done) | (simp; omega)) _ | with_reducible refine Below.setCell ?_ (by first | omega | (simp; done) | (simp; omega)) _ | with_reducible refine Below.trans ?_ (Below.mono (by assumption) (by first | omega | (simp; done) | (simp; omega)))))) (Nat.le_refl _)
  rintro e w2 ⟨rfl, hb2⟩; (try replace hb2 := Below.undrew hb2); obtain ⟨hc2, hf2⟩ := bcell hb2; have hz2 := hb2.size; (try simp at hz2); (try have z2_0 : w.heap.size < w2.heap.size := (by omega)); (try have z2_1 : w.heap.size + 1 < w2.heap.size := (by omega)); (try have z2_2 : w.heap.size + 1 + 1 < w2.heap.size := (by omega))
  go_wp2_with fail
  exact bodyPost_ret (v := Value.agg #[Value.int IntKind.i64 t, Value.bool f, Value.int IntKind.i64 ma, Value.int IntKind.i64 mb, Value.int IntKind.i64 mk, Value.int IntKind.i64 mc, Value.int IntKind.i64 md, Value.int IntKind.i64 ml]) (by simp [results, Tryd.results17, go_sem, *]) rfl ⟨rfl, by (repeat (first | with_reducible exact Below.refl _ _ | with_reducible assumption | with_reducible refine below_drewN ?_ _ | with_reducible refine Below.drew ?_ | with_reducible refine Below.alloc ?_ (by first | omega | (simp; done) | (simp; omega)) _ | with_reducible refine Below.setCell ?_ (by first | omega | (simp; done) | (simp; omega)) _ | with_reducible refine Below.trans ?_ (Below.mono (by assumption) (by first | omega | (simp; done) | (simp; omega)))))⟩

set_option maxHeartbeats 1000000 in
theorem tiVP_no (xa xb xk xc xd xl : Int) (w : World) (hT : TT w)
    (H1 : Hid (∀ w, TT w → Calls Tryd.prog 21 #[Value.agg #[Value.int IntKind.i64 xa, Value.int IntKind.i64 xb, Value.int IntKind.i64 xk]] w (RetB (Value.bool false) w)))
    : Calls Tryd.prog 25 #[Value.agg #[Value.int IntKind.i64 xa, Value.int IntKind.i64 xb, Value.int IntKind.i64 xk, Value.int IntKind.i64 xc, Value.int IntKind.i64 xd, Value.int IntKind.i64 xl]] w (RetB (Value.bool false) w) := by
  go_enter Tryd.func25, Tryd.ntmps25
  go_wp2_with fail
  refine (H1.out _ ?_).mono ?_
  · exact TT.below (w := w) hT (by (repeat (first | with_reducible exact Below.refl _ _ | with_reducible assumption | with_reducible refine below_drewN ?_ _ | with_reducible refine Below.drew ?_ | with_reducible refine Below.alloc ?_ (by first | omega | (simp; done) | (simp; omega)) _ | with_reducible refine Below.setCell ?_ (by first | omega | (simp; done) | (simp; omega)) _ | with_reducible refine Below.trans ?_ (Below.mono (by assumption) (by first | omega | (simp; done) | (simp; omega)))))) (Nat.le_refl _)
  rintro e w1 ⟨rfl, hb1⟩; (try replace hb1 := Below.undrew hb1); obtain ⟨hc1, hf1⟩ := bcell hb1; have hz1 := hb1.size; (try simp at hz1); (try have z1_0 : w.heap.size < w1.heap.size := (by omega))
  go_wp2_with fail
  go_ret
  exact ⟨rfl, by (repeat (first | with_reducible exact Below.refl _ _ | with_reducible assumption | with_reducible refine below_drewN ?_ _ | with_reducible refine Below.drew ?_ | with_reducible refine Below.alloc ?_ (by first | omega | (simp; done) | (simp; omega)) _ | with_reducible refine Below.setCell ?_ (by first | omega | (simp; done) | (simp; omega)) _ | with_reducible refine Below.trans ?_ (Below.mono (by assumption) (by first | omega | (simp; done) | (simp; omega)))))⟩

set_option maxHeartbeats 1000000 in
theorem tiVP_ok (xa xb xk xc xd xl : Int) (r : Bool) (w : World) (hT : TT w)
    (H1 : Hid (∀ w, TT w → Calls Tryd.prog 21 #[Value.agg #[Value.int IntKind.i64 xa, Value.int IntKind.i64 xb, Value.int IntKind.i64 xk]] w (RetB (Value.bool true) w)))
    (H2 : Hid (∀ w, TT w → Calls Tryd.prog 21 #[Value.agg #[Value.int IntKind.i64 xc, Value.int IntKind.i64 xd, Value.int IntKind.i64 xl]] w (RetB (Value.bool r) w)))
    : Calls Tryd.prog 25 #[Value.agg #[Value.int IntKind.i64 xa, Value.int IntKind.i64 xb, Value.int IntKind.i64 xk, Value.int IntKind.i64 xc, Value.int IntKind.i64 xd, Value.int IntKind.i64 xl]] w (RetB (Value.bool r) w) := by
  go_enter Tryd.func25, Tryd.ntmps25
  go_wp2_with fail
  refine (H1.out _ ?_).mono ?_
  · exact TT.below (w := w) hT (by (repeat (first | with_reducible exact Below.refl _ _ | with_reducible assumption | with_reducible refine below_drewN ?_ _ | with_reducible refine Below.drew ?_ | with_reducible refine Below.alloc ?_ (by first | omega | (simp; done) | (simp; omega)) _ | with_reducible refine Below.setCell ?_ (by first | omega | (simp; done) | (simp; omega)) _ | with_reducible refine Below.trans ?_ (Below.mono (by assumption) (by first | omega | (simp; done) | (simp; omega)))))) (Nat.le_refl _)
  rintro e w1 ⟨rfl, hb1⟩; (try replace hb1 := Below.undrew hb1); obtain ⟨hc1, hf1⟩ := bcell hb1; have hz1 := hb1.size; (try simp at hz1); (try have z1_0 : w.heap.size < w1.heap.size := (by omega))
  go_wp2_with fail
  refine (H2.out _ ?_).mono ?_
  · exact TT.below (w := w) hT (by (repeat (first | with_reducible exact Below.refl _ _ | with_reducible assumption | with_reducible refine below_drewN ?_ _ | with_reducible refine Below.drew ?_ | with_reducible refine Below.alloc ?_ (by first | omega | (simp; done) | (simp; omega)) _ | with_reducible refine Below.setCell ?_ (by first | omega | (simp; done) | (simp; omega)) _ | with_reducible refine Below.trans ?_ (Below.mono (by assumption) (by first | omega | (simp; done) | (simp; omega)))))) (Nat.le_refl _)
  rintro e w2 ⟨rfl, hb2⟩; (try replace hb2 := Below.undrew hb2); obtain ⟨hc2, hf2⟩ := bcell hb2; have hz2 := hb2.size; (try simp at hz2); (try have z2_0 : w.heap.size < w2.heap.size := (by omega))
  go_wp2_with fail
  go_ret
  exact ⟨rfl, by (repeat (first | with_reducible exact Below.refl _ _ | with_reducible assumption | with_reducible refine below_drewN ?_ _ | with_reducible refine Below.drew ?_ | with_reducible refine Below.alloc ?_ (by first | omega | (simp; done) | (simp; omega)) _ | with_reducible refine Below.setCell ?_ (by first | omega | (simp; done) | (simp; omega)) _ | with_reducible refine Below.trans ?_ (Below.mono (by assumption) (by first | omega | (simp; done) | (simp; omega)))))⟩

set_option maxHeartbeats 1000000 in
theorem tsVP_no (xa xb xk xc xd xl : Int) (w : World) (hT : TT w)
    (H1 : Hid (∀ w, TT w → Calls Tryd.prog 19 #[Value.agg #[Value.int IntKind.i64 xa, Value.int IntKind.i64 xb, Value.int IntKind.i64 xk]] w (RetB (Value.bool false) w)))
    : Calls Tryd.prog 23 #[Value.agg #[Value.int IntKind.i64 xa, Value.int IntKind.i64 xb, Value.int IntKind.i64 xk, Value.int IntKind.i64 xc, Value.int IntKind.i64 xd, Value.int IntKind.i64 xl]] w (RetB (Value.bool false) w) := by
  go_enter Tryd.func23, Tryd.ntmps23
  go_wp2_with fail
  refine (H1.out _ ?_).mono ?_
  · exact TT.below (w := w) hT (by (repeat (first | with_reducible exact Below.refl _ _ | with_reducible assumption | with_reducible refine below_drewN ?_ _ | with_reducible refine Below.drew ?_ | with_reducible refine Below.alloc ?_ (by first | omega | (simp; done) | (simp; omega)) _ | with_reducible refine Below.setCell ?_ (by first | omega | (simp; done) | (simp; omega)) _ | with_reducible refine Below.trans ?_ (Below.mono (by assumption) (by first | omega | (simp; done) | (simp; omega)))))) (Nat.le_refl _)
  rintro e w1 ⟨rfl, hb1⟩; (try replace hb1 := Below.undrew hb1); obtain ⟨hc1, hf1⟩ := bcell hb1; have hz1 := hb1.size; (try simp at hz1); (try have z1_0 : w.heap.size < w1.heap.size := (by omega))
  go_wp2_with fail
  go_ret
  exact ⟨rfl, by (repeat (first | with_reducible exact Below.refl _ _ | with_reducible assumption | with_reducible refine below_drewN ?_ _ | with_reducible refine Below.drew ?_ | with_reducible refine Below.alloc ?_ (by first | omega | (simp; done) | (simp; omega)) _ | with_reducible refine Below.setCell ?_ (by first | omega | (simp; done) | (simp; omega)) _ | with_reducible refine Below.trans ?_ (Below.mono (by assumption) (by first | omega | (simp; done) | (simp; omega)))))⟩

set_option maxHeartbeats 1000000 in
theorem tsVP_ok (xa xb xk xc xd xl : Int) (r : Bool) (w : World) (hT : TT w)
    (H1 : Hid (∀ w, TT w → Calls Tryd.prog 19 #[Value.agg #[Value.int IntKind.i64 xa, Value.int IntKind.i64 xb, Value.int IntKind.i64 xk]] w (RetB (Value.bool true) w)))
    (H2 : Hid (∀ w, TT w → Calls Tryd.prog 19 #[Value.agg #[Value.int IntKind.i64 xc, Value.int IntKind.i64 xd, Value.int IntKind.i64 xl]] w (RetB (Value.bool r) w)))
    : Calls Tryd.prog 23 #[Value.agg #[Value.int IntKind.i64 xa, Value.int IntKind.i64 xb, Value.int IntKind.i64 xk, Value.int IntKind.i64 xc, Value.int IntKind.i64 xd, Value.int IntKind.i64 xl]] w (RetB (Value.bool r) w) := by
  go_enter Tryd.func23, Tryd.ntmps23
  go_wp2_with fail
  refine (H1.out _ ?_).mono ?_
  · exact TT.below (w := w) hT (by (repeat (first | with_reducible exact Below.refl _ _ | with_reducible assumption | with_reducible refine below_drewN ?_ _ | with_reducible refine Below.drew ?_ | with_reducible refine Below.alloc ?_ (by first | omega | (simp; done) | (simp; omega)) _ | with_reducible refine Below.setCell ?_ (by first | omega | (simp; done) | (simp; omega)) _ | with_reducible refine Below.trans ?_ (Below.mono (by assumption) (by first | omega | (simp; done) | (simp; omega)))))) (Nat.le_refl _)
  rintro e w1 ⟨rfl, hb1⟩; (try replace hb1 := Below.undrew hb1); obtain ⟨hc1, hf1⟩ := bcell hb1; have hz1 := hb1.size; (try simp at hz1); (try have z1_0 : w.heap.size < w1.heap.size := (by omega))
  go_wp2_with fail
  refine (H2.out _ ?_).mono ?_
  · exact TT.below (w := w) hT (by (repeat (first | with_reducible exact Below.refl _ _ | with_reducible assumption | with_reducible refine below_drewN ?_ _ | with_reducible refine Below.drew ?_ | with_reducible refine Below.alloc ?_ (by first | omega | (simp; done) | (simp; omega)) _ | with_reducible refine Below.setCell ?_ (by first | omega | (simp; done) | (simp; omega)) _ | with_reducible refine Below.trans ?_ (Below.mono (by assumption) (by first | omega | (simp; done) | (simp; omega)))))) (Nat.le_refl _)
  rintro e w2 ⟨rfl, hb2⟩; (try replace hb2 := Below.undrew hb2); obtain ⟨hc2, hf2⟩ := bcell hb2; have hz2 := hb2.size; (try simp at hz2); (try have z2_0 : w.heap.size < w2.heap.size := (by omega))
  go_wp2_with fail
  go_ret
  exact ⟨rfl, by (repeat (first | with_reducible exact Below.refl _ _ | with_reducible assumption | with_reducible refine below_drewN ?_ _ | with_reducible refine Below.drew ?_ | with_reducible refine Below.alloc ?_ (by first | omega | (simp; done) | (simp; omega)) _ | with_reducible refine Below.setCell ?_ (by first | omega | (simp; done) | (simp; omega)) _ | with_reducible refine Below.trans ?_ (Below.mono (by assumption) (by first | omega | (simp; done) | (simp; omega)))))⟩

set_option maxHeartbeats 1000000 in
theorem tiVL_no (d xa xb xk : Int) (w : World) (hT : TT w)
    (H1 : Hid (∀ w, TT w → Calls Tryd.prog 38 #[Value.int IntKind.i64 d] w (RetB (Value.bool false) w)))
    : Calls Tryd.prog 28 #[Value.agg #[Value.int IntKind.i64 d, Value.int IntKind.i64 xa, Value.int IntKind.i64 xb, Value.int IntKind.i64 xk]] w (RetB (Value.bool false) w) := by
  go_enter Tryd.func28, Tryd.ntmps28
  go_wp2_with fail
  refine (H1.out _ ?_).mono ?_
  · exact TT.below (w := w) hT (by (repeat (first | with_reducible exact Below.refl _ _ | with_reducible assumption | with_reducible refine below_drewN ?_ _ | with_reducible refine Below.drew ?_ | with_reducible refine Below.alloc ?_ (by first | omega | (simp; done) | (simp; omega)) _ | with_reducible refine Below.setCell ?_ (by first | omega | (simp; done) | (simp; omega)) _ | with_reducible refine Below.trans ?_ (Below.mono (by assumption) (by first | omega | (simp; done) | (simp; omega)))))) (Nat.le_refl _)
  rintro e w1 ⟨rfl, hb1⟩; (try replace hb1 := Below.undrew hb1); obtain ⟨hc1, hf1⟩ := bcell hb1; have hz1 := hb1.size; (try simp at hz1); (try have z1_0 : w.heap.size < w1.heap.size := (by omega))
  go_wp2_with fail
  go_ret
  exact ⟨rfl, by (repeat (first | with_reducible exact Below.refl _ _ | with_reducible assumption | with_reducible refine below_drewN ?_ _ | with_reducible refine Below.drew ?_ | with_reducible refine Below.alloc ?_ (by first | omega | (simp; done) | (simp; omega)) _ | with_reducible refine Below.setCell ?_ (by first | omega | (simp; done) | (simp; omega)) _ | with_reducible refine Below.trans ?_ (Below.mono (by assumption) (by first | omega | (simp; done) | (simp; omega)))))⟩

set_option maxHeartbeats 1000000 in
theorem tiVL_ok (d xa xb xk : Int) (r : Bool) (w : World) (hT : TT w)
    (H1 : Hid (∀ w, TT w → Calls Tryd.prog 38 #[Value.int IntKind.i64 d] w (RetB (Value.bool true) w)))
    (H2 : Hid (∀ w, TT w → Calls Tryd.prog 21 #[Value.agg #[Value.int IntKind.i64 xa, Value.int IntKind.i64 xb, Value.int IntKind.i64 xk]] w (RetB (Value.bool r) w)))
    : Calls Tryd.prog 28 #[Value.agg #[Value.int IntKind.i64 d, Value.int IntKind.i64 xa, Value.int IntKind.i64 xb, Value.int IntKind.i64 xk]] w (RetB (Value.bool r) w) := by
  go_enter Tryd.func28, Tryd.ntmps28
  go_wp2_with fail
  refine (H1.out _ ?_).mono ?_
  · exact TT.below (w := w) hT (by (repeat (first | with_reducible exact Below.refl _ _ | with_reducible assumption | with_reducible refine below_drewN ?_ _ | with_reducible refine Below.drew ?_ | with_reducible refine Below.alloc ?_ (by first | omega | (simp; done) | (simp; omega)) _ | with_reducible refine Below.setCell ?_ (by first | omega | (simp; done) | (simp; omega)) _ | with_reducible refine Below.trans ?_ (Below.mono (by assumption) (by first | omega | (simp; done) | (simp; omega)))))) (Nat.le_refl _)
  rintro e w1 ⟨rfl, hb1⟩; (try replace hb1 := Below.undrew hb1); obtain ⟨hc1, hf1⟩ := bcell hb1; have hz1 := hb1.size; (try simp at hz1); (try have z1_0 : w.heap.size < w1.heap.size := (by omega))
  go_wp2_with fail
  refine (H2.out _ ?_).mono ?_
  · exact TT.below (w := w) hT (by (repeat (first | with_reducible exact Below.refl _ _ | with_reducible assumption | with_reducible refine below_drewN ?_ _ | with_reducible refine Below.drew ?_ | with_reducible refine Below.alloc ?_ (by first | omega | (simp; done) | (simp; omega)) _ | with_reducible refine Below.setCell ?_ (by first | omega | (simp; done) | (simp; omega)) _ | with_reducible refine Below.trans ?_ (Below.mono (by assumption) (by first | omega | (simp; done) | (simp; omega)))))) (Nat.le_refl _)
  rintro e w2 ⟨rfl, hb2⟩; (try replace hb2 := Below.undrew hb2); obtain ⟨hc2, hf2⟩ := bcell hb2; have hz2 := hb2.size; (try simp at hz2); (try have z2_0 : w.heap.size < w2.heap.size := (by omega))
  go_wp2_with fail
  go_ret
  exact ⟨rfl, by (repeat (first | with_reducible exact Below.refl _ _ | with_reducible assumption | with_reducible refine below_drewN ?_ _ | with_reducible refine Below.drew ?_ | with_reducible refine Below.alloc ?_ (by first | omega | (simp; done) | (simp; omega)) _ | with_reducible refine Below.setCell ?_ (by first | omega | (simp; done) | (simp; omega)) _ | with_reducible refine Below.trans ?_ (Below.mono (by assumption) (by first | omega | (simp; done) | (simp; omega)))))⟩

set_option maxHeartbeats 1000000 in
theorem tsVL_no (d xa xb xk : Int) (w : World) (hT : TT w)
    (H1 : Hid (∀ w, TT w → Calls Tryd.prog 34 #[Value.int IntKind.i64 d, Value.int IntKind.i64 0, Value.int IntKind.i64 7] w (RetB (Value.bool false) w)))
    : Calls Tryd.prog 26 #[Value.agg #[Value.int IntKind.i64 d, Value.int IntKind.i64 xa, Value.int IntKind.i64 xb, Value.int IntKind.i64 xk]] w (RetB (Value.bool false) w) := by
  go_enter Tryd.func26, Tryd.ntmps26
  go_wp2_with fail
  refine (H1.out _ ?_).mono ?_
  · exact TT.below (w := w) hT (by (repeat (first | with_reducible exact Below.refl _ _ | with_reducible assumption | with_reducible refine below_drewN ?_ _ | with_reducible refine Below.drew ?_ | with_reducible refine Below.alloc ?_ (by first | omega | (simp; done) | (simp; omega)) _ | with_reducible refine Below.setCell ?_ (by first | omega | (simp; done) | (simp; omega)) _ | with_reducible refine Below.trans ?_ (Below.mono (by assumption) (by first | omega | (simp; done) | (simp; omega)))))) (Nat.le_refl _)
  rintro e w1 ⟨rfl, hb1⟩; (try replace hb1 := Below.undrew hb1); obtain ⟨hc1, hf1⟩ := bcell hb1; have hz1 := hb1.size; (try simp at hz1); (try have z1_0 : w.heap.size < w1.heap.size := (by omega))
  go_wp2_with fail
  go_ret
  exact ⟨rfl, by (repeat (first | with_reducible exact Below.refl _ _ | with_reducible assumption | with_reducible refine below_drewN ?_ _ | with_reducible refine Below.drew ?_ | with_reducible refine Below.alloc ?_ (by first | omega | (simp; done) | (simp; omega)) _ | with_reducible refine Below.setCell ?_ (by first | omega | (simp; done) | (simp; omega)) _ | with_reducible refine Below.trans ?_ (Below.mono (by assumption) (by first | omega | (simp; done) | (simp; omega)))))⟩

set_option maxHeartbeats 1000000 in
theorem tsVL_ok (d xa xb xk : Int) (r : Bool) (w : World) (hT : TT w)
    (H1 : Hid (∀ w, TT w → Calls Tryd.prog 34 #[Value.int IntKind.i64 d, Value.int IntKind.i64 0, Value.int IntKind.i64 7] w (RetB (Value.bool true) w)))
    (H2 : Hid (∀ w, TT w → Calls Tryd.prog 19 #[Value.agg #[Value.int IntKind.i64 xa, Value.int IntKind.i64 xb, Value.int IntKind.i64 xk]] w (RetB (Value.bool r) w)))
    : Calls Tryd.prog 26 #[Value.agg #[Value.int IntKind.i64 d, Value.int IntKind.i64 xa, Value.int IntKind.i64 xb, Value.int IntKind.i64 xk]] w (RetB (Value.bool r) w) := by
  go_enter Tryd.func26, Tryd.ntmps26
  go_wp2_with fail
  refine (H1.out _ ?_).mono ?_
  · exact TT.below (w := w) hT (by (repeat (first | with_reducible exact Below.refl _ _ | with_reducible assumption | with_reducible refine below_drewN ?_ _ | with_reducible refine Below.drew ?_ | with_reducible refine Below.alloc ?_ (by first | omega | (simp; done) | (simp; omega)) _ | with_reducible refine Below.setCell ?_ (by first | omega | (simp; done) | (simp; omega)) _ | with_reducible refine Below.trans ?_ (Below.mono (by assumption) (by first | omega | (simp; done) | (simp; omega)))))) (Nat.le_refl _)
  rintro e w1 ⟨rfl, hb1⟩; (try replace hb1 := Below.undrew hb1); obtain ⟨hc1, hf1⟩ := bcell hb1; have hz1 := hb1.size; (try simp at hz1); (try have z1_0 : w.heap.size < w1.heap.size := (by omega))
  go_wp2_with fail
  refine (H2.out _ ?_).mono ?_
  · exact TT.below (w := w) hT (by (repeat (first | with_reducible exact Below.refl _ _ | with_reducible assumption | with_reducible refine below_drewN ?_ _ | with_reducible refine Below.drew ?_ | with_reducible refine Below.alloc ?_ (by first | omega | (simp; done) | (simp; omega)) _ | with_reducible refine Below.setCell ?_ (by first | omega | (simp; done) | (simp; omega)) _ | with_reducible refine Below.trans ?_ (Below.mono (by assumption) (by first | omega | (simp; done) | (simp; omega)))))) (Nat.le_refl _)
  rintro e w2 ⟨rfl, hb2⟩; (try replace hb2 := Below.undrew hb2); obtain ⟨hc2, hf2⟩ := bcell hb2; have hz2 := hb2.size; (try simp at hz2); (try have z2_0 : w.heap.size < w2.heap.size := (by omega))
  go_wp2_with fail
  go_ret
  exact ⟨rfl, by (repeat (first | with_reducible exact Below.refl _ _ | with_reducible assumption | with_reducible refine below_drewN ?_ _ | with_reducible refine Below.drew ?_ | with_reducible refine Below.alloc ?_ (by first | omega | (simp; done) | (simp; omega)) _ | with_reducible refine Below.setCell ?_ (by first | omega | (simp; done) | (simp; omega)) _ | with_reducible refine Below.trans ?_ (Below.mono (by assumption) (by first | omega | (simp; done) | (simp; omega)))))⟩

set_option maxHeartbeats 1000000 in
theorem tShift (t ma mb mk mc md ml : Int) (f : Bool) (w : World) (_hT : TT w)
    : Calls Tryd.prog 33 #[Value.agg #[Value.int IntKind.i64 t, Value.bool f, Value.int IntKind.i64 ma, Value.int IntKind.i64 mb, Value.int IntKind.i64 mk, Value.int IntKind.i64 mc, Value.int IntKind.i64 md, Value.int IntKind.i64 ml]] w (RetB (Value.agg #[Value.int IntKind.i64 ma, Value.int IntKind.i64 mb, Value.int IntKind.i64 mk, Value.int IntKind.i64 mc, Value.int IntKind.i64 md, Value.int IntKind.i64 ml]) w) := by
  go_enter Tryd.func33, Tryd.ntmps33
  go_wp2_with fail
  exact bodyPost_ret (v := Value.agg #[Value.int IntKind.i64 ma, Value.int IntKind.i64 mb, Value.int IntKind.i64 mk, Value.int IntKind.i64 mc, Value.int IntKind.i64 md, Value.int IntKind.i64 ml]) (by simp [results, Tryd.results33, go_sem, *]) rfl ⟨rfl, by (repeat (first | with_reducible exact Below.refl _ _ | with_reducible assumption | with_reducible refine below_drewN ?_ _ | with_reducible refine Below.drew ?_ | with_reducible refine Below.alloc ?_ (by first | omega | (simp; done) | (simp; omega)) _ | with_reducible refine Below.setCell ?_ (by first | omega | (simp; done) | (simp; omega)) _ | with_reducible refine Below.trans ?_ (Below.mono (by assumption) (by first | omega | (simp; done) | (simp; omega)))))⟩

set_option maxHeartbeats 1000000 in
theorem tiVM_ok (t ma mb mk mc md ml : Int) (f r : Bool) (w : World) (hT : TT w) (h0 : 0 ≤ t) (h1 : t < 8)
    (H1 : Hid (∀ w, TT w → Calls Tryd.prog 33 #[Value.agg #[Value.int IntKind.i64 t, Value.bool f, Value.int IntKind.i64 ma, Value.int IntKind.i64 mb, Value.int IntKind.i64 mk, Value.int IntKind.i64 mc, Value.int IntKind.i64 md, Value.int IntKind.i64 ml]] w (RetB (Value.agg #[Value.int IntKind.i64 ma, Value.int IntKind.i64 mb, Value.int IntKind.i64 mk, Value.int IntKind.i64 mc, Value.int IntKind.i64 md, Value.int IntKind.i64 ml]) w)))
    (H2 : Hid (∀ w, TT w → Calls Tryd.prog 25 #[Value.agg #[Value.int IntKind.i64 ma, Value.int IntKind.i64 mb, Value.int IntKind.i64 mk, Value.int IntKind.i64 mc, Value.int IntKind.i64 md, Value.int IntKind.i64 ml]] w (RetB (Value.bool r) w)))
    : Calls Tryd.prog 32 #[Value.agg #[Value.int IntKind.i64 t, Value.bool f, Value.int IntKind.i64 ma, Value.int IntKind.i64 mb, Value.int IntKind.i64 mk, Value.int IntKind.i64 mc, Value.int IntKind.i64 md, Value.int IntKind.i64 ml]] w (RetB (Value.bool r) w) := by
  go_enter Tryd.func32, Tryd.ntmps32
  go_wp2_with fail
  refine (H1.out _ ?_).mono ?_
  · exact TT.below (w := w) hT (by (repeat (first | with_reducible exact Below.refl _ _ | with_reducible assumption | with_reducible refine below_drewN ?_ _ | with_reducible refine Below.drew ?_ | with_reducible refine Below.alloc ?_ (by first | omega | (simp; done) | (simp; omega)) _ | with_reducible refine Below.setCell ?_ (by first | omega | (simp; done) | (simp; omega)) _ | with_reducible refine Below.trans ?_ (Below.mono (by assumption) (by first | omega | (simp; done) | (simp; omega)))))) (Nat.le_refl _)
  rintro e w1 ⟨rfl, hb1⟩; (try replace hb1 := Below.undrew hb1); obtain ⟨hc1, hf1⟩ := bcell hb1; have hz1 := hb1.size; (try simp at hz1); (try have z1_0 : w.heap.size < w1.heap.size := (by omega))
  go_wp2_with fail
  refine (H2.out _ ?_).mono ?_
  · exact TT.below (w := w) hT (by (repeat (first | with_reducible exact Below.refl _ _ | with_reducible assumption | with_reducible refine below_drewN ?_ _ | with_reducible refine Below.drew ?_ | with_reducible refine Below.alloc ?_ (by first | omega | (simp; done) | (simp; omega)) _ | with_reducible refine Below.setCell ?_ (by first | omega | (simp; done) | (simp; omega)) _ | with_reducible refine Below.trans ?_ (Below.mono (by assumption) (by first | omega | (simp; done) | (simp; omega)))))) (Nat.le_refl _)
  rintro e w2 ⟨rfl, hb2⟩; (try replace hb2 := Below.undrew hb2); obtain ⟨hc2, hf2⟩ := bcell hb2; have hz2 := hb2.size; (try simp at hz2); (try have z2_0 : w.heap.size < w2.heap.size := (by omega))
  go_wp2_with fail
  go_ret
  exact ⟨rfl, by (repeat (first | with_reducible exact Below.refl _ _ | with_reducible assumption | with_reducible refine below_drewN ?_ _ | with_reducible refine Below.drew ?_ | with_reducible refine Below.alloc ?_ (by first | omega | (simp; done) | (simp; omega)) _ | with_reducible refine Below.setCell ?_ (by first | omega | (simp; done) | (simp; omega)) _ | with_reducible refine Below.trans ?_ (Below.mono (by assumption) (by first | omega | (simp; done) | (simp; omega)))))⟩

set_option maxHeartbeats 1000000 in
theorem tiVM_lo (t ma mb mk mc md ml : Int) (f : Bool) (w : World) (_hT : TT w) (h0 : t < 0)
    : Calls Tryd.prog 32 #[Value.agg #[Value.int IntKind.i64 t, Value.bool f, Value.int IntKind.i64 ma, Value.int IntKind.i64 mb, Value.int IntKind.i64 mk, Value.int IntKind.i64 mc, Value.int IntKind.i64 md, Value.int IntKind.i64 ml]] w (RetB (Value.bool false) w) := by
  go_enter Tryd.func32, Tryd.ntmps32
  go_wp2_with fail
  go_ret
  exact ⟨rfl, by (repeat (first | with_reducible exact Below.refl _ _ | with_reducible assumption | with_reducible refine below_drewN ?_ _ | with_reducible refine Below.drew ?_ | with_reducible refine Below.alloc ?_ (by first | omega | (simp; done) | (simp; omega)) _ | with_reducible refine Below.setCell ?_ (by first | omega | (simp; done) | (simp; omega)) _ | with_reducible refine Below.trans ?_ (Below.mono (by assumption) (by first | omega | (simp; done) | (simp; omega)))))⟩

set_option maxHeartbeats 1000000 in
theorem tiVM_hi (t ma mb mk mc md ml : Int) (f : Bool) (w : World) (_hT : TT w) (h0 : 8 ≤ t)
    : Calls Tryd.prog 32 #[Value.agg #[Value.int IntKind.i64 t, Value.bool f, Value.int IntKind.i64 ma, Value.int IntKind.i64 mb, Value.int IntKind.i64 mk, Value.int IntKind.i64 mc, Value.int IntKind.i64 md, Value.int IntKind.i64 ml]] w (RetB (Value.bool false) w) := by
  go_enter Tryd.func32, Tryd.ntmps32
  go_wp2_with fail
  go_ret
  exact ⟨rfl, by (repeat (first | with_reducible exact Below.refl _ _ | with_reducible assumption | with_reducible refine below_drewN ?_ _ | with_reducible refine Below.drew ?_ | with_reducible refine Below.alloc ?_ (by first | omega | (simp; done) | (simp; omega)) _ | with_reducible refine Below.setCell ?_ (by first | omega | (simp; done) | (simp; omega)) _ | with_reducible refine Below.trans ?_ (Below.mono (by assumption) (by first | omega | (simp; done) | (simp; omega)))))⟩

set_option maxHeartbeats 1000000 in
theorem tsVM_no1 (t ma mb mk mc md ml : Int) (f : Bool) (w : World) (hT : TT w)
    (H1 : Hid (∀ w, TT w → Calls Tryd.prog 34 #[Value.int IntKind.i64 t, Value.int IntKind.i64 0, Value.int IntKind.i64 7] w (RetB (Value.bool false) w)))
    : Calls Tryd.prog 30 #[Value.agg #[Value.int IntKind.i64 t, Value.bool f, Value.int IntKind.i64 ma, Value.int IntKind.i64 mb, Value.int IntKind.i64 mk, Value.int IntKind.i64 mc, Value.int IntKind.i64 md, Value.int IntKind.i64 ml]] w (RetB (Value.bool false) w) := by
  go_enter Tryd.func30, Tryd.ntmps30
  go_wp2_with fail
  refine (H1.out _ ?_).mono ?_
  · exact TT.below (w := w) hT (by (repeat (first | with_reducible exact Below.refl _ _ | with_reducible assumption | with_reducible refine below_drewN ?_ _ | with_reducible refine Below.drew ?_ | with_reducible refine Below.alloc ?_ (by first | omega | (simp; done) | (simp; omega)) _ | with_reducible refine Below.setCell ?_ (by first | omega | (simp; done) | (simp; omega)) _ | with_reducible refine Below.trans ?_ (Below.mono (by assumption) (by first | omega | (simp; done) | (simp; omega)))))) (Nat.le_refl _)
  rintro e w1 ⟨rfl, hb1⟩; (try replace hb1 := Below.undrew hb1); obtain ⟨hc1, hf1⟩ := bcell hb1; have hz1 := hb1.size; (try simp at hz1); (try have z1_0 : w.heap.size < w1.heap.size := (by omega))
  go_wp2_with fail
  go_ret
  exact ⟨rfl, by (repeat (first | with_reducible exact Below.refl _ _ | with_reducible assumption | with_reducible refine below_drewN ?_ _ | with_reducible refine Below.drew ?_ | with_reducible refine Below.alloc ?_ (by first | omega | (simp; done) | (simp; omega)) _ | with_reducible refine Below.setCell ?_ (by first | omega | (simp; done) | (simp; omega)) _ | with_reducible refine Below.trans ?_ (Below.mono (by assumption) (by first | omega | (simp; done) | (simp; omega)))))⟩

set_option maxHeartbeats 1000000 in
theorem tsVM_no2 (t ma mb mk mc md ml : Int) (f : Bool) (w : World) (hT : TT w)
    (H1 : Hid (∀ w, TT w → Calls Tryd.prog 34 #[Value.int IntKind.i64 t, Value.int IntKind.i64 0, Value.int IntKind.i64 7] w (RetB (Value.bool true) w)))
    (H2 : Hid (∀ w, TT w → Calls Tryd.prog 19 #[Value.agg #[Value.int IntKind.i64 ma, Value.int IntKind.i64 mb, Value.int IntKind.i64 mk]] w (RetB (Value.bool false) w)))
    : Calls Tryd.prog 30 #[Value.agg #[Value.int IntKind.i64 t, Value.bool f, Value.int IntKind.i64 ma, Value.int IntKind.i64 mb, Value.int IntKind.i64 mk, Value.int IntKind.i64 mc, Value.int IntKind.i64 md, Value.int IntKind.i64 ml]] w (RetB (Value.bool false) w) := by
  go_enter Tryd.func30, Tryd.ntmps30
  go_wp2_with fail
  refine (H1.out _ ?_).mono ?_
  · exact TT.below (w := w) hT (by (repeat (first | with_reducible exact Below.refl _ _ | with_reducible assumption | with_reducible refine below_drewN ?_ _ | with_reducible refine Below.drew ?_ | with_reducible refine Below.alloc ?_ (by first | omega | (simp; done) | (simp; omega)) _ | with_reducible refine Below.setCell ?_ (by first | omega | (simp; done) | (simp; omega)) _ | with_reducible refine Below.trans ?_ (Below.mono (by assumption) (by first | omega | (simp; done) | (simp; omega)))))) (Nat.le_refl _)
  rintro e w1 ⟨rfl, hb1⟩; (try replace hb1 := Below.undrew hb1); obtain ⟨hc1, hf1⟩ := bcell hb1; have hz1 := hb1.size; (try simp at hz1); (try have z1_0 : w.heap.size < w1.heap.size := (by omega))
  go_wp2_with fail
  refine (H2.out _ ?_).mono ?_
  · exact TT.below (w := w) hT (by (repeat (first | with_reducible exact Below.refl _ _ | with_reducible assumption | with_reducible refine below_drewN ?_ _ | with_reducible refine Below.drew ?_ | with_reducible refine Below.alloc ?_ (by first | omega | (simp; done) | (simp; omega)) _ | with_reducible refine Below.setCell ?_ (by first | omega | (simp; done) | (simp; omega)) _ | with_reducible refine Below.trans ?_ (Below.mono (by assumption) (by first | omega | (simp; done) | (simp; omega)))))) (Nat.le_refl _)
  rintro e w2 ⟨rfl, hb2⟩; (try replace hb2 := Below.undrew hb2); obtain ⟨hc2, hf2⟩ := bcell hb2; have hz2 := hb2.size; (try simp at hz2); (try have z2_0 : w.heap.size < w2.heap.size := (by omega))
  go_wp2_with fail
  go_ret
  exact ⟨rfl, by (repeat (first | with_reducible exact Below.refl _ _ | with_reducible assumption | with_reducible refine below_drewN ?_ _ | with_reducible refine Below.drew ?_ | with_reducible refine Below.alloc ?_ (by first | omega | (simp; done) | (simp; omega)) _ | with_reducible refine Below.setCell ?_ (by first | omega | (simp; done) | (simp; omega)) _ | with_reducible refine Below.trans ?_ (Below.mono (by assumption) (by first | omega | (simp; done) | (simp; omega)))))⟩

set_option maxHeartbeats 1000000 in
theorem tsVM_ok (t ma mb mk mc md ml : Int) (f r : Bool) (w : World) (hT : TT w)
    (H1 : Hid (∀ w, TT w → Calls Tryd.prog 34 #[Value.int IntKind.i64 t, Value.int IntKind.i64 0, Value.int IntKind.i64 7] w (RetB (Value.bool true) w)))
    (H2 : Hid (∀ w, TT w → Calls Tryd.prog 19 #[Value.agg #[Value.int IntKind.i64 ma, Value.int IntKind.i64 mb, Value.int IntKind.i64 mk]] w (RetB (Value.bool true) w)))
    (H3 : Hid (∀ w, TT w → Calls Tryd.prog 19 #[Value.agg #[Value.int IntKind.i64 mc, Value.int IntKind.i64 md, Value.int IntKind.i64 ml]] w (RetB (Value.bool r) w)))
    : Calls Tryd.prog 30 #[Value.agg #[Value.int IntKind.i64 t, Value.bool f, Value.int IntKind.i64 ma, Value.int IntKind.i64 mb, Value.int IntKind.i64 mk, Value.int IntKind.i64 mc, Value.int IntKind.i64 md, Value.int IntKind.i64 ml]] w (RetB (Value.bool r) w) := by
  go_enter Tryd.func30, Tryd.ntmps30
  go_wp2_with fail
  refine (H1.out _ ?_).mono ?_
  · exact TT.below (w := w) hT (by (repeat (first | with_reducible exact Below.refl _ _ | with_reducible assumption | with_reducible refine below_drewN ?_ _ | with_reducible refine Below.drew ?_ | with_reducible refine Below.alloc ?_ (by first | omega | (simp; done) | (simp; omega)) _ | with_reducible refine Below.setCell ?_ (by first | omega | (simp; done) | (simp; omega)) _ | with_reducible refine Below.trans ?_ (Below.mono (by assumption) (by first | omega | (simp; done) | (simp; omega)))))) (Nat.le_refl _)
  rintro e w1 ⟨rfl, hb1⟩; (try replace hb1 := Below.undrew hb1); obtain ⟨hc1, hf1⟩ := bcell hb1; have hz1 := hb1.size; (try simp at hz1); (try have z1_0 : w.heap.size < w1.heap.size := (by omega))
  go_wp2_with fail
  refine (H2.out _ ?_).mono ?_
  · exact TT.below (w := w) hT (by (repeat (first | with_reducible exact Below.refl _ _ | with_reducible assumption | with_reducible refine below_drewN ?_ _ | with_reducible refine Below.drew ?_ | with_reducible refine Below.alloc ?_ (by first | omega | (simp; done) | (simp; omega)) _ | with_reducible refine Below.setCell ?_ (by first | omega | (simp; done) | (simp; omega)) _ | with_reducible refine Below.trans ?_ (Below.mono (by assumption) (by first | omega | (simp; done) | (simp; omega)))))) (Nat.le_refl _)
  rintro e w2 ⟨rfl, hb2⟩; (try replace hb2 := Below.undrew hb2); obtain ⟨hc2, hf2⟩ := bcell hb2; have hz2 := hb2.size; (try simp at hz2); (try have z2_0 : w.heap.size < w2.heap.size := (by omega))
  go_wp2_with fail
  refine (H3.out _ ?_).mono ?_
  · exact TT.below (w := w) hT (by (repeat (first | with_reducible exact Below.refl _ _ | with_reducible assumption | with_reducible refine below_drewN ?_ _ | with_reducible refine Below.drew ?_ | with_reducible refine Below.alloc ?_ (by first | omega | (simp; done) | (simp; omega)) _ | with_reducible refine Below.setCell ?_ (by first | omega | (simp; done) | (simp; omega)) _ | with_reducible refine Below.trans ?_ (Below.mono (by assumption) (by first | omega | (simp; done) | (simp; omega)))))) (Nat.le_refl _)
  rintro e w3 ⟨rfl, hb3⟩; (try replace hb3 := Below.undrew hb3); obtain ⟨hc3, hf3⟩ := bcell hb3; have hz3 := hb3.size; (try simp at hz3); (try have z3_0 : w.heap.size < w3.heap.size := (by omega))
  go_wp2_with fail
  go_ret
  exact ⟨rfl, by (repeat (first | with_reducible exact Below.refl _ _ | with_reducible assumption | with_reducible refine below_drewN ?_ _ | with_reducible refine Below.drew ?_ | with_reducible refine Below.alloc ?_ (by first | omega | (simp; done) | (simp; omega)) _ | with_reducible refine Below.setCell ?_ (by first | omega | (simp; done) | (simp; omega)) _ | with_reducible refine Below.trans ?_ (Below.mono (by assumption) (by first | omega | (simp; done) | (simp; omega)))))⟩
end Go.Proofs.YthelgcikobhonaaDoor
