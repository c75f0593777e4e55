/- The motion of a matrix. -/
import Derived.Test.YtafbdnjabgfjeaaGreatDoorOe
import Derived.Test.YtafbdnjabgfjeaaGreatDoorOt
import Derived.Deep.RegionHeld3
import Derived.Deep.DeepCutAuto
import Derived.Deep.DrawnRows
namespace Go.Proofs.YtafbdnjabgfjeaaGreatDoor
open Go Go.RowKit OriM
variable {β : Bool}
attribute [local go_sem ↓] Go.wp_at_zero Go.wp_at_succ

set_option maxHeartbeats 2000000 in
theorem motion_no (ra rb rk rc rd rl ua ub uk uc ud ul sa sb sk sc sd sl pa pb pk pc pd pl : Int) (w : World) (hT : LT β w)
    (H1 : Hid (∀ w, LT β w → Calls Tryz.prog 43 #[Value.agg #[Value.int IntKind.i64 sa, Value.int IntKind.i64 sb, Value.int IntKind.i64 sk, Value.int IntKind.i64 sc, Value.int IntKind.i64 sd, Value.int IntKind.i64 sl]] w (RetB (Value.tuple #[Value.agg #[Value.int IntKind.i64 pa, Value.int IntKind.i64 pb, Value.int IntKind.i64 pk, Value.int IntKind.i64 pc, Value.int IntKind.i64 pd, Value.int IntKind.i64 pl], Value.bool false]) w)))
    : Calls Tryz.prog 30 #[Value.agg #[Value.int IntKind.i64 ra, Value.int IntKind.i64 rb, Value.int IntKind.i64 rk, Value.int IntKind.i64 rc, Value.int IntKind.i64 rd, Value.int IntKind.i64 rl, Value.int IntKind.i64 ua, Value.int IntKind.i64 ub, Value.int IntKind.i64 uk, Value.int IntKind.i64 uc, Value.int IntKind.i64 ud, Value.int IntKind.i64 ul, Value.int IntKind.i64 sa, Value.int IntKind.i64 sb, Value.int IntKind.i64 sk, Value.int IntKind.i64 sc, Value.int IntKind.i64 sd, Value.int IntKind.i64 sl]] w (RetB (Value.tuple #[Value.agg #[Value.int IntKind.i64 0, Value.bool false, Value.int IntKind.i64 0, Value.int IntKind.i64 0, Value.int IntKind.i64 0, Value.int IntKind.i64 0, Value.int IntKind.i64 0, Value.int IntKind.i64 0], Value.bool false]) w) := by
  go_enter Tryz.func30, Tryz.ntmps30
  go_wp2_with fail
  refine (H1.out _ ?_).mono ?_
  · exact LT.below (w := w) hT (by (repeat (first | with_reducible exact Below.refl _ _ | with_reducible assumption | with_reducible refine below_drewN ?_ _ | with_reducible refine Below.drew ?_ | with_reducible refine Below.alloc ?_ (by first | omega | (simp; done) | (simp; omega)) _ | with_reducible refine Below.setCell ?_ (by first | omega | (simp; done) | (simp; omega)) _ | with_reducible refine Below.trans ?_ (Below.mono (by assumption) (by first | omega | (simp; done) | (simp; omega)))))) (Nat.le_refl _)
  rintro e1 w1 ⟨rfl, hb1⟩; (try replace hb1 := Below.undrew hb1); obtain ⟨hc1, hf1⟩ := bcell hb1; have hz1 := hb1.size; (try simp at hz1); (try have z1_0 : w.heap.size < w1.heap.size := (by omega)); (try have z1_1 : w.heap.size + 1 < w1.heap.size := (by omega))
  go_wp2_with fail
  exact bodyPost_ret (v := Value.tuple #[Value.agg #[Value.int IntKind.i64 0, Value.bool false, Value.int IntKind.i64 0, Value.int IntKind.i64 0, Value.int IntKind.i64 0, Value.int IntKind.i64 0, Value.int IntKind.i64 0, Value.int IntKind.i64 0], Value.bool false]) (by simp [results, Tryz.results30, go_sem, *]) rfl ⟨rfl, by (repeat (first | with_reducible exact Below.refl _ _ | with_reducible assumption | with_reducible refine below_drewN ?_ _ | with_reducible refine Below.drew ?_ | with_reducible refine Below.alloc ?_ (by first | omega | (simp; done) | (simp; omega)) _ | with_reducible refine Below.setCell ?_ (by first | omega | (simp; done) | (simp; omega)) _ | with_reducible refine Below.trans ?_ (Below.mono (by assumption) (by first | omega | (simp; done) | (simp; omega)))))⟩

set_option maxHeartbeats 4000000 in
set_option maxRecDepth 100000 in
theorem motion_yes (e t ra rb rk rc rd rl ua ub uk uc ud ul sa sb sk sc sd sl pa pb pk pc pd pl xa xb xk xc xd xl ya yb yk yc yd yl za zb zk zc zd zl : Int) (g : Bool) (w : World) (hT : LT β w) (hq : e.tdiv 2 = t) (hw : IntKind.i64.wrap t = t)
    (H1 : Hid (∀ w, LT β w → Calls Tryz.prog 43 #[Value.agg #[Value.int IntKind.i64 sa, Value.int IntKind.i64 sb, Value.int IntKind.i64 sk, Value.int IntKind.i64 sc, Value.int IntKind.i64 sd, Value.int IntKind.i64 sl]] w (RetB (Value.tuple #[Value.agg #[Value.int IntKind.i64 pa, Value.int IntKind.i64 pb, Value.int IntKind.i64 pk, Value.int IntKind.i64 pc, Value.int IntKind.i64 pd, Value.int IntKind.i64 pl], Value.bool true]) w)))
    (H2 : Hid (∀ w, LT β w → Calls Tryz.prog 75 #[Value.agg #[Value.int IntKind.i64 0, Value.int IntKind.i64 0, Value.int IntKind.i64 0, Value.int IntKind.i64 0, Value.int IntKind.i64 0, Value.int IntKind.i64 0], Value.agg #[Value.int IntKind.i64 ra, Value.int IntKind.i64 rb, Value.int IntKind.i64 rk, Value.int IntKind.i64 rc, Value.int IntKind.i64 rd, Value.int IntKind.i64 rl]] w (RetB (Value.int IntKind.i64 e) w)))
    (H3 : Hid (∀ w, LT β w → Calls Tryz.prog 40 #[Value.agg #[Value.int IntKind.i64 t, Value.bool false, Value.int IntKind.i64 pa, Value.int IntKind.i64 pb, Value.int IntKind.i64 pk, Value.int IntKind.i64 pc, Value.int IntKind.i64 pd, Value.int IntKind.i64 pl]] w (RetB (Value.agg #[Value.int IntKind.i64 xa, Value.int IntKind.i64 xb, Value.int IntKind.i64 xk, Value.int IntKind.i64 xc, Value.int IntKind.i64 xd, Value.int IntKind.i64 xl, Value.int IntKind.i64 ya, Value.int IntKind.i64 yb, Value.int IntKind.i64 yk, Value.int IntKind.i64 yc, Value.int IntKind.i64 yd, Value.int IntKind.i64 yl, Value.int IntKind.i64 za, Value.int IntKind.i64 zb, Value.int IntKind.i64 zk, Value.int IntKind.i64 zc, Value.int IntKind.i64 zd, Value.int IntKind.i64 zl]) w)))
    (HE : Hid (∀ w, (Op.equalIn 10000 67 (Value.agg #[Value.int IntKind.i64 xa, Value.int IntKind.i64 xb, Value.int IntKind.i64 xk, Value.int IntKind.i64 xc, Value.int IntKind.i64 xd, Value.int IntKind.i64 xl, Value.int IntKind.i64 ya, Value.int IntKind.i64 yb, Value.int IntKind.i64 yk, Value.int IntKind.i64 yc, Value.int IntKind.i64 yd, Value.int IntKind.i64 yl, Value.int IntKind.i64 za, Value.int IntKind.i64 zb, Value.int IntKind.i64 zk, Value.int IntKind.i64 zc, Value.int IntKind.i64 zd, Value.int IntKind.i64 zl]) (Value.agg #[Value.int IntKind.i64 ra, Value.int IntKind.i64 rb, Value.int IntKind.i64 rk, Value.int IntKind.i64 rc, Value.int IntKind.i64 rd, Value.int IntKind.i64 rl, Value.int IntKind.i64 ua, Value.int IntKind.i64 ub, Value.int IntKind.i64 uk, Value.int IntKind.i64 uc, Value.int IntKind.i64 ud, Value.int IntKind.i64 ul, Value.int IntKind.i64 sa, Value.int IntKind.i64 sb, Value.int IntKind.i64 sk, Value.int IntKind.i64 sc, Value.int IntKind.i64 sd, Value.int IntKind.i64 sl])).run Tryz.prog w = .ok g w))
    : Calls Tryz.prog 30 #[Value.agg #[Value.int IntKind.i64 ra, Value.int IntKind.i64 rb, Value.int IntKind.i64 rk, Value.int IntKind.i64 rc, Value.int IntKind.i64 rd, Value.int IntKind.i64 rl, Value.int IntKind.i64 ua, Value.int IntKind.i64 ub, Value.int IntKind.i64 uk, Value.int IntKind.i64 uc, Value.int IntKind.i64 ud, Value.int IntKind.i64 ul, Value.int IntKind.i64 sa, Value.int IntKind.i64 sb, Value.int IntKind.i64 sk, Value.int IntKind.i64 sc, Value.int IntKind.i64 sd, Value.int IntKind.i64 sl]] w (RetB (Value.tuple #[Value.agg #[Value.int IntKind.i64 t, Value.bool (!g), Value.int IntKind.i64 pa, Value.int IntKind.i64 pb, Value.int IntKind.i64 pk, Value.int IntKind.i64 pc, Value.int IntKind.i64 pd, Value.int IntKind.i64 pl], Value.bool true]) w) := by
  go_enter Tryz.func30, Tryz.ntmps30
  go_wp2_with fail
  refine (H1.out _ ?_).mono ?_
  · exact LT.below (w := w) hT (by (repeat (first | with_reducible exact Below.refl _ _ | with_reducible assumption | with_reducible refine below_drewN ?_ _ | with_reducible refine Below.drew ?_ | with_reducible refine Below.alloc ?_ (by first | omega | (simp; done) | (simp; omega)) _ | with_reducible refine Below.setCell ?_ (by first | omega | (simp; done) | (simp; omega)) _ | with_reducible refine Below.trans ?_ (Below.mono (by assumption) (by first | omega | (simp; done) | (simp; omega)))))) (Nat.le_refl _)
  rintro e1 w1 ⟨rfl, hb1⟩; (try replace hb1 := Below.undrew hb1); obtain ⟨hc1, hf1⟩ := bcell hb1; have hz1 := hb1.size; (try simp at hz1); (try have z1_0 : w.heap.size < w1.heap.size := (by omega)); (try have z1_1 : w.heap.size + 1 < w1.heap.size := (by omega))
  have zz0 : w.heap.size < w.heap.size + 1 + 1 := (by omega)
  have zz1 : w.heap.size < w1.heap.size + 1 := (by omega)
  have zz2 : w.heap.size + 1 < w1.heap.size + 1 := (by omega)
  go_wp2_with fail
  refine (H2.out _ ?_).mono ?_
  · exact LT.below (w := w) hT (by (repeat (first | with_reducible exact Below.refl _ _ | with_reducible assumption | with_reducible refine below_drewN ?_ _ | with_reducible refine Below.drew ?_ | with_reducible refine Below.alloc ?_ (by first | omega | (simp; done) | (simp; omega)) _ | with_reducible refine Below.setCell ?_ (by first | omega | (simp; done) | (simp; omega)) _ | with_reducible refine Below.trans ?_ (Below.mono (by assumption) (by first | omega | (simp; done) | (simp; omega)))))) (Nat.le_refl _)
  rintro e2 w2 ⟨rfl, hb2⟩; (try replace hb2 := Below.undrew hb2); obtain ⟨hc2, hf2⟩ := bcell hb2; have hz2 := hb2.size; (try simp at hz2); (try have z2_0 : w.heap.size < w2.heap.size := (by omega)); (try have z2_1 : w.heap.size + 1 < w2.heap.size := (by omega)); (try have z2_2 : w1.heap.size < w2.heap.size := (by omega))
  have zz3 : w.heap.size < w2.heap.size + 1 := (by omega)
  have zz4 : w.heap.size + 1 < w2.heap.size + 1 := (by omega)
  have zz5 : w1.heap.size < w2.heap.size + 1 := (by omega)
  have heq := HE.out
  go_wp2_with fail
  refine wp_region_last (S := fun w' => w'.cell? ⟨w2.heap.size, 0, none⟩ = some (Value.int IntKind.i64 t) ∧ w'.cell? ⟨w2.heap.size, 1, none⟩ = some (Value.bool false) ∧ w'.cell? ⟨w2.heap.size, 2, none⟩ = some (Value.int IntKind.i64 pa) ∧ w'.cell? ⟨w2.heap.size, 3, none⟩ = some (Value.int IntKind.i64 pb) ∧ w'.cell? ⟨w2.heap.size, 4, none⟩ = some (Value.int IntKind.i64 pk) ∧ w'.cell? ⟨w2.heap.size, 5, none⟩ = some (Value.int IntKind.i64 pc) ∧ w'.cell? ⟨w2.heap.size, 6, none⟩ = some (Value.int IntKind.i64 pd) ∧ w'.cell? ⟨w2.heap.size, 7, none⟩ = some (Value.int IntKind.i64 pl) ∧ w'.cell? ⟨w.heap.size, 0, none⟩ = some (Value.int IntKind.i64 ra) ∧ w'.cell? ⟨w.heap.size, 1, none⟩ = some (Value.int IntKind.i64 rb) ∧ w'.cell? ⟨w.heap.size, 2, none⟩ = some (Value.int IntKind.i64 rk) ∧ w'.cell? ⟨w.heap.size, 3, none⟩ = some (Value.int IntKind.i64 rc) ∧ w'.cell? ⟨w.heap.size, 4, none⟩ = some (Value.int IntKind.i64 rd) ∧ w'.cell? ⟨w.heap.size, 5, none⟩ = some (Value.int IntKind.i64 rl) ∧ w'.cell? ⟨w.heap.size, 6, none⟩ = some (Value.int IntKind.i64 ua) ∧ w'.cell? ⟨w.heap.size, 7, none⟩ = some (Value.int IntKind.i64 ub) ∧ w'.cell? ⟨w.heap.size, 8, none⟩ = some (Value.int IntKind.i64 uk) ∧ w'.cell? ⟨w.heap.size, 9, none⟩ = some (Value.int IntKind.i64 uc) ∧ w'.cell? ⟨w.heap.size, 10, none⟩ = some (Value.int IntKind.i64 ud) ∧ w'.cell? ⟨w.heap.size, 11, none⟩ = some (Value.int IntKind.i64 ul) ∧ w'.cell? ⟨w.heap.size, 12, none⟩ = some (Value.int IntKind.i64 sa) ∧ w'.cell? ⟨w.heap.size, 13, none⟩ = some (Value.int IntKind.i64 sb) ∧ w'.cell? ⟨w.heap.size, 14, none⟩ = some (Value.int IntKind.i64 sk) ∧ w'.cell? ⟨w.heap.size, 15, none⟩ = some (Value.int IntKind.i64 sc) ∧ w'.cell? ⟨w.heap.size, 16, none⟩ = some (Value.int IntKind.i64 sd) ∧ w'.cell? ⟨w.heap.size, 17, none⟩ = some (Value.int IntKind.i64 sl)) 5 (by kernel_rfl) (by kernel_rfl) ?hS1 ?hW1
  case hS1 => ((try dsimp only); (first | (go_simp; done) | (simp [*]; done)))
  case hW1 =>
  intro hHeld
  simp only [List.pop_toArray, List.dropLast_cons_cons, List.dropLast_singleton]
  refine wpAnyH_take (i := 0) (v := ?v2) rfl (by kernel_rfl) (by kernel_rfl) (by kernel_rfl) (fun _ _ _ h => h) (Or.inl ⟨by rfl, ?hy2⟩) hHeld ?hr2
  case hy2 => (intro w hSw; (try dsimp only at hSw); (try simp only [List.getElem_toArray, List.getElem_cons_zero]); go_simp; try (with_reducible rfl))
  try simp only [List.getElem_toArray, List.getElem_cons_zero, Act.put, List.setIfInBounds_toArray, List.set_cons_zero, List.set_cons_succ]
  refine wpAnyH_take (i := 2) (v := ?v3) rfl (by kernel_rfl) (by kernel_rfl) (by kernel_rfl) (fun _ _ _ h => h) (Or.inl ⟨by rfl, ?hy3⟩) hHeld ?hr3
  case hy3 => (intro w hSw; (try dsimp only at hSw); (try simp only [List.getElem_toArray, List.getElem_cons_zero, List.getElem_cons_succ]); go_simp; try (with_reducible rfl))
  try simp only [List.getElem_toArray, List.getElem_cons_zero, List.getElem_cons_succ, Act.put, List.setIfInBounds_toArray, List.set_cons_zero, List.set_cons_succ]
  refine wpAnyH_ready (rs := [1]) (by kernel_rfl) (by simp) (AllReadyH.cons rfl (fun K hK => ?_) AllReadyH.nil)
  try simp only [List.getElem_toArray, List.getElem_cons_zero, List.getElem_cons_succ]
  go_simp
  refine (H3.out _ ?_).mono ?_; exact LT.below (w := w) hT (by (repeat (first | with_reducible exact Below.refl _ _ | with_reducible assumption | with_reducible refine below_drewN ?_ _ | with_reducible refine Below.drew ?_ | with_reducible refine Below.alloc ?_ (by first | omega | (simp; done) | (simp; omega)) _ | with_reducible refine Below.setCell ?_ (by first | omega | (simp; done) | (simp; omega)) _ | with_reducible refine Below.trans ?_ (Below.mono (by assumption) (by first | omega | (simp; done) | (simp; omega)))))) (Nat.le_refl _); rintro e3 w3 ⟨rfl, hb3⟩; (try replace hb3 := Below.undrew hb3); obtain ⟨hc3, hf3⟩ := bcell hb3; have hz3 := hb3.size; (try simp at hz3); (try have z3_0 : w.heap.size < w3.heap.size := (by omega)); (try have z3_1 : w.heap.size + 1 < w3.heap.size := (by omega)); (try have z3_2 : w1.heap.size < w3.heap.size := (by omega)); (try have z3_3 : w2.heap.size < w3.heap.size := (by omega))
  go_wp2_with fail
  refine hK.out _ _ ?hS4 (fun hHeld => ?hW4)
  case hS4 => ((try dsimp only); (first | (go_simp; done) | (simp [*]; done)))
  clear hK K
  try simp only [List.getElem_toArray, List.getElem_cons_zero, List.getElem_cons_succ, Act.put, List.setIfInBounds_toArray, List.set_cons_zero, List.set_cons_succ]
  refine wpAnyH_take (i := 3) (v := ?v5) rfl (by kernel_rfl) (by kernel_rfl) (by kernel_rfl) (fun _ _ _ h => h) (Or.inl ⟨by rfl, ?hy5⟩) hHeld ?hr5
  case hy5 => (intro w hSw; (try dsimp only at hSw); (try simp only [List.getElem_toArray, List.getElem_cons_zero, List.getElem_cons_succ]); go_simp; try (with_reducible rfl))
  try simp only [List.getElem_toArray, List.getElem_cons_zero, List.getElem_cons_succ, Act.put, List.setIfInBounds_toArray, List.set_cons_zero, List.set_cons_succ]
  refine wpAnyH_take (i := 4) (v := ?v6) rfl (by kernel_rfl) (by kernel_rfl) (by kernel_rfl) (fun _ _ _ h => h) (Or.inl ⟨by rfl, ?hy6⟩) hHeld ?hr6
  case hy6 => (intro w hSw; (try dsimp only at hSw); (try simp only [List.getElem_toArray, List.getElem_cons_zero, List.getElem_cons_succ]); go_simp; try (with_reducible rfl))
  try simp only [List.getElem_toArray, List.getElem_cons_zero, List.getElem_cons_succ, Act.put, List.setIfInBounds_toArray, List.set_cons_zero, List.set_cons_succ]
  refine wpAnyH_done (by kernel_rfl) ?_ _
  refine last_step rfl (fun K hK => ?_)
  try simp only [List.getElem_toArray, List.getElem_cons_zero, List.getElem_cons_succ]
  go_simp
  refine hK.out _ _ ?_
  clear hK K
  go_wp2_with fail
  exact bodyPost_ret (v := Value.tuple #[Value.agg #[Value.int IntKind.i64 t, Value.bool (!g), Value.int IntKind.i64 pa, Value.int IntKind.i64 pb, Value.int IntKind.i64 pk, Value.int IntKind.i64 pc, Value.int IntKind.i64 pd, Value.int IntKind.i64 pl], Value.bool true]) (by simp [results, Tryz.results30, go_sem, *]) rfl ⟨rfl, by (repeat (first | with_reducible exact Below.refl _ _ | with_reducible assumption | with_reducible refine below_drewN ?_ _ | with_reducible refine Below.drew ?_ | with_reducible refine Below.alloc ?_ (by first | omega | (simp; done) | (simp; omega)) _ | with_reducible refine Below.setCell ?_ (by first | omega | (simp; done) | (simp; omega)) _ | with_reducible refine Below.trans ?_ (Below.mono (by assumption) (by first | omega | (simp; done) | (simp; omega)))))⟩
end Go.Proofs.YtafbdnjabgfjeaaGreatDoor
