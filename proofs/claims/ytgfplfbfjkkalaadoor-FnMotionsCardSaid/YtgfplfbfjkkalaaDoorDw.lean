/- FnMotions: the walk. Whatever is drawn, composed motions act one behind the other, and inverted ones undo. -/
import Derived.Test.YtgfplfbfjkkalaaDoorDrw
import Derived.Test.YtgfplfbfjkkalaaDoorAct
import Derived.Deep.RegionHeld3
import Derived.Deep.DeepCutAuto
import Derived.Deep.DrawnRows
namespace Go.Proofs.YtgfplfbfjkkalaaDoor
open Go Go.RowKit OriM

theorem long_any (sa : Option Addr) (sn sc : Nat) (w : World) : Calls Tryd.prog 5 #[.slice sa sn sc] w fun e w' => ∃ b : Bool, e = .returned (.bool b) ∧ w = w' := by
  go_enter Tryd.func5, Tryd.ntmps5
  go_wp2_with fail
  go_ret
  exact ⟨_, rfl, rfl⟩
theorem iId_any (w : World) : Calls Tryd.prog 14 #[] w (RetB (mot 0 false 0 0 0 0 0 0) w) := by
  go_enter Tryd.func14, Tryd.ntmps14
  go_wp2_with fail
  exact bodyPost_ret (v := mot 0 false 0 0 0 0 0 0) (by simp [results, Tryd.results14, go_sem, *]) rfl ⟨rfl, by (repeat (first | with_reducible exact Below.refl _ _ | with_reducible assumption | with_reducible refine below_drewN ?_ _ | with_reducible refine Below.drew ?_ | with_reducible refine Below.alloc ?_ (by first | omega | (simp; done) | (simp; omega)) _ | with_reducible refine Below.setCell ?_ (by first | omega | (simp; done) | (simp; omega)) _ | with_reducible refine Below.trans ?_ (Below.mono (by assumption) (by first | omega | (simp; done) | (simp; omega)))))⟩
theorem CodeIn.later {w w' : World} {v : Value} (h : CodeIn w v) (hb : Below w.heap.size w w') : CodeIn w' v := by
  rcases h with h | ⟨b, o, n, c, rfl, hs, hn, h⟩
  · exact .inl h
  · refine .inr ⟨b, o, n, c, rfl, Nat.lt_of_lt_of_le hs hb.size, hn, fun i hi => ?_⟩
    obtain ⟨x, hx, h0, h1⟩ := h i hi
    exact ⟨x, by rw [hb.cell (p := ⟨b, o + i, none⟩) hs]; exact hx, h0, h1⟩
theorem sm_i3 {a b k : Int} (h : Sm a b k) : I3 a b k := by
  unfold Sm at h
  constructor <;> omega

set_option maxHeartbeats 40000000 in
set_option maxRecDepth 100000 in
theorem motions.walk (v0 v1 : Value) (w : World) (hT : LT true w) (hC0 : CodeIn w v0) (hC1 : CodeIn w v1) : Calls Tryd.prog 3 #[v0, v1] w (RetB (.bool true) w) := by
  obtain ⟨sa, sn, sc, rfl⟩ := hC0.slice
  obtain ⟨ra, rn, rc, rfl⟩ := hC1.slice
  have HC0 := Lib.hid hC0
  have HC1 := Lib.hid hC1
  clear hC0 hC1
  go_enter Tryd.func3, Tryd.ntmps3
  go_wp2_with fail
  refine (long_any sa sn sc _).mono ?_
  rintro e w' ⟨b0, rfl, rfl⟩
  cases b0
  case true =>
    go_wp2_with fail
    go_ret
    exact ⟨rfl, by (repeat (first | with_reducible exact Below.refl _ _ | with_reducible assumption | with_reducible refine below_drewN ?_ _ | with_reducible refine Below.drew ?_ | with_reducible refine Below.alloc ?_ (by first | omega | (simp; done) | (simp; omega)) _ | with_reducible refine Below.setCell ?_ (by first | omega | (simp; done) | (simp; omega)) _ | with_reducible refine Below.trans ?_ (Below.mono (by assumption) (by first | omega | (simp; done) | (simp; omega)))))⟩
  go_wp2_with fail
  refine (long_any ra rn rc _).mono ?_
  rintro e w' ⟨b1, rfl, rfl⟩
  cases b1
  case true =>
    go_wp2_with fail
    go_ret
    exact ⟨rfl, by (repeat (first | with_reducible exact Below.refl _ _ | with_reducible assumption | with_reducible refine below_drewN ?_ _ | with_reducible refine Below.drew ?_ | with_reducible refine Below.alloc ?_ (by first | omega | (simp; done) | (simp; omega)) _ | with_reducible refine Below.setCell ?_ (by first | omega | (simp; done) | (simp; omega)) _ | with_reducible refine Below.trans ?_ (Below.mono (by assumption) (by first | omega | (simp; done) | (simp; omega)))))⟩
  go_wp2_with fail
  refine (dCompose_any _ _ HC0.out).mono ?_
  rintro e w1 ⟨_, _, rfl, ⟨t, f, ma, mb, mk, mc, md, ml, rfl, _, sm1, sm2⟩, ⟨e', g, na, nb, nk, nc, nd, nl, rfl, _, sn1, sn2⟩, hb1⟩
  have z1 := hb1.size
  have HA := Lib.hid (And.intro sm1 sm2)
  have HB := Lib.hid (And.intro sn1 sn2)
  have HC2 := Lib.hid (HC1.out.later ((hb1.alloc z1 (Obj.cells #[Value.int IntKind.i64 t, Value.bool f, Value.int IntKind.i64 ma, Value.int IntKind.i64 mb, Value.int IntKind.i64 mk, Value.int IntKind.i64 mc, Value.int IntKind.i64 md, Value.int IntKind.i64 ml] 27)).alloc (by simp; omega) (Obj.cells #[Value.int IntKind.i64 e', Value.bool g, Value.int IntKind.i64 na, Value.int IntKind.i64 nb, Value.int IntKind.i64 nk, Value.int IntKind.i64 nc, Value.int IntKind.i64 nd, Value.int IntKind.i64 nl] 27)))
  clear sm1 sm2 sn1 sn2
  go_wp2_with fail
  refine (dMovePoint_any _ _ HC2.out).mono ?_
  rintro e w2 ⟨_, _, rfl, ⟨r', h', k1, k2, k3, k4, k5, k6, rfl, _, _, _⟩, ⟨a, b, k, c, d, l, rfl, sp1, sp2⟩, hb2⟩
  have HP := Lib.hid (And.intro sp1 sp2)
  clear sp1 sp2 HC0 HC1 HC2
  have z2 := hb2.size
  simp only [World.size_alloc] at z2

  have cA_2_0 : w2.cell? ⟨w1.heap.size, 0, none⟩ = some (Value.int IntKind.i64 t) := (hb2.cell (p := ⟨w1.heap.size, 0, none⟩) (by first | omega | (simp; done) | (simp; omega))).trans (by simp [go_sem])
  have cA_2_1 : w2.cell? ⟨w1.heap.size, 1, none⟩ = some (Value.bool f) := (hb2.cell (p := ⟨w1.heap.size, 1, none⟩) (by first | omega | (simp; done) | (simp; omega))).trans (by simp [go_sem])
  have cA_2_2 : w2.cell? ⟨w1.heap.size, 2, none⟩ = some (Value.int IntKind.i64 ma) := (hb2.cell (p := ⟨w1.heap.size, 2, none⟩) (by first | omega | (simp; done) | (simp; omega))).trans (by simp [go_sem])
  have cA_2_3 : w2.cell? ⟨w1.heap.size, 3, none⟩ = some (Value.int IntKind.i64 mb) := (hb2.cell (p := ⟨w1.heap.size, 3, none⟩) (by first | omega | (simp; done) | (simp; omega))).trans (by simp [go_sem])
  have cA_2_4 : w2.cell? ⟨w1.heap.size, 4, none⟩ = some (Value.int IntKind.i64 mk) := (hb2.cell (p := ⟨w1.heap.size, 4, none⟩) (by first | omega | (simp; done) | (simp; omega))).trans (by simp [go_sem])
  have cA_2_5 : w2.cell? ⟨w1.heap.size, 5, none⟩ = some (Value.int IntKind.i64 mc) := (hb2.cell (p := ⟨w1.heap.size, 5, none⟩) (by first | omega | (simp; done) | (simp; omega))).trans (by simp [go_sem])
  have cA_2_6 : w2.cell? ⟨w1.heap.size, 6, none⟩ = some (Value.int IntKind.i64 md) := (hb2.cell (p := ⟨w1.heap.size, 6, none⟩) (by first | omega | (simp; done) | (simp; omega))).trans (by simp [go_sem])
  have cA_2_7 : w2.cell? ⟨w1.heap.size, 7, none⟩ = some (Value.int IntKind.i64 ml) := (hb2.cell (p := ⟨w1.heap.size, 7, none⟩) (by first | omega | (simp; done) | (simp; omega))).trans (by simp [go_sem])
  have lA_2 : w1.heap.size < w2.heap.size := (by first | omega | (simp; done) | (simp; omega))
  have neA_2 : w1.heap.size ≠ w2.heap.size := by omega
  have neA_2b : w1.heap.size ≠ w2.heap.size + 1 := by omega
  have neA_2c : w2.heap.size ≠ w1.heap.size := by omega
  have neA_2d : w2.heap.size + 1 ≠ w1.heap.size := by omega
  have cB_2_0 : w2.cell? ⟨w1.heap.size + 1, 0, none⟩ = some (Value.int IntKind.i64 e') := (hb2.cell (p := ⟨w1.heap.size + 1, 0, none⟩) (by first | omega | (simp; done) | (simp; omega))).trans (by simp [go_sem])
  have cB_2_1 : w2.cell? ⟨w1.heap.size + 1, 1, none⟩ = some (Value.bool g) := (hb2.cell (p := ⟨w1.heap.size + 1, 1, none⟩) (by first | omega | (simp; done) | (simp; omega))).trans (by simp [go_sem])
  have cB_2_2 : w2.cell? ⟨w1.heap.size + 1, 2, none⟩ = some (Value.int IntKind.i64 na) := (hb2.cell (p := ⟨w1.heap.size + 1, 2, none⟩) (by first | omega | (simp; done) | (simp; omega))).trans (by simp [go_sem])
  have cB_2_3 : w2.cell? ⟨w1.heap.size + 1, 3, none⟩ = some (Value.int IntKind.i64 nb) := (hb2.cell (p := ⟨w1.heap.size + 1, 3, none⟩) (by first | omega | (simp; done) | (simp; omega))).trans (by simp [go_sem])
  have cB_2_4 : w2.cell? ⟨w1.heap.size + 1, 4, none⟩ = some (Value.int IntKind.i64 nk) := (hb2.cell (p := ⟨w1.heap.size + 1, 4, none⟩) (by first | omega | (simp; done) | (simp; omega))).trans (by simp [go_sem])
  have cB_2_5 : w2.cell? ⟨w1.heap.size + 1, 5, none⟩ = some (Value.int IntKind.i64 nc) := (hb2.cell (p := ⟨w1.heap.size + 1, 5, none⟩) (by first | omega | (simp; done) | (simp; omega))).trans (by simp [go_sem])
  have cB_2_6 : w2.cell? ⟨w1.heap.size + 1, 6, none⟩ = some (Value.int IntKind.i64 nd) := (hb2.cell (p := ⟨w1.heap.size + 1, 6, none⟩) (by first | omega | (simp; done) | (simp; omega))).trans (by simp [go_sem])
  have cB_2_7 : w2.cell? ⟨w1.heap.size + 1, 7, none⟩ = some (Value.int IntKind.i64 nl) := (hb2.cell (p := ⟨w1.heap.size + 1, 7, none⟩) (by first | omega | (simp; done) | (simp; omega))).trans (by simp [go_sem])
  have lB_2 : w1.heap.size + 1 < w2.heap.size := (by first | omega | (simp; done) | (simp; omega))
  have neB_2 : w1.heap.size + 1 ≠ w2.heap.size := by omega
  have neB_2b : w1.heap.size + 1 ≠ w2.heap.size + 1 := by omega
  have neB_2c : w2.heap.size ≠ w1.heap.size + 1 := by omega
  have neB_2d : w2.heap.size + 1 ≠ w1.heap.size + 1 := by omega
  go_wp2_with fail
  cases hM : vM t ma mb mk mc md ml
  case false =>
    have KV3 := Lib.hid fun w (hT : LT true w) => hM ▸ sVM_any (β := true) t f ma mb mk mc md ml w hT
    refine (KV3.out _ ?_).mono ?_
    · exact LT.below (w := w) hT (by (repeat (first | with_reducible exact Below.refl _ _ | with_reducible assumption | with_reducible refine below_drewN ?_ _ | with_reducible refine Below.drew ?_ | with_reducible refine Below.alloc ?_ (by first | omega | (simp; done) | (simp; omega)) _ | with_reducible refine Below.setCell ?_ (by first | omega | (simp; done) | (simp; omega)) _ | with_reducible refine Below.trans ?_ (Below.mono (by assumption) (by first | omega | (simp; done) | (simp; omega)))))) (Nat.le_refl _)
    rintro e w3 ⟨rfl, hb3⟩
    have z3 := hb3.size
    (try simp only [World.size_alloc] at z3)
    have cA_3_0 : w3.cell? ⟨w1.heap.size, 0, none⟩ = some (Value.int IntKind.i64 t) := (hb3.cell (p := ⟨w1.heap.size, 0, none⟩) (by first | omega | (simp; done) | (simp; omega))).trans ((World.cell?_alloc_lt _ _ ⟨w1.heap.size, 0, none⟩ (by first | omega | (simp; done) | (simp; omega))).trans ((World.cell?_alloc_lt _ _ ⟨w1.heap.size, 0, none⟩ (by first | omega | (simp; done) | (simp; omega))).trans cA_2_0))
    have cA_3_1 : w3.cell? ⟨w1.heap.size, 1, none⟩ = some (Value.bool f) := (hb3.cell (p := ⟨w1.heap.size, 1, none⟩) (by first | omega | (simp; done) | (simp; omega))).trans ((World.cell?_alloc_lt _ _ ⟨w1.heap.size, 1, none⟩ (by first | omega | (simp; done) | (simp; omega))).trans ((World.cell?_alloc_lt _ _ ⟨w1.heap.size, 1, none⟩ (by first | omega | (simp; done) | (simp; omega))).trans cA_2_1))
    have cA_3_2 : w3.cell? ⟨w1.heap.size, 2, none⟩ = some (Value.int IntKind.i64 ma) := (hb3.cell (p := ⟨w1.heap.size, 2, none⟩) (by first | omega | (simp; done) | (simp; omega))).trans ((World.cell?_alloc_lt _ _ ⟨w1.heap.size, 2, none⟩ (by first | omega | (simp; done) | (simp; omega))).trans ((World.cell?_alloc_lt _ _ ⟨w1.heap.size, 2, none⟩ (by first | omega | (simp; done) | (simp; omega))).trans cA_2_2))
    have cA_3_3 : w3.cell? ⟨w1.heap.size, 3, none⟩ = some (Value.int IntKind.i64 mb) := (hb3.cell (p := ⟨w1.heap.size, 3, none⟩) (by first | omega | (simp; done) | (simp; omega))).trans ((World.cell?_alloc_lt _ _ ⟨w1.heap.size, 3, none⟩ (by first | omega | (simp; done) | (simp; omega))).trans ((World.cell?_alloc_lt _ _ ⟨w1.heap.size, 3, none⟩ (by first | omega | (simp; done) | (simp; omega))).trans cA_2_3))
    have cA_3_4 : w3.cell? ⟨w1.heap.size, 4, none⟩ = some (Value.int IntKind.i64 mk) := (hb3.cell (p := ⟨w1.heap.size, 4, none⟩) (by first | omega | (simp; done) | (simp; omega))).trans ((World.cell?_alloc_lt _ _ ⟨w1.heap.size, 4, none⟩ (by first | omega | (simp; done) | (simp; omega))).trans ((World.cell?_alloc_lt _ _ ⟨w1.heap.size, 4, none⟩ (by first | omega | (simp; done) | (simp; omega))).trans cA_2_4))
    have cA_3_5 : w3.cell? ⟨w1.heap.size, 5, none⟩ = some (Value.int IntKind.i64 mc) := (hb3.cell (p := ⟨w1.heap.size, 5, none⟩) (by first | omega | (simp; done) | (simp; omega))).trans ((World.cell?_alloc_lt _ _ ⟨w1.heap.size, 5, none⟩ (by first | omega | (simp; done) | (simp; omega))).trans ((World.cell?_alloc_lt _ _ ⟨w1.heap.size, 5, none⟩ (by first | omega | (simp; done) | (simp; omega))).trans cA_2_5))
    have cA_3_6 : w3.cell? ⟨w1.heap.size, 6, none⟩ = some (Value.int IntKind.i64 md) := (hb3.cell (p := ⟨w1.heap.size, 6, none⟩) (by first | omega | (simp; done) | (simp; omega))).trans ((World.cell?_alloc_lt _ _ ⟨w1.heap.size, 6, none⟩ (by first | omega | (simp; done) | (simp; omega))).trans ((World.cell?_alloc_lt _ _ ⟨w1.heap.size, 6, none⟩ (by first | omega | (simp; done) | (simp; omega))).trans cA_2_6))
    have cA_3_7 : w3.cell? ⟨w1.heap.size, 7, none⟩ = some (Value.int IntKind.i64 ml) := (hb3.cell (p := ⟨w1.heap.size, 7, none⟩) (by first | omega | (simp; done) | (simp; omega))).trans ((World.cell?_alloc_lt _ _ ⟨w1.heap.size, 7, none⟩ (by first | omega | (simp; done) | (simp; omega))).trans ((World.cell?_alloc_lt _ _ ⟨w1.heap.size, 7, none⟩ (by first | omega | (simp; done) | (simp; omega))).trans cA_2_7))
    have lA_3 : w1.heap.size < w3.heap.size := (by first | omega | (simp; done) | (simp; omega))
    have neA_3 : w1.heap.size ≠ w3.heap.size := by omega
    have neA_3b : w1.heap.size ≠ w3.heap.size + 1 := by omega
    have neA_3c : w3.heap.size ≠ w1.heap.size := by omega
    have neA_3d : w3.heap.size + 1 ≠ w1.heap.size := by omega
    have cB_3_0 : w3.cell? ⟨w1.heap.size + 1, 0, none⟩ = some (Value.int IntKind.i64 e') := (hb3.cell (p := ⟨w1.heap.size + 1, 0, none⟩) (by first | omega | (simp; done) | (simp; omega))).trans ((World.cell?_alloc_lt _ _ ⟨w1.heap.size + 1, 0, none⟩ (by first | omega | (simp; done) | (simp; omega))).trans ((World.cell?_alloc_lt _ _ ⟨w1.heap.size + 1, 0, none⟩ (by first | omega | (simp; done) | (simp; omega))).trans cB_2_0))
    have cB_3_1 : w3.cell? ⟨w1.heap.size + 1, 1, none⟩ = some (Value.bool g) := (hb3.cell (p := ⟨w1.heap.size + 1, 1, none⟩) (by first | omega | (simp; done) | (simp; omega))).trans ((World.cell?_alloc_lt _ _ ⟨w1.heap.size + 1, 1, none⟩ (by first | omega | (simp; done) | (simp; omega))).trans ((World.cell?_alloc_lt _ _ ⟨w1.heap.size + 1, 1, none⟩ (by first | omega | (simp; done) | (simp; omega))).trans cB_2_1))
    have cB_3_2 : w3.cell? ⟨w1.heap.size + 1, 2, none⟩ = some (Value.int IntKind.i64 na) := (hb3.cell (p := ⟨w1.heap.size + 1, 2, none⟩) (by first | omega | (simp; done) | (simp; omega))).trans ((World.cell?_alloc_lt _ _ ⟨w1.heap.size + 1, 2, none⟩ (by first | omega | (simp; done) | (simp; omega))).trans ((World.cell?_alloc_lt _ _ ⟨w1.heap.size + 1, 2, none⟩ (by first | omega | (simp; done) | (simp; omega))).trans cB_2_2))
    have cB_3_3 : w3.cell? ⟨w1.heap.size + 1, 3, none⟩ = some (Value.int IntKind.i64 nb) := (hb3.cell (p := ⟨w1.heap.size + 1, 3, none⟩) (by first | omega | (simp; done) | (simp; omega))).trans ((World.cell?_alloc_lt _ _ ⟨w1.heap.size + 1, 3, none⟩ (by first | omega | (simp; done) | (simp; omega))).trans ((World.cell?_alloc_lt _ _ ⟨w1.heap.size + 1, 3, none⟩ (by first | omega | (simp; done) | (simp; omega))).trans cB_2_3))
    have cB_3_4 : w3.cell? ⟨w1.heap.size + 1, 4, none⟩ = some (Value.int IntKind.i64 nk) := (hb3.cell (p := ⟨w1.heap.size + 1, 4, none⟩) (by first | omega | (simp; done) | (simp; omega))).trans ((World.cell?_alloc_lt _ _ ⟨w1.heap.size + 1, 4, none⟩ (by first | omega | (simp; done) | (simp; omega))).trans ((World.cell?_alloc_lt _ _ ⟨w1.heap.size + 1, 4, none⟩ (by first | omega | (simp; done) | (simp; omega))).trans cB_2_4))
    have cB_3_5 : w3.cell? ⟨w1.heap.size + 1, 5, none⟩ = some (Value.int IntKind.i64 nc) := (hb3.cell (p := ⟨w1.heap.size + 1, 5, none⟩) (by first | omega | (simp; done) | (simp; omega))).trans ((World.cell?_alloc_lt _ _ ⟨w1.heap.size + 1, 5, none⟩ (by first | omega | (simp; done) | (simp; omega))).trans ((World.cell?_alloc_lt _ _ ⟨w1.heap.size + 1, 5, none⟩ (by first | omega | (simp; done) | (simp; omega))).trans cB_2_5))
    have cB_3_6 : w3.cell? ⟨w1.heap.size + 1, 6, none⟩ = some (Value.int IntKind.i64 nd) := (hb3.cell (p := ⟨w1.heap.size + 1, 6, none⟩) (by first | omega | (simp; done) | (simp; omega))).trans ((World.cell?_alloc_lt _ _ ⟨w1.heap.size + 1, 6, none⟩ (by first | omega | (simp; done) | (simp; omega))).trans ((World.cell?_alloc_lt _ _ ⟨w1.heap.size + 1, 6, none⟩ (by first | omega | (simp; done) | (simp; omega))).trans cB_2_6))
    have cB_3_7 : w3.cell? ⟨w1.heap.size + 1, 7, none⟩ = some (Value.int IntKind.i64 nl) := (hb3.cell (p := ⟨w1.heap.size + 1, 7, none⟩) (by first | omega | (simp; done) | (simp; omega))).trans ((World.cell?_alloc_lt _ _ ⟨w1.heap.size + 1, 7, none⟩ (by first | omega | (simp; done) | (simp; omega))).trans ((World.cell?_alloc_lt _ _ ⟨w1.heap.size + 1, 7, none⟩ (by first | omega | (simp; done) | (simp; omega))).trans cB_2_7))
    have lB_3 : w1.heap.size + 1 < w3.heap.size := (by first | omega | (simp; done) | (simp; omega))
    have neB_3 : w1.heap.size + 1 ≠ w3.heap.size := by omega
    have neB_3b : w1.heap.size + 1 ≠ w3.heap.size + 1 := by omega
    have neB_3c : w3.heap.size ≠ w1.heap.size + 1 := by omega
    have neB_3d : w3.heap.size + 1 ≠ w1.heap.size + 1 := by omega
    have cP_3_0 : w3.cell? ⟨w2.heap.size + 1, 0, none⟩ = some (Value.int IntKind.i64 a) := (hb3.cell (p := ⟨w2.heap.size + 1, 0, none⟩) (by first | omega | (simp; done) | (simp; omega))).trans (by simp [go_sem])
    have cP_3_1 : w3.cell? ⟨w2.heap.size + 1, 1, none⟩ = some (Value.int IntKind.i64 b) := (hb3.cell (p := ⟨w2.heap.size + 1, 1, none⟩) (by first | omega | (simp; done) | (simp; omega))).trans (by simp [go_sem])
    have cP_3_2 : w3.cell? ⟨w2.heap.size + 1, 2, none⟩ = some (Value.int IntKind.i64 k) := (hb3.cell (p := ⟨w2.heap.size + 1, 2, none⟩) (by first | omega | (simp; done) | (simp; omega))).trans (by simp [go_sem])
    have cP_3_3 : w3.cell? ⟨w2.heap.size + 1, 3, none⟩ = some (Value.int IntKind.i64 c) := (hb3.cell (p := ⟨w2.heap.size + 1, 3, none⟩) (by first | omega | (simp; done) | (simp; omega))).trans (by simp [go_sem])
    have cP_3_4 : w3.cell? ⟨w2.heap.size + 1, 4, none⟩ = some (Value.int IntKind.i64 d) := (hb3.cell (p := ⟨w2.heap.size + 1, 4, none⟩) (by first | omega | (simp; done) | (simp; omega))).trans (by simp [go_sem])
    have cP_3_5 : w3.cell? ⟨w2.heap.size + 1, 5, none⟩ = some (Value.int IntKind.i64 l) := (hb3.cell (p := ⟨w2.heap.size + 1, 5, none⟩) (by first | omega | (simp; done) | (simp; omega))).trans (by simp [go_sem])
    have lP_3 : w2.heap.size + 1 < w3.heap.size := (by first | omega | (simp; done) | (simp; omega))
    have neP_3 : w2.heap.size + 1 ≠ w3.heap.size := by omega
    have neP_3b : w2.heap.size + 1 ≠ w3.heap.size + 1 := by omega
    have neP_3c : w3.heap.size ≠ w2.heap.size + 1 := by omega
    have neP_3d : w3.heap.size + 1 ≠ w2.heap.size + 1 := by omega
    clear cA_2_0 cA_2_1 cA_2_2 cA_2_3 cA_2_4 cA_2_5 cA_2_6 cA_2_7 cB_2_0 cB_2_1 cB_2_2 cB_2_3 cB_2_4 cB_2_5 cB_2_6 cB_2_7
    go_wp2_with fail
    go_ret
    exact ⟨rfl, by (repeat (first | with_reducible exact Below.refl _ _ | with_reducible assumption | with_reducible refine below_drewN ?_ _ | with_reducible refine Below.drew ?_ | with_reducible refine Below.alloc ?_ (by first | omega | (simp; done) | (simp; omega)) _ | with_reducible refine Below.setCell ?_ (by first | omega | (simp; done) | (simp; omega)) _ | with_reducible refine Below.trans ?_ (Below.mono (by assumption) (by first | omega | (simp; done) | (simp; omega)))))⟩
  have KV3 := Lib.hid fun w (hT : LT true w) => hM ▸ sVM_any (β := true) t f ma mb mk mc md ml w hT
  refine (KV3.out _ ?_).mono ?_
  · exact LT.below (w := w) hT (by (repeat (first | with_reducible exact Below.refl _ _ | with_reducible assumption | with_reducible refine below_drewN ?_ _ | with_reducible refine Below.drew ?_ | with_reducible refine Below.alloc ?_ (by first | omega | (simp; done) | (simp; omega)) _ | with_reducible refine Below.setCell ?_ (by first | omega | (simp; done) | (simp; omega)) _ | with_reducible refine Below.trans ?_ (Below.mono (by assumption) (by first | omega | (simp; done) | (simp; omega)))))) (Nat.le_refl _)
  rintro e w3 ⟨rfl, hb3⟩
  have z3 := hb3.size
  (try simp only [World.size_alloc] at z3)
  have cA_3_0 : w3.cell? ⟨w1.heap.size, 0, none⟩ = some (Value.int IntKind.i64 t) := (hb3.cell (p := ⟨w1.heap.size, 0, none⟩) (by first | omega | (simp; done) | (simp; omega))).trans ((World.cell?_alloc_lt _ _ ⟨w1.heap.size, 0, none⟩ (by first | omega | (simp; done) | (simp; omega))).trans ((World.cell?_alloc_lt _ _ ⟨w1.heap.size, 0, none⟩ (by first | omega | (simp; done) | (simp; omega))).trans cA_2_0))
  have cA_3_1 : w3.cell? ⟨w1.heap.size, 1, none⟩ = some (Value.bool f) := (hb3.cell (p := ⟨w1.heap.size, 1, none⟩) (by first | omega | (simp; done) | (simp; omega))).trans ((World.cell?_alloc_lt _ _ ⟨w1.heap.size, 1, none⟩ (by first | omega | (simp; done) | (simp; omega))).trans ((World.cell?_alloc_lt _ _ ⟨w1.heap.size, 1, none⟩ (by first | omega | (simp; done) | (simp; omega))).trans cA_2_1))
  have cA_3_2 : w3.cell? ⟨w1.heap.size, 2, none⟩ = some (Value.int IntKind.i64 ma) := (hb3.cell (p := ⟨w1.heap.size, 2, none⟩) (by first | omega | (simp; done) | (simp; omega))).trans ((World.cell?_alloc_lt _ _ ⟨w1.heap.size, 2, none⟩ (by first | omega | (simp; done) | (simp; omega))).trans ((World.cell?_alloc_lt _ _ ⟨w1.heap.size, 2, none⟩ (by first | omega | (simp; done) | (simp; omega))).trans cA_2_2))
  have cA_3_3 : w3.cell? ⟨w1.heap.size, 3, none⟩ = some (Value.int IntKind.i64 mb) := (hb3.cell (p := ⟨w1.heap.size, 3, none⟩) (by first | omega | (simp; done) | (simp; omega))).trans ((World.cell?_alloc_lt _ _ ⟨w1.heap.size, 3, none⟩ (by first | omega | (simp; done) | (simp; omega))).trans ((World.cell?_alloc_lt _ _ ⟨w1.heap.size, 3, none⟩ (by first | omega | (simp; done) | (simp; omega))).trans cA_2_3))
  have cA_3_4 : w3.cell? ⟨w1.heap.size, 4, none⟩ = some (Value.int IntKind.i64 mk) := (hb3.cell (p := ⟨w1.heap.size, 4, none⟩) (by first | omega | (simp; done) | (simp; omega))).trans ((World.cell?_alloc_lt _ _ ⟨w1.heap.size, 4, none⟩ (by first | omega | (simp; done) | (simp; omega))).trans ((World.cell?_alloc_lt _ _ ⟨w1.heap.size, 4, none⟩ (by first | omega | (simp; done) | (simp; omega))).trans cA_2_4))
  have cA_3_5 : w3.cell? ⟨w1.heap.size, 5, none⟩ = some (Value.int IntKind.i64 mc) := (hb3.cell (p := ⟨w1.heap.size, 5, none⟩) (by first | omega | (simp; done) | (simp; omega))).trans ((World.cell?_alloc_lt _ _ ⟨w1.heap.size, 5, none⟩ (by first | omega | (simp; done) | (simp; omega))).trans ((World.cell?_alloc_lt _ _ ⟨w1.heap.size, 5, none⟩ (by first | omega | (simp; done) | (simp; omega))).trans cA_2_5))
  have cA_3_6 : w3.cell? ⟨w1.heap.size, 6, none⟩ = some (Value.int IntKind.i64 md) := (hb3.cell (p := ⟨w1.heap.size, 6, none⟩) (by first | omega | (simp; done) | (simp; omega))).trans ((World.cell?_alloc_lt _ _ ⟨w1.heap.size, 6, none⟩ (by first | omega | (simp; done) | (simp; omega))).trans ((World.cell?_alloc_lt _ _ ⟨w1.heap.size, 6, none⟩ (by first | omega | (simp; done) | (simp; omega))).trans cA_2_6))
  have cA_3_7 : w3.cell? ⟨w1.heap.size, 7, none⟩ = some (Value.int IntKind.i64 ml) := (hb3.cell (p := ⟨w1.heap.size, 7, none⟩) (by first | omega | (simp; done) | (simp; omega))).trans ((World.cell?_alloc_lt _ _ ⟨w1.heap.size, 7, none⟩ (by first | omega | (simp; done) | (simp; omega))).trans ((World.cell?_alloc_lt _ _ ⟨w1.heap.size, 7, none⟩ (by first | omega | (simp; done) | (simp; omega))).trans cA_2_7))
  have lA_3 : w1.heap.size < w3.heap.size := (by first | omega | (simp; done) | (simp; omega))
  have neA_3 : w1.heap.size ≠ w3.heap.size := by omega
  have neA_3b : w1.heap.size ≠ w3.heap.size + 1 := by omega
  have neA_3c : w3.heap.size ≠ w1.heap.size := by omega
  have neA_3d : w3.heap.size + 1 ≠ w1.heap.size := by omega
  have cB_3_0 : w3.cell? ⟨w1.heap.size + 1, 0, none⟩ = some (Value.int IntKind.i64 e') := (hb3.cell (p := ⟨w1.heap.size + 1, 0, none⟩) (by first | omega | (simp; done) | (simp; omega))).trans ((World.cell?_alloc_lt _ _ ⟨w1.heap.size + 1, 0, none⟩ (by first | omega | (simp; done) | (simp; omega))).trans ((World.cell?_alloc_lt _ _ ⟨w1.heap.size + 1, 0, none⟩ (by first | omega | (simp; done) | (simp; omega))).trans cB_2_0))
  have cB_3_1 : w3.cell? ⟨w1.heap.size + 1, 1, none⟩ = some (Value.bool g) := (hb3.cell (p := ⟨w1.heap.size + 1, 1, none⟩) (by first | omega | (simp; done) | (simp; omega))).trans ((World.cell?_alloc_lt _ _ ⟨w1.heap.size + 1, 1, none⟩ (by first | omega | (simp; done) | (simp; omega))).trans ((World.cell?_alloc_lt _ _ ⟨w1.heap.size + 1, 1, none⟩ (by first | omega | (simp; done) | (simp; omega))).trans cB_2_1))
  have cB_3_2 : w3.cell? ⟨w1.heap.size + 1, 2, none⟩ = some (Value.int IntKind.i64 na) := (hb3.cell (p := ⟨w1.heap.size + 1, 2, none⟩) (by first | omega | (simp; done) | (simp; omega))).trans ((World.cell?_alloc_lt _ _ ⟨w1.heap.size + 1, 2, none⟩ (by first | omega | (simp; done) | (simp; omega))).trans ((World.cell?_alloc_lt _ _ ⟨w1.heap.size + 1, 2, none⟩ (by first | omega | (simp; done) | (simp; omega))).trans cB_2_2))
  have cB_3_3 : w3.cell? ⟨w1.heap.size + 1, 3, none⟩ = some (Value.int IntKind.i64 nb) := (hb3.cell (p := ⟨w1.heap.size + 1, 3, none⟩) (by first | omega | (simp; done) | (simp; omega))).trans ((World.cell?_alloc_lt _ _ ⟨w1.heap.size + 1, 3, none⟩ (by first | omega | (simp; done) | (simp; omega))).trans ((World.cell?_alloc_lt _ _ ⟨w1.heap.size + 1, 3, none⟩ (by first | omega | (simp; done) | (simp; omega))).trans cB_2_3))
  have cB_3_4 : w3.cell? ⟨w1.heap.size + 1, 4, none⟩ = some (Value.int IntKind.i64 nk) := (hb3.cell (p := ⟨w1.heap.size + 1, 4, none⟩) (by first | omega | (simp; done) | (simp; omega))).trans ((World.cell?_alloc_lt _ _ ⟨w1.heap.size + 1, 4, none⟩ (by first | omega | (simp; done) | (simp; omega))).trans ((World.cell?_alloc_lt _ _ ⟨w1.heap.size + 1, 4, none⟩ (by first | omega | (simp; done) | (simp; omega))).trans cB_2_4))
  have cB_3_5 : w3.cell? ⟨w1.heap.size + 1, 5, none⟩ = some (Value.int IntKind.i64 nc) := (hb3.cell (p := ⟨w1.heap.size + 1, 5, none⟩) (by first | omega | (simp; done) | (simp; omega))).trans ((World.cell?_alloc_lt _ _ ⟨w1.heap.size + 1, 5, none⟩ (by first | omega | (simp; done) | (simp; omega))).trans ((World.cell?_alloc_lt _ _ ⟨w1.heap.size + 1, 5, none⟩ (by first | omega | (simp; done) | (simp; omega))).trans cB_2_5))
  have cB_3_6 : w3.cell? ⟨w1.heap.size + 1, 6, none⟩ = some (Value.int IntKind.i64 nd) := (hb3.cell (p := ⟨w1.heap.size + 1, 6, none⟩) (by first | omega | (simp; done) | (simp; omega))).trans ((World.cell?_alloc_lt _ _ ⟨w1.heap.size + 1, 6, none⟩ (by first | omega | (simp; done) | (simp; omega))).trans ((World.cell?_alloc_lt _ _ ⟨w1.heap.size + 1, 6, none⟩ (by first | omega | (simp; done) | (simp; omega))).trans cB_2_6))
  have cB_3_7 : w3.cell? ⟨w1.heap.size + 1, 7, none⟩ = some (Value.int IntKind.i64 nl) := (hb3.cell (p := ⟨w1.heap.size + 1, 7, none⟩) (by first | omega | (simp; done) | (simp; omega))).trans ((World.cell?_alloc_lt _ _ ⟨w1.heap.size + 1, 7, none⟩ (by first | omega | (simp; done) | (simp; omega))).trans ((World.cell?_alloc_lt _ _ ⟨w1.heap.size + 1, 7, none⟩ (by first | omega | (simp; done) | (simp; omega))).trans cB_2_7))
  have lB_3 : w1.heap.size + 1 < w3.heap.size := (by first | omega | (simp; done) | (simp; omega))
  have neB_3 : w1.heap.size + 1 ≠ w3.heap.size := by omega
  have neB_3b : w1.heap.size + 1 ≠ w3.heap.size + 1 := by omega
  have neB_3c : w3.heap.size ≠ w1.heap.size + 1 := by omega
  have neB_3d : w3.heap.size + 1 ≠ w1.heap.size + 1 := by omega
  have cP_3_0 : w3.cell? ⟨w2.heap.size + 1, 0, none⟩ = some (Value.int IntKind.i64 a) := (hb3.cell (p := ⟨w2.heap.size + 1, 0, none⟩) (by first | omega | (simp; done) | (simp; omega))).trans (by simp [go_sem])
  have cP_3_1 : w3.cell? ⟨w2.heap.size + 1, 1, none⟩ = some (Value.int IntKind.i64 b) := (hb3.cell (p := ⟨w2.heap.size + 1, 1, none⟩) (by first | omega | (simp; done) | (simp; omega))).trans (by simp [go_sem])
  have cP_3_2 : w3.cell? ⟨w2.heap.size + 1, 2, none⟩ = some (Value.int IntKind.i64 k) := (hb3.cell (p := ⟨w2.heap.size + 1, 2, none⟩) (by first | omega | (simp; done) | (simp; omega))).trans (by simp [go_sem])
  have cP_3_3 : w3.cell? ⟨w2.heap.size + 1, 3, none⟩ = some (Value.int IntKind.i64 c) := (hb3.cell (p := ⟨w2.heap.size + 1, 3, none⟩) (by first | omega | (simp; done) | (simp; omega))).trans (by simp [go_sem])
  have cP_3_4 : w3.cell? ⟨w2.heap.size + 1, 4, none⟩ = some (Value.int IntKind.i64 d) := (hb3.cell (p := ⟨w2.heap.size + 1, 4, none⟩) (by first | omega | (simp; done) | (simp; omega))).trans (by simp [go_sem])
  have cP_3_5 : w3.cell? ⟨w2.heap.size + 1, 5, none⟩ = some (Value.int IntKind.i64 l) := (hb3.cell (p := ⟨w2.heap.size + 1, 5, none⟩) (by first | omega | (simp; done) | (simp; omega))).trans (by simp [go_sem])
  have lP_3 : w2.heap.size + 1 < w3.heap.size := (by first | omega | (simp; done) | (simp; omega))
  have neP_3 : w2.heap.size + 1 ≠ w3.heap.size := by omega
  have neP_3b : w2.heap.size + 1 ≠ w3.heap.size + 1 := by omega
  have neP_3c : w3.heap.size ≠ w2.heap.size + 1 := by omega
  have neP_3d : w3.heap.size + 1 ≠ w2.heap.size + 1 := by omega
  clear cA_2_0 cA_2_1 cA_2_2 cA_2_3 cA_2_4 cA_2_5 cA_2_6 cA_2_7 cB_2_0 cB_2_1 cB_2_2 cB_2_3 cB_2_4 cB_2_5 cB_2_6 cB_2_7
  go_wp2_with fail
  cases hN : vM e' na nb nk nc nd nl
  case false =>
    have KV4 := Lib.hid fun w (hT : LT true w) => hN ▸ sVM_any (β := true) e' g na nb nk nc nd nl w hT
    refine (KV4.out _ ?_).mono ?_
    · exact LT.below (w := w) hT (by (repeat (first | with_reducible exact Below.refl _ _ | with_reducible assumption | with_reducible refine below_drewN ?_ _ | with_reducible refine Below.drew ?_ | with_reducible refine Below.alloc ?_ (by first | omega | (simp; done) | (simp; omega)) _ | with_reducible refine Below.setCell ?_ (by first | omega | (simp; done) | (simp; omega)) _ | with_reducible refine Below.trans ?_ (Below.mono (by assumption) (by first | omega | (simp; done) | (simp; omega)))))) (Nat.le_refl _)
    rintro e w4 ⟨rfl, hb4⟩
    have z4 := hb4.size
    (try simp only [World.size_alloc] at z4)
    have cA_4_0 : w4.cell? ⟨w1.heap.size, 0, none⟩ = some (Value.int IntKind.i64 t) := (hb4.cell (p := ⟨w1.heap.size, 0, none⟩) (by first | omega | (simp; done) | (simp; omega))).trans cA_3_0
    have cA_4_1 : w4.cell? ⟨w1.heap.size, 1, none⟩ = some (Value.bool f) := (hb4.cell (p := ⟨w1.heap.size, 1, none⟩) (by first | omega | (simp; done) | (simp; omega))).trans cA_3_1
    have cA_4_2 : w4.cell? ⟨w1.heap.size, 2, none⟩ = some (Value.int IntKind.i64 ma) := (hb4.cell (p := ⟨w1.heap.size, 2, none⟩) (by first | omega | (simp; done) | (simp; omega))).trans cA_3_2
    have cA_4_3 : w4.cell? ⟨w1.heap.size, 3, none⟩ = some (Value.int IntKind.i64 mb) := (hb4.cell (p := ⟨w1.heap.size, 3, none⟩) (by first | omega | (simp; done) | (simp; omega))).trans cA_3_3
    have cA_4_4 : w4.cell? ⟨w1.heap.size, 4, none⟩ = some (Value.int IntKind.i64 mk) := (hb4.cell (p := ⟨w1.heap.size, 4, none⟩) (by first | omega | (simp; done) | (simp; omega))).trans cA_3_4
    have cA_4_5 : w4.cell? ⟨w1.heap.size, 5, none⟩ = some (Value.int IntKind.i64 mc) := (hb4.cell (p := ⟨w1.heap.size, 5, none⟩) (by first | omega | (simp; done) | (simp; omega))).trans cA_3_5
    have cA_4_6 : w4.cell? ⟨w1.heap.size, 6, none⟩ = some (Value.int IntKind.i64 md) := (hb4.cell (p := ⟨w1.heap.size, 6, none⟩) (by first | omega | (simp; done) | (simp; omega))).trans cA_3_6
    have cA_4_7 : w4.cell? ⟨w1.heap.size, 7, none⟩ = some (Value.int IntKind.i64 ml) := (hb4.cell (p := ⟨w1.heap.size, 7, none⟩) (by first | omega | (simp; done) | (simp; omega))).trans cA_3_7
    have lA_4 : w1.heap.size < w4.heap.size := (by first | omega | (simp; done) | (simp; omega))
    have neA_4 : w1.heap.size ≠ w4.heap.size := by omega
    have neA_4b : w1.heap.size ≠ w4.heap.size + 1 := by omega
    have neA_4c : w4.heap.size ≠ w1.heap.size := by omega
    have neA_4d : w4.heap.size + 1 ≠ w1.heap.size := by omega
    have cB_4_0 : w4.cell? ⟨w1.heap.size + 1, 0, none⟩ = some (Value.int IntKind.i64 e') := (hb4.cell (p := ⟨w1.heap.size + 1, 0, none⟩) (by first | omega | (simp; done) | (simp; omega))).trans cB_3_0
    have cB_4_1 : w4.cell? ⟨w1.heap.size + 1, 1, none⟩ = some (Value.bool g) := (hb4.cell (p := ⟨w1.heap.size + 1, 1, none⟩) (by first | omega | (simp; done) | (simp; omega))).trans cB_3_1
    have cB_4_2 : w4.cell? ⟨w1.heap.size + 1, 2, none⟩ = some (Value.int IntKind.i64 na) := (hb4.cell (p := ⟨w1.heap.size + 1, 2, none⟩) (by first | omega | (simp; done) | (simp; omega))).trans cB_3_2
    have cB_4_3 : w4.cell? ⟨w1.heap.size + 1, 3, none⟩ = some (Value.int IntKind.i64 nb) := (hb4.cell (p := ⟨w1.heap.size + 1, 3, none⟩) (by first | omega | (simp; done) | (simp; omega))).trans cB_3_3
    have cB_4_4 : w4.cell? ⟨w1.heap.size + 1, 4, none⟩ = some (Value.int IntKind.i64 nk) := (hb4.cell (p := ⟨w1.heap.size + 1, 4, none⟩) (by first | omega | (simp; done) | (simp; omega))).trans cB_3_4
    have cB_4_5 : w4.cell? ⟨w1.heap.size + 1, 5, none⟩ = some (Value.int IntKind.i64 nc) := (hb4.cell (p := ⟨w1.heap.size + 1, 5, none⟩) (by first | omega | (simp; done) | (simp; omega))).trans cB_3_5
    have cB_4_6 : w4.cell? ⟨w1.heap.size + 1, 6, none⟩ = some (Value.int IntKind.i64 nd) := (hb4.cell (p := ⟨w1.heap.size + 1, 6, none⟩) (by first | omega | (simp; done) | (simp; omega))).trans cB_3_6
    have cB_4_7 : w4.cell? ⟨w1.heap.size + 1, 7, none⟩ = some (Value.int IntKind.i64 nl) := (hb4.cell (p := ⟨w1.heap.size + 1, 7, none⟩) (by first | omega | (simp; done) | (simp; omega))).trans cB_3_7
    have lB_4 : w1.heap.size + 1 < w4.heap.size := (by first | omega | (simp; done) | (simp; omega))
    have neB_4 : w1.heap.size + 1 ≠ w4.heap.size := by omega
    have neB_4b : w1.heap.size + 1 ≠ w4.heap.size + 1 := by omega
    have neB_4c : w4.heap.size ≠ w1.heap.size + 1 := by omega
    have neB_4d : w4.heap.size + 1 ≠ w1.heap.size + 1 := by omega
    have cP_4_0 : w4.cell? ⟨w2.heap.size + 1, 0, none⟩ = some (Value.int IntKind.i64 a) := (hb4.cell (p := ⟨w2.heap.size + 1, 0, none⟩) (by first | omega | (simp; done) | (simp; omega))).trans cP_3_0
    have cP_4_1 : w4.cell? ⟨w2.heap.size + 1, 1, none⟩ = some (Value.int IntKind.i64 b) := (hb4.cell (p := ⟨w2.heap.size + 1, 1, none⟩) (by first | omega | (simp; done) | (simp; omega))).trans cP_3_1
    have cP_4_2 : w4.cell? ⟨w2.heap.size + 1, 2, none⟩ = some (Value.int IntKind.i64 k) := (hb4.cell (p := ⟨w2.heap.size + 1, 2, none⟩) (by first | omega | (simp; done) | (simp; omega))).trans cP_3_2
    have cP_4_3 : w4.cell? ⟨w2.heap.size + 1, 3, none⟩ = some (Value.int IntKind.i64 c) := (hb4.cell (p := ⟨w2.heap.size + 1, 3, none⟩) (by first | omega | (simp; done) | (simp; omega))).trans cP_3_3
    have cP_4_4 : w4.cell? ⟨w2.heap.size + 1, 4, none⟩ = some (Value.int IntKind.i64 d) := (hb4.cell (p := ⟨w2.heap.size + 1, 4, none⟩) (by first | omega | (simp; done) | (simp; omega))).trans cP_3_4
    have cP_4_5 : w4.cell? ⟨w2.heap.size + 1, 5, none⟩ = some (Value.int IntKind.i64 l) := (hb4.cell (p := ⟨w2.heap.size + 1, 5, none⟩) (by first | omega | (simp; done) | (simp; omega))).trans cP_3_5
    have lP_4 : w2.heap.size + 1 < w4.heap.size := (by first | omega | (simp; done) | (simp; omega))
    have neP_4 : w2.heap.size + 1 ≠ w4.heap.size := by omega
    have neP_4b : w2.heap.size + 1 ≠ w4.heap.size + 1 := by omega
    have neP_4c : w4.heap.size ≠ w2.heap.size + 1 := by omega
    have neP_4d : w4.heap.size + 1 ≠ w2.heap.size + 1 := by omega
    clear cA_3_0 cA_3_1 cA_3_2 cA_3_3 cA_3_4 cA_3_5 cA_3_6 cA_3_7 cB_3_0 cB_3_1 cB_3_2 cB_3_3 cB_3_4 cB_3_5 cB_3_6 cB_3_7 cP_3_0 cP_3_1 cP_3_2 cP_3_3 cP_3_4 cP_3_5
    go_wp2_with fail
    go_ret
    exact ⟨rfl, by (repeat (first | with_reducible exact Below.refl _ _ | with_reducible assumption | with_reducible refine below_drewN ?_ _ | with_reducible refine Below.drew ?_ | with_reducible refine Below.alloc ?_ (by first | omega | (simp; done) | (simp; omega)) _ | with_reducible refine Below.setCell ?_ (by first | omega | (simp; done) | (simp; omega)) _ | with_reducible refine Below.trans ?_ (Below.mono (by assumption) (by first | omega | (simp; done) | (simp; omega)))))⟩
  have KV4 := Lib.hid fun w (hT : LT true w) => hN ▸ sVM_any (β := true) e' g na nb nk nc nd nl w hT
  refine (KV4.out _ ?_).mono ?_
  · exact LT.below (w := w) hT (by (repeat (first | with_reducible exact Below.refl _ _ | with_reducible assumption | with_reducible refine below_drewN ?_ _ | with_reducible refine Below.drew ?_ | with_reducible refine Below.alloc ?_ (by first | omega | (simp; done) | (simp; omega)) _ | with_reducible refine Below.setCell ?_ (by first | omega | (simp; done) | (simp; omega)) _ | with_reducible refine Below.trans ?_ (Below.mono (by assumption) (by first | omega | (simp; done) | (simp; omega)))))) (Nat.le_refl _)
  rintro e w4 ⟨rfl, hb4⟩
  have z4 := hb4.size
  (try simp only [World.size_alloc] at z4)
  have cA_4_0 : w4.cell? ⟨w1.heap.size, 0, none⟩ = some (Value.int IntKind.i64 t) := (hb4.cell (p := ⟨w1.heap.size, 0, none⟩) (by first | omega | (simp; done) | (simp; omega))).trans cA_3_0
  have cA_4_1 : w4.cell? ⟨w1.heap.size, 1, none⟩ = some (Value.bool f) := (hb4.cell (p := ⟨w1.heap.size, 1, none⟩) (by first | omega | (simp; done) | (simp; omega))).trans cA_3_1
  have cA_4_2 : w4.cell? ⟨w1.heap.size, 2, none⟩ = some (Value.int IntKind.i64 ma) := (hb4.cell (p := ⟨w1.heap.size, 2, none⟩) (by first | omega | (simp; done) | (simp; omega))).trans cA_3_2
  have cA_4_3 : w4.cell? ⟨w1.heap.size, 3, none⟩ = some (Value.int IntKind.i64 mb) := (hb4.cell (p := ⟨w1.heap.size, 3, none⟩) (by first | omega | (simp; done) | (simp; omega))).trans cA_3_3
  have cA_4_4 : w4.cell? ⟨w1.heap.size, 4, none⟩ = some (Value.int IntKind.i64 mk) := (hb4.cell (p := ⟨w1.heap.size, 4, none⟩) (by first | omega | (simp; done) | (simp; omega))).trans cA_3_4
  have cA_4_5 : w4.cell? ⟨w1.heap.size, 5, none⟩ = some (Value.int IntKind.i64 mc) := (hb4.cell (p := ⟨w1.heap.size, 5, none⟩) (by first | omega | (simp; done) | (simp; omega))).trans cA_3_5
  have cA_4_6 : w4.cell? ⟨w1.heap.size, 6, none⟩ = some (Value.int IntKind.i64 md) := (hb4.cell (p := ⟨w1.heap.size, 6, none⟩) (by first | omega | (simp; done) | (simp; omega))).trans cA_3_6
  have cA_4_7 : w4.cell? ⟨w1.heap.size, 7, none⟩ = some (Value.int IntKind.i64 ml) := (hb4.cell (p := ⟨w1.heap.size, 7, none⟩) (by first | omega | (simp; done) | (simp; omega))).trans cA_3_7
  have lA_4 : w1.heap.size < w4.heap.size := (by first | omega | (simp; done) | (simp; omega))
  have neA_4 : w1.heap.size ≠ w4.heap.size := by omega
  have neA_4b : w1.heap.size ≠ w4.heap.size + 1 := by omega
  have neA_4c : w4.heap.size ≠ w1.heap.size := by omega
  have neA_4d : w4.heap.size + 1 ≠ w1.heap.size := by omega
  have cB_4_0 : w4.cell? ⟨w1.heap.size + 1, 0, none⟩ = some (Value.int IntKind.i64 e') := (hb4.cell (p := ⟨w1.heap.size + 1, 0, none⟩) (by first | omega | (simp; done) | (simp; omega))).trans cB_3_0
  have cB_4_1 : w4.cell? ⟨w1.heap.size + 1, 1, none⟩ = some (Value.bool g) := (hb4.cell (p := ⟨w1.heap.size + 1, 1, none⟩) (by first | omega | (simp; done) | (simp; omega))).trans cB_3_1
  have cB_4_2 : w4.cell? ⟨w1.heap.size + 1, 2, none⟩ = some (Value.int IntKind.i64 na) := (hb4.cell (p := ⟨w1.heap.size + 1, 2, none⟩) (by first | omega | (simp; done) | (simp; omega))).trans cB_3_2
  have cB_4_3 : w4.cell? ⟨w1.heap.size + 1, 3, none⟩ = some (Value.int IntKind.i64 nb) := (hb4.cell (p := ⟨w1.heap.size + 1, 3, none⟩) (by first | omega | (simp; done) | (simp; omega))).trans cB_3_3
  have cB_4_4 : w4.cell? ⟨w1.heap.size + 1, 4, none⟩ = some (Value.int IntKind.i64 nk) := (hb4.cell (p := ⟨w1.heap.size + 1, 4, none⟩) (by first | omega | (simp; done) | (simp; omega))).trans cB_3_4
  have cB_4_5 : w4.cell? ⟨w1.heap.size + 1, 5, none⟩ = some (Value.int IntKind.i64 nc) := (hb4.cell (p := ⟨w1.heap.size + 1, 5, none⟩) (by first | omega | (simp; done) | (simp; omega))).trans cB_3_5
  have cB_4_6 : w4.cell? ⟨w1.heap.size + 1, 6, none⟩ = some (Value.int IntKind.i64 nd) := (hb4.cell (p := ⟨w1.heap.size + 1, 6, none⟩) (by first | omega | (simp; done) | (simp; omega))).trans cB_3_6
  have cB_4_7 : w4.cell? ⟨w1.heap.size + 1, 7, none⟩ = some (Value.int IntKind.i64 nl) := (hb4.cell (p := ⟨w1.heap.size + 1, 7, none⟩) (by first | omega | (simp; done) | (simp; omega))).trans cB_3_7
  have lB_4 : w1.heap.size + 1 < w4.heap.size := (by first | omega | (simp; done) | (simp; omega))
  have neB_4 : w1.heap.size + 1 ≠ w4.heap.size := by omega
  have neB_4b : w1.heap.size + 1 ≠ w4.heap.size + 1 := by omega
  have neB_4c : w4.heap.size ≠ w1.heap.size + 1 := by omega
  have neB_4d : w4.heap.size + 1 ≠ w1.heap.size + 1 := by omega
  have cP_4_0 : w4.cell? ⟨w2.heap.size + 1, 0, none⟩ = some (Value.int IntKind.i64 a) := (hb4.cell (p := ⟨w2.heap.size + 1, 0, none⟩) (by first | omega | (simp; done) | (simp; omega))).trans cP_3_0
  have cP_4_1 : w4.cell? ⟨w2.heap.size + 1, 1, none⟩ = some (Value.int IntKind.i64 b) := (hb4.cell (p := ⟨w2.heap.size + 1, 1, none⟩) (by first | omega | (simp; done) | (simp; omega))).trans cP_3_1
  have cP_4_2 : w4.cell? ⟨w2.heap.size + 1, 2, none⟩ = some (Value.int IntKind.i64 k) := (hb4.cell (p := ⟨w2.heap.size + 1, 2, none⟩) (by first | omega | (simp; done) | (simp; omega))).trans cP_3_2
  have cP_4_3 : w4.cell? ⟨w2.heap.size + 1, 3, none⟩ = some (Value.int IntKind.i64 c) := (hb4.cell (p := ⟨w2.heap.size + 1, 3, none⟩) (by first | omega | (simp; done) | (simp; omega))).trans cP_3_3
  have cP_4_4 : w4.cell? ⟨w2.heap.size + 1, 4, none⟩ = some (Value.int IntKind.i64 d) := (hb4.cell (p := ⟨w2.heap.size + 1, 4, none⟩) (by first | omega | (simp; done) | (simp; omega))).trans cP_3_4
  have cP_4_5 : w4.cell? ⟨w2.heap.size + 1, 5, none⟩ = some (Value.int IntKind.i64 l) := (hb4.cell (p := ⟨w2.heap.size + 1, 5, none⟩) (by first | omega | (simp; done) | (simp; omega))).trans cP_3_5
  have lP_4 : w2.heap.size + 1 < w4.heap.size := (by first | omega | (simp; done) | (simp; omega))
  have neP_4 : w2.heap.size + 1 ≠ w4.heap.size := by omega
  have neP_4b : w2.heap.size + 1 ≠ w4.heap.size + 1 := by omega
  have neP_4c : w4.heap.size ≠ w2.heap.size + 1 := by omega
  have neP_4d : w4.heap.size + 1 ≠ w2.heap.size + 1 := by omega
  clear cA_3_0 cA_3_1 cA_3_2 cA_3_3 cA_3_4 cA_3_5 cA_3_6 cA_3_7 cB_3_0 cB_3_1 cB_3_2 cB_3_3 cB_3_4 cB_3_5 cB_3_6 cB_3_7 cP_3_0 cP_3_1 cP_3_2 cP_3_3 cP_3_4 cP_3_5
  go_wp2_with fail
  cases hP : vP a b k c d l
  case false =>
    have KV5 := Lib.hid fun w (hT : LT true w) => hP ▸ sVP_any (β := true) a b k c d l w hT
    refine (KV5.out _ ?_).mono ?_
    · exact LT.below (w := w) hT (by (repeat (first | with_reducible exact Below.refl _ _ | with_reducible assumption | with_reducible refine below_drewN ?_ _ | with_reducible refine Below.drew ?_ | with_reducible refine Below.alloc ?_ (by first | omega | (simp; done) | (simp; omega)) _ | with_reducible refine Below.setCell ?_ (by first | omega | (simp; done) | (simp; omega)) _ | with_reducible refine Below.trans ?_ (Below.mono (by assumption) (by first | omega | (simp; done) | (simp; omega)))))) (Nat.le_refl _)
    rintro e w5 ⟨rfl, hb5⟩
    have z5 := hb5.size
    (try simp only [World.size_alloc] at z5)
    have cA_5_0 : w5.cell? ⟨w1.heap.size, 0, none⟩ = some (Value.int IntKind.i64 t) := (hb5.cell (p := ⟨w1.heap.size, 0, none⟩) (by first | omega | (simp; done) | (simp; omega))).trans cA_4_0
    have cA_5_1 : w5.cell? ⟨w1.heap.size, 1, none⟩ = some (Value.bool f) := (hb5.cell (p := ⟨w1.heap.size, 1, none⟩) (by first | omega | (simp; done) | (simp; omega))).trans cA_4_1
    have cA_5_2 : w5.cell? ⟨w1.heap.size, 2, none⟩ = some (Value.int IntKind.i64 ma) := (hb5.cell (p := ⟨w1.heap.size, 2, none⟩) (by first | omega | (simp; done) | (simp; omega))).trans cA_4_2
    have cA_5_3 : w5.cell? ⟨w1.heap.size, 3, none⟩ = some (Value.int IntKind.i64 mb) := (hb5.cell (p := ⟨w1.heap.size, 3, none⟩) (by first | omega | (simp; done) | (simp; omega))).trans cA_4_3
    have cA_5_4 : w5.cell? ⟨w1.heap.size, 4, none⟩ = some (Value.int IntKind.i64 mk) := (hb5.cell (p := ⟨w1.heap.size, 4, none⟩) (by first | omega | (simp; done) | (simp; omega))).trans cA_4_4
    have cA_5_5 : w5.cell? ⟨w1.heap.size, 5, none⟩ = some (Value.int IntKind.i64 mc) := (hb5.cell (p := ⟨w1.heap.size, 5, none⟩) (by first | omega | (simp; done) | (simp; omega))).trans cA_4_5
    have cA_5_6 : w5.cell? ⟨w1.heap.size, 6, none⟩ = some (Value.int IntKind.i64 md) := (hb5.cell (p := ⟨w1.heap.size, 6, none⟩) (by first | omega | (simp; done) | (simp; omega))).trans cA_4_6
    have cA_5_7 : w5.cell? ⟨w1.heap.size, 7, none⟩ = some (Value.int IntKind.i64 ml) := (hb5.cell (p := ⟨w1.heap.size, 7, none⟩) (by first | omega | (simp; done) | (simp; omega))).trans cA_4_7
    have lA_5 : w1.heap.size < w5.heap.size := (by first | omega | (simp; done) | (simp; omega))
    have neA_5 : w1.heap.size ≠ w5.heap.size := by omega
    have neA_5b : w1.heap.size ≠ w5.heap.size + 1 := by omega
    have neA_5c : w5.heap.size ≠ w1.heap.size := by omega
    have neA_5d : w5.heap.size + 1 ≠ w1.heap.size := by omega
    have cB_5_0 : w5.cell? ⟨w1.heap.size + 1, 0, none⟩ = some (Value.int IntKind.i64 e') := (hb5.cell (p := ⟨w1.heap.size + 1, 0, none⟩) (by first | omega | (simp; done) | (simp; omega))).trans cB_4_0
    have cB_5_1 : w5.cell? ⟨w1.heap.size + 1, 1, none⟩ = some (Value.bool g) := (hb5.cell (p := ⟨w1.heap.size + 1, 1, none⟩) (by first | omega | (simp; done) | (simp; omega))).trans cB_4_1
    have cB_5_2 : w5.cell? ⟨w1.heap.size + 1, 2, none⟩ = some (Value.int IntKind.i64 na) := (hb5.cell (p := ⟨w1.heap.size + 1, 2, none⟩) (by first | omega | (simp; done) | (simp; omega))).trans cB_4_2
    have cB_5_3 : w5.cell? ⟨w1.heap.size + 1, 3, none⟩ = some (Value.int IntKind.i64 nb) := (hb5.cell (p := ⟨w1.heap.size + 1, 3, none⟩) (by first | omega | (simp; done) | (simp; omega))).trans cB_4_3
    have cB_5_4 : w5.cell? ⟨w1.heap.size + 1, 4, none⟩ = some (Value.int IntKind.i64 nk) := (hb5.cell (p := ⟨w1.heap.size + 1, 4, none⟩) (by first | omega | (simp; done) | (simp; omega))).trans cB_4_4
    have cB_5_5 : w5.cell? ⟨w1.heap.size + 1, 5, none⟩ = some (Value.int IntKind.i64 nc) := (hb5.cell (p := ⟨w1.heap.size + 1, 5, none⟩) (by first | omega | (simp; done) | (simp; omega))).trans cB_4_5
    have cB_5_6 : w5.cell? ⟨w1.heap.size + 1, 6, none⟩ = some (Value.int IntKind.i64 nd) := (hb5.cell (p := ⟨w1.heap.size + 1, 6, none⟩) (by first | omega | (simp; done) | (simp; omega))).trans cB_4_6
    have cB_5_7 : w5.cell? ⟨w1.heap.size + 1, 7, none⟩ = some (Value.int IntKind.i64 nl) := (hb5.cell (p := ⟨w1.heap.size + 1, 7, none⟩) (by first | omega | (simp; done) | (simp; omega))).trans cB_4_7
    have lB_5 : w1.heap.size + 1 < w5.heap.size := (by first | omega | (simp; done) | (simp; omega))
    have neB_5 : w1.heap.size + 1 ≠ w5.heap.size := by omega
    have neB_5b : w1.heap.size + 1 ≠ w5.heap.size + 1 := by omega
    have neB_5c : w5.heap.size ≠ w1.heap.size + 1 := by omega
    have neB_5d : w5.heap.size + 1 ≠ w1.heap.size + 1 := by omega
    have cP_5_0 : w5.cell? ⟨w2.heap.size + 1, 0, none⟩ = some (Value.int IntKind.i64 a) := (hb5.cell (p := ⟨w2.heap.size + 1, 0, none⟩) (by first | omega | (simp; done) | (simp; omega))).trans cP_4_0
    have cP_5_1 : w5.cell? ⟨w2.heap.size + 1, 1, none⟩ = some (Value.int IntKind.i64 b) := (hb5.cell (p := ⟨w2.heap.size + 1, 1, none⟩) (by first | omega | (simp; done) | (simp; omega))).trans cP_4_1
    have cP_5_2 : w5.cell? ⟨w2.heap.size + 1, 2, none⟩ = some (Value.int IntKind.i64 k) := (hb5.cell (p := ⟨w2.heap.size + 1, 2, none⟩) (by first | omega | (simp; done) | (simp; omega))).trans cP_4_2
    have cP_5_3 : w5.cell? ⟨w2.heap.size + 1, 3, none⟩ = some (Value.int IntKind.i64 c) := (hb5.cell (p := ⟨w2.heap.size + 1, 3, none⟩) (by first | omega | (simp; done) | (simp; omega))).trans cP_4_3
    have cP_5_4 : w5.cell? ⟨w2.heap.size + 1, 4, none⟩ = some (Value.int IntKind.i64 d) := (hb5.cell (p := ⟨w2.heap.size + 1, 4, none⟩) (by first | omega | (simp; done) | (simp; omega))).trans cP_4_4
    have cP_5_5 : w5.cell? ⟨w2.heap.size + 1, 5, none⟩ = some (Value.int IntKind.i64 l) := (hb5.cell (p := ⟨w2.heap.size + 1, 5, none⟩) (by first | omega | (simp; done) | (simp; omega))).trans cP_4_5
    have lP_5 : w2.heap.size + 1 < w5.heap.size := (by first | omega | (simp; done) | (simp; omega))
    have neP_5 : w2.heap.size + 1 ≠ w5.heap.size := by omega
    have neP_5b : w2.heap.size + 1 ≠ w5.heap.size + 1 := by omega
    have neP_5c : w5.heap.size ≠ w2.heap.size + 1 := by omega
    have neP_5d : w5.heap.size + 1 ≠ w2.heap.size + 1 := by omega
    clear cA_4_0 cA_4_1 cA_4_2 cA_4_3 cA_4_4 cA_4_5 cA_4_6 cA_4_7 cB_4_0 cB_4_1 cB_4_2 cB_4_3 cB_4_4 cB_4_5 cB_4_6 cB_4_7 cP_4_0 cP_4_1 cP_4_2 cP_4_3 cP_4_4 cP_4_5
    go_wp2_with fail
    go_ret
    exact ⟨rfl, by (repeat (first | with_reducible exact Below.refl _ _ | with_reducible assumption | with_reducible refine below_drewN ?_ _ | with_reducible refine Below.drew ?_ | with_reducible refine Below.alloc ?_ (by first | omega | (simp; done) | (simp; omega)) _ | with_reducible refine Below.setCell ?_ (by first | omega | (simp; done) | (simp; omega)) _ | with_reducible refine Below.trans ?_ (Below.mono (by assumption) (by first | omega | (simp; done) | (simp; omega)))))⟩
  have KV5 := Lib.hid fun w (hT : LT true w) => hP ▸ sVP_any (β := true) a b k c d l w hT
  refine (KV5.out _ ?_).mono ?_
  · exact LT.below (w := w) hT (by (repeat (first | with_reducible exact Below.refl _ _ | with_reducible assumption | with_reducible refine below_drewN ?_ _ | with_reducible refine Below.drew ?_ | with_reducible refine Below.alloc ?_ (by first | omega | (simp; done) | (simp; omega)) _ | with_reducible refine Below.setCell ?_ (by first | omega | (simp; done) | (simp; omega)) _ | with_reducible refine Below.trans ?_ (Below.mono (by assumption) (by first | omega | (simp; done) | (simp; omega)))))) (Nat.le_refl _)
  rintro e w5 ⟨rfl, hb5⟩
  have z5 := hb5.size
  (try simp only [World.size_alloc] at z5)
  have cA_5_0 : w5.cell? ⟨w1.heap.size, 0, none⟩ = some (Value.int IntKind.i64 t) := (hb5.cell (p := ⟨w1.heap.size, 0, none⟩) (by first | omega | (simp; done) | (simp; omega))).trans cA_4_0
  have cA_5_1 : w5.cell? ⟨w1.heap.size, 1, none⟩ = some (Value.bool f) := (hb5.cell (p := ⟨w1.heap.size, 1, none⟩) (by first | omega | (simp; done) | (simp; omega))).trans cA_4_1
  have cA_5_2 : w5.cell? ⟨w1.heap.size, 2, none⟩ = some (Value.int IntKind.i64 ma) := (hb5.cell (p := ⟨w1.heap.size, 2, none⟩) (by first | omega | (simp; done) | (simp; omega))).trans cA_4_2
  have cA_5_3 : w5.cell? ⟨w1.heap.size, 3, none⟩ = some (Value.int IntKind.i64 mb) := (hb5.cell (p := ⟨w1.heap.size, 3, none⟩) (by first | omega | (simp; done) | (simp; omega))).trans cA_4_3
  have cA_5_4 : w5.cell? ⟨w1.heap.size, 4, none⟩ = some (Value.int IntKind.i64 mk) := (hb5.cell (p := ⟨w1.heap.size, 4, none⟩) (by first | omega | (simp; done) | (simp; omega))).trans cA_4_4
  have cA_5_5 : w5.cell? ⟨w1.heap.size, 5, none⟩ = some (Value.int IntKind.i64 mc) := (hb5.cell (p := ⟨w1.heap.size, 5, none⟩) (by first | omega | (simp; done) | (simp; omega))).trans cA_4_5
  have cA_5_6 : w5.cell? ⟨w1.heap.size, 6, none⟩ = some (Value.int IntKind.i64 md) := (hb5.cell (p := ⟨w1.heap.size, 6, none⟩) (by first | omega | (simp; done) | (simp; omega))).trans cA_4_6
  have cA_5_7 : w5.cell? ⟨w1.heap.size, 7, none⟩ = some (Value.int IntKind.i64 ml) := (hb5.cell (p := ⟨w1.heap.size, 7, none⟩) (by first | omega | (simp; done) | (simp; omega))).trans cA_4_7
  have lA_5 : w1.heap.size < w5.heap.size := (by first | omega | (simp; done) | (simp; omega))
  have neA_5 : w1.heap.size ≠ w5.heap.size := by omega
  have neA_5b : w1.heap.size ≠ w5.heap.size + 1 := by omega
  have neA_5c : w5.heap.size ≠ w1.heap.size := by omega
  have neA_5d : w5.heap.size + 1 ≠ w1.heap.size := by omega
  have cB_5_0 : w5.cell? ⟨w1.heap.size + 1, 0, none⟩ = some (Value.int IntKind.i64 e') := (hb5.cell (p := ⟨w1.heap.size + 1, 0, none⟩) (by first | omega | (simp; done) | (simp; omega))).trans cB_4_0
  have cB_5_1 : w5.cell? ⟨w1.heap.size + 1, 1, none⟩ = some (Value.bool g) := (hb5.cell (p := ⟨w1.heap.size + 1, 1, none⟩) (by first | omega | (simp; done) | (simp; omega))).trans cB_4_1
  have cB_5_2 : w5.cell? ⟨w1.heap.size + 1, 2, none⟩ = some (Value.int IntKind.i64 na) := (hb5.cell (p := ⟨w1.heap.size + 1, 2, none⟩) (by first | omega | (simp; done) | (simp; omega))).trans cB_4_2
  have cB_5_3 : w5.cell? ⟨w1.heap.size + 1, 3, none⟩ = some (Value.int IntKind.i64 nb) := (hb5.cell (p := ⟨w1.heap.size + 1, 3, none⟩) (by first | omega | (simp; done) | (simp; omega))).trans cB_4_3
  have cB_5_4 : w5.cell? ⟨w1.heap.size + 1, 4, none⟩ = some (Value.int IntKind.i64 nk) := (hb5.cell (p := ⟨w1.heap.size + 1, 4, none⟩) (by first | omega | (simp; done) | (simp; omega))).trans cB_4_4
  have cB_5_5 : w5.cell? ⟨w1.heap.size + 1, 5, none⟩ = some (Value.int IntKind.i64 nc) := (hb5.cell (p := ⟨w1.heap.size + 1, 5, none⟩) (by first | omega | (simp; done) | (simp; omega))).trans cB_4_5
  have cB_5_6 : w5.cell? ⟨w1.heap.size + 1, 6, none⟩ = some (Value.int IntKind.i64 nd) := (hb5.cell (p := ⟨w1.heap.size + 1, 6, none⟩) (by first | omega | (simp; done) | (simp; omega))).trans cB_4_6
  have cB_5_7 : w5.cell? ⟨w1.heap.size + 1, 7, none⟩ = some (Value.int IntKind.i64 nl) := (hb5.cell (p := ⟨w1.heap.size + 1, 7, none⟩) (by first | omega | (simp; done) | (simp; omega))).trans cB_4_7
  have lB_5 : w1.heap.size + 1 < w5.heap.size := (by first | omega | (simp; done) | (simp; omega))
  have neB_5 : w1.heap.size + 1 ≠ w5.heap.size := by omega
  have neB_5b : w1.heap.size + 1 ≠ w5.heap.size + 1 := by omega
  have neB_5c : w5.heap.size ≠ w1.heap.size + 1 := by omega
  have neB_5d : w5.heap.size + 1 ≠ w1.heap.size + 1 := by omega
  have cP_5_0 : w5.cell? ⟨w2.heap.size + 1, 0, none⟩ = some (Value.int IntKind.i64 a) := (hb5.cell (p := ⟨w2.heap.size + 1, 0, none⟩) (by first | omega | (simp; done) | (simp; omega))).trans cP_4_0
  have cP_5_1 : w5.cell? ⟨w2.heap.size + 1, 1, none⟩ = some (Value.int IntKind.i64 b) := (hb5.cell (p := ⟨w2.heap.size + 1, 1, none⟩) (by first | omega | (simp; done) | (simp; omega))).trans cP_4_1
  have cP_5_2 : w5.cell? ⟨w2.heap.size + 1, 2, none⟩ = some (Value.int IntKind.i64 k) := (hb5.cell (p := ⟨w2.heap.size + 1, 2, none⟩) (by first | omega | (simp; done) | (simp; omega))).trans cP_4_2
  have cP_5_3 : w5.cell? ⟨w2.heap.size + 1, 3, none⟩ = some (Value.int IntKind.i64 c) := (hb5.cell (p := ⟨w2.heap.size + 1, 3, none⟩) (by first | omega | (simp; done) | (simp; omega))).trans cP_4_3
  have cP_5_4 : w5.cell? ⟨w2.heap.size + 1, 4, none⟩ = some (Value.int IntKind.i64 d) := (hb5.cell (p := ⟨w2.heap.size + 1, 4, none⟩) (by first | omega | (simp; done) | (simp; omega))).trans cP_4_4
  have cP_5_5 : w5.cell? ⟨w2.heap.size + 1, 5, none⟩ = some (Value.int IntKind.i64 l) := (hb5.cell (p := ⟨w2.heap.size + 1, 5, none⟩) (by first | omega | (simp; done) | (simp; omega))).trans cP_4_5
  have lP_5 : w2.heap.size + 1 < w5.heap.size := (by first | omega | (simp; done) | (simp; omega))
  have neP_5 : w2.heap.size + 1 ≠ w5.heap.size := by omega
  have neP_5b : w2.heap.size + 1 ≠ w5.heap.size + 1 := by omega
  have neP_5c : w5.heap.size ≠ w2.heap.size + 1 := by omega
  have neP_5d : w5.heap.size + 1 ≠ w2.heap.size + 1 := by omega
  clear cA_4_0 cA_4_1 cA_4_2 cA_4_3 cA_4_4 cA_4_5 cA_4_6 cA_4_7 cB_4_0 cB_4_1 cB_4_2 cB_4_3 cB_4_4 cB_4_5 cB_4_6 cB_4_7 cP_4_0 cP_4_1 cP_4_2 cP_4_3 cP_4_4 cP_4_5
  go_wp2_with fail
  obtain ⟨cr, cf, c1, c2, c3, c4, c5, c6, v1, q1, q2, q3, q4, q5, q6, v2, dr, df, d1, d2, d3, d4, d5, d6, v5, hc, hq, hk, hd, hx, hy⟩ := Act.mo_bundle (f := f) (g := g) hM hN hP
  have KC := Lib.hid hc
  have KQ := Lib.hid hq
  have KK := Lib.hid hk
  have KD := Lib.hid hd
  have KX := Lib.hid hx
  have KY := Lib.hid hy
  clear hc hq hk hd hx hy hM hN hP HA HB HP
  refine (KC.out _ ?_).mono ?_
  · exact LT.below (w := w) hT (by (repeat (first | with_reducible exact Below.refl _ _ | with_reducible assumption | with_reducible refine below_drewN ?_ _ | with_reducible refine Below.drew ?_ | with_reducible refine Below.alloc ?_ (by first | omega | (simp; done) | (simp; omega)) _ | with_reducible refine Below.setCell ?_ (by first | omega | (simp; done) | (simp; omega)) _ | with_reducible refine Below.trans ?_ (Below.mono (by assumption) (by first | omega | (simp; done) | (simp; omega)))))) (Nat.le_refl _)
  rintro e w6 ⟨rfl, hb6⟩
  have z6 := hb6.size
  (try simp only [World.size_alloc] at z6)
  have cA_6_0 : w6.cell? ⟨w1.heap.size, 0, none⟩ = some (Value.int IntKind.i64 t) := (hb6.cell (p := ⟨w1.heap.size, 0, none⟩) (by first | omega | (simp; done) | (simp; omega))).trans cA_5_0
  have cA_6_1 : w6.cell? ⟨w1.heap.size, 1, none⟩ = some (Value.bool f) := (hb6.cell (p := ⟨w1.heap.size, 1, none⟩) (by first | omega | (simp; done) | (simp; omega))).trans cA_5_1
  have cA_6_2 : w6.cell? ⟨w1.heap.size, 2, none⟩ = some (Value.int IntKind.i64 ma) := (hb6.cell (p := ⟨w1.heap.size, 2, none⟩) (by first | omega | (simp; done) | (simp; omega))).trans cA_5_2
  have cA_6_3 : w6.cell? ⟨w1.heap.size, 3, none⟩ = some (Value.int IntKind.i64 mb) := (hb6.cell (p := ⟨w1.heap.size, 3, none⟩) (by first | omega | (simp; done) | (simp; omega))).trans cA_5_3
  have cA_6_4 : w6.cell? ⟨w1.heap.size, 4, none⟩ = some (Value.int IntKind.i64 mk) := (hb6.cell (p := ⟨w1.heap.size, 4, none⟩) (by first | omega | (simp; done) | (simp; omega))).trans cA_5_4
  have cA_6_5 : w6.cell? ⟨w1.heap.size, 5, none⟩ = some (Value.int IntKind.i64 mc) := (hb6.cell (p := ⟨w1.heap.size, 5, none⟩) (by first | omega | (simp; done) | (simp; omega))).trans cA_5_5
  have cA_6_6 : w6.cell? ⟨w1.heap.size, 6, none⟩ = some (Value.int IntKind.i64 md) := (hb6.cell (p := ⟨w1.heap.size, 6, none⟩) (by first | omega | (simp; done) | (simp; omega))).trans cA_5_6
  have cA_6_7 : w6.cell? ⟨w1.heap.size, 7, none⟩ = some (Value.int IntKind.i64 ml) := (hb6.cell (p := ⟨w1.heap.size, 7, none⟩) (by first | omega | (simp; done) | (simp; omega))).trans cA_5_7
  have lA_6 : w1.heap.size < w6.heap.size := (by first | omega | (simp; done) | (simp; omega))
  have neA_6 : w1.heap.size ≠ w6.heap.size := by omega
  have neA_6b : w1.heap.size ≠ w6.heap.size + 1 := by omega
  have neA_6c : w6.heap.size ≠ w1.heap.size := by omega
  have neA_6d : w6.heap.size + 1 ≠ w1.heap.size := by omega
  have cB_6_0 : w6.cell? ⟨w1.heap.size + 1, 0, none⟩ = some (Value.int IntKind.i64 e') := (hb6.cell (p := ⟨w1.heap.size + 1, 0, none⟩) (by first | omega | (simp; done) | (simp; omega))).trans cB_5_0
  have cB_6_1 : w6.cell? ⟨w1.heap.size + 1, 1, none⟩ = some (Value.bool g) := (hb6.cell (p := ⟨w1.heap.size + 1, 1, none⟩) (by first | omega | (simp; done) | (simp; omega))).trans cB_5_1
  have cB_6_2 : w6.cell? ⟨w1.heap.size + 1, 2, none⟩ = some (Value.int IntKind.i64 na) := (hb6.cell (p := ⟨w1.heap.size + 1, 2, none⟩) (by first | omega | (simp; done) | (simp; omega))).trans cB_5_2
  have cB_6_3 : w6.cell? ⟨w1.heap.size + 1, 3, none⟩ = some (Value.int IntKind.i64 nb) := (hb6.cell (p := ⟨w1.heap.size + 1, 3, none⟩) (by first | omega | (simp; done) | (simp; omega))).trans cB_5_3
  have cB_6_4 : w6.cell? ⟨w1.heap.size + 1, 4, none⟩ = some (Value.int IntKind.i64 nk) := (hb6.cell (p := ⟨w1.heap.size + 1, 4, none⟩) (by first | omega | (simp; done) | (simp; omega))).trans cB_5_4
  have cB_6_5 : w6.cell? ⟨w1.heap.size + 1, 5, none⟩ = some (Value.int IntKind.i64 nc) := (hb6.cell (p := ⟨w1.heap.size + 1, 5, none⟩) (by first | omega | (simp; done) | (simp; omega))).trans cB_5_5
  have cB_6_6 : w6.cell? ⟨w1.heap.size + 1, 6, none⟩ = some (Value.int IntKind.i64 nd) := (hb6.cell (p := ⟨w1.heap.size + 1, 6, none⟩) (by first | omega | (simp; done) | (simp; omega))).trans cB_5_6
  have cB_6_7 : w6.cell? ⟨w1.heap.size + 1, 7, none⟩ = some (Value.int IntKind.i64 nl) := (hb6.cell (p := ⟨w1.heap.size + 1, 7, none⟩) (by first | omega | (simp; done) | (simp; omega))).trans cB_5_7
  have lB_6 : w1.heap.size + 1 < w6.heap.size := (by first | omega | (simp; done) | (simp; omega))
  have neB_6 : w1.heap.size + 1 ≠ w6.heap.size := by omega
  have neB_6b : w1.heap.size + 1 ≠ w6.heap.size + 1 := by omega
  have neB_6c : w6.heap.size ≠ w1.heap.size + 1 := by omega
  have neB_6d : w6.heap.size + 1 ≠ w1.heap.size + 1 := by omega
  have cP_6_0 : w6.cell? ⟨w2.heap.size + 1, 0, none⟩ = some (Value.int IntKind.i64 a) := (hb6.cell (p := ⟨w2.heap.size + 1, 0, none⟩) (by first | omega | (simp; done) | (simp; omega))).trans cP_5_0
  have cP_6_1 : w6.cell? ⟨w2.heap.size + 1, 1, none⟩ = some (Value.int IntKind.i64 b) := (hb6.cell (p := ⟨w2.heap.size + 1, 1, none⟩) (by first | omega | (simp; done) | (simp; omega))).trans cP_5_1
  have cP_6_2 : w6.cell? ⟨w2.heap.size + 1, 2, none⟩ = some (Value.int IntKind.i64 k) := (hb6.cell (p := ⟨w2.heap.size + 1, 2, none⟩) (by first | omega | (simp; done) | (simp; omega))).trans cP_5_2
  have cP_6_3 : w6.cell? ⟨w2.heap.size + 1, 3, none⟩ = some (Value.int IntKind.i64 c) := (hb6.cell (p := ⟨w2.heap.size + 1, 3, none⟩) (by first | omega | (simp; done) | (simp; omega))).trans cP_5_3
  have cP_6_4 : w6.cell? ⟨w2.heap.size + 1, 4, none⟩ = some (Value.int IntKind.i64 d) := (hb6.cell (p := ⟨w2.heap.size + 1, 4, none⟩) (by first | omega | (simp; done) | (simp; omega))).trans cP_5_4
  have cP_6_5 : w6.cell? ⟨w2.heap.size + 1, 5, none⟩ = some (Value.int IntKind.i64 l) := (hb6.cell (p := ⟨w2.heap.size + 1, 5, none⟩) (by first | omega | (simp; done) | (simp; omega))).trans cP_5_5
  have lP_6 : w2.heap.size + 1 < w6.heap.size := (by first | omega | (simp; done) | (simp; omega))
  have neP_6 : w2.heap.size + 1 ≠ w6.heap.size := by omega
  have neP_6b : w2.heap.size + 1 ≠ w6.heap.size + 1 := by omega
  have neP_6c : w6.heap.size ≠ w2.heap.size + 1 := by omega
  have neP_6d : w6.heap.size + 1 ≠ w2.heap.size + 1 := by omega
  clear cA_5_0 cA_5_1 cA_5_2 cA_5_3 cA_5_4 cA_5_5 cA_5_6 cA_5_7 cB_5_0 cB_5_1 cB_5_2 cB_5_3 cB_5_4 cB_5_5 cB_5_6 cB_5_7 cP_5_0 cP_5_1 cP_5_2 cP_5_3 cP_5_4 cP_5_5
  go_wp2_with fail
  refine (KQ.out _ ?_).mono ?_
  · exact LT.below (w := w) hT (by (repeat (first | with_reducible exact Below.refl _ _ | with_reducible assumption | with_reducible refine below_drewN ?_ _ | with_reducible refine Below.drew ?_ | with_reducible refine Below.alloc ?_ (by first | omega | (simp; done) | (simp; omega)) _ | with_reducible refine Below.setCell ?_ (by first | omega | (simp; done) | (simp; omega)) _ | with_reducible refine Below.trans ?_ (Below.mono (by assumption) (by first | omega | (simp; done) | (simp; omega)))))) (Nat.le_refl _)
  rintro e w7 ⟨rfl, hb7⟩
  have z7 := hb7.size
  (try simp only [World.size_alloc] at z7)
  have cA_7_0 : w7.cell? ⟨w1.heap.size, 0, none⟩ = some (Value.int IntKind.i64 t) := (hb7.cell (p := ⟨w1.heap.size, 0, none⟩) (by first | omega | (simp; done) | (simp; omega))).trans ((World.cell?_alloc_lt _ _ ⟨w1.heap.size, 0, none⟩ (by first | omega | (simp; done) | (simp; omega))).trans cA_6_0)
  have cA_7_1 : w7.cell? ⟨w1.heap.size, 1, none⟩ = some (Value.bool f) := (hb7.cell (p := ⟨w1.heap.size, 1, none⟩) (by first | omega | (simp; done) | (simp; omega))).trans ((World.cell?_alloc_lt _ _ ⟨w1.heap.size, 1, none⟩ (by first | omega | (simp; done) | (simp; omega))).trans cA_6_1)
  have cA_7_2 : w7.cell? ⟨w1.heap.size, 2, none⟩ = some (Value.int IntKind.i64 ma) := (hb7.cell (p := ⟨w1.heap.size, 2, none⟩) (by first | omega | (simp; done) | (simp; omega))).trans ((World.cell?_alloc_lt _ _ ⟨w1.heap.size, 2, none⟩ (by first | omega | (simp; done) | (simp; omega))).trans cA_6_2)
  have cA_7_3 : w7.cell? ⟨w1.heap.size, 3, none⟩ = some (Value.int IntKind.i64 mb) := (hb7.cell (p := ⟨w1.heap.size, 3, none⟩) (by first | omega | (simp; done) | (simp; omega))).trans ((World.cell?_alloc_lt _ _ ⟨w1.heap.size, 3, none⟩ (by first | omega | (simp; done) | (simp; omega))).trans cA_6_3)
  have cA_7_4 : w7.cell? ⟨w1.heap.size, 4, none⟩ = some (Value.int IntKind.i64 mk) := (hb7.cell (p := ⟨w1.heap.size, 4, none⟩) (by first | omega | (simp; done) | (simp; omega))).trans ((World.cell?_alloc_lt _ _ ⟨w1.heap.size, 4, none⟩ (by first | omega | (simp; done) | (simp; omega))).trans cA_6_4)
  have cA_7_5 : w7.cell? ⟨w1.heap.size, 5, none⟩ = some (Value.int IntKind.i64 mc) := (hb7.cell (p := ⟨w1.heap.size, 5, none⟩) (by first | omega | (simp; done) | (simp; omega))).trans ((World.cell?_alloc_lt _ _ ⟨w1.heap.size, 5, none⟩ (by first | omega | (simp; done) | (simp; omega))).trans cA_6_5)
  have cA_7_6 : w7.cell? ⟨w1.heap.size, 6, none⟩ = some (Value.int IntKind.i64 md) := (hb7.cell (p := ⟨w1.heap.size, 6, none⟩) (by first | omega | (simp; done) | (simp; omega))).trans ((World.cell?_alloc_lt _ _ ⟨w1.heap.size, 6, none⟩ (by first | omega | (simp; done) | (simp; omega))).trans cA_6_6)
  have cA_7_7 : w7.cell? ⟨w1.heap.size, 7, none⟩ = some (Value.int IntKind.i64 ml) := (hb7.cell (p := ⟨w1.heap.size, 7, none⟩) (by first | omega | (simp; done) | (simp; omega))).trans ((World.cell?_alloc_lt _ _ ⟨w1.heap.size, 7, none⟩ (by first | omega | (simp; done) | (simp; omega))).trans cA_6_7)
  have lA_7 : w1.heap.size < w7.heap.size := (by first | omega | (simp; done) | (simp; omega))
  have neA_7 : w1.heap.size ≠ w7.heap.size := by omega
  have neA_7b : w1.heap.size ≠ w7.heap.size + 1 := by omega
  have neA_7c : w7.heap.size ≠ w1.heap.size := by omega
  have neA_7d : w7.heap.size + 1 ≠ w1.heap.size := by omega
  have cB_7_0 : w7.cell? ⟨w1.heap.size + 1, 0, none⟩ = some (Value.int IntKind.i64 e') := (hb7.cell (p := ⟨w1.heap.size + 1, 0, none⟩) (by first | omega | (simp; done) | (simp; omega))).trans ((World.cell?_alloc_lt _ _ ⟨w1.heap.size + 1, 0, none⟩ (by first | omega | (simp; done) | (simp; omega))).trans cB_6_0)
  have cB_7_1 : w7.cell? ⟨w1.heap.size + 1, 1, none⟩ = some (Value.bool g) := (hb7.cell (p := ⟨w1.heap.size + 1, 1, none⟩) (by first | omega | (simp; done) | (simp; omega))).trans ((World.cell?_alloc_lt _ _ ⟨w1.heap.size + 1, 1, none⟩ (by first | omega | (simp; done) | (simp; omega))).trans cB_6_1)
  have cB_7_2 : w7.cell? ⟨w1.heap.size + 1, 2, none⟩ = some (Value.int IntKind.i64 na) := (hb7.cell (p := ⟨w1.heap.size + 1, 2, none⟩) (by first | omega | (simp; done) | (simp; omega))).trans ((World.cell?_alloc_lt _ _ ⟨w1.heap.size + 1, 2, none⟩ (by first | omega | (simp; done) | (simp; omega))).trans cB_6_2)
  have cB_7_3 : w7.cell? ⟨w1.heap.size + 1, 3, none⟩ = some (Value.int IntKind.i64 nb) := (hb7.cell (p := ⟨w1.heap.size + 1, 3, none⟩) (by first | omega | (simp; done) | (simp; omega))).trans ((World.cell?_alloc_lt _ _ ⟨w1.heap.size + 1, 3, none⟩ (by first | omega | (simp; done) | (simp; omega))).trans cB_6_3)
  have cB_7_4 : w7.cell? ⟨w1.heap.size + 1, 4, none⟩ = some (Value.int IntKind.i64 nk) := (hb7.cell (p := ⟨w1.heap.size + 1, 4, none⟩) (by first | omega | (simp; done) | (simp; omega))).trans ((World.cell?_alloc_lt _ _ ⟨w1.heap.size + 1, 4, none⟩ (by first | omega | (simp; done) | (simp; omega))).trans cB_6_4)
  have cB_7_5 : w7.cell? ⟨w1.heap.size + 1, 5, none⟩ = some (Value.int IntKind.i64 nc) := (hb7.cell (p := ⟨w1.heap.size + 1, 5, none⟩) (by first | omega | (simp; done) | (simp; omega))).trans ((World.cell?_alloc_lt _ _ ⟨w1.heap.size + 1, 5, none⟩ (by first | omega | (simp; done) | (simp; omega))).trans cB_6_5)
  have cB_7_6 : w7.cell? ⟨w1.heap.size + 1, 6, none⟩ = some (Value.int IntKind.i64 nd) := (hb7.cell (p := ⟨w1.heap.size + 1, 6, none⟩) (by first | omega | (simp; done) | (simp; omega))).trans ((World.cell?_alloc_lt _ _ ⟨w1.heap.size + 1, 6, none⟩ (by first | omega | (simp; done) | (simp; omega))).trans cB_6_6)
  have cB_7_7 : w7.cell? ⟨w1.heap.size + 1, 7, none⟩ = some (Value.int IntKind.i64 nl) := (hb7.cell (p := ⟨w1.heap.size + 1, 7, none⟩) (by first | omega | (simp; done) | (simp; omega))).trans ((World.cell?_alloc_lt _ _ ⟨w1.heap.size + 1, 7, none⟩ (by first | omega | (simp; done) | (simp; omega))).trans cB_6_7)
  have lB_7 : w1.heap.size + 1 < w7.heap.size := (by first | omega | (simp; done) | (simp; omega))
  have neB_7 : w1.heap.size + 1 ≠ w7.heap.size := by omega
  have neB_7b : w1.heap.size + 1 ≠ w7.heap.size + 1 := by omega
  have neB_7c : w7.heap.size ≠ w1.heap.size + 1 := by omega
  have neB_7d : w7.heap.size + 1 ≠ w1.heap.size + 1 := by omega
  have cP_7_0 : w7.cell? ⟨w2.heap.size + 1, 0, none⟩ = some (Value.int IntKind.i64 a) := (hb7.cell (p := ⟨w2.heap.size + 1, 0, none⟩) (by first | omega | (simp; done) | (simp; omega))).trans ((World.cell?_alloc_lt _ _ ⟨w2.heap.size + 1, 0, none⟩ (by first | omega | (simp; done) | (simp; omega))).trans cP_6_0)
  have cP_7_1 : w7.cell? ⟨w2.heap.size + 1, 1, none⟩ = some (Value.int IntKind.i64 b) := (hb7.cell (p := ⟨w2.heap.size + 1, 1, none⟩) (by first | omega | (simp; done) | (simp; omega))).trans ((World.cell?_alloc_lt _ _ ⟨w2.heap.size + 1, 1, none⟩ (by first | omega | (simp; done) | (simp; omega))).trans cP_6_1)
  have cP_7_2 : w7.cell? ⟨w2.heap.size + 1, 2, none⟩ = some (Value.int IntKind.i64 k) := (hb7.cell (p := ⟨w2.heap.size + 1, 2, none⟩) (by first | omega | (simp; done) | (simp; omega))).trans ((World.cell?_alloc_lt _ _ ⟨w2.heap.size + 1, 2, none⟩ (by first | omega | (simp; done) | (simp; omega))).trans cP_6_2)
  have cP_7_3 : w7.cell? ⟨w2.heap.size + 1, 3, none⟩ = some (Value.int IntKind.i64 c) := (hb7.cell (p := ⟨w2.heap.size + 1, 3, none⟩) (by first | omega | (simp; done) | (simp; omega))).trans ((World.cell?_alloc_lt _ _ ⟨w2.heap.size + 1, 3, none⟩ (by first | omega | (simp; done) | (simp; omega))).trans cP_6_3)
  have cP_7_4 : w7.cell? ⟨w2.heap.size + 1, 4, none⟩ = some (Value.int IntKind.i64 d) := (hb7.cell (p := ⟨w2.heap.size + 1, 4, none⟩) (by first | omega | (simp; done) | (simp; omega))).trans ((World.cell?_alloc_lt _ _ ⟨w2.heap.size + 1, 4, none⟩ (by first | omega | (simp; done) | (simp; omega))).trans cP_6_4)
  have cP_7_5 : w7.cell? ⟨w2.heap.size + 1, 5, none⟩ = some (Value.int IntKind.i64 l) := (hb7.cell (p := ⟨w2.heap.size + 1, 5, none⟩) (by first | omega | (simp; done) | (simp; omega))).trans ((World.cell?_alloc_lt _ _ ⟨w2.heap.size + 1, 5, none⟩ (by first | omega | (simp; done) | (simp; omega))).trans cP_6_5)
  have lP_7 : w2.heap.size + 1 < w7.heap.size := (by first | omega | (simp; done) | (simp; omega))
  have neP_7 : w2.heap.size + 1 ≠ w7.heap.size := by omega
  have neP_7b : w2.heap.size + 1 ≠ w7.heap.size + 1 := by omega
  have neP_7c : w7.heap.size ≠ w2.heap.size + 1 := by omega
  have neP_7d : w7.heap.size + 1 ≠ w2.heap.size + 1 := by omega
  have cC_7_0 : w7.cell? ⟨w6.heap.size, 0, none⟩ = some (Value.int IntKind.i64 cr) := (hb7.cell (p := ⟨w6.heap.size, 0, none⟩) (by first | omega | (simp; done) | (simp; omega))).trans (by simp [go_sem])
  have cC_7_1 : w7.cell? ⟨w6.heap.size, 1, none⟩ = some (Value.bool cf) := (hb7.cell (p := ⟨w6.heap.size, 1, none⟩) (by first | omega | (simp; done) | (simp; omega))).trans (by simp [go_sem])
  have cC_7_2 : w7.cell? ⟨w6.heap.size, 2, none⟩ = some (Value.int IntKind.i64 c1) := (hb7.cell (p := ⟨w6.heap.size, 2, none⟩) (by first | omega | (simp; done) | (simp; omega))).trans (by simp [go_sem])
  have cC_7_3 : w7.cell? ⟨w6.heap.size, 3, none⟩ = some (Value.int IntKind.i64 c2) := (hb7.cell (p := ⟨w6.heap.size, 3, none⟩) (by first | omega | (simp; done) | (simp; omega))).trans (by simp [go_sem])
  have cC_7_4 : w7.cell? ⟨w6.heap.size, 4, none⟩ = some (Value.int IntKind.i64 c3) := (hb7.cell (p := ⟨w6.heap.size, 4, none⟩) (by first | omega | (simp; done) | (simp; omega))).trans (by simp [go_sem])
  have cC_7_5 : w7.cell? ⟨w6.heap.size, 5, none⟩ = some (Value.int IntKind.i64 c4) := (hb7.cell (p := ⟨w6.heap.size, 5, none⟩) (by first | omega | (simp; done) | (simp; omega))).trans (by simp [go_sem])
  have cC_7_6 : w7.cell? ⟨w6.heap.size, 6, none⟩ = some (Value.int IntKind.i64 c5) := (hb7.cell (p := ⟨w6.heap.size, 6, none⟩) (by first | omega | (simp; done) | (simp; omega))).trans (by simp [go_sem])
  have cC_7_7 : w7.cell? ⟨w6.heap.size, 7, none⟩ = some (Value.int IntKind.i64 c6) := (hb7.cell (p := ⟨w6.heap.size, 7, none⟩) (by first | omega | (simp; done) | (simp; omega))).trans (by simp [go_sem])
  have lC_7 : w6.heap.size < w7.heap.size := (by first | omega | (simp; done) | (simp; omega))
  have neC_7 : w6.heap.size ≠ w7.heap.size := by omega
  have neC_7b : w6.heap.size ≠ w7.heap.size + 1 := by omega
  have neC_7c : w7.heap.size ≠ w6.heap.size := by omega
  have neC_7d : w7.heap.size + 1 ≠ w6.heap.size := by omega
  clear cA_6_0 cA_6_1 cA_6_2 cA_6_3 cA_6_4 cA_6_5 cA_6_6 cA_6_7 cB_6_0 cB_6_1 cB_6_2 cB_6_3 cB_6_4 cB_6_5 cB_6_6 cB_6_7 cP_6_0 cP_6_1 cP_6_2 cP_6_3 cP_6_4 cP_6_5
  go_wp2_with fail
  refine (KK.out _ ?_).mono ?_
  · exact LT.below (w := w) hT (by (repeat (first | with_reducible exact Below.refl _ _ | with_reducible assumption | with_reducible refine below_drewN ?_ _ | with_reducible refine Below.drew ?_ | with_reducible refine Below.alloc ?_ (by first | omega | (simp; done) | (simp; omega)) _ | with_reducible refine Below.setCell ?_ (by first | omega | (simp; done) | (simp; omega)) _ | with_reducible refine Below.trans ?_ (Below.mono (by assumption) (by first | omega | (simp; done) | (simp; omega)))))) (Nat.le_refl _)
  rintro e w8 ⟨rfl, hb8⟩
  have z8 := hb8.size
  (try simp only [World.size_alloc] at z8)
  have cA_8_0 : w8.cell? ⟨w1.heap.size, 0, none⟩ = some (Value.int IntKind.i64 t) := (hb8.cell (p := ⟨w1.heap.size, 0, none⟩) (by first | omega | (simp; done) | (simp; omega))).trans ((World.cell?_alloc_lt _ _ ⟨w1.heap.size, 0, none⟩ (by first | omega | (simp; done) | (simp; omega))).trans cA_7_0)
  have cA_8_1 : w8.cell? ⟨w1.heap.size, 1, none⟩ = some (Value.bool f) := (hb8.cell (p := ⟨w1.heap.size, 1, none⟩) (by first | omega | (simp; done) | (simp; omega))).trans ((World.cell?_alloc_lt _ _ ⟨w1.heap.size, 1, none⟩ (by first | omega | (simp; done) | (simp; omega))).trans cA_7_1)
  have cA_8_2 : w8.cell? ⟨w1.heap.size, 2, none⟩ = some (Value.int IntKind.i64 ma) := (hb8.cell (p := ⟨w1.heap.size, 2, none⟩) (by first | omega | (simp; done) | (simp; omega))).trans ((World.cell?_alloc_lt _ _ ⟨w1.heap.size, 2, none⟩ (by first | omega | (simp; done) | (simp; omega))).trans cA_7_2)
  have cA_8_3 : w8.cell? ⟨w1.heap.size, 3, none⟩ = some (Value.int IntKind.i64 mb) := (hb8.cell (p := ⟨w1.heap.size, 3, none⟩) (by first | omega | (simp; done) | (simp; omega))).trans ((World.cell?_alloc_lt _ _ ⟨w1.heap.size, 3, none⟩ (by first | omega | (simp; done) | (simp; omega))).trans cA_7_3)
  have cA_8_4 : w8.cell? ⟨w1.heap.size, 4, none⟩ = some (Value.int IntKind.i64 mk) := (hb8.cell (p := ⟨w1.heap.size, 4, none⟩) (by first | omega | (simp; done) | (simp; omega))).trans ((World.cell?_alloc_lt _ _ ⟨w1.heap.size, 4, none⟩ (by first | omega | (simp; done) | (simp; omega))).trans cA_7_4)
  have cA_8_5 : w8.cell? ⟨w1.heap.size, 5, none⟩ = some (Value.int IntKind.i64 mc) := (hb8.cell (p := ⟨w1.heap.size, 5, none⟩) (by first | omega | (simp; done) | (simp; omega))).trans ((World.cell?_alloc_lt _ _ ⟨w1.heap.size, 5, none⟩ (by first | omega | (simp; done) | (simp; omega))).trans cA_7_5)
  have cA_8_6 : w8.cell? ⟨w1.heap.size, 6, none⟩ = some (Value.int IntKind.i64 md) := (hb8.cell (p := ⟨w1.heap.size, 6, none⟩) (by first | omega | (simp; done) | (simp; omega))).trans ((World.cell?_alloc_lt _ _ ⟨w1.heap.size, 6, none⟩ (by first | omega | (simp; done) | (simp; omega))).trans cA_7_6)
  have cA_8_7 : w8.cell? ⟨w1.heap.size, 7, none⟩ = some (Value.int IntKind.i64 ml) := (hb8.cell (p := ⟨w1.heap.size, 7, none⟩) (by first | omega | (simp; done) | (simp; omega))).trans ((World.cell?_alloc_lt _ _ ⟨w1.heap.size, 7, none⟩ (by first | omega | (simp; done) | (simp; omega))).trans cA_7_7)
  have lA_8 : w1.heap.size < w8.heap.size := (by first | omega | (simp; done) | (simp; omega))
  have neA_8 : w1.heap.size ≠ w8.heap.size := by omega
  have neA_8b : w1.heap.size ≠ w8.heap.size + 1 := by omega
  have neA_8c : w8.heap.size ≠ w1.heap.size := by omega
  have neA_8d : w8.heap.size + 1 ≠ w1.heap.size := by omega
  have cB_8_0 : w8.cell? ⟨w1.heap.size + 1, 0, none⟩ = some (Value.int IntKind.i64 e') := (hb8.cell (p := ⟨w1.heap.size + 1, 0, none⟩) (by first | omega | (simp; done) | (simp; omega))).trans ((World.cell?_alloc_lt _ _ ⟨w1.heap.size + 1, 0, none⟩ (by first | omega | (simp; done) | (simp; omega))).trans cB_7_0)
  have cB_8_1 : w8.cell? ⟨w1.heap.size + 1, 1, none⟩ = some (Value.bool g) := (hb8.cell (p := ⟨w1.heap.size + 1, 1, none⟩) (by first | omega | (simp; done) | (simp; omega))).trans ((World.cell?_alloc_lt _ _ ⟨w1.heap.size + 1, 1, none⟩ (by first | omega | (simp; done) | (simp; omega))).trans cB_7_1)
  have cB_8_2 : w8.cell? ⟨w1.heap.size + 1, 2, none⟩ = some (Value.int IntKind.i64 na) := (hb8.cell (p := ⟨w1.heap.size + 1, 2, none⟩) (by first | omega | (simp; done) | (simp; omega))).trans ((World.cell?_alloc_lt _ _ ⟨w1.heap.size + 1, 2, none⟩ (by first | omega | (simp; done) | (simp; omega))).trans cB_7_2)
  have cB_8_3 : w8.cell? ⟨w1.heap.size + 1, 3, none⟩ = some (Value.int IntKind.i64 nb) := (hb8.cell (p := ⟨w1.heap.size + 1, 3, none⟩) (by first | omega | (simp; done) | (simp; omega))).trans ((World.cell?_alloc_lt _ _ ⟨w1.heap.size + 1, 3, none⟩ (by first | omega | (simp; done) | (simp; omega))).trans cB_7_3)
  have cB_8_4 : w8.cell? ⟨w1.heap.size + 1, 4, none⟩ = some (Value.int IntKind.i64 nk) := (hb8.cell (p := ⟨w1.heap.size + 1, 4, none⟩) (by first | omega | (simp; done) | (simp; omega))).trans ((World.cell?_alloc_lt _ _ ⟨w1.heap.size + 1, 4, none⟩ (by first | omega | (simp; done) | (simp; omega))).trans cB_7_4)
  have cB_8_5 : w8.cell? ⟨w1.heap.size + 1, 5, none⟩ = some (Value.int IntKind.i64 nc) := (hb8.cell (p := ⟨w1.heap.size + 1, 5, none⟩) (by first | omega | (simp; done) | (simp; omega))).trans ((World.cell?_alloc_lt _ _ ⟨w1.heap.size + 1, 5, none⟩ (by first | omega | (simp; done) | (simp; omega))).trans cB_7_5)
  have cB_8_6 : w8.cell? ⟨w1.heap.size + 1, 6, none⟩ = some (Value.int IntKind.i64 nd) := (hb8.cell (p := ⟨w1.heap.size + 1, 6, none⟩) (by first | omega | (simp; done) | (simp; omega))).trans ((World.cell?_alloc_lt _ _ ⟨w1.heap.size + 1, 6, none⟩ (by first | omega | (simp; done) | (simp; omega))).trans cB_7_6)
  have cB_8_7 : w8.cell? ⟨w1.heap.size + 1, 7, none⟩ = some (Value.int IntKind.i64 nl) := (hb8.cell (p := ⟨w1.heap.size + 1, 7, none⟩) (by first | omega | (simp; done) | (simp; omega))).trans ((World.cell?_alloc_lt _ _ ⟨w1.heap.size + 1, 7, none⟩ (by first | omega | (simp; done) | (simp; omega))).trans cB_7_7)
  have lB_8 : w1.heap.size + 1 < w8.heap.size := (by first | omega | (simp; done) | (simp; omega))
  have neB_8 : w1.heap.size + 1 ≠ w8.heap.size := by omega
  have neB_8b : w1.heap.size + 1 ≠ w8.heap.size + 1 := by omega
  have neB_8c : w8.heap.size ≠ w1.heap.size + 1 := by omega
  have neB_8d : w8.heap.size + 1 ≠ w1.heap.size + 1 := by omega
  have cP_8_0 : w8.cell? ⟨w2.heap.size + 1, 0, none⟩ = some (Value.int IntKind.i64 a) := (hb8.cell (p := ⟨w2.heap.size + 1, 0, none⟩) (by first | omega | (simp; done) | (simp; omega))).trans ((World.cell?_alloc_lt _ _ ⟨w2.heap.size + 1, 0, none⟩ (by first | omega | (simp; done) | (simp; omega))).trans cP_7_0)
  have cP_8_1 : w8.cell? ⟨w2.heap.size + 1, 1, none⟩ = some (Value.int IntKind.i64 b) := (hb8.cell (p := ⟨w2.heap.size + 1, 1, none⟩) (by first | omega | (simp; done) | (simp; omega))).trans ((World.cell?_alloc_lt _ _ ⟨w2.heap.size + 1, 1, none⟩ (by first | omega | (simp; done) | (simp; omega))).trans cP_7_1)
  have cP_8_2 : w8.cell? ⟨w2.heap.size + 1, 2, none⟩ = some (Value.int IntKind.i64 k) := (hb8.cell (p := ⟨w2.heap.size + 1, 2, none⟩) (by first | omega | (simp; done) | (simp; omega))).trans ((World.cell?_alloc_lt _ _ ⟨w2.heap.size + 1, 2, none⟩ (by first | omega | (simp; done) | (simp; omega))).trans cP_7_2)
  have cP_8_3 : w8.cell? ⟨w2.heap.size + 1, 3, none⟩ = some (Value.int IntKind.i64 c) := (hb8.cell (p := ⟨w2.heap.size + 1, 3, none⟩) (by first | omega | (simp; done) | (simp; omega))).trans ((World.cell?_alloc_lt _ _ ⟨w2.heap.size + 1, 3, none⟩ (by first | omega | (simp; done) | (simp; omega))).trans cP_7_3)
  have cP_8_4 : w8.cell? ⟨w2.heap.size + 1, 4, none⟩ = some (Value.int IntKind.i64 d) := (hb8.cell (p := ⟨w2.heap.size + 1, 4, none⟩) (by first | omega | (simp; done) | (simp; omega))).trans ((World.cell?_alloc_lt _ _ ⟨w2.heap.size + 1, 4, none⟩ (by first | omega | (simp; done) | (simp; omega))).trans cP_7_4)
  have cP_8_5 : w8.cell? ⟨w2.heap.size + 1, 5, none⟩ = some (Value.int IntKind.i64 l) := (hb8.cell (p := ⟨w2.heap.size + 1, 5, none⟩) (by first | omega | (simp; done) | (simp; omega))).trans ((World.cell?_alloc_lt _ _ ⟨w2.heap.size + 1, 5, none⟩ (by first | omega | (simp; done) | (simp; omega))).trans cP_7_5)
  have lP_8 : w2.heap.size + 1 < w8.heap.size := (by first | omega | (simp; done) | (simp; omega))
  have neP_8 : w2.heap.size + 1 ≠ w8.heap.size := by omega
  have neP_8b : w2.heap.size + 1 ≠ w8.heap.size + 1 := by omega
  have neP_8c : w8.heap.size ≠ w2.heap.size + 1 := by omega
  have neP_8d : w8.heap.size + 1 ≠ w2.heap.size + 1 := by omega
  have cC_8_0 : w8.cell? ⟨w6.heap.size, 0, none⟩ = some (Value.int IntKind.i64 cr) := (hb8.cell (p := ⟨w6.heap.size, 0, none⟩) (by first | omega | (simp; done) | (simp; omega))).trans ((World.cell?_alloc_lt _ _ ⟨w6.heap.size, 0, none⟩ (by first | omega | (simp; done) | (simp; omega))).trans cC_7_0)
  have cC_8_1 : w8.cell? ⟨w6.heap.size, 1, none⟩ = some (Value.bool cf) := (hb8.cell (p := ⟨w6.heap.size, 1, none⟩) (by first | omega | (simp; done) | (simp; omega))).trans ((World.cell?_alloc_lt _ _ ⟨w6.heap.size, 1, none⟩ (by first | omega | (simp; done) | (simp; omega))).trans cC_7_1)
  have cC_8_2 : w8.cell? ⟨w6.heap.size, 2, none⟩ = some (Value.int IntKind.i64 c1) := (hb8.cell (p := ⟨w6.heap.size, 2, none⟩) (by first | omega | (simp; done) | (simp; omega))).trans ((World.cell?_alloc_lt _ _ ⟨w6.heap.size, 2, none⟩ (by first | omega | (simp; done) | (simp; omega))).trans cC_7_2)
  have cC_8_3 : w8.cell? ⟨w6.heap.size, 3, none⟩ = some (Value.int IntKind.i64 c2) := (hb8.cell (p := ⟨w6.heap.size, 3, none⟩) (by first | omega | (simp; done) | (simp; omega))).trans ((World.cell?_alloc_lt _ _ ⟨w6.heap.size, 3, none⟩ (by first | omega | (simp; done) | (simp; omega))).trans cC_7_3)
  have cC_8_4 : w8.cell? ⟨w6.heap.size, 4, none⟩ = some (Value.int IntKind.i64 c3) := (hb8.cell (p := ⟨w6.heap.size, 4, none⟩) (by first | omega | (simp; done) | (simp; omega))).trans ((World.cell?_alloc_lt _ _ ⟨w6.heap.size, 4, none⟩ (by first | omega | (simp; done) | (simp; omega))).trans cC_7_4)
  have cC_8_5 : w8.cell? ⟨w6.heap.size, 5, none⟩ = some (Value.int IntKind.i64 c4) := (hb8.cell (p := ⟨w6.heap.size, 5, none⟩) (by first | omega | (simp; done) | (simp; omega))).trans ((World.cell?_alloc_lt _ _ ⟨w6.heap.size, 5, none⟩ (by first | omega | (simp; done) | (simp; omega))).trans cC_7_5)
  have cC_8_6 : w8.cell? ⟨w6.heap.size, 6, none⟩ = some (Value.int IntKind.i64 c5) := (hb8.cell (p := ⟨w6.heap.size, 6, none⟩) (by first | omega | (simp; done) | (simp; omega))).trans ((World.cell?_alloc_lt _ _ ⟨w6.heap.size, 6, none⟩ (by first | omega | (simp; done) | (simp; omega))).trans cC_7_6)
  have cC_8_7 : w8.cell? ⟨w6.heap.size, 7, none⟩ = some (Value.int IntKind.i64 c6) := (hb8.cell (p := ⟨w6.heap.size, 7, none⟩) (by first | omega | (simp; done) | (simp; omega))).trans ((World.cell?_alloc_lt _ _ ⟨w6.heap.size, 7, none⟩ (by first | omega | (simp; done) | (simp; omega))).trans cC_7_7)
  have lC_8 : w6.heap.size < w8.heap.size := (by first | omega | (simp; done) | (simp; omega))
  have neC_8 : w6.heap.size ≠ w8.heap.size := by omega
  have neC_8b : w6.heap.size ≠ w8.heap.size + 1 := by omega
  have neC_8c : w8.heap.size ≠ w6.heap.size := by omega
  have neC_8d : w8.heap.size + 1 ≠ w6.heap.size := by omega
  have cQ_8_0 : w8.cell? ⟨w7.heap.size, 0, none⟩ = some (Value.int IntKind.i64 q1) := (hb8.cell (p := ⟨w7.heap.size, 0, none⟩) (by first | omega | (simp; done) | (simp; omega))).trans (by simp [go_sem])
  have cQ_8_1 : w8.cell? ⟨w7.heap.size, 1, none⟩ = some (Value.int IntKind.i64 q2) := (hb8.cell (p := ⟨w7.heap.size, 1, none⟩) (by first | omega | (simp; done) | (simp; omega))).trans (by simp [go_sem])
  have cQ_8_2 : w8.cell? ⟨w7.heap.size, 2, none⟩ = some (Value.int IntKind.i64 q3) := (hb8.cell (p := ⟨w7.heap.size, 2, none⟩) (by first | omega | (simp; done) | (simp; omega))).trans (by simp [go_sem])
  have cQ_8_3 : w8.cell? ⟨w7.heap.size, 3, none⟩ = some (Value.int IntKind.i64 q4) := (hb8.cell (p := ⟨w7.heap.size, 3, none⟩) (by first | omega | (simp; done) | (simp; omega))).trans (by simp [go_sem])
  have cQ_8_4 : w8.cell? ⟨w7.heap.size, 4, none⟩ = some (Value.int IntKind.i64 q5) := (hb8.cell (p := ⟨w7.heap.size, 4, none⟩) (by first | omega | (simp; done) | (simp; omega))).trans (by simp [go_sem])
  have cQ_8_5 : w8.cell? ⟨w7.heap.size, 5, none⟩ = some (Value.int IntKind.i64 q6) := (hb8.cell (p := ⟨w7.heap.size, 5, none⟩) (by first | omega | (simp; done) | (simp; omega))).trans (by simp [go_sem])
  have lQ_8 : w7.heap.size < w8.heap.size := (by first | omega | (simp; done) | (simp; omega))
  have neQ_8 : w7.heap.size ≠ w8.heap.size := by omega
  have neQ_8b : w7.heap.size ≠ w8.heap.size + 1 := by omega
  have neQ_8c : w8.heap.size ≠ w7.heap.size := by omega
  have neQ_8d : w8.heap.size + 1 ≠ w7.heap.size := by omega
  clear cA_7_0 cA_7_1 cA_7_2 cA_7_3 cA_7_4 cA_7_5 cA_7_6 cA_7_7 cB_7_0 cB_7_1 cB_7_2 cB_7_3 cB_7_4 cB_7_5 cB_7_6 cB_7_7 cP_7_0 cP_7_1 cP_7_2 cP_7_3 cP_7_4 cP_7_5 cC_7_0 cC_7_1 cC_7_2 cC_7_3 cC_7_4 cC_7_5 cC_7_6 cC_7_7
  cases v2
  case false =>
    cases v1
    all_goals
      go_wp2_with fail
      refine (KD.out _ ?_).mono ?_
      · exact LT.below (w := w) hT (by (repeat (first | with_reducible exact Below.refl _ _ | with_reducible assumption | with_reducible refine below_drewN ?_ _ | with_reducible refine Below.drew ?_ | with_reducible refine Below.alloc ?_ (by first | omega | (simp; done) | (simp; omega)) _ | with_reducible refine Below.setCell ?_ (by first | omega | (simp; done) | (simp; omega)) _ | with_reducible refine Below.trans ?_ (Below.mono (by assumption) (by first | omega | (simp; done) | (simp; omega)))))) (Nat.le_refl _)
      rintro e w11 ⟨rfl, hb11⟩
      have z11 := hb11.size
      (try simp only [World.size_alloc] at z11)
      have cP_11_0 : w11.cell? ⟨w2.heap.size + 1, 0, none⟩ = some (Value.int IntKind.i64 a) := (hb11.cell (p := ⟨w2.heap.size + 1, 0, none⟩) (by first | omega | (simp; done) | (simp; omega))).trans ((World.cell?_alloc_lt _ _ ⟨w2.heap.size + 1, 0, none⟩ (by first | omega | (simp; done) | (simp; omega))).trans cP_8_0)
      have cP_11_1 : w11.cell? ⟨w2.heap.size + 1, 1, none⟩ = some (Value.int IntKind.i64 b) := (hb11.cell (p := ⟨w2.heap.size + 1, 1, none⟩) (by first | omega | (simp; done) | (simp; omega))).trans ((World.cell?_alloc_lt _ _ ⟨w2.heap.size + 1, 1, none⟩ (by first | omega | (simp; done) | (simp; omega))).trans cP_8_1)
      have cP_11_2 : w11.cell? ⟨w2.heap.size + 1, 2, none⟩ = some (Value.int IntKind.i64 k) := (hb11.cell (p := ⟨w2.heap.size + 1, 2, none⟩) (by first | omega | (simp; done) | (simp; omega))).trans ((World.cell?_alloc_lt _ _ ⟨w2.heap.size + 1, 2, none⟩ (by first | omega | (simp; done) | (simp; omega))).trans cP_8_2)
      have cP_11_3 : w11.cell? ⟨w2.heap.size + 1, 3, none⟩ = some (Value.int IntKind.i64 c) := (hb11.cell (p := ⟨w2.heap.size + 1, 3, none⟩) (by first | omega | (simp; done) | (simp; omega))).trans ((World.cell?_alloc_lt _ _ ⟨w2.heap.size + 1, 3, none⟩ (by first | omega | (simp; done) | (simp; omega))).trans cP_8_3)
      have cP_11_4 : w11.cell? ⟨w2.heap.size + 1, 4, none⟩ = some (Value.int IntKind.i64 d) := (hb11.cell (p := ⟨w2.heap.size + 1, 4, none⟩) (by first | omega | (simp; done) | (simp; omega))).trans ((World.cell?_alloc_lt _ _ ⟨w2.heap.size + 1, 4, none⟩ (by first | omega | (simp; done) | (simp; omega))).trans cP_8_4)
      have cP_11_5 : w11.cell? ⟨w2.heap.size + 1, 5, none⟩ = some (Value.int IntKind.i64 l) := (hb11.cell (p := ⟨w2.heap.size + 1, 5, none⟩) (by first | omega | (simp; done) | (simp; omega))).trans ((World.cell?_alloc_lt _ _ ⟨w2.heap.size + 1, 5, none⟩ (by first | omega | (simp; done) | (simp; omega))).trans cP_8_5)
      have lP_11 : w2.heap.size + 1 < w11.heap.size := (by first | omega | (simp; done) | (simp; omega))
      have neP_11 : w2.heap.size + 1 ≠ w11.heap.size := by omega
      have neP_11b : w2.heap.size + 1 ≠ w11.heap.size + 1 := by omega
      have neP_11c : w11.heap.size ≠ w2.heap.size + 1 := by omega
      have neP_11d : w11.heap.size + 1 ≠ w2.heap.size + 1 := by omega
      clear cA_8_0 cA_8_1 cA_8_2 cA_8_3 cA_8_4 cA_8_5 cA_8_6 cA_8_7 cB_8_0 cB_8_1 cB_8_2 cB_8_3 cB_8_4 cB_8_5 cB_8_6 cB_8_7 cP_8_0 cP_8_1 cP_8_2 cP_8_3 cP_8_4 cP_8_5 cC_8_0 cC_8_1 cC_8_2 cC_8_3 cC_8_4 cC_8_5 cC_8_6 cC_8_7 cQ_8_0 cQ_8_1 cQ_8_2 cQ_8_3 cQ_8_4 cQ_8_5
      cases v5
      case false =>
        go_wp2_with fail
        go_ret
        exact ⟨rfl, by (repeat (first | with_reducible exact Below.refl _ _ | with_reducible assumption | with_reducible refine below_drewN ?_ _ | with_reducible refine Below.drew ?_ | with_reducible refine Below.alloc ?_ (by first | omega | (simp; done) | (simp; omega)) _ | with_reducible refine Below.setCell ?_ (by first | omega | (simp; done) | (simp; omega)) _ | with_reducible refine Below.trans ?_ (Below.mono (by assumption) (by first | omega | (simp; done) | (simp; omega)))))⟩
      case true =>
        go_wp2_with fail
        go_ret
        exact ⟨rfl, by (repeat (first | with_reducible exact Below.refl _ _ | with_reducible assumption | with_reducible refine below_drewN ?_ _ | with_reducible refine Below.drew ?_ | with_reducible refine Below.alloc ?_ (by first | omega | (simp; done) | (simp; omega)) _ | with_reducible refine Below.setCell ?_ (by first | omega | (simp; done) | (simp; omega)) _ | with_reducible refine Below.trans ?_ (Below.mono (by assumption) (by first | omega | (simp; done) | (simp; omega)))))⟩
  cases v1
  case false =>
    go_wp2_with fail
    refine (KD.out _ ?_).mono ?_
    · exact LT.below (w := w) hT (by (repeat (first | with_reducible exact Below.refl _ _ | with_reducible assumption | with_reducible refine below_drewN ?_ _ | with_reducible refine Below.drew ?_ | with_reducible refine Below.alloc ?_ (by first | omega | (simp; done) | (simp; omega)) _ | with_reducible refine Below.setCell ?_ (by first | omega | (simp; done) | (simp; omega)) _ | with_reducible refine Below.trans ?_ (Below.mono (by assumption) (by first | omega | (simp; done) | (simp; omega)))))) (Nat.le_refl _)
    rintro e w11 ⟨rfl, hb11⟩
    have z11 := hb11.size
    (try simp only [World.size_alloc] at z11)
    have cA_11_0 : w11.cell? ⟨w1.heap.size, 0, none⟩ = some (Value.int IntKind.i64 t) := (hb11.cell (p := ⟨w1.heap.size, 0, none⟩) (by first | omega | (simp; done) | (simp; omega))).trans ((World.cell?_alloc_lt _ _ ⟨w1.heap.size, 0, none⟩ (by first | omega | (simp; done) | (simp; omega))).trans cA_8_0)
    have cA_11_1 : w11.cell? ⟨w1.heap.size, 1, none⟩ = some (Value.bool f) := (hb11.cell (p := ⟨w1.heap.size, 1, none⟩) (by first | omega | (simp; done) | (simp; omega))).trans ((World.cell?_alloc_lt _ _ ⟨w1.heap.size, 1, none⟩ (by first | omega | (simp; done) | (simp; omega))).trans cA_8_1)
    have cA_11_2 : w11.cell? ⟨w1.heap.size, 2, none⟩ = some (Value.int IntKind.i64 ma) := (hb11.cell (p := ⟨w1.heap.size, 2, none⟩) (by first | omega | (simp; done) | (simp; omega))).trans ((World.cell?_alloc_lt _ _ ⟨w1.heap.size, 2, none⟩ (by first | omega | (simp; done) | (simp; omega))).trans cA_8_2)
    have cA_11_3 : w11.cell? ⟨w1.heap.size, 3, none⟩ = some (Value.int IntKind.i64 mb) := (hb11.cell (p := ⟨w1.heap.size, 3, none⟩) (by first | omega | (simp; done) | (simp; omega))).trans ((World.cell?_alloc_lt _ _ ⟨w1.heap.size, 3, none⟩ (by first | omega | (simp; done) | (simp; omega))).trans cA_8_3)
    have cA_11_4 : w11.cell? ⟨w1.heap.size, 4, none⟩ = some (Value.int IntKind.i64 mk) := (hb11.cell (p := ⟨w1.heap.size, 4, none⟩) (by first | omega | (simp; done) | (simp; omega))).trans ((World.cell?_alloc_lt _ _ ⟨w1.heap.size, 4, none⟩ (by first | omega | (simp; done) | (simp; omega))).trans cA_8_4)
    have cA_11_5 : w11.cell? ⟨w1.heap.size, 5, none⟩ = some (Value.int IntKind.i64 mc) := (hb11.cell (p := ⟨w1.heap.size, 5, none⟩) (by first | omega | (simp; done) | (simp; omega))).trans ((World.cell?_alloc_lt _ _ ⟨w1.heap.size, 5, none⟩ (by first | omega | (simp; done) | (simp; omega))).trans cA_8_5)
    have cA_11_6 : w11.cell? ⟨w1.heap.size, 6, none⟩ = some (Value.int IntKind.i64 md) := (hb11.cell (p := ⟨w1.heap.size, 6, none⟩) (by first | omega | (simp; done) | (simp; omega))).trans ((World.cell?_alloc_lt _ _ ⟨w1.heap.size, 6, none⟩ (by first | omega | (simp; done) | (simp; omega))).trans cA_8_6)
    have cA_11_7 : w11.cell? ⟨w1.heap.size, 7, none⟩ = some (Value.int IntKind.i64 ml) := (hb11.cell (p := ⟨w1.heap.size, 7, none⟩) (by first | omega | (simp; done) | (simp; omega))).trans ((World.cell?_alloc_lt _ _ ⟨w1.heap.size, 7, none⟩ (by first | omega | (simp; done) | (simp; omega))).trans cA_8_7)
    have lA_11 : w1.heap.size < w11.heap.size := (by first | omega | (simp; done) | (simp; omega))
    have neA_11 : w1.heap.size ≠ w11.heap.size := by omega
    have neA_11b : w1.heap.size ≠ w11.heap.size + 1 := by omega
    have neA_11c : w11.heap.size ≠ w1.heap.size := by omega
    have neA_11d : w11.heap.size + 1 ≠ w1.heap.size := by omega
    have cP_11_0 : w11.cell? ⟨w2.heap.size + 1, 0, none⟩ = some (Value.int IntKind.i64 a) := (hb11.cell (p := ⟨w2.heap.size + 1, 0, none⟩) (by first | omega | (simp; done) | (simp; omega))).trans ((World.cell?_alloc_lt _ _ ⟨w2.heap.size + 1, 0, none⟩ (by first | omega | (simp; done) | (simp; omega))).trans cP_8_0)
    have cP_11_1 : w11.cell? ⟨w2.heap.size + 1, 1, none⟩ = some (Value.int IntKind.i64 b) := (hb11.cell (p := ⟨w2.heap.size + 1, 1, none⟩) (by first | omega | (simp; done) | (simp; omega))).trans ((World.cell?_alloc_lt _ _ ⟨w2.heap.size + 1, 1, none⟩ (by first | omega | (simp; done) | (simp; omega))).trans cP_8_1)
    have cP_11_2 : w11.cell? ⟨w2.heap.size + 1, 2, none⟩ = some (Value.int IntKind.i64 k) := (hb11.cell (p := ⟨w2.heap.size + 1, 2, none⟩) (by first | omega | (simp; done) | (simp; omega))).trans ((World.cell?_alloc_lt _ _ ⟨w2.heap.size + 1, 2, none⟩ (by first | omega | (simp; done) | (simp; omega))).trans cP_8_2)
    have cP_11_3 : w11.cell? ⟨w2.heap.size + 1, 3, none⟩ = some (Value.int IntKind.i64 c) := (hb11.cell (p := ⟨w2.heap.size + 1, 3, none⟩) (by first | omega | (simp; done) | (simp; omega))).trans ((World.cell?_alloc_lt _ _ ⟨w2.heap.size + 1, 3, none⟩ (by first | omega | (simp; done) | (simp; omega))).trans cP_8_3)
    have cP_11_4 : w11.cell? ⟨w2.heap.size + 1, 4, none⟩ = some (Value.int IntKind.i64 d) := (hb11.cell (p := ⟨w2.heap.size + 1, 4, none⟩) (by first | omega | (simp; done) | (simp; omega))).trans ((World.cell?_alloc_lt _ _ ⟨w2.heap.size + 1, 4, none⟩ (by first | omega | (simp; done) | (simp; omega))).trans cP_8_4)
    have cP_11_5 : w11.cell? ⟨w2.heap.size + 1, 5, none⟩ = some (Value.int IntKind.i64 l) := (hb11.cell (p := ⟨w2.heap.size + 1, 5, none⟩) (by first | omega | (simp; done) | (simp; omega))).trans ((World.cell?_alloc_lt _ _ ⟨w2.heap.size + 1, 5, none⟩ (by first | omega | (simp; done) | (simp; omega))).trans cP_8_5)
    have lP_11 : w2.heap.size + 1 < w11.heap.size := (by first | omega | (simp; done) | (simp; omega))
    have neP_11 : w2.heap.size + 1 ≠ w11.heap.size := by omega
    have neP_11b : w2.heap.size + 1 ≠ w11.heap.size + 1 := by omega
    have neP_11c : w11.heap.size ≠ w2.heap.size + 1 := by omega
    have neP_11d : w11.heap.size + 1 ≠ w2.heap.size + 1 := by omega
    have cQ_11_0 : w11.cell? ⟨w7.heap.size, 0, none⟩ = some (Value.int IntKind.i64 q1) := (hb11.cell (p := ⟨w7.heap.size, 0, none⟩) (by first | omega | (simp; done) | (simp; omega))).trans ((World.cell?_alloc_lt _ _ ⟨w7.heap.size, 0, none⟩ (by first | omega | (simp; done) | (simp; omega))).trans cQ_8_0)
    have cQ_11_1 : w11.cell? ⟨w7.heap.size, 1, none⟩ = some (Value.int IntKind.i64 q2) := (hb11.cell (p := ⟨w7.heap.size, 1, none⟩) (by first | omega | (simp; done) | (simp; omega))).trans ((World.cell?_alloc_lt _ _ ⟨w7.heap.size, 1, none⟩ (by first | omega | (simp; done) | (simp; omega))).trans cQ_8_1)
    have cQ_11_2 : w11.cell? ⟨w7.heap.size, 2, none⟩ = some (Value.int IntKind.i64 q3) := (hb11.cell (p := ⟨w7.heap.size, 2, none⟩) (by first | omega | (simp; done) | (simp; omega))).trans ((World.cell?_alloc_lt _ _ ⟨w7.heap.size, 2, none⟩ (by first | omega | (simp; done) | (simp; omega))).trans cQ_8_2)
    have cQ_11_3 : w11.cell? ⟨w7.heap.size, 3, none⟩ = some (Value.int IntKind.i64 q4) := (hb11.cell (p := ⟨w7.heap.size, 3, none⟩) (by first | omega | (simp; done) | (simp; omega))).trans ((World.cell?_alloc_lt _ _ ⟨w7.heap.size, 3, none⟩ (by first | omega | (simp; done) | (simp; omega))).trans cQ_8_3)
    have cQ_11_4 : w11.cell? ⟨w7.heap.size, 4, none⟩ = some (Value.int IntKind.i64 q5) := (hb11.cell (p := ⟨w7.heap.size, 4, none⟩) (by first | omega | (simp; done) | (simp; omega))).trans ((World.cell?_alloc_lt _ _ ⟨w7.heap.size, 4, none⟩ (by first | omega | (simp; done) | (simp; omega))).trans cQ_8_4)
    have cQ_11_5 : w11.cell? ⟨w7.heap.size, 5, none⟩ = some (Value.int IntKind.i64 q6) := (hb11.cell (p := ⟨w7.heap.size, 5, none⟩) (by first | omega | (simp; done) | (simp; omega))).trans ((World.cell?_alloc_lt _ _ ⟨w7.heap.size, 5, none⟩ (by first | omega | (simp; done) | (simp; omega))).trans cQ_8_5)
    have lQ_11 : w7.heap.size < w11.heap.size := (by first | omega | (simp; done) | (simp; omega))
    have neQ_11 : w7.heap.size ≠ w11.heap.size := by omega
    have neQ_11b : w7.heap.size ≠ w11.heap.size + 1 := by omega
    have neQ_11c : w11.heap.size ≠ w7.heap.size := by omega
    have neQ_11d : w11.heap.size + 1 ≠ w7.heap.size := by omega
    clear cA_8_0 cA_8_1 cA_8_2 cA_8_3 cA_8_4 cA_8_5 cA_8_6 cA_8_7 cB_8_0 cB_8_1 cB_8_2 cB_8_3 cB_8_4 cB_8_5 cB_8_6 cB_8_7 cP_8_0 cP_8_1 cP_8_2 cP_8_3 cP_8_4 cP_8_5 cC_8_0 cC_8_1 cC_8_2 cC_8_3 cC_8_4 cC_8_5 cC_8_6 cC_8_7 cQ_8_0 cQ_8_1 cQ_8_2 cQ_8_3 cQ_8_4 cQ_8_5
    cases v5
    case false =>
      go_wp2_with fail
      go_ret
      exact ⟨rfl, by (repeat (first | with_reducible exact Below.refl _ _ | with_reducible assumption | with_reducible refine below_drewN ?_ _ | with_reducible refine Below.drew ?_ | with_reducible refine Below.alloc ?_ (by first | omega | (simp; done) | (simp; omega)) _ | with_reducible refine Below.setCell ?_ (by first | omega | (simp; done) | (simp; omega)) _ | with_reducible refine Below.trans ?_ (Below.mono (by assumption) (by first | omega | (simp; done) | (simp; omega)))))⟩
    obtain ⟨he, hf⟩ := KY.out (by trivial) (by trivial)
    have KE := Lib.hid he
    have KF := Lib.hid hf
    clear he hf KY
    go_wp2_with fail
    refine (KE.out _ ?_).mono ?_
    · exact LT.below (w := w) hT (by (repeat (first | with_reducible exact Below.refl _ _ | with_reducible assumption | with_reducible refine below_drewN ?_ _ | with_reducible refine Below.drew ?_ | with_reducible refine Below.alloc ?_ (by first | omega | (simp; done) | (simp; omega)) _ | with_reducible refine Below.setCell ?_ (by first | omega | (simp; done) | (simp; omega)) _ | with_reducible refine Below.trans ?_ (Below.mono (by assumption) (by first | omega | (simp; done) | (simp; omega)))))) (Nat.le_refl _)
    rintro e w12 ⟨rfl, hb12⟩
    have z12 := hb12.size
    (try simp only [World.size_alloc] at z12)
    have cP_12_0 : w12.cell? ⟨w2.heap.size + 1, 0, none⟩ = some (Value.int IntKind.i64 a) := (hb12.cell (p := ⟨w2.heap.size + 1, 0, none⟩) (by first | omega | (simp; done) | (simp; omega))).trans ((World.cell?_alloc_lt _ _ ⟨w2.heap.size + 1, 0, none⟩ (by first | omega | (simp; done) | (simp; omega))).trans cP_11_0)
    have cP_12_1 : w12.cell? ⟨w2.heap.size + 1, 1, none⟩ = some (Value.int IntKind.i64 b) := (hb12.cell (p := ⟨w2.heap.size + 1, 1, none⟩) (by first | omega | (simp; done) | (simp; omega))).trans ((World.cell?_alloc_lt _ _ ⟨w2.heap.size + 1, 1, none⟩ (by first | omega | (simp; done) | (simp; omega))).trans cP_11_1)
    have cP_12_2 : w12.cell? ⟨w2.heap.size + 1, 2, none⟩ = some (Value.int IntKind.i64 k) := (hb12.cell (p := ⟨w2.heap.size + 1, 2, none⟩) (by first | omega | (simp; done) | (simp; omega))).trans ((World.cell?_alloc_lt _ _ ⟨w2.heap.size + 1, 2, none⟩ (by first | omega | (simp; done) | (simp; omega))).trans cP_11_2)
    have cP_12_3 : w12.cell? ⟨w2.heap.size + 1, 3, none⟩ = some (Value.int IntKind.i64 c) := (hb12.cell (p := ⟨w2.heap.size + 1, 3, none⟩) (by first | omega | (simp; done) | (simp; omega))).trans ((World.cell?_alloc_lt _ _ ⟨w2.heap.size + 1, 3, none⟩ (by first | omega | (simp; done) | (simp; omega))).trans cP_11_3)
    have cP_12_4 : w12.cell? ⟨w2.heap.size + 1, 4, none⟩ = some (Value.int IntKind.i64 d) := (hb12.cell (p := ⟨w2.heap.size + 1, 4, none⟩) (by first | omega | (simp; done) | (simp; omega))).trans ((World.cell?_alloc_lt _ _ ⟨w2.heap.size + 1, 4, none⟩ (by first | omega | (simp; done) | (simp; omega))).trans cP_11_4)
    have cP_12_5 : w12.cell? ⟨w2.heap.size + 1, 5, none⟩ = some (Value.int IntKind.i64 l) := (hb12.cell (p := ⟨w2.heap.size + 1, 5, none⟩) (by first | omega | (simp; done) | (simp; omega))).trans ((World.cell?_alloc_lt _ _ ⟨w2.heap.size + 1, 5, none⟩ (by first | omega | (simp; done) | (simp; omega))).trans cP_11_5)
    have lP_12 : w2.heap.size + 1 < w12.heap.size := (by first | omega | (simp; done) | (simp; omega))
    have neP_12 : w2.heap.size + 1 ≠ w12.heap.size := by omega
    have neP_12b : w2.heap.size + 1 ≠ w12.heap.size + 1 := by omega
    have neP_12c : w12.heap.size ≠ w2.heap.size + 1 := by omega
    have neP_12d : w12.heap.size + 1 ≠ w2.heap.size + 1 := by omega
    have cQ_12_0 : w12.cell? ⟨w7.heap.size, 0, none⟩ = some (Value.int IntKind.i64 q1) := (hb12.cell (p := ⟨w7.heap.size, 0, none⟩) (by first | omega | (simp; done) | (simp; omega))).trans ((World.cell?_alloc_lt _ _ ⟨w7.heap.size, 0, none⟩ (by first | omega | (simp; done) | (simp; omega))).trans cQ_11_0)
    have cQ_12_1 : w12.cell? ⟨w7.heap.size, 1, none⟩ = some (Value.int IntKind.i64 q2) := (hb12.cell (p := ⟨w7.heap.size, 1, none⟩) (by first | omega | (simp; done) | (simp; omega))).trans ((World.cell?_alloc_lt _ _ ⟨w7.heap.size, 1, none⟩ (by first | omega | (simp; done) | (simp; omega))).trans cQ_11_1)
    have cQ_12_2 : w12.cell? ⟨w7.heap.size, 2, none⟩ = some (Value.int IntKind.i64 q3) := (hb12.cell (p := ⟨w7.heap.size, 2, none⟩) (by first | omega | (simp; done) | (simp; omega))).trans ((World.cell?_alloc_lt _ _ ⟨w7.heap.size, 2, none⟩ (by first | omega | (simp; done) | (simp; omega))).trans cQ_11_2)
    have cQ_12_3 : w12.cell? ⟨w7.heap.size, 3, none⟩ = some (Value.int IntKind.i64 q4) := (hb12.cell (p := ⟨w7.heap.size, 3, none⟩) (by first | omega | (simp; done) | (simp; omega))).trans ((World.cell?_alloc_lt _ _ ⟨w7.heap.size, 3, none⟩ (by first | omega | (simp; done) | (simp; omega))).trans cQ_11_3)
    have cQ_12_4 : w12.cell? ⟨w7.heap.size, 4, none⟩ = some (Value.int IntKind.i64 q5) := (hb12.cell (p := ⟨w7.heap.size, 4, none⟩) (by first | omega | (simp; done) | (simp; omega))).trans ((World.cell?_alloc_lt _ _ ⟨w7.heap.size, 4, none⟩ (by first | omega | (simp; done) | (simp; omega))).trans cQ_11_4)
    have cQ_12_5 : w12.cell? ⟨w7.heap.size, 5, none⟩ = some (Value.int IntKind.i64 q6) := (hb12.cell (p := ⟨w7.heap.size, 5, none⟩) (by first | omega | (simp; done) | (simp; omega))).trans ((World.cell?_alloc_lt _ _ ⟨w7.heap.size, 5, none⟩ (by first | omega | (simp; done) | (simp; omega))).trans cQ_11_5)
    have lQ_12 : w7.heap.size < w12.heap.size := (by first | omega | (simp; done) | (simp; omega))
    have neQ_12 : w7.heap.size ≠ w12.heap.size := by omega
    have neQ_12b : w7.heap.size ≠ w12.heap.size + 1 := by omega
    have neQ_12c : w12.heap.size ≠ w7.heap.size := by omega
    have neQ_12d : w12.heap.size + 1 ≠ w7.heap.size := by omega
    have cD_12_0 : w12.cell? ⟨w11.heap.size, 0, none⟩ = some (Value.int IntKind.i64 dr) := (hb12.cell (p := ⟨w11.heap.size, 0, none⟩) (by first | omega | (simp; done) | (simp; omega))).trans (by simp [go_sem])
    have cD_12_1 : w12.cell? ⟨w11.heap.size, 1, none⟩ = some (Value.bool df) := (hb12.cell (p := ⟨w11.heap.size, 1, none⟩) (by first | omega | (simp; done) | (simp; omega))).trans (by simp [go_sem])
    have cD_12_2 : w12.cell? ⟨w11.heap.size, 2, none⟩ = some (Value.int IntKind.i64 d1) := (hb12.cell (p := ⟨w11.heap.size, 2, none⟩) (by first | omega | (simp; done) | (simp; omega))).trans (by simp [go_sem])
    have cD_12_3 : w12.cell? ⟨w11.heap.size, 3, none⟩ = some (Value.int IntKind.i64 d2) := (hb12.cell (p := ⟨w11.heap.size, 3, none⟩) (by first | omega | (simp; done) | (simp; omega))).trans (by simp [go_sem])
    have cD_12_4 : w12.cell? ⟨w11.heap.size, 4, none⟩ = some (Value.int IntKind.i64 d3) := (hb12.cell (p := ⟨w11.heap.size, 4, none⟩) (by first | omega | (simp; done) | (simp; omega))).trans (by simp [go_sem])
    have cD_12_5 : w12.cell? ⟨w11.heap.size, 5, none⟩ = some (Value.int IntKind.i64 d4) := (hb12.cell (p := ⟨w11.heap.size, 5, none⟩) (by first | omega | (simp; done) | (simp; omega))).trans (by simp [go_sem])
    have cD_12_6 : w12.cell? ⟨w11.heap.size, 6, none⟩ = some (Value.int IntKind.i64 d5) := (hb12.cell (p := ⟨w11.heap.size, 6, none⟩) (by first | omega | (simp; done) | (simp; omega))).trans (by simp [go_sem])
    have cD_12_7 : w12.cell? ⟨w11.heap.size, 7, none⟩ = some (Value.int IntKind.i64 d6) := (hb12.cell (p := ⟨w11.heap.size, 7, none⟩) (by first | omega | (simp; done) | (simp; omega))).trans (by simp [go_sem])
    have lD_12 : w11.heap.size < w12.heap.size := (by first | omega | (simp; done) | (simp; omega))
    have neD_12 : w11.heap.size ≠ w12.heap.size := by omega
    have neD_12b : w11.heap.size ≠ w12.heap.size + 1 := by omega
    have neD_12c : w12.heap.size ≠ w11.heap.size := by omega
    have neD_12d : w12.heap.size + 1 ≠ w11.heap.size := by omega
    clear cA_11_0 cA_11_1 cA_11_2 cA_11_3 cA_11_4 cA_11_5 cA_11_6 cA_11_7 cP_11_0 cP_11_1 cP_11_2 cP_11_3 cP_11_4 cP_11_5 cQ_11_0 cQ_11_1 cQ_11_2 cQ_11_3 cQ_11_4 cQ_11_5
    go_wp2_with fail
    refine (KF.out _ ?_).mono ?_
    · exact LT.below (w := w) hT (by (repeat (first | with_reducible exact Below.refl _ _ | with_reducible assumption | with_reducible refine below_drewN ?_ _ | with_reducible refine Below.drew ?_ | with_reducible refine Below.alloc ?_ (by first | omega | (simp; done) | (simp; omega)) _ | with_reducible refine Below.setCell ?_ (by first | omega | (simp; done) | (simp; omega)) _ | with_reducible refine Below.trans ?_ (Below.mono (by assumption) (by first | omega | (simp; done) | (simp; omega)))))) (Nat.le_refl _)
    rintro e w13 ⟨rfl, hb13⟩
    have z13 := hb13.size
    (try simp only [World.size_alloc] at z13)
    have cP_13_0 : w13.cell? ⟨w2.heap.size + 1, 0, none⟩ = some (Value.int IntKind.i64 a) := (hb13.cell (p := ⟨w2.heap.size + 1, 0, none⟩) (by first | omega | (simp; done) | (simp; omega))).trans ((World.cell?_alloc_lt _ _ ⟨w2.heap.size + 1, 0, none⟩ (by first | omega | (simp; done) | (simp; omega))).trans cP_12_0)
    have cP_13_1 : w13.cell? ⟨w2.heap.size + 1, 1, none⟩ = some (Value.int IntKind.i64 b) := (hb13.cell (p := ⟨w2.heap.size + 1, 1, none⟩) (by first | omega | (simp; done) | (simp; omega))).trans ((World.cell?_alloc_lt _ _ ⟨w2.heap.size + 1, 1, none⟩ (by first | omega | (simp; done) | (simp; omega))).trans cP_12_1)
    have cP_13_2 : w13.cell? ⟨w2.heap.size + 1, 2, none⟩ = some (Value.int IntKind.i64 k) := (hb13.cell (p := ⟨w2.heap.size + 1, 2, none⟩) (by first | omega | (simp; done) | (simp; omega))).trans ((World.cell?_alloc_lt _ _ ⟨w2.heap.size + 1, 2, none⟩ (by first | omega | (simp; done) | (simp; omega))).trans cP_12_2)
    have cP_13_3 : w13.cell? ⟨w2.heap.size + 1, 3, none⟩ = some (Value.int IntKind.i64 c) := (hb13.cell (p := ⟨w2.heap.size + 1, 3, none⟩) (by first | omega | (simp; done) | (simp; omega))).trans ((World.cell?_alloc_lt _ _ ⟨w2.heap.size + 1, 3, none⟩ (by first | omega | (simp; done) | (simp; omega))).trans cP_12_3)
    have cP_13_4 : w13.cell? ⟨w2.heap.size + 1, 4, none⟩ = some (Value.int IntKind.i64 d) := (hb13.cell (p := ⟨w2.heap.size + 1, 4, none⟩) (by first | omega | (simp; done) | (simp; omega))).trans ((World.cell?_alloc_lt _ _ ⟨w2.heap.size + 1, 4, none⟩ (by first | omega | (simp; done) | (simp; omega))).trans cP_12_4)
    have cP_13_5 : w13.cell? ⟨w2.heap.size + 1, 5, none⟩ = some (Value.int IntKind.i64 l) := (hb13.cell (p := ⟨w2.heap.size + 1, 5, none⟩) (by first | omega | (simp; done) | (simp; omega))).trans ((World.cell?_alloc_lt _ _ ⟨w2.heap.size + 1, 5, none⟩ (by first | omega | (simp; done) | (simp; omega))).trans cP_12_5)
    have lP_13 : w2.heap.size + 1 < w13.heap.size := (by first | omega | (simp; done) | (simp; omega))
    have neP_13 : w2.heap.size + 1 ≠ w13.heap.size := by omega
    have neP_13b : w2.heap.size + 1 ≠ w13.heap.size + 1 := by omega
    have neP_13c : w13.heap.size ≠ w2.heap.size + 1 := by omega
    have neP_13d : w13.heap.size + 1 ≠ w2.heap.size + 1 := by omega
    have cE_13_0 : w13.cell? ⟨w12.heap.size, 0, none⟩ = some (Value.int IntKind.i64 0) := (hb13.cell (p := ⟨w12.heap.size, 0, none⟩) (by first | omega | (simp; done) | (simp; omega))).trans (by simp [go_sem])
    have cE_13_1 : w13.cell? ⟨w12.heap.size, 1, none⟩ = some (Value.bool false) := (hb13.cell (p := ⟨w12.heap.size, 1, none⟩) (by first | omega | (simp; done) | (simp; omega))).trans (by simp [go_sem])
    have cE_13_2 : w13.cell? ⟨w12.heap.size, 2, none⟩ = some (Value.int IntKind.i64 0) := (hb13.cell (p := ⟨w12.heap.size, 2, none⟩) (by first | omega | (simp; done) | (simp; omega))).trans (by simp [go_sem])
    have cE_13_3 : w13.cell? ⟨w12.heap.size, 3, none⟩ = some (Value.int IntKind.i64 0) := (hb13.cell (p := ⟨w12.heap.size, 3, none⟩) (by first | omega | (simp; done) | (simp; omega))).trans (by simp [go_sem])
    have cE_13_4 : w13.cell? ⟨w12.heap.size, 4, none⟩ = some (Value.int IntKind.i64 0) := (hb13.cell (p := ⟨w12.heap.size, 4, none⟩) (by first | omega | (simp; done) | (simp; omega))).trans (by simp [go_sem])
    have cE_13_5 : w13.cell? ⟨w12.heap.size, 5, none⟩ = some (Value.int IntKind.i64 0) := (hb13.cell (p := ⟨w12.heap.size, 5, none⟩) (by first | omega | (simp; done) | (simp; omega))).trans (by simp [go_sem])
    have cE_13_6 : w13.cell? ⟨w12.heap.size, 6, none⟩ = some (Value.int IntKind.i64 0) := (hb13.cell (p := ⟨w12.heap.size, 6, none⟩) (by first | omega | (simp; done) | (simp; omega))).trans (by simp [go_sem])
    have cE_13_7 : w13.cell? ⟨w12.heap.size, 7, none⟩ = some (Value.int IntKind.i64 0) := (hb13.cell (p := ⟨w12.heap.size, 7, none⟩) (by first | omega | (simp; done) | (simp; omega))).trans (by simp [go_sem])
    have lE_13 : w12.heap.size < w13.heap.size := (by first | omega | (simp; done) | (simp; omega))
    have neE_13 : w12.heap.size ≠ w13.heap.size := by omega
    have neE_13b : w12.heap.size ≠ w13.heap.size + 1 := by omega
    have neE_13c : w13.heap.size ≠ w12.heap.size := by omega
    have neE_13d : w13.heap.size + 1 ≠ w12.heap.size := by omega
    clear cP_12_0 cP_12_1 cP_12_2 cP_12_3 cP_12_4 cP_12_5 cQ_12_0 cQ_12_1 cQ_12_2 cQ_12_3 cQ_12_4 cQ_12_5 cD_12_0 cD_12_1 cD_12_2 cD_12_3 cD_12_4 cD_12_5 cD_12_6 cD_12_7
    have p13 : w13.heap.size < w13.heap.size + 1 := by omega
    have rr_13 : w2.heap.size < w13.heap.size := by omega
    have rE_13 : w12.heap.size < w13.heap.size + 1 := by omega
    have rP_13 : w2.heap.size + 1 < w13.heap.size + 1 := by omega
    go_wp2_with fail
    go_region_held3 (fun w' => w'.cell? ⟨w12.heap.size, 0, none⟩ = some (Value.int IntKind.i64 0) ∧ w'.cell? ⟨w12.heap.size, 1, none⟩ = some (Value.bool false) ∧ w'.cell? ⟨w12.heap.size, 2, none⟩ = some (Value.int IntKind.i64 0) ∧ w'.cell? ⟨w12.heap.size, 3, none⟩ = some (Value.int IntKind.i64 0) ∧ w'.cell? ⟨w12.heap.size, 4, none⟩ = some (Value.int IntKind.i64 0) ∧ w'.cell? ⟨w12.heap.size, 5, none⟩ = some (Value.int IntKind.i64 0) ∧ w'.cell? ⟨w12.heap.size, 6, none⟩ = some (Value.int IntKind.i64 0) ∧ w'.cell? ⟨w12.heap.size, 7, none⟩ = some (Value.int IntKind.i64 0) ∧ w'.cell? ⟨w13.heap.size, 0, none⟩ = some (Value.int IntKind.i64 a) ∧ w'.cell? ⟨w13.heap.size, 1, none⟩ = some (Value.int IntKind.i64 b) ∧ w'.cell? ⟨w13.heap.size, 2, none⟩ = some (Value.int IntKind.i64 k) ∧ w'.cell? ⟨w13.heap.size, 3, none⟩ = some (Value.int IntKind.i64 c) ∧ w'.cell? ⟨w13.heap.size, 4, none⟩ = some (Value.int IntKind.i64 d) ∧ w'.cell? ⟨w13.heap.size, 5, none⟩ = some (Value.int IntKind.i64 l) ∧ w'.cell? ⟨w2.heap.size + 1, 0, none⟩ = some (Value.int IntKind.i64 a) ∧ w'.cell? ⟨w2.heap.size + 1, 1, none⟩ = some (Value.int IntKind.i64 b) ∧ w'.cell? ⟨w2.heap.size + 1, 2, none⟩ = some (Value.int IntKind.i64 k) ∧ w'.cell? ⟨w2.heap.size + 1, 3, none⟩ = some (Value.int IntKind.i64 c) ∧ w'.cell? ⟨w2.heap.size + 1, 4, none⟩ = some (Value.int IntKind.i64 d) ∧ w'.cell? ⟨w2.heap.size + 1, 5, none⟩ = some (Value.int IntKind.i64 l)) ((first | (go_simp; done) | (simp [*]; done)))
      ((first
      | (go_at_call 14; refine (iId_any _).mono ?_; rintro e w14 ⟨rfl, hb14⟩; (try replace hb14 := Below.undrew hb14); obtain ⟨hc14, hf14⟩ := bcell hb14; have hz14 := hb14.size; (try simp at hz14); (have lE_14 : w12.heap.size < w14.heap.size := (by omega)); (have lP_14 : w2.heap.size + 1 < w14.heap.size := (by omega)); (have lK_14 : w13.heap.size < w14.heap.size := (by omega)))))
    go_wp2_with fail
    go_ret
    exact ⟨rfl, by (repeat (first | with_reducible exact Below.refl _ _ | with_reducible assumption | with_reducible refine below_drewN ?_ _ | with_reducible refine Below.drew ?_ | with_reducible refine Below.alloc ?_ (by first | omega | (simp; done) | (simp; omega)) _ | with_reducible refine Below.setCell ?_ (by first | omega | (simp; done) | (simp; omega)) _ | with_reducible refine Below.trans ?_ (Below.mono (by assumption) (by first | omega | (simp; done) | (simp; omega)))))⟩
  obtain ⟨x1, x2, x3, x4, x5, x6, v3, h1, h2⟩ := KX.out (by trivial) (by trivial)
  have KG := Lib.hid h1
  have KH := Lib.hid h2
  clear h1 h2 KX
  go_wp2_with fail
  refine (KG.out _ ?_).mono ?_
  · exact LT.below (w := w) hT (by (repeat (first | with_reducible exact Below.refl _ _ | with_reducible assumption | with_reducible refine below_drewN ?_ _ | with_reducible refine Below.drew ?_ | with_reducible refine Below.alloc ?_ (by first | omega | (simp; done) | (simp; omega)) _ | with_reducible refine Below.setCell ?_ (by first | omega | (simp; done) | (simp; omega)) _ | with_reducible refine Below.trans ?_ (Below.mono (by assumption) (by first | omega | (simp; done) | (simp; omega)))))) (Nat.le_refl _)
  rintro e w9 ⟨rfl, hb9⟩
  have z9 := hb9.size
  (try simp only [World.size_alloc] at z9)
  have cA_9_0 : w9.cell? ⟨w1.heap.size, 0, none⟩ = some (Value.int IntKind.i64 t) := (hb9.cell (p := ⟨w1.heap.size, 0, none⟩) (by first | omega | (simp; done) | (simp; omega))).trans ((World.cell?_alloc_lt _ _ ⟨w1.heap.size, 0, none⟩ (by first | omega | (simp; done) | (simp; omega))).trans cA_8_0)
  have cA_9_1 : w9.cell? ⟨w1.heap.size, 1, none⟩ = some (Value.bool f) := (hb9.cell (p := ⟨w1.heap.size, 1, none⟩) (by first | omega | (simp; done) | (simp; omega))).trans ((World.cell?_alloc_lt _ _ ⟨w1.heap.size, 1, none⟩ (by first | omega | (simp; done) | (simp; omega))).trans cA_8_1)
  have cA_9_2 : w9.cell? ⟨w1.heap.size, 2, none⟩ = some (Value.int IntKind.i64 ma) := (hb9.cell (p := ⟨w1.heap.size, 2, none⟩) (by first | omega | (simp; done) | (simp; omega))).trans ((World.cell?_alloc_lt _ _ ⟨w1.heap.size, 2, none⟩ (by first | omega | (simp; done) | (simp; omega))).trans cA_8_2)
  have cA_9_3 : w9.cell? ⟨w1.heap.size, 3, none⟩ = some (Value.int IntKind.i64 mb) := (hb9.cell (p := ⟨w1.heap.size, 3, none⟩) (by first | omega | (simp; done) | (simp; omega))).trans ((World.cell?_alloc_lt _ _ ⟨w1.heap.size, 3, none⟩ (by first | omega | (simp; done) | (simp; omega))).trans cA_8_3)
  have cA_9_4 : w9.cell? ⟨w1.heap.size, 4, none⟩ = some (Value.int IntKind.i64 mk) := (hb9.cell (p := ⟨w1.heap.size, 4, none⟩) (by first | omega | (simp; done) | (simp; omega))).trans ((World.cell?_alloc_lt _ _ ⟨w1.heap.size, 4, none⟩ (by first | omega | (simp; done) | (simp; omega))).trans cA_8_4)
  have cA_9_5 : w9.cell? ⟨w1.heap.size, 5, none⟩ = some (Value.int IntKind.i64 mc) := (hb9.cell (p := ⟨w1.heap.size, 5, none⟩) (by first | omega | (simp; done) | (simp; omega))).trans ((World.cell?_alloc_lt _ _ ⟨w1.heap.size, 5, none⟩ (by first | omega | (simp; done) | (simp; omega))).trans cA_8_5)
  have cA_9_6 : w9.cell? ⟨w1.heap.size, 6, none⟩ = some (Value.int IntKind.i64 md) := (hb9.cell (p := ⟨w1.heap.size, 6, none⟩) (by first | omega | (simp; done) | (simp; omega))).trans ((World.cell?_alloc_lt _ _ ⟨w1.heap.size, 6, none⟩ (by first | omega | (simp; done) | (simp; omega))).trans cA_8_6)
  have cA_9_7 : w9.cell? ⟨w1.heap.size, 7, none⟩ = some (Value.int IntKind.i64 ml) := (hb9.cell (p := ⟨w1.heap.size, 7, none⟩) (by first | omega | (simp; done) | (simp; omega))).trans ((World.cell?_alloc_lt _ _ ⟨w1.heap.size, 7, none⟩ (by first | omega | (simp; done) | (simp; omega))).trans cA_8_7)
  have lA_9 : w1.heap.size < w9.heap.size := (by first | omega | (simp; done) | (simp; omega))
  have neA_9 : w1.heap.size ≠ w9.heap.size := by omega
  have neA_9b : w1.heap.size ≠ w9.heap.size + 1 := by omega
  have neA_9c : w9.heap.size ≠ w1.heap.size := by omega
  have neA_9d : w9.heap.size + 1 ≠ w1.heap.size := by omega
  have cP_9_0 : w9.cell? ⟨w2.heap.size + 1, 0, none⟩ = some (Value.int IntKind.i64 a) := (hb9.cell (p := ⟨w2.heap.size + 1, 0, none⟩) (by first | omega | (simp; done) | (simp; omega))).trans ((World.cell?_alloc_lt _ _ ⟨w2.heap.size + 1, 0, none⟩ (by first | omega | (simp; done) | (simp; omega))).trans cP_8_0)
  have cP_9_1 : w9.cell? ⟨w2.heap.size + 1, 1, none⟩ = some (Value.int IntKind.i64 b) := (hb9.cell (p := ⟨w2.heap.size + 1, 1, none⟩) (by first | omega | (simp; done) | (simp; omega))).trans ((World.cell?_alloc_lt _ _ ⟨w2.heap.size + 1, 1, none⟩ (by first | omega | (simp; done) | (simp; omega))).trans cP_8_1)
  have cP_9_2 : w9.cell? ⟨w2.heap.size + 1, 2, none⟩ = some (Value.int IntKind.i64 k) := (hb9.cell (p := ⟨w2.heap.size + 1, 2, none⟩) (by first | omega | (simp; done) | (simp; omega))).trans ((World.cell?_alloc_lt _ _ ⟨w2.heap.size + 1, 2, none⟩ (by first | omega | (simp; done) | (simp; omega))).trans cP_8_2)
  have cP_9_3 : w9.cell? ⟨w2.heap.size + 1, 3, none⟩ = some (Value.int IntKind.i64 c) := (hb9.cell (p := ⟨w2.heap.size + 1, 3, none⟩) (by first | omega | (simp; done) | (simp; omega))).trans ((World.cell?_alloc_lt _ _ ⟨w2.heap.size + 1, 3, none⟩ (by first | omega | (simp; done) | (simp; omega))).trans cP_8_3)
  have cP_9_4 : w9.cell? ⟨w2.heap.size + 1, 4, none⟩ = some (Value.int IntKind.i64 d) := (hb9.cell (p := ⟨w2.heap.size + 1, 4, none⟩) (by first | omega | (simp; done) | (simp; omega))).trans ((World.cell?_alloc_lt _ _ ⟨w2.heap.size + 1, 4, none⟩ (by first | omega | (simp; done) | (simp; omega))).trans cP_8_4)
  have cP_9_5 : w9.cell? ⟨w2.heap.size + 1, 5, none⟩ = some (Value.int IntKind.i64 l) := (hb9.cell (p := ⟨w2.heap.size + 1, 5, none⟩) (by first | omega | (simp; done) | (simp; omega))).trans ((World.cell?_alloc_lt _ _ ⟨w2.heap.size + 1, 5, none⟩ (by first | omega | (simp; done) | (simp; omega))).trans cP_8_5)
  have lP_9 : w2.heap.size + 1 < w9.heap.size := (by first | omega | (simp; done) | (simp; omega))
  have neP_9 : w2.heap.size + 1 ≠ w9.heap.size := by omega
  have neP_9b : w2.heap.size + 1 ≠ w9.heap.size + 1 := by omega
  have neP_9c : w9.heap.size ≠ w2.heap.size + 1 := by omega
  have neP_9d : w9.heap.size + 1 ≠ w2.heap.size + 1 := by omega
  have cC_9_0 : w9.cell? ⟨w6.heap.size, 0, none⟩ = some (Value.int IntKind.i64 cr) := (hb9.cell (p := ⟨w6.heap.size, 0, none⟩) (by first | omega | (simp; done) | (simp; omega))).trans ((World.cell?_alloc_lt _ _ ⟨w6.heap.size, 0, none⟩ (by first | omega | (simp; done) | (simp; omega))).trans cC_8_0)
  have cC_9_1 : w9.cell? ⟨w6.heap.size, 1, none⟩ = some (Value.bool cf) := (hb9.cell (p := ⟨w6.heap.size, 1, none⟩) (by first | omega | (simp; done) | (simp; omega))).trans ((World.cell?_alloc_lt _ _ ⟨w6.heap.size, 1, none⟩ (by first | omega | (simp; done) | (simp; omega))).trans cC_8_1)
  have cC_9_2 : w9.cell? ⟨w6.heap.size, 2, none⟩ = some (Value.int IntKind.i64 c1) := (hb9.cell (p := ⟨w6.heap.size, 2, none⟩) (by first | omega | (simp; done) | (simp; omega))).trans ((World.cell?_alloc_lt _ _ ⟨w6.heap.size, 2, none⟩ (by first | omega | (simp; done) | (simp; omega))).trans cC_8_2)
  have cC_9_3 : w9.cell? ⟨w6.heap.size, 3, none⟩ = some (Value.int IntKind.i64 c2) := (hb9.cell (p := ⟨w6.heap.size, 3, none⟩) (by first | omega | (simp; done) | (simp; omega))).trans ((World.cell?_alloc_lt _ _ ⟨w6.heap.size, 3, none⟩ (by first | omega | (simp; done) | (simp; omega))).trans cC_8_3)
  have cC_9_4 : w9.cell? ⟨w6.heap.size, 4, none⟩ = some (Value.int IntKind.i64 c3) := (hb9.cell (p := ⟨w6.heap.size, 4, none⟩) (by first | omega | (simp; done) | (simp; omega))).trans ((World.cell?_alloc_lt _ _ ⟨w6.heap.size, 4, none⟩ (by first | omega | (simp; done) | (simp; omega))).trans cC_8_4)
  have cC_9_5 : w9.cell? ⟨w6.heap.size, 5, none⟩ = some (Value.int IntKind.i64 c4) := (hb9.cell (p := ⟨w6.heap.size, 5, none⟩) (by first | omega | (simp; done) | (simp; omega))).trans ((World.cell?_alloc_lt _ _ ⟨w6.heap.size, 5, none⟩ (by first | omega | (simp; done) | (simp; omega))).trans cC_8_5)
  have cC_9_6 : w9.cell? ⟨w6.heap.size, 6, none⟩ = some (Value.int IntKind.i64 c5) := (hb9.cell (p := ⟨w6.heap.size, 6, none⟩) (by first | omega | (simp; done) | (simp; omega))).trans ((World.cell?_alloc_lt _ _ ⟨w6.heap.size, 6, none⟩ (by first | omega | (simp; done) | (simp; omega))).trans cC_8_6)
  have cC_9_7 : w9.cell? ⟨w6.heap.size, 7, none⟩ = some (Value.int IntKind.i64 c6) := (hb9.cell (p := ⟨w6.heap.size, 7, none⟩) (by first | omega | (simp; done) | (simp; omega))).trans ((World.cell?_alloc_lt _ _ ⟨w6.heap.size, 7, none⟩ (by first | omega | (simp; done) | (simp; omega))).trans cC_8_7)
  have lC_9 : w6.heap.size < w9.heap.size := (by first | omega | (simp; done) | (simp; omega))
  have neC_9 : w6.heap.size ≠ w9.heap.size := by omega
  have neC_9b : w6.heap.size ≠ w9.heap.size + 1 := by omega
  have neC_9c : w9.heap.size ≠ w6.heap.size := by omega
  have neC_9d : w9.heap.size + 1 ≠ w6.heap.size := by omega
  have cQ_9_0 : w9.cell? ⟨w7.heap.size, 0, none⟩ = some (Value.int IntKind.i64 q1) := (hb9.cell (p := ⟨w7.heap.size, 0, none⟩) (by first | omega | (simp; done) | (simp; omega))).trans ((World.cell?_alloc_lt _ _ ⟨w7.heap.size, 0, none⟩ (by first | omega | (simp; done) | (simp; omega))).trans cQ_8_0)
  have cQ_9_1 : w9.cell? ⟨w7.heap.size, 1, none⟩ = some (Value.int IntKind.i64 q2) := (hb9.cell (p := ⟨w7.heap.size, 1, none⟩) (by first | omega | (simp; done) | (simp; omega))).trans ((World.cell?_alloc_lt _ _ ⟨w7.heap.size, 1, none⟩ (by first | omega | (simp; done) | (simp; omega))).trans cQ_8_1)
  have cQ_9_2 : w9.cell? ⟨w7.heap.size, 2, none⟩ = some (Value.int IntKind.i64 q3) := (hb9.cell (p := ⟨w7.heap.size, 2, none⟩) (by first | omega | (simp; done) | (simp; omega))).trans ((World.cell?_alloc_lt _ _ ⟨w7.heap.size, 2, none⟩ (by first | omega | (simp; done) | (simp; omega))).trans cQ_8_2)
  have cQ_9_3 : w9.cell? ⟨w7.heap.size, 3, none⟩ = some (Value.int IntKind.i64 q4) := (hb9.cell (p := ⟨w7.heap.size, 3, none⟩) (by first | omega | (simp; done) | (simp; omega))).trans ((World.cell?_alloc_lt _ _ ⟨w7.heap.size, 3, none⟩ (by first | omega | (simp; done) | (simp; omega))).trans cQ_8_3)
  have cQ_9_4 : w9.cell? ⟨w7.heap.size, 4, none⟩ = some (Value.int IntKind.i64 q5) := (hb9.cell (p := ⟨w7.heap.size, 4, none⟩) (by first | omega | (simp; done) | (simp; omega))).trans ((World.cell?_alloc_lt _ _ ⟨w7.heap.size, 4, none⟩ (by first | omega | (simp; done) | (simp; omega))).trans cQ_8_4)
  have cQ_9_5 : w9.cell? ⟨w7.heap.size, 5, none⟩ = some (Value.int IntKind.i64 q6) := (hb9.cell (p := ⟨w7.heap.size, 5, none⟩) (by first | omega | (simp; done) | (simp; omega))).trans ((World.cell?_alloc_lt _ _ ⟨w7.heap.size, 5, none⟩ (by first | omega | (simp; done) | (simp; omega))).trans cQ_8_5)
  have lQ_9 : w7.heap.size < w9.heap.size := (by first | omega | (simp; done) | (simp; omega))
  have neQ_9 : w7.heap.size ≠ w9.heap.size := by omega
  have neQ_9b : w7.heap.size ≠ w9.heap.size + 1 := by omega
  have neQ_9c : w9.heap.size ≠ w7.heap.size := by omega
  have neQ_9d : w9.heap.size + 1 ≠ w7.heap.size := by omega
  clear cA_8_0 cA_8_1 cA_8_2 cA_8_3 cA_8_4 cA_8_5 cA_8_6 cA_8_7 cB_8_0 cB_8_1 cB_8_2 cB_8_3 cB_8_4 cB_8_5 cB_8_6 cB_8_7 cP_8_0 cP_8_1 cP_8_2 cP_8_3 cP_8_4 cP_8_5 cC_8_0 cC_8_1 cC_8_2 cC_8_3 cC_8_4 cC_8_5 cC_8_6 cC_8_7 cQ_8_0 cQ_8_1 cQ_8_2 cQ_8_3 cQ_8_4 cQ_8_5
  go_wp2_with fail
  refine (KH.out _ ?_).mono ?_
  · exact LT.below (w := w) hT (by (repeat (first | with_reducible exact Below.refl _ _ | with_reducible assumption | with_reducible refine below_drewN ?_ _ | with_reducible refine Below.drew ?_ | with_reducible refine Below.alloc ?_ (by first | omega | (simp; done) | (simp; omega)) _ | with_reducible refine Below.setCell ?_ (by first | omega | (simp; done) | (simp; omega)) _ | with_reducible refine Below.trans ?_ (Below.mono (by assumption) (by first | omega | (simp; done) | (simp; omega)))))) (Nat.le_refl _)
  rintro e w10 ⟨rfl, hb10⟩
  have z10 := hb10.size
  (try simp only [World.size_alloc] at z10)
  have cA_10_0 : w10.cell? ⟨w1.heap.size, 0, none⟩ = some (Value.int IntKind.i64 t) := (hb10.cell (p := ⟨w1.heap.size, 0, none⟩) (by first | omega | (simp; done) | (simp; omega))).trans ((World.cell?_alloc_lt _ _ ⟨w1.heap.size, 0, none⟩ (by first | omega | (simp; done) | (simp; omega))).trans cA_9_0)
  have cA_10_1 : w10.cell? ⟨w1.heap.size, 1, none⟩ = some (Value.bool f) := (hb10.cell (p := ⟨w1.heap.size, 1, none⟩) (by first | omega | (simp; done) | (simp; omega))).trans ((World.cell?_alloc_lt _ _ ⟨w1.heap.size, 1, none⟩ (by first | omega | (simp; done) | (simp; omega))).trans cA_9_1)
  have cA_10_2 : w10.cell? ⟨w1.heap.size, 2, none⟩ = some (Value.int IntKind.i64 ma) := (hb10.cell (p := ⟨w1.heap.size, 2, none⟩) (by first | omega | (simp; done) | (simp; omega))).trans ((World.cell?_alloc_lt _ _ ⟨w1.heap.size, 2, none⟩ (by first | omega | (simp; done) | (simp; omega))).trans cA_9_2)
  have cA_10_3 : w10.cell? ⟨w1.heap.size, 3, none⟩ = some (Value.int IntKind.i64 mb) := (hb10.cell (p := ⟨w1.heap.size, 3, none⟩) (by first | omega | (simp; done) | (simp; omega))).trans ((World.cell?_alloc_lt _ _ ⟨w1.heap.size, 3, none⟩ (by first | omega | (simp; done) | (simp; omega))).trans cA_9_3)
  have cA_10_4 : w10.cell? ⟨w1.heap.size, 4, none⟩ = some (Value.int IntKind.i64 mk) := (hb10.cell (p := ⟨w1.heap.size, 4, none⟩) (by first | omega | (simp; done) | (simp; omega))).trans ((World.cell?_alloc_lt _ _ ⟨w1.heap.size, 4, none⟩ (by first | omega | (simp; done) | (simp; omega))).trans cA_9_4)
  have cA_10_5 : w10.cell? ⟨w1.heap.size, 5, none⟩ = some (Value.int IntKind.i64 mc) := (hb10.cell (p := ⟨w1.heap.size, 5, none⟩) (by first | omega | (simp; done) | (simp; omega))).trans ((World.cell?_alloc_lt _ _ ⟨w1.heap.size, 5, none⟩ (by first | omega | (simp; done) | (simp; omega))).trans cA_9_5)
  have cA_10_6 : w10.cell? ⟨w1.heap.size, 6, none⟩ = some (Value.int IntKind.i64 md) := (hb10.cell (p := ⟨w1.heap.size, 6, none⟩) (by first | omega | (simp; done) | (simp; omega))).trans ((World.cell?_alloc_lt _ _ ⟨w1.heap.size, 6, none⟩ (by first | omega | (simp; done) | (simp; omega))).trans cA_9_6)
  have cA_10_7 : w10.cell? ⟨w1.heap.size, 7, none⟩ = some (Value.int IntKind.i64 ml) := (hb10.cell (p := ⟨w1.heap.size, 7, none⟩) (by first | omega | (simp; done) | (simp; omega))).trans ((World.cell?_alloc_lt _ _ ⟨w1.heap.size, 7, none⟩ (by first | omega | (simp; done) | (simp; omega))).trans cA_9_7)
  have lA_10 : w1.heap.size < w10.heap.size := (by first | omega | (simp; done) | (simp; omega))
  have neA_10 : w1.heap.size ≠ w10.heap.size := by omega
  have neA_10b : w1.heap.size ≠ w10.heap.size + 1 := by omega
  have neA_10c : w10.heap.size ≠ w1.heap.size := by omega
  have neA_10d : w10.heap.size + 1 ≠ w1.heap.size := by omega
  have cP_10_0 : w10.cell? ⟨w2.heap.size + 1, 0, none⟩ = some (Value.int IntKind.i64 a) := (hb10.cell (p := ⟨w2.heap.size + 1, 0, none⟩) (by first | omega | (simp; done) | (simp; omega))).trans ((World.cell?_alloc_lt _ _ ⟨w2.heap.size + 1, 0, none⟩ (by first | omega | (simp; done) | (simp; omega))).trans cP_9_0)
  have cP_10_1 : w10.cell? ⟨w2.heap.size + 1, 1, none⟩ = some (Value.int IntKind.i64 b) := (hb10.cell (p := ⟨w2.heap.size + 1, 1, none⟩) (by first | omega | (simp; done) | (simp; omega))).trans ((World.cell?_alloc_lt _ _ ⟨w2.heap.size + 1, 1, none⟩ (by first | omega | (simp; done) | (simp; omega))).trans cP_9_1)
  have cP_10_2 : w10.cell? ⟨w2.heap.size + 1, 2, none⟩ = some (Value.int IntKind.i64 k) := (hb10.cell (p := ⟨w2.heap.size + 1, 2, none⟩) (by first | omega | (simp; done) | (simp; omega))).trans ((World.cell?_alloc_lt _ _ ⟨w2.heap.size + 1, 2, none⟩ (by first | omega | (simp; done) | (simp; omega))).trans cP_9_2)
  have cP_10_3 : w10.cell? ⟨w2.heap.size + 1, 3, none⟩ = some (Value.int IntKind.i64 c) := (hb10.cell (p := ⟨w2.heap.size + 1, 3, none⟩) (by first | omega | (simp; done) | (simp; omega))).trans ((World.cell?_alloc_lt _ _ ⟨w2.heap.size + 1, 3, none⟩ (by first | omega | (simp; done) | (simp; omega))).trans cP_9_3)
  have cP_10_4 : w10.cell? ⟨w2.heap.size + 1, 4, none⟩ = some (Value.int IntKind.i64 d) := (hb10.cell (p := ⟨w2.heap.size + 1, 4, none⟩) (by first | omega | (simp; done) | (simp; omega))).trans ((World.cell?_alloc_lt _ _ ⟨w2.heap.size + 1, 4, none⟩ (by first | omega | (simp; done) | (simp; omega))).trans cP_9_4)
  have cP_10_5 : w10.cell? ⟨w2.heap.size + 1, 5, none⟩ = some (Value.int IntKind.i64 l) := (hb10.cell (p := ⟨w2.heap.size + 1, 5, none⟩) (by first | omega | (simp; done) | (simp; omega))).trans ((World.cell?_alloc_lt _ _ ⟨w2.heap.size + 1, 5, none⟩ (by first | omega | (simp; done) | (simp; omega))).trans cP_9_5)
  have lP_10 : w2.heap.size + 1 < w10.heap.size := (by first | omega | (simp; done) | (simp; omega))
  have neP_10 : w2.heap.size + 1 ≠ w10.heap.size := by omega
  have neP_10b : w2.heap.size + 1 ≠ w10.heap.size + 1 := by omega
  have neP_10c : w10.heap.size ≠ w2.heap.size + 1 := by omega
  have neP_10d : w10.heap.size + 1 ≠ w2.heap.size + 1 := by omega
  have cQ_10_0 : w10.cell? ⟨w7.heap.size, 0, none⟩ = some (Value.int IntKind.i64 q1) := (hb10.cell (p := ⟨w7.heap.size, 0, none⟩) (by first | omega | (simp; done) | (simp; omega))).trans ((World.cell?_alloc_lt _ _ ⟨w7.heap.size, 0, none⟩ (by first | omega | (simp; done) | (simp; omega))).trans cQ_9_0)
  have cQ_10_1 : w10.cell? ⟨w7.heap.size, 1, none⟩ = some (Value.int IntKind.i64 q2) := (hb10.cell (p := ⟨w7.heap.size, 1, none⟩) (by first | omega | (simp; done) | (simp; omega))).trans ((World.cell?_alloc_lt _ _ ⟨w7.heap.size, 1, none⟩ (by first | omega | (simp; done) | (simp; omega))).trans cQ_9_1)
  have cQ_10_2 : w10.cell? ⟨w7.heap.size, 2, none⟩ = some (Value.int IntKind.i64 q3) := (hb10.cell (p := ⟨w7.heap.size, 2, none⟩) (by first | omega | (simp; done) | (simp; omega))).trans ((World.cell?_alloc_lt _ _ ⟨w7.heap.size, 2, none⟩ (by first | omega | (simp; done) | (simp; omega))).trans cQ_9_2)
  have cQ_10_3 : w10.cell? ⟨w7.heap.size, 3, none⟩ = some (Value.int IntKind.i64 q4) := (hb10.cell (p := ⟨w7.heap.size, 3, none⟩) (by first | omega | (simp; done) | (simp; omega))).trans ((World.cell?_alloc_lt _ _ ⟨w7.heap.size, 3, none⟩ (by first | omega | (simp; done) | (simp; omega))).trans cQ_9_3)
  have cQ_10_4 : w10.cell? ⟨w7.heap.size, 4, none⟩ = some (Value.int IntKind.i64 q5) := (hb10.cell (p := ⟨w7.heap.size, 4, none⟩) (by first | omega | (simp; done) | (simp; omega))).trans ((World.cell?_alloc_lt _ _ ⟨w7.heap.size, 4, none⟩ (by first | omega | (simp; done) | (simp; omega))).trans cQ_9_4)
  have cQ_10_5 : w10.cell? ⟨w7.heap.size, 5, none⟩ = some (Value.int IntKind.i64 q6) := (hb10.cell (p := ⟨w7.heap.size, 5, none⟩) (by first | omega | (simp; done) | (simp; omega))).trans ((World.cell?_alloc_lt _ _ ⟨w7.heap.size, 5, none⟩ (by first | omega | (simp; done) | (simp; omega))).trans cQ_9_5)
  have lQ_10 : w7.heap.size < w10.heap.size := (by first | omega | (simp; done) | (simp; omega))
  have neQ_10 : w7.heap.size ≠ w10.heap.size := by omega
  have neQ_10b : w7.heap.size ≠ w10.heap.size + 1 := by omega
  have neQ_10c : w10.heap.size ≠ w7.heap.size := by omega
  have neQ_10d : w10.heap.size + 1 ≠ w7.heap.size := by omega
  have cX_10_0 : w10.cell? ⟨w9.heap.size, 0, none⟩ = some (Value.int IntKind.i64 x1) := (hb10.cell (p := ⟨w9.heap.size, 0, none⟩) (by first | omega | (simp; done) | (simp; omega))).trans (by simp [go_sem])
  have cX_10_1 : w10.cell? ⟨w9.heap.size, 1, none⟩ = some (Value.int IntKind.i64 x2) := (hb10.cell (p := ⟨w9.heap.size, 1, none⟩) (by first | omega | (simp; done) | (simp; omega))).trans (by simp [go_sem])
  have cX_10_2 : w10.cell? ⟨w9.heap.size, 2, none⟩ = some (Value.int IntKind.i64 x3) := (hb10.cell (p := ⟨w9.heap.size, 2, none⟩) (by first | omega | (simp; done) | (simp; omega))).trans (by simp [go_sem])
  have cX_10_3 : w10.cell? ⟨w9.heap.size, 3, none⟩ = some (Value.int IntKind.i64 x4) := (hb10.cell (p := ⟨w9.heap.size, 3, none⟩) (by first | omega | (simp; done) | (simp; omega))).trans (by simp [go_sem])
  have cX_10_4 : w10.cell? ⟨w9.heap.size, 4, none⟩ = some (Value.int IntKind.i64 x5) := (hb10.cell (p := ⟨w9.heap.size, 4, none⟩) (by first | omega | (simp; done) | (simp; omega))).trans (by simp [go_sem])
  have cX_10_5 : w10.cell? ⟨w9.heap.size, 5, none⟩ = some (Value.int IntKind.i64 x6) := (hb10.cell (p := ⟨w9.heap.size, 5, none⟩) (by first | omega | (simp; done) | (simp; omega))).trans (by simp [go_sem])
  have lX_10 : w9.heap.size < w10.heap.size := (by first | omega | (simp; done) | (simp; omega))
  have neX_10 : w9.heap.size ≠ w10.heap.size := by omega
  have neX_10b : w9.heap.size ≠ w10.heap.size + 1 := by omega
  have neX_10c : w10.heap.size ≠ w9.heap.size := by omega
  have neX_10d : w10.heap.size + 1 ≠ w9.heap.size := by omega
  clear cA_9_0 cA_9_1 cA_9_2 cA_9_3 cA_9_4 cA_9_5 cA_9_6 cA_9_7 cP_9_0 cP_9_1 cP_9_2 cP_9_3 cP_9_4 cP_9_5 cC_9_0 cC_9_1 cC_9_2 cC_9_3 cC_9_4 cC_9_5 cC_9_6 cC_9_7 cQ_9_0 cQ_9_1 cQ_9_2 cQ_9_3 cQ_9_4 cQ_9_5
  cases v3
  all_goals
    go_wp2_with fail
    refine (KD.out _ ?_).mono ?_
    · exact LT.below (w := w) hT (by (repeat (first | with_reducible exact Below.refl _ _ | with_reducible assumption | with_reducible refine below_drewN ?_ _ | with_reducible refine Below.drew ?_ | with_reducible refine Below.alloc ?_ (by first | omega | (simp; done) | (simp; omega)) _ | with_reducible refine Below.setCell ?_ (by first | omega | (simp; done) | (simp; omega)) _ | with_reducible refine Below.trans ?_ (Below.mono (by assumption) (by first | omega | (simp; done) | (simp; omega)))))) (Nat.le_refl _)
    rintro e w11 ⟨rfl, hb11⟩
    have z11 := hb11.size
    (try simp only [World.size_alloc] at z11)
    have cA_11_0 : w11.cell? ⟨w1.heap.size, 0, none⟩ = some (Value.int IntKind.i64 t) := (hb11.cell (p := ⟨w1.heap.size, 0, none⟩) (by first | omega | (simp; done) | (simp; omega))).trans ((World.cell?_alloc_lt _ _ ⟨w1.heap.size, 0, none⟩ (by first | omega | (simp; done) | (simp; omega))).trans cA_10_0)
    have cA_11_1 : w11.cell? ⟨w1.heap.size, 1, none⟩ = some (Value.bool f) := (hb11.cell (p := ⟨w1.heap.size, 1, none⟩) (by first | omega | (simp; done) | (simp; omega))).trans ((World.cell?_alloc_lt _ _ ⟨w1.heap.size, 1, none⟩ (by first | omega | (simp; done) | (simp; omega))).trans cA_10_1)
    have cA_11_2 : w11.cell? ⟨w1.heap.size, 2, none⟩ = some (Value.int IntKind.i64 ma) := (hb11.cell (p := ⟨w1.heap.size, 2, none⟩) (by first | omega | (simp; done) | (simp; omega))).trans ((World.cell?_alloc_lt _ _ ⟨w1.heap.size, 2, none⟩ (by first | omega | (simp; done) | (simp; omega))).trans cA_10_2)
    have cA_11_3 : w11.cell? ⟨w1.heap.size, 3, none⟩ = some (Value.int IntKind.i64 mb) := (hb11.cell (p := ⟨w1.heap.size, 3, none⟩) (by first | omega | (simp; done) | (simp; omega))).trans ((World.cell?_alloc_lt _ _ ⟨w1.heap.size, 3, none⟩ (by first | omega | (simp; done) | (simp; omega))).trans cA_10_3)
    have cA_11_4 : w11.cell? ⟨w1.heap.size, 4, none⟩ = some (Value.int IntKind.i64 mk) := (hb11.cell (p := ⟨w1.heap.size, 4, none⟩) (by first | omega | (simp; done) | (simp; omega))).trans ((World.cell?_alloc_lt _ _ ⟨w1.heap.size, 4, none⟩ (by first | omega | (simp; done) | (simp; omega))).trans cA_10_4)
    have cA_11_5 : w11.cell? ⟨w1.heap.size, 5, none⟩ = some (Value.int IntKind.i64 mc) := (hb11.cell (p := ⟨w1.heap.size, 5, none⟩) (by first | omega | (simp; done) | (simp; omega))).trans ((World.cell?_alloc_lt _ _ ⟨w1.heap.size, 5, none⟩ (by first | omega | (simp; done) | (simp; omega))).trans cA_10_5)
    have cA_11_6 : w11.cell? ⟨w1.heap.size, 6, none⟩ = some (Value.int IntKind.i64 md) := (hb11.cell (p := ⟨w1.heap.size, 6, none⟩) (by first | omega | (simp; done) | (simp; omega))).trans ((World.cell?_alloc_lt _ _ ⟨w1.heap.size, 6, none⟩ (by first | omega | (simp; done) | (simp; omega))).trans cA_10_6)
    have cA_11_7 : w11.cell? ⟨w1.heap.size, 7, none⟩ = some (Value.int IntKind.i64 ml) := (hb11.cell (p := ⟨w1.heap.size, 7, none⟩) (by first | omega | (simp; done) | (simp; omega))).trans ((World.cell?_alloc_lt _ _ ⟨w1.heap.size, 7, none⟩ (by first | omega | (simp; done) | (simp; omega))).trans cA_10_7)
    have lA_11 : w1.heap.size < w11.heap.size := (by first | omega | (simp; done) | (simp; omega))
    have neA_11 : w1.heap.size ≠ w11.heap.size := by omega
    have neA_11b : w1.heap.size ≠ w11.heap.size + 1 := by omega
    have neA_11c : w11.heap.size ≠ w1.heap.size := by omega
    have neA_11d : w11.heap.size + 1 ≠ w1.heap.size := by omega
    have cP_11_0 : w11.cell? ⟨w2.heap.size + 1, 0, none⟩ = some (Value.int IntKind.i64 a) := (hb11.cell (p := ⟨w2.heap.size + 1, 0, none⟩) (by first | omega | (simp; done) | (simp; omega))).trans ((World.cell?_alloc_lt _ _ ⟨w2.heap.size + 1, 0, none⟩ (by first | omega | (simp; done) | (simp; omega))).trans cP_10_0)
    have cP_11_1 : w11.cell? ⟨w2.heap.size + 1, 1, none⟩ = some (Value.int IntKind.i64 b) := (hb11.cell (p := ⟨w2.heap.size + 1, 1, none⟩) (by first | omega | (simp; done) | (simp; omega))).trans ((World.cell?_alloc_lt _ _ ⟨w2.heap.size + 1, 1, none⟩ (by first | omega | (simp; done) | (simp; omega))).trans cP_10_1)
    have cP_11_2 : w11.cell? ⟨w2.heap.size + 1, 2, none⟩ = some (Value.int IntKind.i64 k) := (hb11.cell (p := ⟨w2.heap.size + 1, 2, none⟩) (by first | omega | (simp; done) | (simp; omega))).trans ((World.cell?_alloc_lt _ _ ⟨w2.heap.size + 1, 2, none⟩ (by first | omega | (simp; done) | (simp; omega))).trans cP_10_2)
    have cP_11_3 : w11.cell? ⟨w2.heap.size + 1, 3, none⟩ = some (Value.int IntKind.i64 c) := (hb11.cell (p := ⟨w2.heap.size + 1, 3, none⟩) (by first | omega | (simp; done) | (simp; omega))).trans ((World.cell?_alloc_lt _ _ ⟨w2.heap.size + 1, 3, none⟩ (by first | omega | (simp; done) | (simp; omega))).trans cP_10_3)
    have cP_11_4 : w11.cell? ⟨w2.heap.size + 1, 4, none⟩ = some (Value.int IntKind.i64 d) := (hb11.cell (p := ⟨w2.heap.size + 1, 4, none⟩) (by first | omega | (simp; done) | (simp; omega))).trans ((World.cell?_alloc_lt _ _ ⟨w2.heap.size + 1, 4, none⟩ (by first | omega | (simp; done) | (simp; omega))).trans cP_10_4)
    have cP_11_5 : w11.cell? ⟨w2.heap.size + 1, 5, none⟩ = some (Value.int IntKind.i64 l) := (hb11.cell (p := ⟨w2.heap.size + 1, 5, none⟩) (by first | omega | (simp; done) | (simp; omega))).trans ((World.cell?_alloc_lt _ _ ⟨w2.heap.size + 1, 5, none⟩ (by first | omega | (simp; done) | (simp; omega))).trans cP_10_5)
    have lP_11 : w2.heap.size + 1 < w11.heap.size := (by first | omega | (simp; done) | (simp; omega))
    have neP_11 : w2.heap.size + 1 ≠ w11.heap.size := by omega
    have neP_11b : w2.heap.size + 1 ≠ w11.heap.size + 1 := by omega
    have neP_11c : w11.heap.size ≠ w2.heap.size + 1 := by omega
    have neP_11d : w11.heap.size + 1 ≠ w2.heap.size + 1 := by omega
    have cQ_11_0 : w11.cell? ⟨w7.heap.size, 0, none⟩ = some (Value.int IntKind.i64 q1) := (hb11.cell (p := ⟨w7.heap.size, 0, none⟩) (by first | omega | (simp; done) | (simp; omega))).trans ((World.cell?_alloc_lt _ _ ⟨w7.heap.size, 0, none⟩ (by first | omega | (simp; done) | (simp; omega))).trans cQ_10_0)
    have cQ_11_1 : w11.cell? ⟨w7.heap.size, 1, none⟩ = some (Value.int IntKind.i64 q2) := (hb11.cell (p := ⟨w7.heap.size, 1, none⟩) (by first | omega | (simp; done) | (simp; omega))).trans ((World.cell?_alloc_lt _ _ ⟨w7.heap.size, 1, none⟩ (by first | omega | (simp; done) | (simp; omega))).trans cQ_10_1)
    have cQ_11_2 : w11.cell? ⟨w7.heap.size, 2, none⟩ = some (Value.int IntKind.i64 q3) := (hb11.cell (p := ⟨w7.heap.size, 2, none⟩) (by first | omega | (simp; done) | (simp; omega))).trans ((World.cell?_alloc_lt _ _ ⟨w7.heap.size, 2, none⟩ (by first | omega | (simp; done) | (simp; omega))).trans cQ_10_2)
    have cQ_11_3 : w11.cell? ⟨w7.heap.size, 3, none⟩ = some (Value.int IntKind.i64 q4) := (hb11.cell (p := ⟨w7.heap.size, 3, none⟩) (by first | omega | (simp; done) | (simp; omega))).trans ((World.cell?_alloc_lt _ _ ⟨w7.heap.size, 3, none⟩ (by first | omega | (simp; done) | (simp; omega))).trans cQ_10_3)
    have cQ_11_4 : w11.cell? ⟨w7.heap.size, 4, none⟩ = some (Value.int IntKind.i64 q5) := (hb11.cell (p := ⟨w7.heap.size, 4, none⟩) (by first | omega | (simp; done) | (simp; omega))).trans ((World.cell?_alloc_lt _ _ ⟨w7.heap.size, 4, none⟩ (by first | omega | (simp; done) | (simp; omega))).trans cQ_10_4)
    have cQ_11_5 : w11.cell? ⟨w7.heap.size, 5, none⟩ = some (Value.int IntKind.i64 q6) := (hb11.cell (p := ⟨w7.heap.size, 5, none⟩) (by first | omega | (simp; done) | (simp; omega))).trans ((World.cell?_alloc_lt _ _ ⟨w7.heap.size, 5, none⟩ (by first | omega | (simp; done) | (simp; omega))).trans cQ_10_5)
    have lQ_11 : w7.heap.size < w11.heap.size := (by first | omega | (simp; done) | (simp; omega))
    have neQ_11 : w7.heap.size ≠ w11.heap.size := by omega
    have neQ_11b : w7.heap.size ≠ w11.heap.size + 1 := by omega
    have neQ_11c : w11.heap.size ≠ w7.heap.size := by omega
    have neQ_11d : w11.heap.size + 1 ≠ w7.heap.size := by omega
    clear cA_10_0 cA_10_1 cA_10_2 cA_10_3 cA_10_4 cA_10_5 cA_10_6 cA_10_7 cP_10_0 cP_10_1 cP_10_2 cP_10_3 cP_10_4 cP_10_5 cQ_10_0 cQ_10_1 cQ_10_2 cQ_10_3 cQ_10_4 cQ_10_5 cX_10_0 cX_10_1 cX_10_2 cX_10_3 cX_10_4 cX_10_5
    cases v5
    case false =>
      go_wp2_with fail
      go_ret
      exact ⟨rfl, by (repeat (first | with_reducible exact Below.refl _ _ | with_reducible assumption | with_reducible refine below_drewN ?_ _ | with_reducible refine Below.drew ?_ | with_reducible refine Below.alloc ?_ (by first | omega | (simp; done) | (simp; omega)) _ | with_reducible refine Below.setCell ?_ (by first | omega | (simp; done) | (simp; omega)) _ | with_reducible refine Below.trans ?_ (Below.mono (by assumption) (by first | omega | (simp; done) | (simp; omega)))))⟩
    obtain ⟨he, hf⟩ := KY.out (by trivial) (by trivial)
    have KE := Lib.hid he
    have KF := Lib.hid hf
    clear he hf KY
    go_wp2_with fail
    refine (KE.out _ ?_).mono ?_
    · exact LT.below (w := w) hT (by (repeat (first | with_reducible exact Below.refl _ _ | with_reducible assumption | with_reducible refine below_drewN ?_ _ | with_reducible refine Below.drew ?_ | with_reducible refine Below.alloc ?_ (by first | omega | (simp; done) | (simp; omega)) _ | with_reducible refine Below.setCell ?_ (by first | omega | (simp; done) | (simp; omega)) _ | with_reducible refine Below.trans ?_ (Below.mono (by assumption) (by first | omega | (simp; done) | (simp; omega)))))) (Nat.le_refl _)
    rintro e w12 ⟨rfl, hb12⟩
    have z12 := hb12.size
    (try simp only [World.size_alloc] at z12)
    have cP_12_0 : w12.cell? ⟨w2.heap.size + 1, 0, none⟩ = some (Value.int IntKind.i64 a) := (hb12.cell (p := ⟨w2.heap.size + 1, 0, none⟩) (by first | omega | (simp; done) | (simp; omega))).trans ((World.cell?_alloc_lt _ _ ⟨w2.heap.size + 1, 0, none⟩ (by first | omega | (simp; done) | (simp; omega))).trans cP_11_0)
    have cP_12_1 : w12.cell? ⟨w2.heap.size + 1, 1, none⟩ = some (Value.int IntKind.i64 b) := (hb12.cell (p := ⟨w2.heap.size + 1, 1, none⟩) (by first | omega | (simp; done) | (simp; omega))).trans ((World.cell?_alloc_lt _ _ ⟨w2.heap.size + 1, 1, none⟩ (by first | omega | (simp; done) | (simp; omega))).trans cP_11_1)
    have cP_12_2 : w12.cell? ⟨w2.heap.size + 1, 2, none⟩ = some (Value.int IntKind.i64 k) := (hb12.cell (p := ⟨w2.heap.size + 1, 2, none⟩) (by first | omega | (simp; done) | (simp; omega))).trans ((World.cell?_alloc_lt _ _ ⟨w2.heap.size + 1, 2, none⟩ (by first | omega | (simp; done) | (simp; omega))).trans cP_11_2)
    have cP_12_3 : w12.cell? ⟨w2.heap.size + 1, 3, none⟩ = some (Value.int IntKind.i64 c) := (hb12.cell (p := ⟨w2.heap.size + 1, 3, none⟩) (by first | omega | (simp; done) | (simp; omega))).trans ((World.cell?_alloc_lt _ _ ⟨w2.heap.size + 1, 3, none⟩ (by first | omega | (simp; done) | (simp; omega))).trans cP_11_3)
    have cP_12_4 : w12.cell? ⟨w2.heap.size + 1, 4, none⟩ = some (Value.int IntKind.i64 d) := (hb12.cell (p := ⟨w2.heap.size + 1, 4, none⟩) (by first | omega | (simp; done) | (simp; omega))).trans ((World.cell?_alloc_lt _ _ ⟨w2.heap.size + 1, 4, none⟩ (by first | omega | (simp; done) | (simp; omega))).trans cP_11_4)
    have cP_12_5 : w12.cell? ⟨w2.heap.size + 1, 5, none⟩ = some (Value.int IntKind.i64 l) := (hb12.cell (p := ⟨w2.heap.size + 1, 5, none⟩) (by first | omega | (simp; done) | (simp; omega))).trans ((World.cell?_alloc_lt _ _ ⟨w2.heap.size + 1, 5, none⟩ (by first | omega | (simp; done) | (simp; omega))).trans cP_11_5)
    have lP_12 : w2.heap.size + 1 < w12.heap.size := (by first | omega | (simp; done) | (simp; omega))
    have neP_12 : w2.heap.size + 1 ≠ w12.heap.size := by omega
    have neP_12b : w2.heap.size + 1 ≠ w12.heap.size + 1 := by omega
    have neP_12c : w12.heap.size ≠ w2.heap.size + 1 := by omega
    have neP_12d : w12.heap.size + 1 ≠ w2.heap.size + 1 := by omega
    have cQ_12_0 : w12.cell? ⟨w7.heap.size, 0, none⟩ = some (Value.int IntKind.i64 q1) := (hb12.cell (p := ⟨w7.heap.size, 0, none⟩) (by first | omega | (simp; done) | (simp; omega))).trans ((World.cell?_alloc_lt _ _ ⟨w7.heap.size, 0, none⟩ (by first | omega | (simp; done) | (simp; omega))).trans cQ_11_0)
    have cQ_12_1 : w12.cell? ⟨w7.heap.size, 1, none⟩ = some (Value.int IntKind.i64 q2) := (hb12.cell (p := ⟨w7.heap.size, 1, none⟩) (by first | omega | (simp; done) | (simp; omega))).trans ((World.cell?_alloc_lt _ _ ⟨w7.heap.size, 1, none⟩ (by first | omega | (simp; done) | (simp; omega))).trans cQ_11_1)
    have cQ_12_2 : w12.cell? ⟨w7.heap.size, 2, none⟩ = some (Value.int IntKind.i64 q3) := (hb12.cell (p := ⟨w7.heap.size, 2, none⟩) (by first | omega | (simp; done) | (simp; omega))).trans ((World.cell?_alloc_lt _ _ ⟨w7.heap.size, 2, none⟩ (by first | omega | (simp; done) | (simp; omega))).trans cQ_11_2)
    have cQ_12_3 : w12.cell? ⟨w7.heap.size, 3, none⟩ = some (Value.int IntKind.i64 q4) := (hb12.cell (p := ⟨w7.heap.size, 3, none⟩) (by first | omega | (simp; done) | (simp; omega))).trans ((World.cell?_alloc_lt _ _ ⟨w7.heap.size, 3, none⟩ (by first | omega | (simp; done) | (simp; omega))).trans cQ_11_3)
    have cQ_12_4 : w12.cell? ⟨w7.heap.size, 4, none⟩ = some (Value.int IntKind.i64 q5) := (hb12.cell (p := ⟨w7.heap.size, 4, none⟩) (by first | omega | (simp; done) | (simp; omega))).trans ((World.cell?_alloc_lt _ _ ⟨w7.heap.size, 4, none⟩ (by first | omega | (simp; done) | (simp; omega))).trans cQ_11_4)
    have cQ_12_5 : w12.cell? ⟨w7.heap.size, 5, none⟩ = some (Value.int IntKind.i64 q6) := (hb12.cell (p := ⟨w7.heap.size, 5, none⟩) (by first | omega | (simp; done) | (simp; omega))).trans ((World.cell?_alloc_lt _ _ ⟨w7.heap.size, 5, none⟩ (by first | omega | (simp; done) | (simp; omega))).trans cQ_11_5)
    have lQ_12 : w7.heap.size < w12.heap.size := (by first | omega | (simp; done) | (simp; omega))
    have neQ_12 : w7.heap.size ≠ w12.heap.size := by omega
    have neQ_12b : w7.heap.size ≠ w12.heap.size + 1 := by omega
    have neQ_12c : w12.heap.size ≠ w7.heap.size := by omega
    have neQ_12d : w12.heap.size + 1 ≠ w7.heap.size := by omega
    have cD_12_0 : w12.cell? ⟨w11.heap.size, 0, none⟩ = some (Value.int IntKind.i64 dr) := (hb12.cell (p := ⟨w11.heap.size, 0, none⟩) (by first | omega | (simp; done) | (simp; omega))).trans (by simp [go_sem])
    have cD_12_1 : w12.cell? ⟨w11.heap.size, 1, none⟩ = some (Value.bool df) := (hb12.cell (p := ⟨w11.heap.size, 1, none⟩) (by first | omega | (simp; done) | (simp; omega))).trans (by simp [go_sem])
    have cD_12_2 : w12.cell? ⟨w11.heap.size, 2, none⟩ = some (Value.int IntKind.i64 d1) := (hb12.cell (p := ⟨w11.heap.size, 2, none⟩) (by first | omega | (simp; done) | (simp; omega))).trans (by simp [go_sem])
    have cD_12_3 : w12.cell? ⟨w11.heap.size, 3, none⟩ = some (Value.int IntKind.i64 d2) := (hb12.cell (p := ⟨w11.heap.size, 3, none⟩) (by first | omega | (simp; done) | (simp; omega))).trans (by simp [go_sem])
    have cD_12_4 : w12.cell? ⟨w11.heap.size, 4, none⟩ = some (Value.int IntKind.i64 d3) := (hb12.cell (p := ⟨w11.heap.size, 4, none⟩) (by first | omega | (simp; done) | (simp; omega))).trans (by simp [go_sem])
    have cD_12_5 : w12.cell? ⟨w11.heap.size, 5, none⟩ = some (Value.int IntKind.i64 d4) := (hb12.cell (p := ⟨w11.heap.size, 5, none⟩) (by first | omega | (simp; done) | (simp; omega))).trans (by simp [go_sem])
    have cD_12_6 : w12.cell? ⟨w11.heap.size, 6, none⟩ = some (Value.int IntKind.i64 d5) := (hb12.cell (p := ⟨w11.heap.size, 6, none⟩) (by first | omega | (simp; done) | (simp; omega))).trans (by simp [go_sem])
    have cD_12_7 : w12.cell? ⟨w11.heap.size, 7, none⟩ = some (Value.int IntKind.i64 d6) := (hb12.cell (p := ⟨w11.heap.size, 7, none⟩) (by first | omega | (simp; done) | (simp; omega))).trans (by simp [go_sem])
    have lD_12 : w11.heap.size < w12.heap.size := (by first | omega | (simp; done) | (simp; omega))
    have neD_12 : w11.heap.size ≠ w12.heap.size := by omega
    have neD_12b : w11.heap.size ≠ w12.heap.size + 1 := by omega
    have neD_12c : w12.heap.size ≠ w11.heap.size := by omega
    have neD_12d : w12.heap.size + 1 ≠ w11.heap.size := by omega
    clear cA_11_0 cA_11_1 cA_11_2 cA_11_3 cA_11_4 cA_11_5 cA_11_6 cA_11_7 cP_11_0 cP_11_1 cP_11_2 cP_11_3 cP_11_4 cP_11_5 cQ_11_0 cQ_11_1 cQ_11_2 cQ_11_3 cQ_11_4 cQ_11_5
    go_wp2_with fail
    refine (KF.out _ ?_).mono ?_
    · exact LT.below (w := w) hT (by (repeat (first | with_reducible exact Below.refl _ _ | with_reducible assumption | with_reducible refine below_drewN ?_ _ | with_reducible refine Below.drew ?_ | with_reducible refine Below.alloc ?_ (by first | omega | (simp; done) | (simp; omega)) _ | with_reducible refine Below.setCell ?_ (by first | omega | (simp; done) | (simp; omega)) _ | with_reducible refine Below.trans ?_ (Below.mono (by assumption) (by first | omega | (simp; done) | (simp; omega)))))) (Nat.le_refl _)
    rintro e w13 ⟨rfl, hb13⟩
    have z13 := hb13.size
    (try simp only [World.size_alloc] at z13)
    have cP_13_0 : w13.cell? ⟨w2.heap.size + 1, 0, none⟩ = some (Value.int IntKind.i64 a) := (hb13.cell (p := ⟨w2.heap.size + 1, 0, none⟩) (by first | omega | (simp; done) | (simp; omega))).trans ((World.cell?_alloc_lt _ _ ⟨w2.heap.size + 1, 0, none⟩ (by first | omega | (simp; done) | (simp; omega))).trans cP_12_0)
    have cP_13_1 : w13.cell? ⟨w2.heap.size + 1, 1, none⟩ = some (Value.int IntKind.i64 b) := (hb13.cell (p := ⟨w2.heap.size + 1, 1, none⟩) (by first | omega | (simp; done) | (simp; omega))).trans ((World.cell?_alloc_lt _ _ ⟨w2.heap.size + 1, 1, none⟩ (by first | omega | (simp; done) | (simp; omega))).trans cP_12_1)
    have cP_13_2 : w13.cell? ⟨w2.heap.size + 1, 2, none⟩ = some (Value.int IntKind.i64 k) := (hb13.cell (p := ⟨w2.heap.size + 1, 2, none⟩) (by first | omega | (simp; done) | (simp; omega))).trans ((World.cell?_alloc_lt _ _ ⟨w2.heap.size + 1, 2, none⟩ (by first | omega | (simp; done) | (simp; omega))).trans cP_12_2)
    have cP_13_3 : w13.cell? ⟨w2.heap.size + 1, 3, none⟩ = some (Value.int IntKind.i64 c) := (hb13.cell (p := ⟨w2.heap.size + 1, 3, none⟩) (by first | omega | (simp; done) | (simp; omega))).trans ((World.cell?_alloc_lt _ _ ⟨w2.heap.size + 1, 3, none⟩ (by first | omega | (simp; done) | (simp; omega))).trans cP_12_3)
    have cP_13_4 : w13.cell? ⟨w2.heap.size + 1, 4, none⟩ = some (Value.int IntKind.i64 d) := (hb13.cell (p := ⟨w2.heap.size + 1, 4, none⟩) (by first | omega | (simp; done) | (simp; omega))).trans ((World.cell?_alloc_lt _ _ ⟨w2.heap.size + 1, 4, none⟩ (by first | omega | (simp; done) | (simp; omega))).trans cP_12_4)
    have cP_13_5 : w13.cell? ⟨w2.heap.size + 1, 5, none⟩ = some (Value.int IntKind.i64 l) := (hb13.cell (p := ⟨w2.heap.size + 1, 5, none⟩) (by first | omega | (simp; done) | (simp; omega))).trans ((World.cell?_alloc_lt _ _ ⟨w2.heap.size + 1, 5, none⟩ (by first | omega | (simp; done) | (simp; omega))).trans cP_12_5)
    have lP_13 : w2.heap.size + 1 < w13.heap.size := (by first | omega | (simp; done) | (simp; omega))
    have neP_13 : w2.heap.size + 1 ≠ w13.heap.size := by omega
    have neP_13b : w2.heap.size + 1 ≠ w13.heap.size + 1 := by omega
    have neP_13c : w13.heap.size ≠ w2.heap.size + 1 := by omega
    have neP_13d : w13.heap.size + 1 ≠ w2.heap.size + 1 := by omega
    have cE_13_0 : w13.cell? ⟨w12.heap.size, 0, none⟩ = some (Value.int IntKind.i64 0) := (hb13.cell (p := ⟨w12.heap.size, 0, none⟩) (by first | omega | (simp; done) | (simp; omega))).trans (by simp [go_sem])
    have cE_13_1 : w13.cell? ⟨w12.heap.size, 1, none⟩ = some (Value.bool false) := (hb13.cell (p := ⟨w12.heap.size, 1, none⟩) (by first | omega | (simp; done) | (simp; omega))).trans (by simp [go_sem])
    have cE_13_2 : w13.cell? ⟨w12.heap.size, 2, none⟩ = some (Value.int IntKind.i64 0) := (hb13.cell (p := ⟨w12.heap.size, 2, none⟩) (by first | omega | (simp; done) | (simp; omega))).trans (by simp [go_sem])
    have cE_13_3 : w13.cell? ⟨w12.heap.size, 3, none⟩ = some (Value.int IntKind.i64 0) := (hb13.cell (p := ⟨w12.heap.size, 3, none⟩) (by first | omega | (simp; done) | (simp; omega))).trans (by simp [go_sem])
    have cE_13_4 : w13.cell? ⟨w12.heap.size, 4, none⟩ = some (Value.int IntKind.i64 0) := (hb13.cell (p := ⟨w12.heap.size, 4, none⟩) (by first | omega | (simp; done) | (simp; omega))).trans (by simp [go_sem])
    have cE_13_5 : w13.cell? ⟨w12.heap.size, 5, none⟩ = some (Value.int IntKind.i64 0) := (hb13.cell (p := ⟨w12.heap.size, 5, none⟩) (by first | omega | (simp; done) | (simp; omega))).trans (by simp [go_sem])
    have cE_13_6 : w13.cell? ⟨w12.heap.size, 6, none⟩ = some (Value.int IntKind.i64 0) := (hb13.cell (p := ⟨w12.heap.size, 6, none⟩) (by first | omega | (simp; done) | (simp; omega))).trans (by simp [go_sem])
    have cE_13_7 : w13.cell? ⟨w12.heap.size, 7, none⟩ = some (Value.int IntKind.i64 0) := (hb13.cell (p := ⟨w12.heap.size, 7, none⟩) (by first | omega | (simp; done) | (simp; omega))).trans (by simp [go_sem])
    have lE_13 : w12.heap.size < w13.heap.size := (by first | omega | (simp; done) | (simp; omega))
    have neE_13 : w12.heap.size ≠ w13.heap.size := by omega
    have neE_13b : w12.heap.size ≠ w13.heap.size + 1 := by omega
    have neE_13c : w13.heap.size ≠ w12.heap.size := by omega
    have neE_13d : w13.heap.size + 1 ≠ w12.heap.size := by omega
    clear cP_12_0 cP_12_1 cP_12_2 cP_12_3 cP_12_4 cP_12_5 cQ_12_0 cQ_12_1 cQ_12_2 cQ_12_3 cQ_12_4 cQ_12_5 cD_12_0 cD_12_1 cD_12_2 cD_12_3 cD_12_4 cD_12_5 cD_12_6 cD_12_7
    have p13 : w13.heap.size < w13.heap.size + 1 := by omega
    have rr_13 : w2.heap.size < w13.heap.size := by omega
    have rE_13 : w12.heap.size < w13.heap.size + 1 := by omega
    have rP_13 : w2.heap.size + 1 < w13.heap.size + 1 := by omega
    go_wp2_with fail
    go_region_held3 (fun w' => w'.cell? ⟨w12.heap.size, 0, none⟩ = some (Value.int IntKind.i64 0) ∧ w'.cell? ⟨w12.heap.size, 1, none⟩ = some (Value.bool false) ∧ w'.cell? ⟨w12.heap.size, 2, none⟩ = some (Value.int IntKind.i64 0) ∧ w'.cell? ⟨w12.heap.size, 3, none⟩ = some (Value.int IntKind.i64 0) ∧ w'.cell? ⟨w12.heap.size, 4, none⟩ = some (Value.int IntKind.i64 0) ∧ w'.cell? ⟨w12.heap.size, 5, none⟩ = some (Value.int IntKind.i64 0) ∧ w'.cell? ⟨w12.heap.size, 6, none⟩ = some (Value.int IntKind.i64 0) ∧ w'.cell? ⟨w12.heap.size, 7, none⟩ = some (Value.int IntKind.i64 0) ∧ w'.cell? ⟨w13.heap.size, 0, none⟩ = some (Value.int IntKind.i64 a) ∧ w'.cell? ⟨w13.heap.size, 1, none⟩ = some (Value.int IntKind.i64 b) ∧ w'.cell? ⟨w13.heap.size, 2, none⟩ = some (Value.int IntKind.i64 k) ∧ w'.cell? ⟨w13.heap.size, 3, none⟩ = some (Value.int IntKind.i64 c) ∧ w'.cell? ⟨w13.heap.size, 4, none⟩ = some (Value.int IntKind.i64 d) ∧ w'.cell? ⟨w13.heap.size, 5, none⟩ = some (Value.int IntKind.i64 l) ∧ w'.cell? ⟨w2.heap.size + 1, 0, none⟩ = some (Value.int IntKind.i64 a) ∧ w'.cell? ⟨w2.heap.size + 1, 1, none⟩ = some (Value.int IntKind.i64 b) ∧ w'.cell? ⟨w2.heap.size + 1, 2, none⟩ = some (Value.int IntKind.i64 k) ∧ w'.cell? ⟨w2.heap.size + 1, 3, none⟩ = some (Value.int IntKind.i64 c) ∧ w'.cell? ⟨w2.heap.size + 1, 4, none⟩ = some (Value.int IntKind.i64 d) ∧ w'.cell? ⟨w2.heap.size + 1, 5, none⟩ = some (Value.int IntKind.i64 l)) ((first | (go_simp; done) | (simp [*]; done)))
      ((first
      | (go_at_call 14; refine (iId_any _).mono ?_; rintro e w14 ⟨rfl, hb14⟩; (try replace hb14 := Below.undrew hb14); obtain ⟨hc14, hf14⟩ := bcell hb14; have hz14 := hb14.size; (try simp at hz14); (have lE_14 : w12.heap.size < w14.heap.size := (by omega)); (have lP_14 : w2.heap.size + 1 < w14.heap.size := (by omega)); (have lK_14 : w13.heap.size < w14.heap.size := (by omega)))))
    go_wp2_with fail
    go_ret
    exact ⟨rfl, by (repeat (first | with_reducible exact Below.refl _ _ | with_reducible assumption | with_reducible refine below_drewN ?_ _ | with_reducible refine Below.drew ?_ | with_reducible refine Below.alloc ?_ (by first | omega | (simp; done) | (simp; omega)) _ | with_reducible refine Below.setCell ?_ (by first | omega | (simp; done) | (simp; omega)) _ | with_reducible refine Below.trans ?_ (Below.mono (by assumption) (by first | omega | (simp; done) | (simp; omega)))))⟩
end Go.Proofs.YtgfplfbfjkkalaaDoor
