/- FnMotionLines: the walk. Whatever is drawn, a point is on the same side of a line after both have been moved, and directions are those of the moved points. -/
import Derived.Test.YtafbdnjabgfjeaaDoorDrw
import Derived.Test.YtafbdnjabgfjeaaDoorDs
import Derived.Deep.RegionHeld3
import Derived.Deep.DeepCutAuto
import Derived.Deep.DrawnRows
namespace Go.Proofs.YtafbdnjabgfjeaaDoor
open Go Go.RowKit OriM
namespace MotL

theorem long_any (sa : Option Addr) (sn sc : Nat) (w : World) : Calls Tryd.prog 10 #[.slice sa sn sc] w fun e w' => ∃ b : Bool, e = .returned (.bool b) ∧ w = w' := by
  go_enter Tryd.func10, Tryd.ntmps10
  go_wp2_with fail
  go_ret
  exact ⟨_, rfl, rfl⟩
theorem CodeIn.later {w w' : World} {v : Value} (h : CodeIn w v) (hb : Below w.heap.size w w') : CodeIn w' v := by
  rcases h with h | ⟨b, o, n, c, rfl, hs, hn, h⟩
  · exact .inl h
  · refine .inr ⟨b, o, n, c, rfl, Nat.lt_of_lt_of_le hs hb.size, hn, fun i hi => ?_⟩
    obtain ⟨x, hx, h0, h1⟩ := h i hi
    exact ⟨x, by rw [hb.cell (p := ⟨b, o + i, none⟩) hs]; exact hx, h0, h1⟩
set_option maxHeartbeats 80000000 in
set_option maxRecDepth 100000 in
theorem motionLines.walk (v0 v1 : Value) (w : World) (hT : LT true w) (hC0 : CodeIn w v0) (hC1 : CodeIn w v1) : Calls Tryd.prog 3 #[v0, v1] w (RetB (.bool true) w) := by
  obtain ⟨sa, sn, sc, rfl⟩ := hC0.slice
  obtain ⟨ra, rn, rc, rfl⟩ := hC1.slice
  have HC0 := Lib.hid hC0
  have HC1 := Lib.hid hC1
  clear hC0 hC1
  go_enter Tryd.func3, Tryd.ntmps3
  go_wp2_with fail
  refine (long_any sa sn sc _).mono ?_
  rintro e w' ⟨b0, rfl, rfl⟩
  cases b0
  case true =>
    go_wp2_with fail
    go_ret
    exact ⟨rfl, by (repeat (first | with_reducible exact Below.refl _ _ | with_reducible assumption | with_reducible refine below_drewN ?_ _ | with_reducible refine Below.drew ?_ | with_reducible refine Below.alloc ?_ (by first | omega | (simp; done) | (simp; omega)) _ | with_reducible refine Below.setCell ?_ (by first | omega | (simp; done) | (simp; omega)) _ | with_reducible refine Below.trans ?_ (Below.mono (by assumption) (by first | omega | (simp; done) | (simp; omega)))))⟩
  go_wp2_with fail
  refine (long_any ra rn rc _).mono ?_
  rintro e w' ⟨b1, rfl, rfl⟩
  cases b1
  case true =>
    go_wp2_with fail
    go_ret
    exact ⟨rfl, by (repeat (first | with_reducible exact Below.refl _ _ | with_reducible assumption | with_reducible refine below_drewN ?_ _ | with_reducible refine Below.drew ?_ | with_reducible refine Below.alloc ?_ (by first | omega | (simp; done) | (simp; omega)) _ | with_reducible refine Below.setCell ?_ (by first | omega | (simp; done) | (simp; omega)) _ | with_reducible refine Below.trans ?_ (Below.mono (by assumption) (by first | omega | (simp; done) | (simp; omega)))))⟩
  go_wp2_with fail
  refine (dMoveLine_any _ _ HC0.out).mono ?_
  rintro e w1 ⟨_, _, rfl, ⟨t, f, ma, mb, mk, mc, md, ml, rfl, _, sm1, sm2⟩, ⟨e', x, y, z, rfl, _, sl⟩, hb1⟩
  have z1 := hb1.size
  have HC2 := Lib.hid (CodeIn.later HC1.out ((hb1.alloc z1 (Obj.cells #[Value.int IntKind.i64 t, Value.bool f, Value.int IntKind.i64 ma, Value.int IntKind.i64 mb, Value.int IntKind.i64 mk, Value.int IntKind.i64 mc, Value.int IntKind.i64 md, Value.int IntKind.i64 ml] 27)).alloc (by simp; omega) (Obj.cells #[Value.int IntKind.i64 e', Value.int IntKind.i64 x, Value.int IntKind.i64 y, Value.int IntKind.i64 z] 29)))
  have HC3 := Lib.hid (CodeIn.later HC0.out ((hb1.alloc z1 (Obj.cells #[Value.int IntKind.i64 t, Value.bool f, Value.int IntKind.i64 ma, Value.int IntKind.i64 mb, Value.int IntKind.i64 mk, Value.int IntKind.i64 mc, Value.int IntKind.i64 md, Value.int IntKind.i64 ml] 27)).alloc (by simp; omega) (Obj.cells #[Value.int IntKind.i64 e', Value.int IntKind.i64 x, Value.int IntKind.i64 y, Value.int IntKind.i64 z] 29)))
  clear sm1 sm2 sl
  go_wp2_with fail
  refine (dMovePoint_any _ _ HC2.out).mono ?_
  rintro e w2 ⟨_, _, rfl, ⟨r', h', k1, k2, k3, k4, k5, k6, rfl, _, _, _⟩, ⟨a, b, k, c, d, l, rfl, sp1, sp2⟩, hb2⟩
  clear sp1 sp2
  have z2 := hb2.size
  have z2' := hb2.size
  simp only [World.size_alloc] at z2'
  have HC4 := Lib.hid (CodeIn.later HC3.out ((hb2.alloc z2 (Obj.cells #[Value.int IntKind.i64 r', Value.bool h', Value.int IntKind.i64 k1, Value.int IntKind.i64 k2, Value.int IntKind.i64 k3, Value.int IntKind.i64 k4, Value.int IntKind.i64 k5, Value.int IntKind.i64 k6] 27)).alloc (by simp; omega) (Obj.cells #[Value.int IntKind.i64 a, Value.int IntKind.i64 b, Value.int IntKind.i64 k, Value.int IntKind.i64 c, Value.int IntKind.i64 d, Value.int IntKind.i64 l] 33)))
  clear HC0 HC1 HC2 HC3
  simp only [World.size_alloc] at z2
  have hB2 : Below w.heap.size w w2 := ((hb1.alloc z1 _).alloc (by simp only [World.size_alloc]; omega) _).trans (hb2.mono (by simp only [World.size_alloc]; omega))
  have y2 := hB2.size

  have cA_2_0 : w2.cell? ⟨w1.heap.size, 0, none⟩ = some (Value.int IntKind.i64 t) := (hb2.cell (p := ⟨w1.heap.size, 0, none⟩) (by first | omega | (simp; done) | (simp; omega))).trans (by simp [go_sem])
  have cA_2_1 : w2.cell? ⟨w1.heap.size, 1, none⟩ = some (Value.bool f) := (hb2.cell (p := ⟨w1.heap.size, 1, none⟩) (by first | omega | (simp; done) | (simp; omega))).trans (by simp [go_sem])
  have cA_2_2 : w2.cell? ⟨w1.heap.size, 2, none⟩ = some (Value.int IntKind.i64 ma) := (hb2.cell (p := ⟨w1.heap.size, 2, none⟩) (by first | omega | (simp; done) | (simp; omega))).trans (by simp [go_sem])
  have cA_2_3 : w2.cell? ⟨w1.heap.size, 3, none⟩ = some (Value.int IntKind.i64 mb) := (hb2.cell (p := ⟨w1.heap.size, 3, none⟩) (by first | omega | (simp; done) | (simp; omega))).trans (by simp [go_sem])
  have cA_2_4 : w2.cell? ⟨w1.heap.size, 4, none⟩ = some (Value.int IntKind.i64 mk) := (hb2.cell (p := ⟨w1.heap.size, 4, none⟩) (by first | omega | (simp; done) | (simp; omega))).trans (by simp [go_sem])
  have cA_2_5 : w2.cell? ⟨w1.heap.size, 5, none⟩ = some (Value.int IntKind.i64 mc) := (hb2.cell (p := ⟨w1.heap.size, 5, none⟩) (by first | omega | (simp; done) | (simp; omega))).trans (by simp [go_sem])
  have cA_2_6 : w2.cell? ⟨w1.heap.size, 6, none⟩ = some (Value.int IntKind.i64 md) := (hb2.cell (p := ⟨w1.heap.size, 6, none⟩) (by first | omega | (simp; done) | (simp; omega))).trans (by simp [go_sem])
  have cA_2_7 : w2.cell? ⟨w1.heap.size, 7, none⟩ = some (Value.int IntKind.i64 ml) := (hb2.cell (p := ⟨w1.heap.size, 7, none⟩) (by first | omega | (simp; done) | (simp; omega))).trans (by simp [go_sem])
  have lA_2 : w1.heap.size < w2.heap.size := (by first | omega | (simp; done) | (simp; omega))
  have neA_2 : w1.heap.size ≠ w2.heap.size := by omega
  have neA_2b : w1.heap.size ≠ w2.heap.size + 1 := by omega
  have neA_2c : w2.heap.size ≠ w1.heap.size := by omega
  have neA_2d : w2.heap.size + 1 ≠ w1.heap.size := by omega
  have cB_2_0 : w2.cell? ⟨w1.heap.size + 1, 0, none⟩ = some (Value.int IntKind.i64 e') := (hb2.cell (p := ⟨w1.heap.size + 1, 0, none⟩) (by first | omega | (simp; done) | (simp; omega))).trans (by simp [go_sem])
  have cB_2_1 : w2.cell? ⟨w1.heap.size + 1, 1, none⟩ = some (Value.int IntKind.i64 x) := (hb2.cell (p := ⟨w1.heap.size + 1, 1, none⟩) (by first | omega | (simp; done) | (simp; omega))).trans (by simp [go_sem])
  have cB_2_2 : w2.cell? ⟨w1.heap.size + 1, 2, none⟩ = some (Value.int IntKind.i64 y) := (hb2.cell (p := ⟨w1.heap.size + 1, 2, none⟩) (by first | omega | (simp; done) | (simp; omega))).trans (by simp [go_sem])
  have cB_2_3 : w2.cell? ⟨w1.heap.size + 1, 3, none⟩ = some (Value.int IntKind.i64 z) := (hb2.cell (p := ⟨w1.heap.size + 1, 3, none⟩) (by first | omega | (simp; done) | (simp; omega))).trans (by simp [go_sem])
  have lB_2 : w1.heap.size + 1 < w2.heap.size := (by first | omega | (simp; done) | (simp; omega))
  have neB_2 : w1.heap.size + 1 ≠ w2.heap.size := by omega
  have neB_2b : w1.heap.size + 1 ≠ w2.heap.size + 1 := by omega
  have neB_2c : w2.heap.size ≠ w1.heap.size + 1 := by omega
  have neB_2d : w2.heap.size + 1 ≠ w1.heap.size + 1 := by omega
  go_wp2_with fail
  refine (dMovePoint_any _ _ HC4.out).mono ?_
  rintro e w3 ⟨_, _, rfl, ⟨r2, h2, j1, j2, j3, j4, j5, j6, rfl, _, _, _⟩, ⟨a', b', k', c', d', l', rfl, sq1, sq2⟩, hb3⟩
  have z3 := hb3.size
  (try simp only [World.size_alloc] at z3)
  have hB3 : Below w.heap.size w w3 := (Below.alloc (Below.alloc hB2 (by omega) _) (by simp only [World.size_alloc]; omega) _).trans (hb3.mono (by simp only [World.size_alloc]; omega))
  have y3 := hB3.size
  have lA_3 : w1.heap.size < w3.heap.size := (by first | omega | (simp; done) | (simp; omega))
  have kA_3 : ∀ i, w3.cell? ⟨w1.heap.size, i, none⟩ = w2.cell? ⟨w1.heap.size, i, none⟩ := fun i => (hb3.cell (p := ⟨w1.heap.size, i, none⟩) (by show w1.heap.size < _; simp only [World.size_alloc]; omega)).trans ((World.cell?_alloc_lt _ _ ⟨w1.heap.size, i, none⟩ (by show w1.heap.size < _; simp only [World.size_alloc]; omega)).trans ((World.cell?_alloc_lt _ _ ⟨w1.heap.size, i, none⟩ (by show w1.heap.size < _; omega)).trans rfl))
  have cA_3_0 : w3.cell? ⟨w1.heap.size, 0, none⟩ = some (Value.int IntKind.i64 t) := (kA_3 0).trans cA_2_0
  have cA_3_1 : w3.cell? ⟨w1.heap.size, 1, none⟩ = some (Value.bool f) := (kA_3 1).trans cA_2_1
  have cA_3_2 : w3.cell? ⟨w1.heap.size, 2, none⟩ = some (Value.int IntKind.i64 ma) := (kA_3 2).trans cA_2_2
  have cA_3_3 : w3.cell? ⟨w1.heap.size, 3, none⟩ = some (Value.int IntKind.i64 mb) := (kA_3 3).trans cA_2_3
  have cA_3_4 : w3.cell? ⟨w1.heap.size, 4, none⟩ = some (Value.int IntKind.i64 mk) := (kA_3 4).trans cA_2_4
  have cA_3_5 : w3.cell? ⟨w1.heap.size, 5, none⟩ = some (Value.int IntKind.i64 mc) := (kA_3 5).trans cA_2_5
  have cA_3_6 : w3.cell? ⟨w1.heap.size, 6, none⟩ = some (Value.int IntKind.i64 md) := (kA_3 6).trans cA_2_6
  have cA_3_7 : w3.cell? ⟨w1.heap.size, 7, none⟩ = some (Value.int IntKind.i64 ml) := (kA_3 7).trans cA_2_7
  have lB_3 : w1.heap.size + 1 < w3.heap.size := (by first | omega | (simp; done) | (simp; omega))
  have kB_3 : ∀ i, w3.cell? ⟨w1.heap.size + 1, i, none⟩ = w2.cell? ⟨w1.heap.size + 1, i, none⟩ := fun i => (hb3.cell (p := ⟨w1.heap.size + 1, i, none⟩) (by show w1.heap.size + 1 < _; simp only [World.size_alloc]; omega)).trans ((World.cell?_alloc_lt _ _ ⟨w1.heap.size + 1, i, none⟩ (by show w1.heap.size + 1 < _; simp only [World.size_alloc]; omega)).trans ((World.cell?_alloc_lt _ _ ⟨w1.heap.size + 1, i, none⟩ (by show w1.heap.size + 1 < _; omega)).trans rfl))
  have cB_3_0 : w3.cell? ⟨w1.heap.size + 1, 0, none⟩ = some (Value.int IntKind.i64 e') := (kB_3 0).trans cB_2_0
  have cB_3_1 : w3.cell? ⟨w1.heap.size + 1, 1, none⟩ = some (Value.int IntKind.i64 x) := (kB_3 1).trans cB_2_1
  have cB_3_2 : w3.cell? ⟨w1.heap.size + 1, 2, none⟩ = some (Value.int IntKind.i64 y) := (kB_3 2).trans cB_2_2
  have cB_3_3 : w3.cell? ⟨w1.heap.size + 1, 3, none⟩ = some (Value.int IntKind.i64 z) := (kB_3 3).trans cB_2_3
  have lP_3 : w2.heap.size + 1 < w3.heap.size := (by first | omega | (simp; done) | (simp; omega))
  have cP_3_0 : w3.cell? ⟨w2.heap.size + 1, 0, none⟩ = some (Value.int IntKind.i64 a) := (hb3.cell (p := ⟨w2.heap.size + 1, 0, none⟩) (by show w2.heap.size + 1 < _; simp only [World.size_alloc]; omega)).trans (by simp [go_sem])
  have cP_3_1 : w3.cell? ⟨w2.heap.size + 1, 1, none⟩ = some (Value.int IntKind.i64 b) := (hb3.cell (p := ⟨w2.heap.size + 1, 1, none⟩) (by show w2.heap.size + 1 < _; simp only [World.size_alloc]; omega)).trans (by simp [go_sem])
  have cP_3_2 : w3.cell? ⟨w2.heap.size + 1, 2, none⟩ = some (Value.int IntKind.i64 k) := (hb3.cell (p := ⟨w2.heap.size + 1, 2, none⟩) (by show w2.heap.size + 1 < _; simp only [World.size_alloc]; omega)).trans (by simp [go_sem])
  have cP_3_3 : w3.cell? ⟨w2.heap.size + 1, 3, none⟩ = some (Value.int IntKind.i64 c) := (hb3.cell (p := ⟨w2.heap.size + 1, 3, none⟩) (by show w2.heap.size + 1 < _; simp only [World.size_alloc]; omega)).trans (by simp [go_sem])
  have cP_3_4 : w3.cell? ⟨w2.heap.size + 1, 4, none⟩ = some (Value.int IntKind.i64 d) := (hb3.cell (p := ⟨w2.heap.size + 1, 4, none⟩) (by show w2.heap.size + 1 < _; simp only [World.size_alloc]; omega)).trans (by simp [go_sem])
  have cP_3_5 : w3.cell? ⟨w2.heap.size + 1, 5, none⟩ = some (Value.int IntKind.i64 l) := (hb3.cell (p := ⟨w2.heap.size + 1, 5, none⟩) (by show w2.heap.size + 1 < _; simp only [World.size_alloc]; omega)).trans (by simp [go_sem])
  clear kA_3 cA_2_0 cA_2_1 cA_2_2 cA_2_3 cA_2_4 cA_2_5 cA_2_6 cA_2_7 kB_3 cB_2_0 cB_2_1 cB_2_2 cB_2_3 lA_2 neA_2 neA_2b neA_2c neA_2d lB_2 neB_2 neB_2b neB_2c neB_2d
  have neA_3 : w1.heap.size ≠ w3.heap.size := by omega
  have neA_3b : w1.heap.size ≠ w3.heap.size + 1 := by omega
  have neA_3c : w3.heap.size ≠ w1.heap.size := by omega
  have neA_3d : w3.heap.size + 1 ≠ w1.heap.size := by omega
  have neB_3 : w1.heap.size + 1 ≠ w3.heap.size := by omega
  have neB_3b : w1.heap.size + 1 ≠ w3.heap.size + 1 := by omega
  have neB_3c : w3.heap.size ≠ w1.heap.size + 1 := by omega
  have neB_3d : w3.heap.size + 1 ≠ w1.heap.size + 1 := by omega
  have neP_3 : w2.heap.size + 1 ≠ w3.heap.size := by omega
  have neP_3b : w2.heap.size + 1 ≠ w3.heap.size + 1 := by omega
  have neP_3c : w3.heap.size ≠ w2.heap.size + 1 := by omega
  have neP_3d : w3.heap.size + 1 ≠ w2.heap.size + 1 := by omega
  clear sq1 sq2 HC4
  go_wp2_with fail
  cases hM : vM t ma mb mk mc md ml
  case false =>
    have KV4 := Lib.hid fun w (hT : LT true w) => hM ▸ sVM_any (β := true) t f ma mb mk mc md ml w hT
    refine (KV4.out _ ?_).mono ?_
    · exact LT.below (w := w) hT (Below.alloc (Below.alloc hB3 (by omega) _) (by simp only [World.size_alloc]; omega) _) (Nat.le_refl _)
    rintro e w4 ⟨rfl, hb4⟩
    have z4 := hb4.size
    (try simp only [World.size_alloc] at z4)
    have hB4 : Below w.heap.size w w4 := (Below.alloc (Below.alloc hB3 (by omega) _) (by simp only [World.size_alloc]; omega) _).trans (hb4.mono (by simp only [World.size_alloc]; omega))
    have y4 := hB4.size
    have lA_4 : w1.heap.size < w4.heap.size := (by first | omega | (simp; done) | (simp; omega))
    have kA_4 : ∀ i, w4.cell? ⟨w1.heap.size, i, none⟩ = w3.cell? ⟨w1.heap.size, i, none⟩ := fun i => (hb4.cell (p := ⟨w1.heap.size, i, none⟩) (by show w1.heap.size < _; simp only [World.size_alloc]; omega)).trans ((World.cell?_alloc_lt _ _ ⟨w1.heap.size, i, none⟩ (by show w1.heap.size < _; simp only [World.size_alloc]; omega)).trans ((World.cell?_alloc_lt _ _ ⟨w1.heap.size, i, none⟩ (by show w1.heap.size < _; omega)).trans rfl))
    have cA_4_0 : w4.cell? ⟨w1.heap.size, 0, none⟩ = some (Value.int IntKind.i64 t) := (kA_4 0).trans cA_3_0
    have cA_4_1 : w4.cell? ⟨w1.heap.size, 1, none⟩ = some (Value.bool f) := (kA_4 1).trans cA_3_1
    have cA_4_2 : w4.cell? ⟨w1.heap.size, 2, none⟩ = some (Value.int IntKind.i64 ma) := (kA_4 2).trans cA_3_2
    have cA_4_3 : w4.cell? ⟨w1.heap.size, 3, none⟩ = some (Value.int IntKind.i64 mb) := (kA_4 3).trans cA_3_3
    have cA_4_4 : w4.cell? ⟨w1.heap.size, 4, none⟩ = some (Value.int IntKind.i64 mk) := (kA_4 4).trans cA_3_4
    have cA_4_5 : w4.cell? ⟨w1.heap.size, 5, none⟩ = some (Value.int IntKind.i64 mc) := (kA_4 5).trans cA_3_5
    have cA_4_6 : w4.cell? ⟨w1.heap.size, 6, none⟩ = some (Value.int IntKind.i64 md) := (kA_4 6).trans cA_3_6
    have cA_4_7 : w4.cell? ⟨w1.heap.size, 7, none⟩ = some (Value.int IntKind.i64 ml) := (kA_4 7).trans cA_3_7
    have lB_4 : w1.heap.size + 1 < w4.heap.size := (by first | omega | (simp; done) | (simp; omega))
    have kB_4 : ∀ i, w4.cell? ⟨w1.heap.size + 1, i, none⟩ = w3.cell? ⟨w1.heap.size + 1, i, none⟩ := fun i => (hb4.cell (p := ⟨w1.heap.size + 1, i, none⟩) (by show w1.heap.size + 1 < _; simp only [World.size_alloc]; omega)).trans ((World.cell?_alloc_lt _ _ ⟨w1.heap.size + 1, i, none⟩ (by show w1.heap.size + 1 < _; simp only [World.size_alloc]; omega)).trans ((World.cell?_alloc_lt _ _ ⟨w1.heap.size + 1, i, none⟩ (by show w1.heap.size + 1 < _; omega)).trans rfl))
    have cB_4_0 : w4.cell? ⟨w1.heap.size + 1, 0, none⟩ = some (Value.int IntKind.i64 e') := (kB_4 0).trans cB_3_0
    have cB_4_1 : w4.cell? ⟨w1.heap.size + 1, 1, none⟩ = some (Value.int IntKind.i64 x) := (kB_4 1).trans cB_3_1
    have cB_4_2 : w4.cell? ⟨w1.heap.size + 1, 2, none⟩ = some (Value.int IntKind.i64 y) := (kB_4 2).trans cB_3_2
    have cB_4_3 : w4.cell? ⟨w1.heap.size + 1, 3, none⟩ = some (Value.int IntKind.i64 z) := (kB_4 3).trans cB_3_3
    have lP_4 : w2.heap.size + 1 < w4.heap.size := (by first | omega | (simp; done) | (simp; omega))
    have kP_4 : ∀ i, w4.cell? ⟨w2.heap.size + 1, i, none⟩ = w3.cell? ⟨w2.heap.size + 1, i, none⟩ := fun i => (hb4.cell (p := ⟨w2.heap.size + 1, i, none⟩) (by show w2.heap.size + 1 < _; simp only [World.size_alloc]; omega)).trans ((World.cell?_alloc_lt _ _ ⟨w2.heap.size + 1, i, none⟩ (by show w2.heap.size + 1 < _; simp only [World.size_alloc]; omega)).trans ((World.cell?_alloc_lt _ _ ⟨w2.heap.size + 1, i, none⟩ (by show w2.heap.size + 1 < _; omega)).trans rfl))
    have cP_4_0 : w4.cell? ⟨w2.heap.size + 1, 0, none⟩ = some (Value.int IntKind.i64 a) := (kP_4 0).trans cP_3_0
    have cP_4_1 : w4.cell? ⟨w2.heap.size + 1, 1, none⟩ = some (Value.int IntKind.i64 b) := (kP_4 1).trans cP_3_1
    have cP_4_2 : w4.cell? ⟨w2.heap.size + 1, 2, none⟩ = some (Value.int IntKind.i64 k) := (kP_4 2).trans cP_3_2
    have cP_4_3 : w4.cell? ⟨w2.heap.size + 1, 3, none⟩ = some (Value.int IntKind.i64 c) := (kP_4 3).trans cP_3_3
    have cP_4_4 : w4.cell? ⟨w2.heap.size + 1, 4, none⟩ = some (Value.int IntKind.i64 d) := (kP_4 4).trans cP_3_4
    have cP_4_5 : w4.cell? ⟨w2.heap.size + 1, 5, none⟩ = some (Value.int IntKind.i64 l) := (kP_4 5).trans cP_3_5
    have lO_4 : w3.heap.size + 1 < w4.heap.size := (by first | omega | (simp; done) | (simp; omega))
    have cO_4_0 : w4.cell? ⟨w3.heap.size + 1, 0, none⟩ = some (Value.int IntKind.i64 a') := (hb4.cell (p := ⟨w3.heap.size + 1, 0, none⟩) (by show w3.heap.size + 1 < _; simp only [World.size_alloc]; omega)).trans (by simp [go_sem])
    have cO_4_1 : w4.cell? ⟨w3.heap.size + 1, 1, none⟩ = some (Value.int IntKind.i64 b') := (hb4.cell (p := ⟨w3.heap.size + 1, 1, none⟩) (by show w3.heap.size + 1 < _; simp only [World.size_alloc]; omega)).trans (by simp [go_sem])
    have cO_4_2 : w4.cell? ⟨w3.heap.size + 1, 2, none⟩ = some (Value.int IntKind.i64 k') := (hb4.cell (p := ⟨w3.heap.size + 1, 2, none⟩) (by show w3.heap.size + 1 < _; simp only [World.size_alloc]; omega)).trans (by simp [go_sem])
    have cO_4_3 : w4.cell? ⟨w3.heap.size + 1, 3, none⟩ = some (Value.int IntKind.i64 c') := (hb4.cell (p := ⟨w3.heap.size + 1, 3, none⟩) (by show w3.heap.size + 1 < _; simp only [World.size_alloc]; omega)).trans (by simp [go_sem])
    have cO_4_4 : w4.cell? ⟨w3.heap.size + 1, 4, none⟩ = some (Value.int IntKind.i64 d') := (hb4.cell (p := ⟨w3.heap.size + 1, 4, none⟩) (by show w3.heap.size + 1 < _; simp only [World.size_alloc]; omega)).trans (by simp [go_sem])
    have cO_4_5 : w4.cell? ⟨w3.heap.size + 1, 5, none⟩ = some (Value.int IntKind.i64 l') := (hb4.cell (p := ⟨w3.heap.size + 1, 5, none⟩) (by show w3.heap.size + 1 < _; simp only [World.size_alloc]; omega)).trans (by simp [go_sem])
    clear kA_4 cA_3_0 cA_3_1 cA_3_2 cA_3_3 cA_3_4 cA_3_5 cA_3_6 cA_3_7 kB_4 cB_3_0 cB_3_1 cB_3_2 cB_3_3 kP_4 cP_3_0 cP_3_1 cP_3_2 cP_3_3 cP_3_4 cP_3_5 lA_3 lB_3 lP_3 neA_3 neA_3b neA_3c neA_3d neB_3 neB_3b neB_3c neB_3d neP_3 neP_3b neP_3c neP_3d
    have neA_4 : w1.heap.size ≠ w4.heap.size := by omega
    have neA_4b : w1.heap.size ≠ w4.heap.size + 1 := by omega
    have neA_4c : w4.heap.size ≠ w1.heap.size := by omega
    have neA_4d : w4.heap.size + 1 ≠ w1.heap.size := by omega
    have neB_4 : w1.heap.size + 1 ≠ w4.heap.size := by omega
    have neB_4b : w1.heap.size + 1 ≠ w4.heap.size + 1 := by omega
    have neB_4c : w4.heap.size ≠ w1.heap.size + 1 := by omega
    have neB_4d : w4.heap.size + 1 ≠ w1.heap.size + 1 := by omega
    have neP_4 : w2.heap.size + 1 ≠ w4.heap.size := by omega
    have neP_4b : w2.heap.size + 1 ≠ w4.heap.size + 1 := by omega
    have neP_4c : w4.heap.size ≠ w2.heap.size + 1 := by omega
    have neP_4d : w4.heap.size + 1 ≠ w2.heap.size + 1 := by omega
    have neO_4 : w3.heap.size + 1 ≠ w4.heap.size := by omega
    have neO_4b : w3.heap.size + 1 ≠ w4.heap.size + 1 := by omega
    have neO_4c : w4.heap.size ≠ w3.heap.size + 1 := by omega
    have neO_4d : w4.heap.size + 1 ≠ w3.heap.size + 1 := by omega
    go_wp2_with fail
    go_ret
    exact ⟨rfl, by (repeat (first | with_reducible exact Below.refl _ _ | with_reducible assumption | with_reducible refine below_drewN ?_ _ | with_reducible refine Below.drew ?_ | with_reducible refine Below.alloc ?_ (by first | omega | (simp; done) | (simp; omega)) _ | with_reducible refine Below.setCell ?_ (by first | omega | (simp; done) | (simp; omega)) _ | with_reducible refine Below.trans ?_ (Below.mono (by assumption) (by first | omega | (simp; done) | (simp; omega)))))⟩
  have KV4 := Lib.hid fun w (hT : LT true w) => hM ▸ sVM_any (β := true) t f ma mb mk mc md ml w hT
  refine (KV4.out _ ?_).mono ?_
  · exact LT.below (w := w) hT (Below.alloc (Below.alloc hB3 (by omega) _) (by simp only [World.size_alloc]; omega) _) (Nat.le_refl _)
  rintro e w4 ⟨rfl, hb4⟩
  have z4 := hb4.size
  (try simp only [World.size_alloc] at z4)
  have hB4 : Below w.heap.size w w4 := (Below.alloc (Below.alloc hB3 (by omega) _) (by simp only [World.size_alloc]; omega) _).trans (hb4.mono (by simp only [World.size_alloc]; omega))
  have y4 := hB4.size
  have lA_4 : w1.heap.size < w4.heap.size := (by first | omega | (simp; done) | (simp; omega))
  have kA_4 : ∀ i, w4.cell? ⟨w1.heap.size, i, none⟩ = w3.cell? ⟨w1.heap.size, i, none⟩ := fun i => (hb4.cell (p := ⟨w1.heap.size, i, none⟩) (by show w1.heap.size < _; simp only [World.size_alloc]; omega)).trans ((World.cell?_alloc_lt _ _ ⟨w1.heap.size, i, none⟩ (by show w1.heap.size < _; simp only [World.size_alloc]; omega)).trans ((World.cell?_alloc_lt _ _ ⟨w1.heap.size, i, none⟩ (by show w1.heap.size < _; omega)).trans rfl))
  have cA_4_0 : w4.cell? ⟨w1.heap.size, 0, none⟩ = some (Value.int IntKind.i64 t) := (kA_4 0).trans cA_3_0
  have cA_4_1 : w4.cell? ⟨w1.heap.size, 1, none⟩ = some (Value.bool f) := (kA_4 1).trans cA_3_1
  have cA_4_2 : w4.cell? ⟨w1.heap.size, 2, none⟩ = some (Value.int IntKind.i64 ma) := (kA_4 2).trans cA_3_2
  have cA_4_3 : w4.cell? ⟨w1.heap.size, 3, none⟩ = some (Value.int IntKind.i64 mb) := (kA_4 3).trans cA_3_3
  have cA_4_4 : w4.cell? ⟨w1.heap.size, 4, none⟩ = some (Value.int IntKind.i64 mk) := (kA_4 4).trans cA_3_4
  have cA_4_5 : w4.cell? ⟨w1.heap.size, 5, none⟩ = some (Value.int IntKind.i64 mc) := (kA_4 5).trans cA_3_5
  have cA_4_6 : w4.cell? ⟨w1.heap.size, 6, none⟩ = some (Value.int IntKind.i64 md) := (kA_4 6).trans cA_3_6
  have cA_4_7 : w4.cell? ⟨w1.heap.size, 7, none⟩ = some (Value.int IntKind.i64 ml) := (kA_4 7).trans cA_3_7
  have lB_4 : w1.heap.size + 1 < w4.heap.size := (by first | omega | (simp; done) | (simp; omega))
  have kB_4 : ∀ i, w4.cell? ⟨w1.heap.size + 1, i, none⟩ = w3.cell? ⟨w1.heap.size + 1, i, none⟩ := fun i => (hb4.cell (p := ⟨w1.heap.size + 1, i, none⟩) (by show w1.heap.size + 1 < _; simp only [World.size_alloc]; omega)).trans ((World.cell?_alloc_lt _ _ ⟨w1.heap.size + 1, i, none⟩ (by show w1.heap.size + 1 < _; simp only [World.size_alloc]; omega)).trans ((World.cell?_alloc_lt _ _ ⟨w1.heap.size + 1, i, none⟩ (by show w1.heap.size + 1 < _; omega)).trans rfl))
  have cB_4_0 : w4.cell? ⟨w1.heap.size + 1, 0, none⟩ = some (Value.int IntKind.i64 e') := (kB_4 0).trans cB_3_0
  have cB_4_1 : w4.cell? ⟨w1.heap.size + 1, 1, none⟩ = some (Value.int IntKind.i64 x) := (kB_4 1).trans cB_3_1
  have cB_4_2 : w4.cell? ⟨w1.heap.size + 1, 2, none⟩ = some (Value.int IntKind.i64 y) := (kB_4 2).trans cB_3_2
  have cB_4_3 : w4.cell? ⟨w1.heap.size + 1, 3, none⟩ = some (Value.int IntKind.i64 z) := (kB_4 3).trans cB_3_3
  have lP_4 : w2.heap.size + 1 < w4.heap.size := (by first | omega | (simp; done) | (simp; omega))
  have kP_4 : ∀ i, w4.cell? ⟨w2.heap.size + 1, i, none⟩ = w3.cell? ⟨w2.heap.size + 1, i, none⟩ := fun i => (hb4.cell (p := ⟨w2.heap.size + 1, i, none⟩) (by show w2.heap.size + 1 < _; simp only [World.size_alloc]; omega)).trans ((World.cell?_alloc_lt _ _ ⟨w2.heap.size + 1, i, none⟩ (by show w2.heap.size + 1 < _; simp only [World.size_alloc]; omega)).trans ((World.cell?_alloc_lt _ _ ⟨w2.heap.size + 1, i, none⟩ (by show w2.heap.size + 1 < _; omega)).trans rfl))
  have cP_4_0 : w4.cell? ⟨w2.heap.size + 1, 0, none⟩ = some (Value.int IntKind.i64 a) := (kP_4 0).trans cP_3_0
  have cP_4_1 : w4.cell? ⟨w2.heap.size + 1, 1, none⟩ = some (Value.int IntKind.i64 b) := (kP_4 1).trans cP_3_1
  have cP_4_2 : w4.cell? ⟨w2.heap.size + 1, 2, none⟩ = some (Value.int IntKind.i64 k) := (kP_4 2).trans cP_3_2
  have cP_4_3 : w4.cell? ⟨w2.heap.size + 1, 3, none⟩ = some (Value.int IntKind.i64 c) := (kP_4 3).trans cP_3_3
  have cP_4_4 : w4.cell? ⟨w2.heap.size + 1, 4, none⟩ = some (Value.int IntKind.i64 d) := (kP_4 4).trans cP_3_4
  have cP_4_5 : w4.cell? ⟨w2.heap.size + 1, 5, none⟩ = some (Value.int IntKind.i64 l) := (kP_4 5).trans cP_3_5
  have lO_4 : w3.heap.size + 1 < w4.heap.size := (by first | omega | (simp; done) | (simp; omega))
  have cO_4_0 : w4.cell? ⟨w3.heap.size + 1, 0, none⟩ = some (Value.int IntKind.i64 a') := (hb4.cell (p := ⟨w3.heap.size + 1, 0, none⟩) (by show w3.heap.size + 1 < _; simp only [World.size_alloc]; omega)).trans (by simp [go_sem])
  have cO_4_1 : w4.cell? ⟨w3.heap.size + 1, 1, none⟩ = some (Value.int IntKind.i64 b') := (hb4.cell (p := ⟨w3.heap.size + 1, 1, none⟩) (by show w3.heap.size + 1 < _; simp only [World.size_alloc]; omega)).trans (by simp [go_sem])
  have cO_4_2 : w4.cell? ⟨w3.heap.size + 1, 2, none⟩ = some (Value.int IntKind.i64 k') := (hb4.cell (p := ⟨w3.heap.size + 1, 2, none⟩) (by show w3.heap.size + 1 < _; simp only [World.size_alloc]; omega)).trans (by simp [go_sem])
  have cO_4_3 : w4.cell? ⟨w3.heap.size + 1, 3, none⟩ = some (Value.int IntKind.i64 c') := (hb4.cell (p := ⟨w3.heap.size + 1, 3, none⟩) (by show w3.heap.size + 1 < _; simp only [World.size_alloc]; omega)).trans (by simp [go_sem])
  have cO_4_4 : w4.cell? ⟨w3.heap.size + 1, 4, none⟩ = some (Value.int IntKind.i64 d') := (hb4.cell (p := ⟨w3.heap.size + 1, 4, none⟩) (by show w3.heap.size + 1 < _; simp only [World.size_alloc]; omega)).trans (by simp [go_sem])
  have cO_4_5 : w4.cell? ⟨w3.heap.size + 1, 5, none⟩ = some (Value.int IntKind.i64 l') := (hb4.cell (p := ⟨w3.heap.size + 1, 5, none⟩) (by show w3.heap.size + 1 < _; simp only [World.size_alloc]; omega)).trans (by simp [go_sem])
  clear kA_4 cA_3_0 cA_3_1 cA_3_2 cA_3_3 cA_3_4 cA_3_5 cA_3_6 cA_3_7 kB_4 cB_3_0 cB_3_1 cB_3_2 cB_3_3 kP_4 cP_3_0 cP_3_1 cP_3_2 cP_3_3 cP_3_4 cP_3_5 lA_3 lB_3 lP_3 neA_3 neA_3b neA_3c neA_3d neB_3 neB_3b neB_3c neB_3d neP_3 neP_3b neP_3c neP_3d
  have neA_4 : w1.heap.size ≠ w4.heap.size := by omega
  have neA_4b : w1.heap.size ≠ w4.heap.size + 1 := by omega
  have neA_4c : w4.heap.size ≠ w1.heap.size := by omega
  have neA_4d : w4.heap.size + 1 ≠ w1.heap.size := by omega
  have neB_4 : w1.heap.size + 1 ≠ w4.heap.size := by omega
  have neB_4b : w1.heap.size + 1 ≠ w4.heap.size + 1 := by omega
  have neB_4c : w4.heap.size ≠ w1.heap.size + 1 := by omega
  have neB_4d : w4.heap.size + 1 ≠ w1.heap.size + 1 := by omega
  have neP_4 : w2.heap.size + 1 ≠ w4.heap.size := by omega
  have neP_4b : w2.heap.size + 1 ≠ w4.heap.size + 1 := by omega
  have neP_4c : w4.heap.size ≠ w2.heap.size + 1 := by omega
  have neP_4d : w4.heap.size + 1 ≠ w2.heap.size + 1 := by omega
  have neO_4 : w3.heap.size + 1 ≠ w4.heap.size := by omega
  have neO_4b : w3.heap.size + 1 ≠ w4.heap.size + 1 := by omega
  have neO_4c : w4.heap.size ≠ w3.heap.size + 1 := by omega
  have neO_4d : w4.heap.size + 1 ≠ w3.heap.size + 1 := by omega
  go_wp2_with fail
  cases hL : vL e' x y z
  case false =>
    have KV5 := Lib.hid fun w (hT : LT true w) => hL ▸ sVL_any (β := true) e' x y z w hT
    refine (KV5.out _ ?_).mono ?_
    · exact LT.below (w := w) hT hB4 (Nat.le_refl _)
    rintro e w5 ⟨rfl, hb5⟩
    have z5 := hb5.size
    (try simp only [World.size_alloc] at z5)
    have hB5 : Below w.heap.size w w5 := hB4.trans (hb5.mono (by omega))
    have y5 := hB5.size
    have lA_5 : w1.heap.size < w5.heap.size := (by first | omega | (simp; done) | (simp; omega))
    have kA_5 : ∀ i, w5.cell? ⟨w1.heap.size, i, none⟩ = w4.cell? ⟨w1.heap.size, i, none⟩ := fun i => (hb5.cell (p := ⟨w1.heap.size, i, none⟩) (by show w1.heap.size < _; omega)).trans rfl
    have cA_5_0 : w5.cell? ⟨w1.heap.size, 0, none⟩ = some (Value.int IntKind.i64 t) := (kA_5 0).trans cA_4_0
    have cA_5_1 : w5.cell? ⟨w1.heap.size, 1, none⟩ = some (Value.bool f) := (kA_5 1).trans cA_4_1
    have cA_5_2 : w5.cell? ⟨w1.heap.size, 2, none⟩ = some (Value.int IntKind.i64 ma) := (kA_5 2).trans cA_4_2
    have cA_5_3 : w5.cell? ⟨w1.heap.size, 3, none⟩ = some (Value.int IntKind.i64 mb) := (kA_5 3).trans cA_4_3
    have cA_5_4 : w5.cell? ⟨w1.heap.size, 4, none⟩ = some (Value.int IntKind.i64 mk) := (kA_5 4).trans cA_4_4
    have cA_5_5 : w5.cell? ⟨w1.heap.size, 5, none⟩ = some (Value.int IntKind.i64 mc) := (kA_5 5).trans cA_4_5
    have cA_5_6 : w5.cell? ⟨w1.heap.size, 6, none⟩ = some (Value.int IntKind.i64 md) := (kA_5 6).trans cA_4_6
    have cA_5_7 : w5.cell? ⟨w1.heap.size, 7, none⟩ = some (Value.int IntKind.i64 ml) := (kA_5 7).trans cA_4_7
    have lB_5 : w1.heap.size + 1 < w5.heap.size := (by first | omega | (simp; done) | (simp; omega))
    have kB_5 : ∀ i, w5.cell? ⟨w1.heap.size + 1, i, none⟩ = w4.cell? ⟨w1.heap.size + 1, i, none⟩ := fun i => (hb5.cell (p := ⟨w1.heap.size + 1, i, none⟩) (by show w1.heap.size + 1 < _; omega)).trans rfl
    have cB_5_0 : w5.cell? ⟨w1.heap.size + 1, 0, none⟩ = some (Value.int IntKind.i64 e') := (kB_5 0).trans cB_4_0
    have cB_5_1 : w5.cell? ⟨w1.heap.size + 1, 1, none⟩ = some (Value.int IntKind.i64 x) := (kB_5 1).trans cB_4_1
    have cB_5_2 : w5.cell? ⟨w1.heap.size + 1, 2, none⟩ = some (Value.int IntKind.i64 y) := (kB_5 2).trans cB_4_2
    have cB_5_3 : w5.cell? ⟨w1.heap.size + 1, 3, none⟩ = some (Value.int IntKind.i64 z) := (kB_5 3).trans cB_4_3
    have lP_5 : w2.heap.size + 1 < w5.heap.size := (by first | omega | (simp; done) | (simp; omega))
    have kP_5 : ∀ i, w5.cell? ⟨w2.heap.size + 1, i, none⟩ = w4.cell? ⟨w2.heap.size + 1, i, none⟩ := fun i => (hb5.cell (p := ⟨w2.heap.size + 1, i, none⟩) (by show w2.heap.size + 1 < _; omega)).trans rfl
    have cP_5_0 : w5.cell? ⟨w2.heap.size + 1, 0, none⟩ = some (Value.int IntKind.i64 a) := (kP_5 0).trans cP_4_0
    have cP_5_1 : w5.cell? ⟨w2.heap.size + 1, 1, none⟩ = some (Value.int IntKind.i64 b) := (kP_5 1).trans cP_4_1
    have cP_5_2 : w5.cell? ⟨w2.heap.size + 1, 2, none⟩ = some (Value.int IntKind.i64 k) := (kP_5 2).trans cP_4_2
    have cP_5_3 : w5.cell? ⟨w2.heap.size + 1, 3, none⟩ = some (Value.int IntKind.i64 c) := (kP_5 3).trans cP_4_3
    have cP_5_4 : w5.cell? ⟨w2.heap.size + 1, 4, none⟩ = some (Value.int IntKind.i64 d) := (kP_5 4).trans cP_4_4
    have cP_5_5 : w5.cell? ⟨w2.heap.size + 1, 5, none⟩ = some (Value.int IntKind.i64 l) := (kP_5 5).trans cP_4_5
    have lO_5 : w3.heap.size + 1 < w5.heap.size := (by first | omega | (simp; done) | (simp; omega))
    have kO_5 : ∀ i, w5.cell? ⟨w3.heap.size + 1, i, none⟩ = w4.cell? ⟨w3.heap.size + 1, i, none⟩ := fun i => (hb5.cell (p := ⟨w3.heap.size + 1, i, none⟩) (by show w3.heap.size + 1 < _; omega)).trans rfl
    have cO_5_0 : w5.cell? ⟨w3.heap.size + 1, 0, none⟩ = some (Value.int IntKind.i64 a') := (kO_5 0).trans cO_4_0
    have cO_5_1 : w5.cell? ⟨w3.heap.size + 1, 1, none⟩ = some (Value.int IntKind.i64 b') := (kO_5 1).trans cO_4_1
    have cO_5_2 : w5.cell? ⟨w3.heap.size + 1, 2, none⟩ = some (Value.int IntKind.i64 k') := (kO_5 2).trans cO_4_2
    have cO_5_3 : w5.cell? ⟨w3.heap.size + 1, 3, none⟩ = some (Value.int IntKind.i64 c') := (kO_5 3).trans cO_4_3
    have cO_5_4 : w5.cell? ⟨w3.heap.size + 1, 4, none⟩ = some (Value.int IntKind.i64 d') := (kO_5 4).trans cO_4_4
    have cO_5_5 : w5.cell? ⟨w3.heap.size + 1, 5, none⟩ = some (Value.int IntKind.i64 l') := (kO_5 5).trans cO_4_5
    clear kA_5 cA_4_0 cA_4_1 cA_4_2 cA_4_3 cA_4_4 cA_4_5 cA_4_6 cA_4_7 kB_5 cB_4_0 cB_4_1 cB_4_2 cB_4_3 kP_5 cP_4_0 cP_4_1 cP_4_2 cP_4_3 cP_4_4 cP_4_5 kO_5 cO_4_0 cO_4_1 cO_4_2 cO_4_3 cO_4_4 cO_4_5 lA_4 lB_4 lP_4 lO_4 neA_4 neA_4b neA_4c neA_4d neB_4 neB_4b neB_4c neB_4d neP_4 neP_4b neP_4c neP_4d neO_4 neO_4b neO_4c neO_4d
    have neA_5 : w1.heap.size ≠ w5.heap.size := by omega
    have neA_5b : w1.heap.size ≠ w5.heap.size + 1 := by omega
    have neA_5c : w5.heap.size ≠ w1.heap.size := by omega
    have neA_5d : w5.heap.size + 1 ≠ w1.heap.size := by omega
    have neB_5 : w1.heap.size + 1 ≠ w5.heap.size := by omega
    have neB_5b : w1.heap.size + 1 ≠ w5.heap.size + 1 := by omega
    have neB_5c : w5.heap.size ≠ w1.heap.size + 1 := by omega
    have neB_5d : w5.heap.size + 1 ≠ w1.heap.size + 1 := by omega
    have neP_5 : w2.heap.size + 1 ≠ w5.heap.size := by omega
    have neP_5b : w2.heap.size + 1 ≠ w5.heap.size + 1 := by omega
    have neP_5c : w5.heap.size ≠ w2.heap.size + 1 := by omega
    have neP_5d : w5.heap.size + 1 ≠ w2.heap.size + 1 := by omega
    have neO_5 : w3.heap.size + 1 ≠ w5.heap.size := by omega
    have neO_5b : w3.heap.size + 1 ≠ w5.heap.size + 1 := by omega
    have neO_5c : w5.heap.size ≠ w3.heap.size + 1 := by omega
    have neO_5d : w5.heap.size + 1 ≠ w3.heap.size + 1 := by omega
    go_wp2_with fail
    go_ret
    exact ⟨rfl, by (repeat (first | with_reducible exact Below.refl _ _ | with_reducible assumption | with_reducible refine below_drewN ?_ _ | with_reducible refine Below.drew ?_ | with_reducible refine Below.alloc ?_ (by first | omega | (simp; done) | (simp; omega)) _ | with_reducible refine Below.setCell ?_ (by first | omega | (simp; done) | (simp; omega)) _ | with_reducible refine Below.trans ?_ (Below.mono (by assumption) (by first | omega | (simp; done) | (simp; omega)))))⟩
  have KV5 := Lib.hid fun w (hT : LT true w) => hL ▸ sVL_any (β := true) e' x y z w hT
  refine (KV5.out _ ?_).mono ?_
  · exact LT.below (w := w) hT hB4 (Nat.le_refl _)
  rintro e w5 ⟨rfl, hb5⟩
  have z5 := hb5.size
  (try simp only [World.size_alloc] at z5)
  have hB5 : Below w.heap.size w w5 := hB4.trans (hb5.mono (by omega))
  have y5 := hB5.size
  have lA_5 : w1.heap.size < w5.heap.size := (by first | omega | (simp; done) | (simp; omega))
  have kA_5 : ∀ i, w5.cell? ⟨w1.heap.size, i, none⟩ = w4.cell? ⟨w1.heap.size, i, none⟩ := fun i => (hb5.cell (p := ⟨w1.heap.size, i, none⟩) (by show w1.heap.size < _; omega)).trans rfl
  have cA_5_0 : w5.cell? ⟨w1.heap.size, 0, none⟩ = some (Value.int IntKind.i64 t) := (kA_5 0).trans cA_4_0
  have cA_5_1 : w5.cell? ⟨w1.heap.size, 1, none⟩ = some (Value.bool f) := (kA_5 1).trans cA_4_1
  have cA_5_2 : w5.cell? ⟨w1.heap.size, 2, none⟩ = some (Value.int IntKind.i64 ma) := (kA_5 2).trans cA_4_2
  have cA_5_3 : w5.cell? ⟨w1.heap.size, 3, none⟩ = some (Value.int IntKind.i64 mb) := (kA_5 3).trans cA_4_3
  have cA_5_4 : w5.cell? ⟨w1.heap.size, 4, none⟩ = some (Value.int IntKind.i64 mk) := (kA_5 4).trans cA_4_4
  have cA_5_5 : w5.cell? ⟨w1.heap.size, 5, none⟩ = some (Value.int IntKind.i64 mc) := (kA_5 5).trans cA_4_5
  have cA_5_6 : w5.cell? ⟨w1.heap.size, 6, none⟩ = some (Value.int IntKind.i64 md) := (kA_5 6).trans cA_4_6
  have cA_5_7 : w5.cell? ⟨w1.heap.size, 7, none⟩ = some (Value.int IntKind.i64 ml) := (kA_5 7).trans cA_4_7
  have lB_5 : w1.heap.size + 1 < w5.heap.size := (by first | omega | (simp; done) | (simp; omega))
  have kB_5 : ∀ i, w5.cell? ⟨w1.heap.size + 1, i, none⟩ = w4.cell? ⟨w1.heap.size + 1, i, none⟩ := fun i => (hb5.cell (p := ⟨w1.heap.size + 1, i, none⟩) (by show w1.heap.size + 1 < _; omega)).trans rfl
  have cB_5_0 : w5.cell? ⟨w1.heap.size + 1, 0, none⟩ = some (Value.int IntKind.i64 e') := (kB_5 0).trans cB_4_0
  have cB_5_1 : w5.cell? ⟨w1.heap.size + 1, 1, none⟩ = some (Value.int IntKind.i64 x) := (kB_5 1).trans cB_4_1
  have cB_5_2 : w5.cell? ⟨w1.heap.size + 1, 2, none⟩ = some (Value.int IntKind.i64 y) := (kB_5 2).trans cB_4_2
  have cB_5_3 : w5.cell? ⟨w1.heap.size + 1, 3, none⟩ = some (Value.int IntKind.i64 z) := (kB_5 3).trans cB_4_3
  have lP_5 : w2.heap.size + 1 < w5.heap.size := (by first | omega | (simp; done) | (simp; omega))
  have kP_5 : ∀ i, w5.cell? ⟨w2.heap.size + 1, i, none⟩ = w4.cell? ⟨w2.heap.size + 1, i, none⟩ := fun i => (hb5.cell (p := ⟨w2.heap.size + 1, i, none⟩) (by show w2.heap.size + 1 < _; omega)).trans rfl
  have cP_5_0 : w5.cell? ⟨w2.heap.size + 1, 0, none⟩ = some (Value.int IntKind.i64 a) := (kP_5 0).trans cP_4_0
  have cP_5_1 : w5.cell? ⟨w2.heap.size + 1, 1, none⟩ = some (Value.int IntKind.i64 b) := (kP_5 1).trans cP_4_1
  have cP_5_2 : w5.cell? ⟨w2.heap.size + 1, 2, none⟩ = some (Value.int IntKind.i64 k) := (kP_5 2).trans cP_4_2
  have cP_5_3 : w5.cell? ⟨w2.heap.size + 1, 3, none⟩ = some (Value.int IntKind.i64 c) := (kP_5 3).trans cP_4_3
  have cP_5_4 : w5.cell? ⟨w2.heap.size + 1, 4, none⟩ = some (Value.int IntKind.i64 d) := (kP_5 4).trans cP_4_4
  have cP_5_5 : w5.cell? ⟨w2.heap.size + 1, 5, none⟩ = some (Value.int IntKind.i64 l) := (kP_5 5).trans cP_4_5
  have lO_5 : w3.heap.size + 1 < w5.heap.size := (by first | omega | (simp; done) | (simp; omega))
  have kO_5 : ∀ i, w5.cell? ⟨w3.heap.size + 1, i, none⟩ = w4.cell? ⟨w3.heap.size + 1, i, none⟩ := fun i => (hb5.cell (p := ⟨w3.heap.size + 1, i, none⟩) (by show w3.heap.size + 1 < _; omega)).trans rfl
  have cO_5_0 : w5.cell? ⟨w3.heap.size + 1, 0, none⟩ = some (Value.int IntKind.i64 a') := (kO_5 0).trans cO_4_0
  have cO_5_1 : w5.cell? ⟨w3.heap.size + 1, 1, none⟩ = some (Value.int IntKind.i64 b') := (kO_5 1).trans cO_4_1
  have cO_5_2 : w5.cell? ⟨w3.heap.size + 1, 2, none⟩ = some (Value.int IntKind.i64 k') := (kO_5 2).trans cO_4_2
  have cO_5_3 : w5.cell? ⟨w3.heap.size + 1, 3, none⟩ = some (Value.int IntKind.i64 c') := (kO_5 3).trans cO_4_3
  have cO_5_4 : w5.cell? ⟨w3.heap.size + 1, 4, none⟩ = some (Value.int IntKind.i64 d') := (kO_5 4).trans cO_4_4
  have cO_5_5 : w5.cell? ⟨w3.heap.size + 1, 5, none⟩ = some (Value.int IntKind.i64 l') := (kO_5 5).trans cO_4_5
  clear kA_5 cA_4_0 cA_4_1 cA_4_2 cA_4_3 cA_4_4 cA_4_5 cA_4_6 cA_4_7 kB_5 cB_4_0 cB_4_1 cB_4_2 cB_4_3 kP_5 cP_4_0 cP_4_1 cP_4_2 cP_4_3 cP_4_4 cP_4_5 kO_5 cO_4_0 cO_4_1 cO_4_2 cO_4_3 cO_4_4 cO_4_5 lA_4 lB_4 lP_4 lO_4 neA_4 neA_4b neA_4c neA_4d neB_4 neB_4b neB_4c neB_4d neP_4 neP_4b neP_4c neP_4d neO_4 neO_4b neO_4c neO_4d
  have neA_5 : w1.heap.size ≠ w5.heap.size := by omega
  have neA_5b : w1.heap.size ≠ w5.heap.size + 1 := by omega
  have neA_5c : w5.heap.size ≠ w1.heap.size := by omega
  have neA_5d : w5.heap.size + 1 ≠ w1.heap.size := by omega
  have neB_5 : w1.heap.size + 1 ≠ w5.heap.size := by omega
  have neB_5b : w1.heap.size + 1 ≠ w5.heap.size + 1 := by omega
  have neB_5c : w5.heap.size ≠ w1.heap.size + 1 := by omega
  have neB_5d : w5.heap.size + 1 ≠ w1.heap.size + 1 := by omega
  have neP_5 : w2.heap.size + 1 ≠ w5.heap.size := by omega
  have neP_5b : w2.heap.size + 1 ≠ w5.heap.size + 1 := by omega
  have neP_5c : w5.heap.size ≠ w2.heap.size + 1 := by omega
  have neP_5d : w5.heap.size + 1 ≠ w2.heap.size + 1 := by omega
  have neO_5 : w3.heap.size + 1 ≠ w5.heap.size := by omega
  have neO_5b : w3.heap.size + 1 ≠ w5.heap.size + 1 := by omega
  have neO_5c : w5.heap.size ≠ w3.heap.size + 1 := by omega
  have neO_5d : w5.heap.size + 1 ≠ w3.heap.size + 1 := by omega
  go_wp2_with fail
  cases hP : vP a b k c d l
  case false =>
    have KV6 := Lib.hid fun w (hT : LT true w) => hP ▸ sVP_any (β := true) a b k c d l w hT
    refine (KV6.out _ ?_).mono ?_
    · exact LT.below (w := w) hT hB5 (Nat.le_refl _)
    rintro e w6 ⟨rfl, hb6⟩
    have z6 := hb6.size
    (try simp only [World.size_alloc] at z6)
    have hB6 : Below w.heap.size w w6 := hB5.trans (hb6.mono (by omega))
    have y6 := hB6.size
    have lA_6 : w1.heap.size < w6.heap.size := (by first | omega | (simp; done) | (simp; omega))
    have kA_6 : ∀ i, w6.cell? ⟨w1.heap.size, i, none⟩ = w5.cell? ⟨w1.heap.size, i, none⟩ := fun i => (hb6.cell (p := ⟨w1.heap.size, i, none⟩) (by show w1.heap.size < _; omega)).trans rfl
    have cA_6_0 : w6.cell? ⟨w1.heap.size, 0, none⟩ = some (Value.int IntKind.i64 t) := (kA_6 0).trans cA_5_0
    have cA_6_1 : w6.cell? ⟨w1.heap.size, 1, none⟩ = some (Value.bool f) := (kA_6 1).trans cA_5_1
    have cA_6_2 : w6.cell? ⟨w1.heap.size, 2, none⟩ = some (Value.int IntKind.i64 ma) := (kA_6 2).trans cA_5_2
    have cA_6_3 : w6.cell? ⟨w1.heap.size, 3, none⟩ = some (Value.int IntKind.i64 mb) := (kA_6 3).trans cA_5_3
    have cA_6_4 : w6.cell? ⟨w1.heap.size, 4, none⟩ = some (Value.int IntKind.i64 mk) := (kA_6 4).trans cA_5_4
    have cA_6_5 : w6.cell? ⟨w1.heap.size, 5, none⟩ = some (Value.int IntKind.i64 mc) := (kA_6 5).trans cA_5_5
    have cA_6_6 : w6.cell? ⟨w1.heap.size, 6, none⟩ = some (Value.int IntKind.i64 md) := (kA_6 6).trans cA_5_6
    have cA_6_7 : w6.cell? ⟨w1.heap.size, 7, none⟩ = some (Value.int IntKind.i64 ml) := (kA_6 7).trans cA_5_7
    have lB_6 : w1.heap.size + 1 < w6.heap.size := (by first | omega | (simp; done) | (simp; omega))
    have kB_6 : ∀ i, w6.cell? ⟨w1.heap.size + 1, i, none⟩ = w5.cell? ⟨w1.heap.size + 1, i, none⟩ := fun i => (hb6.cell (p := ⟨w1.heap.size + 1, i, none⟩) (by show w1.heap.size + 1 < _; omega)).trans rfl
    have cB_6_0 : w6.cell? ⟨w1.heap.size + 1, 0, none⟩ = some (Value.int IntKind.i64 e') := (kB_6 0).trans cB_5_0
    have cB_6_1 : w6.cell? ⟨w1.heap.size + 1, 1, none⟩ = some (Value.int IntKind.i64 x) := (kB_6 1).trans cB_5_1
    have cB_6_2 : w6.cell? ⟨w1.heap.size + 1, 2, none⟩ = some (Value.int IntKind.i64 y) := (kB_6 2).trans cB_5_2
    have cB_6_3 : w6.cell? ⟨w1.heap.size + 1, 3, none⟩ = some (Value.int IntKind.i64 z) := (kB_6 3).trans cB_5_3
    have lP_6 : w2.heap.size + 1 < w6.heap.size := (by first | omega | (simp; done) | (simp; omega))
    have kP_6 : ∀ i, w6.cell? ⟨w2.heap.size + 1, i, none⟩ = w5.cell? ⟨w2.heap.size + 1, i, none⟩ := fun i => (hb6.cell (p := ⟨w2.heap.size + 1, i, none⟩) (by show w2.heap.size + 1 < _; omega)).trans rfl
    have cP_6_0 : w6.cell? ⟨w2.heap.size + 1, 0, none⟩ = some (Value.int IntKind.i64 a) := (kP_6 0).trans cP_5_0
    have cP_6_1 : w6.cell? ⟨w2.heap.size + 1, 1, none⟩ = some (Value.int IntKind.i64 b) := (kP_6 1).trans cP_5_1
    have cP_6_2 : w6.cell? ⟨w2.heap.size + 1, 2, none⟩ = some (Value.int IntKind.i64 k) := (kP_6 2).trans cP_5_2
    have cP_6_3 : w6.cell? ⟨w2.heap.size + 1, 3, none⟩ = some (Value.int IntKind.i64 c) := (kP_6 3).trans cP_5_3
    have cP_6_4 : w6.cell? ⟨w2.heap.size + 1, 4, none⟩ = some (Value.int IntKind.i64 d) := (kP_6 4).trans cP_5_4
    have cP_6_5 : w6.cell? ⟨w2.heap.size + 1, 5, none⟩ = some (Value.int IntKind.i64 l) := (kP_6 5).trans cP_5_5
    have lO_6 : w3.heap.size + 1 < w6.heap.size := (by first | omega | (simp; done) | (simp; omega))
    have kO_6 : ∀ i, w6.cell? ⟨w3.heap.size + 1, i, none⟩ = w5.cell? ⟨w3.heap.size + 1, i, none⟩ := fun i => (hb6.cell (p := ⟨w3.heap.size + 1, i, none⟩) (by show w3.heap.size + 1 < _; omega)).trans rfl
    have cO_6_0 : w6.cell? ⟨w3.heap.size + 1, 0, none⟩ = some (Value.int IntKind.i64 a') := (kO_6 0).trans cO_5_0
    have cO_6_1 : w6.cell? ⟨w3.heap.size + 1, 1, none⟩ = some (Value.int IntKind.i64 b') := (kO_6 1).trans cO_5_1
    have cO_6_2 : w6.cell? ⟨w3.heap.size + 1, 2, none⟩ = some (Value.int IntKind.i64 k') := (kO_6 2).trans cO_5_2
    have cO_6_3 : w6.cell? ⟨w3.heap.size + 1, 3, none⟩ = some (Value.int IntKind.i64 c') := (kO_6 3).trans cO_5_3
    have cO_6_4 : w6.cell? ⟨w3.heap.size + 1, 4, none⟩ = some (Value.int IntKind.i64 d') := (kO_6 4).trans cO_5_4
    have cO_6_5 : w6.cell? ⟨w3.heap.size + 1, 5, none⟩ = some (Value.int IntKind.i64 l') := (kO_6 5).trans cO_5_5
    clear kA_6 cA_5_0 cA_5_1 cA_5_2 cA_5_3 cA_5_4 cA_5_5 cA_5_6 cA_5_7 kB_6 cB_5_0 cB_5_1 cB_5_2 cB_5_3 kP_6 cP_5_0 cP_5_1 cP_5_2 cP_5_3 cP_5_4 cP_5_5 kO_6 cO_5_0 cO_5_1 cO_5_2 cO_5_3 cO_5_4 cO_5_5 lA_5 lB_5 lP_5 lO_5 neA_5 neA_5b neA_5c neA_5d neB_5 neB_5b neB_5c neB_5d neP_5 neP_5b neP_5c neP_5d neO_5 neO_5b neO_5c neO_5d
    have neA_6 : w1.heap.size ≠ w6.heap.size := by omega
    have neA_6b : w1.heap.size ≠ w6.heap.size + 1 := by omega
    have neA_6c : w6.heap.size ≠ w1.heap.size := by omega
    have neA_6d : w6.heap.size + 1 ≠ w1.heap.size := by omega
    have neB_6 : w1.heap.size + 1 ≠ w6.heap.size := by omega
    have neB_6b : w1.heap.size + 1 ≠ w6.heap.size + 1 := by omega
    have neB_6c : w6.heap.size ≠ w1.heap.size + 1 := by omega
    have neB_6d : w6.heap.size + 1 ≠ w1.heap.size + 1 := by omega
    have neP_6 : w2.heap.size + 1 ≠ w6.heap.size := by omega
    have neP_6b : w2.heap.size + 1 ≠ w6.heap.size + 1 := by omega
    have neP_6c : w6.heap.size ≠ w2.heap.size + 1 := by omega
    have neP_6d : w6.heap.size + 1 ≠ w2.heap.size + 1 := by omega
    have neO_6 : w3.heap.size + 1 ≠ w6.heap.size := by omega
    have neO_6b : w3.heap.size + 1 ≠ w6.heap.size + 1 := by omega
    have neO_6c : w6.heap.size ≠ w3.heap.size + 1 := by omega
    have neO_6d : w6.heap.size + 1 ≠ w3.heap.size + 1 := by omega
    go_wp2_with fail
    go_ret
    exact ⟨rfl, by (repeat (first | with_reducible exact Below.refl _ _ | with_reducible assumption | with_reducible refine below_drewN ?_ _ | with_reducible refine Below.drew ?_ | with_reducible refine Below.alloc ?_ (by first | omega | (simp; done) | (simp; omega)) _ | with_reducible refine Below.setCell ?_ (by first | omega | (simp; done) | (simp; omega)) _ | with_reducible refine Below.trans ?_ (Below.mono (by assumption) (by first | omega | (simp; done) | (simp; omega)))))⟩
  have KV6 := Lib.hid fun w (hT : LT true w) => hP ▸ sVP_any (β := true) a b k c d l w hT
  refine (KV6.out _ ?_).mono ?_
  · exact LT.below (w := w) hT hB5 (Nat.le_refl _)
  rintro e w6 ⟨rfl, hb6⟩
  have z6 := hb6.size
  (try simp only [World.size_alloc] at z6)
  have hB6 : Below w.heap.size w w6 := hB5.trans (hb6.mono (by omega))
  have y6 := hB6.size
  have lA_6 : w1.heap.size < w6.heap.size := (by first | omega | (simp; done) | (simp; omega))
  have kA_6 : ∀ i, w6.cell? ⟨w1.heap.size, i, none⟩ = w5.cell? ⟨w1.heap.size, i, none⟩ := fun i => (hb6.cell (p := ⟨w1.heap.size, i, none⟩) (by show w1.heap.size < _; omega)).trans rfl
  have cA_6_0 : w6.cell? ⟨w1.heap.size, 0, none⟩ = some (Value.int IntKind.i64 t) := (kA_6 0).trans cA_5_0
  have cA_6_1 : w6.cell? ⟨w1.heap.size, 1, none⟩ = some (Value.bool f) := (kA_6 1).trans cA_5_1
  have cA_6_2 : w6.cell? ⟨w1.heap.size, 2, none⟩ = some (Value.int IntKind.i64 ma) := (kA_6 2).trans cA_5_2
  have cA_6_3 : w6.cell? ⟨w1.heap.size, 3, none⟩ = some (Value.int IntKind.i64 mb) := (kA_6 3).trans cA_5_3
  have cA_6_4 : w6.cell? ⟨w1.heap.size, 4, none⟩ = some (Value.int IntKind.i64 mk) := (kA_6 4).trans cA_5_4
  have cA_6_5 : w6.cell? ⟨w1.heap.size, 5, none⟩ = some (Value.int IntKind.i64 mc) := (kA_6 5).trans cA_5_5
  have cA_6_6 : w6.cell? ⟨w1.heap.size, 6, none⟩ = some (Value.int IntKind.i64 md) := (kA_6 6).trans cA_5_6
  have cA_6_7 : w6.cell? ⟨w1.heap.size, 7, none⟩ = some (Value.int IntKind.i64 ml) := (kA_6 7).trans cA_5_7
  have lB_6 : w1.heap.size + 1 < w6.heap.size := (by first | omega | (simp; done) | (simp; omega))
  have kB_6 : ∀ i, w6.cell? ⟨w1.heap.size + 1, i, none⟩ = w5.cell? ⟨w1.heap.size + 1, i, none⟩ := fun i => (hb6.cell (p := ⟨w1.heap.size + 1, i, none⟩) (by show w1.heap.size + 1 < _; omega)).trans rfl
  have cB_6_0 : w6.cell? ⟨w1.heap.size + 1, 0, none⟩ = some (Value.int IntKind.i64 e') := (kB_6 0).trans cB_5_0
  have cB_6_1 : w6.cell? ⟨w1.heap.size + 1, 1, none⟩ = some (Value.int IntKind.i64 x) := (kB_6 1).trans cB_5_1
  have cB_6_2 : w6.cell? ⟨w1.heap.size + 1, 2, none⟩ = some (Value.int IntKind.i64 y) := (kB_6 2).trans cB_5_2
  have cB_6_3 : w6.cell? ⟨w1.heap.size + 1, 3, none⟩ = some (Value.int IntKind.i64 z) := (kB_6 3).trans cB_5_3
  have lP_6 : w2.heap.size + 1 < w6.heap.size := (by first | omega | (simp; done) | (simp; omega))
  have kP_6 : ∀ i, w6.cell? ⟨w2.heap.size + 1, i, none⟩ = w5.cell? ⟨w2.heap.size + 1, i, none⟩ := fun i => (hb6.cell (p := ⟨w2.heap.size + 1, i, none⟩) (by show w2.heap.size + 1 < _; omega)).trans rfl
  have cP_6_0 : w6.cell? ⟨w2.heap.size + 1, 0, none⟩ = some (Value.int IntKind.i64 a) := (kP_6 0).trans cP_5_0
  have cP_6_1 : w6.cell? ⟨w2.heap.size + 1, 1, none⟩ = some (Value.int IntKind.i64 b) := (kP_6 1).trans cP_5_1
  have cP_6_2 : w6.cell? ⟨w2.heap.size + 1, 2, none⟩ = some (Value.int IntKind.i64 k) := (kP_6 2).trans cP_5_2
  have cP_6_3 : w6.cell? ⟨w2.heap.size + 1, 3, none⟩ = some (Value.int IntKind.i64 c) := (kP_6 3).trans cP_5_3
  have cP_6_4 : w6.cell? ⟨w2.heap.size + 1, 4, none⟩ = some (Value.int IntKind.i64 d) := (kP_6 4).trans cP_5_4
  have cP_6_5 : w6.cell? ⟨w2.heap.size + 1, 5, none⟩ = some (Value.int IntKind.i64 l) := (kP_6 5).trans cP_5_5
  have lO_6 : w3.heap.size + 1 < w6.heap.size := (by first | omega | (simp; done) | (simp; omega))
  have kO_6 : ∀ i, w6.cell? ⟨w3.heap.size + 1, i, none⟩ = w5.cell? ⟨w3.heap.size + 1, i, none⟩ := fun i => (hb6.cell (p := ⟨w3.heap.size + 1, i, none⟩) (by show w3.heap.size + 1 < _; omega)).trans rfl
  have cO_6_0 : w6.cell? ⟨w3.heap.size + 1, 0, none⟩ = some (Value.int IntKind.i64 a') := (kO_6 0).trans cO_5_0
  have cO_6_1 : w6.cell? ⟨w3.heap.size + 1, 1, none⟩ = some (Value.int IntKind.i64 b') := (kO_6 1).trans cO_5_1
  have cO_6_2 : w6.cell? ⟨w3.heap.size + 1, 2, none⟩ = some (Value.int IntKind.i64 k') := (kO_6 2).trans cO_5_2
  have cO_6_3 : w6.cell? ⟨w3.heap.size + 1, 3, none⟩ = some (Value.int IntKind.i64 c') := (kO_6 3).trans cO_5_3
  have cO_6_4 : w6.cell? ⟨w3.heap.size + 1, 4, none⟩ = some (Value.int IntKind.i64 d') := (kO_6 4).trans cO_5_4
  have cO_6_5 : w6.cell? ⟨w3.heap.size + 1, 5, none⟩ = some (Value.int IntKind.i64 l') := (kO_6 5).trans cO_5_5
  clear kA_6 cA_5_0 cA_5_1 cA_5_2 cA_5_3 cA_5_4 cA_5_5 cA_5_6 cA_5_7 kB_6 cB_5_0 cB_5_1 cB_5_2 cB_5_3 kP_6 cP_5_0 cP_5_1 cP_5_2 cP_5_3 cP_5_4 cP_5_5 kO_6 cO_5_0 cO_5_1 cO_5_2 cO_5_3 cO_5_4 cO_5_5 lA_5 lB_5 lP_5 lO_5 neA_5 neA_5b neA_5c neA_5d neB_5 neB_5b neB_5c neB_5d neP_5 neP_5b neP_5c neP_5d neO_5 neO_5b neO_5c neO_5d
  have neA_6 : w1.heap.size ≠ w6.heap.size := by omega
  have neA_6b : w1.heap.size ≠ w6.heap.size + 1 := by omega
  have neA_6c : w6.heap.size ≠ w1.heap.size := by omega
  have neA_6d : w6.heap.size + 1 ≠ w1.heap.size := by omega
  have neB_6 : w1.heap.size + 1 ≠ w6.heap.size := by omega
  have neB_6b : w1.heap.size + 1 ≠ w6.heap.size + 1 := by omega
  have neB_6c : w6.heap.size ≠ w1.heap.size + 1 := by omega
  have neB_6d : w6.heap.size + 1 ≠ w1.heap.size + 1 := by omega
  have neP_6 : w2.heap.size + 1 ≠ w6.heap.size := by omega
  have neP_6b : w2.heap.size + 1 ≠ w6.heap.size + 1 := by omega
  have neP_6c : w6.heap.size ≠ w2.heap.size + 1 := by omega
  have neP_6d : w6.heap.size + 1 ≠ w2.heap.size + 1 := by omega
  have neO_6 : w3.heap.size + 1 ≠ w6.heap.size := by omega
  have neO_6b : w3.heap.size + 1 ≠ w6.heap.size + 1 := by omega
  have neO_6c : w6.heap.size ≠ w3.heap.size + 1 := by omega
  have neO_6d : w6.heap.size + 1 ≠ w3.heap.size + 1 := by omega
  go_wp2_with fail
  cases hQ : vP a' b' k' c' d' l'
  case false =>
    have KV7 := Lib.hid fun w (hT : LT true w) => hQ ▸ sVP_any (β := true) a' b' k' c' d' l' w hT
    refine (KV7.out _ ?_).mono ?_
    · exact LT.below (w := w) hT hB6 (Nat.le_refl _)
    rintro e w7 ⟨rfl, hb7⟩
    have z7 := hb7.size
    (try simp only [World.size_alloc] at z7)
    have hB7 : Below w.heap.size w w7 := hB6.trans (hb7.mono (by omega))
    have y7 := hB7.size
    have lA_7 : w1.heap.size < w7.heap.size := (by first | omega | (simp; done) | (simp; omega))
    have kA_7 : ∀ i, w7.cell? ⟨w1.heap.size, i, none⟩ = w6.cell? ⟨w1.heap.size, i, none⟩ := fun i => (hb7.cell (p := ⟨w1.heap.size, i, none⟩) (by show w1.heap.size < _; omega)).trans rfl
    have cA_7_0 : w7.cell? ⟨w1.heap.size, 0, none⟩ = some (Value.int IntKind.i64 t) := (kA_7 0).trans cA_6_0
    have cA_7_1 : w7.cell? ⟨w1.heap.size, 1, none⟩ = some (Value.bool f) := (kA_7 1).trans cA_6_1
    have cA_7_2 : w7.cell? ⟨w1.heap.size, 2, none⟩ = some (Value.int IntKind.i64 ma) := (kA_7 2).trans cA_6_2
    have cA_7_3 : w7.cell? ⟨w1.heap.size, 3, none⟩ = some (Value.int IntKind.i64 mb) := (kA_7 3).trans cA_6_3
    have cA_7_4 : w7.cell? ⟨w1.heap.size, 4, none⟩ = some (Value.int IntKind.i64 mk) := (kA_7 4).trans cA_6_4
    have cA_7_5 : w7.cell? ⟨w1.heap.size, 5, none⟩ = some (Value.int IntKind.i64 mc) := (kA_7 5).trans cA_6_5
    have cA_7_6 : w7.cell? ⟨w1.heap.size, 6, none⟩ = some (Value.int IntKind.i64 md) := (kA_7 6).trans cA_6_6
    have cA_7_7 : w7.cell? ⟨w1.heap.size, 7, none⟩ = some (Value.int IntKind.i64 ml) := (kA_7 7).trans cA_6_7
    have lB_7 : w1.heap.size + 1 < w7.heap.size := (by first | omega | (simp; done) | (simp; omega))
    have kB_7 : ∀ i, w7.cell? ⟨w1.heap.size + 1, i, none⟩ = w6.cell? ⟨w1.heap.size + 1, i, none⟩ := fun i => (hb7.cell (p := ⟨w1.heap.size + 1, i, none⟩) (by show w1.heap.size + 1 < _; omega)).trans rfl
    have cB_7_0 : w7.cell? ⟨w1.heap.size + 1, 0, none⟩ = some (Value.int IntKind.i64 e') := (kB_7 0).trans cB_6_0
    have cB_7_1 : w7.cell? ⟨w1.heap.size + 1, 1, none⟩ = some (Value.int IntKind.i64 x) := (kB_7 1).trans cB_6_1
    have cB_7_2 : w7.cell? ⟨w1.heap.size + 1, 2, none⟩ = some (Value.int IntKind.i64 y) := (kB_7 2).trans cB_6_2
    have cB_7_3 : w7.cell? ⟨w1.heap.size + 1, 3, none⟩ = some (Value.int IntKind.i64 z) := (kB_7 3).trans cB_6_3
    have lP_7 : w2.heap.size + 1 < w7.heap.size := (by first | omega | (simp; done) | (simp; omega))
    have kP_7 : ∀ i, w7.cell? ⟨w2.heap.size + 1, i, none⟩ = w6.cell? ⟨w2.heap.size + 1, i, none⟩ := fun i => (hb7.cell (p := ⟨w2.heap.size + 1, i, none⟩) (by show w2.heap.size + 1 < _; omega)).trans rfl
    have cP_7_0 : w7.cell? ⟨w2.heap.size + 1, 0, none⟩ = some (Value.int IntKind.i64 a) := (kP_7 0).trans cP_6_0
    have cP_7_1 : w7.cell? ⟨w2.heap.size + 1, 1, none⟩ = some (Value.int IntKind.i64 b) := (kP_7 1).trans cP_6_1
    have cP_7_2 : w7.cell? ⟨w2.heap.size + 1, 2, none⟩ = some (Value.int IntKind.i64 k) := (kP_7 2).trans cP_6_2
    have cP_7_3 : w7.cell? ⟨w2.heap.size + 1, 3, none⟩ = some (Value.int IntKind.i64 c) := (kP_7 3).trans cP_6_3
    have cP_7_4 : w7.cell? ⟨w2.heap.size + 1, 4, none⟩ = some (Value.int IntKind.i64 d) := (kP_7 4).trans cP_6_4
    have cP_7_5 : w7.cell? ⟨w2.heap.size + 1, 5, none⟩ = some (Value.int IntKind.i64 l) := (kP_7 5).trans cP_6_5
    have lO_7 : w3.heap.size + 1 < w7.heap.size := (by first | omega | (simp; done) | (simp; omega))
    have kO_7 : ∀ i, w7.cell? ⟨w3.heap.size + 1, i, none⟩ = w6.cell? ⟨w3.heap.size + 1, i, none⟩ := fun i => (hb7.cell (p := ⟨w3.heap.size + 1, i, none⟩) (by show w3.heap.size + 1 < _; omega)).trans rfl
    have cO_7_0 : w7.cell? ⟨w3.heap.size + 1, 0, none⟩ = some (Value.int IntKind.i64 a') := (kO_7 0).trans cO_6_0
    have cO_7_1 : w7.cell? ⟨w3.heap.size + 1, 1, none⟩ = some (Value.int IntKind.i64 b') := (kO_7 1).trans cO_6_1
    have cO_7_2 : w7.cell? ⟨w3.heap.size + 1, 2, none⟩ = some (Value.int IntKind.i64 k') := (kO_7 2).trans cO_6_2
    have cO_7_3 : w7.cell? ⟨w3.heap.size + 1, 3, none⟩ = some (Value.int IntKind.i64 c') := (kO_7 3).trans cO_6_3
    have cO_7_4 : w7.cell? ⟨w3.heap.size + 1, 4, none⟩ = some (Value.int IntKind.i64 d') := (kO_7 4).trans cO_6_4
    have cO_7_5 : w7.cell? ⟨w3.heap.size + 1, 5, none⟩ = some (Value.int IntKind.i64 l') := (kO_7 5).trans cO_6_5
    clear kA_7 cA_6_0 cA_6_1 cA_6_2 cA_6_3 cA_6_4 cA_6_5 cA_6_6 cA_6_7 kB_7 cB_6_0 cB_6_1 cB_6_2 cB_6_3 kP_7 cP_6_0 cP_6_1 cP_6_2 cP_6_3 cP_6_4 cP_6_5 kO_7 cO_6_0 cO_6_1 cO_6_2 cO_6_3 cO_6_4 cO_6_5 lA_6 lB_6 lP_6 lO_6 neA_6 neA_6b neA_6c neA_6d neB_6 neB_6b neB_6c neB_6d neP_6 neP_6b neP_6c neP_6d neO_6 neO_6b neO_6c neO_6d
    have neA_7 : w1.heap.size ≠ w7.heap.size := by omega
    have neA_7b : w1.heap.size ≠ w7.heap.size + 1 := by omega
    have neA_7c : w7.heap.size ≠ w1.heap.size := by omega
    have neA_7d : w7.heap.size + 1 ≠ w1.heap.size := by omega
    have neB_7 : w1.heap.size + 1 ≠ w7.heap.size := by omega
    have neB_7b : w1.heap.size + 1 ≠ w7.heap.size + 1 := by omega
    have neB_7c : w7.heap.size ≠ w1.heap.size + 1 := by omega
    have neB_7d : w7.heap.size + 1 ≠ w1.heap.size + 1 := by omega
    have neP_7 : w2.heap.size + 1 ≠ w7.heap.size := by omega
    have neP_7b : w2.heap.size + 1 ≠ w7.heap.size + 1 := by omega
    have neP_7c : w7.heap.size ≠ w2.heap.size + 1 := by omega
    have neP_7d : w7.heap.size + 1 ≠ w2.heap.size + 1 := by omega
    have neO_7 : w3.heap.size + 1 ≠ w7.heap.size := by omega
    have neO_7b : w3.heap.size + 1 ≠ w7.heap.size + 1 := by omega
    have neO_7c : w7.heap.size ≠ w3.heap.size + 1 := by omega
    have neO_7d : w7.heap.size + 1 ≠ w3.heap.size + 1 := by omega
    go_wp2_with fail
    go_ret
    exact ⟨rfl, by (repeat (first | with_reducible exact Below.refl _ _ | with_reducible assumption | with_reducible refine below_drewN ?_ _ | with_reducible refine Below.drew ?_ | with_reducible refine Below.alloc ?_ (by first | omega | (simp; done) | (simp; omega)) _ | with_reducible refine Below.setCell ?_ (by first | omega | (simp; done) | (simp; omega)) _ | with_reducible refine Below.trans ?_ (Below.mono (by assumption) (by first | omega | (simp; done) | (simp; omega)))))⟩
  have KV7 := Lib.hid fun w (hT : LT true w) => hQ ▸ sVP_any (β := true) a' b' k' c' d' l' w hT
  refine (KV7.out _ ?_).mono ?_
  · exact LT.below (w := w) hT hB6 (Nat.le_refl _)
  rintro e w7 ⟨rfl, hb7⟩
  have z7 := hb7.size
  (try simp only [World.size_alloc] at z7)
  have hB7 : Below w.heap.size w w7 := hB6.trans (hb7.mono (by omega))
  have y7 := hB7.size
  have lA_7 : w1.heap.size < w7.heap.size := (by first | omega | (simp; done) | (simp; omega))
  have kA_7 : ∀ i, w7.cell? ⟨w1.heap.size, i, none⟩ = w6.cell? ⟨w1.heap.size, i, none⟩ := fun i => (hb7.cell (p := ⟨w1.heap.size, i, none⟩) (by show w1.heap.size < _; omega)).trans rfl
  have cA_7_0 : w7.cell? ⟨w1.heap.size, 0, none⟩ = some (Value.int IntKind.i64 t) := (kA_7 0).trans cA_6_0
  have cA_7_1 : w7.cell? ⟨w1.heap.size, 1, none⟩ = some (Value.bool f) := (kA_7 1).trans cA_6_1
  have cA_7_2 : w7.cell? ⟨w1.heap.size, 2, none⟩ = some (Value.int IntKind.i64 ma) := (kA_7 2).trans cA_6_2
  have cA_7_3 : w7.cell? ⟨w1.heap.size, 3, none⟩ = some (Value.int IntKind.i64 mb) := (kA_7 3).trans cA_6_3
  have cA_7_4 : w7.cell? ⟨w1.heap.size, 4, none⟩ = some (Value.int IntKind.i64 mk) := (kA_7 4).trans cA_6_4
  have cA_7_5 : w7.cell? ⟨w1.heap.size, 5, none⟩ = some (Value.int IntKind.i64 mc) := (kA_7 5).trans cA_6_5
  have cA_7_6 : w7.cell? ⟨w1.heap.size, 6, none⟩ = some (Value.int IntKind.i64 md) := (kA_7 6).trans cA_6_6
  have cA_7_7 : w7.cell? ⟨w1.heap.size, 7, none⟩ = some (Value.int IntKind.i64 ml) := (kA_7 7).trans cA_6_7
  have lB_7 : w1.heap.size + 1 < w7.heap.size := (by first | omega | (simp; done) | (simp; omega))
  have kB_7 : ∀ i, w7.cell? ⟨w1.heap.size + 1, i, none⟩ = w6.cell? ⟨w1.heap.size + 1, i, none⟩ := fun i => (hb7.cell (p := ⟨w1.heap.size + 1, i, none⟩) (by show w1.heap.size + 1 < _; omega)).trans rfl
  have cB_7_0 : w7.cell? ⟨w1.heap.size + 1, 0, none⟩ = some (Value.int IntKind.i64 e') := (kB_7 0).trans cB_6_0
  have cB_7_1 : w7.cell? ⟨w1.heap.size + 1, 1, none⟩ = some (Value.int IntKind.i64 x) := (kB_7 1).trans cB_6_1
  have cB_7_2 : w7.cell? ⟨w1.heap.size + 1, 2, none⟩ = some (Value.int IntKind.i64 y) := (kB_7 2).trans cB_6_2
  have cB_7_3 : w7.cell? ⟨w1.heap.size + 1, 3, none⟩ = some (Value.int IntKind.i64 z) := (kB_7 3).trans cB_6_3
  have lP_7 : w2.heap.size + 1 < w7.heap.size := (by first | omega | (simp; done) | (simp; omega))
  have kP_7 : ∀ i, w7.cell? ⟨w2.heap.size + 1, i, none⟩ = w6.cell? ⟨w2.heap.size + 1, i, none⟩ := fun i => (hb7.cell (p := ⟨w2.heap.size + 1, i, none⟩) (by show w2.heap.size + 1 < _; omega)).trans rfl
  have cP_7_0 : w7.cell? ⟨w2.heap.size + 1, 0, none⟩ = some (Value.int IntKind.i64 a) := (kP_7 0).trans cP_6_0
  have cP_7_1 : w7.cell? ⟨w2.heap.size + 1, 1, none⟩ = some (Value.int IntKind.i64 b) := (kP_7 1).trans cP_6_1
  have cP_7_2 : w7.cell? ⟨w2.heap.size + 1, 2, none⟩ = some (Value.int IntKind.i64 k) := (kP_7 2).trans cP_6_2
  have cP_7_3 : w7.cell? ⟨w2.heap.size + 1, 3, none⟩ = some (Value.int IntKind.i64 c) := (kP_7 3).trans cP_6_3
  have cP_7_4 : w7.cell? ⟨w2.heap.size + 1, 4, none⟩ = some (Value.int IntKind.i64 d) := (kP_7 4).trans cP_6_4
  have cP_7_5 : w7.cell? ⟨w2.heap.size + 1, 5, none⟩ = some (Value.int IntKind.i64 l) := (kP_7 5).trans cP_6_5
  have lO_7 : w3.heap.size + 1 < w7.heap.size := (by first | omega | (simp; done) | (simp; omega))
  have kO_7 : ∀ i, w7.cell? ⟨w3.heap.size + 1, i, none⟩ = w6.cell? ⟨w3.heap.size + 1, i, none⟩ := fun i => (hb7.cell (p := ⟨w3.heap.size + 1, i, none⟩) (by show w3.heap.size + 1 < _; omega)).trans rfl
  have cO_7_0 : w7.cell? ⟨w3.heap.size + 1, 0, none⟩ = some (Value.int IntKind.i64 a') := (kO_7 0).trans cO_6_0
  have cO_7_1 : w7.cell? ⟨w3.heap.size + 1, 1, none⟩ = some (Value.int IntKind.i64 b') := (kO_7 1).trans cO_6_1
  have cO_7_2 : w7.cell? ⟨w3.heap.size + 1, 2, none⟩ = some (Value.int IntKind.i64 k') := (kO_7 2).trans cO_6_2
  have cO_7_3 : w7.cell? ⟨w3.heap.size + 1, 3, none⟩ = some (Value.int IntKind.i64 c') := (kO_7 3).trans cO_6_3
  have cO_7_4 : w7.cell? ⟨w3.heap.size + 1, 4, none⟩ = some (Value.int IntKind.i64 d') := (kO_7 4).trans cO_6_4
  have cO_7_5 : w7.cell? ⟨w3.heap.size + 1, 5, none⟩ = some (Value.int IntKind.i64 l') := (kO_7 5).trans cO_6_5
  clear kA_7 cA_6_0 cA_6_1 cA_6_2 cA_6_3 cA_6_4 cA_6_5 cA_6_6 cA_6_7 kB_7 cB_6_0 cB_6_1 cB_6_2 cB_6_3 kP_7 cP_6_0 cP_6_1 cP_6_2 cP_6_3 cP_6_4 cP_6_5 kO_7 cO_6_0 cO_6_1 cO_6_2 cO_6_3 cO_6_4 cO_6_5 lA_6 lB_6 lP_6 lO_6 neA_6 neA_6b neA_6c neA_6d neB_6 neB_6b neB_6c neB_6d neP_6 neP_6b neP_6c neP_6d neO_6 neO_6b neO_6c neO_6d
  have neA_7 : w1.heap.size ≠ w7.heap.size := by omega
  have neA_7b : w1.heap.size ≠ w7.heap.size + 1 := by omega
  have neA_7c : w7.heap.size ≠ w1.heap.size := by omega
  have neA_7d : w7.heap.size + 1 ≠ w1.heap.size := by omega
  have neB_7 : w1.heap.size + 1 ≠ w7.heap.size := by omega
  have neB_7b : w1.heap.size + 1 ≠ w7.heap.size + 1 := by omega
  have neB_7c : w7.heap.size ≠ w1.heap.size + 1 := by omega
  have neB_7d : w7.heap.size + 1 ≠ w1.heap.size + 1 := by omega
  have neP_7 : w2.heap.size + 1 ≠ w7.heap.size := by omega
  have neP_7b : w2.heap.size + 1 ≠ w7.heap.size + 1 := by omega
  have neP_7c : w7.heap.size ≠ w2.heap.size + 1 := by omega
  have neP_7d : w7.heap.size + 1 ≠ w2.heap.size + 1 := by omega
  have neO_7 : w3.heap.size + 1 ≠ w7.heap.size := by omega
  have neO_7b : w3.heap.size + 1 ≠ w7.heap.size + 1 := by omega
  have neO_7c : w7.heap.size ≠ w3.heap.size + 1 := by omega
  have neO_7d : w7.heap.size + 1 ≠ w3.heap.size + 1 := by omega
  go_wp2_with fail
  obtain ⟨zd, za, zb, zk, v1, q1, q2, q3, q4, q5, q6, v2, r1, r2', r3, r4, r5, r6, v3, sd, vd, dd, hl, hls, hq, hr, hs, hd, hdd, ⟨⟨s0, s1⟩, ⟨d0, d1⟩, g0, g1⟩, hx, hy⟩ := Act.ml_bundle (f := f) hM hL hP hQ
  have KL := Lib.hid hl
  have KLS := Lib.hid hls
  have KQ := Lib.hid hq
  have KR := Lib.hid hr
  have KS := Lib.hid hs
  have KD := Lib.hid hd
  have KE := Lib.hid hdd
  have KX := Lib.hid hx
  have KY := Lib.hid hy
  clear hl hls hq hr hs hd hdd hx hy hM hL hP hQ
  obtain ⟨n1, hn1⟩ : ∃ n : Int, n = -sd := ⟨_, rfl⟩
  have hw1 : IntKind.i64.wrap (-sd) = n1 := by rw [hn1]; exact wrap_in (by omega) (by omega)
  have hw2 : IntKind.i64.wrap (-n1) = sd := by rw [hn1, Int.neg_neg]; exact wrap_in (by omega) (by omega)
  have HN := Lib.hid hn1
  clear hn1
  refine (KL.out _ ?_).mono ?_
  · exact LT.below (w := w) hT hB7 (Nat.le_refl _)
  rintro e w8 ⟨rfl, hb8⟩
  have z8 := hb8.size
  (try simp only [World.size_alloc] at z8)
  have hB8 : Below w.heap.size w w8 := hB7.trans (hb8.mono (by omega))
  have y8 := hB8.size
  have lA_8 : w1.heap.size < w8.heap.size := (by first | omega | (simp; done) | (simp; omega))
  have kA_8 : ∀ i, w8.cell? ⟨w1.heap.size, i, none⟩ = w7.cell? ⟨w1.heap.size, i, none⟩ := fun i => (hb8.cell (p := ⟨w1.heap.size, i, none⟩) (by show w1.heap.size < _; omega)).trans rfl
  have cA_8_0 : w8.cell? ⟨w1.heap.size, 0, none⟩ = some (Value.int IntKind.i64 t) := (kA_8 0).trans cA_7_0
  have cA_8_1 : w8.cell? ⟨w1.heap.size, 1, none⟩ = some (Value.bool f) := (kA_8 1).trans cA_7_1
  have cA_8_2 : w8.cell? ⟨w1.heap.size, 2, none⟩ = some (Value.int IntKind.i64 ma) := (kA_8 2).trans cA_7_2
  have cA_8_3 : w8.cell? ⟨w1.heap.size, 3, none⟩ = some (Value.int IntKind.i64 mb) := (kA_8 3).trans cA_7_3
  have cA_8_4 : w8.cell? ⟨w1.heap.size, 4, none⟩ = some (Value.int IntKind.i64 mk) := (kA_8 4).trans cA_7_4
  have cA_8_5 : w8.cell? ⟨w1.heap.size, 5, none⟩ = some (Value.int IntKind.i64 mc) := (kA_8 5).trans cA_7_5
  have cA_8_6 : w8.cell? ⟨w1.heap.size, 6, none⟩ = some (Value.int IntKind.i64 md) := (kA_8 6).trans cA_7_6
  have cA_8_7 : w8.cell? ⟨w1.heap.size, 7, none⟩ = some (Value.int IntKind.i64 ml) := (kA_8 7).trans cA_7_7
  have lB_8 : w1.heap.size + 1 < w8.heap.size := (by first | omega | (simp; done) | (simp; omega))
  have kB_8 : ∀ i, w8.cell? ⟨w1.heap.size + 1, i, none⟩ = w7.cell? ⟨w1.heap.size + 1, i, none⟩ := fun i => (hb8.cell (p := ⟨w1.heap.size + 1, i, none⟩) (by show w1.heap.size + 1 < _; omega)).trans rfl
  have cB_8_0 : w8.cell? ⟨w1.heap.size + 1, 0, none⟩ = some (Value.int IntKind.i64 e') := (kB_8 0).trans cB_7_0
  have cB_8_1 : w8.cell? ⟨w1.heap.size + 1, 1, none⟩ = some (Value.int IntKind.i64 x) := (kB_8 1).trans cB_7_1
  have cB_8_2 : w8.cell? ⟨w1.heap.size + 1, 2, none⟩ = some (Value.int IntKind.i64 y) := (kB_8 2).trans cB_7_2
  have cB_8_3 : w8.cell? ⟨w1.heap.size + 1, 3, none⟩ = some (Value.int IntKind.i64 z) := (kB_8 3).trans cB_7_3
  have lP_8 : w2.heap.size + 1 < w8.heap.size := (by first | omega | (simp; done) | (simp; omega))
  have kP_8 : ∀ i, w8.cell? ⟨w2.heap.size + 1, i, none⟩ = w7.cell? ⟨w2.heap.size + 1, i, none⟩ := fun i => (hb8.cell (p := ⟨w2.heap.size + 1, i, none⟩) (by show w2.heap.size + 1 < _; omega)).trans rfl
  have cP_8_0 : w8.cell? ⟨w2.heap.size + 1, 0, none⟩ = some (Value.int IntKind.i64 a) := (kP_8 0).trans cP_7_0
  have cP_8_1 : w8.cell? ⟨w2.heap.size + 1, 1, none⟩ = some (Value.int IntKind.i64 b) := (kP_8 1).trans cP_7_1
  have cP_8_2 : w8.cell? ⟨w2.heap.size + 1, 2, none⟩ = some (Value.int IntKind.i64 k) := (kP_8 2).trans cP_7_2
  have cP_8_3 : w8.cell? ⟨w2.heap.size + 1, 3, none⟩ = some (Value.int IntKind.i64 c) := (kP_8 3).trans cP_7_3
  have cP_8_4 : w8.cell? ⟨w2.heap.size + 1, 4, none⟩ = some (Value.int IntKind.i64 d) := (kP_8 4).trans cP_7_4
  have cP_8_5 : w8.cell? ⟨w2.heap.size + 1, 5, none⟩ = some (Value.int IntKind.i64 l) := (kP_8 5).trans cP_7_5
  have lO_8 : w3.heap.size + 1 < w8.heap.size := (by first | omega | (simp; done) | (simp; omega))
  have kO_8 : ∀ i, w8.cell? ⟨w3.heap.size + 1, i, none⟩ = w7.cell? ⟨w3.heap.size + 1, i, none⟩ := fun i => (hb8.cell (p := ⟨w3.heap.size + 1, i, none⟩) (by show w3.heap.size + 1 < _; omega)).trans rfl
  have cO_8_0 : w8.cell? ⟨w3.heap.size + 1, 0, none⟩ = some (Value.int IntKind.i64 a') := (kO_8 0).trans cO_7_0
  have cO_8_1 : w8.cell? ⟨w3.heap.size + 1, 1, none⟩ = some (Value.int IntKind.i64 b') := (kO_8 1).trans cO_7_1
  have cO_8_2 : w8.cell? ⟨w3.heap.size + 1, 2, none⟩ = some (Value.int IntKind.i64 k') := (kO_8 2).trans cO_7_2
  have cO_8_3 : w8.cell? ⟨w3.heap.size + 1, 3, none⟩ = some (Value.int IntKind.i64 c') := (kO_8 3).trans cO_7_3
  have cO_8_4 : w8.cell? ⟨w3.heap.size + 1, 4, none⟩ = some (Value.int IntKind.i64 d') := (kO_8 4).trans cO_7_4
  have cO_8_5 : w8.cell? ⟨w3.heap.size + 1, 5, none⟩ = some (Value.int IntKind.i64 l') := (kO_8 5).trans cO_7_5
  clear kA_8 cA_7_0 cA_7_1 cA_7_2 cA_7_3 cA_7_4 cA_7_5 cA_7_6 cA_7_7 kB_8 cB_7_0 cB_7_1 cB_7_2 cB_7_3 kP_8 cP_7_0 cP_7_1 cP_7_2 cP_7_3 cP_7_4 cP_7_5 kO_8 cO_7_0 cO_7_1 cO_7_2 cO_7_3 cO_7_4 cO_7_5 lA_7 lB_7 lP_7 lO_7 neA_7 neA_7b neA_7c neA_7d neB_7 neB_7b neB_7c neB_7d neP_7 neP_7b neP_7c neP_7d neO_7 neO_7b neO_7c neO_7d
  have neA_8 : w1.heap.size ≠ w8.heap.size := by omega
  have neA_8b : w1.heap.size ≠ w8.heap.size + 1 := by omega
  have neA_8c : w8.heap.size ≠ w1.heap.size := by omega
  have neA_8d : w8.heap.size + 1 ≠ w1.heap.size := by omega
  have neB_8 : w1.heap.size + 1 ≠ w8.heap.size := by omega
  have neB_8b : w1.heap.size + 1 ≠ w8.heap.size + 1 := by omega
  have neB_8c : w8.heap.size ≠ w1.heap.size + 1 := by omega
  have neB_8d : w8.heap.size + 1 ≠ w1.heap.size + 1 := by omega
  have neP_8 : w2.heap.size + 1 ≠ w8.heap.size := by omega
  have neP_8b : w2.heap.size + 1 ≠ w8.heap.size + 1 := by omega
  have neP_8c : w8.heap.size ≠ w2.heap.size + 1 := by omega
  have neP_8d : w8.heap.size + 1 ≠ w2.heap.size + 1 := by omega
  have neO_8 : w3.heap.size + 1 ≠ w8.heap.size := by omega
  have neO_8b : w3.heap.size + 1 ≠ w8.heap.size + 1 := by omega
  have neO_8c : w8.heap.size ≠ w3.heap.size + 1 := by omega
  have neO_8d : w8.heap.size + 1 ≠ w3.heap.size + 1 := by omega
  go_wp2_with fail
  refine (KQ.out _ ?_).mono ?_
  · exact LT.below (w := w) hT (Below.alloc hB8 (by omega) _) (Nat.le_refl _)
  rintro e w9 ⟨rfl, hb9⟩
  have z9 := hb9.size
  (try simp only [World.size_alloc] at z9)
  have hB9 : Below w.heap.size w w9 := (Below.alloc hB8 (by omega) _).trans (hb9.mono (by simp only [World.size_alloc]; omega))
  have y9 := hB9.size
  have lA_9 : w1.heap.size < w9.heap.size := (by first | omega | (simp; done) | (simp; omega))
  have kA_9 : ∀ i, w9.cell? ⟨w1.heap.size, i, none⟩ = w8.cell? ⟨w1.heap.size, i, none⟩ := fun i => (hb9.cell (p := ⟨w1.heap.size, i, none⟩) (by show w1.heap.size < _; simp only [World.size_alloc]; omega)).trans ((World.cell?_alloc_lt _ _ ⟨w1.heap.size, i, none⟩ (by show w1.heap.size < _; omega)).trans rfl)
  have cA_9_0 : w9.cell? ⟨w1.heap.size, 0, none⟩ = some (Value.int IntKind.i64 t) := (kA_9 0).trans cA_8_0
  have cA_9_1 : w9.cell? ⟨w1.heap.size, 1, none⟩ = some (Value.bool f) := (kA_9 1).trans cA_8_1
  have cA_9_2 : w9.cell? ⟨w1.heap.size, 2, none⟩ = some (Value.int IntKind.i64 ma) := (kA_9 2).trans cA_8_2
  have cA_9_3 : w9.cell? ⟨w1.heap.size, 3, none⟩ = some (Value.int IntKind.i64 mb) := (kA_9 3).trans cA_8_3
  have cA_9_4 : w9.cell? ⟨w1.heap.size, 4, none⟩ = some (Value.int IntKind.i64 mk) := (kA_9 4).trans cA_8_4
  have cA_9_5 : w9.cell? ⟨w1.heap.size, 5, none⟩ = some (Value.int IntKind.i64 mc) := (kA_9 5).trans cA_8_5
  have cA_9_6 : w9.cell? ⟨w1.heap.size, 6, none⟩ = some (Value.int IntKind.i64 md) := (kA_9 6).trans cA_8_6
  have cA_9_7 : w9.cell? ⟨w1.heap.size, 7, none⟩ = some (Value.int IntKind.i64 ml) := (kA_9 7).trans cA_8_7
  have lB_9 : w1.heap.size + 1 < w9.heap.size := (by first | omega | (simp; done) | (simp; omega))
  have kB_9 : ∀ i, w9.cell? ⟨w1.heap.size + 1, i, none⟩ = w8.cell? ⟨w1.heap.size + 1, i, none⟩ := fun i => (hb9.cell (p := ⟨w1.heap.size + 1, i, none⟩) (by show w1.heap.size + 1 < _; simp only [World.size_alloc]; omega)).trans ((World.cell?_alloc_lt _ _ ⟨w1.heap.size + 1, i, none⟩ (by show w1.heap.size + 1 < _; omega)).trans rfl)
  have cB_9_0 : w9.cell? ⟨w1.heap.size + 1, 0, none⟩ = some (Value.int IntKind.i64 e') := (kB_9 0).trans cB_8_0
  have cB_9_1 : w9.cell? ⟨w1.heap.size + 1, 1, none⟩ = some (Value.int IntKind.i64 x) := (kB_9 1).trans cB_8_1
  have cB_9_2 : w9.cell? ⟨w1.heap.size + 1, 2, none⟩ = some (Value.int IntKind.i64 y) := (kB_9 2).trans cB_8_2
  have cB_9_3 : w9.cell? ⟨w1.heap.size + 1, 3, none⟩ = some (Value.int IntKind.i64 z) := (kB_9 3).trans cB_8_3
  have lP_9 : w2.heap.size + 1 < w9.heap.size := (by first | omega | (simp; done) | (simp; omega))
  have kP_9 : ∀ i, w9.cell? ⟨w2.heap.size + 1, i, none⟩ = w8.cell? ⟨w2.heap.size + 1, i, none⟩ := fun i => (hb9.cell (p := ⟨w2.heap.size + 1, i, none⟩) (by show w2.heap.size + 1 < _; simp only [World.size_alloc]; omega)).trans ((World.cell?_alloc_lt _ _ ⟨w2.heap.size + 1, i, none⟩ (by show w2.heap.size + 1 < _; omega)).trans rfl)
  have cP_9_0 : w9.cell? ⟨w2.heap.size + 1, 0, none⟩ = some (Value.int IntKind.i64 a) := (kP_9 0).trans cP_8_0
  have cP_9_1 : w9.cell? ⟨w2.heap.size + 1, 1, none⟩ = some (Value.int IntKind.i64 b) := (kP_9 1).trans cP_8_1
  have cP_9_2 : w9.cell? ⟨w2.heap.size + 1, 2, none⟩ = some (Value.int IntKind.i64 k) := (kP_9 2).trans cP_8_2
  have cP_9_3 : w9.cell? ⟨w2.heap.size + 1, 3, none⟩ = some (Value.int IntKind.i64 c) := (kP_9 3).trans cP_8_3
  have cP_9_4 : w9.cell? ⟨w2.heap.size + 1, 4, none⟩ = some (Value.int IntKind.i64 d) := (kP_9 4).trans cP_8_4
  have cP_9_5 : w9.cell? ⟨w2.heap.size + 1, 5, none⟩ = some (Value.int IntKind.i64 l) := (kP_9 5).trans cP_8_5
  have lO_9 : w3.heap.size + 1 < w9.heap.size := (by first | omega | (simp; done) | (simp; omega))
  have kO_9 : ∀ i, w9.cell? ⟨w3.heap.size + 1, i, none⟩ = w8.cell? ⟨w3.heap.size + 1, i, none⟩ := fun i => (hb9.cell (p := ⟨w3.heap.size + 1, i, none⟩) (by show w3.heap.size + 1 < _; simp only [World.size_alloc]; omega)).trans ((World.cell?_alloc_lt _ _ ⟨w3.heap.size + 1, i, none⟩ (by show w3.heap.size + 1 < _; omega)).trans rfl)
  have cO_9_0 : w9.cell? ⟨w3.heap.size + 1, 0, none⟩ = some (Value.int IntKind.i64 a') := (kO_9 0).trans cO_8_0
  have cO_9_1 : w9.cell? ⟨w3.heap.size + 1, 1, none⟩ = some (Value.int IntKind.i64 b') := (kO_9 1).trans cO_8_1
  have cO_9_2 : w9.cell? ⟨w3.heap.size + 1, 2, none⟩ = some (Value.int IntKind.i64 k') := (kO_9 2).trans cO_8_2
  have cO_9_3 : w9.cell? ⟨w3.heap.size + 1, 3, none⟩ = some (Value.int IntKind.i64 c') := (kO_9 3).trans cO_8_3
  have cO_9_4 : w9.cell? ⟨w3.heap.size + 1, 4, none⟩ = some (Value.int IntKind.i64 d') := (kO_9 4).trans cO_8_4
  have cO_9_5 : w9.cell? ⟨w3.heap.size + 1, 5, none⟩ = some (Value.int IntKind.i64 l') := (kO_9 5).trans cO_8_5
  have lX_9 : w8.heap.size < w9.heap.size := (by first | omega | (simp; done) | (simp; omega))
  have cX_9_0 : w9.cell? ⟨w8.heap.size, 0, none⟩ = some (Value.int IntKind.i64 zd) := (hb9.cell (p := ⟨w8.heap.size, 0, none⟩) (by show w8.heap.size < _; simp only [World.size_alloc]; omega)).trans (by simp [go_sem])
  have cX_9_1 : w9.cell? ⟨w8.heap.size, 1, none⟩ = some (Value.int IntKind.i64 za) := (hb9.cell (p := ⟨w8.heap.size, 1, none⟩) (by show w8.heap.size < _; simp only [World.size_alloc]; omega)).trans (by simp [go_sem])
  have cX_9_2 : w9.cell? ⟨w8.heap.size, 2, none⟩ = some (Value.int IntKind.i64 zb) := (hb9.cell (p := ⟨w8.heap.size, 2, none⟩) (by show w8.heap.size < _; simp only [World.size_alloc]; omega)).trans (by simp [go_sem])
  have cX_9_3 : w9.cell? ⟨w8.heap.size, 3, none⟩ = some (Value.int IntKind.i64 zk) := (hb9.cell (p := ⟨w8.heap.size, 3, none⟩) (by show w8.heap.size < _; simp only [World.size_alloc]; omega)).trans (by simp [go_sem])
  clear kA_9 cA_8_0 cA_8_1 cA_8_2 cA_8_3 cA_8_4 cA_8_5 cA_8_6 cA_8_7 kB_9 cB_8_0 cB_8_1 cB_8_2 cB_8_3 kP_9 cP_8_0 cP_8_1 cP_8_2 cP_8_3 cP_8_4 cP_8_5 kO_9 cO_8_0 cO_8_1 cO_8_2 cO_8_3 cO_8_4 cO_8_5 lA_8 lB_8 lP_8 lO_8 neA_8 neA_8b neA_8c neA_8d neB_8 neB_8b neB_8c neB_8d neP_8 neP_8b neP_8c neP_8d neO_8 neO_8b neO_8c neO_8d
  have neA_9 : w1.heap.size ≠ w9.heap.size := by omega
  have neA_9b : w1.heap.size ≠ w9.heap.size + 1 := by omega
  have neA_9c : w9.heap.size ≠ w1.heap.size := by omega
  have neA_9d : w9.heap.size + 1 ≠ w1.heap.size := by omega
  have neB_9 : w1.heap.size + 1 ≠ w9.heap.size := by omega
  have neB_9b : w1.heap.size + 1 ≠ w9.heap.size + 1 := by omega
  have neB_9c : w9.heap.size ≠ w1.heap.size + 1 := by omega
  have neB_9d : w9.heap.size + 1 ≠ w1.heap.size + 1 := by omega
  have neP_9 : w2.heap.size + 1 ≠ w9.heap.size := by omega
  have neP_9b : w2.heap.size + 1 ≠ w9.heap.size + 1 := by omega
  have neP_9c : w9.heap.size ≠ w2.heap.size + 1 := by omega
  have neP_9d : w9.heap.size + 1 ≠ w2.heap.size + 1 := by omega
  have neO_9 : w3.heap.size + 1 ≠ w9.heap.size := by omega
  have neO_9b : w3.heap.size + 1 ≠ w9.heap.size + 1 := by omega
  have neO_9c : w9.heap.size ≠ w3.heap.size + 1 := by omega
  have neO_9d : w9.heap.size + 1 ≠ w3.heap.size + 1 := by omega
  have neX_9 : w8.heap.size ≠ w9.heap.size := by omega
  have neX_9b : w8.heap.size ≠ w9.heap.size + 1 := by omega
  have neX_9c : w9.heap.size ≠ w8.heap.size := by omega
  have neX_9d : w9.heap.size + 1 ≠ w8.heap.size := by omega
  go_wp2_with fail
  refine (KR.out _ ?_).mono ?_
  · exact LT.below (w := w) hT (Below.alloc hB9 (by omega) _) (Nat.le_refl _)
  rintro e w10 ⟨rfl, hb10⟩
  have z10 := hb10.size
  (try simp only [World.size_alloc] at z10)
  have hB10 : Below w.heap.size w w10 := (Below.alloc hB9 (by omega) _).trans (hb10.mono (by simp only [World.size_alloc]; omega))
  have y10 := hB10.size
  have lA_10 : w1.heap.size < w10.heap.size := (by first | omega | (simp; done) | (simp; omega))
  have kA_10 : ∀ i, w10.cell? ⟨w1.heap.size, i, none⟩ = w9.cell? ⟨w1.heap.size, i, none⟩ := fun i => (hb10.cell (p := ⟨w1.heap.size, i, none⟩) (by show w1.heap.size < _; simp only [World.size_alloc]; omega)).trans ((World.cell?_alloc_lt _ _ ⟨w1.heap.size, i, none⟩ (by show w1.heap.size < _; omega)).trans rfl)
  have cA_10_0 : w10.cell? ⟨w1.heap.size, 0, none⟩ = some (Value.int IntKind.i64 t) := (kA_10 0).trans cA_9_0
  have cA_10_1 : w10.cell? ⟨w1.heap.size, 1, none⟩ = some (Value.bool f) := (kA_10 1).trans cA_9_1
  have cA_10_2 : w10.cell? ⟨w1.heap.size, 2, none⟩ = some (Value.int IntKind.i64 ma) := (kA_10 2).trans cA_9_2
  have cA_10_3 : w10.cell? ⟨w1.heap.size, 3, none⟩ = some (Value.int IntKind.i64 mb) := (kA_10 3).trans cA_9_3
  have cA_10_4 : w10.cell? ⟨w1.heap.size, 4, none⟩ = some (Value.int IntKind.i64 mk) := (kA_10 4).trans cA_9_4
  have cA_10_5 : w10.cell? ⟨w1.heap.size, 5, none⟩ = some (Value.int IntKind.i64 mc) := (kA_10 5).trans cA_9_5
  have cA_10_6 : w10.cell? ⟨w1.heap.size, 6, none⟩ = some (Value.int IntKind.i64 md) := (kA_10 6).trans cA_9_6
  have cA_10_7 : w10.cell? ⟨w1.heap.size, 7, none⟩ = some (Value.int IntKind.i64 ml) := (kA_10 7).trans cA_9_7
  have lB_10 : w1.heap.size + 1 < w10.heap.size := (by first | omega | (simp; done) | (simp; omega))
  have kB_10 : ∀ i, w10.cell? ⟨w1.heap.size + 1, i, none⟩ = w9.cell? ⟨w1.heap.size + 1, i, none⟩ := fun i => (hb10.cell (p := ⟨w1.heap.size + 1, i, none⟩) (by show w1.heap.size + 1 < _; simp only [World.size_alloc]; omega)).trans ((World.cell?_alloc_lt _ _ ⟨w1.heap.size + 1, i, none⟩ (by show w1.heap.size + 1 < _; omega)).trans rfl)
  have cB_10_0 : w10.cell? ⟨w1.heap.size + 1, 0, none⟩ = some (Value.int IntKind.i64 e') := (kB_10 0).trans cB_9_0
  have cB_10_1 : w10.cell? ⟨w1.heap.size + 1, 1, none⟩ = some (Value.int IntKind.i64 x) := (kB_10 1).trans cB_9_1
  have cB_10_2 : w10.cell? ⟨w1.heap.size + 1, 2, none⟩ = some (Value.int IntKind.i64 y) := (kB_10 2).trans cB_9_2
  have cB_10_3 : w10.cell? ⟨w1.heap.size + 1, 3, none⟩ = some (Value.int IntKind.i64 z) := (kB_10 3).trans cB_9_3
  have lP_10 : w2.heap.size + 1 < w10.heap.size := (by first | omega | (simp; done) | (simp; omega))
  have kP_10 : ∀ i, w10.cell? ⟨w2.heap.size + 1, i, none⟩ = w9.cell? ⟨w2.heap.size + 1, i, none⟩ := fun i => (hb10.cell (p := ⟨w2.heap.size + 1, i, none⟩) (by show w2.heap.size + 1 < _; simp only [World.size_alloc]; omega)).trans ((World.cell?_alloc_lt _ _ ⟨w2.heap.size + 1, i, none⟩ (by show w2.heap.size + 1 < _; omega)).trans rfl)
  have cP_10_0 : w10.cell? ⟨w2.heap.size + 1, 0, none⟩ = some (Value.int IntKind.i64 a) := (kP_10 0).trans cP_9_0
  have cP_10_1 : w10.cell? ⟨w2.heap.size + 1, 1, none⟩ = some (Value.int IntKind.i64 b) := (kP_10 1).trans cP_9_1
  have cP_10_2 : w10.cell? ⟨w2.heap.size + 1, 2, none⟩ = some (Value.int IntKind.i64 k) := (kP_10 2).trans cP_9_2
  have cP_10_3 : w10.cell? ⟨w2.heap.size + 1, 3, none⟩ = some (Value.int IntKind.i64 c) := (kP_10 3).trans cP_9_3
  have cP_10_4 : w10.cell? ⟨w2.heap.size + 1, 4, none⟩ = some (Value.int IntKind.i64 d) := (kP_10 4).trans cP_9_4
  have cP_10_5 : w10.cell? ⟨w2.heap.size + 1, 5, none⟩ = some (Value.int IntKind.i64 l) := (kP_10 5).trans cP_9_5
  have lO_10 : w3.heap.size + 1 < w10.heap.size := (by first | omega | (simp; done) | (simp; omega))
  have kO_10 : ∀ i, w10.cell? ⟨w3.heap.size + 1, i, none⟩ = w9.cell? ⟨w3.heap.size + 1, i, none⟩ := fun i => (hb10.cell (p := ⟨w3.heap.size + 1, i, none⟩) (by show w3.heap.size + 1 < _; simp only [World.size_alloc]; omega)).trans ((World.cell?_alloc_lt _ _ ⟨w3.heap.size + 1, i, none⟩ (by show w3.heap.size + 1 < _; omega)).trans rfl)
  have cO_10_0 : w10.cell? ⟨w3.heap.size + 1, 0, none⟩ = some (Value.int IntKind.i64 a') := (kO_10 0).trans cO_9_0
  have cO_10_1 : w10.cell? ⟨w3.heap.size + 1, 1, none⟩ = some (Value.int IntKind.i64 b') := (kO_10 1).trans cO_9_1
  have cO_10_2 : w10.cell? ⟨w3.heap.size + 1, 2, none⟩ = some (Value.int IntKind.i64 k') := (kO_10 2).trans cO_9_2
  have cO_10_3 : w10.cell? ⟨w3.heap.size + 1, 3, none⟩ = some (Value.int IntKind.i64 c') := (kO_10 3).trans cO_9_3
  have cO_10_4 : w10.cell? ⟨w3.heap.size + 1, 4, none⟩ = some (Value.int IntKind.i64 d') := (kO_10 4).trans cO_9_4
  have cO_10_5 : w10.cell? ⟨w3.heap.size + 1, 5, none⟩ = some (Value.int IntKind.i64 l') := (kO_10 5).trans cO_9_5
  have lX_10 : w8.heap.size < w10.heap.size := (by first | omega | (simp; done) | (simp; omega))
  have kX_10 : ∀ i, w10.cell? ⟨w8.heap.size, i, none⟩ = w9.cell? ⟨w8.heap.size, i, none⟩ := fun i => (hb10.cell (p := ⟨w8.heap.size, i, none⟩) (by show w8.heap.size < _; simp only [World.size_alloc]; omega)).trans ((World.cell?_alloc_lt _ _ ⟨w8.heap.size, i, none⟩ (by show w8.heap.size < _; omega)).trans rfl)
  have cX_10_0 : w10.cell? ⟨w8.heap.size, 0, none⟩ = some (Value.int IntKind.i64 zd) := (kX_10 0).trans cX_9_0
  have cX_10_1 : w10.cell? ⟨w8.heap.size, 1, none⟩ = some (Value.int IntKind.i64 za) := (kX_10 1).trans cX_9_1
  have cX_10_2 : w10.cell? ⟨w8.heap.size, 2, none⟩ = some (Value.int IntKind.i64 zb) := (kX_10 2).trans cX_9_2
  have cX_10_3 : w10.cell? ⟨w8.heap.size, 3, none⟩ = some (Value.int IntKind.i64 zk) := (kX_10 3).trans cX_9_3
  have lY_10 : w9.heap.size < w10.heap.size := (by first | omega | (simp; done) | (simp; omega))
  have cY_10_0 : w10.cell? ⟨w9.heap.size, 0, none⟩ = some (Value.int IntKind.i64 q1) := (hb10.cell (p := ⟨w9.heap.size, 0, none⟩) (by show w9.heap.size < _; simp only [World.size_alloc]; omega)).trans (by simp [go_sem])
  have cY_10_1 : w10.cell? ⟨w9.heap.size, 1, none⟩ = some (Value.int IntKind.i64 q2) := (hb10.cell (p := ⟨w9.heap.size, 1, none⟩) (by show w9.heap.size < _; simp only [World.size_alloc]; omega)).trans (by simp [go_sem])
  have cY_10_2 : w10.cell? ⟨w9.heap.size, 2, none⟩ = some (Value.int IntKind.i64 q3) := (hb10.cell (p := ⟨w9.heap.size, 2, none⟩) (by show w9.heap.size < _; simp only [World.size_alloc]; omega)).trans (by simp [go_sem])
  have cY_10_3 : w10.cell? ⟨w9.heap.size, 3, none⟩ = some (Value.int IntKind.i64 q4) := (hb10.cell (p := ⟨w9.heap.size, 3, none⟩) (by show w9.heap.size < _; simp only [World.size_alloc]; omega)).trans (by simp [go_sem])
  have cY_10_4 : w10.cell? ⟨w9.heap.size, 4, none⟩ = some (Value.int IntKind.i64 q5) := (hb10.cell (p := ⟨w9.heap.size, 4, none⟩) (by show w9.heap.size < _; simp only [World.size_alloc]; omega)).trans (by simp [go_sem])
  have cY_10_5 : w10.cell? ⟨w9.heap.size, 5, none⟩ = some (Value.int IntKind.i64 q6) := (hb10.cell (p := ⟨w9.heap.size, 5, none⟩) (by show w9.heap.size < _; simp only [World.size_alloc]; omega)).trans (by simp [go_sem])
  clear kA_10 cA_9_0 cA_9_1 cA_9_2 cA_9_3 cA_9_4 cA_9_5 cA_9_6 cA_9_7 kB_10 cB_9_0 cB_9_1 cB_9_2 cB_9_3 kP_10 cP_9_0 cP_9_1 cP_9_2 cP_9_3 cP_9_4 cP_9_5 kO_10 cO_9_0 cO_9_1 cO_9_2 cO_9_3 cO_9_4 cO_9_5 kX_10 cX_9_0 cX_9_1 cX_9_2 cX_9_3 lA_9 lB_9 lP_9 lO_9 lX_9 neA_9 neA_9b neA_9c neA_9d neB_9 neB_9b neB_9c neB_9d neP_9 neP_9b neP_9c neP_9d neO_9 neO_9b neO_9c neO_9d neX_9 neX_9b neX_9c neX_9d
  have neA_10 : w1.heap.size ≠ w10.heap.size := by omega
  have neA_10b : w1.heap.size ≠ w10.heap.size + 1 := by omega
  have neA_10c : w10.heap.size ≠ w1.heap.size := by omega
  have neA_10d : w10.heap.size + 1 ≠ w1.heap.size := by omega
  have neB_10 : w1.heap.size + 1 ≠ w10.heap.size := by omega
  have neB_10b : w1.heap.size + 1 ≠ w10.heap.size + 1 := by omega
  have neB_10c : w10.heap.size ≠ w1.heap.size + 1 := by omega
  have neB_10d : w10.heap.size + 1 ≠ w1.heap.size + 1 := by omega
  have neP_10 : w2.heap.size + 1 ≠ w10.heap.size := by omega
  have neP_10b : w2.heap.size + 1 ≠ w10.heap.size + 1 := by omega
  have neP_10c : w10.heap.size ≠ w2.heap.size + 1 := by omega
  have neP_10d : w10.heap.size + 1 ≠ w2.heap.size + 1 := by omega
  have neO_10 : w3.heap.size + 1 ≠ w10.heap.size := by omega
  have neO_10b : w3.heap.size + 1 ≠ w10.heap.size + 1 := by omega
  have neO_10c : w10.heap.size ≠ w3.heap.size + 1 := by omega
  have neO_10d : w10.heap.size + 1 ≠ w3.heap.size + 1 := by omega
  have neX_10 : w8.heap.size ≠ w10.heap.size := by omega
  have neX_10b : w8.heap.size ≠ w10.heap.size + 1 := by omega
  have neX_10c : w10.heap.size ≠ w8.heap.size := by omega
  have neX_10d : w10.heap.size + 1 ≠ w8.heap.size := by omega
  have neY_10 : w9.heap.size ≠ w10.heap.size := by omega
  have neY_10b : w9.heap.size ≠ w10.heap.size + 1 := by omega
  have neY_10c : w10.heap.size ≠ w9.heap.size := by omega
  have neY_10d : w10.heap.size + 1 ≠ w9.heap.size := by omega
  go_wp2_with fail
  refine (KLS.out _ ?_).mono ?_
  · exact LT.below (w := w) hT (Below.alloc hB10 (by omega) _) (Nat.le_refl _)
  rintro e w11 ⟨rfl, hb11⟩
  have z11 := hb11.size
  (try simp only [World.size_alloc] at z11)
  have hB11 : Below w.heap.size w w11 := (Below.alloc hB10 (by omega) _).trans (hb11.mono (by simp only [World.size_alloc]; omega))
  have y11 := hB11.size
  have lA_11 : w1.heap.size < w11.heap.size := (by first | omega | (simp; done) | (simp; omega))
  have kA_11 : ∀ i, w11.cell? ⟨w1.heap.size, i, none⟩ = w10.cell? ⟨w1.heap.size, i, none⟩ := fun i => (hb11.cell (p := ⟨w1.heap.size, i, none⟩) (by show w1.heap.size < _; simp only [World.size_alloc]; omega)).trans ((World.cell?_alloc_lt _ _ ⟨w1.heap.size, i, none⟩ (by show w1.heap.size < _; omega)).trans rfl)
  have cA_11_0 : w11.cell? ⟨w1.heap.size, 0, none⟩ = some (Value.int IntKind.i64 t) := (kA_11 0).trans cA_10_0
  have cA_11_1 : w11.cell? ⟨w1.heap.size, 1, none⟩ = some (Value.bool f) := (kA_11 1).trans cA_10_1
  have cA_11_2 : w11.cell? ⟨w1.heap.size, 2, none⟩ = some (Value.int IntKind.i64 ma) := (kA_11 2).trans cA_10_2
  have cA_11_3 : w11.cell? ⟨w1.heap.size, 3, none⟩ = some (Value.int IntKind.i64 mb) := (kA_11 3).trans cA_10_3
  have cA_11_4 : w11.cell? ⟨w1.heap.size, 4, none⟩ = some (Value.int IntKind.i64 mk) := (kA_11 4).trans cA_10_4
  have cA_11_5 : w11.cell? ⟨w1.heap.size, 5, none⟩ = some (Value.int IntKind.i64 mc) := (kA_11 5).trans cA_10_5
  have cA_11_6 : w11.cell? ⟨w1.heap.size, 6, none⟩ = some (Value.int IntKind.i64 md) := (kA_11 6).trans cA_10_6
  have cA_11_7 : w11.cell? ⟨w1.heap.size, 7, none⟩ = some (Value.int IntKind.i64 ml) := (kA_11 7).trans cA_10_7
  have lB_11 : w1.heap.size + 1 < w11.heap.size := (by first | omega | (simp; done) | (simp; omega))
  have kB_11 : ∀ i, w11.cell? ⟨w1.heap.size + 1, i, none⟩ = w10.cell? ⟨w1.heap.size + 1, i, none⟩ := fun i => (hb11.cell (p := ⟨w1.heap.size + 1, i, none⟩) (by show w1.heap.size + 1 < _; simp only [World.size_alloc]; omega)).trans ((World.cell?_alloc_lt _ _ ⟨w1.heap.size + 1, i, none⟩ (by show w1.heap.size + 1 < _; omega)).trans rfl)
  have cB_11_0 : w11.cell? ⟨w1.heap.size + 1, 0, none⟩ = some (Value.int IntKind.i64 e') := (kB_11 0).trans cB_10_0
  have cB_11_1 : w11.cell? ⟨w1.heap.size + 1, 1, none⟩ = some (Value.int IntKind.i64 x) := (kB_11 1).trans cB_10_1
  have cB_11_2 : w11.cell? ⟨w1.heap.size + 1, 2, none⟩ = some (Value.int IntKind.i64 y) := (kB_11 2).trans cB_10_2
  have cB_11_3 : w11.cell? ⟨w1.heap.size + 1, 3, none⟩ = some (Value.int IntKind.i64 z) := (kB_11 3).trans cB_10_3
  have lP_11 : w2.heap.size + 1 < w11.heap.size := (by first | omega | (simp; done) | (simp; omega))
  have kP_11 : ∀ i, w11.cell? ⟨w2.heap.size + 1, i, none⟩ = w10.cell? ⟨w2.heap.size + 1, i, none⟩ := fun i => (hb11.cell (p := ⟨w2.heap.size + 1, i, none⟩) (by show w2.heap.size + 1 < _; simp only [World.size_alloc]; omega)).trans ((World.cell?_alloc_lt _ _ ⟨w2.heap.size + 1, i, none⟩ (by show w2.heap.size + 1 < _; omega)).trans rfl)
  have cP_11_0 : w11.cell? ⟨w2.heap.size + 1, 0, none⟩ = some (Value.int IntKind.i64 a) := (kP_11 0).trans cP_10_0
  have cP_11_1 : w11.cell? ⟨w2.heap.size + 1, 1, none⟩ = some (Value.int IntKind.i64 b) := (kP_11 1).trans cP_10_1
  have cP_11_2 : w11.cell? ⟨w2.heap.size + 1, 2, none⟩ = some (Value.int IntKind.i64 k) := (kP_11 2).trans cP_10_2
  have cP_11_3 : w11.cell? ⟨w2.heap.size + 1, 3, none⟩ = some (Value.int IntKind.i64 c) := (kP_11 3).trans cP_10_3
  have cP_11_4 : w11.cell? ⟨w2.heap.size + 1, 4, none⟩ = some (Value.int IntKind.i64 d) := (kP_11 4).trans cP_10_4
  have cP_11_5 : w11.cell? ⟨w2.heap.size + 1, 5, none⟩ = some (Value.int IntKind.i64 l) := (kP_11 5).trans cP_10_5
  have lO_11 : w3.heap.size + 1 < w11.heap.size := (by first | omega | (simp; done) | (simp; omega))
  have kO_11 : ∀ i, w11.cell? ⟨w3.heap.size + 1, i, none⟩ = w10.cell? ⟨w3.heap.size + 1, i, none⟩ := fun i => (hb11.cell (p := ⟨w3.heap.size + 1, i, none⟩) (by show w3.heap.size + 1 < _; simp only [World.size_alloc]; omega)).trans ((World.cell?_alloc_lt _ _ ⟨w3.heap.size + 1, i, none⟩ (by show w3.heap.size + 1 < _; omega)).trans rfl)
  have cO_11_0 : w11.cell? ⟨w3.heap.size + 1, 0, none⟩ = some (Value.int IntKind.i64 a') := (kO_11 0).trans cO_10_0
  have cO_11_1 : w11.cell? ⟨w3.heap.size + 1, 1, none⟩ = some (Value.int IntKind.i64 b') := (kO_11 1).trans cO_10_1
  have cO_11_2 : w11.cell? ⟨w3.heap.size + 1, 2, none⟩ = some (Value.int IntKind.i64 k') := (kO_11 2).trans cO_10_2
  have cO_11_3 : w11.cell? ⟨w3.heap.size + 1, 3, none⟩ = some (Value.int IntKind.i64 c') := (kO_11 3).trans cO_10_3
  have cO_11_4 : w11.cell? ⟨w3.heap.size + 1, 4, none⟩ = some (Value.int IntKind.i64 d') := (kO_11 4).trans cO_10_4
  have cO_11_5 : w11.cell? ⟨w3.heap.size + 1, 5, none⟩ = some (Value.int IntKind.i64 l') := (kO_11 5).trans cO_10_5
  have lX_11 : w8.heap.size < w11.heap.size := (by first | omega | (simp; done) | (simp; omega))
  have kX_11 : ∀ i, w11.cell? ⟨w8.heap.size, i, none⟩ = w10.cell? ⟨w8.heap.size, i, none⟩ := fun i => (hb11.cell (p := ⟨w8.heap.size, i, none⟩) (by show w8.heap.size < _; simp only [World.size_alloc]; omega)).trans ((World.cell?_alloc_lt _ _ ⟨w8.heap.size, i, none⟩ (by show w8.heap.size < _; omega)).trans rfl)
  have cX_11_0 : w11.cell? ⟨w8.heap.size, 0, none⟩ = some (Value.int IntKind.i64 zd) := (kX_11 0).trans cX_10_0
  have cX_11_1 : w11.cell? ⟨w8.heap.size, 1, none⟩ = some (Value.int IntKind.i64 za) := (kX_11 1).trans cX_10_1
  have cX_11_2 : w11.cell? ⟨w8.heap.size, 2, none⟩ = some (Value.int IntKind.i64 zb) := (kX_11 2).trans cX_10_2
  have cX_11_3 : w11.cell? ⟨w8.heap.size, 3, none⟩ = some (Value.int IntKind.i64 zk) := (kX_11 3).trans cX_10_3
  have lY_11 : w9.heap.size < w11.heap.size := (by first | omega | (simp; done) | (simp; omega))
  have kY_11 : ∀ i, w11.cell? ⟨w9.heap.size, i, none⟩ = w10.cell? ⟨w9.heap.size, i, none⟩ := fun i => (hb11.cell (p := ⟨w9.heap.size, i, none⟩) (by show w9.heap.size < _; simp only [World.size_alloc]; omega)).trans ((World.cell?_alloc_lt _ _ ⟨w9.heap.size, i, none⟩ (by show w9.heap.size < _; omega)).trans rfl)
  have cY_11_0 : w11.cell? ⟨w9.heap.size, 0, none⟩ = some (Value.int IntKind.i64 q1) := (kY_11 0).trans cY_10_0
  have cY_11_1 : w11.cell? ⟨w9.heap.size, 1, none⟩ = some (Value.int IntKind.i64 q2) := (kY_11 1).trans cY_10_1
  have cY_11_2 : w11.cell? ⟨w9.heap.size, 2, none⟩ = some (Value.int IntKind.i64 q3) := (kY_11 2).trans cY_10_2
  have cY_11_3 : w11.cell? ⟨w9.heap.size, 3, none⟩ = some (Value.int IntKind.i64 q4) := (kY_11 3).trans cY_10_3
  have cY_11_4 : w11.cell? ⟨w9.heap.size, 4, none⟩ = some (Value.int IntKind.i64 q5) := (kY_11 4).trans cY_10_4
  have cY_11_5 : w11.cell? ⟨w9.heap.size, 5, none⟩ = some (Value.int IntKind.i64 q6) := (kY_11 5).trans cY_10_5
  have lZ_11 : w10.heap.size < w11.heap.size := (by first | omega | (simp; done) | (simp; omega))
  have cZ_11_0 : w11.cell? ⟨w10.heap.size, 0, none⟩ = some (Value.int IntKind.i64 r1) := (hb11.cell (p := ⟨w10.heap.size, 0, none⟩) (by show w10.heap.size < _; simp only [World.size_alloc]; omega)).trans (by simp [go_sem])
  have cZ_11_1 : w11.cell? ⟨w10.heap.size, 1, none⟩ = some (Value.int IntKind.i64 r2') := (hb11.cell (p := ⟨w10.heap.size, 1, none⟩) (by show w10.heap.size < _; simp only [World.size_alloc]; omega)).trans (by simp [go_sem])
  have cZ_11_2 : w11.cell? ⟨w10.heap.size, 2, none⟩ = some (Value.int IntKind.i64 r3) := (hb11.cell (p := ⟨w10.heap.size, 2, none⟩) (by show w10.heap.size < _; simp only [World.size_alloc]; omega)).trans (by simp [go_sem])
  have cZ_11_3 : w11.cell? ⟨w10.heap.size, 3, none⟩ = some (Value.int IntKind.i64 r4) := (hb11.cell (p := ⟨w10.heap.size, 3, none⟩) (by show w10.heap.size < _; simp only [World.size_alloc]; omega)).trans (by simp [go_sem])
  have cZ_11_4 : w11.cell? ⟨w10.heap.size, 4, none⟩ = some (Value.int IntKind.i64 r5) := (hb11.cell (p := ⟨w10.heap.size, 4, none⟩) (by show w10.heap.size < _; simp only [World.size_alloc]; omega)).trans (by simp [go_sem])
  have cZ_11_5 : w11.cell? ⟨w10.heap.size, 5, none⟩ = some (Value.int IntKind.i64 r6) := (hb11.cell (p := ⟨w10.heap.size, 5, none⟩) (by show w10.heap.size < _; simp only [World.size_alloc]; omega)).trans (by simp [go_sem])
  clear kA_11 cA_10_0 cA_10_1 cA_10_2 cA_10_3 cA_10_4 cA_10_5 cA_10_6 cA_10_7 kB_11 cB_10_0 cB_10_1 cB_10_2 cB_10_3 kP_11 cP_10_0 cP_10_1 cP_10_2 cP_10_3 cP_10_4 cP_10_5 kO_11 cO_10_0 cO_10_1 cO_10_2 cO_10_3 cO_10_4 cO_10_5 kX_11 cX_10_0 cX_10_1 cX_10_2 cX_10_3 kY_11 cY_10_0 cY_10_1 cY_10_2 cY_10_3 cY_10_4 cY_10_5 lA_10 lB_10 lP_10 lO_10 lX_10 lY_10 neA_10 neA_10b neA_10c neA_10d neB_10 neB_10b neB_10c neB_10d neP_10 neP_10b neP_10c neP_10d neO_10 neO_10b neO_10c neO_10d neX_10 neX_10b neX_10c neX_10d neY_10 neY_10b neY_10c neY_10d
  have neA_11 : w1.heap.size ≠ w11.heap.size := by omega
  have neA_11b : w1.heap.size ≠ w11.heap.size + 1 := by omega
  have neA_11c : w11.heap.size ≠ w1.heap.size := by omega
  have neA_11d : w11.heap.size + 1 ≠ w1.heap.size := by omega
  have neB_11 : w1.heap.size + 1 ≠ w11.heap.size := by omega
  have neB_11b : w1.heap.size + 1 ≠ w11.heap.size + 1 := by omega
  have neB_11c : w11.heap.size ≠ w1.heap.size + 1 := by omega
  have neB_11d : w11.heap.size + 1 ≠ w1.heap.size + 1 := by omega
  have neP_11 : w2.heap.size + 1 ≠ w11.heap.size := by omega
  have neP_11b : w2.heap.size + 1 ≠ w11.heap.size + 1 := by omega
  have neP_11c : w11.heap.size ≠ w2.heap.size + 1 := by omega
  have neP_11d : w11.heap.size + 1 ≠ w2.heap.size + 1 := by omega
  have neO_11 : w3.heap.size + 1 ≠ w11.heap.size := by omega
  have neO_11b : w3.heap.size + 1 ≠ w11.heap.size + 1 := by omega
  have neO_11c : w11.heap.size ≠ w3.heap.size + 1 := by omega
  have neO_11d : w11.heap.size + 1 ≠ w3.heap.size + 1 := by omega
  have neX_11 : w8.heap.size ≠ w11.heap.size := by omega
  have neX_11b : w8.heap.size ≠ w11.heap.size + 1 := by omega
  have neX_11c : w11.heap.size ≠ w8.heap.size := by omega
  have neX_11d : w11.heap.size + 1 ≠ w8.heap.size := by omega
  have neY_11 : w9.heap.size ≠ w11.heap.size := by omega
  have neY_11b : w9.heap.size ≠ w11.heap.size + 1 := by omega
  have neY_11c : w11.heap.size ≠ w9.heap.size := by omega
  have neY_11d : w11.heap.size + 1 ≠ w9.heap.size := by omega
  have neZ_11 : w10.heap.size ≠ w11.heap.size := by omega
  have neZ_11b : w10.heap.size ≠ w11.heap.size + 1 := by omega
  have neZ_11c : w11.heap.size ≠ w10.heap.size := by omega
  have neZ_11d : w11.heap.size + 1 ≠ w10.heap.size := by omega
  have hvv : (v1 != v1) = false := by simp
  cases v1
  case false =>
    go_wp2_with fail
    refine (KE.out _ ?_).mono ?_
    · exact LT.below (w := w) hT (Below.alloc hB11 (by omega) _) (Nat.le_refl _)
    rintro e w20 ⟨rfl, hb20⟩
    have z20 := hb20.size
    (try simp only [World.size_alloc] at z20)
    have hB20 : Below w.heap.size w w20 := (Below.alloc hB11 (by omega) _).trans (hb20.mono (by simp only [World.size_alloc]; omega))
    have y20 := hB20.size
    have lA_20 : w1.heap.size < w20.heap.size := (by first | omega | (simp; done) | (simp; omega))
    have kA_20 : ∀ i, w20.cell? ⟨w1.heap.size, i, none⟩ = w11.cell? ⟨w1.heap.size, i, none⟩ := fun i => (hb20.cell (p := ⟨w1.heap.size, i, none⟩) (by show w1.heap.size < _; simp only [World.size_alloc]; omega)).trans ((World.cell?_alloc_lt _ _ ⟨w1.heap.size, i, none⟩ (by show w1.heap.size < _; omega)).trans rfl)
    have cA_20_0 : w20.cell? ⟨w1.heap.size, 0, none⟩ = some (Value.int IntKind.i64 t) := (kA_20 0).trans cA_11_0
    have cA_20_1 : w20.cell? ⟨w1.heap.size, 1, none⟩ = some (Value.bool f) := (kA_20 1).trans cA_11_1
    have cA_20_2 : w20.cell? ⟨w1.heap.size, 2, none⟩ = some (Value.int IntKind.i64 ma) := (kA_20 2).trans cA_11_2
    have cA_20_3 : w20.cell? ⟨w1.heap.size, 3, none⟩ = some (Value.int IntKind.i64 mb) := (kA_20 3).trans cA_11_3
    have cA_20_4 : w20.cell? ⟨w1.heap.size, 4, none⟩ = some (Value.int IntKind.i64 mk) := (kA_20 4).trans cA_11_4
    have cA_20_5 : w20.cell? ⟨w1.heap.size, 5, none⟩ = some (Value.int IntKind.i64 mc) := (kA_20 5).trans cA_11_5
    have cA_20_6 : w20.cell? ⟨w1.heap.size, 6, none⟩ = some (Value.int IntKind.i64 md) := (kA_20 6).trans cA_11_6
    have cA_20_7 : w20.cell? ⟨w1.heap.size, 7, none⟩ = some (Value.int IntKind.i64 ml) := (kA_20 7).trans cA_11_7
    have lY_20 : w9.heap.size < w20.heap.size := (by first | omega | (simp; done) | (simp; omega))
    have kY_20 : ∀ i, w20.cell? ⟨w9.heap.size, i, none⟩ = w11.cell? ⟨w9.heap.size, i, none⟩ := fun i => (hb20.cell (p := ⟨w9.heap.size, i, none⟩) (by show w9.heap.size < _; simp only [World.size_alloc]; omega)).trans ((World.cell?_alloc_lt _ _ ⟨w9.heap.size, i, none⟩ (by show w9.heap.size < _; omega)).trans rfl)
    have cY_20_0 : w20.cell? ⟨w9.heap.size, 0, none⟩ = some (Value.int IntKind.i64 q1) := (kY_20 0).trans cY_11_0
    have cY_20_1 : w20.cell? ⟨w9.heap.size, 1, none⟩ = some (Value.int IntKind.i64 q2) := (kY_20 1).trans cY_11_1
    have cY_20_2 : w20.cell? ⟨w9.heap.size, 2, none⟩ = some (Value.int IntKind.i64 q3) := (kY_20 2).trans cY_11_2
    have cY_20_3 : w20.cell? ⟨w9.heap.size, 3, none⟩ = some (Value.int IntKind.i64 q4) := (kY_20 3).trans cY_11_3
    have cY_20_4 : w20.cell? ⟨w9.heap.size, 4, none⟩ = some (Value.int IntKind.i64 q5) := (kY_20 4).trans cY_11_4
    have cY_20_5 : w20.cell? ⟨w9.heap.size, 5, none⟩ = some (Value.int IntKind.i64 q6) := (kY_20 5).trans cY_11_5
    have lZ_20 : w10.heap.size < w20.heap.size := (by first | omega | (simp; done) | (simp; omega))
    have kZ_20 : ∀ i, w20.cell? ⟨w10.heap.size, i, none⟩ = w11.cell? ⟨w10.heap.size, i, none⟩ := fun i => (hb20.cell (p := ⟨w10.heap.size, i, none⟩) (by show w10.heap.size < _; simp only [World.size_alloc]; omega)).trans ((World.cell?_alloc_lt _ _ ⟨w10.heap.size, i, none⟩ (by show w10.heap.size < _; omega)).trans rfl)
    have cZ_20_0 : w20.cell? ⟨w10.heap.size, 0, none⟩ = some (Value.int IntKind.i64 r1) := (kZ_20 0).trans cZ_11_0
    have cZ_20_1 : w20.cell? ⟨w10.heap.size, 1, none⟩ = some (Value.int IntKind.i64 r2') := (kZ_20 1).trans cZ_11_1
    have cZ_20_2 : w20.cell? ⟨w10.heap.size, 2, none⟩ = some (Value.int IntKind.i64 r3) := (kZ_20 2).trans cZ_11_2
    have cZ_20_3 : w20.cell? ⟨w10.heap.size, 3, none⟩ = some (Value.int IntKind.i64 r4) := (kZ_20 3).trans cZ_11_3
    have cZ_20_4 : w20.cell? ⟨w10.heap.size, 4, none⟩ = some (Value.int IntKind.i64 r5) := (kZ_20 4).trans cZ_11_4
    have cZ_20_5 : w20.cell? ⟨w10.heap.size, 5, none⟩ = some (Value.int IntKind.i64 r6) := (kZ_20 5).trans cZ_11_5
    clear kA_20 cA_11_0 cA_11_1 cA_11_2 cA_11_3 cA_11_4 cA_11_5 cA_11_6 cA_11_7 cB_11_0 cB_11_1 cB_11_2 cB_11_3 cP_11_0 cP_11_1 cP_11_2 cP_11_3 cP_11_4 cP_11_5 cO_11_0 cO_11_1 cO_11_2 cO_11_3 cO_11_4 cO_11_5 cX_11_0 cX_11_1 cX_11_2 cX_11_3 kY_20 cY_11_0 cY_11_1 cY_11_2 cY_11_3 cY_11_4 cY_11_5 kZ_20 cZ_11_0 cZ_11_1 cZ_11_2 cZ_11_3 cZ_11_4 cZ_11_5 lA_11 lB_11 lP_11 lO_11 lX_11 lY_11 lZ_11 neA_11 neA_11b neA_11c neA_11d neB_11 neB_11b neB_11c neB_11d neP_11 neP_11b neP_11c neP_11d neO_11 neO_11b neO_11c neO_11d neX_11 neX_11b neX_11c neX_11d neY_11 neY_11b neY_11c neY_11d neZ_11 neZ_11b neZ_11c neZ_11d
    have neA_20 : w1.heap.size ≠ w20.heap.size := by omega
    have neA_20b : w1.heap.size ≠ w20.heap.size + 1 := by omega
    have neA_20c : w20.heap.size ≠ w1.heap.size := by omega
    have neA_20d : w20.heap.size + 1 ≠ w1.heap.size := by omega
    have neY_20 : w9.heap.size ≠ w20.heap.size := by omega
    have neY_20b : w9.heap.size ≠ w20.heap.size + 1 := by omega
    have neY_20c : w20.heap.size ≠ w9.heap.size := by omega
    have neY_20d : w20.heap.size + 1 ≠ w9.heap.size := by omega
    have neZ_20 : w10.heap.size ≠ w20.heap.size := by omega
    have neZ_20b : w10.heap.size ≠ w20.heap.size + 1 := by omega
    have neZ_20c : w20.heap.size ≠ w10.heap.size := by omega
    have neZ_20d : w20.heap.size + 1 ≠ w10.heap.size := by omega
    go_wp2_with fail
    by_cases h0 : dd < 0
    · have hd0 : decide (dd < 0) = true := by simp [h0]
      go_quiet (fail)
      go_wp2_with fail
      go_ret
      exact ⟨rfl, by (repeat (first | with_reducible exact Below.refl _ _ | with_reducible assumption | with_reducible refine below_drewN ?_ _ | with_reducible refine Below.drew ?_ | with_reducible refine Below.alloc ?_ (by first | omega | (simp; done) | (simp; omega)) _ | with_reducible refine Below.setCell ?_ (by first | omega | (simp; done) | (simp; omega)) _ | with_reducible refine Below.trans ?_ (Below.mono (by assumption) (by first | omega | (simp; done) | (simp; omega)))))⟩
    have hd0 : decide (dd < 0) = false := by simp; omega
    cases v2
    case false =>
      go_quiet (fail)
      go_wp2_with fail
      go_ret
      exact ⟨rfl, by (repeat (first | with_reducible exact Below.refl _ _ | with_reducible assumption | with_reducible refine below_drewN ?_ _ | with_reducible refine Below.drew ?_ | with_reducible refine Below.alloc ?_ (by first | omega | (simp; done) | (simp; omega)) _ | with_reducible refine Below.setCell ?_ (by first | omega | (simp; done) | (simp; omega)) _ | with_reducible refine Below.trans ?_ (Below.mono (by assumption) (by first | omega | (simp; done) | (simp; omega)))))⟩
    cases v3
    case false =>
      go_quiet (fail)
      go_wp2_with fail
      go_ret
      exact ⟨rfl, by (repeat (first | with_reducible exact Below.refl _ _ | with_reducible assumption | with_reducible refine below_drewN ?_ _ | with_reducible refine Below.drew ?_ | with_reducible refine Below.alloc ?_ (by first | omega | (simp; done) | (simp; omega)) _ | with_reducible refine Below.setCell ?_ (by first | omega | (simp; done) | (simp; omega)) _ | with_reducible refine Below.trans ?_ (Below.mono (by assumption) (by first | omega | (simp; done) | (simp; omega)))))⟩
    obtain ⟨ee, h1, h2⟩ := KY.out (by omega) (by trivial) (by trivial)
    have KF := Lib.hid h1
    have KG := Lib.hid h2
    clear h1 h2 h0
    go_region_held3 (fun w' => w'.cell? ⟨w9.heap.size, 0, none⟩ = some (Value.int IntKind.i64 q1) ∧ w'.cell? ⟨w9.heap.size, 1, none⟩ = some (Value.int IntKind.i64 q2) ∧ w'.cell? ⟨w9.heap.size, 2, none⟩ = some (Value.int IntKind.i64 q3) ∧ w'.cell? ⟨w9.heap.size, 3, none⟩ = some (Value.int IntKind.i64 q4) ∧ w'.cell? ⟨w9.heap.size, 4, none⟩ = some (Value.int IntKind.i64 q5) ∧ w'.cell? ⟨w9.heap.size, 5, none⟩ = some (Value.int IntKind.i64 q6) ∧ w'.cell? ⟨w10.heap.size, 0, none⟩ = some (Value.int IntKind.i64 r1) ∧ w'.cell? ⟨w10.heap.size, 1, none⟩ = some (Value.int IntKind.i64 r2') ∧ w'.cell? ⟨w10.heap.size, 2, none⟩ = some (Value.int IntKind.i64 r3) ∧ w'.cell? ⟨w10.heap.size, 3, none⟩ = some (Value.int IntKind.i64 r4) ∧ w'.cell? ⟨w10.heap.size, 4, none⟩ = some (Value.int IntKind.i64 r5) ∧ w'.cell? ⟨w10.heap.size, 5, none⟩ = some (Value.int IntKind.i64 r6) ∧ w'.cell? ⟨w1.heap.size, 0, none⟩ = some (Value.int IntKind.i64 t) ∧ w'.cell? ⟨w1.heap.size, 1, none⟩ = some (Value.bool f) ∧ w'.cell? ⟨w1.heap.size, 2, none⟩ = some (Value.int IntKind.i64 ma) ∧ w'.cell? ⟨w1.heap.size, 3, none⟩ = some (Value.int IntKind.i64 mb) ∧ w'.cell? ⟨w1.heap.size, 4, none⟩ = some (Value.int IntKind.i64 mk) ∧ w'.cell? ⟨w1.heap.size, 5, none⟩ = some (Value.int IntKind.i64 mc) ∧ w'.cell? ⟨w1.heap.size, 6, none⟩ = some (Value.int IntKind.i64 md) ∧ w'.cell? ⟨w1.heap.size, 7, none⟩ = some (Value.int IntKind.i64 ml)) ((first | (go_simp; done) | (simp [*]; done)))
      ((first
      | (go_at_call 21; refine (KF.out _ ?_).mono ?_; exact LT.below (w := w) hT (by (repeat (first | with_reducible exact Below.refl _ _ | with_reducible assumption | with_reducible refine below_drewN ?_ _ | with_reducible refine Below.drew ?_ | with_reducible refine Below.alloc ?_ (by first | omega | (simp; done) | (simp; omega)) _ | with_reducible refine Below.setCell ?_ (by first | omega | (simp; done) | (simp; omega)) _ | with_reducible refine Below.trans ?_ (Below.mono (by assumption) (by first | omega | (simp; done) | (simp; omega)))))) (Nat.le_refl _); rintro e w21 ⟨rfl, hb21⟩; (try replace hb21 := Below.undrew hb21); obtain ⟨hc21, hf21⟩ := bcell hb21; have hz21 := hb21.size; (try simp at hz21); (have lY_21 : w9.heap.size < w21.heap.size := (by omega)); (have lZ_21 : w10.heap.size < w21.heap.size := (by omega)); (have lA_21 : w1.heap.size < w21.heap.size := (by omega)))
      | (go_at_call 20; refine (KG.out _ ?_).mono ?_; exact LT.below (w := w) hT (by (repeat (first | with_reducible exact Below.refl _ _ | with_reducible assumption | with_reducible refine below_drewN ?_ _ | with_reducible refine Below.drew ?_ | with_reducible refine Below.alloc ?_ (by first | omega | (simp; done) | (simp; omega)) _ | with_reducible refine Below.setCell ?_ (by first | omega | (simp; done) | (simp; omega)) _ | with_reducible refine Below.trans ?_ (Below.mono (by assumption) (by first | omega | (simp; done) | (simp; omega)))))) (Nat.le_refl _); rintro e w22 ⟨rfl, hb22⟩; (try replace hb22 := Below.undrew hb22); obtain ⟨hc22, hf22⟩ := bcell hb22; have hz22 := hb22.size; (try simp at hz22); (have lY_22 : w9.heap.size < w22.heap.size := (by omega)); (have lZ_22 : w10.heap.size < w22.heap.size := (by omega)); (have lA_22 : w1.heap.size < w22.heap.size := (by omega)))))
    go_wp2_with fail
    go_ret
    exact ⟨rfl, by (repeat (first | with_reducible exact Below.refl _ _ | with_reducible assumption | with_reducible refine below_drewN ?_ _ | with_reducible refine Below.drew ?_ | with_reducible refine Below.alloc ?_ (by first | omega | (simp; done) | (simp; omega)) _ | with_reducible refine Below.setCell ?_ (by first | omega | (simp; done) | (simp; omega)) _ | with_reducible refine Below.trans ?_ (Below.mono (by assumption) (by first | omega | (simp; done) | (simp; omega)))))⟩
  cases v2
  case false =>
    go_wp2_with fail
    refine (KE.out _ ?_).mono ?_
    · exact LT.below (w := w) hT (Below.alloc hB11 (by omega) _) (Nat.le_refl _)
    rintro e w20 ⟨rfl, hb20⟩
    have z20 := hb20.size
    (try simp only [World.size_alloc] at z20)
    have hB20 : Below w.heap.size w w20 := (Below.alloc hB11 (by omega) _).trans (hb20.mono (by simp only [World.size_alloc]; omega))
    have y20 := hB20.size
    have lA_20 : w1.heap.size < w20.heap.size := (by first | omega | (simp; done) | (simp; omega))
    have kA_20 : ∀ i, w20.cell? ⟨w1.heap.size, i, none⟩ = w11.cell? ⟨w1.heap.size, i, none⟩ := fun i => (hb20.cell (p := ⟨w1.heap.size, i, none⟩) (by show w1.heap.size < _; simp only [World.size_alloc]; omega)).trans ((World.cell?_alloc_lt _ _ ⟨w1.heap.size, i, none⟩ (by show w1.heap.size < _; omega)).trans rfl)
    have cA_20_0 : w20.cell? ⟨w1.heap.size, 0, none⟩ = some (Value.int IntKind.i64 t) := (kA_20 0).trans cA_11_0
    have cA_20_1 : w20.cell? ⟨w1.heap.size, 1, none⟩ = some (Value.bool f) := (kA_20 1).trans cA_11_1
    have cA_20_2 : w20.cell? ⟨w1.heap.size, 2, none⟩ = some (Value.int IntKind.i64 ma) := (kA_20 2).trans cA_11_2
    have cA_20_3 : w20.cell? ⟨w1.heap.size, 3, none⟩ = some (Value.int IntKind.i64 mb) := (kA_20 3).trans cA_11_3
    have cA_20_4 : w20.cell? ⟨w1.heap.size, 4, none⟩ = some (Value.int IntKind.i64 mk) := (kA_20 4).trans cA_11_4
    have cA_20_5 : w20.cell? ⟨w1.heap.size, 5, none⟩ = some (Value.int IntKind.i64 mc) := (kA_20 5).trans cA_11_5
    have cA_20_6 : w20.cell? ⟨w1.heap.size, 6, none⟩ = some (Value.int IntKind.i64 md) := (kA_20 6).trans cA_11_6
    have cA_20_7 : w20.cell? ⟨w1.heap.size, 7, none⟩ = some (Value.int IntKind.i64 ml) := (kA_20 7).trans cA_11_7
    have lY_20 : w9.heap.size < w20.heap.size := (by first | omega | (simp; done) | (simp; omega))
    have kY_20 : ∀ i, w20.cell? ⟨w9.heap.size, i, none⟩ = w11.cell? ⟨w9.heap.size, i, none⟩ := fun i => (hb20.cell (p := ⟨w9.heap.size, i, none⟩) (by show w9.heap.size < _; simp only [World.size_alloc]; omega)).trans ((World.cell?_alloc_lt _ _ ⟨w9.heap.size, i, none⟩ (by show w9.heap.size < _; omega)).trans rfl)
    have cY_20_0 : w20.cell? ⟨w9.heap.size, 0, none⟩ = some (Value.int IntKind.i64 q1) := (kY_20 0).trans cY_11_0
    have cY_20_1 : w20.cell? ⟨w9.heap.size, 1, none⟩ = some (Value.int IntKind.i64 q2) := (kY_20 1).trans cY_11_1
    have cY_20_2 : w20.cell? ⟨w9.heap.size, 2, none⟩ = some (Value.int IntKind.i64 q3) := (kY_20 2).trans cY_11_2
    have cY_20_3 : w20.cell? ⟨w9.heap.size, 3, none⟩ = some (Value.int IntKind.i64 q4) := (kY_20 3).trans cY_11_3
    have cY_20_4 : w20.cell? ⟨w9.heap.size, 4, none⟩ = some (Value.int IntKind.i64 q5) := (kY_20 4).trans cY_11_4
    have cY_20_5 : w20.cell? ⟨w9.heap.size, 5, none⟩ = some (Value.int IntKind.i64 q6) := (kY_20 5).trans cY_11_5
    have lZ_20 : w10.heap.size < w20.heap.size := (by first | omega | (simp; done) | (simp; omega))
    have kZ_20 : ∀ i, w20.cell? ⟨w10.heap.size, i, none⟩ = w11.cell? ⟨w10.heap.size, i, none⟩ := fun i => (hb20.cell (p := ⟨w10.heap.size, i, none⟩) (by show w10.heap.size < _; simp only [World.size_alloc]; omega)).trans ((World.cell?_alloc_lt _ _ ⟨w10.heap.size, i, none⟩ (by show w10.heap.size < _; omega)).trans rfl)
    have cZ_20_0 : w20.cell? ⟨w10.heap.size, 0, none⟩ = some (Value.int IntKind.i64 r1) := (kZ_20 0).trans cZ_11_0
    have cZ_20_1 : w20.cell? ⟨w10.heap.size, 1, none⟩ = some (Value.int IntKind.i64 r2') := (kZ_20 1).trans cZ_11_1
    have cZ_20_2 : w20.cell? ⟨w10.heap.size, 2, none⟩ = some (Value.int IntKind.i64 r3) := (kZ_20 2).trans cZ_11_2
    have cZ_20_3 : w20.cell? ⟨w10.heap.size, 3, none⟩ = some (Value.int IntKind.i64 r4) := (kZ_20 3).trans cZ_11_3
    have cZ_20_4 : w20.cell? ⟨w10.heap.size, 4, none⟩ = some (Value.int IntKind.i64 r5) := (kZ_20 4).trans cZ_11_4
    have cZ_20_5 : w20.cell? ⟨w10.heap.size, 5, none⟩ = some (Value.int IntKind.i64 r6) := (kZ_20 5).trans cZ_11_5
    clear kA_20 cA_11_0 cA_11_1 cA_11_2 cA_11_3 cA_11_4 cA_11_5 cA_11_6 cA_11_7 cB_11_0 cB_11_1 cB_11_2 cB_11_3 cP_11_0 cP_11_1 cP_11_2 cP_11_3 cP_11_4 cP_11_5 cO_11_0 cO_11_1 cO_11_2 cO_11_3 cO_11_4 cO_11_5 cX_11_0 cX_11_1 cX_11_2 cX_11_3 kY_20 cY_11_0 cY_11_1 cY_11_2 cY_11_3 cY_11_4 cY_11_5 kZ_20 cZ_11_0 cZ_11_1 cZ_11_2 cZ_11_3 cZ_11_4 cZ_11_5 lA_11 lB_11 lP_11 lO_11 lX_11 lY_11 lZ_11 neA_11 neA_11b neA_11c neA_11d neB_11 neB_11b neB_11c neB_11d neP_11 neP_11b neP_11c neP_11d neO_11 neO_11b neO_11c neO_11d neX_11 neX_11b neX_11c neX_11d neY_11 neY_11b neY_11c neY_11d neZ_11 neZ_11b neZ_11c neZ_11d
    have neA_20 : w1.heap.size ≠ w20.heap.size := by omega
    have neA_20b : w1.heap.size ≠ w20.heap.size + 1 := by omega
    have neA_20c : w20.heap.size ≠ w1.heap.size := by omega
    have neA_20d : w20.heap.size + 1 ≠ w1.heap.size := by omega
    have neY_20 : w9.heap.size ≠ w20.heap.size := by omega
    have neY_20b : w9.heap.size ≠ w20.heap.size + 1 := by omega
    have neY_20c : w20.heap.size ≠ w9.heap.size := by omega
    have neY_20d : w20.heap.size + 1 ≠ w9.heap.size := by omega
    have neZ_20 : w10.heap.size ≠ w20.heap.size := by omega
    have neZ_20b : w10.heap.size ≠ w20.heap.size + 1 := by omega
    have neZ_20c : w20.heap.size ≠ w10.heap.size := by omega
    have neZ_20d : w20.heap.size + 1 ≠ w10.heap.size := by omega
    go_wp2_with fail
    by_cases h0 : dd < 0
    · have hd0 : decide (dd < 0) = true := by simp [h0]
      go_quiet (fail)
      go_wp2_with fail
      go_ret
      exact ⟨rfl, by (repeat (first | with_reducible exact Below.refl _ _ | with_reducible assumption | with_reducible refine below_drewN ?_ _ | with_reducible refine Below.drew ?_ | with_reducible refine Below.alloc ?_ (by first | omega | (simp; done) | (simp; omega)) _ | with_reducible refine Below.setCell ?_ (by first | omega | (simp; done) | (simp; omega)) _ | with_reducible refine Below.trans ?_ (Below.mono (by assumption) (by first | omega | (simp; done) | (simp; omega)))))⟩
    have hd0 : decide (dd < 0) = false := by simp; omega
    go_quiet (fail)
    go_wp2_with fail
    go_ret
    exact ⟨rfl, by (repeat (first | with_reducible exact Below.refl _ _ | with_reducible assumption | with_reducible refine below_drewN ?_ _ | with_reducible refine Below.drew ?_ | with_reducible refine Below.alloc ?_ (by first | omega | (simp; done) | (simp; omega)) _ | with_reducible refine Below.setCell ?_ (by first | omega | (simp; done) | (simp; omega)) _ | with_reducible refine Below.trans ?_ (Below.mono (by assumption) (by first | omega | (simp; done) | (simp; omega)))))⟩
  go_wp2_with fail
  refine (KS.out _ ?_).mono ?_
  · exact LT.below (w := w) hT (Below.alloc hB11 (by omega) _) (Nat.le_refl _)
  rintro e w12 ⟨rfl, hb12⟩
  have z12 := hb12.size
  (try simp only [World.size_alloc] at z12)
  have hB12 : Below w.heap.size w w12 := (Below.alloc hB11 (by omega) _).trans (hb12.mono (by simp only [World.size_alloc]; omega))
  have y12 := hB12.size
  have lA_12 : w1.heap.size < w12.heap.size := (by first | omega | (simp; done) | (simp; omega))
  have kA_12 : ∀ i, w12.cell? ⟨w1.heap.size, i, none⟩ = w11.cell? ⟨w1.heap.size, i, none⟩ := fun i => (hb12.cell (p := ⟨w1.heap.size, i, none⟩) (by show w1.heap.size < _; simp only [World.size_alloc]; omega)).trans ((World.cell?_alloc_lt _ _ ⟨w1.heap.size, i, none⟩ (by show w1.heap.size < _; omega)).trans rfl)
  have cA_12_0 : w12.cell? ⟨w1.heap.size, 0, none⟩ = some (Value.int IntKind.i64 t) := (kA_12 0).trans cA_11_0
  have cA_12_1 : w12.cell? ⟨w1.heap.size, 1, none⟩ = some (Value.bool f) := (kA_12 1).trans cA_11_1
  have cA_12_2 : w12.cell? ⟨w1.heap.size, 2, none⟩ = some (Value.int IntKind.i64 ma) := (kA_12 2).trans cA_11_2
  have cA_12_3 : w12.cell? ⟨w1.heap.size, 3, none⟩ = some (Value.int IntKind.i64 mb) := (kA_12 3).trans cA_11_3
  have cA_12_4 : w12.cell? ⟨w1.heap.size, 4, none⟩ = some (Value.int IntKind.i64 mk) := (kA_12 4).trans cA_11_4
  have cA_12_5 : w12.cell? ⟨w1.heap.size, 5, none⟩ = some (Value.int IntKind.i64 mc) := (kA_12 5).trans cA_11_5
  have cA_12_6 : w12.cell? ⟨w1.heap.size, 6, none⟩ = some (Value.int IntKind.i64 md) := (kA_12 6).trans cA_11_6
  have cA_12_7 : w12.cell? ⟨w1.heap.size, 7, none⟩ = some (Value.int IntKind.i64 ml) := (kA_12 7).trans cA_11_7
  have lB_12 : w1.heap.size + 1 < w12.heap.size := (by first | omega | (simp; done) | (simp; omega))
  have kB_12 : ∀ i, w12.cell? ⟨w1.heap.size + 1, i, none⟩ = w11.cell? ⟨w1.heap.size + 1, i, none⟩ := fun i => (hb12.cell (p := ⟨w1.heap.size + 1, i, none⟩) (by show w1.heap.size + 1 < _; simp only [World.size_alloc]; omega)).trans ((World.cell?_alloc_lt _ _ ⟨w1.heap.size + 1, i, none⟩ (by show w1.heap.size + 1 < _; omega)).trans rfl)
  have cB_12_0 : w12.cell? ⟨w1.heap.size + 1, 0, none⟩ = some (Value.int IntKind.i64 e') := (kB_12 0).trans cB_11_0
  have cB_12_1 : w12.cell? ⟨w1.heap.size + 1, 1, none⟩ = some (Value.int IntKind.i64 x) := (kB_12 1).trans cB_11_1
  have cB_12_2 : w12.cell? ⟨w1.heap.size + 1, 2, none⟩ = some (Value.int IntKind.i64 y) := (kB_12 2).trans cB_11_2
  have cB_12_3 : w12.cell? ⟨w1.heap.size + 1, 3, none⟩ = some (Value.int IntKind.i64 z) := (kB_12 3).trans cB_11_3
  have lP_12 : w2.heap.size + 1 < w12.heap.size := (by first | omega | (simp; done) | (simp; omega))
  have kP_12 : ∀ i, w12.cell? ⟨w2.heap.size + 1, i, none⟩ = w11.cell? ⟨w2.heap.size + 1, i, none⟩ := fun i => (hb12.cell (p := ⟨w2.heap.size + 1, i, none⟩) (by show w2.heap.size + 1 < _; simp only [World.size_alloc]; omega)).trans ((World.cell?_alloc_lt _ _ ⟨w2.heap.size + 1, i, none⟩ (by show w2.heap.size + 1 < _; omega)).trans rfl)
  have cP_12_0 : w12.cell? ⟨w2.heap.size + 1, 0, none⟩ = some (Value.int IntKind.i64 a) := (kP_12 0).trans cP_11_0
  have cP_12_1 : w12.cell? ⟨w2.heap.size + 1, 1, none⟩ = some (Value.int IntKind.i64 b) := (kP_12 1).trans cP_11_1
  have cP_12_2 : w12.cell? ⟨w2.heap.size + 1, 2, none⟩ = some (Value.int IntKind.i64 k) := (kP_12 2).trans cP_11_2
  have cP_12_3 : w12.cell? ⟨w2.heap.size + 1, 3, none⟩ = some (Value.int IntKind.i64 c) := (kP_12 3).trans cP_11_3
  have cP_12_4 : w12.cell? ⟨w2.heap.size + 1, 4, none⟩ = some (Value.int IntKind.i64 d) := (kP_12 4).trans cP_11_4
  have cP_12_5 : w12.cell? ⟨w2.heap.size + 1, 5, none⟩ = some (Value.int IntKind.i64 l) := (kP_12 5).trans cP_11_5
  have lO_12 : w3.heap.size + 1 < w12.heap.size := (by first | omega | (simp; done) | (simp; omega))
  have kO_12 : ∀ i, w12.cell? ⟨w3.heap.size + 1, i, none⟩ = w11.cell? ⟨w3.heap.size + 1, i, none⟩ := fun i => (hb12.cell (p := ⟨w3.heap.size + 1, i, none⟩) (by show w3.heap.size + 1 < _; simp only [World.size_alloc]; omega)).trans ((World.cell?_alloc_lt _ _ ⟨w3.heap.size + 1, i, none⟩ (by show w3.heap.size + 1 < _; omega)).trans rfl)
  have cO_12_0 : w12.cell? ⟨w3.heap.size + 1, 0, none⟩ = some (Value.int IntKind.i64 a') := (kO_12 0).trans cO_11_0
  have cO_12_1 : w12.cell? ⟨w3.heap.size + 1, 1, none⟩ = some (Value.int IntKind.i64 b') := (kO_12 1).trans cO_11_1
  have cO_12_2 : w12.cell? ⟨w3.heap.size + 1, 2, none⟩ = some (Value.int IntKind.i64 k') := (kO_12 2).trans cO_11_2
  have cO_12_3 : w12.cell? ⟨w3.heap.size + 1, 3, none⟩ = some (Value.int IntKind.i64 c') := (kO_12 3).trans cO_11_3
  have cO_12_4 : w12.cell? ⟨w3.heap.size + 1, 4, none⟩ = some (Value.int IntKind.i64 d') := (kO_12 4).trans cO_11_4
  have cO_12_5 : w12.cell? ⟨w3.heap.size + 1, 5, none⟩ = some (Value.int IntKind.i64 l') := (kO_12 5).trans cO_11_5
  have lX_12 : w8.heap.size < w12.heap.size := (by first | omega | (simp; done) | (simp; omega))
  have kX_12 : ∀ i, w12.cell? ⟨w8.heap.size, i, none⟩ = w11.cell? ⟨w8.heap.size, i, none⟩ := fun i => (hb12.cell (p := ⟨w8.heap.size, i, none⟩) (by show w8.heap.size < _; simp only [World.size_alloc]; omega)).trans ((World.cell?_alloc_lt _ _ ⟨w8.heap.size, i, none⟩ (by show w8.heap.size < _; omega)).trans rfl)
  have cX_12_0 : w12.cell? ⟨w8.heap.size, 0, none⟩ = some (Value.int IntKind.i64 zd) := (kX_12 0).trans cX_11_0
  have cX_12_1 : w12.cell? ⟨w8.heap.size, 1, none⟩ = some (Value.int IntKind.i64 za) := (kX_12 1).trans cX_11_1
  have cX_12_2 : w12.cell? ⟨w8.heap.size, 2, none⟩ = some (Value.int IntKind.i64 zb) := (kX_12 2).trans cX_11_2
  have cX_12_3 : w12.cell? ⟨w8.heap.size, 3, none⟩ = some (Value.int IntKind.i64 zk) := (kX_12 3).trans cX_11_3
  have lY_12 : w9.heap.size < w12.heap.size := (by first | omega | (simp; done) | (simp; omega))
  have kY_12 : ∀ i, w12.cell? ⟨w9.heap.size, i, none⟩ = w11.cell? ⟨w9.heap.size, i, none⟩ := fun i => (hb12.cell (p := ⟨w9.heap.size, i, none⟩) (by show w9.heap.size < _; simp only [World.size_alloc]; omega)).trans ((World.cell?_alloc_lt _ _ ⟨w9.heap.size, i, none⟩ (by show w9.heap.size < _; omega)).trans rfl)
  have cY_12_0 : w12.cell? ⟨w9.heap.size, 0, none⟩ = some (Value.int IntKind.i64 q1) := (kY_12 0).trans cY_11_0
  have cY_12_1 : w12.cell? ⟨w9.heap.size, 1, none⟩ = some (Value.int IntKind.i64 q2) := (kY_12 1).trans cY_11_1
  have cY_12_2 : w12.cell? ⟨w9.heap.size, 2, none⟩ = some (Value.int IntKind.i64 q3) := (kY_12 2).trans cY_11_2
  have cY_12_3 : w12.cell? ⟨w9.heap.size, 3, none⟩ = some (Value.int IntKind.i64 q4) := (kY_12 3).trans cY_11_3
  have cY_12_4 : w12.cell? ⟨w9.heap.size, 4, none⟩ = some (Value.int IntKind.i64 q5) := (kY_12 4).trans cY_11_4
  have cY_12_5 : w12.cell? ⟨w9.heap.size, 5, none⟩ = some (Value.int IntKind.i64 q6) := (kY_12 5).trans cY_11_5
  have lZ_12 : w10.heap.size < w12.heap.size := (by first | omega | (simp; done) | (simp; omega))
  have kZ_12 : ∀ i, w12.cell? ⟨w10.heap.size, i, none⟩ = w11.cell? ⟨w10.heap.size, i, none⟩ := fun i => (hb12.cell (p := ⟨w10.heap.size, i, none⟩) (by show w10.heap.size < _; simp only [World.size_alloc]; omega)).trans ((World.cell?_alloc_lt _ _ ⟨w10.heap.size, i, none⟩ (by show w10.heap.size < _; omega)).trans rfl)
  have cZ_12_0 : w12.cell? ⟨w10.heap.size, 0, none⟩ = some (Value.int IntKind.i64 r1) := (kZ_12 0).trans cZ_11_0
  have cZ_12_1 : w12.cell? ⟨w10.heap.size, 1, none⟩ = some (Value.int IntKind.i64 r2') := (kZ_12 1).trans cZ_11_1
  have cZ_12_2 : w12.cell? ⟨w10.heap.size, 2, none⟩ = some (Value.int IntKind.i64 r3) := (kZ_12 2).trans cZ_11_2
  have cZ_12_3 : w12.cell? ⟨w10.heap.size, 3, none⟩ = some (Value.int IntKind.i64 r4) := (kZ_12 3).trans cZ_11_3
  have cZ_12_4 : w12.cell? ⟨w10.heap.size, 4, none⟩ = some (Value.int IntKind.i64 r5) := (kZ_12 4).trans cZ_11_4
  have cZ_12_5 : w12.cell? ⟨w10.heap.size, 5, none⟩ = some (Value.int IntKind.i64 r6) := (kZ_12 5).trans cZ_11_5
  clear kA_12 cA_11_0 cA_11_1 cA_11_2 cA_11_3 cA_11_4 cA_11_5 cA_11_6 cA_11_7 kB_12 cB_11_0 cB_11_1 cB_11_2 cB_11_3 kP_12 cP_11_0 cP_11_1 cP_11_2 cP_11_3 cP_11_4 cP_11_5 kO_12 cO_11_0 cO_11_1 cO_11_2 cO_11_3 cO_11_4 cO_11_5 kX_12 cX_11_0 cX_11_1 cX_11_2 cX_11_3 kY_12 cY_11_0 cY_11_1 cY_11_2 cY_11_3 cY_11_4 cY_11_5 kZ_12 cZ_11_0 cZ_11_1 cZ_11_2 cZ_11_3 cZ_11_4 cZ_11_5 lA_11 lB_11 lP_11 lO_11 lX_11 lY_11 lZ_11 neA_11 neA_11b neA_11c neA_11d neB_11 neB_11b neB_11c neB_11d neP_11 neP_11b neP_11c neP_11d neO_11 neO_11b neO_11c neO_11d neX_11 neX_11b neX_11c neX_11d neY_11 neY_11b neY_11c neY_11d neZ_11 neZ_11b neZ_11c neZ_11d
  have neA_12 : w1.heap.size ≠ w12.heap.size := by omega
  have neA_12b : w1.heap.size ≠ w12.heap.size + 1 := by omega
  have neA_12c : w12.heap.size ≠ w1.heap.size := by omega
  have neA_12d : w12.heap.size + 1 ≠ w1.heap.size := by omega
  have neB_12 : w1.heap.size + 1 ≠ w12.heap.size := by omega
  have neB_12b : w1.heap.size + 1 ≠ w12.heap.size + 1 := by omega
  have neB_12c : w12.heap.size ≠ w1.heap.size + 1 := by omega
  have neB_12d : w12.heap.size + 1 ≠ w1.heap.size + 1 := by omega
  have neP_12 : w2.heap.size + 1 ≠ w12.heap.size := by omega
  have neP_12b : w2.heap.size + 1 ≠ w12.heap.size + 1 := by omega
  have neP_12c : w12.heap.size ≠ w2.heap.size + 1 := by omega
  have neP_12d : w12.heap.size + 1 ≠ w2.heap.size + 1 := by omega
  have neO_12 : w3.heap.size + 1 ≠ w12.heap.size := by omega
  have neO_12b : w3.heap.size + 1 ≠ w12.heap.size + 1 := by omega
  have neO_12c : w12.heap.size ≠ w3.heap.size + 1 := by omega
  have neO_12d : w12.heap.size + 1 ≠ w3.heap.size + 1 := by omega
  have neX_12 : w8.heap.size ≠ w12.heap.size := by omega
  have neX_12b : w8.heap.size ≠ w12.heap.size + 1 := by omega
  have neX_12c : w12.heap.size ≠ w8.heap.size := by omega
  have neX_12d : w12.heap.size + 1 ≠ w8.heap.size := by omega
  have neY_12 : w9.heap.size ≠ w12.heap.size := by omega
  have neY_12b : w9.heap.size ≠ w12.heap.size + 1 := by omega
  have neY_12c : w12.heap.size ≠ w9.heap.size := by omega
  have neY_12d : w12.heap.size + 1 ≠ w9.heap.size := by omega
  have neZ_12 : w10.heap.size ≠ w12.heap.size := by omega
  have neZ_12b : w10.heap.size ≠ w12.heap.size + 1 := by omega
  have neZ_12c : w12.heap.size ≠ w10.heap.size := by omega
  have neZ_12d : w12.heap.size + 1 ≠ w10.heap.size := by omega
  cases f
  case false =>
    go_wp2_with fail
    refine (KD.out _ ?_).mono ?_
    · exact LT.below (w := w) hT hB12 (Nat.le_refl _)
    rintro e w13 ⟨rfl, hb13⟩
    have z13 := hb13.size
    (try simp only [World.size_alloc] at z13)
    have hB13 : Below w.heap.size w w13 := hB12.trans (hb13.mono (by omega))
    have y13 := hB13.size
    have lA_13 : w1.heap.size < w13.heap.size := (by first | omega | (simp; done) | (simp; omega))
    have kA_13 : ∀ i, w13.cell? ⟨w1.heap.size, i, none⟩ = w12.cell? ⟨w1.heap.size, i, none⟩ := fun i => (hb13.cell (p := ⟨w1.heap.size, i, none⟩) (by show w1.heap.size < _; omega)).trans rfl
    have cA_13_0 : w13.cell? ⟨w1.heap.size, 0, none⟩ = some (Value.int IntKind.i64 t) := (kA_13 0).trans cA_12_0
    have cA_13_1 : w13.cell? ⟨w1.heap.size, 1, none⟩ = some (Value.bool false) := (kA_13 1).trans cA_12_1
    have cA_13_2 : w13.cell? ⟨w1.heap.size, 2, none⟩ = some (Value.int IntKind.i64 ma) := (kA_13 2).trans cA_12_2
    have cA_13_3 : w13.cell? ⟨w1.heap.size, 3, none⟩ = some (Value.int IntKind.i64 mb) := (kA_13 3).trans cA_12_3
    have cA_13_4 : w13.cell? ⟨w1.heap.size, 4, none⟩ = some (Value.int IntKind.i64 mk) := (kA_13 4).trans cA_12_4
    have cA_13_5 : w13.cell? ⟨w1.heap.size, 5, none⟩ = some (Value.int IntKind.i64 mc) := (kA_13 5).trans cA_12_5
    have cA_13_6 : w13.cell? ⟨w1.heap.size, 6, none⟩ = some (Value.int IntKind.i64 md) := (kA_13 6).trans cA_12_6
    have cA_13_7 : w13.cell? ⟨w1.heap.size, 7, none⟩ = some (Value.int IntKind.i64 ml) := (kA_13 7).trans cA_12_7
    have lB_13 : w1.heap.size + 1 < w13.heap.size := (by first | omega | (simp; done) | (simp; omega))
    have kB_13 : ∀ i, w13.cell? ⟨w1.heap.size + 1, i, none⟩ = w12.cell? ⟨w1.heap.size + 1, i, none⟩ := fun i => (hb13.cell (p := ⟨w1.heap.size + 1, i, none⟩) (by show w1.heap.size + 1 < _; omega)).trans rfl
    have cB_13_0 : w13.cell? ⟨w1.heap.size + 1, 0, none⟩ = some (Value.int IntKind.i64 e') := (kB_13 0).trans cB_12_0
    have cB_13_1 : w13.cell? ⟨w1.heap.size + 1, 1, none⟩ = some (Value.int IntKind.i64 x) := (kB_13 1).trans cB_12_1
    have cB_13_2 : w13.cell? ⟨w1.heap.size + 1, 2, none⟩ = some (Value.int IntKind.i64 y) := (kB_13 2).trans cB_12_2
    have cB_13_3 : w13.cell? ⟨w1.heap.size + 1, 3, none⟩ = some (Value.int IntKind.i64 z) := (kB_13 3).trans cB_12_3
    have lP_13 : w2.heap.size + 1 < w13.heap.size := (by first | omega | (simp; done) | (simp; omega))
    have kP_13 : ∀ i, w13.cell? ⟨w2.heap.size + 1, i, none⟩ = w12.cell? ⟨w2.heap.size + 1, i, none⟩ := fun i => (hb13.cell (p := ⟨w2.heap.size + 1, i, none⟩) (by show w2.heap.size + 1 < _; omega)).trans rfl
    have cP_13_0 : w13.cell? ⟨w2.heap.size + 1, 0, none⟩ = some (Value.int IntKind.i64 a) := (kP_13 0).trans cP_12_0
    have cP_13_1 : w13.cell? ⟨w2.heap.size + 1, 1, none⟩ = some (Value.int IntKind.i64 b) := (kP_13 1).trans cP_12_1
    have cP_13_2 : w13.cell? ⟨w2.heap.size + 1, 2, none⟩ = some (Value.int IntKind.i64 k) := (kP_13 2).trans cP_12_2
    have cP_13_3 : w13.cell? ⟨w2.heap.size + 1, 3, none⟩ = some (Value.int IntKind.i64 c) := (kP_13 3).trans cP_12_3
    have cP_13_4 : w13.cell? ⟨w2.heap.size + 1, 4, none⟩ = some (Value.int IntKind.i64 d) := (kP_13 4).trans cP_12_4
    have cP_13_5 : w13.cell? ⟨w2.heap.size + 1, 5, none⟩ = some (Value.int IntKind.i64 l) := (kP_13 5).trans cP_12_5
    have lO_13 : w3.heap.size + 1 < w13.heap.size := (by first | omega | (simp; done) | (simp; omega))
    have kO_13 : ∀ i, w13.cell? ⟨w3.heap.size + 1, i, none⟩ = w12.cell? ⟨w3.heap.size + 1, i, none⟩ := fun i => (hb13.cell (p := ⟨w3.heap.size + 1, i, none⟩) (by show w3.heap.size + 1 < _; omega)).trans rfl
    have cO_13_0 : w13.cell? ⟨w3.heap.size + 1, 0, none⟩ = some (Value.int IntKind.i64 a') := (kO_13 0).trans cO_12_0
    have cO_13_1 : w13.cell? ⟨w3.heap.size + 1, 1, none⟩ = some (Value.int IntKind.i64 b') := (kO_13 1).trans cO_12_1
    have cO_13_2 : w13.cell? ⟨w3.heap.size + 1, 2, none⟩ = some (Value.int IntKind.i64 k') := (kO_13 2).trans cO_12_2
    have cO_13_3 : w13.cell? ⟨w3.heap.size + 1, 3, none⟩ = some (Value.int IntKind.i64 c') := (kO_13 3).trans cO_12_3
    have cO_13_4 : w13.cell? ⟨w3.heap.size + 1, 4, none⟩ = some (Value.int IntKind.i64 d') := (kO_13 4).trans cO_12_4
    have cO_13_5 : w13.cell? ⟨w3.heap.size + 1, 5, none⟩ = some (Value.int IntKind.i64 l') := (kO_13 5).trans cO_12_5
    have lX_13 : w8.heap.size < w13.heap.size := (by first | omega | (simp; done) | (simp; omega))
    have kX_13 : ∀ i, w13.cell? ⟨w8.heap.size, i, none⟩ = w12.cell? ⟨w8.heap.size, i, none⟩ := fun i => (hb13.cell (p := ⟨w8.heap.size, i, none⟩) (by show w8.heap.size < _; omega)).trans rfl
    have cX_13_0 : w13.cell? ⟨w8.heap.size, 0, none⟩ = some (Value.int IntKind.i64 zd) := (kX_13 0).trans cX_12_0
    have cX_13_1 : w13.cell? ⟨w8.heap.size, 1, none⟩ = some (Value.int IntKind.i64 za) := (kX_13 1).trans cX_12_1
    have cX_13_2 : w13.cell? ⟨w8.heap.size, 2, none⟩ = some (Value.int IntKind.i64 zb) := (kX_13 2).trans cX_12_2
    have cX_13_3 : w13.cell? ⟨w8.heap.size, 3, none⟩ = some (Value.int IntKind.i64 zk) := (kX_13 3).trans cX_12_3
    have lY_13 : w9.heap.size < w13.heap.size := (by first | omega | (simp; done) | (simp; omega))
    have kY_13 : ∀ i, w13.cell? ⟨w9.heap.size, i, none⟩ = w12.cell? ⟨w9.heap.size, i, none⟩ := fun i => (hb13.cell (p := ⟨w9.heap.size, i, none⟩) (by show w9.heap.size < _; omega)).trans rfl
    have cY_13_0 : w13.cell? ⟨w9.heap.size, 0, none⟩ = some (Value.int IntKind.i64 q1) := (kY_13 0).trans cY_12_0
    have cY_13_1 : w13.cell? ⟨w9.heap.size, 1, none⟩ = some (Value.int IntKind.i64 q2) := (kY_13 1).trans cY_12_1
    have cY_13_2 : w13.cell? ⟨w9.heap.size, 2, none⟩ = some (Value.int IntKind.i64 q3) := (kY_13 2).trans cY_12_2
    have cY_13_3 : w13.cell? ⟨w9.heap.size, 3, none⟩ = some (Value.int IntKind.i64 q4) := (kY_13 3).trans cY_12_3
    have cY_13_4 : w13.cell? ⟨w9.heap.size, 4, none⟩ = some (Value.int IntKind.i64 q5) := (kY_13 4).trans cY_12_4
    have cY_13_5 : w13.cell? ⟨w9.heap.size, 5, none⟩ = some (Value.int IntKind.i64 q6) := (kY_13 5).trans cY_12_5
    have lZ_13 : w10.heap.size < w13.heap.size := (by first | omega | (simp; done) | (simp; omega))
    have kZ_13 : ∀ i, w13.cell? ⟨w10.heap.size, i, none⟩ = w12.cell? ⟨w10.heap.size, i, none⟩ := fun i => (hb13.cell (p := ⟨w10.heap.size, i, none⟩) (by show w10.heap.size < _; omega)).trans rfl
    have cZ_13_0 : w13.cell? ⟨w10.heap.size, 0, none⟩ = some (Value.int IntKind.i64 r1) := (kZ_13 0).trans cZ_12_0
    have cZ_13_1 : w13.cell? ⟨w10.heap.size, 1, none⟩ = some (Value.int IntKind.i64 r2') := (kZ_13 1).trans cZ_12_1
    have cZ_13_2 : w13.cell? ⟨w10.heap.size, 2, none⟩ = some (Value.int IntKind.i64 r3) := (kZ_13 2).trans cZ_12_2
    have cZ_13_3 : w13.cell? ⟨w10.heap.size, 3, none⟩ = some (Value.int IntKind.i64 r4) := (kZ_13 3).trans cZ_12_3
    have cZ_13_4 : w13.cell? ⟨w10.heap.size, 4, none⟩ = some (Value.int IntKind.i64 r5) := (kZ_13 4).trans cZ_12_4
    have cZ_13_5 : w13.cell? ⟨w10.heap.size, 5, none⟩ = some (Value.int IntKind.i64 r6) := (kZ_13 5).trans cZ_12_5
    clear kA_13 cA_12_0 cA_12_1 cA_12_2 cA_12_3 cA_12_4 cA_12_5 cA_12_6 cA_12_7 kB_13 cB_12_0 cB_12_1 cB_12_2 cB_12_3 kP_13 cP_12_0 cP_12_1 cP_12_2 cP_12_3 cP_12_4 cP_12_5 kO_13 cO_12_0 cO_12_1 cO_12_2 cO_12_3 cO_12_4 cO_12_5 kX_13 cX_12_0 cX_12_1 cX_12_2 cX_12_3 kY_13 cY_12_0 cY_12_1 cY_12_2 cY_12_3 cY_12_4 cY_12_5 kZ_13 cZ_12_0 cZ_12_1 cZ_12_2 cZ_12_3 cZ_12_4 cZ_12_5 lA_12 lB_12 lP_12 lO_12 lX_12 lY_12 lZ_12 neA_12 neA_12b neA_12c neA_12d neB_12 neB_12b neB_12c neB_12d neP_12 neP_12b neP_12c neP_12d neO_12 neO_12b neO_12c neO_12d neX_12 neX_12b neX_12c neX_12d neY_12 neY_12b neY_12c neY_12d neZ_12 neZ_12b neZ_12c neZ_12d
    have neA_13 : w1.heap.size ≠ w13.heap.size := by omega
    have neA_13b : w1.heap.size ≠ w13.heap.size + 1 := by omega
    have neA_13c : w13.heap.size ≠ w1.heap.size := by omega
    have neA_13d : w13.heap.size + 1 ≠ w1.heap.size := by omega
    have neB_13 : w1.heap.size + 1 ≠ w13.heap.size := by omega
    have neB_13b : w1.heap.size + 1 ≠ w13.heap.size + 1 := by omega
    have neB_13c : w13.heap.size ≠ w1.heap.size + 1 := by omega
    have neB_13d : w13.heap.size + 1 ≠ w1.heap.size + 1 := by omega
    have neP_13 : w2.heap.size + 1 ≠ w13.heap.size := by omega
    have neP_13b : w2.heap.size + 1 ≠ w13.heap.size + 1 := by omega
    have neP_13c : w13.heap.size ≠ w2.heap.size + 1 := by omega
    have neP_13d : w13.heap.size + 1 ≠ w2.heap.size + 1 := by omega
    have neO_13 : w3.heap.size + 1 ≠ w13.heap.size := by omega
    have neO_13b : w3.heap.size + 1 ≠ w13.heap.size + 1 := by omega
    have neO_13c : w13.heap.size ≠ w3.heap.size + 1 := by omega
    have neO_13d : w13.heap.size + 1 ≠ w3.heap.size + 1 := by omega
    have neX_13 : w8.heap.size ≠ w13.heap.size := by omega
    have neX_13b : w8.heap.size ≠ w13.heap.size + 1 := by omega
    have neX_13c : w13.heap.size ≠ w8.heap.size := by omega
    have neX_13d : w13.heap.size + 1 ≠ w8.heap.size := by omega
    have neY_13 : w9.heap.size ≠ w13.heap.size := by omega
    have neY_13b : w9.heap.size ≠ w13.heap.size + 1 := by omega
    have neY_13c : w13.heap.size ≠ w9.heap.size := by omega
    have neY_13d : w13.heap.size + 1 ≠ w9.heap.size := by omega
    have neZ_13 : w10.heap.size ≠ w13.heap.size := by omega
    have neZ_13b : w10.heap.size ≠ w13.heap.size + 1 := by omega
    have neZ_13c : w13.heap.size ≠ w10.heap.size := by omega
    have neZ_13d : w13.heap.size + 1 ≠ w10.heap.size := by omega
    by_cases h8 : 8 ≤ vd
    · have hd8 : decide (8 ≤ vd) = true := by simp [h8]
      have KZ := Lib.hid (KX.out (by trivial) (by trivial) n1 (by have := HN.out; simp [h8]; try omega))
      have hvz : (n1 != n1) = false := by simp
      go_wp2_with fail
      refine (KZ.out _ ?_).mono ?_
      · exact LT.below (w := w) hT hB13 (Nat.le_refl _)
      rintro e w14 ⟨rfl, hb14⟩
      have z14 := hb14.size
      (try simp only [World.size_alloc] at z14)
      have hB14 : Below w.heap.size w w14 := hB13.trans (hb14.mono (by omega))
      have y14 := hB14.size
      have lA_14 : w1.heap.size < w14.heap.size := (by first | omega | (simp; done) | (simp; omega))
      have kA_14 : ∀ i, w14.cell? ⟨w1.heap.size, i, none⟩ = w13.cell? ⟨w1.heap.size, i, none⟩ := fun i => (hb14.cell (p := ⟨w1.heap.size, i, none⟩) (by show w1.heap.size < _; omega)).trans rfl
      have cA_14_0 : w14.cell? ⟨w1.heap.size, 0, none⟩ = some (Value.int IntKind.i64 t) := (kA_14 0).trans cA_13_0
      have cA_14_1 : w14.cell? ⟨w1.heap.size, 1, none⟩ = some (Value.bool false) := (kA_14 1).trans cA_13_1
      have cA_14_2 : w14.cell? ⟨w1.heap.size, 2, none⟩ = some (Value.int IntKind.i64 ma) := (kA_14 2).trans cA_13_2
      have cA_14_3 : w14.cell? ⟨w1.heap.size, 3, none⟩ = some (Value.int IntKind.i64 mb) := (kA_14 3).trans cA_13_3
      have cA_14_4 : w14.cell? ⟨w1.heap.size, 4, none⟩ = some (Value.int IntKind.i64 mk) := (kA_14 4).trans cA_13_4
      have cA_14_5 : w14.cell? ⟨w1.heap.size, 5, none⟩ = some (Value.int IntKind.i64 mc) := (kA_14 5).trans cA_13_5
      have cA_14_6 : w14.cell? ⟨w1.heap.size, 6, none⟩ = some (Value.int IntKind.i64 md) := (kA_14 6).trans cA_13_6
      have cA_14_7 : w14.cell? ⟨w1.heap.size, 7, none⟩ = some (Value.int IntKind.i64 ml) := (kA_14 7).trans cA_13_7
      have lP_14 : w2.heap.size + 1 < w14.heap.size := (by first | omega | (simp; done) | (simp; omega))
      have kP_14 : ∀ i, w14.cell? ⟨w2.heap.size + 1, i, none⟩ = w13.cell? ⟨w2.heap.size + 1, i, none⟩ := fun i => (hb14.cell (p := ⟨w2.heap.size + 1, i, none⟩) (by show w2.heap.size + 1 < _; omega)).trans rfl
      have cP_14_0 : w14.cell? ⟨w2.heap.size + 1, 0, none⟩ = some (Value.int IntKind.i64 a) := (kP_14 0).trans cP_13_0
      have cP_14_1 : w14.cell? ⟨w2.heap.size + 1, 1, none⟩ = some (Value.int IntKind.i64 b) := (kP_14 1).trans cP_13_1
      have cP_14_2 : w14.cell? ⟨w2.heap.size + 1, 2, none⟩ = some (Value.int IntKind.i64 k) := (kP_14 2).trans cP_13_2
      have cP_14_3 : w14.cell? ⟨w2.heap.size + 1, 3, none⟩ = some (Value.int IntKind.i64 c) := (kP_14 3).trans cP_13_3
      have cP_14_4 : w14.cell? ⟨w2.heap.size + 1, 4, none⟩ = some (Value.int IntKind.i64 d) := (kP_14 4).trans cP_13_4
      have cP_14_5 : w14.cell? ⟨w2.heap.size + 1, 5, none⟩ = some (Value.int IntKind.i64 l) := (kP_14 5).trans cP_13_5
      have lO_14 : w3.heap.size + 1 < w14.heap.size := (by first | omega | (simp; done) | (simp; omega))
      have kO_14 : ∀ i, w14.cell? ⟨w3.heap.size + 1, i, none⟩ = w13.cell? ⟨w3.heap.size + 1, i, none⟩ := fun i => (hb14.cell (p := ⟨w3.heap.size + 1, i, none⟩) (by show w3.heap.size + 1 < _; omega)).trans rfl
      have cO_14_0 : w14.cell? ⟨w3.heap.size + 1, 0, none⟩ = some (Value.int IntKind.i64 a') := (kO_14 0).trans cO_13_0
      have cO_14_1 : w14.cell? ⟨w3.heap.size + 1, 1, none⟩ = some (Value.int IntKind.i64 b') := (kO_14 1).trans cO_13_1
      have cO_14_2 : w14.cell? ⟨w3.heap.size + 1, 2, none⟩ = some (Value.int IntKind.i64 k') := (kO_14 2).trans cO_13_2
      have cO_14_3 : w14.cell? ⟨w3.heap.size + 1, 3, none⟩ = some (Value.int IntKind.i64 c') := (kO_14 3).trans cO_13_3
      have cO_14_4 : w14.cell? ⟨w3.heap.size + 1, 4, none⟩ = some (Value.int IntKind.i64 d') := (kO_14 4).trans cO_13_4
      have cO_14_5 : w14.cell? ⟨w3.heap.size + 1, 5, none⟩ = some (Value.int IntKind.i64 l') := (kO_14 5).trans cO_13_5
      have lY_14 : w9.heap.size < w14.heap.size := (by first | omega | (simp; done) | (simp; omega))
      have kY_14 : ∀ i, w14.cell? ⟨w9.heap.size, i, none⟩ = w13.cell? ⟨w9.heap.size, i, none⟩ := fun i => (hb14.cell (p := ⟨w9.heap.size, i, none⟩) (by show w9.heap.size < _; omega)).trans rfl
      have cY_14_0 : w14.cell? ⟨w9.heap.size, 0, none⟩ = some (Value.int IntKind.i64 q1) := (kY_14 0).trans cY_13_0
      have cY_14_1 : w14.cell? ⟨w9.heap.size, 1, none⟩ = some (Value.int IntKind.i64 q2) := (kY_14 1).trans cY_13_1
      have cY_14_2 : w14.cell? ⟨w9.heap.size, 2, none⟩ = some (Value.int IntKind.i64 q3) := (kY_14 2).trans cY_13_2
      have cY_14_3 : w14.cell? ⟨w9.heap.size, 3, none⟩ = some (Value.int IntKind.i64 q4) := (kY_14 3).trans cY_13_3
      have cY_14_4 : w14.cell? ⟨w9.heap.size, 4, none⟩ = some (Value.int IntKind.i64 q5) := (kY_14 4).trans cY_13_4
      have cY_14_5 : w14.cell? ⟨w9.heap.size, 5, none⟩ = some (Value.int IntKind.i64 q6) := (kY_14 5).trans cY_13_5
      have lZ_14 : w10.heap.size < w14.heap.size := (by first | omega | (simp; done) | (simp; omega))
      have kZ_14 : ∀ i, w14.cell? ⟨w10.heap.size, i, none⟩ = w13.cell? ⟨w10.heap.size, i, none⟩ := fun i => (hb14.cell (p := ⟨w10.heap.size, i, none⟩) (by show w10.heap.size < _; omega)).trans rfl
      have cZ_14_0 : w14.cell? ⟨w10.heap.size, 0, none⟩ = some (Value.int IntKind.i64 r1) := (kZ_14 0).trans cZ_13_0
      have cZ_14_1 : w14.cell? ⟨w10.heap.size, 1, none⟩ = some (Value.int IntKind.i64 r2') := (kZ_14 1).trans cZ_13_1
      have cZ_14_2 : w14.cell? ⟨w10.heap.size, 2, none⟩ = some (Value.int IntKind.i64 r3) := (kZ_14 2).trans cZ_13_2
      have cZ_14_3 : w14.cell? ⟨w10.heap.size, 3, none⟩ = some (Value.int IntKind.i64 r4) := (kZ_14 3).trans cZ_13_3
      have cZ_14_4 : w14.cell? ⟨w10.heap.size, 4, none⟩ = some (Value.int IntKind.i64 r5) := (kZ_14 4).trans cZ_13_4
      have cZ_14_5 : w14.cell? ⟨w10.heap.size, 5, none⟩ = some (Value.int IntKind.i64 r6) := (kZ_14 5).trans cZ_13_5
      clear kA_14 cA_13_0 cA_13_1 cA_13_2 cA_13_3 cA_13_4 cA_13_5 cA_13_6 cA_13_7 cB_13_0 cB_13_1 cB_13_2 cB_13_3 kP_14 cP_13_0 cP_13_1 cP_13_2 cP_13_3 cP_13_4 cP_13_5 kO_14 cO_13_0 cO_13_1 cO_13_2 cO_13_3 cO_13_4 cO_13_5 cX_13_0 cX_13_1 cX_13_2 cX_13_3 kY_14 cY_13_0 cY_13_1 cY_13_2 cY_13_3 cY_13_4 cY_13_5 kZ_14 cZ_13_0 cZ_13_1 cZ_13_2 cZ_13_3 cZ_13_4 cZ_13_5 lA_13 lB_13 lP_13 lO_13 lX_13 lY_13 lZ_13 neA_13 neA_13b neA_13c neA_13d neB_13 neB_13b neB_13c neB_13d neP_13 neP_13b neP_13c neP_13d neO_13 neO_13b neO_13c neO_13d neX_13 neX_13b neX_13c neX_13d neY_13 neY_13b neY_13c neY_13d neZ_13 neZ_13b neZ_13c neZ_13d
      have neA_14 : w1.heap.size ≠ w14.heap.size := by omega
      have neA_14b : w1.heap.size ≠ w14.heap.size + 1 := by omega
      have neA_14c : w14.heap.size ≠ w1.heap.size := by omega
      have neA_14d : w14.heap.size + 1 ≠ w1.heap.size := by omega
      have neP_14 : w2.heap.size + 1 ≠ w14.heap.size := by omega
      have neP_14b : w2.heap.size + 1 ≠ w14.heap.size + 1 := by omega
      have neP_14c : w14.heap.size ≠ w2.heap.size + 1 := by omega
      have neP_14d : w14.heap.size + 1 ≠ w2.heap.size + 1 := by omega
      have neO_14 : w3.heap.size + 1 ≠ w14.heap.size := by omega
      have neO_14b : w3.heap.size + 1 ≠ w14.heap.size + 1 := by omega
      have neO_14c : w14.heap.size ≠ w3.heap.size + 1 := by omega
      have neO_14d : w14.heap.size + 1 ≠ w3.heap.size + 1 := by omega
      have neY_14 : w9.heap.size ≠ w14.heap.size := by omega
      have neY_14b : w9.heap.size ≠ w14.heap.size + 1 := by omega
      have neY_14c : w14.heap.size ≠ w9.heap.size := by omega
      have neY_14d : w14.heap.size + 1 ≠ w9.heap.size := by omega
      have neZ_14 : w10.heap.size ≠ w14.heap.size := by omega
      have neZ_14b : w10.heap.size ≠ w14.heap.size + 1 := by omega
      have neZ_14c : w14.heap.size ≠ w10.heap.size := by omega
      have neZ_14d : w14.heap.size + 1 ≠ w10.heap.size := by omega
      go_wp2_with fail
      refine (KE.out _ ?_).mono ?_
      · exact LT.below (w := w) hT hB14 (Nat.le_refl _)
      rintro e w20 ⟨rfl, hb20⟩
      have z20 := hb20.size
      (try simp only [World.size_alloc] at z20)
      have hB20 : Below w.heap.size w w20 := hB14.trans (hb20.mono (by omega))
      have y20 := hB20.size
      have lA_20 : w1.heap.size < w20.heap.size := (by first | omega | (simp; done) | (simp; omega))
      have kA_20 : ∀ i, w20.cell? ⟨w1.heap.size, i, none⟩ = w14.cell? ⟨w1.heap.size, i, none⟩ := fun i => (hb20.cell (p := ⟨w1.heap.size, i, none⟩) (by show w1.heap.size < _; omega)).trans rfl
      have cA_20_0 : w20.cell? ⟨w1.heap.size, 0, none⟩ = some (Value.int IntKind.i64 t) := (kA_20 0).trans cA_14_0
      have cA_20_1 : w20.cell? ⟨w1.heap.size, 1, none⟩ = some (Value.bool false) := (kA_20 1).trans cA_14_1
      have cA_20_2 : w20.cell? ⟨w1.heap.size, 2, none⟩ = some (Value.int IntKind.i64 ma) := (kA_20 2).trans cA_14_2
      have cA_20_3 : w20.cell? ⟨w1.heap.size, 3, none⟩ = some (Value.int IntKind.i64 mb) := (kA_20 3).trans cA_14_3
      have cA_20_4 : w20.cell? ⟨w1.heap.size, 4, none⟩ = some (Value.int IntKind.i64 mk) := (kA_20 4).trans cA_14_4
      have cA_20_5 : w20.cell? ⟨w1.heap.size, 5, none⟩ = some (Value.int IntKind.i64 mc) := (kA_20 5).trans cA_14_5
      have cA_20_6 : w20.cell? ⟨w1.heap.size, 6, none⟩ = some (Value.int IntKind.i64 md) := (kA_20 6).trans cA_14_6
      have cA_20_7 : w20.cell? ⟨w1.heap.size, 7, none⟩ = some (Value.int IntKind.i64 ml) := (kA_20 7).trans cA_14_7
      have lY_20 : w9.heap.size < w20.heap.size := (by first | omega | (simp; done) | (simp; omega))
      have kY_20 : ∀ i, w20.cell? ⟨w9.heap.size, i, none⟩ = w14.cell? ⟨w9.heap.size, i, none⟩ := fun i => (hb20.cell (p := ⟨w9.heap.size, i, none⟩) (by show w9.heap.size < _; omega)).trans rfl
      have cY_20_0 : w20.cell? ⟨w9.heap.size, 0, none⟩ = some (Value.int IntKind.i64 q1) := (kY_20 0).trans cY_14_0
      have cY_20_1 : w20.cell? ⟨w9.heap.size, 1, none⟩ = some (Value.int IntKind.i64 q2) := (kY_20 1).trans cY_14_1
      have cY_20_2 : w20.cell? ⟨w9.heap.size, 2, none⟩ = some (Value.int IntKind.i64 q3) := (kY_20 2).trans cY_14_2
      have cY_20_3 : w20.cell? ⟨w9.heap.size, 3, none⟩ = some (Value.int IntKind.i64 q4) := (kY_20 3).trans cY_14_3
      have cY_20_4 : w20.cell? ⟨w9.heap.size, 4, none⟩ = some (Value.int IntKind.i64 q5) := (kY_20 4).trans cY_14_4
      have cY_20_5 : w20.cell? ⟨w9.heap.size, 5, none⟩ = some (Value.int IntKind.i64 q6) := (kY_20 5).trans cY_14_5
      have lZ_20 : w10.heap.size < w20.heap.size := (by first | omega | (simp; done) | (simp; omega))
      have kZ_20 : ∀ i, w20.cell? ⟨w10.heap.size, i, none⟩ = w14.cell? ⟨w10.heap.size, i, none⟩ := fun i => (hb20.cell (p := ⟨w10.heap.size, i, none⟩) (by show w10.heap.size < _; omega)).trans rfl
      have cZ_20_0 : w20.cell? ⟨w10.heap.size, 0, none⟩ = some (Value.int IntKind.i64 r1) := (kZ_20 0).trans cZ_14_0
      have cZ_20_1 : w20.cell? ⟨w10.heap.size, 1, none⟩ = some (Value.int IntKind.i64 r2') := (kZ_20 1).trans cZ_14_1
      have cZ_20_2 : w20.cell? ⟨w10.heap.size, 2, none⟩ = some (Value.int IntKind.i64 r3) := (kZ_20 2).trans cZ_14_2
      have cZ_20_3 : w20.cell? ⟨w10.heap.size, 3, none⟩ = some (Value.int IntKind.i64 r4) := (kZ_20 3).trans cZ_14_3
      have cZ_20_4 : w20.cell? ⟨w10.heap.size, 4, none⟩ = some (Value.int IntKind.i64 r5) := (kZ_20 4).trans cZ_14_4
      have cZ_20_5 : w20.cell? ⟨w10.heap.size, 5, none⟩ = some (Value.int IntKind.i64 r6) := (kZ_20 5).trans cZ_14_5
      clear kA_20 cA_14_0 cA_14_1 cA_14_2 cA_14_3 cA_14_4 cA_14_5 cA_14_6 cA_14_7 cP_14_0 cP_14_1 cP_14_2 cP_14_3 cP_14_4 cP_14_5 cO_14_0 cO_14_1 cO_14_2 cO_14_3 cO_14_4 cO_14_5 kY_20 cY_14_0 cY_14_1 cY_14_2 cY_14_3 cY_14_4 cY_14_5 kZ_20 cZ_14_0 cZ_14_1 cZ_14_2 cZ_14_3 cZ_14_4 cZ_14_5 lA_14 lP_14 lO_14 lY_14 lZ_14 neA_14 neA_14b neA_14c neA_14d neP_14 neP_14b neP_14c neP_14d neO_14 neO_14b neO_14c neO_14d neY_14 neY_14b neY_14c neY_14d neZ_14 neZ_14b neZ_14c neZ_14d
      have neA_20 : w1.heap.size ≠ w20.heap.size := by omega
      have neA_20b : w1.heap.size ≠ w20.heap.size + 1 := by omega
      have neA_20c : w20.heap.size ≠ w1.heap.size := by omega
      have neA_20d : w20.heap.size + 1 ≠ w1.heap.size := by omega
      have neY_20 : w9.heap.size ≠ w20.heap.size := by omega
      have neY_20b : w9.heap.size ≠ w20.heap.size + 1 := by omega
      have neY_20c : w20.heap.size ≠ w9.heap.size := by omega
      have neY_20d : w20.heap.size + 1 ≠ w9.heap.size := by omega
      have neZ_20 : w10.heap.size ≠ w20.heap.size := by omega
      have neZ_20b : w10.heap.size ≠ w20.heap.size + 1 := by omega
      have neZ_20c : w20.heap.size ≠ w10.heap.size := by omega
      have neZ_20d : w20.heap.size + 1 ≠ w10.heap.size := by omega
      go_wp2_with fail
      by_cases h0 : dd < 0
      · have hd0 : decide (dd < 0) = true := by simp [h0]
        go_quiet (fail)
        go_wp2_with fail
        go_ret
        exact ⟨rfl, by (repeat (first | with_reducible exact Below.refl _ _ | with_reducible assumption | with_reducible refine below_drewN ?_ _ | with_reducible refine Below.drew ?_ | with_reducible refine Below.alloc ?_ (by first | omega | (simp; done) | (simp; omega)) _ | with_reducible refine Below.setCell ?_ (by first | omega | (simp; done) | (simp; omega)) _ | with_reducible refine Below.trans ?_ (Below.mono (by assumption) (by first | omega | (simp; done) | (simp; omega)))))⟩
      have hd0 : decide (dd < 0) = false := by simp; omega
      cases v3
      case false =>
        go_quiet (fail)
        go_wp2_with fail
        go_ret
        exact ⟨rfl, by (repeat (first | with_reducible exact Below.refl _ _ | with_reducible assumption | with_reducible refine below_drewN ?_ _ | with_reducible refine Below.drew ?_ | with_reducible refine Below.alloc ?_ (by first | omega | (simp; done) | (simp; omega)) _ | with_reducible refine Below.setCell ?_ (by first | omega | (simp; done) | (simp; omega)) _ | with_reducible refine Below.trans ?_ (Below.mono (by assumption) (by first | omega | (simp; done) | (simp; omega)))))⟩
      obtain ⟨ee, h1, h2⟩ := KY.out (by omega) (by trivial) (by trivial)
      have KF := Lib.hid h1
      have KG := Lib.hid h2
      clear h1 h2 h0
      go_region_held3 (fun w' => w'.cell? ⟨w9.heap.size, 0, none⟩ = some (Value.int IntKind.i64 q1) ∧ w'.cell? ⟨w9.heap.size, 1, none⟩ = some (Value.int IntKind.i64 q2) ∧ w'.cell? ⟨w9.heap.size, 2, none⟩ = some (Value.int IntKind.i64 q3) ∧ w'.cell? ⟨w9.heap.size, 3, none⟩ = some (Value.int IntKind.i64 q4) ∧ w'.cell? ⟨w9.heap.size, 4, none⟩ = some (Value.int IntKind.i64 q5) ∧ w'.cell? ⟨w9.heap.size, 5, none⟩ = some (Value.int IntKind.i64 q6) ∧ w'.cell? ⟨w10.heap.size, 0, none⟩ = some (Value.int IntKind.i64 r1) ∧ w'.cell? ⟨w10.heap.size, 1, none⟩ = some (Value.int IntKind.i64 r2') ∧ w'.cell? ⟨w10.heap.size, 2, none⟩ = some (Value.int IntKind.i64 r3) ∧ w'.cell? ⟨w10.heap.size, 3, none⟩ = some (Value.int IntKind.i64 r4) ∧ w'.cell? ⟨w10.heap.size, 4, none⟩ = some (Value.int IntKind.i64 r5) ∧ w'.cell? ⟨w10.heap.size, 5, none⟩ = some (Value.int IntKind.i64 r6) ∧ w'.cell? ⟨w1.heap.size, 0, none⟩ = some (Value.int IntKind.i64 t) ∧ w'.cell? ⟨w1.heap.size, 1, none⟩ = some (Value.bool false) ∧ w'.cell? ⟨w1.heap.size, 2, none⟩ = some (Value.int IntKind.i64 ma) ∧ w'.cell? ⟨w1.heap.size, 3, none⟩ = some (Value.int IntKind.i64 mb) ∧ w'.cell? ⟨w1.heap.size, 4, none⟩ = some (Value.int IntKind.i64 mk) ∧ w'.cell? ⟨w1.heap.size, 5, none⟩ = some (Value.int IntKind.i64 mc) ∧ w'.cell? ⟨w1.heap.size, 6, none⟩ = some (Value.int IntKind.i64 md) ∧ w'.cell? ⟨w1.heap.size, 7, none⟩ = some (Value.int IntKind.i64 ml)) ((first | (go_simp; done) | (simp [*]; done)))
        ((first
        | (go_at_call 21; refine (KF.out _ ?_).mono ?_; exact LT.below (w := w) hT (by (repeat (first | with_reducible exact Below.refl _ _ | with_reducible assumption | with_reducible refine below_drewN ?_ _ | with_reducible refine Below.drew ?_ | with_reducible refine Below.alloc ?_ (by first | omega | (simp; done) | (simp; omega)) _ | with_reducible refine Below.setCell ?_ (by first | omega | (simp; done) | (simp; omega)) _ | with_reducible refine Below.trans ?_ (Below.mono (by assumption) (by first | omega | (simp; done) | (simp; omega)))))) (Nat.le_refl _); rintro e w21 ⟨rfl, hb21⟩; (try replace hb21 := Below.undrew hb21); obtain ⟨hc21, hf21⟩ := bcell hb21; have hz21 := hb21.size; (try simp at hz21); (have lY_21 : w9.heap.size < w21.heap.size := (by omega)); (have lZ_21 : w10.heap.size < w21.heap.size := (by omega)); (have lA_21 : w1.heap.size < w21.heap.size := (by omega)))
        | (go_at_call 20; refine (KG.out _ ?_).mono ?_; exact LT.below (w := w) hT (by (repeat (first | with_reducible exact Below.refl _ _ | with_reducible assumption | with_reducible refine below_drewN ?_ _ | with_reducible refine Below.drew ?_ | with_reducible refine Below.alloc ?_ (by first | omega | (simp; done) | (simp; omega)) _ | with_reducible refine Below.setCell ?_ (by first | omega | (simp; done) | (simp; omega)) _ | with_reducible refine Below.trans ?_ (Below.mono (by assumption) (by first | omega | (simp; done) | (simp; omega)))))) (Nat.le_refl _); rintro e w22 ⟨rfl, hb22⟩; (try replace hb22 := Below.undrew hb22); obtain ⟨hc22, hf22⟩ := bcell hb22; have hz22 := hb22.size; (try simp at hz22); (have lY_22 : w9.heap.size < w22.heap.size := (by omega)); (have lZ_22 : w10.heap.size < w22.heap.size := (by omega)); (have lA_22 : w1.heap.size < w22.heap.size := (by omega)))))
      go_wp2_with fail
      go_ret
      exact ⟨rfl, by (repeat (first | with_reducible exact Below.refl _ _ | with_reducible assumption | with_reducible refine below_drewN ?_ _ | with_reducible refine Below.drew ?_ | with_reducible refine Below.alloc ?_ (by first | omega | (simp; done) | (simp; omega)) _ | with_reducible refine Below.setCell ?_ (by first | omega | (simp; done) | (simp; omega)) _ | with_reducible refine Below.trans ?_ (Below.mono (by assumption) (by first | omega | (simp; done) | (simp; omega)))))⟩
    · have hd8 : decide (8 ≤ vd) = false := by simp; omega
      have KZ := Lib.hid (KX.out (by trivial) (by trivial) sd (by have := HN.out; simp [h8]; try omega))
      have hvz : (sd != sd) = false := by simp
      go_wp2_with fail
      refine (KZ.out _ ?_).mono ?_
      · exact LT.below (w := w) hT hB13 (Nat.le_refl _)
      rintro e w14 ⟨rfl, hb14⟩
      have z14 := hb14.size
      (try simp only [World.size_alloc] at z14)
      have hB14 : Below w.heap.size w w14 := hB13.trans (hb14.mono (by omega))
      have y14 := hB14.size
      have lA_14 : w1.heap.size < w14.heap.size := (by first | omega | (simp; done) | (simp; omega))
      have kA_14 : ∀ i, w14.cell? ⟨w1.heap.size, i, none⟩ = w13.cell? ⟨w1.heap.size, i, none⟩ := fun i => (hb14.cell (p := ⟨w1.heap.size, i, none⟩) (by show w1.heap.size < _; omega)).trans rfl
      have cA_14_0 : w14.cell? ⟨w1.heap.size, 0, none⟩ = some (Value.int IntKind.i64 t) := (kA_14 0).trans cA_13_0
      have cA_14_1 : w14.cell? ⟨w1.heap.size, 1, none⟩ = some (Value.bool false) := (kA_14 1).trans cA_13_1
      have cA_14_2 : w14.cell? ⟨w1.heap.size, 2, none⟩ = some (Value.int IntKind.i64 ma) := (kA_14 2).trans cA_13_2
      have cA_14_3 : w14.cell? ⟨w1.heap.size, 3, none⟩ = some (Value.int IntKind.i64 mb) := (kA_14 3).trans cA_13_3
      have cA_14_4 : w14.cell? ⟨w1.heap.size, 4, none⟩ = some (Value.int IntKind.i64 mk) := (kA_14 4).trans cA_13_4
      have cA_14_5 : w14.cell? ⟨w1.heap.size, 5, none⟩ = some (Value.int IntKind.i64 mc) := (kA_14 5).trans cA_13_5
      have cA_14_6 : w14.cell? ⟨w1.heap.size, 6, none⟩ = some (Value.int IntKind.i64 md) := (kA_14 6).trans cA_13_6
      have cA_14_7 : w14.cell? ⟨w1.heap.size, 7, none⟩ = some (Value.int IntKind.i64 ml) := (kA_14 7).trans cA_13_7
      have lP_14 : w2.heap.size + 1 < w14.heap.size := (by first | omega | (simp; done) | (simp; omega))
      have kP_14 : ∀ i, w14.cell? ⟨w2.heap.size + 1, i, none⟩ = w13.cell? ⟨w2.heap.size + 1, i, none⟩ := fun i => (hb14.cell (p := ⟨w2.heap.size + 1, i, none⟩) (by show w2.heap.size + 1 < _; omega)).trans rfl
      have cP_14_0 : w14.cell? ⟨w2.heap.size + 1, 0, none⟩ = some (Value.int IntKind.i64 a) := (kP_14 0).trans cP_13_0
      have cP_14_1 : w14.cell? ⟨w2.heap.size + 1, 1, none⟩ = some (Value.int IntKind.i64 b) := (kP_14 1).trans cP_13_1
      have cP_14_2 : w14.cell? ⟨w2.heap.size + 1, 2, none⟩ = some (Value.int IntKind.i64 k) := (kP_14 2).trans cP_13_2
      have cP_14_3 : w14.cell? ⟨w2.heap.size + 1, 3, none⟩ = some (Value.int IntKind.i64 c) := (kP_14 3).trans cP_13_3
      have cP_14_4 : w14.cell? ⟨w2.heap.size + 1, 4, none⟩ = some (Value.int IntKind.i64 d) := (kP_14 4).trans cP_13_4
      have cP_14_5 : w14.cell? ⟨w2.heap.size + 1, 5, none⟩ = some (Value.int IntKind.i64 l) := (kP_14 5).trans cP_13_5
      have lO_14 : w3.heap.size + 1 < w14.heap.size := (by first | omega | (simp; done) | (simp; omega))
      have kO_14 : ∀ i, w14.cell? ⟨w3.heap.size + 1, i, none⟩ = w13.cell? ⟨w3.heap.size + 1, i, none⟩ := fun i => (hb14.cell (p := ⟨w3.heap.size + 1, i, none⟩) (by show w3.heap.size + 1 < _; omega)).trans rfl
      have cO_14_0 : w14.cell? ⟨w3.heap.size + 1, 0, none⟩ = some (Value.int IntKind.i64 a') := (kO_14 0).trans cO_13_0
      have cO_14_1 : w14.cell? ⟨w3.heap.size + 1, 1, none⟩ = some (Value.int IntKind.i64 b') := (kO_14 1).trans cO_13_1
      have cO_14_2 : w14.cell? ⟨w3.heap.size + 1, 2, none⟩ = some (Value.int IntKind.i64 k') := (kO_14 2).trans cO_13_2
      have cO_14_3 : w14.cell? ⟨w3.heap.size + 1, 3, none⟩ = some (Value.int IntKind.i64 c') := (kO_14 3).trans cO_13_3
      have cO_14_4 : w14.cell? ⟨w3.heap.size + 1, 4, none⟩ = some (Value.int IntKind.i64 d') := (kO_14 4).trans cO_13_4
      have cO_14_5 : w14.cell? ⟨w3.heap.size + 1, 5, none⟩ = some (Value.int IntKind.i64 l') := (kO_14 5).trans cO_13_5
      have lY_14 : w9.heap.size < w14.heap.size := (by first | omega | (simp; done) | (simp; omega))
      have kY_14 : ∀ i, w14.cell? ⟨w9.heap.size, i, none⟩ = w13.cell? ⟨w9.heap.size, i, none⟩ := fun i => (hb14.cell (p := ⟨w9.heap.size, i, none⟩) (by show w9.heap.size < _; omega)).trans rfl
      have cY_14_0 : w14.cell? ⟨w9.heap.size, 0, none⟩ = some (Value.int IntKind.i64 q1) := (kY_14 0).trans cY_13_0
      have cY_14_1 : w14.cell? ⟨w9.heap.size, 1, none⟩ = some (Value.int IntKind.i64 q2) := (kY_14 1).trans cY_13_1
      have cY_14_2 : w14.cell? ⟨w9.heap.size, 2, none⟩ = some (Value.int IntKind.i64 q3) := (kY_14 2).trans cY_13_2
      have cY_14_3 : w14.cell? ⟨w9.heap.size, 3, none⟩ = some (Value.int IntKind.i64 q4) := (kY_14 3).trans cY_13_3
      have cY_14_4 : w14.cell? ⟨w9.heap.size, 4, none⟩ = some (Value.int IntKind.i64 q5) := (kY_14 4).trans cY_13_4
      have cY_14_5 : w14.cell? ⟨w9.heap.size, 5, none⟩ = some (Value.int IntKind.i64 q6) := (kY_14 5).trans cY_13_5
      have lZ_14 : w10.heap.size < w14.heap.size := (by first | omega | (simp; done) | (simp; omega))
      have kZ_14 : ∀ i, w14.cell? ⟨w10.heap.size, i, none⟩ = w13.cell? ⟨w10.heap.size, i, none⟩ := fun i => (hb14.cell (p := ⟨w10.heap.size, i, none⟩) (by show w10.heap.size < _; omega)).trans rfl
      have cZ_14_0 : w14.cell? ⟨w10.heap.size, 0, none⟩ = some (Value.int IntKind.i64 r1) := (kZ_14 0).trans cZ_13_0
      have cZ_14_1 : w14.cell? ⟨w10.heap.size, 1, none⟩ = some (Value.int IntKind.i64 r2') := (kZ_14 1).trans cZ_13_1
      have cZ_14_2 : w14.cell? ⟨w10.heap.size, 2, none⟩ = some (Value.int IntKind.i64 r3) := (kZ_14 2).trans cZ_13_2
      have cZ_14_3 : w14.cell? ⟨w10.heap.size, 3, none⟩ = some (Value.int IntKind.i64 r4) := (kZ_14 3).trans cZ_13_3
      have cZ_14_4 : w14.cell? ⟨w10.heap.size, 4, none⟩ = some (Value.int IntKind.i64 r5) := (kZ_14 4).trans cZ_13_4
      have cZ_14_5 : w14.cell? ⟨w10.heap.size, 5, none⟩ = some (Value.int IntKind.i64 r6) := (kZ_14 5).trans cZ_13_5
      clear kA_14 cA_13_0 cA_13_1 cA_13_2 cA_13_3 cA_13_4 cA_13_5 cA_13_6 cA_13_7 cB_13_0 cB_13_1 cB_13_2 cB_13_3 kP_14 cP_13_0 cP_13_1 cP_13_2 cP_13_3 cP_13_4 cP_13_5 kO_14 cO_13_0 cO_13_1 cO_13_2 cO_13_3 cO_13_4 cO_13_5 cX_13_0 cX_13_1 cX_13_2 cX_13_3 kY_14 cY_13_0 cY_13_1 cY_13_2 cY_13_3 cY_13_4 cY_13_5 kZ_14 cZ_13_0 cZ_13_1 cZ_13_2 cZ_13_3 cZ_13_4 cZ_13_5 lA_13 lB_13 lP_13 lO_13 lX_13 lY_13 lZ_13 neA_13 neA_13b neA_13c neA_13d neB_13 neB_13b neB_13c neB_13d neP_13 neP_13b neP_13c neP_13d neO_13 neO_13b neO_13c neO_13d neX_13 neX_13b neX_13c neX_13d neY_13 neY_13b neY_13c neY_13d neZ_13 neZ_13b neZ_13c neZ_13d
      have neA_14 : w1.heap.size ≠ w14.heap.size := by omega
      have neA_14b : w1.heap.size ≠ w14.heap.size + 1 := by omega
      have neA_14c : w14.heap.size ≠ w1.heap.size := by omega
      have neA_14d : w14.heap.size + 1 ≠ w1.heap.size := by omega
      have neP_14 : w2.heap.size + 1 ≠ w14.heap.size := by omega
      have neP_14b : w2.heap.size + 1 ≠ w14.heap.size + 1 := by omega
      have neP_14c : w14.heap.size ≠ w2.heap.size + 1 := by omega
      have neP_14d : w14.heap.size + 1 ≠ w2.heap.size + 1 := by omega
      have neO_14 : w3.heap.size + 1 ≠ w14.heap.size := by omega
      have neO_14b : w3.heap.size + 1 ≠ w14.heap.size + 1 := by omega
      have neO_14c : w14.heap.size ≠ w3.heap.size + 1 := by omega
      have neO_14d : w14.heap.size + 1 ≠ w3.heap.size + 1 := by omega
      have neY_14 : w9.heap.size ≠ w14.heap.size := by omega
      have neY_14b : w9.heap.size ≠ w14.heap.size + 1 := by omega
      have neY_14c : w14.heap.size ≠ w9.heap.size := by omega
      have neY_14d : w14.heap.size + 1 ≠ w9.heap.size := by omega
      have neZ_14 : w10.heap.size ≠ w14.heap.size := by omega
      have neZ_14b : w10.heap.size ≠ w14.heap.size + 1 := by omega
      have neZ_14c : w14.heap.size ≠ w10.heap.size := by omega
      have neZ_14d : w14.heap.size + 1 ≠ w10.heap.size := by omega
      go_wp2_with fail
      refine (KE.out _ ?_).mono ?_
      · exact LT.below (w := w) hT hB14 (Nat.le_refl _)
      rintro e w20 ⟨rfl, hb20⟩
      have z20 := hb20.size
      (try simp only [World.size_alloc] at z20)
      have hB20 : Below w.heap.size w w20 := hB14.trans (hb20.mono (by omega))
      have y20 := hB20.size
      have lA_20 : w1.heap.size < w20.heap.size := (by first | omega | (simp; done) | (simp; omega))
      have kA_20 : ∀ i, w20.cell? ⟨w1.heap.size, i, none⟩ = w14.cell? ⟨w1.heap.size, i, none⟩ := fun i => (hb20.cell (p := ⟨w1.heap.size, i, none⟩) (by show w1.heap.size < _; omega)).trans rfl
      have cA_20_0 : w20.cell? ⟨w1.heap.size, 0, none⟩ = some (Value.int IntKind.i64 t) := (kA_20 0).trans cA_14_0
      have cA_20_1 : w20.cell? ⟨w1.heap.size, 1, none⟩ = some (Value.bool false) := (kA_20 1).trans cA_14_1
      have cA_20_2 : w20.cell? ⟨w1.heap.size, 2, none⟩ = some (Value.int IntKind.i64 ma) := (kA_20 2).trans cA_14_2
      have cA_20_3 : w20.cell? ⟨w1.heap.size, 3, none⟩ = some (Value.int IntKind.i64 mb) := (kA_20 3).trans cA_14_3
      have cA_20_4 : w20.cell? ⟨w1.heap.size, 4, none⟩ = some (Value.int IntKind.i64 mk) := (kA_20 4).trans cA_14_4
      have cA_20_5 : w20.cell? ⟨w1.heap.size, 5, none⟩ = some (Value.int IntKind.i64 mc) := (kA_20 5).trans cA_14_5
      have cA_20_6 : w20.cell? ⟨w1.heap.size, 6, none⟩ = some (Value.int IntKind.i64 md) := (kA_20 6).trans cA_14_6
      have cA_20_7 : w20.cell? ⟨w1.heap.size, 7, none⟩ = some (Value.int IntKind.i64 ml) := (kA_20 7).trans cA_14_7
      have lY_20 : w9.heap.size < w20.heap.size := (by first | omega | (simp; done) | (simp; omega))
      have kY_20 : ∀ i, w20.cell? ⟨w9.heap.size, i, none⟩ = w14.cell? ⟨w9.heap.size, i, none⟩ := fun i => (hb20.cell (p := ⟨w9.heap.size, i, none⟩) (by show w9.heap.size < _; omega)).trans rfl
      have cY_20_0 : w20.cell? ⟨w9.heap.size, 0, none⟩ = some (Value.int IntKind.i64 q1) := (kY_20 0).trans cY_14_0
      have cY_20_1 : w20.cell? ⟨w9.heap.size, 1, none⟩ = some (Value.int IntKind.i64 q2) := (kY_20 1).trans cY_14_1
      have cY_20_2 : w20.cell? ⟨w9.heap.size, 2, none⟩ = some (Value.int IntKind.i64 q3) := (kY_20 2).trans cY_14_2
      have cY_20_3 : w20.cell? ⟨w9.heap.size, 3, none⟩ = some (Value.int IntKind.i64 q4) := (kY_20 3).trans cY_14_3
      have cY_20_4 : w20.cell? ⟨w9.heap.size, 4, none⟩ = some (Value.int IntKind.i64 q5) := (kY_20 4).trans cY_14_4
      have cY_20_5 : w20.cell? ⟨w9.heap.size, 5, none⟩ = some (Value.int IntKind.i64 q6) := (kY_20 5).trans cY_14_5
      have lZ_20 : w10.heap.size < w20.heap.size := (by first | omega | (simp; done) | (simp; omega))
      have kZ_20 : ∀ i, w20.cell? ⟨w10.heap.size, i, none⟩ = w14.cell? ⟨w10.heap.size, i, none⟩ := fun i => (hb20.cell (p := ⟨w10.heap.size, i, none⟩) (by show w10.heap.size < _; omega)).trans rfl
      have cZ_20_0 : w20.cell? ⟨w10.heap.size, 0, none⟩ = some (Value.int IntKind.i64 r1) := (kZ_20 0).trans cZ_14_0
      have cZ_20_1 : w20.cell? ⟨w10.heap.size, 1, none⟩ = some (Value.int IntKind.i64 r2') := (kZ_20 1).trans cZ_14_1
      have cZ_20_2 : w20.cell? ⟨w10.heap.size, 2, none⟩ = some (Value.int IntKind.i64 r3) := (kZ_20 2).trans cZ_14_2
      have cZ_20_3 : w20.cell? ⟨w10.heap.size, 3, none⟩ = some (Value.int IntKind.i64 r4) := (kZ_20 3).trans cZ_14_3
      have cZ_20_4 : w20.cell? ⟨w10.heap.size, 4, none⟩ = some (Value.int IntKind.i64 r5) := (kZ_20 4).trans cZ_14_4
      have cZ_20_5 : w20.cell? ⟨w10.heap.size, 5, none⟩ = some (Value.int IntKind.i64 r6) := (kZ_20 5).trans cZ_14_5
      clear kA_20 cA_14_0 cA_14_1 cA_14_2 cA_14_3 cA_14_4 cA_14_5 cA_14_6 cA_14_7 cP_14_0 cP_14_1 cP_14_2 cP_14_3 cP_14_4 cP_14_5 cO_14_0 cO_14_1 cO_14_2 cO_14_3 cO_14_4 cO_14_5 kY_20 cY_14_0 cY_14_1 cY_14_2 cY_14_3 cY_14_4 cY_14_5 kZ_20 cZ_14_0 cZ_14_1 cZ_14_2 cZ_14_3 cZ_14_4 cZ_14_5 lA_14 lP_14 lO_14 lY_14 lZ_14 neA_14 neA_14b neA_14c neA_14d neP_14 neP_14b neP_14c neP_14d neO_14 neO_14b neO_14c neO_14d neY_14 neY_14b neY_14c neY_14d neZ_14 neZ_14b neZ_14c neZ_14d
      have neA_20 : w1.heap.size ≠ w20.heap.size := by omega
      have neA_20b : w1.heap.size ≠ w20.heap.size + 1 := by omega
      have neA_20c : w20.heap.size ≠ w1.heap.size := by omega
      have neA_20d : w20.heap.size + 1 ≠ w1.heap.size := by omega
      have neY_20 : w9.heap.size ≠ w20.heap.size := by omega
      have neY_20b : w9.heap.size ≠ w20.heap.size + 1 := by omega
      have neY_20c : w20.heap.size ≠ w9.heap.size := by omega
      have neY_20d : w20.heap.size + 1 ≠ w9.heap.size := by omega
      have neZ_20 : w10.heap.size ≠ w20.heap.size := by omega
      have neZ_20b : w10.heap.size ≠ w20.heap.size + 1 := by omega
      have neZ_20c : w20.heap.size ≠ w10.heap.size := by omega
      have neZ_20d : w20.heap.size + 1 ≠ w10.heap.size := by omega
      go_wp2_with fail
      by_cases h0 : dd < 0
      · have hd0 : decide (dd < 0) = true := by simp [h0]
        go_quiet (fail)
        go_wp2_with fail
        go_ret
        exact ⟨rfl, by (repeat (first | with_reducible exact Below.refl _ _ | with_reducible assumption | with_reducible refine below_drewN ?_ _ | with_reducible refine Below.drew ?_ | with_reducible refine Below.alloc ?_ (by first | omega | (simp; done) | (simp; omega)) _ | with_reducible refine Below.setCell ?_ (by first | omega | (simp; done) | (simp; omega)) _ | with_reducible refine Below.trans ?_ (Below.mono (by assumption) (by first | omega | (simp; done) | (simp; omega)))))⟩
      have hd0 : decide (dd < 0) = false := by simp; omega
      cases v3
      case false =>
        go_quiet (fail)
        go_wp2_with fail
        go_ret
        exact ⟨rfl, by (repeat (first | with_reducible exact Below.refl _ _ | with_reducible assumption | with_reducible refine below_drewN ?_ _ | with_reducible refine Below.drew ?_ | with_reducible refine Below.alloc ?_ (by first | omega | (simp; done) | (simp; omega)) _ | with_reducible refine Below.setCell ?_ (by first | omega | (simp; done) | (simp; omega)) _ | with_reducible refine Below.trans ?_ (Below.mono (by assumption) (by first | omega | (simp; done) | (simp; omega)))))⟩
      obtain ⟨ee, h1, h2⟩ := KY.out (by omega) (by trivial) (by trivial)
      have KF := Lib.hid h1
      have KG := Lib.hid h2
      clear h1 h2 h0
      go_region_held3 (fun w' => w'.cell? ⟨w9.heap.size, 0, none⟩ = some (Value.int IntKind.i64 q1) ∧ w'.cell? ⟨w9.heap.size, 1, none⟩ = some (Value.int IntKind.i64 q2) ∧ w'.cell? ⟨w9.heap.size, 2, none⟩ = some (Value.int IntKind.i64 q3) ∧ w'.cell? ⟨w9.heap.size, 3, none⟩ = some (Value.int IntKind.i64 q4) ∧ w'.cell? ⟨w9.heap.size, 4, none⟩ = some (Value.int IntKind.i64 q5) ∧ w'.cell? ⟨w9.heap.size, 5, none⟩ = some (Value.int IntKind.i64 q6) ∧ w'.cell? ⟨w10.heap.size, 0, none⟩ = some (Value.int IntKind.i64 r1) ∧ w'.cell? ⟨w10.heap.size, 1, none⟩ = some (Value.int IntKind.i64 r2') ∧ w'.cell? ⟨w10.heap.size, 2, none⟩ = some (Value.int IntKind.i64 r3) ∧ w'.cell? ⟨w10.heap.size, 3, none⟩ = some (Value.int IntKind.i64 r4) ∧ w'.cell? ⟨w10.heap.size, 4, none⟩ = some (Value.int IntKind.i64 r5) ∧ w'.cell? ⟨w10.heap.size, 5, none⟩ = some (Value.int IntKind.i64 r6) ∧ w'.cell? ⟨w1.heap.size, 0, none⟩ = some (Value.int IntKind.i64 t) ∧ w'.cell? ⟨w1.heap.size, 1, none⟩ = some (Value.bool false) ∧ w'.cell? ⟨w1.heap.size, 2, none⟩ = some (Value.int IntKind.i64 ma) ∧ w'.cell? ⟨w1.heap.size, 3, none⟩ = some (Value.int IntKind.i64 mb) ∧ w'.cell? ⟨w1.heap.size, 4, none⟩ = some (Value.int IntKind.i64 mk) ∧ w'.cell? ⟨w1.heap.size, 5, none⟩ = some (Value.int IntKind.i64 mc) ∧ w'.cell? ⟨w1.heap.size, 6, none⟩ = some (Value.int IntKind.i64 md) ∧ w'.cell? ⟨w1.heap.size, 7, none⟩ = some (Value.int IntKind.i64 ml)) ((first | (go_simp; done) | (simp [*]; done)))
        ((first
        | (go_at_call 21; refine (KF.out _ ?_).mono ?_; exact LT.below (w := w) hT (by (repeat (first | with_reducible exact Below.refl _ _ | with_reducible assumption | with_reducible refine below_drewN ?_ _ | with_reducible refine Below.drew ?_ | with_reducible refine Below.alloc ?_ (by first | omega | (simp; done) | (simp; omega)) _ | with_reducible refine Below.setCell ?_ (by first | omega | (simp; done) | (simp; omega)) _ | with_reducible refine Below.trans ?_ (Below.mono (by assumption) (by first | omega | (simp; done) | (simp; omega)))))) (Nat.le_refl _); rintro e w21 ⟨rfl, hb21⟩; (try replace hb21 := Below.undrew hb21); obtain ⟨hc21, hf21⟩ := bcell hb21; have hz21 := hb21.size; (try simp at hz21); (have lY_21 : w9.heap.size < w21.heap.size := (by omega)); (have lZ_21 : w10.heap.size < w21.heap.size := (by omega)); (have lA_21 : w1.heap.size < w21.heap.size := (by omega)))
        | (go_at_call 20; refine (KG.out _ ?_).mono ?_; exact LT.below (w := w) hT (by (repeat (first | with_reducible exact Below.refl _ _ | with_reducible assumption | with_reducible refine below_drewN ?_ _ | with_reducible refine Below.drew ?_ | with_reducible refine Below.alloc ?_ (by first | omega | (simp; done) | (simp; omega)) _ | with_reducible refine Below.setCell ?_ (by first | omega | (simp; done) | (simp; omega)) _ | with_reducible refine Below.trans ?_ (Below.mono (by assumption) (by first | omega | (simp; done) | (simp; omega)))))) (Nat.le_refl _); rintro e w22 ⟨rfl, hb22⟩; (try replace hb22 := Below.undrew hb22); obtain ⟨hc22, hf22⟩ := bcell hb22; have hz22 := hb22.size; (try simp at hz22); (have lY_22 : w9.heap.size < w22.heap.size := (by omega)); (have lZ_22 : w10.heap.size < w22.heap.size := (by omega)); (have lA_22 : w1.heap.size < w22.heap.size := (by omega)))))
      go_wp2_with fail
      go_ret
      exact ⟨rfl, by (repeat (first | with_reducible exact Below.refl _ _ | with_reducible assumption | with_reducible refine below_drewN ?_ _ | with_reducible refine Below.drew ?_ | with_reducible refine Below.alloc ?_ (by first | omega | (simp; done) | (simp; omega)) _ | with_reducible refine Below.setCell ?_ (by first | omega | (simp; done) | (simp; omega)) _ | with_reducible refine Below.trans ?_ (Below.mono (by assumption) (by first | omega | (simp; done) | (simp; omega)))))⟩
  case true =>
    go_wp2_with fail
    refine (KD.out _ ?_).mono ?_
    · exact LT.below (w := w) hT hB12 (Nat.le_refl _)
    rintro e w13 ⟨rfl, hb13⟩
    have z13 := hb13.size
    (try simp only [World.size_alloc] at z13)
    have hB13 : Below w.heap.size w w13 := hB12.trans (hb13.mono (by omega))
    have y13 := hB13.size
    have lA_13 : w1.heap.size < w13.heap.size := (by first | omega | (simp; done) | (simp; omega))
    have kA_13 : ∀ i, w13.cell? ⟨w1.heap.size, i, none⟩ = w12.cell? ⟨w1.heap.size, i, none⟩ := fun i => (hb13.cell (p := ⟨w1.heap.size, i, none⟩) (by show w1.heap.size < _; omega)).trans rfl
    have cA_13_0 : w13.cell? ⟨w1.heap.size, 0, none⟩ = some (Value.int IntKind.i64 t) := (kA_13 0).trans cA_12_0
    have cA_13_1 : w13.cell? ⟨w1.heap.size, 1, none⟩ = some (Value.bool true) := (kA_13 1).trans cA_12_1
    have cA_13_2 : w13.cell? ⟨w1.heap.size, 2, none⟩ = some (Value.int IntKind.i64 ma) := (kA_13 2).trans cA_12_2
    have cA_13_3 : w13.cell? ⟨w1.heap.size, 3, none⟩ = some (Value.int IntKind.i64 mb) := (kA_13 3).trans cA_12_3
    have cA_13_4 : w13.cell? ⟨w1.heap.size, 4, none⟩ = some (Value.int IntKind.i64 mk) := (kA_13 4).trans cA_12_4
    have cA_13_5 : w13.cell? ⟨w1.heap.size, 5, none⟩ = some (Value.int IntKind.i64 mc) := (kA_13 5).trans cA_12_5
    have cA_13_6 : w13.cell? ⟨w1.heap.size, 6, none⟩ = some (Value.int IntKind.i64 md) := (kA_13 6).trans cA_12_6
    have cA_13_7 : w13.cell? ⟨w1.heap.size, 7, none⟩ = some (Value.int IntKind.i64 ml) := (kA_13 7).trans cA_12_7
    have lB_13 : w1.heap.size + 1 < w13.heap.size := (by first | omega | (simp; done) | (simp; omega))
    have kB_13 : ∀ i, w13.cell? ⟨w1.heap.size + 1, i, none⟩ = w12.cell? ⟨w1.heap.size + 1, i, none⟩ := fun i => (hb13.cell (p := ⟨w1.heap.size + 1, i, none⟩) (by show w1.heap.size + 1 < _; omega)).trans rfl
    have cB_13_0 : w13.cell? ⟨w1.heap.size + 1, 0, none⟩ = some (Value.int IntKind.i64 e') := (kB_13 0).trans cB_12_0
    have cB_13_1 : w13.cell? ⟨w1.heap.size + 1, 1, none⟩ = some (Value.int IntKind.i64 x) := (kB_13 1).trans cB_12_1
    have cB_13_2 : w13.cell? ⟨w1.heap.size + 1, 2, none⟩ = some (Value.int IntKind.i64 y) := (kB_13 2).trans cB_12_2
    have cB_13_3 : w13.cell? ⟨w1.heap.size + 1, 3, none⟩ = some (Value.int IntKind.i64 z) := (kB_13 3).trans cB_12_3
    have lP_13 : w2.heap.size + 1 < w13.heap.size := (by first | omega | (simp; done) | (simp; omega))
    have kP_13 : ∀ i, w13.cell? ⟨w2.heap.size + 1, i, none⟩ = w12.cell? ⟨w2.heap.size + 1, i, none⟩ := fun i => (hb13.cell (p := ⟨w2.heap.size + 1, i, none⟩) (by show w2.heap.size + 1 < _; omega)).trans rfl
    have cP_13_0 : w13.cell? ⟨w2.heap.size + 1, 0, none⟩ = some (Value.int IntKind.i64 a) := (kP_13 0).trans cP_12_0
    have cP_13_1 : w13.cell? ⟨w2.heap.size + 1, 1, none⟩ = some (Value.int IntKind.i64 b) := (kP_13 1).trans cP_12_1
    have cP_13_2 : w13.cell? ⟨w2.heap.size + 1, 2, none⟩ = some (Value.int IntKind.i64 k) := (kP_13 2).trans cP_12_2
    have cP_13_3 : w13.cell? ⟨w2.heap.size + 1, 3, none⟩ = some (Value.int IntKind.i64 c) := (kP_13 3).trans cP_12_3
    have cP_13_4 : w13.cell? ⟨w2.heap.size + 1, 4, none⟩ = some (Value.int IntKind.i64 d) := (kP_13 4).trans cP_12_4
    have cP_13_5 : w13.cell? ⟨w2.heap.size + 1, 5, none⟩ = some (Value.int IntKind.i64 l) := (kP_13 5).trans cP_12_5
    have lO_13 : w3.heap.size + 1 < w13.heap.size := (by first | omega | (simp; done) | (simp; omega))
    have kO_13 : ∀ i, w13.cell? ⟨w3.heap.size + 1, i, none⟩ = w12.cell? ⟨w3.heap.size + 1, i, none⟩ := fun i => (hb13.cell (p := ⟨w3.heap.size + 1, i, none⟩) (by show w3.heap.size + 1 < _; omega)).trans rfl
    have cO_13_0 : w13.cell? ⟨w3.heap.size + 1, 0, none⟩ = some (Value.int IntKind.i64 a') := (kO_13 0).trans cO_12_0
    have cO_13_1 : w13.cell? ⟨w3.heap.size + 1, 1, none⟩ = some (Value.int IntKind.i64 b') := (kO_13 1).trans cO_12_1
    have cO_13_2 : w13.cell? ⟨w3.heap.size + 1, 2, none⟩ = some (Value.int IntKind.i64 k') := (kO_13 2).trans cO_12_2
    have cO_13_3 : w13.cell? ⟨w3.heap.size + 1, 3, none⟩ = some (Value.int IntKind.i64 c') := (kO_13 3).trans cO_12_3
    have cO_13_4 : w13.cell? ⟨w3.heap.size + 1, 4, none⟩ = some (Value.int IntKind.i64 d') := (kO_13 4).trans cO_12_4
    have cO_13_5 : w13.cell? ⟨w3.heap.size + 1, 5, none⟩ = some (Value.int IntKind.i64 l') := (kO_13 5).trans cO_12_5
    have lX_13 : w8.heap.size < w13.heap.size := (by first | omega | (simp; done) | (simp; omega))
    have kX_13 : ∀ i, w13.cell? ⟨w8.heap.size, i, none⟩ = w12.cell? ⟨w8.heap.size, i, none⟩ := fun i => (hb13.cell (p := ⟨w8.heap.size, i, none⟩) (by show w8.heap.size < _; omega)).trans rfl
    have cX_13_0 : w13.cell? ⟨w8.heap.size, 0, none⟩ = some (Value.int IntKind.i64 zd) := (kX_13 0).trans cX_12_0
    have cX_13_1 : w13.cell? ⟨w8.heap.size, 1, none⟩ = some (Value.int IntKind.i64 za) := (kX_13 1).trans cX_12_1
    have cX_13_2 : w13.cell? ⟨w8.heap.size, 2, none⟩ = some (Value.int IntKind.i64 zb) := (kX_13 2).trans cX_12_2
    have cX_13_3 : w13.cell? ⟨w8.heap.size, 3, none⟩ = some (Value.int IntKind.i64 zk) := (kX_13 3).trans cX_12_3
    have lY_13 : w9.heap.size < w13.heap.size := (by first | omega | (simp; done) | (simp; omega))
    have kY_13 : ∀ i, w13.cell? ⟨w9.heap.size, i, none⟩ = w12.cell? ⟨w9.heap.size, i, none⟩ := fun i => (hb13.cell (p := ⟨w9.heap.size, i, none⟩) (by show w9.heap.size < _; omega)).trans rfl
    have cY_13_0 : w13.cell? ⟨w9.heap.size, 0, none⟩ = some (Value.int IntKind.i64 q1) := (kY_13 0).trans cY_12_0
    have cY_13_1 : w13.cell? ⟨w9.heap.size, 1, none⟩ = some (Value.int IntKind.i64 q2) := (kY_13 1).trans cY_12_1
    have cY_13_2 : w13.cell? ⟨w9.heap.size, 2, none⟩ = some (Value.int IntKind.i64 q3) := (kY_13 2).trans cY_12_2
    have cY_13_3 : w13.cell? ⟨w9.heap.size, 3, none⟩ = some (Value.int IntKind.i64 q4) := (kY_13 3).trans cY_12_3
    have cY_13_4 : w13.cell? ⟨w9.heap.size, 4, none⟩ = some (Value.int IntKind.i64 q5) := (kY_13 4).trans cY_12_4
    have cY_13_5 : w13.cell? ⟨w9.heap.size, 5, none⟩ = some (Value.int IntKind.i64 q6) := (kY_13 5).trans cY_12_5
    have lZ_13 : w10.heap.size < w13.heap.size := (by first | omega | (simp; done) | (simp; omega))
    have kZ_13 : ∀ i, w13.cell? ⟨w10.heap.size, i, none⟩ = w12.cell? ⟨w10.heap.size, i, none⟩ := fun i => (hb13.cell (p := ⟨w10.heap.size, i, none⟩) (by show w10.heap.size < _; omega)).trans rfl
    have cZ_13_0 : w13.cell? ⟨w10.heap.size, 0, none⟩ = some (Value.int IntKind.i64 r1) := (kZ_13 0).trans cZ_12_0
    have cZ_13_1 : w13.cell? ⟨w10.heap.size, 1, none⟩ = some (Value.int IntKind.i64 r2') := (kZ_13 1).trans cZ_12_1
    have cZ_13_2 : w13.cell? ⟨w10.heap.size, 2, none⟩ = some (Value.int IntKind.i64 r3) := (kZ_13 2).trans cZ_12_2
    have cZ_13_3 : w13.cell? ⟨w10.heap.size, 3, none⟩ = some (Value.int IntKind.i64 r4) := (kZ_13 3).trans cZ_12_3
    have cZ_13_4 : w13.cell? ⟨w10.heap.size, 4, none⟩ = some (Value.int IntKind.i64 r5) := (kZ_13 4).trans cZ_12_4
    have cZ_13_5 : w13.cell? ⟨w10.heap.size, 5, none⟩ = some (Value.int IntKind.i64 r6) := (kZ_13 5).trans cZ_12_5
    clear kA_13 cA_12_0 cA_12_1 cA_12_2 cA_12_3 cA_12_4 cA_12_5 cA_12_6 cA_12_7 kB_13 cB_12_0 cB_12_1 cB_12_2 cB_12_3 kP_13 cP_12_0 cP_12_1 cP_12_2 cP_12_3 cP_12_4 cP_12_5 kO_13 cO_12_0 cO_12_1 cO_12_2 cO_12_3 cO_12_4 cO_12_5 kX_13 cX_12_0 cX_12_1 cX_12_2 cX_12_3 kY_13 cY_12_0 cY_12_1 cY_12_2 cY_12_3 cY_12_4 cY_12_5 kZ_13 cZ_12_0 cZ_12_1 cZ_12_2 cZ_12_3 cZ_12_4 cZ_12_5 lA_12 lB_12 lP_12 lO_12 lX_12 lY_12 lZ_12 neA_12 neA_12b neA_12c neA_12d neB_12 neB_12b neB_12c neB_12d neP_12 neP_12b neP_12c neP_12d neO_12 neO_12b neO_12c neO_12d neX_12 neX_12b neX_12c neX_12d neY_12 neY_12b neY_12c neY_12d neZ_12 neZ_12b neZ_12c neZ_12d
    have neA_13 : w1.heap.size ≠ w13.heap.size := by omega
    have neA_13b : w1.heap.size ≠ w13.heap.size + 1 := by omega
    have neA_13c : w13.heap.size ≠ w1.heap.size := by omega
    have neA_13d : w13.heap.size + 1 ≠ w1.heap.size := by omega
    have neB_13 : w1.heap.size + 1 ≠ w13.heap.size := by omega
    have neB_13b : w1.heap.size + 1 ≠ w13.heap.size + 1 := by omega
    have neB_13c : w13.heap.size ≠ w1.heap.size + 1 := by omega
    have neB_13d : w13.heap.size + 1 ≠ w1.heap.size + 1 := by omega
    have neP_13 : w2.heap.size + 1 ≠ w13.heap.size := by omega
    have neP_13b : w2.heap.size + 1 ≠ w13.heap.size + 1 := by omega
    have neP_13c : w13.heap.size ≠ w2.heap.size + 1 := by omega
    have neP_13d : w13.heap.size + 1 ≠ w2.heap.size + 1 := by omega
    have neO_13 : w3.heap.size + 1 ≠ w13.heap.size := by omega
    have neO_13b : w3.heap.size + 1 ≠ w13.heap.size + 1 := by omega
    have neO_13c : w13.heap.size ≠ w3.heap.size + 1 := by omega
    have neO_13d : w13.heap.size + 1 ≠ w3.heap.size + 1 := by omega
    have neX_13 : w8.heap.size ≠ w13.heap.size := by omega
    have neX_13b : w8.heap.size ≠ w13.heap.size + 1 := by omega
    have neX_13c : w13.heap.size ≠ w8.heap.size := by omega
    have neX_13d : w13.heap.size + 1 ≠ w8.heap.size := by omega
    have neY_13 : w9.heap.size ≠ w13.heap.size := by omega
    have neY_13b : w9.heap.size ≠ w13.heap.size + 1 := by omega
    have neY_13c : w13.heap.size ≠ w9.heap.size := by omega
    have neY_13d : w13.heap.size + 1 ≠ w9.heap.size := by omega
    have neZ_13 : w10.heap.size ≠ w13.heap.size := by omega
    have neZ_13b : w10.heap.size ≠ w13.heap.size + 1 := by omega
    have neZ_13c : w13.heap.size ≠ w10.heap.size := by omega
    have neZ_13d : w13.heap.size + 1 ≠ w10.heap.size := by omega
    by_cases h8 : 8 ≤ vd
    · have hd8 : decide (8 ≤ vd) = true := by simp [h8]
      have KZ := Lib.hid (KX.out (by trivial) (by trivial) sd (by have := HN.out; simp [h8]; try omega))
      have hvz : (sd != sd) = false := by simp
      go_wp2_with fail
      refine (KZ.out _ ?_).mono ?_
      · exact LT.below (w := w) hT hB13 (Nat.le_refl _)
      rintro e w14 ⟨rfl, hb14⟩
      have z14 := hb14.size
      (try simp only [World.size_alloc] at z14)
      have hB14 : Below w.heap.size w w14 := hB13.trans (hb14.mono (by omega))
      have y14 := hB14.size
      have lA_14 : w1.heap.size < w14.heap.size := (by first | omega | (simp; done) | (simp; omega))
      have kA_14 : ∀ i, w14.cell? ⟨w1.heap.size, i, none⟩ = w13.cell? ⟨w1.heap.size, i, none⟩ := fun i => (hb14.cell (p := ⟨w1.heap.size, i, none⟩) (by show w1.heap.size < _; omega)).trans rfl
      have cA_14_0 : w14.cell? ⟨w1.heap.size, 0, none⟩ = some (Value.int IntKind.i64 t) := (kA_14 0).trans cA_13_0
      have cA_14_1 : w14.cell? ⟨w1.heap.size, 1, none⟩ = some (Value.bool true) := (kA_14 1).trans cA_13_1
      have cA_14_2 : w14.cell? ⟨w1.heap.size, 2, none⟩ = some (Value.int IntKind.i64 ma) := (kA_14 2).trans cA_13_2
      have cA_14_3 : w14.cell? ⟨w1.heap.size, 3, none⟩ = some (Value.int IntKind.i64 mb) := (kA_14 3).trans cA_13_3
      have cA_14_4 : w14.cell? ⟨w1.heap.size, 4, none⟩ = some (Value.int IntKind.i64 mk) := (kA_14 4).trans cA_13_4
      have cA_14_5 : w14.cell? ⟨w1.heap.size, 5, none⟩ = some (Value.int IntKind.i64 mc) := (kA_14 5).trans cA_13_5
      have cA_14_6 : w14.cell? ⟨w1.heap.size, 6, none⟩ = some (Value.int IntKind.i64 md) := (kA_14 6).trans cA_13_6
      have cA_14_7 : w14.cell? ⟨w1.heap.size, 7, none⟩ = some (Value.int IntKind.i64 ml) := (kA_14 7).trans cA_13_7
      have lP_14 : w2.heap.size + 1 < w14.heap.size := (by first | omega | (simp; done) | (simp; omega))
      have kP_14 : ∀ i, w14.cell? ⟨w2.heap.size + 1, i, none⟩ = w13.cell? ⟨w2.heap.size + 1, i, none⟩ := fun i => (hb14.cell (p := ⟨w2.heap.size + 1, i, none⟩) (by show w2.heap.size + 1 < _; omega)).trans rfl
      have cP_14_0 : w14.cell? ⟨w2.heap.size + 1, 0, none⟩ = some (Value.int IntKind.i64 a) := (kP_14 0).trans cP_13_0
      have cP_14_1 : w14.cell? ⟨w2.heap.size + 1, 1, none⟩ = some (Value.int IntKind.i64 b) := (kP_14 1).trans cP_13_1
      have cP_14_2 : w14.cell? ⟨w2.heap.size + 1, 2, none⟩ = some (Value.int IntKind.i64 k) := (kP_14 2).trans cP_13_2
      have cP_14_3 : w14.cell? ⟨w2.heap.size + 1, 3, none⟩ = some (Value.int IntKind.i64 c) := (kP_14 3).trans cP_13_3
      have cP_14_4 : w14.cell? ⟨w2.heap.size + 1, 4, none⟩ = some (Value.int IntKind.i64 d) := (kP_14 4).trans cP_13_4
      have cP_14_5 : w14.cell? ⟨w2.heap.size + 1, 5, none⟩ = some (Value.int IntKind.i64 l) := (kP_14 5).trans cP_13_5
      have lO_14 : w3.heap.size + 1 < w14.heap.size := (by first | omega | (simp; done) | (simp; omega))
      have kO_14 : ∀ i, w14.cell? ⟨w3.heap.size + 1, i, none⟩ = w13.cell? ⟨w3.heap.size + 1, i, none⟩ := fun i => (hb14.cell (p := ⟨w3.heap.size + 1, i, none⟩) (by show w3.heap.size + 1 < _; omega)).trans rfl
      have cO_14_0 : w14.cell? ⟨w3.heap.size + 1, 0, none⟩ = some (Value.int IntKind.i64 a') := (kO_14 0).trans cO_13_0
      have cO_14_1 : w14.cell? ⟨w3.heap.size + 1, 1, none⟩ = some (Value.int IntKind.i64 b') := (kO_14 1).trans cO_13_1
      have cO_14_2 : w14.cell? ⟨w3.heap.size + 1, 2, none⟩ = some (Value.int IntKind.i64 k') := (kO_14 2).trans cO_13_2
      have cO_14_3 : w14.cell? ⟨w3.heap.size + 1, 3, none⟩ = some (Value.int IntKind.i64 c') := (kO_14 3).trans cO_13_3
      have cO_14_4 : w14.cell? ⟨w3.heap.size + 1, 4, none⟩ = some (Value.int IntKind.i64 d') := (kO_14 4).trans cO_13_4
      have cO_14_5 : w14.cell? ⟨w3.heap.size + 1, 5, none⟩ = some (Value.int IntKind.i64 l') := (kO_14 5).trans cO_13_5
      have lY_14 : w9.heap.size < w14.heap.size := (by first | omega | (simp; done) | (simp; omega))
      have kY_14 : ∀ i, w14.cell? ⟨w9.heap.size, i, none⟩ = w13.cell? ⟨w9.heap.size, i, none⟩ := fun i => (hb14.cell (p := ⟨w9.heap.size, i, none⟩) (by show w9.heap.size < _; omega)).trans rfl
      have cY_14_0 : w14.cell? ⟨w9.heap.size, 0, none⟩ = some (Value.int IntKind.i64 q1) := (kY_14 0).trans cY_13_0
      have cY_14_1 : w14.cell? ⟨w9.heap.size, 1, none⟩ = some (Value.int IntKind.i64 q2) := (kY_14 1).trans cY_13_1
      have cY_14_2 : w14.cell? ⟨w9.heap.size, 2, none⟩ = some (Value.int IntKind.i64 q3) := (kY_14 2).trans cY_13_2
      have cY_14_3 : w14.cell? ⟨w9.heap.size, 3, none⟩ = some (Value.int IntKind.i64 q4) := (kY_14 3).trans cY_13_3
      have cY_14_4 : w14.cell? ⟨w9.heap.size, 4, none⟩ = some (Value.int IntKind.i64 q5) := (kY_14 4).trans cY_13_4
      have cY_14_5 : w14.cell? ⟨w9.heap.size, 5, none⟩ = some (Value.int IntKind.i64 q6) := (kY_14 5).trans cY_13_5
      have lZ_14 : w10.heap.size < w14.heap.size := (by first | omega | (simp; done) | (simp; omega))
      have kZ_14 : ∀ i, w14.cell? ⟨w10.heap.size, i, none⟩ = w13.cell? ⟨w10.heap.size, i, none⟩ := fun i => (hb14.cell (p := ⟨w10.heap.size, i, none⟩) (by show w10.heap.size < _; omega)).trans rfl
      have cZ_14_0 : w14.cell? ⟨w10.heap.size, 0, none⟩ = some (Value.int IntKind.i64 r1) := (kZ_14 0).trans cZ_13_0
      have cZ_14_1 : w14.cell? ⟨w10.heap.size, 1, none⟩ = some (Value.int IntKind.i64 r2') := (kZ_14 1).trans cZ_13_1
      have cZ_14_2 : w14.cell? ⟨w10.heap.size, 2, none⟩ = some (Value.int IntKind.i64 r3) := (kZ_14 2).trans cZ_13_2
      have cZ_14_3 : w14.cell? ⟨w10.heap.size, 3, none⟩ = some (Value.int IntKind.i64 r4) := (kZ_14 3).trans cZ_13_3
      have cZ_14_4 : w14.cell? ⟨w10.heap.size, 4, none⟩ = some (Value.int IntKind.i64 r5) := (kZ_14 4).trans cZ_13_4
      have cZ_14_5 : w14.cell? ⟨w10.heap.size, 5, none⟩ = some (Value.int IntKind.i64 r6) := (kZ_14 5).trans cZ_13_5
      clear kA_14 cA_13_0 cA_13_1 cA_13_2 cA_13_3 cA_13_4 cA_13_5 cA_13_6 cA_13_7 cB_13_0 cB_13_1 cB_13_2 cB_13_3 kP_14 cP_13_0 cP_13_1 cP_13_2 cP_13_3 cP_13_4 cP_13_5 kO_14 cO_13_0 cO_13_1 cO_13_2 cO_13_3 cO_13_4 cO_13_5 cX_13_0 cX_13_1 cX_13_2 cX_13_3 kY_14 cY_13_0 cY_13_1 cY_13_2 cY_13_3 cY_13_4 cY_13_5 kZ_14 cZ_13_0 cZ_13_1 cZ_13_2 cZ_13_3 cZ_13_4 cZ_13_5 lA_13 lB_13 lP_13 lO_13 lX_13 lY_13 lZ_13 neA_13 neA_13b neA_13c neA_13d neB_13 neB_13b neB_13c neB_13d neP_13 neP_13b neP_13c neP_13d neO_13 neO_13b neO_13c neO_13d neX_13 neX_13b neX_13c neX_13d neY_13 neY_13b neY_13c neY_13d neZ_13 neZ_13b neZ_13c neZ_13d
      have neA_14 : w1.heap.size ≠ w14.heap.size := by omega
      have neA_14b : w1.heap.size ≠ w14.heap.size + 1 := by omega
      have neA_14c : w14.heap.size ≠ w1.heap.size := by omega
      have neA_14d : w14.heap.size + 1 ≠ w1.heap.size := by omega
      have neP_14 : w2.heap.size + 1 ≠ w14.heap.size := by omega
      have neP_14b : w2.heap.size + 1 ≠ w14.heap.size + 1 := by omega
      have neP_14c : w14.heap.size ≠ w2.heap.size + 1 := by omega
      have neP_14d : w14.heap.size + 1 ≠ w2.heap.size + 1 := by omega
      have neO_14 : w3.heap.size + 1 ≠ w14.heap.size := by omega
      have neO_14b : w3.heap.size + 1 ≠ w14.heap.size + 1 := by omega
      have neO_14c : w14.heap.size ≠ w3.heap.size + 1 := by omega
      have neO_14d : w14.heap.size + 1 ≠ w3.heap.size + 1 := by omega
      have neY_14 : w9.heap.size ≠ w14.heap.size := by omega
      have neY_14b : w9.heap.size ≠ w14.heap.size + 1 := by omega
      have neY_14c : w14.heap.size ≠ w9.heap.size := by omega
      have neY_14d : w14.heap.size + 1 ≠ w9.heap.size := by omega
      have neZ_14 : w10.heap.size ≠ w14.heap.size := by omega
      have neZ_14b : w10.heap.size ≠ w14.heap.size + 1 := by omega
      have neZ_14c : w14.heap.size ≠ w10.heap.size := by omega
      have neZ_14d : w14.heap.size + 1 ≠ w10.heap.size := by omega
      go_wp2_with fail
      refine (KE.out _ ?_).mono ?_
      · exact LT.below (w := w) hT hB14 (Nat.le_refl _)
      rintro e w20 ⟨rfl, hb20⟩
      have z20 := hb20.size
      (try simp only [World.size_alloc] at z20)
      have hB20 : Below w.heap.size w w20 := hB14.trans (hb20.mono (by omega))
      have y20 := hB20.size
      have lA_20 : w1.heap.size < w20.heap.size := (by first | omega | (simp; done) | (simp; omega))
      have kA_20 : ∀ i, w20.cell? ⟨w1.heap.size, i, none⟩ = w14.cell? ⟨w1.heap.size, i, none⟩ := fun i => (hb20.cell (p := ⟨w1.heap.size, i, none⟩) (by show w1.heap.size < _; omega)).trans rfl
      have cA_20_0 : w20.cell? ⟨w1.heap.size, 0, none⟩ = some (Value.int IntKind.i64 t) := (kA_20 0).trans cA_14_0
      have cA_20_1 : w20.cell? ⟨w1.heap.size, 1, none⟩ = some (Value.bool true) := (kA_20 1).trans cA_14_1
      have cA_20_2 : w20.cell? ⟨w1.heap.size, 2, none⟩ = some (Value.int IntKind.i64 ma) := (kA_20 2).trans cA_14_2
      have cA_20_3 : w20.cell? ⟨w1.heap.size, 3, none⟩ = some (Value.int IntKind.i64 mb) := (kA_20 3).trans cA_14_3
      have cA_20_4 : w20.cell? ⟨w1.heap.size, 4, none⟩ = some (Value.int IntKind.i64 mk) := (kA_20 4).trans cA_14_4
      have cA_20_5 : w20.cell? ⟨w1.heap.size, 5, none⟩ = some (Value.int IntKind.i64 mc) := (kA_20 5).trans cA_14_5
      have cA_20_6 : w20.cell? ⟨w1.heap.size, 6, none⟩ = some (Value.int IntKind.i64 md) := (kA_20 6).trans cA_14_6
      have cA_20_7 : w20.cell? ⟨w1.heap.size, 7, none⟩ = some (Value.int IntKind.i64 ml) := (kA_20 7).trans cA_14_7
      have lY_20 : w9.heap.size < w20.heap.size := (by first | omega | (simp; done) | (simp; omega))
      have kY_20 : ∀ i, w20.cell? ⟨w9.heap.size, i, none⟩ = w14.cell? ⟨w9.heap.size, i, none⟩ := fun i => (hb20.cell (p := ⟨w9.heap.size, i, none⟩) (by show w9.heap.size < _; omega)).trans rfl
      have cY_20_0 : w20.cell? ⟨w9.heap.size, 0, none⟩ = some (Value.int IntKind.i64 q1) := (kY_20 0).trans cY_14_0
      have cY_20_1 : w20.cell? ⟨w9.heap.size, 1, none⟩ = some (Value.int IntKind.i64 q2) := (kY_20 1).trans cY_14_1
      have cY_20_2 : w20.cell? ⟨w9.heap.size, 2, none⟩ = some (Value.int IntKind.i64 q3) := (kY_20 2).trans cY_14_2
      have cY_20_3 : w20.cell? ⟨w9.heap.size, 3, none⟩ = some (Value.int IntKind.i64 q4) := (kY_20 3).trans cY_14_3
      have cY_20_4 : w20.cell? ⟨w9.heap.size, 4, none⟩ = some (Value.int IntKind.i64 q5) := (kY_20 4).trans cY_14_4
      have cY_20_5 : w20.cell? ⟨w9.heap.size, 5, none⟩ = some (Value.int IntKind.i64 q6) := (kY_20 5).trans cY_14_5
      have lZ_20 : w10.heap.size < w20.heap.size := (by first | omega | (simp; done) | (simp; omega))
      have kZ_20 : ∀ i, w20.cell? ⟨w10.heap.size, i, none⟩ = w14.cell? ⟨w10.heap.size, i, none⟩ := fun i => (hb20.cell (p := ⟨w10.heap.size, i, none⟩) (by show w10.heap.size < _; omega)).trans rfl
      have cZ_20_0 : w20.cell? ⟨w10.heap.size, 0, none⟩ = some (Value.int IntKind.i64 r1) := (kZ_20 0).trans cZ_14_0
      have cZ_20_1 : w20.cell? ⟨w10.heap.size, 1, none⟩ = some (Value.int IntKind.i64 r2') := (kZ_20 1).trans cZ_14_1
      have cZ_20_2 : w20.cell? ⟨w10.heap.size, 2, none⟩ = some (Value.int IntKind.i64 r3) := (kZ_20 2).trans cZ_14_2
      have cZ_20_3 : w20.cell? ⟨w10.heap.size, 3, none⟩ = some (Value.int IntKind.i64 r4) := (kZ_20 3).trans cZ_14_3
      have cZ_20_4 : w20.cell? ⟨w10.heap.size, 4, none⟩ = some (Value.int IntKind.i64 r5) := (kZ_20 4).trans cZ_14_4
      have cZ_20_5 : w20.cell? ⟨w10.heap.size, 5, none⟩ = some (Value.int IntKind.i64 r6) := (kZ_20 5).trans cZ_14_5
      clear kA_20 cA_14_0 cA_14_1 cA_14_2 cA_14_3 cA_14_4 cA_14_5 cA_14_6 cA_14_7 cP_14_0 cP_14_1 cP_14_2 cP_14_3 cP_14_4 cP_14_5 cO_14_0 cO_14_1 cO_14_2 cO_14_3 cO_14_4 cO_14_5 kY_20 cY_14_0 cY_14_1 cY_14_2 cY_14_3 cY_14_4 cY_14_5 kZ_20 cZ_14_0 cZ_14_1 cZ_14_2 cZ_14_3 cZ_14_4 cZ_14_5 lA_14 lP_14 lO_14 lY_14 lZ_14 neA_14 neA_14b neA_14c neA_14d neP_14 neP_14b neP_14c neP_14d neO_14 neO_14b neO_14c neO_14d neY_14 neY_14b neY_14c neY_14d neZ_14 neZ_14b neZ_14c neZ_14d
      have neA_20 : w1.heap.size ≠ w20.heap.size := by omega
      have neA_20b : w1.heap.size ≠ w20.heap.size + 1 := by omega
      have neA_20c : w20.heap.size ≠ w1.heap.size := by omega
      have neA_20d : w20.heap.size + 1 ≠ w1.heap.size := by omega
      have neY_20 : w9.heap.size ≠ w20.heap.size := by omega
      have neY_20b : w9.heap.size ≠ w20.heap.size + 1 := by omega
      have neY_20c : w20.heap.size ≠ w9.heap.size := by omega
      have neY_20d : w20.heap.size + 1 ≠ w9.heap.size := by omega
      have neZ_20 : w10.heap.size ≠ w20.heap.size := by omega
      have neZ_20b : w10.heap.size ≠ w20.heap.size + 1 := by omega
      have neZ_20c : w20.heap.size ≠ w10.heap.size := by omega
      have neZ_20d : w20.heap.size + 1 ≠ w10.heap.size := by omega
      go_wp2_with fail
      by_cases h0 : dd < 0
      · have hd0 : decide (dd < 0) = true := by simp [h0]
        go_quiet (fail)
        go_wp2_with fail
        go_ret
        exact ⟨rfl, by (repeat (first | with_reducible exact Below.refl _ _ | with_reducible assumption | with_reducible refine below_drewN ?_ _ | with_reducible refine Below.drew ?_ | with_reducible refine Below.alloc ?_ (by first | omega | (simp; done) | (simp; omega)) _ | with_reducible refine Below.setCell ?_ (by first | omega | (simp; done) | (simp; omega)) _ | with_reducible refine Below.trans ?_ (Below.mono (by assumption) (by first | omega | (simp; done) | (simp; omega)))))⟩
      have hd0 : decide (dd < 0) = false := by simp; omega
      cases v3
      case false =>
        go_quiet (fail)
        go_wp2_with fail
        go_ret
        exact ⟨rfl, by (repeat (first | with_reducible exact Below.refl _ _ | with_reducible assumption | with_reducible refine below_drewN ?_ _ | with_reducible refine Below.drew ?_ | with_reducible refine Below.alloc ?_ (by first | omega | (simp; done) | (simp; omega)) _ | with_reducible refine Below.setCell ?_ (by first | omega | (simp; done) | (simp; omega)) _ | with_reducible refine Below.trans ?_ (Below.mono (by assumption) (by first | omega | (simp; done) | (simp; omega)))))⟩
      obtain ⟨ee, h1, h2⟩ := KY.out (by omega) (by trivial) (by trivial)
      have KF := Lib.hid h1
      have KG := Lib.hid h2
      clear h1 h2 h0
      go_region_held3 (fun w' => w'.cell? ⟨w9.heap.size, 0, none⟩ = some (Value.int IntKind.i64 q1) ∧ w'.cell? ⟨w9.heap.size, 1, none⟩ = some (Value.int IntKind.i64 q2) ∧ w'.cell? ⟨w9.heap.size, 2, none⟩ = some (Value.int IntKind.i64 q3) ∧ w'.cell? ⟨w9.heap.size, 3, none⟩ = some (Value.int IntKind.i64 q4) ∧ w'.cell? ⟨w9.heap.size, 4, none⟩ = some (Value.int IntKind.i64 q5) ∧ w'.cell? ⟨w9.heap.size, 5, none⟩ = some (Value.int IntKind.i64 q6) ∧ w'.cell? ⟨w10.heap.size, 0, none⟩ = some (Value.int IntKind.i64 r1) ∧ w'.cell? ⟨w10.heap.size, 1, none⟩ = some (Value.int IntKind.i64 r2') ∧ w'.cell? ⟨w10.heap.size, 2, none⟩ = some (Value.int IntKind.i64 r3) ∧ w'.cell? ⟨w10.heap.size, 3, none⟩ = some (Value.int IntKind.i64 r4) ∧ w'.cell? ⟨w10.heap.size, 4, none⟩ = some (Value.int IntKind.i64 r5) ∧ w'.cell? ⟨w10.heap.size, 5, none⟩ = some (Value.int IntKind.i64 r6) ∧ w'.cell? ⟨w1.heap.size, 0, none⟩ = some (Value.int IntKind.i64 t) ∧ w'.cell? ⟨w1.heap.size, 1, none⟩ = some (Value.bool true) ∧ w'.cell? ⟨w1.heap.size, 2, none⟩ = some (Value.int IntKind.i64 ma) ∧ w'.cell? ⟨w1.heap.size, 3, none⟩ = some (Value.int IntKind.i64 mb) ∧ w'.cell? ⟨w1.heap.size, 4, none⟩ = some (Value.int IntKind.i64 mk) ∧ w'.cell? ⟨w1.heap.size, 5, none⟩ = some (Value.int IntKind.i64 mc) ∧ w'.cell? ⟨w1.heap.size, 6, none⟩ = some (Value.int IntKind.i64 md) ∧ w'.cell? ⟨w1.heap.size, 7, none⟩ = some (Value.int IntKind.i64 ml)) ((first | (go_simp; done) | (simp [*]; done)))
        ((first
        | (go_at_call 21; refine (KF.out _ ?_).mono ?_; exact LT.below (w := w) hT (by (repeat (first | with_reducible exact Below.refl _ _ | with_reducible assumption | with_reducible refine below_drewN ?_ _ | with_reducible refine Below.drew ?_ | with_reducible refine Below.alloc ?_ (by first | omega | (simp; done) | (simp; omega)) _ | with_reducible refine Below.setCell ?_ (by first | omega | (simp; done) | (simp; omega)) _ | with_reducible refine Below.trans ?_ (Below.mono (by assumption) (by first | omega | (simp; done) | (simp; omega)))))) (Nat.le_refl _); rintro e w21 ⟨rfl, hb21⟩; (try replace hb21 := Below.undrew hb21); obtain ⟨hc21, hf21⟩ := bcell hb21; have hz21 := hb21.size; (try simp at hz21); (have lY_21 : w9.heap.size < w21.heap.size := (by omega)); (have lZ_21 : w10.heap.size < w21.heap.size := (by omega)); (have lA_21 : w1.heap.size < w21.heap.size := (by omega)))
        | (go_at_call 20; refine (KG.out _ ?_).mono ?_; exact LT.below (w := w) hT (by (repeat (first | with_reducible exact Below.refl _ _ | with_reducible assumption | with_reducible refine below_drewN ?_ _ | with_reducible refine Below.drew ?_ | with_reducible refine Below.alloc ?_ (by first | omega | (simp; done) | (simp; omega)) _ | with_reducible refine Below.setCell ?_ (by first | omega | (simp; done) | (simp; omega)) _ | with_reducible refine Below.trans ?_ (Below.mono (by assumption) (by first | omega | (simp; done) | (simp; omega)))))) (Nat.le_refl _); rintro e w22 ⟨rfl, hb22⟩; (try replace hb22 := Below.undrew hb22); obtain ⟨hc22, hf22⟩ := bcell hb22; have hz22 := hb22.size; (try simp at hz22); (have lY_22 : w9.heap.size < w22.heap.size := (by omega)); (have lZ_22 : w10.heap.size < w22.heap.size := (by omega)); (have lA_22 : w1.heap.size < w22.heap.size := (by omega)))))
      go_wp2_with fail
      go_ret
      exact ⟨rfl, by (repeat (first | with_reducible exact Below.refl _ _ | with_reducible assumption | with_reducible refine below_drewN ?_ _ | with_reducible refine Below.drew ?_ | with_reducible refine Below.alloc ?_ (by first | omega | (simp; done) | (simp; omega)) _ | with_reducible refine Below.setCell ?_ (by first | omega | (simp; done) | (simp; omega)) _ | with_reducible refine Below.trans ?_ (Below.mono (by assumption) (by first | omega | (simp; done) | (simp; omega)))))⟩
    · have hd8 : decide (8 ≤ vd) = false := by simp; omega
      have KZ := Lib.hid (KX.out (by trivial) (by trivial) n1 (by have := HN.out; simp [h8]; try omega))
      have hvz : (n1 != n1) = false := by simp
      go_wp2_with fail
      refine (KZ.out _ ?_).mono ?_
      · exact LT.below (w := w) hT hB13 (Nat.le_refl _)
      rintro e w14 ⟨rfl, hb14⟩
      have z14 := hb14.size
      (try simp only [World.size_alloc] at z14)
      have hB14 : Below w.heap.size w w14 := hB13.trans (hb14.mono (by omega))
      have y14 := hB14.size
      have lA_14 : w1.heap.size < w14.heap.size := (by first | omega | (simp; done) | (simp; omega))
      have kA_14 : ∀ i, w14.cell? ⟨w1.heap.size, i, none⟩ = w13.cell? ⟨w1.heap.size, i, none⟩ := fun i => (hb14.cell (p := ⟨w1.heap.size, i, none⟩) (by show w1.heap.size < _; omega)).trans rfl
      have cA_14_0 : w14.cell? ⟨w1.heap.size, 0, none⟩ = some (Value.int IntKind.i64 t) := (kA_14 0).trans cA_13_0
      have cA_14_1 : w14.cell? ⟨w1.heap.size, 1, none⟩ = some (Value.bool true) := (kA_14 1).trans cA_13_1
      have cA_14_2 : w14.cell? ⟨w1.heap.size, 2, none⟩ = some (Value.int IntKind.i64 ma) := (kA_14 2).trans cA_13_2
      have cA_14_3 : w14.cell? ⟨w1.heap.size, 3, none⟩ = some (Value.int IntKind.i64 mb) := (kA_14 3).trans cA_13_3
      have cA_14_4 : w14.cell? ⟨w1.heap.size, 4, none⟩ = some (Value.int IntKind.i64 mk) := (kA_14 4).trans cA_13_4
      have cA_14_5 : w14.cell? ⟨w1.heap.size, 5, none⟩ = some (Value.int IntKind.i64 mc) := (kA_14 5).trans cA_13_5
      have cA_14_6 : w14.cell? ⟨w1.heap.size, 6, none⟩ = some (Value.int IntKind.i64 md) := (kA_14 6).trans cA_13_6
      have cA_14_7 : w14.cell? ⟨w1.heap.size, 7, none⟩ = some (Value.int IntKind.i64 ml) := (kA_14 7).trans cA_13_7
      have lP_14 : w2.heap.size + 1 < w14.heap.size := (by first | omega | (simp; done) | (simp; omega))
      have kP_14 : ∀ i, w14.cell? ⟨w2.heap.size + 1, i, none⟩ = w13.cell? ⟨w2.heap.size + 1, i, none⟩ := fun i => (hb14.cell (p := ⟨w2.heap.size + 1, i, none⟩) (by show w2.heap.size + 1 < _; omega)).trans rfl
      have cP_14_0 : w14.cell? ⟨w2.heap.size + 1, 0, none⟩ = some (Value.int IntKind.i64 a) := (kP_14 0).trans cP_13_0
      have cP_14_1 : w14.cell? ⟨w2.heap.size + 1, 1, none⟩ = some (Value.int IntKind.i64 b) := (kP_14 1).trans cP_13_1
      have cP_14_2 : w14.cell? ⟨w2.heap.size + 1, 2, none⟩ = some (Value.int IntKind.i64 k) := (kP_14 2).trans cP_13_2
      have cP_14_3 : w14.cell? ⟨w2.heap.size + 1, 3, none⟩ = some (Value.int IntKind.i64 c) := (kP_14 3).trans cP_13_3
      have cP_14_4 : w14.cell? ⟨w2.heap.size + 1, 4, none⟩ = some (Value.int IntKind.i64 d) := (kP_14 4).trans cP_13_4
      have cP_14_5 : w14.cell? ⟨w2.heap.size + 1, 5, none⟩ = some (Value.int IntKind.i64 l) := (kP_14 5).trans cP_13_5
      have lO_14 : w3.heap.size + 1 < w14.heap.size := (by first | omega | (simp; done) | (simp; omega))
      have kO_14 : ∀ i, w14.cell? ⟨w3.heap.size + 1, i, none⟩ = w13.cell? ⟨w3.heap.size + 1, i, none⟩ := fun i => (hb14.cell (p := ⟨w3.heap.size + 1, i, none⟩) (by show w3.heap.size + 1 < _; omega)).trans rfl
      have cO_14_0 : w14.cell? ⟨w3.heap.size + 1, 0, none⟩ = some (Value.int IntKind.i64 a') := (kO_14 0).trans cO_13_0
      have cO_14_1 : w14.cell? ⟨w3.heap.size + 1, 1, none⟩ = some (Value.int IntKind.i64 b') := (kO_14 1).trans cO_13_1
      have cO_14_2 : w14.cell? ⟨w3.heap.size + 1, 2, none⟩ = some (Value.int IntKind.i64 k') := (kO_14 2).trans cO_13_2
      have cO_14_3 : w14.cell? ⟨w3.heap.size + 1, 3, none⟩ = some (Value.int IntKind.i64 c') := (kO_14 3).trans cO_13_3
      have cO_14_4 : w14.cell? ⟨w3.heap.size + 1, 4, none⟩ = some (Value.int IntKind.i64 d') := (kO_14 4).trans cO_13_4
      have cO_14_5 : w14.cell? ⟨w3.heap.size + 1, 5, none⟩ = some (Value.int IntKind.i64 l') := (kO_14 5).trans cO_13_5
      have lY_14 : w9.heap.size < w14.heap.size := (by first | omega | (simp; done) | (simp; omega))
      have kY_14 : ∀ i, w14.cell? ⟨w9.heap.size, i, none⟩ = w13.cell? ⟨w9.heap.size, i, none⟩ := fun i => (hb14.cell (p := ⟨w9.heap.size, i, none⟩) (by show w9.heap.size < _; omega)).trans rfl
      have cY_14_0 : w14.cell? ⟨w9.heap.size, 0, none⟩ = some (Value.int IntKind.i64 q1) := (kY_14 0).trans cY_13_0
      have cY_14_1 : w14.cell? ⟨w9.heap.size, 1, none⟩ = some (Value.int IntKind.i64 q2) := (kY_14 1).trans cY_13_1
      have cY_14_2 : w14.cell? ⟨w9.heap.size, 2, none⟩ = some (Value.int IntKind.i64 q3) := (kY_14 2).trans cY_13_2
      have cY_14_3 : w14.cell? ⟨w9.heap.size, 3, none⟩ = some (Value.int IntKind.i64 q4) := (kY_14 3).trans cY_13_3
      have cY_14_4 : w14.cell? ⟨w9.heap.size, 4, none⟩ = some (Value.int IntKind.i64 q5) := (kY_14 4).trans cY_13_4
      have cY_14_5 : w14.cell? ⟨w9.heap.size, 5, none⟩ = some (Value.int IntKind.i64 q6) := (kY_14 5).trans cY_13_5
      have lZ_14 : w10.heap.size < w14.heap.size := (by first | omega | (simp; done) | (simp; omega))
      have kZ_14 : ∀ i, w14.cell? ⟨w10.heap.size, i, none⟩ = w13.cell? ⟨w10.heap.size, i, none⟩ := fun i => (hb14.cell (p := ⟨w10.heap.size, i, none⟩) (by show w10.heap.size < _; omega)).trans rfl
      have cZ_14_0 : w14.cell? ⟨w10.heap.size, 0, none⟩ = some (Value.int IntKind.i64 r1) := (kZ_14 0).trans cZ_13_0
      have cZ_14_1 : w14.cell? ⟨w10.heap.size, 1, none⟩ = some (Value.int IntKind.i64 r2') := (kZ_14 1).trans cZ_13_1
      have cZ_14_2 : w14.cell? ⟨w10.heap.size, 2, none⟩ = some (Value.int IntKind.i64 r3) := (kZ_14 2).trans cZ_13_2
      have cZ_14_3 : w14.cell? ⟨w10.heap.size, 3, none⟩ = some (Value.int IntKind.i64 r4) := (kZ_14 3).trans cZ_13_3
      have cZ_14_4 : w14.cell? ⟨w10.heap.size, 4, none⟩ = some (Value.int IntKind.i64 r5) := (kZ_14 4).trans cZ_13_4
      have cZ_14_5 : w14.cell? ⟨w10.heap.size, 5, none⟩ = some (Value.int IntKind.i64 r6) := (kZ_14 5).trans cZ_13_5
      clear kA_14 cA_13_0 cA_13_1 cA_13_2 cA_13_3 cA_13_4 cA_13_5 cA_13_6 cA_13_7 cB_13_0 cB_13_1 cB_13_2 cB_13_3 kP_14 cP_13_0 cP_13_1 cP_13_2 cP_13_3 cP_13_4 cP_13_5 kO_14 cO_13_0 cO_13_1 cO_13_2 cO_13_3 cO_13_4 cO_13_5 cX_13_0 cX_13_1 cX_13_2 cX_13_3 kY_14 cY_13_0 cY_13_1 cY_13_2 cY_13_3 cY_13_4 cY_13_5 kZ_14 cZ_13_0 cZ_13_1 cZ_13_2 cZ_13_3 cZ_13_4 cZ_13_5 lA_13 lB_13 lP_13 lO_13 lX_13 lY_13 lZ_13 neA_13 neA_13b neA_13c neA_13d neB_13 neB_13b neB_13c neB_13d neP_13 neP_13b neP_13c neP_13d neO_13 neO_13b neO_13c neO_13d neX_13 neX_13b neX_13c neX_13d neY_13 neY_13b neY_13c neY_13d neZ_13 neZ_13b neZ_13c neZ_13d
      have neA_14 : w1.heap.size ≠ w14.heap.size := by omega
      have neA_14b : w1.heap.size ≠ w14.heap.size + 1 := by omega
      have neA_14c : w14.heap.size ≠ w1.heap.size := by omega
      have neA_14d : w14.heap.size + 1 ≠ w1.heap.size := by omega
      have neP_14 : w2.heap.size + 1 ≠ w14.heap.size := by omega
      have neP_14b : w2.heap.size + 1 ≠ w14.heap.size + 1 := by omega
      have neP_14c : w14.heap.size ≠ w2.heap.size + 1 := by omega
      have neP_14d : w14.heap.size + 1 ≠ w2.heap.size + 1 := by omega
      have neO_14 : w3.heap.size + 1 ≠ w14.heap.size := by omega
      have neO_14b : w3.heap.size + 1 ≠ w14.heap.size + 1 := by omega
      have neO_14c : w14.heap.size ≠ w3.heap.size + 1 := by omega
      have neO_14d : w14.heap.size + 1 ≠ w3.heap.size + 1 := by omega
      have neY_14 : w9.heap.size ≠ w14.heap.size := by omega
      have neY_14b : w9.heap.size ≠ w14.heap.size + 1 := by omega
      have neY_14c : w14.heap.size ≠ w9.heap.size := by omega
      have neY_14d : w14.heap.size + 1 ≠ w9.heap.size := by omega
      have neZ_14 : w10.heap.size ≠ w14.heap.size := by omega
      have neZ_14b : w10.heap.size ≠ w14.heap.size + 1 := by omega
      have neZ_14c : w14.heap.size ≠ w10.heap.size := by omega
      have neZ_14d : w14.heap.size + 1 ≠ w10.heap.size := by omega
      go_wp2_with fail
      refine (KE.out _ ?_).mono ?_
      · exact LT.below (w := w) hT hB14 (Nat.le_refl _)
      rintro e w20 ⟨rfl, hb20⟩
      have z20 := hb20.size
      (try simp only [World.size_alloc] at z20)
      have hB20 : Below w.heap.size w w20 := hB14.trans (hb20.mono (by omega))
      have y20 := hB20.size
      have lA_20 : w1.heap.size < w20.heap.size := (by first | omega | (simp; done) | (simp; omega))
      have kA_20 : ∀ i, w20.cell? ⟨w1.heap.size, i, none⟩ = w14.cell? ⟨w1.heap.size, i, none⟩ := fun i => (hb20.cell (p := ⟨w1.heap.size, i, none⟩) (by show w1.heap.size < _; omega)).trans rfl
      have cA_20_0 : w20.cell? ⟨w1.heap.size, 0, none⟩ = some (Value.int IntKind.i64 t) := (kA_20 0).trans cA_14_0
      have cA_20_1 : w20.cell? ⟨w1.heap.size, 1, none⟩ = some (Value.bool true) := (kA_20 1).trans cA_14_1
      have cA_20_2 : w20.cell? ⟨w1.heap.size, 2, none⟩ = some (Value.int IntKind.i64 ma) := (kA_20 2).trans cA_14_2
      have cA_20_3 : w20.cell? ⟨w1.heap.size, 3, none⟩ = some (Value.int IntKind.i64 mb) := (kA_20 3).trans cA_14_3
      have cA_20_4 : w20.cell? ⟨w1.heap.size, 4, none⟩ = some (Value.int IntKind.i64 mk) := (kA_20 4).trans cA_14_4
      have cA_20_5 : w20.cell? ⟨w1.heap.size, 5, none⟩ = some (Value.int IntKind.i64 mc) := (kA_20 5).trans cA_14_5
      have cA_20_6 : w20.cell? ⟨w1.heap.size, 6, none⟩ = some (Value.int IntKind.i64 md) := (kA_20 6).trans cA_14_6
      have cA_20_7 : w20.cell? ⟨w1.heap.size, 7, none⟩ = some (Value.int IntKind.i64 ml) := (kA_20 7).trans cA_14_7
      have lY_20 : w9.heap.size < w20.heap.size := (by first | omega | (simp; done) | (simp; omega))
      have kY_20 : ∀ i, w20.cell? ⟨w9.heap.size, i, none⟩ = w14.cell? ⟨w9.heap.size, i, none⟩ := fun i => (hb20.cell (p := ⟨w9.heap.size, i, none⟩) (by show w9.heap.size < _; omega)).trans rfl
      have cY_20_0 : w20.cell? ⟨w9.heap.size, 0, none⟩ = some (Value.int IntKind.i64 q1) := (kY_20 0).trans cY_14_0
      have cY_20_1 : w20.cell? ⟨w9.heap.size, 1, none⟩ = some (Value.int IntKind.i64 q2) := (kY_20 1).trans cY_14_1
      have cY_20_2 : w20.cell? ⟨w9.heap.size, 2, none⟩ = some (Value.int IntKind.i64 q3) := (kY_20 2).trans cY_14_2
      have cY_20_3 : w20.cell? ⟨w9.heap.size, 3, none⟩ = some (Value.int IntKind.i64 q4) := (kY_20 3).trans cY_14_3
      have cY_20_4 : w20.cell? ⟨w9.heap.size, 4, none⟩ = some (Value.int IntKind.i64 q5) := (kY_20 4).trans cY_14_4
      have cY_20_5 : w20.cell? ⟨w9.heap.size, 5, none⟩ = some (Value.int IntKind.i64 q6) := (kY_20 5).trans cY_14_5
      have lZ_20 : w10.heap.size < w20.heap.size := (by first | omega | (simp; done) | (simp; omega))
      have kZ_20 : ∀ i, w20.cell? ⟨w10.heap.size, i, none⟩ = w14.cell? ⟨w10.heap.size, i, none⟩ := fun i => (hb20.cell (p := ⟨w10.heap.size, i, none⟩) (by show w10.heap.size < _; omega)).trans rfl
      have cZ_20_0 : w20.cell? ⟨w10.heap.size, 0, none⟩ = some (Value.int IntKind.i64 r1) := (kZ_20 0).trans cZ_14_0
      have cZ_20_1 : w20.cell? ⟨w10.heap.size, 1, none⟩ = some (Value.int IntKind.i64 r2') := (kZ_20 1).trans cZ_14_1
      have cZ_20_2 : w20.cell? ⟨w10.heap.size, 2, none⟩ = some (Value.int IntKind.i64 r3) := (kZ_20 2).trans cZ_14_2
      have cZ_20_3 : w20.cell? ⟨w10.heap.size, 3, none⟩ = some (Value.int IntKind.i64 r4) := (kZ_20 3).trans cZ_14_3
      have cZ_20_4 : w20.cell? ⟨w10.heap.size, 4, none⟩ = some (Value.int IntKind.i64 r5) := (kZ_20 4).trans cZ_14_4
      have cZ_20_5 : w20.cell? ⟨w10.heap.size, 5, none⟩ = some (Value.int IntKind.i64 r6) := (kZ_20 5).trans cZ_14_5
      clear kA_20 cA_14_0 cA_14_1 cA_14_2 cA_14_3 cA_14_4 cA_14_5 cA_14_6 cA_14_7 cP_14_0 cP_14_1 cP_14_2 cP_14_3 cP_14_4 cP_14_5 cO_14_0 cO_14_1 cO_14_2 cO_14_3 cO_14_4 cO_14_5 kY_20 cY_14_0 cY_14_1 cY_14_2 cY_14_3 cY_14_4 cY_14_5 kZ_20 cZ_14_0 cZ_14_1 cZ_14_2 cZ_14_3 cZ_14_4 cZ_14_5 lA_14 lP_14 lO_14 lY_14 lZ_14 neA_14 neA_14b neA_14c neA_14d neP_14 neP_14b neP_14c neP_14d neO_14 neO_14b neO_14c neO_14d neY_14 neY_14b neY_14c neY_14d neZ_14 neZ_14b neZ_14c neZ_14d
      have neA_20 : w1.heap.size ≠ w20.heap.size := by omega
      have neA_20b : w1.heap.size ≠ w20.heap.size + 1 := by omega
      have neA_20c : w20.heap.size ≠ w1.heap.size := by omega
      have neA_20d : w20.heap.size + 1 ≠ w1.heap.size := by omega
      have neY_20 : w9.heap.size ≠ w20.heap.size := by omega
      have neY_20b : w9.heap.size ≠ w20.heap.size + 1 := by omega
      have neY_20c : w20.heap.size ≠ w9.heap.size := by omega
      have neY_20d : w20.heap.size + 1 ≠ w9.heap.size := by omega
      have neZ_20 : w10.heap.size ≠ w20.heap.size := by omega
      have neZ_20b : w10.heap.size ≠ w20.heap.size + 1 := by omega
      have neZ_20c : w20.heap.size ≠ w10.heap.size := by omega
      have neZ_20d : w20.heap.size + 1 ≠ w10.heap.size := by omega
      go_wp2_with fail
      by_cases h0 : dd < 0
      · have hd0 : decide (dd < 0) = true := by simp [h0]
        go_quiet (fail)
        go_wp2_with fail
        go_ret
        exact ⟨rfl, by (repeat (first | with_reducible exact Below.refl _ _ | with_reducible assumption | with_reducible refine below_drewN ?_ _ | with_reducible refine Below.drew ?_ | with_reducible refine Below.alloc ?_ (by first | omega | (simp; done) | (simp; omega)) _ | with_reducible refine Below.setCell ?_ (by first | omega | (simp; done) | (simp; omega)) _ | with_reducible refine Below.trans ?_ (Below.mono (by assumption) (by first | omega | (simp; done) | (simp; omega)))))⟩
      have hd0 : decide (dd < 0) = false := by simp; omega
      cases v3
      case false =>
        go_quiet (fail)
        go_wp2_with fail
        go_ret
        exact ⟨rfl, by (repeat (first | with_reducible exact Below.refl _ _ | with_reducible assumption | with_reducible refine below_drewN ?_ _ | with_reducible refine Below.drew ?_ | with_reducible refine Below.alloc ?_ (by first | omega | (simp; done) | (simp; omega)) _ | with_reducible refine Below.setCell ?_ (by first | omega | (simp; done) | (simp; omega)) _ | with_reducible refine Below.trans ?_ (Below.mono (by assumption) (by first | omega | (simp; done) | (simp; omega)))))⟩
      obtain ⟨ee, h1, h2⟩ := KY.out (by omega) (by trivial) (by trivial)
      have KF := Lib.hid h1
      have KG := Lib.hid h2
      clear h1 h2 h0
      go_region_held3 (fun w' => w'.cell? ⟨w9.heap.size, 0, none⟩ = some (Value.int IntKind.i64 q1) ∧ w'.cell? ⟨w9.heap.size, 1, none⟩ = some (Value.int IntKind.i64 q2) ∧ w'.cell? ⟨w9.heap.size, 2, none⟩ = some (Value.int IntKind.i64 q3) ∧ w'.cell? ⟨w9.heap.size, 3, none⟩ = some (Value.int IntKind.i64 q4) ∧ w'.cell? ⟨w9.heap.size, 4, none⟩ = some (Value.int IntKind.i64 q5) ∧ w'.cell? ⟨w9.heap.size, 5, none⟩ = some (Value.int IntKind.i64 q6) ∧ w'.cell? ⟨w10.heap.size, 0, none⟩ = some (Value.int IntKind.i64 r1) ∧ w'.cell? ⟨w10.heap.size, 1, none⟩ = some (Value.int IntKind.i64 r2') ∧ w'.cell? ⟨w10.heap.size, 2, none⟩ = some (Value.int IntKind.i64 r3) ∧ w'.cell? ⟨w10.heap.size, 3, none⟩ = some (Value.int IntKind.i64 r4) ∧ w'.cell? ⟨w10.heap.size, 4, none⟩ = some (Value.int IntKind.i64 r5) ∧ w'.cell? ⟨w10.heap.size, 5, none⟩ = some (Value.int IntKind.i64 r6) ∧ w'.cell? ⟨w1.heap.size, 0, none⟩ = some (Value.int IntKind.i64 t) ∧ w'.cell? ⟨w1.heap.size, 1, none⟩ = some (Value.bool true) ∧ w'.cell? ⟨w1.heap.size, 2, none⟩ = some (Value.int IntKind.i64 ma) ∧ w'.cell? ⟨w1.heap.size, 3, none⟩ = some (Value.int IntKind.i64 mb) ∧ w'.cell? ⟨w1.heap.size, 4, none⟩ = some (Value.int IntKind.i64 mk) ∧ w'.cell? ⟨w1.heap.size, 5, none⟩ = some (Value.int IntKind.i64 mc) ∧ w'.cell? ⟨w1.heap.size, 6, none⟩ = some (Value.int IntKind.i64 md) ∧ w'.cell? ⟨w1.heap.size, 7, none⟩ = some (Value.int IntKind.i64 ml)) ((first | (go_simp; done) | (simp [*]; done)))
        ((first
        | (go_at_call 21; refine (KF.out _ ?_).mono ?_; exact LT.below (w := w) hT (by (repeat (first | with_reducible exact Below.refl _ _ | with_reducible assumption | with_reducible refine below_drewN ?_ _ | with_reducible refine Below.drew ?_ | with_reducible refine Below.alloc ?_ (by first | omega | (simp; done) | (simp; omega)) _ | with_reducible refine Below.setCell ?_ (by first | omega | (simp; done) | (simp; omega)) _ | with_reducible refine Below.trans ?_ (Below.mono (by assumption) (by first | omega | (simp; done) | (simp; omega)))))) (Nat.le_refl _); rintro e w21 ⟨rfl, hb21⟩; (try replace hb21 := Below.undrew hb21); obtain ⟨hc21, hf21⟩ := bcell hb21; have hz21 := hb21.size; (try simp at hz21); (have lY_21 : w9.heap.size < w21.heap.size := (by omega)); (have lZ_21 : w10.heap.size < w21.heap.size := (by omega)); (have lA_21 : w1.heap.size < w21.heap.size := (by omega)))
        | (go_at_call 20; refine (KG.out _ ?_).mono ?_; exact LT.below (w := w) hT (by (repeat (first | with_reducible exact Below.refl _ _ | with_reducible assumption | with_reducible refine below_drewN ?_ _ | with_reducible refine Below.drew ?_ | with_reducible refine Below.alloc ?_ (by first | omega | (simp; done) | (simp; omega)) _ | with_reducible refine Below.setCell ?_ (by first | omega | (simp; done) | (simp; omega)) _ | with_reducible refine Below.trans ?_ (Below.mono (by assumption) (by first | omega | (simp; done) | (simp; omega)))))) (Nat.le_refl _); rintro e w22 ⟨rfl, hb22⟩; (try replace hb22 := Below.undrew hb22); obtain ⟨hc22, hf22⟩ := bcell hb22; have hz22 := hb22.size; (try simp at hz22); (have lY_22 : w9.heap.size < w22.heap.size := (by omega)); (have lZ_22 : w10.heap.size < w22.heap.size := (by omega)); (have lA_22 : w1.heap.size < w22.heap.size := (by omega)))))
      go_wp2_with fail
      go_ret
      exact ⟨rfl, by (repeat (first | with_reducible exact Below.refl _ _ | with_reducible assumption | with_reducible refine below_drewN ?_ _ | with_reducible refine Below.drew ?_ | with_reducible refine Below.alloc ?_ (by first | omega | (simp; done) | (simp; omega)) _ | with_reducible refine Below.setCell ?_ (by first | omega | (simp; done) | (simp; omega)) _ | with_reducible refine Below.trans ?_ (Below.mono (by assumption) (by first | omega | (simp; done) | (simp; omega)))))⟩
end MotL
end Go.Proofs.YtafbdnjabgfjeaaDoor
