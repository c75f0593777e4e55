/- FnReflections: the walk. Whatever is drawn, the reflection in a line moves points as points are reflected, and twice changes nothing. -/
import Derived.Test.YtafbdnjabgfjeaaGreatDoorDrw
import Derived.Test.YtafbdnjabgfjeaaGreatDoorDr
import Derived.Deep.RegionHeld3
import Derived.Deep.DeepCutAuto
import Derived.Deep.DrawnRows
namespace Go.Proofs.YtafbdnjabgfjeaaGreatDoor
open Go Go.RowKit OriM
namespace Refl

theorem long_any (sa : Option Addr) (sn sc : Nat) (w : World) : Calls Tryz.prog 5 #[.slice sa sn sc] w fun e w' => ∃ b : Bool, e = .returned (.bool b) ∧ w = w' := by
  go_enter Tryz.func5, Tryz.ntmps5
  go_wp2_with fail
  go_ret
  exact ⟨_, rfl, rfl⟩
theorem iId_any (w : World) : Calls Tryz.prog 14 #[] w (RetB (mot 0 false 0 0 0 0 0 0) w) := by
  go_enter Tryz.func14, Tryz.ntmps14
  go_wp2_with fail
  exact bodyPost_ret (v := mot 0 false 0 0 0 0 0 0) (by simp [results, Tryz.results14, go_sem, *]) rfl ⟨rfl, by (repeat (first | with_reducible exact Below.refl _ _ | with_reducible assumption | with_reducible refine below_drewN ?_ _ | with_reducible refine Below.drew ?_ | with_reducible refine Below.alloc ?_ (by first | omega | (simp; done) | (simp; omega)) _ | with_reducible refine Below.setCell ?_ (by first | omega | (simp; done) | (simp; omega)) _ | with_reducible refine Below.trans ?_ (Below.mono (by assumption) (by first | omega | (simp; done) | (simp; omega)))))⟩
theorem CodeIn.later {w w' : World} {v : Value} (h : CodeIn w v) (hb : Below w.heap.size w w') : CodeIn w' v := by
  rcases h with h | ⟨b, o, n, c, rfl, hs, hn, h⟩
  · exact .inl h
  · refine .inr ⟨b, o, n, c, rfl, Nat.lt_of_lt_of_le hs hb.size, hn, fun i hi => ?_⟩
    obtain ⟨x, hx, h0, h1⟩ := h i hi
    exact ⟨x, by rw [hb.cell (p := ⟨b, o + i, none⟩) hs]; exact hx, h0, h1⟩
theorem sm_i3 {a b k : Int} (h : Sm a b k) : I3 a b k := by
  unfold Sm at h
  constructor <;> omega


set_option maxHeartbeats 4000000 in
set_option maxRecDepth 100000 in
theorem dReflection_any (v : Value) (w : World) (hC : CodeIn w v) : Calls Tryz.prog 6 #[v] w fun e w' => ∃ x, e = .returned x ∧ IsL x ∧ Below w.heap.size w w' := by
  obtain ⟨sa, sn, sc, rfl⟩ := hC.slice
  have HC := Lib.hid hC
  clear hC
  go_enter Tryz.func6, Tryz.ntmps6
  go_wp2_with fail
  refine (from_any sa sn sc _).mono ?_
  rintro e w0 ⟨rfl, hw0⟩
  have HB0 := Lib.hid (show Below w.heap.size w w0 by rw [← hw0]; (repeat (first | with_reducible exact Below.refl _ _ | with_reducible refine Below.drew ?_ | with_reducible refine Below.alloc ?_ (by first | omega | (simp; done) | (simp; omega)) _ | with_reducible refine Below.setCell ?_ (by first | omega | (simp; done) | (simp; omega)) _ | with_reducible refine Below.trans ?_ (Below.mono (by assumption) (by first | omega | (simp; done) | (simp; omega))))))
  have hs0 : w0.heap.size = w.heap.size + 1 + 1 := by rw [← hw0]; simp
  have HS0 := Lib.hid (show SrcAt w0 (w.heap.size + 1) (.slice sa sn sc) 0 by rw [← hw0]; exact ⟨by simp [go_sem], ⟨0, 0, by simp [go_sem], by simp [go_sem], by omega, by omega, by omega, by omega⟩, by simp [go_sem], by simp [go_sem]⟩)
  have HC0 := Lib.hid (HC.out.at (B := w.heap.size + 1) (by omega) HB0.out)
  have HW0 := Lib.hid hw0
  have HS := Lib.hid hs0
  clear hw0 hs0
  go_wp2_with fail
  refine (bentL_any (w.heap.size + 1) _ 0 _ HS0.out HC0.out (by omega)).mono ?_
  rintro e w1 ⟨_, rfl, ⟨t, a, b, k, rfl, v0, v1⟩, hS1, hT1⟩
  have HT1 := Lib.hid hT1
  have HV := Lib.hid (And.intro v0 v1)
  have hB1 := HB0.out.trans (hT1.below (M := w.heap.size) (by omega) (by rw [HS.out]; omega))
  have eR : w1.heap[w.heap.size]? = (w.alloc (Obj.cells #[Value.int IntKind.i64 0, Value.int IntKind.i64 0, Value.int IntKind.i64 0, Value.int IntKind.i64 0] 27)).heap[w.heap.size]? := (hT1.block _ (by rw [HS.out]; omega) (by omega)).trans (by rw [← HW0.out]; exact Below.heap_alloc _ _ _ (by simp))
  have cR0 : w1.cell? ⟨w.heap.size, 0, none⟩ = some (Value.int IntKind.i64 0) := (World.cell?_of_block (a := ⟨w.heap.size, 0, none⟩) eR).trans (by simp [go_sem])
  have fR0 : w1.frozen? ⟨w.heap.size, 0, none⟩ = false := (World.frozen?_of_block (a := ⟨w.heap.size, 0, none⟩) eR).trans (by simp [go_sem])
  have cR1 : w1.cell? ⟨w.heap.size, 1, none⟩ = some (Value.int IntKind.i64 0) := (World.cell?_of_block (a := ⟨w.heap.size, 1, none⟩) eR).trans (by simp [go_sem])
  have fR1 : w1.frozen? ⟨w.heap.size, 1, none⟩ = false := (World.frozen?_of_block (a := ⟨w.heap.size, 1, none⟩) eR).trans (by simp [go_sem])
  have cR2 : w1.cell? ⟨w.heap.size, 2, none⟩ = some (Value.int IntKind.i64 0) := (World.cell?_of_block (a := ⟨w.heap.size, 2, none⟩) eR).trans (by simp [go_sem])
  have fR2 : w1.frozen? ⟨w.heap.size, 2, none⟩ = false := (World.frozen?_of_block (a := ⟨w.heap.size, 2, none⟩) eR).trans (by simp [go_sem])
  have cR3 : w1.cell? ⟨w.heap.size, 3, none⟩ = some (Value.int IntKind.i64 0) := (World.cell?_of_block (a := ⟨w.heap.size, 3, none⟩) eR).trans (by simp [go_sem])
  have fR3 : w1.frozen? ⟨w.heap.size, 3, none⟩ = false := (World.frozen?_of_block (a := ⟨w.heap.size, 3, none⟩) eR).trans (by simp [go_sem])
  clear v0 v1 hS1 hT1 eR
  go_wp2_with fail
  exact bodyPost_ret (v := .agg #[.int .i64 t, .int .i64 a, .int .i64 b, .int .i64 k]) (by simp [results, Tryz.results6, go_sem, *]) rfl ⟨_, rfl, ⟨t, a, b, k, rfl, HV.out⟩, by (repeat (first | with_reducible exact Below.refl _ _ | with_reducible assumption | with_reducible refine below_drewN ?_ _ | with_reducible refine Below.drew ?_ | with_reducible refine Below.alloc ?_ (by first | omega | (simp; done) | (simp; omega)) _ | with_reducible refine Below.setCell ?_ (by first | omega | (simp; done) | (simp; omega)) _ | with_reducible refine Below.trans ?_ (Below.mono (by assumption) (by first | omega | (simp; done) | (simp; omega)))))⟩

set_option maxHeartbeats 80000000 in
set_option maxRecDepth 100000 in
theorem reflections.walk (v0 v1 : Value) (w : World) (hT : LT true w) (hC0 : CodeIn w v0) (hC1 : CodeIn w v1) : Calls Tryz.prog 3 #[v0, v1] w (RetB (.bool true) w) := by
  obtain ⟨sa, sn, sc, rfl⟩ := hC0.slice
  obtain ⟨ra, rn, rc, rfl⟩ := hC1.slice
  have HC0 := Lib.hid hC0
  have HC1 := Lib.hid hC1
  clear hC0 hC1
  go_enter Tryz.func3, Tryz.ntmps3
  go_wp2_with fail
  refine (long_any sa sn sc _).mono ?_
  rintro e w' ⟨b0, rfl, rfl⟩
  cases b0
  case true =>
    go_wp2_with fail
    go_ret
    exact ⟨rfl, by (repeat (first | with_reducible exact Below.refl _ _ | with_reducible assumption | with_reducible refine below_drewN ?_ _ | with_reducible refine Below.drew ?_ | with_reducible refine Below.alloc ?_ (by first | omega | (simp; done) | (simp; omega)) _ | with_reducible refine Below.setCell ?_ (by first | omega | (simp; done) | (simp; omega)) _ | with_reducible refine Below.trans ?_ (Below.mono (by assumption) (by first | omega | (simp; done) | (simp; omega)))))⟩
  go_wp2_with fail
  refine (long_any ra rn rc _).mono ?_
  rintro e w' ⟨b1, rfl, rfl⟩
  cases b1
  case true =>
    go_wp2_with fail
    go_ret
    exact ⟨rfl, by (repeat (first | with_reducible exact Below.refl _ _ | with_reducible assumption | with_reducible refine below_drewN ?_ _ | with_reducible refine Below.drew ?_ | with_reducible refine Below.alloc ?_ (by first | omega | (simp; done) | (simp; omega)) _ | with_reducible refine Below.setCell ?_ (by first | omega | (simp; done) | (simp; omega)) _ | with_reducible refine Below.trans ?_ (Below.mono (by assumption) (by first | omega | (simp; done) | (simp; omega)))))⟩
  go_wp2_with fail
  refine (dReflection_any _ _ HC0.out).mono ?_
  rintro e w1 ⟨_, rfl, ⟨e', x, y, z, rfl, _, sl⟩, hb1⟩
  have z1 := hb1.size
  have HB1 := Lib.hid (hb1.alloc z1 (Obj.cells #[Value.int IntKind.i64 e', Value.int IntKind.i64 x, Value.int IntKind.i64 y, Value.int IntKind.i64 z] 27))
  obtain ⟨r, o, m1, m2, m3, m4, m5, m6, v, h1, h2, h3⟩ := Act.rf_bundle (e := e') (sm_i3 sl)
  have KI := Lib.hid h1
  have KS := Lib.hid h2
  have KB := Lib.hid h3
  clear h1 h2 h3 sl HC0
  go_wp2_with fail

  refine (KI.out _ ?_).mono ?_
  · exact LT.below (w := w) hT (Below.alloc hb1 (by omega) _) (Nat.le_refl _)
  rintro e w2 ⟨rfl, hb2⟩
  have z2 := hb2.size
  (try simp only [World.size_alloc] at z2)
  have hB2 : Below w.heap.size w w2 := (Below.alloc hb1 (by omega) _).trans (hb2.mono (by simp only [World.size_alloc]; omega))
  have y2 := hB2.size
  have lL_2 : w1.heap.size < w2.heap.size := (by first | omega | (simp; done) | (simp; omega))
  have cL_2_0 : w2.cell? ⟨w1.heap.size, 0, none⟩ = some (Value.int IntKind.i64 e') := (hb2.cell (p := ⟨w1.heap.size, 0, none⟩) (by show w1.heap.size < _; simp only [World.size_alloc]; omega)).trans (by simp [go_sem])
  have cL_2_1 : w2.cell? ⟨w1.heap.size, 1, none⟩ = some (Value.int IntKind.i64 x) := (hb2.cell (p := ⟨w1.heap.size, 1, none⟩) (by show w1.heap.size < _; simp only [World.size_alloc]; omega)).trans (by simp [go_sem])
  have cL_2_2 : w2.cell? ⟨w1.heap.size, 2, none⟩ = some (Value.int IntKind.i64 y) := (hb2.cell (p := ⟨w1.heap.size, 2, none⟩) (by show w1.heap.size < _; simp only [World.size_alloc]; omega)).trans (by simp [go_sem])
  have cL_2_3 : w2.cell? ⟨w1.heap.size, 3, none⟩ = some (Value.int IntKind.i64 z) := (hb2.cell (p := ⟨w1.heap.size, 3, none⟩) (by show w1.heap.size < _; simp only [World.size_alloc]; omega)).trans (by simp [go_sem])
  have neL_2 : w1.heap.size ≠ w2.heap.size := by omega
  have neL_2b : w1.heap.size ≠ w2.heap.size + 1 := by omega
  have neL_2c : w2.heap.size ≠ w1.heap.size := by omega
  have neL_2d : w2.heap.size + 1 ≠ w1.heap.size := by omega
  have HB2 := Lib.hid ((HB1.out.trans (hb2.mono (by simp; omega))).alloc (by omega) (Obj.cells #[Value.int IntKind.i64 r, Value.bool o, Value.int IntKind.i64 m1, Value.int IntKind.i64 m2, Value.int IntKind.i64 m3, Value.int IntKind.i64 m4, Value.int IntKind.i64 m5, Value.int IntKind.i64 m6] 30))
  go_wp2_with fail
  refine (KS.out _ ?_).mono ?_
  · exact LT.below (w := w) hT (Below.alloc hB2 (by omega) _) (Nat.le_refl _)
  rintro e w3 ⟨rfl, hb3⟩
  have z3 := hb3.size
  (try simp only [World.size_alloc] at z3)
  have hB3 : Below w.heap.size w w3 := (Below.alloc hB2 (by omega) _).trans (hb3.mono (by simp only [World.size_alloc]; omega))
  have y3 := hB3.size
  have lL_3 : w1.heap.size < w3.heap.size := (by first | omega | (simp; done) | (simp; omega))
  have kL_3 : ∀ i, w3.cell? ⟨w1.heap.size, i, none⟩ = w2.cell? ⟨w1.heap.size, i, none⟩ := fun i => (hb3.cell (p := ⟨w1.heap.size, i, none⟩) (by show w1.heap.size < _; simp only [World.size_alloc]; omega)).trans ((World.cell?_alloc_lt _ _ ⟨w1.heap.size, i, none⟩ (by show w1.heap.size < _; omega)).trans rfl)
  have cL_3_0 : w3.cell? ⟨w1.heap.size, 0, none⟩ = some (Value.int IntKind.i64 e') := (kL_3 0).trans cL_2_0
  have cL_3_1 : w3.cell? ⟨w1.heap.size, 1, none⟩ = some (Value.int IntKind.i64 x) := (kL_3 1).trans cL_2_1
  have cL_3_2 : w3.cell? ⟨w1.heap.size, 2, none⟩ = some (Value.int IntKind.i64 y) := (kL_3 2).trans cL_2_2
  have cL_3_3 : w3.cell? ⟨w1.heap.size, 3, none⟩ = some (Value.int IntKind.i64 z) := (kL_3 3).trans cL_2_3
  have lM_3 : w2.heap.size < w3.heap.size := (by first | omega | (simp; done) | (simp; omega))
  have cM_3_0 : w3.cell? ⟨w2.heap.size, 0, none⟩ = some (Value.int IntKind.i64 r) := (hb3.cell (p := ⟨w2.heap.size, 0, none⟩) (by show w2.heap.size < _; simp only [World.size_alloc]; omega)).trans (by simp [go_sem])
  have cM_3_1 : w3.cell? ⟨w2.heap.size, 1, none⟩ = some (Value.bool o) := (hb3.cell (p := ⟨w2.heap.size, 1, none⟩) (by show w2.heap.size < _; simp only [World.size_alloc]; omega)).trans (by simp [go_sem])
  have cM_3_2 : w3.cell? ⟨w2.heap.size, 2, none⟩ = some (Value.int IntKind.i64 m1) := (hb3.cell (p := ⟨w2.heap.size, 2, none⟩) (by show w2.heap.size < _; simp only [World.size_alloc]; omega)).trans (by simp [go_sem])
  have cM_3_3 : w3.cell? ⟨w2.heap.size, 3, none⟩ = some (Value.int IntKind.i64 m2) := (hb3.cell (p := ⟨w2.heap.size, 3, none⟩) (by show w2.heap.size < _; simp only [World.size_alloc]; omega)).trans (by simp [go_sem])
  have cM_3_4 : w3.cell? ⟨w2.heap.size, 4, none⟩ = some (Value.int IntKind.i64 m3) := (hb3.cell (p := ⟨w2.heap.size, 4, none⟩) (by show w2.heap.size < _; simp only [World.size_alloc]; omega)).trans (by simp [go_sem])
  have cM_3_5 : w3.cell? ⟨w2.heap.size, 5, none⟩ = some (Value.int IntKind.i64 m4) := (hb3.cell (p := ⟨w2.heap.size, 5, none⟩) (by show w2.heap.size < _; simp only [World.size_alloc]; omega)).trans (by simp [go_sem])
  have cM_3_6 : w3.cell? ⟨w2.heap.size, 6, none⟩ = some (Value.int IntKind.i64 m5) := (hb3.cell (p := ⟨w2.heap.size, 6, none⟩) (by show w2.heap.size < _; simp only [World.size_alloc]; omega)).trans (by simp [go_sem])
  have cM_3_7 : w3.cell? ⟨w2.heap.size, 7, none⟩ = some (Value.int IntKind.i64 m6) := (hb3.cell (p := ⟨w2.heap.size, 7, none⟩) (by show w2.heap.size < _; simp only [World.size_alloc]; omega)).trans (by simp [go_sem])
  clear kL_3 cL_2_0 cL_2_1 cL_2_2 cL_2_3 lL_2 neL_2 neL_2b neL_2c neL_2d
  have neL_3 : w1.heap.size ≠ w3.heap.size := by omega
  have neL_3b : w1.heap.size ≠ w3.heap.size + 1 := by omega
  have neL_3c : w3.heap.size ≠ w1.heap.size := by omega
  have neL_3d : w3.heap.size + 1 ≠ w1.heap.size := by omega
  have neM_3 : w2.heap.size ≠ w3.heap.size := by omega
  have neM_3b : w2.heap.size ≠ w3.heap.size + 1 := by omega
  have neM_3c : w3.heap.size ≠ w2.heap.size := by omega
  have neM_3d : w3.heap.size + 1 ≠ w2.heap.size := by omega
  have HB3 := Lib.hid ((HB2.out.trans (hb3.mono (by simp; omega))).alloc (by omega) (Obj.cells #[Value.int IntKind.i64 r, Value.bool o, Value.int IntKind.i64 m1, Value.int IntKind.i64 m2, Value.int IntKind.i64 m3, Value.int IntKind.i64 m4, Value.int IntKind.i64 m5, Value.int IntKind.i64 m6] 30))
  have HC3 := Lib.hid (CodeIn.later HC1.out HB3.out)
  clear HC1
  go_wp2_with fail
  refine (dMovePoint_any _ _ HC3.out).mono ?_
  rintro e w4 ⟨_, _, rfl, ⟨r', h', k1, k2, k3, k4, k5, k6, rfl, _, _, _⟩, ⟨a, b, k, c, d, l, rfl, sp1, sp2⟩, hb4⟩
  have z4 := hb4.size
  (try simp only [World.size_alloc] at z4)
  have hB4 : Below w.heap.size w w4 := (Below.alloc hB3 (by omega) _).trans (hb4.mono (by simp only [World.size_alloc]; omega))
  have y4 := hB4.size
  have lL_4 : w1.heap.size < w4.heap.size := (by first | omega | (simp; done) | (simp; omega))
  have kL_4 : ∀ i, w4.cell? ⟨w1.heap.size, i, none⟩ = w3.cell? ⟨w1.heap.size, i, none⟩ := fun i => (hb4.cell (p := ⟨w1.heap.size, i, none⟩) (by show w1.heap.size < _; simp only [World.size_alloc]; omega)).trans ((World.cell?_alloc_lt _ _ ⟨w1.heap.size, i, none⟩ (by show w1.heap.size < _; omega)).trans rfl)
  have cL_4_0 : w4.cell? ⟨w1.heap.size, 0, none⟩ = some (Value.int IntKind.i64 e') := (kL_4 0).trans cL_3_0
  have cL_4_1 : w4.cell? ⟨w1.heap.size, 1, none⟩ = some (Value.int IntKind.i64 x) := (kL_4 1).trans cL_3_1
  have cL_4_2 : w4.cell? ⟨w1.heap.size, 2, none⟩ = some (Value.int IntKind.i64 y) := (kL_4 2).trans cL_3_2
  have cL_4_3 : w4.cell? ⟨w1.heap.size, 3, none⟩ = some (Value.int IntKind.i64 z) := (kL_4 3).trans cL_3_3
  have lM_4 : w2.heap.size < w4.heap.size := (by first | omega | (simp; done) | (simp; omega))
  have kM_4 : ∀ i, w4.cell? ⟨w2.heap.size, i, none⟩ = w3.cell? ⟨w2.heap.size, i, none⟩ := fun i => (hb4.cell (p := ⟨w2.heap.size, i, none⟩) (by show w2.heap.size < _; simp only [World.size_alloc]; omega)).trans ((World.cell?_alloc_lt _ _ ⟨w2.heap.size, i, none⟩ (by show w2.heap.size < _; omega)).trans rfl)
  have cM_4_0 : w4.cell? ⟨w2.heap.size, 0, none⟩ = some (Value.int IntKind.i64 r) := (kM_4 0).trans cM_3_0
  have cM_4_1 : w4.cell? ⟨w2.heap.size, 1, none⟩ = some (Value.bool o) := (kM_4 1).trans cM_3_1
  have cM_4_2 : w4.cell? ⟨w2.heap.size, 2, none⟩ = some (Value.int IntKind.i64 m1) := (kM_4 2).trans cM_3_2
  have cM_4_3 : w4.cell? ⟨w2.heap.size, 3, none⟩ = some (Value.int IntKind.i64 m2) := (kM_4 3).trans cM_3_3
  have cM_4_4 : w4.cell? ⟨w2.heap.size, 4, none⟩ = some (Value.int IntKind.i64 m3) := (kM_4 4).trans cM_3_4
  have cM_4_5 : w4.cell? ⟨w2.heap.size, 5, none⟩ = some (Value.int IntKind.i64 m4) := (kM_4 5).trans cM_3_5
  have cM_4_6 : w4.cell? ⟨w2.heap.size, 6, none⟩ = some (Value.int IntKind.i64 m5) := (kM_4 6).trans cM_3_6
  have cM_4_7 : w4.cell? ⟨w2.heap.size, 7, none⟩ = some (Value.int IntKind.i64 m6) := (kM_4 7).trans cM_3_7
  clear kL_4 cL_3_0 cL_3_1 cL_3_2 cL_3_3 kM_4 cM_3_0 cM_3_1 cM_3_2 cM_3_3 cM_3_4 cM_3_5 cM_3_6 cM_3_7 lL_3 lM_3 neL_3 neL_3b neL_3c neL_3d neM_3 neM_3b neM_3c neM_3d
  have neL_4 : w1.heap.size ≠ w4.heap.size := by omega
  have neL_4b : w1.heap.size ≠ w4.heap.size + 1 := by omega
  have neL_4c : w4.heap.size ≠ w1.heap.size := by omega
  have neL_4d : w4.heap.size + 1 ≠ w1.heap.size := by omega
  have neM_4 : w2.heap.size ≠ w4.heap.size := by omega
  have neM_4b : w2.heap.size ≠ w4.heap.size + 1 := by omega
  have neM_4c : w4.heap.size ≠ w2.heap.size := by omega
  have neM_4d : w4.heap.size + 1 ≠ w2.heap.size := by omega
  clear sp1 sp2 HC3 HB1 HB2 HB3
  cases v
  case false =>
    go_wp2_with fail
    go_ret
    exact ⟨rfl, by (repeat (first | with_reducible exact Below.refl _ _ | with_reducible assumption | with_reducible refine below_drewN ?_ _ | with_reducible refine Below.drew ?_ | with_reducible refine Below.alloc ?_ (by first | omega | (simp; done) | (simp; omega)) _ | with_reducible refine Below.setCell ?_ (by first | omega | (simp; done) | (simp; omega)) _ | with_reducible refine Below.trans ?_ (Below.mono (by assumption) (by first | omega | (simp; done) | (simp; omega)))))⟩
  go_wp2_with fail
  cases hP : vP a b k c d l
  case false =>
    have KV5 := Lib.hid fun w (hT : LT true w) => hP ▸ sVP_any (β := true) a b k c d l w hT
    refine (KV5.out _ ?_).mono ?_
    · exact LT.below (w := w) hT (Below.alloc (Below.alloc hB4 (by omega) _) (by simp only [World.size_alloc]; omega) _) (Nat.le_refl _)
    rintro e w5 ⟨rfl, hb5⟩
    have z5 := hb5.size
    (try simp only [World.size_alloc] at z5)
    have hB5 : Below w.heap.size w w5 := (Below.alloc (Below.alloc hB4 (by omega) _) (by simp only [World.size_alloc]; omega) _).trans (hb5.mono (by simp only [World.size_alloc]; omega))
    have y5 := hB5.size
    have lL_5 : w1.heap.size < w5.heap.size := (by first | omega | (simp; done) | (simp; omega))
    have kL_5 : ∀ i, w5.cell? ⟨w1.heap.size, i, none⟩ = w4.cell? ⟨w1.heap.size, i, none⟩ := fun i => (hb5.cell (p := ⟨w1.heap.size, i, none⟩) (by show w1.heap.size < _; simp only [World.size_alloc]; omega)).trans ((World.cell?_alloc_lt _ _ ⟨w1.heap.size, i, none⟩ (by show w1.heap.size < _; simp only [World.size_alloc]; omega)).trans ((World.cell?_alloc_lt _ _ ⟨w1.heap.size, i, none⟩ (by show w1.heap.size < _; omega)).trans rfl))
    have cL_5_0 : w5.cell? ⟨w1.heap.size, 0, none⟩ = some (Value.int IntKind.i64 e') := (kL_5 0).trans cL_4_0
    have cL_5_1 : w5.cell? ⟨w1.heap.size, 1, none⟩ = some (Value.int IntKind.i64 x) := (kL_5 1).trans cL_4_1
    have cL_5_2 : w5.cell? ⟨w1.heap.size, 2, none⟩ = some (Value.int IntKind.i64 y) := (kL_5 2).trans cL_4_2
    have cL_5_3 : w5.cell? ⟨w1.heap.size, 3, none⟩ = some (Value.int IntKind.i64 z) := (kL_5 3).trans cL_4_3
    have lM_5 : w2.heap.size < w5.heap.size := (by first | omega | (simp; done) | (simp; omega))
    have kM_5 : ∀ i, w5.cell? ⟨w2.heap.size, i, none⟩ = w4.cell? ⟨w2.heap.size, i, none⟩ := fun i => (hb5.cell (p := ⟨w2.heap.size, i, none⟩) (by show w2.heap.size < _; simp only [World.size_alloc]; omega)).trans ((World.cell?_alloc_lt _ _ ⟨w2.heap.size, i, none⟩ (by show w2.heap.size < _; simp only [World.size_alloc]; omega)).trans ((World.cell?_alloc_lt _ _ ⟨w2.heap.size, i, none⟩ (by show w2.heap.size < _; omega)).trans rfl))
    have cM_5_0 : w5.cell? ⟨w2.heap.size, 0, none⟩ = some (Value.int IntKind.i64 r) := (kM_5 0).trans cM_4_0
    have cM_5_1 : w5.cell? ⟨w2.heap.size, 1, none⟩ = some (Value.bool o) := (kM_5 1).trans cM_4_1
    have cM_5_2 : w5.cell? ⟨w2.heap.size, 2, none⟩ = some (Value.int IntKind.i64 m1) := (kM_5 2).trans cM_4_2
    have cM_5_3 : w5.cell? ⟨w2.heap.size, 3, none⟩ = some (Value.int IntKind.i64 m2) := (kM_5 3).trans cM_4_3
    have cM_5_4 : w5.cell? ⟨w2.heap.size, 4, none⟩ = some (Value.int IntKind.i64 m3) := (kM_5 4).trans cM_4_4
    have cM_5_5 : w5.cell? ⟨w2.heap.size, 5, none⟩ = some (Value.int IntKind.i64 m4) := (kM_5 5).trans cM_4_5
    have cM_5_6 : w5.cell? ⟨w2.heap.size, 6, none⟩ = some (Value.int IntKind.i64 m5) := (kM_5 6).trans cM_4_6
    have cM_5_7 : w5.cell? ⟨w2.heap.size, 7, none⟩ = some (Value.int IntKind.i64 m6) := (kM_5 7).trans cM_4_7
    have lP_5 : w4.heap.size + 1 < w5.heap.size := (by first | omega | (simp; done) | (simp; omega))
    have cP_5_0 : w5.cell? ⟨w4.heap.size + 1, 0, none⟩ = some (Value.int IntKind.i64 a) := (hb5.cell (p := ⟨w4.heap.size + 1, 0, none⟩) (by show w4.heap.size + 1 < _; simp only [World.size_alloc]; omega)).trans (by simp [go_sem])
    have cP_5_1 : w5.cell? ⟨w4.heap.size + 1, 1, none⟩ = some (Value.int IntKind.i64 b) := (hb5.cell (p := ⟨w4.heap.size + 1, 1, none⟩) (by show w4.heap.size + 1 < _; simp only [World.size_alloc]; omega)).trans (by simp [go_sem])
    have cP_5_2 : w5.cell? ⟨w4.heap.size + 1, 2, none⟩ = some (Value.int IntKind.i64 k) := (hb5.cell (p := ⟨w4.heap.size + 1, 2, none⟩) (by show w4.heap.size + 1 < _; simp only [World.size_alloc]; omega)).trans (by simp [go_sem])
    have cP_5_3 : w5.cell? ⟨w4.heap.size + 1, 3, none⟩ = some (Value.int IntKind.i64 c) := (hb5.cell (p := ⟨w4.heap.size + 1, 3, none⟩) (by show w4.heap.size + 1 < _; simp only [World.size_alloc]; omega)).trans (by simp [go_sem])
    have cP_5_4 : w5.cell? ⟨w4.heap.size + 1, 4, none⟩ = some (Value.int IntKind.i64 d) := (hb5.cell (p := ⟨w4.heap.size + 1, 4, none⟩) (by show w4.heap.size + 1 < _; simp only [World.size_alloc]; omega)).trans (by simp [go_sem])
    have cP_5_5 : w5.cell? ⟨w4.heap.size + 1, 5, none⟩ = some (Value.int IntKind.i64 l) := (hb5.cell (p := ⟨w4.heap.size + 1, 5, none⟩) (by show w4.heap.size + 1 < _; simp only [World.size_alloc]; omega)).trans (by simp [go_sem])
    clear kL_5 cL_4_0 cL_4_1 cL_4_2 cL_4_3 kM_5 cM_4_0 cM_4_1 cM_4_2 cM_4_3 cM_4_4 cM_4_5 cM_4_6 cM_4_7 lL_4 lM_4 neL_4 neL_4b neL_4c neL_4d neM_4 neM_4b neM_4c neM_4d
    have neL_5 : w1.heap.size ≠ w5.heap.size := by omega
    have neL_5b : w1.heap.size ≠ w5.heap.size + 1 := by omega
    have neL_5c : w5.heap.size ≠ w1.heap.size := by omega
    have neL_5d : w5.heap.size + 1 ≠ w1.heap.size := by omega
    have neM_5 : w2.heap.size ≠ w5.heap.size := by omega
    have neM_5b : w2.heap.size ≠ w5.heap.size + 1 := by omega
    have neM_5c : w5.heap.size ≠ w2.heap.size := by omega
    have neM_5d : w5.heap.size + 1 ≠ w2.heap.size := by omega
    have neP_5 : w4.heap.size + 1 ≠ w5.heap.size := by omega
    have neP_5b : w4.heap.size + 1 ≠ w5.heap.size + 1 := by omega
    have neP_5c : w5.heap.size ≠ w4.heap.size + 1 := by omega
    have neP_5d : w5.heap.size + 1 ≠ w4.heap.size + 1 := by omega
    go_wp2_with fail
    go_ret
    exact ⟨rfl, by (repeat (first | with_reducible exact Below.refl _ _ | with_reducible assumption | with_reducible refine below_drewN ?_ _ | with_reducible refine Below.drew ?_ | with_reducible refine Below.alloc ?_ (by first | omega | (simp; done) | (simp; omega)) _ | with_reducible refine Below.setCell ?_ (by first | omega | (simp; done) | (simp; omega)) _ | with_reducible refine Below.trans ?_ (Below.mono (by assumption) (by first | omega | (simp; done) | (simp; omega)))))⟩
  have KV5 := Lib.hid fun w (hT : LT true w) => hP ▸ sVP_any (β := true) a b k c d l w hT
  refine (KV5.out _ ?_).mono ?_
  · exact LT.below (w := w) hT (Below.alloc (Below.alloc hB4 (by omega) _) (by simp only [World.size_alloc]; omega) _) (Nat.le_refl _)
  rintro e w5 ⟨rfl, hb5⟩
  have z5 := hb5.size
  (try simp only [World.size_alloc] at z5)
  have hB5 : Below w.heap.size w w5 := (Below.alloc (Below.alloc hB4 (by omega) _) (by simp only [World.size_alloc]; omega) _).trans (hb5.mono (by simp only [World.size_alloc]; omega))
  have y5 := hB5.size
  have lL_5 : w1.heap.size < w5.heap.size := (by first | omega | (simp; done) | (simp; omega))
  have kL_5 : ∀ i, w5.cell? ⟨w1.heap.size, i, none⟩ = w4.cell? ⟨w1.heap.size, i, none⟩ := fun i => (hb5.cell (p := ⟨w1.heap.size, i, none⟩) (by show w1.heap.size < _; simp only [World.size_alloc]; omega)).trans ((World.cell?_alloc_lt _ _ ⟨w1.heap.size, i, none⟩ (by show w1.heap.size < _; simp only [World.size_alloc]; omega)).trans ((World.cell?_alloc_lt _ _ ⟨w1.heap.size, i, none⟩ (by show w1.heap.size < _; omega)).trans rfl))
  have cL_5_0 : w5.cell? ⟨w1.heap.size, 0, none⟩ = some (Value.int IntKind.i64 e') := (kL_5 0).trans cL_4_0
  have cL_5_1 : w5.cell? ⟨w1.heap.size, 1, none⟩ = some (Value.int IntKind.i64 x) := (kL_5 1).trans cL_4_1
  have cL_5_2 : w5.cell? ⟨w1.heap.size, 2, none⟩ = some (Value.int IntKind.i64 y) := (kL_5 2).trans cL_4_2
  have cL_5_3 : w5.cell? ⟨w1.heap.size, 3, none⟩ = some (Value.int IntKind.i64 z) := (kL_5 3).trans cL_4_3
  have lM_5 : w2.heap.size < w5.heap.size := (by first | omega | (simp; done) | (simp; omega))
  have kM_5 : ∀ i, w5.cell? ⟨w2.heap.size, i, none⟩ = w4.cell? ⟨w2.heap.size, i, none⟩ := fun i => (hb5.cell (p := ⟨w2.heap.size, i, none⟩) (by show w2.heap.size < _; simp only [World.size_alloc]; omega)).trans ((World.cell?_alloc_lt _ _ ⟨w2.heap.size, i, none⟩ (by show w2.heap.size < _; simp only [World.size_alloc]; omega)).trans ((World.cell?_alloc_lt _ _ ⟨w2.heap.size, i, none⟩ (by show w2.heap.size < _; omega)).trans rfl))
  have cM_5_0 : w5.cell? ⟨w2.heap.size, 0, none⟩ = some (Value.int IntKind.i64 r) := (kM_5 0).trans cM_4_0
  have cM_5_1 : w5.cell? ⟨w2.heap.size, 1, none⟩ = some (Value.bool o) := (kM_5 1).trans cM_4_1
  have cM_5_2 : w5.cell? ⟨w2.heap.size, 2, none⟩ = some (Value.int IntKind.i64 m1) := (kM_5 2).trans cM_4_2
  have cM_5_3 : w5.cell? ⟨w2.heap.size, 3, none⟩ = some (Value.int IntKind.i64 m2) := (kM_5 3).trans cM_4_3
  have cM_5_4 : w5.cell? ⟨w2.heap.size, 4, none⟩ = some (Value.int IntKind.i64 m3) := (kM_5 4).trans cM_4_4
  have cM_5_5 : w5.cell? ⟨w2.heap.size, 5, none⟩ = some (Value.int IntKind.i64 m4) := (kM_5 5).trans cM_4_5
  have cM_5_6 : w5.cell? ⟨w2.heap.size, 6, none⟩ = some (Value.int IntKind.i64 m5) := (kM_5 6).trans cM_4_6
  have cM_5_7 : w5.cell? ⟨w2.heap.size, 7, none⟩ = some (Value.int IntKind.i64 m6) := (kM_5 7).trans cM_4_7
  have lP_5 : w4.heap.size + 1 < w5.heap.size := (by first | omega | (simp; done) | (simp; omega))
  have cP_5_0 : w5.cell? ⟨w4.heap.size + 1, 0, none⟩ = some (Value.int IntKind.i64 a) := (hb5.cell (p := ⟨w4.heap.size + 1, 0, none⟩) (by show w4.heap.size + 1 < _; simp only [World.size_alloc]; omega)).trans (by simp [go_sem])
  have cP_5_1 : w5.cell? ⟨w4.heap.size + 1, 1, none⟩ = some (Value.int IntKind.i64 b) := (hb5.cell (p := ⟨w4.heap.size + 1, 1, none⟩) (by show w4.heap.size + 1 < _; simp only [World.size_alloc]; omega)).trans (by simp [go_sem])
  have cP_5_2 : w5.cell? ⟨w4.heap.size + 1, 2, none⟩ = some (Value.int IntKind.i64 k) := (hb5.cell (p := ⟨w4.heap.size + 1, 2, none⟩) (by show w4.heap.size + 1 < _; simp only [World.size_alloc]; omega)).trans (by simp [go_sem])
  have cP_5_3 : w5.cell? ⟨w4.heap.size + 1, 3, none⟩ = some (Value.int IntKind.i64 c) := (hb5.cell (p := ⟨w4.heap.size + 1, 3, none⟩) (by show w4.heap.size + 1 < _; simp only [World.size_alloc]; omega)).trans (by simp [go_sem])
  have cP_5_4 : w5.cell? ⟨w4.heap.size + 1, 4, none⟩ = some (Value.int IntKind.i64 d) := (hb5.cell (p := ⟨w4.heap.size + 1, 4, none⟩) (by show w4.heap.size + 1 < _; simp only [World.size_alloc]; omega)).trans (by simp [go_sem])
  have cP_5_5 : w5.cell? ⟨w4.heap.size + 1, 5, none⟩ = some (Value.int IntKind.i64 l) := (hb5.cell (p := ⟨w4.heap.size + 1, 5, none⟩) (by show w4.heap.size + 1 < _; simp only [World.size_alloc]; omega)).trans (by simp [go_sem])
  clear kL_5 cL_4_0 cL_4_1 cL_4_2 cL_4_3 kM_5 cM_4_0 cM_4_1 cM_4_2 cM_4_3 cM_4_4 cM_4_5 cM_4_6 cM_4_7 lL_4 lM_4 neL_4 neL_4b neL_4c neL_4d neM_4 neM_4b neM_4c neM_4d
  have neL_5 : w1.heap.size ≠ w5.heap.size := by omega
  have neL_5b : w1.heap.size ≠ w5.heap.size + 1 := by omega
  have neL_5c : w5.heap.size ≠ w1.heap.size := by omega
  have neL_5d : w5.heap.size + 1 ≠ w1.heap.size := by omega
  have neM_5 : w2.heap.size ≠ w5.heap.size := by omega
  have neM_5b : w2.heap.size ≠ w5.heap.size + 1 := by omega
  have neM_5c : w5.heap.size ≠ w2.heap.size := by omega
  have neM_5d : w5.heap.size + 1 ≠ w2.heap.size := by omega
  have neP_5 : w4.heap.size + 1 ≠ w5.heap.size := by omega
  have neP_5b : w4.heap.size + 1 ≠ w5.heap.size + 1 := by omega
  have neP_5c : w5.heap.size ≠ w4.heap.size + 1 := by omega
  have neP_5d : w5.heap.size + 1 ≠ w4.heap.size + 1 := by omega
  go_wp2_with fail
  obtain ⟨q1, q2, q3, q4, q5, q6, v2, sd, h1, h2, h3, h4, h5⟩ := KB.out _ _ _ _ _ _ (by trivial) hP
  have KQ := Lib.hid h1
  have KR := Lib.hid h2
  have KC := Lib.hid h3
  have KD := Lib.hid h4
  have KE := Lib.hid h5
  clear h1 h2 h3 h4 h5 hP KB
  refine (KQ.out _ ?_).mono ?_
  · exact LT.below (w := w) hT hB5 (Nat.le_refl _)
  rintro e w6 ⟨rfl, hb6⟩
  have z6 := hb6.size
  (try simp only [World.size_alloc] at z6)
  have hB6 : Below w.heap.size w w6 := hB5.trans (hb6.mono (by omega))
  have y6 := hB6.size
  have lL_6 : w1.heap.size < w6.heap.size := (by first | omega | (simp; done) | (simp; omega))
  have kL_6 : ∀ i, w6.cell? ⟨w1.heap.size, i, none⟩ = w5.cell? ⟨w1.heap.size, i, none⟩ := fun i => (hb6.cell (p := ⟨w1.heap.size, i, none⟩) (by show w1.heap.size < _; omega)).trans rfl
  have cL_6_0 : w6.cell? ⟨w1.heap.size, 0, none⟩ = some (Value.int IntKind.i64 e') := (kL_6 0).trans cL_5_0
  have cL_6_1 : w6.cell? ⟨w1.heap.size, 1, none⟩ = some (Value.int IntKind.i64 x) := (kL_6 1).trans cL_5_1
  have cL_6_2 : w6.cell? ⟨w1.heap.size, 2, none⟩ = some (Value.int IntKind.i64 y) := (kL_6 2).trans cL_5_2
  have cL_6_3 : w6.cell? ⟨w1.heap.size, 3, none⟩ = some (Value.int IntKind.i64 z) := (kL_6 3).trans cL_5_3
  have lM_6 : w2.heap.size < w6.heap.size := (by first | omega | (simp; done) | (simp; omega))
  have kM_6 : ∀ i, w6.cell? ⟨w2.heap.size, i, none⟩ = w5.cell? ⟨w2.heap.size, i, none⟩ := fun i => (hb6.cell (p := ⟨w2.heap.size, i, none⟩) (by show w2.heap.size < _; omega)).trans rfl
  have cM_6_0 : w6.cell? ⟨w2.heap.size, 0, none⟩ = some (Value.int IntKind.i64 r) := (kM_6 0).trans cM_5_0
  have cM_6_1 : w6.cell? ⟨w2.heap.size, 1, none⟩ = some (Value.bool o) := (kM_6 1).trans cM_5_1
  have cM_6_2 : w6.cell? ⟨w2.heap.size, 2, none⟩ = some (Value.int IntKind.i64 m1) := (kM_6 2).trans cM_5_2
  have cM_6_3 : w6.cell? ⟨w2.heap.size, 3, none⟩ = some (Value.int IntKind.i64 m2) := (kM_6 3).trans cM_5_3
  have cM_6_4 : w6.cell? ⟨w2.heap.size, 4, none⟩ = some (Value.int IntKind.i64 m3) := (kM_6 4).trans cM_5_4
  have cM_6_5 : w6.cell? ⟨w2.heap.size, 5, none⟩ = some (Value.int IntKind.i64 m4) := (kM_6 5).trans cM_5_5
  have cM_6_6 : w6.cell? ⟨w2.heap.size, 6, none⟩ = some (Value.int IntKind.i64 m5) := (kM_6 6).trans cM_5_6
  have cM_6_7 : w6.cell? ⟨w2.heap.size, 7, none⟩ = some (Value.int IntKind.i64 m6) := (kM_6 7).trans cM_5_7
  have lP_6 : w4.heap.size + 1 < w6.heap.size := (by first | omega | (simp; done) | (simp; omega))
  have kP_6 : ∀ i, w6.cell? ⟨w4.heap.size + 1, i, none⟩ = w5.cell? ⟨w4.heap.size + 1, i, none⟩ := fun i => (hb6.cell (p := ⟨w4.heap.size + 1, i, none⟩) (by show w4.heap.size + 1 < _; omega)).trans rfl
  have cP_6_0 : w6.cell? ⟨w4.heap.size + 1, 0, none⟩ = some (Value.int IntKind.i64 a) := (kP_6 0).trans cP_5_0
  have cP_6_1 : w6.cell? ⟨w4.heap.size + 1, 1, none⟩ = some (Value.int IntKind.i64 b) := (kP_6 1).trans cP_5_1
  have cP_6_2 : w6.cell? ⟨w4.heap.size + 1, 2, none⟩ = some (Value.int IntKind.i64 k) := (kP_6 2).trans cP_5_2
  have cP_6_3 : w6.cell? ⟨w4.heap.size + 1, 3, none⟩ = some (Value.int IntKind.i64 c) := (kP_6 3).trans cP_5_3
  have cP_6_4 : w6.cell? ⟨w4.heap.size + 1, 4, none⟩ = some (Value.int IntKind.i64 d) := (kP_6 4).trans cP_5_4
  have cP_6_5 : w6.cell? ⟨w4.heap.size + 1, 5, none⟩ = some (Value.int IntKind.i64 l) := (kP_6 5).trans cP_5_5
  clear kL_6 cL_5_0 cL_5_1 cL_5_2 cL_5_3 kM_6 cM_5_0 cM_5_1 cM_5_2 cM_5_3 cM_5_4 cM_5_5 cM_5_6 cM_5_7 kP_6 cP_5_0 cP_5_1 cP_5_2 cP_5_3 cP_5_4 cP_5_5 lL_5 lM_5 lP_5 neL_5 neL_5b neL_5c neL_5d neM_5 neM_5b neM_5c neM_5d neP_5 neP_5b neP_5c neP_5d
  have neL_6 : w1.heap.size ≠ w6.heap.size := by omega
  have neL_6b : w1.heap.size ≠ w6.heap.size + 1 := by omega
  have neL_6c : w6.heap.size ≠ w1.heap.size := by omega
  have neL_6d : w6.heap.size + 1 ≠ w1.heap.size := by omega
  have neM_6 : w2.heap.size ≠ w6.heap.size := by omega
  have neM_6b : w2.heap.size ≠ w6.heap.size + 1 := by omega
  have neM_6c : w6.heap.size ≠ w2.heap.size := by omega
  have neM_6d : w6.heap.size + 1 ≠ w2.heap.size := by omega
  have neP_6 : w4.heap.size + 1 ≠ w6.heap.size := by omega
  have neP_6b : w4.heap.size + 1 ≠ w6.heap.size + 1 := by omega
  have neP_6c : w6.heap.size ≠ w4.heap.size + 1 := by omega
  have neP_6d : w6.heap.size + 1 ≠ w4.heap.size + 1 := by omega
  go_wp2_with fail
  refine (KR.out _ ?_).mono ?_
  · exact LT.below (w := w) hT (Below.alloc hB6 (by omega) _) (Nat.le_refl _)
  rintro e w7 ⟨rfl, hb7⟩
  have z7 := hb7.size
  (try simp only [World.size_alloc] at z7)
  have hB7 : Below w.heap.size w w7 := (Below.alloc hB6 (by omega) _).trans (hb7.mono (by simp only [World.size_alloc]; omega))
  have y7 := hB7.size
  have lL_7 : w1.heap.size < w7.heap.size := (by first | omega | (simp; done) | (simp; omega))
  have kL_7 : ∀ i, w7.cell? ⟨w1.heap.size, i, none⟩ = w6.cell? ⟨w1.heap.size, i, none⟩ := fun i => (hb7.cell (p := ⟨w1.heap.size, i, none⟩) (by show w1.heap.size < _; simp only [World.size_alloc]; omega)).trans ((World.cell?_alloc_lt _ _ ⟨w1.heap.size, i, none⟩ (by show w1.heap.size < _; omega)).trans rfl)
  have cL_7_0 : w7.cell? ⟨w1.heap.size, 0, none⟩ = some (Value.int IntKind.i64 e') := (kL_7 0).trans cL_6_0
  have cL_7_1 : w7.cell? ⟨w1.heap.size, 1, none⟩ = some (Value.int IntKind.i64 x) := (kL_7 1).trans cL_6_1
  have cL_7_2 : w7.cell? ⟨w1.heap.size, 2, none⟩ = some (Value.int IntKind.i64 y) := (kL_7 2).trans cL_6_2
  have cL_7_3 : w7.cell? ⟨w1.heap.size, 3, none⟩ = some (Value.int IntKind.i64 z) := (kL_7 3).trans cL_6_3
  have lM_7 : w2.heap.size < w7.heap.size := (by first | omega | (simp; done) | (simp; omega))
  have kM_7 : ∀ i, w7.cell? ⟨w2.heap.size, i, none⟩ = w6.cell? ⟨w2.heap.size, i, none⟩ := fun i => (hb7.cell (p := ⟨w2.heap.size, i, none⟩) (by show w2.heap.size < _; simp only [World.size_alloc]; omega)).trans ((World.cell?_alloc_lt _ _ ⟨w2.heap.size, i, none⟩ (by show w2.heap.size < _; omega)).trans rfl)
  have cM_7_0 : w7.cell? ⟨w2.heap.size, 0, none⟩ = some (Value.int IntKind.i64 r) := (kM_7 0).trans cM_6_0
  have cM_7_1 : w7.cell? ⟨w2.heap.size, 1, none⟩ = some (Value.bool o) := (kM_7 1).trans cM_6_1
  have cM_7_2 : w7.cell? ⟨w2.heap.size, 2, none⟩ = some (Value.int IntKind.i64 m1) := (kM_7 2).trans cM_6_2
  have cM_7_3 : w7.cell? ⟨w2.heap.size, 3, none⟩ = some (Value.int IntKind.i64 m2) := (kM_7 3).trans cM_6_3
  have cM_7_4 : w7.cell? ⟨w2.heap.size, 4, none⟩ = some (Value.int IntKind.i64 m3) := (kM_7 4).trans cM_6_4
  have cM_7_5 : w7.cell? ⟨w2.heap.size, 5, none⟩ = some (Value.int IntKind.i64 m4) := (kM_7 5).trans cM_6_5
  have cM_7_6 : w7.cell? ⟨w2.heap.size, 6, none⟩ = some (Value.int IntKind.i64 m5) := (kM_7 6).trans cM_6_6
  have cM_7_7 : w7.cell? ⟨w2.heap.size, 7, none⟩ = some (Value.int IntKind.i64 m6) := (kM_7 7).trans cM_6_7
  have lP_7 : w4.heap.size + 1 < w7.heap.size := (by first | omega | (simp; done) | (simp; omega))
  have kP_7 : ∀ i, w7.cell? ⟨w4.heap.size + 1, i, none⟩ = w6.cell? ⟨w4.heap.size + 1, i, none⟩ := fun i => (hb7.cell (p := ⟨w4.heap.size + 1, i, none⟩) (by show w4.heap.size + 1 < _; simp only [World.size_alloc]; omega)).trans ((World.cell?_alloc_lt _ _ ⟨w4.heap.size + 1, i, none⟩ (by show w4.heap.size + 1 < _; omega)).trans rfl)
  have cP_7_0 : w7.cell? ⟨w4.heap.size + 1, 0, none⟩ = some (Value.int IntKind.i64 a) := (kP_7 0).trans cP_6_0
  have cP_7_1 : w7.cell? ⟨w4.heap.size + 1, 1, none⟩ = some (Value.int IntKind.i64 b) := (kP_7 1).trans cP_6_1
  have cP_7_2 : w7.cell? ⟨w4.heap.size + 1, 2, none⟩ = some (Value.int IntKind.i64 k) := (kP_7 2).trans cP_6_2
  have cP_7_3 : w7.cell? ⟨w4.heap.size + 1, 3, none⟩ = some (Value.int IntKind.i64 c) := (kP_7 3).trans cP_6_3
  have cP_7_4 : w7.cell? ⟨w4.heap.size + 1, 4, none⟩ = some (Value.int IntKind.i64 d) := (kP_7 4).trans cP_6_4
  have cP_7_5 : w7.cell? ⟨w4.heap.size + 1, 5, none⟩ = some (Value.int IntKind.i64 l) := (kP_7 5).trans cP_6_5
  have lX_7 : w6.heap.size < w7.heap.size := (by first | omega | (simp; done) | (simp; omega))
  have cX_7_0 : w7.cell? ⟨w6.heap.size, 0, none⟩ = some (Value.int IntKind.i64 q1) := (hb7.cell (p := ⟨w6.heap.size, 0, none⟩) (by show w6.heap.size < _; simp only [World.size_alloc]; omega)).trans (by simp [go_sem])
  have cX_7_1 : w7.cell? ⟨w6.heap.size, 1, none⟩ = some (Value.int IntKind.i64 q2) := (hb7.cell (p := ⟨w6.heap.size, 1, none⟩) (by show w6.heap.size < _; simp only [World.size_alloc]; omega)).trans (by simp [go_sem])
  have cX_7_2 : w7.cell? ⟨w6.heap.size, 2, none⟩ = some (Value.int IntKind.i64 q3) := (hb7.cell (p := ⟨w6.heap.size, 2, none⟩) (by show w6.heap.size < _; simp only [World.size_alloc]; omega)).trans (by simp [go_sem])
  have cX_7_3 : w7.cell? ⟨w6.heap.size, 3, none⟩ = some (Value.int IntKind.i64 q4) := (hb7.cell (p := ⟨w6.heap.size, 3, none⟩) (by show w6.heap.size < _; simp only [World.size_alloc]; omega)).trans (by simp [go_sem])
  have cX_7_4 : w7.cell? ⟨w6.heap.size, 4, none⟩ = some (Value.int IntKind.i64 q5) := (hb7.cell (p := ⟨w6.heap.size, 4, none⟩) (by show w6.heap.size < _; simp only [World.size_alloc]; omega)).trans (by simp [go_sem])
  have cX_7_5 : w7.cell? ⟨w6.heap.size, 5, none⟩ = some (Value.int IntKind.i64 q6) := (hb7.cell (p := ⟨w6.heap.size, 5, none⟩) (by show w6.heap.size < _; simp only [World.size_alloc]; omega)).trans (by simp [go_sem])
  clear kL_7 cL_6_0 cL_6_1 cL_6_2 cL_6_3 kM_7 cM_6_0 cM_6_1 cM_6_2 cM_6_3 cM_6_4 cM_6_5 cM_6_6 cM_6_7 kP_7 cP_6_0 cP_6_1 cP_6_2 cP_6_3 cP_6_4 cP_6_5 lL_6 lM_6 lP_6 neL_6 neL_6b neL_6c neL_6d neM_6 neM_6b neM_6c neM_6d neP_6 neP_6b neP_6c neP_6d
  have neL_7 : w1.heap.size ≠ w7.heap.size := by omega
  have neL_7b : w1.heap.size ≠ w7.heap.size + 1 := by omega
  have neL_7c : w7.heap.size ≠ w1.heap.size := by omega
  have neL_7d : w7.heap.size + 1 ≠ w1.heap.size := by omega
  have neM_7 : w2.heap.size ≠ w7.heap.size := by omega
  have neM_7b : w2.heap.size ≠ w7.heap.size + 1 := by omega
  have neM_7c : w7.heap.size ≠ w2.heap.size := by omega
  have neM_7d : w7.heap.size + 1 ≠ w2.heap.size := by omega
  have neP_7 : w4.heap.size + 1 ≠ w7.heap.size := by omega
  have neP_7b : w4.heap.size + 1 ≠ w7.heap.size + 1 := by omega
  have neP_7c : w7.heap.size ≠ w4.heap.size + 1 := by omega
  have neP_7d : w7.heap.size + 1 ≠ w4.heap.size + 1 := by omega
  have neX_7 : w6.heap.size ≠ w7.heap.size := by omega
  have neX_7b : w6.heap.size ≠ w7.heap.size + 1 := by omega
  have neX_7c : w7.heap.size ≠ w6.heap.size := by omega
  have neX_7d : w7.heap.size + 1 ≠ w6.heap.size := by omega
  go_wp2_with fail
  refine (KC.out _ ?_).mono ?_
  · exact LT.below (w := w) hT (Below.alloc hB7 (by omega) _) (Nat.le_refl _)
  rintro e w8 ⟨rfl, hb8⟩
  have z8 := hb8.size
  (try simp only [World.size_alloc] at z8)
  have hB8 : Below w.heap.size w w8 := (Below.alloc hB7 (by omega) _).trans (hb8.mono (by simp only [World.size_alloc]; omega))
  have y8 := hB8.size
  have lL_8 : w1.heap.size < w8.heap.size := (by first | omega | (simp; done) | (simp; omega))
  have kL_8 : ∀ i, w8.cell? ⟨w1.heap.size, i, none⟩ = w7.cell? ⟨w1.heap.size, i, none⟩ := fun i => (hb8.cell (p := ⟨w1.heap.size, i, none⟩) (by show w1.heap.size < _; simp only [World.size_alloc]; omega)).trans ((World.cell?_alloc_lt _ _ ⟨w1.heap.size, i, none⟩ (by show w1.heap.size < _; omega)).trans rfl)
  have cL_8_0 : w8.cell? ⟨w1.heap.size, 0, none⟩ = some (Value.int IntKind.i64 e') := (kL_8 0).trans cL_7_0
  have cL_8_1 : w8.cell? ⟨w1.heap.size, 1, none⟩ = some (Value.int IntKind.i64 x) := (kL_8 1).trans cL_7_1
  have cL_8_2 : w8.cell? ⟨w1.heap.size, 2, none⟩ = some (Value.int IntKind.i64 y) := (kL_8 2).trans cL_7_2
  have cL_8_3 : w8.cell? ⟨w1.heap.size, 3, none⟩ = some (Value.int IntKind.i64 z) := (kL_8 3).trans cL_7_3
  have lP_8 : w4.heap.size + 1 < w8.heap.size := (by first | omega | (simp; done) | (simp; omega))
  have kP_8 : ∀ i, w8.cell? ⟨w4.heap.size + 1, i, none⟩ = w7.cell? ⟨w4.heap.size + 1, i, none⟩ := fun i => (hb8.cell (p := ⟨w4.heap.size + 1, i, none⟩) (by show w4.heap.size + 1 < _; simp only [World.size_alloc]; omega)).trans ((World.cell?_alloc_lt _ _ ⟨w4.heap.size + 1, i, none⟩ (by show w4.heap.size + 1 < _; omega)).trans rfl)
  have cP_8_0 : w8.cell? ⟨w4.heap.size + 1, 0, none⟩ = some (Value.int IntKind.i64 a) := (kP_8 0).trans cP_7_0
  have cP_8_1 : w8.cell? ⟨w4.heap.size + 1, 1, none⟩ = some (Value.int IntKind.i64 b) := (kP_8 1).trans cP_7_1
  have cP_8_2 : w8.cell? ⟨w4.heap.size + 1, 2, none⟩ = some (Value.int IntKind.i64 k) := (kP_8 2).trans cP_7_2
  have cP_8_3 : w8.cell? ⟨w4.heap.size + 1, 3, none⟩ = some (Value.int IntKind.i64 c) := (kP_8 3).trans cP_7_3
  have cP_8_4 : w8.cell? ⟨w4.heap.size + 1, 4, none⟩ = some (Value.int IntKind.i64 d) := (kP_8 4).trans cP_7_4
  have cP_8_5 : w8.cell? ⟨w4.heap.size + 1, 5, none⟩ = some (Value.int IntKind.i64 l) := (kP_8 5).trans cP_7_5
  have lX_8 : w6.heap.size < w8.heap.size := (by first | omega | (simp; done) | (simp; omega))
  have kX_8 : ∀ i, w8.cell? ⟨w6.heap.size, i, none⟩ = w7.cell? ⟨w6.heap.size, i, none⟩ := fun i => (hb8.cell (p := ⟨w6.heap.size, i, none⟩) (by show w6.heap.size < _; simp only [World.size_alloc]; omega)).trans ((World.cell?_alloc_lt _ _ ⟨w6.heap.size, i, none⟩ (by show w6.heap.size < _; omega)).trans rfl)
  have cX_8_0 : w8.cell? ⟨w6.heap.size, 0, none⟩ = some (Value.int IntKind.i64 q1) := (kX_8 0).trans cX_7_0
  have cX_8_1 : w8.cell? ⟨w6.heap.size, 1, none⟩ = some (Value.int IntKind.i64 q2) := (kX_8 1).trans cX_7_1
  have cX_8_2 : w8.cell? ⟨w6.heap.size, 2, none⟩ = some (Value.int IntKind.i64 q3) := (kX_8 2).trans cX_7_2
  have cX_8_3 : w8.cell? ⟨w6.heap.size, 3, none⟩ = some (Value.int IntKind.i64 q4) := (kX_8 3).trans cX_7_3
  have cX_8_4 : w8.cell? ⟨w6.heap.size, 4, none⟩ = some (Value.int IntKind.i64 q5) := (kX_8 4).trans cX_7_4
  have cX_8_5 : w8.cell? ⟨w6.heap.size, 5, none⟩ = some (Value.int IntKind.i64 q6) := (kX_8 5).trans cX_7_5
  have lY_8 : w7.heap.size < w8.heap.size := (by first | omega | (simp; done) | (simp; omega))
  have cY_8_0 : w8.cell? ⟨w7.heap.size, 0, none⟩ = some (Value.int IntKind.i64 q1) := (hb8.cell (p := ⟨w7.heap.size, 0, none⟩) (by show w7.heap.size < _; simp only [World.size_alloc]; omega)).trans (by simp [go_sem])
  have cY_8_1 : w8.cell? ⟨w7.heap.size, 1, none⟩ = some (Value.int IntKind.i64 q2) := (hb8.cell (p := ⟨w7.heap.size, 1, none⟩) (by show w7.heap.size < _; simp only [World.size_alloc]; omega)).trans (by simp [go_sem])
  have cY_8_2 : w8.cell? ⟨w7.heap.size, 2, none⟩ = some (Value.int IntKind.i64 q3) := (hb8.cell (p := ⟨w7.heap.size, 2, none⟩) (by show w7.heap.size < _; simp only [World.size_alloc]; omega)).trans (by simp [go_sem])
  have cY_8_3 : w8.cell? ⟨w7.heap.size, 3, none⟩ = some (Value.int IntKind.i64 q4) := (hb8.cell (p := ⟨w7.heap.size, 3, none⟩) (by show w7.heap.size < _; simp only [World.size_alloc]; omega)).trans (by simp [go_sem])
  have cY_8_4 : w8.cell? ⟨w7.heap.size, 4, none⟩ = some (Value.int IntKind.i64 q5) := (hb8.cell (p := ⟨w7.heap.size, 4, none⟩) (by show w7.heap.size < _; simp only [World.size_alloc]; omega)).trans (by simp [go_sem])
  have cY_8_5 : w8.cell? ⟨w7.heap.size, 5, none⟩ = some (Value.int IntKind.i64 q6) := (hb8.cell (p := ⟨w7.heap.size, 5, none⟩) (by show w7.heap.size < _; simp only [World.size_alloc]; omega)).trans (by simp [go_sem])
  clear kL_8 cL_7_0 cL_7_1 cL_7_2 cL_7_3 cM_7_0 cM_7_1 cM_7_2 cM_7_3 cM_7_4 cM_7_5 cM_7_6 cM_7_7 kP_8 cP_7_0 cP_7_1 cP_7_2 cP_7_3 cP_7_4 cP_7_5 kX_8 cX_7_0 cX_7_1 cX_7_2 cX_7_3 cX_7_4 cX_7_5 lL_7 lM_7 lP_7 lX_7 neL_7 neL_7b neL_7c neL_7d neM_7 neM_7b neM_7c neM_7d neP_7 neP_7b neP_7c neP_7d neX_7 neX_7b neX_7c neX_7d
  have neL_8 : w1.heap.size ≠ w8.heap.size := by omega
  have neL_8b : w1.heap.size ≠ w8.heap.size + 1 := by omega
  have neL_8c : w8.heap.size ≠ w1.heap.size := by omega
  have neL_8d : w8.heap.size + 1 ≠ w1.heap.size := by omega
  have neP_8 : w4.heap.size + 1 ≠ w8.heap.size := by omega
  have neP_8b : w4.heap.size + 1 ≠ w8.heap.size + 1 := by omega
  have neP_8c : w8.heap.size ≠ w4.heap.size + 1 := by omega
  have neP_8d : w8.heap.size + 1 ≠ w4.heap.size + 1 := by omega
  have neX_8 : w6.heap.size ≠ w8.heap.size := by omega
  have neX_8b : w6.heap.size ≠ w8.heap.size + 1 := by omega
  have neX_8c : w8.heap.size ≠ w6.heap.size := by omega
  have neX_8d : w8.heap.size + 1 ≠ w6.heap.size := by omega
  have neY_8 : w7.heap.size ≠ w8.heap.size := by omega
  have neY_8b : w7.heap.size ≠ w8.heap.size + 1 := by omega
  have neY_8c : w8.heap.size ≠ w7.heap.size := by omega
  have neY_8d : w8.heap.size + 1 ≠ w7.heap.size := by omega
  have p8 : w8.heap.size < w8.heap.size + 1 := by omega
  have rL_8 : w1.heap.size < w8.heap.size + 1 := by omega
  have rP_8 : w4.heap.size + 1 < w8.heap.size + 1 := by omega
  have rX_8 : w6.heap.size < w8.heap.size + 1 := by omega
  have rY_8 : w7.heap.size < w8.heap.size + 1 := by omega
  by_cases h0 : sd = 0
  · subst h0
    cases v2
    case false =>
      go_wp2_with fail
      refine wp_region_held_drew (S := fun w' => w'.cell? ⟨w1.heap.size, 0, none⟩ = some (Value.int IntKind.i64 e') ∧ w'.cell? ⟨w1.heap.size, 1, none⟩ = some (Value.int IntKind.i64 x) ∧ w'.cell? ⟨w1.heap.size, 2, none⟩ = some (Value.int IntKind.i64 y) ∧ w'.cell? ⟨w1.heap.size, 3, none⟩ = some (Value.int IntKind.i64 z) ∧ w'.cell? ⟨w4.heap.size + 1, 0, none⟩ = some (Value.int IntKind.i64 a) ∧ w'.cell? ⟨w4.heap.size + 1, 1, none⟩ = some (Value.int IntKind.i64 b) ∧ w'.cell? ⟨w4.heap.size + 1, 2, none⟩ = some (Value.int IntKind.i64 k) ∧ w'.cell? ⟨w4.heap.size + 1, 3, none⟩ = some (Value.int IntKind.i64 c) ∧ w'.cell? ⟨w4.heap.size + 1, 4, none⟩ = some (Value.int IntKind.i64 d) ∧ w'.cell? ⟨w4.heap.size + 1, 5, none⟩ = some (Value.int IntKind.i64 l) ∧ w'.cell? ⟨w6.heap.size, 0, none⟩ = some (Value.int IntKind.i64 q1) ∧ w'.cell? ⟨w6.heap.size, 1, none⟩ = some (Value.int IntKind.i64 q2) ∧ w'.cell? ⟨w6.heap.size, 2, none⟩ = some (Value.int IntKind.i64 q3) ∧ w'.cell? ⟨w6.heap.size, 3, none⟩ = some (Value.int IntKind.i64 q4) ∧ w'.cell? ⟨w6.heap.size, 4, none⟩ = some (Value.int IntKind.i64 q5) ∧ w'.cell? ⟨w6.heap.size, 5, none⟩ = some (Value.int IntKind.i64 q6) ∧ w'.cell? ⟨w7.heap.size, 0, none⟩ = some (Value.int IntKind.i64 q1) ∧ w'.cell? ⟨w7.heap.size, 1, none⟩ = some (Value.int IntKind.i64 q2) ∧ w'.cell? ⟨w7.heap.size, 2, none⟩ = some (Value.int IntKind.i64 q3) ∧ w'.cell? ⟨w7.heap.size, 3, none⟩ = some (Value.int IntKind.i64 q4) ∧ w'.cell? ⟨w7.heap.size, 4, none⟩ = some (Value.int IntKind.i64 q5) ∧ w'.cell? ⟨w7.heap.size, 5, none⟩ = some (Value.int IntKind.i64 q6) ∧ w'.cell? ⟨w8.heap.size, 0, none⟩ = some (Value.int IntKind.i64 0) ∧ w'.cell? ⟨w8.heap.size, 1, none⟩ = some (Value.bool false) ∧ w'.cell? ⟨w8.heap.size, 2, none⟩ = some (Value.int IntKind.i64 0) ∧ w'.cell? ⟨w8.heap.size, 3, none⟩ = some (Value.int IntKind.i64 0) ∧ w'.cell? ⟨w8.heap.size, 4, none⟩ = some (Value.int IntKind.i64 0) ∧ w'.cell? ⟨w8.heap.size, 5, none⟩ = some (Value.int IntKind.i64 0) ∧ w'.cell? ⟨w8.heap.size, 6, none⟩ = some (Value.int IntKind.i64 0) ∧ w'.cell? ⟨w8.heap.size, 7, none⟩ = some (Value.int IntKind.i64 0)) (by kernel_rfl) ?_ (fun hHeld0 => ?_)
      · (try dsimp only); (first | (go_simp; done) | (simp [*]; done))
      refine wpAnyH_take (i := 0) (oi := ({ dst := some 69, op := Op.move (Operand.tmp 13), type := 4, pos := "laws.go:1878", after := #[], guard := none } : Oper)) (v := ?_) rfl (by kernel_rfl) (by kernel_rfl) (by kernel_rfl) (fun _ _ _ h => h) (Or.inl ⟨by rfl, ?_⟩) (by assumption) ?_
      rotate_left
      · intro w' hSw; (try dsimp only at hSw); go_simp; (try with_reducible rfl)
      try simp only [Act.put, List.setIfInBounds_toArray, List.set_cons_zero, List.set_cons_succ]
      refine wpAnyH_take (i := 1) (oi := ({ dst := some 70, op := Op.move (Operand.tmp 15), type := 4, pos := "laws.go:1878", after := #[], guard := none } : Oper)) (v := ?_) rfl (by kernel_rfl) (by kernel_rfl) (by kernel_rfl) (fun _ _ _ h => h) (Or.inl ⟨by rfl, ?_⟩) (by assumption) ?_
      rotate_left
      · intro w' hSw; (try dsimp only at hSw); go_simp; (try with_reducible rfl)
      try simp only [Act.put, List.setIfInBounds_toArray, List.set_cons_zero, List.set_cons_succ]
      refine wpAnyH_take (i := 2) (oi := ({ dst := some 71, op := Op.binOp BinOp.eql 4 (Operand.tmp 69) (Operand.tmp 70) 4, type := 4, pos := "laws.go:1878", after := #[{ on := 0, ground := Ground.data }, { on := 1, ground := Ground.data }], guard := none } : Oper)) (v := ?_) rfl (by kernel_rfl) (by kernel_rfl) (by kernel_rfl) (fun _ _ _ h => h) (Or.inl ⟨by rfl, ?_⟩) (by assumption) ?_
      rotate_left
      · intro w' hSw; (try dsimp only at hSw); go_simp; (try with_reducible rfl)
      try simp only [Act.put, List.setIfInBounds_toArray, List.set_cons_zero, List.set_cons_succ]
      refine wpAnyH_take (i := 3) (oi := ({ dst := some 72, op := Op.move (Operand.tmp 71), type := 4, pos := "laws.go:1878", after := #[{ on := 2, ground := Ground.data }], guard := none } : Oper)) (v := ?_) rfl (by kernel_rfl) (by kernel_rfl) (by kernel_rfl) (fun _ _ _ h => h) (Or.inl ⟨by rfl, ?_⟩) (by assumption) ?_
      rotate_left
      · intro w' hSw; (try dsimp only at hSw); go_simp; (try with_reducible rfl)
      try simp only [Act.put, List.setIfInBounds_toArray, List.set_cons_zero, List.set_cons_succ]
      refine wpAnyH_take (i := 4) (oi := ({ dst := some 73, op := Op.load 34 (Operand.tmp 12), type := 34, pos := "laws.go:1878", after := #[{ on := 3, ground := Ground.guard }], guard := some (3, true) } : Oper)) (v := ?_) rfl (by kernel_rfl) (by kernel_rfl) (by kernel_rfl) (fun _ _ _ h => h) (Or.inl ⟨by rfl, ?_⟩) (by assumption) ?_
      rotate_left
      · intro w' hSw; (try dsimp only at hSw); go_simp; (try with_reducible rfl)
      try simp only [Act.put, List.setIfInBounds_toArray, List.set_cons_zero, List.set_cons_succ]
      refine wpAnyH_take (i := 5) (oi := ({ dst := some 74, op := Op.load 34 (Operand.tmp 14), type := 34, pos := "laws.go:1878", after := #[{ on := 3, ground := Ground.guard }], guard := some (3, true) } : Oper)) (v := ?_) rfl (by kernel_rfl) (by kernel_rfl) (by kernel_rfl) (fun _ _ _ h => h) (Or.inl ⟨by rfl, ?_⟩) (by assumption) ?_
      rotate_left
      · intro w' hSw; (try dsimp only at hSw); go_simp; (try with_reducible rfl)
      try simp only [Act.put, List.setIfInBounds_toArray, List.set_cons_zero, List.set_cons_succ]
      refine wpAnyH_take (i := 6) (oi := ({ dst := some 75, op := Op.binOp BinOp.eql 34 (Operand.tmp 73) (Operand.tmp 74) 34, type := 4, pos := "laws.go:1878", after := #[{ on := 4, ground := Ground.data }, { on := 5, ground := Ground.data }, { on := 3, ground := Ground.guard }], guard := some (3, true) } : Oper)) (v := ?_) rfl (by kernel_rfl) (by kernel_rfl) (by kernel_rfl) (fun _ _ _ h => h) (Or.inl ⟨by rfl, ?_⟩) (by assumption) ?_
      rotate_left
      · intro w' hSw; (try dsimp only at hSw); go_simp; (try with_reducible rfl)
      try simp only [Act.put, List.setIfInBounds_toArray, List.set_cons_zero, List.set_cons_succ]
      refine wpAnyH_take (i := 7) (oi := ({ dst := some 76, op := Op.pick (Operand.tmp 72) (Operand.tmp 75) (Operand.const (Value.bool false)), type := 4, pos := "laws.go:1878", after := #[{ on := 3, ground := Ground.data }, { on := 6, ground := Ground.data }], guard := none } : Oper)) (v := ?_) rfl (by kernel_rfl) (by kernel_rfl) (by kernel_rfl) (fun _ _ _ h => h) (Or.inl ⟨by rfl, ?_⟩) (by assumption) ?_
      rotate_left
      · intro w' hSw; (try dsimp only at hSw); go_simp; (try with_reducible rfl)
      try simp only [Act.put, List.setIfInBounds_toArray, List.set_cons_zero, List.set_cons_succ]
      refine wpAnyH_take (i := 8) (oi := ({ dst := some 77, op := Op.move (Operand.tmp 76), type := 4, pos := "laws.go:1878", after := #[{ on := 7, ground := Ground.data }, { on := 3, ground := Ground.chain }], guard := none } : Oper)) (v := ?_) rfl (by kernel_rfl) (by kernel_rfl) (by kernel_rfl) (fun _ _ _ h => h) (Or.inl ⟨by rfl, ?_⟩) (by assumption) ?_
      rotate_left
      · intro w' hSw; (try dsimp only at hSw); go_simp; (try with_reducible rfl)
      try simp only [Act.put, List.setIfInBounds_toArray, List.set_cons_zero, List.set_cons_succ]
      refine wpAnyH_take (i := 9) (oi := ({ dst := some 78, op := Op.move (Operand.tmp 17), type := 4, pos := "laws.go:1878", after := #[{ on := 8, ground := Ground.guard }], guard := some (8, true) } : Oper)) (v := ?_) rfl (by kernel_rfl) (by kernel_rfl) (by kernel_rfl) (fun _ _ _ h => h) (Or.inl ⟨by rfl, ?_⟩) (by assumption) ?_
      rotate_left
      · intro w' hSw; (try dsimp only at hSw); go_simp; (try with_reducible rfl)
      try simp only [Act.put, List.setIfInBounds_toArray, List.set_cons_zero, List.set_cons_succ]
      refine wpAnyH_take (i := 10) (oi := ({ dst := some 79, op := Op.pick (Operand.tmp 77) (Operand.tmp 78) (Operand.const (Value.bool false)), type := 4, pos := "laws.go:1878", after := #[{ on := 8, ground := Ground.data }, { on := 9, ground := Ground.data }], guard := none } : Oper)) (v := ?_) rfl (by kernel_rfl) (by kernel_rfl) (by kernel_rfl) (fun _ _ _ h => h) (Or.inl ⟨by rfl, ?_⟩) (by assumption) ?_
      rotate_left
      · intro w' hSw; (try dsimp only at hSw); go_simp; (try with_reducible rfl)
      try simp only [Act.put, List.setIfInBounds_toArray, List.set_cons_zero, List.set_cons_succ]
      refine wpAnyH_take (i := 11) (oi := ({ dst := some 80, op := Op.move (Operand.tmp 79), type := 4, pos := "laws.go:1878", after := #[{ on := 10, ground := Ground.data }, { on := 8, ground := Ground.chain }], guard := none } : Oper)) (v := ?_) rfl (by kernel_rfl) (by kernel_rfl) (by kernel_rfl) (fun _ _ _ h => h) (Or.inl ⟨by rfl, ?_⟩) (by assumption) ?_
      rotate_left
      · intro w' hSw; (try dsimp only at hSw); go_simp; (try with_reducible rfl)
      try simp only [Act.put, List.setIfInBounds_toArray, List.set_cons_zero, List.set_cons_succ]
      refine wpAnyH_take (i := 12) (oi := ({ dst := some 81, op := Op.load 30 (Operand.tmp 16), type := 30, pos := "laws.go:1878", after := #[{ on := 11, ground := Ground.guard }], guard := some (11, true) } : Oper)) (v := ?_) rfl (by kernel_rfl) (by kernel_rfl) (by kernel_rfl) (fun _ _ _ h => h) (Or.inl ⟨by rfl, ?_⟩) (by assumption) ?_
      rotate_left
      · intro w' hSw; (try dsimp only at hSw); go_simp; (try with_reducible rfl)
      try simp only [Act.put, List.setIfInBounds_toArray, List.set_cons_zero, List.set_cons_succ]
      refine wpAnyH_ready (rs := [13]) (by kernel_rfl) (by simp) ?_
      refine AllReadyH.cons (o := ({ dst := some 82, op := Op.call { callee := Callee.value (Operand.func 14), args := #[], argTypes := #[] }, type := 30, pos := "laws.go:1878", after := #[{ on := 11, ground := Ground.chain }, { on := 11, ground := Ground.guard }], guard := some (11, true) } : Oper)) rfl (fun K hK => ?_) AllReadyH.nil
      go_simp
      go_at_call 14
      refine (iId_any _).mono ?_
      rintro e w9 ⟨rfl, hb9⟩
      (try replace hb9 := Below.undrew hb9); obtain ⟨hc9, hf9⟩ := bcell hb9; have hz9 := hb9.size; (try simp at hz9); (have lL_9 : w1.heap.size < w9.heap.size := (by omega)); (have lP_9 : w4.heap.size + 1 < w9.heap.size := (by omega)); (have lX_9 : w6.heap.size < w9.heap.size := (by omega)); (have lY_9 : w7.heap.size < w9.heap.size := (by omega)); (have lC_9 : w8.heap.size < w9.heap.size := (by omega))
      go_wp2_with fail
      refine hK.out _ _ ?_ (fun hHeld9 => ?_)
      · (try dsimp only); (first | (go_simp; done) | (simp [*]; done))
      clear hK K
      try simp only [Act.put, List.setIfInBounds_toArray, List.set_cons_zero, List.set_cons_succ]
      refine wpAnyH_take (i := 14) (oi := ({ dst := some 83, op := Op.binOp BinOp.eql 30 (Operand.tmp 81) (Operand.tmp 82) 30, type := 4, pos := "laws.go:1878", after := #[{ on := 12, ground := Ground.data }, { on := 13, ground := Ground.data }, { on := 11, ground := Ground.guard }], guard := some (11, true) } : Oper)) (v := ?_) rfl (by kernel_rfl) (by kernel_rfl) (by kernel_rfl) (fun _ _ _ h => h) (Or.inl ⟨by rfl, ?_⟩) (by assumption) ?_
      rotate_left
      · intro w' hSw; (try dsimp only at hSw); go_simp; (try with_reducible rfl)
      try simp only [Act.put, List.setIfInBounds_toArray, List.set_cons_zero, List.set_cons_succ]
      refine wpAnyH_take (i := 15) (oi := ({ dst := some 84, op := Op.pick (Operand.tmp 80) (Operand.tmp 83) (Operand.const (Value.bool false)), type := 4, pos := "laws.go:1878", after := #[{ on := 11, ground := Ground.data }, { on := 14, ground := Ground.data }], guard := none } : Oper)) (v := ?_) rfl (by kernel_rfl) (by kernel_rfl) (by kernel_rfl) (fun _ _ _ h => h) (Or.inl ⟨by rfl, ?_⟩) (by assumption) ?_
      rotate_left
      · intro w' hSw; (try dsimp only at hSw); go_simp; (try with_reducible rfl)
      try simp only [Act.put, List.setIfInBounds_toArray, List.set_cons_zero, List.set_cons_succ]
      refine wpAnyH_take (i := 16) (oi := ({ dst := some 85, op := Op.move (Operand.tmp 84), type := 4, pos := "laws.go:1878", after := #[{ on := 15, ground := Ground.data }, { on := 13, ground := Ground.chain }], guard := none } : Oper)) (v := ?_) rfl (by kernel_rfl) (by kernel_rfl) (by kernel_rfl) (fun _ _ _ h => h) (Or.inl ⟨by rfl, ?_⟩) (by assumption) ?_
      rotate_left
      · intro w' hSw; (try dsimp only at hSw); go_simp; (try with_reducible rfl)
      try simp only [Act.put, List.setIfInBounds_toArray, List.set_cons_zero, List.set_cons_succ]
      refine wpAnyH_take (i := 17) (oi := ({ dst := some 86, op := Op.load 27 (Operand.tmp 5), type := 27, pos := "laws.go:1878", after := #[{ on := 16, ground := Ground.guard }], guard := some (16, true) } : Oper)) (v := ?_) rfl (by kernel_rfl) (by kernel_rfl) (by kernel_rfl) (fun _ _ _ h => h) (Or.inl ⟨by rfl, ?_⟩) (by assumption) ?_
      rotate_left
      · intro w' hSw; (try dsimp only at hSw); go_simp; (try with_reducible rfl)
      try simp only [Act.put, List.setIfInBounds_toArray, List.set_cons_zero, List.set_cons_succ]
      refine wpAnyH_take (i := 18) (oi := ({ dst := some 87, op := Op.load 34 (Operand.tmp 11), type := 34, pos := "laws.go:1878", after := #[{ on := 16, ground := Ground.guard }], guard := some (16, true) } : Oper)) (v := ?_) rfl (by kernel_rfl) (by kernel_rfl) (by kernel_rfl) (fun _ _ _ h => h) (Or.inl ⟨by rfl, ?_⟩) (by assumption) ?_
      rotate_left
      · intro w' hSw; (try dsimp only at hSw); go_simp; (try with_reducible rfl)
      try simp only [Act.put, List.setIfInBounds_toArray, List.set_cons_zero, List.set_cons_succ]
      refine wpAnyH_ready (rs := [19]) (by kernel_rfl) (by simp) ?_
      refine AllReadyH.cons (o := ({ dst := some 88, op := Op.call { callee := Callee.value (Operand.func 15), args := #[Operand.tmp 86, Operand.tmp 87], argTypes := #[27, 34] }, type := 2, pos := "laws.go:1878", after := #[{ on := 17, ground := Ground.data }, { on := 18, ground := Ground.data }, { on := 16, ground := Ground.chain }, { on := 16, ground := Ground.guard }], guard := some (16, true) } : Oper)) rfl (fun K hK => ?_) AllReadyH.nil
      go_simp
      go_at_call 15
      refine (KD.out _ ?_).mono ?_
      · exact LT.below (w := w) hT (by (repeat (first | with_reducible exact Below.refl _ _ | with_reducible assumption | with_reducible refine below_drewN ?_ _ | with_reducible refine Below.drew ?_ | with_reducible refine Below.alloc ?_ (by first | omega | (simp; done) | (simp; omega)) _ | with_reducible refine Below.setCell ?_ (by first | omega | (simp; done) | (simp; omega)) _ | with_reducible refine Below.trans ?_ (Below.mono (by assumption) (by first | omega | (simp; done) | (simp; omega)))))) (Nat.le_refl _)
      rintro e w10 ⟨rfl, hb10⟩
      (try replace hb10 := Below.undrew hb10); obtain ⟨hc10, hf10⟩ := bcell hb10; have hz10 := hb10.size; (try simp at hz10); (have lL_10 : w1.heap.size < w10.heap.size := (by omega)); (have lP_10 : w4.heap.size + 1 < w10.heap.size := (by omega)); (have lX_10 : w6.heap.size < w10.heap.size := (by omega)); (have lY_10 : w7.heap.size < w10.heap.size := (by omega)); (have lC_10 : w8.heap.size < w10.heap.size := (by omega))
      go_wp2_with fail
      refine hK.out _ _ ?_ (fun hHeld10 => ?_)
      · (try dsimp only); (first | (go_simp; done) | (simp [*]; done))
      clear hK K
      try simp only [Act.put, List.setIfInBounds_toArray, List.set_cons_zero, List.set_cons_succ]
      refine wpAnyH_take (i := 20) (oi := ({ dst := some 89, op := Op.binOp BinOp.neq 2 (Operand.tmp 88) (Operand.const (Value.int IntKind.i64 0)) 2, type := 4, pos := "laws.go:1878", after := #[{ on := 19, ground := Ground.data }, { on := 16, ground := Ground.guard }], guard := some (16, true) } : Oper)) (v := ?_) rfl (by kernel_rfl) (by kernel_rfl) (by kernel_rfl) (fun _ _ _ h => h) (Or.inl ⟨by rfl, ?_⟩) (by assumption) ?_
      rotate_left
      · intro w' hSw; (try dsimp only at hSw); go_simp; (try with_reducible rfl)
      try simp only [Act.put, List.setIfInBounds_toArray, List.set_cons_zero, List.set_cons_succ]
      refine wpAnyH_take (i := 21) (oi := ({ dst := some 90, op := Op.move (Operand.tmp 89), type := 4, pos := "laws.go:1878", after := #[{ on := 20, ground := Ground.data }, { on := 19, ground := Ground.chain }, { on := 16, ground := Ground.guard }], guard := some (16, true) } : Oper)) (v := ?_) rfl (by kernel_rfl) (by kernel_rfl) (by kernel_rfl) (fun _ _ _ h => h) (Or.inl ⟨by rfl, ?_⟩) (by assumption) ?_
      rotate_left
      · intro w' hSw; (try dsimp only at hSw); go_simp; (try with_reducible rfl)
      try simp only [Act.put, List.setIfInBounds_toArray, List.set_cons_zero, List.set_cons_succ]
      refine wpAnyH_take (i := 22) (oi := ({ dst := some 91, op := Op.move (Operand.tmp 13), type := 4, pos := "laws.go:1878", after := #[{ on := 21, ground := Ground.guard }], guard := some (21, false) } : Oper)) (v := ?_) rfl (by kernel_rfl) (by kernel_rfl) (by kernel_rfl) (fun _ _ _ h => h) (Or.inl ⟨by rfl, ?_⟩) (by assumption) ?_
      rotate_left
      · intro w' hSw; (try dsimp only at hSw); go_simp; (try with_reducible rfl)
      try simp only [Act.put, List.setIfInBounds_toArray, List.set_cons_zero, List.set_cons_succ]
      refine wpAnyH_take (i := 23) (oi := ({ dst := some 92, op := Op.unOp UnOp.not 4 (Operand.tmp 91), type := 4, pos := "laws.go:1878", after := #[{ on := 22, ground := Ground.data }, { on := 21, ground := Ground.guard }], guard := some (21, false) } : Oper)) (v := ?_) rfl (by kernel_rfl) (by kernel_rfl) (by kernel_rfl) (fun _ _ _ h => h) (Or.inl ⟨by rfl, ?_⟩) (by assumption) ?_
      rotate_left
      · intro w' hSw; (try dsimp only at hSw); go_simp; (try with_reducible rfl)
      try simp only [Act.put, List.setIfInBounds_toArray, List.set_cons_zero, List.set_cons_succ]
      refine wpAnyH_take (i := 24) (oi := ({ dst := some 93, op := Op.pick (Operand.tmp 90) (Operand.const (Value.bool true)) (Operand.tmp 92), type := 4, pos := "laws.go:1878", after := #[{ on := 21, ground := Ground.data }, { on := 23, ground := Ground.data }, { on := 16, ground := Ground.guard }], guard := some (16, true) } : Oper)) (v := ?_) rfl (by kernel_rfl) (by kernel_rfl) (by kernel_rfl) (fun _ _ _ h => h) (Or.inl ⟨by rfl, ?_⟩) (by assumption) ?_
      rotate_left
      · intro w' hSw; (try dsimp only at hSw); go_simp; (try with_reducible rfl)
      try simp only [Act.put, List.setIfInBounds_toArray, List.set_cons_zero, List.set_cons_succ]
      refine wpAnyH_take (i := 25) (oi := ({ dst := some 94, op := Op.move (Operand.tmp 93), type := 4, pos := "laws.go:1878", after := #[{ on := 24, ground := Ground.data }, { on := 21, ground := Ground.chain }, { on := 16, ground := Ground.guard }], guard := some (16, true) } : Oper)) (v := ?_) rfl (by kernel_rfl) (by kernel_rfl) (by kernel_rfl) (fun _ _ _ h => h) (Or.inl ⟨by rfl, ?_⟩) (by assumption) ?_
      rotate_left
      · intro w' hSw; (try dsimp only at hSw); go_simp; (try with_reducible rfl)
      try simp only [Act.put, List.setIfInBounds_toArray, List.set_cons_zero, List.set_cons_succ]
      refine wpAnyH_take (i := 26) (oi := ({ dst := some 95, op := Op.load 34 (Operand.tmp 12), type := 34, pos := "laws.go:1878", after := #[{ on := 25, ground := Ground.guard }], guard := some (25, false) } : Oper)) (v := undef) rfl (by kernel_rfl) (by kernel_rfl) (by kernel_rfl) (fun _ _ _ h => h) (Or.inr ⟨by rfl, rfl⟩) (by assumption) ?_
      try simp only [Act.put, List.setIfInBounds_toArray, List.set_cons_zero, List.set_cons_succ]
      refine wpAnyH_take (i := 27) (oi := ({ dst := some 96, op := Op.load 34 (Operand.tmp 11), type := 34, pos := "laws.go:1878", after := #[{ on := 25, ground := Ground.guard }], guard := some (25, false) } : Oper)) (v := undef) rfl (by kernel_rfl) (by kernel_rfl) (by kernel_rfl) (fun _ _ _ h => h) (Or.inr ⟨by rfl, rfl⟩) (by assumption) ?_
      try simp only [Act.put, List.setIfInBounds_toArray, List.set_cons_zero, List.set_cons_succ]
      refine wpAnyH_take (i := 28) (oi := ({ dst := some 97, op := Op.binOp BinOp.eql 34 (Operand.tmp 95) (Operand.tmp 96) 34, type := 4, pos := "laws.go:1878", after := #[{ on := 26, ground := Ground.data }, { on := 27, ground := Ground.data }, { on := 25, ground := Ground.guard }], guard := some (25, false) } : Oper)) (v := undef) rfl (by kernel_rfl) (by kernel_rfl) (by kernel_rfl) (fun _ _ _ h => h) (Or.inr ⟨by rfl, rfl⟩) (by assumption) ?_
      try simp only [Act.put, List.setIfInBounds_toArray, List.set_cons_zero, List.set_cons_succ]
      refine wpAnyH_take (i := 29) (oi := ({ dst := some 98, op := Op.pick (Operand.tmp 94) (Operand.const (Value.bool true)) (Operand.tmp 97), type := 4, pos := "laws.go:1878", after := #[{ on := 25, ground := Ground.data }, { on := 28, ground := Ground.data }, { on := 16, ground := Ground.guard }], guard := some (16, true) } : Oper)) (v := ?_) rfl (by kernel_rfl) (by kernel_rfl) (by kernel_rfl) (fun _ _ _ h => h) (Or.inl ⟨by rfl, ?_⟩) (by assumption) ?_
      rotate_left
      · intro w' hSw; (try dsimp only at hSw); go_simp; (try with_reducible rfl)
      try simp only [Act.put, List.setIfInBounds_toArray, List.set_cons_zero, List.set_cons_succ]
      refine wpAnyH_take (i := 30) (oi := ({ dst := some 99, op := Op.pick (Operand.tmp 85) (Operand.tmp 98) (Operand.const (Value.bool false)), type := 4, pos := "laws.go:1878", after := #[{ on := 16, ground := Ground.data }, { on := 29, ground := Ground.data }], guard := none } : Oper)) (v := ?_) rfl (by kernel_rfl) (by kernel_rfl) (by kernel_rfl) (fun _ _ _ h => h) (Or.inl ⟨by rfl, ?_⟩) (by assumption) ?_
      rotate_left
      · intro w' hSw; (try dsimp only at hSw); go_simp; (try with_reducible rfl)
      try simp only [Act.put, List.setIfInBounds_toArray, List.set_cons_zero, List.set_cons_succ]
      refine wpAnyH_take (i := 31) (oi := ({ dst := some 4, op := Op.assign (Operand.tmp 99), type := 4, pos := "laws.go:1878", after := #[{ on := 30, ground := Ground.data }, { on := 25, ground := Ground.chain }, { on := 0, ground := Ground.phase }, { on := 1, ground := Ground.phase }, { on := 2, ground := Ground.phase }, { on := 3, ground := Ground.phase }, { on := 4, ground := Ground.phase }, { on := 5, ground := Ground.phase }, { on := 6, ground := Ground.phase }, { on := 7, ground := Ground.phase }, { on := 8, ground := Ground.phase }, { on := 9, ground := Ground.phase }, { on := 10, ground := Ground.phase }, { on := 11, ground := Ground.phase }, { on := 12, ground := Ground.phase }, { on := 13, ground := Ground.phase }, { on := 14, ground := Ground.phase }, { on := 15, ground := Ground.phase }, { on := 16, ground := Ground.phase }, { on := 17, ground := Ground.phase }, { on := 18, ground := Ground.phase }, { on := 19, ground := Ground.phase }, { on := 20, ground := Ground.phase }, { on := 21, ground := Ground.phase }, { on := 22, ground := Ground.phase }, { on := 23, ground := Ground.phase }, { on := 24, ground := Ground.phase }, { on := 25, ground := Ground.phase }, { on := 26, ground := Ground.phase }, { on := 27, ground := Ground.phase }, { on := 28, ground := Ground.phase }, { on := 29, ground := Ground.phase }, { on := 30, ground := Ground.phase }], guard := none } : Oper)) (v := ?_) rfl (by kernel_rfl) (by kernel_rfl) (by kernel_rfl) (fun _ _ _ h => h) (Or.inl ⟨by rfl, ?_⟩) (by assumption) ?_
      rotate_left
      · intro w' hSw; (try dsimp only at hSw); go_simp; (try with_reducible rfl)
      try simp only [Act.put, List.setIfInBounds_toArray, List.set_cons_zero, List.set_cons_succ]
      refine wpAnyH_done (by kernel_rfl) ?_ _
      go_wp2_with fail
      go_ret
      exact ⟨rfl, by (repeat (first | with_reducible exact Below.refl _ _ | with_reducible assumption | with_reducible refine below_drewN ?_ _ | with_reducible refine Below.drew ?_ | with_reducible refine Below.alloc ?_ (by first | omega | (simp; done) | (simp; omega)) _ | with_reducible refine Below.setCell ?_ (by first | omega | (simp; done) | (simp; omega)) _ | with_reducible refine Below.trans ?_ (Below.mono (by assumption) (by first | omega | (simp; done) | (simp; omega)))))⟩
    obtain ⟨rfl, rfl, rfl, rfl, rfl, rfl⟩ := KE.out (by trivial) (by trivial)
    go_wp2_with fail
    refine wp_region_held_drew (S := fun w' => w'.cell? ⟨w1.heap.size, 0, none⟩ = some (Value.int IntKind.i64 e') ∧ w'.cell? ⟨w1.heap.size, 1, none⟩ = some (Value.int IntKind.i64 x) ∧ w'.cell? ⟨w1.heap.size, 2, none⟩ = some (Value.int IntKind.i64 y) ∧ w'.cell? ⟨w1.heap.size, 3, none⟩ = some (Value.int IntKind.i64 z) ∧ w'.cell? ⟨w4.heap.size + 1, 0, none⟩ = some (Value.int IntKind.i64 q1) ∧ w'.cell? ⟨w4.heap.size + 1, 1, none⟩ = some (Value.int IntKind.i64 q2) ∧ w'.cell? ⟨w4.heap.size + 1, 2, none⟩ = some (Value.int IntKind.i64 q3) ∧ w'.cell? ⟨w4.heap.size + 1, 3, none⟩ = some (Value.int IntKind.i64 q4) ∧ w'.cell? ⟨w4.heap.size + 1, 4, none⟩ = some (Value.int IntKind.i64 q5) ∧ w'.cell? ⟨w4.heap.size + 1, 5, none⟩ = some (Value.int IntKind.i64 q6) ∧ w'.cell? ⟨w6.heap.size, 0, none⟩ = some (Value.int IntKind.i64 q1) ∧ w'.cell? ⟨w6.heap.size, 1, none⟩ = some (Value.int IntKind.i64 q2) ∧ w'.cell? ⟨w6.heap.size, 2, none⟩ = some (Value.int IntKind.i64 q3) ∧ w'.cell? ⟨w6.heap.size, 3, none⟩ = some (Value.int IntKind.i64 q4) ∧ w'.cell? ⟨w6.heap.size, 4, none⟩ = some (Value.int IntKind.i64 q5) ∧ w'.cell? ⟨w6.heap.size, 5, none⟩ = some (Value.int IntKind.i64 q6) ∧ w'.cell? ⟨w7.heap.size, 0, none⟩ = some (Value.int IntKind.i64 q1) ∧ w'.cell? ⟨w7.heap.size, 1, none⟩ = some (Value.int IntKind.i64 q2) ∧ w'.cell? ⟨w7.heap.size, 2, none⟩ = some (Value.int IntKind.i64 q3) ∧ w'.cell? ⟨w7.heap.size, 3, none⟩ = some (Value.int IntKind.i64 q4) ∧ w'.cell? ⟨w7.heap.size, 4, none⟩ = some (Value.int IntKind.i64 q5) ∧ w'.cell? ⟨w7.heap.size, 5, none⟩ = some (Value.int IntKind.i64 q6) ∧ w'.cell? ⟨w8.heap.size, 0, none⟩ = some (Value.int IntKind.i64 0) ∧ w'.cell? ⟨w8.heap.size, 1, none⟩ = some (Value.bool false) ∧ w'.cell? ⟨w8.heap.size, 2, none⟩ = some (Value.int IntKind.i64 0) ∧ w'.cell? ⟨w8.heap.size, 3, none⟩ = some (Value.int IntKind.i64 0) ∧ w'.cell? ⟨w8.heap.size, 4, none⟩ = some (Value.int IntKind.i64 0) ∧ w'.cell? ⟨w8.heap.size, 5, none⟩ = some (Value.int IntKind.i64 0) ∧ w'.cell? ⟨w8.heap.size, 6, none⟩ = some (Value.int IntKind.i64 0) ∧ w'.cell? ⟨w8.heap.size, 7, none⟩ = some (Value.int IntKind.i64 0)) (by kernel_rfl) ?_ (fun hHeld0 => ?_)
    · (try dsimp only); (first | (go_simp; done) | (simp [*]; done))
    refine wpAnyH_take (i := 0) (oi := ({ dst := some 69, op := Op.move (Operand.tmp 13), type := 4, pos := "laws.go:1878", after := #[], guard := none } : Oper)) (v := ?_) rfl (by kernel_rfl) (by kernel_rfl) (by kernel_rfl) (fun _ _ _ h => h) (Or.inl ⟨by rfl, ?_⟩) (by assumption) ?_
    rotate_left
    · intro w' hSw; (try dsimp only at hSw); go_simp; (try with_reducible rfl)
    try simp only [Act.put, List.setIfInBounds_toArray, List.set_cons_zero, List.set_cons_succ]
    refine wpAnyH_take (i := 1) (oi := ({ dst := some 70, op := Op.move (Operand.tmp 15), type := 4, pos := "laws.go:1878", after := #[], guard := none } : Oper)) (v := ?_) rfl (by kernel_rfl) (by kernel_rfl) (by kernel_rfl) (fun _ _ _ h => h) (Or.inl ⟨by rfl, ?_⟩) (by assumption) ?_
    rotate_left
    · intro w' hSw; (try dsimp only at hSw); go_simp; (try with_reducible rfl)
    try simp only [Act.put, List.setIfInBounds_toArray, List.set_cons_zero, List.set_cons_succ]
    refine wpAnyH_take (i := 2) (oi := ({ dst := some 71, op := Op.binOp BinOp.eql 4 (Operand.tmp 69) (Operand.tmp 70) 4, type := 4, pos := "laws.go:1878", after := #[{ on := 0, ground := Ground.data }, { on := 1, ground := Ground.data }], guard := none } : Oper)) (v := ?_) rfl (by kernel_rfl) (by kernel_rfl) (by kernel_rfl) (fun _ _ _ h => h) (Or.inl ⟨by rfl, ?_⟩) (by assumption) ?_
    rotate_left
    · intro w' hSw; (try dsimp only at hSw); go_simp; (try with_reducible rfl)
    try simp only [Act.put, List.setIfInBounds_toArray, List.set_cons_zero, List.set_cons_succ]
    refine wpAnyH_take (i := 3) (oi := ({ dst := some 72, op := Op.move (Operand.tmp 71), type := 4, pos := "laws.go:1878", after := #[{ on := 2, ground := Ground.data }], guard := none } : Oper)) (v := ?_) rfl (by kernel_rfl) (by kernel_rfl) (by kernel_rfl) (fun _ _ _ h => h) (Or.inl ⟨by rfl, ?_⟩) (by assumption) ?_
    rotate_left
    · intro w' hSw; (try dsimp only at hSw); go_simp; (try with_reducible rfl)
    try simp only [Act.put, List.setIfInBounds_toArray, List.set_cons_zero, List.set_cons_succ]
    refine wpAnyH_take (i := 4) (oi := ({ dst := some 73, op := Op.load 34 (Operand.tmp 12), type := 34, pos := "laws.go:1878", after := #[{ on := 3, ground := Ground.guard }], guard := some (3, true) } : Oper)) (v := ?_) rfl (by kernel_rfl) (by kernel_rfl) (by kernel_rfl) (fun _ _ _ h => h) (Or.inl ⟨by rfl, ?_⟩) (by assumption) ?_
    rotate_left
    · intro w' hSw; (try dsimp only at hSw); go_simp; (try with_reducible rfl)
    try simp only [Act.put, List.setIfInBounds_toArray, List.set_cons_zero, List.set_cons_succ]
    refine wpAnyH_take (i := 5) (oi := ({ dst := some 74, op := Op.load 34 (Operand.tmp 14), type := 34, pos := "laws.go:1878", after := #[{ on := 3, ground := Ground.guard }], guard := some (3, true) } : Oper)) (v := ?_) rfl (by kernel_rfl) (by kernel_rfl) (by kernel_rfl) (fun _ _ _ h => h) (Or.inl ⟨by rfl, ?_⟩) (by assumption) ?_
    rotate_left
    · intro w' hSw; (try dsimp only at hSw); go_simp; (try with_reducible rfl)
    try simp only [Act.put, List.setIfInBounds_toArray, List.set_cons_zero, List.set_cons_succ]
    refine wpAnyH_take (i := 6) (oi := ({ dst := some 75, op := Op.binOp BinOp.eql 34 (Operand.tmp 73) (Operand.tmp 74) 34, type := 4, pos := "laws.go:1878", after := #[{ on := 4, ground := Ground.data }, { on := 5, ground := Ground.data }, { on := 3, ground := Ground.guard }], guard := some (3, true) } : Oper)) (v := ?_) rfl (by kernel_rfl) (by kernel_rfl) (by kernel_rfl) (fun _ _ _ h => h) (Or.inl ⟨by rfl, ?_⟩) (by assumption) ?_
    rotate_left
    · intro w' hSw; (try dsimp only at hSw); go_simp; (try with_reducible rfl)
    try simp only [Act.put, List.setIfInBounds_toArray, List.set_cons_zero, List.set_cons_succ]
    refine wpAnyH_take (i := 7) (oi := ({ dst := some 76, op := Op.pick (Operand.tmp 72) (Operand.tmp 75) (Operand.const (Value.bool false)), type := 4, pos := "laws.go:1878", after := #[{ on := 3, ground := Ground.data }, { on := 6, ground := Ground.data }], guard := none } : Oper)) (v := ?_) rfl (by kernel_rfl) (by kernel_rfl) (by kernel_rfl) (fun _ _ _ h => h) (Or.inl ⟨by rfl, ?_⟩) (by assumption) ?_
    rotate_left
    · intro w' hSw; (try dsimp only at hSw); go_simp; (try with_reducible rfl)
    try simp only [Act.put, List.setIfInBounds_toArray, List.set_cons_zero, List.set_cons_succ]
    refine wpAnyH_take (i := 8) (oi := ({ dst := some 77, op := Op.move (Operand.tmp 76), type := 4, pos := "laws.go:1878", after := #[{ on := 7, ground := Ground.data }, { on := 3, ground := Ground.chain }], guard := none } : Oper)) (v := ?_) rfl (by kernel_rfl) (by kernel_rfl) (by kernel_rfl) (fun _ _ _ h => h) (Or.inl ⟨by rfl, ?_⟩) (by assumption) ?_
    rotate_left
    · intro w' hSw; (try dsimp only at hSw); go_simp; (try with_reducible rfl)
    try simp only [Act.put, List.setIfInBounds_toArray, List.set_cons_zero, List.set_cons_succ]
    refine wpAnyH_take (i := 9) (oi := ({ dst := some 78, op := Op.move (Operand.tmp 17), type := 4, pos := "laws.go:1878", after := #[{ on := 8, ground := Ground.guard }], guard := some (8, true) } : Oper)) (v := ?_) rfl (by kernel_rfl) (by kernel_rfl) (by kernel_rfl) (fun _ _ _ h => h) (Or.inl ⟨by rfl, ?_⟩) (by assumption) ?_
    rotate_left
    · intro w' hSw; (try dsimp only at hSw); go_simp; (try with_reducible rfl)
    try simp only [Act.put, List.setIfInBounds_toArray, List.set_cons_zero, List.set_cons_succ]
    refine wpAnyH_take (i := 10) (oi := ({ dst := some 79, op := Op.pick (Operand.tmp 77) (Operand.tmp 78) (Operand.const (Value.bool false)), type := 4, pos := "laws.go:1878", after := #[{ on := 8, ground := Ground.data }, { on := 9, ground := Ground.data }], guard := none } : Oper)) (v := ?_) rfl (by kernel_rfl) (by kernel_rfl) (by kernel_rfl) (fun _ _ _ h => h) (Or.inl ⟨by rfl, ?_⟩) (by assumption) ?_
    rotate_left
    · intro w' hSw; (try dsimp only at hSw); go_simp; (try with_reducible rfl)
    try simp only [Act.put, List.setIfInBounds_toArray, List.set_cons_zero, List.set_cons_succ]
    refine wpAnyH_take (i := 11) (oi := ({ dst := some 80, op := Op.move (Operand.tmp 79), type := 4, pos := "laws.go:1878", after := #[{ on := 10, ground := Ground.data }, { on := 8, ground := Ground.chain }], guard := none } : Oper)) (v := ?_) rfl (by kernel_rfl) (by kernel_rfl) (by kernel_rfl) (fun _ _ _ h => h) (Or.inl ⟨by rfl, ?_⟩) (by assumption) ?_
    rotate_left
    · intro w' hSw; (try dsimp only at hSw); go_simp; (try with_reducible rfl)
    try simp only [Act.put, List.setIfInBounds_toArray, List.set_cons_zero, List.set_cons_succ]
    refine wpAnyH_take (i := 12) (oi := ({ dst := some 81, op := Op.load 30 (Operand.tmp 16), type := 30, pos := "laws.go:1878", after := #[{ on := 11, ground := Ground.guard }], guard := some (11, true) } : Oper)) (v := ?_) rfl (by kernel_rfl) (by kernel_rfl) (by kernel_rfl) (fun _ _ _ h => h) (Or.inl ⟨by rfl, ?_⟩) (by assumption) ?_
    rotate_left
    · intro w' hSw; (try dsimp only at hSw); go_simp; (try with_reducible rfl)
    try simp only [Act.put, List.setIfInBounds_toArray, List.set_cons_zero, List.set_cons_succ]
    refine wpAnyH_ready (rs := [13]) (by kernel_rfl) (by simp) ?_
    refine AllReadyH.cons (o := ({ dst := some 82, op := Op.call { callee := Callee.value (Operand.func 14), args := #[], argTypes := #[] }, type := 30, pos := "laws.go:1878", after := #[{ on := 11, ground := Ground.chain }, { on := 11, ground := Ground.guard }], guard := some (11, true) } : Oper)) rfl (fun K hK => ?_) AllReadyH.nil
    go_simp
    go_at_call 14
    refine (iId_any _).mono ?_
    rintro e w9 ⟨rfl, hb9⟩
    (try replace hb9 := Below.undrew hb9); obtain ⟨hc9, hf9⟩ := bcell hb9; have hz9 := hb9.size; (try simp at hz9); (have lL_9 : w1.heap.size < w9.heap.size := (by omega)); (have lP_9 : w4.heap.size + 1 < w9.heap.size := (by omega)); (have lX_9 : w6.heap.size < w9.heap.size := (by omega)); (have lY_9 : w7.heap.size < w9.heap.size := (by omega)); (have lC_9 : w8.heap.size < w9.heap.size := (by omega))
    go_wp2_with fail
    refine hK.out _ _ ?_ (fun hHeld9 => ?_)
    · (try dsimp only); (first | (go_simp; done) | (simp [*]; done))
    clear hK K
    try simp only [Act.put, List.setIfInBounds_toArray, List.set_cons_zero, List.set_cons_succ]
    refine wpAnyH_take (i := 14) (oi := ({ dst := some 83, op := Op.binOp BinOp.eql 30 (Operand.tmp 81) (Operand.tmp 82) 30, type := 4, pos := "laws.go:1878", after := #[{ on := 12, ground := Ground.data }, { on := 13, ground := Ground.data }, { on := 11, ground := Ground.guard }], guard := some (11, true) } : Oper)) (v := ?_) rfl (by kernel_rfl) (by kernel_rfl) (by kernel_rfl) (fun _ _ _ h => h) (Or.inl ⟨by rfl, ?_⟩) (by assumption) ?_
    rotate_left
    · intro w' hSw; (try dsimp only at hSw); go_simp; (try with_reducible rfl)
    try simp only [Act.put, List.setIfInBounds_toArray, List.set_cons_zero, List.set_cons_succ]
    refine wpAnyH_take (i := 15) (oi := ({ dst := some 84, op := Op.pick (Operand.tmp 80) (Operand.tmp 83) (Operand.const (Value.bool false)), type := 4, pos := "laws.go:1878", after := #[{ on := 11, ground := Ground.data }, { on := 14, ground := Ground.data }], guard := none } : Oper)) (v := ?_) rfl (by kernel_rfl) (by kernel_rfl) (by kernel_rfl) (fun _ _ _ h => h) (Or.inl ⟨by rfl, ?_⟩) (by assumption) ?_
    rotate_left
    · intro w' hSw; (try dsimp only at hSw); go_simp; (try with_reducible rfl)
    try simp only [Act.put, List.setIfInBounds_toArray, List.set_cons_zero, List.set_cons_succ]
    refine wpAnyH_take (i := 16) (oi := ({ dst := some 85, op := Op.move (Operand.tmp 84), type := 4, pos := "laws.go:1878", after := #[{ on := 15, ground := Ground.data }, { on := 13, ground := Ground.chain }], guard := none } : Oper)) (v := ?_) rfl (by kernel_rfl) (by kernel_rfl) (by kernel_rfl) (fun _ _ _ h => h) (Or.inl ⟨by rfl, ?_⟩) (by assumption) ?_
    rotate_left
    · intro w' hSw; (try dsimp only at hSw); go_simp; (try with_reducible rfl)
    try simp only [Act.put, List.setIfInBounds_toArray, List.set_cons_zero, List.set_cons_succ]
    refine wpAnyH_take (i := 17) (oi := ({ dst := some 86, op := Op.load 27 (Operand.tmp 5), type := 27, pos := "laws.go:1878", after := #[{ on := 16, ground := Ground.guard }], guard := some (16, true) } : Oper)) (v := ?_) rfl (by kernel_rfl) (by kernel_rfl) (by kernel_rfl) (fun _ _ _ h => h) (Or.inl ⟨by rfl, ?_⟩) (by assumption) ?_
    rotate_left
    · intro w' hSw; (try dsimp only at hSw); go_simp; (try with_reducible rfl)
    try simp only [Act.put, List.setIfInBounds_toArray, List.set_cons_zero, List.set_cons_succ]
    refine wpAnyH_take (i := 18) (oi := ({ dst := some 87, op := Op.load 34 (Operand.tmp 11), type := 34, pos := "laws.go:1878", after := #[{ on := 16, ground := Ground.guard }], guard := some (16, true) } : Oper)) (v := ?_) rfl (by kernel_rfl) (by kernel_rfl) (by kernel_rfl) (fun _ _ _ h => h) (Or.inl ⟨by rfl, ?_⟩) (by assumption) ?_
    rotate_left
    · intro w' hSw; (try dsimp only at hSw); go_simp; (try with_reducible rfl)
    try simp only [Act.put, List.setIfInBounds_toArray, List.set_cons_zero, List.set_cons_succ]
    refine wpAnyH_ready (rs := [19]) (by kernel_rfl) (by simp) ?_
    refine AllReadyH.cons (o := ({ dst := some 88, op := Op.call { callee := Callee.value (Operand.func 15), args := #[Operand.tmp 86, Operand.tmp 87], argTypes := #[27, 34] }, type := 2, pos := "laws.go:1878", after := #[{ on := 17, ground := Ground.data }, { on := 18, ground := Ground.data }, { on := 16, ground := Ground.chain }, { on := 16, ground := Ground.guard }], guard := some (16, true) } : Oper)) rfl (fun K hK => ?_) AllReadyH.nil
    go_simp
    go_at_call 15
    refine (KD.out _ ?_).mono ?_
    · exact LT.below (w := w) hT (by (repeat (first | with_reducible exact Below.refl _ _ | with_reducible assumption | with_reducible refine below_drewN ?_ _ | with_reducible refine Below.drew ?_ | with_reducible refine Below.alloc ?_ (by first | omega | (simp; done) | (simp; omega)) _ | with_reducible refine Below.setCell ?_ (by first | omega | (simp; done) | (simp; omega)) _ | with_reducible refine Below.trans ?_ (Below.mono (by assumption) (by first | omega | (simp; done) | (simp; omega)))))) (Nat.le_refl _)
    rintro e w10 ⟨rfl, hb10⟩
    (try replace hb10 := Below.undrew hb10); obtain ⟨hc10, hf10⟩ := bcell hb10; have hz10 := hb10.size; (try simp at hz10); (have lL_10 : w1.heap.size < w10.heap.size := (by omega)); (have lP_10 : w4.heap.size + 1 < w10.heap.size := (by omega)); (have lX_10 : w6.heap.size < w10.heap.size := (by omega)); (have lY_10 : w7.heap.size < w10.heap.size := (by omega)); (have lC_10 : w8.heap.size < w10.heap.size := (by omega))
    go_wp2_with fail
    refine hK.out _ _ ?_ (fun hHeld10 => ?_)
    · (try dsimp only); (first | (go_simp; done) | (simp [*]; done))
    clear hK K
    try simp only [Act.put, List.setIfInBounds_toArray, List.set_cons_zero, List.set_cons_succ]
    refine wpAnyH_take (i := 20) (oi := ({ dst := some 89, op := Op.binOp BinOp.neq 2 (Operand.tmp 88) (Operand.const (Value.int IntKind.i64 0)) 2, type := 4, pos := "laws.go:1878", after := #[{ on := 19, ground := Ground.data }, { on := 16, ground := Ground.guard }], guard := some (16, true) } : Oper)) (v := ?_) rfl (by kernel_rfl) (by kernel_rfl) (by kernel_rfl) (fun _ _ _ h => h) (Or.inl ⟨by rfl, ?_⟩) (by assumption) ?_
    rotate_left
    · intro w' hSw; (try dsimp only at hSw); go_simp; (try with_reducible rfl)
    try simp only [Act.put, List.setIfInBounds_toArray, List.set_cons_zero, List.set_cons_succ]
    refine wpAnyH_take (i := 21) (oi := ({ dst := some 90, op := Op.move (Operand.tmp 89), type := 4, pos := "laws.go:1878", after := #[{ on := 20, ground := Ground.data }, { on := 19, ground := Ground.chain }, { on := 16, ground := Ground.guard }], guard := some (16, true) } : Oper)) (v := ?_) rfl (by kernel_rfl) (by kernel_rfl) (by kernel_rfl) (fun _ _ _ h => h) (Or.inl ⟨by rfl, ?_⟩) (by assumption) ?_
    rotate_left
    · intro w' hSw; (try dsimp only at hSw); go_simp; (try with_reducible rfl)
    try simp only [Act.put, List.setIfInBounds_toArray, List.set_cons_zero, List.set_cons_succ]
    refine wpAnyH_take (i := 22) (oi := ({ dst := some 91, op := Op.move (Operand.tmp 13), type := 4, pos := "laws.go:1878", after := #[{ on := 21, ground := Ground.guard }], guard := some (21, false) } : Oper)) (v := ?_) rfl (by kernel_rfl) (by kernel_rfl) (by kernel_rfl) (fun _ _ _ h => h) (Or.inl ⟨by rfl, ?_⟩) (by assumption) ?_
    rotate_left
    · intro w' hSw; (try dsimp only at hSw); go_simp; (try with_reducible rfl)
    try simp only [Act.put, List.setIfInBounds_toArray, List.set_cons_zero, List.set_cons_succ]
    refine wpAnyH_take (i := 23) (oi := ({ dst := some 92, op := Op.unOp UnOp.not 4 (Operand.tmp 91), type := 4, pos := "laws.go:1878", after := #[{ on := 22, ground := Ground.data }, { on := 21, ground := Ground.guard }], guard := some (21, false) } : Oper)) (v := ?_) rfl (by kernel_rfl) (by kernel_rfl) (by kernel_rfl) (fun _ _ _ h => h) (Or.inl ⟨by rfl, ?_⟩) (by assumption) ?_
    rotate_left
    · intro w' hSw; (try dsimp only at hSw); go_simp; (try with_reducible rfl)
    try simp only [Act.put, List.setIfInBounds_toArray, List.set_cons_zero, List.set_cons_succ]
    refine wpAnyH_take (i := 24) (oi := ({ dst := some 93, op := Op.pick (Operand.tmp 90) (Operand.const (Value.bool true)) (Operand.tmp 92), type := 4, pos := "laws.go:1878", after := #[{ on := 21, ground := Ground.data }, { on := 23, ground := Ground.data }, { on := 16, ground := Ground.guard }], guard := some (16, true) } : Oper)) (v := ?_) rfl (by kernel_rfl) (by kernel_rfl) (by kernel_rfl) (fun _ _ _ h => h) (Or.inl ⟨by rfl, ?_⟩) (by assumption) ?_
    rotate_left
    · intro w' hSw; (try dsimp only at hSw); go_simp; (try with_reducible rfl)
    try simp only [Act.put, List.setIfInBounds_toArray, List.set_cons_zero, List.set_cons_succ]
    refine wpAnyH_take (i := 25) (oi := ({ dst := some 94, op := Op.move (Operand.tmp 93), type := 4, pos := "laws.go:1878", after := #[{ on := 24, ground := Ground.data }, { on := 21, ground := Ground.chain }, { on := 16, ground := Ground.guard }], guard := some (16, true) } : Oper)) (v := ?_) rfl (by kernel_rfl) (by kernel_rfl) (by kernel_rfl) (fun _ _ _ h => h) (Or.inl ⟨by rfl, ?_⟩) (by assumption) ?_
    rotate_left
    · intro w' hSw; (try dsimp only at hSw); go_simp; (try with_reducible rfl)
    try simp only [Act.put, List.setIfInBounds_toArray, List.set_cons_zero, List.set_cons_succ]
    refine wpAnyH_take (i := 26) (oi := ({ dst := some 95, op := Op.load 34 (Operand.tmp 12), type := 34, pos := "laws.go:1878", after := #[{ on := 25, ground := Ground.guard }], guard := some (25, false) } : Oper)) (v := ?_) rfl (by kernel_rfl) (by kernel_rfl) (by kernel_rfl) (fun _ _ _ h => h) (Or.inl ⟨by rfl, ?_⟩) (by assumption) ?_
    rotate_left
    · intro w' hSw; (try dsimp only at hSw); go_simp; (try with_reducible rfl)
    try simp only [Act.put, List.setIfInBounds_toArray, List.set_cons_zero, List.set_cons_succ]
    refine wpAnyH_take (i := 27) (oi := ({ dst := some 96, op := Op.load 34 (Operand.tmp 11), type := 34, pos := "laws.go:1878", after := #[{ on := 25, ground := Ground.guard }], guard := some (25, false) } : Oper)) (v := ?_) rfl (by kernel_rfl) (by kernel_rfl) (by kernel_rfl) (fun _ _ _ h => h) (Or.inl ⟨by rfl, ?_⟩) (by assumption) ?_
    rotate_left
    · intro w' hSw; (try dsimp only at hSw); go_simp; (try with_reducible rfl)
    try simp only [Act.put, List.setIfInBounds_toArray, List.set_cons_zero, List.set_cons_succ]
    refine wpAnyH_take (i := 28) (oi := ({ dst := some 97, op := Op.binOp BinOp.eql 34 (Operand.tmp 95) (Operand.tmp 96) 34, type := 4, pos := "laws.go:1878", after := #[{ on := 26, ground := Ground.data }, { on := 27, ground := Ground.data }, { on := 25, ground := Ground.guard }], guard := some (25, false) } : Oper)) (v := ?_) rfl (by kernel_rfl) (by kernel_rfl) (by kernel_rfl) (fun _ _ _ h => h) (Or.inl ⟨by rfl, ?_⟩) (by assumption) ?_
    rotate_left
    · intro w' hSw; (try dsimp only at hSw); go_simp; (try with_reducible rfl)
    try simp only [Act.put, List.setIfInBounds_toArray, List.set_cons_zero, List.set_cons_succ]
    refine wpAnyH_take (i := 29) (oi := ({ dst := some 98, op := Op.pick (Operand.tmp 94) (Operand.const (Value.bool true)) (Operand.tmp 97), type := 4, pos := "laws.go:1878", after := #[{ on := 25, ground := Ground.data }, { on := 28, ground := Ground.data }, { on := 16, ground := Ground.guard }], guard := some (16, true) } : Oper)) (v := ?_) rfl (by kernel_rfl) (by kernel_rfl) (by kernel_rfl) (fun _ _ _ h => h) (Or.inl ⟨by rfl, ?_⟩) (by assumption) ?_
    rotate_left
    · intro w' hSw; (try dsimp only at hSw); go_simp; (try with_reducible rfl)
    try simp only [Act.put, List.setIfInBounds_toArray, List.set_cons_zero, List.set_cons_succ]
    refine wpAnyH_take (i := 30) (oi := ({ dst := some 99, op := Op.pick (Operand.tmp 85) (Operand.tmp 98) (Operand.const (Value.bool false)), type := 4, pos := "laws.go:1878", after := #[{ on := 16, ground := Ground.data }, { on := 29, ground := Ground.data }], guard := none } : Oper)) (v := ?_) rfl (by kernel_rfl) (by kernel_rfl) (by kernel_rfl) (fun _ _ _ h => h) (Or.inl ⟨by rfl, ?_⟩) (by assumption) ?_
    rotate_left
    · intro w' hSw; (try dsimp only at hSw); go_simp; (try with_reducible rfl)
    try simp only [Act.put, List.setIfInBounds_toArray, List.set_cons_zero, List.set_cons_succ]
    refine wpAnyH_take (i := 31) (oi := ({ dst := some 4, op := Op.assign (Operand.tmp 99), type := 4, pos := "laws.go:1878", after := #[{ on := 30, ground := Ground.data }, { on := 25, ground := Ground.chain }, { on := 0, ground := Ground.phase }, { on := 1, ground := Ground.phase }, { on := 2, ground := Ground.phase }, { on := 3, ground := Ground.phase }, { on := 4, ground := Ground.phase }, { on := 5, ground := Ground.phase }, { on := 6, ground := Ground.phase }, { on := 7, ground := Ground.phase }, { on := 8, ground := Ground.phase }, { on := 9, ground := Ground.phase }, { on := 10, ground := Ground.phase }, { on := 11, ground := Ground.phase }, { on := 12, ground := Ground.phase }, { on := 13, ground := Ground.phase }, { on := 14, ground := Ground.phase }, { on := 15, ground := Ground.phase }, { on := 16, ground := Ground.phase }, { on := 17, ground := Ground.phase }, { on := 18, ground := Ground.phase }, { on := 19, ground := Ground.phase }, { on := 20, ground := Ground.phase }, { on := 21, ground := Ground.phase }, { on := 22, ground := Ground.phase }, { on := 23, ground := Ground.phase }, { on := 24, ground := Ground.phase }, { on := 25, ground := Ground.phase }, { on := 26, ground := Ground.phase }, { on := 27, ground := Ground.phase }, { on := 28, ground := Ground.phase }, { on := 29, ground := Ground.phase }, { on := 30, ground := Ground.phase }], guard := none } : Oper)) (v := ?_) rfl (by kernel_rfl) (by kernel_rfl) (by kernel_rfl) (fun _ _ _ h => h) (Or.inl ⟨by rfl, ?_⟩) (by assumption) ?_
    rotate_left
    · intro w' hSw; (try dsimp only at hSw); go_simp; (try with_reducible rfl)
    try simp only [Act.put, List.setIfInBounds_toArray, List.set_cons_zero, List.set_cons_succ]
    refine wpAnyH_done (by kernel_rfl) ?_ _
    go_wp2_with fail
    go_ret
    exact ⟨rfl, by (repeat (first | with_reducible exact Below.refl _ _ | with_reducible assumption | with_reducible refine below_drewN ?_ _ | with_reducible refine Below.drew ?_ | with_reducible refine Below.alloc ?_ (by first | omega | (simp; done) | (simp; omega)) _ | with_reducible refine Below.setCell ?_ (by first | omega | (simp; done) | (simp; omega)) _ | with_reducible refine Below.trans ?_ (Below.mono (by assumption) (by first | omega | (simp; done) | (simp; omega)))))⟩
  · have hs0 : (sd == 0) = false := by simp [h0]
    have hs1 : (sd != 0) = true := by simp [h0]
    go_wp2_with fail
    refine wp_region_held_drew (S := fun w' => w'.cell? ⟨w1.heap.size, 0, none⟩ = some (Value.int IntKind.i64 e') ∧ w'.cell? ⟨w1.heap.size, 1, none⟩ = some (Value.int IntKind.i64 x) ∧ w'.cell? ⟨w1.heap.size, 2, none⟩ = some (Value.int IntKind.i64 y) ∧ w'.cell? ⟨w1.heap.size, 3, none⟩ = some (Value.int IntKind.i64 z) ∧ w'.cell? ⟨w4.heap.size + 1, 0, none⟩ = some (Value.int IntKind.i64 a) ∧ w'.cell? ⟨w4.heap.size + 1, 1, none⟩ = some (Value.int IntKind.i64 b) ∧ w'.cell? ⟨w4.heap.size + 1, 2, none⟩ = some (Value.int IntKind.i64 k) ∧ w'.cell? ⟨w4.heap.size + 1, 3, none⟩ = some (Value.int IntKind.i64 c) ∧ w'.cell? ⟨w4.heap.size + 1, 4, none⟩ = some (Value.int IntKind.i64 d) ∧ w'.cell? ⟨w4.heap.size + 1, 5, none⟩ = some (Value.int IntKind.i64 l) ∧ w'.cell? ⟨w6.heap.size, 0, none⟩ = some (Value.int IntKind.i64 q1) ∧ w'.cell? ⟨w6.heap.size, 1, none⟩ = some (Value.int IntKind.i64 q2) ∧ w'.cell? ⟨w6.heap.size, 2, none⟩ = some (Value.int IntKind.i64 q3) ∧ w'.cell? ⟨w6.heap.size, 3, none⟩ = some (Value.int IntKind.i64 q4) ∧ w'.cell? ⟨w6.heap.size, 4, none⟩ = some (Value.int IntKind.i64 q5) ∧ w'.cell? ⟨w6.heap.size, 5, none⟩ = some (Value.int IntKind.i64 q6) ∧ w'.cell? ⟨w7.heap.size, 0, none⟩ = some (Value.int IntKind.i64 q1) ∧ w'.cell? ⟨w7.heap.size, 1, none⟩ = some (Value.int IntKind.i64 q2) ∧ w'.cell? ⟨w7.heap.size, 2, none⟩ = some (Value.int IntKind.i64 q3) ∧ w'.cell? ⟨w7.heap.size, 3, none⟩ = some (Value.int IntKind.i64 q4) ∧ w'.cell? ⟨w7.heap.size, 4, none⟩ = some (Value.int IntKind.i64 q5) ∧ w'.cell? ⟨w7.heap.size, 5, none⟩ = some (Value.int IntKind.i64 q6) ∧ w'.cell? ⟨w8.heap.size, 0, none⟩ = some (Value.int IntKind.i64 0) ∧ w'.cell? ⟨w8.heap.size, 1, none⟩ = some (Value.bool false) ∧ w'.cell? ⟨w8.heap.size, 2, none⟩ = some (Value.int IntKind.i64 0) ∧ w'.cell? ⟨w8.heap.size, 3, none⟩ = some (Value.int IntKind.i64 0) ∧ w'.cell? ⟨w8.heap.size, 4, none⟩ = some (Value.int IntKind.i64 0) ∧ w'.cell? ⟨w8.heap.size, 5, none⟩ = some (Value.int IntKind.i64 0) ∧ w'.cell? ⟨w8.heap.size, 6, none⟩ = some (Value.int IntKind.i64 0) ∧ w'.cell? ⟨w8.heap.size, 7, none⟩ = some (Value.int IntKind.i64 0)) (by kernel_rfl) ?_ (fun hHeld0 => ?_)
    · (try dsimp only); (first | (go_simp; done) | (simp [*]; done))
    refine wpAnyH_take (i := 0) (oi := ({ dst := some 69, op := Op.move (Operand.tmp 13), type := 4, pos := "laws.go:1878", after := #[], guard := none } : Oper)) (v := ?_) rfl (by kernel_rfl) (by kernel_rfl) (by kernel_rfl) (fun _ _ _ h => h) (Or.inl ⟨by rfl, ?_⟩) (by assumption) ?_
    rotate_left
    · intro w' hSw; (try dsimp only at hSw); go_simp; (try with_reducible rfl)
    try simp only [Act.put, List.setIfInBounds_toArray, List.set_cons_zero, List.set_cons_succ]
    refine wpAnyH_take (i := 1) (oi := ({ dst := some 70, op := Op.move (Operand.tmp 15), type := 4, pos := "laws.go:1878", after := #[], guard := none } : Oper)) (v := ?_) rfl (by kernel_rfl) (by kernel_rfl) (by kernel_rfl) (fun _ _ _ h => h) (Or.inl ⟨by rfl, ?_⟩) (by assumption) ?_
    rotate_left
    · intro w' hSw; (try dsimp only at hSw); go_simp; (try with_reducible rfl)
    try simp only [Act.put, List.setIfInBounds_toArray, List.set_cons_zero, List.set_cons_succ]
    refine wpAnyH_take (i := 2) (oi := ({ dst := some 71, op := Op.binOp BinOp.eql 4 (Operand.tmp 69) (Operand.tmp 70) 4, type := 4, pos := "laws.go:1878", after := #[{ on := 0, ground := Ground.data }, { on := 1, ground := Ground.data }], guard := none } : Oper)) (v := ?_) rfl (by kernel_rfl) (by kernel_rfl) (by kernel_rfl) (fun _ _ _ h => h) (Or.inl ⟨by rfl, ?_⟩) (by assumption) ?_
    rotate_left
    · intro w' hSw; (try dsimp only at hSw); go_simp; (try with_reducible rfl)
    try simp only [Act.put, List.setIfInBounds_toArray, List.set_cons_zero, List.set_cons_succ]
    refine wpAnyH_take (i := 3) (oi := ({ dst := some 72, op := Op.move (Operand.tmp 71), type := 4, pos := "laws.go:1878", after := #[{ on := 2, ground := Ground.data }], guard := none } : Oper)) (v := ?_) rfl (by kernel_rfl) (by kernel_rfl) (by kernel_rfl) (fun _ _ _ h => h) (Or.inl ⟨by rfl, ?_⟩) (by assumption) ?_
    rotate_left
    · intro w' hSw; (try dsimp only at hSw); go_simp; (try with_reducible rfl)
    try simp only [Act.put, List.setIfInBounds_toArray, List.set_cons_zero, List.set_cons_succ]
    refine wpAnyH_take (i := 4) (oi := ({ dst := some 73, op := Op.load 34 (Operand.tmp 12), type := 34, pos := "laws.go:1878", after := #[{ on := 3, ground := Ground.guard }], guard := some (3, true) } : Oper)) (v := ?_) rfl (by kernel_rfl) (by kernel_rfl) (by kernel_rfl) (fun _ _ _ h => h) (Or.inl ⟨by rfl, ?_⟩) (by assumption) ?_
    rotate_left
    · intro w' hSw; (try dsimp only at hSw); go_simp; (try with_reducible rfl)
    try simp only [Act.put, List.setIfInBounds_toArray, List.set_cons_zero, List.set_cons_succ]
    refine wpAnyH_take (i := 5) (oi := ({ dst := some 74, op := Op.load 34 (Operand.tmp 14), type := 34, pos := "laws.go:1878", after := #[{ on := 3, ground := Ground.guard }], guard := some (3, true) } : Oper)) (v := ?_) rfl (by kernel_rfl) (by kernel_rfl) (by kernel_rfl) (fun _ _ _ h => h) (Or.inl ⟨by rfl, ?_⟩) (by assumption) ?_
    rotate_left
    · intro w' hSw; (try dsimp only at hSw); go_simp; (try with_reducible rfl)
    try simp only [Act.put, List.setIfInBounds_toArray, List.set_cons_zero, List.set_cons_succ]
    refine wpAnyH_take (i := 6) (oi := ({ dst := some 75, op := Op.binOp BinOp.eql 34 (Operand.tmp 73) (Operand.tmp 74) 34, type := 4, pos := "laws.go:1878", after := #[{ on := 4, ground := Ground.data }, { on := 5, ground := Ground.data }, { on := 3, ground := Ground.guard }], guard := some (3, true) } : Oper)) (v := ?_) rfl (by kernel_rfl) (by kernel_rfl) (by kernel_rfl) (fun _ _ _ h => h) (Or.inl ⟨by rfl, ?_⟩) (by assumption) ?_
    rotate_left
    · intro w' hSw; (try dsimp only at hSw); go_simp; (try with_reducible rfl)
    try simp only [Act.put, List.setIfInBounds_toArray, List.set_cons_zero, List.set_cons_succ]
    refine wpAnyH_take (i := 7) (oi := ({ dst := some 76, op := Op.pick (Operand.tmp 72) (Operand.tmp 75) (Operand.const (Value.bool false)), type := 4, pos := "laws.go:1878", after := #[{ on := 3, ground := Ground.data }, { on := 6, ground := Ground.data }], guard := none } : Oper)) (v := ?_) rfl (by kernel_rfl) (by kernel_rfl) (by kernel_rfl) (fun _ _ _ h => h) (Or.inl ⟨by rfl, ?_⟩) (by assumption) ?_
    rotate_left
    · intro w' hSw; (try dsimp only at hSw); go_simp; (try with_reducible rfl)
    try simp only [Act.put, List.setIfInBounds_toArray, List.set_cons_zero, List.set_cons_succ]
    refine wpAnyH_take (i := 8) (oi := ({ dst := some 77, op := Op.move (Operand.tmp 76), type := 4, pos := "laws.go:1878", after := #[{ on := 7, ground := Ground.data }, { on := 3, ground := Ground.chain }], guard := none } : Oper)) (v := ?_) rfl (by kernel_rfl) (by kernel_rfl) (by kernel_rfl) (fun _ _ _ h => h) (Or.inl ⟨by rfl, ?_⟩) (by assumption) ?_
    rotate_left
    · intro w' hSw; (try dsimp only at hSw); go_simp; (try with_reducible rfl)
    try simp only [Act.put, List.setIfInBounds_toArray, List.set_cons_zero, List.set_cons_succ]
    refine wpAnyH_take (i := 9) (oi := ({ dst := some 78, op := Op.move (Operand.tmp 17), type := 4, pos := "laws.go:1878", after := #[{ on := 8, ground := Ground.guard }], guard := some (8, true) } : Oper)) (v := ?_) rfl (by kernel_rfl) (by kernel_rfl) (by kernel_rfl) (fun _ _ _ h => h) (Or.inl ⟨by rfl, ?_⟩) (by assumption) ?_
    rotate_left
    · intro w' hSw; (try dsimp only at hSw); go_simp; (try with_reducible rfl)
    try simp only [Act.put, List.setIfInBounds_toArray, List.set_cons_zero, List.set_cons_succ]
    refine wpAnyH_take (i := 10) (oi := ({ dst := some 79, op := Op.pick (Operand.tmp 77) (Operand.tmp 78) (Operand.const (Value.bool false)), type := 4, pos := "laws.go:1878", after := #[{ on := 8, ground := Ground.data }, { on := 9, ground := Ground.data }], guard := none } : Oper)) (v := ?_) rfl (by kernel_rfl) (by kernel_rfl) (by kernel_rfl) (fun _ _ _ h => h) (Or.inl ⟨by rfl, ?_⟩) (by assumption) ?_
    rotate_left
    · intro w' hSw; (try dsimp only at hSw); go_simp; (try with_reducible rfl)
    try simp only [Act.put, List.setIfInBounds_toArray, List.set_cons_zero, List.set_cons_succ]
    refine wpAnyH_take (i := 11) (oi := ({ dst := some 80, op := Op.move (Operand.tmp 79), type := 4, pos := "laws.go:1878", after := #[{ on := 10, ground := Ground.data }, { on := 8, ground := Ground.chain }], guard := none } : Oper)) (v := ?_) rfl (by kernel_rfl) (by kernel_rfl) (by kernel_rfl) (fun _ _ _ h => h) (Or.inl ⟨by rfl, ?_⟩) (by assumption) ?_
    rotate_left
    · intro w' hSw; (try dsimp only at hSw); go_simp; (try with_reducible rfl)
    try simp only [Act.put, List.setIfInBounds_toArray, List.set_cons_zero, List.set_cons_succ]
    refine wpAnyH_take (i := 12) (oi := ({ dst := some 81, op := Op.load 30 (Operand.tmp 16), type := 30, pos := "laws.go:1878", after := #[{ on := 11, ground := Ground.guard }], guard := some (11, true) } : Oper)) (v := ?_) rfl (by kernel_rfl) (by kernel_rfl) (by kernel_rfl) (fun _ _ _ h => h) (Or.inl ⟨by rfl, ?_⟩) (by assumption) ?_
    rotate_left
    · intro w' hSw; (try dsimp only at hSw); go_simp; (try with_reducible rfl)
    try simp only [Act.put, List.setIfInBounds_toArray, List.set_cons_zero, List.set_cons_succ]
    refine wpAnyH_ready (rs := [13]) (by kernel_rfl) (by simp) ?_
    refine AllReadyH.cons (o := ({ dst := some 82, op := Op.call { callee := Callee.value (Operand.func 14), args := #[], argTypes := #[] }, type := 30, pos := "laws.go:1878", after := #[{ on := 11, ground := Ground.chain }, { on := 11, ground := Ground.guard }], guard := some (11, true) } : Oper)) rfl (fun K hK => ?_) AllReadyH.nil
    go_simp
    go_at_call 14
    refine (iId_any _).mono ?_
    rintro e w9 ⟨rfl, hb9⟩
    (try replace hb9 := Below.undrew hb9); obtain ⟨hc9, hf9⟩ := bcell hb9; have hz9 := hb9.size; (try simp at hz9); (have lL_9 : w1.heap.size < w9.heap.size := (by omega)); (have lP_9 : w4.heap.size + 1 < w9.heap.size := (by omega)); (have lX_9 : w6.heap.size < w9.heap.size := (by omega)); (have lY_9 : w7.heap.size < w9.heap.size := (by omega)); (have lC_9 : w8.heap.size < w9.heap.size := (by omega))
    go_wp2_with fail
    refine hK.out _ _ ?_ (fun hHeld9 => ?_)
    · (try dsimp only); (first | (go_simp; done) | (simp [*]; done))
    clear hK K
    try simp only [Act.put, List.setIfInBounds_toArray, List.set_cons_zero, List.set_cons_succ]
    refine wpAnyH_take (i := 14) (oi := ({ dst := some 83, op := Op.binOp BinOp.eql 30 (Operand.tmp 81) (Operand.tmp 82) 30, type := 4, pos := "laws.go:1878", after := #[{ on := 12, ground := Ground.data }, { on := 13, ground := Ground.data }, { on := 11, ground := Ground.guard }], guard := some (11, true) } : Oper)) (v := ?_) rfl (by kernel_rfl) (by kernel_rfl) (by kernel_rfl) (fun _ _ _ h => h) (Or.inl ⟨by rfl, ?_⟩) (by assumption) ?_
    rotate_left
    · intro w' hSw; (try dsimp only at hSw); go_simp; (try with_reducible rfl)
    try simp only [Act.put, List.setIfInBounds_toArray, List.set_cons_zero, List.set_cons_succ]
    refine wpAnyH_take (i := 15) (oi := ({ dst := some 84, op := Op.pick (Operand.tmp 80) (Operand.tmp 83) (Operand.const (Value.bool false)), type := 4, pos := "laws.go:1878", after := #[{ on := 11, ground := Ground.data }, { on := 14, ground := Ground.data }], guard := none } : Oper)) (v := ?_) rfl (by kernel_rfl) (by kernel_rfl) (by kernel_rfl) (fun _ _ _ h => h) (Or.inl ⟨by rfl, ?_⟩) (by assumption) ?_
    rotate_left
    · intro w' hSw; (try dsimp only at hSw); go_simp; (try with_reducible rfl)
    try simp only [Act.put, List.setIfInBounds_toArray, List.set_cons_zero, List.set_cons_succ]
    refine wpAnyH_take (i := 16) (oi := ({ dst := some 85, op := Op.move (Operand.tmp 84), type := 4, pos := "laws.go:1878", after := #[{ on := 15, ground := Ground.data }, { on := 13, ground := Ground.chain }], guard := none } : Oper)) (v := ?_) rfl (by kernel_rfl) (by kernel_rfl) (by kernel_rfl) (fun _ _ _ h => h) (Or.inl ⟨by rfl, ?_⟩) (by assumption) ?_
    rotate_left
    · intro w' hSw; (try dsimp only at hSw); go_simp; (try with_reducible rfl)
    try simp only [Act.put, List.setIfInBounds_toArray, List.set_cons_zero, List.set_cons_succ]
    refine wpAnyH_take (i := 17) (oi := ({ dst := some 86, op := Op.load 27 (Operand.tmp 5), type := 27, pos := "laws.go:1878", after := #[{ on := 16, ground := Ground.guard }], guard := some (16, true) } : Oper)) (v := ?_) rfl (by kernel_rfl) (by kernel_rfl) (by kernel_rfl) (fun _ _ _ h => h) (Or.inl ⟨by rfl, ?_⟩) (by assumption) ?_
    rotate_left
    · intro w' hSw; (try dsimp only at hSw); go_simp; (try with_reducible rfl)
    try simp only [Act.put, List.setIfInBounds_toArray, List.set_cons_zero, List.set_cons_succ]
    refine wpAnyH_take (i := 18) (oi := ({ dst := some 87, op := Op.load 34 (Operand.tmp 11), type := 34, pos := "laws.go:1878", after := #[{ on := 16, ground := Ground.guard }], guard := some (16, true) } : Oper)) (v := ?_) rfl (by kernel_rfl) (by kernel_rfl) (by kernel_rfl) (fun _ _ _ h => h) (Or.inl ⟨by rfl, ?_⟩) (by assumption) ?_
    rotate_left
    · intro w' hSw; (try dsimp only at hSw); go_simp; (try with_reducible rfl)
    try simp only [Act.put, List.setIfInBounds_toArray, List.set_cons_zero, List.set_cons_succ]
    refine wpAnyH_ready (rs := [19]) (by kernel_rfl) (by simp) ?_
    refine AllReadyH.cons (o := ({ dst := some 88, op := Op.call { callee := Callee.value (Operand.func 15), args := #[Operand.tmp 86, Operand.tmp 87], argTypes := #[27, 34] }, type := 2, pos := "laws.go:1878", after := #[{ on := 17, ground := Ground.data }, { on := 18, ground := Ground.data }, { on := 16, ground := Ground.chain }, { on := 16, ground := Ground.guard }], guard := some (16, true) } : Oper)) rfl (fun K hK => ?_) AllReadyH.nil
    go_simp
    go_at_call 15
    refine (KD.out _ ?_).mono ?_
    · exact LT.below (w := w) hT (by (repeat (first | with_reducible exact Below.refl _ _ | with_reducible assumption | with_reducible refine below_drewN ?_ _ | with_reducible refine Below.drew ?_ | with_reducible refine Below.alloc ?_ (by first | omega | (simp; done) | (simp; omega)) _ | with_reducible refine Below.setCell ?_ (by first | omega | (simp; done) | (simp; omega)) _ | with_reducible refine Below.trans ?_ (Below.mono (by assumption) (by first | omega | (simp; done) | (simp; omega)))))) (Nat.le_refl _)
    rintro e w10 ⟨rfl, hb10⟩
    (try replace hb10 := Below.undrew hb10); obtain ⟨hc10, hf10⟩ := bcell hb10; have hz10 := hb10.size; (try simp at hz10); (have lL_10 : w1.heap.size < w10.heap.size := (by omega)); (have lP_10 : w4.heap.size + 1 < w10.heap.size := (by omega)); (have lX_10 : w6.heap.size < w10.heap.size := (by omega)); (have lY_10 : w7.heap.size < w10.heap.size := (by omega)); (have lC_10 : w8.heap.size < w10.heap.size := (by omega))
    go_wp2_with fail
    refine hK.out _ _ ?_ (fun hHeld10 => ?_)
    · (try dsimp only); (first | (go_simp; done) | (simp [*]; done))
    clear hK K
    try simp only [Act.put, List.setIfInBounds_toArray, List.set_cons_zero, List.set_cons_succ]
    refine wpAnyH_take (i := 20) (oi := ({ dst := some 89, op := Op.binOp BinOp.neq 2 (Operand.tmp 88) (Operand.const (Value.int IntKind.i64 0)) 2, type := 4, pos := "laws.go:1878", after := #[{ on := 19, ground := Ground.data }, { on := 16, ground := Ground.guard }], guard := some (16, true) } : Oper)) (v := ?_) rfl (by kernel_rfl) (by kernel_rfl) (by kernel_rfl) (fun _ _ _ h => h) (Or.inl ⟨by rfl, ?_⟩) (by assumption) ?_
    rotate_left
    · intro w' hSw; (try dsimp only at hSw); go_simp; (try with_reducible rfl)
    try simp only [Act.put, List.setIfInBounds_toArray, List.set_cons_zero, List.set_cons_succ]
    refine wpAnyH_take (i := 21) (oi := ({ dst := some 90, op := Op.move (Operand.tmp 89), type := 4, pos := "laws.go:1878", after := #[{ on := 20, ground := Ground.data }, { on := 19, ground := Ground.chain }, { on := 16, ground := Ground.guard }], guard := some (16, true) } : Oper)) (v := ?_) rfl (by kernel_rfl) (by kernel_rfl) (by kernel_rfl) (fun _ _ _ h => h) (Or.inl ⟨by rfl, ?_⟩) (by assumption) ?_
    rotate_left
    · intro w' hSw; (try dsimp only at hSw); go_simp; (try with_reducible rfl)
    try simp only [Act.put, List.setIfInBounds_toArray, List.set_cons_zero, List.set_cons_succ]
    refine wpAnyH_take (i := 22) (oi := ({ dst := some 91, op := Op.move (Operand.tmp 13), type := 4, pos := "laws.go:1878", after := #[{ on := 21, ground := Ground.guard }], guard := some (21, false) } : Oper)) (v := undef) rfl (by kernel_rfl) (by kernel_rfl) (by kernel_rfl) (fun _ _ _ h => h) (Or.inr ⟨by rfl, rfl⟩) (by assumption) ?_
    try simp only [Act.put, List.setIfInBounds_toArray, List.set_cons_zero, List.set_cons_succ]
    refine wpAnyH_take (i := 23) (oi := ({ dst := some 92, op := Op.unOp UnOp.not 4 (Operand.tmp 91), type := 4, pos := "laws.go:1878", after := #[{ on := 22, ground := Ground.data }, { on := 21, ground := Ground.guard }], guard := some (21, false) } : Oper)) (v := undef) rfl (by kernel_rfl) (by kernel_rfl) (by kernel_rfl) (fun _ _ _ h => h) (Or.inr ⟨by rfl, rfl⟩) (by assumption) ?_
    try simp only [Act.put, List.setIfInBounds_toArray, List.set_cons_zero, List.set_cons_succ]
    refine wpAnyH_take (i := 24) (oi := ({ dst := some 93, op := Op.pick (Operand.tmp 90) (Operand.const (Value.bool true)) (Operand.tmp 92), type := 4, pos := "laws.go:1878", after := #[{ on := 21, ground := Ground.data }, { on := 23, ground := Ground.data }, { on := 16, ground := Ground.guard }], guard := some (16, true) } : Oper)) (v := ?_) rfl (by kernel_rfl) (by kernel_rfl) (by kernel_rfl) (fun _ _ _ h => h) (Or.inl ⟨by rfl, ?_⟩) (by assumption) ?_
    rotate_left
    · intro w' hSw; (try dsimp only at hSw); go_simp; (try with_reducible rfl)
    try simp only [Act.put, List.setIfInBounds_toArray, List.set_cons_zero, List.set_cons_succ]
    refine wpAnyH_take (i := 25) (oi := ({ dst := some 94, op := Op.move (Operand.tmp 93), type := 4, pos := "laws.go:1878", after := #[{ on := 24, ground := Ground.data }, { on := 21, ground := Ground.chain }, { on := 16, ground := Ground.guard }], guard := some (16, true) } : Oper)) (v := ?_) rfl (by kernel_rfl) (by kernel_rfl) (by kernel_rfl) (fun _ _ _ h => h) (Or.inl ⟨by rfl, ?_⟩) (by assumption) ?_
    rotate_left
    · intro w' hSw; (try dsimp only at hSw); go_simp; (try with_reducible rfl)
    try simp only [Act.put, List.setIfInBounds_toArray, List.set_cons_zero, List.set_cons_succ]
    refine wpAnyH_take (i := 26) (oi := ({ dst := some 95, op := Op.load 34 (Operand.tmp 12), type := 34, pos := "laws.go:1878", after := #[{ on := 25, ground := Ground.guard }], guard := some (25, false) } : Oper)) (v := undef) rfl (by kernel_rfl) (by kernel_rfl) (by kernel_rfl) (fun _ _ _ h => h) (Or.inr ⟨by rfl, rfl⟩) (by assumption) ?_
    try simp only [Act.put, List.setIfInBounds_toArray, List.set_cons_zero, List.set_cons_succ]
    refine wpAnyH_take (i := 27) (oi := ({ dst := some 96, op := Op.load 34 (Operand.tmp 11), type := 34, pos := "laws.go:1878", after := #[{ on := 25, ground := Ground.guard }], guard := some (25, false) } : Oper)) (v := undef) rfl (by kernel_rfl) (by kernel_rfl) (by kernel_rfl) (fun _ _ _ h => h) (Or.inr ⟨by rfl, rfl⟩) (by assumption) ?_
    try simp only [Act.put, List.setIfInBounds_toArray, List.set_cons_zero, List.set_cons_succ]
    refine wpAnyH_take (i := 28) (oi := ({ dst := some 97, op := Op.binOp BinOp.eql 34 (Operand.tmp 95) (Operand.tmp 96) 34, type := 4, pos := "laws.go:1878", after := #[{ on := 26, ground := Ground.data }, { on := 27, ground := Ground.data }, { on := 25, ground := Ground.guard }], guard := some (25, false) } : Oper)) (v := undef) rfl (by kernel_rfl) (by kernel_rfl) (by kernel_rfl) (fun _ _ _ h => h) (Or.inr ⟨by rfl, rfl⟩) (by assumption) ?_
    try simp only [Act.put, List.setIfInBounds_toArray, List.set_cons_zero, List.set_cons_succ]
    refine wpAnyH_take (i := 29) (oi := ({ dst := some 98, op := Op.pick (Operand.tmp 94) (Operand.const (Value.bool true)) (Operand.tmp 97), type := 4, pos := "laws.go:1878", after := #[{ on := 25, ground := Ground.data }, { on := 28, ground := Ground.data }, { on := 16, ground := Ground.guard }], guard := some (16, true) } : Oper)) (v := ?_) rfl (by kernel_rfl) (by kernel_rfl) (by kernel_rfl) (fun _ _ _ h => h) (Or.inl ⟨by rfl, ?_⟩) (by assumption) ?_
    rotate_left
    · intro w' hSw; (try dsimp only at hSw); go_simp; (try with_reducible rfl)
    try simp only [Act.put, List.setIfInBounds_toArray, List.set_cons_zero, List.set_cons_succ]
    refine wpAnyH_take (i := 30) (oi := ({ dst := some 99, op := Op.pick (Operand.tmp 85) (Operand.tmp 98) (Operand.const (Value.bool false)), type := 4, pos := "laws.go:1878", after := #[{ on := 16, ground := Ground.data }, { on := 29, ground := Ground.data }], guard := none } : Oper)) (v := ?_) rfl (by kernel_rfl) (by kernel_rfl) (by kernel_rfl) (fun _ _ _ h => h) (Or.inl ⟨by rfl, ?_⟩) (by assumption) ?_
    rotate_left
    · intro w' hSw; (try dsimp only at hSw); go_simp; (try with_reducible rfl)
    try simp only [Act.put, List.setIfInBounds_toArray, List.set_cons_zero, List.set_cons_succ]
    refine wpAnyH_take (i := 31) (oi := ({ dst := some 4, op := Op.assign (Operand.tmp 99), type := 4, pos := "laws.go:1878", after := #[{ on := 30, ground := Ground.data }, { on := 25, ground := Ground.chain }, { on := 0, ground := Ground.phase }, { on := 1, ground := Ground.phase }, { on := 2, ground := Ground.phase }, { on := 3, ground := Ground.phase }, { on := 4, ground := Ground.phase }, { on := 5, ground := Ground.phase }, { on := 6, ground := Ground.phase }, { on := 7, ground := Ground.phase }, { on := 8, ground := Ground.phase }, { on := 9, ground := Ground.phase }, { on := 10, ground := Ground.phase }, { on := 11, ground := Ground.phase }, { on := 12, ground := Ground.phase }, { on := 13, ground := Ground.phase }, { on := 14, ground := Ground.phase }, { on := 15, ground := Ground.phase }, { on := 16, ground := Ground.phase }, { on := 17, ground := Ground.phase }, { on := 18, ground := Ground.phase }, { on := 19, ground := Ground.phase }, { on := 20, ground := Ground.phase }, { on := 21, ground := Ground.phase }, { on := 22, ground := Ground.phase }, { on := 23, ground := Ground.phase }, { on := 24, ground := Ground.phase }, { on := 25, ground := Ground.phase }, { on := 26, ground := Ground.phase }, { on := 27, ground := Ground.phase }, { on := 28, ground := Ground.phase }, { on := 29, ground := Ground.phase }, { on := 30, ground := Ground.phase }], guard := none } : Oper)) (v := ?_) rfl (by kernel_rfl) (by kernel_rfl) (by kernel_rfl) (fun _ _ _ h => h) (Or.inl ⟨by rfl, ?_⟩) (by assumption) ?_
    rotate_left
    · intro w' hSw; (try dsimp only at hSw); go_simp; (try with_reducible rfl)
    try simp only [Act.put, List.setIfInBounds_toArray, List.set_cons_zero, List.set_cons_succ]
    refine wpAnyH_done (by kernel_rfl) ?_ _
    go_wp2_with fail
    go_ret
    exact ⟨rfl, by (repeat (first | with_reducible exact Below.refl _ _ | with_reducible assumption | with_reducible refine below_drewN ?_ _ | with_reducible refine Below.drew ?_ | with_reducible refine Below.alloc ?_ (by first | omega | (simp; done) | (simp; omega)) _ | with_reducible refine Below.setCell ?_ (by first | omega | (simp; done) | (simp; omega)) _ | with_reducible refine Below.trans ?_ (Below.mono (by assumption) (by first | omega | (simp; done) | (simp; omega)))))⟩
end Refl
end Go.Proofs.YtafbdnjabgfjeaaGreatDoor
