/- E8Nums: three valid numbers, whatever the bytes. -/
import Derived.Test.YtffcdnokkdifdaaDoorSt
import Derived.BigRegion
namespace Go.Proofs.YtffcdnokkdifdaaDoor
open Go Go.RowKit OriM

/-- The bytes of a law, as they lie when it is called. -/
def CodeIn (w : World) (v : Value) : Prop :=
  (∃ a c, v = .slice a 0 c) ∨ ∃ (b o n c : Nat), v = .slice (some ⟨b, o, none⟩) n c ∧ b < w.heap.size ∧ n ≤ 9223372036854775807 ∧ ∀ i, i < n → ∃ x : Int, w.cell? ⟨b, o + i, none⟩ = some (.int .u8 x) ∧ 0 ≤ x ∧ x ≤ 255
theorem CodeIn.at {w w' : World} {v : Value} (h : CodeIn w v) {B : Nat} (hB : w.heap.size ≤ B) (hb : Below w.heap.size w w') : CodeAt w' B v := by
  rcases h with h | ⟨b, o, n, c, rfl, hs, hn, h⟩
  · exact .inl h
  · refine .inr ⟨b, o, n, c, rfl, by omega, Nat.lt_of_lt_of_le hs hb.size, hn, fun i hi => ?_⟩
    obtain ⟨x, hx, h0, h1⟩ := h i hi
    exact ⟨x, by rw [hb.cell (p := ⟨b, o + i, none⟩) hs]; exact hx, h0, h1⟩

theorem CodeIn.slice {w : World} {v : Value} (h : CodeIn w v) : ∃ a n c, v = .slice a n c := by
  rcases h with ⟨a, c, h⟩ | ⟨b, o, n, c, h, _⟩
  · exact ⟨a, 0, c, h⟩
  · exact ⟨_, n, c, h⟩

theorem from_any (sa : Option Addr) (sn sc : Nat) (w : World) : Calls Tryd.prog 45 #[.slice sa sn sc] w fun e w' => e = .returned (.pointer (some ⟨w.heap.size, 0, none⟩)) ∧ w.alloc (Obj.cells #[.slice sa sn sc, Value.int IntKind.i64 0, Value.int IntKind.u64 0] 77) = w' := by
  go_enter Tryd.func45, Tryd.ntmps45
  go_wp2
  go_ret
  exact ⟨rfl, rfl⟩

/-- Three valid numbers. -/
def Three (w : World) (e : Ending) (w' : World) : Prop := ∃ a b k a' b' k' a'' b'' k'' : Int, e = .returned (.tuple #[num a b k, num a' b' k', num a'' b'' k'']) ∧
  validB a b k = true ∧ validB a' b' k' = true ∧ validB a'' b'' k'' = true ∧ Below w.heap.size w w'

set_option maxHeartbeats 2000000 in
set_option maxRecDepth 100000 in
theorem E8Nums_any (v : Value) (w : World) (hC : CodeIn w v) : Calls Tryd.prog 18 #[v] w (Three w) := by
  obtain ⟨sa, sn, sc, rfl⟩ := hC.slice
  have HC := Lib.hid hC
  clear hC
  go_enter Tryd.func18, Tryd.ntmps18
  go_wp2_with fail
  refine (from_any sa sn sc _).mono ?_
  rintro e w0 ⟨rfl, hw0⟩
  have HB0 := Lib.hid (show Below w.heap.size w w0 by rw [← hw0]; (repeat (first | with_reducible exact Below.refl _ _ | with_reducible refine Below.drew ?_ | with_reducible refine Below.alloc ?_ (by first | omega | (simp; done) | (simp; omega)) _ | with_reducible refine Below.setCell ?_ (by first | omega | (simp; done) | (simp; omega)) _ | with_reducible refine Below.trans ?_ (Below.mono (by assumption) (by first | omega | (simp; done) | (simp; omega))))))
  have hs0 : w0.heap.size = w.heap.size + 1 + 1 + 1 + 1 := by rw [← hw0]; simp
  have HS0 := Lib.hid (show SrcAt w0 (w.heap.size + 1 + 1 + 1) (.slice sa sn sc) 0 by rw [← hw0]; exact ⟨by simp [go_sem], ⟨0, 0, by simp [go_sem], by simp [go_sem], by omega, by omega, by omega, by omega⟩, by simp [go_sem], by simp [go_sem]⟩)
  have HC0 := Lib.hid (HC.out.at (B := w.heap.size + 1 + 1 + 1) (by omega) HB0.out)
  have HW0 := Lib.hid hw0
  have HS := Lib.hid hs0
  clear hw0 hs0
  have es : (((w.alloc (Obj.cells #[Value.int IntKind.i64 0, Value.int IntKind.i64 0, Value.int IntKind.i64 0] 24)).alloc (Obj.cells #[Value.int IntKind.i64 0, Value.int IntKind.i64 0, Value.int IntKind.i64 0] 24)).alloc (Obj.cells #[Value.int IntKind.i64 0, Value.int IntKind.i64 0, Value.int IntKind.i64 0] 24)).heap.size = w.heap.size + 1 + 1 + 1 := by simp
  go_wp2_with fail
  refine (draw_any (w.heap.size + 1 + 1 + 1) _ 0 _ HS0.out HC0.out (by omega)).mono ?_
  rintro e w1 ⟨a, b, k, rfl, v1, hS1, hT1⟩
  have HT1 := Lib.hid hT1
  have HS1 := Lib.hid hS1
  have HV1 := Lib.hid v1
  have HC1 := Lib.hid (HC0.out.touch (hT1.alloc (Obj.cells #[Value.int IntKind.i64 a, Value.int IntKind.i64 b, Value.int IntKind.i64 k] 24)))
  clear v1 hS1 hT1
  go_wp2_with fail
  refine (draw_any (w.heap.size + 1 + 1 + 1) _ 9 _ (HS1.out.alloc _) HC1.out (by omega)).mono ?_
  rintro e w2 ⟨a', b', k', rfl, v2, hS2, hT2⟩
  have HT2 := Lib.hid hT2
  have HS2 := Lib.hid hS2
  have HV2 := Lib.hid v2
  have HC2 := Lib.hid (HC1.out.touch (hT2.alloc (Obj.cells #[Value.int IntKind.i64 a', Value.int IntKind.i64 b', Value.int IntKind.i64 k'] 24)))
  clear v2 hS2 hT2
  go_wp2_with fail
  refine (draw_any (w.heap.size + 1 + 1 + 1) _ 18 _ (HS2.out.alloc _) HC2.out (by omega)).mono ?_
  rintro e w3 ⟨a'', b'', k'', rfl, v3, hS3, hT3⟩
  have HT3 := Lib.hid hT3
  have HV3 := Lib.hid v3
  clear v3 hS3 hT3
  go_wp2_with fail
  obtain ⟨W, hW⟩ : ∃ W, W = w3.alloc (Obj.cells #[Value.int IntKind.i64 a'', Value.int IntKind.i64 b'', Value.int IntKind.i64 k''] 24) := ⟨_, rfl⟩
  have z1 := HT1.out.size
  have z2 := HT2.out.size
  have z3 := HT3.out.size
  have hs := HS.out
  simp only [World.size_alloc] at z2 z3
  have old : ∀ i, i < (((w.alloc (Obj.cells #[Value.int IntKind.i64 0, Value.int IntKind.i64 0, Value.int IntKind.i64 0] 24)).alloc (Obj.cells #[Value.int IntKind.i64 0, Value.int IntKind.i64 0, Value.int IntKind.i64 0] 24)).alloc (Obj.cells #[Value.int IntKind.i64 0, Value.int IntKind.i64 0, Value.int IntKind.i64 0] 24)).heap.size → i ≠ w.heap.size + 1 + 1 + 1 → W.heap[i]? = ((((w.alloc (Obj.cells #[Value.int IntKind.i64 0, Value.int IntKind.i64 0, Value.int IntKind.i64 0] 24)).alloc (Obj.cells #[Value.int IntKind.i64 0, Value.int IntKind.i64 0, Value.int IntKind.i64 0] 24)).alloc (Obj.cells #[Value.int IntKind.i64 0, Value.int IntKind.i64 0, Value.int IntKind.i64 0] 24)).alloc (Obj.cells #[Value.slice sa sn sc, Value.int IntKind.i64 0, Value.int IntKind.u64 0] 77)).heap[i]? := by
    intro i hi hB
    rw [es] at hi
    rw [hW, Below.heap_alloc w3 _ i (by omega), HT3.out.block i (by simp; omega) hB, Below.heap_alloc w2 _ i (by omega), HT2.out.block i (by simp; omega) hB, Below.heap_alloc w1 _ i (by omega), HT1.out.block i (by omega) hB, ← HW0.out]
  have ne1 : w1.heap.size ≠ w.heap.size + 1 + 1 + 1 := by omega
  have ne2 : w2.heap.size ≠ w.heap.size + 1 + 1 + 1 := by omega
  have e0 : W.heap[w1.heap.size]? = (w1.alloc (Obj.cells #[Value.int IntKind.i64 a, Value.int IntKind.i64 b, Value.int IntKind.i64 k] 24)).heap[w1.heap.size]? := by
    rw [hW, Below.heap_alloc w3 _ _ (by omega), HT3.out.block _ (by simp; omega) ne1, Below.heap_alloc w2 _ _ (by omega), HT2.out.block _ (by simp) ne1]
  have e1 : W.heap[w2.heap.size]? = (w2.alloc (Obj.cells #[Value.int IntKind.i64 a', Value.int IntKind.i64 b', Value.int IntKind.i64 k'] 24)).heap[w2.heap.size]? := by
    rw [hW, Below.heap_alloc w3 _ _ (by omega), HT3.out.block _ (by simp) ne2]
  have e2 : W.heap[w3.heap.size]? = (w3.alloc (Obj.cells #[Value.int IntKind.i64 a'', Value.int IntKind.i64 b'', Value.int IntKind.i64 k''] 24)).heap[w3.heap.size]? := by rw [hW]
  have c00 : W.cell? ⟨w.heap.size, 0, none⟩ = some (.int .i64 0) := (World.cell?_of_block (a := ⟨w.heap.size, 0, none⟩) (old (w.heap.size) (by rw [es]; omega) (by omega))).trans (by simp [go_sem])
  have f00 : W.frozen? ⟨w.heap.size, 0, none⟩ = false := (World.frozen?_of_block (a := ⟨w.heap.size, 0, none⟩) (old (w.heap.size) (by rw [es]; omega) (by omega))).trans (by simp [go_sem])
  have c01 : W.cell? ⟨w.heap.size, 1, none⟩ = some (.int .i64 0) := (World.cell?_of_block (a := ⟨w.heap.size, 1, none⟩) (old (w.heap.size) (by rw [es]; omega) (by omega))).trans (by simp [go_sem])
  have f01 : W.frozen? ⟨w.heap.size, 1, none⟩ = false := (World.frozen?_of_block (a := ⟨w.heap.size, 1, none⟩) (old (w.heap.size) (by rw [es]; omega) (by omega))).trans (by simp [go_sem])
  have c02 : W.cell? ⟨w.heap.size, 2, none⟩ = some (.int .i64 0) := (World.cell?_of_block (a := ⟨w.heap.size, 2, none⟩) (old (w.heap.size) (by rw [es]; omega) (by omega))).trans (by simp [go_sem])
  have f02 : W.frozen? ⟨w.heap.size, 2, none⟩ = false := (World.frozen?_of_block (a := ⟨w.heap.size, 2, none⟩) (old (w.heap.size) (by rw [es]; omega) (by omega))).trans (by simp [go_sem])
  have c10 : W.cell? ⟨w.heap.size + 1, 0, none⟩ = some (.int .i64 0) := (World.cell?_of_block (a := ⟨w.heap.size + 1, 0, none⟩) (old (w.heap.size + 1) (by rw [es]; omega) (by omega))).trans (by simp [go_sem])
  have f10 : W.frozen? ⟨w.heap.size + 1, 0, none⟩ = false := (World.frozen?_of_block (a := ⟨w.heap.size + 1, 0, none⟩) (old (w.heap.size + 1) (by rw [es]; omega) (by omega))).trans (by simp [go_sem])
  have c11 : W.cell? ⟨w.heap.size + 1, 1, none⟩ = some (.int .i64 0) := (World.cell?_of_block (a := ⟨w.heap.size + 1, 1, none⟩) (old (w.heap.size + 1) (by rw [es]; omega) (by omega))).trans (by simp [go_sem])
  have f11 : W.frozen? ⟨w.heap.size + 1, 1, none⟩ = false := (World.frozen?_of_block (a := ⟨w.heap.size + 1, 1, none⟩) (old (w.heap.size + 1) (by rw [es]; omega) (by omega))).trans (by simp [go_sem])
  have c12 : W.cell? ⟨w.heap.size + 1, 2, none⟩ = some (.int .i64 0) := (World.cell?_of_block (a := ⟨w.heap.size + 1, 2, none⟩) (old (w.heap.size + 1) (by rw [es]; omega) (by omega))).trans (by simp [go_sem])
  have f12 : W.frozen? ⟨w.heap.size + 1, 2, none⟩ = false := (World.frozen?_of_block (a := ⟨w.heap.size + 1, 2, none⟩) (old (w.heap.size + 1) (by rw [es]; omega) (by omega))).trans (by simp [go_sem])
  have c20 : W.cell? ⟨w.heap.size + 1 + 1, 0, none⟩ = some (.int .i64 0) := (World.cell?_of_block (a := ⟨w.heap.size + 1 + 1, 0, none⟩) (old (w.heap.size + 1 + 1) (by rw [es]; omega) (by omega))).trans (by simp [go_sem])
  have f20 : W.frozen? ⟨w.heap.size + 1 + 1, 0, none⟩ = false := (World.frozen?_of_block (a := ⟨w.heap.size + 1 + 1, 0, none⟩) (old (w.heap.size + 1 + 1) (by rw [es]; omega) (by omega))).trans (by simp [go_sem])
  have c21 : W.cell? ⟨w.heap.size + 1 + 1, 1, none⟩ = some (.int .i64 0) := (World.cell?_of_block (a := ⟨w.heap.size + 1 + 1, 1, none⟩) (old (w.heap.size + 1 + 1) (by rw [es]; omega) (by omega))).trans (by simp [go_sem])
  have f21 : W.frozen? ⟨w.heap.size + 1 + 1, 1, none⟩ = false := (World.frozen?_of_block (a := ⟨w.heap.size + 1 + 1, 1, none⟩) (old (w.heap.size + 1 + 1) (by rw [es]; omega) (by omega))).trans (by simp [go_sem])
  have c22 : W.cell? ⟨w.heap.size + 1 + 1, 2, none⟩ = some (.int .i64 0) := (World.cell?_of_block (a := ⟨w.heap.size + 1 + 1, 2, none⟩) (old (w.heap.size + 1 + 1) (by rw [es]; omega) (by omega))).trans (by simp [go_sem])
  have f22 : W.frozen? ⟨w.heap.size + 1 + 1, 2, none⟩ = false := (World.frozen?_of_block (a := ⟨w.heap.size + 1 + 1, 2, none⟩) (old (w.heap.size + 1 + 1) (by rw [es]; omega) (by omega))).trans (by simp [go_sem])
  have n00 : W.cell? ⟨w1.heap.size, 0, none⟩ = some (.int .i64 a) := (World.cell?_of_block (a := ⟨w1.heap.size, 0, none⟩) e0).trans (by simp [go_sem])
  have n01 : W.cell? ⟨w1.heap.size, 1, none⟩ = some (.int .i64 b) := (World.cell?_of_block (a := ⟨w1.heap.size, 1, none⟩) e0).trans (by simp [go_sem])
  have n02 : W.cell? ⟨w1.heap.size, 2, none⟩ = some (.int .i64 k) := (World.cell?_of_block (a := ⟨w1.heap.size, 2, none⟩) e0).trans (by simp [go_sem])
  have n10 : W.cell? ⟨w2.heap.size, 0, none⟩ = some (.int .i64 a') := (World.cell?_of_block (a := ⟨w2.heap.size, 0, none⟩) e1).trans (by simp [go_sem])
  have n11 : W.cell? ⟨w2.heap.size, 1, none⟩ = some (.int .i64 b') := (World.cell?_of_block (a := ⟨w2.heap.size, 1, none⟩) e1).trans (by simp [go_sem])
  have n12 : W.cell? ⟨w2.heap.size, 2, none⟩ = some (.int .i64 k') := (World.cell?_of_block (a := ⟨w2.heap.size, 2, none⟩) e1).trans (by simp [go_sem])
  have n20 : W.cell? ⟨w3.heap.size, 0, none⟩ = some (.int .i64 a'') := (World.cell?_of_block (a := ⟨w3.heap.size, 0, none⟩) e2).trans (by simp [go_sem])
  have n21 : W.cell? ⟨w3.heap.size, 1, none⟩ = some (.int .i64 b'') := (World.cell?_of_block (a := ⟨w3.heap.size, 1, none⟩) e2).trans (by simp [go_sem])
  have n22 : W.cell? ⟨w3.heap.size, 2, none⟩ = some (.int .i64 k'') := (World.cell?_of_block (a := ⟨w3.heap.size, 2, none⟩) e2).trans (by simp [go_sem])
  have HBW : Hid (Below w.heap.size w W) := Lib.hid (by
    rw [hW]
    exact (((HB0.out.trans (HT1.out.below (by omega) (by omega))).alloc (by omega) _).trans (HT2.out.below (by omega) (by simp; omega)) |>.alloc (by omega) _).trans (HT3.out.below (by omega) (by simp; omega)) |>.alloc (by omega) _)
  have dd0 : w.heap.size + 1 + 1 < W.heap.size := by rw [hW]; simp; omega
  have p10 : w1.heap.size ≠ w.heap.size := by omega
  have q10 : w.heap.size ≠ w1.heap.size := by omega
  have p11 : w1.heap.size ≠ w.heap.size + 1 := by omega
  have q11 : w.heap.size + 1 ≠ w1.heap.size := by omega
  have p12 : w1.heap.size ≠ w.heap.size + 1 + 1 := by omega
  have q12 : w.heap.size + 1 + 1 ≠ w1.heap.size := by omega
  have p20 : w2.heap.size ≠ w.heap.size := by omega
  have q20 : w.heap.size ≠ w2.heap.size := by omega
  have p21 : w2.heap.size ≠ w.heap.size + 1 := by omega
  have q21 : w.heap.size + 1 ≠ w2.heap.size := by omega
  have p22 : w2.heap.size ≠ w.heap.size + 1 + 1 := by omega
  have q22 : w.heap.size + 1 + 1 ≠ w2.heap.size := by omega
  have p30 : w3.heap.size ≠ w.heap.size := by omega
  have q30 : w.heap.size ≠ w3.heap.size := by omega
  have p31 : w3.heap.size ≠ w.heap.size + 1 := by omega
  have q31 : w.heap.size + 1 ≠ w3.heap.size := by omega
  have p32 : w3.heap.size ≠ w.heap.size + 1 + 1 := by omega
  have q32 : w.heap.size + 1 + 1 ≠ w3.heap.size := by omega
  rw [← hW]
  clear old e0 e1 e2 hW es z1 z2 z3 hs ne1 ne2
  go_region
  go_wp2
  exact bodyPost_ret (v := .tuple #[num a b k, num a' b' k', num a'' b'' k'']) (by simp [results, Tryd.results18, go_sem, *]) rfl ⟨a, b, k, a', b', k', a'', b'', k'', rfl, HV1.out, HV2.out, HV3.out, (by
    have hb := HBW.out
    repeat (first | with_reducible exact hb | with_reducible refine Below.drew ?_ | refine Below.setCell ?_ (Nat.le_refl w.heap.size) _ | refine Below.setCell ?_ (Nat.le_add_right w.heap.size 1) _ | refine Below.setCell ?_ (Nat.le_add_right w.heap.size 2) _))⟩
end Go.Proofs.YtffcdnokkdifdaaDoor
