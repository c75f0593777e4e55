/- Opening slices of points among the arguments of laws, with the bounds of their cells. -/
import Derived.Test.YtafbdnjabgfjeaaDoorGop
import Derived.Test.YtafbdnjabgfjeaaDoorPolA
import Derived.Deep.Strs
namespace Go.Proofs.YtafbdnjabgfjeaaDoor
open Go Go.ChangeShapes Go.WideShapes Go.ChangeAt Go.RowKit Go.Joins OriM
namespace Pol
variable {H : Type} {enc : TypeId × Value → H}

theorem cellsLNum : Tryd.prog.cellsOf 67 = 3 := by kernel_rfl
theorem cellsLPoint : Tryd.prog.cellsOf 69 = 6 := by kernel_rfl

/-- Three cells that read as a number. -/
theorem num3 {w : World} {base : Nat} {sp : Nat → Bool} {held : Bool} {fuel : Nat} {cs : List Value} {x : DataW H × List MemPlace}
    (h : DataW.trod enc Tryd.prog w base sp held fuel 67 cs = some x) : ∃ a b k : Int, cs = [.int .i64 a, .int .i64 b, .int .i64 k] ∧ I64 a ∧ I64 b ∧ I64 k := by
  obtain ⟨y0, y1, y2, n, rfl, hl, g0, g1, g2⟩ := Go.Deep.trod_struct3 Tryd.underlying67 h
  simp only [cellsI64] at g0 g1 g2
  obtain ⟨a, c0, _, wa⟩ := DataW.trod_int Tryd.underlying2 g0
  obtain ⟨b, c1, _, wb⟩ := DataW.trod_int Tryd.underlying2 g1
  obtain ⟨k, c2, _, wk⟩ := DataW.trod_int Tryd.underlying2 g2
  rw [cellsLNum] at hl
  match cs, hl with
  | [z0, z1, z2], _ =>
    simp at c0 c1 c2
    subst c0 c1 c2
    exact ⟨a, b, k, rfl, bounds_i64 wa, bounds_i64 wb, bounds_i64 wk⟩
theorem pt6 {w : World} {base : Nat} {sp : Nat → Bool} {held : Bool} {fuel : Nat} {cs : List Value} {x : DataW H × List MemPlace}
    (h : DataW.trod enc Tryd.prog w base sp held fuel 69 cs = some x) : ∃ a b k c d l : Int, cs = [.int .i64 a, .int .i64 b, .int .i64 k, .int .i64 c, .int .i64 d, .int .i64 l] ∧ I64 a ∧ I64 b ∧ I64 k ∧ I64 c ∧ I64 d ∧ I64 l := by
  obtain ⟨y0, y1, n, hx, hl, g0, g1⟩ := trod_struct2 Tryd.underlying69 h
  simp only [cellsLNum] at g0 g1
  obtain ⟨a, b, k, e0, i0, i1, i2⟩ := num3 g0
  obtain ⟨c, d, l, e1, i3, i4, i5⟩ := num3 g1
  rw [cellsLPoint] at hl
  match cs, hl with
  | [z0, z1, z2, z3, z4, z5], _ =>
    simp at e0 e1
    obtain ⟨rfl, rfl, rfl⟩ := e0
    obtain ⟨rfl, rfl, rfl⟩ := e1
    exact ⟨a, b, k, c, d, l, rfl, i0, i1, i2, i3, i4, i5⟩
theorem add_add' (a : Addr) (i j : Nat) : (a.add i).add j = a.add (i + j) := by
  unfold Addr.add
  by_cases hi : i = 0 <;> by_cases hj : j = 0 <;> simp [hi, hj, Nat.add_assoc]

set_option maxRecDepth 100000 in
/-- An argument that is a slice of points. -/
theorem open_pts {W : World} {base : Nat} {v : Value} {d : DataW H} {p : List MemPlace} (hv : Value.okWide Tryd.prog W .any base 57 v)
    (h : DataW.Trod enc Tryd.prog W 0 (fun _ => true) true 57 v d p) : ∃ n fs, SlF W W.heap.size v n fs ∧ C64 n fs ∧ (n : Int) ≤ 9223372036854775807 := by
  obtain ⟨a0, len, cap, rfl⟩ := Go.WideShapes.okWide_slice Tryd.underlying57 hv
  obtain ⟨fuel, hf⟩ := h
  rcases DataW.trod_slice Tryd.underlying57 hf with ⟨hcs, _⟩ | ⟨a, len', cap', elems, rest, m, _, hcs, _, _, hle, hmax, hlen, hel, _, _⟩
  · simp [Value.cells] at hcs
    obtain ⟨rfl, rfl, rfl⟩ := hcs
    exact ⟨0, [], ⟨rfl, none, 0, rfl, by omega, fun h => by omega⟩, fun j hj => by omega, by omega⟩
  · simp [Value.cells] at hcs
    obtain ⟨rfl, rfl, rfl⟩ := hcs
    have key : ∀ q, q < len * 6 → ∃ z : Int, W.cell? (a.add q) = some (.int .i64 z) ∧ I64 z := by
      intro q hq
      have hi : q / 6 < len := by omega
      have h1 := hel (q / 6) hi
      rw [cellsLPoint] at h1
      obtain ⟨y, hy⟩ : ∃ y, elems[q / 6]? = some y := ⟨_, List.getElem?_eq_getElem (by omega)⟩
      rw [hy, Option.bind_eq_some_iff] at h1
      obtain ⟨cs, hcs, ht⟩ := h1
      obtain ⟨x0, x1, x2, x3, x4, x5, rfl, b0, b1, b2, b3, b4, b5⟩ := pt6 ht
      have h2 := (World.cells?_some hcs).2.2 (q % 6) (Nat.mod_lt _ (by decide))
      rw [add_add', show q / 6 * 6 + q % 6 = q by omega] at h2
      rcases (show q % 6 = 0 ∨ q % 6 = 1 ∨ q % 6 = 2 ∨ q % 6 = 3 ∨ q % 6 = 4 ∨ q % 6 = 5 by omega) with h | h | h | h | h | h <;> rw [h] at h2
      · exact ⟨_, h2, b0⟩
      · exact ⟨_, h2, b1⟩
      · exact ⟨_, h2, b2⟩
      · exact ⟨_, h2, b3⟩
      · exact ⟨_, h2, b4⟩
      · exact ⟨_, h2, b5⟩
    have hm : (len : Int) ≤ 9223372036854775807 := by unfold maxLen at hmax; omega
    obtain ⟨g, hg⟩ : ∃ g : Nat → Int, ∀ q, q < len * 6 → W.cell? (a.add q) = some (.int .i64 (g q)) ∧ I64 (g q) := by
      refine ⟨fun q => intOf ((W.cell? (a.add q)).getD (.int .i64 0)), fun q hq => ?_⟩
      obtain ⟨z, hz, hb⟩ := key q hq
      simp only [hz, Option.getD_some, intOf]
      exact ⟨trivial, hb⟩
    refine ⟨len, (List.range (len * 6)).map g, ⟨by simp, some a, cap, rfl, hle, fun hp => ?_⟩, fun j hj => by rw [nth_of (by simp; exact hj)]; simp only [List.getElem_map, List.getElem_range]; exact (hg j hj).2, hm⟩
    have hl2 : ((List.range (len * 6)).map g).length = len * 6 := by simp
    have hgn : ∀ q, q < len * 6 → ((List.range (len * 6)).map g).getD q 0 = g q := fun q hq => by simp [List.getD_eq_getElem?_getD, hq]
    obtain ⟨b, off, rfl, hc⟩ := ints_at (a := a) (k := .i64) (zs := (List.range (len * 6)).map g) (w := W) (fun q hq => by rw [hl2] at hq; rw [hgn q hq]; exact (hg q hq).1) (by rw [hl2]; omega)
    exact ⟨b, off, rfl, World.block_lt_of_cell? W _ (hc 0 (by rw [hl2]; omega)), fun q hq => hc q hq⟩
end Pol
end Go.Proofs.YtafbdnjabgfjeaaDoor
