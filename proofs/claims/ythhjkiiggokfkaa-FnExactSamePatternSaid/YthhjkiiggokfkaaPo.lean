/- Opening patterns among the arguments of laws. -/
import Derived.Test.YthhjkiiggokfkaaQpo
import Derived.Test.YthhjkiiggokfkaaPd
namespace Go.Proofs.Ythhjkiiggokfkaa
open Go Go.ChangeShapes Go.WideShapes Go.ChangeAt Go.RowKit Go.Joins
variable {H : Type} {enc : TypeId × Value → H}

theorem cellsLCrease : Try.prog.cellsOf 51 = 3 := by kernel_rfl
theorem cellsLPattern : Try.prog.cellsOf 25 = 2 := by kernel_rfl
theorem cellsLPS : Try.prog.cellsOf 22 = 1 := by kernel_rfl
theorem cellsLCS : Try.prog.cellsOf 23 = 1 := by kernel_rfl
theorem cr3 {w : World} {base : Nat} {sp : Nat → Bool} {held : Bool} {fuel : Nat} {cs : List Value} {x : DataW H × List MemPlace}
    (h : DataW.trod enc Try.prog w base sp held fuel 51 cs = some x) : ∃ a b k : Int, cs = [.int .i64 a, .int .i64 b, .int .i64 k] := by
  obtain ⟨y0, y1, y2, n, rfl, hl, g0, g1, g2⟩ := Go.Deep.trod_struct3 Try.underlying51 h
  simp only [cellsI64] at g0 g1 g2
  obtain ⟨a, c0, _, _⟩ := DataW.trod_int Try.underlying2 g0
  obtain ⟨b, c1, _, _⟩ := DataW.trod_int Try.underlying2 g1
  obtain ⟨k, c2, _, _⟩ := DataW.trod_int Try.underlying2 g2
  rw [cellsLCrease] at hl
  match cs, hl with
  | [z0, z1, z2], _ =>
    simp at c0 c1 c2
    subst c0 c1 c2
    exact ⟨a, b, k, rfl⟩

set_option maxRecDepth 100000 in
/-- A slice of points inside an argument. -/
theorem slF_trod {W : World} {fuel : Nat} {cs : List Value} {x : DataW H × List MemPlace} (hf : DataW.trod enc Try.prog W 0 (fun _ => true) true fuel 22 cs = some x) :
    ∃ v n fs, cs = [v] ∧ SlF W W.heap.size v n fs ∧ (n : Int) ≤ 9223372036854775807 := by
  rcases DataW.trod_slice Try.underlying22 hf with ⟨hcs, _⟩ | ⟨a, len, cap, elems, rest, m, _, hcs, _, _, hle, hmax, hlen, hel, _, _⟩
  · exact ⟨_, 0, [], hcs, ⟨rfl, none, 0, rfl, by omega, fun h => by omega⟩, by omega⟩
  · have key : ∀ q, q < len * 6 → ∃ z : Int, W.cell? (a.add q) = some (.int .i64 z) := by
      intro q hq
      have hi : q / 6 < len := by omega
      have h1 := hel (q / 6) hi
      rw [cellsLPoint] at h1
      obtain ⟨y, hy⟩ : ∃ y, elems[q / 6]? = some y := ⟨_, List.getElem?_eq_getElem (by omega)⟩
      rw [hy, Option.bind_eq_some_iff] at h1
      obtain ⟨cs, hcs, ht⟩ := h1
      obtain ⟨x0, x1, x2, x3, x4, x5, rfl⟩ := pt6 ht
      have h2 := (World.cells?_some hcs).2.2 (q % 6) (Nat.mod_lt _ (by decide))
      rw [add_add', show q / 6 * 6 + q % 6 = q by omega] at h2
      rcases (show q % 6 = 0 ∨ q % 6 = 1 ∨ q % 6 = 2 ∨ q % 6 = 3 ∨ q % 6 = 4 ∨ q % 6 = 5 by omega) with h | h | h | h | h | h <;> rw [h] at h2 <;> exact ⟨_, h2⟩
    have hm : (len : Int) ≤ 9223372036854775807 := by unfold maxLen at hmax; omega
    obtain ⟨g, hg⟩ : ∃ g : Nat → Int, ∀ q, q < len * 6 → W.cell? (a.add q) = some (.int .i64 (g q)) := by
      refine ⟨fun q => intOf ((W.cell? (a.add q)).getD (.int .i64 0)), fun q hq => ?_⟩
      obtain ⟨z, hz⟩ := key q hq
      simp only [hz, Option.getD_some, intOf]
    refine ⟨_, len, (List.range (len * 6)).map g, hcs, ⟨by simp, some a, cap, rfl, hle, fun hp => ?_⟩, hm⟩
    have hl2 : ((List.range (len * 6)).map g).length = len * 6 := by simp
    have hgn : ∀ q, q < len * 6 → ((List.range (len * 6)).map g).getD q 0 = g q := fun q hq => by simp [List.getD_eq_getElem?_getD, hq]
    obtain ⟨b, off, rfl, hc⟩ := ints_at (a := a) (k := .i64) (zs := (List.range (len * 6)).map g) (w := W) (fun q hq => by rw [hl2] at hq; rw [hgn q hq]; exact hg q hq) (by rw [hl2]; omega)
    exact ⟨b, off, rfl, World.block_lt_of_cell? W _ (hc 0 (by rw [hl2]; omega)), fun q hq => hc q hq⟩
set_option maxRecDepth 100000 in
/-- A slice of creases inside an argument. -/
theorem slC_trod {W : World} {fuel : Nat} {cs : List Value} {x : DataW H × List MemPlace} (hf : DataW.trod enc Try.prog W 0 (fun _ => true) true fuel 23 cs = some x) :
    ∃ v n fs, cs = [v] ∧ SlC W W.heap.size v n fs ∧ (n : Int) ≤ 9223372036854775807 := by
  rcases DataW.trod_slice Try.underlying23 hf with ⟨hcs, _⟩ | ⟨a, len, cap, elems, rest, m, _, hcs, _, _, hle, hmax, hlen, hel, _, _⟩
  · exact ⟨_, 0, [], hcs, ⟨rfl, none, 0, rfl, by omega, fun h => by omega⟩, by omega⟩
  · have key : ∀ q, q < len * 3 → ∃ z : Int, W.cell? (a.add q) = some (.int .i64 z) := by
      intro q hq
      have hi : q / 3 < len := by omega
      have h1 := hel (q / 3) hi
      rw [cellsLCrease] at h1
      obtain ⟨y, hy⟩ : ∃ y, elems[q / 3]? = some y := ⟨_, List.getElem?_eq_getElem (by omega)⟩
      rw [hy, Option.bind_eq_some_iff] at h1
      obtain ⟨cs, hcs, ht⟩ := h1
      obtain ⟨x0, x1, x2, rfl⟩ := cr3 ht
      have h2 := (World.cells?_some hcs).2.2 (q % 3) (Nat.mod_lt _ (by decide))
      rw [add_add', show q / 3 * 3 + q % 3 = q by omega] at h2
      rcases (show q % 3 = 0 ∨ q % 3 = 1 ∨ q % 3 = 2 by omega) with h | h | h <;> rw [h] at h2 <;> exact ⟨_, h2⟩
    have hm : (len : Int) ≤ 9223372036854775807 := by unfold maxLen at hmax; omega
    obtain ⟨g, hg⟩ : ∃ g : Nat → Int, ∀ q, q < len * 3 → W.cell? (a.add q) = some (.int .i64 (g q)) := by
      refine ⟨fun q => intOf ((W.cell? (a.add q)).getD (.int .i64 0)), fun q hq => ?_⟩
      obtain ⟨z, hz⟩ := key q hq
      simp only [hz, Option.getD_some, intOf]
    refine ⟨_, len, (List.range (len * 3)).map g, hcs, ⟨by simp, some a, cap, rfl, hle, fun hp => ?_⟩, hm⟩
    have hl2 : ((List.range (len * 3)).map g).length = len * 3 := by simp
    have hgn : ∀ q, q < len * 3 → ((List.range (len * 3)).map g).getD q 0 = g q := fun q hq => by simp [List.getD_eq_getElem?_getD, hq]
    obtain ⟨b, off, rfl, hc⟩ := ints_at (a := a) (k := .i64) (zs := (List.range (len * 3)).map g) (w := W) (fun q hq => by rw [hl2] at hq; rw [hgn q hq]; exact hg q hq) (by rw [hl2]; omega)
    exact ⟨b, off, rfl, World.block_lt_of_cell? W _ (hc 0 (by rw [hl2]; omega)), fun q hq => hc q hq⟩

/-- An argument that is a pattern. -/
theorem open_pat {W : World} {base : Nat} {v : Value} {d : DataW H} {p : List MemPlace} (hv : Value.okWide Try.prog W .any base 25 v)
    (h : DataW.Trod enc Try.prog W 0 (fun _ => true) true 25 v d p) : ∃ P C n m fs us, v = patV P C ∧ PatS W P C n m fs us ∧ (n : Int) ≤ 9223372036854775807 ∧ (m : Int) ≤ 9223372036854775807 := by
  obtain ⟨cs, rfl, hsz⟩ := okWide_struct Try.underlying25 hv
  obtain ⟨z0, z1, rfl⟩ : ∃ z0 z1, cs = #[z0, z1] := by
    rw [cellsLPattern] at hsz
    obtain ⟨l⟩ := cs
    match l, hsz with
    | [c0, c1], _ => exact ⟨c0, c1, rfl⟩
  obtain ⟨fuel, hf⟩ := h
  obtain ⟨y0, y1, n, hx, _, g0, g1⟩ := trod_struct2 Try.underlying25 hf
  simp only [cellsLPS, cellsLCS, Value.cells] at g0 g1
  obtain ⟨P, n0, fs, e0, s0, l0⟩ := slF_trod g0
  obtain ⟨C, m0, us, e1, s1, l1⟩ := slC_trod g1
  simp at e0 e1
  subst e0 e1
  exact ⟨_, _, n0, m0, fs, us, rfl, ⟨s0, s1⟩, l0, l1⟩
end Go.Proofs.Ythhjkiiggokfkaa
