/- Opening the arguments of laws on slices of integers. -/
import Derived.Test.YtnhobilmgefhnaaFramP
import Derived.Test.YtnhobilmgefhnaaQl
namespace Go.Proofs.Ytnhobilmgefhnaa
open Go Go.ChangeShapes Go.WideShapes Go.ChangeAt Go.RowKit Go.Joins
variable {H : Type} {enc : TypeId × Value → H}

theorem laidOut : laidOutB Try.prog = true := by kernel_rfl
theorem cellsI64 : Try.prog.cellsOf 2 = 1 := by kernel_rfl

theorem i64_wf {q : Int} (h : (Lit.int .i64 q).wf = true) : I64 q := bounds_i64 h

set_option maxRecDepth 100000 in
/-- An argument that is a slice of integers. -/
theorem open_sl {W : World} {base : Nat} {v : Value} {d : DataW H} {p : List MemPlace} (hv : Value.okWide Try.prog W .any base 24 v)
    (h : DataW.Trod enc Try.prog W 0 (fun _ => true) true 24 v d p) : ∃ xs, Sl W W.heap.size v xs ∧ Ints xs := by
  obtain ⟨a0, len, cap, rfl⟩ := Go.WideShapes.okWide_slice Try.underlying24 hv
  obtain ⟨fuel, hf⟩ := h
  rcases Go.ChangeShapes.open_ints Try.underlying24 Try.underlying2 cellsI64 hf with ⟨hcs, _⟩ | ⟨a, len', cap', zs, hcs, _, hle, hmax, hall, _, hcell, hwf⟩
  · simp [Value.cells] at hcs
    obtain ⟨rfl, rfl, rfl⟩ := hcs
    exact ⟨[], ⟨none, 0, rfl, by simp, fun h => by simp at h⟩, fun x hx => by cases hx⟩
  · simp [Value.cells] at hcs
    obtain ⟨rfl, rfl, rfl⟩ := hcs
    simp only [if_true] at hall
    have hl : (zs.take len).length = len := by rw [List.length_take]; omega
    have hgd : ∀ k, k < len → nth (zs.take len) k = zs.getD k 0 := fun k hk => by
      simp [nth, List.getD_eq_getElem?_getD, hk]
    refine ⟨zs.take len, ⟨some a, cap, by rw [hl], by omega, fun h0 => ?_⟩, fun x hx => i64_wf (hwf x (List.mem_of_mem_take hx))⟩
    rw [hl] at h0
    obtain ⟨b, off, rfl, hc⟩ := ints_at hcell (by omega)
    refine ⟨b, off, rfl, World.block_lt_of_cell? W _ (hc 0 (by omega)), fun k hk => ?_⟩
    rw [hl] at hk
    rw [hc k (by omega), hgd k hk]
end Go.Proofs.Ytnhobilmgefhnaa
