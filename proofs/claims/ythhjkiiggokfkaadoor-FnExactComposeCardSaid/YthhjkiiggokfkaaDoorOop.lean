/- Opening motions among the arguments of the laws. -/
import Derived.Test.YthhjkiiggokfkaaDoorGop
import Derived.Test.YthhjkiiggokfkaaDoorOz
import Derived.Lib.SmallJoins
namespace Go.Proofs.YthhjkiiggokfkaaDoor
open Go Go.ChangeShapes Go.WideShapes Go.ChangeAt Go.RowKit Go.Joins OriM
variable {H : Type} {enc : TypeId × Value → H}

theorem array8 {α : Type} {cs : Array α} (h : cs.size = 8) : ∃ c0 c1 c2 c3 c4 c5 c6 c7, cs = #[c0, c1, c2, c3, c4, c5, c6, c7] := by
  obtain ⟨l⟩ := cs
  match l, h with
  | [c0, c1, c2, c3, c4, c5, c6, c7], _ => exact ⟨c0, c1, c2, c3, c4, c5, c6, c7, rfl⟩
theorem cellsLawsMotion : Tryd.prog.cellsOf 46 = 8 := by kernel_rfl
theorem cellsBool : Tryd.prog.cellsOf 4 = 1 := by kernel_rfl

set_option maxRecDepth 100000 in
/-- An argument that is a motion. -/
theorem open_mot {W : World} {base : Nat} {v : Value} {d : DataW H} {p : List MemPlace} (hv : Value.okWide Tryd.prog W .any base 46 v)
    (h : DataW.Trod enc Tryd.prog W 0 (fun _ => true) true 46 v d p) : ∃ (t : Int) (f : Bool) (a b k c d l : Int), v = mot t f a b k c d l ∧ I6 a b k c d l := by
  obtain ⟨cs, rfl, hsz⟩ := okWide_struct Tryd.underlying46 hv
  obtain ⟨z0, z1, z2, z3, z4, z5, z6, z7, rfl⟩ := array8 (hsz.trans cellsLawsMotion)
  obtain ⟨fuel, hf⟩ := h
  obtain ⟨y0, y1, y2, y3, n, hx, _, g0, g1, g2, g3⟩ := trod_struct4 Tryd.underlying46 hf
  simp only [cellsLawsNum, cellsI64, cellsBool, Value.cells] at g0 g1 g2 g3
  obtain ⟨t, e0, _, _⟩ := DataW.trod_int Tryd.underlying2 g0
  obtain ⟨f, e1, _⟩ := DataW.trod_bool Tryd.underlying4 g1
  obtain ⟨a, b, k, e2, _, i2⟩ := num_cells Tryd.underlying33 Tryd.underlying2 ⟨rfl, rfl⟩ ⟨rfl, rfl⟩ ⟨rfl, rfl⟩ cellsI64 cellsLawsNum g2
  obtain ⟨a', b', k', e3, _, i3⟩ := num_cells Tryd.underlying33 Tryd.underlying2 ⟨rfl, rfl⟩ ⟨rfl, rfl⟩ ⟨rfl, rfl⟩ cellsI64 cellsLawsNum g3
  simp at e0 e1 e2 e3
  subst e0 e1
  obtain ⟨rfl, rfl, rfl⟩ := e2
  obtain ⟨rfl, rfl, rfl⟩ := e3
  exact ⟨t, f, a, b, k, a', b', k', rfl, ⟨i2, i3⟩⟩
end Go.Proofs.YthhjkiiggokfkaaDoor
