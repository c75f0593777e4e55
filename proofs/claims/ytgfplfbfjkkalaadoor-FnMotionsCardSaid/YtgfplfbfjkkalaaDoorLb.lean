/- The walks of the laws of MakeNum, AddNum, SubNum, MulNum. -/
import Derived.Test.YtgfplfbfjkkalaaDoorSd
import Derived.Deep.DeepCutAuto
namespace Go.Proofs.YtgfplfbfjkkalaaDoor
open Go Go.RowKit OriM

/-- Behind the first statement: the model's answer lies in a block. -/
def Cut1 (w : World) (a b k a' b' k' rA rB rK : Int) (rO : Bool) (s5 s6 : Value) (wr : World) : Prop := ∃ g : Nat, s5 = .pointer (some ⟨g, 0, none⟩) ∧ s6 = .bool rO ∧ w.heap.size + 1 < g ∧ g < wr.heap.size ∧ Below w.heap.size w wr ∧
  wr.cell? ⟨w.heap.size, 0, none⟩ = some (.int .i64 a) ∧ wr.cell? ⟨w.heap.size, 1, none⟩ = some (.int .i64 b) ∧ wr.cell? ⟨w.heap.size, 2, none⟩ = some (.int .i64 k) ∧
  wr.cell? ⟨w.heap.size + 1, 0, none⟩ = some (.int .i64 a') ∧ wr.cell? ⟨w.heap.size + 1, 1, none⟩ = some (.int .i64 b') ∧ wr.cell? ⟨w.heap.size + 1, 2, none⟩ = some (.int .i64 k') ∧
  wr.cell? ⟨g, 0, none⟩ = some (.int .i64 rA) ∧ wr.cell? ⟨g, 1, none⟩ = some (.int .i64 rB) ∧ wr.cell? ⟨g, 2, none⟩ = some (.int .i64 rK)

/-- Behind the second one: both answers do. -/
def Cut2 (w : World) (g : Nat) (rA rB rK : Int) (rO : Bool) (s7 s8 : Value) (wr : World) : Prop := ∃ g' : Nat, s7 = .pointer (some ⟨g', 0, none⟩) ∧ s8 = .bool rO ∧ Below w.heap.size w wr ∧
  wr.cell? ⟨g, 0, none⟩ = some (.int .i64 rA) ∧ wr.cell? ⟨g, 1, none⟩ = some (.int .i64 rB) ∧ wr.cell? ⟨g, 2, none⟩ = some (.int .i64 rK) ∧
  wr.cell? ⟨g', 0, none⟩ = some (.int .i64 rA) ∧ wr.cell? ⟨g', 1, none⟩ = some (.int .i64 rB) ∧ wr.cell? ⟨g', 2, none⟩ = some (.int .i64 rK)

theorem pair_ex (c : Bool) (v : Value) (h : ∃ rA rB rK rO, v = numOk rA rB rK rO) : ∃ rA rB rK rO, (if c then v else numOk 0 0 0 false) = numOk rA rB rK rO := by
  cases c
  · exact ⟨0, 0, 0, false, rfl⟩
  · exact h

end Go.Proofs.YtgfplfbfjkkalaaDoor
