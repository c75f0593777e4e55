/- The laws' helpers on slices of integers: copies, comparisons, marks. -/
import Derived.Test.YthhjkiiggokfkaaQm
import Derived.Deep.Light
import Derived.Deep.QuietTactic
import Derived.BigQuiet
import Derived.Deep.LoopGhost
import Derived.Outline
namespace Go.Proofs.Ythhjkiiggokfkaa
open Go Go.RowKit

theorem infoI64 : (Try.prog.info? 2).map (fun i => (i.zero, i.size, i.bytes)) = some (some (.int .i64 0), 1, 8) := by kernel_rfl
theorem zeros_made (n : Nat) : (madeCells #[Value.int .i64 0] (n * 1)).toList = (List.replicate n (0 : Int)).map (Value.int .i64) := by
  rw [Nat.mul_one]
  apply List.ext_getElem
  · simp [madeCells]
  · intro k h1 h2
    simp [madeCells, Nat.mod_one]

/-- A slice of the call's own that reads as xs, nothing old turned. -/
def RetO (xs : List Int) (w : World) (e : Ending) (w' : World) : Prop := ∃ v, e = .returned v ∧ OwnI w' w.heap.size v xs ∧ Below w.heap.size w w'

theorem copy_start {w w1 : World} {n : Nat} {xs : List Int} (hn : xs.length = n) (h : w1.ownsRow w.heap.size 2 1 (.slice (some ⟨w.heap.size, 0, none⟩) n n) n (madeCells #[Value.int .i64 0] (n * 1)).toList) :
    OwnI w1 w.heap.size (.slice (some ⟨w.heap.size, 0, none⟩) n n) (part xs 0) := by
  unfold OwnI
  rw [part_zero, hn, List.length_replicate, ← zeros_made]
  exact h
theorem copy_step {w1 : World} {g n k base : Nat} {xs : List Int} (hn : xs.length = n) (hk : k < n) (h : OwnI w1 base (.slice (some ⟨g, 0, none⟩) n n) (part xs k)) :
    OwnI (w1.setCell ⟨g, k, none⟩ (.int .i64 (nth xs k))) base (.slice (some ⟨g, 0, none⟩) n n) (part xs (k + 1)) := by
  subst hn
  unfold OwnI at *
  rw [part_len _ _ (by omega)] at *
  have := (h.stored k (.int .i64 (nth xs k))).1
  rw [← List.map_set, part_set hk] at this
  exact this
theorem own_cell {w1 : World} {g n c base : Nat} {ys : List Int} (hn : ys.length = n) (h : OwnI w1 base (.slice (some ⟨g, 0, none⟩) n c) ys) {k : Nat} (hk : k < n) :
    w1.cell? ⟨g, k, none⟩ = some (.int .i64 (nth ys k)) := by
  subst hn
  rw [h.cellAt k (by omega), List.getElem?_map, List.getElem?_eq_getElem hk, nth_of hk]; rfl
theorem own_free {w1 : World} {g n c base : Nat} {ys : List Int} (hn : ys.length = n) (h : OwnI w1 base (.slice (some ⟨g, 0, none⟩) n c) ys) (k : Nat) :
    w1.frozen? ⟨g, k, none⟩ = false := by
  subst hn
  exact h.frozenAt k

/-- The world has drawn, no more. -/
def RetQ (v : Value) (w : World) (e : Ending) (w' : World) : Prop := e = .returned v ∧ ∃ n, w' = w.drewN n

theorem mark_step {w1 : World} {g n c k base : Nat} {m : Int} {xs : List Int} (hn : xs.length = n) (hk : k < n) (h : OwnI w1 base (.slice (some ⟨g, 0, none⟩) n c) (marked m xs k)) :
    OwnI (w1.setCell ⟨g, k, none⟩ (.int .i64 (m + k))) base (.slice (some ⟨g, 0, none⟩) n c) (marked m xs (k + 1)) ∧ w1.grownBy (w1.setCell ⟨g, k, none⟩ (.int .i64 (m + k))) (some g) := by
  subst hn
  unfold OwnI at *
  rw [marked_len _ _ _ (by omega)] at *
  have := h.stored k (.int .i64 (m + k))
  rw [← List.map_set, marked_set hk] at this
  exact this

/-- Marks are laid: nothing but the row has turned. -/
def RetM (v : Value) (base : Nat) (xs : List Int) (w : World) (e : Ending) (w' : World) : Prop := e = .returned (.int .i64 (1 + (xs.length : Int))) ∧ OwnI w' base v (marks 1 xs.length) ∧ w.grownBy w' v.ownBlock

end Go.Proofs.Ythhjkiiggokfkaa
