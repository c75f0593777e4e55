/- The laws' helpers on slices of points: copies, comparisons, marks. -/
import Derived.Test.YthhjkiiggokfkaaQp
import Derived.Deep.RegionHeld3
namespace Go.Proofs.Ythhjkiiggokfkaa
open Go Go.RowKit

theorem infoP : (Try.prog.info? 39).map (fun i => (i.zero, i.size, i.bytes)) = some (some (p6v 0 0 0 0 0 0), 6, 48) := by kernel_rfl

theorem markF1 {w1 : World} {g n c base j : Nat} {m x : Int} {fs : List Int} (hl : fs.length = n * 6) (hj : j < n * 6) (hx : x = m + (j : Int)) (h : OwnF w1 base (.slice (some ⟨g, 0, none⟩) n c) n (marked m fs j)) :
    OwnF (w1.setCell ⟨g, j, none⟩ (.int .i64 x)) base (.slice (some ⟨g, 0, none⟩) n c) n (marked m fs (j + 1)) ∧ w1.grownBy (w1.setCell ⟨g, j, none⟩ (.int .i64 x)) (some g) := by
  subst hx
  have := h.stored j (.int .i64 (m + (j : Int)))
  rw [← List.map_set, marked_set (by omega)] at this
  exact this
theorem markF6 {w1 : World} {g n c base k : Nat} {m : Int} {fs : List Int} (hl : fs.length = n * 6) (hk : k < n) (hm : m = 1 + 6 * (k : Int)) (h : OwnF w1 base (.slice (some ⟨g, 0, none⟩) n c) n (marked 1 fs (k * 6))) :
    OwnF ((((((w1.setCell ⟨g, k * 6, none⟩ (.int .i64 m)).setCell ⟨g, k * 6 + 1, none⟩ (.int .i64 (m + 1))).setCell ⟨g, k * 6 + 2, none⟩ (.int .i64 (m + 1 + 1))).setCell ⟨g, k * 6 + 3, none⟩ (.int .i64 (m + 1 + 1 + 1))).setCell ⟨g, k * 6 + 4, none⟩ (.int .i64 (m + 1 + 1 + 1 + 1))).setCell ⟨g, k * 6 + 5, none⟩ (.int .i64 (m + 1 + 1 + 1 + 1 + 1))) base (.slice (some ⟨g, 0, none⟩) n c) n (marked 1 fs ((k + 1) * 6)) ∧
    w1.grownBy ((((((w1.setCell ⟨g, k * 6, none⟩ (.int .i64 m)).setCell ⟨g, k * 6 + 1, none⟩ (.int .i64 (m + 1))).setCell ⟨g, k * 6 + 2, none⟩ (.int .i64 (m + 1 + 1))).setCell ⟨g, k * 6 + 3, none⟩ (.int .i64 (m + 1 + 1 + 1))).setCell ⟨g, k * 6 + 4, none⟩ (.int .i64 (m + 1 + 1 + 1 + 1))).setCell ⟨g, k * 6 + 5, none⟩ (.int .i64 (m + 1 + 1 + 1 + 1 + 1))) (some g) := by
  have a0 := markF1 (x := m) hl (by omega) (by push_cast; omega) h
  have a1 := markF1 (x := m + 1) hl (by omega) (by push_cast; omega) a0.1
  have a2 := markF1 (x := m + 1 + 1) hl (by omega) (by push_cast; omega) a1.1
  have a3 := markF1 (x := m + 1 + 1 + 1) hl (by omega) (by push_cast; omega) a2.1
  have a4 := markF1 (x := m + 1 + 1 + 1 + 1) hl (by omega) (by push_cast; omega) a3.1
  have a5 := markF1 (x := m + 1 + 1 + 1 + 1 + 1) hl (by omega) (by push_cast; omega) a4.1
  rw [show (k + 1) * 6 = k * 6 + 1 + 1 + 1 + 1 + 1 + 1 by omega]
  exact ⟨a5.1, grownBy_trans a0.2 (grownBy_trans a1.2 (grownBy_trans a2.2 (grownBy_trans a3.2 (grownBy_trans a4.2 a5.2))))⟩

/-- Marks are laid: nothing but the row has turned. -/
def RetMF (v : Value) (base n : Nat) (w : World) (e : Ending) (w' : World) : Prop := e = .returned (.int .i64 (1 + ((n * 6 : Nat) : Int))) ∧ OwnF w' base v n (marks 1 (n * 6)) ∧ w.grownBy w' v.ownBlock

end Go.Proofs.Ythhjkiiggokfkaa
