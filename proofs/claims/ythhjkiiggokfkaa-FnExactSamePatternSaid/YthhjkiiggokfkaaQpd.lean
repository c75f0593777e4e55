/- Slices of points: copies out of the laws' points. -/
import Derived.Test.YthhjkiiggokfkaaQpb
namespace Go.Proofs.Ythhjkiiggokfkaa
open Go Go.RowKit

theorem zeros_madeF (n : Nat) : (madeCells (p6v 0 0 0 0 0 0).cells (n * 6)).toList = (List.replicate (n * 6) (0 : Int)).map (Value.int .i64) := by
  apply List.ext_getElem
  · simp [madeCells]
  · intro k h1 h2
    have hk : k % 6 < 6 := Nat.mod_lt _ (by decide)
    simp only [madeCells, Value.cells, List.getElem_map, List.getElem_replicate]
    rcases (show k % 6 = 0 ∨ k % 6 = 1 ∨ k % 6 = 2 ∨ k % 6 = 3 ∨ k % 6 = 4 ∨ k % 6 = 5 by omega) with h | h | h | h | h | h <;> simp [h]
theorem copyF_start {w w1 : World} {n : Nat} {fs : List Int} (hl : fs.length = n * 6) (h : w1.ownsRow w.heap.size 39 6 (.slice (some ⟨w.heap.size, 0, none⟩) n n) n (madeCells (p6v 0 0 0 0 0 0).cells (n * 6)).toList) :
    OwnF w1 w.heap.size (.slice (some ⟨w.heap.size, 0, none⟩) n n) n (part fs (0 * 6)) := by
  unfold OwnF
  rw [Nat.zero_mul, part_zero, hl, ← zeros_madeF]
  exact h
theorem copyF1 {w1 : World} {g n c base j : Nat} {x : Int} {fs : List Int} (hl : fs.length = n * 6) (hj : j < n * 6) (hx : x = nth fs j) (h : OwnF w1 base (.slice (some ⟨g, 0, none⟩) n c) n (part fs j)) :
    OwnF (w1.setCell ⟨g, j, none⟩ (.int .i64 x)) base (.slice (some ⟨g, 0, none⟩) n c) n (part fs (j + 1)) := by
  subst hx
  have := (h.stored j (.int .i64 (nth fs j))).1
  rw [← List.map_set, part_set (by omega)] at this
  exact this
theorem copyF6 {w1 : World} {g n c base k : Nat} {fs : List Int} (hl : fs.length = n * 6) (hk : k < n) (h : OwnF w1 base (.slice (some ⟨g, 0, none⟩) n c) n (part fs (k * 6))) :
    OwnF ((((((w1.setCell ⟨g, k * 6, none⟩ (.int .i64 (nth fs (k * 6)))).setCell ⟨g, k * 6 + 1, none⟩ (.int .i64 (nth fs (k * 6 + 1)))).setCell ⟨g, k * 6 + 2, none⟩ (.int .i64 (nth fs (k * 6 + 2)))).setCell ⟨g, k * 6 + 3, none⟩ (.int .i64 (nth fs (k * 6 + 3)))).setCell ⟨g, k * 6 + 4, none⟩ (.int .i64 (nth fs (k * 6 + 4)))).setCell ⟨g, k * 6 + 5, none⟩ (.int .i64 (nth fs (k * 6 + 5)))) base (.slice (some ⟨g, 0, none⟩) n c) n (part fs ((k + 1) * 6)) := by
  rw [show (k + 1) * 6 = k * 6 + 1 + 1 + 1 + 1 + 1 + 1 by omega]
  exact copyF1 hl (by omega) rfl (copyF1 hl (by omega) rfl (copyF1 hl (by omega) rfl (copyF1 hl (by omega) rfl (copyF1 hl (by omega) rfl (copyF1 hl (by omega) rfl h)))))

/-- A slice of points of the call's own, nothing old turned. -/
def RetOF (n : Nat) (fs : List Int) (w : World) (e : Ending) (w' : World) : Prop := ∃ v, e = .returned v ∧ OwnF w' w.heap.size v n fs ∧ Below w.heap.size w w'

set_option maxRecDepth 100000 in
set_option maxHeartbeats 4000000 in
theorem toP_any (v : Value) (n : Nat) (fs : List Int) (w : World) (h : SlF w w.heap.size v n fs) (hl : n ≤ 1048576) :
    Calls Try.prog 11 #[v] w (RetOF n fs w) := by
  obtain ⟨h6, A, c, rfl, hc, hcell⟩ := h
  have HC := Lib.hid hcell
  have H6 := Lib.hid h6
  have HE := Lib.hid (fun a b k c d l w => toPt6 a b k c d l w)
  clear hcell h6
  obtain ⟨i0, hi, hz0, hz1, hz2⟩ := info_parts infoP
  go_enter Try.func11, Try.ntmps11
  go_wp2_with (at_make; refine wpList_make_full _ rfl _ _ 28 rfl w.heap.size 39 i0 (p6v 0 0 0 0 0 0) 6 Try.underlying28 hi hz0 hz1 .i64 .i64 _ _ n rfl rfl rfl rfl (by rw [hz2]; omega) (by unfold maxLen; omega) (Nat.le_refl _) ?_; intro w0 hown0 hgrow0)
  have H0 := copyF_start H6.out hown0
  have B0 := grown_below hgrow0 (Nat.le_refl _) (fun k h => by cases h)
  clear hown0 hgrow0
  go_loopw [4] (fun i wr => ∃ k : Nat, k ≤ n ∧ i = .int .i64 k ∧ OwnF wr w.heap.size (.slice (some ⟨w.heap.size, 0, none⟩) n n) n (part fs (k * 6)) ∧ Below w.heap.size w wr) (fun i _ => n - (intOf i).toNat)
  case atStart => exact ⟨0, Nat.zero_le _, rfl, H0, B0⟩
  case round =>
    obtain ⟨k, hk, rfl, hown, hbel⟩ := hrel
    clear H0 B0
    by_cases hlt : k < n
    · obtain ⟨b, o, rfl, hb, hcs⟩ := HC.out (by omega)
      obtain ⟨a0, a1, a2, a3, a4, a5⟩ := six (hcs.below hbel hb) H6.out hlt
      have HF := Lib.hid (fun w => HE.out (nth fs (k * 6)) (nth fs (k * 6 + 1)) (nth fs (k * 6 + 2)) (nth fs (k * 6 + 3)) (nth fs (k * 6 + 4)) (nth fs (k * 6 + 5)) w)
      clear hcs
      go_wp2_with fail
      refine (HF.out _).mono ?_
      rintro e w1 ⟨rfl, hb1⟩
      have ho1 := own_below hown hb1 (Nat.le_refl _)
      have B1 := hbel.trans (hb1.mono hbel.size)
      have c0 := ownF_cell ho1 (k := k * 6) (by omega)
      have c1 := ownF_cell ho1 (k := k * 6 + 1) (by omega)
      have c2 := ownF_cell ho1 (k := k * 6 + 2) (by omega)
      have c3 := ownF_cell ho1 (k := k * 6 + 3) (by omega)
      have c4 := ownF_cell ho1 (k := k * 6 + 4) (by omega)
      have c5 := ownF_cell ho1 (k := k * 6 + 5) (by omega)
      have f0 := ho1.frozenAt (k * 6)
      have f1 := ho1.frozenAt (k * 6 + 1)
      have f2 := ho1.frozenAt (k * 6 + 2)
      have f3 := ho1.frozenAt (k * 6 + 3)
      have f4 := ho1.frozenAt (k * 6 + 4)
      have f5 := ho1.frozenAt (k * 6 + 5)
      have HS := Lib.hid (copyF6 H6.out hlt ho1)
      clear hown ho1
      go_wp2_with fail
      go_roundw
      case rel => exact ⟨k + 1, by omega, by go_num, HS.out, ((((((B1.setCell (p := ⟨w.heap.size, k * 6, none⟩) (Nat.le_refl _) _).setCell (p := ⟨w.heap.size, k * 6 + 1, none⟩) (Nat.le_refl _) _).setCell (p := ⟨w.heap.size, k * 6 + 2, none⟩) (Nat.le_refl _) _).setCell (p := ⟨w.heap.size, k * 6 + 3, none⟩) (Nat.le_refl _) _).setCell (p := ⟨w.heap.size, k * 6 + 4, none⟩) (Nat.le_refl _) _).setCell (p := ⟨w.heap.size, k * 6 + 5, none⟩) (Nat.le_refl _) _)⟩
      case measure => simp [intOf]; omega
    · go_wp2_with fail
      go_ret
      obtain rfl : k = n := by omega
      refine ⟨_, rfl, ?_, hbel⟩
      rw [← H6.out, part_all] at hown
      exact hown
end Go.Proofs.Ythhjkiiggokfkaa
