/- Slices of points: comparisons, copies. -/
import Derived.Test.YthhjkiiggokfkaaQpa
namespace Go.Proofs.Ythhjkiiggokfkaa
open Go Go.RowKit

/-- The six cells of point k. -/
theorem six {w : World} {b o n k : Nat} {fs : List Int} (h : Cells w b o fs) (hl : fs.length = n * 6) (hk : k < n) :
    w.cell? ⟨b, o + k * 6, none⟩ = some (.int .i64 (nth fs (k * 6))) ∧ w.cell? ⟨b, o + k * 6 + 1, none⟩ = some (.int .i64 (nth fs (k * 6 + 1))) ∧ w.cell? ⟨b, o + k * 6 + 2, none⟩ = some (.int .i64 (nth fs (k * 6 + 2))) ∧
    w.cell? ⟨b, o + k * 6 + 3, none⟩ = some (.int .i64 (nth fs (k * 6 + 3))) ∧ w.cell? ⟨b, o + k * 6 + 4, none⟩ = some (.int .i64 (nth fs (k * 6 + 4))) ∧ w.cell? ⟨b, o + k * 6 + 5, none⟩ = some (.int .i64 (nth fs (k * 6 + 5))) :=
  ⟨h (k * 6) (by omega), h (k * 6 + 1) (by omega), h (k * 6 + 2) (by omega), h (k * 6 + 3) (by omega), h (k * 6 + 4) (by omega), h (k * 6 + 5) (by omega)⟩
theorem Cells.below {w w' : World} {b o B : Nat} {fs : List Int} (h : Cells w b o fs) (hb : Below B w w') (hB : b < B) : Cells w' b o fs := fun k hk => (hb.cell (p := ⟨b, o + k, none⟩) hB).trans (h k hk)

set_option maxRecDepth 100000 in
set_option maxHeartbeats 4000000 in
theorem eqP_same (v v' : Value) (n : Nat) (fs : List Int) (w : World) (h : SlF w w.heap.size v n fs) (h' : SlF w w.heap.size v' n fs) (hl : n ≤ 1048576) :
    Calls Try.prog 15 #[v, v'] w (RetW (.bool true) w) := by
  obtain ⟨h6, A, c, rfl, hc, hcell⟩ := h
  obtain ⟨_, A', c', rfl, hc', hcell'⟩ := h'
  have HC := Lib.hid hcell
  have HC' := Lib.hid hcell'
  have H6 := Lib.hid h6
  have HE := Lib.hid (fun a b k c d l w => eqPt6 a b k c d l w)
  clear hcell hcell' h6
  go_enter Try.func15, Try.ntmps15
  go_wp2_with fail
  go_loopw [5] (fun i wr => ∃ k : Nat, k ≤ n ∧ i = .int .i64 k ∧ Below w.heap.size w wr) (fun i _ => n - (intOf i).toNat)
  case atStart => exact ⟨0, Nat.zero_le _, rfl, Below.refl _ _⟩
  case round =>
    obtain ⟨k, hk, rfl, hbel⟩ := hrel
    by_cases hlt : k < n
    · obtain ⟨b, o, rfl, hb, hcs⟩ := HC.out (by omega)
      obtain ⟨b', o', rfl, hb', hcs'⟩ := HC'.out (by omega)
      obtain ⟨a0, a1, a2, a3, a4, a5⟩ := six (hcs.below hbel hb) H6.out hlt
      obtain ⟨d0, d1, d2, d3, d4, d5⟩ := six (hcs'.below hbel hb') H6.out hlt
      have hsz := hbel.size
      have q1 : b < wr.heap.size := by omega
      have q2 : b' < wr.heap.size := by omega
      have i0 : (0 : Int) ≤ (k : Int) := by omega
      have i1 : (k : Int) < (n : Int) := by omega
      generalize nth fs (k * 6) = x0 at *
      generalize nth fs (k * 6 + 1) = x1 at *
      generalize nth fs (k * 6 + 2) = x2 at *
      generalize nth fs (k * 6 + 3) = x3 at *
      generalize nth fs (k * 6 + 4) = x4 at *
      generalize nth fs (k * 6 + 5) = x5 at *
      have HF := Lib.hid (fun w => HE.out x0 x1 x2 x3 x4 x5 w)
      clear hcs hcs'
      go_wp2_with fail
      go_region_held3 (fun w' => w'.cell? ⟨b, o + k * 6, none⟩ = some (.int .i64 x0) ∧ w'.cell? ⟨b, o + k * 6 + 1, none⟩ = some (.int .i64 x1) ∧ w'.cell? ⟨b, o + k * 6 + 2, none⟩ = some (.int .i64 x2) ∧ w'.cell? ⟨b, o + k * 6 + 3, none⟩ = some (.int .i64 x3) ∧ w'.cell? ⟨b, o + k * 6 + 4, none⟩ = some (.int .i64 x4) ∧ w'.cell? ⟨b, o + k * 6 + 5, none⟩ = some (.int .i64 x5) ∧ w'.cell? ⟨b', o' + k * 6, none⟩ = some (.int .i64 x0) ∧ w'.cell? ⟨b', o' + k * 6 + 1, none⟩ = some (.int .i64 x1) ∧ w'.cell? ⟨b', o' + k * 6 + 2, none⟩ = some (.int .i64 x2) ∧ w'.cell? ⟨b', o' + k * 6 + 3, none⟩ = some (.int .i64 x3) ∧ w'.cell? ⟨b', o' + k * 6 + 4, none⟩ = some (.int .i64 x4) ∧ w'.cell? ⟨b', o' + k * 6 + 5, none⟩ = some (.int .i64 x5)) ((first | (go_simp; done) | (simp [*]; done))) ((go_at_call 19; refine (HF.out _).mono ?_; rintro e w1 ⟨rfl, hb1⟩; (try replace hb1 := below_undrew hb1); obtain ⟨hc1, hf1⟩ := cellsF hb1; have hz1 := hb1.size))
      go_wp2_with fail
      go_roundw
      case rel => exact ⟨k + 1, by omega, by go_num, by first | exact hbel.trans (hb1.mono hsz) | exact (hbel.trans (hb1.mono hsz)).drew⟩
      case measure => simp [intOf]; omega
    · go_wp2_with fail
      go_ret
      exact ⟨rfl, hbel⟩
end Go.Proofs.Ythhjkiiggokfkaa
