/- The laws' helpers on slices of points: copies, comparisons, marks. -/
import Derived.Test.YtlmfbcffmalkkaaQp
import Derived.Deep.RegionHeld3
namespace Go.Proofs.Ytlmfbcffmalkkaa
open Go Go.RowKit

theorem infoP : (Try.prog.info? 56).map (fun i => (i.zero, i.size, i.bytes)) = some (some (p6v 0 0 0 0 0 0), 6, 48) := by kernel_rfl

set_option maxHeartbeats 2000000 in
theorem heldP_any (v : Value) (n : Nat) (w : World) (h : SlF w w.heap.size v n (marks 1 (n * 6))) (hl : n ≤ 1048576) :
    Calls Try.prog 32 #[v, .int .i64 1] w (RetQ (.int .i64 (1 + ((n * 6 : Nat) : Int))) w) := by
  obtain ⟨_, A, c, rfl, hc, hcell⟩ := h
  have HC := Lib.hid hcell
  clear hcell
  go_enter Try.func32, Try.ntmps32
  go_wp2_with fail
  go_loop [1, 5] (fun q i => ∃ (k : Nat) (m : Int), k ≤ n ∧ i = .int .i64 k ∧ q = .int .i64 m ∧ Hid (m = 1 + 6 * (k : Int)) ∧ 0 ≤ m ∧ m ≤ 1 + 6 * 1048576) (fun _ i => n - (intOf i).toNat)
  case atStart => exact ⟨0, 1, Nat.zero_le _, rfl, rfl, Lib.hid (by simp), by omega, by omega⟩
  case round =>
    obtain ⟨k, m, hk, rfl, rfl, hm, m0, m1⟩ := hrel
    by_cases hlt : k < n
    · obtain ⟨b, o, rfl, hb, hcs⟩ := HC.out (by omega)
      have hx : ∀ i : Nat, i < 6 → w.cell? ⟨b, o + (k * 6 + i), none⟩ = some (.int .i64 (m + (i : Int))) := fun i hi => by
        rw [hcs (k * 6 + i) (by rw [marks_len]; omega), marks_nth (by omega), hm.out]
        congr 2; push_cast; omega
      have bm : m ≤ 1 + 6 * 1048576 - 6 := by have := hm.out; omega
      have h0 : w.cell? ⟨b, o + k * 6, none⟩ = some (.int .i64 m) := by have := hx 0 (by omega); simpa using this
      have h1 : w.cell? ⟨b, o + k * 6 + 1, none⟩ = some (.int .i64 (m + 1)) := hx 1 (by omega)
      have h2 : w.cell? ⟨b, o + k * 6 + 2, none⟩ = some (.int .i64 (m + 1 + 1)) := by have := hx 2 (by omega); rw [show m + ((2 : Nat) : Int) = m + 1 + 1 by omega] at this; exact this
      have h3 : w.cell? ⟨b, o + k * 6 + 3, none⟩ = some (.int .i64 (m + 1 + 1 + 1)) := by have := hx 3 (by omega); rw [show m + ((3 : Nat) : Int) = m + 1 + 1 + 1 by omega] at this; exact this
      have h4 : w.cell? ⟨b, o + k * 6 + 4, none⟩ = some (.int .i64 (m + 1 + 1 + 1 + 1)) := by have := hx 4 (by omega); rw [show m + ((4 : Nat) : Int) = m + 1 + 1 + 1 + 1 by omega] at this; exact this
      have h5 : w.cell? ⟨b, o + k * 6 + 5, none⟩ = some (.int .i64 (m + 1 + 1 + 1 + 1 + 1)) := by have := hx 5 (by omega); rw [show m + ((5 : Nat) : Int) = m + 1 + 1 + 1 + 1 + 1 by omega] at this; exact this
      clear hcs hx
      go_wp2_with fail
      go_round
      case rel => exact ⟨k + 1, m + 1 + 1 + 1 + 1 + 1 + 1, by omega, by go_num, rfl, Lib.hid (by have := hm.out; omega), by omega, by omega⟩
      case measure => simp [intOf]; omega
    · go_wp2_with fail
      go_ret
      obtain rfl : k = n := by omega
      refine ⟨?_, 0, rfl⟩
      show Ending.returned (.int .i64 m) = _
      rw [hm.out]; congr 2; push_cast; omega

theorem markF1 {w1 : World} {g n c base j : Nat} {m x : Int} {fs : List Int} (hl : fs.length = n * 6) (hj : j < n * 6) (hx : x = m + (j : Int)) (h : OwnF w1 base (.slice (some ⟨g, 0, none⟩) n c) n (marked m fs j)) :
    OwnF (w1.setCell ⟨g, j, none⟩ (.int .i64 x)) base (.slice (some ⟨g, 0, none⟩) n c) n (marked m fs (j + 1)) ∧ w1.grownBy (w1.setCell ⟨g, j, none⟩ (.int .i64 x)) (some g) := by
  subst hx
  have := h.stored j (.int .i64 (m + (j : Int)))
  rw [← List.map_set, marked_set (by omega)] at this
  exact this
theorem markF6 {w1 : World} {g n c base k : Nat} {m : Int} {fs : List Int} (hl : fs.length = n * 6) (hk : k < n) (hm : m = 1 + 6 * (k : Int)) (h : OwnF w1 base (.slice (some ⟨g, 0, none⟩) n c) n (marked 1 fs (k * 6))) :
    OwnF ((((((w1.setCell ⟨g, k * 6, none⟩ (.int .i64 m)).setCell ⟨g, k * 6 + 1, none⟩ (.int .i64 (m + 1))).setCell ⟨g, k * 6 + 2, none⟩ (.int .i64 (m + 1 + 1))).setCell ⟨g, k * 6 + 3, none⟩ (.int .i64 (m + 1 + 1 + 1))).setCell ⟨g, k * 6 + 4, none⟩ (.int .i64 (m + 1 + 1 + 1 + 1))).setCell ⟨g, k * 6 + 5, none⟩ (.int .i64 (m + 1 + 1 + 1 + 1 + 1))) base (.slice (some ⟨g, 0, none⟩) n c) n (marked 1 fs ((k + 1) * 6)) ∧
    w1.grownBy ((((((w1.setCell ⟨g, k * 6, none⟩ (.int .i64 m)).setCell ⟨g, k * 6 + 1, none⟩ (.int .i64 (m + 1))).setCell ⟨g, k * 6 + 2, none⟩ (.int .i64 (m + 1 + 1))).setCell ⟨g, k * 6 + 3, none⟩ (.int .i64 (m + 1 + 1 + 1))).setCell ⟨g, k * 6 + 4, none⟩ (.int .i64 (m + 1 + 1 + 1 + 1))).setCell ⟨g, k * 6 + 5, none⟩ (.int .i64 (m + 1 + 1 + 1 + 1 + 1))) (some g) := by
  have a0 := markF1 (x := m) hl (by omega) (by push_cast; omega) h
  have a1 := markF1 (x := m + 1) hl (by omega) (by push_cast; omega) a0.1
  have a2 := markF1 (x := m + 1 + 1) hl (by omega) (by push_cast; omega) a1.1
  have a3 := markF1 (x := m + 1 + 1 + 1) hl (by omega) (by push_cast; omega) a2.1
  have a4 := markF1 (x := m + 1 + 1 + 1 + 1) hl (by omega) (by push_cast; omega) a3.1
  have a5 := markF1 (x := m + 1 + 1 + 1 + 1 + 1) hl (by omega) (by push_cast; omega) a4.1
  rw [show (k + 1) * 6 = k * 6 + 1 + 1 + 1 + 1 + 1 + 1 by omega]
  exact ⟨a5.1, grownBy_trans a0.2 (grownBy_trans a1.2 (grownBy_trans a2.2 (grownBy_trans a3.2 (grownBy_trans a4.2 a5.2))))⟩

/-- Marks are laid: nothing but the row has turned. -/
def RetMF (v : Value) (base n : Nat) (w : World) (e : Ending) (w' : World) : Prop := e = .returned (.int .i64 (1 + ((n * 6 : Nat) : Int))) ∧ OwnF w' base v n (marks 1 (n * 6)) ∧ w.grownBy w' v.ownBlock

set_option maxHeartbeats 4000000 in
theorem markP_any (v : Value) (base n : Nat) (fs : List Int) (w : World) (h : OwnF w base v n fs) (hl : n ≤ 1048576) :
    Calls Try.prog 31 #[v, .int .i64 1] w (RetMF v base n w) := by
  have hlen := OwnF.len h
  rcases h.2 with ⟨rfl, rfl⟩ | ⟨g, c, cur, rfl, hb, hg, hnc, hm, hs, ht⟩
  · obtain rfl : fs = [] := List.eq_nil_of_length_eq_zero (by omega)
    go_enter Try.func31, Try.ntmps31
    go_wp2_with fail
    refine wp_loop_rounds 1 ?_
    rw [rounds_succ]
    go_wp2_with fail
    go_ret
    exact ⟨rfl, h, grownBy_refl _ _⟩
  · have H0 : OwnF w base (.slice (some ⟨g, 0, none⟩) n c) n (marked 1 fs (0 * 6)) := by rw [Nat.zero_mul, marked_zero]; exact h
    have HL := Lib.hid hlen
    clear h hb hg hm hs ht hlen
    go_enter Try.func31, Try.ntmps31
    go_wp2_with fail
    go_loopw [1, 5] (fun q i wr => ∃ (k : Nat) (m : Int), k ≤ n ∧ i = .int .i64 k ∧ q = .int .i64 m ∧ Hid (m = 1 + 6 * (k : Int)) ∧ 0 ≤ m ∧ m ≤ 1 + 6 * 1048576 ∧ OwnF wr base (.slice (some ⟨g, 0, none⟩) n c) n (marked 1 fs (k * 6)) ∧ w.grownBy wr (some g)) (fun _ i _ => n - (intOf i).toNat)
    case atStart => exact ⟨0, 1, Nat.zero_le _, rfl, rfl, Lib.hid (by simp), by omega, by omega, H0, grownBy_refl _ _⟩
    case round =>
      obtain ⟨k, m, hk, rfl, rfl, hm, m0, m1, hown, hgr⟩ := hrel
      clear H0
      by_cases hlt : k < n
      · have bm : m ≤ 1 + 6 * 1048576 - 6 := by have := hm.out; omega
        have c0 := ownF_cell hown (k := k * 6) (by omega)
        have c1 := ownF_cell hown (k := k * 6 + 1) (by omega)
        have c2 := ownF_cell hown (k := k * 6 + 2) (by omega)
        have c3 := ownF_cell hown (k := k * 6 + 3) (by omega)
        have c4 := ownF_cell hown (k := k * 6 + 4) (by omega)
        have c5 := ownF_cell hown (k := k * 6 + 5) (by omega)
        have f0 := hown.frozenAt (k * 6)
        have f1 := hown.frozenAt (k * 6 + 1)
        have f2 := hown.frozenAt (k * 6 + 2)
        have f3 := hown.frozenAt (k * 6 + 3)
        have f4 := hown.frozenAt (k * 6 + 4)
        have f5 := hown.frozenAt (k * 6 + 5)
        have HS := Lib.hid (markF6 HL.out hlt hm.out hown)
        clear hown
        go_wp2_with fail
        go_roundw
        case rel => exact ⟨k + 1, m + 1 + 1 + 1 + 1 + 1 + 1, by omega, by go_num, rfl, Lib.hid (by have := hm.out; omega), by omega, by omega, HS.out.1, grownBy_trans hgr HS.out.2⟩
        case measure => simp [intOf]; omega
      · go_wp2_with fail
        go_ret
        obtain rfl : k = n := by omega
        refine ⟨?_, ?_, hgr⟩
        · show Ending.returned (.int .i64 m) = _
          rw [hm.out]; congr 2; push_cast; omega
        · rw [← HL.out, marked_all, HL.out] at hown; exact hown
end Go.Proofs.Ytlmfbcffmalkkaa
