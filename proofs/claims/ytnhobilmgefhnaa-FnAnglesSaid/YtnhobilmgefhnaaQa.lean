/- The laws' helpers on slices of integers: copies, comparisons, marks. -/
import Derived.Test.YtnhobilmgefhnaaQm
import Derived.Deep.Light
import Derived.Deep.QuietTactic
import Derived.BigQuiet
import Derived.Deep.LoopGhost
import Derived.Outline
namespace Go.Proofs.Ytnhobilmgefhnaa
open Go Go.RowKit

theorem infoI64 : (Try.prog.info? 2).map (fun i => (i.zero, i.size, i.bytes)) = some (some (.int .i64 0), 1, 8) := by kernel_rfl
theorem zeros_made (n : Nat) : (madeCells #[Value.int .i64 0] (n * 1)).toList = (List.replicate n (0 : Int)).map (Value.int .i64) := by
  rw [Nat.mul_one]
  apply List.ext_getElem
  · simp [madeCells]
  · intro k h1 h2
    simp [madeCells, Nat.mod_one]

/-- A slice of the call's own that reads as xs, nothing old turned. -/
def RetO (xs : List Int) (w : World) (e : Ending) (w' : World) : Prop := ∃ v, e = .returned v ∧ OwnI w' w.heap.size v xs ∧ Below w.heap.size w w'

theorem copy_start {w w1 : World} {n : Nat} {xs : List Int} (hn : xs.length = n) (h : w1.ownsRow w.heap.size 2 1 (.slice (some ⟨w.heap.size, 0, none⟩) n n) n (madeCells #[Value.int .i64 0] (n * 1)).toList) :
    OwnI w1 w.heap.size (.slice (some ⟨w.heap.size, 0, none⟩) n n) (part xs 0) := by
  unfold OwnI
  rw [part_zero, hn, List.length_replicate, ← zeros_made]
  exact h
theorem copy_step {w1 : World} {g n k base : Nat} {xs : List Int} (hn : xs.length = n) (hk : k < n) (h : OwnI w1 base (.slice (some ⟨g, 0, none⟩) n n) (part xs k)) :
    OwnI (w1.setCell ⟨g, k, none⟩ (.int .i64 (nth xs k))) base (.slice (some ⟨g, 0, none⟩) n n) (part xs (k + 1)) := by
  subst hn
  unfold OwnI at *
  rw [part_len _ _ (by omega)] at *
  have := (h.stored k (.int .i64 (nth xs k))).1
  rw [← List.map_set, part_set hk] at this
  exact this
theorem own_cell {w1 : World} {g n c base : Nat} {ys : List Int} (hn : ys.length = n) (h : OwnI w1 base (.slice (some ⟨g, 0, none⟩) n c) ys) {k : Nat} (hk : k < n) :
    w1.cell? ⟨g, k, none⟩ = some (.int .i64 (nth ys k)) := by
  subst hn
  rw [h.cellAt k (by omega), List.getElem?_map, List.getElem?_eq_getElem hk, nth_of hk]; rfl
theorem own_free {w1 : World} {g n c base : Nat} {ys : List Int} (hn : ys.length = n) (h : OwnI w1 base (.slice (some ⟨g, 0, none⟩) n c) ys) (k : Nat) :
    w1.frozen? ⟨g, k, none⟩ = false := by
  subst hn
  exact h.frozenAt k

set_option maxHeartbeats 1000000 in
theorem toI_any (v : Value) (xs : List Int) (w : World) (h : Sl w w.heap.size v xs) (hl : xs.length ≤ 1048576) :
    Calls Try.prog 22 #[v] w (RetO xs w) := by
  obtain ⟨A, c, rfl, hc, hcell⟩ := h
  obtain ⟨n, hn⟩ : ∃ n, xs.length = n := ⟨_, rfl⟩
  rw [hn] at hl hc hcell ⊢
  have HC := Lib.hid hcell
  have HN := Lib.hid hn
  clear hn hcell
  obtain ⟨i0, hi, hz0, hz1, hz2⟩ := info_parts infoI64
  go_enter Try.func22, Try.ntmps22
  go_wp2_with (at_make; refine wpList_make_full _ rfl _ _ 24 rfl w.heap.size 2 i0 (.int .i64 0) 1 Try.underlying24 hi hz0 hz1 .i64 .i64 _ _ n rfl rfl rfl rfl (by rw [hz2]; omega) (by unfold maxLen; omega) (Nat.le_refl _) ?_; intro w0 hown0 hgrow0)
  have H0 := copy_start HN.out hown0
  have B0 := grown_below hgrow0 (Nat.le_refl _) (fun k h => by cases h)
  clear hown0 hgrow0
  go_loopw [4] (fun i wr => ∃ k : Nat, k ≤ n ∧ i = .int .i64 k ∧ OwnI wr w.heap.size (.slice (some ⟨w.heap.size, 0, none⟩) n n) (part xs k) ∧ Below w.heap.size w wr) (fun i _ => n - (intOf i).toNat)
  case atStart => exact ⟨0, Nat.zero_le _, rfl, H0, B0⟩
  case round =>
    obtain ⟨k, hk, rfl, hown, hbel⟩ := hrel
    clear H0 B0
    by_cases hlt : k < n
    · obtain ⟨b, o, rfl, hb, hcs⟩ := HC.out (by omega)
      have hcx : wr.cell? ⟨b, o + k, none⟩ = some (.int .i64 (nth xs k)) := (hbel.cell (p := ⟨b, o + k, none⟩) hb).trans (hcs k (by rw [HN.out]; exact hlt))
      have hcd := own_cell (by rw [part_len _ _ (by rw [HN.out]; exact hk), HN.out]) hown hlt
      have hfd := own_free (by rw [part_len _ _ (by rw [HN.out]; exact hk), HN.out]) hown k
      have HS := copy_step HN.out hlt hown
      have HB := hbel.setCell (p := ⟨w.heap.size, k, none⟩) (Nat.le_refl _) (.int .i64 (nth xs k))
      clear hcs hown
      go_wp2_with fail
      go_roundw
      case rel => exact ⟨k + 1, by omega, by go_num, HS, HB⟩
      case measure => simp [intOf]; omega
    · have hkn : k = n := by omega
      go_wp2_with fail
      go_ret
      exact ⟨_, rfl, by have := HN.out; subst hkn; rw [← this, part_all] at hown; rw [← this]; exact hown, hbel⟩

/-- The world has drawn, no more. -/
def RetQ (v : Value) (w : World) (e : Ending) (w' : World) : Prop := e = .returned v ∧ ∃ n, w' = w.drewN n

set_option maxHeartbeats 1000000 in
theorem eqI_same (v v' : Value) (xs : List Int) (w : World) (h : Sl w w.heap.size v xs) (h' : Sl w w.heap.size v' xs) (hl : xs.length ≤ 1048576) :
    Calls Try.prog 24 #[v, v'] w (RetQ (.bool true) w) := by
  obtain ⟨A, c, rfl, hc, hcell⟩ := h
  obtain ⟨A', c', rfl, hc', hcell'⟩ := h'
  obtain ⟨n, hn⟩ : ∃ n, xs.length = n := ⟨_, rfl⟩
  rw [hn] at hl hc hcell hc' hcell' ⊢
  have HC := Lib.hid hcell
  have HC' := Lib.hid hcell'
  have HN := Lib.hid hn
  clear hn hcell hcell'
  go_enter Try.func24, Try.ntmps24
  go_wp2_with fail
  go_loopw [5] (fun i wr => ∃ k : Nat, k ≤ n ∧ i = .int .i64 k ∧ ∃ m, wr = w.drewN m) (fun i _ => n - (intOf i).toNat)
  case atStart => exact ⟨0, Nat.zero_le _, rfl, 0, rfl⟩
  case round =>
    obtain ⟨k, hk, rfl, m, rfl⟩ := hrel
    by_cases hlt : k < n
    · obtain ⟨b, o, rfl, hb, hcs⟩ := HC.out (by omega)
      obtain ⟨b', o', rfl, hb', hcs'⟩ := HC'.out (by omega)
      have hcx : w.cell? ⟨b, o + k, none⟩ = some (.int .i64 (nth xs k)) := hcs k (by rw [HN.out]; exact hlt)
      have hcy : w.cell? ⟨b', o' + k, none⟩ = some (.int .i64 (nth xs k)) := hcs' k (by rw [HN.out]; exact hlt)
      clear hcs hcs'
      go_wp2_with fail
      go_quiet (fail)
      go_wp2_with fail
      go_roundw
      case rel => exact ⟨k + 1, by omega, by go_num, _, rfl⟩
      case measure => simp [intOf]; omega
    · go_wp2_with fail
      go_ret
      exact ⟨rfl, _, rfl⟩

theorem mark_step {w1 : World} {g n c k base : Nat} {m : Int} {xs : List Int} (hn : xs.length = n) (hk : k < n) (h : OwnI w1 base (.slice (some ⟨g, 0, none⟩) n c) (marked m xs k)) :
    OwnI (w1.setCell ⟨g, k, none⟩ (.int .i64 (m + k))) base (.slice (some ⟨g, 0, none⟩) n c) (marked m xs (k + 1)) ∧ w1.grownBy (w1.setCell ⟨g, k, none⟩ (.int .i64 (m + k))) (some g) := by
  subst hn
  unfold OwnI at *
  rw [marked_len _ _ _ (by omega)] at *
  have := h.stored k (.int .i64 (m + k))
  rw [← List.map_set, marked_set hk] at this
  exact this

/-- Marks are laid: nothing but the row has turned. -/
def RetM (v : Value) (base : Nat) (xs : List Int) (w : World) (e : Ending) (w' : World) : Prop := e = .returned (.int .i64 (1 + (xs.length : Int))) ∧ OwnI w' base v (marks 1 xs.length) ∧ w.grownBy w' v.ownBlock

set_option maxHeartbeats 1000000 in
theorem mark_any (v : Value) (base : Nat) (xs : List Int) (w : World) (h : OwnI w base v xs) (hl : xs.length ≤ 1048576) :
    Calls Try.prog 25 #[v, .int .i64 1] w (RetM v base xs w) := by
  rcases h.2 with ⟨rfl, h0⟩ | ⟨g, c, cur, rfl, hb, hg, hnc, hm, hs, ht⟩
  · obtain rfl := List.eq_nil_of_length_eq_zero h0
    go_enter Try.func25, Try.ntmps25
    go_wp2_with fail
    refine wp_loop_rounds 1 ?_
    rw [rounds_succ]
    go_wp2_with fail
    go_ret
    exact ⟨rfl, h, grownBy_refl _ _⟩
  · obtain ⟨n, hn⟩ : ∃ n, xs.length = n := ⟨_, rfl⟩
    have H0 : OwnI w base (.slice (some ⟨g, 0, none⟩) n c) (marked 1 xs 0) := by rw [marked_zero, ← hn]; exact h
    clear h hb hg hm hs ht
    rw [hn] at hl hnc ⊢
    have HN := Lib.hid hn
    clear hn
    go_enter Try.func25, Try.ntmps25
    go_wp2_with fail
    go_loopw [1, 5] (fun q i wr => ∃ k : Nat, k ≤ n ∧ i = .int .i64 k ∧ q = .int .i64 (1 + (k : Int)) ∧ OwnI wr base (.slice (some ⟨g, 0, none⟩) n c) (marked 1 xs k) ∧ w.grownBy wr (some g)) (fun _ i _ => n - (intOf i).toNat)
    case atStart => exact ⟨0, Nat.zero_le _, rfl, rfl, H0, grownBy_refl _ _⟩
    case round =>
      obtain ⟨k, hk, rfl, rfl, hown, hgr⟩ := hrel
      clear H0
      by_cases hlt : k < n
      · have hcd := own_cell (by rw [marked_len _ _ _ (by rw [HN.out]; exact hk), HN.out]) hown hlt
        have hfd := own_free (by rw [marked_len _ _ _ (by rw [HN.out]; exact hk), HN.out]) hown k
        have HS := mark_step HN.out hlt hown
        clear hown
        go_wp2_with fail
        go_roundw
        case rel => exact ⟨k + 1, by omega, by go_num, by go_num, HS.1, grownBy_trans hgr HS.2⟩
        case measure => simp [intOf]; omega
      · have hkn : k = n := by omega
        go_wp2_with fail
        go_ret
        exact ⟨by rw [HN.out, hkn]; rfl, by have := HN.out; subst hkn; rw [← this, marked_all] at hown; rw [← this]; exact hown, hgr⟩

set_option maxHeartbeats 1000000 in
theorem held_any (v : Value) (n : Nat) (w : World) (h : Sl w w.heap.size v (marks 1 n)) (hl : n ≤ 1048576) :
    Calls Try.prog 26 #[v, .int .i64 1] w (RetQ (.int .i64 (1 + (n : Int))) w) := by
  obtain ⟨A, c, rfl, hc, hcell⟩ := h
  rw [marks_len] at hc hcell ⊢
  have HC := Lib.hid hcell
  clear hcell
  go_enter Try.func26, Try.ntmps26
  go_wp2_with fail
  go_loop [1, 5] (fun q i => ∃ k : Nat, k ≤ n ∧ i = .int .i64 k ∧ q = .int .i64 (1 + (k : Int))) (fun _ i => n - (intOf i).toNat)
  case atStart => exact ⟨0, Nat.zero_le _, rfl, rfl⟩
  case round =>
    obtain ⟨k, hk, rfl, rfl⟩ := hrel
    by_cases hlt : k < n
    · obtain ⟨b, o, rfl, hb, hcs⟩ := HC.out (by omega)
      have hcx := hcs k (by rw [marks_len]; exact hlt)
      rw [marks_nth hlt] at hcx
      clear hcs
      go_wp2_with fail
      go_round
      case rel => exact ⟨k + 1, by omega, by go_num, by go_num⟩
      case measure => simp [intOf]; omega
    · have hkn : k = n := by omega
      go_wp2_with fail
      go_ret
      exact ⟨rfl, 0, rfl⟩
end Go.Proofs.Ytnhobilmgefhnaa
