/- Sectors of directions: what directions are, on both sides; the model's sectors. -/
import Derived.Test.YtnhobilmgefhnaaQe
import Derived.Deep.RegionHeld3
import Derived.Deep.AppendLies
import Derived.IntWalk
namespace Go.Proofs.Ytnhobilmgefhnaa
open Go Go.RowKit

/-- Strictly increasing directions, as far as k. -/
def DsK (xs : List Int) (k : Nat) : Prop := (∀ j, j < k → 0 ≤ nth xs j ∧ nth xs j ≤ 15) ∧ ∀ j, j + 1 < k → nth xs j < nth xs (j + 1)
theorem dsK_zero (xs : List Int) : DsK xs 0 := ⟨fun j h => absurd h (by omega), fun j h => absurd h (by omega)⟩
theorem dsK_succ {xs : List Int} {k : Nat} (h : DsK xs k) (h1 : 0 ≤ nth xs k ∧ nth xs k ≤ 15) (h2 : ∀ m, k = m + 1 → nth xs m < nth xs k) : DsK xs (k + 1) := by
  constructor
  · intro j hj
    rcases Nat.lt_or_ge j k with h' | h'
    · exact h.1 j h'
    · obtain rfl : j = k := by omega
      exact h1
  · intro j hj
    rcases Nat.lt_or_ge (j + 1) k with h' | h'
    · exact h.2 j h'
    · obtain rfl : k = j + 1 := by omega
      exact h2 j rfl
/-- The least value that may come next. -/
def lst (xs : List Int) : Nat → Int
  | 0 => 0
  | k + 1 => nth xs k + 1
theorem lst_bd {xs : List Int} {k : Nat} (h : DsK xs k) : 0 ≤ lst xs k ∧ lst xs k ≤ 16 := by
  cases k with
  | zero => exact ⟨by simp [lst], by simp [lst]⟩
  | succ k => have := h.1 k (by omega); simp only [lst]; omega
theorem ds_of_lst {xs : List Int} {k : Nat} (h : DsK xs k) (h1 : lst xs k ≤ nth xs k) (h2 : nth xs k ≤ 15) : DsK xs (k + 1) := by
  have := (lst_bd h).1
  refine dsK_succ h ⟨by omega, h2⟩ ?_
  rintro m rfl
  simp only [lst] at h1
  omega
theorem lst_of_ds {xs : List Int} {n k : Nat} (h : DsK xs n) (hk : k < n) : lst xs k ≤ nth xs k ∧ nth xs k ≤ 15 := by
  have h1 := h.1 k hk
  cases k with
  | zero => exact ⟨h1.1, h1.2⟩
  | succ k => have := h.2 k hk; simp only [lst]; omega

/-- Not empty, strictly increasing directions. -/
def DirsP (xs : List Int) : Prop := 0 < xs.length ∧ DsK xs xs.length

set_option maxHeartbeats 1000000 in
theorem iAD_any (v : Value) (xs : List Int) (hx : Ints xs) (w : World) (h : Sl w w.heap.size v xs) (hl : xs.length ≤ 1048576) :
    Calls Try.prog 34 #[v] w (RetP (DirsP xs) w) := by
  obtain ⟨A, c, rfl, hc, hcell⟩ := h
  obtain ⟨n, hn⟩ : ∃ n, xs.length = n := ⟨_, rfl⟩
  rw [hn] at hl hc hcell ⊢
  have HC := Lib.hid hcell
  have HN := Lib.hid hn
  have HX := Lib.hid hx
  clear hn hcell hx
  go_enter Try.func34, Try.ntmps34
  go_wp2_with fail
  go_loop [3, 8] (fun q i => ∃ k : Nat, k ≤ n ∧ i = .int .i64 k ∧ q = .int .i64 (lst xs k) ∧ Hid (DsK xs k)) (fun _ i => n - (intOf i).toNat)
  case atStart => exact ⟨0, Nat.zero_le _, rfl, rfl, Lib.hid (dsK_zero xs)⟩
  case round =>
    obtain ⟨k, hk, rfl, rfl, hall⟩ := hrel
    have hb := lst_bd hall.out
    by_cases hlt : k < n
    · obtain ⟨b, o, rfl, hbb, hcs⟩ := HC.out (by omega)
      have hkx : k < xs.length := by rw [HN.out]; exact hlt
      have hcx := hcs k hkx
      have bd := nth_bd HX.out hkx
      unfold I64 at bd
      have HV := Lib.hid (fun hv : DsK xs n => lst_of_ds hv hlt)
      clear hcs hkx
      by_cases h1 : nth xs k < lst xs k
      · go_wp2_with fail
        go_ret
        exact ⟨false, rfl, iff_of_false (by simp) (fun hv => by have h := hv.2; rw [HN.out] at h; have := HV.out h; omega), rfl⟩
      · have h1' : lst xs k ≤ nth xs k := by omega
        by_cases h2 : 16 ≤ nth xs k
        · clear h1
          go_wp2_with fail
          go_ret
          exact ⟨false, rfl, iff_of_false (by simp) (fun hv => by have h := hv.2; rw [HN.out] at h; have := HV.out h; omega), rfl⟩
        · have h2' : nth xs k < 16 := by omega
          have HD := Lib.hid (ds_of_lst hall.out h1' (by omega))
          clear h1 h2
          go_wp2_with fail
          go_round
          case rel => exact ⟨k + 1, by omega, by go_num, rfl, HD⟩
          case measure => simp [intOf]; omega
    · obtain rfl : k = n := by omega
      have HD := Lib.hid hall.out
      clear hall
      by_cases h0 : 0 < k
      · have h0' : decide (0 < k) = true := decide_eq_true h0
        go_wp2_with fail
        go_ret
        exact ⟨true, rfl, iff_of_true rfl (by have := HN.out; exact ⟨by omega, by rw [this]; exact HD.out⟩), rfl⟩
      · have h0' : decide (0 < k) = false := decide_eq_false h0
        go_wp2_with fail
        go_ret
        exact ⟨false, rfl, iff_of_false (by simp) (fun hv => by have h := hv.1; have := HN.out; omega), rfl⟩

theorem qin_yes (x a b : Int) (w : World) (h1 : a ≤ x) (h2 : x ≤ b) : Calls Try.prog 65 #[.int .i64 x, .int .i64 a, .int .i64 b] w fun e w' => e = .returned (.bool true) ∧ w' = w := (in_yes x a b w h1 h2).mono fun _ _ h => ⟨h.1, h.2.symm⟩
theorem qin_no (x a b : Int) (w : World) (h1 : x < a ∨ b < x) : Calls Try.prog 65 #[.int .i64 x, .int .i64 a, .int .i64 b] w fun e w' => e = .returned (.bool false) ∧ w' = w := (in_no x a b w h1).mono fun _ _ h => ⟨h.1, h.2.symm⟩
/-- A bool that says whether p holds; the world has drawn, no more. -/
def RetPQ (p : Prop) (w : World) (e : Ending) (w' : World) : Prop := ∃ r : Bool, e = .returned (.bool r) ∧ (r = true ↔ p) ∧ ∃ n, w' = w.drewN n

theorem drew_more {w wr : World} (h : ∃ m, wr = w.drewN m) (n : Nat) : ∃ m, wr.drewN n = w.drewN m := by
  obtain ⟨m, rfl⟩ := h
  exact ⟨m + n, by rw [World.drewN_drewN]⟩

end Go.Proofs.Ytnhobilmgefhnaa
