/- Sectors of directions: what directions are, on both sides; the model's sectors. -/
import Derived.Test.YtdnkgnknjhnjiaaQe
import Derived.Deep.RegionHeld3
import Derived.Deep.AppendLies
import Derived.IntWalk
namespace Go.Proofs.Ytdnkgnknjhnjiaa
open Go Go.RowKit

/-- Strictly increasing directions, as far as k. -/
def DsK (xs : List Int) (k : Nat) : Prop := (∀ j, j < k → 0 ≤ nth xs j ∧ nth xs j ≤ 15) ∧ ∀ j, j + 1 < k → nth xs j < nth xs (j + 1)
theorem dsK_zero (xs : List Int) : DsK xs 0 := ⟨fun j h => absurd h (by omega), fun j h => absurd h (by omega)⟩
theorem dsK_succ {xs : List Int} {k : Nat} (h : DsK xs k) (h1 : 0 ≤ nth xs k ∧ nth xs k ≤ 15) (h2 : ∀ m, k = m + 1 → nth xs m < nth xs k) : DsK xs (k + 1) := by
  constructor
  · intro j hj
    rcases Nat.lt_or_ge j k with h' | h'
    · exact h.1 j h'
    · obtain rfl : j = k := by omega
      exact h1
  · intro j hj
    rcases Nat.lt_or_ge (j + 1) k with h' | h'
    · exact h.2 j h'
    · obtain rfl : k = j + 1 := by omega
      exact h2 j rfl
/-- The least value that may come next. -/
def lst (xs : List Int) : Nat → Int
  | 0 => 0
  | k + 1 => nth xs k + 1
theorem lst_bd {xs : List Int} {k : Nat} (h : DsK xs k) : 0 ≤ lst xs k ∧ lst xs k ≤ 16 := by
  cases k with
  | zero => exact ⟨by simp [lst], by simp [lst]⟩
  | succ k => have := h.1 k (by omega); simp only [lst]; omega
theorem ds_of_lst {xs : List Int} {k : Nat} (h : DsK xs k) (h1 : lst xs k ≤ nth xs k) (h2 : nth xs k ≤ 15) : DsK xs (k + 1) := by
  have := (lst_bd h).1
  refine dsK_succ h ⟨by omega, h2⟩ ?_
  rintro m rfl
  simp only [lst] at h1
  omega
theorem lst_of_ds {xs : List Int} {n k : Nat} (h : DsK xs n) (hk : k < n) : lst xs k ≤ nth xs k ∧ nth xs k ≤ 15 := by
  have h1 := h.1 k hk
  cases k with
  | zero => exact ⟨h1.1, h1.2⟩
  | succ k => have := h.2 k hk; simp only [lst]; omega

/-- Not empty, strictly increasing directions. -/
def DirsP (xs : List Int) : Prop := 0 < xs.length ∧ DsK xs xs.length

theorem qin_yes (x a b : Int) (w : World) (h1 : a ≤ x) (h2 : x ≤ b) : Calls Try.prog 49 #[.int .i64 x, .int .i64 a, .int .i64 b] w fun e w' => e = .returned (.bool true) ∧ w' = w := (in_yes x a b w h1 h2).mono fun _ _ h => ⟨h.1, h.2.symm⟩
theorem qin_no (x a b : Int) (w : World) (h1 : x < a ∨ b < x) : Calls Try.prog 49 #[.int .i64 x, .int .i64 a, .int .i64 b] w fun e w' => e = .returned (.bool false) ∧ w' = w := (in_no x a b w h1).mono fun _ _ h => ⟨h.1, h.2.symm⟩
/-- A bool that says whether p holds; the world has drawn, no more. -/
def RetPQ (p : Prop) (w : World) (e : Ending) (w' : World) : Prop := ∃ r : Bool, e = .returned (.bool r) ∧ (r = true ↔ p) ∧ ∃ n, w' = w.drewN n

theorem drew_more {w wr : World} (h : ∃ m, wr = w.drewN m) (n : Nat) : ∃ m, wr.drewN n = w.drewN m := by
  obtain ⟨m, rfl⟩ := h
  exact ⟨m + n, by rw [World.drewN_drewN]⟩

end Go.Proofs.Ytdnkgnknjhnjiaa
