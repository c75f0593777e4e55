/- FnLittleRuns: what its runs are. -/
import Derived.Test.YtnhobilmgefhnaaVo
import Derived.Test.YtnhobilmgefhnaaVu
namespace Go.Proofs.Ytnhobilmgefhnaa
open Go Go.RowKit OriM

theorem nth_left {a b : List Int} {j : Nat} (h : j < a.length) : nth (a ++ b) j = nth a j := by
  unfold nth
  simp only [List.getD_eq_getElem?_getD, List.getElem?_append_left h]
theorem nth_right {a b : List Int} {i j : Nat} (h : i = a.length + j) : nth (a ++ b) i = nth b j := by
  subst h
  unfold nth
  simp only [List.getD_eq_getElem?_getD]
  rw [List.getElem?_append_right (by omega)]
  congr 2
  omega
theorem runsF_len (xs : List Int) (n k : Nat) : (runsF xs n k).length = runsN xs n k * 3 := by
  induction k with
  | zero => simp [runsF, runsN]
  | succ k ih =>
    by_cases h : ∃ c, LrP (rot xs k) n c
    · obtain ⟨c, hc⟩ := h
      rw [(runs_yes hc).1, (runs_yes hc).2]
      simp [ih]; omega
    · rw [(runs_no h).1, (runs_no h).2, ih]
theorem runsN_mono (xs : List Int) (n : Nat) {j k : Nat} (h : j ≤ k) : runsN xs n j ≤ runsN xs n k := by
  induction k with
  | zero => obtain rfl : j = 0 := by omega
            exact Nat.le_refl _
  | succ k ih =>
    rcases Nat.lt_or_ge j (k + 1) with h1 | h1
    · refine Nat.le_trans (ih (by omega)) ?_
      simp only [runsN]; omega
    · obtain rfl : j = k + 1 := by omega
      exact Nat.le_refl _
/-- Run i: where it begins, how many it has. -/
theorem runs_at {xs : List Int} {n : Nat} : ∀ (k : Nat) (i : Nat), i < runsN xs n k →
    ∃ f c : Nat, f < k ∧ LrP (rot xs f) n c ∧ nth (runsF xs n k) (i * 3) = (f : Int) ∧ nth (runsF xs n k) (i * 3 + 1) = (c : Int) ∧ nth (runsF xs n k) (i * 3 + 2) = nth xs f ∧ runsN xs n f = i := by
  intro k
  induction k with
  | zero => intro i hi; simp [runsN] at hi
  | succ k ih =>
    intro i hi
    have hl := runsF_len xs n k
    by_cases h : ∃ c, LrP (rot xs k) n c
    · obtain ⟨c, hc⟩ := h
      have e1 := (runs_yes hc).1
      have e2 := (runs_yes hc).2
      rw [e2] at hi
      rw [e1]
      rcases Nat.lt_or_ge i (runsN xs n k) with h | h
      · obtain ⟨f, d, h1, h2, h3, h4, h5, h6⟩ := ih i h
        refine ⟨f, d, by omega, h2, ?_, ?_, ?_, h6⟩
        · rw [nth_left (by omega)]; exact h3
        · rw [nth_left (by omega)]; exact h4
        · rw [nth_left (by omega)]; exact h5
      · obtain rfl : i = runsN xs n k := by omega
        refine ⟨k, c, by omega, hc, ?_, ?_, ?_, rfl⟩
        · rw [nth_right (j := 0) (by omega)]; rfl
        · rw [nth_right (j := 1) (by omega)]; rfl
        · rw [nth_right (j := 2) (by omega)]; rfl
    · rw [(runs_no h).2] at hi
      rw [(runs_no h).1]
      obtain ⟨f, d, h1, h⟩ := ih i hi
      exact ⟨f, d, by omega, h⟩
/-- How many of the first i runs have one sector; how many of the first k places begin such a run. -/
def sgl (fs : List Int) : Nat → Int
  | 0 => 0
  | i + 1 => sgl fs i + (if nth fs (i * 3 + 1) = 1 then 1 else 0)
noncomputable def oneN (xs : List Int) (n : Nat) : Nat → Int
  | 0 => 0
  | k + 1 => oneN xs n k + (if lr (rot xs k) n = 1 then 1 else 0)
theorem sgl_pre {fs gs : List Int} (i : Nat) (h : i * 3 ≤ fs.length) : sgl (fs ++ gs) i = sgl fs i := by
  induction i with
  | zero => rfl
  | succ i ih =>
    simp only [sgl]
    rw [ih (by omega)]
    congr 2
    rw [nth_left (by omega)]
theorem sgl_one (xs : List Int) (n k : Nat) : sgl (runsF xs n k) (runsN xs n k) = oneN xs n k := by
  induction k with
  | zero => rfl
  | succ k ih =>
    have hl := runsF_len xs n k
    by_cases h : ∃ c, LrP (rot xs k) n c
    · obtain ⟨c, hc⟩ := h
      rw [(runs_yes hc).1, (runs_yes hc).2]
      simp only [sgl, oneN]
      rw [sgl_pre _ (by omega), ih, lr_of hc]
      congr 1
      have : nth (runsF xs n k ++ [(k : Int), (c : Int), nth xs k]) (runsN xs n k * 3 + 1) = (c : Int) := by
        rw [nth_right (j := 1) (by omega)]; rfl
      rw [this]
      by_cases h1 : c = 1
      · subst h1; rfl
      · rw [if_neg (by omega), if_neg h1]
    · rw [(runs_no h).1, (runs_no h).2, ih]
      simp only [oneN]
      rw [lr_no h, if_neg (by omega)]
      omega
theorem sgl_bd (fs : List Int) (i : Nat) : 0 ≤ sgl fs i ∧ sgl fs i ≤ i := by
  induction i with
  | zero => simp [sgl]
  | succ i ih => simp only [sgl]; split <;> omega
theorem oneN_bd (xs : List Int) (n k : Nat) : 0 ≤ oneN xs n k ∧ oneN xs n k ≤ k := by
  induction k with
  | zero => simp [oneN]
  | succ k ih => simp only [oneN]; split <;> omega
/-- A sector that is less than both beside it is a run. -/
theorem one_iff {xs : List Int} {n i : Nat} (hn : xs.length = n) (hi : i < n) : (nth xs i < nth xs ((i + (n - 1)) % n) ∧ nth xs i < nth xs ((i + 1) % n)) ↔ lr (rot xs i) n = 1 := by
  have h0 : nth (rot xs i) 0 = nth xs i := rot_zero (by omega)
  have hp : nth (rot xs i) (n - 1) = nth xs ((i + (n - 1)) % n) := rot_nth hn hi (by omega)
  constructor
  · rintro ⟨h1, h2⟩
    have hn1 : 1 < n := by
      rcases Nat.lt_or_ge 1 n with h | h
      · exact h
      · obtain rfl : n = 1 := by omega
        obtain rfl : i = 0 := by omega
        simp at h2
    have hq : nth (rot xs i) 1 = nth xs ((i + 1) % n) := rot_nth hn hi hn1
    refine lr_of ⟨⟨hn1, by rw [hq, h0]; omega, fun j hj => ?_⟩, by rw [h0, hp]; exact h1, by rw [h0, hq]; exact h2⟩
    obtain rfl : j = 0 := by omega
    rfl
  · intro h
    by_cases hc : ∃ c, LrP (rot xs i) n c
    · obtain ⟨c, hc⟩ := hc
      obtain rfl : c = 1 := by rw [lr_of hc] at h; exact h
      have hq : nth (rot xs i) 1 = nth xs ((i + 1) % n) := rot_nth hn hi hc.1.1
      exact ⟨by rw [← h0, ← hp]; exact hc.2.1, by rw [← h0, ← hq]; exact hc.2.2⟩
    · rw [lr_no hc] at h; omega

set_option maxHeartbeats 1000000 in
theorem a2Long_any (a : Option Addr) (n c : Nat) (w : World) : Calls Try.prog 7 #[.slice a n c, .slice none 0 0] w (RetV (.bool (decide (3000 < n))) w) := by
  by_cases h : 3000 < n
  · have h1 : decide (3000 < n) = true := decide_eq_true h
    rw [h1]
    go_enter Try.func7, Try.ntmps7
    go_wp2_with fail
    go_ret
    exact ⟨rfl, rfl⟩
  · have h1 : decide (3000 < n) = false := decide_eq_false h
    rw [h1]
    have h2 : decide ((3000 : Int) < (n : Int)) = false := decide_eq_false (by omega)
    clear h1 h
    go_enter Try.func7, Try.ntmps7
    go_wp2_with fail
    go_ret
    exact ⟨rfl, rfl⟩
end Go.Proofs.Ytnhobilmgefhnaa
