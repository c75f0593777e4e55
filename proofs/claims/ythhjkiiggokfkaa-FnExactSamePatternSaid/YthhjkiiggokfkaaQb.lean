/- Valid sector lists, on both sides. -/
import Derived.Test.YthhjkiiggokfkaaQa
import Derived.Deep.RegionWith
namespace Go.Proofs.Ythhjkiiggokfkaa
open Go Go.RowKit

def RetV (v : Value) (w : World) (e : Ending) (w' : World) : Prop := e = .returned v ∧ w = w'
/-- A bool that says whether p holds. -/
def RetP (p : Prop) (w : World) (e : Ending) (w' : World) : Prop := ∃ r : Bool, e = .returned (.bool r) ∧ (r = true ↔ p) ∧ w = w'

def sumT (xs : List Int) (k : Nat) : Int := (xs.take k).sum
theorem sumT_zero (xs : List Int) : sumT xs 0 = 0 := by simp [sumT]
theorem sumT_succ {xs : List Int} {k : Nat} (h : k < xs.length) : sumT xs (k + 1) = sumT xs k + nth xs k := by
  unfold sumT; rw [take_snoc h, List.sum_append]; simp
theorem sumT_all (xs : List Int) : sumT xs xs.length = xs.sum := by simp [sumT]

/-- A valid sector list. -/
def Vs (xs : List Int) : Prop := (∀ x ∈ xs, 1 ≤ x) ∧ xs.sum = 16

theorem sum_pos {xs : List Int} (h : ∀ x ∈ xs, 1 ≤ x) : (xs.length : Int) ≤ xs.sum := by
  induction xs with
  | nil => simp
  | cons a l ih =>
    have h1 := h a (by simp)
    have h2 := ih (fun x hx => h x (by simp [hx]))
    simp only [List.length_cons, List.sum_cons]; omega
theorem vs_take {xs : List Int} (h : Vs xs) (k : Nat) : 0 ≤ sumT xs k ∧ sumT xs k ≤ 16 := by
  have e : xs.sum = sumT xs k + (xs.drop k).sum := by unfold sumT; rw [← List.sum_append, List.take_append_drop]
  have h1 := sum_pos (xs := xs.drop k) (fun x hx => h.1 x (List.mem_of_mem_drop hx))
  have h2 := sum_pos (xs := xs.take k) (fun x hx => h.1 x (List.mem_of_mem_take hx))
  have := h.2
  unfold sumT at e ⊢
  omega
theorem vs_len {xs : List Int} (h : Vs xs) : xs.length ≤ 16 := by
  have := sum_pos h.1; have := h.2; omega
theorem vs_pos {xs : List Int} (h : Vs xs) : 0 < xs.length := by
  rcases xs with _ | ⟨a, l⟩
  · have := h.2; simp at this
  · simp
theorem vs_nth {xs : List Int} (h : Vs xs) {k : Nat} (hk : k < xs.length) : 1 ≤ nth xs k ∧ nth xs k ≤ 16 := by
  have h1 := h.1 _ (nth_mem hk)
  have h2 := vs_take h k
  have h3 := vs_take h (k + 1)
  rw [sumT_succ hk] at h3
  omega
theorem vs_ints {xs : List Int} (h : Vs xs) : Ints xs := by
  intro x hx
  obtain ⟨k, hk, rfl⟩ := List.getElem_of_mem hx
  have := vs_nth h hk
  rw [nth_of hk] at this
  unfold I64; omega

end Go.Proofs.Ythhjkiiggokfkaa
