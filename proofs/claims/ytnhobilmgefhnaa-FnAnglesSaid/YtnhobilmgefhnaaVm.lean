/- CanonicalSectors: the least list, by the model; the contracts of both. -/
import Derived.Test.YtnhobilmgefhnaaVl
namespace Go.Proofs.Ytnhobilmgefhnaa
open Go Go.RowKit

/-- All rotations of a list and of its mirror image. -/
def allR (xs : List Int) : List (List Int) := rotsK xs xs.length ++ rotsK xs.reverse xs.length
theorem allR_len {xs x : List Int} (h : x ∈ allR xs) : x.length = xs.length := by
  rcases List.mem_append.1 h with h | h
  · obtain ⟨j, hj, rfl⟩ := rotsK_mem.1 h
    exact rot_len _ (by omega)
  · obtain ⟨j, hj, rfl⟩ := rotsK_mem.1 h
    rw [rot_len _ (by rw [List.length_reverse]; omega), List.length_reverse]
theorem isMin_one {xs m m' : List Int} (h : IsMin xs.length (allR xs) m) (h' : IsMin xs.length (allR xs) m') : m = m' :=
  (lx_same (allR_len h.1) (allR_len h'.1)).1 ⟨h'.2 _ h.1, h.2 _ h'.1⟩
open Classical in
/-- The least list; nothing of a list that is not valid. -/
noncomputable def can (b : Bool) (xs : List Int) : List Int := if b then (if h : ∃ m, IsMin xs.length (allR xs) m then h.choose else []) else []
theorem can_of {xs m : List Int} (h : IsMin xs.length (allR xs) m) : can true xs = m := by
  unfold can
  rw [if_pos rfl, dif_pos ⟨m, h⟩]
  exact isMin_one (Exists.choose_spec (⟨m, h⟩ : ∃ m, IsMin xs.length (allR xs) m)) h
theorem can_len (b : Bool) (xs : List Int) (h : xs.length ≤ 1048576) : (can b xs).length ≤ 1048576 := by
  unfold can
  split
  · split
    · rename_i hm
      rw [allR_len hm.choose_spec.1]; exact h
    · simp
  · simp

set_option maxHeartbeats 1000000 in
theorem iCS_any (v : Value) (xs : List Int) (hx : Ints xs) (b : Bool) (hv : b = true ↔ Vs xs) (w : World) (h : Sl w w.heap.size v xs) (hl : xs.length ≤ 1048576) :
    Calls Try.prog 12 #[v] w (RetO (can b xs) w) := by
  have HD := Lib.hid (iVS_any v xs hx w h hl)
  by_cases hvs : Vs xs
  · obtain rfl : b = true := hv.2 hvs
    have HM := Lib.hid (fun W (hb : Below w.heap.size w W) => iMir_any v xs W ((h.below hb (Nat.le_refl _)).mono hb.size) (vs_pos hvs) hl)
    obtain ⟨bb, o, c, rfl, hc, hb, C⟩ := sl_at h rfl (vs_pos hvs)
    refine (iCS_yes bb o c xs.length xs w rfl (vs_pos hvs) hc hb C hvs (vs_len hvs) HD HM).mono ?_
    rintro e w' ⟨u, m, rfl, hmin, hown, hbel⟩
    rw [can_of hmin]
    exact ⟨u, rfl, hown, hbel⟩
  · obtain rfl : b = false := vs_no hv hvs
    have HV := Lib.hid hvs
    clear hv hvs h
    go_enter Try.func12, Try.ntmps12
    go_wp2_with fail
    refine (HD.out).mono ?_
    rintro e w1 ⟨r, rfl, hr, rfl⟩
    obtain rfl : r = false := by rw [Bool.eq_false_iff]; exact fun h => HV.out (hr.1 h)
    clear hr
    go_wp2_with fail
    go_ret
    exact ⟨_, rfl, own_nil _ _, Below.refl _ _⟩

/-- The least so far: of the lists that A names. -/
def LeastOf (S : List (List Int)) (n : Nat) (A : List Int → Prop) (m : List Int) : Prop := m ∈ S ∧ ∀ x, A x → ¬ lx x m n
theorem least_yes {S : List (List Int)} {n : Nat} {A : List Int → Prop} {m x : List Int} (h : LeastOf S n A m) (hx : x ∈ S) (hl : lx x m n) : LeastOf S n (fun y => A y ∨ y = x) x :=
  ⟨hx, fun y hy hlt => by
    rcases hy with hy | rfl
    · exact h.2 y hy (lx_trans hlt hl)
    · exact lx_irrefl hlt⟩
theorem least_no {S : List (List Int)} {n : Nat} {A : List Int → Prop} {m x : List Int} (h : LeastOf S n A m) (hl : ¬ lx x m n) : LeastOf S n (fun y => A y ∨ y = x) m :=
  ⟨h.1, fun y hy => by
    rcases hy with hy | rfl
    · exact h.2 y hy
    · exact hl⟩
/-- What the model has looked at after k rounds. -/
def seenK (xs : List Int) (k : Nat) (y : List Int) : Prop := ∃ j, j < k ∧ (y = rot xs j ∨ y = rot xs.reverse j)
theorem seenK_all {xs y : List Int} (h : y ∈ allR xs) : seenK xs xs.length y := by
  rcases List.mem_append.1 h with h | h
  · obtain ⟨j, hj, rfl⟩ := rotsK_mem.1 h
    exact ⟨j, hj, .inl rfl⟩
  · obtain ⟨j, hj, rfl⟩ := rotsK_mem.1 h
    exact ⟨j, hj, .inr rfl⟩
theorem least_next {S : List (List Int)} {n k : Nat} {xs m : List Int} (h : LeastOf S n (fun y => (seenK xs k y ∨ y = rot xs k) ∨ y = rot xs.reverse k) m) : LeastOf S n (seenK xs (k + 1)) m :=
  ⟨h.1, fun y ⟨j, hj, hy⟩ => h.2 y (by
    rcases Nat.lt_or_ge j k with h | h
    · exact .inl (.inl ⟨j, h, hy⟩)
    · obtain rfl : j = k := by omega
      rcases hy with hy | hy
      · exact .inl (.inr hy)
      · exact .inr hy)⟩

end Go.Proofs.Ytnhobilmgefhnaa
