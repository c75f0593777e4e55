/- Alternating sums, Kawasaki's condition: the walks of the laws. -/
import Derived.Test.YtdnkgnknjhnjiaaQw
namespace Go.Proofs.Ytdnkgnknjhnjiaa
open Go Go.RowKit

/-- A bool; nothing old turned. -/
def RetBl (b : Bool) (w : World) (e : Ending) (w' : World) : Prop := e = .returned (.bool b) ∧ Below w.heap.size w w'
def kaw (b : Bool) (xs : List Int) : Bool := b && (alt b xs == 0)

set_option maxHeartbeats 1000000 in
theorem iKW_any (v : Value) (xs : List Int) (hx : Ints xs) (b : Bool) (hv : b = true ↔ AltP xs) (w : World) (h : Sl w w.heap.size v xs) (hl : xs.length ≤ 1048576) :
    Calls Try.prog 26 #[v] w (RetBl (kaw b xs) w) := by
  have HA := Lib.hid (iAS_any v xs hx b hv w h hl)
  clear hv
  cases b
  · go_enter Try.func26, Try.ntmps26
    go_wp2_with fail
    refine (HA.out).mono ?_
    rintro e w1 ⟨rfl, b1⟩
    go_wp2_with fail
    go_ret
    exact ⟨rfl, b1⟩
  · obtain ⟨z, hz⟩ : ∃ z, alt true xs = z := ⟨_, rfl⟩
    have hk : kaw true xs = (z == 0) := by unfold kaw; rw [hz]; rfl
    rw [hz] at HA
    rw [hk]
    clear hk hz
    go_enter Try.func26, Try.ntmps26
    go_wp2_with fail
    refine (HA.out).mono ?_
    rintro e w1 ⟨rfl, b1⟩
    go_wp2_with fail
    go_ret
    exact ⟨rfl, b1⟩
set_option maxHeartbeats 1000000 in
theorem sKW_any (v : Value) (xs : List Int) (hx : Ints xs) (b : Bool) (hv : b = true ↔ AltP xs) (w : World) (h : Sl w w.heap.size v xs) (hl : xs.length ≤ 1048576) :
    Calls Try.prog 25 #[v] w (RetBl (kaw b xs) w) := by
  have HA := Lib.hid (sAS_any v xs hx b hv w h hl)
  clear hv
  cases b
  · go_enter Try.func25, Try.ntmps25
    go_wp2_with fail
    refine (HA.out).mono ?_
    rintro e w1 ⟨rfl, b1⟩
    go_wp2_with fail
    go_ret
    exact ⟨rfl, b1⟩
  · obtain ⟨z, hz⟩ : ∃ z, alt true xs = z := ⟨_, rfl⟩
    have hk : kaw true xs = (z == 0) := by unfold kaw; rw [hz]; rfl
    rw [hz] at HA
    rw [hk]
    clear hk hz
    go_enter Try.func25, Try.ntmps25
    go_wp2_with fail
    refine (HA.out).mono ?_
    rintro e w1 ⟨rfl, b1⟩
    go_wp2_with fail
    go_ret
    exact ⟨rfl, b1⟩

set_option maxHeartbeats 1000000 in
theorem exactAlternatingSum.walk (a : Value) (xs : List Int) (hx : Ints xs) (w : World) (h : Sl w w.heap.size a xs) : Calls Try.prog 5 #[a] w (RetT w) := by
  by_cases hl : 1048576 < xs.length
  · obtain ⟨A, c, rfl, hc, _⟩ := h
    go_enter Try.func5, Try.ntmps5
    go_wp2_with fail
    go_ret
    exact ⟨rfl, Below.refl _ _⟩
  have hl' : xs.length ≤ 1048576 := by omega
  obtain ⟨b, hv⟩ : ∃ b : Bool, b = true ↔ AltP xs := ⟨@decide (AltP xs) (Classical.propDecidable _), by simp⟩
  have HS := Lib.hid (fun v w h => sAS_any v xs hx b hv w h hl')
  have HI := Lib.hid (fun v w h => iAS_any v xs hx b hv w h hl')
  obtain ⟨z, hz⟩ : ∃ z, alt b xs = z := ⟨_, rfl⟩
  rw [hz] at HS HI
  obtain ⟨A, c, rfl, hc, hcell⟩ := h
  have HA := Lib.hid (show Sl w w.heap.size (.slice A xs.length c) xs from ⟨A, c, rfl, hc, hcell⟩)
  have hbb : (b != b) = false := by simp
  have hzz : (z != z) = false := by simp
  clear hcell hx hv hz
  go_enter Try.func5, Try.ntmps5
  go_wp2_with fail
  refine (toI_any _ xs _ HA.out hl').mono ?_
  rintro e w1 ⟨v1, rfl, h1, b1⟩
  go_wp2_with fail
  refine (HS.out _ _ h1.sl).mono ?_
  rintro e w2 ⟨rfl, b2⟩
  have B2 := b1.trans (b2.mono b1.size)
  go_wp2_with fail
  refine (toI_any _ xs _ ((HA.out.below B2 (Nat.le_refl _)).mono B2.size) hl').mono ?_
  rintro e w3 ⟨v3, rfl, h3, b3⟩
  have B3 := B2.trans (b3.mono B2.size)
  go_wp2_with fail
  refine (HI.out _ _ h3.sl).mono ?_
  rintro e w4 ⟨rfl, b4⟩
  have B4 := B3.trans (b4.mono B3.size)
  go_wp2_with fail
  refine (toI_any _ xs _ ((HA.out.below B4 (Nat.le_refl _)).mono B4.size) hl').mono ?_
  rintro e w5 ⟨v5, rfl, h5, b5⟩
  have B5 := B4.trans (b5.mono B4.size)
  go_wp2_with fail
  refine (eqI_same _ _ xs _ (OwnI.sl (own_below (own_below h3 b4 (Nat.le_refl _)) b5 (Nat.le_refl _))) h5.sl hl').mono ?_
  rintro e w6 ⟨rfl, m, rfl⟩
  go_wp2_with fail
  go_ret
  exact ⟨rfl, below_drewN B5 m⟩

set_option maxHeartbeats 1000000 in
theorem exactIsKawasaki.walk (a : Value) (xs : List Int) (hx : Ints xs) (w : World) (h : Sl w w.heap.size a xs) : Calls Try.prog 6 #[a] w (RetT w) := by
  by_cases hl : 1048576 < xs.length
  · obtain ⟨A, c, rfl, hc, _⟩ := h
    go_enter Try.func6, Try.ntmps6
    go_wp2_with fail
    go_ret
    exact ⟨rfl, Below.refl _ _⟩
  have hl' : xs.length ≤ 1048576 := by omega
  obtain ⟨b, hv⟩ : ∃ b : Bool, b = true ↔ AltP xs := ⟨@decide (AltP xs) (Classical.propDecidable _), by simp⟩
  have HS := Lib.hid (fun v w h => sKW_any v xs hx b hv w h hl')
  have HI := Lib.hid (fun v w h => iKW_any v xs hx b hv w h hl')
  obtain ⟨z, hz⟩ : ∃ z, kaw b xs = z := ⟨_, rfl⟩
  rw [hz] at HS HI
  obtain ⟨A, c, rfl, hc, hcell⟩ := h
  have HA := Lib.hid (show Sl w w.heap.size (.slice A xs.length c) xs from ⟨A, c, rfl, hc, hcell⟩)
  have hzz : (z != z) = false := by simp
  clear hcell hx hv hz
  go_enter Try.func6, Try.ntmps6
  go_wp2_with fail
  refine (toI_any _ xs _ HA.out hl').mono ?_
  rintro e w1 ⟨v1, rfl, h1, b1⟩
  go_wp2_with fail
  refine (HS.out _ _ h1.sl).mono ?_
  rintro e w2 ⟨rfl, b2⟩
  have B2 := b1.trans (b2.mono b1.size)
  go_wp2_with fail
  refine (toI_any _ xs _ ((HA.out.below B2 (Nat.le_refl _)).mono B2.size) hl').mono ?_
  rintro e w3 ⟨v3, rfl, h3, b3⟩
  have B3 := B2.trans (b3.mono B2.size)
  go_wp2_with fail
  refine (HI.out _ _ h3.sl).mono ?_
  rintro e w4 ⟨rfl, b4⟩
  have B4 := B3.trans (b4.mono B3.size)
  go_wp2_with fail
  refine (toI_any _ xs _ ((HA.out.below B4 (Nat.le_refl _)).mono B4.size) hl').mono ?_
  rintro e w5 ⟨v5, rfl, h5, b5⟩
  have B5 := B4.trans (b5.mono B4.size)
  go_wp2_with fail
  refine (eqI_same _ _ xs _ (OwnI.sl (own_below (own_below h3 b4 (Nat.le_refl _)) b5 (Nat.le_refl _))) h5.sl hl').mono ?_
  rintro e w6 ⟨rfl, m, rfl⟩
  go_wp2_with fail
  go_ret
  exact ⟨rfl, below_drewN B5 m⟩
end Go.Proofs.Ytdnkgnknjhnjiaa
