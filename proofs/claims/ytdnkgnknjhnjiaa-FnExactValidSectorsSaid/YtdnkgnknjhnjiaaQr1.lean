/- The walk of FnExactValidSectors. -/
import Derived.Test.YtdnkgnknjhnjiaaQl
namespace Go.Proofs.Ytdnkgnknjhnjiaa
open Go Go.RowKit

set_option maxHeartbeats 1000000 in
theorem exactValidSectors.walk (a : Value) (xs : List Int) (hx : Ints xs) (w : World) (h : Sl w w.heap.size a xs) : Calls Try.prog 3 #[a] w (RetT w) := by
  by_cases hl : 1048576 < xs.length
  · obtain ⟨A, c, rfl, hc, _⟩ := h
    go_enter Try.func3, Try.ntmps3
    go_wp2_with fail
    go_ret
    exact ⟨rfl, Below.refl _ _⟩
  have hl' : xs.length ≤ 1048576 := by omega
  obtain ⟨A, c, rfl, hc, hcell⟩ := h
  have HA := Lib.hid (show Sl w w.heap.size (.slice A xs.length c) xs from ⟨A, c, rfl, hc, hcell⟩)
  have HX := Lib.hid hx
  clear hcell hx
  go_enter Try.func3, Try.ntmps3
  go_wp2_with fail
  refine (toI_any _ xs _ HA.out hl').mono ?_
  rintro e w1 ⟨v1, rfl, h1, b1⟩
  go_wp2_with fail
  refine (sVS_any _ xs HX.out _ h1.sl hl').mono ?_
  rintro e w2 ⟨r, rfl, hr, rfl⟩
  have HR := Lib.hid hr
  clear hr
  go_wp2_with fail
  refine (toI_any _ xs _ ((HA.out.below b1 (Nat.le_refl _)).mono b1.size) hl').mono ?_
  rintro e w3 ⟨v3, rfl, h3, b3⟩
  go_wp2_with fail
  refine (iVS_any _ xs HX.out _ h3.sl hl').mono ?_
  rintro e w4 ⟨r', rfl, hr', rfl⟩
  obtain rfl : r' = r := by rw [Bool.eq_iff_iff, hr', HR.out]
  clear hr'
  have hrr : (r' != r') = false := by simp
  have b4 := b1.trans (b3.mono b1.size)
  go_wp2_with fail
  refine (toI_any _ xs _ ((HA.out.below b4 (Nat.le_refl _)).mono b4.size) hl').mono ?_
  rintro e w5 ⟨v5, rfl, h5, b5⟩
  go_wp2_with fail
  refine (eqI_same _ _ xs _ (OwnI.sl (own_below h3 b5 (Nat.le_refl _))) h5.sl hl').mono ?_
  rintro e w6 ⟨rfl, m, rfl⟩
  go_wp2_with fail
  go_ret
  exact ⟨rfl, below_drewN (b4.trans (b5.mono b4.size)) m⟩
end Go.Proofs.Ytdnkgnknjhnjiaa
