/- The walk of FnExactCanonicalSectors. -/
import Derived.Test.YtdnkgnknjhnjiaaVm
namespace Go.Proofs.Ytdnkgnknjhnjiaa
open Go Go.RowKit

theorem exactCanonicalSectors.long (a : Value) (xs : List Int) (w : World) (h : Sl w w.heap.size a xs) (hl : 1048576 < xs.length) : Calls Try.prog 9 #[a] w (RetT w) := by
  obtain ⟨A, c, rfl, hc, _⟩ := h
  go_enter Try.func9, Try.ntmps9
  go_wp2_with fail
  go_ret
  exact ⟨rfl, Below.refl _ _⟩

set_option maxHeartbeats 4000000 in
theorem exactCanonicalSectors.core (a : Value) (xs ys : List Int) (w : World) (h : Sl w w.heap.size a xs) (hl : xs.length ≤ 1048576) (hy : ys.length ≤ 1048576)
    (HS : Hid (∀ v w, Sl w w.heap.size v xs → Calls Try.prog 31 #[v] w (RetO ys w))) (HI : Hid (∀ v w, Sl w w.heap.size v xs → Calls Try.prog 32 #[v] w (RetO ys w))) :
    Calls Try.prog 9 #[a] w (RetT w) := by
  obtain ⟨A, c, rfl, hc, hcell⟩ := h
  have HA := Lib.hid (show Sl w w.heap.size (.slice A xs.length c) xs from ⟨A, c, rfl, hc, hcell⟩)
  clear hcell
  go_enter Try.func9, Try.ntmps9
  go_wp2_with fail
  refine (toI_any _ xs _ HA.out hl).mono ?_
  rintro e w1 ⟨v1, rfl, h1, b1⟩
  go_wp2_with fail
  refine (HS.out _ _ h1.sl).mono ?_
  rintro e w2 ⟨r, rfl, h2, b2⟩
  go_wp2_with fail
  refine (toI_any _ xs _ ((HA.out.below (b1.trans (b2.mono b1.size)) (Nat.le_refl _)).mono (b1.trans (b2.mono b1.size)).size) hl).mono ?_
  rintro e w3 ⟨x, rfl, h3, b3⟩
  go_wp2_with fail
  refine (HI.out _ _ h3.sl).mono ?_
  rintro e w4 ⟨g, rfl, h4, b4⟩
  have S := St.start HA.out b1 h2 b2 h3 b3 h4 b4
  clear h1 b1 h2 b2 h3 b3 h4 b4
  go_wp2_with fail
  refine (eqI_same _ _ ys _ S.g_ S.r_ hy).mono ?_
  rintro e w5 ⟨rfl, m5, rfl⟩
  replace S := S.drewN m5
  go_wp2_with fail
  refine (toI_any _ xs _ S.a_ hl).mono ?_
  rintro e w6 ⟨t6, rfl, h6, b6⟩
  replace S := S.below b6
  go_wp2_with fail
  refine (eqI_same _ _ xs _ S.x_ h6.sl hl).mono ?_
  rintro e w7 ⟨rfl, m7, rfl⟩
  replace S := S.drewN m7
  clear h6 b6
  go_wp2_with fail
  refine (mark_any _ _ xs _ S.X hl).mono ?_
  rintro e w8 ⟨rfl, h8, g8⟩
  replace S := S.markX h8 g8
  clear h8 g8
  go_wp2_with fail
  refine (eqI_same _ _ ys _ S.g_ S.r_ hy).mono ?_
  rintro e w9 ⟨rfl, m9, rfl⟩
  replace S := S.drewN m9
  go_wp2_with fail
  refine (mark_any _ _ ys _ S.G hy).mono ?_
  rintro e w10 ⟨rfl, h10, g10⟩
  replace S := S.markG h10 g10
  clear h10 g10
  go_wp2_with fail
  refine (held_any _ ys.length _ S.g_ hy).mono ?_
  rintro e w11 ⟨rfl, m11, rfl⟩
  replace S := S.drewN m11
  go_wp2_with fail
  refine (toI_any _ xs _ S.a_ hl).mono ?_
  rintro e w12 ⟨t12, rfl, h12, b12⟩
  replace S := S.below b12
  go_wp2_with fail
  refine (HI.out _ _ h12.sl).mono ?_
  rintro e w13 ⟨t13, rfl, h13, b13⟩
  replace S := S.below b13
  go_wp2_with fail
  refine (eqI_same _ _ ys _ h13.sl S.r_ hy).mono ?_
  rintro e w14 ⟨rfl, m14, rfl⟩
  replace S := S.drewN m14
  clear h12 h13 b12 b13
  go_wp2_with fail
  refine (held_any _ ys.length _ S.g_ hy).mono ?_
  rintro e w15 ⟨rfl, m15, rfl⟩
  replace S := S.drewN m15
  go_wp2_with fail
  go_ret
  exact ⟨rfl, by have B := S.bel; simp only [World.drewN_drewN] at B; exact B⟩

theorem exactCanonicalSectors.walk (a : Value) (xs : List Int) (hx : Ints xs) (w : World) (h : Sl w w.heap.size a xs) : Calls Try.prog 9 #[a] w (RetT w) := by
  by_cases hl : 1048576 < xs.length
  · exact exactCanonicalSectors.long a xs w h hl
  · obtain ⟨b, hv⟩ : ∃ b : Bool, b = true ↔ Vs xs := ⟨@decide (Vs xs) (Classical.propDecidable _), by simp⟩
    exact exactCanonicalSectors.core a xs (can b xs) w h (by omega) (can_len b xs (by omega)) (Lib.hid fun v w h => sCS_any v xs hx b hv w h (by omega)) (Lib.hid fun v w h => iCS_any v xs hx b hv w h (by omega))
end Go.Proofs.Ytdnkgnknjhnjiaa
