/- Symmetries of sector lists, on both sides; the walk of FnExactSectorSymmetries. -/
import Derived.Test.YtnhobilmgefhnaaVi
namespace Go.Proofs.Ytnhobilmgefhnaa
open Go Go.RowKit

/-- Two numbers; nothing old turned. -/
def RetII (x y : Int) (w : World) (e : Ending) (w' : World) : Prop := e = .returned (.tuple #[.int .i64 x, .int .i64 y]) ∧ Below w.heap.size w w'
def sy1 (b : Bool) (xs : List Int) : Int := if b then cn xs xs xs.length else 0
def sy2 (b : Bool) (xs : List Int) : Int := if b then cn xs.reverse xs xs.length else 0
set_option maxHeartbeats 2000000 in
theorem iSS_any (v : Value) (xs : List Int) (hx : Ints xs) (b : Bool) (hv : b = true ↔ Vs xs) (w : World) (h : Sl w w.heap.size v xs) (hl : xs.length ≤ 1048576) :
    Calls Try.prog 19 #[v] w (RetII (sy1 b xs) (sy2 b xs) w) := by
  have HO := Lib.hid (iVS_any v xs hx w h hl)
  by_cases hvs : Vs xs
  · obtain rfl : b = true := hv.2 hvs
    have hp := vs_pos hvs
    have HV := Lib.hid hvs
    have H1 := Lib.hid (iCR_any v v xs xs xs.length rfl rfl hp hl w h h)
    have HM := Lib.hid (fun W (hb : Below w.heap.size w W) => iMir_any v xs W ((h.below hb (Nat.le_refl _)).mono hb.size) hp hl)
    have H2 := Lib.hid (fun u W (hb : Below w.heap.size w W) (hu : Sl W W.heap.size u xs.reverse) => iCR_any u v xs.reverse xs xs.length (by simp) rfl hp hl W hu ((h.below hb (Nat.le_refl _)).mono hb.size))
    unfold sy1 sy2
    rw [if_pos rfl, if_pos rfl]
    obtain ⟨a1, e1⟩ : ∃ a, cn xs xs xs.length = a := ⟨_, rfl⟩
    obtain ⟨a2, e2⟩ : ∃ a, cn xs.reverse xs xs.length = a := ⟨_, rfl⟩
    rw [e1] at H1 ⊢
    rw [e2] at H2 ⊢
    clear hv hvs h e1 e2
    go_enter Try.func19, Try.ntmps19
    go_wp2_with fail
    refine (HO.out).mono ?_
    rintro e w1 ⟨r, rfl, hr, rfl⟩
    obtain rfl : r = true := by rw [hr]; exact HV.out
    clear hr
    go_wp2_with fail
    refine (H1.out).mono ?_
    rintro e w2 ⟨rfl, b2⟩
    go_wp2_with fail
    refine (HM.out _ b2).mono ?_
    rintro e w3 ⟨u, rfl, o3, b3⟩
    have b3' := b2.trans (b3.mono b2.size)
    go_wp2_with fail
    refine (H2.out _ _ b3' o3.sl).mono ?_
    rintro e w4 ⟨rfl, b4⟩
    go_wp2_with fail
    go_ret2
    exact ⟨rfl, b3'.trans (b4.mono b3'.size)⟩
  · obtain rfl : b = false := vs_no hv hvs
    have HV := Lib.hid hvs
    clear hv hvs h
    go_enter Try.func19, Try.ntmps19
    go_wp2_with fail
    refine (HO.out).mono ?_
    rintro e w1 ⟨r, rfl, hr, rfl⟩
    obtain rfl : r = false := by rw [Bool.eq_false_iff]; exact fun h => HV.out (hr.1 h)
    clear hr
    go_wp2_with fail
    go_ret2
    exact ⟨rfl, Below.refl _ _⟩

end Go.Proofs.Ytnhobilmgefhnaa
