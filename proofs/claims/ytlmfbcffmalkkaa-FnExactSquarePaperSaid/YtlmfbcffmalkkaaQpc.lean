/- SquarePaper: both sides; the walk of its law. -/
import Derived.Test.YtlmfbcffmalkkaaQpb
import Derived.Test.YtlmfbcffmalkkaaQe
namespace Go.Proofs.Ytlmfbcffmalkkaa
open Go Go.RowKit

/-- The corners of a square, cell for cell. -/
def sqF (s : Int) : List Int := [0, 0, 0, 0, 0, 0, s, 0, 0, 0, 0, 0, s, 0, 0, s, 0, 0, 0, 0, 0, s, 0, 0]
def sqsF (b : Bool) (s : Int) : List Int := if b then sqF s else []
def sqN (b : Bool) : Nat := if b then 4 else 0
/-- A slice of points of the call's own, and a bool. -/
def RetFB (n : Nat) (fs : List Int) (b : Bool) (w : World) (e : Ending) (w' : World) : Prop := ∃ v, e = .returned (.tuple #[v, .bool b]) ∧ OwnF w' w.heap.size v n fs ∧ Below w.heap.size w w'
theorem ownF_nil (w : World) (base : Nat) : OwnF w base (.slice none 0 0) 0 [] := World.ownsRow_nil _ _ _ _
def SideP (s : Int) : Prop := 1 ≤ s ∧ s ≤ 1000

set_option maxHeartbeats 1000000 in
theorem iSP_any (s : Int) (b : Bool) (hb : b = true ↔ SideP s) (w : World) : Calls Try.prog 29 #[.int .i64 s] w (RetFB (sqN b) (sqsF b s) b w) := by
  by_cases h1 : s < 1
  · obtain rfl : b = false := by rw [Bool.eq_false_iff]; exact fun h => by have := (hb.1 h).1; omega
    go_enter Try.func29, Try.ntmps29
    go_wp2_with fail
    go_ret2
    exact ⟨_, rfl, ownF_nil _ _, Below.refl _ _⟩
  · by_cases h2 : 1000 < s
    · obtain rfl : b = false := by rw [Bool.eq_false_iff]; exact fun h => by have := (hb.1 h).2; omega
      clear h1
      go_enter Try.func29, Try.ntmps29
      go_wp2_with fail
      go_ret2
      exact ⟨_, rfl, ownF_nil _ _, Below.refl _ _⟩
    · have h1' : 1 ≤ s := by omega
      have h2' : s ≤ 1000 := by omega
      obtain rfl : b = true := hb.2 ⟨h1', h2'⟩
      clear h1 h2 hb
      have HW := Lib.hid (World.ownsRow_lit (base := w.heap.size) (e := 56) (size := 6) (w.alloc (.cells #[.int .i64 s, .int .i64 0, .int .i64 0] 54)) ((sqF s).map (Value.int .i64)).toArray 4 (by simp) (by decide) rfl)
      go_enter Try.func29, Try.ntmps29
      go_wp2_with fail
      go_ret2
      exact ⟨_, rfl, by first | exact HW.out | (have := HW.out; simpa [sqsF, sqN, sqF, OwnF] using this), by (repeat (first | with_reducible exact Below.refl _ _ | with_reducible assumption | with_reducible refine below_drewN ?_ _ | with_reducible refine Below.drew ?_ | with_reducible refine Below.alloc ?_ (by first | omega | (simp; done) | (simp; omega)) _ | with_reducible refine Below.setCell ?_ (by first | omega | (simp; done) | (simp; omega)) _ | with_reducible refine Below.trans ?_ (Below.mono (by assumption) (by first | omega | (simp; done) | (simp; omega)))))⟩

set_option maxHeartbeats 1000000 in
theorem sSq_any (s : Int) (w : World) : Calls Try.prog 47 #[.int .i64 s] w fun e w' => ∃ v, e = .returned v ∧ OwnF w' w.heap.size v 4 (sqF s) ∧ Below w.heap.size w w' := by
  have HW := Lib.hid (World.ownsRow_lit (base := w.heap.size) (e := 56) (size := 6) (w.alloc (.cells #[.int .i64 s, .int .i64 0, .int .i64 0] 54)) ((sqF s).map (Value.int .i64)).toArray 4 (by simp) (by decide) rfl)
  go_enter Try.func47, Try.ntmps47
  go_wp2_with fail
  go_ret
  exact ⟨_, rfl, by first | exact HW.out | (have := HW.out; simpa [sqF, OwnF] using this), by (repeat (first | with_reducible exact Below.refl _ _ | with_reducible assumption | with_reducible refine below_drewN ?_ _ | with_reducible refine Below.drew ?_ | with_reducible refine Below.alloc ?_ (by first | omega | (simp; done) | (simp; omega)) _ | with_reducible refine Below.setCell ?_ (by first | omega | (simp; done) | (simp; omega)) _ | with_reducible refine Below.trans ?_ (Below.mono (by assumption) (by first | omega | (simp; done) | (simp; omega)))))⟩
set_option maxHeartbeats 1000000 in
theorem sSP_any (s : Int) (b : Bool) (hb : b = true ↔ SideP s) (w : World) : Calls Try.prog 28 #[.int .i64 s] w (RetFB (sqN b) (sqsF b s) b w) := by
  have HQ := Lib.hid (fun w => sSq_any s w)
  by_cases h : SideP s
  · obtain rfl : b = true := hb.2 h
    have HI := Lib.hid (fun w => in_yes s 1 1000 w h.1 h.2)
    clear hb h
    go_enter Try.func28, Try.ntmps28
    go_wp2_with fail
    refine (HI.out _).mono ?_
    rintro e w1 ⟨rfl, rfl⟩
    go_wp2_with fail
    refine (HQ.out _).mono ?_
    rintro e w1 ⟨v, rfl, h1, b1⟩
    go_wp2_with fail
    go_ret2
    exact ⟨_, rfl, h1, b1⟩
  · obtain rfl : b = false := by rw [Bool.eq_false_iff]; exact fun hh => h (hb.1 hh)
    have HI := Lib.hid (fun w => in_no s 1 1000 w (by unfold SideP at h; omega))
    clear hb h
    go_enter Try.func28, Try.ntmps28
    go_wp2_with fail
    refine (HI.out _).mono ?_
    rintro e w1 ⟨rfl, rfl⟩
    go_wp2_with fail
    go_ret2
    exact ⟨_, rfl, ownF_nil _ _, Below.refl _ _⟩

/-- The state of a law without slices among its arguments: the model's answer r, the program's g. -/
structure StP (W : World) (s1 : Nat) (r g : Value) (n : Nat) (fs us : List Int) (w : World) : Prop where
  bel : Below W.heap.size W w
  R : SlF w s1 r n fs
  G : OwnF w s1 g n us
  l1 : W.heap.size ≤ s1
  l2 : s1 ≤ w.heap.size
section
variable {W w w' : World} {s1 n : Nat} {r g : Value} {fs us : List Int}
theorem ownF_below {base B : Nat} {v : Value} (h : OwnF w base v n fs) (hb : Below B w w') (hB : w.heap.size ≤ B) : OwnF w' base v n fs := own_below h hb hB
theorem StP.below (h : StP W s1 r g n fs us w) (hb : Below w.heap.size w w') : StP W s1 r g n fs us w' := by
  have l1 := h.l1; have l2 := h.l2
  exact ⟨h.bel.trans (hb.mono (by omega)), h.R.below hb (by omega), ownF_below h.G hb (Nat.le_refl _), l1, Nat.le_trans l2 hb.size⟩
theorem StP.drewN (h : StP W s1 r g n fs us w) (k : Nat) : StP W s1 r g n fs us (w.drewN k) := ⟨below_drewN h.bel k, h.R, h.G, h.l1, h.l2⟩
theorem StP.markG {us' : List Int} (h : StP W s1 r g n fs us w) (hG : OwnF w' s1 g n us') (hg : w.grownBy w' g.ownBlock) : StP W s1 r g n fs us' w' := by
  have l1 := h.l1; have l2 := h.l2; have sz := hg.size
  have hx : ∀ k, g.ownBlock = some k → s1 ≤ k := fun k hk => (own_row h.G k hk).1
  exact ⟨h.bel.grown hg (by omega) (fun k hk => by have := hx k hk; omega), h.R.kept hg l2 hx, hG, l1, by omega⟩
theorem StP.r_ (h : StP W s1 r g n fs us w) : SlF w w.heap.size r n fs := h.R.mono h.l2
theorem StP.g_ (h : StP W s1 r g n fs us w) : SlF w w.heap.size g n us := OwnF.sl h.G
end

set_option maxHeartbeats 4000000 in
theorem exactSquarePaper.walk (s : Int) (_hs : I64 s) (w : World) : Calls Try.prog 9 #[.int .i64 s] w (RetT w) := by
  obtain ⟨b, hb⟩ : ∃ b : Bool, b = true ↔ SideP s := ⟨@decide (SideP s) (Classical.propDecidable _), by simp⟩
  have HS := Lib.hid (fun w => sSP_any s b hb w)
  have HI := Lib.hid (fun w => iSP_any s b hb w)
  obtain ⟨fs, hfs⟩ : ∃ fs, sqsF b s = fs := ⟨_, rfl⟩
  obtain ⟨n, hn⟩ : ∃ n, sqN b = n := ⟨_, rfl⟩
  have hl : n ≤ 1048576 := by rw [← hn]; unfold sqN; split <;> omega
  rw [hfs, hn] at HS HI
  have hbb : (b != b) = false := by simp
  clear hb hfs hn
  go_enter Try.func9, Try.ntmps9
  go_wp2_with fail
  refine (HS.out _).mono ?_
  rintro e w1 ⟨r, rfl, h1, b1⟩
  go_wp2_with fail
  refine (HI.out _).mono ?_
  rintro e w2 ⟨g, rfl, h2, b2⟩
  have S : StP w w1.heap.size r g n fs fs w2 := ⟨b1.trans (b2.mono b1.size), (OwnF.sl h1).below b2 (Nat.le_refl _), h2, b1.size, b2.size⟩
  clear h1 b1 h2 b2
  go_wp2_with fail
  refine (eqP_same _ _ n fs _ S.g_ S.r_ hl).mono ?_
  rintro e w3 ⟨rfl, b3⟩
  replace S := S.below b3
  clear b3
  go_wp2_with fail
  refine (markP_any _ _ n fs _ S.G hl).mono ?_
  rintro e w4 ⟨rfl, h4, g4⟩
  replace S := S.markG h4 g4
  clear h4 g4
  go_wp2_with fail
  refine (heldP_any _ n _ S.g_ hl).mono ?_
  rintro e w5 ⟨rfl, m5, rfl⟩
  replace S := S.drewN m5
  go_wp2_with fail
  refine (HI.out _).mono ?_
  rintro e w6 ⟨h, rfl, h6, b6⟩
  replace S := S.below b6
  go_wp2_with fail
  refine (eqP_same _ _ n fs _ (OwnF.sl h6) S.r_ hl).mono ?_
  rintro e w7 ⟨rfl, b7⟩
  replace S := S.below b7
  clear h6 b6 b7
  go_wp2_with fail
  refine (heldP_any _ n _ S.g_ hl).mono ?_
  rintro e w8 ⟨rfl, m8, rfl⟩
  replace S := S.drewN m8
  go_wp2_with fail
  go_ret
  exact ⟨rfl, by have B := S.bel; first | exact B | (simp only [World.drewN_drewN] at B; exact B)⟩
end Go.Proofs.Ytlmfbcffmalkkaa
