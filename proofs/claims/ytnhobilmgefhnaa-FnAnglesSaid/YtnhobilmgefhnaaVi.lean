/- Equal rotations counted: by the program. -/
import Derived.Test.YtnhobilmgefhnaaVh
import Derived.RangeFuncCalls
namespace Go.Proofs.Ytnhobilmgefhnaa
open Go Go.RowKit Go.Shelf
attribute [local go_sem] Oper.semAt_some

/-- How many of the first k rotations are ys. -/
def cn (xs ys : List Int) : Nat → Int
  | 0 => 0
  | k + 1 => cn xs ys k + (if rot xs k = ys then 1 else 0)
theorem cn_yes {xs ys : List Int} {k : Nat} (h : rot xs k = ys) : cn xs ys (k + 1) = cn xs ys k + 1 := by simp [cn, h]
theorem cn_no {xs ys : List Int} {k : Nat} (h : ¬ rot xs k = ys) : cn xs ys (k + 1) = cn xs ys k := by simp [cn, h]
theorem cn_bd (xs ys : List Int) (k : Nat) : 0 ≤ cn xs ys k ∧ cn xs ys k ≤ k := by
  induction k with
  | zero => simp [cn]
  | succ k ih =>
    by_cases h : rot xs k = ys
    · rw [cn_yes h]; omega
    · rw [cn_no h]; omega

def InvC (w : World) (vw : Value) (xs ys : List Int) {n : Nat} (pre : List (Rot n)) (W : World) : Prop :=
  Boxed W w.heap.size 24 vw ∧ Boxed W (w.heap.size + 1) 2 (.int .i64 (cn xs ys pre.length)) ∧ Below w.heap.size w W
theorem invC_own {w : World} {vw : Value} {xs ys : List Int} {n : Nat} {B : Nat} (hB : w.heap.size ≤ B) : OwnFrom B (InvC w vw xs ys (n := n)) := by
  rintro s W W' row ⟨h1, h2, h3⟩ hg hr
  exact ⟨boxV_from h1 hg (fun r e => (hr r e).2), boxV_from h2 hg (fun r e => (hr r e).2), h3.grown hg h3.size (fun k e => Nat.le_trans hB (hr k e).1)⟩

set_option maxRecDepth 100000 in
set_option maxHeartbeats 4000000 in
theorem iCR_any (va vb : Value) (xs ys : List Int) (n : Nat) (hx : xs.length = n) (hy : ys.length = n) (hp : 0 < n) (hl : n ≤ 1048576) (w : World) (ha : Sl w w.heap.size va xs) (hb : Sl w w.heap.size vb ys) :
    Calls Try.prog 42 #[va, vb] w (RetN (cn xs ys n) w) := by
  obtain ⟨b, o, c, rfl, hc, hb1, C1⟩ := sl_at ha hx hp
  obtain ⟨b2, o2, c2, rfl, hc2, hb2, C2⟩ := sl_at hb hy hp
  have HC := Lib.hid C1
  have HB := Lib.hid hb
  have HX := Lib.hid hx
  have HY := Lib.hid hy
  clear C1 C2 hx hy ha hb
  refine (callsIn_wide (n := 5)).1 ?_
  refine callsIn_of_wp_marks Try.func42 rfl trivial ?_ rfl
  simp only [Try.ntmps42, List.size_toArray, List.length_cons, List.length_nil, Nat.reduceAdd, Nat.reduceSub, Array.replicate_succ, Array.replicate_zero, List.push_toArray, List.append_toArray, List.nil_append, List.cons_append]
  gi_wp2_with fail
  refine ⟨trivial, ?_⟩
  refine (rots_in _ _ _ _ _).mono ?_
  rintro e w' ⟨rfl, rfl⟩
  gi_wp2_with fail
  have bK := Boxed.new w 24 (.slice (some ⟨b2, o2, none⟩) n c2)
  have bR := Boxed.new (w.alloc (.cells #[.slice (some ⟨b2, o2, none⟩) n c2] 24)) 2 (.int .i64 0)
  have bL := Boxed.new ((w.alloc (.cells #[.slice (some ⟨b2, o2, none⟩) n c2] 24)).alloc (.cells #[.int .i64 0] 2)) 24 (.slice (some ⟨b, o, none⟩) n c)
  simp only [World.size_alloc] at bR bL
  obtain ⟨w4, hw4⟩ : ∃ w4, ((w.alloc (.cells #[.slice (some ⟨b2, o2, none⟩) n c2] 24)).alloc (.cells #[.int .i64 0] 2)).alloc (.cells #[.slice (some ⟨b, o, none⟩) n c] 24) = w4 := ⟨_, rfl⟩
  have B4 : Below w.heap.size w w4 := by rw [← hw4]; exact (((Below.refl _ w).alloc (Nat.le_refl _) _).alloc (by simp) _).alloc (by simp; omega) _
  have z4 : w4.heap.size = w.heap.size + 1 + 1 + 1 := by rw [← hw4]; simp
  have bK4 : Boxed w4 w.heap.size 24 (.slice (some ⟨b2, o2, none⟩) n c2) := by rw [← hw4]; exact (bK.alloc _).alloc _
  have bR4 : Boxed w4 (w.heap.size + 1) 2 (.int .i64 0) := by rw [← hw4]; exact bR.alloc _
  have bL4 : Boxed w4 (w.heap.size + 1 + 1) 24 (.slice (some ⟨b, o, none⟩) n c) := by rw [← hw4]; exact bL
  rw [hw4]
  clear bK bR bL hw4
  refine wpIn_rangeFunc_made (F := Fence.wide) rfl (by decide) (gf := 58) (lb := #[.pointer (some ⟨w.heap.size + 1 + 1, 0, none⟩)]) rfl trivial (enters_of Try.func58 (by kernel_rfl) rfl)
    (rots_made _ (w.heap.size + 1 + 1) w.heap.size b o n c xs HX.out hl hc w4 (by omega) (by omega) (by omega) bL4.cell (cells_below HC.out B4 hb1)) kr_t (kr_b (by omega) (by omega)) (Below.refl _ _) (fun _ => rfl)
    (InvC w (.slice (some ⟨b2, o2, none⟩) n c2) xs ys) (fun _ _ _ => False) (invC_own (by omega)) (fun _ _ _ _ _ hs _ _ => hs) (fun pre x => yr_own pre x) ⟨bK4, bR4, B4⟩
    (fun x => { tmps := #[.slice (some ⟨b, o, none⟩) n c, .slice (some ⟨b2, o2, none⟩) n c2, undef, .pointer (some ⟨w.heap.size, 0, none⟩), .int .i64 0, .pointer (some ⟨w.heap.size + 1, 0, none⟩), undef, x.2, .slice (some ⟨b, o, none⟩) n c, .func (.func 58) #[] #[.pointer (some ⟨w.heap.size + 1 + 1, 0, none⟩)], .int .i64 (x.1.1 : Int), x.2, undef, undef, undef, undef, undef, undef], defers := [] }) ?assign ?body ?done ?stop
  case assign =>
    intro l x W K hK
    simp only [rtE]
    gi_wp2
    exact hK
  case body =>
    rintro l pre ⟨⟨j, hj⟩, v⟩ W hI ⟨hjl, hown⟩
    simp only at hjl hown
    have cK := hI.1.cell
    have cR := hI.2.1.cell
    have fR := hI.2.1.frozen
    have hbd := cn_bd xs ys pre.length
    have hrl : (rot xs j).length = n := by rw [rot_len _ (by rw [HX.out]; omega), HX.out]
    have HE := Lib.hid (iEq_any v (.slice (some ⟨b2, o2, none⟩) n c2) (rot xs j) ys n hrl HY.out hp hl W hown.sl ((HB.out.below hI.2.2 (Nat.le_refl _)).mono hI.2.2.size))
    have HI := Lib.hid hI
    have HJ := Lib.hid hjl
    obtain ⟨q, hq⟩ : ∃ q, cn xs ys pre.length = q := ⟨_, rfl⟩
    have HQ := Lib.hid hq
    rw [hq] at hbd cR
    have hqw : IntKind.i64.wrap (q + 1) = q + 1 := IntWalk.i64_in _ (by have := hjl; omega)
    clear hI hjl hown hrl hq
    gi_wp2_with fail
    refine ⟨trivial, ?_⟩
    refine (CallsIn.inRound l (callsIn_wide.2 HE.out)).mono ?_
    rintro e w5 ⟨r, rfl, hr, m, rfl⟩
    have kd : ∀ (m : Nat), KeepsFrom w4.heap.size W (W.drewN m) := fun m => ⟨Nat.le_refl _, fun _ _ _ h _ => h⟩
    cases r
    · have HR := Lib.hid hr
      clear hr
      gi_wp2_with fail
      refine ⟨kd m, ⟨Nat.le_refl _, rfl, rfl⟩, HI.out.1, ?_, below_drewN HI.out.2.2 m⟩
      have h := HI.out.2.1
      rw [List.length_append]
      show Boxed _ _ _ (.int .i64 (cn xs ys (pre.length + 1)))
      rw [cn_no (by rw [← HJ.out]; intro h; have := HR.out.2 h; cases this)]
      exact h
    · have HR := Lib.hid (hr.1 rfl)
      clear hr
      have cR5 : (W.drewN m).cell? ⟨w.heap.size + 1, 0, none⟩ = some (.int .i64 q) := cR
      have fR5 : (W.drewN m).frozen? ⟨w.heap.size + 1, 0, none⟩ = false := fR
      gi_wp2_with fail
      have h := HI.out.2.1
      refine ⟨(kd m).trans ((KeepsOthers.setCell _ _ _).from _), ⟨(KeepsWalks.setCell (W.drewN m) _ _).size, Below.heap_setCell (W.drewN m) _ _ _ (show b ≠ w.heap.size + 1 by omega), Below.heap_setCell (W.drewN m) _ _ _ (show w.heap.size + 1 + 1 ≠ w.heap.size + 1 by omega)⟩, ?_, ?_, (below_drewN HI.out.2.2 m).setCell (p := ⟨w.heap.size + 1, 0, none⟩) (by simp) _⟩
      · exact Boxed.kept (W := W.drewN m) HI.out.1 (grownBy_setCell' _ _ _) (by simp)
      · rw [List.length_append]
        show Boxed _ _ _ (.int .i64 (cn xs ys (pre.length + 1)))
        rw [cn_yes (by rw [← HJ.out]; exact HR.out), HQ.out]
        exact Boxed.set (W := W.drewN m) _ h
  case done =>
    rintro D zs W hD hyl hI hK
    have cR := hI.2.1.cell
    rw [hyl] at cR
    have HK := Lib.hid hK
    have HI := Lib.hid hI
    clear hI hK
    gi_wp2
    refine ⟨by simp, .inl ⟨_, _, rfl, run_takeDeferred HK.out, ?_⟩⟩
    refine ⟨.int .i64 (cn xs ys n), by simp [results, Try.results42, go_sem], rfl, ?_⟩
    exact HI.out.2.2.trans (belowK_b (w := w) (Nat.le_refl _) W D _ _ (by omega) HK.out rfl rfl)
  case stop =>
    rintro D c pre W _ _ h _
    exact h.elim
end Go.Proofs.Ytnhobilmgefhnaa
