/- RotateSectors: by the program. -/
import Derived.Test.YtnhobilmgefhnaaVe
namespace Go.Proofs.Ytnhobilmgefhnaa
open Go Go.RowKit Go.Shelf
attribute [local go_sem] Oper.semAt_some

theorem ownV_from {w w' : World} {row : Option Nat} {base : Nat} {e : TypeId} {size : Nat} {v : Value} {n : Nat} {xs : List Value} (h : w.ownsRow base e size v n xs) (hg : w.grownBy w' row) (hr : ∀ r, row = some r → ∃ o : Obj, w.heap[r]? = some o ∧ o.isCells = false) : w'.ownsRow base e size v n xs := by
  refine h.kept hg ?_
  rcases h.2 with ⟨rfl, _⟩ | ⟨g, cap, cur, rfl, _, hgg, _⟩
  · exact .inl rfl
  · right
    intro e'
    obtain ⟨o, ho, hc⟩ := hr g e'.symm
    rw [hgg] at ho
    cases ho
    cases hc
theorem boxV_from {W W' : World} {row : Option Nat} {B : Nat} {t : TypeId} {v : Value} (h : Boxed W B t v) (hg : W.grownBy W' row) (hr : ∀ r, row = some r → ∃ o : Obj, W.heap[r]? = some o ∧ o.isCells = false) : Boxed W' B t v := by
  refine h.kept hg ?_
  intro e'
  obtain ⟨o, ho, hc⟩ := hr B e'.symm
  rw [show W.heap[B]? = _ from h] at ho
  cases ho
  cases hc
theorem yr_own {n₀ B : Nat} {xs : List Int} {n : Nat} (pre : List (Rot n)) (x : Rot n) : OwnFrom B (fun (_ : Unit) W => Yr n₀ xs pre x W) :=
  fun _ _ _ _ h hg hr => ⟨h.1, ownV_from h.2 hg (fun r e => (hr r e).2)⟩

/-- Between two rounds; where the round has found it. -/
def InvR (w : World) (k : Int) {n : Nat} (pre : List (Rot n)) (W : World) : Prop :=
  Boxed W w.heap.size 2 (.int .i64 k) ∧ Boxed W (w.heap.size + 1) 24 (.slice none 0 0) ∧ Below w.heap.size w W ∧ ∀ j : Nat, j < pre.length → (j : Int) ≠ k
def InvRx (w : World) (k : Int) (xs : List Int) {n : Nat} (c : Code) (_ : List (Rot n)) (W : World) : Prop :=
  c = .ret ∧ ∃ (j : Nat) (v : Value), (j : Int) = k ∧ j < n ∧ Boxed W (w.heap.size + 1) 24 v ∧ OwnI W w.heap.size v (rot xs j) ∧ Below w.heap.size w W
theorem invR_own {w : World} {k : Int} {n : Nat} {B : Nat} (hB : w.heap.size ≤ B) : OwnFrom B (InvR w k (n := n)) := by
  rintro s W W' row ⟨h1, h2, h3, h4⟩ hg hr
  exact ⟨boxV_from h1 hg (fun r e => (hr r e).2), boxV_from h2 hg (fun r e => (hr r e).2), h3.grown hg h3.size (fun k e => Nat.le_trans hB (hr k e).1), h4⟩
theorem invRx_own {w : World} {k : Int} {xs : List Int} {n : Nat} {B : Nat} (hB : w.heap.size ≤ B) (c : Code) : OwnFrom B (InvRx w k xs (n := n) c) := by
  rintro s W W' row ⟨hc, j, v, h1, h2, h3, h4, h5⟩ hg hr
  exact ⟨hc, j, v, h1, h2, boxV_from h3 hg (fun r e => (hr r e).2), ownV_from h4 hg (fun r e => (hr r e).2), h5.grown hg h5.size (fun k e => Nat.le_trans hB (hr k e).1)⟩

/-- A rotation of a valid list; nothing of any other. -/
def RotP (k : Int) (xs : List Int) : Prop := Vs xs ∧ 0 ≤ k ∧ k < xs.length
def rots (b : Bool) (k : Int) (xs : List Int) : List Int := if b then rot xs k.toNat else []
theorem rots_len (b : Bool) (k : Int) (xs : List Int) (hb : b = true → RotP k xs) (h : xs.length ≤ 1048576) : (rots b k xs).length ≤ 1048576 := by
  unfold rots; split
  · rename_i hb'
    have := hb hb'
    rw [rot_len _ (by have := this.2; omega)]; exact h
  · simp

set_option maxRecDepth 100000 in
set_option maxHeartbeats 4000000 in
theorem iRS_yes (b o c : Nat) (k : Int) (xs : List Int) (r : Bool) (hr : r = true ↔ RotP k xs) (w : World) (hc : xs.length ≤ c) (hb : b < w.heap.size) (hcs : Cells w b o xs) (hv : Vs xs) (hl : xs.length ≤ 1048576)
    (HD : Hid (∀ W, Below w.heap.size w W → Calls Try.prog 15 #[.slice (some ⟨b, o, none⟩) xs.length c] W (RetP (Vs xs) W))) :
    Calls Try.prog 14 #[.slice (some ⟨b, o, none⟩) xs.length c, .int .i64 k] w (RetO (rots r k xs) w) := by
  obtain ⟨n, hn⟩ : ∃ n, xs.length = n := ⟨_, rfl⟩
  have HC := Lib.hid hcs
  have HR := Lib.hid hr
  rw [hn] at hl hc HD ⊢
  have HN := Lib.hid hn
  have HV := Lib.hid hv
  clear hn hcs hv hr
  refine (callsIn_wide (n := 5)).1 ?_
  refine callsIn_of_wp_marks Try.func14 rfl trivial ?_ rfl
  simp only [Try.ntmps14, List.size_toArray, List.length_cons, List.length_nil, Nat.reduceAdd, Nat.reduceSub, Array.replicate_succ, Array.replicate_zero, List.push_toArray, List.append_toArray, List.nil_append, List.cons_append]
  gi_wp2_with fail
  refine ⟨trivial, ?_⟩
  refine (callsIn_wide.2 (HD.out _ (by (repeat (first | with_reducible exact Below.refl _ _ | with_reducible assumption | with_reducible refine below_drewN ?_ _ | with_reducible refine Below.drew ?_ | with_reducible refine Below.alloc ?_ (by first | omega | (simp; done) | (simp; omega)) _ | with_reducible refine Below.setCell ?_ (by first | omega | (simp; done) | (simp; omega)) _ | with_reducible refine Below.trans ?_ (Below.mono (by assumption) (by first | omega | (simp; done) | (simp; omega)))))))).mono ?_
  rintro e w2 ⟨r', rfl, hr', rfl⟩
  obtain rfl : r' = true := by rw [hr']; exact HV.out
  clear hr'
  gi_wp2_with fail
  refine ⟨trivial, ?_⟩
  refine (rots_in _ _ _ _ _).mono ?_
  rintro e w' ⟨rfl, rfl⟩
  gi_wp2_with fail
  have bK := Boxed.new w 2 (.int .i64 k)
  have bR := Boxed.new (w.alloc (.cells #[.int .i64 k] 2)) 24 (.slice none 0 0)
  have bL := Boxed.new ((w.alloc (.cells #[.int .i64 k] 2)).alloc (.cells #[.slice none 0 0] 24)) 24 (.slice (some ⟨b, o, none⟩) n c)
  simp only [World.size_alloc] at bR bL
  obtain ⟨w4, hw4⟩ : ∃ w4, ((w.alloc (.cells #[.int .i64 k] 2)).alloc (.cells #[.slice none 0 0] 24)).alloc (.cells #[.slice (some ⟨b, o, none⟩) n c] 24) = w4 := ⟨_, rfl⟩
  have B4 : Below w.heap.size w w4 := by rw [← hw4]; exact (((Below.refl _ w).alloc (Nat.le_refl _) _).alloc (by simp) _).alloc (by simp; omega) _
  have z4 : w4.heap.size = w.heap.size + 1 + 1 + 1 := by rw [← hw4]; simp
  have bK4 : Boxed w4 w.heap.size 2 (.int .i64 k) := by rw [← hw4]; exact (bK.alloc _).alloc _
  have bR4 : Boxed w4 (w.heap.size + 1) 24 (.slice none 0 0) := by rw [← hw4]; exact bR.alloc _
  have bL4 : Boxed w4 (w.heap.size + 1 + 1) 24 (.slice (some ⟨b, o, none⟩) n c) := by rw [← hw4]; exact bL
  rw [hw4]
  have hnp : 0 < n := by rw [← HN.out]; exact vs_pos HV.out
  clear bK bR bL hw4
  refine wpIn_rangeFunc_made (F := Fence.wide) rfl (by decide) (gf := 58) (lb := #[.pointer (some ⟨w.heap.size + 1 + 1, 0, none⟩)]) rfl trivial (enters_of Try.func58 (by kernel_rfl) rfl)
    (rots_made _ (w.heap.size + 1 + 1) w.heap.size b o n c xs HN.out hl hc w4 (by omega) (by omega) (by omega) bL4.cell (cells_below HC.out B4 hb)) kr_t (kr_b (by omega) (by omega)) (Below.refl _ _) (fun _ => rfl)
    (InvR w k) (InvRx w k xs) (invR_own (by omega)) (invRx_own (by omega)) (fun pre x => yr_own pre x) ⟨bK4, bR4, B4, fun j hj => absurd hj (by simp)⟩
    (fun x => { tmps := #[.slice (some ⟨b, o, none⟩) n c, .int .i64 k, undef, .pointer (some ⟨w.heap.size, 0, none⟩), .pointer (some ⟨w.heap.size + 1, 0, none⟩), .int .i64 (x.1.1 : Int), x.2, .slice (some ⟨b, o, none⟩) n c, .bool true, .bool false, .slice (some ⟨b, o, none⟩) n c, .func (.func 58) #[] #[.pointer (some ⟨w.heap.size + 1 + 1, 0, none⟩)], .int .i64 (x.1.1 : Int), x.2, undef, undef, undef, undef], defers := [] }) ?assign ?body ?done ?stop
  case assign =>
    intro l x W K hK
    simp only [rtE]
    gi_wp2
    exact hK
  case body =>
    rintro l pre ⟨⟨j, hj⟩, v⟩ W hI ⟨hjl, hown⟩
    simp only at hjl hown
    have cK := hI.1.cell
    have cR := hI.2.1.cell
    have fR := hI.2.1.frozen
    have hrl : (rot xs j).length = n := by rw [rot_len _ (by rw [HN.out]; omega), HN.out]
    have hown' : W.ownsRow w.heap.size 2 1 v (n - 1 + 1) ((rot xs j).map (Value.int .i64)) := by
      unfold OwnI at hown
      rw [hrl] at hown
      rw [show n - 1 + 1 = n by omega]
      exact hown
    obtain ⟨g, cap, rfl⟩ := ownsRow_succ hown'
    have HO := Lib.hid hown
    have HI := Lib.hid hI
    have HJ := Lib.hid hjl
    clear hI hjl hown hown' hrl
    by_cases hk : (j : Int) = k
    · have HK := Lib.hid hk
      have hk' : ((j : Int) == k) = true := by simp; omega
      clear hk
      gi_wp2
      refine ⟨(KeepsOthers.setCell _ _ _).from _, rfl, j, _, HK.out, hj, HI.out.2.1.set _, ?_, ?_⟩
      · exact (HO.out.kept (grownBy_setCell' _ _ _) (.inr (HI.out.2.1.not_row (by decide) HO.out).symm))
      · exact HI.out.2.2.1.setCell (p := ⟨w.heap.size + 1, 0, none⟩) (by simp) _
    · have HK := Lib.hid hk
      have hk' : ((j : Int) == k) = false := by simp; omega
      clear hk
      gi_wp2
      refine ⟨KeepsFrom.refl _ _, ⟨Nat.le_refl _, rfl, rfl⟩, HI.out.1, HI.out.2.1, HI.out.2.2.1, fun i hi => ?_⟩
      rw [List.length_append] at hi
      rcases Nat.lt_or_ge i pre.length with h | h
      · exact HI.out.2.2.2 i h
      · obtain rfl : i = j := by rw [HJ.out]; simp at hi; omega
        exact HK.out
  case done =>
    rintro D ys W hD hyl hI hK
    have cR := hI.2.1.cell
    have fR := hI.2.1.frozen
    have HK := Lib.hid hK
    have HI := Lib.hid hI
    have hr : r = false := by
      rw [Bool.eq_false_iff]
      intro h
      have h1 := HR.out.1 h
      have h2 := h1.2
      rw [HN.out] at h2
      exact HI.out.2.2.2 k.toNat (by omega) (by omega)
    subst hr
    clear hI hK
    rw [z4] at hD
    have hDb : D ≠ w.heap.size + 1 := by omega
    gi_wp2
    have hK2 : (W.setCell ⟨w.heap.size + 1, 0, none⟩ (.slice none 0 0)).heap[D]? = some (.deferred (some [])) := (Below.heap_setCell _ _ _ _ hDb).trans HK.out
    have hX := (HI.out.2.1.set (.slice none 0 0)).kept (grownBy_putObj' _ D (.deferred none)) (by intro e; cases e; omega)
    refine ⟨by simp, .inl ⟨_, _, rfl, run_takeDeferred hK2, ?_⟩⟩
    refine ⟨.slice none 0 0, ?_, _, rfl, own_nil _ _, ?_⟩
    · have cX := hX.cell
      simp [results, Try.results14, go_sem, cX]
    · exact (HI.out.2.2.1.setCell (p := ⟨w.heap.size + 1, 0, none⟩) (by simp) _).trans (belowK_b (w := w) (Nat.le_refl _) _ D _ _ (by omega) hK2 rfl rfl)
  case stop =>
    rintro D c' pre W hD _ ⟨rfl, j, v, hjk, hjn, hbx, hown, hbel⟩ hK
    rw [z4] at hD
    have hr : r = true := HR.out.2 ⟨HV.out, by omega, by rw [HN.out]; omega⟩
    subst hr
    have HK := Lib.hid hK
    have HB := Lib.hid hbx
    have HX := Lib.hid hbel
    have HO := Lib.hid hown
    have HJ := Lib.hid hjk
    clear hK hbx hbel hown hjk
    gi_wp2
    have hX := HB.out.kept (grownBy_putObj' _ D (.deferred none)) (by intro e; cases e; omega)
    refine ⟨by simp, .inl ⟨_, _, rfl, run_takeDeferred HK.out, ?_⟩⟩
    refine ⟨v, ?_, _, rfl, ?_, ?_⟩
    · have cX := hX.cell
      simp [results, Try.results14, go_sem, cX]
    · have h3 := ownV_from HO.out (grownBy_putObj' W D (.deferred none)) (fun r e => by cases e; exact ⟨_, HK.out, rfl⟩)
      unfold rots
      rw [if_pos rfl, show k.toNat = j by have := HJ.out; omega]
      exact h3
    · exact HX.out.trans (belowK_b (w := w) (Nat.le_refl _) _ D _ _ (by omega) HK.out rfl rfl)
end Go.Proofs.Ytnhobilmgefhnaa
