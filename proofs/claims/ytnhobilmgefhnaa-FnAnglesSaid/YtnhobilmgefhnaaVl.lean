/- The least rotation or mirrored rotation of a sector list: by the program. -/
import Derived.Test.YtnhobilmgefhnaaVk
import Derived.RangeFuncCalls
import Derived.OwnWalkIn
namespace Go.Proofs.Ytnhobilmgefhnaa
open Go Go.RowKit Go.Shelf
attribute [local go_sem] Oper.semAt_some

theorem infoSl : (Try.prog.info? 24).map (fun i => (i.zero, i.size, i.bytes)) = some (some (.slice none 0 0), 1, 24) := by kernel_rfl
/-- The first k rotations. -/
def rotsK (xs : List Int) (k : Nat) : List (List Int) := (List.range k).map (rot xs)
theorem rotsK_succ (xs : List Int) (k : Nat) : rotsK xs (k + 1) = rotsK xs k ++ [rot xs k] := by simp [rotsK, List.range_succ]
theorem rotsK_len (xs : List Int) (k : Nat) : (rotsK xs k).length = k := by simp [rotsK]
theorem rotsK_mem {xs : List Int} {k : Nat} {x : List Int} : x ∈ rotsK xs k ↔ ∃ j, j < k ∧ rot xs j = x := by simp [rotsK]

theorem Ls.from {W W' : World} {row : Option Nat} {n₀ : Nat} {v : Value} {ls : List (List Int)} (h : Ls W n₀ v ls) (hg : W.grownBy W' row) (hr : ∀ r, row = some r → ∃ o : Obj, W.heap[r]? = some o ∧ o.isCells = false) : Ls W' n₀ v ls := by
  obtain ⟨vs, h1, h2⟩ := h
  refine ⟨vs, ownV_from h1 hg hr, fun i hi => ?_⟩
  obtain ⟨u, hu, ho⟩ := h2 i hi
  exact ⟨u, hu, ownV_from ho hg hr⟩
/-- Two rows whose elements are of two types are not one. -/
theorem rows_apart {W : World} {b1 b2 : Nat} {e1 e2 : TypeId} {s1 s2 : Nat} {v1 v2 : Value} {n1 n2 : Nat} {x1 x2 : List Value} (h1 : W.ownsRow b1 e1 s1 v1 n1 x1) (h2 : W.ownsRow b2 e2 s2 v2 n2 x2) (he : e1 ≠ e2) : v1.ownBlock = none ∨ v1.ownBlock ≠ v2.ownBlock := by
  rcases h1.2 with ⟨rfl, _⟩ | ⟨g, cap, cur, rfl, _, hg, _⟩
  · exact .inl rfl
  · right
    rcases h2.2 with ⟨rfl, _⟩ | ⟨g', cap', cur', rfl, _, hg', _⟩
    · simp [Value.ownBlock]
    · intro e
      obtain rfl : g = g' := by simpa [Value.ownBlock] using e
      rw [hg] at hg'
      cases hg'
      exact he rfl
/-- A box of one cell is not a row of two elements and more. -/
theorem not_box {W : World} {b : Nat} {e t : TypeId} {v u : Value} {k : Nat} {xs : List Value} {B : Nat} (h : W.ownsRow b e 1 v (k + 1) xs) (hb : Boxed W B t u) (hk : 1 ≤ k) : v.ownBlock ≠ some B := by
  rcases h.2 with ⟨_, h0⟩ | ⟨g, cap, cur, rfl, _, hg, hn, _, hs, _⟩
  · omega
  · intro e
    obtain rfl : g = B := by simpa [Value.ownBlock] using e
    rw [show W.heap[g]? = _ from hb] at hg
    cases hg
    simp at hs
    omega

/-- The box F holds the lists that have come; the box Bs the list whose rotations come. -/
structure InvL (w w5 : World) (nF F Bs : Nat) (img : Value) (L0 : List (List Int)) (xs : List Int) (Ds : List Nat) {n : Nat} (pre : List (Rot n)) (W : World) : Prop where
  forms : ∃ fv, Boxed W F 31 fv ∧ Ls W nF fv (L0 ++ rotsK xs pre.length) ∧ fv.ownBlock ≠ some Bs
  img : Boxed W Bs 24 img
  oth : ∀ k, k < nF → k ≠ F → W.heap[k]? = w5.heap[k]?
  bel : Below w.heap.size w W
  len : pre.length ≤ n
  sz : nF ≤ W.heap.size
  dfr : ∀ D ∈ Ds, W.heap[D]? = some (.deferred (some []))
theorem invL_own {w w5 : World} {nF F Bs : Nat} {img : Value} {L0 : List (List Int)} {xs : List Int} {Ds : List Nat} {n : Nat} {B : Nat} (hB : w.heap.size ≤ B) (hF : nF ≤ B) (hDs : ∀ D ∈ Ds, D < B) : OwnFrom B (InvL w w5 nF F Bs img L0 xs Ds (n := n)) := by
  rintro s W W' row ⟨⟨fv, h1, h2, h2'⟩, hi, ho, h3, h4, h5, h6⟩ hg hr
  have hc := fun r e => (hr r e).2
  exact ⟨⟨fv, boxV_from h1 hg hc, h2.from hg hc, h2'⟩, boxV_from hi hg hc, fun k hk hkF => (hg.block k (by omega) (fun e => by have := (hr k e.symm).1; omega)).trans (ho k hk hkF), h3.grown hg h3.size (fun k e => Nat.le_trans hB (hr k e).1), h4, Nat.le_trans h5 hg.size, fun D hD => (hg.block D (Array.getElem?_eq_some_iff.1 (h6 D hD)).1 (fun e => by have := (hr D e.symm).1; have := hDs D hD; omega)).trans (h6 D hD)⟩

theorem invL_step {w w5 W w1 : World} {nF F Bs z b : Nat} {img fv v v' : Value} {L0 : List (List Int)} {xs : List Int} {Ds : List Nat} {n : Nat} {pre : List (Rot n)} {x : Rot n} {vs : List Value}
    (h : InvL w w5 nF F Bs img L0 xs Ds pre W) (hF : w.heap.size ≤ F) (hFn : F < nF) (hb : b < nF) (hbF : b ≠ F) (hBs : Bs < nF ∨ 1 ≤ L0.length) (hBF : Bs ≠ F) (hl : pre.length < n)
    (hx : x.1.1 = pre.length) (hv : OwnI W nF v (rot xs x.1.1)) (h1 : Boxed W F 31 fv) (hrow : W.ownsRow nF 24 1 fv (L0 ++ rotsK xs pre.length).length vs) (hat : ∀ i (h : i < (L0 ++ rotsK xs pre.length).length), ∃ u, vs[i]? = some u ∧ OwnI W nF u (L0 ++ rotsK xs pre.length)[i]) (hfb : fv.ownBlock ≠ some Bs)
    (hown' : w1.ownsRow nF 24 1 v' ((L0 ++ rotsK xs pre.length).length + 1) (vs ++ [v])) (hgrow : (W.alloc (.cells #[v] 24)).grownBy w1 fv.ownBlock) :
    KeepsFrom z W (w1.setCell ⟨F, 0, none⟩ v') ∧ Kr b Bs W (w1.setCell ⟨F, 0, none⟩ v') ∧ InvL w w5 nF F Bs img L0 xs Ds (pre ++ [x]) (w1.setCell ⟨F, 0, none⟩ v') ∧ Boxed w1 F 31 fv := by
  have hn₀ := h.bel.size
  obtain ⟨hv1, hv2, _, hk2, hb2⟩ := h1.appended (n₀ := w.heap.size) (by decide) (own_base hrow (by omega)) hn₀ hF (own_base hown' (by omega)) hgrow
  have hgz := hgrow.size
  simp only [World.size_alloc] at hgz
  have hfv : ∀ k, fv.ownBlock = some k → nF ≤ k := fun k e => (own_row hrow k e).1
  -- a block that is neither the row nor the box F lies as it lay
  have hsame : ∀ k, k < W.heap.size → some k ≠ fv.ownBlock → k ≠ F → (w1.setCell ⟨F, 0, none⟩ v').heap[k]? = W.heap[k]? := fun k hk h1 h2 =>
    (Below.heap_setCell w1 _ _ k h2).trans ((hgrow.block k (by simp; omega) h1).trans (Below.heap_alloc _ _ _ hk))
  -- what is owned in rows of integers stays
  have hints : ∀ (u : Value) (ys : List Int), OwnI W nF u ys → OwnI (w1.setCell ⟨F, 0, none⟩ v') nF u ys := fun u ys ho => by
    have ha : (W.alloc (.cells #[v] 24)).ownsRow nF 2 1 u ys.length (ys.map (Value.int .i64)) := ho.alloc _
    have h2 : w1.ownsRow nF 2 1 u ys.length (ys.map (Value.int .i64)) := ha.kept hgrow (by
      rcases rows_apart ho hrow (by decide) with h | h
      · rcases ho.2 with ⟨rfl, _⟩ | ⟨g, cap, cur, rfl, _⟩
        · exact .inl rfl
        · simp [Value.ownBlock] at h
      · exact .inr h)
    exact h2.kept (grownBy_setCell' w1 F v') (.inr (hv1.not_row (by decide) h2).symm)
  have hBsz := h.img.lt
  have himg1 : Boxed w1 Bs 24 img := (h.img.alloc _).kept hgrow hfb.symm
  have himg2 : Boxed (w1.setCell ⟨F, 0, none⟩ v') Bs 24 img := himg1.kept (grownBy_setCell' w1 F v') (by simpa using hBF)
  refine ⟨hk2.from _, ⟨hk2.size, hsame b (by have := h.sz; omega) (fun e => by have := hfv b e.symm; omega) hbF, ?_⟩, ⟨⟨v', hv2, ⟨vs ++ [v], ?_, fun i hi => ?_⟩, ?_⟩, himg2, fun k hk hkF => ?_, h.bel.trans hb2, by rw [List.length_append]; simp; omega, by have := h.sz; have := hk2.size; omega, fun D hD => ?_⟩, hv1⟩
  · exact (show (w1.setCell ⟨F, 0, none⟩ v').heap[Bs]? = _ from himg2).trans (show W.heap[Bs]? = _ from h.img).symm
  · have hL : (L0 ++ rotsK xs (pre ++ [x]).length).length = (L0 ++ rotsK xs pre.length).length + 1 := by simp [rotsK_len]; omega
    rw [hL]
    exact hown'.kept (grownBy_setCell' w1 F v') (.inr (hv1.not_row (by decide) hown').symm)
  · have hlen : vs.length = (L0 ++ rotsK xs pre.length).length := by have := hrow.1; omega
    have e : L0 ++ rotsK xs (pre ++ [x]).length = (L0 ++ rotsK xs pre.length) ++ [rot xs x.1.1] := by
      rw [List.length_append, show [x].length = 1 from rfl, rotsK_succ, List.append_assoc, hx]
    rw [e] at hi
    simp only [e]
    rcases Nat.lt_or_ge i (L0 ++ rotsK xs pre.length).length with hlt | hge
    · obtain ⟨u, hu, ho⟩ := hat i hlt
      refine ⟨u, by rw [List.getElem?_append_left (by omega)]; exact hu, ?_⟩
      rw [List.getElem_append_left hlt]
      exact hints u _ ho
    · have hie : i = (L0 ++ rotsK xs pre.length).length := by rw [List.length_append, show [rot xs x.1.1].length = 1 from rfl] at hi; omega
      subst hie
      refine ⟨v, by rw [List.getElem?_append_right (by omega), hlen]; simp, ?_⟩
      rw [List.getElem_append_right (Nat.le_refl _)]
      simp only [Nat.sub_self, List.getElem_cons_zero]
      exact hints v _ hv
  · rcases hBs with hB | hB
    · intro e
      have := (own_row hown' Bs e).1
      omega
    · exact not_box hown' himg1 (by rw [List.length_append]; omega)
  · exact (hsame k (by have := h.sz; omega) (fun e => by have := hfv k e.symm; omega) hkF).trans (h.oth k hk hkF)
  · have hd := h.dfr D hD
    refine (hsame D (Array.getElem?_eq_some_iff.1 hd).1 (fun e => ?_) (fun e => ?_)).trans hd
    · rcases hrow.2 with ⟨rfl, _⟩ | ⟨g, cap, cur, rfl, _, hg, _⟩
      · simp [Value.ownBlock] at e
      · obtain rfl : D = g := by simpa [Value.ownBlock] using e
        rw [hd] at hg
        cases hg
    · subst e
      rw [show W.heap[D]? = _ from h1] at hd
      cases hd


set_option maxRecDepth 100000 in
set_option maxHeartbeats 8000000 in
theorem iCS_yes (b o c n : Nat) (xs : List Int) (w : World) (hx : xs.length = n) (hp : 0 < n) (hc : n ≤ c) (hb : b < w.heap.size) (hcs : Cells w b o xs) (hv : Vs xs) (hl : n ≤ 16)
    (HD : Hid (Calls Try.prog 15 #[.slice (some ⟨b, o, none⟩) n c] w (RetP (Vs xs) w)))
    (HM : Hid (∀ W, Below w.heap.size w W → Calls Try.prog 36 #[.slice (some ⟨b, o, none⟩) n c] W (RetO xs.reverse W))) :
    Calls Try.prog 12 #[.slice (some ⟨b, o, none⟩) n c] w fun e w' => ∃ u m, e = .returned u ∧ IsMin n (rotsK xs n ++ rotsK xs.reverse n) m ∧ OwnI w' w.heap.size u m ∧ Below w.heap.size w w' := by
  have HC := Lib.hid hcs
  have HX := Lib.hid hx
  have HV := Lib.hid hv
  clear hcs hv hx
  refine (callsIn_wide (n := 5)).1 ?_
  refine callsIn_of_wp_marks Try.func12 rfl trivial ?_ rfl
  simp only [Try.ntmps12, List.size_toArray, List.length_cons, List.length_nil, Nat.reduceAdd, Nat.reduceSub, Array.replicate_succ, Array.replicate_zero, List.push_toArray, List.append_toArray, List.nil_append, List.cons_append]
  gi_wp2_with fail
  refine ⟨trivial, ?_⟩
  refine (callsIn_wide.2 HD.out).mono ?_
  rintro e w2 ⟨r', rfl, hr', rfl⟩
  obtain rfl : r' = true := by rw [hr']; exact HV.out
  clear hr'
  gi_wp2_with fail
  refine ⟨trivial, ?_⟩
  refine (callsIn_wide.2 (HM.out _ (by (repeat (first | with_reducible exact Below.refl _ _ | with_reducible assumption | with_reducible refine below_drewN ?_ _ | with_reducible refine Below.drew ?_ | with_reducible refine Below.alloc ?_ (by first | omega | (simp; done) | (simp; omega)) _ | with_reducible refine Below.setCell ?_ (by first | omega | (simp; done) | (simp; omega)) _ | with_reducible refine Below.trans ?_ (Below.mono (by assumption) (by first | omega | (simp; done) | (simp; omega)))))))).mono ?_
  rintro e w3 ⟨mv, rfl, om, bm⟩
  have hxr : xs.reverse.length = n := by rw [List.length_reverse, HX.out]
  obtain ⟨b2, o2, c2, rfl, hc2, hb2, C2⟩ := sl_at om.sl hxr hp
  have hbm2 : w.heap.size + 1 ≤ b2 := by have := (own_row om b2 rfl).1; simpa using this
  have HC2 := Lib.hid C2
  have HXR := Lib.hid hxr
  have sm := bm.size
  simp only [World.size_alloc] at sm
  clear om C2 hxr
  gi_wp2_with fail
  refine wpIn_loop_rounds 3 ?_
  rw [roundsIn_succ]
  gi_wp2_with fail
  refine ⟨trivial, ?_⟩
  refine (rots_in _ _ _ _ _).mono ?_
  rintro e w' ⟨rfl, rfl⟩
  have bF0 := Boxed.new w 31 (.slice none 0 0)
  have bF3 : Boxed w3 w.heap.size 31 (.slice none 0 0) := (bm.block w.heap.size (by simp)).trans bF0
  have bL := Boxed.new (w3.alloc (.cells #[.slice (some ⟨b, o, none⟩) n c, .slice (some ⟨b2, o2, none⟩) n c2] 24)) 24 (.slice (some ⟨b, o, none⟩) n c)
  have kG : ((w3.alloc (.cells #[.slice (some ⟨b, o, none⟩) n c, .slice (some ⟨b2, o2, none⟩) n c2] 24)).alloc (.cells #[.slice (some ⟨b, o, none⟩) n c] 24)).heap[w3.heap.size]? = some (.cells #[.slice (some ⟨b, o, none⟩) n c, .slice (some ⟨b2, o2, none⟩) n c2] 24 (0, 0)) := (Below.heap_alloc _ _ _ (by simp)).trans (World.alloc_heap_new _ _)
  simp only [World.size_alloc] at bL ⊢
  have w5b : Below w3.heap.size w3 ((w3.alloc (.cells #[.slice (some ⟨b, o, none⟩) n c, .slice (some ⟨b2, o2, none⟩) n c2] 24)).alloc (.cells #[.slice (some ⟨b, o, none⟩) n c] 24)) := ((Below.refl _ _).alloc (Nat.le_refl _) _).alloc (by simp) _
  have z5 : ((w3.alloc (.cells #[.slice (some ⟨b, o, none⟩) n c, .slice (some ⟨b2, o2, none⟩) n c2] 24)).alloc (.cells #[.slice (some ⟨b, o, none⟩) n c] 24)).heap.size = w3.heap.size + 1 + 1 := by simp
  gi_wp2_with fail
  revert bL kG w5b z5
  generalize (w3.alloc (.cells #[.slice (some ⟨b, o, none⟩) n c, .slice (some ⟨b2, o2, none⟩) n c2] 24)).alloc (.cells #[.slice (some ⟨b, o, none⟩) n c] 24) = w5
  intro kG bL w5b z5
  have bF5 : Boxed w5 w.heap.size 31 (.slice none 0 0) := (w5b.block w.heap.size (by omega)).trans bF3
  have B3 : Below w.heap.size w w3 := ((Below.refl _ w).alloc (Nat.le_refl _) _).trans (bm.mono (by simp))
  have B5 : Below w.heap.size w w5 := B3.trans (w5b.mono (by omega))
  have I5 : InvL w w5 (w3.heap.size + 1 + 1) w.heap.size (w3.heap.size + 1) (.slice (some ⟨b, o, none⟩) n c) ([]) (xs) ([]) (n := n) [] w5 :=
    ⟨⟨_, bF5, ⟨[], World.ownsRow_nil _ _ _ _, fun i hi => absurd hi (by simp [rotsK])⟩, by simp [Value.ownBlock]⟩, bL, fun _ _ _ => rfl, B5, by simp, by omega, fun D hD => absurd hD (by simp)⟩
  have C5 := Lib.hid (cells_below HC.out B5 hb)
  have C25 := Lib.hid (cells_below HC2.out w5b hb2)
  have KG := Lib.hid kG
  clear bF0 bF3 bF5 bL kG
  refine wpIn_rangeFunc_made (F := Fence.wide) rfl (by decide) (gf := 58) (lb := #[.pointer (some ⟨w3.heap.size + 1, 0, none⟩)]) rfl trivial (enters_of Try.func58 (by kernel_rfl) rfl)
    (rots_made _ (w3.heap.size + 1) (w3.heap.size + 1 + 1) b o n c (xs) HX.out (by omega) hc w5 (by omega) (by omega) (by omega) I5.img.cell C5.out) kr_t (kr_b (by omega) (by omega)) (Below.refl _ _) (fun _ => rfl)
    (InvL w w5 (w3.heap.size + 1 + 1) w.heap.size (w3.heap.size + 1) (.slice (some ⟨b, o, none⟩) n c) ([]) (xs) ([])) (fun _ _ _ => False) (invL_own (by omega) (by omega) (fun D hD => absurd hD (by simp))) (fun _ _ _ _ _ hs _ _ => hs) (fun pre x => yr_own pre x) I5
    (fun x => { tmps := #[.slice (some ⟨b, o, none⟩) n c, undef, .slice none 0 0, .pointer (some ⟨w.heap.size, 0, none⟩), undef, .slice (some ⟨b, o, none⟩) n c, undef, x.2, .slice (some ⟨b, o, none⟩) n c, .bool true, .bool false, .slice (some ⟨b, o, none⟩) n c, .slice (some ⟨b, o, none⟩) n c, .slice (some ⟨b2, o2, none⟩) n c2, .slice (some ⟨w3.heap.size, 0, none⟩) 2 2, .int .i64 2, .int .i64 0, .bool true, .pointer (some ⟨w3.heap.size, 0, none⟩), .slice (some ⟨b, o, none⟩) n c, .slice (some ⟨b, o, none⟩) n c, .func (.func 58) #[] #[.pointer (some ⟨w3.heap.size + 1, 0, none⟩)], .int .i64 (x.1.1 : Int), x.2, undef, undef, undef, undef, undef, undef, undef], defers := [] }) ?assign ?body ?done ?stop
  case assign =>
    intro l x W K hK
    simp only [rtE]
    gi_wp2
    exact hK
  case stop =>
    rintro D c pre W _ _ h _
    exact h.elim
  case body =>
    rintro l pre ⟨⟨j, hj⟩, v⟩ W hI ⟨hjl, hown⟩
    simp only at hjl hown
    have hrl : (rot (xs) j).length = n := by rw [rot_len _ (by rw [HX.out]; omega), HX.out]
    have hown' : W.ownsRow (w3.heap.size + 1 + 1) 2 1 v (n - 1 + 1) ((rot (xs) j).map (Value.int .i64)) := by
      unfold OwnI at hown
      rw [hrl] at hown
      rw [show n - 1 + 1 = n by omega]
      exact hown
    obtain ⟨g, cap, rfl⟩ := ownsRow_succ hown'
    have hIl := hI.len
    obtain ⟨fv, hbf, ⟨vs, hrow, hat⟩, hfb⟩ := hI.forms
    have hcf := hbf.cell
    have hzs := hI.sz
    have hlen : ([] ++ rotsK (xs) pre.length).length ≤ 32 := by simp [rotsK_len]; omega
    have HST := Lib.hid (fun (w1 : World) (v' : Value) h1 h2 => invL_step (z := w3.heap.size + 1 + 1) (b := b) (x := (⟨j, hj⟩, .slice (some ⟨g, 0, none⟩) (n - 1 + 1) cap)) (w1 := w1) (v' := v') hI (Nat.le_refl _) (by omega) (by omega) (by omega) (.inl (by omega)) (by omega) (by omega) hjl hown hbf hrow hat hfb h1 h2)
    obtain ⟨q, hq⟩ : ∃ q, ([] ++ rotsK (xs) pre.length).length = q := ⟨_, rfl⟩
    rw [hq] at hrow HST hlen
    clear hI hat hown hown' hjl hfb hq
    obtain ⟨i0, hi, hz0, hz1, hz2⟩ := info_parts infoSl
    gi_wp2_with (gi_at_builtin; refine wpListIn_append_own _ rfl _ _ 31 rfl (w3.heap.size + 1 + 1) 24 i0 (.slice none 0 0) 1 24 Try.underlying31 hi hz0 hz1 hz2 rfl (by decide) _ _ _ rfl (hrow.alloc _) ⟨W.heap.size, 0, none⟩ 1 1 [.slice (some ⟨g, 0, none⟩) (n - 1 + 1) cap] rfl rfl (cell_one_new _ _ _) (by simp [Value.oneCell']) (by unfold maxLen; omega) (by omega) (by simp; omega) ?_; intro v' w1 hown' hgrow _; obtain ⟨g', cap', rfl⟩ := ownsRow_succ hown'; have hS := HST.out w1 _ hown' hgrow; have hc1 := hS.2.2.2.cell; have hf1 := hS.2.2.2.frozen; replace hS := Lib.hid hS)
    exact ⟨hS.out.1, hS.out.2.1, hS.out.2.2.1⟩
  case done =>
    rintro D1 ys W1 hD1 hy1 I1 hK1
    have c1 : W1.cell? ⟨w3.heap.size, 1, none⟩ = some (.slice (some ⟨b2, o2, none⟩) n c2) := by
      have h : W1.heap[w3.heap.size]? = _ := (I1.oth w3.heap.size (by omega) (by omega)).trans KG.out
      simp [World.cell?, h]
    have z1 := I1.sz
    have C6 := Lib.hid (cells_kept C25.out (I1.oth b2 (by omega) (by omega)))
    have HK1 := Lib.hid hK1
    have HI1 := Lib.hid I1
    have HY1 := Lib.hid hy1
    clear hK1 I1 hy1
    gi_wp2_with fail
    rw [roundsIn_succ]
    gi_wp2_with fail
    refine ⟨trivial, ?_⟩
    refine (rots_in _ _ _ _ _).mono ?_
    rintro e w' ⟨rfl, rfl⟩
    gi_wp2_with fail
    have bL6 := Boxed.new W1 24 (.slice (some ⟨b2, o2, none⟩) n c2)
    have z6 : (W1.alloc (.cells #[.slice (some ⟨b2, o2, none⟩) n c2] 24)).heap.size = W1.heap.size + 1 := by simp
    have g6 := World.grownBy_alloc W1 (.cells #[.slice (some ⟨b2, o2, none⟩) n c2] 24) none
    revert bL6 z6 g6
    generalize W1.alloc (.cells #[.slice (some ⟨b2, o2, none⟩) n c2] 24) = w6
    intro bL6 z6 g6
    have hnr : ∀ r, (none : Option Nat) = some r → ∃ o : Obj, W1.heap[r]? = some o ∧ o.isCells = false := fun r e => by cases e
    have I6 : InvL w w5 (w3.heap.size + 1 + 1) w.heap.size W1.heap.size (.slice (some ⟨b2, o2, none⟩) n c2) (rotsK xs n) (xs.reverse) [D1] (n := n) [] w6 := by
      obtain ⟨fv, h1, h2, h3⟩ := HI1.out.forms
      refine ⟨⟨fv, h1.kept g6 (by simp), ?_, ?_⟩, bL6, fun k hk hkF => (g6.block k (by omega) (by simp)).trans (HI1.out.oth k hk hkF), HI1.out.bel.grown g6 HI1.out.bel.size (fun k e => by cases e), by simp, by omega, fun D hD => ?_⟩
      · have := h2.from g6 hnr
        rw [HY1.out] at this
        simpa [rotsK] using this
      · intro e
        obtain ⟨vs, hr, _⟩ := h2
        have := (own_row hr _ e).2
        omega
      · obtain rfl : D = D1 := by simpa using hD
        exact (g6.block D (Array.getElem?_eq_some_iff.1 HK1.out).1 (by simp)).trans HK1.out
    have HD1 := Lib.hid (Array.getElem?_eq_some_iff.1 HK1.out).1
    replace C6 := Lib.hid (cells_kept C6.out (g6.block b2 (by omega) (by simp)))
    clear bL6 g6 hnr
    refine wpIn_rangeFunc_made (F := Fence.wide) rfl (by decide) (gf := 58) (lb := #[.pointer (some ⟨W1.heap.size, 0, none⟩)]) rfl trivial (enters_of Try.func58 (by kernel_rfl) rfl)
      (rots_made _ (W1.heap.size) (w3.heap.size + 1 + 1) b2 o2 n c2 (xs.reverse) HXR.out (by omega) hc2 w6 (by omega) (by omega) (by omega) I6.img.cell C6.out) kr_t (kr_b (by omega) (by omega)) (Below.refl _ _) (fun _ => rfl)
      (InvL w w5 (w3.heap.size + 1 + 1) w.heap.size (W1.heap.size) (.slice (some ⟨b2, o2, none⟩) n c2) (rotsK xs n) (xs.reverse) ([D1])) (fun _ _ _ => False) (invL_own (by omega) (by omega) (fun D hD => by simp at hD; have := HD1.out; omega)) (fun _ _ _ _ _ hs _ _ => hs) (fun pre x => yr_own pre x) I6
      (fun x => { tmps := #[.slice (some ⟨b, o, none⟩) n c, undef, .slice none 0 0, .pointer (some ⟨w.heap.size, 0, none⟩), undef, .slice (some ⟨b2, o2, none⟩) n c2, undef, x.2, .slice (some ⟨b, o, none⟩) n c, .bool true, .bool false, .slice (some ⟨b, o, none⟩) n c, .slice (some ⟨b, o, none⟩) n c, .slice (some ⟨b2, o2, none⟩) n c2, .slice (some ⟨w3.heap.size, 0, none⟩) 2 2, .int .i64 2, .int .i64 1, .bool true, .pointer (some ⟨w3.heap.size, 1, none⟩), .slice (some ⟨b2, o2, none⟩) n c2, .slice (some ⟨b2, o2, none⟩) n c2, .func (.func 58) #[] #[.pointer (some ⟨W1.heap.size, 0, none⟩)], .int .i64 (x.1.1 : Int), x.2, undef, undef, undef, undef, .int .i64 1, undef, undef], defers := [] }) ?assign ?body ?done ?stop
    case assign =>
      intro l x W K hK
      simp only [rtE]
      gi_wp2
      exact hK
    case stop =>
      rintro D c pre W _ _ h _
      exact h.elim
    case body =>
      rintro l pre ⟨⟨j, hj⟩, v⟩ W hI ⟨hjl, hown⟩
      simp only at hjl hown
      have hrl : (rot (xs.reverse) j).length = n := by rw [rot_len _ (by rw [HXR.out]; omega), HXR.out]
      have hown' : W.ownsRow (w3.heap.size + 1 + 1) 2 1 v (n - 1 + 1) ((rot (xs.reverse) j).map (Value.int .i64)) := by
        unfold OwnI at hown
        rw [hrl] at hown
        rw [show n - 1 + 1 = n by omega]
        exact hown
      obtain ⟨g, cap, rfl⟩ := ownsRow_succ hown'
      have hIl := hI.len
      obtain ⟨fv, hbf, ⟨vs, hrow, hat⟩, hfb⟩ := hI.forms
      have hcf := hbf.cell
      have hzs := hI.sz
      have hlen : (rotsK xs n ++ rotsK (xs.reverse) pre.length).length ≤ 32 := by simp [rotsK_len]; omega
      have HST := Lib.hid (fun (w1 : World) (v' : Value) h1 h2 => invL_step (z := W1.heap.size + 1) (b := b2) (x := (⟨j, hj⟩, .slice (some ⟨g, 0, none⟩) (n - 1 + 1) cap)) (w1 := w1) (v' := v') hI (Nat.le_refl _) (by omega) (by omega) (by omega) (.inr (by rw [rotsK_len]; omega)) (by omega) (by omega) hjl hown hbf hrow hat hfb h1 h2)
      obtain ⟨q, hq⟩ : ∃ q, (rotsK xs n ++ rotsK (xs.reverse) pre.length).length = q := ⟨_, rfl⟩
      rw [hq] at hrow HST hlen
      clear hI hat hown hown' hjl hfb hq
      obtain ⟨i0, hi, hz0, hz1, hz2⟩ := info_parts infoSl
      gi_wp2_with (gi_at_builtin; refine wpListIn_append_own _ rfl _ _ 31 rfl (w3.heap.size + 1 + 1) 24 i0 (.slice none 0 0) 1 24 Try.underlying31 hi hz0 hz1 hz2 rfl (by decide) _ _ _ rfl (hrow.alloc _) ⟨W.heap.size, 0, none⟩ 1 1 [.slice (some ⟨g, 0, none⟩) (n - 1 + 1) cap] rfl rfl (cell_one_new _ _ _) (by simp [Value.oneCell']) (by unfold maxLen; omega) (by omega) (by simp; omega) ?_; intro v' w1 hown' hgrow _; obtain ⟨g', cap', rfl⟩ := ownsRow_succ hown'; have hS := HST.out w1 _ hown' hgrow; have hc1 := hS.2.2.2.cell; have hf1 := hS.2.2.2.frozen; replace hS := Lib.hid hS)
      exact ⟨hS.out.1, hS.out.2.1, hS.out.2.2.1⟩
    case done =>
      rintro D2 zs W2 hD2 hy2 I2 hK2
      obtain ⟨fv, hbf, hls, hfb⟩ := I2.forms
      rw [hy2] at hls
      have hcf := hbf.cell
      have HMF := Lib.hid (minF_any n fv (rotsK xs n ++ rotsK xs.reverse n) (w3.heap.size + 1 + 1) hp (by omega) (by rw [List.length_append, rotsK_len]; omega) (by rw [List.length_append, rotsK_len, rotsK_len]; omega)
        (fun x hx => by
          rcases List.mem_append.1 hx with h | h
          · obtain ⟨j, hj, rfl⟩ := rotsK_mem.1 h
            rw [rot_len _ (by rw [HX.out]; omega), HX.out]
          · obtain ⟨j, hj, rfl⟩ := rotsK_mem.1 h
            rw [rot_len _ (by rw [HXR.out]; omega), HXR.out]) W2 hls)
      have HK2 := Lib.hid hK2
      have HI2 := Lib.hid I2
      have hD12 : D1 ≠ D2 := by have := HD1.out; omega
      clear hK2 I2 hy2 hls hfb hbf
      gi_wp2_with fail
      rw [roundsIn_succ]
      gi_wp2_with fail
      refine ⟨trivial, ?_⟩
      refine (callsIn_wide.2 HMF.out).mono ?_
      rintro e W3 ⟨u, m, rfl, hmin, hown, hw⟩
      subst hw
      have HMIN := Lib.hid hmin
      have HOWN := Lib.hid hown
      clear hmin hown
      gi_wp2_with fail
      have hk1 := HI2.out.dfr D1 (by simp)
      have hk1' : (W3.putObj D2 (.deferred none)).heap[D1]? = some (.deferred (some [])) := (World.putObj_heap_other hD12).trans hk1
      refine ⟨by simp, .inl ⟨_, _, rfl, run_takeDeferred HK2.out, by simp, .inl ⟨_, _, rfl, run_takeDeferred hk1', ?_⟩⟩⟩
      refine ⟨u, by simp [results, Try.results12, go_sem], u, m, rfl, HMIN.out, ?_, ?_⟩
      · have h3 := ownV_from HOWN.out (grownBy_putObj' W3 D2 (.deferred none)) (fun r e => by cases e; exact ⟨_, HK2.out, rfl⟩)
        have h4 := ownV_from h3 (grownBy_putObj' _ D1 (.deferred none)) (fun r e => by cases e; exact ⟨_, hk1', rfl⟩)
        exact own_base h4 (by omega)
      · exact (HI2.out.bel.trans (belowK_b (w := w) (Nat.le_refl _) W3 D2 _ _ (by omega) HK2.out rfl rfl)).trans (belowK_b (w := w) (Nat.le_refl _) _ D1 _ _ (by omega) hk1' rfl rfl)
end Go.Proofs.Ytnhobilmgefhnaa
