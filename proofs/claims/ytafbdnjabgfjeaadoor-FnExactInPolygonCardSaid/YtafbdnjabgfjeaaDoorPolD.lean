/- On which side of all sides of a polygon a point is: the loops, by the program and by the model. -/
import Derived.Test.YtafbdnjabgfjeaaDoorPj
import Derived.Test.YtafbdnjabgfjeaaDoorPolB
section
namespace Go.Proofs.YtafbdnjabgfjeaaDoor
open Go Go.RowKit OriM
namespace Pol
variable {β : Bool}

theorem dots_sub (d : Nat) (p q : P4) : dotA d (p.sub q) = dotA d p - dotA d q ∧ dotB d (p.sub q) = dotB d p - dotB d q := by
  unfold dotA dotB P4.sub
  simp only
  constructor <;> grind
/-- The direction of side k as a natural number; what its line is. -/
noncomputable def dN (n : Nat) (fs : List Int) (k : Nat) : Nat := (dAt n fs k).toNat
noncomputable def lnA (n : Nat) (fs : List Int) (k : Nat) : Int := dotA ((dN n fs k + 4) % 16) (gAt fs k)
noncomputable def lnB (n : Nat) (fs : List Int) (k : Nat) : Int := dotB ((dN n fs k + 4) % 16) (gAt fs k)
noncomputable def lc (n : Nat) (fs : List Int) (m : Nat) : Int :=
  if m % 4 = 0 then dAt n fs (m / 4) else if m % 4 = 1 then gA (lnA n fs (m / 4)) (lnB n fs (m / 4)) else if m % 4 = 2 then gB (lnA n fs (m / 4)) (lnB n fs (m / 4)) else (gK (lnA n fs (m / 4)) (lnB n fs (m / 4)) : Int)
theorem lc0 (n : Nat) (fs : List Int) (k : Nat) : lc n fs (k * 4) = dAt n fs k := by
  unfold lc; rw [if_pos (by omega), show k * 4 / 4 = k by omega]
theorem lc1 (n : Nat) (fs : List Int) (k : Nat) : lc n fs (k * 4 + 1) = gA (lnA n fs k) (lnB n fs k) := by
  unfold lc; rw [if_neg (by omega), if_pos (by omega), show (k * 4 + 1) / 4 = k by omega]
theorem lc2 (n : Nat) (fs : List Int) (k : Nat) : lc n fs (k * 4 + 2) = gB (lnA n fs k) (lnB n fs k) := by
  unfold lc; rw [if_neg (by omega), if_neg (by omega), if_pos (by omega), show (k * 4 + 2) / 4 = k by omega]
theorem lc3 (n : Nat) (fs : List Int) (k : Nat) : lc n fs (k * 4 + 3) = (gK (lnA n fs k) (lnB n fs k) : Int) := by
  unfold lc; rw [if_neg (by omega), if_neg (by omega), if_neg (by omega), show (k * 4 + 3) / 4 = k by omega]
noncomputable abbrev lcV (n : Nat) (fs : List Int) (k : Nat) : Value := lnv (lc n fs (k * 4)) (lc n fs (k * 4 + 1)) (lc n fs (k * 4 + 2)) (lc n fs (k * 4 + 3))
theorem dN_lt (n : Nat) (fs : List Int) (k : Nat) : dN n fs k < 16 := by
  have := dAt_range n fs k
  unfold dN; omega
theorem dN_eq {n : Nat} {fs : List Int} {k : Nat} (h0 : 0 ≤ dAt n fs k) : ((dN n fs k : Nat) : Int) = dAt n fs k := by unfold dN; omega
theorem lcV_gl {n : Nat} {fs : List Int} {k : Nat} (h0 : 0 ≤ dAt n fs k) : lcV n fs k = gl (dN n fs k : Nat) (lnA n fs k) (lnB n fs k) := by
  unfold lcV gl
  rw [lc0, lc1, lc2, lc3, dN_eq h0]

theorem dla_at {n : Nat} {fs : List Int} {k : Nat} (hv : vAt fs k = true) (h0 : 0 ≤ dAt n fs k) (w : World) (hT : LT true w) :
    Calls Tryd.prog 60 #[ptV fs k, .int .i64 (dAt n fs k)] w (RetB (lcV n fs k) w) := by
  obtain ⟨b, m⟩ := valid_bp hv
  have c := dlineAt_g (d := dN n fs k) (by have := dN_lt n fs k; omega) (bd_mono b (by decide)) w hT
  rw [← valid_gp hv, Nat.mod_eq_of_lt (dN_lt n fs k)] at c
  rw [lcV_gl h0, ← dN_eq h0]
  exact c

/-- On which side of side k the point p is. -/
noncomputable def sdv (n : Nat) (fs : List Int) (k : Nat) (p : P4) : Int := Q.sgn2 (dotA ((dN n fs k + 4) % 16) p - lnA n fs k) (dotB ((dN n fs k + 4) % 16) p - lnB n fs k)
theorem sdv_facts {n : Nat} {fs : List Int} {k : Nat} (hv : vAt fs k = true) {p : P4} (hb : Bd 8589934592 p) (hm : M64 p) :
    (dotA ((dN n fs k + 4) % 16) p - lnA n fs k) % 64 = 0 ∧ (dotB ((dN n fs k + 4) % 16) p - lnB n fs k) % 64 = 0 ∧ Bd2 68719476736 (dotA ((dN n fs k + 4) % 16) p - lnA n fs k) (dotB ((dN n fs k + 4) % 16) p - lnB n fs k) := by
  obtain ⟨b, m⟩ := valid_bp hv
  have hd : (dN n fs k + 4) % 16 < 16 := Nat.mod_lt _ (by decide)
  have m1 := dot_m64 hd hm
  have b1 := dot_bd hd hb
  have m2 : lnA n fs k % 64 = 0 ∧ lnB n fs k % 64 = 0 := dot_m64 hd m
  have b2 : Bd2 (4 * 8589934592) (lnA n fs k) (lnB n fs k) := dot_bd hd b
  unfold Bd2 at *; omega
theorem isd_at {n : Nat} {fs : List Int} {k : Nat} (hv : vAt fs k = true) (h0 : 0 ≤ dAt n fs k) {a b c d e f : Int} (hp : vP a b c d e f = true) (w : World) (hT : LT true w) :
    Calls Tryd.prog 78 #[lcV n fs k, pt a b c d e f] w (RetB (.int .i64 (sdv n fs k (gP a b c d e f))) w) := by
  obtain ⟨hb, hm⟩ := valid_bp hp
  obtain ⟨f1, f2, f3⟩ := sdv_facts (n := n) hv hb hm
  have b2 : Bd2 (4 * 8589934592) (lnA n fs k) (lnB n fs k) := dot_bd (Nat.mod_lt _ (by decide)) (valid_bp hv).1
  rw [valid_gp hp, lcV_gl h0]
  have HH := fun w (hT : LT true w) => height_g (d := dN n fs k) (dN_lt n fs k) (bd2_mono b2 (by decide)) (bd_mono hb (by decide)) w hT
  exact side_core _ _ _ _ _ _ _ _ _ _ _ _ _ _ w hT (Lib.hid HH) (Lib.hid fun w _ => sign_g f1 f2 f3 w)
theorem msd_at {n : Nat} {fs : List Int} {k : Nat} (hv : vAt fs k = true) (h0 : 0 ≤ dAt n fs k) {a b c d e f : Int} (hp : vP a b c d e f = true) : ∃ z0 z1 z2 z3 z4 z5 y0 y1 y2 : Int,
    (∀ w, LT β w → Calls Tryd.prog 73 #[pt a b c d e f, ptV fs k] w (RetB (pt z0 z1 z2 z3 z4 z5) w)) ∧
    (∀ w, LT β w → Calls Tryd.prog 127 #[.int .i64 (dAt n fs k + 4), pt z0 z1 z2 z3 z4 z5] w (RetB (num y0 y1 y2) w)) ∧
    (∀ w, LT β w → Calls Tryd.prog 125 #[num y0 y1 y2] w (RetB (.int .i64 (sdv n fs k (gP a b c d e f))) w)) := by
  obtain ⟨b1, m1⟩ := valid_bp hv
  obtain ⟨b2, m2⟩ := valid_bp hp
  obtain ⟨f1, f2, f3⟩ := sdv_facts (n := n) hv b2 m2
  have hD : Bd 17179869184 ((gP a b c d e f).sub (gAt fs k)) := by unfold Bd P4.sub gAt at *; simp only; omega
  have SM := fun w (hT : LT β w) => sMinus_g (bd_mono b2 (by decide)) (bd_mono b1 (by decide)) w hT
  rw [← valid_gp hp, ← valid_gp hv] at SM
  have SD := fun w (hT : LT β w) => sDot_g (d := dN n fs k + 4) (by have := dN_lt n fs k; omega) (bd_mono hD (by decide)) w hT
  rw [show ((dN n fs k + 4 : Nat) : Int) = dAt n fs k + 4 by rw [← dN_eq h0]; rfl, (dots_sub _ _ _).1, (dots_sub _ _ _).2] at SD
  exact ⟨_, _, _, _, _, _, _, _, _, SM, SD, fun w _ => sSign_g f1 f2 f3 w⟩

/-- The least side so far. -/
noncomputable def mnS (n : Nat) (fs : List Int) (p : P4) : Nat → Int
  | 0 => 1
  | k + 1 => if sdv n fs k p < mnS n fs p k then sdv n fs k p else mnS n fs p k
theorem mnS_min (n : Nat) (fs : List Int) (p : P4) (k : Nat) : mnS n fs p (k + 1) = min (mnS n fs p k) (sdv n fs k p) := by
  show (if sdv n fs k p < mnS n fs p k then sdv n fs k p else mnS n fs p k) = _
  split <;> omega
theorem sdv_range (n : Nat) (fs : List Int) (k : Nat) (p : P4) : -1 ≤ sdv n fs k p ∧ sdv n fs k p ≤ 1 := by
  have := sgn2_range (dotA ((dN n fs k + 4) % 16) p - lnA n fs k) (dotB ((dN n fs k + 4) % 16) p - lnB n fs k)
  unfold sdv; omega
theorem mnS_range (n : Nat) (fs : List Int) (p : P4) : ∀ k, -1 ≤ mnS n fs p k ∧ mnS n fs p k ≤ 1
  | 0 => by show -1 ≤ (1 : Int) ∧ (1 : Int) ≤ 1; omega
  | k + 1 => by
    have := mnS_range n fs p k
    have := sdv_range n fs k p
    rw [mnS_min]; omega
end Pol
end Go.Proofs.YtafbdnjabgfjeaaDoor
end
section
namespace Go.Proofs.YtafbdnjabgfjeaaDoor
open Go Go.RowKit OriM
namespace Pol
variable {β : Bool}

theorem infoDL : (Tryd.prog.info? 90).map (fun i => (i.zero, i.size, i.bytes)) = some (some (lnv 0 0 0 0), 4, 32) := by kernel_rfl
/-- A slice of directed lines of the call's own. -/
def OwnD (w : World) (base : Nat) (v : Value) (n : Nat) (xs : List Int) : Prop := w.ownsRow base 90 4 v n (xs.map (Value.int .i64))
theorem zeros_madeD : ∀ n : Nat, (madeCells (lnv 0 0 0 0).cells (n * 4)).toList = (List.replicate (n * 4) (0 : Int)).map (Value.int .i64) := by
  intro n
  apply List.ext_getElem
  · simp [madeCells]
  · intro k h1 h2
    have hk : k % 4 < 4 := Nat.mod_lt _ (by decide)
    simp only [madeCells, Value.cells, List.getElem_map, List.getElem_replicate]
    rcases (show k % 4 = 0 ∨ k % 4 = 1 ∨ k % 4 = 2 ∨ k % 4 = 3 by omega) with h | h | h | h <;> simp [h]
theorem startD {w w1 : World} {n : Nat} (d : Nat → Int) (h : w1.ownsRow w.heap.size 90 4 (.slice (some ⟨w.heap.size, 0, none⟩) n n) n (madeCells (lnv 0 0 0 0).cells (n * 4)).toList) :
    OwnD w1 w.heap.size (.slice (some ⟨w.heap.size, 0, none⟩) n n) n (tabZ d 0 (n * 4)) := by
  unfold OwnD
  rw [tabZ_zero, ← zeros_madeD]
  exact h
theorem stepD1 {w1 : World} {g n c base j : Nat} {x : Int} {d : Nat → Int} (hj : j < n * 4) (hx : x = d j) (h : OwnD w1 base (.slice (some ⟨g, 0, none⟩) n c) n (tabZ d j (n * 4))) :
    OwnD (w1.setCell ⟨g, j, none⟩ (.int .i64 x)) base (.slice (some ⟨g, 0, none⟩) n c) n (tabZ d (j + 1) (n * 4)) := by
  subst hx
  have := (h.stored j (.int .i64 (d j))).1
  rw [← List.map_set, tabZ_set hj] at this
  exact this
theorem stepD4 {w1 : World} {g n c base k : Nat} {d : Nat → Int} (hk : k < n) (h : OwnD w1 base (.slice (some ⟨g, 0, none⟩) n c) n (tabZ d (k * 4) (n * 4))) :
    OwnD ((((w1.setCell ⟨g, k * 4, none⟩ (.int .i64 (d (k * 4)))).setCell ⟨g, k * 4 + 1, none⟩ (.int .i64 (d (k * 4 + 1)))).setCell ⟨g, k * 4 + 2, none⟩ (.int .i64 (d (k * 4 + 2)))).setCell ⟨g, k * 4 + 3, none⟩ (.int .i64 (d (k * 4 + 3)))) base (.slice (some ⟨g, 0, none⟩) n c) n (tabZ d ((k + 1) * 4) (n * 4)) := by
  rw [show (k + 1) * 4 = k * 4 + 1 + 1 + 1 + 1 by omega]
  exact stepD1 (by omega) rfl (stepD1 (by omega) rfl (stepD1 (by omega) rfl (stepD1 (by omega) rfl h)))
theorem ownD_cell {w : World} {base n cap g : Nat} {xs : List Int} (hl : xs.length = n * 4) (h : OwnD w base (.slice (some ⟨g, 0, none⟩) n cap) n xs) {j : Nat} (hj : j < n * 4) :
    w.cell? ⟨g, j, none⟩ = some (.int .i64 (nth xs j)) := by
  rw [h.cellAt j (by omega), List.getElem?_map, List.getElem?_eq_getElem (by omega), nth_of (by omega)]; rfl
theorem ownD_free {w : World} {base n cap g : Nat} {xs : List Int} (h : OwnD w base (.slice (some ⟨g, 0, none⟩) n cap) n xs) (j : Nat) : w.frozen? ⟨g, j, none⟩ = false := h.frozenAt j

/-- A slice of directed lines of the call's own, nothing old turned. -/
def RetOD (n : Nat) (xs : List Int) (w : World) (e : Ending) (w' : World) : Prop := ∃ v, e = .returned v ∧ OwnD w' w.heap.size v n xs ∧ Below w.heap.size w w'

set_option maxHeartbeats 8000000 in
set_option maxRecDepth 10000 in
theorem sidesO_any (v : Value) (n : Nat) (fs : List Int) (w : World) (h : SlF w w.heap.size v n fs) (h64 : C64 n fs) (hv : HCo n fs) (hd : ∀ k, k < n → 0 ≤ dAt n fs k) (hT : LT true w) :
    Calls Tryd.prog 99 #[v] w (RetOD n (tab (lc n fs) (n * 4)) w) := by
  have hn3 := hv.1
  have hn16 := hv.2.1
  have HSd := Lib.hid fun (w' : World) (hb : Below w.heap.size w w') => sideD_any v n fs w' ((h.below hb (Nat.le_refl _)).mono hb.size) h64 hv (LT.below hT hb (Nat.le_refl _))
  obtain ⟨h6, A, c, rfl, hc, hcell⟩ := h
  obtain ⟨b, o, rfl, hb, hcs⟩ := hcell (by omega)
  have HC := Lib.hid hcs
  have H6 := Lib.hid h6
  have HV := Lib.hid hv
  have HD := Lib.hid hd
  clear hcs hcell h6 h64 hv hd
  obtain ⟨i0, hi, hz0, hz1, hz2⟩ := info_parts infoDL
  go_enter Tryd.func99, Tryd.ntmps99
  go_wp2_with (at_make; refine wpList_make_full _ rfl _ _ 131 rfl w.heap.size 90 i0 (lnv 0 0 0 0) 4 Tryd.underlying131 hi hz0 hz1 .i64 .i64 _ _ n rfl rfl rfl rfl (by rw [hz2]; omega) (by unfold maxLen; omega) (Nat.le_refl _) ?_; intro w0 hown0 hgrow0)
  have H0 := startD (lc n fs) hown0
  have B0 := grown_below hgrow0 (Nat.le_refl _) (fun k h => by cases h)
  have s0 : w.heap.size < w0.heap.size := (own_row H0 w.heap.size rfl).2
  clear hown0 hgrow0
  refine (HSd.out _ B0).mono ?_
  rintro e w1 ⟨v1, rfl, o1, b1⟩
  have ht1 : (tab (dAt n fs) n).length = n := tab_len _ _
  rcases o1.2 with ⟨_, h0⟩ | ⟨g, c1, cur, rfl, hbg, hgg, _⟩
  · omega
  have hg1 : g < w1.heap.size := (Array.getElem?_eq_some_iff.1 hgg).1
  have C1 : Cells w1 g 0 (tab (dAt n fs) n) := fun k hk => by rw [Nat.zero_add]; exact own_cell rfl o1 hk
  have hg0 : w.heap.size < g := by omega
  rw [ht1]
  have H1 := own_below H0 b1 (Nat.le_refl _)
  have B1 := B0.trans (b1.mono B0.size)
  have s1 := b1.size
  clear o1 b1 H0 B0 HSd hgg
  go_wp2_with fail
  go_loopw [12] (fun i wr => ∃ k : Nat, k ≤ n ∧ i = .int .i64 k ∧ OwnD wr w.heap.size (.slice (some ⟨w.heap.size, 0, none⟩) n n) n (tabZ (lc n fs) (k * 4) (n * 4)) ∧ Below w.heap.size w wr ∧ Cells wr g 0 (tab (dAt n fs) n) ∧ g < wr.heap.size ∧ w.heap.size < wr.heap.size) (fun i _ => n - (intOf i).toNat)
  case atStart => exact ⟨0, Nat.zero_le _, rfl, by rw [Nat.zero_mul]; exact H1, B1, C1, hg1, by omega⟩
  case round =>
    obtain ⟨k, hk, rfl, hown, hbel, hlp, hgr, hwr⟩ := hrel
    clear H1 B1 C1
    by_cases hlt : k < n
    · have hx : wr.cell? ⟨g, k, none⟩ = some (.int .i64 (dAt n fs k)) := by have := hlp k (by rw [ht1]; exact hlt); rw [Nat.zero_add, tab_nth hlt] at this; exact this
      obtain ⟨a0, a1, a2, a3, a4, a5⟩ := six (HC.out.below hbel hb) H6.out hlt
      have HF := Lib.hid (fun w (hT : LT true w) => vectorOf_core (nth fs (k * 6)) (nth fs (k * 6 + 1)) (nth fs (k * 6 + 2)) (nth fs (k * 6 + 3)) (nth fs (k * 6 + 4)) (nth fs (k * 6 + 5)) w hT)
      have HG := Lib.hid (fun w (hT : LT true w) => dla_at (HV.out.2.2 k hlt) (HD.out k hlt) w hT)
      have e1 : IntKind.i64.wrap ((k : Int) + 1) = (k : Int) + 1 := wrap_in (by omega) (by omega)
      have j0 : (0 : Int) ≤ (k : Int) := by omega
      have j1 : (k : Int) < (n : Int) := by omega
      have j5 : b < wr.heap.size := by omega
      go_wp2_with fail
      refine (HF.out _ ?_).mono ?_
      · exact LT.below (w := w) hT (by (repeat (first | with_reducible exact Below.refl _ _ | with_reducible assumption | with_reducible refine below_drewN ?_ _ | with_reducible refine Below.drew ?_ | with_reducible refine Below.alloc ?_ (by first | omega | (simp; done) | (simp; omega)) _ | with_reducible refine Below.setCell ?_ (by first | omega | (simp; done) | (simp; omega)) _ | with_reducible refine Below.trans ?_ (Below.mono (by assumption) (by first | omega | (simp; done) | (simp; omega)))))) (Nat.le_refl _)
      rintro e w5 ⟨rfl, b5⟩
      have B5 := hbel.trans (b5.mono (Nat.le_of_lt hwr))
      have o5 := own_below hown b5 (Nat.le_refl _)
      have l5 := hlp.below b5 hgr
      have s5 := b5.size
      clear hown hlp b5
      go_wp2_with fail
      refine (HG.out _ ?_).mono ?_
      · exact LT.below (w := w) hT (by (repeat (first | with_reducible exact Below.refl _ _ | with_reducible assumption | with_reducible refine below_drewN ?_ _ | with_reducible refine Below.drew ?_ | with_reducible refine Below.alloc ?_ (by first | omega | (simp; done) | (simp; omega)) _ | with_reducible refine Below.setCell ?_ (by first | omega | (simp; done) | (simp; omega)) _ | with_reducible refine Below.trans ?_ (Below.mono (by assumption) (by first | omega | (simp; done) | (simp; omega)))))) (Nat.le_refl _)
      rintro e w6 ⟨rfl, b6⟩
      have B6 := B5.trans (b6.mono (by omega))
      have o6 := own_below o5 b6 (Nat.le_refl _)
      have l6 := l5.below b6 (by omega)
      have s6 := b6.size
      have hl6 : (tabZ (lc n fs) (k * 4) (n * 4)).length = n * 4 := tabZ_len _ (by omega)
      have q0 := ownD_cell hl6 o6 (show k * 4 < n * 4 by omega)
      have q1 := ownD_cell hl6 o6 (show k * 4 + 1 < n * 4 by omega)
      have q2 := ownD_cell hl6 o6 (show k * 4 + 2 < n * 4 by omega)
      have q3 := ownD_cell hl6 o6 (show k * 4 + 3 < n * 4 by omega)
      have r0 := ownD_free o6 (k * 4)
      have r1 := ownD_free o6 (k * 4 + 1)
      have r2 := ownD_free o6 (k * 4 + 2)
      have r3 := ownD_free o6 (k * 4 + 3)
      clear o5 l5 b6 B5 a0 a1 a2 a3 a4 a5 hx hbel
      go_wp2_with fail
      go_roundw
      case rel =>
        have hs := stepD4 (d := lc n fs) hlt o6
        exact ⟨k + 1, by omega, by go_num, hs, (((B6.setCell (p := ⟨w.heap.size, k * 4, none⟩) (Nat.le_refl _) _).setCell (p := ⟨w.heap.size, k * 4 + 1, none⟩) (Nat.le_refl _) _).setCell (p := ⟨w.heap.size, k * 4 + 2, none⟩) (Nat.le_refl _) _).setCell (p := ⟨w.heap.size, k * 4 + 3, none⟩) (Nat.le_refl _) _, Cells.set (Cells.set (Cells.set (Cells.set l6 (by omega) _ _) (by omega) _ _) (by omega) _ _) (by omega) _ _, by simp; omega, by simp; omega⟩
      case measure => simp [intOf]; omega
    · go_wp2_with fail
      go_ret
      obtain rfl : k = n := by omega
      rw [tabZ_all] at hown
      exact ⟨_, rfl, hown, hbel⟩
end Pol
end Go.Proofs.YtafbdnjabgfjeaaDoor
end
section
namespace Go.Proofs.YtafbdnjabgfjeaaDoor
open Go Go.RowKit OriM
namespace Pol
variable {β : Bool}

open Classical in
/-- Where the point is. -/
noncomputable def inP (n : Nat) (fs : List Int) (a b c d e f : Int) : Int := if MP n fs ∧ vP a b c d e f = true then mnS n fs (gP a b c d e f) n else -1

set_option maxHeartbeats 8000000 in
set_option maxRecDepth 10000 in
theorem iIPo_any (v : Value) (n : Nat) (fs : List Int) (a b c d e f : Int) (w : World) (h : SlF w w.heap.size v n fs) (h64 : C64 n fs) (hp : I6 a b c d e f) (hT : LT true w) (hl : n ≤ 1048576) :
    Calls Tryd.prog 43 #[v, pt a b c d e f] w (RetB (.int .i64 (inP n fs a b c d e f)) w) := by
  have HP := Lib.hid fun (w' : World) (hb : Below w.heap.size w w') => iVPo_any v n fs w' ((h.below hb (Nat.le_refl _)).mono hb.size) h64 (LT.below hT hb (Nat.le_refl _)) hl
  have HO := Lib.hid fun (w' : World) (hb : Below w.heap.size w w') hv hd => sidesO_any v n fs w' ((h.below hb (Nat.le_refl _)).mono hb.size) h64 hv hd (LT.below hT hb (Nat.le_refl _))
  have H6 := Lib.hid h.1
  have HV := Lib.hid (fun w (hT : LT true w) => iVP_any hp w hT)
  obtain ⟨_, A, cp, rfl, hc, _⟩ := h
  clear h64 hp
  go_enter Tryd.func43, Tryd.ntmps43
  go_wp2_with fail
  refine (HP.out _ (by (repeat (first | with_reducible exact Below.refl _ _ | with_reducible assumption | with_reducible refine below_drewN ?_ _ | with_reducible refine Below.drew ?_ | with_reducible refine Below.alloc ?_ (by first | omega | (simp; done) | (simp; omega)) _ | with_reducible refine Below.setCell ?_ (by first | omega | (simp; done) | (simp; omega)) _ | with_reducible refine Below.trans ?_ (Below.mono (by assumption) (by first | omega | (simp; done) | (simp; omega))))))).mono ?_
  rintro e1 w1 ⟨r, rfl, hr, hb1⟩; (try replace hb1 := Below.undrew hb1); obtain ⟨hc1, hf1⟩ := bcell hb1; have hz1 := hb1.size; (try simp at hz1); have z1_0 : w.heap.size < w1.heap.size := (by omega)
  have HR := Lib.hid hr
  clear hr HP
  cases r
  case false =>
    go_wp2_with fail
    go_ret
    refine ⟨?_, by (repeat (first | with_reducible exact Below.refl _ _ | with_reducible assumption | with_reducible refine below_drewN ?_ _ | with_reducible refine Below.drew ?_ | with_reducible refine Below.alloc ?_ (by first | omega | (simp; done) | (simp; omega)) _ | with_reducible refine Below.setCell ?_ (by first | omega | (simp; done) | (simp; omega)) _ | with_reducible refine Below.trans ?_ (Below.mono (by assumption) (by first | omega | (simp; done) | (simp; omega)))))⟩
    rw [inP, if_neg (fun h => by have := HR.out.2 h.1; cases this)]
    rfl
  case true =>
  go_wp2_with fail
  refine (HV.out _ ?_).mono ?_
  · exact LT.below (w := w) hT (by (repeat (first | with_reducible exact Below.refl _ _ | with_reducible assumption | with_reducible refine below_drewN ?_ _ | with_reducible refine Below.drew ?_ | with_reducible refine Below.alloc ?_ (by first | omega | (simp; done) | (simp; omega)) _ | with_reducible refine Below.setCell ?_ (by first | omega | (simp; done) | (simp; omega)) _ | with_reducible refine Below.trans ?_ (Below.mono (by assumption) (by first | omega | (simp; done) | (simp; omega)))))) (Nat.le_refl _)
  rintro e2 w2 ⟨he2, hb2⟩; (try replace hb2 := Below.undrew hb2); obtain ⟨hc2, hf2⟩ := bcell hb2; have hz2 := hb2.size; have z2_0 : w.heap.size < w2.heap.size := (by omega)
  by_cases hv : vP a b c d e f = false
  · rw [hv] at he2
    subst he2
    go_wp2_with fail
    go_ret
    refine ⟨?_, by (repeat (first | with_reducible exact Below.refl _ _ | with_reducible assumption | with_reducible refine below_drewN ?_ _ | with_reducible refine Below.drew ?_ | with_reducible refine Below.alloc ?_ (by first | omega | (simp; done) | (simp; omega)) _ | with_reducible refine Below.setCell ?_ (by first | omega | (simp; done) | (simp; omega)) _ | with_reducible refine Below.trans ?_ (Below.mono (by assumption) (by first | omega | (simp; done) | (simp; omega)))))⟩
    rw [inP, if_neg (fun h => by rw [hv] at h; exact absurd h.2 (by decide))]
    rfl
  replace hv : vP a b c d e f = true := by simpa using hv
  rw [hv] at he2
  subst he2
  have HM := Lib.hid ((mp_iff H6.out).2 (HR.out.1 trivial))
  have HX := Lib.hid hv
  have HI := Lib.hid (show inP n fs a b c d e f = mnS n fs (gP a b c d e f) n by rw [inP, if_pos ⟨HR.out.1 trivial, hv⟩])
  clear hv HV
  go_wp2_with fail
  refine (HO.out _ (by (repeat (first | with_reducible exact Below.refl _ _ | with_reducible assumption | with_reducible refine below_drewN ?_ _ | with_reducible refine Below.drew ?_ | with_reducible refine Below.alloc ?_ (by first | omega | (simp; done) | (simp; omega)) _ | with_reducible refine Below.setCell ?_ (by first | omega | (simp; done) | (simp; omega)) _ | with_reducible refine Below.trans ?_ (Below.mono (by assumption) (by first | omega | (simp; done) | (simp; omega)))))) HM.out.1 HM.out.2.1.1).mono ?_
  rintro e3 w3 ⟨v3, rfl, o3, hb3⟩; (try replace hb3 := Below.undrew hb3); obtain ⟨hc3, hf3⟩ := bcell hb3; have hz3 := hb3.size; have z3_0 : w.heap.size < w3.heap.size := (by omega)
  have hn3 := HM.out.1.1
  have hn16 := HM.out.1.2.1
  rcases o3.2 with ⟨_, h0⟩ | ⟨g, c3, cur, rfl, hbg, hgg, _⟩
  · omega
  have hg3 : g < w3.heap.size := (Array.getElem?_eq_some_iff.1 hgg).1
  have B3 : Below w.heap.size w w3 := by (repeat (first | with_reducible exact Below.refl _ _ | with_reducible assumption | with_reducible refine below_drewN ?_ _ | with_reducible refine Below.drew ?_ | with_reducible refine Below.alloc ?_ (by first | omega | (simp; done) | (simp; omega)) _ | with_reducible refine Below.setCell ?_ (by first | omega | (simp; done) | (simp; omega)) _ | with_reducible refine Below.trans ?_ (Below.mono (by assumption) (by first | omega | (simp; done) | (simp; omega)))))
  have p0 : w3.cell? ⟨w.heap.size, 0, none⟩ = some (.int .i64 a) := by simp [*]
  have p1 : w3.cell? ⟨w.heap.size, 1, none⟩ = some (.int .i64 b) := by simp [*]
  have p2 : w3.cell? ⟨w.heap.size, 2, none⟩ = some (.int .i64 c) := by simp [*]
  have p3 : w3.cell? ⟨w.heap.size, 3, none⟩ = some (.int .i64 d) := by simp [*]
  have p4 : w3.cell? ⟨w.heap.size, 4, none⟩ = some (.int .i64 e) := by simp [*]
  have p5 : w3.cell? ⟨w.heap.size, 5, none⟩ = some (.int .i64 f) := by simp [*]
  have O3 := Lib.hid o3
  clear o3 hgg HO hc1 hf1 hc2 hf2 hc3 hf3 hb1 hb2 hb3
  go_wp2_with fail
  go_loopw [5, 19] (fun q i wr => ∃ k : Nat, k ≤ n ∧ i = .int .i64 k ∧ q = .int .i64 (mnS n fs (gP a b c d e f) k) ∧ Below w3.heap.size w3 wr) (fun _ i _ => n - (intOf i).toNat)
  case atStart => exact ⟨0, Nat.zero_le _, rfl, rfl, Below.refl _ _⟩
  case round =>
    obtain ⟨k, hk, rfl, rfl, hbel⟩ := hrel
    have hsz := hbel.size
    by_cases hlt : k < n
    · have hl6 : (tab (lc n fs) (n * 4)).length = n * 4 := tab_len _ _
      have own := own_below O3.out hbel (Nat.le_refl _)
      have q0 := ownD_cell hl6 own (show k * 4 < n * 4 by omega)
      have q1 := ownD_cell hl6 own (show k * 4 + 1 < n * 4 by omega)
      have q2 := ownD_cell hl6 own (show k * 4 + 2 < n * 4 by omega)
      have q3 := ownD_cell hl6 own (show k * 4 + 3 < n * 4 by omega)
      rw [tab_nth (by omega)] at q0 q1 q2 q3
      have hF := isd_at (n := n) (HM.out.1.2.2 k hlt) (HM.out.2.1.1 k hlt) HX.out
      have hG := fun w (hT : LT true w) => vectorOf_core a b c d e f w hT
      unfold lcV at hF
      have s0 := (hbel.cell (p := ⟨w.heap.size, 0, none⟩) z3_0).trans p0
      have s1 := (hbel.cell (p := ⟨w.heap.size, 1, none⟩) z3_0).trans p1
      have s2 := (hbel.cell (p := ⟨w.heap.size, 2, none⟩) z3_0).trans p2
      have s3 := (hbel.cell (p := ⟨w.heap.size, 3, none⟩) z3_0).trans p3
      have s4 := (hbel.cell (p := ⟨w.heap.size, 4, none⟩) z3_0).trans p4
      have s5 := (hbel.cell (p := ⟨w.heap.size, 5, none⟩) z3_0).trans p5
      have hmn := (mnS_min n fs (gP a b c d e f) k).symm
      have HMN := Lib.hid (rfl : mnS n fs (gP a b c d e f) (k + 1) = mnS n fs (gP a b c d e f) (k + 1))
      generalize hM' : mnS n fs (gP a b c d e f) (k + 1) = M' at hmn
      generalize mnS n fs (gP a b c d e f) k = M at *
      generalize sdv n fs k (gP a b c d e f) = S at *
      generalize lc n fs (k * 4) = x0 at *
      generalize lc n fs (k * 4 + 1) = x1 at *
      generalize lc n fs (k * 4 + 2) = x2 at *
      generalize lc n fs (k * 4 + 3) = x3 at *
      have HE := Lib.hid hM'
      have HF := Lib.hid hF
      have HG := Lib.hid hG
      clear own hF hG HMN hM'
      have e1 : IntKind.i64.wrap ((k : Int) + 1) = (k : Int) + 1 := wrap_in (by omega) (by omega)
      have j0 : (0 : Int) ≤ (k : Int) := by omega
      have j1 : (k : Int) < (n : Int) := by omega
      have j5 : g < wr.heap.size := by omega
      have j6 : w.heap.size < wr.heap.size := by omega
      go_wp2_with fail
      go_region_held3 (fun w' => w'.cell? ⟨wr.heap.size, 0, none⟩ = some (.int .i64 x0) ∧ w'.cell? ⟨wr.heap.size, 1, none⟩ = some (.int .i64 x1) ∧ w'.cell? ⟨wr.heap.size, 2, none⟩ = some (.int .i64 x2) ∧ w'.cell? ⟨wr.heap.size, 3, none⟩ = some (.int .i64 x3) ∧ w'.cell? ⟨w.heap.size, 0, none⟩ = some (.int .i64 a) ∧ w'.cell? ⟨w.heap.size, 1, none⟩ = some (.int .i64 b) ∧ w'.cell? ⟨w.heap.size, 2, none⟩ = some (.int .i64 c) ∧ w'.cell? ⟨w.heap.size, 3, none⟩ = some (.int .i64 d) ∧ w'.cell? ⟨w.heap.size, 4, none⟩ = some (.int .i64 e) ∧ w'.cell? ⟨w.heap.size, 5, none⟩ = some (.int .i64 f)) ((first | (go_simp; done) | (simp [*]; done)))
        ((first
        | (go_at_call 64; refine (HG.out _ ?_).mono ?_; exact LT.below (w := w) hT (by (repeat (first | with_reducible exact Below.refl _ _ | with_reducible assumption | with_reducible refine below_drewN ?_ _ | with_reducible refine Below.drew ?_ | with_reducible refine Below.alloc ?_ (by first | omega | (simp; done) | (simp; omega)) _ | with_reducible refine Below.setCell ?_ (by first | omega | (simp; done) | (simp; omega)) _ | with_reducible refine Below.trans ?_ (Below.mono (by assumption) (by first | omega | (simp; done) | (simp; omega)))))) (Nat.le_refl _); rintro e w5 ⟨rfl, hb5⟩; (try replace hb5 := Below.undrew hb5); obtain ⟨hc5, hf5⟩ := bcell hb5; have hz5 := hb5.size; (try simp at hz5); have z5a : wr.heap.size < w5.heap.size := (by omega); have z5b : w.heap.size < w5.heap.size := (by omega))
        | (go_at_call 78; refine (HF.out _ ?_).mono ?_; exact LT.below (w := w) hT (by (repeat (first | with_reducible exact Below.refl _ _ | with_reducible assumption | with_reducible refine below_drewN ?_ _ | with_reducible refine Below.drew ?_ | with_reducible refine Below.alloc ?_ (by first | omega | (simp; done) | (simp; omega)) _ | with_reducible refine Below.setCell ?_ (by first | omega | (simp; done) | (simp; omega)) _ | with_reducible refine Below.trans ?_ (Below.mono (by assumption) (by first | omega | (simp; done) | (simp; omega)))))) (Nat.le_refl _); rintro e w6 ⟨rfl, hb6⟩; (try replace hb6 := Below.undrew hb6); obtain ⟨hc6, hf6⟩ := bcell hb6; have hz6 := hb6.size; (try simp at hz6); have z6a : wr.heap.size < w6.heap.size := (by omega))))
      all_goals
        go_wp2_with fail
        go_roundw
        case rel =>
          have hw : Below wr.heap.size wr w6 := by (repeat (first | with_reducible exact Below.refl _ _ | with_reducible assumption | with_reducible refine below_drewN ?_ _ | with_reducible refine Below.drew ?_ | with_reducible refine Below.alloc ?_ (by first | omega | (simp; done) | (simp; omega)) _ | with_reducible refine Below.setCell ?_ (by first | omega | (simp; done) | (simp; omega)) _ | with_reducible refine Below.trans ?_ (Below.mono (by assumption) (by first | omega | (simp; done) | (simp; omega)))))
          exact ⟨k + 1, by omega, by go_num, by rw [HE.out]; congr 1; show (if S < M then S else M) = M'; split <;> omega, hbel.trans (hw.mono hsz)⟩
        case measure => simp [intOf]; omega
    · go_wp2_with fail
      go_ret
      obtain rfl : k = n := by omega
      exact ⟨by rw [HI.out]; rfl, B3.trans (hbel.mono (by omega))⟩

set_option maxHeartbeats 8000000 in
set_option maxRecDepth 10000 in
theorem mIn_any (v v' : Value) (n : Nat) (fs : List Int) (a b c d e f : Int) (w : World) (h : SlF w w.heap.size v n fs) (h' : Sl w w.heap.size v' (tab (dAt n fs) n)) (hv : HCo n fs) (hd : ∀ k, k < n → 0 ≤ dAt n fs k) (hp : vP a b c d e f = true) (hT : LT β w) :
    Calls Tryd.prog 97 #[v, v', pt a b c d e f] w (RetB (.int .i64 (mnS n fs (gP a b c d e f) n)) w) := by
  have hn3 := hv.1
  have hn16 := hv.2.1
  obtain ⟨h6, A, c1, rfl, hc, hcell⟩ := h
  obtain ⟨B, o, rfl, hb, hcs⟩ := hcell (by omega)
  have ht1 : (tab (dAt n fs) n).length = n := tab_len _ _
  obtain ⟨A2, c2, rfl, hc2, hs2⟩ := h'
  obtain ⟨g, og, rfl, hg, hgs⟩ := hs2 (by rw [ht1]; omega)
  rw [ht1]
  have HC := Lib.hid hcs
  have HG := Lib.hid hgs
  have H6 := Lib.hid h6
  have HV := Lib.hid hv
  have HD := Lib.hid hd
  have HX := Lib.hid hp
  clear hcs hcell h6 hv hd hp hgs hs2
  go_enter Tryd.func97, Tryd.ntmps97
  go_wp2_with fail
  go_loopw [7, 8] (fun q i wr => ∃ k : Nat, k ≤ n ∧ i = .int .i64 k ∧ q = .int .i64 (mnS n fs (gP a b c d e f) k) ∧ Below w.heap.size w wr ∧ w.heap.size < wr.heap.size ∧ Cells wr w.heap.size 0 [a, b, c, d, e, f]) (fun _ i _ => n - (intOf i).toNat)
  case atStart => exact ⟨0, Nat.zero_le _, rfl, rfl, by (repeat (first | with_reducible exact Below.refl _ _ | with_reducible assumption | with_reducible refine below_drewN ?_ _ | with_reducible refine Below.drew ?_ | with_reducible refine Below.alloc ?_ (by first | omega | (simp; done) | (simp; omega)) _ | with_reducible refine Below.setCell ?_ (by first | omega | (simp; done) | (simp; omega)) _ | with_reducible refine Below.trans ?_ (Below.mono (by assumption) (by first | omega | (simp; done) | (simp; omega))))), by simp, fun k hk => by
    rcases (show k = 0 ∨ k = 1 ∨ k = 2 ∨ k = 3 ∨ k = 4 ∨ k = 5 by simp at hk; omega) with rfl | rfl | rfl | rfl | rfl | rfl <;> simp [go_sem, nth]⟩
  case round =>
    obtain ⟨k, hk, rfl, rfl, hbel, hwr, hpp⟩ := hrel
    by_cases hlt : k < n
    · obtain ⟨a0, a1, a2, a3, a4, a5⟩ := six (HC.out.below hbel hb) H6.out hlt
      have q0 := (HG.out.below hbel hg) k (by rw [ht1]; exact hlt)
      rw [tab_nth hlt] at q0
      obtain ⟨s0, s1, s2, s3, s4, s5⟩ := six (n := 1) (k := 0) hpp rfl (by omega)
      simp [nth] at s0 s1 s2 s3 s4 s5
      obtain ⟨z0, z1, z2, z3, z4, z5, y0, y1, y2, hF1, hF2, hF3⟩ := msd_at (β := β) (n := n) (HV.out.2.2 k hlt) (HD.out k hlt) HX.out
      have rd := dAt_range n fs k
      have rm := mnS_range n fs (gP a b c d e f) k
      have hmn : (if sdv n fs k (gP a b c d e f) < mnS n fs (gP a b c d e f) k then sdv n fs k (gP a b c d e f) else mnS n fs (gP a b c d e f) k) = mnS n fs (gP a b c d e f) (k + 1) := rfl
      generalize hM' : mnS n fs (gP a b c d e f) (k + 1) = M' at hmn
      generalize mnS n fs (gP a b c d e f) k = M at *
      generalize sdv n fs k (gP a b c d e f) = S at *
      generalize dAt n fs k = D at *
      have HE := Lib.hid hM'
      have HMN := Lib.hid hmn
      have HF1 := Lib.hid hF1
      have HF2 := Lib.hid hF2
      have HF3 := Lib.hid hF3
      clear hF1 hF2 hF3 hM' hmn
      have e1 : IntKind.i64.wrap ((k : Int) + 1) = (k : Int) + 1 := wrap_in (by omega) (by omega)
      have e2 : IntKind.i64.wrap (D + 4) = D + 4 := wrap_in (by omega) (by omega)
      have j0 : (0 : Int) ≤ (k : Int) := by omega
      have j1 : (k : Int) < (n : Int) := by omega
      have j5 : B < wr.heap.size := by omega
      have j6 : g < wr.heap.size := by omega
      go_wp2_with fail
      go_region_held3 (fun w' => w'.cell? ⟨B, o + k * 6, none⟩ = some (.int .i64 (nth fs (k * 6))) ∧ w'.cell? ⟨B, o + k * 6 + 1, none⟩ = some (.int .i64 (nth fs (k * 6 + 1))) ∧ w'.cell? ⟨B, o + k * 6 + 2, none⟩ = some (.int .i64 (nth fs (k * 6 + 2))) ∧ w'.cell? ⟨B, o + k * 6 + 3, none⟩ = some (.int .i64 (nth fs (k * 6 + 3))) ∧ w'.cell? ⟨B, o + k * 6 + 4, none⟩ = some (.int .i64 (nth fs (k * 6 + 4))) ∧ w'.cell? ⟨B, o + k * 6 + 5, none⟩ = some (.int .i64 (nth fs (k * 6 + 5))) ∧ w'.cell? ⟨g, og + k, none⟩ = some (.int .i64 D) ∧ w'.cell? ⟨w.heap.size, 0, none⟩ = some (.int .i64 a) ∧ w'.cell? ⟨w.heap.size, 1, none⟩ = some (.int .i64 b) ∧ w'.cell? ⟨w.heap.size, 2, none⟩ = some (.int .i64 c) ∧ w'.cell? ⟨w.heap.size, 3, none⟩ = some (.int .i64 d) ∧ w'.cell? ⟨w.heap.size, 4, none⟩ = some (.int .i64 e) ∧ w'.cell? ⟨w.heap.size, 5, none⟩ = some (.int .i64 f)) ((first | (go_simp; done) | (simp [*]; done)))
        ((first
        | (go_at_call 73; refine (HF1.out _ ?_).mono ?_; exact LT.below (w := w) hT (by (repeat (first | with_reducible exact Below.refl _ _ | with_reducible assumption | with_reducible refine below_drewN ?_ _ | with_reducible refine Below.drew ?_ | with_reducible refine Below.alloc ?_ (by first | omega | (simp; done) | (simp; omega)) _ | with_reducible refine Below.setCell ?_ (by first | omega | (simp; done) | (simp; omega)) _ | with_reducible refine Below.trans ?_ (Below.mono (by assumption) (by first | omega | (simp; done) | (simp; omega)))))) (Nat.le_refl _); rintro e w5 ⟨rfl, hb5⟩; (try replace hb5 := Below.undrew hb5); obtain ⟨hc5, hf5⟩ := bcell hb5; have hz5 := hb5.size; (try simp at hz5); have z5a : B < w5.heap.size := (by omega); have z5b : g < w5.heap.size := (by omega); have z5c : w.heap.size < w5.heap.size := (by omega))
        | (go_at_call 127; refine (HF2.out _ ?_).mono ?_; exact LT.below (w := w) hT (by (repeat (first | with_reducible exact Below.refl _ _ | with_reducible assumption | with_reducible refine below_drewN ?_ _ | with_reducible refine Below.drew ?_ | with_reducible refine Below.alloc ?_ (by first | omega | (simp; done) | (simp; omega)) _ | with_reducible refine Below.setCell ?_ (by first | omega | (simp; done) | (simp; omega)) _ | with_reducible refine Below.trans ?_ (Below.mono (by assumption) (by first | omega | (simp; done) | (simp; omega)))))) (Nat.le_refl _); rintro e w6 ⟨rfl, hb6⟩; (try replace hb6 := Below.undrew hb6); obtain ⟨hc6, hf6⟩ := bcell hb6; have hz6 := hb6.size; (try simp at hz6); have z6a : B < w6.heap.size := (by omega); have z6b : g < w6.heap.size := (by omega); have z6c : w.heap.size < w6.heap.size := (by omega))
        | (go_at_call 125; refine (HF3.out _ ?_).mono ?_; exact LT.below (w := w) hT (by (repeat (first | with_reducible exact Below.refl _ _ | with_reducible assumption | with_reducible refine below_drewN ?_ _ | with_reducible refine Below.drew ?_ | with_reducible refine Below.alloc ?_ (by first | omega | (simp; done) | (simp; omega)) _ | with_reducible refine Below.setCell ?_ (by first | omega | (simp; done) | (simp; omega)) _ | with_reducible refine Below.trans ?_ (Below.mono (by assumption) (by first | omega | (simp; done) | (simp; omega)))))) (Nat.le_refl _); rintro e w7 ⟨rfl, hb7⟩; (try replace hb7 := Below.undrew hb7); obtain ⟨hc7, hf7⟩ := bcell hb7; have hz7 := hb7.size; (try simp at hz7); have z7a : B < w7.heap.size := (by omega); have z7b : g < w7.heap.size := (by omega); have z7c : w.heap.size < w7.heap.size := (by omega))))
      all_goals
        have hw : Below wr.heap.size wr w7 := by (repeat (first | with_reducible exact Below.refl _ _ | with_reducible assumption | with_reducible refine below_drewN ?_ _ | with_reducible refine Below.drew ?_ | with_reducible refine Below.alloc ?_ (by first | omega | (simp; done) | (simp; omega)) _ | with_reducible refine Below.setCell ?_ (by first | omega | (simp; done) | (simp; omega)) _ | with_reducible refine Below.trans ?_ (Below.mono (by assumption) (by first | omega | (simp; done) | (simp; omega)))))
        have B7 := hbel.trans (hw.mono (Nat.le_of_lt hwr))
        have P7 := hpp.below hw hwr
        by_cases hs : S < M
        · have hmn := HMN.out
          rw [if_pos hs] at hmn
          go_wp2_with fail
          go_roundw
          case rel => exact ⟨k + 1, by omega, by go_num, by rw [HE.out, hmn], B7, by omega, P7⟩
          case measure => simp [intOf]; omega
        · have hmn := HMN.out
          rw [if_neg hs] at hmn
          go_wp2_with fail
          go_roundw
          case rel => exact ⟨k + 1, by omega, by go_num, by rw [HE.out, hmn], B7, by omega, P7⟩
          case measure => simp [intOf]; omega
    · go_wp2_with fail
      go_ret
      obtain rfl : k = n := by omega
      exact ⟨rfl, hbel⟩
end Pol
end Go.Proofs.YtafbdnjabgfjeaaDoor
end
