/- The directions of the sides of a closed line of valid points; whether it turns once: by the program. -/
import Derived.Test.YtafbdnjabgfjeaaDoorPolA
import Derived.Test.YtafbdnjabgfjeaaDoorGDZx
import Derived.Test.YtafbdnjabgfjeaaDoorSeqq
namespace Go.Proofs.YtafbdnjabgfjeaaDoor
open Go Go.RowKit OriM
namespace Pol
variable {β : Bool}

/-- The direction of side k. -/
noncomputable def dAt (n : Nat) (fs : List Int) (k : Nat) : Int := dirOf ((gAt fs ((k + 1) % n)).sub (gAt fs k))
theorem dAt_range (n : Nat) (fs : List Int) (k : Nat) : -1 ≤ dAt n fs k ∧ dAt n fs k ≤ 15 := by
  have := dirOf_range ((gAt fs ((k + 1) % n)).sub (gAt fs k)); unfold dAt; omega
theorem ido_at {a b k c d l a' b' k' c' d' l' : Int} (hx : vP a b k c d l = true) (hy : vP a' b' k' c' d' l' = true) (h : I6 a b k c d l) (h' : I6 a' b' k' c' d' l') (w : World) (hT : LT true w) :
    Calls Tryd.prog 26 #[pt a b k c d l, pt a' b' k' c' d' l'] w (RetB (.int .i64 (dirOf ((gP a' b' k' c' d' l').sub (gP a b k c d l)))) w) := by
  obtain ⟨b1, m1⟩ := valid_bp hx
  obtain ⟨b2, m2⟩ := valid_bp hy
  have V1 := fun w (hT : LT true w) => vectorOf_g (gP a b k c d l) w hT
  have V2 := fun w (hT : LT true w) => vectorOf_g (gP a' b' k' c' d' l') w hT
  have DT := fun w (hT : LT true w) => iDirTo_g b1 b2 m1 m2 w hT
  rw [← valid_gp hx] at V1 DT
  rw [← valid_gp hy] at V2 DT
  exact iDO_ok _ _ _ _ _ _ _ _ _ _ _ _ _ _ _ _ _ _ _ _ _ _ _ _ _ w hT (Lib.hid fun w hT => hx ▸ iVP_any h w hT) (Lib.hid fun w hT => hy ▸ iVP_any h' w hT) (Lib.hid V1) (Lib.hid V2) (Lib.hid DT)
/-- The closed line's points, the first one again behind the last one. -/
theorem loop_at {n : Nat} {fs : List Int} (h6 : fs.length = n * 6) (hn : 1 < n) {k i : Nat} (hk : k < n) (hi : i < 6) : nth (fs ++ fs.take 6) ((k + 1) * 6 + i) = nth fs ((k + 1) % n * 6 + i) := by
  by_cases h : k + 1 < n
  · rw [Nat.mod_eq_of_lt h, nth_app (by omega)]
  · obtain rfl : n = k + 1 := by omega
    rw [Nat.mod_self, Nat.zero_mul, Nat.zero_add, ← h6, nth_app2 (by rw [List.length_take]; omega), nth_take hi (by omega)]
theorem Cells.set {w : World} {b o : Nat} {xs : List Int} (h : Cells w b o xs) {B : Nat} (hne : b ≠ B) (i : Nat) (u : Value) : Cells (w.setCell ⟨B, i, none⟩ u) b o xs :=
  fun k hk => (World.cell?_of_block (w := w) (a := ⟨b, o + k, none⟩) (Below.heap_setCell w ⟨B, i, none⟩ u b hne)).trans (h k hk)

theorem row_form {W : World} {base : Nat} {e : TypeId} {size : Nat} {v : Value} {k : Nat} {xs : List Value} (h : W.ownsRow base e size v (k + 1) xs) : ∃ g cap, v = .slice (some ⟨g, 0, none⟩) (k + 1) cap := by
  rcases h.2 with ⟨_, h0⟩ | ⟨g, cap, _, rfl, _⟩
  · omega
  · exact ⟨g, cap, rfl⟩
set_option maxHeartbeats 8000000 in
set_option maxRecDepth 10000 in
theorem sideD_any (v : Value) (n : Nat) (fs : List Int) (w : World) (h : SlF w w.heap.size v n fs) (h64 : C64 n fs) (hv : HCo n fs) (hT : LT true w) :
    Calls Tryd.prog 146 #[v] w (RetO (tab (dAt n fs) n) w) := by
  have hn3 := hv.1
  have hn16 := hv.2.1
  have HCi := Lib.hid fun (w' : World) (hb : Below w.heap.size w w') => circP_any v n fs w' ((h.below hb (Nat.le_refl _)).mono hb.size) (by omega) (by omega)
  obtain ⟨h6, A, c, rfl, hc, hcell⟩ := h
  obtain ⟨b, o, rfl, hb, hcs⟩ := hcell (by omega)
  have HC := Lib.hid hcs
  have H6 := Lib.hid h6
  have HI := Lib.hid h64
  have HV := Lib.hid hv
  clear hcs hcell h6 h64 hv
  obtain ⟨i0, hi, hz0, hz1, hz2⟩ := info_parts infoI64
  go_enter Tryd.func146, Tryd.ntmps146
  go_wp2_with (at_make; refine wpList_make_full _ rfl _ _ 126 rfl w.heap.size 2 i0 (.int .i64 0) 1 Tryd.underlying126 hi hz0 hz1 .i64 .i64 _ _ n rfl rfl rfl rfl (by rw [hz2]; omega) (by unfold maxLen; omega) (Nat.le_refl _) ?_; intro w0 hown0 hgrow0)
  have H0 := tabZ_start (dAt n fs) hown0
  have B0 := grown_below hgrow0 (Nat.le_refl _) (fun k h => by cases h)
  have s0 : w.heap.size < w0.heap.size := (own_row H0 w.heap.size rfl).2
  clear hown0 hgrow0
  refine (HCi.out _ B0).mono ?_
  rintro e w1 ⟨v1, rfl, o1, b1⟩
  obtain ⟨g, cap, rfl⟩ := row_form o1
  have hg0 := (own_row o1 g rfl).1
  have hg1 := (own_row o1 g rfl).2
  have L1 : Cells w1 g 0 (fs ++ fs.take 6) := fun k hk => by
    rw [Nat.zero_add]
    exact ownF_cell o1 (by have := OwnF.len o1; omega)
  have H1 := own_below H0 b1 (Nat.le_refl _)
  have B1 := B0.trans (b1.mono B0.size)
  have s1 := b1.size
  have hgn : g ≠ w.heap.size := by omega
  clear o1 b1 H0 B0 HCi
  go_wp2_with fail
  go_loopw [14] (fun i wr => ∃ k : Nat, k ≤ n ∧ i = .int .i64 k ∧ OwnI wr w.heap.size (.slice (some ⟨w.heap.size, 0, none⟩) n n) (tabZ (dAt n fs) k n) ∧ Below w.heap.size w wr ∧ Cells wr g 0 (fs ++ fs.take 6) ∧ g < wr.heap.size ∧ w.heap.size < wr.heap.size) (fun i _ => n - (intOf i).toNat)
  case atStart => exact ⟨0, Nat.zero_le _, rfl, H1, B1, L1, hg1, by omega⟩
  case round =>
    obtain ⟨k, hk, rfl, hown, hbel, hlp, hgr, hwr⟩ := hrel
    clear H1 B1 L1
    by_cases hlt : k < n
    · have hvk := HV.out.2.2 k hlt
      have hvj := HV.out.2.2 ((k + 1) % n) (Nat.mod_lt _ (by omega))
      have HF := Lib.hid (fun w (hT : LT true w) => ido_at hvk hvj (i6_at HI.out hlt) (i6_at HI.out (Nat.mod_lt _ (by omega))) w hT)
      obtain ⟨a0, a1, a2, a3, a4, a5⟩ := six (HC.out.below hbel hb) H6.out hlt
      have hll : (fs ++ fs.take 6).length = (n + 1) * 6 := by rw [List.length_append, List.length_take, H6.out]; omega
      obtain ⟨d0, d1, d2, d3, d4, d5⟩ := six hlp hll (show k + 1 < n + 1 by omega)
      have l0 := loop_at H6.out (by omega) hlt (show 0 < 6 by omega)
      rw [Nat.add_zero] at l0
      rw [l0, Nat.zero_add, Nat.add_zero] at d0
      rw [loop_at H6.out (by omega) hlt (show 1 < 6 by omega), Nat.zero_add] at d1
      rw [loop_at H6.out (by omega) hlt (show 2 < 6 by omega), Nat.zero_add] at d2
      rw [loop_at H6.out (by omega) hlt (show 3 < 6 by omega), Nat.zero_add] at d3
      rw [loop_at H6.out (by omega) hlt (show 4 < 6 by omega), Nat.zero_add] at d4
      rw [loop_at H6.out (by omega) hlt (show 5 < 6 by omega), Nat.zero_add] at d5
      have HD : Hid (dirOf ((gP (nth fs ((k + 1) % n * 6)) (nth fs ((k + 1) % n * 6 + 1)) (nth fs ((k + 1) % n * 6 + 2)) (nth fs ((k + 1) % n * 6 + 3)) (nth fs ((k + 1) % n * 6 + 4)) (nth fs ((k + 1) % n * 6 + 5))).sub (gP (nth fs (k * 6)) (nth fs (k * 6 + 1)) (nth fs (k * 6 + 2)) (nth fs (k * 6 + 3)) (nth fs (k * 6 + 4)) (nth fs (k * 6 + 5)))) = dAt n fs k) := Lib.hid rfl
      have hcd := own_cell (tabZ_len (dAt n fs) hk) hown hlt
      have hfd := own_free (tabZ_len (dAt n fs) hk) hown k
      rw [HD.out] at HF
      obtain ⟨D, hD⟩ : ∃ D, dAt n fs k = D := ⟨_, rfl⟩
      rw [hD] at HF
      have HE := Lib.hid hD
      clear hD
      have hne2 : w.heap.size ≠ wr.heap.size := by omega
      have e1 : IntKind.i64.wrap ((k : Int) + 1) = (k : Int) + 1 := wrap_in (by omega) (by omega)
      have ht : ((k : Int) + 1).toNat = k + 1 := by omega
      have j0 : (0 : Int) ≤ (k : Int) := by omega
      have j1 : (k : Int) < (n : Int) := by omega
      have j2 : (0 : Int) ≤ (k : Int) + 1 := by omega
      have j3 : (k : Int) + 1 < ((n + 1 : Nat) : Int) := by omega
      have j4 : (k : Int) + 1 < (n : Int) + 1 := by omega
      have j5 : b < wr.heap.size := by omega
      have ne1 : g ≠ wr.heap.size := by omega
      have ne2 : w.heap.size ≠ g := by omega
      clear HD hvk hvj hll
      clear l0
      generalize nth fs (k * 6) = x0 at *
      generalize nth fs ((k + 1) % n * 6) = y0 at *
      generalize nth fs (k * 6 + 1) = x1 at *
      generalize nth fs ((k + 1) % n * 6 + 1) = y1 at *
      generalize nth fs (k * 6 + 2) = x2 at *
      generalize nth fs ((k + 1) % n * 6 + 2) = y2 at *
      generalize nth fs (k * 6 + 3) = x3 at *
      generalize nth fs ((k + 1) % n * 6 + 3) = y3 at *
      generalize nth fs (k * 6 + 4) = x4 at *
      generalize nth fs ((k + 1) % n * 6 + 4) = y4 at *
      generalize nth fs (k * 6 + 5) = x5 at *
      generalize nth fs ((k + 1) % n * 6 + 5) = y5 at *
      have hcs : (wr.cell? ⟨w.heap.size, k, none⟩).isSome = true := by rw [hcd]; rfl
      go_wp2_with fail
      go_region_held3 (fun w' => w'.cell? ⟨wr.heap.size, 0, none⟩ = some (.int .i64 x0) ∧ w'.cell? ⟨wr.heap.size, 1, none⟩ = some (.int .i64 x1) ∧ w'.cell? ⟨wr.heap.size, 2, none⟩ = some (.int .i64 x2) ∧ w'.cell? ⟨wr.heap.size, 3, none⟩ = some (.int .i64 x3) ∧ w'.cell? ⟨wr.heap.size, 4, none⟩ = some (.int .i64 x4) ∧ w'.cell? ⟨wr.heap.size, 5, none⟩ = some (.int .i64 x5) ∧ w'.cell? ⟨g, (k + 1) * 6, none⟩ = some (.int .i64 y0) ∧ w'.cell? ⟨g, (k + 1) * 6 + 1, none⟩ = some (.int .i64 y1) ∧ w'.cell? ⟨g, (k + 1) * 6 + 2, none⟩ = some (.int .i64 y2) ∧ w'.cell? ⟨g, (k + 1) * 6 + 3, none⟩ = some (.int .i64 y3) ∧ w'.cell? ⟨g, (k + 1) * 6 + 4, none⟩ = some (.int .i64 y4) ∧ w'.cell? ⟨g, (k + 1) * 6 + 5, none⟩ = some (.int .i64 y5) ∧ (w'.cell? ⟨w.heap.size, k, none⟩).isSome = true ∧ w'.frozen? ⟨w.heap.size, k, none⟩ = false) ((first | (go_simp; done) | (simp [*]; done)))
        ((go_at_call 26; refine (HF.out _ ?_).mono ?_; exact LT.below (w := w) hT (by (repeat (first | with_reducible exact Below.refl _ _ | with_reducible assumption | with_reducible refine below_drewN ?_ _ | with_reducible refine Below.drew ?_ | with_reducible refine Below.alloc ?_ (by first | omega | (simp; done) | (simp; omega)) _ | with_reducible refine Below.setCell ?_ (by first | omega | (simp; done) | (simp; omega)) _ | with_reducible refine Below.trans ?_ (Below.mono (by assumption) (by first | omega | (simp; done) | (simp; omega)))))) (Nat.le_refl _); rintro e w5 ⟨rfl, hb5⟩; (try replace hb5 := Below.undrew hb5); obtain ⟨hc5, hf5⟩ := bcell hb5; have hz5 := hb5.size; (try simp at hz5); have z5a : wr.heap.size < w5.heap.size := (by omega); have z5b : g < w5.heap.size := (by omega); have z5c : w.heap.size < w5.heap.size := (by omega)))
      all_goals
        go_wp2_with fail
        go_roundw
        case rel =>
          have hw : Below wr.heap.size wr w5 := by (repeat (first | with_reducible exact Below.refl _ _ | with_reducible assumption | with_reducible refine below_drewN ?_ _ | with_reducible refine Below.drew ?_ | with_reducible refine Below.alloc ?_ (by first | omega | (simp; done) | (simp; omega)) _ | with_reducible refine Below.setCell ?_ (by first | omega | (simp; done) | (simp; omega)) _ | with_reducible refine Below.trans ?_ (Below.mono (by assumption) (by first | omega | (simp; done) | (simp; omega)))))
          have hs := tabZ_step hlt (own_below hown hw (Nat.le_refl _))
          rw [HE.out] at hs
          exact ⟨k + 1, by omega, by go_num, hs, (hbel.trans (hw.mono (Nat.le_of_lt hwr))).setCell (p := ⟨w.heap.size, k, none⟩) (Nat.le_refl _) _, Cells.set (hlp.below hw hgr) hgn k _, by simp; omega, by simp; omega⟩
        case measure => simp [intOf]; omega
    · go_wp2_with fail
      go_ret
      obtain rfl : k = n := by omega
      rw [tabZ_all] at hown
      exact ⟨_, rfl, hown, hbel⟩

/-! ### One turn -/
/-- By how much the directions turn behind side k, and all in all ahead of it. -/
noncomputable def trn (n : Nat) (fs : List Int) (k : Nat) : Int := (dAt n fs ((k + 1) % n) - dAt n fs k + 16) % 16
noncomputable def trS (n : Nat) (fs : List Int) : Nat → Int
  | 0 => 0
  | k + 1 => trS n fs k + trn n fs k
theorem trn_range (n : Nat) (fs : List Int) (k : Nat) : 0 ≤ trn n fs k ∧ trn n fs k ≤ 15 := by unfold trn; omega
theorem trS_range (n : Nat) (fs : List Int) : ∀ k, 0 ≤ trS n fs k ∧ trS n fs k ≤ 15 * (k : Int)
  | 0 => by simp [trS]
  | k + 1 => by have := trS_range n fs k; have := trn_range n fs k; simp only [trS]; push_cast; omega
def TurnP (n : Nat) (fs : List Int) : Prop := (∀ k, k < n → 0 ≤ dAt n fs k) ∧ (∀ k, k < n → 1 ≤ trn n fs k ∧ trn n fs k ≤ 7) ∧ trS n fs n = 16
theorem loopI_at {d : Nat → Int} {n k : Nat} (hn : 0 < n) (hk : k < n) : nth (tab d n ++ (tab d n).take 1) (k + 1) = d ((k + 1) % n) := by
  by_cases h : k + 1 < n
  · rw [Nat.mod_eq_of_lt h, nth_app (by rw [tab_len]; exact h), tab_nth h]
  · obtain rfl : n = k + 1 := by omega
    rw [Nat.mod_self]
    have := nth_app2 (xs := tab d (k + 1)) (ys := (tab d (k + 1)).take 1) (k := 0) (by rw [List.length_take, tab_len]; omega)
    rw [tab_len, Nat.add_zero] at this
    rw [this, nth_take (by omega) (by rw [tab_len]; omega), tab_nth (by omega)]

set_option maxHeartbeats 8000000 in
theorem turnsO_any (v : Value) (n : Nat) (fs : List Int) (w : World) (h : SlF w w.heap.size v n fs) (h64 : C64 n fs) (hv : HCo n fs) (hT : LT true w) :
    Calls Tryd.prog 88 #[v] w (RetQb (TurnP n fs) w) := by
  have hn3 := hv.1
  have hn16 := hv.2.1
  have HS := Lib.hid (sideD_any v n fs w h h64 hv hT)
  obtain ⟨h6, A, c, rfl, hc, hcell⟩ := h
  clear hcell h6 h64 hv
  go_enter Tryd.func88, Tryd.ntmps88
  go_wp2_with fail
  refine (HS.out).mono ?_
  rintro e w1 ⟨v1, rfl, o1, b1⟩
  have ht1 : (tab (dAt n fs) n).length = n := tab_len _ _
  have O1 := Lib.hid o1
  clear o1
  go_wp2_with fail
  refine (contI_any v1 (tab (dAt n fs) n) (-1) _ (OwnI.sl O1.out) (by rw [ht1]; omega)).mono ?_
  rintro e w2 ⟨b, rfl, hb, b2⟩
  have B2 := b1.trans (b2.mono b1.size)
  cases b
  case true =>
    have HN := Lib.hid (hb.1 rfl)
    clear hb
    go_wp2_with fail
    go_ret
    refine ⟨false, rfl, iff_of_false (by simp) (fun h => ?_), B2⟩
    obtain ⟨k, hk, hx⟩ := HN.out
    rw [ht1] at hk
    rw [tab_nth hk] at hx
    have := h.1 k hk
    omega
  have HD : Hid (∀ k, k < n → 0 ≤ dAt n fs k) := Lib.hid (fun k hk => by
    have h1 := dAt_range n fs k
    by_cases hx : dAt n fs k = -1
    · exact absurd (hb.2 ⟨k, by rw [ht1]; exact hk, by rw [tab_nth hk]; exact hx⟩) (by simp)
    · omega)
  clear hb
  have o2 := own_below O1.out b2 (Nat.le_refl _)
  have O2 := Lib.hid o2
  clear O1
  go_wp2_with fail
  refine (circI_any v1 (tab (dAt n fs) n) _ (OwnI.sl O2.out) (by rw [ht1]; omega) (by rw [ht1]; omega)).mono ?_
  rintro e w3 ⟨v2, rfl, o3, b3⟩
  have B3 := B2.trans (b3.mono B2.size)
  have o1' := own_below O2.out b3 (Nat.le_refl _)
  have hl2 : (tab (dAt n fs) n ++ (tab (dAt n fs) n).take 1).length = n + 1 := by rw [List.length_append, List.length_take, ht1]; omega
  obtain ⟨A1, c1, rfl, hc1, hs1⟩ := OwnI.sl o1'
  obtain ⟨g1, off1, rfl, hg1, C1⟩ := hs1 (by rw [ht1]; omega)
  obtain ⟨A2, c2, rfl, hc2, hs2⟩ := OwnI.sl o3
  obtain ⟨g2, off2, rfl, hg2, C2⟩ := hs2 (by rw [hl2]; omega)
  rw [ht1] at hc1 ⊢
  rw [hl2] at hc2 ⊢
  have K1 := Lib.hid C1
  have K2 := Lib.hid C2
  clear o1' o3 hs1 hs2 O2 C1 C2 o2
  go_wp2_with fail
  go_loopw [4, 17] (fun q i wr => ∃ k : Nat, k ≤ n ∧ i = .int .i64 k ∧ q = .int .i64 (trS n fs k) ∧ Hid (∀ j, j < k → 1 ≤ trn n fs j ∧ trn n fs j ≤ 7) ∧ wr = w3) (fun _ i _ => n - (intOf i).toNat)
  case atStart => exact ⟨0, Nat.zero_le _, rfl, rfl, Lib.hid (fun j hj => absurd hj (by omega)), rfl⟩
  case round =>
    obtain ⟨k, hk, rfl, rfl, hall, rfl⟩ := hrel
    by_cases hlt : k < n
    · have hx1 : wr.cell? ⟨g1, off1 + k, none⟩ = some (.int .i64 (dAt n fs k)) := by rw [K1.out k (by rw [ht1]; exact hlt), tab_nth hlt]
      have hx2 : wr.cell? ⟨g2, off2 + (k + 1), none⟩ = some (.int .i64 (dAt n fs ((k + 1) % n))) := by rw [K2.out (k + 1) (by rw [hl2]; omega), loopI_at (by omega) hlt]
      have r1 := HD.out k hlt
      have r2 := HD.out ((k + 1) % n) (Nat.mod_lt _ (by omega))
      have r3 := dAt_range n fs k
      have r4 := dAt_range n fs ((k + 1) % n)
      have r5 := trS_range n fs k
      have r6 := trn_range n fs k
      have HT : Hid (Int.tmod (dAt n fs ((k + 1) % n) - dAt n fs k + 16) 16 = trn n fs k) := Lib.hid (by unfold trn; exact Int.tmod_eq_emod_of_nonneg (by omega))
      have HSu : Hid (trS n fs k + trn n fs k = trS n fs (k + 1)) := Lib.hid rfl
      obtain ⟨D, hD⟩ : ∃ D, dAt n fs k = D := ⟨_, rfl⟩
      obtain ⟨E, hE⟩ : ∃ E, dAt n fs ((k + 1) % n) = E := ⟨_, rfl⟩
      obtain ⟨t, ht⟩ : ∃ t, trn n fs k = t := ⟨_, rfl⟩
      obtain ⟨S, hS⟩ : ∃ S, trS n fs k = S := ⟨_, rfl⟩
      have HTT := Lib.hid ht
      rw [hD] at hx1 r1 r3 HT
      rw [hE] at hx2 r2 r4 HT
      rw [ht] at HT HSu r6
      rw [hS] at HSu r5 ⊢
      clear hD hE ht hS
      have e1 : IntKind.i64.wrap ((k : Int) + 1) = (k : Int) + 1 := wrap_in (by omega) (by omega)
      have e2 : IntKind.i64.wrap (E - D) = E - D := wrap_in (by omega) (by omega)
      have e3 : IntKind.i64.wrap (E - D + 16) = E - D + 16 := wrap_in (by omega) (by omega)
      have e4 : IntKind.i64.wrap (S + t) = S + t := wrap_in (by omega) (by omega)
      have e5 : Int.tmod (E - D + 16) 16 = t := HT.out
      have e6 : IntKind.i64.wrap t = t := wrap_in (by omega) (by omega)
      have hk1 : ((k : Int) + 1).toNat = k + 1 := by omega
      have j0 : (0 : Int) ≤ (k : Int) := by omega
      have j1 : (k : Int) < (n : Int) := by omega
      have j2 : (0 : Int) ≤ (k : Int) + 1 := by omega
      have j4 : (k : Int) + 1 < (n : Int) + 1 := by omega
      by_cases h0 : t = 0
      · have HN := HTT.out
        subst h0
        go_wp2_with fail
        go_ret
        exact ⟨false, rfl, iff_of_false (by simp) (fun h => by have := (h.2.1 k hlt).1; omega), B3⟩
      · have h0' : (t == 0) = false := by simp [h0]
        by_cases h8 : 8 ≤ t
        · have HN := HTT.out
          go_wp2_with fail
          go_ret
          exact ⟨false, rfl, iff_of_false (by simp) (fun h => by have := (h.2.1 k hlt).2; omega), B3⟩
        · have h8' : ¬ (8 : Int) ≤ t := h8
          have h1t : 1 ≤ t := by omega
          clear h0
          go_wp2_with fail
          go_roundw
          case rel => exact ⟨k + 1, by omega, by go_num, by rw [HSu.out], Lib.hid (fun j hj => by
            rcases Nat.lt_or_ge j k with h | h
            · exact hall.out j h
            · obtain rfl : j = k := by omega
              have := HTT.out
              omega), by first | rfl | trivial⟩
          case measure => simp [intOf]; omega
    · obtain rfl : k = n := by omega
      go_wp2_with fail
      go_ret
      refine ⟨trS k fs k == 16, rfl, ?_, B3⟩
      rw [beq_iff_eq]
      exact ⟨fun h => ⟨HD.out, hall.out, h⟩, fun h => h.2.2⟩
end Pol
end Go.Proofs.YtafbdnjabgfjeaaDoor
