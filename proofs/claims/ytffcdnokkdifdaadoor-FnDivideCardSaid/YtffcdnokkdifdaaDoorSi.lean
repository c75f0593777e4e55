/- DivNum of the model: its contract; the walk of its law. -/
import Derived.Test.YtffcdnokkdifdaaDoorSh
import Derived.Test.YtffcdnokkdifdaaDoorLb
namespace Go.Proofs.YtffcdnokkdifdaaDoor
open Go Go.RowKit OriM

theorem raw_bounds {a b k a' b' k' : Int} (hx : validB a b k = true) (hy : validB a' b' k' = true) (h : Q.quotOk (q a b k) (q a' b' k')) :
    ∃ lA lB : Int, ∃ lK : Nat, rawV (q a b k) (q a' b' k') = numOk lA lB lK true ∧ -9223372036854775808 ≤ lA ∧ lA ≤ 9223372036854775807 ∧ -9223372036854775808 ≤ lB ∧ lB ≤ 9223372036854775807 ∧ lK ≤ 64 ∧
      optV (Q.divN (q a b k) (q a' b' k')) = numOk (limA lA lB lK) (limB lA lB lK) (limK lA lB lK) (limO lA lB lK) := by
  rcases over_any hx hy h.1 with ⟨hq, _⟩ | ⟨_, rA, rB, rK, he, k0, k1, a1, a2, b1, b2, _⟩
  · exact absurd h hq
  · obtain ⟨e1, e2, e3⟩ := OriM.low_of_eqv he
    refine ⟨lowA rA rB rK.toNat, lowB rA rB rK.toNat, lowK rA rB rK.toNat, ?_, ?_⟩
    · unfold rawV
      rw [← e1, ← e2, ← e3]
      rfl
    · have d1 := div_bound (a := rA) (twos rK.toNat rA rB) (by omega) (by omega)
      have d2 := div_bound (a := rB) (twos rK.toNat rA rB) (by omega) (by omega)
      refine ⟨d1.1, d1.2, d2.1, d2.2, by unfold lowK; omega, ?_⟩
      rw [← optV_lim]
      unfold Q.divN
      rw [if_pos h]
      congr 1
      rw [← Q.lim_of_eqv he]
      exact (Q.lim_of_eqv (Q.low_eqv (q rA rB rK))).symm

/-- Behind the division: its answer lies somewhere. -/
def CutD (w : World) (lA lB lK : Int) (lO : Bool) (s6 s7 : Value) (wr : World) : Prop := ∃ g : Nat, s6 = .pointer (some ⟨g, 0, none⟩) ∧ s7 = .bool lO ∧ w.heap.size + 1 + 1 < g ∧ g < wr.heap.size ∧ Below w.heap.size w wr ∧
  wr.cell? ⟨w.heap.size + 1 + 1, 0, none⟩ = some (.int .i64 0) ∧ wr.cell? ⟨w.heap.size + 1 + 1, 1, none⟩ = some (.int .i64 0) ∧ wr.cell? ⟨w.heap.size + 1 + 1, 2, none⟩ = some (.int .i64 0) ∧
  wr.frozen? ⟨w.heap.size + 1 + 1, 0, none⟩ = false ∧ wr.frozen? ⟨w.heap.size + 1 + 1, 1, none⟩ = false ∧ wr.frozen? ⟨w.heap.size + 1 + 1, 2, none⟩ = false ∧
  wr.cell? ⟨g, 0, none⟩ = some (.int .i64 lA) ∧ wr.cell? ⟨g, 1, none⟩ = some (.int .i64 lB) ∧ wr.cell? ⟨g, 2, none⟩ = some (.int .i64 lK)

set_option maxHeartbeats 2000000 in
set_option maxRecDepth 100000 in
theorem sDivNum_core (a b k a' b' k' lA lB lK rA rB rK : Int) (lO rO : Bool) (w : World) (hx : validB a b k = true) (hy : validB a' b' k' = true)
    (HD : Hid (∀ w, Calls Tryd.prog 63 #[num a b k, num a' b' k'] w (RetB (numOk lA lB lK lO) w)))
    (HL : Hid (lO = true → ∀ w, Calls Tryd.prog 61 #[num lA lB lK] w (RetB (numOk rA rB rK rO) w))) (HN : Hid (lO = false → numOk rA rB rK rO = numOk 0 0 0 false)) :
    Calls Tryd.prog 30 #[num a b k, num a' b' k'] w (RetB (numOk rA rB rK rO) w) := by
  have HX := Lib.hid (fun w => hx ▸ l01Ok_any a b k w)
  have HY := Lib.hid (fun w => hy ▸ l01Ok_any a' b' k' w)
  have OX := Lib.hid (lOf_any a b k)
  have OY := Lib.hid (lOf_any a' b' k')
  clear hx hy
  go_enter Tryd.func30, Tryd.ntmps30
  go_wp2_with fail
  refine (HX.out _).mono ?_
  rintro e w1 ⟨rfl, hb1⟩; (try replace hb1 := Below.undrew hb1); obtain ⟨hc1, hf1⟩ := bcell hb1; have hz1 := hb1.size; (try simp at hz1); have hz1a : w.heap.size < w1.heap.size := (by omega); (try have hz1b : w.heap.size + 1 < w1.heap.size := (by omega)); (try have hz1c : w.heap.size + 1 + 1 < w1.heap.size := (by omega))
  go_wp2_with fail
  refine (HY.out _).mono ?_
  rintro e w2 ⟨rfl, hb2⟩; (try replace hb2 := Below.undrew hb2); obtain ⟨hc2, hf2⟩ := bcell hb2; have hz2 := hb2.size; (try simp at hz2); have hz2a : w.heap.size < w2.heap.size := (by omega); (try have hz2b : w.heap.size + 1 < w2.heap.size := (by omega)); (try have hz2c : w.heap.size + 1 + 1 < w2.heap.size := (by omega)); (try have hz2_1 : w1.heap.size < w2.heap.size := (by omega))
  go_upto_region 3 with fail
  go_cut [6, 7] (CutD w lA lB lK lO)
  case first =>
    go_region_held3 (fun w' => w'.cell? ⟨w.heap.size, 0, none⟩ = some (.int .i64 a) ∧ w'.cell? ⟨w.heap.size, 1, none⟩ = some (.int .i64 b) ∧ w'.cell? ⟨w.heap.size, 2, none⟩ = some (.int .i64 k) ∧ w'.cell? ⟨w.heap.size + 1, 0, none⟩ = some (.int .i64 a') ∧ w'.cell? ⟨w.heap.size + 1, 1, none⟩ = some (.int .i64 b') ∧ w'.cell? ⟨w.heap.size + 1, 2, none⟩ = some (.int .i64 k')) ((first | (go_simp; done) | (simp [*]; done)))
      ((first
      | (go_at_call_of 64 (Value.agg #[Value.int IntKind.i64 a, Value.int IntKind.i64 b, Value.int IntKind.i64 k]); refine (OX.out _).mono ?_; rintro e w3 ⟨rfl, hb3⟩; (try replace hb3 := Below.undrew hb3); obtain ⟨hc3, hf3⟩ := bcell hb3; have hz3 := hb3.size; (try simp at hz3); have hz3a : w.heap.size < w3.heap.size := (by omega); (try have hz3b : w.heap.size + 1 < w3.heap.size := (by omega)); (try have hz3c : w.heap.size + 1 + 1 < w3.heap.size := (by omega)); (try have hz3_1 : w1.heap.size < w3.heap.size := (by omega)); (try have hz3_2 : w2.heap.size < w3.heap.size := (by omega)))
      | (go_at_call_of 64 (Value.agg #[Value.int IntKind.i64 a', Value.int IntKind.i64 b', Value.int IntKind.i64 k']); refine (OY.out _).mono ?_; rintro e w4 ⟨rfl, hb4⟩; (try replace hb4 := Below.undrew hb4); obtain ⟨hc4, hf4⟩ := bcell hb4; have hz4 := hb4.size; (try simp at hz4); have hz4a : w.heap.size < w4.heap.size := (by omega); (try have hz4b : w.heap.size + 1 < w4.heap.size := (by omega)); (try have hz4c : w.heap.size + 1 + 1 < w4.heap.size := (by omega)); (try have hz4_1 : w1.heap.size < w4.heap.size := (by omega)); (try have hz4_2 : w2.heap.size < w4.heap.size := (by omega)); (try have hz4_3 : w3.heap.size < w4.heap.size := (by omega)))
      | (go_at_call 63; refine (HD.out _).mono ?_; rintro e w5 ⟨rfl, hb5⟩; (try replace hb5 := Below.undrew hb5); obtain ⟨hc5, hf5⟩ := bcell hb5; have hz5 := hb5.size; (try simp at hz5); have hz5a : w.heap.size < w5.heap.size := (by omega); (try have hz5b : w.heap.size + 1 < w5.heap.size := (by omega)); (try have hz5c : w.heap.size + 1 + 1 < w5.heap.size := (by omega)); (try have hz5_1 : w1.heap.size < w5.heap.size := (by omega)); (try have hz5_2 : w2.heap.size < w5.heap.size := (by omega)); (try have hz5_3 : w3.heap.size < w5.heap.size := (by omega)); (try have hz5_4 : w4.heap.size < w5.heap.size := (by omega)))))
    all_goals (go_wp2_with fail; go_meet; exact ⟨_, rfl, rfl, (by first | omega | (simp; done) | (simp; omega)), (by first | omega | (simp; done) | (simp; omega)), by (repeat (first | with_reducible exact Below.refl _ _ | with_reducible refine Below.drew ?_ | with_reducible refine Below.alloc ?_ (by first | omega | (simp; done) | (simp; omega)) _ | with_reducible refine Below.setCell ?_ (by first | omega | (simp; done) | (simp; omega)) _ | with_reducible refine Below.trans ?_ (Below.mono (by assumption) (by first | omega | (simp; done) | (simp; omega))))), by simp [go_sem, *], by simp [go_sem, *], by simp [go_sem, *], by simp [go_sem, *], by simp [go_sem, *], by simp [go_sem, *], by simp [go_sem, *], by simp [go_sem, *], by simp [go_sem, *]⟩)
  case rest =>
    obtain ⟨wr, hwr⟩ : ∃ x, x = wc := ⟨_, rfl⟩
    subst hwr
    obtain ⟨g, rfl, rfl, hg, hgz, hB, y0, y1, y2, f0, f1, f2, z0, z1, z2⟩ := hcut
    have ha0 : w.heap.size + 1 + 1 < wr.heap.size := by omega
    cases lO
    · have E0 := Lib.hid (HN.out rfl)
      clear HN HL
      go_wp2_with fail
      exact bodyPost_ret (v := numOk 0 0 0 false) (by simp [results, Tryd.results30, go_sem, *]) rfl ⟨by rw [E0.out], by (repeat (first | with_reducible assumption | with_reducible refine Below.drew ?_ | with_reducible refine Below.alloc ?_ (by first | omega | (simp; done) | (simp; omega)) _ | with_reducible refine Below.setCell ?_ (by first | omega | (simp; done) | (simp; omega)) _ | with_reducible refine Below.trans ?_ (Below.mono (by assumption) (by first | omega | (simp; done) | (simp; omega)))))⟩
    · have HL' := Lib.hid (HL.out rfl)
      go_wp2_with fail
      refine (HL'.out _).mono ?_
      rintro e w6 ⟨rfl, hb6⟩; (try replace hb6 := Below.undrew hb6); obtain ⟨hc6, hf6⟩ := bcell hb6; have hz6 := hb6.size
      have hz6a : w.heap.size + 1 + 1 < w6.heap.size := (by omega)
      go_wp2_with fail
      exact bodyPost_ret (v := numOk rA rB rK rO) (by simp [results, Tryd.results30, go_sem, *]) rfl ⟨rfl, by (repeat (first | with_reducible assumption | with_reducible refine Below.drew ?_ | with_reducible refine Below.alloc ?_ (by first | omega | (simp; done) | (simp; omega)) _ | with_reducible refine Below.setCell ?_ (by first | omega | (simp; done) | (simp; omega)) _ | with_reducible refine Below.trans ?_ (Below.mono (by assumption) (by first | omega | (simp; done) | (simp; omega)))))⟩

/-- What a division answers. -/
noncomputable def divV (a b k a' b' k' : Int) : Value := optV (Q.divN (q a b k) (q a' b' k'))

theorem sDivNum_ok (a b k a' b' k' : Int) (hx : validB a b k = true) (hy : validB a' b' k' = true) (w : World) :
    Calls Tryd.prog 30 #[num a b k, num a' b' k'] w (RetB (divV a b k a' b' k') w) := by
  obtain ⟨D0, D1⟩ := lDiv_any hx hy
  by_cases h : Q.quotOk (q a b k) (q a' b' k')
  · obtain ⟨lA, lB, lK, e, a1, a2, b1, b2, k1, ev⟩ := raw_bounds hx hy h
    have HD := D1 h
    rw [e] at HD
    unfold divV
    rw [ev]
    exact sDivNum_core a b k a' b' k' lA lB lK _ _ _ true _ w hx hy (Lib.hid HD) (Lib.hid (fun _ w => lNum_any lA lB lK w a1 a2 b1 b2 k1)) (Lib.hid (fun h => by cases h))
  · unfold divV
    rw [divN_none h]
    exact sDivNum_core a b k a' b' k' 0 0 0 0 0 0 false false w hx hy (Lib.hid (D0 h)) (Lib.hid (fun h => by cases h)) (Lib.hid (fun _ => rfl))

theorem sDivNum_no (a b k a' b' k' : Int) (hv : (validB a b k && validB a' b' k') = false) (w : World) :
    Calls Tryd.prog 30 #[num a b k, num a' b' k'] w (RetB (numOk 0 0 0 false) w) := by
  by_cases hx : validB a b k = true
  · have hy : validB a' b' k' = false := by rw [hx] at hv; exact hv
    have HX := Lib.hid (fun w => hx ▸ l01Ok_any a b k w)
    have HY := Lib.hid (fun w => hy ▸ l01Ok_any a' b' k' w)
    clear hx hy hv
    go_enter Tryd.func30, Tryd.ntmps30
    go_wp2_with fail
    refine (HX.out _).mono ?_
    rintro e w1 ⟨rfl, hb1⟩; (try replace hb1 := Below.undrew hb1); obtain ⟨hc1, hf1⟩ := bcell hb1; have hz1 := hb1.size; (try simp at hz1); have hz1a : w.heap.size < w1.heap.size := (by omega); have hz1b : w.heap.size + 1 < w1.heap.size := (by omega); have hz1c : w.heap.size + 1 + 1 < w1.heap.size := (by omega)
    go_wp2_with fail
    refine (HY.out _).mono ?_
    rintro e w2 ⟨rfl, hb2⟩; (try replace hb2 := Below.undrew hb2); obtain ⟨hc2, hf2⟩ := bcell hb2; have hz2 := hb2.size; (try simp at hz2); have hz2a : w.heap.size < w2.heap.size := (by omega); have hz2b : w.heap.size + 1 < w2.heap.size := (by omega); have hz2c : w.heap.size + 1 + 1 < w2.heap.size := (by omega)
    go_wp2_with fail
    exact bodyPost_ret (v := numOk 0 0 0 false) (by simp [results, Tryd.results30, go_sem, *]) rfl ⟨rfl, by (repeat (first | with_reducible exact Below.refl _ _ | with_reducible refine Below.drew ?_ | with_reducible refine Below.alloc ?_ (by first | omega | (simp; done) | (simp; omega)) _ | with_reducible refine Below.setCell ?_ (by first | omega | (simp; done) | (simp; omega)) _ | with_reducible refine Below.trans ?_ (Below.mono (by assumption) (by first | omega | (simp; done) | (simp; omega)))))⟩
  · have HX := Lib.hid (fun w => (Bool.eq_false_iff.2 hx) ▸ l01Ok_any a b k w)
    clear hx hv
    go_enter Tryd.func30, Tryd.ntmps30
    go_wp2_with fail
    refine (HX.out _).mono ?_
    rintro e w1 ⟨rfl, hb1⟩; (try replace hb1 := Below.undrew hb1); obtain ⟨hc1, hf1⟩ := bcell hb1; have hz1 := hb1.size; (try simp at hz1); have hz1a : w.heap.size < w1.heap.size := (by omega); have hz1b : w.heap.size + 1 < w1.heap.size := (by omega); have hz1c : w.heap.size + 1 + 1 < w1.heap.size := (by omega)
    go_wp2_with fail
    exact bodyPost_ret (v := numOk 0 0 0 false) (by simp [results, Tryd.results30, go_sem, *]) rfl ⟨rfl, by (repeat (first | with_reducible exact Below.refl _ _ | with_reducible refine Below.drew ?_ | with_reducible refine Below.alloc ?_ (by first | omega | (simp; done) | (simp; omega)) _ | with_reducible refine Below.setCell ?_ (by first | omega | (simp; done) | (simp; omega)) _ | with_reducible refine Below.trans ?_ (Below.mono (by assumption) (by first | omega | (simp; done) | (simp; omega)))))⟩

theorem DivNum_no (a b k a' b' k' : Int) (hv : (validB a b k && validB a' b' k') = false) (h : I3 a b k) (h' : I3 a' b' k') (w : World) (hT : TzTab w) :
    Calls Tryd.prog 29 #[num a b k, num a' b' k'] w (RetB (numOk 0 0 0 false) w) := by
  by_cases hx : validB a b k = true
  · have hy : validB a' b' k' = false := by rw [hx] at hv; exact hv
    have HX := Lib.hid (fun w hT => hx ▸ valid_i3 a b k h w hT)
    have HY := Lib.hid (fun w hT => hy ▸ valid_i3 a' b' k' h' w hT)
    clear hx hy h h' hv
    go_enter Tryd.func29, Tryd.ntmps29
    go_wp2_with fail
    refine (HX.out _ ?_).mono ?_; (repeat (first | with_reducible assumption | with_reducible apply TzTab.drew | with_reducible apply TzTab.alloc))
    rintro e w1 ⟨rfl, hb1⟩; (try replace hb1 := Below.undrew hb1); obtain ⟨hc1, hf1⟩ := bcell hb1; have hT1 := TzTab.below (by (repeat (first | with_reducible assumption | with_reducible apply TzTab.drew | with_reducible apply TzTab.alloc))) hb1 (Nat.le_refl _); have hz1 := hb1.size; (try simp at hz1); have hz1a : w.heap.size < w1.heap.size := (by omega); have hz1b : w.heap.size + 1 < w1.heap.size := (by omega); have hz1c : w.heap.size + 1 + 1 < w1.heap.size := (by omega)
    go_wp2_with fail
    refine (HY.out _ ?_).mono ?_; (repeat (first | with_reducible assumption | with_reducible apply TzTab.drew | with_reducible apply TzTab.alloc))
    rintro e w2 ⟨rfl, hb2⟩; (try replace hb2 := Below.undrew hb2); obtain ⟨hc2, hf2⟩ := bcell hb2; have hT2 := TzTab.below (by (repeat (first | with_reducible assumption | with_reducible apply TzTab.drew | with_reducible apply TzTab.alloc))) hb2 (Nat.le_refl _); have hz2 := hb2.size; (try simp at hz2); have hz2a : w.heap.size < w2.heap.size := (by omega); have hz2b : w.heap.size + 1 < w2.heap.size := (by omega); have hz2c : w.heap.size + 1 + 1 < w2.heap.size := (by omega)
    go_wp2_with fail
    exact bodyPost_ret (v := numOk 0 0 0 false) (by simp [results, Tryd.results29, go_sem, *]) rfl ⟨rfl, by (repeat (first | with_reducible exact Below.refl _ _ | with_reducible refine Below.drew ?_ | with_reducible refine Below.alloc ?_ (by first | omega | (simp; done) | (simp; omega)) _ | with_reducible refine Below.setCell ?_ (by first | omega | (simp; done) | (simp; omega)) _ | with_reducible refine Below.trans ?_ (Below.mono (by assumption) (by first | omega | (simp; done) | (simp; omega)))))⟩
  · have HX := Lib.hid (fun w hT => (Bool.eq_false_iff.2 hx) ▸ valid_i3 a b k h w hT)
    clear hx h h' hv
    go_enter Tryd.func29, Tryd.ntmps29
    go_wp2_with fail
    refine (HX.out _ ?_).mono ?_; (repeat (first | with_reducible assumption | with_reducible apply TzTab.drew | with_reducible apply TzTab.alloc))
    rintro e w1 ⟨rfl, hb1⟩; (try replace hb1 := Below.undrew hb1); obtain ⟨hc1, hf1⟩ := bcell hb1; have hT1 := TzTab.below (by (repeat (first | with_reducible assumption | with_reducible apply TzTab.drew | with_reducible apply TzTab.alloc))) hb1 (Nat.le_refl _); have hz1 := hb1.size; (try simp at hz1); have hz1a : w.heap.size < w1.heap.size := (by omega); have hz1b : w.heap.size + 1 < w1.heap.size := (by omega); have hz1c : w.heap.size + 1 + 1 < w1.heap.size := (by omega)
    go_wp2_with fail
    exact bodyPost_ret (v := numOk 0 0 0 false) (by simp [results, Tryd.results29, go_sem, *]) rfl ⟨rfl, by (repeat (first | with_reducible exact Below.refl _ _ | with_reducible refine Below.drew ?_ | with_reducible refine Below.alloc ?_ (by first | omega | (simp; done) | (simp; omega)) _ | with_reducible refine Below.setCell ?_ (by first | omega | (simp; done) | (simp; omega)) _ | with_reducible refine Below.trans ?_ (Below.mono (by assumption) (by first | omega | (simp; done) | (simp; omega)))))⟩

theorem sDivNum_any (a b k a' b' k' : Int) (w : World) :
    Calls Tryd.prog 30 #[num a b k, num a' b' k'] w (RetB (if validB a b k && validB a' b' k' then divV a b k a' b' k' else numOk 0 0 0 false) w) := by
  by_cases hv : (validB a b k && validB a' b' k') = true
  · rw [if_pos hv]; rw [Bool.and_eq_true] at hv; exact sDivNum_ok a b k a' b' k' hv.1 hv.2 w
  · rw [if_neg hv]; exact sDivNum_no a b k a' b' k' (by simpa using hv) w

theorem DivNum_any (a b k a' b' k' : Int) (h : I3 a b k) (h' : I3 a' b' k') (w : World) (hT : TzTab w) :
    Calls Tryd.prog 29 #[num a b k, num a' b' k'] w (RetB (if validB a b k && validB a' b' k' then divV a b k a' b' k' else numOk 0 0 0 false) w) := by
  by_cases hv : (validB a b k && validB a' b' k') = true
  · rw [if_pos hv]; rw [Bool.and_eq_true] at hv; exact DivNum_ok hv.1 hv.2 h h' w hT
  · rw [if_neg hv]; exact DivNum_no a b k a' b' k' (by simpa using hv) h h' w hT
end Go.Proofs.YtffcdnokkdifdaaDoor
