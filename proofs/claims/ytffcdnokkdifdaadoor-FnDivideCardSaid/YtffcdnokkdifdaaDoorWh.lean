/- DivNum of the program: its contract. -/
import Derived.Test.YtffcdnokkdifdaaDoorWg
namespace Go.Proofs.YtffcdnokkdifdaaDoor
open Go Go.RowKit OriM

theorem div_zero {a' b' k' : Int} (hy : validB a' b' k' = true) (h : Q.normOf (q a' b' k') = 0) : eqB a' b' k' 0 0 0 = true := by
  obtain ⟨ha, hb⟩ := Q.norm_zero h
  obtain ⟨_, _, _, _, k0, _⟩ := valid_bounds hy
  have hc := (q_valid hy).2
  simp only [q] at ha hb
  subst ha hb
  have hk : k' = 0 := by
    rcases hc with h | h | h
    · simp [q] at h; omega
    · simp [q] at h
    · simp [q] at h
  simp [eqB, hk]

theorem div_nonzero {a' b' k' : Int} (h : Q.normOf (q a' b' k') ≠ 0) : eqB a' b' k' 0 0 0 = false := by
  rw [Bool.eq_false_iff]
  intro e
  simp [eqB] at e
  obtain ⟨rfl, rfl, _⟩ := e
  simp [Q.normOf, q] at h

theorem divN_none {x y : Q} (h : ¬ Q.quotOk x y) : optV (Q.divN x y) = numOk 0 0 0 false := by
  unfold Q.divN
  rw [if_neg h]
  rfl

set_option maxRecDepth 100000 in
theorem DivNum_ok {a b k a' b' k' : Int} (hx : validB a b k = true) (hy : validB a' b' k' = true) (h : I3 a b k) (h' : I3 a' b' k') (w : World) (hT : TzTab w) :
    Calls Tryd.prog 29 #[num a b k, num a' b' k'] w (RetB (optV (Q.divN (q a b k) (q a' b' k'))) w) := by
  have HX := Lib.hid (fun w hT => hx ▸ valid_i3 a b k h w hT)
  have HY := Lib.hid (fun w hT => hy ▸ valid_i3 a' b' k' h' w hT)
  have heq := eq_run a' b' k' 0 0 0
  by_cases hn : Q.normOf (q a' b' k') = 0
  · rw [div_zero hy hn] at heq
    rw [divN_none (fun g => g.1 hn)]
    clear hx hy h h' hn
    go_enter Tryd.func29, Tryd.ntmps29
    go_wp2_with fail
    refine (HX.out _ ?_).mono ?_; (repeat (first | with_reducible assumption | with_reducible apply TzTab.drew | with_reducible apply TzTab.alloc))
    rintro e w1 ⟨rfl, hb1⟩; (try replace hb1 := Below.undrew hb1); obtain ⟨hc1, hf1⟩ := bcell hb1; have hT1 := TzTab.below (by (repeat (first | with_reducible assumption | with_reducible apply TzTab.drew | with_reducible apply TzTab.alloc))) hb1 (Nat.le_refl _); have hz1 := hb1.size; (try simp at hz1); have hz1a : w.heap.size < w1.heap.size := (by omega); have hz1b : w.heap.size + 1 < w1.heap.size := (by omega); have hz1c : w.heap.size + 1 + 1 < w1.heap.size := (by omega)
    go_wp2_with fail
    refine (HY.out _ ?_).mono ?_; (repeat (first | with_reducible assumption | with_reducible apply TzTab.drew | with_reducible apply TzTab.alloc))
    rintro e w2 ⟨rfl, hb2⟩; (try replace hb2 := Below.undrew hb2); obtain ⟨hc2, hf2⟩ := bcell hb2; have hT2 := TzTab.below (by (repeat (first | with_reducible assumption | with_reducible apply TzTab.drew | with_reducible apply TzTab.alloc))) hb2 (Nat.le_refl _); have hz2 := hb2.size; (try simp at hz2); have hz2a : w.heap.size < w2.heap.size := (by omega); have hz2b : w.heap.size + 1 < w2.heap.size := (by omega); have hz2c : w.heap.size + 1 + 1 < w2.heap.size := (by omega)
    go_wp2_with fail
    exact bodyPost_ret (v := numOk 0 0 0 false) (by simp [results, Tryd.results29, go_sem, *]) rfl ⟨rfl, by (repeat (first | with_reducible exact Below.refl _ _ | with_reducible refine Below.drew ?_ | with_reducible refine Below.alloc ?_ (by first | omega | (simp; done) | (simp; omega)) _ | with_reducible refine Below.setCell ?_ (by first | omega | (simp; done) | (simp; omega)) _ | with_reducible refine Below.trans ?_ (Below.mono (by assumption) (by first | omega | (simp; done) | (simp; omega)))))⟩
  · rw [div_nonzero hn] at heq
    rcases over_any hx hy hn with ⟨hq, ho⟩ | ⟨hq, rA, rB, rK, he, k0, k1, a1, a2, b1, b2, ho⟩
    · rw [divN_none hq]
      have HO := Lib.hid ho
      clear hx hy h h' hn hq ho
      go_enter Tryd.func29, Tryd.ntmps29
      go_wp2_with fail
      refine (HX.out _ ?_).mono ?_; (repeat (first | with_reducible assumption | with_reducible apply TzTab.drew | with_reducible apply TzTab.alloc))
      rintro e w1 ⟨rfl, hb1⟩; (try replace hb1 := Below.undrew hb1); obtain ⟨hc1, hf1⟩ := bcell hb1; have hT1 := TzTab.below (by (repeat (first | with_reducible assumption | with_reducible apply TzTab.drew | with_reducible apply TzTab.alloc))) hb1 (Nat.le_refl _); have hz1 := hb1.size; (try simp at hz1); have hz1a : w.heap.size < w1.heap.size := (by omega); have hz1b : w.heap.size + 1 < w1.heap.size := (by omega); have hz1c : w.heap.size + 1 + 1 < w1.heap.size := (by omega)
      go_wp2_with fail
      refine (HY.out _ ?_).mono ?_; (repeat (first | with_reducible assumption | with_reducible apply TzTab.drew | with_reducible apply TzTab.alloc))
      rintro e w2 ⟨rfl, hb2⟩; (try replace hb2 := Below.undrew hb2); obtain ⟨hc2, hf2⟩ := bcell hb2; have hT2 := TzTab.below (by (repeat (first | with_reducible assumption | with_reducible apply TzTab.drew | with_reducible apply TzTab.alloc))) hb2 (Nat.le_refl _); have hz2 := hb2.size; (try simp at hz2); have hz2a : w.heap.size < w2.heap.size := (by omega); have hz2b : w.heap.size + 1 < w2.heap.size := (by omega); have hz2c : w.heap.size + 1 + 1 < w2.heap.size := (by omega)
      go_wp2_with fail
      refine (HO.out _ ?_).mono ?_; (repeat (first | with_reducible assumption | with_reducible apply TzTab.drew | with_reducible apply TzTab.alloc))
      rintro e w3 ⟨rfl, hb3⟩; (try replace hb3 := Below.undrew hb3); obtain ⟨hc3, hf3⟩ := bcell hb3; have hT3 := TzTab.below (by (repeat (first | with_reducible assumption | with_reducible apply TzTab.drew | with_reducible apply TzTab.alloc))) hb3 (Nat.le_refl _); have hz3 := hb3.size; (try simp at hz3); have hz3a : w.heap.size < w3.heap.size := (by omega); have hz3b : w.heap.size + 1 < w3.heap.size := (by omega); have hz3c : w.heap.size + 1 + 1 < w3.heap.size := (by omega)
      go_wp2_with fail
      exact bodyPost_ret (v := numOk 0 0 0 false) (by simp [results, Tryd.results29, go_sem, *]) rfl ⟨rfl, by (repeat (first | with_reducible exact Below.refl _ _ | with_reducible refine Below.drew ?_ | with_reducible refine Below.alloc ?_ (by first | omega | (simp; done) | (simp; omega)) _ | with_reducible refine Below.setCell ?_ (by first | omega | (simp; done) | (simp; omega)) _ | with_reducible refine Below.trans ?_ (Below.mono (by assumption) (by first | omega | (simp; done) | (simp; omega)))))⟩
    · have e : optV (Q.divN (q a b k) (q a' b' k')) = numOk (limA rA rB rK) (limB rA rB rK) (limK rA rB rK) (limO rA rB rK) := by
        unfold Q.divN
        rw [if_pos hq, ← Q.lim_of_eqv he, optV_lim]
      rw [e]
      have HO := Lib.hid ho
      have HL := Lib.hid (fun w hT => limited_any rA rB rK w (by omega) (by omega) (by omega) (by omega) k0 k1 hT)
      clear hx hy h h' hn hq ho he k0 k1 a1 a2 b1 b2 e
      generalize limA rA rB rK = sA at *
      generalize limB rA rB rK = sB at *
      generalize limK rA rB rK = sK at *
      generalize limO rA rB rK = sO at *
      go_enter Tryd.func29, Tryd.ntmps29
      go_wp2_with fail
      refine (HX.out _ ?_).mono ?_; (repeat (first | with_reducible assumption | with_reducible apply TzTab.drew | with_reducible apply TzTab.alloc))
      rintro e w1 ⟨rfl, hb1⟩; (try replace hb1 := Below.undrew hb1); obtain ⟨hc1, hf1⟩ := bcell hb1; have hT1 := TzTab.below (by (repeat (first | with_reducible assumption | with_reducible apply TzTab.drew | with_reducible apply TzTab.alloc))) hb1 (Nat.le_refl _); have hz1 := hb1.size; (try simp at hz1); have hz1a : w.heap.size < w1.heap.size := (by omega); have hz1b : w.heap.size + 1 < w1.heap.size := (by omega); have hz1c : w.heap.size + 1 + 1 < w1.heap.size := (by omega)
      go_wp2_with fail
      refine (HY.out _ ?_).mono ?_; (repeat (first | with_reducible assumption | with_reducible apply TzTab.drew | with_reducible apply TzTab.alloc))
      rintro e w2 ⟨rfl, hb2⟩; (try replace hb2 := Below.undrew hb2); obtain ⟨hc2, hf2⟩ := bcell hb2; have hT2 := TzTab.below (by (repeat (first | with_reducible assumption | with_reducible apply TzTab.drew | with_reducible apply TzTab.alloc))) hb2 (Nat.le_refl _); have hz2 := hb2.size; (try simp at hz2); have hz2a : w.heap.size < w2.heap.size := (by omega); have hz2b : w.heap.size + 1 < w2.heap.size := (by omega); have hz2c : w.heap.size + 1 + 1 < w2.heap.size := (by omega)
      go_wp2_with fail
      refine (HO.out _ ?_).mono ?_; (repeat (first | with_reducible assumption | with_reducible apply TzTab.drew | with_reducible apply TzTab.alloc))
      rintro e w3 ⟨rfl, hb3⟩; (try replace hb3 := Below.undrew hb3); obtain ⟨hc3, hf3⟩ := bcell hb3; have hT3 := TzTab.below (by (repeat (first | with_reducible assumption | with_reducible apply TzTab.drew | with_reducible apply TzTab.alloc))) hb3 (Nat.le_refl _); have hz3 := hb3.size; (try simp at hz3); have hz3a : w.heap.size < w3.heap.size := (by omega); have hz3b : w.heap.size + 1 < w3.heap.size := (by omega); have hz3c : w.heap.size + 1 + 1 < w3.heap.size := (by omega)
      go_wp2_with fail
      refine (HL.out _ ?_).mono ?_; (repeat (first | with_reducible assumption | with_reducible apply TzTab.drew | with_reducible apply TzTab.alloc))
      rintro e w4 ⟨rfl, hb4⟩; (try replace hb4 := Below.undrew hb4); obtain ⟨hc4, hf4⟩ := bcell hb4; have hT4 := TzTab.below (by (repeat (first | with_reducible assumption | with_reducible apply TzTab.drew | with_reducible apply TzTab.alloc))) hb4 (Nat.le_refl _); have hz4 := hb4.size; (try simp at hz4); have hz4a : w.heap.size < w4.heap.size := (by omega); have hz4b : w.heap.size + 1 < w4.heap.size := (by omega); have hz4c : w.heap.size + 1 + 1 < w4.heap.size := (by omega)
      go_wp2_with fail
      exact bodyPost_ret (v := numOk sA sB sK sO) (by simp [results, Tryd.results29, go_sem, *]) rfl ⟨rfl, by (repeat (first | with_reducible exact Below.refl _ _ | with_reducible refine Below.drew ?_ | with_reducible refine Below.alloc ?_ (by first | omega | (simp; done) | (simp; omega)) _ | with_reducible refine Below.setCell ?_ (by first | omega | (simp; done) | (simp; omega)) _ | with_reducible refine Below.trans ?_ (Below.mono (by assumption) (by first | omega | (simp; done) | (simp; omega)))))⟩
end Go.Proofs.YtffcdnokkdifdaaDoor
