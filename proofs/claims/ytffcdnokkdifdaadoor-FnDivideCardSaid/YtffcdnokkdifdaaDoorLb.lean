/- The walks of the laws of MakeNum, AddNum, SubNum, MulNum. -/
import Derived.Test.YtffcdnokkdifdaaDoorSd
import Derived.Deep.DeepCutAuto
namespace Go.Proofs.YtffcdnokkdifdaaDoor
open Go Go.RowKit OriM

theorem eqNum_same (a b k : Int) (w : World) : Calls Tryd.prog 36 #[num a b k, num a b k] w (RetB (.bool true) w) := by
  have h := eqNum_any a b k a b k w
  rwa [show eqB a b k a b k = true by simp [eqB]] at h

/-- Behind the first statement: the model's answer lies in a block. -/
def Cut1 (w : World) (a b k a' b' k' rA rB rK : Int) (rO : Bool) (s5 s6 : Value) (wr : World) : Prop := ∃ g : Nat, s5 = .pointer (some ⟨g, 0, none⟩) ∧ s6 = .bool rO ∧ w.heap.size + 1 < g ∧ g < wr.heap.size ∧ Below w.heap.size w wr ∧
  wr.cell? ⟨w.heap.size, 0, none⟩ = some (.int .i64 a) ∧ wr.cell? ⟨w.heap.size, 1, none⟩ = some (.int .i64 b) ∧ wr.cell? ⟨w.heap.size, 2, none⟩ = some (.int .i64 k) ∧
  wr.cell? ⟨w.heap.size + 1, 0, none⟩ = some (.int .i64 a') ∧ wr.cell? ⟨w.heap.size + 1, 1, none⟩ = some (.int .i64 b') ∧ wr.cell? ⟨w.heap.size + 1, 2, none⟩ = some (.int .i64 k') ∧
  wr.cell? ⟨g, 0, none⟩ = some (.int .i64 rA) ∧ wr.cell? ⟨g, 1, none⟩ = some (.int .i64 rB) ∧ wr.cell? ⟨g, 2, none⟩ = some (.int .i64 rK)

/-- Behind the second one: both answers do. -/
def Cut2 (w : World) (g : Nat) (rA rB rK : Int) (rO : Bool) (s7 s8 : Value) (wr : World) : Prop := ∃ g' : Nat, s7 = .pointer (some ⟨g', 0, none⟩) ∧ s8 = .bool rO ∧ Below w.heap.size w wr ∧
  wr.cell? ⟨g, 0, none⟩ = some (.int .i64 rA) ∧ wr.cell? ⟨g, 1, none⟩ = some (.int .i64 rB) ∧ wr.cell? ⟨g, 2, none⟩ = some (.int .i64 rK) ∧
  wr.cell? ⟨g', 0, none⟩ = some (.int .i64 rA) ∧ wr.cell? ⟨g', 1, none⟩ = some (.int .i64 rB) ∧ wr.cell? ⟨g', 2, none⟩ = some (.int .i64 rK)

theorem pair_ex (c : Bool) (v : Value) (h : ∃ rA rB rK rO, v = numOk rA rB rK rO) : ∃ rA rB rK rO, (if c then v else numOk 0 0 0 false) = numOk rA rB rK rO := by
  cases c
  · exact ⟨0, 0, 0, false, rfl⟩
  · exact h

set_option maxHeartbeats 4000000 in
theorem exactAddNum.core (a b k a' b' k' rA rB rK : Int) (rO : Bool) (w : World) (hT : TzTab w)
    (HI : Hid (∀ w, TzTab w → Calls Tryd.prog 19 #[num a b k, num a' b' k'] w (RetB (numOk rA rB rK rO) w)))
    (HS : Hid (∀ w, Calls Tryd.prog 37 #[num a b k, num a' b' k'] w (RetB (numOk rA rB rK rO) w))) :
    Calls Tryd.prog 9 #[num a b k, num a' b' k'] w (RetB (.bool true) w) := by
  have NX := Lib.hid (toNum_any a b k)
  have NY := Lib.hid (toNum_any a' b' k')
  have HE := Lib.hid (eqNum_same rA rB rK)
  have hT' := Lib.hid hT
  go_enter Tryd.func9, Tryd.ntmps9
  go_upto_region 1 with fail
  go_cut [5, 6] (Cut1 w a b k a' b' k' rA rB rK rO)
  case first =>
    go_region_held3 (fun w' => w'.cell? ⟨w.heap.size, 0, none⟩ = some (.int .i64 a) ∧ w'.cell? ⟨w.heap.size, 1, none⟩ = some (.int .i64 b) ∧ w'.cell? ⟨w.heap.size, 2, none⟩ = some (.int .i64 k) ∧ w'.cell? ⟨w.heap.size + 1, 0, none⟩ = some (.int .i64 a') ∧ w'.cell? ⟨w.heap.size + 1, 1, none⟩ = some (.int .i64 b') ∧ w'.cell? ⟨w.heap.size + 1, 2, none⟩ = some (.int .i64 k')) ((first | (go_simp; done) | (simp [*]; done)))
      ((first
      | (go_at_call_of 33 (Value.agg #[Value.int IntKind.i64 a, Value.int IntKind.i64 b, Value.int IntKind.i64 k]); refine (NX.out _).mono ?_; rintro e w1 ⟨rfl, hb1⟩; (try replace hb1 := Below.undrew hb1); obtain ⟨hc1, hf1⟩ := bcell hb1; have hz1 := hb1.size; (try simp at hz1); have hz1a : w.heap.size < w1.heap.size := (by omega); (try have hz1b : w.heap.size + 1 < w1.heap.size := (by omega)); (try have hz1c : w.heap.size + 1 + 1 < w1.heap.size := (by omega)))
      | (go_at_call_of 33 (Value.agg #[Value.int IntKind.i64 a', Value.int IntKind.i64 b', Value.int IntKind.i64 k']); refine (NY.out _).mono ?_; rintro e w2 ⟨rfl, hb2⟩; (try replace hb2 := Below.undrew hb2); obtain ⟨hc2, hf2⟩ := bcell hb2; have hz2 := hb2.size; (try simp at hz2); have hz2a : w.heap.size < w2.heap.size := (by omega); (try have hz2b : w.heap.size + 1 < w2.heap.size := (by omega)); (try have hz2c : w.heap.size + 1 + 1 < w2.heap.size := (by omega)); (try have hz2_1 : w1.heap.size < w2.heap.size := (by omega)))
      | (go_at_call 37; refine (HS.out _).mono ?_; rintro e w3 ⟨rfl, hb3⟩; (try replace hb3 := Below.undrew hb3); obtain ⟨hc3, hf3⟩ := bcell hb3; have hz3 := hb3.size; (try simp at hz3); have hz3a : w.heap.size < w3.heap.size := (by omega); (try have hz3b : w.heap.size + 1 < w3.heap.size := (by omega)); (try have hz3c : w.heap.size + 1 + 1 < w3.heap.size := (by omega)); (try have hz3_1 : w1.heap.size < w3.heap.size := (by omega)); (try have hz3_2 : w2.heap.size < w3.heap.size := (by omega)))))
    all_goals (go_wp2_with fail; go_meet; exact ⟨_, rfl, rfl, (by first | omega | (simp; done) | (simp; omega)), (by first | omega | (simp; done) | (simp; omega)), by (repeat (first | with_reducible exact Below.refl _ _ | with_reducible refine Below.drew ?_ | with_reducible refine Below.alloc ?_ (by first | omega | (simp; done) | (simp; omega)) _ | with_reducible refine Below.setCell ?_ (by first | omega | (simp; done) | (simp; omega)) _ | with_reducible refine Below.trans ?_ (Below.mono (by assumption) (by first | omega | (simp; done) | (simp; omega))))), by simp [go_sem, *], by simp [go_sem, *], by simp [go_sem, *], by simp [go_sem, *], by simp [go_sem, *], by simp [go_sem, *], by simp [go_sem, *], by simp [go_sem, *], by simp [go_sem, *]⟩)
  case rest =>
    obtain ⟨wr, hwr⟩ : ∃ x, x = wc := ⟨_, rfl⟩
    subst hwr
    obtain ⟨g, rfl, rfl, hg1, hg2, hB, x0, x1, x2, y0, y1, y2, g0, g1, g2⟩ := hcut
    have hT2 := Lib.hid (TzTab.below hT'.out hB (Nat.le_refl _))
    go_upto_region 2 with fail
    go_cut [7, 8] (Cut2 w g rA rB rK rO)
    case first =>
      have hg1a : w.heap.size < wr.heap.size := by omega
      have hg1b : w.heap.size + 1 < wr.heap.size := by omega
      have ng0 : w.heap.size ≠ g := by omega
      have ng1 : w.heap.size + 1 ≠ g := by omega
      go_region_held3 (fun w' => w'.cell? ⟨w.heap.size, 0, none⟩ = some (.int .i64 a) ∧ w'.cell? ⟨w.heap.size, 1, none⟩ = some (.int .i64 b) ∧ w'.cell? ⟨w.heap.size, 2, none⟩ = some (.int .i64 k) ∧ w'.cell? ⟨w.heap.size + 1, 0, none⟩ = some (.int .i64 a') ∧ w'.cell? ⟨w.heap.size + 1, 1, none⟩ = some (.int .i64 b') ∧ w'.cell? ⟨w.heap.size + 1, 2, none⟩ = some (.int .i64 k') ∧ w'.cell? ⟨g, 0, none⟩ = some (.int .i64 rA) ∧ w'.cell? ⟨g, 1, none⟩ = some (.int .i64 rB) ∧ w'.cell? ⟨g, 2, none⟩ = some (.int .i64 rK)) ((first | (go_simp; done) | (simp [*]; done)))
        ((first
        | (go_at_call_of 33 (Value.agg #[Value.int IntKind.i64 a, Value.int IntKind.i64 b, Value.int IntKind.i64 k]); refine (NX.out _).mono ?_; rintro e w4 ⟨rfl, hb4⟩; (try replace hb4 := Below.undrew hb4); obtain ⟨hc4, hf4⟩ := bcell hb4; have hz4 := hb4.size; (try simp at hz4); have hz4a : w.heap.size < w4.heap.size := (by omega); (try have hz4b : w.heap.size + 1 < w4.heap.size := (by omega)); (try have hz4c : w.heap.size + 1 + 1 < w4.heap.size := (by omega)); (try have hz4_1 : w1.heap.size < w4.heap.size := (by omega)); (try have hz4_2 : w2.heap.size < w4.heap.size := (by omega)); (try have hz4_3 : w3.heap.size < w4.heap.size := (by omega)); have hz4g : g < w4.heap.size := (by omega); (try have hz4r : wr.heap.size < w4.heap.size := (by omega)))
        | (go_at_call_of 33 (Value.agg #[Value.int IntKind.i64 a', Value.int IntKind.i64 b', Value.int IntKind.i64 k']); refine (NY.out _).mono ?_; rintro e w5 ⟨rfl, hb5⟩; (try replace hb5 := Below.undrew hb5); obtain ⟨hc5, hf5⟩ := bcell hb5; have hz5 := hb5.size; (try simp at hz5); have hz5a : w.heap.size < w5.heap.size := (by omega); (try have hz5b : w.heap.size + 1 < w5.heap.size := (by omega)); (try have hz5c : w.heap.size + 1 + 1 < w5.heap.size := (by omega)); (try have hz5_1 : w1.heap.size < w5.heap.size := (by omega)); (try have hz5_2 : w2.heap.size < w5.heap.size := (by omega)); (try have hz5_3 : w3.heap.size < w5.heap.size := (by omega)); (try have hz5_4 : w4.heap.size < w5.heap.size := (by omega)); have hz5g : g < w5.heap.size := (by omega); (try have hz5r : wr.heap.size < w5.heap.size := (by omega)))
        | (go_at_call 19; refine (HI.out _ ?_).mono ?_; exact TzTab.below (w := wr) hT2.out (by (repeat (first | with_reducible exact Below.refl _ _ | with_reducible refine Below.drew ?_ | with_reducible refine Below.alloc ?_ (by first | omega | (simp; done) | (simp; omega)) _ | with_reducible refine Below.setCell ?_ (by first | omega | (simp; done) | (simp; omega)) _ | with_reducible refine Below.trans ?_ (Below.mono (by assumption) (by first | omega | (simp; done) | (simp; omega)))))) (Nat.le_refl _); rintro e w6 ⟨rfl, hb6⟩; (try replace hb6 := Below.undrew hb6); obtain ⟨hc6, hf6⟩ := bcell hb6; have hz6 := hb6.size; (try simp at hz6); have hz6a : w.heap.size < w6.heap.size := (by omega); (try have hz6b : w.heap.size + 1 < w6.heap.size := (by omega)); (try have hz6c : w.heap.size + 1 + 1 < w6.heap.size := (by omega)); (try have hz6_1 : w1.heap.size < w6.heap.size := (by omega)); (try have hz6_2 : w2.heap.size < w6.heap.size := (by omega)); (try have hz6_3 : w3.heap.size < w6.heap.size := (by omega)); (try have hz6_4 : w4.heap.size < w6.heap.size := (by omega)); (try have hz6_5 : w5.heap.size < w6.heap.size := (by omega)); have hz6g : g < w6.heap.size := (by omega); (try have hz6r : wr.heap.size < w6.heap.size := (by omega)))))
      all_goals (go_wp2_with fail; go_meet; exact ⟨_, rfl, rfl, by (repeat (first | with_reducible assumption | with_reducible refine Below.drew ?_ | with_reducible refine Below.alloc ?_ (by first | omega | (simp; done) | (simp; omega)) _ | with_reducible refine Below.setCell ?_ (by first | omega | (simp; done) | (simp; omega)) _ | with_reducible refine Below.trans ?_ (Below.mono (by assumption) (by first | omega | (simp; done) | (simp; omega))))), by simp [go_sem, *], by simp [go_sem, *], by simp [go_sem, *], by simp [go_sem, *], by simp [go_sem, *], by simp [go_sem, *]⟩)
    case rest =>
      obtain ⟨g', rfl, rfl, hB', v0, v1, v2, u0, u1, u2⟩ := hcut
      have hz' := hB'.size
      clear hB x0 x1 x2 y0 y1 y2 g0 g1 g2
      go_wp2_with fail
      refine (HE.out _).mono ?_
      rintro e w7 ⟨rfl, hb7⟩
      go_wp2_with fail
      go_ret
      exact ⟨rfl, by (repeat (first | with_reducible assumption | with_reducible refine Below.drew ?_ | with_reducible refine Below.alloc ?_ (by first | omega | (simp; done) | (simp; omega)) _ | with_reducible refine Below.setCell ?_ (by first | omega | (simp; done) | (simp; omega)) _ | with_reducible refine Below.trans ?_ (Below.mono (by assumption) (by first | omega | (simp; done) | (simp; omega)))))⟩

theorem exactAddNum.walk (a b k : Int) (h : I3 a b k) (a' b' k' : Int) (h' : I3 a' b' k') (w : World) (hT : TzTab w) :
    Calls Tryd.prog 9 #[num a b k, num a' b' k'] w (RetB (.bool true) w) := by
  obtain ⟨rA, rB, rK, rO, e⟩ := pair_ex (validB a b k && validB a' b' k') (sumV a b k a' b' k') ⟨_, _, _, _, rfl⟩
  have HI := AddNum_any a b k a' b' k' h h'
  have HS := sAddNum_any a b k a' b' k'
  rw [e] at HI HS
  exact exactAddNum.core a b k a' b' k' rA rB rK rO w hT (Lib.hid HI) (Lib.hid HS)

set_option maxHeartbeats 4000000 in
theorem exactSubNum.core (a b k a' b' k' rA rB rK : Int) (rO : Bool) (w : World) (hT : TzTab w)
    (HI : Hid (∀ w, TzTab w → Calls Tryd.prog 22 #[num a b k, num a' b' k'] w (RetB (numOk rA rB rK rO) w)))
    (HS : Hid (∀ w, Calls Tryd.prog 38 #[num a b k, num a' b' k'] w (RetB (numOk rA rB rK rO) w))) :
    Calls Tryd.prog 10 #[num a b k, num a' b' k'] w (RetB (.bool true) w) := by
  have NX := Lib.hid (toNum_any a b k)
  have NY := Lib.hid (toNum_any a' b' k')
  have HE := Lib.hid (eqNum_same rA rB rK)
  have hT' := Lib.hid hT
  go_enter Tryd.func10, Tryd.ntmps10
  go_upto_region 1 with fail
  go_cut [5, 6] (Cut1 w a b k a' b' k' rA rB rK rO)
  case first =>
    go_region_held3 (fun w' => w'.cell? ⟨w.heap.size, 0, none⟩ = some (.int .i64 a) ∧ w'.cell? ⟨w.heap.size, 1, none⟩ = some (.int .i64 b) ∧ w'.cell? ⟨w.heap.size, 2, none⟩ = some (.int .i64 k) ∧ w'.cell? ⟨w.heap.size + 1, 0, none⟩ = some (.int .i64 a') ∧ w'.cell? ⟨w.heap.size + 1, 1, none⟩ = some (.int .i64 b') ∧ w'.cell? ⟨w.heap.size + 1, 2, none⟩ = some (.int .i64 k')) ((first | (go_simp; done) | (simp [*]; done)))
      ((first
      | (go_at_call_of 33 (Value.agg #[Value.int IntKind.i64 a, Value.int IntKind.i64 b, Value.int IntKind.i64 k]); refine (NX.out _).mono ?_; rintro e w1 ⟨rfl, hb1⟩; (try replace hb1 := Below.undrew hb1); obtain ⟨hc1, hf1⟩ := bcell hb1; have hz1 := hb1.size; (try simp at hz1); have hz1a : w.heap.size < w1.heap.size := (by omega); (try have hz1b : w.heap.size + 1 < w1.heap.size := (by omega)); (try have hz1c : w.heap.size + 1 + 1 < w1.heap.size := (by omega)))
      | (go_at_call_of 33 (Value.agg #[Value.int IntKind.i64 a', Value.int IntKind.i64 b', Value.int IntKind.i64 k']); refine (NY.out _).mono ?_; rintro e w2 ⟨rfl, hb2⟩; (try replace hb2 := Below.undrew hb2); obtain ⟨hc2, hf2⟩ := bcell hb2; have hz2 := hb2.size; (try simp at hz2); have hz2a : w.heap.size < w2.heap.size := (by omega); (try have hz2b : w.heap.size + 1 < w2.heap.size := (by omega)); (try have hz2c : w.heap.size + 1 + 1 < w2.heap.size := (by omega)); (try have hz2_1 : w1.heap.size < w2.heap.size := (by omega)))
      | (go_at_call 38; refine (HS.out _).mono ?_; rintro e w3 ⟨rfl, hb3⟩; (try replace hb3 := Below.undrew hb3); obtain ⟨hc3, hf3⟩ := bcell hb3; have hz3 := hb3.size; (try simp at hz3); have hz3a : w.heap.size < w3.heap.size := (by omega); (try have hz3b : w.heap.size + 1 < w3.heap.size := (by omega)); (try have hz3c : w.heap.size + 1 + 1 < w3.heap.size := (by omega)); (try have hz3_1 : w1.heap.size < w3.heap.size := (by omega)); (try have hz3_2 : w2.heap.size < w3.heap.size := (by omega)))))
    all_goals (go_wp2_with fail; go_meet; exact ⟨_, rfl, rfl, (by first | omega | (simp; done) | (simp; omega)), (by first | omega | (simp; done) | (simp; omega)), by (repeat (first | with_reducible exact Below.refl _ _ | with_reducible refine Below.drew ?_ | with_reducible refine Below.alloc ?_ (by first | omega | (simp; done) | (simp; omega)) _ | with_reducible refine Below.setCell ?_ (by first | omega | (simp; done) | (simp; omega)) _ | with_reducible refine Below.trans ?_ (Below.mono (by assumption) (by first | omega | (simp; done) | (simp; omega))))), by simp [go_sem, *], by simp [go_sem, *], by simp [go_sem, *], by simp [go_sem, *], by simp [go_sem, *], by simp [go_sem, *], by simp [go_sem, *], by simp [go_sem, *], by simp [go_sem, *]⟩)
  case rest =>
    obtain ⟨wr, hwr⟩ : ∃ x, x = wc := ⟨_, rfl⟩
    subst hwr
    obtain ⟨g, rfl, rfl, hg1, hg2, hB, x0, x1, x2, y0, y1, y2, g0, g1, g2⟩ := hcut
    have hT2 := Lib.hid (TzTab.below hT'.out hB (Nat.le_refl _))
    go_upto_region 2 with fail
    go_cut [7, 8] (Cut2 w g rA rB rK rO)
    case first =>
      have hg1a : w.heap.size < wr.heap.size := by omega
      have hg1b : w.heap.size + 1 < wr.heap.size := by omega
      have ng0 : w.heap.size ≠ g := by omega
      have ng1 : w.heap.size + 1 ≠ g := by omega
      go_region_held3 (fun w' => w'.cell? ⟨w.heap.size, 0, none⟩ = some (.int .i64 a) ∧ w'.cell? ⟨w.heap.size, 1, none⟩ = some (.int .i64 b) ∧ w'.cell? ⟨w.heap.size, 2, none⟩ = some (.int .i64 k) ∧ w'.cell? ⟨w.heap.size + 1, 0, none⟩ = some (.int .i64 a') ∧ w'.cell? ⟨w.heap.size + 1, 1, none⟩ = some (.int .i64 b') ∧ w'.cell? ⟨w.heap.size + 1, 2, none⟩ = some (.int .i64 k') ∧ w'.cell? ⟨g, 0, none⟩ = some (.int .i64 rA) ∧ w'.cell? ⟨g, 1, none⟩ = some (.int .i64 rB) ∧ w'.cell? ⟨g, 2, none⟩ = some (.int .i64 rK)) ((first | (go_simp; done) | (simp [*]; done)))
        ((first
        | (go_at_call_of 33 (Value.agg #[Value.int IntKind.i64 a, Value.int IntKind.i64 b, Value.int IntKind.i64 k]); refine (NX.out _).mono ?_; rintro e w4 ⟨rfl, hb4⟩; (try replace hb4 := Below.undrew hb4); obtain ⟨hc4, hf4⟩ := bcell hb4; have hz4 := hb4.size; (try simp at hz4); have hz4a : w.heap.size < w4.heap.size := (by omega); (try have hz4b : w.heap.size + 1 < w4.heap.size := (by omega)); (try have hz4c : w.heap.size + 1 + 1 < w4.heap.size := (by omega)); (try have hz4_1 : w1.heap.size < w4.heap.size := (by omega)); (try have hz4_2 : w2.heap.size < w4.heap.size := (by omega)); (try have hz4_3 : w3.heap.size < w4.heap.size := (by omega)); have hz4g : g < w4.heap.size := (by omega); (try have hz4r : wr.heap.size < w4.heap.size := (by omega)))
        | (go_at_call_of 33 (Value.agg #[Value.int IntKind.i64 a', Value.int IntKind.i64 b', Value.int IntKind.i64 k']); refine (NY.out _).mono ?_; rintro e w5 ⟨rfl, hb5⟩; (try replace hb5 := Below.undrew hb5); obtain ⟨hc5, hf5⟩ := bcell hb5; have hz5 := hb5.size; (try simp at hz5); have hz5a : w.heap.size < w5.heap.size := (by omega); (try have hz5b : w.heap.size + 1 < w5.heap.size := (by omega)); (try have hz5c : w.heap.size + 1 + 1 < w5.heap.size := (by omega)); (try have hz5_1 : w1.heap.size < w5.heap.size := (by omega)); (try have hz5_2 : w2.heap.size < w5.heap.size := (by omega)); (try have hz5_3 : w3.heap.size < w5.heap.size := (by omega)); (try have hz5_4 : w4.heap.size < w5.heap.size := (by omega)); have hz5g : g < w5.heap.size := (by omega); (try have hz5r : wr.heap.size < w5.heap.size := (by omega)))
        | (go_at_call 22; refine (HI.out _ ?_).mono ?_; exact TzTab.below (w := wr) hT2.out (by (repeat (first | with_reducible exact Below.refl _ _ | with_reducible refine Below.drew ?_ | with_reducible refine Below.alloc ?_ (by first | omega | (simp; done) | (simp; omega)) _ | with_reducible refine Below.setCell ?_ (by first | omega | (simp; done) | (simp; omega)) _ | with_reducible refine Below.trans ?_ (Below.mono (by assumption) (by first | omega | (simp; done) | (simp; omega)))))) (Nat.le_refl _); rintro e w6 ⟨rfl, hb6⟩; (try replace hb6 := Below.undrew hb6); obtain ⟨hc6, hf6⟩ := bcell hb6; have hz6 := hb6.size; (try simp at hz6); have hz6a : w.heap.size < w6.heap.size := (by omega); (try have hz6b : w.heap.size + 1 < w6.heap.size := (by omega)); (try have hz6c : w.heap.size + 1 + 1 < w6.heap.size := (by omega)); (try have hz6_1 : w1.heap.size < w6.heap.size := (by omega)); (try have hz6_2 : w2.heap.size < w6.heap.size := (by omega)); (try have hz6_3 : w3.heap.size < w6.heap.size := (by omega)); (try have hz6_4 : w4.heap.size < w6.heap.size := (by omega)); (try have hz6_5 : w5.heap.size < w6.heap.size := (by omega)); have hz6g : g < w6.heap.size := (by omega); (try have hz6r : wr.heap.size < w6.heap.size := (by omega)))))
      all_goals (go_wp2_with fail; go_meet; exact ⟨_, rfl, rfl, by (repeat (first | with_reducible assumption | with_reducible refine Below.drew ?_ | with_reducible refine Below.alloc ?_ (by first | omega | (simp; done) | (simp; omega)) _ | with_reducible refine Below.setCell ?_ (by first | omega | (simp; done) | (simp; omega)) _ | with_reducible refine Below.trans ?_ (Below.mono (by assumption) (by first | omega | (simp; done) | (simp; omega))))), by simp [go_sem, *], by simp [go_sem, *], by simp [go_sem, *], by simp [go_sem, *], by simp [go_sem, *], by simp [go_sem, *]⟩)
    case rest =>
      obtain ⟨g', rfl, rfl, hB', v0, v1, v2, u0, u1, u2⟩ := hcut
      have hz' := hB'.size
      clear hB x0 x1 x2 y0 y1 y2 g0 g1 g2
      go_wp2_with fail
      refine (HE.out _).mono ?_
      rintro e w7 ⟨rfl, hb7⟩
      go_wp2_with fail
      go_ret
      exact ⟨rfl, by (repeat (first | with_reducible assumption | with_reducible refine Below.drew ?_ | with_reducible refine Below.alloc ?_ (by first | omega | (simp; done) | (simp; omega)) _ | with_reducible refine Below.setCell ?_ (by first | omega | (simp; done) | (simp; omega)) _ | with_reducible refine Below.trans ?_ (Below.mono (by assumption) (by first | omega | (simp; done) | (simp; omega)))))⟩

theorem exactSubNum.walk (a b k : Int) (h : I3 a b k) (a' b' k' : Int) (h' : I3 a' b' k') (w : World) (hT : TzTab w) :
    Calls Tryd.prog 10 #[num a b k, num a' b' k'] w (RetB (.bool true) w) := by
  obtain ⟨rA, rB, rK, rO, e⟩ := pair_ex (validB a b k && validB a' b' k') (sumV a b k (-a') (-b') k') ⟨_, _, _, _, rfl⟩
  have HI := SubNum_any a b k a' b' k' h h'
  have HS := sSubNum_any a b k a' b' k'
  rw [e] at HI HS
  exact exactSubNum.core a b k a' b' k' rA rB rK rO w hT (Lib.hid HI) (Lib.hid HS)

set_option maxHeartbeats 4000000 in
theorem exactMulNum.core (a b k a' b' k' rA rB rK : Int) (rO : Bool) (w : World) (hT : TzTab w)
    (HI : Hid (∀ w, TzTab w → Calls Tryd.prog 20 #[num a b k, num a' b' k'] w (RetB (numOk rA rB rK rO) w)))
    (HS : Hid (∀ w, Calls Tryd.prog 39 #[num a b k, num a' b' k'] w (RetB (numOk rA rB rK rO) w))) :
    Calls Tryd.prog 11 #[num a b k, num a' b' k'] w (RetB (.bool true) w) := by
  have NX := Lib.hid (toNum_any a b k)
  have NY := Lib.hid (toNum_any a' b' k')
  have HE := Lib.hid (eqNum_same rA rB rK)
  have hT' := Lib.hid hT
  go_enter Tryd.func11, Tryd.ntmps11
  go_upto_region 1 with fail
  go_cut [5, 6] (Cut1 w a b k a' b' k' rA rB rK rO)
  case first =>
    go_region_held3 (fun w' => w'.cell? ⟨w.heap.size, 0, none⟩ = some (.int .i64 a) ∧ w'.cell? ⟨w.heap.size, 1, none⟩ = some (.int .i64 b) ∧ w'.cell? ⟨w.heap.size, 2, none⟩ = some (.int .i64 k) ∧ w'.cell? ⟨w.heap.size + 1, 0, none⟩ = some (.int .i64 a') ∧ w'.cell? ⟨w.heap.size + 1, 1, none⟩ = some (.int .i64 b') ∧ w'.cell? ⟨w.heap.size + 1, 2, none⟩ = some (.int .i64 k')) ((first | (go_simp; done) | (simp [*]; done)))
      ((first
      | (go_at_call_of 33 (Value.agg #[Value.int IntKind.i64 a, Value.int IntKind.i64 b, Value.int IntKind.i64 k]); refine (NX.out _).mono ?_; rintro e w1 ⟨rfl, hb1⟩; (try replace hb1 := Below.undrew hb1); obtain ⟨hc1, hf1⟩ := bcell hb1; have hz1 := hb1.size; (try simp at hz1); have hz1a : w.heap.size < w1.heap.size := (by omega); (try have hz1b : w.heap.size + 1 < w1.heap.size := (by omega)); (try have hz1c : w.heap.size + 1 + 1 < w1.heap.size := (by omega)))
      | (go_at_call_of 33 (Value.agg #[Value.int IntKind.i64 a', Value.int IntKind.i64 b', Value.int IntKind.i64 k']); refine (NY.out _).mono ?_; rintro e w2 ⟨rfl, hb2⟩; (try replace hb2 := Below.undrew hb2); obtain ⟨hc2, hf2⟩ := bcell hb2; have hz2 := hb2.size; (try simp at hz2); have hz2a : w.heap.size < w2.heap.size := (by omega); (try have hz2b : w.heap.size + 1 < w2.heap.size := (by omega)); (try have hz2c : w.heap.size + 1 + 1 < w2.heap.size := (by omega)); (try have hz2_1 : w1.heap.size < w2.heap.size := (by omega)))
      | (go_at_call 39; refine (HS.out _).mono ?_; rintro e w3 ⟨rfl, hb3⟩; (try replace hb3 := Below.undrew hb3); obtain ⟨hc3, hf3⟩ := bcell hb3; have hz3 := hb3.size; (try simp at hz3); have hz3a : w.heap.size < w3.heap.size := (by omega); (try have hz3b : w.heap.size + 1 < w3.heap.size := (by omega)); (try have hz3c : w.heap.size + 1 + 1 < w3.heap.size := (by omega)); (try have hz3_1 : w1.heap.size < w3.heap.size := (by omega)); (try have hz3_2 : w2.heap.size < w3.heap.size := (by omega)))))
    all_goals (go_wp2_with fail; go_meet; exact ⟨_, rfl, rfl, (by first | omega | (simp; done) | (simp; omega)), (by first | omega | (simp; done) | (simp; omega)), by (repeat (first | with_reducible exact Below.refl _ _ | with_reducible refine Below.drew ?_ | with_reducible refine Below.alloc ?_ (by first | omega | (simp; done) | (simp; omega)) _ | with_reducible refine Below.setCell ?_ (by first | omega | (simp; done) | (simp; omega)) _ | with_reducible refine Below.trans ?_ (Below.mono (by assumption) (by first | omega | (simp; done) | (simp; omega))))), by simp [go_sem, *], by simp [go_sem, *], by simp [go_sem, *], by simp [go_sem, *], by simp [go_sem, *], by simp [go_sem, *], by simp [go_sem, *], by simp [go_sem, *], by simp [go_sem, *]⟩)
  case rest =>
    obtain ⟨wr, hwr⟩ : ∃ x, x = wc := ⟨_, rfl⟩
    subst hwr
    obtain ⟨g, rfl, rfl, hg1, hg2, hB, x0, x1, x2, y0, y1, y2, g0, g1, g2⟩ := hcut
    have hT2 := Lib.hid (TzTab.below hT'.out hB (Nat.le_refl _))
    go_upto_region 2 with fail
    go_cut [7, 8] (Cut2 w g rA rB rK rO)
    case first =>
      have hg1a : w.heap.size < wr.heap.size := by omega
      have hg1b : w.heap.size + 1 < wr.heap.size := by omega
      have ng0 : w.heap.size ≠ g := by omega
      have ng1 : w.heap.size + 1 ≠ g := by omega
      go_region_held3 (fun w' => w'.cell? ⟨w.heap.size, 0, none⟩ = some (.int .i64 a) ∧ w'.cell? ⟨w.heap.size, 1, none⟩ = some (.int .i64 b) ∧ w'.cell? ⟨w.heap.size, 2, none⟩ = some (.int .i64 k) ∧ w'.cell? ⟨w.heap.size + 1, 0, none⟩ = some (.int .i64 a') ∧ w'.cell? ⟨w.heap.size + 1, 1, none⟩ = some (.int .i64 b') ∧ w'.cell? ⟨w.heap.size + 1, 2, none⟩ = some (.int .i64 k') ∧ w'.cell? ⟨g, 0, none⟩ = some (.int .i64 rA) ∧ w'.cell? ⟨g, 1, none⟩ = some (.int .i64 rB) ∧ w'.cell? ⟨g, 2, none⟩ = some (.int .i64 rK)) ((first | (go_simp; done) | (simp [*]; done)))
        ((first
        | (go_at_call_of 33 (Value.agg #[Value.int IntKind.i64 a, Value.int IntKind.i64 b, Value.int IntKind.i64 k]); refine (NX.out _).mono ?_; rintro e w4 ⟨rfl, hb4⟩; (try replace hb4 := Below.undrew hb4); obtain ⟨hc4, hf4⟩ := bcell hb4; have hz4 := hb4.size; (try simp at hz4); have hz4a : w.heap.size < w4.heap.size := (by omega); (try have hz4b : w.heap.size + 1 < w4.heap.size := (by omega)); (try have hz4c : w.heap.size + 1 + 1 < w4.heap.size := (by omega)); (try have hz4_1 : w1.heap.size < w4.heap.size := (by omega)); (try have hz4_2 : w2.heap.size < w4.heap.size := (by omega)); (try have hz4_3 : w3.heap.size < w4.heap.size := (by omega)); have hz4g : g < w4.heap.size := (by omega); (try have hz4r : wr.heap.size < w4.heap.size := (by omega)))
        | (go_at_call_of 33 (Value.agg #[Value.int IntKind.i64 a', Value.int IntKind.i64 b', Value.int IntKind.i64 k']); refine (NY.out _).mono ?_; rintro e w5 ⟨rfl, hb5⟩; (try replace hb5 := Below.undrew hb5); obtain ⟨hc5, hf5⟩ := bcell hb5; have hz5 := hb5.size; (try simp at hz5); have hz5a : w.heap.size < w5.heap.size := (by omega); (try have hz5b : w.heap.size + 1 < w5.heap.size := (by omega)); (try have hz5c : w.heap.size + 1 + 1 < w5.heap.size := (by omega)); (try have hz5_1 : w1.heap.size < w5.heap.size := (by omega)); (try have hz5_2 : w2.heap.size < w5.heap.size := (by omega)); (try have hz5_3 : w3.heap.size < w5.heap.size := (by omega)); (try have hz5_4 : w4.heap.size < w5.heap.size := (by omega)); have hz5g : g < w5.heap.size := (by omega); (try have hz5r : wr.heap.size < w5.heap.size := (by omega)))
        | (go_at_call 20; refine (HI.out _ ?_).mono ?_; exact TzTab.below (w := wr) hT2.out (by (repeat (first | with_reducible exact Below.refl _ _ | with_reducible refine Below.drew ?_ | with_reducible refine Below.alloc ?_ (by first | omega | (simp; done) | (simp; omega)) _ | with_reducible refine Below.setCell ?_ (by first | omega | (simp; done) | (simp; omega)) _ | with_reducible refine Below.trans ?_ (Below.mono (by assumption) (by first | omega | (simp; done) | (simp; omega)))))) (Nat.le_refl _); rintro e w6 ⟨rfl, hb6⟩; (try replace hb6 := Below.undrew hb6); obtain ⟨hc6, hf6⟩ := bcell hb6; have hz6 := hb6.size; (try simp at hz6); have hz6a : w.heap.size < w6.heap.size := (by omega); (try have hz6b : w.heap.size + 1 < w6.heap.size := (by omega)); (try have hz6c : w.heap.size + 1 + 1 < w6.heap.size := (by omega)); (try have hz6_1 : w1.heap.size < w6.heap.size := (by omega)); (try have hz6_2 : w2.heap.size < w6.heap.size := (by omega)); (try have hz6_3 : w3.heap.size < w6.heap.size := (by omega)); (try have hz6_4 : w4.heap.size < w6.heap.size := (by omega)); (try have hz6_5 : w5.heap.size < w6.heap.size := (by omega)); have hz6g : g < w6.heap.size := (by omega); (try have hz6r : wr.heap.size < w6.heap.size := (by omega)))))
      all_goals (go_wp2_with fail; go_meet; exact ⟨_, rfl, rfl, by (repeat (first | with_reducible assumption | with_reducible refine Below.drew ?_ | with_reducible refine Below.alloc ?_ (by first | omega | (simp; done) | (simp; omega)) _ | with_reducible refine Below.setCell ?_ (by first | omega | (simp; done) | (simp; omega)) _ | with_reducible refine Below.trans ?_ (Below.mono (by assumption) (by first | omega | (simp; done) | (simp; omega))))), by simp [go_sem, *], by simp [go_sem, *], by simp [go_sem, *], by simp [go_sem, *], by simp [go_sem, *], by simp [go_sem, *]⟩)
    case rest =>
      obtain ⟨g', rfl, rfl, hB', v0, v1, v2, u0, u1, u2⟩ := hcut
      have hz' := hB'.size
      clear hB x0 x1 x2 y0 y1 y2 g0 g1 g2
      go_wp2_with fail
      refine (HE.out _).mono ?_
      rintro e w7 ⟨rfl, hb7⟩
      go_wp2_with fail
      go_ret
      exact ⟨rfl, by (repeat (first | with_reducible assumption | with_reducible refine Below.drew ?_ | with_reducible refine Below.alloc ?_ (by first | omega | (simp; done) | (simp; omega)) _ | with_reducible refine Below.setCell ?_ (by first | omega | (simp; done) | (simp; omega)) _ | with_reducible refine Below.trans ?_ (Below.mono (by assumption) (by first | omega | (simp; done) | (simp; omega)))))⟩

theorem exactMulNum.walk (a b k : Int) (h : I3 a b k) (a' b' k' : Int) (h' : I3 a' b' k') (w : World) (hT : TzTab w) :
    Calls Tryd.prog 11 #[num a b k, num a' b' k'] w (RetB (.bool true) w) := by
  obtain ⟨rA, rB, rK, rO, e⟩ := pair_ex (validB a b k && validB a' b' k') (mulV a b k a' b' k') ⟨_, _, _, _, rfl⟩
  have HI := MulNum_any a b k a' b' k' h h'
  have HS := sMulNum_any a b k a' b' k'
  rw [e] at HI HS
  exact exactMulNum.core a b k a' b' k' rA rB rK rO w hT (Lib.hid HI) (Lib.hid HS)

theorem exactMakeNum.core (a b k rA rB rK : Int) (rO : Bool) (w : World) (hT : TzTab w)
    (HI : Hid (∀ w, TzTab w → Calls Tryd.prog 35 #[.int .i64 a, .int .i64 b, .int .i64 k] w (RetB (numOk rA rB rK rO) w)))
    (HS : Hid (∀ w, Calls Tryd.prog 28 #[.int .i64 a, .int .i64 b, .int .i64 k] w (RetB (numOk rA rB rK rO) w))) :
    Calls Tryd.prog 8 #[.int .i64 a, .int .i64 b, .int .i64 k] w (RetB (.bool true) w) := by
  have HE := Lib.hid (eqNum_same rA rB rK)
  have hT' := Lib.hid hT
  go_enter Tryd.func8, Tryd.ntmps8
  go_wp2_with fail
  refine (HS.out _).mono ?_
  rintro e w1 ⟨rfl, hb1⟩
  have hz1 := hb1.size
  go_wp2_with fail
  refine (HI.out _ ?_).mono ?_
  · exact TzTab.below (w := w) hT'.out (by (repeat (first | with_reducible exact Below.refl _ _ | with_reducible refine Below.drew ?_ | with_reducible refine Below.alloc ?_ (by first | omega | (simp; done) | (simp; omega)) _ | with_reducible refine Below.setCell ?_ (by first | omega | (simp; done) | (simp; omega)) _ | with_reducible refine Below.trans ?_ (Below.mono (by assumption) (by first | omega | (simp; done) | (simp; omega)))))) (Nat.le_refl _)
  rintro e w2 ⟨rfl, hb2⟩
  obtain ⟨hc2, hf2⟩ := bcell hb2
  have hz2 := hb2.size
  simp at hz2
  have hz2x : w1.heap.size < w2.heap.size := by omega
  go_wp2_with fail
  refine (HE.out _).mono ?_
  rintro e w7 ⟨rfl, hb7⟩
  go_wp2_with fail
  go_ret
  exact ⟨rfl, by (repeat (first | with_reducible exact Below.refl _ _ | with_reducible refine Below.drew ?_ | with_reducible refine Below.alloc ?_ (by first | omega | (simp; done) | (simp; omega)) _ | with_reducible refine Below.setCell ?_ (by first | omega | (simp; done) | (simp; omega)) _ | with_reducible refine Below.trans ?_ (Below.mono (by assumption) (by first | omega | (simp; done) | (simp; omega)))))⟩

theorem exactMakeNum.walk (a : Int) (ha : -9223372036854775808 ≤ a ∧ a ≤ 9223372036854775807) (b : Int) (hb : -9223372036854775808 ≤ b ∧ b ≤ 9223372036854775807) (k : Int) (_hk : -9223372036854775808 ≤ k ∧ k ≤ 9223372036854775807) (w : World) (hT : TzTab w) :
    Calls Tryd.prog 8 #[.int .i64 a, .int .i64 b, .int .i64 k] w (RetB (.bool true) w) := by
  have h : I3 a b k := ⟨ha.1, ha.2, hb.1, hb.2⟩
  obtain ⟨rA, rB, rK, rO, e⟩ := pair_ex (inB k 0 62) (makeV a b k) ⟨_, _, _, _, rfl⟩
  have HI := MakeNum_any a b k h
  have HS := sMakeNum_any a b k h
  rw [e] at HI
  rw [show (if inB k 0 62 then numOk (limA a b k) (limB a b k) (limK a b k) (limO a b k) else numOk 0 0 0 false) = numOk rA rB rK rO from e] at HS
  exact exactMakeNum.core a b k rA rB rK rO w hT (Lib.hid HI) (Lib.hid HS)
end Go.Proofs.YtffcdnokkdifdaaDoor
