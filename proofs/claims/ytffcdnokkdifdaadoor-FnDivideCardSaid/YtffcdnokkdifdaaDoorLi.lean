/- The walk of FnDivide (written by gen_li.py). -/
import Derived.Test.YtffcdnokkdifdaaDoorLf
import Derived.Test.YtffcdnokkdifdaaDoorLj
namespace Go.Proofs.YtffcdnokkdifdaaDoor
open Go Go.RowKit OriM

set_option maxHeartbeats 8000000 in
set_option maxRecDepth 100000 in
theorem divide.walk (v : Value) (w : World) (hC : CodeIn w v) (hT : TzTab w) : Calls Tryd.prog 5 #[v] w (RetB (.bool true) w) := by
  obtain ⟨sa, sn, sc, rfl⟩ := hC.slice
  have HC := Lib.hid (fun w' hC' => E8Nums_any (.slice sa sn sc) w' hC')
  have hT' := Lib.hid hT
  have hC' := Lib.hid hC
  clear hC
  by_cases hn : 1048576 < sn
  · go_enter Tryd.func5, Tryd.ntmps5
    go_wp2
    go_ret
    exact ⟨rfl, by (repeat (first | with_reducible exact Below.refl _ _ | with_reducible refine Below.drew ?_ | with_reducible refine Below.alloc ?_ (by first | omega | (simp; done) | (simp; omega)) _ | with_reducible refine Below.setCell ?_ (by first | omega | (simp; done) | (simp; omega)) _ | with_reducible refine Below.trans ?_ (Below.mono (by assumption) (by first | omega | (simp; done) | (simp; omega)))))⟩
  go_enter Tryd.func5, Tryd.ntmps5
  go_wp2_with fail
  refine (HC.out _ hC'.out).mono ?_
  rintro e wE ⟨a, b, k, a', b', k', a'', b'', k'', rfl, hx, hy, hz, hb1⟩
  obtain ⟨qA, qB, qK, pA, pB, pK, sY, dO, mO, q1, q2, q3, q4, q5, q6, q7, q8⟩ := divide_facts hx hy
  have Q1 := Lib.hid q1
  have Q2 := Lib.hid q2
  have Q3 := Lib.hid q3
  have Q4 := Lib.hid q4
  have Q5 := Lib.hid q5
  have Q6 := Lib.hid q6
  have Q7 := Lib.hid q7
  have Q8 := Lib.hid q8
  clear hx hy hz q1 q2 q3 q4 q5 q6 q7 q8
  have hz1 := hb1.size
  have heq := eq_run a b k a b k
  rw [show eqB a b k a b k = true by simp [eqB]] at heq
  have HEQ := Lib.hid heq
  clear heq
  go_upto_region 4 with fail
  go_cut [3, 4, 5, 6, 7] (fun s3 s4 s5 s6 s7 W => ∃ G g : Nat, s3 = .pointer (some ⟨G, 0, none⟩) ∧ s4 = .pointer (some ⟨G + 1, 0, none⟩) ∧ s5 = .pointer (some ⟨G + 1 + 1, 0, none⟩) ∧ s6 = .pointer (some ⟨g, 0, none⟩) ∧ s7 = .bool dO ∧ Inv3 w G a b k a' b' k' a'' b'' k'' W ∧ At3 G g qA qB qK W)
  case first =>
    go_wp2_with fail
    have hTE := TzTab.below hT'.out hb1 (Nat.le_refl _)
    refine (Q1.out _ ?_).mono ?_; (repeat (first | with_reducible assumption | with_reducible apply TzTab.drew | with_reducible apply TzTab.alloc))
    rintro e w1 ⟨rfl, hb2⟩
    (try replace hb2 := Below.undrew hb2)
    obtain ⟨hc2, hf2⟩ := bcell hb2
    have hz2 := hb2.size
    simp at hz2
    have y0 : wE.heap.size < w1.heap.size := by omega
    have y1 : wE.heap.size + 1 < w1.heap.size := by omega
    have y2 : wE.heap.size + 1 + 1 < w1.heap.size := by omega
    go_wp2_with fail
    go_meet
    exact ⟨wE.heap.size, w1.heap.size, rfl, rfl, rfl, rfl, rfl, ⟨hz1, by simp; omega, by (repeat (first | with_reducible assumption | with_reducible refine Below.drew ?_ | with_reducible refine Below.alloc ?_ (by first | omega | (simp; done) | (simp; omega)) _ | with_reducible refine Below.setCell ?_ (by first | omega | (simp; done) | (simp; omega)) _ | with_reducible refine Below.trans ?_ (Below.mono (by assumption) (by first | omega | (simp; done) | (simp; omega))))), by simp [go_sem, *], by simp [go_sem, *], by simp [go_sem, *], by simp [go_sem, *], by simp [go_sem, *], by simp [go_sem, *], by simp [go_sem, *], by simp [go_sem, *], by simp [go_sem, *]⟩, ⟨by omega, by simp, by simp [go_sem, *], by simp [go_sem, *], by simp [go_sem, *]⟩⟩
  case rest =>
    obtain ⟨wr, hwr⟩ : ∃ x, x = wc := ⟨_, rfl⟩
    subst hwr
    obtain ⟨G, g0, rfl, rfl, rfl, rfl, rfl, ⟨hG, hGz, hB, x0, x1, x2, y0, y1, y2, z0, z1, z2⟩, ⟨hg0, hgz0, n00, n01, n02⟩⟩ := hcut
    have hT2 := Lib.hid (TzTab.below hT'.out hB (Nat.le_refl _))
    have hGa : G < wr.heap.size := by omega
    have hGb : G + 1 < wr.heap.size := by omega
    go_upto_region 5 with fail
    go_cut [8, 9] (fun s8 s9 W => s9 = .bool dO ∧ Inv3 w G a b k a' b' k' a'' b'' k'' W ∧ At3 G g0 qA qB qK W)
    case first =>
      go_wp2_with fail
      refine (Q2.out _).mono ?_
      rintro e w1 ⟨rfl, hb1⟩; (try replace hb1 := Below.undrew hb1); obtain ⟨hc1, hf1⟩ := bcell hb1; have hz1 := hb1.size; (try simp at hz1); have hz1_0 : G < w1.heap.size := (by omega); have hz1_1 : G + 1 < w1.heap.size := (by omega); have hz1_2 : G + 1 + 1 < w1.heap.size := (by omega); have hz1_3 : g0 < w1.heap.size := (by omega); (try have hz1_r : wr.heap.size < w1.heap.size := (by omega))
      go_wp2_with fail
      go_meet
      exact ⟨rfl, ⟨hG, by simp; omega, by (repeat (first | with_reducible assumption | with_reducible refine Below.drew ?_ | with_reducible refine Below.alloc ?_ (by first | omega | (simp; done) | (simp; omega)) _ | with_reducible refine Below.setCell ?_ (by first | omega | (simp; done) | (simp; omega)) _ | with_reducible refine Below.trans ?_ (Below.mono (by assumption) (by first | omega | (simp; done) | (simp; omega))))), by simp [go_sem, *], by simp [go_sem, *], by simp [go_sem, *], by simp [go_sem, *], by simp [go_sem, *], by simp [go_sem, *], by simp [go_sem, *], by simp [go_sem, *], by simp [go_sem, *]⟩, ⟨hg0, by simp; omega, by simp [go_sem, *], by simp [go_sem, *], by simp [go_sem, *]⟩⟩
    case rest =>
      obtain ⟨wr, hwr⟩ : ∃ x, x = wc := ⟨_, rfl⟩
      subst hwr
      obtain ⟨rfl, ⟨hG, hGz, hB, x0, x1, x2, y0, y1, y2, z0, z1, z2⟩, ⟨hg0, hgz0, n00, n01, n02⟩⟩ := hcut
      have hT2 := Lib.hid (TzTab.below hT'.out hB (Nat.le_refl _))
      have hGa : G < wr.heap.size := by omega
      have hGb : G + 1 < wr.heap.size := by omega
      go_upto_if 42 with fail
      go_cut [] (fun W => Inv3 w G a b k a' b' k' a'' b'' k'' W)
      case first =>
        cases dO
        · go_wp2_with fail
          go_meet
          exact ⟨hG, by first | omega | (simp; omega), by (repeat (first | with_reducible assumption | with_reducible refine Below.drew ?_ | with_reducible refine Below.alloc ?_ (by first | omega | (simp; done) | (simp; omega)) _ | with_reducible refine Below.setCell ?_ (by first | omega | (simp; done) | (simp; omega)) _ | with_reducible refine Below.trans ?_ (Below.mono (by assumption) (by first | omega | (simp; done) | (simp; omega))))), by simp [go_sem, *], by simp [go_sem, *], by simp [go_sem, *], by simp [go_sem, *], by simp [go_sem, *], by simp [go_sem, *], by simp [go_sem, *], by simp [go_sem, *], by simp [go_sem, *]⟩
        · have R3 := Lib.hid (Q3.out rfl)
          have R4 := Lib.hid (Q4.out rfl)
          go_wp2_with fail
          refine (R3.out _ ?_).mono ?_
          exact TzTab.below (w := wr) hT2.out (by (repeat (first | with_reducible exact Below.refl _ _ | with_reducible refine Below.drew ?_ | with_reducible refine Below.alloc ?_ (by first | omega | (simp; done) | (simp; omega)) _ | with_reducible refine Below.setCell ?_ (by first | omega | (simp; done) | (simp; omega)) _ | with_reducible refine Below.trans ?_ (Below.mono (by assumption) (by first | omega | (simp; done) | (simp; omega)))))) (Nat.le_refl _)
          rintro e w1 ⟨rfl, hb1⟩; (try replace hb1 := Below.undrew hb1); obtain ⟨hc1, hf1⟩ := bcell hb1; have hz1 := hb1.size; (try simp at hz1); have hz1_0 : G < w1.heap.size := (by omega); have hz1_1 : G + 1 < w1.heap.size := (by omega); have hz1_2 : G + 1 + 1 < w1.heap.size := (by omega); have hz1_3 : g0 < w1.heap.size := (by omega); (try have hz1_r : wr.heap.size < w1.heap.size := (by omega))
          have heq := HEQ.out
          go_wp2_with fail
          refine (R4.out _ ?_).mono ?_
          exact TzTab.below (w := wr) hT2.out (by (repeat (first | with_reducible exact Below.refl _ _ | with_reducible refine Below.drew ?_ | with_reducible refine Below.alloc ?_ (by first | omega | (simp; done) | (simp; omega)) _ | with_reducible refine Below.setCell ?_ (by first | omega | (simp; done) | (simp; omega)) _ | with_reducible refine Below.trans ?_ (Below.mono (by assumption) (by first | omega | (simp; done) | (simp; omega)))))) (Nat.le_refl _)
          rintro e w2 ⟨rfl, hb2⟩; (try replace hb2 := Below.undrew hb2); obtain ⟨hc2, hf2⟩ := bcell hb2; have hz2 := hb2.size; (try simp at hz2); have hz2_0 : G < w2.heap.size := (by omega); have hz2_1 : G + 1 < w2.heap.size := (by omega); have hz2_2 : G + 1 + 1 < w2.heap.size := (by omega); have hz2_3 : g0 < w2.heap.size := (by omega); (try have hz2_r : wr.heap.size < w2.heap.size := (by omega))
          go_wp2_with fail
          go_meet
          exact ⟨hG, by first | omega | (simp; omega), by (repeat (first | with_reducible assumption | with_reducible refine Below.drew ?_ | with_reducible refine Below.alloc ?_ (by first | omega | (simp; done) | (simp; omega)) _ | with_reducible refine Below.setCell ?_ (by first | omega | (simp; done) | (simp; omega)) _ | with_reducible refine Below.trans ?_ (Below.mono (by assumption) (by first | omega | (simp; done) | (simp; omega))))), by simp [go_sem, *], by simp [go_sem, *], by simp [go_sem, *], by simp [go_sem, *], by simp [go_sem, *], by simp [go_sem, *], by simp [go_sem, *], by simp [go_sem, *], by simp [go_sem, *]⟩
      case rest =>
        obtain ⟨wr, hwr⟩ : ∃ x, x = wc := ⟨_, rfl⟩
        subst hwr
        obtain ⟨hG, hGz, hB, x0, x1, x2, y0, y1, y2, z0, z1, z2⟩ := hcut
        have hT2 := Lib.hid (TzTab.below hT'.out hB (Nat.le_refl _))
        have hGa : G < wr.heap.size := by omega
        have hGb : G + 1 < wr.heap.size := by omega
        go_upto_region 12 with fail
        go_cut [12, 13] (fun s12 s13 W => ∃ g : Nat, s12 = .pointer (some ⟨g, 0, none⟩) ∧ s13 = .bool mO ∧ Inv3 w G a b k a' b' k' a'' b'' k'' W ∧ At3 G g pA pB pK W)
        case first =>
          go_wp2_with fail
          refine (Q5.out _ ?_).mono ?_
          exact TzTab.below (w := wr) hT2.out (by (repeat (first | with_reducible exact Below.refl _ _ | with_reducible refine Below.drew ?_ | with_reducible refine Below.alloc ?_ (by first | omega | (simp; done) | (simp; omega)) _ | with_reducible refine Below.setCell ?_ (by first | omega | (simp; done) | (simp; omega)) _ | with_reducible refine Below.trans ?_ (Below.mono (by assumption) (by first | omega | (simp; done) | (simp; omega)))))) (Nat.le_refl _)
          rintro e w1 ⟨rfl, hb1⟩; (try replace hb1 := Below.undrew hb1); obtain ⟨hc1, hf1⟩ := bcell hb1; have hz1 := hb1.size; (try simp at hz1); have hz1_0 : G < w1.heap.size := (by omega); have hz1_1 : G + 1 < w1.heap.size := (by omega); have hz1_2 : G + 1 + 1 < w1.heap.size := (by omega); (try have hz1_r : wr.heap.size < w1.heap.size := (by omega))
          go_wp2_with fail
          go_meet
          exact ⟨w1.heap.size, rfl, rfl, ⟨hG, by simp; omega, by (repeat (first | with_reducible assumption | with_reducible refine Below.drew ?_ | with_reducible refine Below.alloc ?_ (by first | omega | (simp; done) | (simp; omega)) _ | with_reducible refine Below.setCell ?_ (by first | omega | (simp; done) | (simp; omega)) _ | with_reducible refine Below.trans ?_ (Below.mono (by assumption) (by first | omega | (simp; done) | (simp; omega))))), by simp [go_sem, *], by simp [go_sem, *], by simp [go_sem, *], by simp [go_sem, *], by simp [go_sem, *], by simp [go_sem, *], by simp [go_sem, *], by simp [go_sem, *], by simp [go_sem, *]⟩, ⟨by omega, by simp, by simp [go_sem, *], by simp [go_sem, *], by simp [go_sem, *]⟩⟩
        case rest =>
          obtain ⟨wr, hwr⟩ : ∃ x, x = wc := ⟨_, rfl⟩
          subst hwr
          obtain ⟨g0, rfl, rfl, ⟨hG, hGz, hB, x0, x1, x2, y0, y1, y2, z0, z1, z2⟩, ⟨hg0, hgz0, n00, n01, n02⟩⟩ := hcut
          have hT2 := Lib.hid (TzTab.below hT'.out hB (Nat.le_refl _))
          have hGa : G < wr.heap.size := by omega
          have hGb : G + 1 < wr.heap.size := by omega
          go_upto_region 13 with fail
          go_cut [72] (fun s72 W => s72 = .bool (mO && decide (sY ≠ 0)) ∧ Inv3 w G a b k a' b' k' a'' b'' k'' W ∧ At3 G g0 pA pB pK W)
          case first =>
            cases mO
            · go_wp2_with fail
              go_meet
              exact ⟨rfl, ⟨hG, by first | omega | (simp; omega), by (repeat (first | with_reducible assumption | with_reducible refine Below.drew ?_ | with_reducible refine Below.alloc ?_ (by first | omega | (simp; done) | (simp; omega)) _ | with_reducible refine Below.setCell ?_ (by first | omega | (simp; done) | (simp; omega)) _ | with_reducible refine Below.trans ?_ (Below.mono (by assumption) (by first | omega | (simp; done) | (simp; omega))))), by simp [go_sem, *], by simp [go_sem, *], by simp [go_sem, *], by simp [go_sem, *], by simp [go_sem, *], by simp [go_sem, *], by simp [go_sem, *], by simp [go_sem, *], by simp [go_sem, *]⟩, ⟨hg0, by first | omega | (simp; omega), by simp [go_sem, *], by simp [go_sem, *], by simp [go_sem, *]⟩⟩
            · go_wp2_with fail
              refine (Q6.out _ ?_).mono ?_
              exact TzTab.below (w := wr) hT2.out (by (repeat (first | with_reducible exact Below.refl _ _ | with_reducible refine Below.drew ?_ | with_reducible refine Below.alloc ?_ (by first | omega | (simp; done) | (simp; omega)) _ | with_reducible refine Below.setCell ?_ (by first | omega | (simp; done) | (simp; omega)) _ | with_reducible refine Below.trans ?_ (Below.mono (by assumption) (by first | omega | (simp; done) | (simp; omega)))))) (Nat.le_refl _)
              rintro e w1 ⟨rfl, hb1⟩; (try replace hb1 := Below.undrew hb1); obtain ⟨hc1, hf1⟩ := bcell hb1; have hz1 := hb1.size; (try simp at hz1); have hz1_0 : G < w1.heap.size := (by omega); have hz1_1 : G + 1 < w1.heap.size := (by omega); have hz1_2 : G + 1 + 1 < w1.heap.size := (by omega); have hz1_3 : g0 < w1.heap.size := (by omega); (try have hz1_r : wr.heap.size < w1.heap.size := (by omega))
              go_wp2_with fail
              go_meet
              exact ⟨by first | rfl | (congr 1; rw [Bool.eq_iff_iff]; simp) | (simp; done), ⟨hG, by first | omega | (simp; omega), by (repeat (first | with_reducible assumption | with_reducible refine Below.drew ?_ | with_reducible refine Below.alloc ?_ (by first | omega | (simp; done) | (simp; omega)) _ | with_reducible refine Below.setCell ?_ (by first | omega | (simp; done) | (simp; omega)) _ | with_reducible refine Below.trans ?_ (Below.mono (by assumption) (by first | omega | (simp; done) | (simp; omega))))), by simp [go_sem, *], by simp [go_sem, *], by simp [go_sem, *], by simp [go_sem, *], by simp [go_sem, *], by simp [go_sem, *], by simp [go_sem, *], by simp [go_sem, *], by simp [go_sem, *]⟩, ⟨hg0, by first | omega | (simp; omega), by simp [go_sem, *], by simp [go_sem, *], by simp [go_sem, *]⟩⟩
          case rest =>
            obtain ⟨wr, hwr⟩ : ∃ x, x = wc := ⟨_, rfl⟩
            subst hwr
            obtain ⟨rfl, ⟨hG, hGz, hB, x0, x1, x2, y0, y1, y2, z0, z1, z2⟩, ⟨hg0, hgz0, n00, n01, n02⟩⟩ := hcut
            have hT2 := Lib.hid (TzTab.below hT'.out hB (Nat.le_refl _))
            have hGa : G < wr.heap.size := by omega
            have hGb : G + 1 < wr.heap.size := by omega
            go_upto_if 72 with fail
            go_cut [] (fun W => Inv3 w G a b k a' b' k' a'' b'' k'' W)
            case first =>
              by_cases hc : (mO && decide (sY ≠ 0)) = true
              · have R7 := Lib.hid (Q7.out (by simp at hc; exact hc.1) (by simp at hc; exact hc.2))
                rw [hc]
                go_wp2_with fail
                refine (R7.out _ ?_).mono ?_
                exact TzTab.below (w := wr) hT2.out (by (repeat (first | with_reducible exact Below.refl _ _ | with_reducible refine Below.drew ?_ | with_reducible refine Below.alloc ?_ (by first | omega | (simp; done) | (simp; omega)) _ | with_reducible refine Below.setCell ?_ (by first | omega | (simp; done) | (simp; omega)) _ | with_reducible refine Below.trans ?_ (Below.mono (by assumption) (by first | omega | (simp; done) | (simp; omega)))))) (Nat.le_refl _)
                rintro e w1 ⟨rfl, hb1⟩; (try replace hb1 := Below.undrew hb1); obtain ⟨hc1, hf1⟩ := bcell hb1; have hz1 := hb1.size; (try simp at hz1); have hz1_0 : G < w1.heap.size := (by omega); have hz1_1 : G + 1 < w1.heap.size := (by omega); have hz1_2 : G + 1 + 1 < w1.heap.size := (by omega); have hz1_3 : g0 < w1.heap.size := (by omega); (try have hz1_r : wr.heap.size < w1.heap.size := (by omega))
                have heq := HEQ.out
                go_wp2_with fail
                go_meet
                exact ⟨hG, by first | omega | (simp; omega), by (repeat (first | with_reducible assumption | with_reducible refine Below.drew ?_ | with_reducible refine Below.alloc ?_ (by first | omega | (simp; done) | (simp; omega)) _ | with_reducible refine Below.setCell ?_ (by first | omega | (simp; done) | (simp; omega)) _ | with_reducible refine Below.trans ?_ (Below.mono (by assumption) (by first | omega | (simp; done) | (simp; omega))))), by simp [go_sem, *], by simp [go_sem, *], by simp [go_sem, *], by simp [go_sem, *], by simp [go_sem, *], by simp [go_sem, *], by simp [go_sem, *], by simp [go_sem, *], by simp [go_sem, *]⟩
              · rw [Bool.eq_false_iff.2 hc]
                go_wp2_with fail
                go_meet
                exact ⟨hG, by first | omega | (simp; omega), by (repeat (first | with_reducible assumption | with_reducible refine Below.drew ?_ | with_reducible refine Below.alloc ?_ (by first | omega | (simp; done) | (simp; omega)) _ | with_reducible refine Below.setCell ?_ (by first | omega | (simp; done) | (simp; omega)) _ | with_reducible refine Below.trans ?_ (Below.mono (by assumption) (by first | omega | (simp; done) | (simp; omega))))), by simp [go_sem, *], by simp [go_sem, *], by simp [go_sem, *], by simp [go_sem, *], by simp [go_sem, *], by simp [go_sem, *], by simp [go_sem, *], by simp [go_sem, *], by simp [go_sem, *]⟩
            case rest =>
              obtain ⟨wr, hwr⟩ : ∃ x, x = wc := ⟨_, rfl⟩
              subst hwr
              obtain ⟨hG, hGz, hB, x0, x1, x2, y0, y1, y2, z0, z1, z2⟩ := hcut
              have hT2 := Lib.hid (TzTab.below hT'.out hB (Nat.le_refl _))
              have hGa : G < wr.heap.size := by omega
              have hGb : G + 1 < wr.heap.size := by omega
              go_wp2_with fail
              refine (Q8.out _ ?_).mono ?_
              exact TzTab.below (w := wr) hT2.out (by (repeat (first | with_reducible exact Below.refl _ _ | with_reducible refine Below.drew ?_ | with_reducible refine Below.alloc ?_ (by first | omega | (simp; done) | (simp; omega)) _ | with_reducible refine Below.setCell ?_ (by first | omega | (simp; done) | (simp; omega)) _ | with_reducible refine Below.trans ?_ (Below.mono (by assumption) (by first | omega | (simp; done) | (simp; omega)))))) (Nat.le_refl _)
              rintro e w1 ⟨rfl, hb1⟩; (try replace hb1 := Below.undrew hb1); obtain ⟨hc1, hf1⟩ := bcell hb1; have hz1 := hb1.size; (try simp at hz1); have hz1_0 : G < w1.heap.size := (by omega); have hz1_1 : G + 1 < w1.heap.size := (by omega); have hz1_2 : G + 1 + 1 < w1.heap.size := (by omega); (try have hz1_r : wr.heap.size < w1.heap.size := (by omega))
              go_wp2_with fail
              go_ret
              exact ⟨rfl, by (repeat (first | with_reducible assumption | with_reducible refine Below.drew ?_ | with_reducible refine Below.alloc ?_ (by first | omega | (simp; done) | (simp; omega)) _ | with_reducible refine Below.setCell ?_ (by first | omega | (simp; done) | (simp; omega)) _ | with_reducible refine Below.trans ?_ (Below.mono (by assumption) (by first | omega | (simp; done) | (simp; omega)))))⟩
end Go.Proofs.YtffcdnokkdifdaaDoor
