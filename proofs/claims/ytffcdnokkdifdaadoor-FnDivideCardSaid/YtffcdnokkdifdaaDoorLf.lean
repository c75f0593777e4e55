/- The walk of FnNumSigns (written by gen_lf.py). -/
import Derived.Test.YtffcdnokkdifdaaDoorLh
namespace Go.Proofs.YtffcdnokkdifdaaDoor
open Go Go.RowKit OriM

/-- The three numbers lie where they were laid, nothing old has turned. -/
def Inv3 (w : World) (G : Nat) (a b k a' b' k' a'' b'' k'' : Int) (W : World) : Prop := w.heap.size ≤ G ∧ G + 1 + 1 < W.heap.size ∧ Below w.heap.size w W ∧
  W.cell? ⟨G, 0, none⟩ = some (.int .i64 a) ∧ W.cell? ⟨G, 1, none⟩ = some (.int .i64 b) ∧ W.cell? ⟨G, 2, none⟩ = some (.int .i64 k) ∧
  W.cell? ⟨G + 1, 0, none⟩ = some (.int .i64 a') ∧ W.cell? ⟨G + 1, 1, none⟩ = some (.int .i64 b') ∧ W.cell? ⟨G + 1, 2, none⟩ = some (.int .i64 k') ∧
  W.cell? ⟨G + 1 + 1, 0, none⟩ = some (.int .i64 a'') ∧ W.cell? ⟨G + 1 + 1, 1, none⟩ = some (.int .i64 b'') ∧ W.cell? ⟨G + 1 + 1, 2, none⟩ = some (.int .i64 k'')

theorem Inv3.drewN {w W : World} {G : Nat} {a b k a' b' k' a'' b'' k'' : Int} (h : Inv3 w G a b k a' b' k' a'' b'' k'' W) (n : Nat) : Inv3 w G a b k a' b' k' a'' b'' k'' (W.drewN n) :=
  ⟨h.1, h.2.1, below_drewN h.2.2.1 n, h.2.2.2⟩

/-- A number beside them. -/
def At3 (G g : Nat) (a b k : Int) (W : World) : Prop := G + 1 + 1 < g ∧ g < W.heap.size ∧ W.cell? ⟨g, 0, none⟩ = some (.int .i64 a) ∧ W.cell? ⟨g, 1, none⟩ = some (.int .i64 b) ∧ W.cell? ⟨g, 2, none⟩ = some (.int .i64 k)

set_option maxHeartbeats 8000000 in
set_option maxRecDepth 100000 in
theorem numSigns.walk (v : Value) (w : World) (hC : CodeIn w v) (hT : TzTab w) : Calls Tryd.prog 4 #[v] w (RetB (.bool true) w) := by
  obtain ⟨sa, sn, sc, rfl⟩ := hC.slice
  have HC := Lib.hid (fun w' hC' => E8Nums_any (.slice sa sn sc) w' hC')
  have hT' := Lib.hid hT
  have hC' := Lib.hid hC
  clear hC
  by_cases hn : 1048576 < sn
  · go_enter Tryd.func4, Tryd.ntmps4
    go_wp2
    go_ret
    exact ⟨rfl, by (repeat (first | with_reducible exact Below.refl _ _ | with_reducible refine Below.drew ?_ | with_reducible refine Below.alloc ?_ (by first | omega | (simp; done) | (simp; omega)) _ | with_reducible refine Below.setCell ?_ (by first | omega | (simp; done) | (simp; omega)) _ | with_reducible refine Below.trans ?_ (Below.mono (by assumption) (by first | omega | (simp; done) | (simp; omega)))))⟩
  go_enter Tryd.func4, Tryd.ntmps4
  go_wp2_with fail
  refine (HC.out _ hC'.out).mono ?_
  rintro e wE ⟨a, b, k, a', b', k', a'', b'', k'', rfl, hx, hy, hz, hb1⟩
  obtain ⟨pA, pB, pK, sP, sX, sY, cXY, cYX, dA, dB, dK, sD, uA, uB, uK, tA, tB, tK, cUT, f, lA, lB, lK, cL, hA, hB', hK, cH, mO, dO, uO, tO, lO, hO, q1, q2, q3, q4, q5, q6, q7, q8, q9, q10, q11, q12, q13, q14, q15, q16, q17, q18, q19, q20, q21, q22, q23, q24, q25⟩ := signs_facts hx hy hz
  have Q1 := Lib.hid q1
  have Q2 := Lib.hid q2
  have Q3 := Lib.hid q3
  have Q4 := Lib.hid q4
  have Q5 := Lib.hid q5
  have Q6 := Lib.hid q6
  have Q7 := Lib.hid q7
  have Q8 := Lib.hid q8
  have Q9 := Lib.hid q9
  have Q10 := Lib.hid q10
  have Q11 := Lib.hid q11
  have Q12 := Lib.hid q12
  have Q13 := Lib.hid q13
  have Q14 := Lib.hid q14
  have Q15 := Lib.hid q15
  have Q16 := Lib.hid q16
  have Q17 := Lib.hid q17
  have Q18 := Lib.hid q18
  have Q19 := Lib.hid q19
  have Q20 := Lib.hid q20
  have Q21 := Lib.hid q21
  have Q22 := Lib.hid q22
  have Q23 := Lib.hid q23
  have Q24 := Lib.hid q24
  have Q25 := Lib.hid q25
  clear hx hy hz q1 q2 q3 q4 q5 q6 q7 q8 q9 q10 q11 q12 q13 q14 q15 q16 q17 q18 q19 q20 q21 q22 q23 q24 q25
  have hz1 := hb1.size
  go_upto_region 4 with fail
  go_cut [3, 4, 5, 6, 7] (fun s3 s4 s5 s6 s7 W => ∃ G g : Nat, s3 = .pointer (some ⟨G, 0, none⟩) ∧ s4 = .pointer (some ⟨G + 1, 0, none⟩) ∧ s5 = .pointer (some ⟨G + 1 + 1, 0, none⟩) ∧ s6 = .pointer (some ⟨g, 0, none⟩) ∧ s7 = .bool mO ∧ Inv3 w G a b k a' b' k' a'' b'' k'' W ∧ At3 G g pA pB pK W)
  case first =>
    go_wp2_with fail
    have hTE := TzTab.below hT'.out hb1 (Nat.le_refl _)
    refine (Q1.out _ ?_).mono ?_; (repeat (first | with_reducible assumption | with_reducible apply TzTab.drew | with_reducible apply TzTab.alloc))
    rintro e w1 ⟨rfl, hb2⟩
    (try replace hb2 := Below.undrew hb2)
    obtain ⟨hc2, hf2⟩ := bcell hb2
    have hz2 := hb2.size
    simp at hz2
    have y0 : wE.heap.size < w1.heap.size := by omega
    have y1 : wE.heap.size + 1 < w1.heap.size := by omega
    have y2 : wE.heap.size + 1 + 1 < w1.heap.size := by omega
    go_wp2_with fail
    go_meet
    exact ⟨wE.heap.size, w1.heap.size, rfl, rfl, rfl, rfl, rfl, ⟨hz1, by simp; omega, by (repeat (first | with_reducible assumption | with_reducible refine Below.drew ?_ | with_reducible refine Below.alloc ?_ (by first | omega | (simp; done) | (simp; omega)) _ | with_reducible refine Below.setCell ?_ (by first | omega | (simp; done) | (simp; omega)) _ | with_reducible refine Below.trans ?_ (Below.mono (by assumption) (by first | omega | (simp; done) | (simp; omega))))), by simp [go_sem, *], by simp [go_sem, *], by simp [go_sem, *], by simp [go_sem, *], by simp [go_sem, *], by simp [go_sem, *], by simp [go_sem, *], by simp [go_sem, *], by simp [go_sem, *]⟩, ⟨by omega, by simp, by simp [go_sem, *], by simp [go_sem, *], by simp [go_sem, *]⟩⟩
  case rest =>
    obtain ⟨wr, hwr⟩ : ∃ x, x = wc := ⟨_, rfl⟩
    subst hwr
    obtain ⟨G, g, rfl, rfl, rfl, rfl, rfl, ⟨hG, hGz, hB, x0, x1, x2, y0, y1, y2, z0, z1, z2⟩, ⟨hg, hgz, n0, n1, n2⟩⟩ := hcut
    have hT2 := Lib.hid (TzTab.below hT'.out hB (Nat.le_refl _))
    have hGa : G < wr.heap.size := by omega
    have hGb : G + 1 < wr.heap.size := by omega
    go_upto_region 5 with fail
    go_cut [44] (fun s44 W => s44 = .bool false ∧ Inv3 w G a b k a' b' k' a'' b'' k'' W)
    case first =>
      cases mO
      · go_quiet (fail)
        go_wp2_with fail
        go_meet
        exact ⟨rfl, Inv3.drewN (show Inv3 w G a b k a' b' k' a'' b'' k'' wr from ⟨hG, hGz, hB, x0, x1, x2, y0, y1, y2, z0, z1, z2⟩) _⟩
      · have R1 := Lib.hid (Q2.out rfl)
        have e5 := Q5.out rfl
        (first
          | go_region_held3 (fun w' => w'.cell? ⟨G, 0, none⟩ = some (.int .i64 a) ∧ w'.cell? ⟨G, 1, none⟩ = some (.int .i64 b) ∧ w'.cell? ⟨G, 2, none⟩ = some (.int .i64 k) ∧ w'.cell? ⟨G + 1, 0, none⟩ = some (.int .i64 a') ∧ w'.cell? ⟨G + 1, 1, none⟩ = some (.int .i64 b') ∧ w'.cell? ⟨G + 1, 2, none⟩ = some (.int .i64 k') ∧ w'.cell? ⟨G + 1 + 1, 0, none⟩ = some (.int .i64 a'') ∧ w'.cell? ⟨G + 1 + 1, 1, none⟩ = some (.int .i64 b'') ∧ w'.cell? ⟨G + 1 + 1, 2, none⟩ = some (.int .i64 k'') ∧ w'.cell? ⟨g, 0, none⟩ = some (.int .i64 pA) ∧ w'.cell? ⟨g, 1, none⟩ = some (.int .i64 pB) ∧ w'.cell? ⟨g, 2, none⟩ = some (.int .i64 pK)) ((first | (go_simp; done) | (simp [*]; done)))
            ((first
            | (go_at_call_of 25 (#[Value.agg #[Value.int IntKind.i64 pA, Value.int IntKind.i64 pB, Value.int IntKind.i64 pK]] : Array Value); refine (R1.out _ ?_).mono ?_; exact TzTab.below (w := wr) hT2.out (by (repeat (first | with_reducible exact Below.refl _ _ | with_reducible refine Below.drew ?_ | with_reducible refine Below.alloc ?_ (by first | omega | (simp; done) | (simp; omega)) _ | with_reducible refine Below.setCell ?_ (by first | omega | (simp; done) | (simp; omega)) _ | with_reducible refine Below.trans ?_ (Below.mono (by assumption) (by first | omega | (simp; done) | (simp; omega)))))) (Nat.le_refl _); rintro e w1 ⟨rfl, hb1⟩; (try replace hb1 := Below.undrew hb1); obtain ⟨hc1, hf1⟩ := bcell hb1; have hz1 := hb1.size; (try simp at hz1); have hz1_0 : G < w1.heap.size := (by omega); have hz1_1 : G + 1 < w1.heap.size := (by omega); have hz1_2 : G + 1 + 1 < w1.heap.size := (by omega); have hz1_3 : g < w1.heap.size := (by omega); (try have hz1_r : wr.heap.size < w1.heap.size := (by omega)))
            | (go_at_call_of 25 (#[Value.agg #[Value.int IntKind.i64 a, Value.int IntKind.i64 b, Value.int IntKind.i64 k]] : Array Value); refine (Q3.out _ ?_).mono ?_; exact TzTab.below (w := wr) hT2.out (by (repeat (first | with_reducible exact Below.refl _ _ | with_reducible refine Below.drew ?_ | with_reducible refine Below.alloc ?_ (by first | omega | (simp; done) | (simp; omega)) _ | with_reducible refine Below.setCell ?_ (by first | omega | (simp; done) | (simp; omega)) _ | with_reducible refine Below.trans ?_ (Below.mono (by assumption) (by first | omega | (simp; done) | (simp; omega)))))) (Nat.le_refl _); rintro e w2 ⟨rfl, hb2⟩; (try replace hb2 := Below.undrew hb2); obtain ⟨hc2, hf2⟩ := bcell hb2; have hz2 := hb2.size; (try simp at hz2); have hz2_0 : G < w2.heap.size := (by omega); have hz2_1 : G + 1 < w2.heap.size := (by omega); have hz2_2 : G + 1 + 1 < w2.heap.size := (by omega); have hz2_3 : g < w2.heap.size := (by omega); (try have hz2_r : wr.heap.size < w2.heap.size := (by omega)))
            | (go_at_call_of 25 (#[Value.agg #[Value.int IntKind.i64 a', Value.int IntKind.i64 b', Value.int IntKind.i64 k']] : Array Value); refine (Q4.out _ ?_).mono ?_; exact TzTab.below (w := wr) hT2.out (by (repeat (first | with_reducible exact Below.refl _ _ | with_reducible refine Below.drew ?_ | with_reducible refine Below.alloc ?_ (by first | omega | (simp; done) | (simp; omega)) _ | with_reducible refine Below.setCell ?_ (by first | omega | (simp; done) | (simp; omega)) _ | with_reducible refine Below.trans ?_ (Below.mono (by assumption) (by first | omega | (simp; done) | (simp; omega)))))) (Nat.le_refl _); rintro e w3 ⟨rfl, hb3⟩; (try replace hb3 := Below.undrew hb3); obtain ⟨hc3, hf3⟩ := bcell hb3; have hz3 := hb3.size; (try simp at hz3); have hz3_0 : G < w3.heap.size := (by omega); have hz3_1 : G + 1 < w3.heap.size := (by omega); have hz3_2 : G + 1 + 1 < w3.heap.size := (by omega); have hz3_3 : g < w3.heap.size := (by omega); (try have hz3_r : wr.heap.size < w3.heap.size := (by omega)))))
          | fail)
        all_goals (go_wp2_with fail; go_meet; exact ⟨by simp [go_sem, *], ⟨hG, by omega, by (repeat (first | with_reducible assumption | with_reducible refine Below.drew ?_ | with_reducible refine Below.alloc ?_ (by first | omega | (simp; done) | (simp; omega)) _ | with_reducible refine Below.setCell ?_ (by first | omega | (simp; done) | (simp; omega)) _ | with_reducible refine Below.trans ?_ (Below.mono (by assumption) (by first | omega | (simp; done) | (simp; omega))))), by simp [go_sem, *], by simp [go_sem, *], by simp [go_sem, *], by simp [go_sem, *], by simp [go_sem, *], by simp [go_sem, *], by simp [go_sem, *], by simp [go_sem, *], by simp [go_sem, *]⟩⟩)
    case rest =>
      obtain ⟨wr, hwr⟩ : ∃ x, x = wc := ⟨_, rfl⟩
      subst hwr
      obtain ⟨rfl, ⟨hG, hGz, hB, x0, x1, x2, y0, y1, y2, z0, z1, z2⟩⟩ := hcut
      have hT2 := Lib.hid (TzTab.below hT'.out hB (Nat.le_refl _))
      have hGa : G < wr.heap.size := by omega
      have hGb : G + 1 < wr.heap.size := by omega
      go_upto_region 7 with fail
      go_cut [69] (fun s69 W => s69 = .bool false ∧ Inv3 w G a b k a' b' k' a'' b'' k'' W)
      case first =>
        have e9 := Q9.out
        by_cases hc : cXY = 0
        · have e10 := Q10.out hc
          have heq := eq_run a b k a' b' k'
          rw [e10] at heq
          subst hc
          clear e10
          (first
            | go_region_held3 (fun w' => w'.cell? ⟨G, 0, none⟩ = some (.int .i64 a) ∧ w'.cell? ⟨G, 1, none⟩ = some (.int .i64 b) ∧ w'.cell? ⟨G, 2, none⟩ = some (.int .i64 k) ∧ w'.cell? ⟨G + 1, 0, none⟩ = some (.int .i64 a') ∧ w'.cell? ⟨G + 1, 1, none⟩ = some (.int .i64 b') ∧ w'.cell? ⟨G + 1, 2, none⟩ = some (.int .i64 k') ∧ w'.cell? ⟨G + 1 + 1, 0, none⟩ = some (.int .i64 a'') ∧ w'.cell? ⟨G + 1 + 1, 1, none⟩ = some (.int .i64 b'') ∧ w'.cell? ⟨G + 1 + 1, 2, none⟩ = some (.int .i64 k'')) ((first | (go_simp; done) | (simp [*]; done)))
              ((first
              | (go_at_call_of 26 (#[Value.agg #[Value.int IntKind.i64 a, Value.int IntKind.i64 b, Value.int IntKind.i64 k], Value.agg #[Value.int IntKind.i64 a', Value.int IntKind.i64 b', Value.int IntKind.i64 k']] : Array Value); refine (Q6.out _ ?_).mono ?_; exact TzTab.below (w := wr) hT2.out (by (repeat (first | with_reducible exact Below.refl _ _ | with_reducible refine Below.drew ?_ | with_reducible refine Below.alloc ?_ (by first | omega | (simp; done) | (simp; omega)) _ | with_reducible refine Below.setCell ?_ (by first | omega | (simp; done) | (simp; omega)) _ | with_reducible refine Below.trans ?_ (Below.mono (by assumption) (by first | omega | (simp; done) | (simp; omega)))))) (Nat.le_refl _); rintro e w1 ⟨rfl, hb1⟩; (try replace hb1 := Below.undrew hb1); obtain ⟨hc1, hf1⟩ := bcell hb1; have hz1 := hb1.size; (try simp at hz1); have hz1_0 : G < w1.heap.size := (by omega); have hz1_1 : G + 1 < w1.heap.size := (by omega); have hz1_2 : G + 1 + 1 < w1.heap.size := (by omega); (try have hz1_r : wr.heap.size < w1.heap.size := (by omega)))
              | (go_at_call_of 26 (#[Value.agg #[Value.int IntKind.i64 a', Value.int IntKind.i64 b', Value.int IntKind.i64 k'], Value.agg #[Value.int IntKind.i64 a, Value.int IntKind.i64 b, Value.int IntKind.i64 k]] : Array Value); refine (Q7.out _ ?_).mono ?_; exact TzTab.below (w := wr) hT2.out (by (repeat (first | with_reducible exact Below.refl _ _ | with_reducible refine Below.drew ?_ | with_reducible refine Below.alloc ?_ (by first | omega | (simp; done) | (simp; omega)) _ | with_reducible refine Below.setCell ?_ (by first | omega | (simp; done) | (simp; omega)) _ | with_reducible refine Below.trans ?_ (Below.mono (by assumption) (by first | omega | (simp; done) | (simp; omega)))))) (Nat.le_refl _); rintro e w2 ⟨rfl, hb2⟩; (try replace hb2 := Below.undrew hb2); obtain ⟨hc2, hf2⟩ := bcell hb2; have hz2 := hb2.size; (try simp at hz2); have hz2_0 : G < w2.heap.size := (by omega); have hz2_1 : G + 1 < w2.heap.size := (by omega); have hz2_2 : G + 1 + 1 < w2.heap.size := (by omega); (try have hz2_r : wr.heap.size < w2.heap.size := (by omega)))
              | (go_at_call_of 26 (#[Value.agg #[Value.int IntKind.i64 a, Value.int IntKind.i64 b, Value.int IntKind.i64 k], Value.agg #[Value.int IntKind.i64 a, Value.int IntKind.i64 b, Value.int IntKind.i64 k]] : Array Value); refine (Q8.out _ ?_).mono ?_; exact TzTab.below (w := wr) hT2.out (by (repeat (first | with_reducible exact Below.refl _ _ | with_reducible refine Below.drew ?_ | with_reducible refine Below.alloc ?_ (by first | omega | (simp; done) | (simp; omega)) _ | with_reducible refine Below.setCell ?_ (by first | omega | (simp; done) | (simp; omega)) _ | with_reducible refine Below.trans ?_ (Below.mono (by assumption) (by first | omega | (simp; done) | (simp; omega)))))) (Nat.le_refl _); rintro e w3 ⟨rfl, hb3⟩; (try replace hb3 := Below.undrew hb3); obtain ⟨hc3, hf3⟩ := bcell hb3; have hz3 := hb3.size; (try simp at hz3); have hz3_0 : G < w3.heap.size := (by omega); have hz3_1 : G + 1 < w3.heap.size := (by omega); have hz3_2 : G + 1 + 1 < w3.heap.size := (by omega); (try have hz3_r : wr.heap.size < w3.heap.size := (by omega)))))
            | fail)
          all_goals (go_wp2_with fail; go_meet; exact ⟨by simp [go_sem, *], ⟨hG, by omega, by (repeat (first | with_reducible assumption | with_reducible refine Below.drew ?_ | with_reducible refine Below.alloc ?_ (by first | omega | (simp; done) | (simp; omega)) _ | with_reducible refine Below.setCell ?_ (by first | omega | (simp; done) | (simp; omega)) _ | with_reducible refine Below.trans ?_ (Below.mono (by assumption) (by first | omega | (simp; done) | (simp; omega))))), by simp [go_sem, *], by simp [go_sem, *], by simp [go_sem, *], by simp [go_sem, *], by simp [go_sem, *], by simp [go_sem, *], by simp [go_sem, *], by simp [go_sem, *], by simp [go_sem, *]⟩⟩)
        · refine wp_region_held_drew (S := fun w' => w'.cell? ⟨G, 0, none⟩ = some (.int .i64 a) ∧ w'.cell? ⟨G, 1, none⟩ = some (.int .i64 b) ∧ w'.cell? ⟨G, 2, none⟩ = some (.int .i64 k) ∧ w'.cell? ⟨G + 1, 0, none⟩ = some (.int .i64 a') ∧ w'.cell? ⟨G + 1, 1, none⟩ = some (.int .i64 b') ∧ w'.cell? ⟨G + 1, 2, none⟩ = some (.int .i64 k') ∧ w'.cell? ⟨G + 1 + 1, 0, none⟩ = some (.int .i64 a'') ∧ w'.cell? ⟨G + 1 + 1, 1, none⟩ = some (.int .i64 b'') ∧ w'.cell? ⟨G + 1 + 1, 2, none⟩ = some (.int .i64 k'')) (by kernel_rfl) ?_ (fun hHeld0 => ?_)
          · (try dsimp only); (first | (go_simp; done) | (simp [*]; done))
          refine wpAnyH_take (i := 0) (oi := ({ dst := some 45, op := Op.load 24 (Operand.tmp 3), type := 24, pos := "laws.go:119", after := #[], guard := none } : Oper)) (v := (Value.agg #[Value.int IntKind.i64 a, Value.int IntKind.i64 b, Value.int IntKind.i64 k])) rfl (by kernel_rfl) (by kernel_rfl) (by kernel_rfl) (fun _ _ _ h => h) (Or.inl ⟨by rfl, ?_⟩) (by assumption) ?_
          · intro w' hSw; (try dsimp only at hSw); go_simp; (try with_reducible rfl)
          try simp only [Act.put, List.setIfInBounds_toArray, List.set_cons_zero, List.set_cons_succ]
          refine wpAnyH_take (i := 1) (oi := ({ dst := some 46, op := Op.load 24 (Operand.tmp 4), type := 24, pos := "laws.go:119", after := #[], guard := none } : Oper)) (v := (Value.agg #[Value.int IntKind.i64 a', Value.int IntKind.i64 b', Value.int IntKind.i64 k'])) rfl (by kernel_rfl) (by kernel_rfl) (by kernel_rfl) (fun _ _ _ h => h) (Or.inl ⟨by rfl, ?_⟩) (by assumption) ?_
          · intro w' hSw; (try dsimp only at hSw); go_simp; (try with_reducible rfl)
          try simp only [Act.put, List.setIfInBounds_toArray, List.set_cons_zero, List.set_cons_succ]
          refine wpAnyH_take (i := 3) (oi := ({ dst := some 48, op := Op.load 24 (Operand.tmp 4), type := 24, pos := "laws.go:119", after := #[], guard := none } : Oper)) (v := (Value.agg #[Value.int IntKind.i64 a', Value.int IntKind.i64 b', Value.int IntKind.i64 k'])) rfl (by kernel_rfl) (by kernel_rfl) (by kernel_rfl) (fun _ _ _ h => h) (Or.inl ⟨by rfl, ?_⟩) (by assumption) ?_
          · intro w' hSw; (try dsimp only at hSw); go_simp; (try with_reducible rfl)
          try simp only [Act.put, List.setIfInBounds_toArray, List.set_cons_zero, List.set_cons_succ]
          refine wpAnyH_take (i := 4) (oi := ({ dst := some 49, op := Op.load 24 (Operand.tmp 3), type := 24, pos := "laws.go:119", after := #[], guard := none } : Oper)) (v := (Value.agg #[Value.int IntKind.i64 a, Value.int IntKind.i64 b, Value.int IntKind.i64 k])) rfl (by kernel_rfl) (by kernel_rfl) (by kernel_rfl) (fun _ _ _ h => h) (Or.inl ⟨by rfl, ?_⟩) (by assumption) ?_
          · intro w' hSw; (try dsimp only at hSw); go_simp; (try with_reducible rfl)
          try simp only [Act.put, List.setIfInBounds_toArray, List.set_cons_zero, List.set_cons_succ]
          refine wpAnyH_ready (rs := [2]) (by kernel_rfl) (by simp) ?_
          refine AllReadyH.cons (o := ({ dst := some 47, op := Op.call { callee := Callee.value (Operand.func 26), args := #[Operand.tmp 45, Operand.tmp 46], argTypes := #[24, 24] }, type := 2, pos := "laws.go:119", after := #[{ on := 0, ground := Ground.data }, { on := 1, ground := Ground.data }], guard := none } : Oper)) rfl (fun K hK => ?_) AllReadyH.nil
          go_simp
          go_at_call_of 26 (#[Value.agg #[Value.int IntKind.i64 a, Value.int IntKind.i64 b, Value.int IntKind.i64 k], Value.agg #[Value.int IntKind.i64 a', Value.int IntKind.i64 b', Value.int IntKind.i64 k']] : Array Value)
          refine (Q6.out _ ?_).mono ?_
          exact TzTab.below (w := wr) hT2.out (by (repeat (first | with_reducible exact Below.refl _ _ | with_reducible refine Below.drew ?_ | with_reducible refine Below.alloc ?_ (by first | omega | (simp; done) | (simp; omega)) _ | with_reducible refine Below.setCell ?_ (by first | omega | (simp; done) | (simp; omega)) _ | with_reducible refine Below.trans ?_ (Below.mono (by assumption) (by first | omega | (simp; done) | (simp; omega)))))) (Nat.le_refl _)
          rintro e w1 ⟨rfl, hb1⟩; (try replace hb1 := Below.undrew hb1); obtain ⟨hc1, hf1⟩ := bcell hb1; have hz1 := hb1.size; (try simp at hz1); have hz1_0 : G < w1.heap.size := (by omega); have hz1_1 : G + 1 < w1.heap.size := (by omega); have hz1_2 : G + 1 + 1 < w1.heap.size := (by omega); (try have hz1_r : wr.heap.size < w1.heap.size := (by omega))
          go_wp2_with fail
          refine hK.out _ _ ?_ (fun hHeld1 => ?_)
          · (try dsimp only); (first | (go_simp; done) | (simp [*]; done))
          clear hK K
          try simp only [Act.put, List.setIfInBounds_toArray, List.set_cons_zero, List.set_cons_succ]
          refine wpAnyH_ready (rs := [5]) (by kernel_rfl) (by simp) ?_
          refine AllReadyH.cons (o := ({ dst := some 50, op := Op.call { callee := Callee.value (Operand.func 26), args := #[Operand.tmp 48, Operand.tmp 49], argTypes := #[24, 24] }, type := 2, pos := "laws.go:119", after := #[{ on := 3, ground := Ground.data }, { on := 4, ground := Ground.data }, { on := 2, ground := Ground.chain }], guard := none } : Oper)) rfl (fun K hK => ?_) AllReadyH.nil
          go_simp
          go_at_call_of 26 (#[Value.agg #[Value.int IntKind.i64 a', Value.int IntKind.i64 b', Value.int IntKind.i64 k'], Value.agg #[Value.int IntKind.i64 a, Value.int IntKind.i64 b, Value.int IntKind.i64 k]] : Array Value)
          refine (Q7.out _ ?_).mono ?_
          exact TzTab.below (w := wr) hT2.out (by (repeat (first | with_reducible exact Below.refl _ _ | with_reducible refine Below.drew ?_ | with_reducible refine Below.alloc ?_ (by first | omega | (simp; done) | (simp; omega)) _ | with_reducible refine Below.setCell ?_ (by first | omega | (simp; done) | (simp; omega)) _ | with_reducible refine Below.trans ?_ (Below.mono (by assumption) (by first | omega | (simp; done) | (simp; omega)))))) (Nat.le_refl _)
          rintro e w2 ⟨rfl, hb2⟩; (try replace hb2 := Below.undrew hb2); obtain ⟨hc2, hf2⟩ := bcell hb2; have hz2 := hb2.size; (try simp at hz2); have hz2_0 : G < w2.heap.size := (by omega); have hz2_1 : G + 1 < w2.heap.size := (by omega); have hz2_2 : G + 1 + 1 < w2.heap.size := (by omega); (try have hz2_r : wr.heap.size < w2.heap.size := (by omega))
          go_wp2_with fail
          refine hK.out _ _ ?_ (fun hHeld2 => ?_)
          · (try dsimp only); (first | (go_simp; done) | (simp [*]; done))
          clear hK K
          try simp only [Act.put, List.setIfInBounds_toArray, List.set_cons_zero, List.set_cons_succ]
          refine wpAnyH_take (i := 6) (oi := ({ dst := some 51, op := Op.unOp UnOp.neg 2 (Operand.tmp 50), type := 2, pos := "laws.go:119", after := #[{ on := 5, ground := Ground.data }], guard := none } : Oper)) (v := (Value.int IntKind.i64 cXY)) rfl (by kernel_rfl) (by kernel_rfl) (by kernel_rfl) (fun _ _ _ h => h) (Or.inl ⟨by rfl, ?_⟩) (by assumption) ?_
          · intro w' hSw; (try dsimp only at hSw); go_simp; (try with_reducible rfl)
          try simp only [Act.put, List.setIfInBounds_toArray, List.set_cons_zero, List.set_cons_succ]
          refine wpAnyH_take (i := 7) (oi := ({ dst := some 52, op := Op.binOp BinOp.neq 2 (Operand.tmp 47) (Operand.tmp 51) 2, type := 4, pos := "laws.go:119", after := #[{ on := 2, ground := Ground.data }, { on := 6, ground := Ground.data }], guard := none } : Oper)) (v := (Value.bool false)) rfl (by kernel_rfl) (by kernel_rfl) (by kernel_rfl) (fun _ _ _ h => h) (Or.inl ⟨by rfl, ?_⟩) (by assumption) ?_
          · intro w' hSw; (try dsimp only at hSw); go_simp; (try with_reducible rfl)
          try simp only [Act.put, List.setIfInBounds_toArray, List.set_cons_zero, List.set_cons_succ]
          refine wpAnyH_take (i := 8) (oi := ({ dst := some 53, op := Op.move (Operand.tmp 52), type := 4, pos := "laws.go:119", after := #[{ on := 7, ground := Ground.data }, { on := 5, ground := Ground.chain }], guard := none } : Oper)) (v := (Value.bool false)) rfl (by kernel_rfl) (by kernel_rfl) (by kernel_rfl) (fun _ _ _ h => h) (Or.inl ⟨by rfl, ?_⟩) (by assumption) ?_
          · intro w' hSw; (try dsimp only at hSw); go_simp; (try with_reducible rfl)
          try simp only [Act.put, List.setIfInBounds_toArray, List.set_cons_zero, List.set_cons_succ]
          refine wpAnyH_take (i := 9) (oi := ({ dst := some 54, op := Op.load 24 (Operand.tmp 3), type := 24, pos := "laws.go:119", after := #[{ on := 8, ground := Ground.guard }], guard := some (8, false) } : Oper)) (v := (Value.agg #[Value.int IntKind.i64 a, Value.int IntKind.i64 b, Value.int IntKind.i64 k])) rfl (by kernel_rfl) (by kernel_rfl) (by kernel_rfl) (fun _ _ _ h => h) (Or.inl ⟨by rfl, ?_⟩) (by assumption) ?_
          · intro w' hSw; (try dsimp only at hSw); go_simp; (try with_reducible rfl)
          try simp only [Act.put, List.setIfInBounds_toArray, List.set_cons_zero, List.set_cons_succ]
          refine wpAnyH_take (i := 10) (oi := ({ dst := some 55, op := Op.load 24 (Operand.tmp 3), type := 24, pos := "laws.go:119", after := #[{ on := 8, ground := Ground.guard }], guard := some (8, false) } : Oper)) (v := (Value.agg #[Value.int IntKind.i64 a, Value.int IntKind.i64 b, Value.int IntKind.i64 k])) rfl (by kernel_rfl) (by kernel_rfl) (by kernel_rfl) (fun _ _ _ h => h) (Or.inl ⟨by rfl, ?_⟩) (by assumption) ?_
          · intro w' hSw; (try dsimp only at hSw); go_simp; (try with_reducible rfl)
          try simp only [Act.put, List.setIfInBounds_toArray, List.set_cons_zero, List.set_cons_succ]
          refine wpAnyH_ready (rs := [11]) (by kernel_rfl) (by simp) ?_
          refine AllReadyH.cons (o := ({ dst := some 56, op := Op.call { callee := Callee.value (Operand.func 26), args := #[Operand.tmp 54, Operand.tmp 55], argTypes := #[24, 24] }, type := 2, pos := "laws.go:119", after := #[{ on := 9, ground := Ground.data }, { on := 10, ground := Ground.data }, { on := 8, ground := Ground.chain }, { on := 8, ground := Ground.guard }], guard := some (8, false) } : Oper)) rfl (fun K hK => ?_) AllReadyH.nil
          go_simp
          go_at_call_of 26 (#[Value.agg #[Value.int IntKind.i64 a, Value.int IntKind.i64 b, Value.int IntKind.i64 k], Value.agg #[Value.int IntKind.i64 a, Value.int IntKind.i64 b, Value.int IntKind.i64 k]] : Array Value)
          refine (Q8.out _ ?_).mono ?_
          exact TzTab.below (w := wr) hT2.out (by (repeat (first | with_reducible exact Below.refl _ _ | with_reducible refine Below.drew ?_ | with_reducible refine Below.alloc ?_ (by first | omega | (simp; done) | (simp; omega)) _ | with_reducible refine Below.setCell ?_ (by first | omega | (simp; done) | (simp; omega)) _ | with_reducible refine Below.trans ?_ (Below.mono (by assumption) (by first | omega | (simp; done) | (simp; omega)))))) (Nat.le_refl _)
          rintro e w3 ⟨rfl, hb3⟩; (try replace hb3 := Below.undrew hb3); obtain ⟨hc3, hf3⟩ := bcell hb3; have hz3 := hb3.size; (try simp at hz3); have hz3_0 : G < w3.heap.size := (by omega); have hz3_1 : G + 1 < w3.heap.size := (by omega); have hz3_2 : G + 1 + 1 < w3.heap.size := (by omega); (try have hz3_r : wr.heap.size < w3.heap.size := (by omega))
          go_wp2_with fail
          refine hK.out _ _ ?_ (fun hHeld3 => ?_)
          · (try dsimp only); (first | (go_simp; done) | (simp [*]; done))
          clear hK K
          try simp only [Act.put, List.setIfInBounds_toArray, List.set_cons_zero, List.set_cons_succ]
          refine wpAnyH_take (i := 12) (oi := ({ dst := some 57, op := Op.binOp BinOp.neq 2 (Operand.tmp 56) (Operand.const (Value.int IntKind.i64 0)) 2, type := 4, pos := "laws.go:119", after := #[{ on := 11, ground := Ground.data }, { on := 8, ground := Ground.guard }], guard := some (8, false) } : Oper)) (v := (Value.bool false)) rfl (by kernel_rfl) (by kernel_rfl) (by kernel_rfl) (fun _ _ _ h => h) (Or.inl ⟨by rfl, ?_⟩) (by assumption) ?_
          · intro w' hSw; (try dsimp only at hSw); go_simp; (try with_reducible rfl)
          try simp only [Act.put, List.setIfInBounds_toArray, List.set_cons_zero, List.set_cons_succ]
          refine wpAnyH_take (i := 13) (oi := ({ dst := some 58, op := Op.pick (Operand.tmp 53) (Operand.const (Value.bool true)) (Operand.tmp 57), type := 4, pos := "laws.go:119", after := #[{ on := 8, ground := Ground.data }, { on := 12, ground := Ground.data }], guard := none } : Oper)) (v := (Value.bool false)) rfl (by kernel_rfl) (by kernel_rfl) (by kernel_rfl) (fun _ _ _ h => h) (Or.inl ⟨by rfl, ?_⟩) (by assumption) ?_
          · intro w' hSw; (try dsimp only at hSw); go_simp; (try with_reducible rfl)
          try simp only [Act.put, List.setIfInBounds_toArray, List.set_cons_zero, List.set_cons_succ]
          refine wpAnyH_take (i := 14) (oi := ({ dst := some 59, op := Op.move (Operand.tmp 58), type := 4, pos := "laws.go:119", after := #[{ on := 13, ground := Ground.data }, { on := 11, ground := Ground.chain }], guard := none } : Oper)) (v := (Value.bool false)) rfl (by kernel_rfl) (by kernel_rfl) (by kernel_rfl) (fun _ _ _ h => h) (Or.inl ⟨by rfl, ?_⟩) (by assumption) ?_
          · intro w' hSw; (try dsimp only at hSw); go_simp; (try with_reducible rfl)
          try simp only [Act.put, List.setIfInBounds_toArray, List.set_cons_zero, List.set_cons_succ]
          refine wpAnyH_take (i := 15) (oi := ({ dst := some 60, op := Op.load 24 (Operand.tmp 3), type := 24, pos := "laws.go:119", after := #[{ on := 14, ground := Ground.guard }], guard := some (14, false) } : Oper)) (v := (Value.agg #[Value.int IntKind.i64 a, Value.int IntKind.i64 b, Value.int IntKind.i64 k])) rfl (by kernel_rfl) (by kernel_rfl) (by kernel_rfl) (fun _ _ _ h => h) (Or.inl ⟨by rfl, ?_⟩) (by assumption) ?_
          · intro w' hSw; (try dsimp only at hSw); go_simp; (try with_reducible rfl)
          try simp only [Act.put, List.setIfInBounds_toArray, List.set_cons_zero, List.set_cons_succ]
          refine wpAnyH_take (i := 16) (oi := ({ dst := some 61, op := Op.load 24 (Operand.tmp 4), type := 24, pos := "laws.go:119", after := #[{ on := 14, ground := Ground.guard }], guard := some (14, false) } : Oper)) (v := (Value.agg #[Value.int IntKind.i64 a', Value.int IntKind.i64 b', Value.int IntKind.i64 k'])) rfl (by kernel_rfl) (by kernel_rfl) (by kernel_rfl) (fun _ _ _ h => h) (Or.inl ⟨by rfl, ?_⟩) (by assumption) ?_
          · intro w' hSw; (try dsimp only at hSw); go_simp; (try with_reducible rfl)
          try simp only [Act.put, List.setIfInBounds_toArray, List.set_cons_zero, List.set_cons_succ]
          refine wpAnyH_ready (rs := [17]) (by kernel_rfl) (by simp) ?_
          refine AllReadyH.cons (o := ({ dst := some 62, op := Op.call { callee := Callee.value (Operand.func 26), args := #[Operand.tmp 60, Operand.tmp 61], argTypes := #[24, 24] }, type := 2, pos := "laws.go:119", after := #[{ on := 15, ground := Ground.data }, { on := 16, ground := Ground.data }, { on := 14, ground := Ground.chain }, { on := 14, ground := Ground.guard }], guard := some (14, false) } : Oper)) rfl (fun K hK => ?_) AllReadyH.nil
          go_simp
          go_at_call_of 26 (#[Value.agg #[Value.int IntKind.i64 a, Value.int IntKind.i64 b, Value.int IntKind.i64 k], Value.agg #[Value.int IntKind.i64 a', Value.int IntKind.i64 b', Value.int IntKind.i64 k']] : Array Value)
          refine (Q6.out _ ?_).mono ?_
          exact TzTab.below (w := wr) hT2.out (by (repeat (first | with_reducible exact Below.refl _ _ | with_reducible refine Below.drew ?_ | with_reducible refine Below.alloc ?_ (by first | omega | (simp; done) | (simp; omega)) _ | with_reducible refine Below.setCell ?_ (by first | omega | (simp; done) | (simp; omega)) _ | with_reducible refine Below.trans ?_ (Below.mono (by assumption) (by first | omega | (simp; done) | (simp; omega)))))) (Nat.le_refl _)
          rintro e w4 ⟨rfl, hb4⟩; (try replace hb4 := Below.undrew hb4); obtain ⟨hc4, hf4⟩ := bcell hb4; have hz4 := hb4.size; (try simp at hz4); have hz4_0 : G < w4.heap.size := (by omega); have hz4_1 : G + 1 < w4.heap.size := (by omega); have hz4_2 : G + 1 + 1 < w4.heap.size := (by omega); (try have hz4_r : wr.heap.size < w4.heap.size := (by omega))
          go_wp2_with fail
          refine hK.out _ _ ?_ (fun hHeld4 => ?_)
          · (try dsimp only); (first | (go_simp; done) | (simp [*]; done))
          clear hK K
          try simp only [Act.put, List.setIfInBounds_toArray, List.set_cons_zero, List.set_cons_succ]
          refine wpAnyH_take (i := 18) (oi := ({ dst := some 63, op := Op.binOp BinOp.eql 2 (Operand.tmp 62) (Operand.const (Value.int IntKind.i64 0)) 2, type := 4, pos := "laws.go:119", after := #[{ on := 17, ground := Ground.data }, { on := 14, ground := Ground.guard }], guard := some (14, false) } : Oper)) (v := (Value.bool false)) rfl (by kernel_rfl) (by kernel_rfl) (by kernel_rfl) (fun _ _ _ h => h) (Or.inl ⟨by rfl, ?_⟩) (by assumption) ?_
          · intro w' hSw; (try dsimp only at hSw); go_simp; (try with_reducible rfl)
          try simp only [Act.put, List.setIfInBounds_toArray, List.set_cons_zero, List.set_cons_succ]
          refine wpAnyH_take (i := 19) (oi := ({ dst := some 64, op := Op.move (Operand.tmp 63), type := 4, pos := "laws.go:119", after := #[{ on := 18, ground := Ground.data }, { on := 17, ground := Ground.chain }, { on := 14, ground := Ground.guard }], guard := some (14, false) } : Oper)) (v := (Value.bool false)) rfl (by kernel_rfl) (by kernel_rfl) (by kernel_rfl) (fun _ _ _ h => h) (Or.inl ⟨by rfl, ?_⟩) (by assumption) ?_
          · intro w' hSw; (try dsimp only at hSw); go_simp; (try with_reducible rfl)
          try simp only [Act.put, List.setIfInBounds_toArray, List.set_cons_zero, List.set_cons_succ]
          refine wpAnyH_ready (rs := [20, 21]) (by kernel_rfl) (by simp) ?_
          refine AllReadyH.cons (o := ({ dst := some 65, op := Op.load 24 (Operand.tmp 3), type := 24, pos := "laws.go:119", after := #[{ on := 19, ground := Ground.guard }], guard := some (19, true) } : Oper)) rfl (fun K hK => ?_) (AllReadyH.cons (o := ({ dst := some 66, op := Op.load 24 (Operand.tmp 4), type := 24, pos := "laws.go:119", after := #[{ on := 19, ground := Ground.guard }], guard := some (19, true) } : Oper)) rfl (fun K hK => ?_) AllReadyH.nil)
          · go_simp
            refine hK.out _ _ (by assumption) (fun hHeld20 => ?_)
            clear hK K
            try simp only [Act.put, List.setIfInBounds_toArray, List.set_cons_zero, List.set_cons_succ]
            refine wpAnyH_ready (rs := [21]) (by kernel_rfl) (by simp) ?_
            refine AllReadyH.cons (o := ({ dst := some 66, op := Op.load 24 (Operand.tmp 4), type := 24, pos := "laws.go:119", after := #[{ on := 19, ground := Ground.guard }], guard := some (19, true) } : Oper)) rfl (fun K hK => ?_) AllReadyH.nil
            go_simp
            refine hK.out _ _ (by assumption) (fun hHeld21 => ?_)
            clear hK K
            try simp only [Act.put, List.setIfInBounds_toArray, List.set_cons_zero, List.set_cons_succ]
            refine wpAnyH_ready (rs := [22]) (by kernel_rfl) (by simp) ?_
            refine AllReadyH.cons (o := ({ dst := some 67, op := Op.binOp BinOp.neq 24 (Operand.tmp 65) (Operand.tmp 66) 24, type := 4, pos := "laws.go:119", after := #[{ on := 20, ground := Ground.data }, { on := 21, ground := Ground.data }, { on := 19, ground := Ground.guard }], guard := some (19, true) } : Oper)) rfl (fun K hK => ?_) AllReadyH.nil
            go_simp
            refine hK.out _ _ (by assumption) (fun hHeld22 => ?_)
            clear hK K
            try simp only [Act.put, List.setIfInBounds_toArray, List.set_cons_zero, List.set_cons_succ]
            refine wpAnyH_take (i := 23) (oi := ({ dst := some 68, op := Op.pick (Operand.tmp 64) (Operand.tmp 67) (Operand.const (Value.bool false)), type := 4, pos := "laws.go:119", after := #[{ on := 19, ground := Ground.data }, { on := 22, ground := Ground.data }, { on := 14, ground := Ground.guard }], guard := some (14, false) } : Oper)) (v := (Value.bool false)) rfl (by kernel_rfl) (by kernel_rfl) (by kernel_rfl) (fun _ _ _ h => h) (Or.inl ⟨by rfl, ?_⟩) (by assumption) ?_
            · intro w' hSw; (try dsimp only at hSw); go_simp; (try with_reducible rfl)
            try simp only [Act.put, List.setIfInBounds_toArray, List.set_cons_zero, List.set_cons_succ]
            refine wpAnyH_take (i := 24) (oi := ({ dst := some 69, op := Op.pick (Operand.tmp 59) (Operand.const (Value.bool true)) (Operand.tmp 68), type := 4, pos := "laws.go:119", after := #[{ on := 14, ground := Ground.data }, { on := 23, ground := Ground.data }], guard := none } : Oper)) (v := (Value.bool false)) rfl (by kernel_rfl) (by kernel_rfl) (by kernel_rfl) (fun _ _ _ h => h) (Or.inl ⟨by rfl, ?_⟩) (by assumption) ?_
            · intro w' hSw; (try dsimp only at hSw); go_simp; (try with_reducible rfl)
            try simp only [Act.put, List.setIfInBounds_toArray, List.set_cons_zero, List.set_cons_succ]
            refine wpAnyH_done (by kernel_rfl) ?_ _
            go_wp2_with fail
            go_meet
            exact ⟨by simp [go_sem, *], ⟨hG, by omega, by (repeat (first | with_reducible assumption | with_reducible refine Below.drew ?_ | with_reducible refine Below.alloc ?_ (by first | omega | (simp; done) | (simp; omega)) _ | with_reducible refine Below.setCell ?_ (by first | omega | (simp; done) | (simp; omega)) _ | with_reducible refine Below.trans ?_ (Below.mono (by assumption) (by first | omega | (simp; done) | (simp; omega))))), by simp [go_sem, *], by simp [go_sem, *], by simp [go_sem, *], by simp [go_sem, *], by simp [go_sem, *], by simp [go_sem, *], by simp [go_sem, *], by simp [go_sem, *], by simp [go_sem, *]⟩⟩
          · go_simp
            refine hK.out _ _ (by assumption) (fun hHeld21 => ?_)
            clear hK K
            try simp only [Act.put, List.setIfInBounds_toArray, List.set_cons_zero, List.set_cons_succ]
            refine wpAnyH_ready (rs := [20]) (by kernel_rfl) (by simp) ?_
            refine AllReadyH.cons (o := ({ dst := some 65, op := Op.load 24 (Operand.tmp 3), type := 24, pos := "laws.go:119", after := #[{ on := 19, ground := Ground.guard }], guard := some (19, true) } : Oper)) rfl (fun K hK => ?_) AllReadyH.nil
            go_simp
            refine hK.out _ _ (by assumption) (fun hHeld20 => ?_)
            clear hK K
            try simp only [Act.put, List.setIfInBounds_toArray, List.set_cons_zero, List.set_cons_succ]
            refine wpAnyH_ready (rs := [22]) (by kernel_rfl) (by simp) ?_
            refine AllReadyH.cons (o := ({ dst := some 67, op := Op.binOp BinOp.neq 24 (Operand.tmp 65) (Operand.tmp 66) 24, type := 4, pos := "laws.go:119", after := #[{ on := 20, ground := Ground.data }, { on := 21, ground := Ground.data }, { on := 19, ground := Ground.guard }], guard := some (19, true) } : Oper)) rfl (fun K hK => ?_) AllReadyH.nil
            go_simp
            refine hK.out _ _ (by assumption) (fun hHeld22 => ?_)
            clear hK K
            try simp only [Act.put, List.setIfInBounds_toArray, List.set_cons_zero, List.set_cons_succ]
            refine wpAnyH_take (i := 23) (oi := ({ dst := some 68, op := Op.pick (Operand.tmp 64) (Operand.tmp 67) (Operand.const (Value.bool false)), type := 4, pos := "laws.go:119", after := #[{ on := 19, ground := Ground.data }, { on := 22, ground := Ground.data }, { on := 14, ground := Ground.guard }], guard := some (14, false) } : Oper)) (v := (Value.bool false)) rfl (by kernel_rfl) (by kernel_rfl) (by kernel_rfl) (fun _ _ _ h => h) (Or.inl ⟨by rfl, ?_⟩) (by assumption) ?_
            · intro w' hSw; (try dsimp only at hSw); go_simp; (try with_reducible rfl)
            try simp only [Act.put, List.setIfInBounds_toArray, List.set_cons_zero, List.set_cons_succ]
            refine wpAnyH_take (i := 24) (oi := ({ dst := some 69, op := Op.pick (Operand.tmp 59) (Operand.const (Value.bool true)) (Operand.tmp 68), type := 4, pos := "laws.go:119", after := #[{ on := 14, ground := Ground.data }, { on := 23, ground := Ground.data }], guard := none } : Oper)) (v := (Value.bool false)) rfl (by kernel_rfl) (by kernel_rfl) (by kernel_rfl) (fun _ _ _ h => h) (Or.inl ⟨by rfl, ?_⟩) (by assumption) ?_
            · intro w' hSw; (try dsimp only at hSw); go_simp; (try with_reducible rfl)
            try simp only [Act.put, List.setIfInBounds_toArray, List.set_cons_zero, List.set_cons_succ]
            refine wpAnyH_done (by kernel_rfl) ?_ _
            go_wp2_with fail
            go_meet
            exact ⟨by simp [go_sem, *], ⟨hG, by omega, by (repeat (first | with_reducible assumption | with_reducible refine Below.drew ?_ | with_reducible refine Below.alloc ?_ (by first | omega | (simp; done) | (simp; omega)) _ | with_reducible refine Below.setCell ?_ (by first | omega | (simp; done) | (simp; omega)) _ | with_reducible refine Below.trans ?_ (Below.mono (by assumption) (by first | omega | (simp; done) | (simp; omega))))), by simp [go_sem, *], by simp [go_sem, *], by simp [go_sem, *], by simp [go_sem, *], by simp [go_sem, *], by simp [go_sem, *], by simp [go_sem, *], by simp [go_sem, *], by simp [go_sem, *]⟩⟩
      case rest =>
        obtain ⟨wr, hwr⟩ : ∃ x, x = wc := ⟨_, rfl⟩
        subst hwr
        obtain ⟨rfl, ⟨hG, hGz, hB, x0, x1, x2, y0, y1, y2, z0, z1, z2⟩⟩ := hcut
        have hT2 := Lib.hid (TzTab.below hT'.out hB (Nat.le_refl _))
        have hGa : G < wr.heap.size := by omega
        have hGb : G + 1 < wr.heap.size := by omega
        go_upto_region 9 with fail
        go_cut [8, 9] (fun s8 s9 W => ∃ g : Nat, s8 = .pointer (some ⟨g, 0, none⟩) ∧ s9 = .bool dO ∧ Inv3 w G a b k a' b' k' a'' b'' k'' W ∧ At3 G g dA dB dK W)
        case first =>
          go_wp2_with fail
          refine (Q11.out _ ?_).mono ?_; exact TzTab.below (w := wr) hT2.out (by (repeat (first | with_reducible exact Below.refl _ _ | with_reducible refine Below.drew ?_ | with_reducible refine Below.alloc ?_ (by first | omega | (simp; done) | (simp; omega)) _ | with_reducible refine Below.setCell ?_ (by first | omega | (simp; done) | (simp; omega)) _ | with_reducible refine Below.trans ?_ (Below.mono (by assumption) (by first | omega | (simp; done) | (simp; omega)))))) (Nat.le_refl _)
          rintro e w1 ⟨rfl, hb1⟩; (try replace hb1 := Below.undrew hb1); obtain ⟨hc1, hf1⟩ := bcell hb1; have hz1 := hb1.size; (try simp at hz1); have hz1_0 : G < w1.heap.size := (by omega); have hz1_1 : G + 1 < w1.heap.size := (by omega); have hz1_2 : G + 1 + 1 < w1.heap.size := (by omega); (try have hz1_r : wr.heap.size < w1.heap.size := (by omega))
          go_wp2_with fail
          go_meet
          exact ⟨w1.heap.size, rfl, rfl, ⟨hG, by simp; omega, by (repeat (first | with_reducible assumption | with_reducible refine Below.drew ?_ | with_reducible refine Below.alloc ?_ (by first | omega | (simp; done) | (simp; omega)) _ | with_reducible refine Below.setCell ?_ (by first | omega | (simp; done) | (simp; omega)) _ | with_reducible refine Below.trans ?_ (Below.mono (by assumption) (by first | omega | (simp; done) | (simp; omega))))), by simp [go_sem, *], by simp [go_sem, *], by simp [go_sem, *], by simp [go_sem, *], by simp [go_sem, *], by simp [go_sem, *], by simp [go_sem, *], by simp [go_sem, *], by simp [go_sem, *]⟩, ⟨by omega, by simp, by simp [go_sem, *], by simp [go_sem, *], by simp [go_sem, *]⟩⟩
        case rest =>
          obtain ⟨wr, hwr⟩ : ∃ x, x = wc := ⟨_, rfl⟩
          subst hwr
          obtain ⟨g0, rfl, rfl, ⟨hG, hGz, hB, x0, x1, x2, y0, y1, y2, z0, z1, z2⟩, ⟨hg0, hgz0, n00, n01, n02⟩⟩ := hcut
          have hT2 := Lib.hid (TzTab.below hT'.out hB (Nat.le_refl _))
          have hGa : G < wr.heap.size := by omega
          have hGb : G + 1 < wr.heap.size := by omega
          go_upto_region 10 with fail
          go_cut [84] (fun s84 W => s84 = .bool false ∧ Inv3 w G a b k a' b' k' a'' b'' k'' W)
          case first =>
            cases dO
            · go_quiet (fail)
              go_wp2_with fail
              go_meet
              exact ⟨rfl, Inv3.drewN (show Inv3 w G a b k a' b' k' a'' b'' k'' wr from ⟨hG, hGz, hB, x0, x1, x2, y0, y1, y2, z0, z1, z2⟩) _⟩
            · have R1 := Lib.hid (Q12.out rfl)
              obtain rfl : sD = cXY := Q13.out rfl
              (first
                | go_region_held3 (fun w' => w'.cell? ⟨G, 0, none⟩ = some (.int .i64 a) ∧ w'.cell? ⟨G, 1, none⟩ = some (.int .i64 b) ∧ w'.cell? ⟨G, 2, none⟩ = some (.int .i64 k) ∧ w'.cell? ⟨G + 1, 0, none⟩ = some (.int .i64 a') ∧ w'.cell? ⟨G + 1, 1, none⟩ = some (.int .i64 b') ∧ w'.cell? ⟨G + 1, 2, none⟩ = some (.int .i64 k') ∧ w'.cell? ⟨G + 1 + 1, 0, none⟩ = some (.int .i64 a'') ∧ w'.cell? ⟨G + 1 + 1, 1, none⟩ = some (.int .i64 b'') ∧ w'.cell? ⟨G + 1 + 1, 2, none⟩ = some (.int .i64 k'') ∧ w'.cell? ⟨g0, 0, none⟩ = some (.int .i64 dA) ∧ w'.cell? ⟨g0, 1, none⟩ = some (.int .i64 dB) ∧ w'.cell? ⟨g0, 2, none⟩ = some (.int .i64 dK)) ((first | (go_simp; done) | (simp [*]; done)))
                  ((first
                  | (go_at_call_of 25 (#[Value.agg #[Value.int IntKind.i64 dA, Value.int IntKind.i64 dB, Value.int IntKind.i64 dK]] : Array Value); refine (R1.out _ ?_).mono ?_; exact TzTab.below (w := wr) hT2.out (by (repeat (first | with_reducible exact Below.refl _ _ | with_reducible refine Below.drew ?_ | with_reducible refine Below.alloc ?_ (by first | omega | (simp; done) | (simp; omega)) _ | with_reducible refine Below.setCell ?_ (by first | omega | (simp; done) | (simp; omega)) _ | with_reducible refine Below.trans ?_ (Below.mono (by assumption) (by first | omega | (simp; done) | (simp; omega)))))) (Nat.le_refl _); rintro e w1 ⟨rfl, hb1⟩; (try replace hb1 := Below.undrew hb1); obtain ⟨hc1, hf1⟩ := bcell hb1; have hz1 := hb1.size; (try simp at hz1); have hz1_0 : G < w1.heap.size := (by omega); have hz1_1 : G + 1 < w1.heap.size := (by omega); have hz1_2 : G + 1 + 1 < w1.heap.size := (by omega); have hz1_3 : g0 < w1.heap.size := (by omega); (try have hz1_r : wr.heap.size < w1.heap.size := (by omega)))
                  | (go_at_call_of 26 (#[Value.agg #[Value.int IntKind.i64 a, Value.int IntKind.i64 b, Value.int IntKind.i64 k], Value.agg #[Value.int IntKind.i64 a', Value.int IntKind.i64 b', Value.int IntKind.i64 k']] : Array Value); refine (Q6.out _ ?_).mono ?_; exact TzTab.below (w := wr) hT2.out (by (repeat (first | with_reducible exact Below.refl _ _ | with_reducible refine Below.drew ?_ | with_reducible refine Below.alloc ?_ (by first | omega | (simp; done) | (simp; omega)) _ | with_reducible refine Below.setCell ?_ (by first | omega | (simp; done) | (simp; omega)) _ | with_reducible refine Below.trans ?_ (Below.mono (by assumption) (by first | omega | (simp; done) | (simp; omega)))))) (Nat.le_refl _); rintro e w2 ⟨rfl, hb2⟩; (try replace hb2 := Below.undrew hb2); obtain ⟨hc2, hf2⟩ := bcell hb2; have hz2 := hb2.size; (try simp at hz2); have hz2_0 : G < w2.heap.size := (by omega); have hz2_1 : G + 1 < w2.heap.size := (by omega); have hz2_2 : G + 1 + 1 < w2.heap.size := (by omega); have hz2_3 : g0 < w2.heap.size := (by omega); (try have hz2_r : wr.heap.size < w2.heap.size := (by omega)))))
                | fail)
              all_goals (go_wp2_with fail; go_meet; exact ⟨by simp [go_sem, *], ⟨hG, by omega, by (repeat (first | with_reducible assumption | with_reducible refine Below.drew ?_ | with_reducible refine Below.alloc ?_ (by first | omega | (simp; done) | (simp; omega)) _ | with_reducible refine Below.setCell ?_ (by first | omega | (simp; done) | (simp; omega)) _ | with_reducible refine Below.trans ?_ (Below.mono (by assumption) (by first | omega | (simp; done) | (simp; omega))))), by simp [go_sem, *], by simp [go_sem, *], by simp [go_sem, *], by simp [go_sem, *], by simp [go_sem, *], by simp [go_sem, *], by simp [go_sem, *], by simp [go_sem, *], by simp [go_sem, *]⟩⟩)
          case rest =>
            obtain ⟨wr, hwr⟩ : ∃ x, x = wc := ⟨_, rfl⟩
            subst hwr
            obtain ⟨rfl, ⟨hG, hGz, hB, x0, x1, x2, y0, y1, y2, z0, z1, z2⟩⟩ := hcut
            have hT2 := Lib.hid (TzTab.below hT'.out hB (Nat.le_refl _))
            have hGa : G < wr.heap.size := by omega
            have hGb : G + 1 < wr.heap.size := by omega
            go_upto_region 12 with fail
            go_cut [10, 11] (fun s10 s11 W => ∃ g : Nat, s10 = .pointer (some ⟨g, 0, none⟩) ∧ s11 = .bool uO ∧ Inv3 w G a b k a' b' k' a'' b'' k'' W ∧ At3 G g uA uB uK W)
            case first =>
              go_wp2_with fail
              refine (Q14.out _ ?_).mono ?_; exact TzTab.below (w := wr) hT2.out (by (repeat (first | with_reducible exact Below.refl _ _ | with_reducible refine Below.drew ?_ | with_reducible refine Below.alloc ?_ (by first | omega | (simp; done) | (simp; omega)) _ | with_reducible refine Below.setCell ?_ (by first | omega | (simp; done) | (simp; omega)) _ | with_reducible refine Below.trans ?_ (Below.mono (by assumption) (by first | omega | (simp; done) | (simp; omega)))))) (Nat.le_refl _)
              rintro e w1 ⟨rfl, hb1⟩; (try replace hb1 := Below.undrew hb1); obtain ⟨hc1, hf1⟩ := bcell hb1; have hz1 := hb1.size; (try simp at hz1); have hz1_0 : G < w1.heap.size := (by omega); have hz1_1 : G + 1 < w1.heap.size := (by omega); have hz1_2 : G + 1 + 1 < w1.heap.size := (by omega); (try have hz1_r : wr.heap.size < w1.heap.size := (by omega))
              go_wp2_with fail
              go_meet
              exact ⟨w1.heap.size, rfl, rfl, ⟨hG, by simp; omega, by (repeat (first | with_reducible assumption | with_reducible refine Below.drew ?_ | with_reducible refine Below.alloc ?_ (by first | omega | (simp; done) | (simp; omega)) _ | with_reducible refine Below.setCell ?_ (by first | omega | (simp; done) | (simp; omega)) _ | with_reducible refine Below.trans ?_ (Below.mono (by assumption) (by first | omega | (simp; done) | (simp; omega))))), by simp [go_sem, *], by simp [go_sem, *], by simp [go_sem, *], by simp [go_sem, *], by simp [go_sem, *], by simp [go_sem, *], by simp [go_sem, *], by simp [go_sem, *], by simp [go_sem, *]⟩, ⟨by omega, by simp, by simp [go_sem, *], by simp [go_sem, *], by simp [go_sem, *]⟩⟩
            case rest =>
              obtain ⟨wr, hwr⟩ : ∃ x, x = wc := ⟨_, rfl⟩
              subst hwr
              obtain ⟨g0, rfl, rfl, ⟨hG, hGz, hB, x0, x1, x2, y0, y1, y2, z0, z1, z2⟩, ⟨hg0, hgz0, n00, n01, n02⟩⟩ := hcut
              have hT2 := Lib.hid (TzTab.below hT'.out hB (Nat.le_refl _))
              have hGa : G < wr.heap.size := by omega
              have hGb : G + 1 < wr.heap.size := by omega
              go_upto_region 13 with fail
              go_cut [12, 13] (fun s12 s13 W => ∃ g : Nat, s12 = .pointer (some ⟨g, 0, none⟩) ∧ s13 = .bool tO ∧ Inv3 w G a b k a' b' k' a'' b'' k'' W ∧ At3 G g0 uA uB uK W ∧ At3 G g tA tB tK W)
              case first =>
                go_wp2_with fail
                refine (Q15.out _ ?_).mono ?_; exact TzTab.below (w := wr) hT2.out (by (repeat (first | with_reducible exact Below.refl _ _ | with_reducible refine Below.drew ?_ | with_reducible refine Below.alloc ?_ (by first | omega | (simp; done) | (simp; omega)) _ | with_reducible refine Below.setCell ?_ (by first | omega | (simp; done) | (simp; omega)) _ | with_reducible refine Below.trans ?_ (Below.mono (by assumption) (by first | omega | (simp; done) | (simp; omega)))))) (Nat.le_refl _)
                rintro e w1 ⟨rfl, hb1⟩; (try replace hb1 := Below.undrew hb1); obtain ⟨hc1, hf1⟩ := bcell hb1; have hz1 := hb1.size; (try simp at hz1); have hz1_0 : G < w1.heap.size := (by omega); have hz1_1 : G + 1 < w1.heap.size := (by omega); have hz1_2 : G + 1 + 1 < w1.heap.size := (by omega); have hz1_3 : g0 < w1.heap.size := (by omega); (try have hz1_r : wr.heap.size < w1.heap.size := (by omega))
                go_wp2_with fail
                go_meet
                exact ⟨w1.heap.size, rfl, rfl, ⟨hG, by simp; omega, by (repeat (first | with_reducible assumption | with_reducible refine Below.drew ?_ | with_reducible refine Below.alloc ?_ (by first | omega | (simp; done) | (simp; omega)) _ | with_reducible refine Below.setCell ?_ (by first | omega | (simp; done) | (simp; omega)) _ | with_reducible refine Below.trans ?_ (Below.mono (by assumption) (by first | omega | (simp; done) | (simp; omega))))), by simp [go_sem, *], by simp [go_sem, *], by simp [go_sem, *], by simp [go_sem, *], by simp [go_sem, *], by simp [go_sem, *], by simp [go_sem, *], by simp [go_sem, *], by simp [go_sem, *]⟩, ⟨hg0, by simp; omega, by simp [go_sem, *], by simp [go_sem, *], by simp [go_sem, *]⟩, ⟨by omega, by simp, by simp [go_sem, *], by simp [go_sem, *], by simp [go_sem, *]⟩⟩
              case rest =>
                obtain ⟨wr, hwr⟩ : ∃ x, x = wc := ⟨_, rfl⟩
                subst hwr
                obtain ⟨g1, rfl, rfl, ⟨hG, hGz, hB, x0, x1, x2, y0, y1, y2, z0, z1, z2⟩, ⟨hg0, hgz0, n00, n01, n02⟩, ⟨hg1, hgz1, n10, n11, n12⟩⟩ := hcut
                have hT2 := Lib.hid (TzTab.below hT'.out hB (Nat.le_refl _))
                have hGa : G < wr.heap.size := by omega
                have hGb : G + 1 < wr.heap.size := by omega
                go_upto_region 14 with fail
                go_cut [109] (fun s109 W => s109 = .bool false ∧ Inv3 w G a b k a' b' k' a'' b'' k'' W)
                case first =>
                  cases uO
                  · go_quiet (fail)
                    go_wp2_with fail
                    go_meet
                    exact ⟨rfl, Inv3.drewN (show Inv3 w G a b k a' b' k' a'' b'' k'' wr from ⟨hG, hGz, hB, x0, x1, x2, y0, y1, y2, z0, z1, z2⟩) _⟩
                  · cases tO
                    · go_quiet (fail)
                      go_wp2_with fail
                      go_meet
                      exact ⟨rfl, Inv3.drewN (show Inv3 w G a b k a' b' k' a'' b'' k'' wr from ⟨hG, hGz, hB, x0, x1, x2, y0, y1, y2, z0, z1, z2⟩) _⟩
                    · have R1 := Lib.hid (Q16.out rfl rfl)
                      obtain rfl : cUT = cXY := Q17.out rfl rfl
                      (first
                        | go_region_held3 (fun w' => w'.cell? ⟨G, 0, none⟩ = some (.int .i64 a) ∧ w'.cell? ⟨G, 1, none⟩ = some (.int .i64 b) ∧ w'.cell? ⟨G, 2, none⟩ = some (.int .i64 k) ∧ w'.cell? ⟨G + 1, 0, none⟩ = some (.int .i64 a') ∧ w'.cell? ⟨G + 1, 1, none⟩ = some (.int .i64 b') ∧ w'.cell? ⟨G + 1, 2, none⟩ = some (.int .i64 k') ∧ w'.cell? ⟨G + 1 + 1, 0, none⟩ = some (.int .i64 a'') ∧ w'.cell? ⟨G + 1 + 1, 1, none⟩ = some (.int .i64 b'') ∧ w'.cell? ⟨G + 1 + 1, 2, none⟩ = some (.int .i64 k'') ∧ w'.cell? ⟨g0, 0, none⟩ = some (.int .i64 uA) ∧ w'.cell? ⟨g0, 1, none⟩ = some (.int .i64 uB) ∧ w'.cell? ⟨g0, 2, none⟩ = some (.int .i64 uK) ∧ w'.cell? ⟨g1, 0, none⟩ = some (.int .i64 tA) ∧ w'.cell? ⟨g1, 1, none⟩ = some (.int .i64 tB) ∧ w'.cell? ⟨g1, 2, none⟩ = some (.int .i64 tK)) ((first | (go_simp; done) | (simp [*]; done)))
                          ((first
                          | (go_at_call_of 26 (#[Value.agg #[Value.int IntKind.i64 uA, Value.int IntKind.i64 uB, Value.int IntKind.i64 uK], Value.agg #[Value.int IntKind.i64 tA, Value.int IntKind.i64 tB, Value.int IntKind.i64 tK]] : Array Value); refine (R1.out _ ?_).mono ?_; exact TzTab.below (w := wr) hT2.out (by (repeat (first | with_reducible exact Below.refl _ _ | with_reducible refine Below.drew ?_ | with_reducible refine Below.alloc ?_ (by first | omega | (simp; done) | (simp; omega)) _ | with_reducible refine Below.setCell ?_ (by first | omega | (simp; done) | (simp; omega)) _ | with_reducible refine Below.trans ?_ (Below.mono (by assumption) (by first | omega | (simp; done) | (simp; omega)))))) (Nat.le_refl _); rintro e w1 ⟨rfl, hb1⟩; (try replace hb1 := Below.undrew hb1); obtain ⟨hc1, hf1⟩ := bcell hb1; have hz1 := hb1.size; (try simp at hz1); have hz1_0 : G < w1.heap.size := (by omega); have hz1_1 : G + 1 < w1.heap.size := (by omega); have hz1_2 : G + 1 + 1 < w1.heap.size := (by omega); have hz1_3 : g0 < w1.heap.size := (by omega); have hz1_4 : g1 < w1.heap.size := (by omega); (try have hz1_r : wr.heap.size < w1.heap.size := (by omega)))
                          | (go_at_call_of 26 (#[Value.agg #[Value.int IntKind.i64 a, Value.int IntKind.i64 b, Value.int IntKind.i64 k], Value.agg #[Value.int IntKind.i64 a', Value.int IntKind.i64 b', Value.int IntKind.i64 k']] : Array Value); refine (Q6.out _ ?_).mono ?_; exact TzTab.below (w := wr) hT2.out (by (repeat (first | with_reducible exact Below.refl _ _ | with_reducible refine Below.drew ?_ | with_reducible refine Below.alloc ?_ (by first | omega | (simp; done) | (simp; omega)) _ | with_reducible refine Below.setCell ?_ (by first | omega | (simp; done) | (simp; omega)) _ | with_reducible refine Below.trans ?_ (Below.mono (by assumption) (by first | omega | (simp; done) | (simp; omega)))))) (Nat.le_refl _); rintro e w2 ⟨rfl, hb2⟩; (try replace hb2 := Below.undrew hb2); obtain ⟨hc2, hf2⟩ := bcell hb2; have hz2 := hb2.size; (try simp at hz2); have hz2_0 : G < w2.heap.size := (by omega); have hz2_1 : G + 1 < w2.heap.size := (by omega); have hz2_2 : G + 1 + 1 < w2.heap.size := (by omega); have hz2_3 : g0 < w2.heap.size := (by omega); have hz2_4 : g1 < w2.heap.size := (by omega); (try have hz2_r : wr.heap.size < w2.heap.size := (by omega)))))
                        | fail)
                      all_goals (go_wp2_with fail; go_meet; exact ⟨by simp [go_sem, *], ⟨hG, by omega, by (repeat (first | with_reducible assumption | with_reducible refine Below.drew ?_ | with_reducible refine Below.alloc ?_ (by first | omega | (simp; done) | (simp; omega)) _ | with_reducible refine Below.setCell ?_ (by first | omega | (simp; done) | (simp; omega)) _ | with_reducible refine Below.trans ?_ (Below.mono (by assumption) (by first | omega | (simp; done) | (simp; omega))))), by simp [go_sem, *], by simp [go_sem, *], by simp [go_sem, *], by simp [go_sem, *], by simp [go_sem, *], by simp [go_sem, *], by simp [go_sem, *], by simp [go_sem, *], by simp [go_sem, *]⟩⟩)
                case rest =>
                  obtain ⟨wr, hwr⟩ : ∃ x, x = wc := ⟨_, rfl⟩
                  subst hwr
                  obtain ⟨rfl, ⟨hG, hGz, hB, x0, x1, x2, y0, y1, y2, z0, z1, z2⟩⟩ := hcut
                  have hT2 := Lib.hid (TzTab.below hT'.out hB (Nat.le_refl _))
                  have hGa : G < wr.heap.size := by omega
                  have hGb : G + 1 < wr.heap.size := by omega
                  go_upto_region 16 with fail
                  go_cut [14] (fun s14 W => s14 = .int .i64 f ∧ Inv3 w G a b k a' b' k' a'' b'' k'' W)
                  case first =>
                    go_wp2_with fail
                    refine (Q18.out _ ?_).mono ?_; exact TzTab.below (w := wr) hT2.out (by (repeat (first | with_reducible exact Below.refl _ _ | with_reducible refine Below.drew ?_ | with_reducible refine Below.alloc ?_ (by first | omega | (simp; done) | (simp; omega)) _ | with_reducible refine Below.setCell ?_ (by first | omega | (simp; done) | (simp; omega)) _ | with_reducible refine Below.trans ?_ (Below.mono (by assumption) (by first | omega | (simp; done) | (simp; omega)))))) (Nat.le_refl _)
                    rintro e w1 ⟨rfl, hb1⟩; (try replace hb1 := Below.undrew hb1); obtain ⟨hc1, hf1⟩ := bcell hb1; have hz1 := hb1.size; (try simp at hz1); have hz1_0 : G < w1.heap.size := (by omega); have hz1_1 : G + 1 < w1.heap.size := (by omega); have hz1_2 : G + 1 + 1 < w1.heap.size := (by omega); (try have hz1_r : wr.heap.size < w1.heap.size := (by omega))
                    go_wp2_with fail
                    go_meet
                    exact ⟨rfl, ⟨hG, by omega, by (repeat (first | with_reducible assumption | with_reducible refine Below.drew ?_ | with_reducible refine Below.alloc ?_ (by first | omega | (simp; done) | (simp; omega)) _ | with_reducible refine Below.setCell ?_ (by first | omega | (simp; done) | (simp; omega)) _ | with_reducible refine Below.trans ?_ (Below.mono (by assumption) (by first | omega | (simp; done) | (simp; omega))))), by simp [go_sem, *], by simp [go_sem, *], by simp [go_sem, *], by simp [go_sem, *], by simp [go_sem, *], by simp [go_sem, *], by simp [go_sem, *], by simp [go_sem, *], by simp [go_sem, *]⟩⟩
                  case rest =>
                    obtain ⟨wr, hwr⟩ : ∃ x, x = wc := ⟨_, rfl⟩
                    subst hwr
                    obtain ⟨rfl, ⟨hG, hGz, hB, x0, x1, x2, y0, y1, y2, z0, z1, z2⟩⟩ := hcut
                    have hT2 := Lib.hid (TzTab.below hT'.out hB (Nat.le_refl _))
                    have hGa : G < wr.heap.size := by omega
                    have hGb : G + 1 < wr.heap.size := by omega
                    go_upto_region 17 with fail
                    go_cut [15, 16] (fun s15 s16 W => ∃ g : Nat, s15 = .pointer (some ⟨g, 0, none⟩) ∧ s16 = .bool lO ∧ Inv3 w G a b k a' b' k' a'' b'' k'' W ∧ At3 G g lA lB lK W)
                    case first =>
                      go_wp2_with fail
                      refine (Q20.out _ ?_).mono ?_; exact TzTab.below (w := wr) hT2.out (by (repeat (first | with_reducible exact Below.refl _ _ | with_reducible refine Below.drew ?_ | with_reducible refine Below.alloc ?_ (by first | omega | (simp; done) | (simp; omega)) _ | with_reducible refine Below.setCell ?_ (by first | omega | (simp; done) | (simp; omega)) _ | with_reducible refine Below.trans ?_ (Below.mono (by assumption) (by first | omega | (simp; done) | (simp; omega)))))) (Nat.le_refl _)
                      rintro e w1 ⟨rfl, hb1⟩; (try replace hb1 := Below.undrew hb1); obtain ⟨hc1, hf1⟩ := bcell hb1; have hz1 := hb1.size; (try simp at hz1); have hz1_0 : G < w1.heap.size := (by omega); have hz1_1 : G + 1 < w1.heap.size := (by omega); have hz1_2 : G + 1 + 1 < w1.heap.size := (by omega); (try have hz1_r : wr.heap.size < w1.heap.size := (by omega))
                      go_wp2_with fail
                      go_meet
                      exact ⟨w1.heap.size, rfl, rfl, ⟨hG, by simp; omega, by (repeat (first | with_reducible assumption | with_reducible refine Below.drew ?_ | with_reducible refine Below.alloc ?_ (by first | omega | (simp; done) | (simp; omega)) _ | with_reducible refine Below.setCell ?_ (by first | omega | (simp; done) | (simp; omega)) _ | with_reducible refine Below.trans ?_ (Below.mono (by assumption) (by first | omega | (simp; done) | (simp; omega))))), by simp [go_sem, *], by simp [go_sem, *], by simp [go_sem, *], by simp [go_sem, *], by simp [go_sem, *], by simp [go_sem, *], by simp [go_sem, *], by simp [go_sem, *], by simp [go_sem, *]⟩, ⟨by omega, by simp, by simp [go_sem, *], by simp [go_sem, *], by simp [go_sem, *]⟩⟩
                    case rest =>
                      obtain ⟨wr, hwr⟩ : ∃ x, x = wc := ⟨_, rfl⟩
                      subst hwr
                      obtain ⟨g0, rfl, rfl, ⟨hG, hGz, hB, x0, x1, x2, y0, y1, y2, z0, z1, z2⟩, ⟨hg0, hgz0, n00, n01, n02⟩⟩ := hcut
                      have hT2 := Lib.hid (TzTab.below hT'.out hB (Nat.le_refl _))
                      have hGa : G < wr.heap.size := by omega
                      have hGb : G + 1 < wr.heap.size := by omega
                      go_upto_region 18 with fail
                      go_cut [17, 18] (fun s17 s18 W => ∃ g : Nat, s17 = .pointer (some ⟨g, 0, none⟩) ∧ s18 = .bool hO ∧ Inv3 w G a b k a' b' k' a'' b'' k'' W ∧ At3 G g0 lA lB lK W ∧ At3 G g hA hB' hK W)
                      case first =>
                        have e19 := Q19.out
                        go_wp2_with fail
                        refine (Q21.out _ ?_).mono ?_; exact TzTab.below (w := wr) hT2.out (by (repeat (first | with_reducible exact Below.refl _ _ | with_reducible refine Below.drew ?_ | with_reducible refine Below.alloc ?_ (by first | omega | (simp; done) | (simp; omega)) _ | with_reducible refine Below.setCell ?_ (by first | omega | (simp; done) | (simp; omega)) _ | with_reducible refine Below.trans ?_ (Below.mono (by assumption) (by first | omega | (simp; done) | (simp; omega)))))) (Nat.le_refl _)
                        rintro e w1 ⟨rfl, hb1⟩; (try replace hb1 := Below.undrew hb1); obtain ⟨hc1, hf1⟩ := bcell hb1; have hz1 := hb1.size; (try simp at hz1); have hz1_0 : G < w1.heap.size := (by omega); have hz1_1 : G + 1 < w1.heap.size := (by omega); have hz1_2 : G + 1 + 1 < w1.heap.size := (by omega); have hz1_3 : g0 < w1.heap.size := (by omega); (try have hz1_r : wr.heap.size < w1.heap.size := (by omega))
                        go_wp2_with fail
                        go_meet
                        exact ⟨w1.heap.size, rfl, rfl, ⟨hG, by simp; omega, by (repeat (first | with_reducible assumption | with_reducible refine Below.drew ?_ | with_reducible refine Below.alloc ?_ (by first | omega | (simp; done) | (simp; omega)) _ | with_reducible refine Below.setCell ?_ (by first | omega | (simp; done) | (simp; omega)) _ | with_reducible refine Below.trans ?_ (Below.mono (by assumption) (by first | omega | (simp; done) | (simp; omega))))), by simp [go_sem, *], by simp [go_sem, *], by simp [go_sem, *], by simp [go_sem, *], by simp [go_sem, *], by simp [go_sem, *], by simp [go_sem, *], by simp [go_sem, *], by simp [go_sem, *]⟩, ⟨hg0, by simp; omega, by simp [go_sem, *], by simp [go_sem, *], by simp [go_sem, *]⟩, ⟨by omega, by simp, by simp [go_sem, *], by simp [go_sem, *], by simp [go_sem, *]⟩⟩
                      case rest =>
                        obtain ⟨wr, hwr⟩ : ∃ x, x = wc := ⟨_, rfl⟩
                        subst hwr
                        obtain ⟨g1, rfl, rfl, ⟨hG, hGz, hB, x0, x1, x2, y0, y1, y2, z0, z1, z2⟩, ⟨hg0, hgz0, n00, n01, n02⟩, ⟨hg1, hgz1, n10, n11, n12⟩⟩ := hcut
                        have hT2 := Lib.hid (TzTab.below hT'.out hB (Nat.le_refl _))
                        have hGa : G < wr.heap.size := by omega
                        have hGb : G + 1 < wr.heap.size := by omega
                        go_upto_region 19 with fail
                        go_cut [2, 140] (fun s2 s140 W => s2 = .bool true ∧ s140 = .bool true ∧ Inv3 w G a b k a' b' k' a'' b'' k'' W)
                        case first =>
                          cases lO
                          · cases hO
                            · go_wp2_with fail
                              go_meet
                              exact ⟨by simp [go_sem, *], by simp [go_sem, *], ⟨hG, by omega, by (repeat (first | with_reducible assumption | with_reducible refine Below.drew ?_ | with_reducible refine Below.alloc ?_ (by first | omega | (simp; done) | (simp; omega)) _ | with_reducible refine Below.setCell ?_ (by first | omega | (simp; done) | (simp; omega)) _ | with_reducible refine Below.trans ?_ (Below.mono (by assumption) (by first | omega | (simp; done) | (simp; omega))))), by simp [go_sem, *], by simp [go_sem, *], by simp [go_sem, *], by simp [go_sem, *], by simp [go_sem, *], by simp [go_sem, *], by simp [go_sem, *], by simp [go_sem, *], by simp [go_sem, *]⟩⟩
                            · have R2 := Lib.hid (Q24.out rfl)
                              have e25 := Q25.out rfl
                              go_wp2_with fail
                              refine (R2.out _ ?_).mono ?_
                              exact TzTab.below (w := wr) hT2.out (by (repeat (first | with_reducible exact Below.refl _ _ | with_reducible refine Below.drew ?_ | with_reducible refine Below.alloc ?_ (by first | omega | (simp; done) | (simp; omega)) _ | with_reducible refine Below.setCell ?_ (by first | omega | (simp; done) | (simp; omega)) _ | with_reducible refine Below.trans ?_ (Below.mono (by assumption) (by first | omega | (simp; done) | (simp; omega)))))) (Nat.le_refl _)
                              rintro e w1 ⟨rfl, hb1⟩; (try replace hb1 := Below.undrew hb1); obtain ⟨hc1, hf1⟩ := bcell hb1; have hz1 := hb1.size; (try simp at hz1); have hz1_0 : G < w1.heap.size := (by omega); have hz1_1 : G + 1 < w1.heap.size := (by omega); have hz1_2 : G + 1 + 1 < w1.heap.size := (by omega); have hz1_3 : g0 < w1.heap.size := (by omega); have hz1_4 : g1 < w1.heap.size := (by omega); (try have hz1_r : wr.heap.size < w1.heap.size := (by omega))
                              go_wp2_with fail
                              go_meet
                              exact ⟨by simp [go_sem, *], by simp [go_sem, *], ⟨hG, by omega, by (repeat (first | with_reducible assumption | with_reducible refine Below.drew ?_ | with_reducible refine Below.alloc ?_ (by first | omega | (simp; done) | (simp; omega)) _ | with_reducible refine Below.setCell ?_ (by first | omega | (simp; done) | (simp; omega)) _ | with_reducible refine Below.trans ?_ (Below.mono (by assumption) (by first | omega | (simp; done) | (simp; omega))))), by simp [go_sem, *], by simp [go_sem, *], by simp [go_sem, *], by simp [go_sem, *], by simp [go_sem, *], by simp [go_sem, *], by simp [go_sem, *], by simp [go_sem, *], by simp [go_sem, *]⟩⟩
                          · have R1 := Lib.hid (Q22.out rfl)
                            have e23 := Q23.out rfl
                            cases hO
                            · go_wp2_with fail
                              refine (R1.out _ ?_).mono ?_
                              exact TzTab.below (w := wr) hT2.out (by (repeat (first | with_reducible exact Below.refl _ _ | with_reducible refine Below.drew ?_ | with_reducible refine Below.alloc ?_ (by first | omega | (simp; done) | (simp; omega)) _ | with_reducible refine Below.setCell ?_ (by first | omega | (simp; done) | (simp; omega)) _ | with_reducible refine Below.trans ?_ (Below.mono (by assumption) (by first | omega | (simp; done) | (simp; omega)))))) (Nat.le_refl _)
                              rintro e w1 ⟨rfl, hb1⟩; (try replace hb1 := Below.undrew hb1); obtain ⟨hc1, hf1⟩ := bcell hb1; have hz1 := hb1.size; (try simp at hz1); have hz1_0 : G < w1.heap.size := (by omega); have hz1_1 : G + 1 < w1.heap.size := (by omega); have hz1_2 : G + 1 + 1 < w1.heap.size := (by omega); have hz1_3 : g0 < w1.heap.size := (by omega); have hz1_4 : g1 < w1.heap.size := (by omega); (try have hz1_r : wr.heap.size < w1.heap.size := (by omega))
                              go_wp2_with fail
                              go_meet
                              exact ⟨by simp [go_sem, *], by simp [go_sem, *], ⟨hG, by omega, by (repeat (first | with_reducible assumption | with_reducible refine Below.drew ?_ | with_reducible refine Below.alloc ?_ (by first | omega | (simp; done) | (simp; omega)) _ | with_reducible refine Below.setCell ?_ (by first | omega | (simp; done) | (simp; omega)) _ | with_reducible refine Below.trans ?_ (Below.mono (by assumption) (by first | omega | (simp; done) | (simp; omega))))), by simp [go_sem, *], by simp [go_sem, *], by simp [go_sem, *], by simp [go_sem, *], by simp [go_sem, *], by simp [go_sem, *], by simp [go_sem, *], by simp [go_sem, *], by simp [go_sem, *]⟩⟩
                            · have R2 := Lib.hid (Q24.out rfl)
                              have e25 := Q25.out rfl
                              go_wp2_with fail
                              refine (R1.out _ ?_).mono ?_
                              exact TzTab.below (w := wr) hT2.out (by (repeat (first | with_reducible exact Below.refl _ _ | with_reducible refine Below.drew ?_ | with_reducible refine Below.alloc ?_ (by first | omega | (simp; done) | (simp; omega)) _ | with_reducible refine Below.setCell ?_ (by first | omega | (simp; done) | (simp; omega)) _ | with_reducible refine Below.trans ?_ (Below.mono (by assumption) (by first | omega | (simp; done) | (simp; omega)))))) (Nat.le_refl _)
                              rintro e w1 ⟨rfl, hb1⟩; (try replace hb1 := Below.undrew hb1); obtain ⟨hc1, hf1⟩ := bcell hb1; have hz1 := hb1.size; (try simp at hz1); have hz1_0 : G < w1.heap.size := (by omega); have hz1_1 : G + 1 < w1.heap.size := (by omega); have hz1_2 : G + 1 + 1 < w1.heap.size := (by omega); have hz1_3 : g0 < w1.heap.size := (by omega); have hz1_4 : g1 < w1.heap.size := (by omega); (try have hz1_r : wr.heap.size < w1.heap.size := (by omega))
                              go_wp2_with fail
                              refine (R2.out _ ?_).mono ?_
                              exact TzTab.below (w := wr) hT2.out (by (repeat (first | with_reducible exact Below.refl _ _ | with_reducible refine Below.drew ?_ | with_reducible refine Below.alloc ?_ (by first | omega | (simp; done) | (simp; omega)) _ | with_reducible refine Below.setCell ?_ (by first | omega | (simp; done) | (simp; omega)) _ | with_reducible refine Below.trans ?_ (Below.mono (by assumption) (by first | omega | (simp; done) | (simp; omega)))))) (Nat.le_refl _)
                              rintro e w2 ⟨rfl, hb2⟩; (try replace hb2 := Below.undrew hb2); obtain ⟨hc2, hf2⟩ := bcell hb2; have hz2 := hb2.size; (try simp at hz2); have hz2_0 : G < w2.heap.size := (by omega); have hz2_1 : G + 1 < w2.heap.size := (by omega); have hz2_2 : G + 1 + 1 < w2.heap.size := (by omega); have hz2_3 : g0 < w2.heap.size := (by omega); have hz2_4 : g1 < w2.heap.size := (by omega); (try have hz2_r : wr.heap.size < w2.heap.size := (by omega))
                              go_wp2_with fail
                              go_meet
                              exact ⟨by simp [go_sem, *], by simp [go_sem, *], ⟨hG, by omega, by (repeat (first | with_reducible assumption | with_reducible refine Below.drew ?_ | with_reducible refine Below.alloc ?_ (by first | omega | (simp; done) | (simp; omega)) _ | with_reducible refine Below.setCell ?_ (by first | omega | (simp; done) | (simp; omega)) _ | with_reducible refine Below.trans ?_ (Below.mono (by assumption) (by first | omega | (simp; done) | (simp; omega))))), by simp [go_sem, *], by simp [go_sem, *], by simp [go_sem, *], by simp [go_sem, *], by simp [go_sem, *], by simp [go_sem, *], by simp [go_sem, *], by simp [go_sem, *], by simp [go_sem, *]⟩⟩
                        case rest =>
                          obtain ⟨rfl, rfl, _, _, hB, _⟩ := hcut
                          go_wp2_with fail
                          go_ret
                          exact ⟨rfl, hB⟩
end Go.Proofs.YtffcdnokkdifdaaDoor
