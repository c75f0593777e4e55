/- SignNum and CompareNum: the program's and the model's contracts, and the walks of their laws. -/
import Derived.Test.YtafbdnjabgfjeaaDoorSd
import Derived.Test.YtafbdnjabgfjeaaDoorSe
import Derived.Deep.DeepCutAuto
section
namespace Go.Proofs.YtafbdnjabgfjeaaDoor
open Go Go.RowKit OriM

theorem eqNum_same (a b k : Int) (w : World) : Calls Tryd.prog 46 #[num a b k, num a b k] w (RetB (.bool true) w) := by
  have h := eqNum_any a b k a b k w
  rwa [show eqB a b k a b k = true by simp [eqB]] at h

/-- Behind the first statement: the model's answer lies in a block. -/
def Cut1 (w : World) (a b k a' b' k' rA rB rK : Int) (rO : Bool) (s5 s6 : Value) (wr : World) : Prop := ∃ g : Nat, s5 = .pointer (some ⟨g, 0, none⟩) ∧ s6 = .bool rO ∧ w.heap.size + 1 < g ∧ g < wr.heap.size ∧ Below w.heap.size w wr ∧
  wr.cell? ⟨w.heap.size, 0, none⟩ = some (.int .i64 a) ∧ wr.cell? ⟨w.heap.size, 1, none⟩ = some (.int .i64 b) ∧ wr.cell? ⟨w.heap.size, 2, none⟩ = some (.int .i64 k) ∧
  wr.cell? ⟨w.heap.size + 1, 0, none⟩ = some (.int .i64 a') ∧ wr.cell? ⟨w.heap.size + 1, 1, none⟩ = some (.int .i64 b') ∧ wr.cell? ⟨w.heap.size + 1, 2, none⟩ = some (.int .i64 k') ∧
  wr.cell? ⟨g, 0, none⟩ = some (.int .i64 rA) ∧ wr.cell? ⟨g, 1, none⟩ = some (.int .i64 rB) ∧ wr.cell? ⟨g, 2, none⟩ = some (.int .i64 rK)

/-- Behind the second one: both answers do. -/
def Cut2 (w : World) (g : Nat) (rA rB rK : Int) (rO : Bool) (s7 s8 : Value) (wr : World) : Prop := ∃ g' : Nat, s7 = .pointer (some ⟨g', 0, none⟩) ∧ s8 = .bool rO ∧ Below w.heap.size w wr ∧
  wr.cell? ⟨g, 0, none⟩ = some (.int .i64 rA) ∧ wr.cell? ⟨g, 1, none⟩ = some (.int .i64 rB) ∧ wr.cell? ⟨g, 2, none⟩ = some (.int .i64 rK) ∧
  wr.cell? ⟨g', 0, none⟩ = some (.int .i64 rA) ∧ wr.cell? ⟨g', 1, none⟩ = some (.int .i64 rB) ∧ wr.cell? ⟨g', 2, none⟩ = some (.int .i64 rK)

theorem pair_ex (c : Bool) (v : Value) (h : ∃ rA rB rK rO, v = numOk rA rB rK rO) : ∃ rA rB rK rO, (if c then v else numOk 0 0 0 false) = numOk rA rB rK rO := by
  cases c
  · exact ⟨0, 0, 0, false, rfl⟩
  · exact h

end Go.Proofs.YtafbdnjabgfjeaaDoor
end
section
namespace Go.Proofs.YtafbdnjabgfjeaaDoor
open Go Go.RowKit OriM

/-- What a comparison is. -/
def cmpV (a b k a' b' k' : Int) : Int := if validB a b k && validB a' b' k' then Q.sgn2 (plusA a k (-a') k') (plusA b k (-b') k') else 0

theorem CompareNum_any (a b k a' b' k' : Int) (h : I3 a b k) (h' : I3 a' b' k') (w : World) (hT : TzTab w) :
    Calls Tryd.prog 172 #[num a b k, num a' b' k'] w (RetB (.int .i64 (cmpV a b k a' b' k')) w) := by
  have HX := Lib.hid (fun w hT => valid_i3 a b k h w hT)
  have HY := Lib.hid (fun w hT => valid_i3 a' b' k' h' w hT)
  unfold cmpV
  by_cases hx : validB a b k = true
  · by_cases hy : validB a' b' k' = true
    · obtain ⟨a1, a2, b1, b2, k0, k1⟩ := valid_bounds hx
      obtain ⟨a1', a2', b1', b2', k0', k1'⟩ := valid_bounds hy
      obtain ⟨P, _⟩ := plus_val a b k (-a') (-b') k' hx (by rw [valid_neg]; exact hy)
      obtain ⟨p1, p2⟩ := plusA_bound a k (-a') k' a1 a2 (by omega) (by omega) k0 k1 k0' k1'
      obtain ⟨q1, q2⟩ := plusA_bound b k (-b') k' b1 b2 (by omega) (by omega) k0 k1 k0' k1'
      have HP := Lib.hid P
      have HN := Lib.hid (fun w => negated_any a' b' k' w a1' a2' b1' b2')
      have HS := Lib.hid (fun w => sign_any (plusA a k (-a') k') (plusA b k (-b') k') (max k k') w (by omega) (by omega) (by omega) (by omega))
      rw [hx] at HX
      rw [hy] at HY
      rw [hx, hy, Bool.and_true, if_pos rfl]
      clear hx hy h h' P a1 a2 b1 b2 k0 k1 a1' a2' b1' b2' k0' k1' p1 p2 q1 q2
      generalize Q.sgn2 (plusA a k (-a') k') (plusA b k (-b') k') = r at *
      generalize plusA a k (-a') k' = pA at *
      generalize plusA b k (-b') k' = pB at *
      generalize max k k' = pK at *
      go_enter Tryd.func172, Tryd.ntmps172
      go_wp2_with fail
      refine (HX.out _ ?_).mono ?_; (repeat (first | with_reducible assumption | with_reducible apply TzTab.drew | with_reducible apply TzTab.alloc))
      rintro e w1 ⟨rfl, hb1⟩; (try replace hb1 := Below.undrew hb1); obtain ⟨hc1, hf1⟩ := bcell hb1; have hz1 := hb1.size; (try simp at hz1); have hz1a : w.heap.size < w1.heap.size := (by omega); have hz1b : w.heap.size + 1 < w1.heap.size := (by omega)
      have hT1 : TzTab w1 := TzTab.below (by (repeat (first | with_reducible assumption | with_reducible apply TzTab.drew | with_reducible apply TzTab.alloc))) hb1 (Nat.le_refl _)
      go_wp2_with fail
      refine (HY.out _ ?_).mono ?_; (repeat (first | with_reducible assumption | with_reducible apply TzTab.drew | with_reducible apply TzTab.alloc))
      rintro e w2 ⟨rfl, hb2⟩; (try replace hb2 := Below.undrew hb2); obtain ⟨hc2, hf2⟩ := bcell hb2; have hz2 := hb2.size; (try simp at hz2); have hz2a : w.heap.size < w2.heap.size := (by omega); have hz2b : w.heap.size + 1 < w2.heap.size := (by omega)
      go_wp2_with fail
      go_region_held3 (fun w' => w'.cell? ⟨w.heap.size, 0, none⟩ = some (.int .i64 a) ∧ w'.cell? ⟨w.heap.size, 1, none⟩ = some (.int .i64 b) ∧ w'.cell? ⟨w.heap.size, 2, none⟩ = some (.int .i64 k) ∧ w'.cell? ⟨w.heap.size + 1, 0, none⟩ = some (.int .i64 a') ∧ w'.cell? ⟨w.heap.size + 1, 1, none⟩ = some (.int .i64 b') ∧ w'.cell? ⟨w.heap.size + 1, 2, none⟩ = some (.int .i64 k')) ((first | (go_simp; done) | (simp [*]; done)))
        ((first
        | (go_at_call 157; refine (HN.out _).mono ?_; rintro e w3 ⟨rfl, hb3⟩; (try replace hb3 := Below.undrew hb3); obtain ⟨hc3, hf3⟩ := bcell hb3; have hz3 := hb3.size; (try simp at hz3); have hz3a : w.heap.size < w3.heap.size := (by omega); have hz3b : w.heap.size + 1 < w3.heap.size := (by omega))
        | (go_at_call 162; refine (HP.out _).mono ?_; rintro e w4 ⟨rfl, hb4⟩; (try replace hb4 := Below.undrew hb4); obtain ⟨hc4, hf4⟩ := bcell hb4; have hz4 := hb4.size; (try simp at hz4); have hz4a : w.heap.size < w4.heap.size := (by omega); have hz4b : w.heap.size + 1 < w4.heap.size := (by omega))
        | (go_at_call 136; refine (HS.out _).mono ?_; rintro e w5 ⟨rfl, hb5⟩; (try replace hb5 := Below.undrew hb5); obtain ⟨hc5, hf5⟩ := bcell hb5; have hz5 := hb5.size; (try simp at hz5); have hz5a : w.heap.size < w5.heap.size := (by omega); have hz5b : w.heap.size + 1 < w5.heap.size := (by omega))))
      go_wp2_with fail
      go_ret
      exact ⟨rfl, by (repeat (first | with_reducible exact Below.refl _ _ | with_reducible refine Below.drew ?_ | with_reducible refine Below.alloc ?_ (by first | omega | (simp; done) | (simp; omega)) _ | with_reducible refine Below.setCell ?_ (by first | omega | (simp; done) | (simp; omega)) _ | with_reducible refine Below.trans ?_ (Below.mono (by assumption) (by first | omega | (simp; done) | (simp; omega)))))⟩
    · rw [hx] at HX
      rw [Bool.eq_false_iff.2 hy] at HY
      rw [hx, Bool.eq_false_iff.2 hy, Bool.and_false, if_neg (by simp)]
      clear hx hy h h'
      go_enter Tryd.func172, Tryd.ntmps172
      go_wp2_with fail
      refine (HX.out _ ?_).mono ?_; (repeat (first | with_reducible assumption | with_reducible apply TzTab.drew | with_reducible apply TzTab.alloc))
      rintro e w1 ⟨rfl, hb1⟩; (try replace hb1 := Below.undrew hb1); obtain ⟨hc1, hf1⟩ := bcell hb1; have hz1 := hb1.size; (try simp at hz1); have hz1a : w.heap.size < w1.heap.size := (by omega); have hz1b : w.heap.size + 1 < w1.heap.size := (by omega)
      have hT1 : TzTab w1 := TzTab.below (by (repeat (first | with_reducible assumption | with_reducible apply TzTab.drew | with_reducible apply TzTab.alloc))) hb1 (Nat.le_refl _)
      go_wp2_with fail
      refine (HY.out _ ?_).mono ?_; (repeat (first | with_reducible assumption | with_reducible apply TzTab.drew | with_reducible apply TzTab.alloc))
      rintro e w2 ⟨rfl, hb2⟩; (try replace hb2 := Below.undrew hb2); obtain ⟨hc2, hf2⟩ := bcell hb2; have hz2 := hb2.size; (try simp at hz2); have hz2a : w.heap.size < w2.heap.size := (by omega); have hz2b : w.heap.size + 1 < w2.heap.size := (by omega)
      go_wp2_with fail
      go_ret
      exact ⟨rfl, by (repeat (first | with_reducible exact Below.refl _ _ | with_reducible refine Below.drew ?_ | with_reducible refine Below.alloc ?_ (by first | omega | (simp; done) | (simp; omega)) _ | with_reducible refine Below.setCell ?_ (by first | omega | (simp; done) | (simp; omega)) _ | with_reducible refine Below.trans ?_ (Below.mono (by assumption) (by first | omega | (simp; done) | (simp; omega)))))⟩
  · rw [Bool.eq_false_iff.2 hx] at HX
    rw [Bool.eq_false_iff.2 hx, Bool.false_and, if_neg (by simp)]
    clear hx h h'
    go_enter Tryd.func172, Tryd.ntmps172
    go_wp2_with fail
    refine (HX.out _ ?_).mono ?_; (repeat (first | with_reducible assumption | with_reducible apply TzTab.drew | with_reducible apply TzTab.alloc))
    rintro e w1 ⟨rfl, hb1⟩; (try replace hb1 := Below.undrew hb1); obtain ⟨hc1, hf1⟩ := bcell hb1; have hz1 := hb1.size; (try simp at hz1); have hz1a : w.heap.size < w1.heap.size := (by omega); have hz1b : w.heap.size + 1 < w1.heap.size := (by omega)
    go_wp2_with fail
    go_ret
    exact ⟨rfl, by (repeat (first | with_reducible exact Below.refl _ _ | with_reducible refine Below.drew ?_ | with_reducible refine Below.alloc ?_ (by first | omega | (simp; done) | (simp; omega)) _ | with_reducible refine Below.setCell ?_ (by first | omega | (simp; done) | (simp; omega)) _ | with_reducible refine Below.trans ?_ (Below.mono (by assumption) (by first | omega | (simp; done) | (simp; omega)))))⟩

theorem lCompare_valid (a b k a' b' k' : Int) (hx : validB a b k = true) (hy : validB a' b' k' = true) (w : World) :
    Calls Tryd.prog 168 #[num a b k, num a' b' k'] w (RetB (.int .i64 (Q.sgn2 (plusA a k (-a') k') (plusA b k (-b') k'))) w) := by
  obtain ⟨a1, a2, b1, b2, k0, k1⟩ := valid_bounds hx
  obtain ⟨a1', a2', b1', b2', k0', k1'⟩ := valid_bounds hy
  obtain ⟨p1, p2⟩ := plusA_bound a k (-a') k' a1 a2 (by omega) (by omega) k0 k1 k0' k1'
  obtain ⟨q1, q2⟩ := plusA_bound b k (-b') k' b1 b2 (by omega) (by omega) k0 k1 k0' k1'
  obtain ⟨l1, l2, l3, l4⟩ := low_small (max k k').toNat p1 p2 q1 q2
  have HS := Lib.hid (fun w => lSign_any (wA a b k (-a') (-b') k') (wB a b k (-a') (-b') k') (wK a b k (-a') (-b') k') w l1 l2 l3 l4)
  rw [show Q.sgn2 (wA a b k (-a') (-b') k') (wB a b k (-a') (-b') k') = Q.sgn2 (plusA a k (-a') k') (plusA b k (-b') k') from sgn_low _ _ _] at HS
  have HP := Lib.hid (lSub_valid a b k a' b' k' hx hy)
  have OX := Lib.hid (lOf_any a b k)
  have OY := Lib.hid (lOf_any a' b' k')
  clear hx hy a1 a2 b1 b2 k0 k1 a1' a2' b1' b2' k0' k1' p1 p2 q1 q2 l1 l2 l3 l4
  generalize Q.sgn2 (plusA a k (-a') k') (plusA b k (-b') k') = r at *
  generalize wA a b k (-a') (-b') k' = rA at *
  generalize wB a b k (-a') (-b') k' = rB at *
  generalize wK a b k (-a') (-b') k' = rK at *
  go_enter Tryd.func168, Tryd.ntmps168
  go_wp2_with fail
  go_region_held3 (fun w' => w'.cell? ⟨w.heap.size, 0, none⟩ = some (.int .i64 a) ∧ w'.cell? ⟨w.heap.size, 1, none⟩ = some (.int .i64 b) ∧ w'.cell? ⟨w.heap.size, 2, none⟩ = some (.int .i64 k) ∧ w'.cell? ⟨w.heap.size + 1, 0, none⟩ = some (.int .i64 a') ∧ w'.cell? ⟨w.heap.size + 1, 1, none⟩ = some (.int .i64 b') ∧ w'.cell? ⟨w.heap.size + 1, 2, none⟩ = some (.int .i64 k')) ((first | (go_simp; done) | (simp [*]; done)))
    ((first
    | (go_at_call_of 123 (Value.agg #[Value.int IntKind.i64 a, Value.int IntKind.i64 b, Value.int IntKind.i64 k]); refine (OX.out _).mono ?_; rintro e w1 ⟨rfl, hb1⟩; (try replace hb1 := Below.undrew hb1); obtain ⟨hc1, hf1⟩ := bcell hb1; have hz1 := hb1.size; (try simp at hz1); have hz1a : w.heap.size < w1.heap.size := (by omega); have hz1b : w.heap.size + 1 < w1.heap.size := (by omega))
    | (go_at_call_of 123 (Value.agg #[Value.int IntKind.i64 a', Value.int IntKind.i64 b', Value.int IntKind.i64 k']); refine (OY.out _).mono ?_; rintro e w2 ⟨rfl, hb2⟩; (try replace hb2 := Below.undrew hb2); obtain ⟨hc2, hf2⟩ := bcell hb2; have hz2 := hb2.size; (try simp at hz2); have hz2a : w.heap.size < w2.heap.size := (by omega); have hz2b : w.heap.size + 1 < w2.heap.size := (by omega))
    | (go_at_call 126; refine (HP.out _).mono ?_; rintro e w3 ⟨rfl, hb3⟩; (try replace hb3 := Below.undrew hb3); obtain ⟨hc3, hf3⟩ := bcell hb3; have hz3 := hb3.size; (try simp at hz3); have hz3a : w.heap.size < w3.heap.size := (by omega); have hz3b : w.heap.size + 1 < w3.heap.size := (by omega))
    | (go_at_call 125; refine (HS.out _).mono ?_; rintro e w4 ⟨rfl, hb4⟩; (try replace hb4 := Below.undrew hb4); obtain ⟨hc4, hf4⟩ := bcell hb4; have hz4 := hb4.size; (try simp at hz4); have hz4a : w.heap.size < w4.heap.size := (by omega); have hz4b : w.heap.size + 1 < w4.heap.size := (by omega))))
  go_wp2_with fail
  go_ret
  exact ⟨rfl, by (repeat (first | with_reducible exact Below.refl _ _ | with_reducible refine Below.drew ?_ | with_reducible refine Below.alloc ?_ (by first | omega | (simp; done) | (simp; omega)) _ | with_reducible refine Below.setCell ?_ (by first | omega | (simp; done) | (simp; omega)) _ | with_reducible refine Below.trans ?_ (Below.mono (by assumption) (by first | omega | (simp; done) | (simp; omega)))))⟩

end Go.Proofs.YtafbdnjabgfjeaaDoor
end
