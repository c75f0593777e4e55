/- DivNum of the model: its contract, in exact numbers. -/
import Derived.Test.YtffcdnokkdifdaaDoorSg
import Derived.Test.YtffcdnokkdifdaaDoorSd
namespace Go.Proofs.YtffcdnokkdifdaaDoor
open Go Go.RowKit OriM

/-- What the model's division answers. -/
noncomputable def rawV (x y : Q) : Value := numOk (lowA (Q.rawQuot x y).a (Q.rawQuot x y).b (Q.rawQuot x y).k) (lowB (Q.rawQuot x y).a (Q.rawQuot x y).b (Q.rawQuot x y).k) (lowK (Q.rawQuot x y).a (Q.rawQuot x y).b (Q.rawQuot x y).k) true

set_option maxRecDepth 100000 in
theorem lDiv_any {a b k a' b' k' : Int} (hx : validB a b k = true) (hy : validB a' b' k' = true) :
    (¬ Q.quotOk (q a b k) (q a' b' k') → ∀ w, Calls Tryd.prog 63 #[num a b k, num a' b' k'] w (RetB (numOk 0 0 0 false) w)) ∧
    (Q.quotOk (q a b k) (q a' b' k') → ∀ w, Calls Tryd.prog 63 #[num a b k, num a' b' k'] w (RetB (rawV (q a b k) (q a' b' k')) w)) := by
  obtain ⟨a1, a2, b1, b2, k0, k1⟩ := valid_bounds hx
  obtain ⟨a1', a2', b1', b2', k0', k1'⟩ := valid_bounds hy
  have ya := mul_fits 131072 131072 (p := a') (q := a') (by omega) (by omega) (by omega) (by omega)
  have yb := mul_fits 262144 131072 (p := 2 * b') (q := b') (by omega) (by omega) (by omega) (by omega)
  have xa := mul_fits 131072 131072 (p := a) (q := a') (by omega) (by omega) (by omega) (by omega)
  have xb := mul_fits 262144 131072 (p := 2 * b) (q := b') (by omega) (by omega) (by omega) (by omega)
  have xc := mul_fits 131072 131072 (p := b) (q := a') (by omega) (by omega) (by omega) (by omega)
  have xd := mul_fits 131072 131072 (p := a) (q := b') (by omega) (by omega) (by omega) (by omega)
  simp only [Int.reduceMul, Int.cast_ofNat_Int] at ya yb xa xb xc xd
  have eN : a' * a' - 2 * b' * b' = Q.normOf (q a' b' k') := by simp [Q.normOf, q, Int.mul_assoc]
  have eA : a * a' - 2 * b * b' = Q.topA (q a b k) (q a' b' k') := by simp [Q.topA, q, Int.mul_assoc]
  have eB : b * a' - a * b' = Q.topB (q a b k) (q a' b' k') := rfl
  have m1 := Lib.hid (show IntKind.i64.wrap (a' * a') = a' * a' from IntWalk.i64_in _ (by omega))
  have m2 := Lib.hid (show IntKind.i64.wrap (2 * b') = 2 * b' from IntWalk.i64_in _ (by omega))
  have m3 := Lib.hid (show IntKind.i64.wrap (2 * b' * b') = 2 * b' * b' from IntWalk.i64_in _ (by omega))
  have m4 := Lib.hid (show IntKind.i64.wrap (a' * a' - 2 * b' * b') = Q.normOf (q a' b' k') from (IntWalk.i64_in _ (by omega)).trans eN)
  have p1 := Lib.hid (show IntKind.i64.wrap (a * a') = a * a' from IntWalk.i64_in _ (by omega))
  have p2 := Lib.hid (show IntKind.i64.wrap (2 * b) = 2 * b from IntWalk.i64_in _ (by omega))
  have p3 := Lib.hid (show IntKind.i64.wrap (2 * b * b') = 2 * b * b' from IntWalk.i64_in _ (by omega))
  have p4 := Lib.hid (show IntKind.i64.wrap (a * a' - 2 * b * b') = Q.topA (q a b k) (q a' b' k') from (IntWalk.i64_in _ (by omega)).trans eA)
  have p5 := Lib.hid (show IntKind.i64.wrap (b * a') = b * a' from IntWalk.i64_in _ (by omega))
  have p6 := Lib.hid (show IntKind.i64.wrap (a * b') = a * b' from IntWalk.i64_in _ (by omega))
  have p7 := Lib.hid (show IntKind.i64.wrap (b * a' - a * b') = Q.topB (q a b k) (q a' b' k') from (IntWalk.i64_in _ (by omega)).trans eB)
  have N1 : -51539607552 ≤ Q.normOf (q a' b' k') ∧ Q.normOf (q a' b' k') ≤ 51539607552 := by rw [← eN]; omega
  have tA1 : -51539607552 ≤ Q.topA (q a b k) (q a' b' k') ∧ Q.topA (q a b k) (q a' b' k') ≤ 51539607552 := by rw [← eA]; omega
  have tB1 : -51539607552 ≤ Q.topB (q a b k) (q a' b' k') ∧ Q.topB (q a b k) (q a' b' k') ≤ 51539607552 := by rw [← eB]; omega
  by_cases hn : Q.normOf (q a' b' k') = 0
  · refine ⟨fun _ w => ?_, fun h => absurd hn h.1⟩
    rw [hn] at m4
    exact lDiv_zero a b k a' b' k' w m1 m2 m3 m4
  · have hN : (Q.normOf (q a' b' k') == 0) = false := by simpa using hn
    have hodd := Q.odd_odd (q_valid hy).1 hn
    have ho : Q.oddN (q a' b' k') % 2 ≠ 0 := by omega
    have ho0 : Q.oddN (q a' b' k') ≠ 0 := by intro h; rw [h] at hodd; simp at hodd
    have ht := twos_small hn N1.1 N1.2
    have hN2 : Q.normOf (q a' b' k') = Q.oddN (q a' b' k') * 2 ^ Q.twosOf 64 (Q.normOf (q a' b' k')) := by
      rw [Int.mul_comm]; exact Q.norm_split _
    by_cases hA : (Q.topA (q a b k) (q a' b' k')).tmod (Q.oddN (q a' b' k')) = 0
    · by_cases hB : (Q.topB (q a b k) (q a' b' k')).tmod (Q.oddN (q a' b' k')) = 0
      · have dA := Int.dvd_of_tmod_eq_zero hA
        have dB := Int.dvd_of_tmod_eq_zero hB
        refine ⟨fun h => absurd ⟨hn, dA, dB⟩ h, fun _ w => ?_⟩
        obtain ⟨qa1, qa2⟩ := quot_bound ho0 dA (M := 51539607552) (by omega) (by omega)
        obtain ⟨qb1, qb2⟩ := quot_bound ho0 dB (M := 51539607552) (by omega) (by omega)
        refine lDiv_core a b k a' b' k' _ _ _ _ (Q.topA (q a b k) (q a' b' k') / Q.oddN (q a' b' k')) (Q.topB (q a b k) (q a' b' k') / Q.oddN (q a' b' k')) _ _ _ _ w hN (Lib.hid hN2) (Lib.hid ho) ht k0 k1 k0' k1' (Lib.hid N1) (Lib.hid ⟨qa1, qa2, qb1, qb2⟩)
          m1 m2 m3 m4 p1 p2 p3 p4 p5 p6 p7 (Lib.hid hA) (Lib.hid hB) (Lib.hid (by rw [Int.tdiv_eq_ediv_of_dvd dA]; exact IntWalk.i64_in _ (by omega))) (Lib.hid (by rw [Int.tdiv_eq_ediv_of_dvd dB]; exact IntWalk.i64_in _ (by omega))) (Lib.hid ?_)
        intro u K w hK hor hKu
        have hu10 : u ≤ 10 := by omega
        obtain ⟨ra1, ra2⟩ := shl_bound hu10 qa1 qa2
        obtain ⟨rb1, rb2⟩ := shl_bound hu10 qb1 qb2
        have hl := low_any (Q.topA (q a b k) (q a' b' k') / Q.oddN (q a' b' k') * 2 ^ u) (Q.topB (q a b k) (q a' b' k') / Q.oddN (q a' b' k') * 2 ^ u) K.toNat w (by omega) (by omega) (by omega) (by omega) (by omega)
        rw [Int.toNat_of_nonneg hK] at hl
        have eraw : Q.rawQuot (q a b k) (q a' b' k') = ⟨Q.topA (q a b k) (q a' b' k') / Q.oddN (q a' b' k') * 2 ^ k'.toNat, Q.topB (q a b k) (q a' b' k') / Q.oddN (q a' b' k') * 2 ^ k'.toNat, k.toNat + Q.twosOf 64 (Q.normOf (q a' b' k'))⟩ := rfl
        have key : ∀ p : Int, p * 2 ^ u * 2 ^ (k.toNat + Q.twosOf 64 (Q.normOf (q a' b' k'))) = p * 2 ^ k'.toNat * 2 ^ K.toNat := by
          intro p
          rw [Int.mul_assoc, Int.mul_assoc, ← Int.pow_add, ← Int.pow_add, show u + (k.toNat + Q.twosOf 64 (Q.normOf (q a' b' k'))) = k'.toNat + K.toNat by omega]
        have el := OriM.low_of_eqv (a := Q.topA (q a b k) (q a' b' k') / Q.oddN (q a' b' k') * 2 ^ u) (b := Q.topB (q a b k) (q a' b' k') / Q.oddN (q a' b' k') * 2 ^ u) (k := K.toNat)
          (a' := (Q.rawQuot (q a b k) (q a' b' k')).a) (b' := (Q.rawQuot (q a b k) (q a' b' k')).b) (k' := (Q.rawQuot (q a b k) (q a' b' k')).k) ⟨by rw [eraw]; exact key _, by rw [eraw]; exact key _⟩
        rw [el.1, el.2.1, el.2.2] at hl
        exact hl
      · refine ⟨fun _ w => ?_, fun h => absurd (Int.tmod_eq_zero_of_dvd h.2.2) hB⟩
        exact lDiv_no2 a b k a' b' k' _ _ _ _ _ w hN (Lib.hid hN2) (Lib.hid ho) ht k0 k1 (Lib.hid N1) m1 m2 m3 m4 p1 p2 p3 p4 p5 p6 p7 (Lib.hid hA) (Lib.hid hB)
    · refine ⟨fun _ w => ?_, fun h => absurd (Int.tmod_eq_zero_of_dvd h.2.1) hA⟩
      exact lDiv_no1 a b k a' b' k' _ _ _ _ _ w hN (Lib.hid hN2) (Lib.hid ho) ht k0 k1 (Lib.hid N1) m1 m2 m3 m4 p1 p2 p3 p4 p5 p6 p7 (Lib.hid hA)
end Go.Proofs.YtffcdnokkdifdaaDoor
