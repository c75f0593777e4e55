/- DivNum of the program: its contract, in exact numbers. -/
import Derived.Test.YtffcdnokkdifdaaDoorWf
namespace Go.Proofs.YtffcdnokkdifdaaDoor
open Go Go.RowKit OriM

/-- An answer of a division. -/
def optV : Option Q → Value
  | some r => numOk r.a r.b r.k true
  | none => numOk 0 0 0 false

theorem optV_lim (A B K : Int) : optV (q A B K).lim = numOk (limA A B K) (limB A B K) (limK A B K) (limO A B K) := by
  rw [lim_q]
  by_cases h : limO A B K = true
  · rw [if_pos h, h]
    have := lim_k A B K
    simp only [optV, q]
    rw [Int.toNat_of_nonneg this]
  · rw [if_neg h, Bool.eq_false_iff.2 h]
    have h' := Bool.eq_false_iff.2 h
    unfold limO at h'
    simp [optV, limA, limB, limK, h']

theorem twos_small {N : Int} (h0 : N ≠ 0) (h1 : -51539607552 ≤ N) (h2 : N ≤ 51539607552) : Q.twosOf 64 N ≤ 40 := by
  rcases Nat.lt_or_ge 40 (Q.twosOf 64 N) with h | h
  · exfalso
    have e := Q.twosOf_dvd 64 N
    generalize Q.twosOf 64 N = t at *
    generalize N / 2 ^ t = o at *
    have e2 : (2 : Int) ^ t = 1099511627776 * 2 ^ (t - 40) := by
      rw [show (1099511627776 : Int) = 2 ^ 40 from rfl, ← Int.pow_add]; congr 1; omega
    have ho : o ≠ 0 := by rintro rfl; simp at e; exact h0 e
    have hp := two_pow_pos (t - 40)
    rw [e2, Int.mul_assoc] at e
    have hc : 2 ^ (t - 40) * o ≠ 0 := Int.mul_ne_zero (by omega) ho
    generalize 2 ^ (t - 40) * o = c at *
    omega
  · exact h

theorem quot_bound {t o M : Int} (ho : o ≠ 0) (h : o ∣ t) (h1 : -M ≤ t) (h2 : t ≤ M) : -M ≤ t / o ∧ t / o ≤ M := by
  obtain ⟨c, rfl⟩ := h
  rw [Int.mul_ediv_cancel_left _ ho]
  have : c.natAbs ≤ (o * c).natAbs := by rw [Int.natAbs_mul]; exact Nat.le_mul_of_pos_left _ (Int.natAbs_pos.2 ho)
  omega

theorem wrap64_in {n : Int} (h0 : -9223372036854775808 ≤ n) (h1 : n ≤ 9223372036854775807) : wrap64 n = n := by
  unfold wrap64; omega

theorem tz_of (N : Int) (h0 : N ≠ 0) (h1 : -51539607552 ≤ N) (h2 : N ≤ 51539607552) (w : World) (hT : TzTab w) :
    Calls Tryd.prog 81 #[.int .u64 (IntKind.u64.wrap N)] w (Ret (.int .i64 (Q.twosOf 64 N : Nat)) w) := by
  have e : IntKind.u64.wrap N = ((bitsOf 64 N : Nat) : Int) := by rw [IntKind.wrap_u64]; unfold bitsOf; omega
  rw [e, ← ctz_single 64 N h0 (by omega), ← ctz_from]
  exact tz_any _ (bitsOf_lt N) w hT

set_option maxRecDepth 100000 in
theorem shl_bound {p : Int} {u : Nat} (hu : u ≤ 10) (p1 : -51539607552 ≤ p) (p2 : p ≤ 51539607552) : -52776558133248 ≤ p * 2 ^ u ∧ p * 2 ^ u ≤ 52776558133248 := by
  have h1 := two_pow_pos u
  have h2 : (2 : Int) ^ u ≤ 1024 := by
    have := Nat.pow_le_pow_right (n := 2) (by decide) hu
    exact_mod_cast this
  have := mul_fits 51539607552 1024 (p := p) (q := 2 ^ u) (by omega) (by omega) (by omega) (by omega)
  simp only [Int.reduceMul, Int.cast_ofNat_Int] at this
  omega

set_option maxRecDepth 100000 in
/-- The program's division of valid numbers, ahead of the limits. -/
theorem over_any {a b k a' b' k' : Int} (hx : validB a b k = true) (hy : validB a' b' k' = true) (hn : Q.normOf (q a' b' k') ≠ 0) :
    (¬ Q.quotOk (q a b k) (q a' b' k') ∧ ∀ w, TzTab w → Calls Tryd.prog 62 #[num a b k, num a' b' k'] w (RetB (numOk 0 0 0 false) w)) ∨
    (Q.quotOk (q a b k) (q a' b' k') ∧ ∃ rA rB rK : Int, (q rA rB rK).eqv (Q.rawQuot (q a b k) (q a' b' k')) ∧ 0 ≤ rK ∧ rK ≤ 62 ∧ -52776558133248 ≤ rA ∧ rA ≤ 52776558133248 ∧ -52776558133248 ≤ rB ∧ rB ≤ 52776558133248 ∧
      ∀ w, TzTab w → Calls Tryd.prog 62 #[num a b k, num a' b' k'] w (RetB (numOk rA rB rK true) w)) := by
  obtain ⟨a1, a2, b1, b2, k0, k1⟩ := valid_bounds hx
  obtain ⟨a1', a2', b1', b2', k0', k1'⟩ := valid_bounds hy
  obtain ⟨t1, t2, t3, t4⟩ := times_bounds a1 a2 b1 b2 a1' a2' (show -131072 ≤ -b' by omega) (show -b' ≤ 131072 by omega)
  obtain ⟨n1, n2, _, _⟩ := times_bounds a1' a2' b1' b2' a1' a2' (show -131072 ≤ -b' by omega) (show -b' ≤ 131072 by omega)
  have eN : timesA a' b' a' (-b') = Q.normOf (q a' b' k') := by simp [timesA, Q.normOf, q, Int.mul_assoc, Int.mul_neg, Int.sub_eq_add_neg]
  have eA : timesA a b a' (-b') = Q.topA (q a b k) (q a' b' k') := by simp [timesA, Q.topA, q, Int.mul_assoc, Int.mul_neg, Int.sub_eq_add_neg]
  have eB : timesB a b a' (-b') = Q.topB (q a b k) (q a' b' k') := by simp [timesB, Q.topB, q, Int.mul_neg]; omega
  have HT1 := Lib.hid (fun w => times_any a b 0 a' (-b') 0 w a1 a2 b1 b2 (by omega) (by omega) a1' a2' (by omega) (by omega) (by omega) (by omega))
  have HT2 := Lib.hid (fun w => times_any a' b' k' a' (-b') 0 w a1' a2' b1' b2' k0' k1' a1' a2' (by omega) (by omega) (by omega) (by omega))
  rw [eA, eB] at HT1
  rw [eN, Int.add_zero] at HT2
  rw [eN] at n1 n2
  rw [eA] at t1 t2
  rw [eB] at t3 t4
  have HZ := Lib.hid (fun w hT => tz_of _ hn n1 n2 w hT)
  have ht := twos_small hn n1 n2
  have hodd : Q.oddN (q a' b' k') ≠ 0 := by
    have := Q.odd_odd (q_valid hy).1 hn
    intro h; rw [h] at this; simp at this
  have e1 := Lib.hid (show IntKind.i64.wrap (-b') = -b' from IntWalk.i64_in _ (by omega))
  have eo : Q.normOf (q a' b' k') / 2 ^ Q.twosOf 64 (Q.normOf (q a' b' k')) = Q.oddN (q a' b' k') := rfl
  by_cases hA : (Q.topA (q a b k) (q a' b' k')).tmod (Q.oddN (q a' b' k')) = 0
  · by_cases hB : (Q.topB (q a b k) (q a' b' k')).tmod (Q.oddN (q a' b' k')) = 0
    · right
      have dA := Int.dvd_of_tmod_eq_zero hA
      have dB := Int.dvd_of_tmod_eq_zero hB
      refine ⟨⟨hn, dA, dB⟩, ?_⟩
      obtain ⟨qa1, qa2⟩ := quot_bound hodd dA (M := 51539607552) (by omega) (by omega)
      obtain ⟨qb1, qb2⟩ := quot_bound hodd dB (M := 51539607552) (by omega) (by omega)
      have q1 := Lib.hid (show IntKind.i64.wrap ((Q.topA (q a b k) (q a' b' k')).tdiv (Q.oddN (q a' b' k'))) = Q.topA (q a b k) (q a' b' k') / Q.oddN (q a' b' k') by
        rw [Int.tdiv_eq_ediv_of_dvd dA]; exact IntWalk.i64_in _ (by omega))
      have q2 := Lib.hid (show IntKind.i64.wrap ((Q.topB (q a b k) (q a' b' k')).tdiv (Q.oddN (q a' b' k'))) = Q.topB (q a b k) (q a' b' k') / Q.oddN (q a' b' k') by
        rw [Int.tdiv_eq_ediv_of_dvd dB]; exact IntWalk.i64_in _ (by omega))
      have eraw : Q.rawQuot (q a b k) (q a' b' k') = ⟨Q.topA (q a b k) (q a' b' k') / Q.oddN (q a' b' k') * 2 ^ k'.toNat, Q.topB (q a b k) (q a' b' k') / Q.oddN (q a' b' k') * 2 ^ k'.toNat, k.toNat + Q.twosOf 64 (Q.normOf (q a' b' k'))⟩ := rfl
      rw [eraw]
      generalize Q.topA (q a b k) (q a' b' k') / Q.oddN (q a' b' k') = qA at *
      generalize Q.topB (q a b k) (q a' b' k') / Q.oddN (q a' b' k') = qB at *
      have e2 := Lib.hid eo
      generalize Q.twosOf 64 (Q.normOf (q a' b' k')) = tw at *
      have e3 := Lib.hid (show wrap64 (wrap64 (k + tw) - k') = k + tw - k' by rw [wrap64_in (n := k + tw) (by omega) (by omega), wrap64_in (by omega) (by omega)])
      by_cases hk : k + tw - k' ≤ 0
      · obtain ⟨u, hu⟩ : ∃ u : Nat, (u : Int) = -(k + tw - k') := ⟨(-(k + tw - k')).toNat, by omega⟩
        have hu10 : u ≤ 10 := by omega
        obtain ⟨ra1, ra2⟩ := shl_bound hu10 qa1 qa2
        obtain ⟨rb1, rb2⟩ := shl_bound hu10 qb1 qb2
        refine ⟨qA * 2 ^ u, qB * 2 ^ u, 0, ?_, by omega, by omega, ra1, ra2, rb1, rb2, fun w hT => ?_⟩
        · have key : ∀ p : Int, p * 2 ^ u * 2 ^ (k.toNat + tw) = p * 2 ^ k'.toNat * 2 ^ 0 := by
            intro p
            rw [Int.mul_assoc, ← Int.pow_add, show u + (k.toNat + tw) = k'.toNat by omega]
            simp
          exact ⟨key qA, key qB⟩
        · exact over_up a b k a' b' k' _ _ _ _ _ qA qB (k + tw - k') tw w hT HT1 HT2 HZ e1 e2 (Lib.hid hodd) ht (Lib.hid hA) (Lib.hid hB) q1 q2 u hu10 _ _
            (Lib.hid (IntWalk.i64_in _ (by omega))) (Lib.hid (IntWalk.i64_in _ (by omega))) e3 (Lib.hid (by rw [wrap64_in (by omega) (by omega)]; omega)) (Lib.hid (by rw [show k + tw - k' + (u : Int) = 0 by omega]; decide))
      · refine ⟨qA, qB, k + tw - k', ?_, by omega, by omega, by omega, by omega, by omega, by omega, fun w hT => ?_⟩
        · have key : ∀ p : Int, p * 2 ^ (k.toNat + tw) = p * 2 ^ k'.toNat * 2 ^ (k + tw - k').toNat := by
            intro p
            rw [Int.mul_assoc, ← Int.pow_add, show k'.toNat + (k + tw - k').toNat = k.toNat + tw by omega]
          exact ⟨key qA, key qB⟩
        · exact over_down a b k a' b' k' _ _ _ _ _ qA qB (k + tw - k') tw w hT HT1 HT2 HZ e1 e2 (Lib.hid hodd) ht (Lib.hid hA) (Lib.hid hB) q1 q2 (-(k + tw - k')) (by omega)
            (Lib.hid (IntWalk.i64_in _ (by omega))) (Lib.hid (IntWalk.i64_in _ (by omega))) e3 (Lib.hid (by rw [wrap64_in (by omega) (by omega)])) (Lib.hid (IntWalk.i64_in _ (by omega)))
    · left
      refine ⟨fun h => hB (Int.tmod_eq_zero_of_dvd h.2.2), fun w hT => ?_⟩
      exact over_no2 a b k a' b' k' _ _ _ _ _ _ w hT HT1 HT2 HZ e1 (Lib.hid eo) (Lib.hid hodd) ht (Lib.hid hA) (Lib.hid hB)
  · left
    refine ⟨fun h => hA (Int.tmod_eq_zero_of_dvd h.2.1), fun w hT => ?_⟩
    exact over_no1 a b k a' b' k' _ _ _ _ _ _ w hT HT1 HT2 HZ e1 (Lib.hid eo) (Lib.hid hodd) ht (Lib.hid hA)
end Go.Proofs.YtffcdnokkdifdaaDoor
