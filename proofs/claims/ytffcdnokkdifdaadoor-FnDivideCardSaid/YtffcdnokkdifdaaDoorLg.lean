/- What sums, products, comparisons and floors of the program are among exact numbers: for the laws of signs and of rings. -/
import Derived.Test.YtffcdnokkdifdaaDoorSu
import Derived.Test.YtffcdnokkdifdaaDoorLd
namespace Go.Proofs.YtffcdnokkdifdaaDoor
open Go Go.RowKit OriM

/-- The number of three fields. -/
def q (a b k : Int) : Q := ⟨a, b, k.toNat⟩

theorem q_valid {a b k : Int} (h : validB a b k = true) : (q a b k).valid := by
  obtain ⟨h1, h2⟩ := (show withinB a b k = true ∧ oddB a b k = true by simpa [validB] using h)
  have h3 := within_k h1
  refine ⟨?_, (oddB_canon h3.1).1 h2⟩
  simp [withinB, inB] at h1
  simp [q, Q.within]
  omega

theorem valid_of_q {a b k : Int} (k0 : 0 ≤ k) (h : (q a b k).valid) : validB a b k = true := by
  obtain ⟨h1, h2⟩ := h
  have h3 : oddB a b k = true := (oddB_canon k0).2 h2
  have hw : withinB a b k = true := by
    simp [q, Q.within] at h1
    simp [withinB, inB]
    omega
  simp [validB, h3, hw]

theorem lim_k (A B K : Int) : 0 ≤ limK A B K := by unfold limK; split <;> omega

theorem lim_q (A B K : Int) : (q A B K).lim = if limO A B K then some (q (limA A B K) (limB A B K) (limK A B K)) else none := by
  have e : (q A B K).low.within = limO A B K := by
    have e1 : (q A B K).low.within = decide (-131072 ≤ lowA A B K.toNat ∧ lowA A B K.toNat ≤ 131072 ∧ -131072 ≤ lowB A B K.toNat ∧ lowB A B K.toNat ≤ 131072 ∧ lowK A B K.toNat ≤ 10) := rfl
    rw [e1, Bool.eq_iff_iff, decide_eq_true_eq]
    simp only [limO, withinB, inB, Bool.and_eq_true, decide_eq_true_eq]
    constructor
    · rintro ⟨h1, h2, h3, h4, h5⟩
      exact ⟨⟨h1, h2⟩, ⟨h3, h4⟩, by omega, by omega⟩
    · rintro ⟨⟨h1, h2⟩, ⟨h3, h4⟩, _, h5⟩
      exact ⟨h1, h2, h3, h4, by omega⟩
  unfold Q.lim
  rw [e]
  by_cases h : limO A B K = true
  · rw [if_pos h, if_pos h]
    have h' := h
    unfold limO at h'
    simp [q, Q.low, limA, limB, limK, h']
  · rw [if_neg h, if_neg h]

theorem plus_q (a b k a' b' k' : Int) (k0 : 0 ≤ k) (k0' : 0 ≤ k') : (q (plusA a k a' k') (plusA b k b' k') (max k k')).eqv ((q a b k).add (q a' b' k')) := by
  have key : ∀ u v : Int, plusA u k v k' * 2 ^ (k.toNat + k'.toNat) = (u * 2 ^ k'.toNat + v * 2 ^ k.toNat) * 2 ^ (max k k').toNat := by
    intro u v
    have e1 : (2 : Int) ^ (max k k').toNat = 2 ^ (max k k' - k).toNat * 2 ^ k.toNat := by rw [← Int.pow_add]; congr 1; omega
    have e2 : (2 : Int) ^ (max k k').toNat = 2 ^ (max k k' - k').toNat * 2 ^ k'.toNat := by rw [← Int.pow_add]; congr 1; omega
    unfold plusA
    rw [Int.add_mul, Int.add_mul, Int.pow_add]
    congr 1
    · rw [e1]; ac_rfl
    · rw [e2]; ac_rfl
  exact ⟨key a a', key b b'⟩

theorem add_q {a b k a' b' k' : Int} (hx : validB a b k = true) (hy : validB a' b' k' = true) :
    Q.addN (q a b k) (q a' b' k') = if addO a b k a' b' k' then some (q (addA a b k a' b' k') (addB a b k a' b' k') (addK a b k a' b' k')) else none := by
  obtain ⟨_, _, _, _, k0, _⟩ := valid_bounds hx
  obtain ⟨_, _, _, _, k0', _⟩ := valid_bounds hy
  unfold Q.addN
  rw [← Q.lim_of_eqv (plus_q a b k a' b' k' k0 k0')]
  exact lim_q _ _ _

theorem neg_q (a b k : Int) : q (-a) (-b) k = (q a b k).neg := rfl

theorem sub_q {a b k a' b' k' : Int} (hx : validB a b k = true) (hy : validB a' b' k' = true) :
    Q.subN (q a b k) (q a' b' k') = if addO a b k (-a') (-b') k' then some (q (addA a b k (-a') (-b') k') (addB a b k (-a') (-b') k') (addK a b k (-a') (-b') k')) else none := by
  have := add_q hx (show validB (-a') (-b') k' = true by rw [valid_neg]; exact hy)
  exact this

theorem mul_q {a b k a' b' k' : Int} (hx : validB a b k = true) (hy : validB a' b' k' = true) :
    Q.mulN (q a b k) (q a' b' k') = if mulO a b k a' b' k' then some (q (mulA a b k a' b' k') (mulB a b k a' b' k') (mulK a b k a' b' k')) else none := by
  obtain ⟨_, _, _, _, k0, _⟩ := valid_bounds hx
  obtain ⟨_, _, _, _, k0', _⟩ := valid_bounds hy
  have e : (q a b k).mul (q a' b' k') = q (timesA a b a' b') (timesB a b a' b') (k + k') := by
    simp [q, Q.mul, timesA, timesB, Int.mul_assoc]
    omega
  unfold Q.mulN
  rw [e]
  exact lim_q _ _ _

/-- What the program says of signs. -/
def sgnV (a b k : Int) : Int := if validB a b k then Q.sgn2 a b else 0
theorem sgnV_q {a b k : Int} (h : validB a b k = true) : sgnV a b k = (q a b k).sgn := by unfold sgnV; rw [if_pos h]; rfl

theorem lim_valid' {x : Q} {a b k : Int} (h : x.lim = some (q a b k)) (k0 : 0 ≤ k) : validB a b k = true := valid_of_q k0 (Q.lim_valid h).1

theorem mul_some {a b k a' b' k' : Int} (hx : validB a b k = true) (hy : validB a' b' k' = true) (h : mulO a b k a' b' k' = true) :
    Q.mulN (q a b k) (q a' b' k') = some (q (mulA a b k a' b' k') (mulB a b k a' b' k') (mulK a b k a' b' k')) := by rw [mul_q hx hy, if_pos h]
theorem add_some {a b k a' b' k' : Int} (hx : validB a b k = true) (hy : validB a' b' k' = true) (h : addO a b k a' b' k' = true) :
    Q.addN (q a b k) (q a' b' k') = some (q (addA a b k a' b' k') (addB a b k a' b' k') (addK a b k a' b' k')) := by rw [add_q hx hy, if_pos h]
theorem sub_some {a b k a' b' k' : Int} (hx : validB a b k = true) (hy : validB a' b' k' = true) (h : addO a b k (-a') (-b') k' = true) :
    Q.subN (q a b k) (q a' b' k') = some (q (addA a b k (-a') (-b') k') (addB a b k (-a') (-b') k') (addK a b k (-a') (-b') k')) := by rw [sub_q hx hy, if_pos h]

theorem mul_sign {a b k a' b' k' : Int} (hx : validB a b k = true) (hy : validB a' b' k' = true) (h : mulO a b k a' b' k' = true) :
    sgnV (mulA a b k a' b' k') (mulB a b k a' b' k') (mulK a b k a' b' k') = sgnV a b k * sgnV a' b' k' := by
  have e := mul_some hx hy h
  rw [sgnV_q hx, sgnV_q hy, sgnV_q (lim_valid' e (lim_k _ _ _)), Q.sgn_mulN e]

theorem cmpV_q {a b k a' b' k' : Int} (hx : validB a b k = true) (hy : validB a' b' k' = true) : cmpV a b k a' b' k' = Q.cmp (q a b k) (q a' b' k') := by
  obtain ⟨_, _, _, _, k0, _⟩ := valid_bounds hx
  obtain ⟨_, _, _, _, k0', _⟩ := valid_bounds hy
  unfold cmpV
  rw [hx, hy, Bool.and_true, if_pos rfl]
  exact Q.sgn_eqv (plus_q a b k (-a') (-b') k' k0 k0')

theorem cmpV_anti {a b k a' b' k' : Int} (hx : validB a b k = true) (hy : validB a' b' k' = true) : cmpV a b k a' b' k' = -cmpV a' b' k' a b k := by
  rw [cmpV_q hx hy, cmpV_q hy hx]; exact Q.cmp_anti _ _
theorem cmpV_self {a b k : Int} (hx : validB a b k = true) : cmpV a b k a b k = 0 := by rw [cmpV_q hx hx]; exact Q.cmp_self _
theorem cmpV_eq {a b k a' b' k' : Int} (hx : validB a b k = true) (hy : validB a' b' k' = true) (h : cmpV a b k a' b' k' = 0) : eqB a b k a' b' k' = true := by
  rw [cmpV_q hx hy] at h
  have e := Q.eq_of_cmp (q_valid hx).2 (q_valid hy).2 h
  obtain ⟨_, _, _, _, k0, _⟩ := valid_bounds hx
  obtain ⟨_, _, _, _, k0', _⟩ := valid_bounds hy
  simp only [q, Q.mk.injEq] at e
  simp [eqB]
  omega

theorem sub_sign {a b k a' b' k' : Int} (hx : validB a b k = true) (hy : validB a' b' k' = true) (h : addO a b k (-a') (-b') k' = true) :
    sgnV (addA a b k (-a') (-b') k') (addB a b k (-a') (-b') k') (addK a b k (-a') (-b') k') = cmpV a b k a' b' k' := by
  have e := sub_some hx hy h
  rw [cmpV_q hx hy, sgnV_q (lim_valid' e (lim_k _ _ _)), Q.sgn_subN e]

theorem add_cmp {a b k a' b' k' a'' b'' k'' : Int} (hx : validB a b k = true) (hy : validB a' b' k' = true) (hz : validB a'' b'' k'' = true)
    (h : addO a b k a'' b'' k'' = true) (h' : addO a' b' k' a'' b'' k'' = true) :
    cmpV (addA a b k a'' b'' k'') (addB a b k a'' b'' k'') (addK a b k a'' b'' k'') (addA a' b' k' a'' b'' k'') (addB a' b' k' a'' b'' k'') (addK a' b' k' a'' b'' k'') = cmpV a b k a' b' k' := by
  have e := add_some hx hz h
  have e' := add_some hy hz h'
  rw [cmpV_q hx hy, cmpV_q (lim_valid' e (lim_k _ _ _)) (lim_valid' e' (lim_k _ _ _)), Q.cmp_addN e e']

theorem sgn2_range (a b : Int) : -1 ≤ Q.sgn2 a b ∧ Q.sgn2 a b ≤ 1 := by
  have h : ∀ c : Int, -1 ≤ c.sign ∧ c.sign ≤ 1 := fun c => by
    rcases Int.lt_trichotomy c 0 with h | h | h
    · rw [Int.sign_eq_neg_one_of_neg h]; omega
    · subst h; simp
    · rw [Int.sign_eq_one_of_pos h]; omega
  rcases Q.cases2 a b with ⟨_, e⟩ | ⟨_, e⟩ | ⟨_, _, e⟩
  · rw [e]; exact h _
  · rw [e]; exact h _
  · rw [e]; omega

theorem cmpV_range (a b k a' b' k' : Int) : -1 ≤ cmpV a b k a' b' k' ∧ cmpV a b k a' b' k' ≤ 1 := by
  unfold cmpV
  split
  · exact sgn2_range _ _
  · omega

theorem div_pow_range {n M : Int} (d : Nat) (h0 : 0 ≤ M) (h1 : -M ≤ n) (h2 : n ≤ M) : -M ≤ n / 2 ^ d ∧ n / 2 ^ d ≤ M := by
  have hp := two_pow_pos d
  have e := Int.mul_ediv_add_emod n (2 ^ d)
  have m0 := Int.emod_nonneg n (show (2 : Int) ^ d ≠ 0 by omega)
  have m1 := Int.emod_lt_of_pos n hp
  constructor
  · apply Int.le_ediv_of_mul_le hp
    have := Int.mul_le_mul_of_nonneg_left (show (1 : Int) ≤ 2 ^ d by omega) h0
    rw [Int.neg_mul]
    omega
  · rcases Int.lt_or_le n 0 with h | h
    · have := Int.ediv_neg_of_neg_of_pos h hp
      omega
    · have := Int.ediv_le_self (2 ^ d) h
      omega

theorem floorV_range {a b k : Int} (hx : validB a b k = true) : -400000 ≤ floorV a b k ∧ floorV a b k ≤ 400000 := by
  obtain ⟨a1, a2, b1, b2, _, _⟩ := valid_bounds hx
  have hs : 0 ≤ 2 * (b * b) ∧ 2 * (b * b) ≤ 34359738368 := by
    have h1 := mul_fits 131072 131072 (p := b) (q := b) (by omega) (by omega) (by omega) (by omega)
    have h2 := OriM.sq_nonneg b
    simp only [Int.reduceMul, Int.cast_ofNat_Int] at h1
    omega
  obtain ⟨r0, r1⟩ := isq_small hs.1 hs.2
  unfold floorV Q.floorOf
  exact div_pow_range _ (by omega) (by split <;> omega) (by split <;> omega)

theorem floorV_cmp {a b k : Int} (hx : validB a b k = true) : Q.cmp ⟨floorV a b k, 0, 0⟩ (q a b k) ≤ 0 ∧ Q.cmp ⟨floorV a b k + 1, 0, 0⟩ (q a b k) = 1 := by
  obtain ⟨a1, a2, b1, b2, _, _⟩ := valid_bounds hx
  have hs : 0 ≤ 2 * (b * b) ∧ 2 * (b * b) ≤ 34359738368 := by
    have h1 := mul_fits 131072 131072 (p := b) (q := b) (by omega) (by omega) (by omega) (by omega)
    have h2 := OriM.sq_nonneg b
    simp only [Int.reduceMul, Int.cast_ofNat_Int] at h1
    omega
  obtain ⟨r0, r1, r2⟩ := isq_spec hs.1 (by omega)
  exact ⟨Q.floor_low r0 r1 r2 rfl, Q.floor_high r0 r1 r2 rfl⟩

theorem make_cmp {f a b k : Int} (hx : validB a b k = true) (h : limO f 0 0 = true) :
    cmpV (limA f 0 0) (limB f 0 0) (limK f 0 0) a b k = Q.cmp ⟨f, 0, 0⟩ (q a b k) := by
  have e : (q f 0 0).lim = some (q (limA f 0 0) (limB f 0 0) (limK f 0 0)) := by rw [lim_q, if_pos h]
  rw [cmpV_q (lim_valid' e (lim_k _ _ _)) hx]
  exact Q.cmp_eqv (Q.lim_valid e).2 (Q.eqv_refl _)

theorem low_cmp {a b k : Int} (hx : validB a b k = true) (h : limO (floorV a b k) 0 0 = true) :
    cmpV (limA (floorV a b k) 0 0) (limB (floorV a b k) 0 0) (limK (floorV a b k) 0 0) a b k ≤ 0 := by rw [make_cmp hx h]; exact (floorV_cmp hx).1
theorem high_cmp {a b k : Int} (hx : validB a b k = true) (h : limO (floorV a b k + 1) 0 0 = true) :
    0 < cmpV (limA (floorV a b k + 1) 0 0) (limB (floorV a b k + 1) 0 0) (limK (floorV a b k + 1) 0 0) a b k := by
  rw [make_cmp hx h, (floorV_cmp hx).2]; decide
end Go.Proofs.YtffcdnokkdifdaaDoor
