/- Numbers on the grid 1 / 2^16: A + B r over 2^16, in lowest terms; sums, products by small numbers, quotients by numbers whose norm is a power of 2. -/
import Derived.Test.YthhjkiiggokfkaaDoorMath
namespace OriM

/-- The number with parts A, B over 2^16, in lowest terms. -/
def gA (A B : Int) : Int := lowA A B 16
def gB (A B : Int) : Int := lowB A B 16
def gK (A B : Int) : Nat := lowK A B 16

/-- a, b over 2^k is A, B over 2^16. -/
def Gr (a b : Int) (k : Nat) (A B : Int) : Prop := Eqv a b k A B 16

theorem gr_low {a b : Int} {k : Nat} {A B : Int} (h : Gr a b k A B) : lowA a b k = gA A B ∧ lowB a b k = gB A B ∧ lowK a b k = gK A B := low_of_eqv h
theorem gr_self (A B : Int) : Gr (gA A B) (gB A B) (gK A B) A B := low_eqv A B 16
theorem g_canon (A B : Int) : Canon (gA A B) (gB A B) (gK A B) := low_canon 16 A B
theorem gK_le (A B : Int) : gK A B ≤ 16 := by unfold gK lowK; omega
theorem gr_of_canon {a b : Int} {k : Nat} {A B : Int} (h : Gr a b k A B) (c : Canon a b k) : a = gA A B ∧ b = gB A B ∧ k = gK A B := by
  obtain ⟨h1, h2, h3⟩ := gr_low h
  obtain ⟨c1, c2, c3⟩ := low_of_canon c
  omega

theorem pow_le16 {k : Nat} (h : k ≤ 16) : ∃ p : Int, p = 2 ^ k ∧ 1 ≤ p ∧ p ≤ 65536 := by
  refine ⟨_, rfl, ?_, ?_⟩
  · have := two_pow_pos k; omega
  · have e : (2 : Int) ^ 16 = 2 ^ k * 2 ^ (16 - k) := pow_split h
    have p1 := two_pow_pos k
    have p2 := two_pow_pos (16 - k)
    have : (2 : Int) ^ k * 1 ≤ 2 ^ k * 2 ^ (16 - k) := Int.mul_le_mul_of_nonneg_left (by omega) (by omega)
    rw [← e] at this
    simpa using this

/-- a is at most A in size: a shifted to the power m, too. -/
theorem shift_le {a A : Int} {k m : Nat} (h : a * 2 ^ 16 = A * 2 ^ k) (hk : k ≤ m) (hm : m ≤ 16) {M : Int} (l : -M ≤ A) (u : A ≤ M) : -M ≤ a * 2 ^ (m - k) ∧ a * 2 ^ (m - k) ≤ M := by
  have e : a * 2 ^ (m - k) * 2 ^ (16 - m) = A := by
    have p := two_pow_pos k
    apply Int.eq_of_mul_eq_mul_right (Int.ne_of_gt p)
    rw [← h, Int.mul_assoc, Int.mul_assoc, ← Int.pow_add, ← Int.pow_add]
    congr 2; omega
  obtain ⟨p, hp, p1, p2⟩ := pow_le16 (k := 16 - m) (by omega)
  rw [← hp] at e
  generalize a * 2 ^ (m - k) = s at *
  subst e
  constructor
  · rcases Int.le_total 0 s with hs | hs
    · have := Int.mul_le_mul_of_nonneg_left p1 hs; have := Int.mul_nonneg hs (show 0 ≤ p by omega); omega
    · have : s * p ≤ s * 1 := Int.mul_le_mul_of_nonpos_left hs p1
      omega
  · rcases Int.le_total 0 s with hs | hs
    · have : s * 1 ≤ s * p := Int.mul_le_mul_of_nonneg_left p1 hs
      omega
    · have : s * p ≤ 0 := Int.mul_nonpos_of_nonpos_of_nonneg hs (by omega)
      omega

theorem shift_zero {a A : Int} {k : Nat} (h : a * 2 ^ 16 = A * 2 ^ k) (hk : k ≤ 16) {M : Int} (l : -M ≤ A) (u : A ≤ M) : -M ≤ a ∧ a ≤ M := by
  have := shift_le (m := k) h (Nat.le_refl _) hk l u
  simpa using this

theorem g_bound {A B M : Int} (h : -M ≤ A ∧ A ≤ M ∧ -M ≤ B ∧ B ≤ M) : -M ≤ gA A B ∧ gA A B ≤ M ∧ -M ≤ gB A B ∧ gB A B ≤ M := by
  have g := gr_self A B
  have a := shift_zero g.1 (gK_le A B) h.1 h.2.1
  have b := shift_zero g.2 (gK_le A B) h.2.2.1 h.2.2.2
  exact ⟨a.1, a.2, b.1, b.2⟩

/-- A sum over the greater power. -/
theorem gr_plus {a b : Int} {k : Nat} {A B : Int} {a' b' : Int} {k' : Nat} {A' B' : Int} {m : Nat} (h : Gr a b k A B) (h' : Gr a' b' k' A' B') (hk : k ≤ m) (hk' : k' ≤ m) :
    Gr (a * 2 ^ (m - k) + a' * 2 ^ (m - k')) (b * 2 ^ (m - k) + b' * 2 ^ (m - k')) m (A + A') (B + B') := by
  have key : ∀ (x X : Int) (j : Nat), x * 2 ^ 16 = X * 2 ^ j → j ≤ m → x * 2 ^ (m - j) * 2 ^ 16 = X * 2 ^ m := by
    intro x X j e hj
    rw [show x * 2 ^ (m - j) * 2 ^ 16 = x * 2 ^ 16 * 2 ^ (m - j) from by ac_rfl, e, Int.mul_assoc, ← Int.pow_add]
    congr 2; omega
  constructor
  · rw [Int.add_mul, Int.add_mul, key _ _ _ h.1 hk, key _ _ _ h'.1 hk']
  · rw [Int.add_mul, Int.add_mul, key _ _ _ h.2 hk, key _ _ _ h'.2 hk']

/-- A product by integers c + d r. -/
theorem gr_times {a b : Int} {k : Nat} {A B : Int} (c d : Int) (h : Gr a b k A B) : Gr (a * c + 2 * b * d) (a * d + b * c) k (A * c + 2 * B * d) (A * d + B * c) := by
  obtain ⟨h1, h2⟩ := h
  constructor
  · generalize (2 : Int) ^ 16 = p at *
    generalize (2 : Int) ^ k = q at *
    grind
  · generalize (2 : Int) ^ 16 = p at *
    generalize (2 : Int) ^ k = q at *
    grind
theorem gr_times' {a b : Int} {k : Nat} {A B : Int} (c d : Int) (h : Gr a b k A B) : Gr (c * a + 2 * d * b) (c * b + d * a) k (A * c + 2 * B * d) (A * d + B * c) := by
  have := gr_times c d h
  rwa [show c * a + 2 * d * b = a * c + 2 * b * d by grind, show c * b + d * a = a * d + b * c by grind]

theorem gr_neg {a b : Int} {k : Nat} {A B : Int} (h : Gr a b k A B) : Gr (-a) (-b) k (-A) (-B) := by
  obtain ⟨h1, h2⟩ := h
  constructor
  · rw [Int.neg_mul, h1, Int.neg_mul]
  · rw [Int.neg_mul, h2, Int.neg_mul]
theorem g_neg (A B : Int) : gA (-A) (-B) = -gA A B ∧ gB (-A) (-B) = -gB A B ∧ gK (-A) (-B) = gK A B := by
  have h := gr_neg (gr_self A B)
  have c : Canon (-gA A B) (-gB A B) (gK A B) := by
    rcases g_canon A B with h | h | h
    · exact .inl h
    · exact .inr (.inl (by omega))
    · exact .inr (.inr (by omega))
  obtain ⟨h1, h2, h3⟩ := gr_of_canon h c
  exact ⟨h1.symm, h2.symm, h3.symm⟩

/-- Halves: the power grows by t. -/
theorem gr_half {a b : Int} {k : Nat} {A B A' B' : Int} (t : Nat) (h : Gr a b k A B) (ha : A = A' * 2 ^ t) (hb : B = B' * 2 ^ t) : Gr a b (k + t) A' B' := by
  obtain ⟨h1, h2⟩ := h
  constructor
  · rw [h1, ha, Int.pow_add]; ac_rfl
  · rw [h2, hb, Int.pow_add]; ac_rfl

/-- A valid number on the grid. -/
def up16 (a : Int) (k : Nat) : Int := a * 2 ^ (16 - k)
theorem gr_up {a b : Int} {k : Nat} (h : k ≤ 16) : Gr a b k (up16 a k) (up16 b k) := by
  unfold up16
  constructor <;> (rw [Int.mul_assoc, ← Int.pow_add]; congr 2; omega)
theorem up16_bound {a : Int} {k : Nat} (h : k ≤ 10) (a1 : -131072 ≤ a) (a2 : a ≤ 131072) : -8589934592 ≤ up16 a k ∧ up16 a k ≤ 8589934592 ∧ up16 a k % 64 = 0 := by
  obtain ⟨p, hp, p1, p2⟩ := pow_le16 (k := 16 - k) (by omega)
  have e : (2 : Int) ^ (16 - k) = 2 ^ (10 - k) * 64 := by rw [show (64 : Int) = 2 ^ 6 from rfl, ← Int.pow_add]; congr 1; omega
  unfold up16
  rw [← hp]
  refine ⟨?_, ?_, ?_⟩
  · have l2 : -131072 * p ≤ a * p := Int.mul_le_mul_of_nonneg_right a1 (by omega)
    omega
  · have l1 : a * p ≤ 131072 * p := Int.mul_le_mul_of_nonneg_right a2 (by omega)
    omega
  · rw [hp, e, ← Int.mul_assoc]; exact Int.mul_emod_left _ _

/-- The sign on the grid. -/
theorem g_sgn (A B : Int) : Q.sgn2 (gA A B) (gB A B) = Q.sgn2 A B :=
  Q.sgn_eqv (x := ⟨gA A B, gB A B, gK A B⟩) (y := ⟨A, B, 16⟩) (gr_self A B)
theorem g_zero {A B : Int} : (gA A B = 0 ∧ gB A B = 0) ↔ (A = 0 ∧ B = 0) := by
  have g := gr_self A B
  have p := two_pow_pos (gK A B)
  constructor
  · rintro ⟨h1, h2⟩
    have g1 := g.1; have g2 := g.2
    rw [h1] at g1; rw [h2] at g2
    constructor
    · rcases Int.mul_eq_zero.1 (g1.symm.trans (Int.zero_mul _)) with h | h
      · exact h
      · omega
    · rcases Int.mul_eq_zero.1 (g2.symm.trans (Int.zero_mul _)) with h | h
      · exact h
      · omega
  · rintro ⟨rfl, rfl⟩
    have g1 := g.1; have g2 := g.2
    simp at g1 g2
    exact ⟨g1, g2⟩
theorem g_inj {A B A' B' : Int} (h : gA A B = gA A' B' ∧ gB A B = gB A' B' ∧ gK A B = gK A' B') : A = A' ∧ B = B' := by
  have g := gr_self A B
  have g' := gr_self A' B'
  obtain ⟨h1, h2, h3⟩ := h
  rw [← h1, ← h2, ← h3] at g'
  have p := two_pow_pos (gK A B)
  exact ⟨Int.eq_of_mul_eq_mul_right (Int.ne_of_gt p) (g.1.symm.trans g'.1), Int.eq_of_mul_eq_mul_right (Int.ne_of_gt p) (g.2.symm.trans g'.2)⟩
end OriM
