/- Numbers (A + B r) / 2^K: lowest terms, sums, products, quotients, signs and floors, over Lean integers alone. -/
import Derived.Lib.TrailingZeros
namespace OriM

/-- How often 2 divides both numbers, at most k times. -/
def twos : Nat → Int → Int → Nat
  | 0, _, _ => 0
  | k + 1, a, b => if a % 2 = 0 ∧ b % 2 = 0 then twos k (a / 2) (b / 2) + 1 else 0

theorem twos_le : ∀ (k : Nat) (a b : Int), twos k a b ≤ k
  | 0, _, _ => Nat.le_refl _
  | k + 1, a, b => by
    unfold twos; split
    · have := twos_le k (a / 2) (b / 2); omega
    · omega

theorem two_pow_pos (n : Nat) : (0 : Int) < 2 ^ n := Int.pow_pos (by decide)

theorem ediv_two_pow_succ (a : Int) (n : Nat) : a / 2 ^ (n + 1) = a / 2 / 2 ^ n := by
  rw [Int.pow_succ, Int.mul_comm, Int.ediv_ediv_of_nonneg (by decide)]

theorem twos_dvd : ∀ (k : Nat) (a b : Int), a = 2 ^ twos k a b * (a / 2 ^ twos k a b) ∧ b = 2 ^ twos k a b * (b / 2 ^ twos k a b)
  | 0, a, b => by simp [twos]
  | k + 1, a, b => by
    unfold twos; split
    · rename_i h
      obtain ⟨ha, hb⟩ := h
      obtain ⟨h1, h2⟩ := twos_dvd k (a / 2) (b / 2)
      rw [ediv_two_pow_succ, ediv_two_pow_succ, Int.pow_succ, Int.mul_comm _ 2, Int.mul_assoc, Int.mul_assoc, ← h1, ← h2]
      omega
    · simp

/-- The form with the least exponent. -/
def lowA (a b : Int) (k : Nat) : Int := a / 2 ^ twos k a b
def lowB (a b : Int) (k : Nat) : Int := b / 2 ^ twos k a b
def lowK (a b : Int) (k : Nat) : Nat := k - twos k a b

/-- Lowest terms. -/
def Canon (a b : Int) (k : Nat) : Prop := k = 0 ∨ a % 2 ≠ 0 ∨ b % 2 ≠ 0

/-- The same number. -/
def Eqv (a b : Int) (k : Nat) (a' b' : Int) (k' : Nat) : Prop := a * 2 ^ k' = a' * 2 ^ k ∧ b * 2 ^ k' = b' * 2 ^ k

theorem low_canon : ∀ (k : Nat) (a b : Int), Canon (lowA a b k) (lowB a b k) (lowK a b k)
  | 0, a, b => .inl (by simp [lowK])
  | k + 1, a, b => by
    unfold lowA lowB lowK twos; split
    · have := low_canon k (a / 2) (b / 2)
      unfold lowA lowB lowK at this
      rw [ediv_two_pow_succ, ediv_two_pow_succ]
      rw [show k + 1 - (twos k (a / 2) (b / 2) + 1) = k - twos k (a / 2) (b / 2) from by omega]
      exact this
    · rename_i h
      right
      simp
      omega

theorem low_eqv (a b : Int) (k : Nat) : Eqv (lowA a b k) (lowB a b k) (lowK a b k) a b k := by
  obtain ⟨h1, h2⟩ := twos_dvd k a b
  have hl := twos_le k a b
  unfold Eqv lowA lowB lowK
  generalize twos k a b = s at *
  have e : (2 : Int) ^ k = 2 ^ s * 2 ^ (k - s) := by rw [← Int.pow_add]; congr 1; omega
  rw [e]
  constructor
  · conv => rhs; rw [h1]
    ac_rfl
  · conv => rhs; rw [h2]
    ac_rfl

theorem eqv_symm {a b : Int} {k : Nat} {a' b' : Int} {k' : Nat} (h : Eqv a b k a' b' k') : Eqv a' b' k' a b k := ⟨h.1.symm, h.2.symm⟩

theorem eqv_trans {a b : Int} {k : Nat} {a' b' : Int} {k' : Nat} {a'' b'' : Int} {k'' : Nat} (h : Eqv a b k a' b' k') (g : Eqv a' b' k' a'' b'' k'') : Eqv a b k a'' b'' k'' := by
  obtain ⟨h1, h2⟩ := h
  obtain ⟨g1, g2⟩ := g
  have p := two_pow_pos k'
  constructor
  · apply Int.eq_of_mul_eq_mul_right (Int.ne_of_gt p)
    calc a * 2 ^ k'' * 2 ^ k' = a * 2 ^ k' * 2 ^ k'' := by ac_rfl
      _ = a' * 2 ^ k * 2 ^ k'' := by rw [h1]
      _ = a' * 2 ^ k'' * 2 ^ k := by ac_rfl
      _ = a'' * 2 ^ k' * 2 ^ k := by rw [g1]
      _ = a'' * 2 ^ k * 2 ^ k' := by ac_rfl
  · apply Int.eq_of_mul_eq_mul_right (Int.ne_of_gt p)
    calc b * 2 ^ k'' * 2 ^ k' = b * 2 ^ k' * 2 ^ k'' := by ac_rfl
      _ = b' * 2 ^ k * 2 ^ k'' := by rw [h2]
      _ = b' * 2 ^ k'' * 2 ^ k := by ac_rfl
      _ = b'' * 2 ^ k' * 2 ^ k := by rw [g2]
      _ = b'' * 2 ^ k * 2 ^ k' := by ac_rfl

theorem pow_split {k k' : Nat} (h : k ≤ k') : (2 : Int) ^ k' = 2 ^ k * 2 ^ (k' - k) := by rw [← Int.pow_add]; congr 1; omega

theorem canon_unique_le {a b : Int} {k : Nat} {a' b' : Int} {k' : Nat} (hk : k ≤ k') (h : Eqv a b k a' b' k') (c' : Canon a' b' k') : a = a' ∧ b = b' ∧ k = k' := by
  obtain ⟨h1, h2⟩ := h
  have p := two_pow_pos k
  rw [pow_split hk] at h1 h2
  have e1 : a * 2 ^ (k' - k) = a' := Int.eq_of_mul_eq_mul_right (Int.ne_of_gt p) (by rw [← h1]; ac_rfl)
  have e2 : b * 2 ^ (k' - k) = b' := Int.eq_of_mul_eq_mul_right (Int.ne_of_gt p) (by rw [← h2]; ac_rfl)
  by_cases hlt : k < k'
  · exfalso
    rw [show k' - k = (k' - k - 1) + 1 from by omega, Int.pow_succ] at e1 e2
    rcases c' with c | c | c
    · omega
    · apply c; rw [← e1, ← Int.mul_assoc]; exact Int.mul_emod_left _ _
    · apply c; rw [← e2, ← Int.mul_assoc]; exact Int.mul_emod_left _ _
  · have : k = k' := by omega
    subst this
    simp at e1 e2
    exact ⟨e1, e2, rfl⟩

theorem canon_unique {a b : Int} {k : Nat} {a' b' : Int} {k' : Nat} (h : Eqv a b k a' b' k') (c : Canon a b k) (c' : Canon a' b' k') : a = a' ∧ b = b' ∧ k = k' := by
  by_cases hk : k ≤ k'
  · exact canon_unique_le hk h c'
  · obtain ⟨x, y, z⟩ := canon_unique_le (by omega) (eqv_symm h) c
    exact ⟨x.symm, y.symm, z.symm⟩

theorem low_of_eqv {a b : Int} {k : Nat} {a' b' : Int} {k' : Nat} (h : Eqv a b k a' b' k') : lowA a b k = lowA a' b' k' ∧ lowB a b k = lowB a' b' k' ∧ lowK a b k = lowK a' b' k' :=
  canon_unique (eqv_trans (eqv_trans (low_eqv a b k) h) (eqv_symm (low_eqv a' b' k'))) (low_canon k a b) (low_canon k' a' b')

theorem low_of_canon {a b : Int} {k : Nat} (c : Canon a b k) : lowA a b k = a ∧ lowB a b k = b ∧ lowK a b k = k :=
  canon_unique (low_eqv a b k) (low_canon k a b) c

end OriM
namespace OriM

/-- (a + b r) / 2^k, r the square root of 2; not limited. -/
structure Q where
  a : Int
  b : Int
  k : Nat
deriving DecidableEq

namespace Q

def add (x y : Q) : Q := ⟨x.a * 2 ^ y.k + y.a * 2 ^ x.k, x.b * 2 ^ y.k + y.b * 2 ^ x.k, x.k + y.k⟩
def neg (x : Q) : Q := ⟨-x.a, -x.b, x.k⟩
def sub (x y : Q) : Q := x.add y.neg
def mul (x y : Q) : Q := ⟨x.a * y.a + 2 * (x.b * y.b), x.a * y.b + x.b * y.a, x.k + y.k⟩
def eqv (x y : Q) : Prop := Eqv x.a x.b x.k y.a y.b y.k
def canon (x : Q) : Prop := Canon x.a x.b x.k
def low (x : Q) : Q := ⟨lowA x.a x.b x.k, lowB x.a x.b x.k, lowK x.a x.b x.k⟩
/-- Within the limits. -/
def within (x : Q) : Bool := decide (-131072 ≤ x.a ∧ x.a ≤ 131072 ∧ -131072 ≤ x.b ∧ x.b ≤ 131072 ∧ x.k ≤ 10)
def lim (x : Q) : Option Q := if x.low.within then some x.low else none
def valid (x : Q) : Prop := x.within = true ∧ x.canon

theorem eqv_refl (x : Q) : x.eqv x := ⟨rfl, rfl⟩
theorem eqv_symm {x y : Q} (h : x.eqv y) : y.eqv x := OriM.eqv_symm h
theorem eqv_trans {x y z : Q} (h : x.eqv y) (g : y.eqv z) : x.eqv z := OriM.eqv_trans h g
theorem low_eqv (x : Q) : x.low.eqv x := OriM.low_eqv _ _ _
theorem low_canon (x : Q) : x.low.canon := OriM.low_canon _ _ _
theorem canon_unique {x y : Q} (h : x.eqv y) (c : x.canon) (d : y.canon) : x = y := by
  obtain ⟨p, q, r⟩ := OriM.canon_unique h c d
  cases x; cases y; simp_all
theorem low_of_eqv {x y : Q} (h : x.eqv y) : x.low = y.low :=
  canon_unique (eqv_trans (eqv_trans (low_eqv x) h) (eqv_symm (low_eqv y))) (low_canon x) (low_canon y)
theorem low_of_canon {x : Q} (c : x.canon) : x.low = x := canon_unique (low_eqv x) (low_canon x) c
theorem lim_of_eqv {x y : Q} (h : x.eqv y) : x.lim = y.lim := by unfold lim; rw [low_of_eqv h]
theorem lim_valid {x y : Q} (h : x.lim = some y) : y.valid ∧ y.eqv x := by
  unfold lim at h; split at h
  · rename_i hw; cases h; exact ⟨⟨hw, low_canon x⟩, low_eqv x⟩
  · cases h
theorem lim_of_valid {x y : Q} (v : y.valid) (h : x.eqv y) : x.lim = some y := by
  rw [lim_of_eqv h]; unfold lim; rw [low_of_canon v.2, if_pos v.1]

theorem add_comm (x y : Q) : x.add y = y.add x := by
  unfold add; congr 1 <;> omega
theorem mul_comm (x y : Q) : x.mul y = y.mul x := by
  simp only [mul]; congr 1
  · rw [Int.mul_comm x.a, Int.mul_comm x.b]
  · rw [Int.mul_comm x.a, Int.mul_comm x.b, Int.add_comm]
  · omega

theorem pow_add' (m n : Nat) : (2 : Int) ^ (m + n) = 2 ^ m * 2 ^ n := Int.pow_add ..

theorem add_eqv {x x' y y' : Q} (h : x.eqv x') (g : y.eqv y') : (x.add y).eqv (x'.add y') := by
  obtain ⟨h1, h2⟩ := h
  obtain ⟨g1, g2⟩ := g
  refine ⟨?_, ?_⟩
  · simp only [add, pow_add', Int.add_mul]
    have e1 : x.a * 2 ^ y.k * (2 ^ x'.k * 2 ^ y'.k) = x'.a * 2 ^ y'.k * (2 ^ x.k * 2 ^ y.k) := by
      rw [show x.a * 2 ^ y.k * (2 ^ x'.k * 2 ^ y'.k) = (x.a * 2 ^ x'.k) * (2 ^ y.k * 2 ^ y'.k) from by ac_rfl, h1]; ac_rfl
    have e2 : y.a * 2 ^ x.k * (2 ^ x'.k * 2 ^ y'.k) = y'.a * 2 ^ x'.k * (2 ^ x.k * 2 ^ y.k) := by
      rw [show y.a * 2 ^ x.k * (2 ^ x'.k * 2 ^ y'.k) = (y.a * 2 ^ y'.k) * (2 ^ x.k * 2 ^ x'.k) from by ac_rfl, g1]; ac_rfl
    rw [e1, e2]
  · simp only [add, pow_add', Int.add_mul]
    have e1 : x.b * 2 ^ y.k * (2 ^ x'.k * 2 ^ y'.k) = x'.b * 2 ^ y'.k * (2 ^ x.k * 2 ^ y.k) := by
      rw [show x.b * 2 ^ y.k * (2 ^ x'.k * 2 ^ y'.k) = (x.b * 2 ^ x'.k) * (2 ^ y.k * 2 ^ y'.k) from by ac_rfl, h2]; ac_rfl
    have e2 : y.b * 2 ^ x.k * (2 ^ x'.k * 2 ^ y'.k) = y'.b * 2 ^ x'.k * (2 ^ x.k * 2 ^ y.k) := by
      rw [show y.b * 2 ^ x.k * (2 ^ x'.k * 2 ^ y'.k) = (y.b * 2 ^ y'.k) * (2 ^ x.k * 2 ^ x'.k) from by ac_rfl, g2]; ac_rfl
    rw [e1, e2]

theorem prod4 {p q p' q' u v u' v' : Int} (h : p * u' = p' * u) (g : q * v' = q' * v) : p * q * (u' * v') = p' * q' * (u * v) := by
  rw [show p * q * (u' * v') = (p * u') * (q * v') from by ac_rfl, h, g]; ac_rfl

theorem mul_eqv {x x' y y' : Q} (h : x.eqv x') (g : y.eqv y') : (x.mul y).eqv (x'.mul y') := by
  obtain ⟨h1, h2⟩ := h
  obtain ⟨g1, g2⟩ := g
  refine ⟨?_, ?_⟩
  · simp only [mul, pow_add', Int.add_mul]
    rw [prod4 h1 g1, Int.mul_assoc 2, prod4 h2 g2, ← Int.mul_assoc 2]
  · simp only [mul, pow_add', Int.add_mul]
    rw [prod4 h1 g2, prod4 h2 g1]

theorem neg_eqv {x x' : Q} (h : x.eqv x') : x.neg.eqv x'.neg := by
  obtain ⟨h1, h2⟩ := h
  refine ⟨?_, ?_⟩ <;> simp only [neg, Int.neg_mul] <;> omega

theorem sub_eqv {x x' y y' : Q} (h : x.eqv x') (g : y.eqv y') : (x.sub y).eqv (x'.sub y') := add_eqv h (neg_eqv g)

theorem add_sub_cancel (x y : Q) : ((x.add y).sub y).eqv x := by
  refine ⟨?_, ?_⟩
  all_goals
    simp only [sub, add, neg, pow_add', Int.add_mul, Int.neg_mul]
  · rw [show y.a * 2 ^ x.k * 2 ^ y.k * 2 ^ x.k = y.a * (2 ^ x.k * 2 ^ y.k) * 2 ^ x.k from by ac_rfl]
    rw [show x.a * 2 ^ y.k * 2 ^ y.k * 2 ^ x.k = x.a * (2 ^ x.k * 2 ^ y.k * 2 ^ y.k) from by ac_rfl]
    omega
  · rw [show y.b * 2 ^ x.k * 2 ^ y.k * 2 ^ x.k = y.b * (2 ^ x.k * 2 ^ y.k) * 2 ^ x.k from by ac_rfl]
    rw [show x.b * 2 ^ y.k * 2 ^ y.k * 2 ^ x.k = x.b * (2 ^ x.k * 2 ^ y.k * 2 ^ y.k) from by ac_rfl]
    omega

theorem add_mul_eqv (x y z : Q) : ((x.add y).mul z).eqv ((x.mul z).add (y.mul z)) := by
  refine ⟨?_, ?_⟩
  all_goals
    simp only [add, mul, pow_add', Int.add_mul, Int.mul_add]
    ac_rfl

/-! ### The sign -/

def norm (x : Q) : Int := x.a * x.a - 2 * (x.b * x.b)
/-- The sign of a + b r. -/
def sgn2 (a b : Int) : Int :=
  if a.sign * b.sign ≥ 0 then (a.sign + b.sign).sign else if a * a < 2 * (b * b) then b.sign else a.sign
def sgn (x : Q) : Int := sgn2 x.a x.b

end Q
end OriM
namespace OriM

theorem sq_nonneg (a : Int) : 0 ≤ a * a := by
  rcases Int.le_total 0 a with h | h
  · exact Int.mul_nonneg h h
  · have := Int.mul_nonneg (show 0 ≤ -a by omega) (show 0 ≤ -a by omega)
    rwa [Int.neg_mul_neg] at this

theorem sq_pos {a : Int} (h : a ≠ 0) : 0 < a * a := by
  rcases Int.lt_or_gt_of_ne h with h | h
  · have := Int.mul_pos (show 0 < -a by omega) (show 0 < -a by omega)
    rwa [Int.neg_mul_neg] at this
  · exact Int.mul_pos h h

theorem sq_le {p q : Int} (h0 : 0 ≤ p) (h : p ≤ q) : p * p ≤ q * q := Int.mul_le_mul h h h0 (by omega)
theorem sq_lt {p q : Int} (h0 : 0 ≤ p) (h : p < q) : p * p < q * q := by
  have := sq_le (p := p + 1) (q := q) (by omega) (by omega)
  rw [Int.add_mul, Int.mul_add] at this
  omega

theorem even_of_sq {a : Int} (h : a * a % 2 = 0) : a % 2 = 0 := by
  rcases (show a % 2 = 0 ∨ a % 2 = 1 by omega) with e | e
  · exact e
  · rw [Int.mul_emod, e] at h; simp at h

theorem irrational : ∀ (n : Nat) (a b : Int), a.natAbs ≤ n → a * a = 2 * (b * b) → a = 0 ∧ b = 0
  | 0, a, b, hn, h => by
    have ha : a = 0 := by omega
    subst ha
    refine ⟨rfl, ?_⟩
    by_cases hb : b = 0
    · exact hb
    · have := sq_pos hb; omega
  | n + 1, a, b, hn, h => by
    have e := even_of_sq (a := a) (by omega)
    obtain ⟨c, rfl⟩ : ∃ c, a = 2 * c := ⟨a / 2, by omega⟩
    have h2 : b * b = 2 * (c * c) := by
      have : 2 * c * (2 * c) = 2 * (2 * (c * c)) := by ac_rfl
      omega
    have e2 := even_of_sq (a := b) (by omega)
    obtain ⟨d, rfl⟩ : ∃ d, b = 2 * d := ⟨b / 2, by omega⟩
    have h3 : c * c = 2 * (d * d) := by
      have : 2 * d * (2 * d) = 2 * (2 * (d * d)) := by ac_rfl
      omega
    obtain ⟨x, y⟩ := irrational n c d (by omega) h3
    omega

theorem irr {a b : Int} (h : a * a = 2 * (b * b)) : a = 0 ∧ b = 0 := irrational _ a b (Nat.le_refl _) h

theorem sign_add_of_sq {p q : Int} (h : q * q < p * p) : (p + q).sign = p.sign := by
  rcases Int.lt_trichotomy p 0 with hp | hp | hp
  · rw [Int.sign_eq_neg_one_of_neg hp]
    apply Int.sign_eq_neg_one_of_neg
    apply Int.lt_of_not_ge; intro hc
    have := sq_le (p := -p) (q := q) (by omega) (by omega)
    rw [Int.neg_mul_neg] at this; omega
  · subst hp; have := sq_nonneg q; omega
  · rw [Int.sign_eq_one_of_pos hp]
    apply Int.sign_eq_one_of_pos
    apply Int.lt_of_not_ge; intro hc
    have := sq_le (p := p) (q := -q) (by omega) (by omega)
    rw [Int.neg_mul_neg] at this; omega

namespace Q

theorem sgn2_zero : sgn2 0 0 = 0 := by decide

theorem sgn2_a {a b : Int} (h : 2 * (b * b) < a * a) : sgn2 a b = a.sign := by
  have hb := sq_nonneg b
  unfold sgn2
  rcases Int.lt_trichotomy a 0 with ha | ha | ha
  · rw [Int.sign_eq_neg_one_of_neg ha]
    rcases Int.lt_trichotomy b 0 with hb | hb | hb
    · rw [Int.sign_eq_neg_one_of_neg hb]; rw [if_pos (by decide)]; decide
    · subst hb; rw [if_pos (by decide)]; decide
    · rw [Int.sign_eq_one_of_pos hb, if_neg (by decide), if_neg (by omega)]
  · subst ha; omega
  · rw [Int.sign_eq_one_of_pos ha]
    rcases Int.lt_trichotomy b 0 with hb | hb | hb
    · rw [Int.sign_eq_neg_one_of_neg hb, if_neg (by decide), if_neg (by omega)]
    · subst hb; rw [if_pos (by decide)]; decide
    · rw [Int.sign_eq_one_of_pos hb]; rw [if_pos (by decide)]; decide

theorem sgn2_b {a b : Int} (h : a * a < 2 * (b * b)) : sgn2 a b = b.sign := by
  have ha := sq_nonneg a
  unfold sgn2
  rcases Int.lt_trichotomy b 0 with hb | hb | hb
  · rw [Int.sign_eq_neg_one_of_neg hb]
    rcases Int.lt_trichotomy a 0 with ha | ha | ha
    · rw [Int.sign_eq_neg_one_of_neg ha]; rw [if_pos (by decide)]; decide
    · subst ha; rw [if_pos (by decide)]; decide
    · rw [Int.sign_eq_one_of_pos ha, if_neg (by decide), if_pos h]
  · subst hb; omega
  · rw [Int.sign_eq_one_of_pos hb]
    rcases Int.lt_trichotomy a 0 with ha | ha | ha
    · rw [Int.sign_eq_neg_one_of_neg ha, if_neg (by decide), if_pos h]
    · subst ha; rw [if_pos (by decide)]; decide
    · rw [Int.sign_eq_one_of_pos ha]; rw [if_pos (by decide)]; decide

/-- The three cases. -/
theorem cases2 (a b : Int) : (2 * (b * b) < a * a ∧ sgn2 a b = a.sign) ∨ (a * a < 2 * (b * b) ∧ sgn2 a b = b.sign) ∨ (a = 0 ∧ b = 0 ∧ sgn2 a b = 0) := by
  rcases Int.lt_trichotomy (a * a) (2 * (b * b)) with h | h | h
  · exact .inr (.inl ⟨h, sgn2_b h⟩)
  · obtain ⟨rfl, rfl⟩ := irr h; exact .inr (.inr ⟨rfl, rfl, by decide⟩)
  · exact .inl ⟨h, sgn2_a h⟩

theorem sgn2_scale {c : Int} (hc : 0 < c) (a b : Int) : sgn2 (a * c) (b * c) = sgn2 a b := by
  have cc := Int.mul_pos hc hc
  have e1 : a * c * (a * c) = a * a * (c * c) := by ac_rfl
  have e2 : 2 * (b * c * (b * c)) = 2 * (b * b) * (c * c) := by ac_rfl
  rcases cases2 a b with ⟨h, e⟩ | ⟨h, e⟩ | ⟨rfl, rfl, e⟩
  · rw [e, sgn2_a (by rw [e1, e2]; exact Int.mul_lt_mul_of_pos_right h cc), Int.sign_mul, Int.sign_eq_one_of_pos hc, Int.mul_one]
  · rw [e, sgn2_b (by rw [e1, e2]; exact Int.mul_lt_mul_of_pos_right h cc), Int.sign_mul, Int.sign_eq_one_of_pos hc, Int.mul_one]
  · simp

theorem sgn_eqv {x y : Q} (h : x.eqv y) : x.sgn = y.sgn := by
  unfold sgn
  rw [← sgn2_scale (two_pow_pos y.k) x.a, h.1, h.2, sgn2_scale (two_pow_pos x.k)]

theorem sgn2_neg (a b : Int) : sgn2 (-a) (-b) = -sgn2 a b := by
  rcases cases2 a b with ⟨h, e⟩ | ⟨h, e⟩ | ⟨rfl, rfl, e⟩
  · rw [e, sgn2_a (by rw [Int.neg_mul_neg, Int.neg_mul_neg]; exact h), Int.sign_neg]
  · rw [e, sgn2_b (by rw [Int.neg_mul_neg, Int.neg_mul_neg]; exact h), Int.sign_neg]
  · simp [e]

theorem sgn2_eq_zero {a b : Int} (h : sgn2 a b = 0) : a = 0 ∧ b = 0 := by
  rcases cases2 a b with ⟨g, e⟩ | ⟨g, e⟩ | ⟨rfl, rfl, e⟩
  · have : a = 0 := by rw [e] at h; exact Int.sign_eq_zero_iff_zero.1 h
    subst this; have := sq_nonneg b; omega
  · have : b = 0 := by rw [e] at h; exact Int.sign_eq_zero_iff_zero.1 h
    subst this; have := sq_nonneg a; omega
  · exact ⟨rfl, rfl⟩

theorem mul_lt_mul_sq {p q r s : Int} (hp : 0 ≤ p) (h : p < q) (hr : 0 ≤ r) (g : r < s) : p * r < q * s := by
  have h1 : p * r ≤ p * s := Int.mul_le_mul_of_nonneg_left (by omega) hp
  have h2 : p * s < q * s := Int.mul_lt_mul_of_pos_right h (by omega)
  omega

theorem sgn2_mul (a b c d : Int) : sgn2 (a * c + 2 * (b * d)) (a * d + b * c) = sgn2 a b * sgn2 c d := by
  have sa := sq_nonneg a
  have sb := sq_nonneg b
  have sc := sq_nonneg c
  have sd := sq_nonneg d
  -- the norm of the product
  have hn : (a * c + 2 * (b * d)) * (a * c + 2 * (b * d)) - 2 * ((a * d + b * c) * (a * d + b * c)) = (a * a - 2 * (b * b)) * (c * c - 2 * (d * d)) := by
    simp only [Int.add_mul, Int.mul_add, Int.sub_mul, Int.mul_sub]
    have e1 : a * c * (2 * (b * d)) = 2 * (a * b * (c * d)) := by ac_rfl
    have e2 : 2 * (b * d) * (a * c) = 2 * (a * b * (c * d)) := by ac_rfl
    have e3 : a * d * (b * c) = a * b * (c * d) := by ac_rfl
    have e4 : b * c * (a * d) = a * b * (c * d) := by ac_rfl
    have e5 : a * c * (a * c) = a * a * (c * c) := by ac_rfl
    have e6 : 2 * (b * d) * (2 * (b * d)) = 4 * (b * b * (d * d)) := by rw [show (4 : Int) = 2 * 2 from rfl]; ac_rfl
    have e7 : a * d * (a * d) = a * a * (d * d) := by ac_rfl
    have e8 : b * c * (b * c) = b * b * (c * c) := by ac_rfl
    have e9 : a * a * (2 * (d * d)) = 2 * (a * a * (d * d)) := by ac_rfl
    have e10 : 2 * (b * b) * (c * c) = 2 * (b * b * (c * c)) := by ac_rfl
    have e11 : 2 * (b * b) * (2 * (d * d)) = 4 * (b * b * (d * d)) := by rw [show (4 : Int) = 2 * 2 from rfl]; ac_rfl
    rw [e1, e2, e3, e4, e5, e6, e7, e8, e9, e10, e11]
    omega
  have f1 : a * c * (a * c) = a * a * (c * c) := by ac_rfl
  have f2 : 2 * (b * d) * (2 * (b * d)) = 2 * (b * b) * (2 * (d * d)) := by ac_rfl
  have f3 : a * d * (a * d) = a * a * (d * d) := by ac_rfl
  have f4 : b * c * (b * c) = b * b * (c * c) := by ac_rfl
  rcases cases2 a b with ⟨h, e⟩ | ⟨h, e⟩ | ⟨rfl, rfl, e⟩
  · rcases cases2 c d with ⟨g, k⟩ | ⟨g, k⟩ | ⟨rfl, rfl, k⟩
    · have np := Int.mul_pos (show 0 < a * a - 2 * (b * b) by omega) (show 0 < c * c - 2 * (d * d) by omega)
      rw [sgn2_a (by omega), sign_add_of_sq (by rw [f1, f2]; exact mul_lt_mul_sq (by omega) h (by omega) g), e, k, Int.sign_mul]
    · have np := Int.mul_pos (show 0 < a * a - 2 * (b * b) by omega) (show 0 < 2 * (d * d) - c * c by omega)
      rw [show (2 * (d * d) - c * c) = -(c * c - 2 * (d * d)) from by omega, Int.mul_neg] at np
      rw [sgn2_b (by omega), sign_add_of_sq ?_, e, k, Int.sign_mul]
      rw [f3, f4]
      have := mul_lt_mul_sq (by omega) h sc g
      rw [show 2 * (b * b) * (c * c) = 2 * (b * b * (c * c)) from by ac_rfl, show a * a * (2 * (d * d)) = 2 * (a * a * (d * d)) from by ac_rfl] at this
      omega
    · rw [k]; simp [sgn2_zero]
  · rcases cases2 c d with ⟨g, k⟩ | ⟨g, k⟩ | ⟨rfl, rfl, k⟩
    · have np := Int.mul_pos (show 0 < 2 * (b * b) - a * a by omega) (show 0 < c * c - 2 * (d * d) by omega)
      rw [show (2 * (b * b) - a * a) = -(a * a - 2 * (b * b)) from by omega, Int.neg_mul] at np
      rw [sgn2_b (by omega), Int.add_comm, sign_add_of_sq ?_, e, k, Int.sign_mul]
      rw [f3, f4]
      have := mul_lt_mul_sq sa h (by omega) g
      rw [show a * a * (2 * (d * d)) = 2 * (a * a * (d * d)) from by ac_rfl, show 2 * (b * b) * (c * c) = 2 * (b * b * (c * c)) from by ac_rfl] at this
      omega
    · have np := Int.mul_pos (show 0 < 2 * (b * b) - a * a by omega) (show 0 < 2 * (d * d) - c * c by omega)
      rw [show (2 * (b * b) - a * a) = -(a * a - 2 * (b * b)) from by omega, show (2 * (d * d) - c * c) = -(c * c - 2 * (d * d)) from by omega, Int.neg_mul_neg] at np
      rw [sgn2_a (by omega), Int.add_comm, sign_add_of_sq (by rw [f1, f2]; exact mul_lt_mul_sq sa h sc g), e, k]
      rw [show 2 * (b * d) = (b * d) * 2 from Int.mul_comm .., Int.sign_mul, Int.sign_mul, show Int.sign 2 = 1 from rfl, Int.mul_one]
    · rw [k]; simp [sgn2_zero]
  · rw [e]; simp [sgn2_zero]

theorem sgn_mul (x y : Q) : (x.mul y).sgn = x.sgn * y.sgn := sgn2_mul ..

def cmp (x y : Q) : Int := (x.sub y).sgn

theorem neg_add (x y : Q) : (x.add y).neg = x.neg.add y.neg := by
  unfold neg add; simp only [Int.neg_mul]; congr 1 <;> omega

theorem neg_neg (x : Q) : x.neg.neg = x := by simp [neg]

theorem sgn_neg (x : Q) : x.neg.sgn = -x.sgn := sgn2_neg ..

theorem cmp_anti (x y : Q) : cmp x y = -cmp y x := by
  unfold cmp sub
  rw [← sgn_neg, neg_add, neg_neg, add_comm]

theorem cmp_self (x : Q) : cmp x x = 0 := by have := cmp_anti x x; omega

theorem eq_of_cmp {x y : Q} (hx : x.canon) (hy : y.canon) (h : cmp x y = 0) : x = y := by
  obtain ⟨e1, e2⟩ := sgn2_eq_zero h
  refine canon_unique ⟨?_, ?_⟩ hx hy <;> simp only [sub, add, neg, Int.neg_mul] at e1 e2 <;> omega

theorem cmp_eqv {x x' y y' : Q} (h : x.eqv x') (g : y.eqv y') : cmp x y = cmp x' y' := sgn_eqv (sub_eqv h g)

theorem add_sub_add (x y z : Q) : ((x.add z).sub (y.add z)).eqv (x.sub y) := by
  refine ⟨?_, ?_⟩
  all_goals
    simp only [sub, add, neg, pow_add', Int.add_mul, Int.neg_mul]
  · have e1 : x.a * 2 ^ z.k * (2 ^ y.k * 2 ^ z.k) * (2 ^ x.k * 2 ^ y.k) = x.a * 2 ^ y.k * (2 ^ x.k * 2 ^ z.k * (2 ^ y.k * 2 ^ z.k)) := by ac_rfl
    have e2 : z.a * 2 ^ x.k * (2 ^ y.k * 2 ^ z.k) * (2 ^ x.k * 2 ^ y.k) = z.a * 2 ^ y.k * (2 ^ x.k * 2 ^ z.k) * (2 ^ x.k * 2 ^ y.k) := by ac_rfl
    have e3 : y.a * 2 ^ z.k * (2 ^ x.k * 2 ^ z.k) * (2 ^ x.k * 2 ^ y.k) = y.a * 2 ^ x.k * (2 ^ x.k * 2 ^ z.k * (2 ^ y.k * 2 ^ z.k)) := by ac_rfl
    rw [e1, e2, e3]; omega
  · have e1 : x.b * 2 ^ z.k * (2 ^ y.k * 2 ^ z.k) * (2 ^ x.k * 2 ^ y.k) = x.b * 2 ^ y.k * (2 ^ x.k * 2 ^ z.k * (2 ^ y.k * 2 ^ z.k)) := by ac_rfl
    have e2 : z.b * 2 ^ x.k * (2 ^ y.k * 2 ^ z.k) * (2 ^ x.k * 2 ^ y.k) = z.b * 2 ^ y.k * (2 ^ x.k * 2 ^ z.k) * (2 ^ x.k * 2 ^ y.k) := by ac_rfl
    have e3 : y.b * 2 ^ z.k * (2 ^ x.k * 2 ^ z.k) * (2 ^ x.k * 2 ^ y.k) = y.b * 2 ^ x.k * (2 ^ x.k * 2 ^ z.k * (2 ^ y.k * 2 ^ z.k)) := by ac_rfl
    rw [e1, e2, e3]; omega

end Q
end OriM
namespace OriM
namespace Q

/-! ### Sums, products and quotients as optional results -/
def addN (x y : Q) : Option Q := (x.add y).lim
def subN (x y : Q) : Option Q := (x.sub y).lim
def mulN (x y : Q) : Option Q := (x.mul y).lim

theorem addN_comm (x y : Q) : addN x y = addN y x := by unfold addN; rw [add_comm]
theorem mulN_comm (x y : Q) : mulN x y = mulN y x := by unfold mulN; rw [mul_comm]
theorem subN_addN {x y s : Q} (hx : x.valid) (h : addN x y = some s) : subN s y = some x :=
  lim_of_valid hx (eqv_trans (sub_eqv (lim_valid h).2 (eqv_refl y)) (add_sub_cancel x y))
theorem addN_mulN {x y z s w l r : Q} (hs : addN x y = some s) (hw : mulN s z = some w) (hl : mulN x z = some l) (hr : mulN y z = some r) : addN l r = some w := by
  have es := (lim_valid hs).2
  have ew := (lim_valid hw)
  have el := (lim_valid hl).2
  have er := (lim_valid hr).2
  refine lim_of_valid ew.1 ?_
  refine eqv_trans (add_eqv el er) (eqv_trans (eqv_symm (add_mul_eqv x y z)) ?_)
  exact eqv_symm (eqv_trans ew.2 (mul_eqv es (eqv_refl z)))
theorem sgn_mulN {x y p : Q} (h : mulN x y = some p) : p.sgn = x.sgn * y.sgn := by
  rw [sgn_eqv (lim_valid h).2, sgn_mul]
theorem sgn_subN {x y d : Q} (h : subN x y = some d) : d.sgn = cmp x y := sgn_eqv (lim_valid h).2
theorem cmp_addN {x y z a b : Q} (ha : addN x z = some a) (hb : addN y z = some b) : cmp a b = cmp x y :=
  (sgn_eqv (sub_eqv (lim_valid ha).2 (lim_valid hb).2)).trans (sgn_eqv (add_sub_add x y z))

/-! ### The floor -/
/-- The integer below a + b r, where n is the integer part of |b| r. -/
def floorOf (a b : Int) (k : Nat) (n : Int) : Int := (a + (if b < 0 then -n - 1 else n)) / 2 ^ k

theorem sgn2_le {u m n b : Int} (h0 : 0 ≤ n) (h1 : n * n ≤ 2 * (b * b)) (h2 : 2 * (b * b) < (n + 1) * (n + 1)) (hm : m = if b < 0 then -n - 1 else n) (hu : u ≤ m) : sgn2 u (-b) ≤ 0 := by
  have sb := sq_nonneg b
  rcases cases2 u (-b) with ⟨h, e⟩ | ⟨h, e⟩ | ⟨_, _, e⟩
  · rw [e]; rw [Int.neg_mul_neg] at h
    by_cases hb : b < 0
    · rw [if_pos hb] at hm
      have := Int.sign_eq_neg_one_of_neg (show u < 0 by omega); omega
    · rw [if_neg hb] at hm
      by_cases hp : u ≤ 0
      · rcases Int.lt_or_eq_of_le hp with g | g
        · have := Int.sign_eq_neg_one_of_neg g; omega
        · subst g; decide
      · have := sq_le (p := u) (q := n) (by omega) (by omega); omega
  · rw [e]; rw [Int.neg_mul_neg] at h
    by_cases hb : b < 0
    · rw [if_pos hb] at hm
      have := sq_le (p := n + 1) (q := -u) (by omega) (by omega)
      rw [Int.neg_mul_neg] at this; omega
    · rw [Int.sign_neg]
      by_cases g : b = 0
      · subst g; decide
      · have := Int.sign_eq_one_of_pos (show 0 < b by omega); omega
  · omega

theorem sgn2_pos {v m n b : Int} (h0 : 0 ≤ n) (h1 : n * n ≤ 2 * (b * b)) (h2 : 2 * (b * b) < (n + 1) * (n + 1)) (hm : m = if b < 0 then -n - 1 else n) (hv : m + 1 ≤ v) : sgn2 v (-b) = 1 := by
  have sb := sq_nonneg b
  rcases cases2 v (-b) with ⟨h, e⟩ | ⟨h, e⟩ | ⟨hz, hz', e⟩
  · rw [e]; rw [Int.neg_mul_neg] at h
    by_cases hb : b < 0
    · rw [if_pos hb] at hm
      by_cases hp : 0 < v
      · exact Int.sign_eq_one_of_pos hp
      · have := sq_le (p := -v) (q := n) (by omega) (by omega)
        rw [Int.neg_mul_neg] at this; omega
    · rw [if_neg hb] at hm; exact Int.sign_eq_one_of_pos (by omega)
  · rw [e]; rw [Int.neg_mul_neg] at h
    by_cases hb : b < 0
    · exact Int.sign_eq_one_of_pos (by omega)
    · rw [if_neg hb] at hm
      have := sq_le (p := n + 1) (q := v) (by omega) (by omega); omega
  · exfalso
    have hb : b = 0 := by omega
    subst hb; subst hz
    simp at h1 h2 hm
    omega

theorem floor_low {a b n f : Int} {k : Nat} (h0 : 0 ≤ n) (h1 : n * n ≤ 2 * (b * b)) (h2 : 2 * (b * b) < (n + 1) * (n + 1)) (hf : f = floorOf a b k n) : cmp ⟨f, 0, 0⟩ ⟨a, b, k⟩ ≤ 0 := by
  unfold floorOf at hf
  have := Int.ediv_mul_le (a + (if b < 0 then -n - 1 else n)) (Int.ne_of_gt (two_pow_pos k))
  rw [← hf] at this
  have e : cmp ⟨f, 0, 0⟩ ⟨a, b, k⟩ = sgn2 (f * 2 ^ k - a) (-b) := by
    simp [cmp, sub, add, neg, sgn, Int.sub_eq_add_neg]
  rw [e]
  exact sgn2_le h0 h1 h2 rfl (by omega)

theorem floor_high {a b n f : Int} {k : Nat} (h0 : 0 ≤ n) (h1 : n * n ≤ 2 * (b * b)) (h2 : 2 * (b * b) < (n + 1) * (n + 1)) (hf : f = floorOf a b k n) : cmp ⟨f + 1, 0, 0⟩ ⟨a, b, k⟩ = 1 := by
  unfold floorOf at hf
  have := Int.lt_ediv_add_one_mul_self (a + (if b < 0 then -n - 1 else n)) (two_pow_pos k)
  rw [← hf] at this
  have e : cmp ⟨f + 1, 0, 0⟩ ⟨a, b, k⟩ = sgn2 ((f + 1) * 2 ^ k - a) (-b) := by
    simp [cmp, sub, add, neg, sgn, Int.sub_eq_add_neg]
  rw [e]
  exact sgn2_pos h0 h1 h2 rfl (by omega)

/-- The integer part of a root is one number. -/
theorem root_unique {m n s : Int} (hm : 0 ≤ m) (hn : 0 ≤ n) (h1 : m * m ≤ s) (h2 : s < (m + 1) * (m + 1)) (g1 : n * n ≤ s) (g2 : s < (n + 1) * (n + 1)) : m = n := by
  apply Int.le_antisymm
  · apply Int.le_of_not_gt; intro h; have := sq_le (p := n + 1) (q := m) (by omega) (by omega); omega
  · apply Int.le_of_not_gt; intro h; have := sq_le (p := m + 1) (q := n) (by omega) (by omega); omega

/-! ### The quotient -/
/-- How often 2 divides n, at most f times. -/
def twosOf : Nat → Int → Nat
  | 0, _ => 0
  | f + 1, n => if n % 2 = 0 then twosOf f (n / 2) + 1 else 0

def topA (x y : Q) : Int := x.a * y.a - 2 * (x.b * y.b)
def topB (x y : Q) : Int := x.b * y.a - x.a * y.b
def normOf (y : Q) : Int := y.a * y.a - 2 * (y.b * y.b)

theorem dvd_of_odd {o : Int} (ho : o % 2 = 1 ∨ o % 2 = -1) : ∀ (n : Nat) (a : Int), o ∣ a * 2 ^ n → o ∣ a
  | 0, a, h => by simpa using h
  | n + 1, a, h => by
    apply dvd_of_odd ho n
    obtain ⟨c, hc⟩ := h
    rw [Int.pow_succ, ← Int.mul_assoc] at hc
    have e : c % 2 = 0 := by
      have h2 : (o * c) % 2 = 0 := by rw [← hc]; exact Int.mul_emod_left _ _
      rw [Int.mul_emod] at h2
      rcases (show c % 2 = 0 ∨ c % 2 = 1 by omega) with e | e
      · exact e
      · have o1 : o % 2 = 1 := by omega
        rw [o1, e] at h2; simp at h2
    refine ⟨c / 2, ?_⟩
    have : c = 2 * (c / 2) := by omega
    rw [this] at hc
    have e3 : o * (2 * (c / 2)) = o * (c / 2) * 2 := by ac_rfl
    rw [e3] at hc
    omega

/-- top times the divisor is the dividend times the norm. -/
theorem top_a (x y : Q) : topA x y * y.a + 2 * (topB x y * y.b) = x.a * normOf y := by
  simp only [topA, topB, normOf, Int.sub_mul, Int.mul_sub]
  have e1 : x.a * y.a * y.a = x.a * (y.a * y.a) := by ac_rfl
  have e2 : 2 * (x.b * y.b) * y.a = 2 * (x.b * y.a * y.b) := by ac_rfl
  have e3 : 2 * (x.a * y.b * y.b) = x.a * (2 * (y.b * y.b)) := by ac_rfl
  omega
theorem top_b (x y : Q) : topA x y * y.b + topB x y * y.a = x.b * normOf y := by
  simp only [topA, topB, normOf, Int.sub_mul, Int.mul_sub]
  have e1 : x.a * y.a * y.b = x.a * y.b * y.a := by ac_rfl
  have e2 : 2 * (x.b * y.b) * y.b = x.b * (2 * (y.b * y.b)) := by ac_rfl
  have e3 : x.b * y.a * y.a = x.b * (y.a * y.a) := by ac_rfl
  omega
end Q
end OriM
namespace OriM
namespace Q

theorem twosOf_dvd : ∀ (f : Nat) (n : Int), n = 2 ^ twosOf f n * (n / 2 ^ twosOf f n)
  | 0, n => by simp [twosOf]
  | f + 1, n => by
    unfold twosOf; split
    · rename_i h
      rw [ediv_two_pow_succ, Int.pow_succ, Int.mul_comm _ 2, Int.mul_assoc, ← twosOf_dvd f (n / 2)]
      omega
    · simp

theorem twosOf_odd : ∀ (f : Nat) (n : Int), n ≠ 0 → n.natAbs < 2 ^ f → n / 2 ^ twosOf f n % 2 = 1
  | 0, n, h0, h => by simp at h; omega
  | f + 1, n, h0, h => by
    unfold twosOf; split
    · rename_i h2
      rw [ediv_two_pow_succ]
      exact twosOf_odd f (n / 2) (by omega) (by rw [Nat.pow_succ] at h; omega)
    · rename_i h2; simp; omega

def twosN (y : Q) : Nat := twosOf 64 (normOf y)
def oddN (y : Q) : Int := normOf y / 2 ^ twosN y
/-- The quotient, not in lowest terms. -/
def rawQuot (x y : Q) : Q := ⟨topA x y / oddN y * 2 ^ y.k, topB x y / oddN y * 2 ^ y.k, x.k + twosN y⟩
def quotOk (x y : Q) : Prop := normOf y ≠ 0 ∧ oddN y ∣ topA x y ∧ oddN y ∣ topB x y
instance (x y : Q) : Decidable (quotOk x y) := by unfold quotOk; infer_instance
def divN (x y : Q) : Option Q := if quotOk x y then (rawQuot x y).lim else none

theorem norm_split (y : Q) : normOf y = 2 ^ twosN y * oddN y := twosOf_dvd 64 (normOf y)

theorem norm_bound {y : Q} (h : y.within = true) : (normOf y).natAbs < 2 ^ 64 := by
  simp [within] at h
  obtain ⟨h1, h2, h3, h4, _⟩ := h
  have a1 : y.a * y.a ≤ 17179869184 := by
    by_cases g : 0 ≤ y.a
    · have := sq_le g h2; omega
    · have := sq_le (p := -y.a) (q := 131072) (by omega) (by omega); rw [Int.neg_mul_neg] at this; omega
  have b1 : y.b * y.b ≤ 17179869184 := by
    by_cases g : 0 ≤ y.b
    · have := sq_le g h4; omega
    · have := sq_le (p := -y.b) (q := 131072) (by omega) (by omega); rw [Int.neg_mul_neg] at this; omega
  have := sq_nonneg y.a
  have := sq_nonneg y.b
  unfold normOf
  omega

theorem odd_odd {y : Q} (h : y.within = true) (h0 : normOf y ≠ 0) : oddN y % 2 = 1 := twosOf_odd 64 _ h0 (norm_bound h)

theorem norm_zero {y : Q} (h : normOf y = 0) : y.a = 0 ∧ y.b = 0 := irr (by unfold normOf at h; omega)

theorem divN_mulN {x y q : Q} (hx : x.valid) (hy : y.valid) (h : divN x y = some q) : mulN q y = some x := by
  unfold divN at h; split at h
  · rename_i hq
    obtain ⟨h0, ⟨ta, hta⟩, ⟨tb, htb⟩⟩ := hq
    refine lim_of_valid hx (eqv_trans (mul_eqv (lim_valid h).2 (eqv_refl y)) ?_)
    have ho := odd_odd hy.1 h0
    have o0 : oddN y ≠ 0 := by intro e; rw [e] at ho; simp at ho
    have ns := norm_split y
    have e1 := top_a x y
    have e2 := top_b x y
    have q1 : topA x y / oddN y = ta := by rw [hta]; exact Int.mul_ediv_cancel_left _ o0
    have q2 : topB x y / oddN y = tb := by rw [htb]; exact Int.mul_ediv_cancel_left _ o0
    have f1 : ta * y.a + 2 * (tb * y.b) = x.a * 2 ^ twosN y := by
      apply Int.eq_of_mul_eq_mul_right o0
      rw [show x.a * 2 ^ twosN y * oddN y = x.a * (2 ^ twosN y * oddN y) from by ac_rfl, ← ns, ← e1, hta, htb, Int.add_mul]
      congr 1 <;> ac_rfl
    have f2 : ta * y.b + tb * y.a = x.b * 2 ^ twosN y := by
      apply Int.eq_of_mul_eq_mul_right o0
      rw [show x.b * 2 ^ twosN y * oddN y = x.b * (2 ^ twosN y * oddN y) from by ac_rfl, ← ns, ← e2, hta, htb, Int.add_mul]
      congr 1 <;> ac_rfl
    refine ⟨?_, ?_⟩
    · simp only [mul, rawQuot, q1, q2, pow_add']
      rw [show ta * 2 ^ y.k * y.a + 2 * (tb * 2 ^ y.k * y.b) = (ta * y.a + 2 * (tb * y.b)) * 2 ^ y.k from by rw [Int.add_mul]; congr 1 <;> ac_rfl, f1]
      ac_rfl
    · simp only [mul, rawQuot, q1, q2, pow_add']
      rw [show ta * 2 ^ y.k * y.b + tb * 2 ^ y.k * y.a = (ta * y.b + tb * y.a) * 2 ^ y.k from by rw [Int.add_mul]; congr 1 <;> ac_rfl, f2]
      ac_rfl
  · cases h

theorem mulN_divN {x y p : Q} (hx : x.valid) (hy : y.valid) (h0 : normOf y ≠ 0) (h : mulN x y = some p) : divN p y = some x := by
  obtain ⟨hp, g1, g2⟩ := lim_valid h
  simp only [mul, pow_add'] at g1 g2
  have ho := odd_odd hy.1 h0
  have o0 : oddN y ≠ 0 := by intro e; rw [e] at ho; simp at ho
  have ns := norm_split y
  have t1 : topA p y * 2 ^ (x.k + y.k) = x.a * normOf y * 2 ^ p.k := by
    rw [pow_add']
    simp only [topA, Int.sub_mul]
    rw [show p.a * y.a * (2 ^ x.k * 2 ^ y.k) = p.a * (2 ^ x.k * 2 ^ y.k) * y.a from by ac_rfl, g1,
      show 2 * (p.b * y.b) * (2 ^ x.k * 2 ^ y.k) = 2 * (p.b * (2 ^ x.k * 2 ^ y.k) * y.b) from by ac_rfl, g2]
    simp only [normOf, Int.add_mul, Int.mul_sub, Int.sub_mul, Int.mul_add]
    have a1 : x.a * y.a * 2 ^ p.k * y.a = x.a * (y.a * y.a) * 2 ^ p.k := by ac_rfl
    have a2 : 2 * (x.b * y.b) * 2 ^ p.k * y.a = 2 * (x.b * y.a * 2 ^ p.k * y.b) := by ac_rfl
    have a3 : x.a * (2 * (y.b * y.b)) * 2 ^ p.k = 2 * (x.a * y.b * 2 ^ p.k * y.b) := by ac_rfl
    rw [a1, a2, a3]; omega
  have t2 : topB p y * 2 ^ (x.k + y.k) = x.b * normOf y * 2 ^ p.k := by
    rw [pow_add']
    simp only [topB, Int.sub_mul]
    rw [show p.b * y.a * (2 ^ x.k * 2 ^ y.k) = p.b * (2 ^ x.k * 2 ^ y.k) * y.a from by ac_rfl, g2,
      show p.a * y.b * (2 ^ x.k * 2 ^ y.k) = p.a * (2 ^ x.k * 2 ^ y.k) * y.b from by ac_rfl, g1]
    simp only [normOf, Int.add_mul, Int.mul_sub, Int.sub_mul]
    have a1 : x.a * y.b * 2 ^ p.k * y.a = x.a * y.a * 2 ^ p.k * y.b := by ac_rfl
    have a2 : x.b * y.a * 2 ^ p.k * y.a = x.b * (y.a * y.a) * 2 ^ p.k := by ac_rfl
    have a3 : x.b * (2 * (y.b * y.b)) * 2 ^ p.k = 2 * (x.b * y.b) * 2 ^ p.k * y.b := by ac_rfl
    rw [a1, a2, a3]; omega
  have d1 : oddN y ∣ topA p y := by
    apply dvd_of_odd (.inl ho) (x.k + y.k)
    rw [t1, ns]; exact ⟨x.a * 2 ^ twosN y * 2 ^ p.k, by ac_rfl⟩
  have d2 : oddN y ∣ topB p y := by
    apply dvd_of_odd (.inl ho) (x.k + y.k)
    rw [t2, ns]; exact ⟨x.b * 2 ^ twosN y * 2 ^ p.k, by ac_rfl⟩
  unfold divN
  rw [if_pos ⟨h0, d1, d2⟩]
  apply lim_of_valid hx
  obtain ⟨ta, hta⟩ := d1
  obtain ⟨tb, htb⟩ := d2
  have q1 : topA p y / oddN y = ta := by rw [hta]; exact Int.mul_ediv_cancel_left _ o0
  have q2 : topB p y / oddN y = tb := by rw [htb]; exact Int.mul_ediv_cancel_left _ o0
  rw [hta, ns, pow_add'] at t1
  rw [htb, ns, pow_add'] at t2
  refine ⟨?_, ?_⟩
  · simp only [rawQuot, q1, pow_add']
    apply Int.eq_of_mul_eq_mul_right o0
    rw [show ta * 2 ^ y.k * 2 ^ x.k * oddN y = oddN y * ta * (2 ^ x.k * 2 ^ y.k) from by ac_rfl, t1]; ac_rfl
  · simp only [rawQuot, q2, pow_add']
    apply Int.eq_of_mul_eq_mul_right o0
    rw [show tb * 2 ^ y.k * 2 ^ x.k * oddN y = oddN y * tb * (2 ^ x.k * 2 ^ y.k) from by ac_rfl, t2]; ac_rfl

end Q
end OriM
namespace OriM

open Go.Lib (ctz ctzFrom)

/-- The bits of an integer, as a natural number below 2^f. -/
def bitsOf (f : Nat) (a : Int) : Nat := (a % 2 ^ f).toNat

theorem bitsOf_half (f : Nat) (a : Int) : bitsOf (f + 1) a / 2 = bitsOf f (a / 2) := by
  unfold bitsOf
  have p := two_pow_pos f
  have h1 := Int.emod_nonneg a (b := 2 ^ (f + 1)) (by rw [Int.pow_succ]; omega)
  have h2 := Int.emod_nonneg (a / 2) (b := 2 ^ f) (by omega)
  have e : (a % 2 ^ (f + 1)) / 2 = (a / 2) % 2 ^ f := by
    rw [Int.pow_succ, Int.mul_comm]
    have hd := Int.emod_add_mul_ediv a (2 * 2 ^ f)
    have hd2 := Int.emod_add_mul_ediv (a / 2) (2 ^ f)
    have e1 : a / (2 * 2 ^ f) = a / 2 / 2 ^ f := by rw [Int.ediv_ediv_of_nonneg (by decide)]
    rw [e1] at hd
    have e2 : 2 * 2 ^ f * (a / 2 / 2 ^ f) = 2 * (2 ^ f * (a / 2 / 2 ^ f)) := by ac_rfl
    rw [e2] at hd
    omega
  omega

theorem bitsOf_mod (f : Nat) (a : Int) : bitsOf (f + 1) a % 2 = (a % 2).toNat := by
  unfold bitsOf
  have p := two_pow_pos f
  have h1 := Int.emod_nonneg a (b := 2 ^ (f + 1)) (by rw [Int.pow_succ]; omega)
  have hd := Int.emod_add_mul_ediv a (2 ^ (f + 1))
  rw [Int.pow_succ, Int.mul_comm, Int.mul_assoc] at *
  omega

theorem ctzFrom_zero : ∀ f, ctzFrom f 0 = f
  | 0 => rfl
  | f + 1 => by unfold ctzFrom; simp [ctzFrom_zero f]; omega

theorem ctz_from (f x : Nat) : ctz f x = ctzFrom f x := by
  unfold ctz; split
  · rename_i h; rw [h, ctzFrom_zero]
  · rfl

theorem ctz_twos : ∀ (f k : Nat) (a b : Int), k ≤ f → min k (ctzFrom f (bitsOf f a ||| bitsOf f b)) = twos k a b
  | 0, k, a, b, h => by have : k = 0 := by omega
                        subst this; simp [twos]
  | f + 1, 0, a, b, h => by simp [twos]
  | f + 1, k + 1, a, b, h => by
    unfold ctzFrom twos
    rw [Nat.or_div_two, bitsOf_half, bitsOf_half]
    have hm : (bitsOf (f + 1) a ||| bitsOf (f + 1) b) % 2 = 1 ↔ a % 2 = 1 ∨ b % 2 = 1 := by
      rw [Nat.or_mod_two_eq_one, bitsOf_mod, bitsOf_mod]; omega
    by_cases hc : (bitsOf (f + 1) a ||| bitsOf (f + 1) b) % 2 = 1
    · rw [if_pos hc]
      have := hm.1 hc
      rw [if_neg (by omega)]; simp
    · rw [if_neg hc]
      have : ¬ (a % 2 = 1 ∨ b % 2 = 1) := fun h => hc (hm.2 h)
      rw [if_pos (by omega), ← ctz_twos f k (a / 2) (b / 2) (by omega)]
      omega

/-- min K (trailing zeros of a | b), as the program has it. -/
theorem min_ctz (k : Nat) (a b : Int) (h : k ≤ 64) : min k (ctz 64 (bitsOf 64 a ||| bitsOf 64 b)) = twos k a b := by
  rw [ctz_from]; exact ctz_twos 64 k a b h

theorem ctz_single : ∀ (f : Nat) (a : Int), a ≠ 0 → a.natAbs < 2 ^ f → ctzFrom f (bitsOf f a) = Q.twosOf f a
  | 0, a, h0, h => by simp at h; omega
  | f + 1, a, h0, h => by
    unfold ctzFrom Q.twosOf
    rw [bitsOf_half, bitsOf_mod]
    rcases (show a % 2 = 0 ∨ a % 2 = 1 by omega) with e | e
    · rw [e, if_neg (by decide), if_pos rfl, ctz_single f (a / 2) (by omega) (by rw [Nat.pow_succ] at h; omega)]; omega
    · rw [e]; simp

end OriM
