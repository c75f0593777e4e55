/- Quotients on the grid: by the determinants of two normals, by the squares of the vectors, by 2. -/
import Derived.Test.YthhjkiiggokfkaaDoorGd
namespace OriM

/-- All four parts of p are at most M in size. -/
def Bd (M : Int) (p : P4) : Prop := -M ≤ p.a ∧ p.a ≤ M ∧ -M ≤ p.b ∧ p.b ≤ M ∧ -M ≤ p.c ∧ p.c ≤ M ∧ -M ≤ p.d ∧ p.d ≤ M
def Bd2 (M : Int) (A B : Int) : Prop := -M ≤ A ∧ A ≤ M ∧ -M ≤ B ∧ B ≤ M

/-- A product by c + d r. -/
def mA (c d A B : Int) : Int := A * c + 2 * B * d
def mB (c d A B : Int) : Int := A * d + B * c

/-- c + d r has the norm s 2^t, s = 1 or -1. -/
def Unit2 (c d s : Int) (t : Nat) : Prop := c * c - 2 * (d * d) = s * 2 ^ t ∧ (s = 1 ∨ s = -1) ∧ t ≤ 3 ∧ -4 ≤ c ∧ c ≤ 4 ∧ -4 ≤ d ∧ d ≤ 4
instance (c d s : Int) (t : Nat) : Decidable (Unit2 c d s t) := by unfold Unit2; infer_instance

/-- A', B' is the quotient of A, B by c + d r. -/
def Quot (c d s : Int) (t : Nat) (A B A' B' : Int) : Prop := A' * 2 ^ t = s * (A * c - 2 * (B * d)) ∧ B' * 2 ^ t = s * (B * c - A * d)

/-- The normal of a line's direction, and its determinant with another one. -/
def detA (i j : Nat) : Int := mA (yA (j + 4)) (yB (j + 4)) (xA (i + 4)) (xB (i + 4)) - mA (xA (j + 4)) (xB (j + 4)) (yA (i + 4)) (yB (i + 4))
def detB (i j : Nat) : Int := mB (yA (j + 4)) (yB (j + 4)) (xA (i + 4)) (xB (i + 4)) - mB (xA (j + 4)) (xB (j + 4)) (yA (i + 4)) (yB (i + 4))
def detT (i j : Nat) : Nat := Q.twosOf 8 (detA i j * detA i j - 2 * (detB i j * detB i j))
def detS (i j : Nat) : Int := (detA i j * detA i j - 2 * (detB i j * detB i j)) / 2 ^ detT i j
theorem det_unit : ∀ i, i < 8 → ∀ j, j < 8 → i ≠ j → Unit2 (detA i j) (detB i j) (detS i j) (detT i j) := by decide

/-- The square of the length of a vector. -/
def sqA (i : Nat) : Int := mA (xA i) (xB i) (xA i) (xB i) + mA (yA i) (yB i) (yA i) (yB i)
def sqB (i : Nat) : Int := mB (xA i) (xB i) (xA i) (xB i) + mB (yA i) (yB i) (yA i) (yB i)
def sqT (i : Nat) : Nat := Q.twosOf 8 (sqA i * sqA i - 2 * (sqB i * sqB i))
theorem sq_unit : ∀ i, i < 16 → Unit2 (sqA i) (sqB i) 1 (sqT i) := by decide
theorem two_unit : Unit2 2 0 1 2 := by decide

theorem small_vec : ∀ i, i < 16 → -1 ≤ xA i ∧ xA i ≤ 1 ∧ -1 ≤ xB i ∧ xB i ≤ 1 ∧ -1 ≤ yA i ∧ yA i ≤ 1 ∧ -1 ≤ yB i ∧ yB i ≤ 1 := by decide

theorem prod_le {c A m M : Int} (m0 : 0 ≤ m) (c1 : -m ≤ c) (c2 : c ≤ m) (h1 : -M ≤ A) (h2 : A ≤ M) : -(m * M) ≤ A * c ∧ A * c ≤ m * M := by
  have e : (A * c).natAbs ≤ M.natAbs * m.natAbs := by rw [Int.natAbs_mul]; exact Nat.mul_le_mul (by omega) (by omega)
  have f : ((M.natAbs * m.natAbs : Nat) : Int) = M * m := by rw [Int.natCast_mul]; rw [Int.natAbs_of_nonneg (by omega), Int.natAbs_of_nonneg m0]
  rw [Int.mul_comm m M, ← f]
  omega
theorem mul_bd {c d A B M : Int} (c1 : -1 ≤ c) (c2 : c ≤ 1) (d1 : -1 ≤ d) (d2 : d ≤ 1) (h : Bd2 M A B) : Bd2 (3 * M) (mA c d A B) (mB c d A B) := by
  obtain ⟨a1, a2, b1, b2⟩ := h
  have p := prod_le (by omega) c1 c2 a1 a2
  have q := prod_le (by omega) d1 d2 a1 a2
  have r := prod_le (by omega) c1 c2 b1 b2
  have s := prod_le (by omega) d1 d2 b1 b2
  unfold Bd2 mA mB
  rw [Int.mul_assoc 2 B d]
  omega
theorem dot_bd {d : Nat} (hd : d < 16) {M : Int} {p : P4} (h : Bd M p) : Bd2 (4 * M) (dotA d p) (dotB d p) := by
  obtain ⟨h1, h2, h3, h4, h5, h6, h7, h8⟩ := h
  unfold Bd2
  rcases lt16 hd with rfl | rfl | rfl | rfl | rfl | rfl | rfl | rfl | rfl | rfl | rfl | rfl | rfl | rfl | rfl | rfl <;> simp [dotA, dotB, xA, xB, yA, yB] <;> omega
theorem le_mul_pow {a : Int} {M : Int} (t : Nat) (h1 : -M ≤ a * 2 ^ t) (h2 : a * 2 ^ t ≤ M) : -M ≤ a ∧ a ≤ M := by
  have p := two_pow_pos t
  constructor
  · rcases Int.le_total 0 a with h | h
    · have := Int.mul_nonneg h (Int.le_of_lt p); omega
    · have : a * 2 ^ t ≤ a * 1 := Int.mul_le_mul_of_nonpos_left h (by omega)
      omega
  · rcases Int.le_total 0 a with h | h
    · have : a * 1 ≤ a * 2 ^ t := Int.mul_le_mul_of_nonneg_left (by omega) h
      omega
    · have := Int.mul_nonpos_of_nonpos_of_nonneg h (Int.le_of_lt p); omega
theorem quot_bd {c d s : Int} {t : Nat} {A B A' B' M : Int} (u : Unit2 c d s t) (h : Bd2 M A B) (q : Quot c d s t A B A' B') : Bd2 (12 * M) A' B' := by
  obtain ⟨_, hs, _, c1, c2, d1, d2⟩ := u
  obtain ⟨a1, a2, b1, b2⟩ := h
  obtain ⟨q1, q2⟩ := q
  have p := prod_le (by omega) c1 c2 a1 a2
  have p2 := prod_le (by omega) d1 d2 a1 a2
  have r := prod_le (by omega) c1 c2 b1 b2
  have r2 := prod_le (by omega) d1 d2 b1 b2
  have e1 := le_mul_pow (a := A') (M := 12 * M) t (by rw [q1]; rcases hs with rfl | rfl <;> omega) (by rw [q1]; rcases hs with rfl | rfl <;> omega)
  have e2 := le_mul_pow (a := B') (M := 12 * M) t (by rw [q2]; rcases hs with rfl | rfl <;> omega) (by rw [q2]; rcases hs with rfl | rfl <;> omega)
  exact ⟨e1.1, e1.2, e2.1, e2.2⟩
theorem t_cases {t : Nat} (h : t ≤ 3) : t = 0 ∨ t = 1 ∨ t = 2 ∨ t = 3 := by omega
/-- What is divisible by 8 times m has a quotient divisible by m. -/
theorem quot_ex {c d s : Int} {t : Nat} {A B : Int} (m : Int) (u : Unit2 c d s t) (ha : A % (8 * m) = 0) (hb : B % (8 * m) = 0) : ∃ A' B', Quot c d s t A B A' B' ∧ A' % m = 0 ∧ B' % m = 0 := by
  obtain ⟨_, hs, ht, _⟩ := u
  obtain ⟨x, rfl⟩ := Int.dvd_of_emod_eq_zero ha
  obtain ⟨y, rfl⟩ := Int.dvd_of_emod_eq_zero hb
  obtain ⟨e, he⟩ : ∃ e : Int, (8 : Int) = e * 2 ^ t := ⟨2 ^ (3 - t), by rw [← Int.pow_add, show 3 - t + t = 3 by omega]; rfl⟩
  refine ⟨m * (s * (e * x * c - 2 * (e * y * d))), m * (s * (e * y * c - e * x * d)), ⟨?_, ?_⟩, Int.mul_emod_right .., Int.mul_emod_right ..⟩
  · rw [he]; generalize (2 : Int) ^ t = p at *; grind
  · rw [he]; generalize (2 : Int) ^ t = p at *; grind
theorem quot_one {c d s : Int} {t : Nat} {A B A' B' A'' B'' : Int} (h : Quot c d s t A B A' B') (g : Quot c d s t A B A'' B'') : A' = A'' ∧ B' = B'' := by
  have p := two_pow_pos t
  exact ⟨Int.eq_of_mul_eq_mul_right (Int.ne_of_gt p) (h.1.trans g.1.symm), Int.eq_of_mul_eq_mul_right (Int.ne_of_gt p) (h.2.trans g.2.symm)⟩
/-- A product's quotient is the product of the quotient. -/
theorem quot_mul {c d s : Int} {t : Nat} {A B A' B' : Int} (e f : Int) (h : Quot c d s t A B A' B') : Quot c d s t (mA e f A B) (mB e f A B) (mA e f A' B') (mB e f A' B') := by
  obtain ⟨h1, h2⟩ := h
  unfold Quot mA mB
  generalize (2 : Int) ^ t = p at *
  constructor <;> grind
/-- Over 2^16, the program's division: the parts of the quotient ahead of lowest terms. -/
theorem gr_quot {a b : Int} {k : Nat} {A B A' B' c d s : Int} {t : Nat} (g : Gr a b k A B) (q : Quot c d s t A B A' B') : Gr (s * (a * c - 2 * (b * d))) (s * (b * c - a * d)) (k + t) A' B' := by
  obtain ⟨g1, g2⟩ := g
  obtain ⟨q1, q2⟩ := q
  constructor
  · rw [Int.pow_add, show A' * (2 ^ k * 2 ^ t) = A' * 2 ^ t * 2 ^ k from by ac_rfl, q1]
    generalize (2 : Int) ^ 16 = p at *
    generalize (2 : Int) ^ k = r at *
    grind
  · rw [Int.pow_add, show B' * (2 ^ k * 2 ^ t) = B' * 2 ^ t * 2 ^ k from by ac_rfl, q2]
    generalize (2 : Int) ^ 16 = p at *
    generalize (2 : Int) ^ k = r at *
    grind
end OriM
