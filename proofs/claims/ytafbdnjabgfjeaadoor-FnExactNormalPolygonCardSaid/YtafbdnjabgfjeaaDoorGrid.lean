/- Quotients on the grid: by the determinants of two normals, by the squares of the vectors, by 2. -/
import Derived.Test.YtafbdnjabgfjeaaDoorMath
section
namespace OriM

/-- The number with parts A, B over 2^16, in lowest terms. -/
def gA (A B : Int) : Int := lowA A B 16
def gB (A B : Int) : Int := lowB A B 16
def gK (A B : Int) : Nat := lowK A B 16

/-- a, b over 2^k is A, B over 2^16. -/
def Gr (a b : Int) (k : Nat) (A B : Int) : Prop := Eqv a b k A B 16

theorem gr_low {a b : Int} {k : Nat} {A B : Int} (h : Gr a b k A B) : lowA a b k = gA A B ∧ lowB a b k = gB A B ∧ lowK a b k = gK A B := low_of_eqv h
theorem gr_self (A B : Int) : Gr (gA A B) (gB A B) (gK A B) A B := low_eqv A B 16
theorem g_canon (A B : Int) : Canon (gA A B) (gB A B) (gK A B) := low_canon 16 A B
theorem gK_le (A B : Int) : gK A B ≤ 16 := by unfold gK lowK; omega
theorem gr_of_canon {a b : Int} {k : Nat} {A B : Int} (h : Gr a b k A B) (c : Canon a b k) : a = gA A B ∧ b = gB A B ∧ k = gK A B := by
  obtain ⟨h1, h2, h3⟩ := gr_low h
  obtain ⟨c1, c2, c3⟩ := low_of_canon c
  omega

theorem pow_le16 {k : Nat} (h : k ≤ 16) : ∃ p : Int, p = 2 ^ k ∧ 1 ≤ p ∧ p ≤ 65536 := by
  refine ⟨_, rfl, ?_, ?_⟩
  · have := two_pow_pos k; omega
  · have e : (2 : Int) ^ 16 = 2 ^ k * 2 ^ (16 - k) := pow_split h
    have p1 := two_pow_pos k
    have p2 := two_pow_pos (16 - k)
    have : (2 : Int) ^ k * 1 ≤ 2 ^ k * 2 ^ (16 - k) := Int.mul_le_mul_of_nonneg_left (by omega) (by omega)
    rw [← e] at this
    simpa using this

/-- a is at most A in size: a shifted to the power m, too. -/
theorem shift_le {a A : Int} {k m : Nat} (h : a * 2 ^ 16 = A * 2 ^ k) (hk : k ≤ m) (hm : m ≤ 16) {M : Int} (l : -M ≤ A) (u : A ≤ M) : -M ≤ a * 2 ^ (m - k) ∧ a * 2 ^ (m - k) ≤ M := by
  have e : a * 2 ^ (m - k) * 2 ^ (16 - m) = A := by
    have p := two_pow_pos k
    apply Int.eq_of_mul_eq_mul_right (Int.ne_of_gt p)
    rw [← h, Int.mul_assoc, Int.mul_assoc, ← Int.pow_add, ← Int.pow_add]
    congr 2; omega
  obtain ⟨p, hp, p1, p2⟩ := pow_le16 (k := 16 - m) (by omega)
  rw [← hp] at e
  generalize a * 2 ^ (m - k) = s at *
  subst e
  constructor
  · rcases Int.le_total 0 s with hs | hs
    · have := Int.mul_le_mul_of_nonneg_left p1 hs; have := Int.mul_nonneg hs (show 0 ≤ p by omega); omega
    · have : s * p ≤ s * 1 := Int.mul_le_mul_of_nonpos_left hs p1
      omega
  · rcases Int.le_total 0 s with hs | hs
    · have : s * 1 ≤ s * p := Int.mul_le_mul_of_nonneg_left p1 hs
      omega
    · have : s * p ≤ 0 := Int.mul_nonpos_of_nonpos_of_nonneg hs (by omega)
      omega

theorem shift_zero {a A : Int} {k : Nat} (h : a * 2 ^ 16 = A * 2 ^ k) (hk : k ≤ 16) {M : Int} (l : -M ≤ A) (u : A ≤ M) : -M ≤ a ∧ a ≤ M := by
  have := shift_le (m := k) h (Nat.le_refl _) hk l u
  simpa using this

theorem g_bound {A B M : Int} (h : -M ≤ A ∧ A ≤ M ∧ -M ≤ B ∧ B ≤ M) : -M ≤ gA A B ∧ gA A B ≤ M ∧ -M ≤ gB A B ∧ gB A B ≤ M := by
  have g := gr_self A B
  have a := shift_zero g.1 (gK_le A B) h.1 h.2.1
  have b := shift_zero g.2 (gK_le A B) h.2.2.1 h.2.2.2
  exact ⟨a.1, a.2, b.1, b.2⟩

/-- A sum over the greater power. -/
theorem gr_plus {a b : Int} {k : Nat} {A B : Int} {a' b' : Int} {k' : Nat} {A' B' : Int} {m : Nat} (h : Gr a b k A B) (h' : Gr a' b' k' A' B') (hk : k ≤ m) (hk' : k' ≤ m) :
    Gr (a * 2 ^ (m - k) + a' * 2 ^ (m - k')) (b * 2 ^ (m - k) + b' * 2 ^ (m - k')) m (A + A') (B + B') := by
  have key : ∀ (x X : Int) (j : Nat), x * 2 ^ 16 = X * 2 ^ j → j ≤ m → x * 2 ^ (m - j) * 2 ^ 16 = X * 2 ^ m := by
    intro x X j e hj
    rw [show x * 2 ^ (m - j) * 2 ^ 16 = x * 2 ^ 16 * 2 ^ (m - j) from by ac_rfl, e, Int.mul_assoc, ← Int.pow_add]
    congr 2; omega
  constructor
  · rw [Int.add_mul, Int.add_mul, key _ _ _ h.1 hk, key _ _ _ h'.1 hk']
  · rw [Int.add_mul, Int.add_mul, key _ _ _ h.2 hk, key _ _ _ h'.2 hk']

/-- A product by integers c + d r. -/
theorem gr_times {a b : Int} {k : Nat} {A B : Int} (c d : Int) (h : Gr a b k A B) : Gr (a * c + 2 * b * d) (a * d + b * c) k (A * c + 2 * B * d) (A * d + B * c) := by
  obtain ⟨h1, h2⟩ := h
  constructor
  · generalize (2 : Int) ^ 16 = p at *
    generalize (2 : Int) ^ k = q at *
    grind
  · generalize (2 : Int) ^ 16 = p at *
    generalize (2 : Int) ^ k = q at *
    grind
theorem gr_times' {a b : Int} {k : Nat} {A B : Int} (c d : Int) (h : Gr a b k A B) : Gr (c * a + 2 * d * b) (c * b + d * a) k (A * c + 2 * B * d) (A * d + B * c) := by
  have := gr_times c d h
  rwa [show c * a + 2 * d * b = a * c + 2 * b * d by grind, show c * b + d * a = a * d + b * c by grind]

theorem gr_neg {a b : Int} {k : Nat} {A B : Int} (h : Gr a b k A B) : Gr (-a) (-b) k (-A) (-B) := by
  obtain ⟨h1, h2⟩ := h
  constructor
  · rw [Int.neg_mul, h1, Int.neg_mul]
  · rw [Int.neg_mul, h2, Int.neg_mul]
theorem g_neg (A B : Int) : gA (-A) (-B) = -gA A B ∧ gB (-A) (-B) = -gB A B ∧ gK (-A) (-B) = gK A B := by
  have h := gr_neg (gr_self A B)
  have c : Canon (-gA A B) (-gB A B) (gK A B) := by
    rcases g_canon A B with h | h | h
    · exact .inl h
    · exact .inr (.inl (by omega))
    · exact .inr (.inr (by omega))
  obtain ⟨h1, h2, h3⟩ := gr_of_canon h c
  exact ⟨h1.symm, h2.symm, h3.symm⟩

/-- Halves: the power grows by t. -/
theorem gr_half {a b : Int} {k : Nat} {A B A' B' : Int} (t : Nat) (h : Gr a b k A B) (ha : A = A' * 2 ^ t) (hb : B = B' * 2 ^ t) : Gr a b (k + t) A' B' := by
  obtain ⟨h1, h2⟩ := h
  constructor
  · rw [h1, ha, Int.pow_add]; ac_rfl
  · rw [h2, hb, Int.pow_add]; ac_rfl

/-- A valid number on the grid. -/
def up16 (a : Int) (k : Nat) : Int := a * 2 ^ (16 - k)
theorem gr_up {a b : Int} {k : Nat} (h : k ≤ 16) : Gr a b k (up16 a k) (up16 b k) := by
  unfold up16
  constructor <;> (rw [Int.mul_assoc, ← Int.pow_add]; congr 2; omega)
theorem up16_bound {a : Int} {k : Nat} (h : k ≤ 10) (a1 : -131072 ≤ a) (a2 : a ≤ 131072) : -8589934592 ≤ up16 a k ∧ up16 a k ≤ 8589934592 ∧ up16 a k % 64 = 0 := by
  obtain ⟨p, hp, p1, p2⟩ := pow_le16 (k := 16 - k) (by omega)
  have e : (2 : Int) ^ (16 - k) = 2 ^ (10 - k) * 64 := by rw [show (64 : Int) = 2 ^ 6 from rfl, ← Int.pow_add]; congr 1; omega
  unfold up16
  rw [← hp]
  refine ⟨?_, ?_, ?_⟩
  · have l2 : -131072 * p ≤ a * p := Int.mul_le_mul_of_nonneg_right a1 (by omega)
    omega
  · have l1 : a * p ≤ 131072 * p := Int.mul_le_mul_of_nonneg_right a2 (by omega)
    omega
  · rw [hp, e, ← Int.mul_assoc]; exact Int.mul_emod_left _ _

/-- The sign on the grid. -/
theorem g_sgn (A B : Int) : Q.sgn2 (gA A B) (gB A B) = Q.sgn2 A B :=
  Q.sgn_eqv (x := ⟨gA A B, gB A B, gK A B⟩) (y := ⟨A, B, 16⟩) (gr_self A B)
theorem g_zero {A B : Int} : (gA A B = 0 ∧ gB A B = 0) ↔ (A = 0 ∧ B = 0) := by
  have g := gr_self A B
  have p := two_pow_pos (gK A B)
  constructor
  · rintro ⟨h1, h2⟩
    have g1 := g.1; have g2 := g.2
    rw [h1] at g1; rw [h2] at g2
    constructor
    · rcases Int.mul_eq_zero.1 (g1.symm.trans (Int.zero_mul _)) with h | h
      · exact h
      · omega
    · rcases Int.mul_eq_zero.1 (g2.symm.trans (Int.zero_mul _)) with h | h
      · exact h
      · omega
  · rintro ⟨rfl, rfl⟩
    have g1 := g.1; have g2 := g.2
    simp at g1 g2
    exact ⟨g1, g2⟩
theorem g_inj {A B A' B' : Int} (h : gA A B = gA A' B' ∧ gB A B = gB A' B' ∧ gK A B = gK A' B') : A = A' ∧ B = B' := by
  have g := gr_self A B
  have g' := gr_self A' B'
  obtain ⟨h1, h2, h3⟩ := h
  rw [← h1, ← h2, ← h3] at g'
  have p := two_pow_pos (gK A B)
  exact ⟨Int.eq_of_mul_eq_mul_right (Int.ne_of_gt p) (g.1.symm.trans g'.1), Int.eq_of_mul_eq_mul_right (Int.ne_of_gt p) (g.2.symm.trans g'.2)⟩
end OriM
end
section
namespace OriM

/-- The vector of a direction: x = xA + xB r, y = yA + yB r. -/
def xA : Nat → Int
  | 0 => 1 | 1 => 1 | 2 => 1 | 3 => -1 | 4 => 0 | 5 => 1 | 6 => -1 | 7 => -1
  | 8 => -1 | 9 => -1 | 10 => -1 | 11 => 1 | 12 => 0 | 13 => -1 | 14 => 1 | 15 => 1 | _ => 0
def xB : Nat → Int
  | 3 => 1 | 5 => -1 | 11 => -1 | 13 => 1 | _ => 0
def yA : Nat → Int
  | 0 => 0 | 1 => -1 | 2 => 1 | 3 => 1 | 4 => 1 | 5 => 1 | 6 => 1 | 7 => -1
  | 8 => 0 | 9 => 1 | 10 => -1 | 11 => -1 | 12 => -1 | 13 => -1 | 14 => -1 | 15 => 1 | _ => 0
def yB : Nat → Int
  | 1 => 1 | 7 => 1 | 9 => -1 | 15 => -1 | _ => 0

theorem lt16 {d : Nat} (h : d < 16) : d = 0 ∨ d = 1 ∨ d = 2 ∨ d = 3 ∨ d = 4 ∨ d = 5 ∨ d = 6 ∨ d = 7 ∨ d = 8 ∨ d = 9 ∨ d = 10 ∨ d = 11 ∨ d = 12 ∨ d = 13 ∨ d = 14 ∨ d = 15 := by omega
theorem lt8 {d : Nat} (h : d < 8) : d = 0 ∨ d = 1 ∨ d = 2 ∨ d = 3 ∨ d = 4 ∨ d = 5 ∨ d = 6 ∨ d = 7 := by omega

/-- A point on the grid. -/
structure P4 where
  a : Int
  b : Int
  c : Int
  d : Int
deriving DecidableEq

namespace P4
def add (p q : P4) : P4 := ⟨p.a + q.a, p.b + q.b, p.c + q.c, p.d + q.d⟩
def sub (p q : P4) : P4 := ⟨p.a - q.a, p.b - q.b, p.c - q.c, p.d - q.d⟩
end P4

/-- The scalar product with the vector of d. -/
def dotA (d : Nat) (p : P4) : Int := (p.a * xA d + 2 * p.b * xB d) + (p.c * yA d + 2 * p.d * yB d)
def dotB (d : Nat) (p : P4) : Int := (p.a * xB d + p.b * xA d) + (p.c * yB d + p.d * yA d)
/-- The vector product of the vector of d with p. -/
def crossA (d : Nat) (p : P4) : Int := (p.c * xA d + 2 * p.d * xB d) - (p.a * yA d + 2 * p.b * yB d)
def crossB (d : Nat) (p : P4) : Int := (p.c * xB d + p.d * xA d) - (p.a * yB d + p.b * yA d)

theorem cross_dot {d : Nat} (h : d < 8) (p : P4) : crossA d p = dotA (d + 4) p ∧ crossB d p = dotB (d + 4) p := by
  rcases lt8 h with rfl | rfl | rfl | rfl | rfl | rfl | rfl | rfl <;> simp [crossA, crossB, dotA, dotB, xA, xB, yA, yB] <;> omega

theorem dot_opp {d : Nat} (h : d < 8) (p : P4) : dotA (d + 8) p = -dotA d p ∧ dotB (d + 8) p = -dotB d p := by
  rcases lt8 h with rfl | rfl | rfl | rfl | rfl | rfl | rfl | rfl <;> simp [dotA, dotB, xA, xB, yA, yB] <;> omega

/-- p lies along the directions d and d + 8. -/
def Along (d : Nat) (p : P4) : Prop := dotA (d + 4) p = 0 ∧ dotB (d + 4) p = 0
instance (d : Nat) (p : P4) : Decidable (Along d p) := by unfold Along; infer_instance
def zero (p : P4) : Prop := p.a = 0 ∧ p.b = 0 ∧ p.c = 0 ∧ p.d = 0
instance (p : P4) : Decidable (zero p) := by unfold zero; infer_instance

theorem along_one {d e : Nat} (hd : d < 8) (he : e < 8) {p : P4} (h : Along d p) (g : Along e p) : d = e ∨ zero p := by
  obtain ⟨h1, h2⟩ := h
  obtain ⟨g1, g2⟩ := g
  rcases lt8 hd with rfl | rfl | rfl | rfl | rfl | rfl | rfl | rfl <;> rcases lt8 he with rfl | rfl | rfl | rfl | rfl | rfl | rfl | rfl <;>
    simp [dotA, dotB, xA, xB, yA, yB, zero] at * <;> omega

theorem along_dot {d : Nat} (hd : d < 8) {p : P4} (h : Along d p) (g : dotA d p = 0 ∧ dotB d p = 0) : zero p := by
  obtain ⟨h1, h2⟩ := h
  obtain ⟨g1, g2⟩ := g
  rcases lt8 hd with rfl | rfl | rfl | rfl | rfl | rfl | rfl | rfl <;> simp [dotA, dotB, xA, xB, yA, yB, zero] at * <;> omega

theorem along_opp {d : Nat} (hd : d < 8) (p : P4) : (dotA ((d + 8 + 4) % 16) p = 0 ∧ dotB ((d + 8 + 4) % 16) p = 0) ↔ Along d p := by
  unfold Along
  rcases lt8 hd with rfl | rfl | rfl | rfl | rfl | rfl | rfl | rfl <;> simp [dotA, dotB, xA, xB, yA, yB] <;> omega

def sgD (d : Nat) (p : P4) : Int := Q.sgn2 (dotA d p) (dotB d p)
theorem sgD_opp {d : Nat} (hd : d < 8) (p : P4) : sgD (d + 8) p = -sgD d p := by
  unfold sgD; rw [(dot_opp hd p).1, (dot_opp hd p).2, Q.sgn2_neg]
theorem sgn2_zero' (a b : Int) : Q.sgn2 a b = 0 ↔ (a = 0 ∧ b = 0) := ⟨Q.sgn2_eq_zero, by rintro ⟨rfl, rfl⟩; exact Q.sgn2_zero⟩
theorem sgn2_range (a b : Int) : Q.sgn2 a b = -1 ∨ Q.sgn2 a b = 0 ∨ Q.sgn2 a b = 1 := by
  have hs : ∀ x : Int, x.sign = -1 ∨ x.sign = 0 ∨ x.sign = 1 := fun x => by
    rcases Int.lt_trichotomy x 0 with h | h | h
    · exact .inl (Int.sign_eq_neg_one_of_neg h)
    · subst h; exact .inr (.inl rfl)
    · exact .inr (.inr (Int.sign_eq_one_of_pos h))
  rcases Q.cases2 a b with ⟨_, e⟩ | ⟨_, e⟩ | ⟨_, _, e⟩
  · rw [e]; exact hs _
  · rw [e]; exact hs _
  · rw [e]; exact .inr (.inl rfl)

/-- The direction of a vector: the first of the eight lines along which it lies, either way; -1 if there is none. From d on, n lines to go. -/
def dirFrom (p : P4) : Nat → Nat → Int
  | 0, _ => -1
  | n + 1, d => if Along d p then (if 0 < sgD d p then (d : Int) else (d : Int) + 8) else dirFrom p n (d + 1)
def dirOf (p : P4) : Int := if zero p then -1 else dirFrom p 8 0
/-- As the model looks: the first of sixteen directions that fits. -/
def dirFrom16 (p : P4) : Nat → Nat → Int
  | 0, _ => -1
  | n + 1, d => if (dotA ((d + 4) % 16) p = 0 ∧ dotB ((d + 4) % 16) p = 0) ∧ 0 < sgD d p then (d : Int) else dirFrom16 p n (d + 1)

theorem from16_high {p : P4} : ∀ (n d : Nat), d + n ≤ 16 → 8 ≤ d → (∀ e, e < 8 → d ≤ e + 8 → e + 8 < d + n → ¬ (Along e p ∧ sgD e p < 0)) → dirFrom16 p n d = -1
  | 0, _, _, _, _ => rfl
  | n + 1, d, h, h8, hn => by
    unfold dirFrom16
    rw [if_neg, from16_high n (d + 1) (by omega) (by omega) (fun e he h1 h2 => hn e he (by omega) (by omega))]
    obtain ⟨e, rfl⟩ : ∃ e, d = e + 8 := ⟨d - 8, by omega⟩
    rw [along_opp (by omega), sgD_opp (by omega)]
    intro hc
    exact hn e (by omega) (by omega) (by omega) ⟨hc.1, by omega⟩

theorem from16_at {p : P4} {d : Nat} (hd : d < 8) (h : Along d p) (hs : sgD d p < 0) : ∀ (n e : Nat), e + n = 16 → 8 ≤ e → e ≤ d + 8 → (∀ x, x < 8 → Along x p → x = d) → dirFrom16 p n e = (d : Int) + 8
  | 0, e, h1, h2, h3, _ => by omega
  | n + 1, e, h1, h2, h3, hu => by
    unfold dirFrom16
    obtain ⟨x, rfl⟩ : ∃ x, e = x + 8 := ⟨e - 8, by omega⟩
    by_cases hx : x = d
    · subst hx
      rw [if_pos ⟨(along_opp hd p).2 h, by rw [sgD_opp hd]; omega⟩]; simp
    · rw [if_neg (fun hc => hx (hu x (by omega) ((along_opp (by omega) p).1 hc.1)))]
      exact from16_at hd h hs n (x + 8 + 1) (by omega) (by omega) (by omega) hu

theorem mod4 {d : Nat} (h : d < 8) : (d + 4) % 16 = d + 4 := by omega

/-- Both ways of looking agree. -/
theorem dir_agree (p : P4) : dirFrom16 p 16 0 = dirOf p := by
  unfold dirOf
  by_cases hz : zero p
  · rw [if_pos hz]
    have hsg : ∀ d, sgD d p = 0 := fun d => by
      obtain ⟨h1, h2, h3, h4⟩ := hz
      unfold sgD
      rw [sgn2_zero']; simp [dotA, dotB, h1, h2, h3, h4]
    have : ∀ n d, dirFrom16 p n d = -1 := by
      intro n
      induction n with
      | zero => intro d; rfl
      | succ n ih => intro d; unfold dirFrom16; rw [if_neg (by rw [hsg]; omega), ih]
    exact this _ _
  · rw [if_neg hz]
    have hu : ∀ d e, d < 8 → e < 8 → Along d p → Along e p → d = e := fun d e hd he h g => (along_one hd he h g).resolve_right hz
    have hs : ∀ d, d < 8 → Along d p → sgD d p ≠ 0 := fun d hd h hc => hz (along_dot hd h ((sgn2_zero' _ _).1 hc))
    have key : ∀ (n d : Nat), d + n = 8 → (∀ e, e < d → ¬ Along e p) → dirFrom16 p (n + 8) d = dirFrom p n d := by
      intro n
      induction n with
      | zero =>
        intro d hd hn
        obtain rfl : d = 8 := by omega
        exact from16_high 8 8 (by omega) (by omega) (fun e he _ _ hc => hn e he hc.1)
      | succ n ih =>
        intro d hd hn
        rw [show n + 1 + 8 = (n + 8) + 1 by omega]
        unfold dirFrom16 dirFrom
        have hd8 : d < 8 := by omega
        rw [mod4 hd8]
        by_cases ha : Along d p
        · rw [if_pos ha]
          by_cases hp : 0 < sgD d p
          · rw [if_pos hp, if_pos ⟨ha, hp⟩]
          · rw [if_neg hp, if_neg (fun hc => hp hc.2)]
            have hneg : sgD d p < 0 := by have := hs d hd8 ha; omega
            have skip : ∀ (m e : Nat), d < e → e + m = 16 → e ≤ 8 → dirFrom16 p m e = dirFrom16 p 8 8 := by
              intro m
              induction m with
              | zero => intro e h1 h2 h3; omega
              | succ m ihm =>
                intro e h1 h2 h3
                by_cases he : e = 8
                · subst he; rw [show m + 1 = 8 by omega]
                · conv => lhs; unfold dirFrom16
                  rw [mod4 (by omega), if_neg (fun hc => by have := hu d e hd8 (by omega) ha hc.1; omega)]
                  exact ihm (e + 1) (by omega) (by omega) (by omega)
            rw [skip (n + 8) (d + 1) (by omega) (by omega) (by omega)]
            exact from16_at hd8 ha hneg 8 8 (by omega) (by omega) (by omega) (fun x hx hax => hu x d hx hd8 hax ha)
        · rw [if_neg ha, if_neg (fun hc => ha hc.1)]
          exact ih (d + 1) (by omega) (fun e he => by
            by_cases h : e = d
            · subst h; exact ha
            · exact hn e (by omega))
    exact key 8 0 (by omega) (fun e he => by omega)

theorem dirFrom_range (p : P4) : ∀ n d, d + n ≤ 8 → dirFrom p n d = -1 ∨ (0 ≤ dirFrom p n d ∧ dirFrom p n d ≤ 15)
  | 0, _, _ => .inl rfl
  | n + 1, d, h => by
    unfold dirFrom
    split
    · split <;> (right; omega)
    · exact dirFrom_range p n (d + 1) (by omega)
theorem dirOf_range (p : P4) : dirOf p = -1 ∨ (0 ≤ dirOf p ∧ dirOf p ≤ 15) := by
  unfold dirOf; split
  · exact .inl rfl
  · exact dirFrom_range p 8 0 (by omega)
end OriM
end
section
namespace OriM

/-- All four parts of p are at most M in size. -/
def Bd (M : Int) (p : P4) : Prop := -M ≤ p.a ∧ p.a ≤ M ∧ -M ≤ p.b ∧ p.b ≤ M ∧ -M ≤ p.c ∧ p.c ≤ M ∧ -M ≤ p.d ∧ p.d ≤ M
def Bd2 (M : Int) (A B : Int) : Prop := -M ≤ A ∧ A ≤ M ∧ -M ≤ B ∧ B ≤ M

/-- A product by c + d r. -/
def mA (c d A B : Int) : Int := A * c + 2 * B * d
def mB (c d A B : Int) : Int := A * d + B * c

/-- c + d r has the norm s 2^t, s = 1 or -1. -/
def Unit2 (c d s : Int) (t : Nat) : Prop := c * c - 2 * (d * d) = s * 2 ^ t ∧ (s = 1 ∨ s = -1) ∧ t ≤ 3 ∧ -4 ≤ c ∧ c ≤ 4 ∧ -4 ≤ d ∧ d ≤ 4
instance (c d s : Int) (t : Nat) : Decidable (Unit2 c d s t) := by unfold Unit2; infer_instance

/-- A', B' is the quotient of A, B by c + d r. -/
def Quot (c d s : Int) (t : Nat) (A B A' B' : Int) : Prop := A' * 2 ^ t = s * (A * c - 2 * (B * d)) ∧ B' * 2 ^ t = s * (B * c - A * d)

/-- The normal of a line's direction, and its determinant with another one. -/
def detA (i j : Nat) : Int := mA (yA (j + 4)) (yB (j + 4)) (xA (i + 4)) (xB (i + 4)) - mA (xA (j + 4)) (xB (j + 4)) (yA (i + 4)) (yB (i + 4))
def detB (i j : Nat) : Int := mB (yA (j + 4)) (yB (j + 4)) (xA (i + 4)) (xB (i + 4)) - mB (xA (j + 4)) (xB (j + 4)) (yA (i + 4)) (yB (i + 4))
def detT (i j : Nat) : Nat := Q.twosOf 8 (detA i j * detA i j - 2 * (detB i j * detB i j))
def detS (i j : Nat) : Int := (detA i j * detA i j - 2 * (detB i j * detB i j)) / 2 ^ detT i j
theorem det_unit : ∀ i, i < 8 → ∀ j, j < 8 → i ≠ j → Unit2 (detA i j) (detB i j) (detS i j) (detT i j) := by decide

/-- The square of the length of a vector. -/
def sqA (i : Nat) : Int := mA (xA i) (xB i) (xA i) (xB i) + mA (yA i) (yB i) (yA i) (yB i)
def sqB (i : Nat) : Int := mB (xA i) (xB i) (xA i) (xB i) + mB (yA i) (yB i) (yA i) (yB i)
def sqT (i : Nat) : Nat := Q.twosOf 8 (sqA i * sqA i - 2 * (sqB i * sqB i))
theorem sq_unit : ∀ i, i < 16 → Unit2 (sqA i) (sqB i) 1 (sqT i) := by decide
theorem two_unit : Unit2 2 0 1 2 := by decide

theorem small_vec : ∀ i, i < 16 → -1 ≤ xA i ∧ xA i ≤ 1 ∧ -1 ≤ xB i ∧ xB i ≤ 1 ∧ -1 ≤ yA i ∧ yA i ≤ 1 ∧ -1 ≤ yB i ∧ yB i ≤ 1 := by decide

theorem prod_le {c A m M : Int} (m0 : 0 ≤ m) (c1 : -m ≤ c) (c2 : c ≤ m) (h1 : -M ≤ A) (h2 : A ≤ M) : -(m * M) ≤ A * c ∧ A * c ≤ m * M := by
  have e : (A * c).natAbs ≤ M.natAbs * m.natAbs := by rw [Int.natAbs_mul]; exact Nat.mul_le_mul (by omega) (by omega)
  have f : ((M.natAbs * m.natAbs : Nat) : Int) = M * m := by rw [Int.natCast_mul]; rw [Int.natAbs_of_nonneg (by omega), Int.natAbs_of_nonneg m0]
  rw [Int.mul_comm m M, ← f]
  omega
theorem mul_bd {c d A B M : Int} (c1 : -1 ≤ c) (c2 : c ≤ 1) (d1 : -1 ≤ d) (d2 : d ≤ 1) (h : Bd2 M A B) : Bd2 (3 * M) (mA c d A B) (mB c d A B) := by
  obtain ⟨a1, a2, b1, b2⟩ := h
  have p := prod_le (by omega) c1 c2 a1 a2
  have q := prod_le (by omega) d1 d2 a1 a2
  have r := prod_le (by omega) c1 c2 b1 b2
  have s := prod_le (by omega) d1 d2 b1 b2
  unfold Bd2 mA mB
  rw [Int.mul_assoc 2 B d]
  omega
theorem dot_bd {d : Nat} (hd : d < 16) {M : Int} {p : P4} (h : Bd M p) : Bd2 (4 * M) (dotA d p) (dotB d p) := by
  obtain ⟨h1, h2, h3, h4, h5, h6, h7, h8⟩ := h
  unfold Bd2
  rcases lt16 hd with rfl | rfl | rfl | rfl | rfl | rfl | rfl | rfl | rfl | rfl | rfl | rfl | rfl | rfl | rfl | rfl <;> simp [dotA, dotB, xA, xB, yA, yB] <;> omega
theorem le_mul_pow {a : Int} {M : Int} (t : Nat) (h1 : -M ≤ a * 2 ^ t) (h2 : a * 2 ^ t ≤ M) : -M ≤ a ∧ a ≤ M := by
  have p := two_pow_pos t
  constructor
  · rcases Int.le_total 0 a with h | h
    · have := Int.mul_nonneg h (Int.le_of_lt p); omega
    · have : a * 2 ^ t ≤ a * 1 := Int.mul_le_mul_of_nonpos_left h (by omega)
      omega
  · rcases Int.le_total 0 a with h | h
    · have : a * 1 ≤ a * 2 ^ t := Int.mul_le_mul_of_nonneg_left (by omega) h
      omega
    · have := Int.mul_nonpos_of_nonpos_of_nonneg h (Int.le_of_lt p); omega
theorem quot_bd {c d s : Int} {t : Nat} {A B A' B' M : Int} (u : Unit2 c d s t) (h : Bd2 M A B) (q : Quot c d s t A B A' B') : Bd2 (12 * M) A' B' := by
  obtain ⟨_, hs, _, c1, c2, d1, d2⟩ := u
  obtain ⟨a1, a2, b1, b2⟩ := h
  obtain ⟨q1, q2⟩ := q
  have p := prod_le (by omega) c1 c2 a1 a2
  have p2 := prod_le (by omega) d1 d2 a1 a2
  have r := prod_le (by omega) c1 c2 b1 b2
  have r2 := prod_le (by omega) d1 d2 b1 b2
  have e1 := le_mul_pow (a := A') (M := 12 * M) t (by rw [q1]; rcases hs with rfl | rfl <;> omega) (by rw [q1]; rcases hs with rfl | rfl <;> omega)
  have e2 := le_mul_pow (a := B') (M := 12 * M) t (by rw [q2]; rcases hs with rfl | rfl <;> omega) (by rw [q2]; rcases hs with rfl | rfl <;> omega)
  exact ⟨e1.1, e1.2, e2.1, e2.2⟩
theorem t_cases {t : Nat} (h : t ≤ 3) : t = 0 ∨ t = 1 ∨ t = 2 ∨ t = 3 := by omega
/-- What is divisible by 8 times m has a quotient divisible by m. -/
theorem quot_ex {c d s : Int} {t : Nat} {A B : Int} (m : Int) (u : Unit2 c d s t) (ha : A % (8 * m) = 0) (hb : B % (8 * m) = 0) : ∃ A' B', Quot c d s t A B A' B' ∧ A' % m = 0 ∧ B' % m = 0 := by
  obtain ⟨_, hs, ht, _⟩ := u
  obtain ⟨x, rfl⟩ := Int.dvd_of_emod_eq_zero ha
  obtain ⟨y, rfl⟩ := Int.dvd_of_emod_eq_zero hb
  obtain ⟨e, he⟩ : ∃ e : Int, (8 : Int) = e * 2 ^ t := ⟨2 ^ (3 - t), by rw [← Int.pow_add, show 3 - t + t = 3 by omega]; rfl⟩
  refine ⟨m * (s * (e * x * c - 2 * (e * y * d))), m * (s * (e * y * c - e * x * d)), ⟨?_, ?_⟩, Int.mul_emod_right .., Int.mul_emod_right ..⟩
  · rw [he]; generalize (2 : Int) ^ t = p at *; grind
  · rw [he]; generalize (2 : Int) ^ t = p at *; grind
theorem quot_one {c d s : Int} {t : Nat} {A B A' B' A'' B'' : Int} (h : Quot c d s t A B A' B') (g : Quot c d s t A B A'' B'') : A' = A'' ∧ B' = B'' := by
  have p := two_pow_pos t
  exact ⟨Int.eq_of_mul_eq_mul_right (Int.ne_of_gt p) (h.1.trans g.1.symm), Int.eq_of_mul_eq_mul_right (Int.ne_of_gt p) (h.2.trans g.2.symm)⟩
/-- A product's quotient is the product of the quotient. -/
theorem quot_mul {c d s : Int} {t : Nat} {A B A' B' : Int} (e f : Int) (h : Quot c d s t A B A' B') : Quot c d s t (mA e f A B) (mB e f A B) (mA e f A' B') (mB e f A' B') := by
  obtain ⟨h1, h2⟩ := h
  unfold Quot mA mB
  generalize (2 : Int) ^ t = p at *
  constructor <;> grind
/-- Over 2^16, the program's division: the parts of the quotient ahead of lowest terms. -/
theorem gr_quot {a b : Int} {k : Nat} {A B A' B' c d s : Int} {t : Nat} (g : Gr a b k A B) (q : Quot c d s t A B A' B') : Gr (s * (a * c - 2 * (b * d))) (s * (b * c - a * d)) (k + t) A' B' := by
  obtain ⟨g1, g2⟩ := g
  obtain ⟨q1, q2⟩ := q
  constructor
  · rw [Int.pow_add, show A' * (2 ^ k * 2 ^ t) = A' * 2 ^ t * 2 ^ k from by ac_rfl, q1]
    generalize (2 : Int) ^ 16 = p at *
    generalize (2 : Int) ^ k = r at *
    grind
  · rw [Int.pow_add, show B' * (2 ^ k * 2 ^ t) = B' * 2 ^ t * 2 ^ k from by ac_rfl, q2]
    generalize (2 : Int) ^ 16 = p at *
    generalize (2 : Int) ^ k = r at *
    grind
end OriM
end
