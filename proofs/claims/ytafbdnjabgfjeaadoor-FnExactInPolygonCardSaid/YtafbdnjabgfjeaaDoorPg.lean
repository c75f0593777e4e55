/- Closed lines that turn once around: no corner comes twice. (Of no program: plane geometry over Z[r].) -/
import Derived.Test.YtafbdnjabgfjeaaDoorGrid
namespace Go.Proofs.YtafbdnjabgfjeaaDoor
open OriM

/-! ### Sums of positive numbers -/
theorem two_lt {a b c d : Int} (ha : 0 < a) (hc : 0 < c) (h : 2 * (b * b) < a * a) (g : 2 * (d * d) < c * c) : 2 * (b * d) < a * c := by
  rcases Int.lt_or_le (2 * (b * d)) (a * c) with hlt | hle
  · exact hlt
  · exfalso
    have h0 := Int.mul_pos ha hc
    have h1 : (a * c) * (a * c) ≤ (2 * (b * d)) * (2 * (b * d)) := Int.mul_le_mul hle hle (by omega) (by omega)
    have h2 : (2 * (b * b)) * (2 * (d * d)) ≤ (2 * (b * b)) * (c * c) := Int.mul_le_mul_of_nonneg_left (by omega) (by have := sq_nonneg b; omega)
    have h3 : (2 * (b * b)) * (c * c) < (a * a) * (c * c) := Int.mul_lt_mul_of_pos_right h (Int.mul_pos hc hc)
    have e1 : (a * c) * (a * c) = (a * a) * (c * c) := by grind
    have e2 : (2 * (b * d)) * (2 * (b * d)) = (2 * (b * b)) * (2 * (d * d)) := by grind
    omega
theorem two_lt' {a b c d : Int} (hb : 0 < b) (hd : 0 < d) (h : a * a < 2 * (b * b)) (g : c * c < 2 * (d * d)) : a * c < 2 * (b * d) := by
  rcases Int.lt_or_le (a * c) (2 * (b * d)) with hlt | hle
  · exact hlt
  · exfalso
    have h0 := Int.mul_pos hb hd
    have h1 : (2 * (b * d)) * (2 * (b * d)) ≤ (a * c) * (a * c) := Int.mul_le_mul hle hle (by omega) (by omega)
    have h2 : (a * a) * (c * c) ≤ (a * a) * (2 * (d * d)) := Int.mul_le_mul_of_nonneg_left (by omega) (sq_nonneg a)
    have hd2 := Int.mul_pos hd hd
    have h3 : (a * a) * (2 * (d * d)) < (2 * (b * b)) * (2 * (d * d)) := Int.mul_lt_mul_of_pos_right h (by omega)
    have e1 : (a * c) * (a * c) = (a * a) * (c * c) := by grind
    have e2 : (2 * (b * d)) * (2 * (b * d)) = (2 * (b * b)) * (2 * (d * d)) := by grind
    omega
theorem add_aa {a b c d : Int} (ha : 0 < a) (hc : 0 < c) (h : 2 * (b * b) < a * a) (g : 2 * (d * d) < c * c) : Q.sgn2 (a + c) (b + d) = 1 := by
  have k := two_lt ha hc h g
  have e1 : (a + c) * (a + c) = a * a + c * c + 2 * (a * c) := by grind
  have e2 : (b + d) * (b + d) = b * b + d * d + 2 * (b * d) := by grind
  rw [Q.sgn2_a (by omega)]
  exact Int.sign_eq_one_of_pos (by omega)
theorem add_bb {a b c d : Int} (hb : 0 < b) (hd : 0 < d) (h : a * a < 2 * (b * b)) (g : c * c < 2 * (d * d)) : Q.sgn2 (a + c) (b + d) = 1 := by
  have k := two_lt' hb hd h g
  have e1 : (a + c) * (a + c) = a * a + c * c + 2 * (a * c) := by grind
  have e2 : (b + d) * (b + d) = b * b + d * d + 2 * (b * d) := by grind
  rw [Q.sgn2_b (by omega)]
  exact Int.sign_eq_one_of_pos (by omega)
/-- A positive number is so by its first part or by its second one. -/
theorem pos_cases {a b : Int} (h : Q.sgn2 a b = 1) : (0 < a ∧ 2 * (b * b) < a * a) ∨ (0 < b ∧ a * a < 2 * (b * b)) := by
  rcases Q.cases2 a b with ⟨h1, h2⟩ | ⟨h1, h2⟩ | ⟨_, _, h2⟩
  · rw [h] at h2; exact .inl ⟨Int.sign_eq_one_iff_pos.1 h2.symm, h1⟩
  · rw [h] at h2; exact .inr ⟨Int.sign_eq_one_iff_pos.1 h2.symm, h1⟩
  · rw [h] at h2; omega
theorem sgn3 (a b : Int) : Q.sgn2 a b = 1 ∨ Q.sgn2 a b = 0 ∨ Q.sgn2 (-a) (-b) = 1 := by
  rw [Q.sgn2_neg]
  rcases sgn2_range a b with h | h | h <;> rw [h] <;> simp
theorem add_ab {a b c d : Int} (h : Q.sgn2 a b = 1) (g : Q.sgn2 c d = 1) (ha : 0 < a) (ha2 : 2 * (b * b) < a * a) (hd : 0 < d) (hd2 : c * c < 2 * (d * d)) : Q.sgn2 (a + c) (b + d) = 1 := by
  rcases sgn3 (a + c) (b + d) with k | k | k
  · exact k
  · exfalso
    obtain ⟨e1, e2⟩ := Q.sgn2_eq_zero k
    obtain rfl : c = -a := by omega
    obtain rfl : d = -b := by omega
    rw [Q.sgn2_neg, h] at g; omega
  · exfalso
    rcases pos_cases k with ⟨k1, k2⟩ | ⟨k1, k2⟩
    · have := add_aa ha k1 ha2 k2
      rw [show a + -(a + c) = -c by omega, show b + -(b + d) = -d by omega, Q.sgn2_neg, g] at this
      omega
    · have := add_bb hd k1 hd2 k2
      rw [show c + -(a + c) = -a by omega, show d + -(b + d) = -b by omega, Q.sgn2_neg, h] at this
      omega
theorem add_pos {a b c d : Int} (h : Q.sgn2 a b = 1) (g : Q.sgn2 c d = 1) : Q.sgn2 (a + c) (b + d) = 1 := by
  rcases pos_cases h with ⟨h1, h2⟩ | ⟨h1, h2⟩ <;> rcases pos_cases g with ⟨g1, g2⟩ | ⟨g1, g2⟩
  · exact add_aa h1 g1 h2 g2
  · exact add_ab h g h1 h2 g1 g2
  · rw [Int.add_comm a, Int.add_comm b]; exact add_ab g h g1 g2 h1 h2
  · exact add_bb h1 g1 h2 g2

/-! ### What a direction says -/
theorem from16_spec {p : P4} {d : Nat} : ∀ (n e : Nat), dirFrom16 p n e = (d : Int) → (dotA ((d + 4) % 16) p = 0 ∧ dotB ((d + 4) % 16) p = 0) ∧ 0 < sgD d p
  | 0, _, h => by unfold dirFrom16 at h; omega
  | n + 1, e, h => by
    unfold dirFrom16 at h
    split at h
    · rename_i hc
      obtain rfl : e = d := by omega
      exact hc
    · exact from16_spec n (e + 1) h
theorem dirOf_spec {p : P4} {d : Nat} (h : dirOf p = (d : Int)) : (dotA ((d + 4) % 16) p = 0 ∧ dotB ((d + 4) % 16) p = 0) ∧ sgD d p = 1 := by
  rw [← dir_agree] at h
  obtain ⟨h1, h2⟩ := from16_spec 16 0 h
  refine ⟨h1, ?_⟩
  unfold sgD at *
  rcases sgn2_range (dotA d p) (dotB d p) with k | k | k <;> rw [k] at h2 ⊢ <;> omega
theorem cross_of_dot {d : Nat} (hd : d < 16) {p : P4} (h : dotA ((d + 4) % 16) p = 0 ∧ dotB ((d + 4) % 16) p = 0) : crossA d p = 0 ∧ crossB d p = 0 := by
  obtain ⟨h1, h2⟩ := h
  rcases lt16 hd with rfl | rfl | rfl | rfl | rfl | rfl | rfl | rfl | rfl | rfl | rfl | rfl | rfl | rfl | rfl | rfl <;>
    simp [dotA, dotB, crossA, crossB, xA, xB, yA, yB] at * <;> omega
/-- The scalar product of two vectors of directions. -/
def ddA (e f : Nat) : Int := (xA e * xA f + 2 * (xB e * xB f)) + (yA e * yA f + 2 * (yB e * yB f))
def ddB (e f : Nat) : Int := (xA e * xB f + xB e * xA f) + (yA e * yB f + yB e * yA f)
theorem lag {e : Nat} (f : Nat) {p : P4} (h : crossA e p = 0 ∧ crossB e p = 0) :
    dotA f p * ddA e e + 2 * (dotB f p * ddB e e) = dotA e p * ddA e f + 2 * (dotB e p * ddB e f) ∧ dotA f p * ddB e e + dotB f p * ddA e e = dotA e p * ddB e f + dotB e p * ddA e f := by
  obtain ⟨h1, h2⟩ := h
  unfold dotA dotB ddA ddB
  unfold crossA at h1
  unfold crossB at h2
  generalize xA e = a at *
  generalize xB e = b at *
  generalize yA e = c at *
  generalize yB e = d at *
  generalize xA f = a' at *
  generalize xB f = b' at *
  generalize yA f = c' at *
  generalize yB f = d' at *
  obtain ⟨p1, p2, p3, p4⟩ := p
  simp only at h1 h2 ⊢
  constructor <;> grind

/-- A functional that is positive on the eight directions from a on. -/
def fA (a : Nat) (p : P4) : Int := dotA ((a + 3) % 16) p + dotA ((a + 4) % 16) p
def fB (a : Nat) (p : P4) : Int := dotB ((a + 3) % 16) p + dotB ((a + 4) % 16) p
theorem sq_pos : ∀ e, e < 16 → Q.sgn2 (ddA e e) (ddB e e) = 1 := by decide
set_option maxRecDepth 100000 in
theorem dd_pos : ∀ a, a < 16 → ∀ j, j < 8 → Q.sgn2 (ddA ((a + j) % 16) ((a + 3) % 16) + ddA ((a + j) % 16) ((a + 4) % 16)) (ddB ((a + j) % 16) ((a + 3) % 16) + ddB ((a + j) % 16) ((a + 4) % 16)) = 1 := by decide
theorem f_pos {a j : Nat} (ha : a < 16) (hj : j < 8) {p : P4} (h : dirOf p = (((a + j) % 16 : Nat) : Int)) : Q.sgn2 (fA a p) (fB a p) = 1 := by
  obtain ⟨h1, h2⟩ := dirOf_spec h
  have he : (a + j) % 16 < 16 := Nat.mod_lt _ (by decide)
  have hc := cross_of_dot he h1
  have hd := dd_pos a ha j hj
  have hs := sq_pos _ he
  generalize (a + j) % 16 = e at *
  obtain ⟨l1, l2⟩ := lag ((a + 3) % 16) hc
  obtain ⟨m1, m2⟩ := lag ((a + 4) % 16) hc
  have k := Q.sgn2_mul (fA a p) (fB a p) (ddA e e) (ddB e e)
  have k' := Q.sgn2_mul (dotA e p) (dotB e p) (ddA e ((a + 3) % 16) + ddA e ((a + 4) % 16)) (ddB e ((a + 3) % 16) + ddB e ((a + 4) % 16))
  unfold sgD at h2
  rw [hs, Int.mul_one] at k
  rw [h2, hd, Int.mul_one] at k'
  rw [← k, ← k']
  congr 1
  · unfold fA fB; grind
  · unfold fA fB; grind
theorem f_sub (a : Nat) (p q : P4) : fA a (p.sub q) = fA a p - fA a q ∧ fB a (p.sub q) = fB a p - fB a q := by
  unfold fA fB dotA dotB P4.sub
  simp only
  constructor <;> grind

/-! ### Arcs -/
/-- Sides whose directions lie in the half turn from a on lead away. -/
theorem arc_pos {P : Nat → P4} {a i : Nat} (ha : a < 16) : ∀ m, (∀ k, i ≤ k → k < i + (m + 1) → ∃ t, t < 8 ∧ dirOf ((P (k + 1)).sub (P k)) = (((a + t) % 16 : Nat) : Int)) →
    Q.sgn2 (fA a (P (i + (m + 1))) - fA a (P i)) (fB a (P (i + (m + 1))) - fB a (P i)) = 1
  | 0, h => by
    obtain ⟨t, ht, hd⟩ := h i (Nat.le_refl _) (by omega)
    have := f_pos ha ht hd
    rwa [(f_sub a _ _).1, (f_sub a _ _).2] at this
  | m + 1, h => by
    have h1 := arc_pos ha m fun k hk hk2 => h k hk (by omega)
    obtain ⟨t, ht, hd⟩ := h (i + (m + 1)) (by omega) (by omega)
    have h2 := f_pos ha ht hd
    rw [(f_sub a _ _).1, (f_sub a _ _).2] at h2
    have h3 := add_pos h1 h2
    have e : i + (m + 1) + 1 = i + (m + 1 + 1) := by omega
    rw [e] at h3
    rw [show fA a (P (i + (m + 1 + 1))) - fA a (P i) = (fA a (P (i + (m + 1))) - fA a (P i)) + (fA a (P (i + (m + 1 + 1))) - fA a (P (i + (m + 1)))) by omega,
      show fB a (P (i + (m + 1 + 1))) - fB a (P i) = (fB a (P (i + (m + 1))) - fB a (P i)) + (fB a (P (i + (m + 1 + 1))) - fB a (P (i + (m + 1)))) by omega]
    exact h3
theorem arc_ne {P : Nat → P4} {a i j : Nat} (ha : a < 16) (hij : i < j) (h : ∀ k, i ≤ k → k < j → ∃ t, t < 8 ∧ dirOf ((P (k + 1)).sub (P k)) = (((a + t) % 16 : Nat) : Int)) : P i ≠ P j := by
  intro e
  obtain ⟨m, rfl⟩ : ∃ m, j = i + (m + 1) := ⟨j - i - 1, by omega⟩
  have := arc_pos (P := P) (i := i) ha m h
  rw [← e, Int.sub_self, Int.sub_self, Q.sgn2_zero] at this
  omega

/-! ### One turn -/
/-- How far the directions have turned ahead of side k. -/
def turned (T : Nat → Nat) : Nat → Nat
  | 0 => 0
  | k + 1 => turned T k + T k
theorem turned_mono {T : Nat → Nat} {n : Nat} (hT : ∀ k, k < n → 1 ≤ T k) {i : Nat} : ∀ m, i + m ≤ n → turned T i + m ≤ turned T (i + m)
  | 0, _ => by simp
  | m + 1, h => by
    have h1 := turned_mono (T := T) hT (i := i) m (by omega)
    have h2 := hT (i + m) (by omega)
    show turned T i + (m + 1) ≤ turned T (i + m) + T (i + m)
    omega
theorem dir_turned {D T : Nat → Nat} {n : Nat} (h0 : D 0 < 16) (h : ∀ k, k + 1 < n → D (k + 1) = (D k + T k) % 16) : ∀ k, k < n → D k = (D 0 + turned T k) % 16
  | 0, _ => by simp [turned]; omega
  | k + 1, hk => by
    rw [h k hk, dir_turned h0 h k (by omega)]
    show ((D 0 + turned T k) % 16 + T k) % 16 = (D 0 + (turned T k + T k)) % 16
    omega
/-- A closed line of n sides that turns to the left at each corner, all in all once around: no corner is the first one again. -/
theorem turn_ne {P : Nat → P4} {D T : Nat → Nat} {n : Nat} (hP : P n = P 0) (hD0 : D 0 < 16) (hd : ∀ k, k < n → dirOf ((P (k + 1)).sub (P k)) = (D k : Int)) (hT : ∀ k, k < n → 1 ≤ T k)
    (hn : ∀ k, k + 1 < n → D (k + 1) = (D k + T k) % 16) (hs : turned T n = 16) {i : Nat} (hi : 0 < i) (hin : i < n) : P 0 ≠ P i := by
  have hdir := dir_turned hD0 hn
  by_cases h8 : turned T (i - 1) < 8
  · refine arc_ne hD0 hi fun k _ hk => ⟨turned T k, ?_, ?_⟩
    · have := turned_mono (T := T) hT (i := k) (i - 1 - k) (by omega)
      rw [show k + (i - 1 - k) = i - 1 by omega] at this
      omega
    · rw [hd k (by omega), hdir k (by omega)]
  · rw [← hP]
    intro e
    refine arc_ne (P := P) (a := D i) (i := i) (j := n) (by rw [hdir i hin]; exact Nat.mod_lt _ (by decide)) hin (fun k hk hk2 => ⟨turned T k - turned T i, ?_, ?_⟩) e.symm
    · have h1 := turned_mono (T := T) hT (i := k) (n - k) (by omega)
      rw [show k + (n - k) = n by omega] at h1
      have h2 := turned_mono (T := T) hT (i := i - 1) 1 (by omega)
      rw [show i - 1 + 1 = i by omega] at h2
      omega
    · have h3 := turned_mono (T := T) hT (i := i) (k - i) (by omega)
      rw [show i + (k - i) = k by omega] at h3
      rw [hd k hk2, hdir k hk2, hdir i hin]
      congr 1
      omega
end Go.Proofs.YtafbdnjabgfjeaaDoor
