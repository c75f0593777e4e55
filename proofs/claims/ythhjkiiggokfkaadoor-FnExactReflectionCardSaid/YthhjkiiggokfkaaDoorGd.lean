/- The sixteen directions: their vectors, scalar products on the grid, and which direction a vector has. -/
import Derived.Test.YthhjkiiggokfkaaDoorGm
namespace OriM

/-- The vector of a direction: x = xA + xB r, y = yA + yB r. -/
def xA : Nat → Int
  | 0 => 1 | 1 => 1 | 2 => 1 | 3 => -1 | 4 => 0 | 5 => 1 | 6 => -1 | 7 => -1
  | 8 => -1 | 9 => -1 | 10 => -1 | 11 => 1 | 12 => 0 | 13 => -1 | 14 => 1 | 15 => 1 | _ => 0
def xB : Nat → Int
  | 3 => 1 | 5 => -1 | 11 => -1 | 13 => 1 | _ => 0
def yA : Nat → Int
  | 0 => 0 | 1 => -1 | 2 => 1 | 3 => 1 | 4 => 1 | 5 => 1 | 6 => 1 | 7 => -1
  | 8 => 0 | 9 => 1 | 10 => -1 | 11 => -1 | 12 => -1 | 13 => -1 | 14 => -1 | 15 => 1 | _ => 0
def yB : Nat → Int
  | 1 => 1 | 7 => 1 | 9 => -1 | 15 => -1 | _ => 0

theorem lt16 {d : Nat} (h : d < 16) : d = 0 ∨ d = 1 ∨ d = 2 ∨ d = 3 ∨ d = 4 ∨ d = 5 ∨ d = 6 ∨ d = 7 ∨ d = 8 ∨ d = 9 ∨ d = 10 ∨ d = 11 ∨ d = 12 ∨ d = 13 ∨ d = 14 ∨ d = 15 := by omega
theorem lt8 {d : Nat} (h : d < 8) : d = 0 ∨ d = 1 ∨ d = 2 ∨ d = 3 ∨ d = 4 ∨ d = 5 ∨ d = 6 ∨ d = 7 := by omega

/-- A point on the grid. -/
structure P4 where
  a : Int
  b : Int
  c : Int
  d : Int
deriving DecidableEq

namespace P4
def add (p q : P4) : P4 := ⟨p.a + q.a, p.b + q.b, p.c + q.c, p.d + q.d⟩
def sub (p q : P4) : P4 := ⟨p.a - q.a, p.b - q.b, p.c - q.c, p.d - q.d⟩
end P4

/-- The scalar product with the vector of d. -/
def dotA (d : Nat) (p : P4) : Int := (p.a * xA d + 2 * p.b * xB d) + (p.c * yA d + 2 * p.d * yB d)
def dotB (d : Nat) (p : P4) : Int := (p.a * xB d + p.b * xA d) + (p.c * yB d + p.d * yA d)
/-- The vector product of the vector of d with p. -/
def crossA (d : Nat) (p : P4) : Int := (p.c * xA d + 2 * p.d * xB d) - (p.a * yA d + 2 * p.b * yB d)
def crossB (d : Nat) (p : P4) : Int := (p.c * xB d + p.d * xA d) - (p.a * yB d + p.b * yA d)

theorem cross_dot {d : Nat} (h : d < 8) (p : P4) : crossA d p = dotA (d + 4) p ∧ crossB d p = dotB (d + 4) p := by
  rcases lt8 h with rfl | rfl | rfl | rfl | rfl | rfl | rfl | rfl <;> simp [crossA, crossB, dotA, dotB, xA, xB, yA, yB] <;> omega

theorem dot_opp {d : Nat} (h : d < 8) (p : P4) : dotA (d + 8) p = -dotA d p ∧ dotB (d + 8) p = -dotB d p := by
  rcases lt8 h with rfl | rfl | rfl | rfl | rfl | rfl | rfl | rfl <;> simp [dotA, dotB, xA, xB, yA, yB] <;> omega

/-- p lies along the directions d and d + 8. -/
def Along (d : Nat) (p : P4) : Prop := dotA (d + 4) p = 0 ∧ dotB (d + 4) p = 0
instance (d : Nat) (p : P4) : Decidable (Along d p) := by unfold Along; infer_instance
def zero (p : P4) : Prop := p.a = 0 ∧ p.b = 0 ∧ p.c = 0 ∧ p.d = 0
instance (p : P4) : Decidable (zero p) := by unfold zero; infer_instance

theorem along_one {d e : Nat} (hd : d < 8) (he : e < 8) {p : P4} (h : Along d p) (g : Along e p) : d = e ∨ zero p := by
  obtain ⟨h1, h2⟩ := h
  obtain ⟨g1, g2⟩ := g
  rcases lt8 hd with rfl | rfl | rfl | rfl | rfl | rfl | rfl | rfl <;> rcases lt8 he with rfl | rfl | rfl | rfl | rfl | rfl | rfl | rfl <;>
    simp [dotA, dotB, xA, xB, yA, yB, zero] at * <;> omega

theorem along_dot {d : Nat} (hd : d < 8) {p : P4} (h : Along d p) (g : dotA d p = 0 ∧ dotB d p = 0) : zero p := by
  obtain ⟨h1, h2⟩ := h
  obtain ⟨g1, g2⟩ := g
  rcases lt8 hd with rfl | rfl | rfl | rfl | rfl | rfl | rfl | rfl <;> simp [dotA, dotB, xA, xB, yA, yB, zero] at * <;> omega

theorem along_opp {d : Nat} (hd : d < 8) (p : P4) : (dotA ((d + 8 + 4) % 16) p = 0 ∧ dotB ((d + 8 + 4) % 16) p = 0) ↔ Along d p := by
  unfold Along
  rcases lt8 hd with rfl | rfl | rfl | rfl | rfl | rfl | rfl | rfl <;> simp [dotA, dotB, xA, xB, yA, yB] <;> omega

def sgD (d : Nat) (p : P4) : Int := Q.sgn2 (dotA d p) (dotB d p)
theorem sgD_opp {d : Nat} (hd : d < 8) (p : P4) : sgD (d + 8) p = -sgD d p := by
  unfold sgD; rw [(dot_opp hd p).1, (dot_opp hd p).2, Q.sgn2_neg]
theorem sgn2_zero' (a b : Int) : Q.sgn2 a b = 0 ↔ (a = 0 ∧ b = 0) := ⟨Q.sgn2_eq_zero, by rintro ⟨rfl, rfl⟩; exact Q.sgn2_zero⟩
theorem sgn2_range (a b : Int) : Q.sgn2 a b = -1 ∨ Q.sgn2 a b = 0 ∨ Q.sgn2 a b = 1 := by
  have hs : ∀ x : Int, x.sign = -1 ∨ x.sign = 0 ∨ x.sign = 1 := fun x => by
    rcases Int.lt_trichotomy x 0 with h | h | h
    · exact .inl (Int.sign_eq_neg_one_of_neg h)
    · subst h; exact .inr (.inl rfl)
    · exact .inr (.inr (Int.sign_eq_one_of_pos h))
  rcases Q.cases2 a b with ⟨_, e⟩ | ⟨_, e⟩ | ⟨_, _, e⟩
  · rw [e]; exact hs _
  · rw [e]; exact hs _
  · rw [e]; exact .inr (.inl rfl)

/-- The direction of a vector: the first of the eight lines along which it lies, either way; -1 if there is none. From d on, n lines to go. -/
def dirFrom (p : P4) : Nat → Nat → Int
  | 0, _ => -1
  | n + 1, d => if Along d p then (if 0 < sgD d p then (d : Int) else (d : Int) + 8) else dirFrom p n (d + 1)
def dirOf (p : P4) : Int := if zero p then -1 else dirFrom p 8 0
/-- As the model looks: the first of sixteen directions that fits. -/
def dirFrom16 (p : P4) : Nat → Nat → Int
  | 0, _ => -1
  | n + 1, d => if (dotA ((d + 4) % 16) p = 0 ∧ dotB ((d + 4) % 16) p = 0) ∧ 0 < sgD d p then (d : Int) else dirFrom16 p n (d + 1)

theorem from16_high {p : P4} : ∀ (n d : Nat), d + n ≤ 16 → 8 ≤ d → (∀ e, e < 8 → d ≤ e + 8 → e + 8 < d + n → ¬ (Along e p ∧ sgD e p < 0)) → dirFrom16 p n d = -1
  | 0, _, _, _, _ => rfl
  | n + 1, d, h, h8, hn => by
    unfold dirFrom16
    rw [if_neg, from16_high n (d + 1) (by omega) (by omega) (fun e he h1 h2 => hn e he (by omega) (by omega))]
    obtain ⟨e, rfl⟩ : ∃ e, d = e + 8 := ⟨d - 8, by omega⟩
    rw [along_opp (by omega), sgD_opp (by omega)]
    intro hc
    exact hn e (by omega) (by omega) (by omega) ⟨hc.1, by omega⟩

theorem from16_at {p : P4} {d : Nat} (hd : d < 8) (h : Along d p) (hs : sgD d p < 0) : ∀ (n e : Nat), e + n = 16 → 8 ≤ e → e ≤ d + 8 → (∀ x, x < 8 → Along x p → x = d) → dirFrom16 p n e = (d : Int) + 8
  | 0, e, h1, h2, h3, _ => by omega
  | n + 1, e, h1, h2, h3, hu => by
    unfold dirFrom16
    obtain ⟨x, rfl⟩ : ∃ x, e = x + 8 := ⟨e - 8, by omega⟩
    by_cases hx : x = d
    · subst hx
      rw [if_pos ⟨(along_opp hd p).2 h, by rw [sgD_opp hd]; omega⟩]; simp
    · rw [if_neg (fun hc => hx (hu x (by omega) ((along_opp (by omega) p).1 hc.1)))]
      exact from16_at hd h hs n (x + 8 + 1) (by omega) (by omega) (by omega) hu

theorem mod4 {d : Nat} (h : d < 8) : (d + 4) % 16 = d + 4 := by omega

/-- Both ways of looking agree. -/
theorem dir_agree (p : P4) : dirFrom16 p 16 0 = dirOf p := by
  unfold dirOf
  by_cases hz : zero p
  · rw [if_pos hz]
    have hsg : ∀ d, sgD d p = 0 := fun d => by
      obtain ⟨h1, h2, h3, h4⟩ := hz
      unfold sgD
      rw [sgn2_zero']; simp [dotA, dotB, h1, h2, h3, h4]
    have : ∀ n d, dirFrom16 p n d = -1 := by
      intro n
      induction n with
      | zero => intro d; rfl
      | succ n ih => intro d; unfold dirFrom16; rw [if_neg (by rw [hsg]; omega), ih]
    exact this _ _
  · rw [if_neg hz]
    have hu : ∀ d e, d < 8 → e < 8 → Along d p → Along e p → d = e := fun d e hd he h g => (along_one hd he h g).resolve_right hz
    have hs : ∀ d, d < 8 → Along d p → sgD d p ≠ 0 := fun d hd h hc => hz (along_dot hd h ((sgn2_zero' _ _).1 hc))
    have key : ∀ (n d : Nat), d + n = 8 → (∀ e, e < d → ¬ Along e p) → dirFrom16 p (n + 8) d = dirFrom p n d := by
      intro n
      induction n with
      | zero =>
        intro d hd hn
        obtain rfl : d = 8 := by omega
        exact from16_high 8 8 (by omega) (by omega) (fun e he _ _ hc => hn e he hc.1)
      | succ n ih =>
        intro d hd hn
        rw [show n + 1 + 8 = (n + 8) + 1 by omega]
        unfold dirFrom16 dirFrom
        have hd8 : d < 8 := by omega
        rw [mod4 hd8]
        by_cases ha : Along d p
        · rw [if_pos ha]
          by_cases hp : 0 < sgD d p
          · rw [if_pos hp, if_pos ⟨ha, hp⟩]
          · rw [if_neg hp, if_neg (fun hc => hp hc.2)]
            have hneg : sgD d p < 0 := by have := hs d hd8 ha; omega
            have skip : ∀ (m e : Nat), d < e → e + m = 16 → e ≤ 8 → dirFrom16 p m e = dirFrom16 p 8 8 := by
              intro m
              induction m with
              | zero => intro e h1 h2 h3; omega
              | succ m ihm =>
                intro e h1 h2 h3
                by_cases he : e = 8
                · subst he; rw [show m + 1 = 8 by omega]
                · conv => lhs; unfold dirFrom16
                  rw [mod4 (by omega), if_neg (fun hc => by have := hu d e hd8 (by omega) ha hc.1; omega)]
                  exact ihm (e + 1) (by omega) (by omega) (by omega)
            rw [skip (n + 8) (d + 1) (by omega) (by omega) (by omega)]
            exact from16_at hd8 ha hneg 8 8 (by omega) (by omega) (by omega) (fun x hx hax => hu x d hx hd8 hax ha)
        · rw [if_neg ha, if_neg (fun hc => ha hc.1)]
          exact ih (d + 1) (by omega) (fun e he => by
            by_cases h : e = d
            · subst h; exact ha
            · exact hn e (by omega))
    exact key 8 0 (by omega) (fun e he => by omega)

theorem dirFrom_range (p : P4) : ∀ n d, d + n ≤ 8 → dirFrom p n d = -1 ∨ (0 ≤ dirFrom p n d ∧ dirFrom p n d ≤ 15)
  | 0, _, _ => .inl rfl
  | n + 1, d, h => by
    unfold dirFrom
    split
    · split <;> (right; omega)
    · exact dirFrom_range p n (d + 1) (by omega)
theorem dirOf_range (p : P4) : dirOf p = -1 ∨ (0 ≤ dirOf p ∧ dirOf p ≤ 15) := by
  unfold dirOf; split
  · exact .inl rfl
  · exact dirFrom_range p 8 0 (by omega)
end OriM
