/- Validity of points and lines on both sides; their order; valid numbers on the grid. -/
import Derived.Test.YtafbdnjabgfjeaaDoorGeValid
import Derived.Test.YtafbdnjabgfjeaaDoorGeCompare
import Derived.Test.YtafbdnjabgfjeaaDoorLbc
import Derived.Test.YtafbdnjabgfjeaaDoorGv
namespace Go.Proofs.YtafbdnjabgfjeaaDoor
open Go Go.RowKit OriM
variable {β : Bool}

/-- Points and lines as values. -/
abbrev pt (a b k c d l : Int) : Value := .agg #[.int .i64 a, .int .i64 b, .int .i64 k, .int .i64 c, .int .i64 d, .int .i64 l]
abbrev lnv (d a b k : Int) : Value := .agg #[.int .i64 d, .int .i64 a, .int .i64 b, .int .i64 k]
def vP (a b k c d l : Int) : Bool := validB a b k && validB c d l
def vL (d a b k : Int) : Bool := inB d 0 7 && validB a b k
/-- Any point, any line: six or four int64. -/
structure I6 (a b k c d l : Int) : Prop where
  x : I3 a b k
  y : I3 c d l

theorem iVP_any {a b k c d l : Int} (h : I6 a b k c d l) (w : World) (hT : LT β w) : Calls Tryd.prog 63 #[pt a b k c d l] w (RetB (.bool (vP a b k c d l)) w) := by
  unfold vP
  by_cases hx : validB a b k = true
  · rw [hx, Bool.true_and]
    exact iVP_ok a b k c d l _ w hT (Lib.hid fun w hT => hx ▸ valid_i3 a b k h.x w hT.tz) (Lib.hid fun w hT => valid_i3 c d l h.y w hT.tz)
  · rw [Bool.eq_false_iff.2 hx, Bool.false_and]
    exact iVP_no a b k c d l w hT (Lib.hid fun w hT => (Bool.eq_false_iff.2 hx) ▸ valid_i3 a b k h.x w hT.tz)
theorem sLP_any (a b k c d l : Int) (w : World) (hT : LT β w) : Calls Tryd.prog 53 #[pt a b k c d l] w (RetB (.bool (vP a b k c d l)) w) := by
  unfold vP
  by_cases hx : validB a b k = true
  · rw [hx, Bool.true_and]
    exact sLP_ok a b k c d l _ w hT (Lib.hid fun w _ => hx ▸ l01Ok_any a b k w) (Lib.hid fun w _ => l01Ok_any c d l w)
  · rw [Bool.eq_false_iff.2 hx, Bool.false_and]
    exact sLP_no a b k c d l w hT (Lib.hid fun w _ => (Bool.eq_false_iff.2 hx) ▸ l01Ok_any a b k w)
theorem sVP_any (a b k c d l : Int) (w : World) (hT : LT β w) : Calls Tryd.prog 15 #[pt a b k c d l] w (RetB (.bool (vP a b k c d l)) w) :=
  sVP a b k c d l _ w hT (Lib.hid fun w hT => sLP_any a b k c d l w hT)

theorem isDir_any (d : Int) (w : World) : Calls Tryd.prog 80 #[.int .i64 d] w (Ret (.bool (inB d 0 7)) w) := by
  by_cases h0 : 0 ≤ d
  · by_cases h1 : d < 8
    · rw [show inB d 0 7 = true by simp [inB]; omega]
      go_enter Tryd.func80, Tryd.ntmps80
      go_wp2
      go_ret
      exact ⟨rfl, rfl⟩
    · rw [show inB d 0 7 = false by simp [inB]; omega]
      go_enter Tryd.func80, Tryd.ntmps80
      go_wp2
      go_ret
      exact ⟨rfl, rfl⟩
  · rw [show inB d 0 7 = false by simp [inB]; omega]
    have h0' : d < 0 := by omega
    clear h0
    go_enter Tryd.func80, Tryd.ntmps80
    go_wp2
    go_ret
    exact ⟨rfl, rfl⟩
theorem iVL_any {d a b k : Int} (h : I3 a b k) (w : World) (hT : LT β w) : Calls Tryd.prog 55 #[lnv d a b k] w (RetB (.bool (vL d a b k)) w) := by
  unfold vL
  have hd := fun w => (isDir_any d w).mono fun _ _ h => h.toB
  by_cases hx : inB d 0 7 = true
  · rw [hx, Bool.true_and]
    exact iVL_ok d a b k _ w hT (Lib.hid fun w _ => hx ▸ hd w) (Lib.hid fun w hT => valid_i3 a b k h w hT.tz)
  · rw [Bool.eq_false_iff.2 hx, Bool.false_and]
    exact iVL_no d a b k w hT (Lib.hid fun w _ => (Bool.eq_false_iff.2 hx) ▸ hd w)
theorem sLL_any (d a b k : Int) (w : World) (hT : LT β w) : Calls Tryd.prog 52 #[lnv d a b k] w (RetB (.bool (vL d a b k)) w) := by
  unfold vL
  have hd := fun w => (l00In_any d 0 7 w).mono fun _ _ h => h.toB
  by_cases hx : inB d 0 7 = true
  · rw [hx, Bool.true_and]
    exact sLL_ok d a b k _ w hT (Lib.hid fun w _ => hx ▸ hd w) (Lib.hid fun w _ => l01Ok_any a b k w)
  · rw [Bool.eq_false_iff.2 hx, Bool.false_and]
    exact sLL_no d a b k w hT (Lib.hid fun w _ => (Bool.eq_false_iff.2 hx) ▸ hd w)
theorem sVL_any (d a b k : Int) (w : World) (hT : LT β w) : Calls Tryd.prog 14 #[lnv d a b k] w (RetB (.bool (vL d a b k)) w) :=
  sVL d a b k _ w hT (Lib.hid fun w hT => sLL_any d a b k w hT)

/-! ### The order of points -/
def cpV (a b k c d l a' b' k' c' d' l' : Int) : Int :=
  if vP a b k c d l && vP a' b' k' c' d' l' then
    if eqB a b k a' b' k' then cmpV c d l c' d' l' else cmpV a b k a' b' k'
  else 0

theorem cmpV_zero {a b k a' b' k' : Int} (hx : validB a b k = true) (hy : validB a' b' k' = true) : cmpV a b k a' b' k' = 0 ↔ eqB a b k a' b' k' = true := by
  obtain ⟨_, _, _, _, k0, _⟩ := valid_bounds hx
  obtain ⟨_, _, _, _, k0', _⟩ := valid_bounds hy
  unfold cmpV
  rw [hx, hy, Bool.true_and, if_pos rfl]
  have key : plusA a k (-a') k' * 2 ^ (max k k' - max k k').toNat = plusA a k (-a') k' := by simp
  constructor
  · intro h
    obtain ⟨e1, e2⟩ := Q.sgn2_eq_zero h
    have cx := (oddB_canon k0).1 (by unfold validB at hx; simp at hx; exact hx.2)
    have cy := (oddB_canon k0').1 (by unfold validB at hy; simp at hy; exact hy.2)
    have ez : ∀ p q : Int, plusA p k (-q) k' = 0 → p * 2 ^ k'.toNat = q * 2 ^ k.toNat := by
      intro p q h
      unfold plusA at h
      have h2 : p * 2 ^ (max k k' - k).toNat = q * 2 ^ (max k k' - k').toNat := by rw [Int.neg_mul] at h; omega
      rcases Int.le_total k k' with hk | hk
      · rw [Int.max_eq_right hk] at h2
        simp at h2
        rw [← h2, Int.mul_assoc, ← Int.pow_add, show (k' - k).toNat + k.toNat = k'.toNat by omega]
      · rw [Int.max_eq_left hk] at h2
        simp at h2
        rw [h2, Int.mul_assoc, ← Int.pow_add, show (k - k').toNat + k'.toNat = k.toNat by omega]
    obtain ⟨u1, u2, u3⟩ := OriM.canon_unique (a := a) (b := b) (k := k.toNat) (a' := a') (b' := b') (k' := k'.toNat) ⟨ez a a' e1, ez b b' e2⟩ cx cy
    simp [eqB]; omega
  · intro h
    simp [eqB] at h
    obtain ⟨rfl, rfl, rfl⟩ := h
    simp [plusA, Int.add_right_neg, Q.sgn2_zero]

theorem iCP_any {a b k c d l a' b' k' c' d' l' : Int} (h : I6 a b k c d l) (h' : I6 a' b' k' c' d' l') (w : World) (hT : LT β w) :
    Calls Tryd.prog 150 #[pt a b k c d l, pt a' b' k' c' d' l'] w (RetB (.int .i64 (cpV a b k c d l a' b' k' c' d' l')) w) := by
  unfold cpV
  by_cases hx : vP a b k c d l = true
  · by_cases hy : vP a' b' k' c' d' l' = true
    · rw [hx, hy, Bool.true_and, if_pos rfl]
      have HX := Lib.hid fun w (hT : LT β w) => hx ▸ iVP_any h w hT
      have HY := Lib.hid fun w (hT : LT β w) => hy ▸ iVP_any h' w hT
      by_cases he : eqB a b k a' b' k' = true
      · rw [if_pos he]
        exact iCP_y _ _ _ _ _ _ _ _ _ _ _ _ _ w hT he HX HY (Lib.hid fun w hT => CompareNum_any c d l c' d' l' h.y h'.y w hT.tz)
      · rw [if_neg he]
        exact iCP_x _ _ _ _ _ _ _ _ _ _ _ _ _ w hT (Bool.eq_false_iff.2 he) HX HY (Lib.hid fun w hT => CompareNum_any a b k a' b' k' h.x h'.x w hT.tz)
    · rw [hx, Bool.eq_false_iff.2 hy, Bool.true_and, if_neg (by decide)]
      exact iCP_no2 _ _ _ _ _ _ _ _ _ _ _ _ w hT (Lib.hid fun w (hT : LT β w) => hx ▸ iVP_any h w hT) (Lib.hid fun w (hT : LT β w) => (Bool.eq_false_iff.2 hy) ▸ iVP_any h' w hT)
  · rw [Bool.eq_false_iff.2 hx, Bool.false_and, if_neg (by decide)]
    exact iCP_no1 _ _ _ _ _ _ _ _ _ _ _ _ w hT (Lib.hid fun w (hT : LT β w) => (Bool.eq_false_iff.2 hx) ▸ iVP_any h w hT)

theorem sCmp_any {a b k a' b' k' : Int} (hx : validB a b k = true) (hy : validB a' b' k' = true) (w : World) :
    Calls Tryd.prog 168 #[num a b k, num a' b' k'] w (RetB (.int .i64 (cmpV a b k a' b' k')) w) := by
  unfold cmpV; rw [hx, hy, Bool.true_and, if_pos rfl]
  exact lCompare_valid a b k a' b' k' hx hy w

def gP (a b k c d l : Int) : P4 := ⟨up16 a k.toNat, up16 b k.toNat, up16 c l.toNat, up16 d l.toNat⟩
theorem valid_g {a b k : Int} (h : validB a b k = true) : a = gA (up16 a k.toNat) (up16 b k.toNat) ∧ b = gB (up16 a k.toNat) (up16 b k.toNat) ∧ k = gK (up16 a k.toNat) (up16 b k.toNat) := by
  obtain ⟨_, _, _, _, k0, k1⟩ := valid_bounds h
  have c := (oddB_canon k0).1 (by unfold validB at h; simp at h; exact h.2)
  obtain ⟨h1, h2, h3⟩ := gr_of_canon (gr_up (a := a) (b := b) (k := k.toNat) (by omega)) c
  exact ⟨h1, h2, by omega⟩
theorem valid_gv {a b k : Int} (h : validB a b k = true) : num a b k = gv (up16 a k.toNat) (up16 b k.toNat) := by
  obtain ⟨h1, h2, h3⟩ := valid_g h
  unfold gv
  rw [← h1, ← h2, ← h3]
theorem valid_gp {a b k c d l : Int} (h : vP a b k c d l = true) : pt a b k c d l = gp (gP a b k c d l) := by
  unfold vP at h; rw [Bool.and_eq_true] at h
  obtain ⟨h1, h2, h3⟩ := valid_g h.1
  obtain ⟨g1, g2, g3⟩ := valid_g h.2
  unfold gp gP
  simp only
  rw [← h1, ← h2, ← h3, ← g1, ← g2, ← g3]
theorem valid_gl {d a b k : Int} (h : validB a b k = true) : lnv d a b k = gl d (up16 a k.toNat) (up16 b k.toNat) := by
  obtain ⟨h1, h2, h3⟩ := valid_g h
  unfold gl
  rw [← h1, ← h2, ← h3]
/-- On the grid of valid numbers: multiples of 64. -/
def M64 (p : P4) : Prop := p.a % 64 = 0 ∧ p.b % 64 = 0 ∧ p.c % 64 = 0 ∧ p.d % 64 = 0
theorem valid_bd {a b k : Int} (h : validB a b k = true) : Bd2 8589934592 (up16 a k.toNat) (up16 b k.toNat) ∧ up16 a k.toNat % 64 = 0 ∧ up16 b k.toNat % 64 = 0 := by
  obtain ⟨a1, a2, b1, b2, k0, k1⟩ := valid_bounds h
  obtain ⟨h1, h2, h3⟩ := up16_bound (a := a) (k := k.toNat) (by omega) a1 a2
  obtain ⟨g1, g2, g3⟩ := up16_bound (a := b) (k := k.toNat) (by omega) b1 b2
  exact ⟨⟨h1, h2, g1, g2⟩, h3, g3⟩
theorem valid_bp {a b k c d l : Int} (h : vP a b k c d l = true) : Bd 8589934592 (gP a b k c d l) ∧ M64 (gP a b k c d l) := by
  unfold vP at h; rw [Bool.and_eq_true] at h
  obtain ⟨⟨a1, a2, b1, b2⟩, m1, m2⟩ := valid_bd h.1
  obtain ⟨⟨c1, c2, d1, d2⟩, m3, m4⟩ := valid_bd h.2
  exact ⟨⟨a1, a2, b1, b2, c1, c2, d1, d2⟩, m1, m2, m3, m4⟩
end Go.Proofs.YtafbdnjabgfjeaaDoor
