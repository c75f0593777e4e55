/- The program's wide numbers on the grid: sums, differences, products by small numbers, quotients by numbers whose norm is a power of 2. -/
import Derived.Test.YtafbdnjabgfjeaaDoorGwx
import Derived.Test.YtafbdnjabgfjeaaDoorGv
namespace Go.Proofs.YtafbdnjabgfjeaaDoor
open Go Go.RowKit OriM
variable {β : Bool}

theorem wplus_g {A B A' B' : Int} (h : Bd2 1152921504606846976 A B) (h' : Bd2 1152921504606846976 A' B') (w : World) (hT : LT β w) :
    Calls Tryd.prog 140 #[gv A B, gv A' B'] w (RetB (gv (A + A') (B + B')) w) := by
  obtain ⟨P, R, M, M0, M1, g, hp⟩ := gplus_any h h'
  exact wplus_core _ _ _ _ _ _ _ _ _ _ _ _ w hT (Lib.hid fun w _ => hp w) (Lib.hid fun w hT => glow_any M0 (by omega) g w hT.tz)

theorem gv_neg (A B : Int) : gv (-A) (-B) = num (-gA A B) (-gB A B) (gK A B) := by
  obtain ⟨h1, h2, h3⟩ := g_neg A B
  unfold gv; rw [h1, h2, h3]
theorem gnegate_g {A B : Int} (h : Bd2 1152921504606846976 A B) (w : World) :
    Calls Tryd.prog 157 #[gv A B] w (RetB (gv (-A) (-B)) w) := by
  have b := g_bound h
  rw [gv_neg]
  exact gneg_any _ _ _ w (by omega) (by omega) (by omega) (by omega)
theorem bd2_neg {M A B : Int} (h : Bd2 M A B) : Bd2 M (-A) (-B) := by unfold Bd2 at *; omega

theorem wminus_g {A B A' B' : Int} (h : Bd2 1152921504606846976 A B) (h' : Bd2 1152921504606846976 A' B') (w : World) (hT : LT β w) :
    Calls Tryd.prog 133 #[gv A B, gv A' B'] w (RetB (gv (A - A') (B - B')) w) := by
  obtain ⟨P, R, M, M0, M1, g, hp⟩ := gplus_any h (bd2_neg h')
  rw [← Int.sub_eq_add_neg, ← Int.sub_eq_add_neg] at g
  have hn := fun w => gnegate_g h' w
  rw [gv_neg] at hn
  simp only [gv_neg] at hp
  exact wminus_core _ _ _ _ _ _ _ _ _ _ _ _ _ _ _ w hT (Lib.hid fun w _ => hn w) (Lib.hid fun w _ => hp w) (Lib.hid fun w hT => glow_any M0 (by omega) g w hT.tz)

def Small (c d : Int) : Prop := -16 ≤ c ∧ c ≤ 16 ∧ -16 ≤ d ∧ d ≤ 16
theorem gtimes_val' {a b k c d l : Int} (h : Bd2 1125899906842624 a b) (s : Small c d) (k0 : 0 ≤ k) (k1 : k ≤ 64) (l0 : 0 ≤ l) (l1 : l ≤ 64) (w : World) :
    Calls Tryd.prog 153 #[num c d l, num a b k] w (RetB (num (c * a + 2 * d * b) (c * b + d * a) (l + k)) w) := by
  obtain ⟨a1, a2, b1, b2⟩ := h
  obtain ⟨c1, c2, d1, d2⟩ := s
  have p := prod_le (by omega) c1 c2 a1 a2
  have q := prod_le (c := 2 * d) (m := 32) (A := b) (by omega) (by omega) (by omega) b1 b2
  have r := prod_le (by omega) c1 c2 b1 b2
  have t := prod_le (by omega) d1 d2 a1 a2
  rw [Int.mul_comm a c] at p
  rw [Int.mul_comm b (2 * d)] at q
  rw [Int.mul_comm b c] at r
  rw [Int.mul_comm a d] at t
  exact gtimes_core c d l a b k _ _ _ _ _ w (wrap_in (by omega) (by omega)) (wrap_in (by omega) (by omega)) (wrap_in (by omega) (by omega)) (wrap_in (by omega) (by omega)) (wrap_in (by omega) (by omega))
    (by omega) (by omega) (by omega) (by omega) (by omega) (by omega) (by omega) (by omega) l0 l1 k0 k1

theorem wtimes_g' {A B c d : Int} (h : Bd2 1125899906842624 A B) (s : Small c d) (w : World) (hT : LT β w) :
    Calls Tryd.prog 103 #[num c d 0, gv A B] w (RetB (gv (mA c d A B) (mB c d A B)) w) := by
  have k := gK_le A B
  have g := gr_times' c d (gr_self A B)
  exact wtimes_core _ _ _ _ _ _ _ _ _ _ _ _ w hT (Lib.hid fun w _ => gtimes_val' (g_bound h) s (by omega) (by omega) (by omega) (by omega) w)
    (Lib.hid fun w hT => glow_any (by omega) (by omega) (by rw [Int.zero_add, Int.toNat_natCast]; exact g) w hT.tz)

end Go.Proofs.YtafbdnjabgfjeaaDoor
