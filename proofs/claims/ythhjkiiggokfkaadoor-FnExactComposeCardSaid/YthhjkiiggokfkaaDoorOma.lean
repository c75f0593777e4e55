/- Moved points on the grid: both sides' turning, moving, matrices. -/
import Derived.Test.YthhjkiiggokfkaaDoorOk
import Derived.Test.YthhjkiiggokfkaaDoorOt
import Derived.Test.YthhjkiiggokfkaaDoorOe
namespace Go.Proofs.YthhjkiiggokfkaaDoor
open Go Go.RowKit OriM
variable {β : Bool}

/-- Both ways of turning a point. -/
theorem turn_eq {t : Nat} (ht : t < 8) (f : Bool) (p : P4) (he : Ev p) : tR t (rotN (t / 2) (flP f p)) = (uP t p.a p.b).add (uP (upI t f) p.c p.d) := by
  obtain ⟨a, b, c, d⟩ := p
  obtain ⟨h1, h2⟩ := he
  simp only at h1 h2
  cases f <;> rcases lt8 ht with rfl | rfl | rfl | rfl | rfl | rfl | rfl | rfl <;> simp [tR, rotN, rot, flP, halfP', uP, uA, uB, uc, ud, us, upI, P4.add] <;> omega

theorem sturn_g {t : Nat} (ht : t < 8) (f : Bool) {p : P4} (hb : Bd 1099511627776 p) (he : Ev p) (w : World) (hT : LT β w) :
    Calls Tryd.prog 142 #[.int .i64 (t : Int), .bool f, gp p] w (RetB (gp ((uP t p.a p.b).add (uP (upI t f) p.c p.d))) w) := by
  rw [← turn_eq ht f p he]
  have e : (t : Int).tdiv 2 = ((t / 2 : Nat) : Int) := by
    rw [Int.tdiv_eq_ediv_of_nonneg (by omega)]; omega
  have o : (t : Int).tmod 2 = 0 ∨ (t : Int).tmod 2 = 1 := by
    rw [Int.tmod_eq_emod_of_nonneg (by omega)]; omega
  cases f
  · exact sTurn_no t (t / 2) p.a p.b p.c p.d w hT e (by omega) o hb he.1 he.2
  · exact sTurn_yes t (t / 2) p.a p.b p.c p.d w hT e (by omega) o hb he.1 he.2
theorem splus_g {p q : P4} (h : Bd 70368744177664 p) (h' : Bd 70368744177664 q) (w : World) (hT : LT β w) :
    Calls Tryd.prog 169 #[gp p, gp q] w (RetB (gp (p.add q)) w) := by
  obtain ⟨hx, hy⟩ := bd_half h
  obtain ⟨hx', hy'⟩ := bd_half h'
  exact sPlus_core _ _ _ _ _ _ _ _ _ _ _ _ _ _ _ _ _ _ w hT (Lib.hid fun w _ => gAdd_any (bd2_mono hx (by decide)) (bd2_mono hx' (by decide)) w) (Lib.hid fun w _ => gAdd_any (bd2_mono hy (by decide)) (bd2_mono hy' (by decide)) w)
/-- A motion on the grid, as a value. -/
abbrev motG (t : Int) (f : Bool) (s : P4) : Value := mot t f (gA s.a s.b) (gB s.a s.b) (gK s.a s.b) (gA s.c s.d) (gB s.c s.d) (gK s.c s.d)
theorem smove_g {t : Nat} (ht : t < 8) (f : Bool) {s p : P4} (hs : Bd 8589934592 s) (hb : Bd 1099511627776 p) (he : Ev p) (w : World) (hT : LT β w) :
    Calls Tryd.prog 135 #[motG t f s, gp p] w (RetB (gp (mP t (upI t f) s p)) w) := by
  obtain ⟨hx, hy⟩ := bd_half hb
  have b3 := add_bd (uP_bd ht hx) (uP_bd (upI_lt t f) hy)
  exact sMove_core _ _ _ _ _ _ _ _ _ _ _ _ _ _ _ _ _ _ _ _ _ _ _ _ _ _ w hT (Lib.hid fun w hT => sturn_g ht f hb he w hT) (Lib.hid fun w hT => splus_g (bd_mono b3 (by decide)) (bd_mono hs (by decide)) w hT)
theorem matrix_g {t : Nat} (ht : t < 8) (f : Bool) (s : P4) (w : World) (hT : LT true w) :
    Calls Tryd.prog 78 #[motG t f s] w (RetB (matV t (upI t f) s) w) := by
  have d1 : dirV t f 0 = ((2 * t : Nat) : Int) := by cases f <;> simp [dirV] <;> omega
  have d2 : dirV t f 4 = ((2 * upI t f : Nat) : Int) := by cases f <;> simp [dirV, upI] <;> omega
  have D1 := fun w (hT : LT true w) => dir_any (t := (t : Int)) f (gA s.a s.b) (gB s.a s.b) (gK s.a s.b) (gA s.c s.d) (gB s.c s.d) (gK s.c s.d) (e := 0) (by omega) (by omega) (by omega) (by omega) w hT
  have D2 := fun w (hT : LT true w) => dir_any (t := (t : Int)) f (gA s.a s.b) (gB s.a s.b) (gK s.a s.b) (gA s.c s.d) (gB s.c s.d) (gK s.c s.d) (e := 4) (by omega) (by omega) (by omega) (by omega) w hT
  rw [d1] at D1
  rw [d2] at D2
  exact matrixOf_core _ _ _ _ _ _ _ _ _ _ _ _ _ _ _ _ _ _ _ _ _ _ w hT (Lib.hid D1) (Lib.hid fun w hT => unit_any ht w hT) (Lib.hid D2) (Lib.hid fun w hT => unit_any (upI_lt t f) w hT)
    (Lib.hid fun w hT => shift_any _ _ _ _ _ _ _ _ w hT) (Lib.hid fun w hT => vectorOf_g s w hT)
theorem sNumQ_g {p : P4} (h : Bd 70368744177664 p) (w : World) (hT : LT β w) : Calls Tryd.prog 100 #[gp p] w (RetB (pointV p) w) := by
  obtain ⟨hx, hy⟩ := bd_half h
  exact sNum_any (gr_self p.a p.b) (g_bound (bd2_mono hx (by decide))) (by have := gK_le p.a p.b; omega) (gr_self p.c p.d) (g_bound (bd2_mono hy (by decide))) (by have := gK_le p.c p.d; omega) w hT
theorem mot_g {t : Int} {f : Bool} {a b k c d l : Int} (h : vP a b k c d l = true) : mot t f a b k c d l = motG t f (gP a b k c d l) := by
  unfold vP at h; rw [Bool.and_eq_true] at h
  obtain ⟨h1, h2, h3⟩ := valid_g h.1
  obtain ⟨g1, g2, g3⟩ := valid_g h.2
  unfold motG mot gP
  simp only
  rw [← h1, ← h2, ← h3, ← g1, ← g2, ← g3]

end Go.Proofs.YthhjkiiggokfkaaDoor
