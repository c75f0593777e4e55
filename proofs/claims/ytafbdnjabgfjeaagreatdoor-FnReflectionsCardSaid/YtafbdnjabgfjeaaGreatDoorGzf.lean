/- Reflections of points and lines on the grid, both sides. -/
import Derived.Test.YtafbdnjabgfjeaaGreatDoorGZ
import Derived.Test.YtafbdnjabgfjeaaGreatDoorGdiv
import Derived.Test.YtafbdnjabgfjeaaGreatDoorGxc
import Derived.Test.YtafbdnjabgfjeaaGreatDoorGyc
import Derived.Test.YtafbdnjabgfjeaaGreatDoorGyd
namespace Go.Proofs.YtafbdnjabgfjeaaGreatDoor
open Go Go.RowKit OriM
variable {β : Bool}

def sP' (d : Nat) : P4 := ⟨xA d * 65536, xB d * 65536, yA d * 65536, yB d * 65536⟩
theorem dv_gp' (d : Nat) : gp (sP' d) = dv d := by
  obtain ⟨h1, h2, h3⟩ := gA_int (xA d) (xB d)
  obtain ⟨g1, g2, g3⟩ := gA_int (yA d) (yB d)
  unfold gp sP'
  simp only [h1, h2, h3, g1, g2, g3]; rfl
theorem sP'_bd {d : Nat} (hd : d < 16) : Bd 65536 (sP' d) := by
  have := small_vec d hd
  unfold Bd sP'; simp only; omega

/-- The square of a normal, on both sides. -/
theorem sq_dot (d : Nat) : dotA d (sP' d) = sqA d * 65536 ∧ dotB d (sP' d) = sqB d * 65536 := by
  unfold dotA dotB sqA sqB mA mB sP'
  constructor <;> grind
theorem vsq_g {d : Nat} (hd : d < 16) (w : World) (hT : LT β w) : Calls Tryz.prog 74 #[dv d, dv d] w (RetB (num (sqA d) (sqB d) 0) w) := by
  have h := vdot_g hd (bd_mono (sP'_bd hd) (by decide)) w hT
  rw [dv_gp', (sq_dot d).1, (sq_dot d).2, gv_int] at h
  exact h
theorem sMul_small {a b c d : Int} (h1 : -1 ≤ a ∧ a ≤ 1 ∧ -1 ≤ b ∧ b ≤ 1) (s : Small c d) (w : World) : Calls Tryz.prog 96 #[num a b 0, num c d 0] w (RetB (gv (mA c d a b * 65536) (mB c d a b * 65536)) w) := by
  have h := sMul_g (A := a * 65536) (B := b * 65536) (c := c) (d := d) (by unfold Bd2; omega) s w
  rw [gv_int] at h
  rw [show mA c d (a * 65536) (b * 65536) = mA c d a b * 65536 by unfold mA; grind, show mB c d (a * 65536) (b * 65536) = mB c d a b * 65536 by unfold mB; grind] at h
  exact h
theorem sSquare_g {d : Nat} (hd : d < 16) (w : World) (hT : LT β w) : Calls Tryz.prog 94 #[.int .i64 d] w (RetB (num (sqA d) (sqB d) 0) w) := by
  obtain ⟨s1, s2, s3, s4, s5, s6, s7, s8⟩ := small_vec d hd
  obtain ⟨sx, sy⟩ := small_dv hd
  have V := fun w (_ : LT β w) => svec_any d (by omega) w
  rw [Nat.mod_eq_of_lt hd] at V
  have bx : Bd2 288230376151711744 (mA (xA d) (xB d) (xA d) (xB d) * 65536) (mB (xA d) (xB d) (xA d) (xB d) * 65536) := by
    have := mul_bd (A := xA d) (B := xB d) (M := 1) s1 s2 s3 s4 ⟨by omega, by omega, by omega, by omega⟩
    unfold Bd2 at *; omega
  have bY : Bd2 288230376151711744 (mA (yA d) (yB d) (yA d) (yB d) * 65536) (mB (yA d) (yB d) (yA d) (yB d) * 65536) := by
    have := mul_bd (A := yA d) (B := yB d) (M := 1) s5 s6 s7 s8 ⟨by omega, by omega, by omega, by omega⟩
    unfold Bd2 at *; omega
  have AD := fun w => gAdd_any bx bY w
  rw [show mA (xA d) (xB d) (xA d) (xB d) * 65536 + mA (yA d) (yB d) (yA d) (yB d) * 65536 = sqA d * 65536 by unfold sqA; grind, show mB (xA d) (xB d) (xA d) (xB d) * 65536 + mB (yA d) (yB d) (yA d) (yB d) * 65536 = sqB d * 65536 by unfold sqB; grind] at AD
  simp only [gv_int (sqA d) (sqB d)] at AD
  exact sSquare_core _ _ _ _ _ _ _ _ _ _ _ _ _ _ _ _ _ _ _ _ _ _ w hT (Lib.hid V) (Lib.hid fun w hT => sOf_any _ _ _ _ _ _ w hT)
    (Lib.hid fun w _ => sMul_small ⟨s1, s2, s3, s4⟩ sx w) (Lib.hid fun w _ => sMul_small ⟨s5, s6, s7, s8⟩ sy w) (Lib.hid fun w _ => AD w)

/-! ### Feet and reflections -/
theorem mulP_bd {d : Nat} (hd : d < 16) {A B M : Int} (h : Bd2 M A B) : Bd (3 * M) (mulP d A B) := by
  obtain ⟨s1, s2, s3, s4, s5, s6, s7, s8⟩ := small_vec d hd
  obtain ⟨p1, p2, p3, p4⟩ := mul_bd s1 s2 s3 s4 h
  obtain ⟨q1, q2, q3, q4⟩ := mul_bd s5 s6 s7 s8 h
  exact ⟨p1, p2, p3, p4, q1, q2, q3, q4⟩
theorem mulP_quot {d : Nat} {c e s : Int} {t : Nat} {A B A' B' : Int} (h : OriM.Quot c e s t A B A' B') : QuotP c e s t (mulP d A B) (mulP d A' B') := ⟨quot_mul _ _ h, quot_mul _ _ h⟩
theorem mulP_two (d : Nat) (A B : Int) (p : P4) : (p.sub (mulP d A B)).sub (mulP d A B) = p.sub (mulP d (A + A) (B + B)) := by
  unfold P4.sub mulP mA mB; simp only [P4.mk.injEq]; refine ⟨?_, ?_, ?_, ?_⟩ <;> grind

theorem sfoot_g {n : Nat} (hn : n < 8) {A B T1 T2 : Int} (hA : Bd2 8589934592 A B) (q : OriM.Quot (sqA (n + 4)) (sqB (n + 4)) 1 (sqT (n + 4)) A B T1 T2) (w : World) (hT : LT β w) :
    Calls Tryz.prog 78 #[gl n A B] w (RetB (gp (mulP (n + 4) T1 T2)) w) := by
  have V := fun w (_ : LT β w) => svec_any (n + 4) (by omega) w
  rw [Nat.mod_eq_of_lt (show n + 4 < 16 by omega), show ((n + 4 : Nat) : Int) = (n : Int) + 4 by omega] at V
  have SQ := fun w (hT : LT β w) => sSquare_g (d := n + 4) (by omega) w hT
  rw [show ((n + 4 : Nat) : Int) = (n : Int) + 4 by omega] at SQ
  have bT := quot_bd (sq_unit (n + 4) (by omega)) hA q
  obtain ⟨sx, sy⟩ := small_dv (d := n + 4) (by omega)
  exact sFoot_core _ _ _ _ _ _ _ _ _ _ _ _ _ _ _ _ _ _ _ _ _ _ _ _ _ _ _ _ _ w hT (by omega) (by omega) (Lib.hid V) (Lib.hid fun w hT => sOf_any _ _ _ _ _ _ w hT) (Lib.hid SQ) (Lib.hid fun w _ => sDiv_g (sq_unit _ (by omega)) (bd2_mono hA (by decide)) q w)
    (Lib.hid fun w _ => sMul_g (bd2_mono bT (by decide)) sx w) (Lib.hid fun w _ => sMul_g (bd2_mono bT (by decide)) sy w)

/-- The program's and the model's reflection of a point. -/
theorem ireflect_g {n : Nat} (hn : n < 8) {A B T1 T2 : Int} {p : P4} (hA : Bd2 8589934592 A B) (hp : Bd 309237645312 p) (q : OriM.Quot (sqA (n + 4)) (sqB (n + 4)) 1 (sqT (n + 4)) (dotA (n + 4) p - A) (dotB (n + 4) p - B) T1 T2) (w : World) (hT : LT true w) :
    Calls Tryz.prog 29 #[gl n A B, gp p] w (RetB (gp (p.sub (mulP (n + 4) (T1 + T1) (T2 + T2)))) w) := by
  have NO := fun w (hT : LT true w) => normal_g (d := n) (by omega) A B w hT
  have HH := fun w (hT : LT true w) => height_g (d := n) (by omega) (bd2_mono hA (by decide)) (bd_mono hp (by decide)) w hT
  rw [Nat.mod_eq_of_lt (show n + 4 < 16 by omega)] at NO HH
  have bd := dot_bd (d := n + 4) (by omega) hp
  have bh : Bd2 1245540515840 (dotA (n + 4) p - A) (dotB (n + 4) p - B) := by unfold Bd2 at *; omega
  have bT := quot_bd (sq_unit (n + 4) (by omega)) bh q
  have bm := mulP_bd (d := n + 4) (by omega) bT
  have b1 : Bd 45148696215552 (p.sub (mulP (n + 4) T1 T2)) := by unfold Bd P4.sub at *; simp only; omega
  rw [← mulP_two]
  exact reflect_core _ _ _ _ _ _ _ _ _ _ _ _ _ _ _ _ _ _ _ _ _ _ _ _ _ _ _ _ _ _ _ _ _ _ _ _ _ _ _ _ _ _ _ _ _ _ w hT (Lib.hid NO) (Lib.hid HH) (Lib.hid fun w hT => vtimes_g (by omega) (bd2_mono bh (by decide)) w hT) (Lib.hid fun w hT => vsq_g (by omega) w hT)
    (Lib.hid fun w hT => vover_g (sq_unit _ (by omega)) (bd_mono (mulP_bd (by omega) bh) (by decide)) (mulP_quot q) w hT)
    (Lib.hid fun w hT => vminus_g (bd_mono hp (by decide)) (bd_mono bm (by decide)) w hT) (Lib.hid fun w hT => vminus_g (bd_mono b1 (by decide)) (bd_mono bm (by decide)) w hT)
theorem sreflect_g {n : Nat} (hn : n < 8) {A B T1 T2 : Int} {p : P4} (hA : Bd2 8589934592 A B) (hp : Bd 103079215104 p) (q : OriM.Quot (sqA (n + 4)) (sqB (n + 4)) 1 (sqT (n + 4)) (dotA (n + 4) p - A) (dotB (n + 4) p - B) T1 T2) (w : World) (hT : LT β w) :
    Calls Tryz.prog 45 #[gl n A B, gp p] w (RetB (gp (p.sub (mulP (n + 4) (T1 + T1) (T2 + T2)))) w) := by
  have V := fun w (_ : LT β w) => svec_any (n + 4) (by omega) w
  rw [Nat.mod_eq_of_lt (show n + 4 < 16 by omega), show ((n + 4 : Nat) : Int) = (n : Int) + 4 by omega] at V
  have HD := fun w (hT : LT β w) => sDot_g (d := n + 4) (by omega) (bd_mono hp (by decide)) w hT
  rw [Nat.mod_eq_of_lt (show n + 4 < 16 by omega), show ((n + 4 : Nat) : Int) = (n : Int) + 4 by omega] at HD
  have SQ := fun w (hT : LT β w) => sSquare_g (d := n + 4) (by omega) w hT
  rw [show ((n + 4 : Nat) : Int) = (n : Int) + 4 by omega] at SQ
  have bd := dot_bd (d := n + 4) (by omega) hp
  have bh : Bd2 420906795008 (dotA (n + 4) p - A) (dotB (n + 4) p - B) := by unfold Bd2 at *; omega
  have bT := quot_bd (sq_unit (n + 4) (by omega)) bh q
  have b2 : Bd2 10101763080192 (T1 + T1) (T2 + T2) := by unfold Bd2 at *; omega
  have bm := mulP_bd (d := n + 4) (by omega) b2
  obtain ⟨sx, sy⟩ := small_dv (d := n + 4) (by omega)
  exact sReflect_core _ _ _ _ _ _ _ _ _ _ _ _ _ _ _ _ _ _ _ _ _ _ _ _ _ _ _ _ _ _ _ _ _ _ _ _ _ _ _ _ _ _ _ _ _ _ _ _ _ _ w hT (by omega) (by omega) (Lib.hid V) (Lib.hid fun w hT => sOf_any _ _ _ _ _ _ w hT) (Lib.hid HD) (Lib.hid fun w hT => sSub_g (bd2_mono bd (by decide)) (bd2_mono hA (by decide)) w hT) (Lib.hid SQ)
    (Lib.hid fun w _ => sDiv_g (sq_unit _ (by omega)) (bd2_mono bh (by decide)) q w) (Lib.hid fun w _ => gAdd_any (bd2_mono bT (by decide)) (bd2_mono bT (by decide)) w)
    (Lib.hid fun w _ => sMul_g (bd2_mono b2 (by decide)) sx w) (Lib.hid fun w _ => sMul_g (bd2_mono b2 (by decide)) sy w) (Lib.hid fun w hT => sMinus_g (bd_mono hp (by decide)) (bd_mono bm (by decide)) w hT)

theorem sq_cases : ∀ d, d < 16 → (sqA d = 1 ∧ sqB d = 0 ∧ sqT d = 0) ∨ (sqA d = 2 ∧ sqB d = 0 ∧ sqT d = 2) ∨ (sqA d = 4 ∧ sqB d = -2 ∧ sqT d = 3) := by decide
theorem sq_bd {d : Nat} (hd : d < 16) {A B A' B' M : Int} (h : Bd2 M A B) (q : OriM.Quot (sqA d) (sqB d) 1 (sqT d) A B A' B') : Bd2 M A' B' := by
  obtain ⟨q1, q2⟩ := q
  unfold Bd2 at *
  rcases sq_cases d hd with ⟨e1, e2, e3⟩ | ⟨e1, e2, e3⟩ | ⟨e1, e2, e3⟩ <;> rw [e1, e2, e3] at q1 q2 <;> simp at q1 q2 <;> omega
theorem sNumP_g {p : P4} (h : Bd 70368744177664 p) (w : World) (hT : LT β w) : Calls Tryz.prog 44 #[gp p] w (RetB (pointV p) w) := by
  obtain ⟨hx, hy⟩ := bd_half h
  exact sNum_any (gr_self p.a p.b) (g_bound (bd2_mono hx (by decide))) (by have := gK_le p.a p.b; omega) (gr_self p.c p.d) (g_bound (bd2_mono hy (by decide))) (by have := gK_le p.c p.d; omega) w hT
theorem vL_split' {d a b k : Int} (h : vL d a b k = true) : ∃ n : Nat, d = n ∧ n < 8 ∧ validB a b k = true := by
  unfold vL at h; rw [Bool.and_eq_true] at h
  have := h.1
  simp [inB] at this
  exact ⟨d.toNat, by omega, by omega, h.2⟩
end Go.Proofs.YtafbdnjabgfjeaaGreatDoor
