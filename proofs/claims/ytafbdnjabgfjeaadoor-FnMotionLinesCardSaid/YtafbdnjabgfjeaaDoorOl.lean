/- Moved lines: both sides answer the same line, or none; the walk of the law. (The lemmas on feet are those of XGzf, without its imports.) -/
import Derived.Test.YtafbdnjabgfjeaaDoorAct
import Derived.Test.YtafbdnjabgfjeaaDoorGl
import Derived.Test.YtafbdnjabgfjeaaDoorGdiv
import Derived.Test.YtafbdnjabgfjeaaDoorGyc
import Derived.Test.YtafbdnjabgfjeaaDoorOv
namespace Go.Proofs.YtafbdnjabgfjeaaDoor
namespace MoveL
open Go Go.RowKit OriM
variable {β : Bool}

def sP' (d : Nat) : P4 := ⟨xA d * 65536, xB d * 65536, yA d * 65536, yB d * 65536⟩
theorem dv_gp' (d : Nat) : gp (sP' d) = dv d := by
  obtain ⟨h1, h2, h3⟩ := gA_int (xA d) (xB d)
  obtain ⟨g1, g2, g3⟩ := gA_int (yA d) (yB d)
  unfold gp sP'
  simp only [h1, h2, h3, g1, g2, g3]; rfl
theorem sP'_bd {d : Nat} (hd : d < 16) : Bd 65536 (sP' d) := by
  have := small_vec d hd
  unfold Bd sP'; simp only; omega

/-- The square of a normal, on both sides. -/
theorem sq_dot (d : Nat) : dotA d (sP' d) = sqA d * 65536 ∧ dotB d (sP' d) = sqB d * 65536 := by
  unfold dotA dotB sqA sqB mA mB sP'
  constructor <;> grind
theorem vsq_g {d : Nat} (hd : d < 16) (w : World) (hT : LT β w) : Calls Tryd.prog 117 #[dv d, dv d] w (RetB (num (sqA d) (sqB d) 0) w) := by
  have h := vdot_g hd (bd_mono (sP'_bd hd) (by decide)) w hT
  rw [dv_gp', (sq_dot d).1, (sq_dot d).2, gv_int] at h
  exact h
theorem sMul_small {a b c d : Int} (h1 : -1 ≤ a ∧ a ≤ 1 ∧ -1 ≤ b ∧ b ≤ 1) (s : Small c d) (w : World) : Calls Tryd.prog 132 #[num a b 0, num c d 0] w (RetB (gv (mA c d a b * 65536) (mB c d a b * 65536)) w) := by
  have h := sMul_g (A := a * 65536) (B := b * 65536) (c := c) (d := d) (by unfold Bd2; omega) s w
  rw [gv_int] at h
  rw [show mA c d (a * 65536) (b * 65536) = mA c d a b * 65536 by unfold mA; grind, show mB c d (a * 65536) (b * 65536) = mB c d a b * 65536 by unfold mB; grind] at h
  exact h
theorem sSquare_g {d : Nat} (hd : d < 16) (w : World) (hT : LT β w) : Calls Tryd.prog 139 #[.int .i64 d] w (RetB (num (sqA d) (sqB d) 0) w) := by
  obtain ⟨s1, s2, s3, s4, s5, s6, s7, s8⟩ := small_vec d hd
  obtain ⟨sx, sy⟩ := small_dv hd
  have V := fun w (_ : LT β w) => svec_any d (by omega) w
  rw [Nat.mod_eq_of_lt hd] at V
  have bx : Bd2 288230376151711744 (mA (xA d) (xB d) (xA d) (xB d) * 65536) (mB (xA d) (xB d) (xA d) (xB d) * 65536) := by
    have := mul_bd (A := xA d) (B := xB d) (M := 1) s1 s2 s3 s4 ⟨by omega, by omega, by omega, by omega⟩
    unfold Bd2 at *; omega
  have bY : Bd2 288230376151711744 (mA (yA d) (yB d) (yA d) (yB d) * 65536) (mB (yA d) (yB d) (yA d) (yB d) * 65536) := by
    have := mul_bd (A := yA d) (B := yB d) (M := 1) s5 s6 s7 s8 ⟨by omega, by omega, by omega, by omega⟩
    unfold Bd2 at *; omega
  have AD := fun w => gAdd_any bx bY w
  rw [show mA (xA d) (xB d) (xA d) (xB d) * 65536 + mA (yA d) (yB d) (yA d) (yB d) * 65536 = sqA d * 65536 by unfold sqA; grind, show mB (xA d) (xB d) (xA d) (xB d) * 65536 + mB (yA d) (yB d) (yA d) (yB d) * 65536 = sqB d * 65536 by unfold sqB; grind] at AD
  simp only [gv_int (sqA d) (sqB d)] at AD
  exact sSquare_core _ _ _ _ _ _ _ _ _ _ _ _ _ _ _ _ _ _ _ _ _ _ w hT (Lib.hid V) (Lib.hid fun w hT => sOf_any _ _ _ _ _ _ w hT)
    (Lib.hid fun w _ => sMul_small ⟨s1, s2, s3, s4⟩ sx w) (Lib.hid fun w _ => sMul_small ⟨s5, s6, s7, s8⟩ sy w) (Lib.hid fun w _ => AD w)

/-! ### Feet and reflections -/
theorem mulP_bd {d : Nat} (hd : d < 16) {A B M : Int} (h : Bd2 M A B) : Bd (3 * M) (mulP d A B) := by
  obtain ⟨s1, s2, s3, s4, s5, s6, s7, s8⟩ := small_vec d hd
  obtain ⟨p1, p2, p3, p4⟩ := mul_bd s1 s2 s3 s4 h
  obtain ⟨q1, q2, q3, q4⟩ := mul_bd s5 s6 s7 s8 h
  exact ⟨p1, p2, p3, p4, q1, q2, q3, q4⟩
theorem mulP_quot {d : Nat} {c e s : Int} {t : Nat} {A B A' B' : Int} (h : OriM.Quot c e s t A B A' B') : QuotP c e s t (mulP d A B) (mulP d A' B') := ⟨quot_mul _ _ h, quot_mul _ _ h⟩

/-- The program's and the model's foot of a line. -/
theorem ifoot_g {n : Nat} (hn : n < 8) {A B T1 T2 : Int} (hA : Bd2 8589934592 A B) (q : OriM.Quot (sqA (n + 4)) (sqB (n + 4)) 1 (sqT (n + 4)) A B T1 T2) (w : World) (hT : LT true w) :
    Calls Tryd.prog 59 #[gl n A B] w (RetB (gp (mulP (n + 4) T1 T2)) w) := by
  have NO := fun w (hT : LT true w) => normal_g (d := n) (by omega) A B w hT
  rw [Nat.mod_eq_of_lt (show n + 4 < 16 by omega)] at NO
  exact foot_core _ _ _ _ _ _ _ _ _ _ _ _ _ _ _ _ _ _ _ _ _ _ _ _ _ w hT (Lib.hid NO) (Lib.hid fun w hT => vtimes_g (by omega) (bd2_mono hA (by decide)) w hT) (Lib.hid fun w hT => vsq_g (by omega) w hT)
    (Lib.hid fun w hT => vover_g (sq_unit _ (by omega)) (bd_mono (mulP_bd (by omega) hA) (by decide)) (mulP_quot q) w hT)
theorem sfoot_g {n : Nat} (hn : n < 8) {A B T1 T2 : Int} (hA : Bd2 8589934592 A B) (q : OriM.Quot (sqA (n + 4)) (sqB (n + 4)) 1 (sqT (n + 4)) A B T1 T2) (w : World) (hT : LT β w) :
    Calls Tryd.prog 121 #[gl n A B] w (RetB (gp (mulP (n + 4) T1 T2)) w) := by
  have V := fun w (_ : LT β w) => svec_any (n + 4) (by omega) w
  rw [Nat.mod_eq_of_lt (show n + 4 < 16 by omega), show ((n + 4 : Nat) : Int) = (n : Int) + 4 by omega] at V
  have SQ := fun w (hT : LT β w) => sSquare_g (d := n + 4) (by omega) w hT
  rw [show ((n + 4 : Nat) : Int) = (n : Int) + 4 by omega] at SQ
  have bT := quot_bd (sq_unit (n + 4) (by omega)) hA q
  obtain ⟨sx, sy⟩ := small_dv (d := n + 4) (by omega)
  exact sFoot_core _ _ _ _ _ _ _ _ _ _ _ _ _ _ _ _ _ _ _ _ _ _ _ _ _ _ _ _ _ w hT (by omega) (by omega) (Lib.hid V) (Lib.hid fun w hT => sOf_any _ _ _ _ _ _ w hT) (Lib.hid SQ) (Lib.hid fun w _ => sDiv_g (sq_unit _ (by omega)) (bd2_mono hA (by decide)) q w)
    (Lib.hid fun w _ => sMul_g (bd2_mono bT (by decide)) sx w) (Lib.hid fun w _ => sMul_g (bd2_mono bT (by decide)) sy w)

theorem sq_cases : ∀ d, d < 16 → (sqA d = 1 ∧ sqB d = 0 ∧ sqT d = 0) ∨ (sqA d = 2 ∧ sqB d = 0 ∧ sqT d = 2) ∨ (sqA d = 4 ∧ sqB d = -2 ∧ sqT d = 3) := by decide
theorem sq_bd {d : Nat} (hd : d < 16) {A B A' B' M : Int} (h : Bd2 M A B) (q : OriM.Quot (sqA d) (sqB d) 1 (sqT d) A B A' B') : Bd2 M A' B' := by
  obtain ⟨q1, q2⟩ := q
  unfold Bd2 at *
  rcases sq_cases d hd with ⟨e1, e2, e3⟩ | ⟨e1, e2, e3⟩ | ⟨e1, e2, e3⟩ <;> rw [e1, e2, e3] at q1 q2 <;> simp at q1 q2 <;> omega
theorem mulP_ev (d : Nat) {A B : Int} (hA : A % 2 = 0) : Ev (mulP d A B) := by
  obtain ⟨u, rfl⟩ : ∃ u, A = 2 * u := ⟨A / 2, by omega⟩
  unfold Ev mulP mA
  simp only
  constructor
  · rw [show 2 * u * xA d + 2 * B * xB d = 2 * (u * xA d + B * xB d) by grind]; exact Int.mul_emod_right 2 _
  · rw [show 2 * u * yA d + 2 * B * yB d = 2 * (u * yA d + B * yB d) by grind]; exact Int.mul_emod_right 2 _
theorem dirV_in (t : Int) (f : Bool) (e : Int) : 0 ≤ dirV t f e ∧ dirV t f e < 16 := by
  unfold dirV; split <;> omega
theorem sthrough_g {e : Int} (h0 : 0 ≤ e) (h1 : e < 16) {g : Nat} (hg : e % 8 = (g : Int)) {p : P4} (hp : Bd 70368744177664 p) (w : World) (hT : LT β w) :
    Calls Tryd.prog 119 #[gp p, .int .i64 e] w (RetB (gl (g : Int) (dotA (g + 4) p) (dotB (g + 4) p)) w) := by
  have M := fun w => (smod_int e w).mono fun _ _ h => h.toB
  rw [show e % 16 = e by omega] at M
  have D := fun w (hT : LT β w) => sDot_g (d := g + 4) (by omega) hp w hT
  rw [Nat.mod_eq_of_lt (show g + 4 < 16 by omega), show ((g + 4 : Nat) : Int) = e % 8 + 4 by omega] at D
  rw [← hg]
  exact sThrough_core _ _ _ _ _ _ _ _ _ _ _ w hT h0 (by omega) (Lib.hid fun w _ => M w) (Lib.hid D)

end MoveL
open Go Go.RowKit OriM
end Go.Proofs.YtafbdnjabgfjeaaDoor
