/- The program's composed functions on the grid. -/
import Derived.Test.YtafbdnjabgfjeaaDoorGix
import Derived.Test.YtafbdnjabgfjeaaDoorGdv
import Derived.Test.YtafbdnjabgfjeaaDoorGxax
import Derived.Test.YtafbdnjabgfjeaaDoorGc
namespace Go.Proofs.YtafbdnjabgfjeaaDoor
open Go Go.RowKit OriM
variable {β : Bool}

theorem vectorOf_g (p : P4) (w : World) (hT : LT β w) : Calls Tryd.prog 64 #[gp p] w (RetB (gp p) w) := vectorOf_core _ _ _ _ _ _ w hT
theorem small_dv {d : Nat} (hd : d < 16) : Small (xA d) (xB d) ∧ Small (yA d) (yB d) := by
  have := small_vec d hd
  unfold Small; omega
theorem bd_half {M : Int} {p : P4} (h : Bd M p) : Bd2 M p.a p.b ∧ Bd2 M p.c p.d := by
  obtain ⟨h1, h2, h3, h4, h5, h6, h7, h8⟩ := h
  exact ⟨⟨h1, h2, h3, h4⟩, ⟨h5, h6, h7, h8⟩⟩
theorem bd2_mono {M N A B : Int} (h : Bd2 M A B) (hMN : M ≤ N) : Bd2 N A B := by unfold Bd2 at *; omega
theorem bd_mono {M N : Int} {p : P4} (h : Bd M p) (hMN : M ≤ N) : Bd N p := by unfold Bd at *; omega

theorem vdot_g {d : Nat} (hd : d < 16) {p : P4} (h : Bd 70368744177664 p) (w : World) (hT : LT β w) :
    Calls Tryd.prog 117 #[dv d, gp p] w (RetB (gv (dotA d p) (dotB d p)) w) := by
  obtain ⟨hx, hy⟩ := bd_half h
  obtain ⟨sx, sy⟩ := small_dv hd
  obtain ⟨s1, s2, s3, s4, s5, s6, s7, s8⟩ := small_vec d hd
  have px := mul_bd s1 s2 s3 s4 hx
  have py := mul_bd s5 s6 s7 s8 hy
  exact vdot_core _ _ _ _ _ _ _ _ _ _ _ _ _ _ _ _ _ _ _ _ _ w hT
    (Lib.hid fun w hT => wtimes_g' (bd2_mono hx (by decide)) sx w hT) (Lib.hid fun w hT => wtimes_g' (bd2_mono hy (by decide)) sy w hT)
    (Lib.hid fun w hT => wplus_g (bd2_mono px (by decide)) (bd2_mono py (by decide)) w hT)
theorem vcross_g {d : Nat} (hd : d < 16) {p : P4} (h : Bd 70368744177664 p) (w : World) (hT : LT β w) :
    Calls Tryd.prog 134 #[dv d, gp p] w (RetB (gv (crossA d p) (crossB d p)) w) := by
  obtain ⟨hx, hy⟩ := bd_half h
  obtain ⟨sx, sy⟩ := small_dv hd
  obtain ⟨s1, s2, s3, s4, s5, s6, s7, s8⟩ := small_vec d hd
  have px := mul_bd s1 s2 s3 s4 hy
  have py := mul_bd s5 s6 s7 s8 hx
  exact vcross_core _ _ _ _ _ _ _ _ _ _ _ _ _ _ _ _ _ _ _ _ _ w hT
    (Lib.hid fun w hT => wtimes_g' (bd2_mono hy (by decide)) sx w hT) (Lib.hid fun w hT => wtimes_g' (bd2_mono hx (by decide)) sy w hT)
    (Lib.hid fun w hT => wminus_g (bd2_mono px (by decide)) (bd2_mono py (by decide)) w hT)
theorem vminus_g {p q : P4} (h : Bd 70368744177664 p) (h' : Bd 70368744177664 q) (w : World) (hT : LT β w) :
    Calls Tryd.prog 137 #[gp p, gp q] w (RetB (gp (p.sub q)) w) := by
  obtain ⟨hx, hy⟩ := bd_half h
  obtain ⟨hx', hy'⟩ := bd_half h'
  exact vminus_core _ _ _ _ _ _ _ _ _ _ _ _ _ _ _ _ _ _ w hT (Lib.hid fun w hT => wminus_g (bd2_mono hx (by decide)) (bd2_mono hx' (by decide)) w hT) (Lib.hid fun w hT => wminus_g (bd2_mono hy (by decide)) (bd2_mono hy' (by decide)) w hT)
end Go.Proofs.YtafbdnjabgfjeaaDoor
