/- The program's composed functions on the grid. -/
import Derived.Test.YtafbdnjabgfjeaaDoorGi
import Derived.Test.YtafbdnjabgfjeaaDoorGdv
import Derived.Test.YtafbdnjabgfjeaaDoorGxa
import Derived.Test.YtafbdnjabgfjeaaDoorGc
namespace Go.Proofs.YtafbdnjabgfjeaaDoor
open Go Go.RowKit OriM
variable {β : Bool}

theorem vectorOf_g (p : P4) (w : World) (hT : LT β w) : Calls Tryd.prog 64 #[gp p] w (RetB (gp p) w) := vectorOf_core _ _ _ _ _ _ w hT
theorem dlineOf_g (d A B : Int) (w : World) (hT : LT β w) : Calls Tryd.prog 58 #[gl d A B] w (RetB (gl d A B) w) := dlineOf_core _ _ _ _ w hT

theorem small_dv {d : Nat} (hd : d < 16) : Small (xA d) (xB d) ∧ Small (yA d) (yB d) := by
  have := small_vec d hd
  unfold Small; omega
theorem bd_half {M : Int} {p : P4} (h : Bd M p) : Bd2 M p.a p.b ∧ Bd2 M p.c p.d := by
  obtain ⟨h1, h2, h3, h4, h5, h6, h7, h8⟩ := h
  exact ⟨⟨h1, h2, h3, h4⟩, ⟨h5, h6, h7, h8⟩⟩
theorem bd2_mono {M N A B : Int} (h : Bd2 M A B) (hMN : M ≤ N) : Bd2 N A B := by unfold Bd2 at *; omega
theorem bd_mono {M N : Int} {p : P4} (h : Bd M p) (hMN : M ≤ N) : Bd N p := by unfold Bd at *; omega

theorem vdot_g {d : Nat} (hd : d < 16) {p : P4} (h : Bd 70368744177664 p) (w : World) (hT : LT β w) :
    Calls Tryd.prog 117 #[dv d, gp p] w (RetB (gv (dotA d p) (dotB d p)) w) := by
  obtain ⟨hx, hy⟩ := bd_half h
  obtain ⟨sx, sy⟩ := small_dv hd
  obtain ⟨s1, s2, s3, s4, s5, s6, s7, s8⟩ := small_vec d hd
  have px := mul_bd s1 s2 s3 s4 hx
  have py := mul_bd s5 s6 s7 s8 hy
  exact vdot_core _ _ _ _ _ _ _ _ _ _ _ _ _ _ _ _ _ _ _ _ _ w hT
    (Lib.hid fun w hT => wtimes_g' (bd2_mono hx (by decide)) sx w hT) (Lib.hid fun w hT => wtimes_g' (bd2_mono hy (by decide)) sy w hT)
    (Lib.hid fun w hT => wplus_g (bd2_mono px (by decide)) (bd2_mono py (by decide)) w hT)
theorem vplus_g {p q : P4} (h : Bd 70368744177664 p) (h' : Bd 70368744177664 q) (w : World) (hT : LT β w) :
    Calls Tryd.prog 84 #[gp p, gp q] w (RetB (gp (p.add q)) w) := by
  obtain ⟨hx, hy⟩ := bd_half h
  obtain ⟨hx', hy'⟩ := bd_half h'
  exact vplus_core _ _ _ _ _ _ _ _ _ _ _ _ _ _ _ _ _ _ w hT (Lib.hid fun w hT => wplus_g (bd2_mono hx (by decide)) (bd2_mono hx' (by decide)) w hT) (Lib.hid fun w hT => wplus_g (bd2_mono hy (by decide)) (bd2_mono hy' (by decide)) w hT)
/-- Both coordinates over c + d r. -/
def QuotP (c d s : Int) (t : Nat) (p q : P4) : Prop := Quot c d s t p.a p.b q.a q.b ∧ Quot c d s t p.c p.d q.c q.d
theorem vover_g {p q : P4} {c d s : Int} {t : Nat} (u : Unit2 c d s t) (h : Bd 70368744177664 p) (hq : QuotP c d s t p q) (w : World) (hT : LT β w) :
    Calls Tryd.prog 85 #[gp p, num c d 0] w (RetB (gp q) w) := by
  obtain ⟨hx, hy⟩ := bd_half h
  exact vover_core _ _ _ _ _ _ _ _ _ _ _ _ _ _ _ w hT (Lib.hid fun w hT => wover_g u (bd2_mono hx (by decide)) hq.1 w hT) (Lib.hid fun w hT => wover_g u (bd2_mono hy (by decide)) hq.2 w hT)
/-- A vector of a direction times a number. -/
def mulP (d : Nat) (A B : Int) : P4 := ⟨mA (xA d) (xB d) A B, mB (xA d) (xB d) A B, mA (yA d) (yB d) A B, mB (yA d) (yB d) A B⟩
theorem vtimes_g {d : Nat} (hd : d < 16) {A B : Int} (h : Bd2 70368744177664 A B) (w : World) (hT : LT β w) :
    Calls Tryd.prog 115 #[dv d, gv A B] w (RetB (gp (mulP d A B)) w) := by
  obtain ⟨sx, sy⟩ := small_dv hd
  exact vtimes_core _ _ _ _ _ _ _ _ _ _ _ _ _ _ _ w hT (Lib.hid fun w hT => wtimes_g' (bd2_mono h (by decide)) sx w hT) (Lib.hid fun w hT => wtimes_g' (bd2_mono h (by decide)) sy w hT)

theorem normal_g {d : Nat} (hd : d < 16) (A B : Int) (w : World) (hT : LT true w) :
    Calls Tryd.prog 116 #[gl d A B] w (RetB (dv ((d + 4) % 16)) w) :=
  normal_core _ _ _ _ _ _ _ _ _ _ w hT (by omega) (by omega) (Lib.hid fun w hT => by
    have := dirvec_any (d + 4) (by omega) w hT
    rwa [show ((d + 4 : Nat) : Int) = (d : Int) + 4 by omega] at this)
theorem dlineAt_g {d : Nat} (hd : d < 24) {p : P4} (h : Bd 70368744177664 p) (w : World) (hT : LT true w) :
    Calls Tryd.prog 60 #[gp p, .int .i64 d] w (RetB (gl ((d % 16 : Nat) : Int) (dotA ((d + 4) % 16) p) (dotB ((d + 4) % 16) p)) w) := by
  have c := dlineAt_core (d : Int) _ _ _ _ _ _ _ _ _ _ _ _ _ _ _ w hT (by omega) (by omega) (Lib.hid fun w hT => by
    have := dirvec_any (d + 4) (by omega) w hT
    rwa [show ((d + 4 : Nat) : Int) = (d : Int) + 4 by omega] at this) (Lib.hid fun w hT => vdot_g (Nat.mod_lt _ (by decide)) h w hT)
  rw [show (d : Int) % 16 = ((d % 16 : Nat) : Int) by omega] at c
  exact c
/-- What is limited on the grid. -/
def gOk (A B : Int) : Bool := withinB (gA A B) (gB A B) (gK A B)
noncomputable def limV (A B : Int) : Value := if gOk A B then gv A B else num 0 0 0
theorem lim_g (A B : Int) : numOk (limA (gA A B) (gB A B) (gK A B)) (limB (gA A B) (gB A B) (gK A B)) (limK (gA A B) (gB A B) (gK A B)) (limO (gA A B) (gB A B) (gK A B)) = .tuple #[limV A B, .bool (gOk A B)] := by
  obtain ⟨h1, h2, h3⟩ := low_of_canon (g_canon A B)
  unfold limA limB limK limO limV gOk gv
  simp only [Int.toNat_natCast, h1, h2, h3]
  by_cases h : withinB (gA A B) (gB A B) (gK A B) = true
  · simp [h]
  · simp [h]
theorem limited_g {A B : Int} (h : Bd2 1152921504606846976 A B) (w : World) (hT : TzTab w) : Calls Tryd.prog 104 #[gv A B] w (RetB (.tuple #[limV A B, .bool (gOk A B)]) w) := by
  have b := g_bound h
  have k := gK_le A B
  rw [← lim_g]
  exact limited_any _ _ _ w (by omega) (by omega) (by omega) (by omega) (by omega) (by omega) hT

/-- A line that is limited. -/
noncomputable def lineV (d A B : Int) : Value := .tuple #[if gOk A B then gl d A B else lnv 0 0 0 0, .bool (gOk A B)]
theorem line_g {d A B : Int} (h : Bd2 1152921504606846976 A B) (w : World) (hT : LT β w) :
    Calls Tryd.prog 62 #[gl d A B] w (RetB (lineV d A B) w) := by
  have HL := fun w (hT : LT β w) => limited_g h w hT.tz
  unfold lineV
  unfold limV at HL
  by_cases ho : gOk A B = true
  · rw [ho] at HL ⊢
    exact line_ok _ _ _ _ _ _ _ w hT (Lib.hid HL)
  · rw [Bool.eq_false_iff.2 ho] at HL ⊢
    exact line_no _ _ _ _ _ _ _ w hT (Lib.hid HL)
/-- A point that is limited. -/
def pOk (p : P4) : Bool := gOk p.a p.b && gOk p.c p.d
noncomputable def pointV (p : P4) : Value := .tuple #[if pOk p then gp p else pt 0 0 0 0 0 0, .bool (pOk p)]
theorem point_g {p : P4} (h : Bd 70368744177664 p) (w : World) (hT : LT β w) :
    Calls Tryd.prog 65 #[gp p] w (RetB (pointV p) w) := by
  obtain ⟨hx, hy⟩ := bd_half h
  have H1 := fun w (hT : LT β w) => limited_g (bd2_mono hx (show (70368744177664 : Int) ≤ 1152921504606846976 by decide)) w hT.tz
  have H2 := fun w (hT : LT β w) => limited_g (bd2_mono hy (show (70368744177664 : Int) ≤ 1152921504606846976 by decide)) w hT.tz
  unfold pointV pOk
  unfold limV at H1 H2
  by_cases o1 : gOk p.a p.b = true
  · by_cases o2 : gOk p.c p.d = true
    · rw [o1] at H1; rw [o2] at H2; rw [o1, o2]
      exact point_ok _ _ _ _ _ _ _ _ _ _ _ _ w hT (Lib.hid H1) (Lib.hid H2)
    · rw [o1] at H1; rw [Bool.eq_false_iff.2 o2] at H2; rw [o1, Bool.eq_false_iff.2 o2]
      exact point_no2 _ _ _ _ _ _ _ _ _ _ _ _ w hT (Lib.hid H1) (Lib.hid H2)
  · by_cases o2 : gOk p.c p.d = true
    · rw [Bool.eq_false_iff.2 o1] at H1; rw [o2] at H2; rw [Bool.eq_false_iff.2 o1, o2]
      exact point_no1 _ _ _ _ _ _ _ _ _ _ _ _ w hT (Lib.hid H1) (Lib.hid H2)
    · rw [Bool.eq_false_iff.2 o1] at H1; rw [Bool.eq_false_iff.2 o2] at H2; rw [Bool.eq_false_iff.2 o1, Bool.eq_false_iff.2 o2]
      exact point_no3 _ _ _ _ _ _ _ _ _ _ _ _ w hT (Lib.hid H1) (Lib.hid H2)
end Go.Proofs.YtafbdnjabgfjeaaDoor
