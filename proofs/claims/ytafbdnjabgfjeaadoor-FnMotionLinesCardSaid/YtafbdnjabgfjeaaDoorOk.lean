/- Turned points: the units of the eight turns; the program's matrices and places. -/
import Derived.Test.YtafbdnjabgfjeaaDoorOZC
import Derived.Test.YtafbdnjabgfjeaaDoorGdv
import Derived.Test.YtafbdnjabgfjeaaDoorGi
import Derived.Test.YtafbdnjabgfjeaaDoorGe
namespace Go.Proofs.YtafbdnjabgfjeaaDoor
open Go Go.RowKit OriM
variable {β : Bool}

/-- The cosine of j eighths of a turn: uc + ud * r / 2. -/
def uc : Nat → Int
  | 0 => 1 | 4 => -1 | _ => 0
def ud : Nat → Int
  | 1 => 1 | 3 => -1 | 5 => -1 | 7 => 1 | _ => 0
def ul : Nat → Nat
  | 1 => 1 | 3 => 1 | 5 => 1 | 7 => 1 | _ => 0
def us (j : Nat) : Nat := (j + 6) % 8
def uA (j : Nat) (A B : Int) : Int := A * uc j + B * ud j
def uB (j : Nat) (A B : Int) : Int := B * uc j + A / 2 * ud j
/-- The unit vector times a number. -/
def uP (j : Nat) (A B : Int) : P4 := ⟨uA j A B, uB j A B, uA (us j) A B, uB (us j) A B⟩
abbrev unitV (j : Nat) : Value := .agg #[.int .i64 (uc j), .int .i64 (ud j), .int .i64 (ul j), .int .i64 (uc (us j)), .int .i64 (ud (us j)), .int .i64 (ul (us j))]
def upI (t : Nat) (f : Bool) : Nat := if f then (t + 6) % 8 else (t + 2) % 8
theorem us_lt (j : Nat) : us j < 8 := by unfold us; omega
theorem upI_lt (t : Nat) (f : Bool) : upI t f < 8 := by unfold upI; split <;> omega

theorem small_u {j : Nat} (hj : j < 8) : Small (uc j) (ud j) := by
  unfold Small
  rcases lt8 hj with rfl | rfl | rfl | rfl | rfl | rfl | rfl | rfl <;> decide
theorem ul_le {j : Nat} (hj : j < 8) : ul j ≤ 1 := by
  rcases lt8 hj with rfl | rfl | rfl | rfl | rfl | rfl | rfl | rfl <;> decide
theorem u_mul {j : Nat} (hj : j < 8) {A : Int} (B : Int) (hA : A % 2 = 0) : A * uc j + 2 * B * ud j = uA j A B * 2 ^ ul j ∧ A * ud j + B * uc j = uB j A B * 2 ^ ul j := by
  unfold uA uB
  rcases lt8 hj with rfl | rfl | rfl | rfl | rfl | rfl | rfl | rfl <;> simp [uc, ud, ul] <;> omega
theorem u_bd {j : Nat} (hj : j < 8) {A B M : Int} (h : Bd2 M A B) : Bd2 M (uA j A B) (uB j A B) := by
  unfold Bd2 uA uB at *
  rcases lt8 hj with rfl | rfl | rfl | rfl | rfl | rfl | rfl | rfl <;> simp [uc, ud] <;> omega
theorem uP_bd {j : Nat} (hj : j < 8) {A B M : Int} (h : Bd2 M A B) : Bd M (uP j A B) := by
  obtain ⟨h1, h2, h3, h4⟩ := u_bd hj h
  obtain ⟨g1, g2, g3, g4⟩ := u_bd (us_lt j) h
  exact ⟨h1, h2, h3, h4, g1, g2, g3, g4⟩

theorem wtimes_u {j : Nat} (hj : j < 8) {A B : Int} (hA : A % 2 = 0) (h : Bd2 1125899906842624 A B) (w : World) (hT : LT β w) :
    Calls Tryd.prog 103 #[num (uc j) (ud j) (ul j : Nat), gv A B] w (RetB (gv (uA j A B) (uB j A B)) w) := by
  have k := gK_le A B
  have l := ul_le hj
  obtain ⟨e1, e2⟩ := u_mul hj B hA
  have g := gr_half (ul j) (gr_times' (uc j) (ud j) (gr_self A B)) e1 e2
  exact wtimes_core _ _ _ _ _ _ _ _ _ _ _ _ w hT (Lib.hid fun w _ => gtimes_val' (g_bound h) (small_u hj) (by omega) (by omega) (by omega) (by omega) w)
    (Lib.hid fun w hT => glow_any (by omega) (by omega) (by rw [show ((ul j : Int) + (gK A B : Int)).toNat = gK A B + ul j by omega]; exact g) w hT.tz)
theorem vtimes_u {j : Nat} (hj : j < 8) {A B : Int} (hA : A % 2 = 0) (h : Bd2 1125899906842624 A B) (w : World) (hT : LT β w) :
    Calls Tryd.prog 115 #[unitV j, gv A B] w (RetB (gp (uP j A B)) w) :=
  vtimes_core _ _ _ _ _ _ _ _ _ _ _ _ _ _ _ w hT (Lib.hid fun w hT => wtimes_u hj hA h w hT) (Lib.hid fun w hT => wtimes_u (us_lt j) hA h w hT)

/-! ### The unit vectors -/
theorem gvh {c : Int} (hc : c = 1 ∨ c = -1) : gv 0 (c * 32768) = num 0 c 1 := by
  have h : Gr 0 c 1 0 (c * 32768) := ⟨by simp, by rcases hc with rfl | rfl <;> decide⟩
  obtain ⟨h1, h2, h3⟩ := gr_of_canon h (by unfold Canon; rcases hc with rfl | rfl <;> omega)
  unfold gv; rw [← h1, ← h2, ← h3]; rfl
theorem wtimes_h {c : Int} (hc : c = 1 ∨ c = -1) (w : World) (hT : LT β w) :
    Calls Tryd.prog 103 #[num c 0 0, num 0 1 1] w (RetB (num 0 c 1) w) := by
  rw [← gvh hc]
  have g : Gr (c * 0 + 2 * 0 * 1) (c * 1 + 0 * 0) 1 0 (c * 32768) := ⟨by simp, by rcases hc with rfl | rfl <;> decide⟩
  exact wtimes_core _ _ _ _ _ _ _ _ _ _ _ _ w hT (Lib.hid fun w _ => gtimes_val (by rcases hc with rfl | rfl <;> (unfold Bd2; decide)) (by unfold Small; decide) (by omega) (by omega) (by omega) (by omega) w)
    (Lib.hid fun w hT => glow_any (by omega) (by omega) g w hT.tz)
theorem vtimes_h {c d : Int} (hc : c = 1 ∨ c = -1) (hd : d = 1 ∨ d = -1) (w : World) (hT : LT β w) :
    Calls Tryd.prog 115 #[sv c 0 d 0, num 0 1 1] w (RetB (.agg #[.int .i64 0, .int .i64 c, .int .i64 1, .int .i64 0, .int .i64 d, .int .i64 1]) w) :=
  vtimes_core _ _ _ _ _ _ _ _ _ _ _ _ _ _ _ w hT (Lib.hid fun w hT => wtimes_h hc w hT) (Lib.hid fun w hT => wtimes_h hd w hT)
theorem unit_any {j : Nat} (hj : j < 8) (w : World) (hT : LT true w) : Calls Tryd.prog 114 #[.int .i64 (2 * j : Nat)] w (RetB (unitV j) w) := by
  rcases lt8 hj with rfl | rfl | rfl | rfl | rfl | rfl | rfl | rfl
  · exact unit_0 _ _ _ _ _ _ w hT (Lib.hid fun w hT => dirvec_0 w hT)
  · exact unit_2 _ _ _ _ _ _ _ _ _ _ _ _ w hT (Lib.hid fun w hT => dirvec_2 w hT) (Lib.hid fun w hT => vtimes_h (.inl rfl) (.inl rfl) w hT)
  · exact unit_4 _ _ _ _ _ _ w hT (Lib.hid fun w hT => dirvec_4 w hT)
  · exact unit_6 _ _ _ _ _ _ _ _ _ _ _ _ w hT (Lib.hid fun w hT => dirvec_6 w hT) (Lib.hid fun w hT => vtimes_h (.inr rfl) (.inl rfl) w hT)
  · exact unit_8 _ _ _ _ _ _ w hT (Lib.hid fun w hT => dirvec_8 w hT)
  · exact unit_10 _ _ _ _ _ _ _ _ _ _ _ _ w hT (Lib.hid fun w hT => dirvec_10 w hT) (Lib.hid fun w hT => vtimes_h (.inr rfl) (.inr rfl) w hT)
  · exact unit_12 _ _ _ _ _ _ w hT (Lib.hid fun w hT => dirvec_12 w hT)
  · exact unit_14 _ _ _ _ _ _ _ _ _ _ _ _ w hT (Lib.hid fun w hT => dirvec_14 w hT) (Lib.hid fun w hT => vtimes_h (.inl rfl) (.inr rfl) w hT)

/-! ### Places -/
/-- A matrix as a value. -/
noncomputable def matV (i u : Nat) (s : P4) : Value := .agg #[.int .i64 (uc i), .int .i64 (ud i), .int .i64 (ul i), .int .i64 (uc (us i)), .int .i64 (ud (us i)), .int .i64 (ul (us i)),
  .int .i64 (uc u), .int .i64 (ud u), .int .i64 (ul u), .int .i64 (uc (us u)), .int .i64 (ud (us u)), .int .i64 (ul (us u)),
  .int .i64 (gA s.a s.b), .int .i64 (gB s.a s.b), .int .i64 (gK s.a s.b), .int .i64 (gA s.c s.d), .int .i64 (gB s.c s.d), .int .i64 (gK s.c s.d)]
def Ev (p : P4) : Prop := p.a % 2 = 0 ∧ p.c % 2 = 0
/-- Where a motion moves p: the program's way. -/
def mP (i u : Nat) (s p : P4) : P4 := ((uP i p.a p.b).add (uP u p.c p.d)).add s
theorem add_bd {p q : P4} {M N : Int} (h : Bd M p) (g : Bd N q) : Bd (M + N) (p.add q) := by
  unfold Bd P4.add at *; simp only; omega
theorem place_g {i u : Nat} (hi : i < 8) (hu : u < 8) {s p : P4} (hs : Bd 8589934592 s) (hp : Bd 1099511627776 p) (he : Ev p) (w : World) (hT : LT β w) :
    Calls Tryd.prog 57 #[matV i u s, gp p] w (RetB (gp (mP i u s p)) w) := by
  obtain ⟨hx, hy⟩ := bd_half hp
  have b1 := uP_bd hi hx
  have b2 := uP_bd hu hy
  have b3 := add_bd b1 b2
  exact place_core _ _ _ _ _ _ _ _ _ _ _ _ _ _ _ _ _ _ _ _ _ _ _ _ _ _ _ _ _ _ _ _ _ _ _ _ _ _ _ _ _ _ _ _ _ _ _ _ w hT
    (Lib.hid fun w hT => vtimes_u hi he.1 (bd2_mono hx (by decide)) w hT) (Lib.hid fun w hT => vtimes_u hu he.2 (bd2_mono hy (by decide)) w hT)
    (Lib.hid fun w hT => vplus_g (bd_mono b1 (by decide)) (bd_mono b2 (by decide)) w hT) (Lib.hid fun w hT => vplus_g (bd_mono b3 (by decide)) (bd_mono hs (by decide)) w hT)
end Go.Proofs.YtafbdnjabgfjeaaDoor
