/- What FnMotions calls, in one bundle: composed motions act one behind the other, inverted ones undo. -/
import Derived.Test.YtafbdnjabgfjeaaGreatDoorOk
import Derived.Test.YtafbdnjabgfjeaaGreatDoorOt
import Derived.Test.YtafbdnjabgfjeaaGreatDoorOe
import Derived.Test.YtafbdnjabgfjeaaGreatDoorOd
import Derived.Test.YtafbdnjabgfjeaaGreatDoorOp
import Derived.Test.YtafbdnjabgfjeaaGreatDoorOxx
import Derived.Test.YtafbdnjabgfjeaaGreatDoorOg
import Derived.Test.YtafbdnjabgfjeaaGreatDoorGl
import Derived.Deep.RegionHeld3
import Derived.Deep.DeepCutAuto
import Derived.Deep.DrawnRows
import Derived.Deep.MidRow
section
namespace Go.Proofs.YtafbdnjabgfjeaaGreatDoor
open Go Go.RowKit OriM
variable {β : Bool}

/-- Both ways of turning a point. -/
theorem turn_eq {t : Nat} (ht : t < 8) (f : Bool) (p : P4) (he : Ev p) : tR t (rotN (t / 2) (flP f p)) = (uP t p.a p.b).add (uP (upI t f) p.c p.d) := by
  obtain ⟨a, b, c, d⟩ := p
  obtain ⟨h1, h2⟩ := he
  simp only at h1 h2
  cases f <;> rcases lt8 ht with rfl | rfl | rfl | rfl | rfl | rfl | rfl | rfl <;> simp [tR, rotN, rot, flP, halfP', uP, uA, uB, uc, ud, us, upI, P4.add] <;> omega

theorem sturn_g {t : Nat} (ht : t < 8) (f : Bool) {p : P4} (hb : Bd 1099511627776 p) (he : Ev p) (w : World) (hT : LT β w) :
    Calls Tryz.prog 80 #[.int .i64 (t : Int), .bool f, gp p] w (RetB (gp ((uP t p.a p.b).add (uP (upI t f) p.c p.d))) w) := by
  rw [← turn_eq ht f p he]
  have e : (t : Int).tdiv 2 = ((t / 2 : Nat) : Int) := by
    rw [Int.tdiv_eq_ediv_of_nonneg (by omega)]; omega
  have o : (t : Int).tmod 2 = 0 ∨ (t : Int).tmod 2 = 1 := by
    rw [Int.tmod_eq_emod_of_nonneg (by omega)]; omega
  cases f
  · exact sTurn_no t (t / 2) p.a p.b p.c p.d w hT e (by omega) o hb he.1 he.2
  · exact sTurn_yes t (t / 2) p.a p.b p.c p.d w hT e (by omega) o hb he.1 he.2
theorem splus_g {p q : P4} (h : Bd 70368744177664 p) (h' : Bd 70368744177664 q) (w : World) (hT : LT β w) :
    Calls Tryz.prog 126 #[gp p, gp q] w (RetB (gp (p.add q)) w) := by
  obtain ⟨hx, hy⟩ := bd_half h
  obtain ⟨hx', hy'⟩ := bd_half h'
  exact sPlus_core _ _ _ _ _ _ _ _ _ _ _ _ _ _ _ _ _ _ w hT (Lib.hid fun w _ => gAdd_any (bd2_mono hx (by decide)) (bd2_mono hx' (by decide)) w) (Lib.hid fun w _ => gAdd_any (bd2_mono hy (by decide)) (bd2_mono hy' (by decide)) w)
/-- A motion on the grid, as a value. -/
abbrev motG (t : Int) (f : Bool) (s : P4) : Value := mot t f (gA s.a s.b) (gB s.a s.b) (gK s.a s.b) (gA s.c s.d) (gB s.c s.d) (gK s.c s.d)
theorem smove_g {t : Nat} (ht : t < 8) (f : Bool) {s p : P4} (hs : Bd 8589934592 s) (hb : Bd 1099511627776 p) (he : Ev p) (w : World) (hT : LT β w) :
    Calls Tryz.prog 103 #[motG t f s, gp p] w (RetB (gp (mP t (upI t f) s p)) w) := by
  obtain ⟨hx, hy⟩ := bd_half hb
  have b3 := add_bd (uP_bd ht hx) (uP_bd (upI_lt t f) hy)
  exact sMove_core _ _ _ _ _ _ _ _ _ _ _ _ _ _ _ _ _ _ _ _ _ _ _ _ _ _ w hT (Lib.hid fun w hT => sturn_g ht f hb he w hT) (Lib.hid fun w hT => splus_g (bd_mono b3 (by decide)) (bd_mono hs (by decide)) w hT)
theorem matrix_g {t : Nat} (ht : t < 8) (f : Bool) (s : P4) (w : World) (hT : LT true w) :
    Calls Tryz.prog 40 #[motG t f s] w (RetB (matV t (upI t f) s) w) := by
  have d1 : dirV t f 0 = ((2 * t : Nat) : Int) := by cases f <;> simp [dirV] <;> omega
  have d2 : dirV t f 4 = ((2 * upI t f : Nat) : Int) := by cases f <;> simp [dirV, upI] <;> omega
  have D1 := fun w (hT : LT true w) => dir_any (t := (t : Int)) f (gA s.a s.b) (gB s.a s.b) (gK s.a s.b) (gA s.c s.d) (gB s.c s.d) (gK s.c s.d) (e := 0) (by omega) (by omega) (by omega) (by omega) w hT
  have D2 := fun w (hT : LT true w) => dir_any (t := (t : Int)) f (gA s.a s.b) (gB s.a s.b) (gK s.a s.b) (gA s.c s.d) (gB s.c s.d) (gK s.c s.d) (e := 4) (by omega) (by omega) (by omega) (by omega) w hT
  rw [d1] at D1
  rw [d2] at D2
  exact matrixOf_core _ _ _ _ _ _ _ _ _ _ _ _ _ _ _ _ _ _ _ _ _ _ w hT (Lib.hid D1) (Lib.hid fun w hT => unit_any ht w hT) (Lib.hid D2) (Lib.hid fun w hT => unit_any (upI_lt t f) w hT)
    (Lib.hid fun w hT => shift_any _ _ _ _ _ _ _ _ w hT) (Lib.hid fun w hT => vectorOf_g s w hT)
theorem sNumQ_g {p : P4} (h : Bd 70368744177664 p) (w : World) (hT : LT β w) : Calls Tryz.prog 44 #[gp p] w (RetB (pointV p) w) := by
  obtain ⟨hx, hy⟩ := bd_half h
  exact sNum_any (gr_self p.a p.b) (g_bound (bd2_mono hx (by decide))) (by have := gK_le p.a p.b; omega) (gr_self p.c p.d) (g_bound (bd2_mono hy (by decide))) (by have := gK_le p.c p.d; omega) w hT
theorem mot_g {t : Int} {f : Bool} {a b k c d l : Int} (h : vP a b k c d l = true) : mot t f a b k c d l = motG t f (gP a b k c d l) := by
  unfold vP at h; rw [Bool.and_eq_true] at h
  obtain ⟨h1, h2, h3⟩ := valid_g h.1
  obtain ⟨g1, g2, g3⟩ := valid_g h.2
  unfold motG mot gP
  simp only
  rw [← h1, ← h2, ← h3, ← g1, ← g2, ← g3]

end Go.Proofs.YtafbdnjabgfjeaaGreatDoor
end
section
namespace Go.Proofs.YtafbdnjabgfjeaaGreatDoor
namespace Com
open Go Go.RowKit OriM
variable {β : Bool}

/-! ### Linear parts -/
def lin (i u : Nat) (p : P4) : P4 := (uP i p.a p.b).add (uP u p.c p.d)
theorem mP_lin (i u : Nat) (s p : P4) : mP i u s p = (lin i u p).add s := rfl
theorem uA_add {j : Nat} (hj : j < 8) (A B A' B' : Int) : uA j (A + A') (B + B') = uA j A B + uA j A' B' := by
  unfold uA
  rcases lt8 hj with rfl | rfl | rfl | rfl | rfl | rfl | rfl | rfl <;> simp [uc, ud] <;> omega
theorem uB_add {j : Nat} (hj : j < 8) (A B A' B' : Int) (h : A % 2 = 0) : uB j (A + A') (B + B') = uB j A B + uB j A' B' := by
  unfold uB
  rcases lt8 hj with rfl | rfl | rfl | rfl | rfl | rfl | rfl | rfl <;> simp [uc, ud] <;> omega
theorem lin_add {i u : Nat} (hi : i < 8) (hu : u < 8) {p : P4} (q : P4) (he : Ev p) : lin i u (p.add q) = (lin i u p).add (lin i u q) := by
  obtain ⟨a, b, c, d⟩ := p
  obtain ⟨a', b', c', d'⟩ := q
  obtain ⟨h1, h2⟩ := he
  simp only at h1 h2
  simp only [lin, uP, P4.add, uA_add hi, uA_add hu, uA_add (us_lt i), uA_add (us_lt u), uB_add hi _ _ _ _ h1, uB_add hu _ _ _ _ h2, uB_add (us_lt i) _ _ _ _ h1, uB_add (us_lt u) _ _ _ _ h2, P4.mk.injEq]
  omega
def pE : P4 := ⟨65536, 0, 0, 0⟩
def pN : P4 := ⟨0, 0, 65536, 0⟩
def p0 : P4 := ⟨0, 0, 0, 0⟩
theorem lin_E (i u : Nat) : lin i u pE = uP i 65536 0 := by simp [lin, pE, uP_zero, P4.add]
theorem lin_N (i u : Nat) : lin i u pN = uP u 65536 0 := by simp [lin, pN, uP_zero, P4.add]
theorem lin_0 (i u : Nat) : lin i u p0 = p0 := by simp [lin, p0, uP_zero, P4.add]
theorem add_sub (p q r : P4) : ((p.add q).add r).sub (q.add r) = p := by
  simp only [P4.add, P4.sub]; cases p; simp only [P4.mk.injEq]; omega
theorem zero_add' (p : P4) : p0.add p = p := by simp [p0, P4.add]
theorem ev_unit {j : Nat} (hj : j < 8) : Ev (uP j 65536 0) := by
  rcases lt8 hj with rfl | rfl | rfl | rfl | rfl | rfl | rfl | rfl <;> (unfold Ev; decide)
theorem ev_add {p q : P4} (h : Ev p) (g : Ev q) : Ev (p.add q) := by unfold Ev P4.add at *; simp only; omega
/-- The turn of a composed motion. -/
def cmp (t : Nat) (f : Bool) (j : Nat) : Nat := if f then (t + 8 - j) % 8 else (t + j) % 8
theorem cmp_lt (t : Nat) (f : Bool) (j : Nat) : cmp t f j < 8 := by unfold cmp; split <;> omega
theorem lin_unit {t : Nat} (ht : t < 8) (f : Bool) {j : Nat} (hj : j < 8) : lin t (upI t f) (uP j 65536 0) = uP (cmp t f j) 65536 0 := by
  cases f <;> rcases lt8 ht with rfl | rfl | rfl | rfl | rfl | rfl | rfl | rfl <;> rcases lt8 hj with rfl | rfl | rfl | rfl | rfl | rfl | rfl | rfl <;> rfl
theorem up_cmp {t e : Nat} (ht : t < 8) (he : e < 8) (f g : Bool) : cmp e g (upI t f) = upI (cmp e g t) (f != g) := by
  cases f <;> cases g <;> rcases lt8 ht with rfl | rfl | rfl | rfl | rfl | rfl | rfl | rfl <;> rcases lt8 he with rfl | rfl | rfl | rfl | rfl | rfl | rfl | rfl <;> rfl

/-- The second motion behind the first: its place of the origin, and of the units. -/
theorem both_unit {t e : Nat} (he : e < 8) (f g : Bool) {s : P4} (n : P4) (j : Nat) (hj : j < 8) (q : P4) (hq : lin t (upI t f) q = uP j 65536 0) :
    (mP e (upI e g) n (mP t (upI t f) s q)).sub (mP e (upI e g) n s) = uP (cmp e g j) 65536 0 := by
  rw [mP_lin, mP_lin, mP_lin, hq, lin_add he (upI_lt e g) s (ev_unit hj), lin_unit he g hj, add_sub]
theorem mP_zero (t u : Nat) (s : P4) : mP t u s p0 = s := by rw [mP_lin, lin_0, zero_add']
theorem lin_bd {i u : Nat} (hi : i < 8) (hu : u < 8) {p : P4} {M : Int} (h : Bd M p) : Bd (M + M) (lin i u p) := by
  obtain ⟨hx, hy⟩ := bd_half h
  exact add_bd (uP_bd hi hx) (uP_bd hu hy)

/-! ### The program's answer -/
theorem p0_gp : gp p0 = Value.agg #[.int .i64 0, .int .i64 0, .int .i64 0, .int .i64 0, .int .i64 0, .int .i64 0] := rfl
theorem pE_gp : gp pE = Value.agg #[.int .i64 1, .int .i64 0, .int .i64 0, .int .i64 0, .int .i64 0, .int .i64 0] := rfl
theorem pN_gp : gp pN = Value.agg #[.int .i64 0, .int .i64 0, .int .i64 0, .int .i64 1, .int .i64 0, .int .i64 0] := rfl
theorem ev_m64 {p : P4} (h : M64 p) : Ev p := by obtain ⟨h1, _, h3, _⟩ := h; exact ⟨by omega, by omega⟩
theorem tdiv2 (j : Nat) : ((2 * j : Nat) : Int).tdiv 2 = (j : Int) := by rw [Int.tdiv_eq_ediv_of_nonneg (by omega)]; omega

end Com
end Go.Proofs.YtafbdnjabgfjeaaGreatDoor
end
section
namespace Go.Proofs.YtafbdnjabgfjeaaGreatDoor
namespace Act
open Go Go.RowKit OriM Com
variable {β : Bool}

/-! ### Valid points and the grid -/
theorem up_g (A B : Int) : up16 (gA A B) (gK A B) = A ∧ up16 (gB A B) (gK A B) = B := by
  have h := gr_self A B
  have hk := gK_le A B
  unfold Gr Eqv at h
  unfold up16
  obtain ⟨q, hq⟩ : ∃ q : Nat, q = gK A B := ⟨_, rfl⟩
  rw [← hq] at h hk ⊢
  have e : (2 : Int) ^ 16 = 2 ^ (16 - q) * 2 ^ q := by rw [← Int.pow_add]; congr 1; omega
  have pos : (0 : Int) < 2 ^ q := Int.pow_pos (by decide)
  rw [e] at h
  obtain ⟨h1, h2⟩ := h
  rw [← Int.mul_assoc] at h1 h2
  exact ⟨Int.eq_of_mul_eq_mul_right (by omega) h1, Int.eq_of_mul_eq_mul_right (by omega) h2⟩
theorem gP_g (R : P4) : gP (gA R.a R.b) (gB R.a R.b) (gK R.a R.b) (gA R.c R.d) (gB R.c R.d) (gK R.c R.d) = R := by
  unfold gP
  simp only [Int.toNat_natCast]
  rw [(up_g R.a R.b).1, (up_g R.a R.b).2, (up_g R.c R.d).1, (up_g R.c R.d).2]
theorem ok_vP {R : P4} (h : pOk R = true) : vP (gA R.a R.b) (gB R.a R.b) (gK R.a R.b) (gA R.c R.d) (gB R.c R.d) (gK R.c R.d) = true := by
  unfold pOk at h; rw [Bool.and_eq_true] at h
  unfold vP; rw [Bool.and_eq_true]
  exact ⟨(valid_low R.a R.b 16).trans h.1, (valid_low R.c R.d 16).trans h.2⟩
theorem vP_ok {a b k c d l : Int} (h : vP a b k c d l = true) : pOk (gP a b k c d l) = true := by
  have h' := h
  unfold vP at h'; rw [Bool.and_eq_true] at h'
  obtain ⟨h1, h2, h3⟩ := valid_g h'.1
  obtain ⟨g1, g2, g3⟩ := valid_g h'.2
  have v1 : validB (gA (up16 a k.toNat) (up16 b k.toNat)) (gB (up16 a k.toNat) (up16 b k.toNat)) (gK (up16 a k.toNat) (up16 b k.toNat)) = true := by rw [← h1, ← h2, ← h3]; exact h'.1
  have v2 : validB (gA (up16 c l.toNat) (up16 d l.toNat)) (gB (up16 c l.toNat) (up16 d l.toNat)) (gK (up16 c l.toNat) (up16 d l.toNat)) = true := by rw [← g1, ← g2, ← g3]; exact h'.2
  unfold pOk; rw [Bool.and_eq_true]
  exact ⟨(valid_low _ _ 16).symm.trans v1, (valid_low _ _ 16).symm.trans v2⟩
theorem ok_bd {R : P4} (h : pOk R = true) : Bd 8589934592 R ∧ M64 R := by
  have := valid_bp (ok_vP h); rwa [gP_g] at this

end Act
end Go.Proofs.YtafbdnjabgfjeaaGreatDoor
end
section
namespace Go.Proofs.YtafbdnjabgfjeaaGreatDoor
namespace Com
open Go Go.RowKit OriM
variable {β : Bool}

/-- A motion, or none. -/
noncomputable def motOr (t : Nat) (f : Bool) (s : P4) : Value := if pOk s then .tuple #[motG t f s, .bool true] else .tuple #[mot 0 false 0 0 0 0 0 0, .bool false]
theorem imotion_g {t : Nat} (ht : t < 8) (f : Bool) {s : P4} (hs : Bd 70368744177664 s) (w : World) (hT : LT true w) :
    Calls Tryz.prog 30 #[matV t (upI t f) s] w (RetB (motOr t f s) w) := by
  have PT := fun w (hT : LT true w) => point_g hs w hT
  unfold pointV at PT
  unfold motOr
  by_cases ho : pOk s = true
  · rw [ho, if_pos rfl] at PT
    rw [if_pos ho]
    have h := motion_yes (β := true) _ _ _ _ _ _ _ _ _ _ _ _ _ _ _ _ _ _ _ _ _ _ _ _ _ _ _ _ _ _ _ _ _ _ _ _ _ _ _ _ _ _ _ _ (!f) w hT (tdiv2 t) (wrap_in (by omega) (by omega)) (Lib.hid PT) (Lib.hid fun w hT => dirTo_unit ht w hT)
      (Lib.hid fun w hT => matrix_g ht false s w hT) (Lib.hid fun w => mx_cmp ht f hs w)
    rw [Bool.not_not] at h
    exact h
  · rw [Bool.eq_false_iff.2 ho, if_neg (by decide)] at PT
    rw [if_neg ho]
    exact motion_no _ _ _ _ _ _ _ _ _ _ _ _ _ _ _ _ _ _ _ _ _ _ _ _ w hT (Lib.hid PT)

/-- The model's number of a motion. -/
theorem snumM_g (t : Nat) (f : Bool) {s : P4} (hs : Bd 70368744177664 s) (w : World) (hT : LT β w) :
    Calls Tryz.prog 32 #[motG t f s] w (RetB (motOr t f s) w) := by
  have PT := fun w (hT : LT β w) => sNumQ_g hs w hT
  unfold pointV at PT
  unfold motOr
  by_cases ho : pOk s = true
  · rw [ho, if_pos rfl] at PT
    rw [if_pos ho]
    exact sNumM_ok _ _ _ _ _ _ _ _ _ _ _ _ _ _ w hT (Lib.hid PT)
  · rw [Bool.eq_false_iff.2 ho, if_neg (by decide)] at PT
    rw [if_neg ho]
    exact sNumM_no _ _ _ _ _ _ _ _ _ _ _ _ _ _ w hT (Lib.hid PT)
theorem motOr_mot (t : Nat) (f : Bool) (s : P4) : ∃ (d za zb zk zc zd zl : Int) (o v : Bool), motOr t f s = .tuple #[mot d o za zb zk zc zd zl, .bool v] := by
  unfold motOr
  split
  · exact ⟨_, _, _, _, _, _, _, _, _, rfl⟩
  · exact ⟨_, _, _, _, _, _, _, _, _, rfl⟩
end Com
end Go.Proofs.YtafbdnjabgfjeaaGreatDoor
end
section
namespace Go.Proofs.YtafbdnjabgfjeaaGreatDoor
namespace Com
open Go Go.RowKit OriM
variable {β : Bool}

/-! ### Composed -/
theorem mxBoth_g {t e : Nat} (ht : t < 8) (he : e < 8) (f g : Bool) {s n : P4} (hs : Bd 8589934592 s) (hn : Bd 8589934592 n) (ms : Ev s) (X Y : Nat) (w : World) (hT : LT true w)
    (hB : Boxes2 X Y (Value.func (Fn.func 41) #[matV t (upI t f) s] #[]) (Value.func (Fn.func 41) #[matV e (upI e g) n] #[]) w) :
    Calls Tryz.prog 27 #[.func (.func 97) #[] #[Value.pointer (some ⟨X, 0, none⟩), Value.pointer (some ⟨Y, 0, none⟩)]] w (RetB (matV (cmp e g t) (upI (cmp e g t) (f != g)) (mP e (upI e g) n s)) w) := by
  have hl := upI_lt t f
  have hl' := upI_lt e g
  have PB : ∀ q : P4, Bd 65536 q → Ev q → Ev (lin t (upI t f) q) → ∀ w', Below w.heap.size w w' → Calls Tryz.prog 97 #[gp q, Value.pointer (some ⟨X, 0, none⟩), Value.pointer (some ⟨Y, 0, none⟩)] w' (RetB (gp (mP e (upI e g) n (mP t (upI t f) s q))) w') := by
    intro q bq eq el w' hb
    have hT' : LT true w' := LT.below hT hb (Nat.le_refl _)
    have B := hB.grow hb
    have b1 : Bd 1099511627776 (mP t (upI t f) s q) := bd_mono (add_bd (lin_bd ht hl bq) hs) (by decide)
    have e1 : Ev (mP t (upI t f) s q) := ev_add el ms
    exact both_core X Y _ _ _ _ _ _ _ _ _ _ _ _ _ _ _ _ _ _ _ _ w' B.1 B.2.1 B.2.2.1 B.2.2.2
      (Lib.hid fun w'' hb' => place_g ht hl hs (bd_mono bq (by decide)) eq w'' (LT.below hT' hb' (Nat.le_refl _))) (Lib.hid fun w'' hb' => place_g he hl' hn b1 e1 w'' (LT.below hT' hb' (Nat.le_refl _)))
  have L0 := PB p0 (by unfold Bd; decide) (by unfold Ev; decide) (by rw [lin_0]; unfold Ev; decide)
  have LE := PB pE (by unfold Bd; decide) (by unfold Ev; decide) (by rw [lin_E]; exact ev_unit ht)
  have LN := PB pN (by unfold Bd; decide) (by unfold Ev; decide) (by rw [lin_N]; exact ev_unit hl)
  rw [mP_zero] at L0
  have bO : Bd 70368744177664 (mP e (upI e g) n s) := bd_mono (add_bd (lin_bd he hl' hs) hn) (by decide)
  have bq : ∀ q : P4, Bd 65536 q → Bd 70368744177664 (mP e (upI e g) n (mP t (upI t f) s q)) := fun q h => bd_mono (add_bd (lin_bd he hl' (add_bd (lin_bd ht hl h) hs)) hn) (by decide)
  have ME := fun w (hT : LT true w) => vminus_g (bq pE (by unfold Bd; decide)) bO w hT
  have MN := fun w (hT : LT true w) => vminus_g (bq pN (by unfold Bd; decide)) bO w hT
  rw [both_unit he f g n t ht pE (lin_E _ _), unit_gp (cmp_lt _ _ _)] at ME
  rw [both_unit he f g n (upI t f) hl pN (lin_N _ _), up_cmp ht he f g, unit_gp (upI_lt _ _)] at MN
  exact mxBy_both X Y _ _ _ _ _ _ _ _ _ _ _ _ _ _ _ _ _ _ _ _ _ _ _ _ _ _ _ _ _ _ w (Lib.hid L0) (Lib.hid fun w' hb => unit_any (j := 0) (by decide) w' (LT.below hT hb (Nat.le_refl _))) (Lib.hid LE) (Lib.hid fun w' hb => ME w' (LT.below hT hb (Nat.le_refl _)))
    (Lib.hid fun w' hb => unit_any (j := 2) (by decide) w' (LT.below hT hb (Nat.le_refl _))) (Lib.hid LN) (Lib.hid fun w' hb => MN w' (LT.below hT hb (Nat.le_refl _)))

end Com
end Go.Proofs.YtafbdnjabgfjeaaGreatDoor
end
section
namespace Go.Proofs.YtafbdnjabgfjeaaGreatDoor
namespace Inv
open Go Go.RowKit OriM Com
variable {β : Bool}

/-! ### What a motion moves to a place -/
def src (i u : Nat) (q : P4) : P4 := ⟨uA i q.a q.b + uA (us i) q.c q.d, uB i q.a q.b + uB (us i) q.c q.d, uA u q.a q.b + uA (us u) q.c q.d, uB u q.a q.b + uB (us u) q.c q.d⟩
theorem src_add {i u : Nat} (hi : i < 8) (hu : u < 8) {p : P4} (q : P4) (he : Ev p) : src i u (p.add q) = (src i u p).add (src i u q) := by
  obtain ⟨a, b, c, d⟩ := p
  obtain ⟨a', b', c', d'⟩ := q
  obtain ⟨h1, h2⟩ := he
  simp only at h1 h2
  simp only [src, P4.add, uA_add hi, uA_add hu, uA_add (us_lt i), uA_add (us_lt u), uB_add hi _ _ _ _ h1, uB_add hu _ _ _ _ h1, uB_add (us_lt i) _ _ _ _ h2, uB_add (us_lt u) _ _ _ _ h2, P4.mk.injEq]
  omega
def ng (s : P4) : P4 := ⟨-s.a, -s.b, -s.c, -s.d⟩
theorem sub_ng (p s : P4) : p.sub s = p.add (ng s) := by simp only [P4.sub, P4.add, ng, P4.mk.injEq]; omega
theorem sub_ng0 (s : P4) : p0.sub s = ng s := by simp [P4.sub, p0, ng]
theorem add_subR (p q : P4) : (p.add q).sub q = p := by cases p; simp only [P4.add, P4.sub, P4.mk.injEq]; omega
theorem ev_ng {s : P4} (h : Ev s) : Ev (ng s) := by unfold Ev ng at *; simp only; omega
theorem ng_bd {s : P4} {M : Int} (h : Bd M s) : Bd M (ng s) := by unfold Bd ng at *; simp only; omega
def inv (t : Nat) (f : Bool) : Nat := if f then t else (8 - t) % 8
theorem inv_lt {t : Nat} (ht : t < 8) (f : Bool) : inv t f < 8 := by unfold inv; split <;> omega
theorem src_E {t : Nat} (ht : t < 8) (f : Bool) : src t (upI t f) pE = uP (inv t f) 65536 0 := by
  cases f <;> rcases lt8 ht with rfl | rfl | rfl | rfl | rfl | rfl | rfl | rfl <;> rfl
theorem src_N {t : Nat} (ht : t < 8) (f : Bool) : src t (upI t f) pN = uP (upI (inv t f) f) 65536 0 := by
  cases f <;> rcases lt8 ht with rfl | rfl | rfl | rfl | rfl | rfl | rfl | rfl <;> rfl
theorem src_ng {t : Nat} (ht : t < 8) (f : Bool) {s : P4} (h : Ev s) : src t (upI t f) (ng s) = ng (lin (inv t f) (upI (inv t f) f) s) := by
  obtain ⟨a, b, c, d⟩ := s
  obtain ⟨h1, h2⟩ := h
  simp only at h1 h2
  cases f <;> rcases lt8 ht with rfl | rfl | rfl | rfl | rfl | rfl | rfl | rfl <;> simp [src, ng, lin, uP, uA, uB, uc, ud, us, upI, inv, P4.add] <;> omega
theorem src_bd {i u : Nat} (hi : i < 8) (hu : u < 8) {p : P4} {M : Int} (h : Bd M p) : Bd (M + M) (src i u p) := by
  obtain ⟨hx, hy⟩ := bd_half h
  obtain ⟨a1, a2, a3, a4⟩ := u_bd hi hx
  obtain ⟨b1, b2, b3, b4⟩ := u_bd (us_lt i) hy
  obtain ⟨c1, c2, c3, c4⟩ := u_bd hu hx
  obtain ⟨d1, d2, d3, d4⟩ := u_bd (us_lt u) hy
  unfold Bd src; simp only; omega

theorem vdot_u {j : Nat} (hj : j < 8) {p : P4} (h : Bd 1125899906842624 p) (he : Ev p) (w : World) (hT : LT β w) :
    Calls Tryz.prog 74 #[unitV j, gp p] w (RetB (gv (uA j p.a p.b + uA (us j) p.c p.d) (uB j p.a p.b + uB (us j) p.c p.d)) w) := by
  obtain ⟨hx, hy⟩ := bd_half h
  exact vdot_core _ _ _ _ _ _ _ _ _ _ _ _ _ _ _ _ _ _ _ _ _ w hT (Lib.hid fun w hT => wtimes_u hj he.1 hx w hT) (Lib.hid fun w hT => wtimes_u (us_lt j) he.2 hy w hT)
    (Lib.hid fun w hT => wplus_g (bd2_mono (u_bd hj hx) (by decide)) (bd2_mono (u_bd (us_lt j) hy) (by decide)) w hT)
end Inv
end Go.Proofs.YtafbdnjabgfjeaaGreatDoor
end
section
namespace Go.Proofs.YtafbdnjabgfjeaaGreatDoor
namespace Act
open Go Go.RowKit OriM Com
variable {β : Bool}

theorem i3_valid {a b k : Int} (h : validB a b k = true) : I3 a b k := by
  obtain ⟨a1, a2, b1, b2, k0, k1⟩ := valid_bounds h
  constructor <;> omega
theorem i6_valid {a b k c d l : Int} (h : vP a b k c d l = true) : I6 a b k c d l := by
  unfold vP at h; rw [Bool.and_eq_true] at h
  exact ⟨i3_valid h.1, i3_valid h.2⟩
theorem ok_i6 {R : P4} (h : pOk R = true) : I6 (gA R.a R.b) (gB R.a R.b) (gK R.a R.b) (gA R.c R.d) (gB R.c R.d) (gK R.c R.d) := i6_valid (ok_vP h)
theorem ok_vM {t : Nat} (ht : t < 8) {R : P4} (h : pOk R = true) : vM t (gA R.a R.b) (gB R.a R.b) (gK R.a R.b) (gA R.c R.d) (gB R.c R.d) (gK R.c R.d) = true := by
  unfold vM; rw [Bool.and_eq_true]
  exact ⟨by simp [inB]; omega, ok_vP h⟩
theorem mP_bd {t u : Nat} (ht : t < 8) (hu : u < 8) {s p : P4} (hs : Bd 8589934592 s) (hp : Bd 8589934592 p) : Bd 70368744177664 (mP t u s p) := bd_mono (add_bd (lin_bd ht hu hp) hs) (by decide)

theorem mv_val {t : Nat} (ht : t < 8) (f : Bool) {s p : P4} (hs : pOk s = true) (hp : pOk p = true) (w : World) (hT : LT true w) :
    Calls Tryz.prog 11 #[motG t f s, gp p] w (RetB (pointV (mP t (upI t f) s p)) w) := by
  have hM := ok_vM ht hs
  have hv := ok_vP hp
  obtain ⟨bs, _⟩ := ok_bd hs
  obtain ⟨bp, mp⟩ := ok_bd hp
  have he := ev_m64 mp
  have bR := mP_bd ht (upI_lt t f) bs bp
  have IM := fun w (hT : LT true w) => matrix_g ht f s w hT
  have PL := fun w (hT : LT true w) => place_g ht (upI_lt t f) bs (bd_mono bp (by decide)) he w hT
  have PT := fun w (hT : LT true w) => point_g bR w hT
  have VO := fun w (hT : LT true w) => vectorOf_g p w hT
  generalize mP t (upI t f) s p = R at *
  unfold pointV at PT ⊢
  have HM := Lib.hid fun w (hT : LT true w) => hM ▸ iVM_any t f (ok_i6 hs) w hT
  have HP := Lib.hid fun w (hT : LT true w) => hv ▸ iVP_any (ok_i6 hp) w hT
  by_cases ho : pOk R = true
  · rw [ho, if_pos rfl] at PT ⊢
    exact iMvP_ok _ _ _ _ _ _ _ _ _ _ _ _ _ _ _ _ _ _ _ _ _ _ _ _ _ _ _ _ _ _ _ _ _ _ _ _ _ _ _ _ _ _ _ _ _ _ _ _ _ _ _ w hT HM HP (Lib.hid IM) (Lib.hid VO) (Lib.hid PL) (Lib.hid PT)
  · rw [Bool.eq_false_iff.2 ho, if_neg (by decide)] at PT ⊢
    exact iMvP_ok _ _ _ _ _ _ _ _ _ _ _ _ _ _ _ _ _ _ _ _ _ _ _ _ _ _ _ _ _ _ _ _ _ _ _ _ _ _ _ _ _ _ _ _ _ _ _ _ _ _ _ w hT HM HP (Lib.hid IM) (Lib.hid VO) (Lib.hid PL) (Lib.hid PT)
theorem pointV_ex (s : P4) : ∃ (za zb zk zc zd zl : Int) (v : Bool), pointV s = .tuple #[pt za zb zk zc zd zl, .bool v] ∧ (v = true → pOk s = true ∧ pt za zb zk zc zd zl = gp s) := by
  unfold pointV
  by_cases h : pOk s = true
  · rw [h, if_pos rfl]
    exact ⟨_, _, _, _, _, _, _, rfl, fun _ => ⟨rfl, rfl⟩⟩
  · rw [Bool.eq_false_iff.2 h, if_neg (by decide)]
    exact ⟨_, _, _, _, _, _, _, rfl, fun h => by cases h⟩

end Act
end Go.Proofs.YtafbdnjabgfjeaaGreatDoor
end
section
namespace Go.Proofs.YtafbdnjabgfjeaaGreatDoor
namespace Act
open Go Go.RowKit OriM Com _root_.Go.Proofs.YtafbdnjabgfjeaaGreatDoor.Inv
variable {β : Bool}

theorem cm_val {t e : Nat} (ht : t < 8) (he : e < 8) (f g : Bool) {s n : P4} (hs : pOk s = true) (hn : pOk n = true) (w : World) (hT : LT true w) :
    Calls Tryz.prog 13 #[motG t f s, motG e g n] w (RetB (motOr (cmp e g t) (f != g) (mP e (upI e g) n s)) w) := by
  have hM := ok_vM ht hs
  have hN := ok_vM he hn
  obtain ⟨bs, ms⟩ := ok_bd hs
  obtain ⟨bn, _⟩ := ok_bd hn
  have bO := mP_bd he (upI_lt e g) bn bs
  have M1 := fun w (hT : LT true w) => matrix_g ht f s w hT
  have M2 := fun w (hT : LT true w) => matrix_g he g n w hT
  have MB := fun X Y w (hT : LT true w) hB => mxBoth_g ht he f g bs bn (ev_m64 ms) X Y w hT hB
  have IM := fun w (hT : LT true w) => imotion_g (cmp_lt e g t) (f != g) bO w hT
  obtain ⟨r, za, zb, zk, zc, zd, zl, o, v, hr⟩ := motOr_mot (cmp e g t) (f != g) (mP e (upI e g) n s)
  rw [hr] at IM ⊢
  exact iCm_ok _ _ _ _ _ _ _ _ _ _ _ _ _ _ _ _ _ _ _ _ _ _ _ _ _ _ _ _ w hT (Lib.hid fun w hT => hM ▸ iVM_any t f (ok_i6 hs) w hT) (Lib.hid fun w hT => hN ▸ iVM_any e g (ok_i6 hn) w hT) (Lib.hid M1) (Lib.hid M2) (Lib.hid MB) (Lib.hid IM)
end Act
end Go.Proofs.YtafbdnjabgfjeaaGreatDoor
end
section
namespace Go.Proofs.YtafbdnjabgfjeaaGreatDoor
namespace Act
open Go Go.RowKit OriM Com _root_.Go.Proofs.YtafbdnjabgfjeaaGreatDoor.Inv

theorem motOr_ex (t : Nat) (f : Bool) (s : P4) : ∃ (r : Int) (o : Bool) (za zb zk zc zd zl : Int) (v : Bool), motOr t f s = .tuple #[mot r o za zb zk zc zd zl, .bool v] ∧ (v = true → pOk s = true ∧ mot r o za zb zk zc zd zl = motG t f s) := by
  unfold motOr
  by_cases h : pOk s = true
  · rw [if_pos h]
    exact ⟨_, _, _, _, _, _, _, _, _, rfl, fun _ => ⟨h, rfl⟩⟩
  · rw [if_neg h]
    exact ⟨_, _, _, _, _, _, _, _, _, rfl, fun h => by cases h⟩
end Act
end Go.Proofs.YtafbdnjabgfjeaaGreatDoor
end
