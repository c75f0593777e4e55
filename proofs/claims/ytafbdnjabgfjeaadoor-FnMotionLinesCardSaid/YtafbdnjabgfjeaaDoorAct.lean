/- Motions and directions on the grid: scalar products, sides and directions of moved points. -/
import Derived.Test.YtafbdnjabgfjeaaDoorOk
import Derived.Test.YtafbdnjabgfjeaaDoorOt
import Derived.Test.YtafbdnjabgfjeaaDoorOe
import Derived.Test.YtafbdnjabgfjeaaDoorOd
import Derived.Test.YtafbdnjabgfjeaaDoorGl
import Derived.Test.YtafbdnjabgfjeaaDoorGrid
section
namespace Go.Proofs.YtafbdnjabgfjeaaDoor
open Go Go.RowKit OriM
variable {β : Bool}

/-- Both ways of turning a point. -/
theorem turn_eq {t : Nat} (ht : t < 8) (f : Bool) (p : P4) (he : Ev p) : tR t (rotN (t / 2) (flP f p)) = (uP t p.a p.b).add (uP (upI t f) p.c p.d) := by
  obtain ⟨a, b, c, d⟩ := p
  obtain ⟨h1, h2⟩ := he
  simp only at h1 h2
  cases f <;> rcases lt8 ht with rfl | rfl | rfl | rfl | rfl | rfl | rfl | rfl <;> simp [tR, rotN, rot, flP, halfP', uP, uA, uB, uc, ud, us, upI, P4.add] <;> omega

theorem sturn_g {t : Nat} (ht : t < 8) (f : Bool) {p : P4} (hb : Bd 1099511627776 p) (he : Ev p) (w : World) (hT : LT β w) :
    Calls Tryd.prog 159 #[.int .i64 (t : Int), .bool f, gp p] w (RetB (gp ((uP t p.a p.b).add (uP (upI t f) p.c p.d))) w) := by
  rw [← turn_eq ht f p he]
  have e : (t : Int).tdiv 2 = ((t / 2 : Nat) : Int) := by
    rw [Int.tdiv_eq_ediv_of_nonneg (by omega)]; omega
  have o : (t : Int).tmod 2 = 0 ∨ (t : Int).tmod 2 = 1 := by
    rw [Int.tmod_eq_emod_of_nonneg (by omega)]; omega
  cases f
  · exact sTurn_no t (t / 2) p.a p.b p.c p.d w hT e (by omega) o hb he.1 he.2
  · exact sTurn_yes t (t / 2) p.a p.b p.c p.d w hT e (by omega) o hb he.1 he.2
theorem splus_g {p q : P4} (h : Bd 70368744177664 p) (h' : Bd 70368744177664 q) (w : World) (hT : LT β w) :
    Calls Tryd.prog 158 #[gp p, gp q] w (RetB (gp (p.add q)) w) := by
  obtain ⟨hx, hy⟩ := bd_half h
  obtain ⟨hx', hy'⟩ := bd_half h'
  exact sPlus_core _ _ _ _ _ _ _ _ _ _ _ _ _ _ _ _ _ _ w hT (Lib.hid fun w _ => gAdd_any (bd2_mono hx (by decide)) (bd2_mono hx' (by decide)) w) (Lib.hid fun w _ => gAdd_any (bd2_mono hy (by decide)) (bd2_mono hy' (by decide)) w)
/-- A motion on the grid, as a value. -/
abbrev motG (t : Int) (f : Bool) (s : P4) : Value := mot t f (gA s.a s.b) (gB s.a s.b) (gK s.a s.b) (gA s.c s.d) (gB s.c s.d) (gK s.c s.d)
theorem smove_g {t : Nat} (ht : t < 8) (f : Bool) {s p : P4} (hs : Bd 8589934592 s) (hb : Bd 1099511627776 p) (he : Ev p) (w : World) (hT : LT β w) :
    Calls Tryd.prog 120 #[motG t f s, gp p] w (RetB (gp (mP t (upI t f) s p)) w) := by
  obtain ⟨hx, hy⟩ := bd_half hb
  have b3 := add_bd (uP_bd ht hx) (uP_bd (upI_lt t f) hy)
  exact sMove_core _ _ _ _ _ _ _ _ _ _ _ _ _ _ _ _ _ _ _ _ _ _ _ _ _ _ w hT (Lib.hid fun w hT => sturn_g ht f hb he w hT) (Lib.hid fun w hT => splus_g (bd_mono b3 (by decide)) (bd_mono hs (by decide)) w hT)
theorem matrix_g {t : Nat} (ht : t < 8) (f : Bool) (s : P4) (w : World) (hT : LT true w) :
    Calls Tryd.prog 56 #[motG t f s] w (RetB (matV t (upI t f) s) w) := by
  have d1 : dirV t f 0 = ((2 * t : Nat) : Int) := by cases f <;> simp [dirV] <;> omega
  have d2 : dirV t f 4 = ((2 * upI t f : Nat) : Int) := by cases f <;> simp [dirV, upI] <;> omega
  have D1 := fun w (hT : LT true w) => dir_any (t := (t : Int)) f (gA s.a s.b) (gB s.a s.b) (gK s.a s.b) (gA s.c s.d) (gB s.c s.d) (gK s.c s.d) (e := 0) (by omega) (by omega) (by omega) (by omega) w hT
  have D2 := fun w (hT : LT true w) => dir_any (t := (t : Int)) f (gA s.a s.b) (gB s.a s.b) (gK s.a s.b) (gA s.c s.d) (gB s.c s.d) (gK s.c s.d) (e := 4) (by omega) (by omega) (by omega) (by omega) w hT
  rw [d1] at D1
  rw [d2] at D2
  exact matrixOf_core _ _ _ _ _ _ _ _ _ _ _ _ _ _ _ _ _ _ _ _ _ _ w hT (Lib.hid D1) (Lib.hid fun w hT => unit_any ht w hT) (Lib.hid D2) (Lib.hid fun w hT => unit_any (upI_lt t f) w hT)
    (Lib.hid fun w hT => shift_any _ _ _ _ _ _ _ _ w hT) (Lib.hid fun w hT => vectorOf_g s w hT)
theorem mot_g {t : Int} {f : Bool} {a b k c d l : Int} (h : vP a b k c d l = true) : mot t f a b k c d l = motG t f (gP a b k c d l) := by
  unfold vP at h; rw [Bool.and_eq_true] at h
  obtain ⟨h1, h2, h3⟩ := valid_g h.1
  obtain ⟨g1, g2, g3⟩ := valid_g h.2
  unfold motG mot gP
  simp only
  rw [← h1, ← h2, ← h3, ← g1, ← g2, ← g3]

end Go.Proofs.YtafbdnjabgfjeaaDoor
end
section
namespace Go.Proofs.YtafbdnjabgfjeaaDoor
namespace Com
open Go Go.RowKit OriM
variable {β : Bool}

/-! ### Linear parts -/
def lin (i u : Nat) (p : P4) : P4 := (uP i p.a p.b).add (uP u p.c p.d)
theorem mP_lin (i u : Nat) (s p : P4) : mP i u s p = (lin i u p).add s := rfl
theorem uA_add {j : Nat} (hj : j < 8) (A B A' B' : Int) : uA j (A + A') (B + B') = uA j A B + uA j A' B' := by
  unfold uA
  rcases lt8 hj with rfl | rfl | rfl | rfl | rfl | rfl | rfl | rfl <;> simp [uc, ud] <;> omega
theorem uB_add {j : Nat} (hj : j < 8) (A B A' B' : Int) (h : A % 2 = 0) : uB j (A + A') (B + B') = uB j A B + uB j A' B' := by
  unfold uB
  rcases lt8 hj with rfl | rfl | rfl | rfl | rfl | rfl | rfl | rfl <;> simp [uc, ud] <;> omega
theorem lin_add {i u : Nat} (hi : i < 8) (hu : u < 8) {p : P4} (q : P4) (he : Ev p) : lin i u (p.add q) = (lin i u p).add (lin i u q) := by
  obtain ⟨a, b, c, d⟩ := p
  obtain ⟨a', b', c', d'⟩ := q
  obtain ⟨h1, h2⟩ := he
  simp only at h1 h2
  simp only [lin, uP, P4.add, uA_add hi, uA_add hu, uA_add (us_lt i), uA_add (us_lt u), uB_add hi _ _ _ _ h1, uB_add hu _ _ _ _ h2, uB_add (us_lt i) _ _ _ _ h1, uB_add (us_lt u) _ _ _ _ h2, P4.mk.injEq]
  omega
def p0 : P4 := ⟨0, 0, 0, 0⟩
theorem add_sub (p q r : P4) : ((p.add q).add r).sub (q.add r) = p := by
  simp only [P4.add, P4.sub]; cases p; simp only [P4.mk.injEq]; omega
/-- The turn of a composed motion. -/
def cmp (t : Nat) (f : Bool) (j : Nat) : Nat := if f then (t + 8 - j) % 8 else (t + j) % 8
theorem lin_bd {i u : Nat} (hi : i < 8) (hu : u < 8) {p : P4} {M : Int} (h : Bd M p) : Bd (M + M) (lin i u p) := by
  obtain ⟨hx, hy⟩ := bd_half h
  exact add_bd (uP_bd hi hx) (uP_bd hu hy)

/-! ### The program's answer -/
theorem ev_m64 {p : P4} (h : M64 p) : Ev p := by obtain ⟨h1, _, h3, _⟩ := h; exact ⟨by omega, by omega⟩
end Com
end Go.Proofs.YtafbdnjabgfjeaaDoor
end
section
namespace Go.Proofs.YtafbdnjabgfjeaaDoor
namespace Act
open Go Go.RowKit OriM Com
variable {β : Bool}

/-! ### Valid points and the grid -/
theorem up_g (A B : Int) : up16 (gA A B) (gK A B) = A ∧ up16 (gB A B) (gK A B) = B := by
  have h := gr_self A B
  have hk := gK_le A B
  unfold Gr Eqv at h
  unfold up16
  obtain ⟨q, hq⟩ : ∃ q : Nat, q = gK A B := ⟨_, rfl⟩
  rw [← hq] at h hk ⊢
  have e : (2 : Int) ^ 16 = 2 ^ (16 - q) * 2 ^ q := by rw [← Int.pow_add]; congr 1; omega
  have pos : (0 : Int) < 2 ^ q := Int.pow_pos (by decide)
  rw [e] at h
  obtain ⟨h1, h2⟩ := h
  rw [← Int.mul_assoc] at h1 h2
  exact ⟨Int.eq_of_mul_eq_mul_right (by omega) h1, Int.eq_of_mul_eq_mul_right (by omega) h2⟩
theorem gP_g (R : P4) : gP (gA R.a R.b) (gB R.a R.b) (gK R.a R.b) (gA R.c R.d) (gB R.c R.d) (gK R.c R.d) = R := by
  unfold gP
  simp only [Int.toNat_natCast]
  rw [(up_g R.a R.b).1, (up_g R.a R.b).2, (up_g R.c R.d).1, (up_g R.c R.d).2]
theorem ok_vP {R : P4} (h : pOk R = true) : vP (gA R.a R.b) (gB R.a R.b) (gK R.a R.b) (gA R.c R.d) (gB R.c R.d) (gK R.c R.d) = true := by
  unfold pOk at h; rw [Bool.and_eq_true] at h
  unfold vP; rw [Bool.and_eq_true]
  exact ⟨(valid_low R.a R.b 16).trans h.1, (valid_low R.c R.d 16).trans h.2⟩
theorem vP_ok {a b k c d l : Int} (h : vP a b k c d l = true) : pOk (gP a b k c d l) = true := by
  have h' := h
  unfold vP at h'; rw [Bool.and_eq_true] at h'
  obtain ⟨h1, h2, h3⟩ := valid_g h'.1
  obtain ⟨g1, g2, g3⟩ := valid_g h'.2
  have v1 : validB (gA (up16 a k.toNat) (up16 b k.toNat)) (gB (up16 a k.toNat) (up16 b k.toNat)) (gK (up16 a k.toNat) (up16 b k.toNat)) = true := by rw [← h1, ← h2, ← h3]; exact h'.1
  have v2 : validB (gA (up16 c l.toNat) (up16 d l.toNat)) (gB (up16 c l.toNat) (up16 d l.toNat)) (gK (up16 c l.toNat) (up16 d l.toNat)) = true := by rw [← g1, ← g2, ← g3]; exact h'.2
  unfold pOk; rw [Bool.and_eq_true]
  exact ⟨(valid_low _ _ 16).symm.trans v1, (valid_low _ _ 16).symm.trans v2⟩
theorem ok_bd {R : P4} (h : pOk R = true) : Bd 8589934592 R ∧ M64 R := by
  have := valid_bp (ok_vP h); rwa [gP_g] at this

end Act
end Go.Proofs.YtafbdnjabgfjeaaDoor
end
section
namespace Go.Proofs.YtafbdnjabgfjeaaDoor
namespace Act
open Go Go.RowKit OriM Com
variable {β : Bool}

theorem i3_valid {a b k : Int} (h : validB a b k = true) : I3 a b k := by
  obtain ⟨a1, a2, b1, b2, k0, k1⟩ := valid_bounds h
  constructor <;> omega
theorem i6_valid {a b k c d l : Int} (h : vP a b k c d l = true) : I6 a b k c d l := by
  unfold vP at h; rw [Bool.and_eq_true] at h
  exact ⟨i3_valid h.1, i3_valid h.2⟩
theorem ok_i6 {R : P4} (h : pOk R = true) : I6 (gA R.a R.b) (gB R.a R.b) (gK R.a R.b) (gA R.c R.d) (gB R.c R.d) (gK R.c R.d) := i6_valid (ok_vP h)
theorem ok_vM {t : Nat} (ht : t < 8) {R : P4} (h : pOk R = true) : vM t (gA R.a R.b) (gB R.a R.b) (gK R.a R.b) (gA R.c R.d) (gB R.c R.d) (gK R.c R.d) = true := by
  unfold vM; rw [Bool.and_eq_true]
  exact ⟨by simp [inB]; omega, ok_vP h⟩
theorem mP_bd {t u : Nat} (ht : t < 8) (hu : u < 8) {s p : P4} (hs : Bd 8589934592 s) (hp : Bd 8589934592 p) : Bd 70368744177664 (mP t u s p) := bd_mono (add_bd (lin_bd ht hu hp) hs) (by decide)

theorem mv_val {t : Nat} (ht : t < 8) (f : Bool) {s p : P4} (hs : pOk s = true) (hp : pOk p = true) (w : World) (hT : LT true w) :
    Calls Tryd.prog 17 #[motG t f s, gp p] w (RetB (pointV (mP t (upI t f) s p)) w) := by
  have hM := ok_vM ht hs
  have hv := ok_vP hp
  obtain ⟨bs, _⟩ := ok_bd hs
  obtain ⟨bp, mp⟩ := ok_bd hp
  have he := ev_m64 mp
  have bR := mP_bd ht (upI_lt t f) bs bp
  have IM := fun w (hT : LT true w) => matrix_g ht f s w hT
  have PL := fun w (hT : LT true w) => place_g ht (upI_lt t f) bs (bd_mono bp (by decide)) he w hT
  have PT := fun w (hT : LT true w) => point_g bR w hT
  have VO := fun w (hT : LT true w) => vectorOf_g p w hT
  generalize mP t (upI t f) s p = R at *
  unfold pointV at PT ⊢
  have HM := Lib.hid fun w (hT : LT true w) => hM ▸ iVM_any t f (ok_i6 hs) w hT
  have HP := Lib.hid fun w (hT : LT true w) => hv ▸ iVP_any (ok_i6 hp) w hT
  by_cases ho : pOk R = true
  · rw [ho, if_pos rfl] at PT ⊢
    exact iMvP_ok _ _ _ _ _ _ _ _ _ _ _ _ _ _ _ _ _ _ _ _ _ _ _ _ _ _ _ _ _ _ _ _ _ _ _ _ _ _ _ _ _ _ _ _ _ _ _ _ _ _ _ w hT HM HP (Lib.hid IM) (Lib.hid VO) (Lib.hid PL) (Lib.hid PT)
  · rw [Bool.eq_false_iff.2 ho, if_neg (by decide)] at PT ⊢
    exact iMvP_ok _ _ _ _ _ _ _ _ _ _ _ _ _ _ _ _ _ _ _ _ _ _ _ _ _ _ _ _ _ _ _ _ _ _ _ _ _ _ _ _ _ _ _ _ _ _ _ _ _ _ _ w hT HM HP (Lib.hid IM) (Lib.hid VO) (Lib.hid PL) (Lib.hid PT)
theorem pointV_ex (s : P4) : ∃ (za zb zk zc zd zl : Int) (v : Bool), pointV s = .tuple #[pt za zb zk zc zd zl, .bool v] ∧ (v = true → pOk s = true ∧ pt za zb zk zc zd zl = gp s) := by
  unfold pointV
  by_cases h : pOk s = true
  · rw [h, if_pos rfl]
    exact ⟨_, _, _, _, _, _, _, rfl, fun _ => ⟨rfl, rfl⟩⟩
  · rw [Bool.eq_false_iff.2 h, if_neg (by decide)]
    exact ⟨_, _, _, _, _, _, _, rfl, fun h => by cases h⟩

end Act
end Go.Proofs.YtafbdnjabgfjeaaDoor
end
section
namespace Go.Proofs.YtafbdnjabgfjeaaDoor
open OriM

/-! ### Sums of positive numbers -/
theorem from16_spec {p : P4} {d : Nat} : ∀ (n e : Nat), dirFrom16 p n e = (d : Int) → (dotA ((d + 4) % 16) p = 0 ∧ dotB ((d + 4) % 16) p = 0) ∧ 0 < sgD d p
  | 0, _, h => by unfold dirFrom16 at h; omega
  | n + 1, e, h => by
    unfold dirFrom16 at h
    split at h
    · rename_i hc
      obtain rfl : e = d := by omega
      exact hc
    · exact from16_spec n (e + 1) h
theorem dirOf_spec {p : P4} {d : Nat} (h : dirOf p = (d : Int)) : (dotA ((d + 4) % 16) p = 0 ∧ dotB ((d + 4) % 16) p = 0) ∧ sgD d p = 1 := by
  rw [← dir_agree] at h
  obtain ⟨h1, h2⟩ := from16_spec 16 0 h
  refine ⟨h1, ?_⟩
  unfold sgD at *
  rcases sgn2_range (dotA d p) (dotB d p) with k | k | k <;> rw [k] at h2 ⊢ <;> omega
/-- The scalar product of two vectors of directions. -/
def ddA (e f : Nat) : Int := (xA e * xA f + 2 * (xB e * xB f)) + (yA e * yA f + 2 * (yB e * yB f))
def ddB (e f : Nat) : Int := (xA e * xB f + xB e * xA f) + (yA e * yB f + yB e * yA f)
theorem sq_pos : ∀ e, e < 16 → Q.sgn2 (ddA e e) (ddB e e) = 1 := by decide
end Go.Proofs.YtafbdnjabgfjeaaDoor
end
section
namespace Go.Proofs.YtafbdnjabgfjeaaDoor
namespace Act
open Go Go.RowKit OriM Com

/-- Parts that are multiples of 4. -/
def M4 (p : P4) : Prop := p.a % 4 = 0 ∧ p.b % 4 = 0 ∧ p.c % 4 = 0 ∧ p.d % 4 = 0
theorem m4_64 {p : P4} (h : M64 p) : M4 p := by unfold M64 at h; unfold M4; omega
theorem ev_m4 {p : P4} (h : M4 p) : Ev p := by obtain ⟨h1, _, h3, _⟩ := h; exact ⟨by omega, by omega⟩
/-- The direction d behind a motion. -/
def vN (t : Nat) (f : Bool) (d : Nat) : Nat := if f then (t * 2 + (16 - d)) % 16 else (t * 2 + d) % 16
theorem vN_dir (t : Nat) (f : Bool) {d : Nat} (hd : d < 16) : dirV t f d = (vN t f d : Int) := by
  unfold dirV vN; cases f <;> simp <;> omega
theorem vN_lt (t : Nat) (f : Bool) (d : Nat) : vN t f d < 16 := by unfold vN; split <;> omega
/-- The vector of the moved direction may be longer or shorter by r. -/
def fac (t d : Nat) : Nat := if t % 2 = 0 ∨ d % 2 = 1 then 0 else if d % 4 = 0 then 1 else 2
def fcA (k : Nat) (A B : Int) : Int := match k with | 0 => A | 1 => 2 * B | _ => B
def fcB (k : Nat) (A B : Int) : Int := match k with | 0 => B | 1 => A | _ => A / 2
theorem sgn_fc (k : Nat) {A B : Int} (hA : A % 2 = 0) : Q.sgn2 (fcA k A B) (fcB k A B) = Q.sgn2 A B := by
  match k with
  | 0 => rfl
  | 1 =>
    have h := Q.sgn2_mul A B 0 1
    rw [show A * 0 + 2 * (B * 1) = 2 * B by omega, show A * 1 + B * 0 = A by omega, show Q.sgn2 0 1 = 1 by decide, Int.mul_one] at h
    exact h
  | k + 2 =>
    have h := Q.sgn2_mul B (A / 2) 0 1
    rw [show B * 0 + 2 * (A / 2 * 1) = A by omega, show B * 1 + A / 2 * 0 = B by omega, show Q.sgn2 0 1 = 1 by decide, Int.mul_one] at h
    exact h.symm
theorem fc_zero (k : Nat) : fcA k 0 0 = 0 ∧ fcB k 0 0 = 0 := by
  match k with
  | 0 => exact ⟨rfl, rfl⟩
  | 1 => exact ⟨rfl, rfl⟩
  | k + 2 => exact ⟨rfl, rfl⟩
set_option maxHeartbeats 40000000 in
theorem dot_lin {t d : Nat} (ht : t < 8) (hd : d < 16) (f : Bool) {p : P4} (h : M4 p) :
    dotA (vN t f d) (lin t (upI t f) p) = fcA (fac t d) (dotA d p) (dotB d p) ∧ dotB (vN t f d) (lin t (upI t f) p) = fcB (fac t d) (dotA d p) (dotB d p) := by
  obtain ⟨a, b, c, e⟩ := p
  obtain ⟨h1, h2, h3, h4⟩ := h
  simp only at h1 h2 h3 h4
  obtain ⟨a, rfl⟩ : ∃ x, a = 4 * x := ⟨a / 4, by omega⟩
  obtain ⟨b, rfl⟩ : ∃ x, b = 4 * x := ⟨b / 4, by omega⟩
  obtain ⟨c, rfl⟩ : ∃ x, c = 4 * x := ⟨c / 4, by omega⟩
  obtain ⟨e, rfl⟩ : ∃ x, e = 4 * x := ⟨e / 4, by omega⟩
  clear h1 h2 h3 h4
  cases f <;> rcases lt8 ht with rfl | rfl | rfl | rfl | rfl | rfl | rfl | rfl <;> rcases lt16 hd with rfl | rfl | rfl | rfl | rfl | rfl | rfl | rfl | rfl | rfl | rfl | rfl | rfl | rfl | rfl | rfl <;>
    simp [lin, uP, uA, uB, uc, ud, us, upI, vN, fac, fcA, fcB, dotA, dotB, xA, xB, yA, yB, P4.add] <;> omega

/-! ### Which direction a vector has -/
theorem along_mod {d : Nat} (hd : d < 16) {p : P4} (h : dotA ((d + 4) % 16) p = 0 ∧ dotB ((d + 4) % 16) p = 0) : Along (d % 8) p := by
  by_cases h8 : d < 8
  · rw [Nat.mod_eq_of_lt h8]
    rw [Nat.mod_eq_of_lt (show d + 4 < 16 by omega)] at h
    exact h
  · obtain ⟨e, rfl⟩ : ∃ e, d = e + 8 := ⟨d - 8, by omega⟩
    rw [show (e + 8) % 8 = e by omega]
    exact (along_opp (by omega) p).1 h
theorem zero_sg {p : P4} (hz : zero p) (d : Nat) : sgD d p = 0 := by
  obtain ⟨h1, h2, h3, h4⟩ := hz
  unfold sgD
  rw [sgn2_zero']; simp [dotA, dotB, h1, h2, h3, h4]
theorem spec_one {d e : Nat} (hd : d < 16) (he : e < 16) {p : P4} (h : dotA ((d + 4) % 16) p = 0 ∧ dotB ((d + 4) % 16) p = 0) (hs : 0 < sgD d p)
    (g : dotA ((e + 4) % 16) p = 0 ∧ dotB ((e + 4) % 16) p = 0) (gs : 0 < sgD e p) : d = e := by
  rcases along_one (Nat.mod_lt d (by decide)) (Nat.mod_lt e (by decide)) (along_mod hd h) (along_mod he g) with k | k
  · by_cases h8 : d < 8
    · by_cases e8 : e < 8
      · omega
      · exfalso
        obtain rfl : e = d + 8 := by omega
        rw [sgD_opp h8] at gs; omega
    · by_cases e8 : e < 8
      · exfalso
        obtain rfl : d = e + 8 := by omega
        rw [sgD_opp e8] at hs; omega
      · omega
  · exfalso; rw [zero_sg k] at hs; omega
theorem from16_of {p : P4} {d : Nat} (hd : d < 16) (h : dotA ((d + 4) % 16) p = 0 ∧ dotB ((d + 4) % 16) p = 0) (hs : 0 < sgD d p) : ∀ (n e : Nat), e ≤ d → e + n = 16 → dirFrom16 p n e = (d : Int)
  | 0, e, h1, h2 => by omega
  | n + 1, e, h1, h2 => by
    unfold dirFrom16
    by_cases hc : (dotA ((e + 4) % 16) p = 0 ∧ dotB ((e + 4) % 16) p = 0) ∧ 0 < sgD e p
    · rw [if_pos hc, spec_one hd (by omega) h hs hc.1 hc.2]
    · rw [if_neg hc]
      have hne : e ≠ d := fun he => hc (by rw [he]; exact ⟨h, hs⟩)
      exact from16_of hd h hs n (e + 1) (by omega) (by omega)
theorem dirOf_of {p : P4} {d : Nat} (hd : d < 16) (h : dotA ((d + 4) % 16) p = 0 ∧ dotB ((d + 4) % 16) p = 0) (hs : 0 < sgD d p) : dirOf p = (d : Int) := by
  rw [← dir_agree]; exact from16_of hd h hs 16 0 (by omega) (by omega)
theorem dot_opp16 {d : Nat} (hd : d < 16) (p : P4) : dotA ((d + 8) % 16) p = -dotA d p ∧ dotB ((d + 8) % 16) p = -dotB d p := by
  by_cases h8 : d < 8
  · rw [Nat.mod_eq_of_lt (show d + 8 < 16 by omega)]; exact dot_opp h8 p
  · obtain ⟨e, rfl⟩ : ∃ e, d = e + 8 := ⟨d - 8, by omega⟩
    rw [show (e + 8 + 8) % 16 = e by omega, (dot_opp (by omega) p).1, (dot_opp (by omega) p).2, Int.neg_neg, Int.neg_neg]
    exact ⟨rfl, rfl⟩
theorem dot_ev {d : Nat} (hd : d < 16) {p : P4} (h : M4 p) : dotA d p % 2 = 0 := by
  obtain ⟨h1, h2, h3, h4⟩ := h
  rcases lt16 hd with rfl | rfl | rfl | rfl | rfl | rfl | rfl | rfl | rfl | rfl | rfl | rfl | rfl | rfl | rfl | rfl <;> simp [dotA, xA, xB, yA, yB] <;> omega
/-- The normal of a moved direction. -/
theorem dot_norm {t d : Nat} (ht : t < 8) (hd : d < 16) (f : Bool) {p : P4} (h : M4 p) : ∃ k : Nat,
    dotA ((vN t f d + 4) % 16) (lin t (upI t f) p) = fcA k (dotA ((d + 4) % 16) p) (dotB ((d + 4) % 16) p) * (if f then -1 else 1) ∧
    dotB ((vN t f d + 4) % 16) (lin t (upI t f) p) = fcB k (dotA ((d + 4) % 16) p) (dotB ((d + 4) % 16) p) * (if f then -1 else 1) := by
  have hd4 : (d + 4) % 16 < 16 := Nat.mod_lt _ (by decide)
  obtain ⟨h1, h2⟩ := dot_lin ht hd4 f h
  refine ⟨fac t ((d + 4) % 16), ?_⟩
  cases f
  · rw [show vN t false ((d + 4) % 16) = (vN t false d + 4) % 16 by unfold vN; simp; omega] at h1 h2
    rw [h1, h2]; simp
  · rw [show vN t true ((d + 4) % 16) = ((vN t true d + 4) % 16 + 8) % 16 by unfold vN; simp; omega] at h1 h2
    have hv : (vN t true d + 4) % 16 < 16 := Nat.mod_lt _ (by decide)
    rw [(dot_opp16 hv _).1] at h1
    rw [(dot_opp16 hv _).2] at h2
    simp only [if_true]
    constructor <;> omega
theorem dir_lin {t d : Nat} (ht : t < 8) (f : Bool) {p : P4} (hp : M4 p) (h : dirOf p = (d : Int)) (hd : d < 16) : dirOf (lin t (upI t f) p) = (vN t f d : Int) := by
  obtain ⟨⟨h1, h2⟩, h3⟩ := dirOf_spec h
  obtain ⟨k, n1, n2⟩ := dot_norm ht hd f hp
  obtain ⟨e1, e2⟩ := dot_lin ht hd f hp
  rw [h1, h2, (fc_zero k).1, Int.zero_mul] at n1
  rw [h1, h2, (fc_zero k).2, Int.zero_mul] at n2
  refine dirOf_of (vN_lt t f d) ⟨n1, n2⟩ ?_
  unfold sgD at h3 ⊢
  rw [e1, e2, sgn_fc _ (dot_ev hd hp), h3]; decide
theorem add_sub4 (p q : P4) : (q.sub p).add p = q := by
  obtain ⟨a, b, c, d⟩ := p; obtain ⟨a', b', c', d'⟩ := q
  simp only [P4.add, P4.sub, P4.mk.injEq]; omega
theorem m4_sub {p q : P4} (h : M4 p) (g : M4 q) : M4 (p.sub q) := by unfold M4 P4.sub at *; simp only; omega
/-- The difference of moved points is the moved difference. -/
theorem mP_sub {t : Nat} (ht : t < 8) (f : Bool) (s : P4) {p q : P4} (hp : M4 p) (hq : M4 q) : (mP t (upI t f) s q).sub (mP t (upI t f) s p) = lin t (upI t f) (q.sub p) := by
  rw [mP_lin, mP_lin]
  conv => lhs; rw [← add_sub4 p q, lin_add ht (upI_lt t f) p (ev_m4 (m4_sub hq hp)), add_sub]
theorem dir_move {t d : Nat} (ht : t < 8) (f : Bool) (s : P4) {p q : P4} (hp : M4 p) (hq : M4 q) (h : dirOf (q.sub p) = (d : Int)) (hd : d < 16) :
    dirOf ((mP t (upI t f) s q).sub (mP t (upI t f) s p)) = (vN t f d : Int) := by
  rw [mP_sub ht f s hp hq]; exact dir_lin ht f (m4_sub hq hp) h hd
/-- The sign of a moved point's side. -/
def fsg (f : Bool) : Int := if f then -1 else 1
def vsg (v : Nat) : Int := if 8 ≤ v then -1 else 1
theorem sgn_fs (f : Bool) (A B : Int) : Q.sgn2 (A * (if f then -1 else 1)) (B * (if f then -1 else 1)) = Q.sgn2 A B * fsg f := by
  cases f
  · simp [fsg]
  · simp only [if_true, fsg]
    rw [show A * -1 = -A by omega, show B * -1 = -B by omega, Q.sgn2_neg]; omega
theorem dot_sub (d : Nat) (p q : P4) : dotA d (p.sub q) = dotA d p - dotA d q ∧ dotB d (p.sub q) = dotB d p - dotB d q := by
  unfold dotA dotB P4.sub
  simp only
  constructor <;> grind
/-- A point is on the same side of a line after both have been moved (a line of direction v = g or g + 8). -/
theorem side_move {t n : Nat} (ht : t < 8) (hn : n < 8) (f : Bool) (s : P4) {p o : P4} (hp : M4 p) (ho : M4 o) :
    Q.sgn2 (dotA (vN t f n % 8 + 4) (mP t (upI t f) s p) - dotA (vN t f n % 8 + 4) (mP t (upI t f) s o)) (dotB (vN t f n % 8 + 4) (mP t (upI t f) s p) - dotB (vN t f n % 8 + 4) (mP t (upI t f) s o)) =
      Q.sgn2 (dotA (n + 4) p - dotA (n + 4) o) (dotB (n + 4) p - dotB (n + 4) o) * fsg f * vsg (vN t f n) := by
  rw [← (dot_sub _ _ _).1, ← (dot_sub _ _ _).2, ← (dot_sub (n + 4) _ _).1, ← (dot_sub (n + 4) _ _).2, mP_sub ht f s ho hp]
  have hm := m4_sub hp ho
  generalize p.sub o = q at *
  obtain ⟨k, n1, n2⟩ := dot_norm ht (show n < 16 by omega) f hm
  rw [Nat.mod_eq_of_lt (show n + 4 < 16 by omega)] at n1 n2
  have hv := vN_lt t f n
  have he := dot_ev (d := n + 4) (by omega) hm
  have key : Q.sgn2 (dotA ((vN t f n + 4) % 16) (lin t (upI t f) q)) (dotB ((vN t f n + 4) % 16) (lin t (upI t f) q)) = Q.sgn2 (dotA (n + 4) q) (dotB (n + 4) q) * fsg f := by
    rw [n1, n2, sgn_fs, sgn_fc _ he]
  rw [← key]
  generalize vN t f n = v at *
  by_cases h8 : 8 ≤ v
  · obtain ⟨e, rfl⟩ : ∃ e, v = e + 8 := ⟨v - 8, by omega⟩
    rw [show (e + 8) % 8 = e by omega, show (e + 8 + 4) % 16 = (e + 4 + 8) % 16 by omega, (dot_opp16 (show e + 4 < 16 by omega) _).1, (dot_opp16 (show e + 4 < 16 by omega) _).2, Q.sgn2_neg]
    simp [vsg]
  · rw [show v % 8 = v by omega, show (v + 4) % 16 = v + 4 by omega]
    simp [vsg, h8]
end Act
end Go.Proofs.YtafbdnjabgfjeaaDoor
end
