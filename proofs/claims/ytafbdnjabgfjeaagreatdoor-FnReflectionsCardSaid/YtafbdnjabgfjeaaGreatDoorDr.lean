/- Reflections as motions on the grid: they move points as points are reflected, and twice changes nothing. What FnReflections calls, in one bundle. -/
import Derived.Test.YtafbdnjabgfjeaaGreatDoorAct
import Derived.Test.YtafbdnjabgfjeaaGreatDoorOj
import Derived.Test.YtafbdnjabgfjeaaGreatDoorGZ
import Derived.Test.YtafbdnjabgfjeaaGreatDoorGzf
import Derived.Test.YtafbdnjabgfjeaaGreatDoorGeReflectPoint
import Derived.Test.YtafbdnjabgfjeaaGreatDoorGl
namespace Go.Proofs.YtafbdnjabgfjeaaGreatDoor
namespace Act
open Go Go.RowKit OriM Com _root_.Go.Proofs.YtafbdnjabgfjeaaGreatDoor.Inv _root_.Go.Proofs.YtafbdnjabgfjeaaGreatDoor.Rfl
variable {β : Bool}

/-- The place of the origin behind a reflection. -/
def rsh (n : Nat) (T1 T2 : Int) : P4 := p0.sub (mulP (n + 4) (-T1 + -T1) (-T2 + -T2))
set_option maxHeartbeats 4000000 in
theorem refl_move {n : Nat} (hn : n < 8) {A B T1 T2 S1 S2 : Int} {p : P4} (mp : M64 p) (q0 : OriM.Quot (sqA (n + 4)) (sqB (n + 4)) 1 (sqT (n + 4)) A B T1 T2) (q1 : OriM.Quot (sqA (n + 4)) (sqB (n + 4)) 1 (sqT (n + 4)) (dotA (n + 4) p - A) (dotB (n + 4) p - B) S1 S2) :
    mP n (upI n true) (rsh n T1 T2) p = p.sub (mulP (n + 4) (S1 + S1) (S2 + S2)) := by
  obtain ⟨a, b, c, d⟩ := p
  obtain ⟨m1, m2, m3, m4⟩ := mp
  simp only at m1 m2 m3 m4
  obtain ⟨a, rfl⟩ : ∃ x, a = 64 * x := ⟨a / 64, by omega⟩
  obtain ⟨b, rfl⟩ : ∃ x, b = 64 * x := ⟨b / 64, by omega⟩
  obtain ⟨c, rfl⟩ : ∃ x, c = 64 * x := ⟨c / 64, by omega⟩
  obtain ⟨d, rfl⟩ : ∃ x, d = 64 * x := ⟨d / 64, by omega⟩
  clear m1 m2 m3 m4
  rcases lt8 hn with rfl | rfl | rfl | rfl | rfl | rfl | rfl | rfl
  · have e1 : sqA 4 = 1 := by decide
    have e2 : sqB 4 = 0 := by decide
    have e3 : sqT 4 = 0 := by decide
    simp only [Nat.reduceAdd, e1, e2, e3] at q0 q1
    obtain ⟨a1, a2⟩ := q0
    obtain ⟨b1, b2⟩ := q1
    simp [dotA, dotB, xA, xB, yA, yB] at a1 a2 b1 b2
    simp [mP, rsh, mulP, mA, mB, xA, xB, yA, yB, p0, uP, uA, uB, uc, ud, us, upI, P4.sub, P4.add]
    omega
  · have e1 : sqA 5 = 4 := by decide
    have e2 : sqB 5 = -2 := by decide
    have e3 : sqT 5 = 3 := by decide
    simp only [Nat.reduceAdd, e1, e2, e3] at q0 q1
    obtain ⟨a1, a2⟩ := q0
    obtain ⟨b1, b2⟩ := q1
    simp [dotA, dotB, xA, xB, yA, yB] at a1 a2 b1 b2
    simp [mP, rsh, mulP, mA, mB, xA, xB, yA, yB, p0, uP, uA, uB, uc, ud, us, upI, P4.sub, P4.add]
    omega
  · have e1 : sqA 6 = 2 := by decide
    have e2 : sqB 6 = 0 := by decide
    have e3 : sqT 6 = 2 := by decide
    simp only [Nat.reduceAdd, e1, e2, e3] at q0 q1
    obtain ⟨a1, a2⟩ := q0
    obtain ⟨b1, b2⟩ := q1
    simp [dotA, dotB, xA, xB, yA, yB] at a1 a2 b1 b2
    simp [mP, rsh, mulP, mA, mB, xA, xB, yA, yB, p0, uP, uA, uB, uc, ud, us, upI, P4.sub, P4.add]
    omega
  · have e1 : sqA 7 = 4 := by decide
    have e2 : sqB 7 = -2 := by decide
    have e3 : sqT 7 = 3 := by decide
    simp only [Nat.reduceAdd, e1, e2, e3] at q0 q1
    obtain ⟨a1, a2⟩ := q0
    obtain ⟨b1, b2⟩ := q1
    simp [dotA, dotB, xA, xB, yA, yB] at a1 a2 b1 b2
    simp [mP, rsh, mulP, mA, mB, xA, xB, yA, yB, p0, uP, uA, uB, uc, ud, us, upI, P4.sub, P4.add]
    omega
  · have e1 : sqA 8 = 1 := by decide
    have e2 : sqB 8 = 0 := by decide
    have e3 : sqT 8 = 0 := by decide
    simp only [Nat.reduceAdd, e1, e2, e3] at q0 q1
    obtain ⟨a1, a2⟩ := q0
    obtain ⟨b1, b2⟩ := q1
    simp [dotA, dotB, xA, xB, yA, yB] at a1 a2 b1 b2
    simp [mP, rsh, mulP, mA, mB, xA, xB, yA, yB, p0, uP, uA, uB, uc, ud, us, upI, P4.sub, P4.add]
    omega
  · have e1 : sqA 9 = 4 := by decide
    have e2 : sqB 9 = -2 := by decide
    have e3 : sqT 9 = 3 := by decide
    simp only [Nat.reduceAdd, e1, e2, e3] at q0 q1
    obtain ⟨a1, a2⟩ := q0
    obtain ⟨b1, b2⟩ := q1
    simp [dotA, dotB, xA, xB, yA, yB] at a1 a2 b1 b2
    simp [mP, rsh, mulP, mA, mB, xA, xB, yA, yB, p0, uP, uA, uB, uc, ud, us, upI, P4.sub, P4.add]
    omega
  · have e1 : sqA 10 = 2 := by decide
    have e2 : sqB 10 = 0 := by decide
    have e3 : sqT 10 = 2 := by decide
    simp only [Nat.reduceAdd, e1, e2, e3] at q0 q1
    obtain ⟨a1, a2⟩ := q0
    obtain ⟨b1, b2⟩ := q1
    simp [dotA, dotB, xA, xB, yA, yB] at a1 a2 b1 b2
    simp [mP, rsh, mulP, mA, mB, xA, xB, yA, yB, p0, uP, uA, uB, uc, ud, us, upI, P4.sub, P4.add]
    omega
  · have e1 : sqA 11 = 4 := by decide
    have e2 : sqB 11 = -2 := by decide
    have e3 : sqT 11 = 3 := by decide
    simp only [Nat.reduceAdd, e1, e2, e3] at q0 q1
    obtain ⟨a1, a2⟩ := q0
    obtain ⟨b1, b2⟩ := q1
    simp [dotA, dotB, xA, xB, yA, yB] at a1 a2 b1 b2
    simp [mP, rsh, mulP, mA, mB, xA, xB, yA, yB, p0, uP, uA, uB, uc, ud, us, upI, P4.sub, P4.add]
    omega
set_option maxHeartbeats 4000000 in
theorem refl_shift {n : Nat} (hn : n < 8) {A B T1 T2 S1 S2 : Int} (q0 : OriM.Quot (sqA (n + 4)) (sqB (n + 4)) 1 (sqT (n + 4)) A B T1 T2) (q1 : OriM.Quot (sqA (n + 4)) (sqB (n + 4)) 1 (sqT (n + 4)) (dotA (n + 4) (rsh n T1 T2) - A) (dotB (n + 4) (rsh n T1 T2) - B) S1 S2) :
    (rsh n T1 T2).sub (mulP (n + 4) (S1 + S1) (S2 + S2)) = p0 := by
  unfold rsh at *
  rcases lt8 hn with rfl | rfl | rfl | rfl | rfl | rfl | rfl | rfl
  · have e1 : sqA 4 = 1 := by decide
    have e2 : sqB 4 = 0 := by decide
    have e3 : sqT 4 = 0 := by decide
    simp only [Nat.reduceAdd, e1, e2, e3] at q0 q1
    obtain ⟨a1, a2⟩ := q0
    obtain ⟨b1, b2⟩ := q1
    simp [dotA, dotB, xA, xB, yA, yB, mulP, mA, mB, p0, P4.sub] at a1 a2 b1 b2
    simp [mulP, mA, mB, xA, xB, yA, yB, p0, P4.sub]
    omega
  · have e1 : sqA 5 = 4 := by decide
    have e2 : sqB 5 = -2 := by decide
    have e3 : sqT 5 = 3 := by decide
    simp only [Nat.reduceAdd, e1, e2, e3] at q0 q1
    obtain ⟨a1, a2⟩ := q0
    obtain ⟨b1, b2⟩ := q1
    simp [dotA, dotB, xA, xB, yA, yB, mulP, mA, mB, p0, P4.sub] at a1 a2 b1 b2
    simp [mulP, mA, mB, xA, xB, yA, yB, p0, P4.sub]
    omega
  · have e1 : sqA 6 = 2 := by decide
    have e2 : sqB 6 = 0 := by decide
    have e3 : sqT 6 = 2 := by decide
    simp only [Nat.reduceAdd, e1, e2, e3] at q0 q1
    obtain ⟨a1, a2⟩ := q0
    obtain ⟨b1, b2⟩ := q1
    simp [dotA, dotB, xA, xB, yA, yB, mulP, mA, mB, p0, P4.sub] at a1 a2 b1 b2
    simp [mulP, mA, mB, xA, xB, yA, yB, p0, P4.sub]
    omega
  · have e1 : sqA 7 = 4 := by decide
    have e2 : sqB 7 = -2 := by decide
    have e3 : sqT 7 = 3 := by decide
    simp only [Nat.reduceAdd, e1, e2, e3] at q0 q1
    obtain ⟨a1, a2⟩ := q0
    obtain ⟨b1, b2⟩ := q1
    simp [dotA, dotB, xA, xB, yA, yB, mulP, mA, mB, p0, P4.sub] at a1 a2 b1 b2
    simp [mulP, mA, mB, xA, xB, yA, yB, p0, P4.sub]
    omega
  · have e1 : sqA 8 = 1 := by decide
    have e2 : sqB 8 = 0 := by decide
    have e3 : sqT 8 = 0 := by decide
    simp only [Nat.reduceAdd, e1, e2, e3] at q0 q1
    obtain ⟨a1, a2⟩ := q0
    obtain ⟨b1, b2⟩ := q1
    simp [dotA, dotB, xA, xB, yA, yB, mulP, mA, mB, p0, P4.sub] at a1 a2 b1 b2
    simp [mulP, mA, mB, xA, xB, yA, yB, p0, P4.sub]
    omega
  · have e1 : sqA 9 = 4 := by decide
    have e2 : sqB 9 = -2 := by decide
    have e3 : sqT 9 = 3 := by decide
    simp only [Nat.reduceAdd, e1, e2, e3] at q0 q1
    obtain ⟨a1, a2⟩ := q0
    obtain ⟨b1, b2⟩ := q1
    simp [dotA, dotB, xA, xB, yA, yB, mulP, mA, mB, p0, P4.sub] at a1 a2 b1 b2
    simp [mulP, mA, mB, xA, xB, yA, yB, p0, P4.sub]
    omega
  · have e1 : sqA 10 = 2 := by decide
    have e2 : sqB 10 = 0 := by decide
    have e3 : sqT 10 = 2 := by decide
    simp only [Nat.reduceAdd, e1, e2, e3] at q0 q1
    obtain ⟨a1, a2⟩ := q0
    obtain ⟨b1, b2⟩ := q1
    simp [dotA, dotB, xA, xB, yA, yB, mulP, mA, mB, p0, P4.sub] at a1 a2 b1 b2
    simp [mulP, mA, mB, xA, xB, yA, yB, p0, P4.sub]
    omega
  · have e1 : sqA 11 = 4 := by decide
    have e2 : sqB 11 = -2 := by decide
    have e3 : sqT 11 = 3 := by decide
    simp only [Nat.reduceAdd, e1, e2, e3] at q0 q1
    obtain ⟨a1, a2⟩ := q0
    obtain ⟨b1, b2⟩ := q1
    simp [dotA, dotB, xA, xB, yA, yB, mulP, mA, mB, p0, P4.sub] at a1 a2 b1 b2
    simp [mulP, mA, mB, xA, xB, yA, yB, p0, P4.sub]
    omega
theorem quot_zero {d : Nat} (hd : d < 16) {S1 S2 : Int} (q : OriM.Quot (sqA d) (sqB d) 1 (sqT d) 0 0 S1 S2) : S1 = 0 ∧ S2 = 0 := by
  obtain ⟨q1, q2⟩ := q
  rcases sq_cases d hd with ⟨e1, e2, e3⟩ | ⟨e1, e2, e3⟩ | ⟨e1, e2, e3⟩ <;> rw [e1, e2, e3] at q1 q2 <;> simp at q1 q2 <;> omega
theorem sub_zero4 (d : Nat) (p : P4) : p.sub (mulP d (0 + 0) (0 + 0)) = p := by
  obtain ⟨a, b, c, e⟩ := p
  simp [P4.sub, mulP, mA, mB]

theorem rf_bundle {e x y z : Int} (hl : I3 x y z) : ∃ (r : Int) (o : Bool) (m1 m2 m3 m4 m5 m6 : Int) (v : Bool),
    (∀ w, LT true w → Calls Tryz.prog 7 #[lnv e x y z] w (RetB (.tuple #[mot r o m1 m2 m3 m4 m5 m6, .bool v]) w)) ∧
    (∀ w, LT true w → Calls Tryz.prog 8 #[lnv e x y z] w (RetB (.tuple #[mot r o m1 m2 m3 m4 m5 m6, .bool v]) w)) ∧
    (∀ a b k c d l : Int, v = true → vP a b k c d l = true → ∃ (q1 q2 q3 q4 q5 q6 : Int) (v2 : Bool) (sd : Int),
      (∀ w, LT true w → Calls Tryz.prog 11 #[mot r o m1 m2 m3 m4 m5 m6, pt a b k c d l] w (RetB (.tuple #[pt q1 q2 q3 q4 q5 q6, .bool v2]) w)) ∧
      (∀ w, LT true w → Calls Tryz.prog 12 #[lnv e x y z, pt a b k c d l] w (RetB (.tuple #[pt q1 q2 q3 q4 q5 q6, .bool v2]) w)) ∧
      (∀ w, LT true w → Calls Tryz.prog 13 #[mot r o m1 m2 m3 m4 m5 m6, mot r o m1 m2 m3 m4 m5 m6] w (RetB (.tuple #[mot 0 false 0 0 0 0 0 0, .bool true]) w)) ∧
      (∀ w, LT true w → Calls Tryz.prog 15 #[lnv e x y z, pt a b k c d l] w (RetB (.int .i64 sd) w)) ∧
      (sd = 0 → v2 = true → q1 = a ∧ q2 = b ∧ q3 = k ∧ q4 = c ∧ q5 = d ∧ q6 = l)) := by
  by_cases hL : vL e x y z = true
  · have HL := hL
    obtain ⟨n, rfl, hn, hx⟩ := vL_split' hL
    obtain ⟨hA, mA1, mA2⟩ := valid_bd hx
    obtain ⟨T1, T2, q, h1, h2⟩ := quot_ex (A := up16 x z.toNat) (B := up16 y z.toNat) 8 (sq_unit (n + 4) (by omega)) (by omega) (by omega)
    have bT := quot_bd (sq_unit (n + 4) (by omega)) hA q
    have bO : Bd 70368744177664 (rsh n T1 T2) := by
      unfold rsh
      rw [← refl_foot hn h1 h2]
      have bF := mulP_bd (d := n + 4) (by omega) bT
      have bL := lin_bd hn (upI_lt n true) bF
      unfold Bd P4.sub at *; simp only; omega
    have SR := fun w (hT : LT true w) => srefl_g hn hA q h1 h2 w hT
    have SN := fun w (hT : LT true w) => snumM_g n true bO w hT
    have DL := fun w (hT : LT true w) => dlineOf_g n (up16 x z.toNat) (up16 y z.toNat) w hT
    have MB := fun w (hT : LT true w) => mxReflect_g hn hA mA1 mA2 q w hT
    have IM := fun w (hT : LT true w) => imotion_g hn true bO w hT
    obtain ⟨r, o, m1, m2, m3, m4, m5, m6, v, hr, hr'⟩ := motOr_ex n true (rsh n T1 T2)
    rw [hr] at SN IM
    rw [← valid_gl hx] at SR DL MB
    refine ⟨r, o, m1, m2, m3, m4, m5, m6, v, fun w hT => iRf_ok _ _ _ _ _ _ _ _ _ _ _ _ _ _ _ w hT (Lib.hid fun w hT => HL ▸ iVL_any hl w hT) (Lib.hid DL) (Lib.hid MB) (Lib.hid IM),
      fun w hT => sRf_ok _ _ _ _ _ _ _ _ _ _ _ _ _ _ _ _ _ _ _ _ _ w hT (Lib.hid fun w hT => HL ▸ sLL_any _ x y z w hT) (Lib.hid fun w hT => sLineOf_any _ _ _ _ w hT) (Lib.hid SR) (Lib.hid SN), fun a b k c d l hv hP => ?_⟩
    obtain ⟨os, es⟩ := hr' hv
    rw [es]
    obtain ⟨hb, hm⟩ := valid_bp hP
    have op := vP_ok hP
    have md := dot_m64 (d := n + 4) (by omega) hm
    have bd := dot_bd (d := n + 4) (by omega) hb
    obtain ⟨S1, S2, hq, _, _⟩ := quot_ex (A := dotA (n + 4) (gP a b k c d l) - up16 x z.toNat) (B := dotB (n + 4) (gP a b k c d l) - up16 y z.toNat) 8 (sq_unit (n + 4) (by omega)) (by omega) (by omega)
    have bh : Bd2 42949672960 (dotA (n + 4) (gP a b k c d l) - up16 x z.toNat) (dotB (n + 4) (gP a b k c d l) - up16 y z.toNat) := by unfold Bd2 at *; omega
    have bS := sq_bd (by omega) bh hq
    have b2 : Bd2 85899345920 (S1 + S1) (S2 + S2) := by unfold Bd2 at *; omega
    have bm := mulP_bd (d := n + 4) (by omega) b2
    have bR : Bd 70368744177664 ((gP a b k c d l).sub (mulP (n + 4) (S1 + S1) (S2 + S2))) := by unfold Bd P4.sub at *; simp only; omega
    have S := fun w (hT : LT true w) => sreflect_g hn hA (bd_mono hb (by decide)) hq w hT
    have SP := fun w (hT : LT true w) => sNumP_g bR w hT
    have MV := fun w (hT : LT true w) => mv_val hn true os op w hT
    have SD := fun w (hT : LT true w) => sside_g hn hA ⟨mA1, mA2⟩ hb hm w hT
    rw [refl_move hn hm q hq, ← valid_gp hP] at MV
    obtain ⟨_, ms⟩ := ok_bd os
    obtain ⟨e1, e2⟩ := dot_m64 (d := n + 4) (by omega) ms
    obtain ⟨V1, V2, qs, _, _⟩ := quot_ex (A := dotA (n + 4) (rsh n T1 T2) - up16 x z.toNat) (B := dotB (n + 4) (rsh n T1 T2) - up16 y z.toNat) 8 (sq_unit (n + 4) (by omega)) (by omega) (by omega)
    have CM := fun w (hT : LT true w) => cm_val hn hn true true os os w hT
    rw [show cmp n true n = 0 by simp [cmp], bne_self_eq_false, refl_move hn ms q qs, refl_shift hn q qs] at CM
    have hz : sideV n (up16 x z.toNat) (up16 y z.toNat) (gP a b k c d l) = 0 → (gP a b k c d l).sub (mulP (n + 4) (S1 + S1) (S2 + S2)) = gP a b k c d l := by
      intro h0
      unfold sideV at h0
      obtain ⟨z1, z2⟩ := Q.sgn2_eq_zero h0
      rw [z1, z2] at hq
      obtain ⟨rfl, rfl⟩ := quot_zero (by omega) hq
      exact sub_zero4 _ _
    generalize hRR : (gP a b k c d l).sub (mulP (n + 4) (S1 + S1) (S2 + S2)) = R at *
    rw [← valid_gl hx] at S SD
    rw [← valid_gp hP] at S SD
    obtain ⟨q1, q2, q3, q4, q5, q6, v2, hv2, hv2'⟩ := pointV_ex R
    rw [hv2] at SP MV
    refine ⟨q1, q2, q3, q4, q5, q6, v2, _, MV,
      fun w hT => sRP_ok _ _ _ _ _ _ _ _ _ _ _ _ _ _ _ _ _ _ _ _ _ _ _ _ _ _ _ _ _ _ _ _ _ w hT (Lib.hid fun w hT => HL ▸ sLL_any _ x y z w hT) (Lib.hid fun w hT => hP ▸ sLP_any a b k c d l w hT) (Lib.hid fun w hT => sLineOf_any _ _ _ _ w hT) (Lib.hid fun w hT => sOf_any _ _ _ _ _ _ w hT) (Lib.hid S) (Lib.hid SP),
      CM,
      fun w hT => sSO_ok _ _ _ _ _ _ _ _ _ _ _ _ _ _ _ _ _ _ _ _ _ w hT (Lib.hid fun w hT => HL ▸ sLL_any _ x y z w hT) (Lib.hid fun w hT => hP ▸ sLP_any a b k c d l w hT) (Lib.hid fun w hT => sLineOf_any _ _ _ _ w hT) (Lib.hid fun w hT => sOf_any _ _ _ _ _ _ w hT) (Lib.hid SD), fun h0 h2 => ?_⟩
    obtain ⟨_, eq⟩ := hv2' h2
    rw [hz h0, ← valid_gp hP] at eq
    simpa using eq
  · have hf := Bool.eq_false_iff.2 hL
    exact ⟨0, false, 0, 0, 0, 0, 0, 0, false, fun w hT => iRf_no _ _ _ _ w hT (Lib.hid fun w hT => hf ▸ iVL_any hl w hT), fun w hT => sRf_no _ _ _ _ w hT (Lib.hid fun w hT => hf ▸ sLL_any e x y z w hT), fun _ _ _ _ _ _ h => by cases h⟩
end Act
end Go.Proofs.YtafbdnjabgfjeaaGreatDoor
