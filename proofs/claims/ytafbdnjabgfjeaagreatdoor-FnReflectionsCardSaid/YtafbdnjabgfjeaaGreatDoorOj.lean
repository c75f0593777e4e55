/- Reflections as motions: both sides answer the same motion, or none; the walk of the law. -/
import Derived.Test.YtafbdnjabgfjeaaGreatDoorAct
import Derived.Test.YtafbdnjabgfjeaaGreatDoorOg
import Derived.Test.YtafbdnjabgfjeaaGreatDoorOnw
import Derived.Test.YtafbdnjabgfjeaaGreatDoorGzf
namespace Go.Proofs.YtafbdnjabgfjeaaGreatDoor
namespace Rfl
open Go Go.RowKit OriM Com
variable {β : Bool}

theorem quot_neg {c d s : Int} {t : Nat} {A B T1 T2 : Int} (h : OriM.Quot c d s t A B T1 T2) : OriM.Quot c d s t (-A) (-B) (-T1) (-T2) := by
  obtain ⟨h1, h2⟩ := h
  unfold OriM.Quot
  generalize (2 : Int) ^ t = p at *
  constructor <;> grind
theorem refl_E {n : Nat} (hn : n < 8) {A B T1 T2 S1 S2 : Int} (q0 : OriM.Quot (sqA (n + 4)) (sqB (n + 4)) 1 (sqT (n + 4)) A B T1 T2) (q1 : OriM.Quot (sqA (n + 4)) (sqB (n + 4)) 1 (sqT (n + 4)) (dotA (n + 4) pE - A) (dotB (n + 4) pE - B) S1 S2) :
    (pE.sub (mulP (n + 4) (S1 + S1) (S2 + S2))).sub (p0.sub (mulP (n + 4) (-T1 + -T1) (-T2 + -T2))) = uP n 65536 0 := by
  rcases lt8 hn with rfl | rfl | rfl | rfl | rfl | rfl | rfl | rfl
  · have e1 : sqA 4 = 1 := by decide
    have e2 : sqB 4 = 0 := by decide
    have e3 : sqT 4 = 0 := by decide
    simp only [Nat.reduceAdd, e1, e2, e3] at q0 q1
    obtain ⟨a1, a2⟩ := q0
    obtain ⟨b1, b2⟩ := q1
    simp [dotA, dotB, pE, xA, xB, yA, yB] at a1 a2 b1 b2
    simp [mulP, mA, mB, xA, xB, yA, yB, pE, p0, uP, uA, uB, uc, ud, us, P4.sub]
    omega
  · have e1 : sqA 5 = 4 := by decide
    have e2 : sqB 5 = -2 := by decide
    have e3 : sqT 5 = 3 := by decide
    simp only [Nat.reduceAdd, e1, e2, e3] at q0 q1
    obtain ⟨a1, a2⟩ := q0
    obtain ⟨b1, b2⟩ := q1
    simp [dotA, dotB, pE, xA, xB, yA, yB] at a1 a2 b1 b2
    simp [mulP, mA, mB, xA, xB, yA, yB, pE, p0, uP, uA, uB, uc, ud, us, P4.sub]
    omega
  · have e1 : sqA 6 = 2 := by decide
    have e2 : sqB 6 = 0 := by decide
    have e3 : sqT 6 = 2 := by decide
    simp only [Nat.reduceAdd, e1, e2, e3] at q0 q1
    obtain ⟨a1, a2⟩ := q0
    obtain ⟨b1, b2⟩ := q1
    simp [dotA, dotB, pE, xA, xB, yA, yB] at a1 a2 b1 b2
    simp [mulP, mA, mB, xA, xB, yA, yB, pE, p0, uP, uA, uB, uc, ud, us, P4.sub]
    omega
  · have e1 : sqA 7 = 4 := by decide
    have e2 : sqB 7 = -2 := by decide
    have e3 : sqT 7 = 3 := by decide
    simp only [Nat.reduceAdd, e1, e2, e3] at q0 q1
    obtain ⟨a1, a2⟩ := q0
    obtain ⟨b1, b2⟩ := q1
    simp [dotA, dotB, pE, xA, xB, yA, yB] at a1 a2 b1 b2
    simp [mulP, mA, mB, xA, xB, yA, yB, pE, p0, uP, uA, uB, uc, ud, us, P4.sub]
    omega
  · have e1 : sqA 8 = 1 := by decide
    have e2 : sqB 8 = 0 := by decide
    have e3 : sqT 8 = 0 := by decide
    simp only [Nat.reduceAdd, e1, e2, e3] at q0 q1
    obtain ⟨a1, a2⟩ := q0
    obtain ⟨b1, b2⟩ := q1
    simp [dotA, dotB, pE, xA, xB, yA, yB] at a1 a2 b1 b2
    simp [mulP, mA, mB, xA, xB, yA, yB, pE, p0, uP, uA, uB, uc, ud, us, P4.sub]
    omega
  · have e1 : sqA 9 = 4 := by decide
    have e2 : sqB 9 = -2 := by decide
    have e3 : sqT 9 = 3 := by decide
    simp only [Nat.reduceAdd, e1, e2, e3] at q0 q1
    obtain ⟨a1, a2⟩ := q0
    obtain ⟨b1, b2⟩ := q1
    simp [dotA, dotB, pE, xA, xB, yA, yB] at a1 a2 b1 b2
    simp [mulP, mA, mB, xA, xB, yA, yB, pE, p0, uP, uA, uB, uc, ud, us, P4.sub]
    omega
  · have e1 : sqA 10 = 2 := by decide
    have e2 : sqB 10 = 0 := by decide
    have e3 : sqT 10 = 2 := by decide
    simp only [Nat.reduceAdd, e1, e2, e3] at q0 q1
    obtain ⟨a1, a2⟩ := q0
    obtain ⟨b1, b2⟩ := q1
    simp [dotA, dotB, pE, xA, xB, yA, yB] at a1 a2 b1 b2
    simp [mulP, mA, mB, xA, xB, yA, yB, pE, p0, uP, uA, uB, uc, ud, us, P4.sub]
    omega
  · have e1 : sqA 11 = 4 := by decide
    have e2 : sqB 11 = -2 := by decide
    have e3 : sqT 11 = 3 := by decide
    simp only [Nat.reduceAdd, e1, e2, e3] at q0 q1
    obtain ⟨a1, a2⟩ := q0
    obtain ⟨b1, b2⟩ := q1
    simp [dotA, dotB, pE, xA, xB, yA, yB] at a1 a2 b1 b2
    simp [mulP, mA, mB, xA, xB, yA, yB, pE, p0, uP, uA, uB, uc, ud, us, P4.sub]
    omega
theorem refl_N {n : Nat} (hn : n < 8) {A B T1 T2 S1 S2 : Int} (q0 : OriM.Quot (sqA (n + 4)) (sqB (n + 4)) 1 (sqT (n + 4)) A B T1 T2) (q1 : OriM.Quot (sqA (n + 4)) (sqB (n + 4)) 1 (sqT (n + 4)) (dotA (n + 4) pN - A) (dotB (n + 4) pN - B) S1 S2) :
    (pN.sub (mulP (n + 4) (S1 + S1) (S2 + S2))).sub (p0.sub (mulP (n + 4) (-T1 + -T1) (-T2 + -T2))) = uP (upI n true) 65536 0 := by
  rcases lt8 hn with rfl | rfl | rfl | rfl | rfl | rfl | rfl | rfl
  · have e1 : sqA 4 = 1 := by decide
    have e2 : sqB 4 = 0 := by decide
    have e3 : sqT 4 = 0 := by decide
    simp only [Nat.reduceAdd, e1, e2, e3] at q0 q1
    obtain ⟨a1, a2⟩ := q0
    obtain ⟨b1, b2⟩ := q1
    simp [dotA, dotB, pN, xA, xB, yA, yB] at a1 a2 b1 b2
    simp [mulP, mA, mB, xA, xB, yA, yB, pN, p0, uP, uA, uB, uc, ud, us, upI, P4.sub]
    omega
  · have e1 : sqA 5 = 4 := by decide
    have e2 : sqB 5 = -2 := by decide
    have e3 : sqT 5 = 3 := by decide
    simp only [Nat.reduceAdd, e1, e2, e3] at q0 q1
    obtain ⟨a1, a2⟩ := q0
    obtain ⟨b1, b2⟩ := q1
    simp [dotA, dotB, pN, xA, xB, yA, yB] at a1 a2 b1 b2
    simp [mulP, mA, mB, xA, xB, yA, yB, pN, p0, uP, uA, uB, uc, ud, us, upI, P4.sub]
    omega
  · have e1 : sqA 6 = 2 := by decide
    have e2 : sqB 6 = 0 := by decide
    have e3 : sqT 6 = 2 := by decide
    simp only [Nat.reduceAdd, e1, e2, e3] at q0 q1
    obtain ⟨a1, a2⟩ := q0
    obtain ⟨b1, b2⟩ := q1
    simp [dotA, dotB, pN, xA, xB, yA, yB] at a1 a2 b1 b2
    simp [mulP, mA, mB, xA, xB, yA, yB, pN, p0, uP, uA, uB, uc, ud, us, upI, P4.sub]
    omega
  · have e1 : sqA 7 = 4 := by decide
    have e2 : sqB 7 = -2 := by decide
    have e3 : sqT 7 = 3 := by decide
    simp only [Nat.reduceAdd, e1, e2, e3] at q0 q1
    obtain ⟨a1, a2⟩ := q0
    obtain ⟨b1, b2⟩ := q1
    simp [dotA, dotB, pN, xA, xB, yA, yB] at a1 a2 b1 b2
    simp [mulP, mA, mB, xA, xB, yA, yB, pN, p0, uP, uA, uB, uc, ud, us, upI, P4.sub]
    omega
  · have e1 : sqA 8 = 1 := by decide
    have e2 : sqB 8 = 0 := by decide
    have e3 : sqT 8 = 0 := by decide
    simp only [Nat.reduceAdd, e1, e2, e3] at q0 q1
    obtain ⟨a1, a2⟩ := q0
    obtain ⟨b1, b2⟩ := q1
    simp [dotA, dotB, pN, xA, xB, yA, yB] at a1 a2 b1 b2
    simp [mulP, mA, mB, xA, xB, yA, yB, pN, p0, uP, uA, uB, uc, ud, us, upI, P4.sub]
    omega
  · have e1 : sqA 9 = 4 := by decide
    have e2 : sqB 9 = -2 := by decide
    have e3 : sqT 9 = 3 := by decide
    simp only [Nat.reduceAdd, e1, e2, e3] at q0 q1
    obtain ⟨a1, a2⟩ := q0
    obtain ⟨b1, b2⟩ := q1
    simp [dotA, dotB, pN, xA, xB, yA, yB] at a1 a2 b1 b2
    simp [mulP, mA, mB, xA, xB, yA, yB, pN, p0, uP, uA, uB, uc, ud, us, upI, P4.sub]
    omega
  · have e1 : sqA 10 = 2 := by decide
    have e2 : sqB 10 = 0 := by decide
    have e3 : sqT 10 = 2 := by decide
    simp only [Nat.reduceAdd, e1, e2, e3] at q0 q1
    obtain ⟨a1, a2⟩ := q0
    obtain ⟨b1, b2⟩ := q1
    simp [dotA, dotB, pN, xA, xB, yA, yB] at a1 a2 b1 b2
    simp [mulP, mA, mB, xA, xB, yA, yB, pN, p0, uP, uA, uB, uc, ud, us, upI, P4.sub]
    omega
  · have e1 : sqA 11 = 4 := by decide
    have e2 : sqB 11 = -2 := by decide
    have e3 : sqT 11 = 3 := by decide
    simp only [Nat.reduceAdd, e1, e2, e3] at q0 q1
    obtain ⟨a1, a2⟩ := q0
    obtain ⟨b1, b2⟩ := q1
    simp [dotA, dotB, pN, xA, xB, yA, yB] at a1 a2 b1 b2
    simp [mulP, mA, mB, xA, xB, yA, yB, pN, p0, uP, uA, uB, uc, ud, us, upI, P4.sub]
    omega

theorem refl_foot {n : Nat} (hn : n < 8) {T1 T2 : Int} (h1 : T1 % 8 = 0) (h2 : T2 % 8 = 0) : (mulP (n + 4) T1 T2).sub (lin n (upI n true) (mulP (n + 4) T1 T2)) = p0.sub (mulP (n + 4) (-T1 + -T1) (-T2 + -T2)) := by
  rcases lt8 hn with rfl | rfl | rfl | rfl | rfl | rfl | rfl | rfl <;> simp [mulP, mA, mB, xA, xB, yA, yB, lin, p0, uP, uA, uB, uc, ud, us, upI, P4.sub, P4.add] <;> omega
theorem foot_ev {n : Nat} (hn : n < 8) {T1 T2 : Int} (h1 : T1 % 8 = 0) : Ev (mulP (n + 4) T1 T2) := by
  unfold Ev
  rcases lt8 hn with rfl | rfl | rfl | rfl | rfl | rfl | rfl | rfl <;> simp [mulP, mA, xA, xB, yA, yB] <;> omega
theorem dot_p0 (d : Nat) : dotA d p0 = 0 ∧ dotB d p0 = 0 := by simp [dotA, dotB, p0]
theorem dot_units {n : Nat} (hn : n < 8) : (dotA (n + 4) pE % 64 = 0 ∧ dotB (n + 4) pE % 64 = 0) ∧ (dotA (n + 4) pN % 64 = 0 ∧ dotB (n + 4) pN % 64 = 0) := by
  rcases lt8 hn with rfl | rfl | rfl | rfl | rfl | rfl | rfl | rfl <;> decide

theorem mxReflect_g {n : Nat} (hn : n < 8) {A B T1 T2 : Int} (hA : Bd2 8589934592 A B) (mA : A % 64 = 0) (mB : B % 64 = 0) (q : OriM.Quot (sqA (n + 4)) (sqB (n + 4)) 1 (sqT (n + 4)) A B T1 T2) (w : World) (hT : LT true w) :
    Calls Tryz.prog 27 #[.func (.func 29) #[gl n A B] #[]] w (RetB (matV n (upI n true) (p0.sub (mulP (n + 4) (-T1 + -T1) (-T2 + -T2)))) w) := by
  obtain ⟨⟨e1, e2⟩, f1, f2⟩ := dot_units hn
  obtain ⟨S1, S2, qE, _, _⟩ := quot_ex (A := dotA (n + 4) pE - A) (B := dotB (n + 4) pE - B) 8 (sq_unit (n + 4) (by omega)) (by omega) (by omega)
  obtain ⟨V1, V2, qN, _, _⟩ := quot_ex (A := dotA (n + 4) pN - A) (B := dotB (n + 4) pN - B) 8 (sq_unit (n + 4) (by omega)) (by omega) (by omega)
  have q0 : OriM.Quot (sqA (n + 4)) (sqB (n + 4)) 1 (sqT (n + 4)) (dotA (n + 4) p0 - A) (dotB (n + 4) p0 - B) (-T1) (-T2) := by
    rw [(dot_p0 _).1, (dot_p0 _).2, Int.zero_sub, Int.zero_sub]; exact quot_neg q
  have HE := refl_E hn q qE
  have HN := refl_N hn q qN
  have bE : Bd 65536 pE := by unfold Bd; decide
  have bN : Bd 65536 pN := by unfold Bd; decide
  have b0 : Bd 65536 p0 := by unfold Bd; decide
  have bR : ∀ (p : P4) (R1 R2 : Int), Bd 65536 p → OriM.Quot (sqA (n + 4)) (sqB (n + 4)) 1 (sqT (n + 4)) (dotA (n + 4) p - A) (dotB (n + 4) p - B) R1 R2 → Bd 70368744177664 (p.sub (mulP (n + 4) (R1 + R1) (R2 + R2))) := by
    intro p R1 R2 hp hq
    have bd := dot_bd (d := n + 4) (by omega) hp
    have bh : Bd2 42949672960 (dotA (n + 4) p - A) (dotB (n + 4) p - B) := by unfold Bd2 at *; omega
    have bT := sq_bd (by omega) bh hq
    have b2 : Bd2 85899345920 (R1 + R1) (R2 + R2) := by unfold Bd2 at *; omega
    have bm := mulP_bd (d := n + 4) (by omega) b2
    unfold Bd P4.sub at *; simp only; omega
  have L : ∀ (p : P4) (R1 R2 : Int), Bd 65536 p → OriM.Quot (sqA (n + 4)) (sqB (n + 4)) 1 (sqT (n + 4)) (dotA (n + 4) p - A) (dotB (n + 4) p - B) R1 R2 → ∀ w', Below w.heap.size w w' → Calls Tryz.prog 29 #[gl n A B, gp p] w' (RetB (gp (p.sub (mulP (n + 4) (R1 + R1) (R2 + R2)))) w') :=
    fun p R1 R2 hp hq w' hb => ireflect_g hn hA (bd_mono hp (by decide)) hq w' (LT.below hT hb (Nat.le_refl _))
  have ME := fun w (hT : LT true w) => vminus_g (bR pE _ _ bE qE) (bR p0 _ _ b0 q0) w hT
  have MN := fun w (hT : LT true w) => vminus_g (bR pN _ _ bN qN) (bR p0 _ _ b0 q0) w hT
  rw [HE, unit_gp hn] at ME
  rw [HN, unit_gp (upI_lt _ _)] at MN
  exact mxBy_reflect _ _ _ _ _ _ _ _ _ _ _ _ _ _ _ _ _ _ _ _ _ _ _ _ _ _ _ _ _ _ _ _ _ _ w (Lib.hid (L p0 _ _ b0 q0)) (Lib.hid fun w' hb => unit_any (j := 0) (by decide) w' (LT.below hT hb (Nat.le_refl _))) (Lib.hid (L pE _ _ bE qE)) (Lib.hid fun w' hb => ME w' (LT.below hT hb (Nat.le_refl _)))
    (Lib.hid fun w' hb => unit_any (j := 2) (by decide) w' (LT.below hT hb (Nat.le_refl _))) (Lib.hid (L pN _ _ bN qN)) (Lib.hid fun w' hb => MN w' (LT.below hT hb (Nat.le_refl _)))

theorem srefl_g {n : Nat} (hn : n < 8) {A B T1 T2 : Int} (hA : Bd2 8589934592 A B) (q : OriM.Quot (sqA (n + 4)) (sqB (n + 4)) 1 (sqT (n + 4)) A B T1 T2) (h1 : T1 % 8 = 0) (h2 : T2 % 8 = 0) (w : World) (hT : LT β w) :
    Calls Tryz.prog 33 #[gl n A B] w (RetB (motG n true (p0.sub (mulP (n + 4) (-T1 + -T1) (-T2 + -T2)))) w) := by
  rw [← refl_foot hn h1 h2]
  have bT := quot_bd (sq_unit (n + 4) (by omega)) hA q
  have bF : Bd 1099511627776 (mulP (n + 4) T1 T2) := bd_mono (mulP_bd (by omega) bT) (by decide)
  have bL := lin_bd hn (upI_lt n true) bF
  have TU := fun w (hT : LT β w) => sturn_g hn true bF (foot_ev hn h1) w hT
  exact l04Rf_core _ _ _ _ _ _ _ _ _ _ _ _ _ _ _ _ _ _ _ _ _ _ w hT (by omega) (by omega) (Lib.hid fun w hT => sfoot_g hn hA q w hT) (Lib.hid TU) (Lib.hid fun w hT => sMinus_g (bd_mono bF (by decide)) (bd_mono bL (by decide)) w hT)

theorem rf_both {e x y z : Int} (hl : I3 x y z) : ∃ (r za zb zk zc zd zl : Int) (o v : Bool),
    (∀ w, LT true w → Calls Tryz.prog 8 #[lnv e x y z] w (RetB (.tuple #[mot r o za zb zk zc zd zl, .bool v]) w)) ∧
    (∀ w, LT true w → Calls Tryz.prog 7 #[lnv e x y z] w (RetB (.tuple #[mot r o za zb zk zc zd zl, .bool v]) w)) := by
  by_cases hL : vL e x y z = true
  · have HL := hL
    obtain ⟨n, rfl, hn, hx⟩ := vL_split' hL
    obtain ⟨hA, m1, m2⟩ := valid_bd hx
    obtain ⟨T1, T2, q, h1, h2⟩ := quot_ex (A := up16 x z.toNat) (B := up16 y z.toNat) 8 (sq_unit (n + 4) (by omega)) (by omega) (by omega)
    have bT := quot_bd (sq_unit (n + 4) (by omega)) hA q
    have bO : Bd 70368744177664 (p0.sub (mulP (n + 4) (-T1 + -T1) (-T2 + -T2))) := by
      rw [← refl_foot hn h1 h2]
      have bF := mulP_bd (d := n + 4) (by omega) bT
      have bL := lin_bd hn (upI_lt n true) bF
      unfold Bd P4.sub at *; simp only; omega
    have SR := fun w (hT : LT true w) => srefl_g hn hA q h1 h2 w hT
    have SN := fun w (hT : LT true w) => snumM_g n true bO w hT
    have DL := fun w (hT : LT true w) => dlineOf_g n (up16 x z.toNat) (up16 y z.toNat) w hT
    have MB := fun w (hT : LT true w) => mxReflect_g hn hA m1 m2 q w hT
    have IM := fun w (hT : LT true w) => imotion_g hn true bO w hT
    obtain ⟨r, za, zb, zk, zc, zd, zl, o, v, hr⟩ := motOr_mot n true (p0.sub (mulP (n + 4) (-T1 + -T1) (-T2 + -T2)))
    rw [hr] at SN IM
    rw [← valid_gl hx] at SR DL MB
    exact ⟨r, za, zb, zk, zc, zd, zl, o, v, fun w hT => sRf_ok _ _ _ _ _ _ _ _ _ _ _ _ _ _ _ _ _ _ _ _ _ w hT (Lib.hid fun w hT => HL ▸ sLL_any _ x y z w hT) (Lib.hid fun w hT => sLineOf_any _ _ _ _ w hT) (Lib.hid SR) (Lib.hid SN),
      fun w hT => iRf_ok _ _ _ _ _ _ _ _ _ _ _ _ _ _ _ w hT (Lib.hid fun w hT => HL ▸ iVL_any hl w hT) (Lib.hid DL) (Lib.hid MB) (Lib.hid IM)⟩
  · have hf := Bool.eq_false_iff.2 hL
    exact ⟨0, 0, 0, 0, 0, 0, 0, false, false, fun w hT => sRf_no _ _ _ _ w hT (Lib.hid fun w hT => hf ▸ sLL_any e x y z w hT), fun w hT => iRf_no _ _ _ _ w hT (Lib.hid fun w hT => hf ▸ iVL_any hl w hT)⟩
end Rfl
end Go.Proofs.YtafbdnjabgfjeaaGreatDoor
