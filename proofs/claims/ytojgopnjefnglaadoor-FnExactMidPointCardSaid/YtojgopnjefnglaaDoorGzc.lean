/- The law of midpoints, walked whole. -/
import Derived.Test.YtojgopnjefnglaaDoorGz
import Derived.Test.YtojgopnjefnglaaDoorGs
import Derived.Test.YtojgopnjefnglaaDoorGeMidPoint
import Derived.Test.YtojgopnjefnglaaDoorGrMidPoint
namespace Go.Proofs.YtojgopnjefnglaaDoor
open Go Go.RowKit OriM
variable {β : Bool}

/-- Half of a vector whose parts are even. -/
def halfP (p : P4) : P4 := ⟨p.a / 2, p.b / 2, p.c / 2, p.d / 2⟩
theorem half_quot {p : P4} (h : M64 p) : QuotP 2 0 1 2 p (halfP p) := by
  obtain ⟨h1, h2, h3, h4⟩ := h
  unfold QuotP OriM.Quot halfP
  simp only [Int.mul_zero, Int.sub_zero, Int.one_mul]
  omega
theorem m64_add {p q : P4} (h : M64 p) (g : M64 q) : M64 (p.add q) := by unfold M64 P4.add at *; simp only; omega
theorem bd_add {p q : P4} {M : Int} (h : Bd M p) (g : Bd M q) : Bd (2 * M) (p.add q) := by unfold Bd P4.add at *; simp only; omega
theorem bd_halfP {p : P4} {M : Int} (h : Bd M p) : Bd M (halfP p) := by unfold Bd halfP at *; simp only; omega
theorem gK_hi (A B : Int) : (gK A B : Int) ≤ 100 := by have := gK_le A B; omega
theorem gr_halved {A B : Int} (ha : A % 64 = 0) (hb : B % 64 = 0) : Gr (gA A B) (gB A B) (gK A B + 1) (A / 2) (B / 2) :=
  gr_half 1 (gr_self A B) (by omega) (by omega)

theorem mp_both {a b k c d l a' b' k' c' d' l' : Int} (h : I6 a b k c d l) (h' : I6 a' b' k' c' d' l') : ∃ (za zb zk zc zd zl : Int) (ro : Bool),
    (∀ w, LT β w → Calls Tryd.prog 41 #[pt a b k c d l, pt a' b' k' c' d' l'] w (RetB (.tuple #[pt za zb zk zc zd zl, .bool ro]) w)) ∧
    (∀ w, LT β w → Calls Tryd.prog 42 #[pt a b k c d l, pt a' b' k' c' d' l'] w (RetB (.tuple #[pt za zb zk zc zd zl, .bool ro]) w)) := by
  by_cases hx : vP a b k c d l = true
  · by_cases hy : vP a' b' k' c' d' l' = true
    · obtain ⟨b1, m1⟩ := valid_bp hx
      obtain ⟨b2, m2⟩ := valid_bp hy
      have vx := hx
      have vy := hy
      unfold vP at vx vy
      rw [Bool.and_eq_true] at vx vy
      have bs := bd_add b1 b2
      have ms := m64_add m1 m2
      have V1 := fun w (hT : LT β w) => vectorOf_g (gP a b k c d l) w hT
      have V2 := fun w (hT : LT β w) => vectorOf_g (gP a' b' k' c' d' l') w hT
      have PL := fun w (hT : LT β w) => vplus_g (bd_mono b1 (by decide)) (bd_mono b2 (by decide)) w hT
      have OV := fun w (hT : LT β w) => vover_g two_unit (bd_mono bs (by decide)) (half_quot ms) w hT
      have PT := fun w (hT : LT β w) => point_g (bd_mono (bd_halfP bs) (by decide)) w hT
      rw [← valid_gp hx] at V1 PL
      rw [← valid_gp hy] at V2 PL
      obtain ⟨e1, f1⟩ := bd_half b1
      obtain ⟨e2, f2⟩ := bd_half b2
      obtain ⟨es, fs⟩ := bd_half bs
      have A1 := fun w => gAdd_any (bd2_mono e1 (by decide)) (bd2_mono e2 (by decide)) w
      have A2 := fun w => gAdd_any (bd2_mono f1 (by decide)) (bd2_mono f2 (by decide)) w
      have q1 : gv (gP a b k c d l).a (gP a b k c d l).b = num a b k := (valid_gv vx.1).symm
      have q2 : gv (gP a b k c d l).c (gP a b k c d l).d = num c d l := (valid_gv vx.2).symm
      have q3 : gv (gP a' b' k' c' d' l').a (gP a' b' k' c' d' l').b = num a' b' k' := (valid_gv vy.1).symm
      have q4 : gv (gP a' b' k' c' d' l').c (gP a' b' k' c' d' l').d = num c' d' l' := (valid_gv vy.2).symm
      rw [q1, q3] at A1
      rw [q2, q4] at A2
      have SN := fun w (hT : LT β w) => sNum_any (gr_halved ms.1 ms.2.1) (g_bound (bd2_mono es (by decide))) (by have := gK_le ((gP a b k c d l).add (gP a' b' k' c' d' l')).a ((gP a b k c d l).add (gP a' b' k' c' d' l')).b; omega)
        (gr_halved ms.2.2.1 ms.2.2.2) (g_bound (bd2_mono fs (by decide))) (by have := gK_le ((gP a b k c d l).add (gP a' b' k' c' d' l')).c ((gP a b k c d l).add (gP a' b' k' c' d' l')).d; omega) w hT
      simp only [Int.natCast_add, Int.natCast_one] at SN
      change ∀ w, LT β w → Calls _ _ _ w (RetB (pointV (halfP ((gP a b k c d l).add (gP a' b' k' c' d' l')))) w) at SN
      have HX := Lib.hid fun w (hT : LT β w) => hx ▸ iVP_any h w hT
      have HY := Lib.hid fun w (hT : LT β w) => hy ▸ iVP_any h' w hT
      have SX := Lib.hid fun w (hT : LT β w) => hx ▸ sLP_any a b k c d l w hT
      have SY := Lib.hid fun w (hT : LT β w) => hy ▸ sLP_any a' b' k' c' d' l' w hT
      unfold pointV at PT SN
      by_cases ho : pOk (halfP ((gP a b k c d l).add (gP a' b' k' c' d' l'))) = true
      · rw [ho, if_pos rfl] at PT SN
        exact ⟨_, _, _, _, _, _, _, fun w hT => sMP_ok _ _ _ _ _ _ _ _ _ _ _ _ _ _ _ _ _ _ _ _ _ _ _ _ _ _ _ _ _ _ _ _ _ _ _ _ _ w hT (Int.natCast_nonneg _) (gK_hi _ _) (Int.natCast_nonneg _) (gK_hi _ _) SX SY (Lib.hid fun w _ => lOf_any a b k w) (Lib.hid fun w _ => lOf_any a' b' k' w) (Lib.hid fun w _ => A1 w) (Lib.hid fun w _ => lOf_any c d l w) (Lib.hid fun w _ => lOf_any c' d' l' w) (Lib.hid fun w _ => A2 w) (Lib.hid SN),
          fun w hT => iMP_ok _ _ _ _ _ _ _ _ _ _ _ _ _ _ _ _ _ _ _ _ _ _ _ _ _ _ _ _ _ _ _ _ _ _ _ _ _ _ _ _ _ _ _ w hT HX HY (Lib.hid V1) (Lib.hid V2) (Lib.hid PL) (Lib.hid OV) (Lib.hid PT)⟩
      · rw [Bool.eq_false_iff.2 ho, if_neg (by decide)] at PT SN
        exact ⟨_, _, _, _, _, _, _, fun w hT => sMP_ok _ _ _ _ _ _ _ _ _ _ _ _ _ _ _ _ _ _ _ _ _ _ _ _ _ _ _ _ _ _ _ _ _ _ _ _ _ w hT (Int.natCast_nonneg _) (gK_hi _ _) (Int.natCast_nonneg _) (gK_hi _ _) SX SY (Lib.hid fun w _ => lOf_any a b k w) (Lib.hid fun w _ => lOf_any a' b' k' w) (Lib.hid fun w _ => A1 w) (Lib.hid fun w _ => lOf_any c d l w) (Lib.hid fun w _ => lOf_any c' d' l' w) (Lib.hid fun w _ => A2 w) (Lib.hid SN),
          fun w hT => iMP_ok _ _ _ _ _ _ _ _ _ _ _ _ _ _ _ _ _ _ _ _ _ _ _ _ _ _ _ _ _ _ _ _ _ _ _ _ _ _ _ _ _ _ _ w hT HX HY (Lib.hid V1) (Lib.hid V2) (Lib.hid PL) (Lib.hid OV) (Lib.hid PT)⟩
    · have hf := Bool.eq_false_iff.2 hy
      exact ⟨0, 0, 0, 0, 0, 0, false, fun w hT => sMP_no2 _ _ _ _ _ _ _ _ _ _ _ _ w hT (Lib.hid fun w hT => hx ▸ sLP_any a b k c d l w hT) (Lib.hid fun w hT => hf ▸ sLP_any a' b' k' c' d' l' w hT),
        fun w hT => iMP_no2 _ _ _ _ _ _ _ _ _ _ _ _ w hT (Lib.hid fun w hT => hx ▸ iVP_any h w hT) (Lib.hid fun w hT => hf ▸ iVP_any h' w hT)⟩
  · have hf := Bool.eq_false_iff.2 hx
    exact ⟨0, 0, 0, 0, 0, 0, false, fun w hT => sMP_no1 _ _ _ _ _ _ _ _ _ _ _ _ w hT (Lib.hid fun w hT => hf ▸ sLP_any a b k c d l w hT), fun w hT => iMP_no1 _ _ _ _ _ _ _ _ _ _ _ _ w hT (Lib.hid fun w hT => hf ▸ iVP_any h w hT)⟩

theorem exactMidPoint.walk {a b k c d l a' b' k' c' d' l' : Int} (h : I6 a b k c d l) (h' : I6 a' b' k' c' d' l') (w : World) (hT : LT β w) :
    Calls Tryd.prog 14 #[pt a b k c d l, pt a' b' k' c' d' l'] w (RetB (.bool true) w) := by
  obtain ⟨za, zb, zk, zc, zd, zl, ro, S, I⟩ := mp_both (β := β) h h'
  exact exactMidPoint.core _ _ _ _ _ _ _ _ _ _ _ _ _ _ _ _ _ _ _ w hT (Lib.hid fun w hT => toPt_any a b k c d l w hT) (Lib.hid fun w hT => toPt_any a' b' k' c' d' l' w hT) (Lib.hid S) (Lib.hid fun w hT => toPt_any a b k c d l w hT) (Lib.hid fun w hT => toPt_any a' b' k' c' d' l' w hT) (Lib.hid I) (Lib.hid fun w hT => eqPt_any _ _ _ _ _ _ w hT)
end Go.Proofs.YtojgopnjefnglaaDoor
