/- The laws of reflected points and lines, walked whole. -/
import Derived.Test.YtojgopnjefnglaaDoorGzf
import Derived.Test.YtojgopnjefnglaaDoorGeReflectPoint
import Derived.Test.YtojgopnjefnglaaDoorGrReflectPoint
namespace Go.Proofs.YtojgopnjefnglaaDoor
open Go Go.RowKit OriM

theorem rp_both {e x y z a b k c d l : Int} (hl : I3 x y z) (h : I6 a b k c d l) : ∃ (za zb zk zc zd zl : Int) (ro : Bool),
    (∀ w, LT true w → Calls Tryd.prog 37 #[lnv e x y z, pt a b k c d l] w (RetB (.tuple #[pt za zb zk zc zd zl, .bool ro]) w)) ∧ (∀ w, LT true w → Calls Tryd.prog 38 #[lnv e x y z, pt a b k c d l] w (RetB (.tuple #[pt za zb zk zc zd zl, .bool ro]) w)) := by
  by_cases hL : vL e x y z = true
  · by_cases hv : vP a b k c d l = true
    · have HL := hL
      obtain ⟨n, rfl, hn, hx⟩ := vL_split' hL
      obtain ⟨hA, mA⟩ := valid_bd hx
      obtain ⟨hb, hm⟩ := valid_bp hv
      have md := dot_m64 (d := n + 4) (by omega) hm
      have bd := dot_bd (d := n + 4) (by omega) hb
      obtain ⟨T1, T2, hq, _, _⟩ := quot_ex (A := dotA (n + 4) (gP a b k c d l) - up16 x z.toNat) (B := dotB (n + 4) (gP a b k c d l) - up16 y z.toNat) 8 (sq_unit (n + 4) (by omega)) (by omega) (by omega)
      have bh : Bd2 42949672960 (dotA (n + 4) (gP a b k c d l) - up16 x z.toNat) (dotB (n + 4) (gP a b k c d l) - up16 y z.toNat) := by unfold Bd2 at *; omega
      have bT := sq_bd (by omega) bh hq
      have b2 : Bd2 85899345920 (T1 + T1) (T2 + T2) := by unfold Bd2 at *; omega
      have bm := mulP_bd (d := n + 4) (by omega) b2
      have bR : Bd 70368744177664 ((gP a b k c d l).sub (mulP (n + 4) (T1 + T1) (T2 + T2))) := by unfold Bd P4.sub at *; simp only; omega
      have S := fun w (hT : LT true w) => sreflect_g hn hA (bd_mono hb (by decide)) hq w hT
      have I := fun w (hT : LT true w) => ireflect_g hn hA (bd_mono hb (by decide)) hq w hT
      have SN := fun w (hT : LT true w) => sNumP_g bR w hT
      have PT := fun w (hT : LT true w) => point_g bR w hT
      have DL := fun w (hT : LT true w) => dlineOf_g n (up16 x z.toNat) (up16 y z.toNat) w hT
      have VO := fun w (hT : LT true w) => vectorOf_g (gP a b k c d l) w hT
      generalize (gP a b k c d l).sub (mulP (n + 4) (T1 + T1) (T2 + T2)) = R at *
      rw [← valid_gl hx] at S I DL
      rw [← valid_gp hv] at S I VO
      unfold pointV at SN PT
      by_cases ho : pOk R = true
      · rw [ho, if_pos rfl] at SN PT
        exact ⟨_, _, _, _, _, _, _, fun w hT => sRP_ok _ _ _ _ _ _ _ _ _ _ _ _ _ _ _ _ _ _ _ _ _ _ _ _ _ _ _ _ _ _ _ _ _ w hT (Lib.hid fun w hT => HL ▸ sLL_any _ x y z w hT) (Lib.hid fun w hT => hv ▸ sLP_any a b k c d l w hT) (Lib.hid fun w hT => sLineOf_any _ _ _ _ w hT) (Lib.hid fun w hT => sOf_any _ _ _ _ _ _ w hT) (Lib.hid S) (Lib.hid SN),
          fun w hT => iRP_ok _ _ _ _ _ _ _ _ _ _ _ _ _ _ _ _ _ _ _ _ _ _ _ _ _ _ _ _ _ _ _ _ _ w hT (Lib.hid fun w hT => HL ▸ iVL_any hl w hT) (Lib.hid fun w hT => hv ▸ iVP_any h w hT) (Lib.hid DL) (Lib.hid VO) (Lib.hid I) (Lib.hid PT)⟩
      · rw [Bool.eq_false_iff.2 ho, if_neg (by decide)] at SN PT
        exact ⟨_, _, _, _, _, _, _, fun w hT => sRP_ok _ _ _ _ _ _ _ _ _ _ _ _ _ _ _ _ _ _ _ _ _ _ _ _ _ _ _ _ _ _ _ _ _ w hT (Lib.hid fun w hT => HL ▸ sLL_any _ x y z w hT) (Lib.hid fun w hT => hv ▸ sLP_any a b k c d l w hT) (Lib.hid fun w hT => sLineOf_any _ _ _ _ w hT) (Lib.hid fun w hT => sOf_any _ _ _ _ _ _ w hT) (Lib.hid S) (Lib.hid SN),
          fun w hT => iRP_ok _ _ _ _ _ _ _ _ _ _ _ _ _ _ _ _ _ _ _ _ _ _ _ _ _ _ _ _ _ _ _ _ _ w hT (Lib.hid fun w hT => HL ▸ iVL_any hl w hT) (Lib.hid fun w hT => hv ▸ iVP_any h w hT) (Lib.hid DL) (Lib.hid VO) (Lib.hid I) (Lib.hid PT)⟩
    · have hf := Bool.eq_false_iff.2 hv
      exact ⟨0, 0, 0, 0, 0, 0, false, fun w hT => sRP_no2 _ _ _ _ _ _ _ _ _ _ w hT (Lib.hid fun w hT => hL ▸ sLL_any e x y z w hT) (Lib.hid fun w hT => hf ▸ sLP_any a b k c d l w hT),
        fun w hT => iRP_no2 _ _ _ _ _ _ _ _ _ _ w hT (Lib.hid fun w hT => hL ▸ iVL_any hl w hT) (Lib.hid fun w hT => hf ▸ iVP_any h w hT)⟩
  · have hf := Bool.eq_false_iff.2 hL
    exact ⟨0, 0, 0, 0, 0, 0, false, fun w hT => sRP_no1 _ _ _ _ _ _ _ _ _ _ w hT (Lib.hid fun w hT => hf ▸ sLL_any e x y z w hT), fun w hT => iRP_no1 _ _ _ _ _ _ _ _ _ _ w hT (Lib.hid fun w hT => hf ▸ iVL_any hl w hT)⟩
theorem exactReflectPoint.walk {e x y z a b k c d l : Int} (hl : I3 x y z) (h : I6 a b k c d l) (w : World) (hT : LT true w) : Calls Tryd.prog 12 #[lnv e x y z, pt a b k c d l] w (RetB (.bool true) w) := by
  obtain ⟨za, zb, zk, zc, zd, zl, ro, S, I⟩ := rp_both (e := e) hl h
  exact exactReflectPoint.core _ _ _ _ _ _ _ _ _ _ _ _ _ _ _ _ _ w hT (Lib.hid fun w hT => toLn_any e x y z w hT) (Lib.hid fun w hT => toPt_any a b k c d l w hT) (Lib.hid S) (Lib.hid fun w hT => toLn_any e x y z w hT) (Lib.hid fun w hT => toPt_any a b k c d l w hT) (Lib.hid I) (Lib.hid fun w hT => eqPt_any _ _ _ _ _ _ w hT)
end Go.Proofs.YtojgopnjefnglaaDoor
