/- Moved points: both sides answer the same point, or none; the walk of the law. -/
import Derived.Test.YtlmfbcffmalkkaaDoorOk
import Derived.Test.YtlmfbcffmalkkaaDoorOt
import Derived.Test.YtlmfbcffmalkkaaDoorOe
import Derived.Test.YtlmfbcffmalkkaaDoorOrMovePoint
namespace Go.Proofs.YtlmfbcffmalkkaaDoor
open Go Go.RowKit OriM
variable {β : Bool}

/-- Both ways of turning a point. -/
theorem turn_eq {t : Nat} (ht : t < 8) (f : Bool) (p : P4) (he : Ev p) : tR t (rotN (t / 2) (flP f p)) = (uP t p.a p.b).add (uP (upI t f) p.c p.d) := by
  obtain ⟨a, b, c, d⟩ := p
  obtain ⟨h1, h2⟩ := he
  simp only at h1 h2
  cases f <;> rcases lt8 ht with rfl | rfl | rfl | rfl | rfl | rfl | rfl | rfl <;> simp [tR, rotN, rot, flP, halfP', uP, uA, uB, uc, ud, us, upI, P4.add] <;> omega

theorem sturn_g {t : Nat} (ht : t < 8) (f : Bool) {p : P4} (hb : Bd 1099511627776 p) (he : Ev p) (w : World) (hT : LT β w) :
    Calls Tryd.prog 51 #[.int .i64 (t : Int), .bool f, gp p] w (RetB (gp ((uP t p.a p.b).add (uP (upI t f) p.c p.d))) w) := by
  rw [← turn_eq ht f p he]
  have e : (t : Int).tdiv 2 = ((t / 2 : Nat) : Int) := by
    rw [Int.tdiv_eq_ediv_of_nonneg (by omega)]; omega
  have o : (t : Int).tmod 2 = 0 ∨ (t : Int).tmod 2 = 1 := by
    rw [Int.tmod_eq_emod_of_nonneg (by omega)]; omega
  cases f
  · exact sTurn_no t (t / 2) p.a p.b p.c p.d w hT e (by omega) o hb he.1 he.2
  · exact sTurn_yes t (t / 2) p.a p.b p.c p.d w hT e (by omega) o hb he.1 he.2
theorem splus_g {p q : P4} (h : Bd 70368744177664 p) (h' : Bd 70368744177664 q) (w : World) (hT : LT β w) :
    Calls Tryd.prog 50 #[gp p, gp q] w (RetB (gp (p.add q)) w) := by
  obtain ⟨hx, hy⟩ := bd_half h
  obtain ⟨hx', hy'⟩ := bd_half h'
  exact sPlus_core _ _ _ _ _ _ _ _ _ _ _ _ _ _ _ _ _ _ w hT (Lib.hid fun w _ => gAdd_any (bd2_mono hx (by decide)) (bd2_mono hx' (by decide)) w) (Lib.hid fun w _ => gAdd_any (bd2_mono hy (by decide)) (bd2_mono hy' (by decide)) w)
/-- A motion on the grid, as a value. -/
abbrev motG (t : Int) (f : Bool) (s : P4) : Value := mot t f (gA s.a s.b) (gB s.a s.b) (gK s.a s.b) (gA s.c s.d) (gB s.c s.d) (gK s.c s.d)
theorem smove_g {t : Nat} (ht : t < 8) (f : Bool) {s p : P4} (hs : Bd 8589934592 s) (hb : Bd 1099511627776 p) (he : Ev p) (w : World) (hT : LT β w) :
    Calls Tryd.prog 30 #[motG t f s, gp p] w (RetB (gp (mP t (upI t f) s p)) w) := by
  obtain ⟨hx, hy⟩ := bd_half hb
  have b3 := add_bd (uP_bd ht hx) (uP_bd (upI_lt t f) hy)
  exact sMove_core _ _ _ _ _ _ _ _ _ _ _ _ _ _ _ _ _ _ _ _ _ _ _ _ _ _ w hT (Lib.hid fun w hT => sturn_g ht f hb he w hT) (Lib.hid fun w hT => splus_g (bd_mono b3 (by decide)) (bd_mono hs (by decide)) w hT)
theorem matrix_g {t : Nat} (ht : t < 8) (f : Bool) (s : P4) (w : World) (hT : LT true w) :
    Calls Tryd.prog 32 #[motG t f s] w (RetB (matV t (upI t f) s) w) := by
  have d1 : dirV t f 0 = ((2 * t : Nat) : Int) := by cases f <;> simp [dirV] <;> omega
  have d2 : dirV t f 4 = ((2 * upI t f : Nat) : Int) := by cases f <;> simp [dirV, upI] <;> omega
  have D1 := fun w (hT : LT true w) => dir_any (t := (t : Int)) f (gA s.a s.b) (gB s.a s.b) (gK s.a s.b) (gA s.c s.d) (gB s.c s.d) (gK s.c s.d) (e := 0) (by omega) (by omega) (by omega) (by omega) w hT
  have D2 := fun w (hT : LT true w) => dir_any (t := (t : Int)) f (gA s.a s.b) (gB s.a s.b) (gK s.a s.b) (gA s.c s.d) (gB s.c s.d) (gK s.c s.d) (e := 4) (by omega) (by omega) (by omega) (by omega) w hT
  rw [d1] at D1
  rw [d2] at D2
  exact matrixOf_core _ _ _ _ _ _ _ _ _ _ _ _ _ _ _ _ _ _ _ _ _ _ w hT (Lib.hid D1) (Lib.hid fun w hT => unit_any ht w hT) (Lib.hid D2) (Lib.hid fun w hT => unit_any (upI_lt t f) w hT)
    (Lib.hid fun w hT => shift_any _ _ _ _ _ _ _ _ w hT) (Lib.hid fun w hT => vectorOf_g s w hT)
theorem sNumQ_g {p : P4} (h : Bd 70368744177664 p) (w : World) (hT : LT β w) : Calls Tryd.prog 29 #[gp p] w (RetB (pointV p) w) := by
  obtain ⟨hx, hy⟩ := bd_half h
  exact sNum_any (gr_self p.a p.b) (g_bound (bd2_mono hx (by decide))) (by have := gK_le p.a p.b; omega) (gr_self p.c p.d) (g_bound (bd2_mono hy (by decide))) (by have := gK_le p.c p.d; omega) w hT
theorem mot_g {t : Int} {f : Bool} {a b k c d l : Int} (h : vP a b k c d l = true) : mot t f a b k c d l = motG t f (gP a b k c d l) := by
  unfold vP at h; rw [Bool.and_eq_true] at h
  obtain ⟨h1, h2, h3⟩ := valid_g h.1
  obtain ⟨g1, g2, g3⟩ := valid_g h.2
  unfold motG mot gP
  simp only
  rw [← h1, ← h2, ← h3, ← g1, ← g2, ← g3]

theorem mvp_both {t : Int} {f : Bool} {ma mb mk mc md ml a b k c d l : Int} (hm : I6 ma mb mk mc md ml) (h : I6 a b k c d l) : ∃ (za zb zk zc zd zl : Int) (ro : Bool),
    (∀ w, LT true w → Calls Tryd.prog 12 #[mot t f ma mb mk mc md ml, pt a b k c d l] w (RetB (.tuple #[pt za zb zk zc zd zl, .bool ro]) w)) ∧
    (∀ w, LT true w → Calls Tryd.prog 14 #[mot t f ma mb mk mc md ml, pt a b k c d l] w (RetB (.tuple #[pt za zb zk zc zd zl, .bool ro]) w)) := by
  by_cases hM : vM t ma mb mk mc md ml = true
  · by_cases hv : vP a b k c d l = true
    · have ht := vM_in hM
      have hvm : vP ma mb mk mc md ml = true := by unfold vM at hM; rw [Bool.and_eq_true] at hM; exact hM.2
      obtain ⟨n, rfl⟩ : ∃ n : Nat, t = n := ⟨t.toNat, by omega⟩
      have hn : n < 8 := by omega
      obtain ⟨hs, _⟩ := valid_bp hvm
      obtain ⟨hb, m1, m2, m3, m4⟩ := valid_bp hv
      have he : Ev (gP a b k c d l) := ⟨by omega, by omega⟩
      obtain ⟨hx, hy⟩ := bd_half hb
      have bR : Bd 70368744177664 (mP n (upI n f) (gP ma mb mk mc md ml) (gP a b k c d l)) := bd_mono (add_bd (add_bd (uP_bd hn hx) (uP_bd (upI_lt n f) hy)) hs) (by decide)
      have SM := fun w (hT : LT true w) => smove_g hn f hs (bd_mono hb (by decide)) he w hT
      have IM := fun w (hT : LT true w) => matrix_g hn f (gP ma mb mk mc md ml) w hT
      have PL := fun w (hT : LT true w) => place_g hn (upI_lt n f) hs (bd_mono hb (by decide)) he w hT
      have SN := fun w (hT : LT true w) => sNumQ_g bR w hT
      have PT := fun w (hT : LT true w) => point_g bR w hT
      have VO := fun w (hT : LT true w) => vectorOf_g (gP a b k c d l) w hT
      generalize mP n (upI n f) (gP ma mb mk mc md ml) (gP a b k c d l) = R at *
      rw [← valid_gp hv] at SM PL VO
      rw [← mot_g hvm] at SM IM
      unfold pointV at SN PT
      have HM := Lib.hid fun w (hT : LT true w) => hM ▸ iVM_any n f hm w hT
      have HS := Lib.hid fun w (hT : LT true w) => hM ▸ sMK_any n f ma mb mk mc md ml w hT
      by_cases ho : pOk R = true
      · rw [ho, if_pos rfl] at SN PT
        exact ⟨_, _, _, _, _, _, _, fun w hT => sMvP_ok _ _ _ _ _ _ _ _ _ _ _ _ _ _ _ _ _ _ _ _ _ _ _ _ _ _ _ w hT HS (Lib.hid fun w hT => hv ▸ sLP_any a b k c d l w hT) (Lib.hid fun w hT => sMOf_any _ _ _ _ _ _ _ _ w hT) (Lib.hid fun w hT => sOf_any _ _ _ _ _ _ w hT) (Lib.hid SM) (Lib.hid SN),
          fun w hT => iMvP_ok _ _ _ _ _ _ _ _ _ _ _ _ _ _ _ _ _ _ _ _ _ _ _ _ _ _ _ _ _ _ _ _ _ _ _ _ _ _ _ _ _ _ _ _ _ _ _ _ _ _ _ w hT HM (Lib.hid fun w hT => hv ▸ iVP_any h w hT) (Lib.hid IM) (Lib.hid VO) (Lib.hid PL) (Lib.hid PT)⟩
      · rw [Bool.eq_false_iff.2 ho, if_neg (by decide)] at SN PT
        exact ⟨_, _, _, _, _, _, _, fun w hT => sMvP_ok _ _ _ _ _ _ _ _ _ _ _ _ _ _ _ _ _ _ _ _ _ _ _ _ _ _ _ w hT HS (Lib.hid fun w hT => hv ▸ sLP_any a b k c d l w hT) (Lib.hid fun w hT => sMOf_any _ _ _ _ _ _ _ _ w hT) (Lib.hid fun w hT => sOf_any _ _ _ _ _ _ w hT) (Lib.hid SM) (Lib.hid SN),
          fun w hT => iMvP_ok _ _ _ _ _ _ _ _ _ _ _ _ _ _ _ _ _ _ _ _ _ _ _ _ _ _ _ _ _ _ _ _ _ _ _ _ _ _ _ _ _ _ _ _ _ _ _ _ _ _ _ w hT HM (Lib.hid fun w hT => hv ▸ iVP_any h w hT) (Lib.hid IM) (Lib.hid VO) (Lib.hid PL) (Lib.hid PT)⟩
    · have hf := Bool.eq_false_iff.2 hv
      exact ⟨0, 0, 0, 0, 0, 0, false, fun w hT => sMvP_no2 _ _ _ _ _ _ _ _ _ _ _ _ _ _ w hT (Lib.hid fun w hT => hM ▸ sMK_any t f ma mb mk mc md ml w hT) (Lib.hid fun w hT => hf ▸ sLP_any a b k c d l w hT),
        fun w hT => iMvP_no2 _ _ _ _ _ _ _ _ _ _ _ _ _ _ w hT (Lib.hid fun w hT => hM ▸ iVM_any t f hm w hT) (Lib.hid fun w hT => hf ▸ iVP_any h w hT)⟩
  · have hf := Bool.eq_false_iff.2 hM
    exact ⟨0, 0, 0, 0, 0, 0, false, fun w hT => sMvP_no1 _ _ _ _ _ _ _ _ _ _ _ _ _ _ w hT (Lib.hid fun w hT => hf ▸ sMK_any t f ma mb mk mc md ml w hT), fun w hT => iMvP_no1 _ _ _ _ _ _ _ _ _ _ _ _ _ _ w hT (Lib.hid fun w hT => hf ▸ iVM_any t f hm w hT)⟩
theorem exactMovePoint.walk (t : Int) (f : Bool) {ma mb mk mc md ml a b k c d l : Int} (hm : I6 ma mb mk mc md ml) (h : I6 a b k c d l) (w : World) (hT : LT true w) : Calls Tryd.prog 5 #[mot t f ma mb mk mc md ml, pt a b k c d l] w (RetB (.bool true) w) := by
  obtain ⟨za, zb, zk, zc, zd, zl, ro, S, I⟩ := mvp_both (t := t) (f := f) hm h
  exact exactMovePoint.core _ _ _ _ _ _ _ _ _ _ _ _ _ _ _ _ _ _ _ _ _ w hT (Lib.hid fun w hT => toMot_any t f ma mb mk mc md ml w hT) (Lib.hid fun w hT => toPt_any a b k c d l w hT) (Lib.hid S) (Lib.hid fun w hT => toMot_any t f ma mb mk mc md ml w hT) (Lib.hid fun w hT => toPt_any a b k c d l w hT) (Lib.hid I) (Lib.hid fun w hT => eqPt_any _ _ _ _ _ _ w hT)
end Go.Proofs.YtlmfbcffmalkkaaDoor
