/- The laws of the vectors of directions, of lines through points, of sides and of midpoints: walked whole. -/
import Derived.Test.YtojgopnjefnglaaDoorGz
import Derived.Test.YtojgopnjefnglaaDoorGs
import Derived.Test.YtojgopnjefnglaaDoorGeDirVector
import Derived.Test.YtojgopnjefnglaaDoorGeLineAt
import Derived.Test.YtojgopnjefnglaaDoorGeSideOf
import Derived.Test.YtojgopnjefnglaaDoorGrDirVector
import Derived.Test.YtojgopnjefnglaaDoorGrLineAt
import Derived.Test.YtojgopnjefnglaaDoorGrSideOf
namespace Go.Proofs.YtojgopnjefnglaaDoor
open Go Go.RowKit OriM
variable {β : Bool}

/-! ### DirVector -/
def sP (d : Nat) : P4 := ⟨xA d * 65536, xB d * 65536, yA d * 65536, yB d * 65536⟩
theorem dv_gp (d : Nat) : gp (sP d) = dv d := by
  obtain ⟨h1, h2, h3⟩ := gA_int (xA d) (xB d)
  obtain ⟨g1, g2, g3⟩ := gA_int (yA d) (yB d)
  unfold gp sP
  simp only [h1, h2, h3, g1, g2, g3]; rfl
theorem sP_bd {d : Nat} (hd : d < 16) : Bd 65536 (sP d) := by
  have := small_vec d hd
  unfold Bd sP; simp only; omega
theorem sP_ok {d : Nat} (hd : d < 16) : pOk (sP d) = true := by
  have := small_vec d hd
  unfold pOk gOk sP
  obtain ⟨h1, h2, h3⟩ := gA_int (xA d) (xB d)
  obtain ⟨g1, g2, g3⟩ := gA_int (yA d) (yB d)
  simp only [h1, h2, h3, g1, g2, g3]
  simp [withinB, inB]; omega
theorem dpoint_any {d : Nat} (hd : d < 16) (w : World) (hT : LT β w) : Calls Tryd.prog 53 #[dv d] w (RetB (.tuple #[dv d, .bool true]) w) := by
  have h := point_g (bd_mono (sP_bd hd) (by decide)) w hT
  unfold pointV at h
  rw [sP_ok hd, if_pos rfl, dv_gp] at h
  exact h

theorem exactDirVector.walk (d : Int) (w : World) (hT : LT true w) : Calls Tryd.prog 6 #[.int .i64 d] w (RetB (.bool true) w) := by
  by_cases h : 0 ≤ d ∧ d < 16
  · obtain ⟨n, rfl⟩ : ∃ n : Nat, d = n := ⟨d.toNat, by omega⟩
    have hn : n < 16 := by omega
    have hi : inB n 0 15 = true := by simp [inB]; omega
    refine exactDirVector.core (n : Int) _ _ _ _ _ _ w hT (Lib.hid fun w hT => sDV_ok _ _ _ _ _ _ _ w hT (Lib.hid fun w _ => ?_) (Lib.hid fun w _ => ?_)) (Lib.hid fun w hT => iDV_ok _ _ _ _ _ _ _ _ _ _ _ _ _ w hT (by omega) (by omega) (Lib.hid fun w hT => ?_) (Lib.hid fun w hT => dpoint_any hn w hT)) (Lib.hid fun w hT => eqPt_any _ _ _ _ _ _ w hT)
    · have := (l00In_any n 0 15 w).mono fun _ _ h => h.toB
      rwa [hi] at this
    · have := svec_any n (by omega) w
      rwa [Nat.mod_eq_of_lt hn] at this
    · have := dirvec_any n (by omega) w hT
      rwa [Nat.mod_eq_of_lt hn] at this
  · have hi : inB d 0 15 = false := by simp [inB]; omega
    refine exactDirVector.core d 0 0 0 0 0 0 w hT (Lib.hid fun w hT => sDV_no _ w hT (Lib.hid fun w _ => ?_)) (Lib.hid fun w hT => ?_) (Lib.hid fun w hT => eqPt_any _ _ _ _ _ _ w hT)
    · have := (l00In_any d 0 15 w).mono fun _ _ h => h.toB
      rwa [hi] at this
    · by_cases h0 : d < 0
      · exact iDV_low d w hT h0
      · exact iDV_high d w hT (by omega)

/-! ### LineAt -/
theorem dot_m64 {d : Nat} (hd : d < 16) {p : P4} (h : M64 p) : dotA d p % 64 = 0 ∧ dotB d p % 64 = 0 := by
  obtain ⟨h1, h2, h3, h4⟩ := h
  rcases lt16 hd with rfl | rfl | rfl | rfl | rfl | rfl | rfl | rfl | rfl | rfl | rfl | rfl | rfl | rfl | rfl | rfl <;> simp [dotA, dotB, xA, xB, yA, yB] <;> omega

/-- LineAt of a valid point: both sides. -/
theorem iLA_g {a b k c d l : Int} (hv : vP a b k c d l = true) (h : I6 a b k c d l) {n : Nat} (hn : n < 8) (w : World) (hT : LT true w) :
    Calls Tryd.prog 29 #[pt a b k c d l, .int .i64 n] w (RetB (lineV n (dotA (n + 4) (gP a b k c d l)) (dotB (n + 4) (gP a b k c d l))) w) := by
  obtain ⟨hb, _⟩ := valid_bp hv
  have hi : inB n 0 7 = true := by simp [inB]; omega
  have HL := fun w (hT : LT true w) => line_g (d := n) (bd2_mono (dot_bd (d := n + 4) (by omega) hb) (by decide)) w hT
  have HD := fun w (hT : LT true w) => dlineAt_g (d := n) (by omega) (bd_mono hb (by decide)) w hT
  rw [Nat.mod_eq_of_lt (show n < 16 by omega), Nat.mod_eq_of_lt (show n + 4 < 16 by omega)] at HD
  have HV := fun w (hT : LT true w) => vectorOf_g (gP a b k c d l) w hT
  rw [← valid_gp hv] at HV HD
  have HI := fun w => (isDir_any (n : Int) w).mono fun _ _ h => h.toB
  rw [hi] at HI
  unfold lineV at HL ⊢
  by_cases ho : gOk (dotA (n + 4) (gP a b k c d l)) (dotB (n + 4) (gP a b k c d l)) = true
  · rw [ho] at HL ⊢
    exact iLA_ok _ _ _ _ _ _ _ _ _ _ _ _ _ _ _ _ _ _ _ _ _ _ w hT (Lib.hid fun w hT => hv ▸ iVP_any h w hT) (Lib.hid fun w _ => HI w) (Lib.hid HV) (Lib.hid HD) (Lib.hid HL)
  · rw [Bool.eq_false_iff.2 ho] at HL ⊢
    exact iLA_ok _ _ _ _ _ _ _ _ _ _ _ _ _ _ _ _ _ _ _ _ _ _ w hT (Lib.hid fun w hT => hv ▸ iVP_any h w hT) (Lib.hid fun w _ => HI w) (Lib.hid HV) (Lib.hid HD) (Lib.hid HL)
theorem sLA_g {a b k c d l : Int} (hv : vP a b k c d l = true) {n : Nat} (hn : n < 8) (w : World) (hT : LT β w) :
    Calls Tryd.prog 28 #[pt a b k c d l, .int .i64 n] w (RetB (lineV n (dotA (n + 4) (gP a b k c d l)) (dotB (n + 4) (gP a b k c d l))) w) := by
  obtain ⟨hb, _⟩ := valid_bp hv
  have hi : inB n 0 7 = true := by simp [inB]; omega
  have HN := fun w => sNum1_g (bd2_mono (dot_bd (d := n + 4) (by omega) hb) (show (4 * 8589934592 : Int) ≤ 1152921504606846976 by decide)) w
  have HD := fun w (hT : LT β w) => sDot_g (d := n + 4) (by omega) (bd_mono hb (by decide)) w hT
  rw [Nat.mod_eq_of_lt (show n + 4 < 16 by omega), show ((n + 4 : Nat) : Int) = (n : Int) + 4 by omega] at HD
  rw [← valid_gp hv] at HD
  have HI := fun w => (l00In_any (n : Int) 0 7 w).mono fun _ _ h => h.toB
  rw [hi] at HI
  unfold limV at HN
  unfold lineV
  by_cases ho : gOk (dotA (n + 4) (gP a b k c d l)) (dotB (n + 4) (gP a b k c d l)) = true
  · rw [ho] at HN ⊢
    exact sLA_ok _ _ _ _ _ _ _ _ _ _ _ _ _ _ _ _ _ _ _ w hT (by omega) (by omega) (Lib.hid fun w hT => hv ▸ sLP_any a b k c d l w hT) (Lib.hid fun w _ => HI w) (Lib.hid fun w hT => sOf_any _ _ _ _ _ _ w hT) (Lib.hid HD) (Lib.hid fun w _ => HN w)
  · rw [Bool.eq_false_iff.2 ho] at HN ⊢
    exact sLA_rg _ _ _ _ _ _ _ _ _ _ _ _ _ _ _ _ _ _ _ w hT (by omega) (by omega) (Lib.hid fun w hT => hv ▸ sLP_any a b k c d l w hT) (Lib.hid fun w _ => HI w) (Lib.hid fun w hT => sOf_any _ _ _ _ _ _ w hT) (Lib.hid HD) (Lib.hid fun w _ => HN w)

/-- Both sides answer the same line, or none. -/
theorem la_both {a b k c d l : Int} (h : I6 a b k c d l) (dir : Int) : ∃ (rd ra rb rk : Int) (ro : Bool),
    (∀ w, LT true w → Calls Tryd.prog 28 #[pt a b k c d l, .int .i64 dir] w (RetB (.tuple #[lnv rd ra rb rk, .bool ro]) w)) ∧
    (∀ w, LT true w → Calls Tryd.prog 29 #[pt a b k c d l, .int .i64 dir] w (RetB (.tuple #[lnv rd ra rb rk, .bool ro]) w)) := by
  by_cases hv : vP a b k c d l = true
  · by_cases hd : 0 ≤ dir ∧ dir < 8
    · obtain ⟨n, rfl⟩ : ∃ n : Nat, dir = n := ⟨dir.toNat, by omega⟩
      have hn : n < 8 := by omega
      have S := fun w (hT : LT true w) => sLA_g hv hn w hT
      have I := fun w (hT : LT true w) => iLA_g hv h hn w hT
      unfold lineV at S I
      by_cases ho : gOk (dotA (n + 4) (gP a b k c d l)) (dotB (n + 4) (gP a b k c d l)) = true
      · rw [ho] at S I; exact ⟨_, _, _, _, _, S, I⟩
      · rw [Bool.eq_false_iff.2 ho] at S I; exact ⟨_, _, _, _, _, S, I⟩
    · have hi : inB dir 0 7 = false := by simp [inB]; omega
      refine ⟨0, 0, 0, 0, false, fun w hT => sLA_no2 _ _ _ _ _ _ _ w hT (Lib.hid fun w hT => hv ▸ sLP_any a b k c d l w hT) (Lib.hid fun w _ => ?_), fun w hT => iLA_no2 _ _ _ _ _ _ _ w hT (Lib.hid fun w hT => hv ▸ iVP_any h w hT) (Lib.hid fun w _ => ?_)⟩
      · have := (l00In_any dir 0 7 w).mono fun _ _ h => h.toB
        rwa [hi] at this
      · have := (isDir_any dir w).mono fun _ _ h => h.toB
        rwa [hi] at this
  · have hf := Bool.eq_false_iff.2 hv
    exact ⟨0, 0, 0, 0, false, fun w hT => sLA_no1 _ _ _ _ _ _ _ w hT (Lib.hid fun w hT => hf ▸ sLP_any a b k c d l w hT), fun w hT => iLA_no1 _ _ _ _ _ _ _ w hT (Lib.hid fun w hT => hf ▸ iVP_any h w hT)⟩

theorem exactLineAt.walk {a b k c d l : Int} (h : I6 a b k c d l) (dir : Int) (w : World) (hT : LT true w) : Calls Tryd.prog 8 #[pt a b k c d l, .int .i64 dir] w (RetB (.bool true) w) := by
  obtain ⟨rd, ra, rb, rk, ro, S, I⟩ := la_both h dir
  exact exactLineAt.core _ _ _ _ _ _ _ _ _ _ _ _ w hT (Lib.hid fun w hT => toPt_any a b k c d l w hT) (Lib.hid S) (Lib.hid fun w hT => toPt_any a b k c d l w hT) (Lib.hid I) (Lib.hid fun w hT => eqLn_any _ _ _ _ w hT)

/-! ### SideOf -/
/-- On which side of the line d, A, B a point is. -/
def sideV (n : Nat) (A B : Int) (p : P4) : Int := Q.sgn2 (dotA (n + 4) p - A) (dotB (n + 4) p - B)
theorem side_facts {n : Nat} (hn : n < 8) {A B : Int} {p : P4} (hA : Bd2 8589934592 A B) (mA : A % 64 = 0 ∧ B % 64 = 0) (hb : Bd 8589934592 p) (hm : M64 p) :
    (dotA (n + 4) p - A) % 64 = 0 ∧ (dotB (n + 4) p - B) % 64 = 0 ∧ Bd2 68719476736 (dotA (n + 4) p - A) (dotB (n + 4) p - B) := by
  have m := dot_m64 (d := n + 4) (by omega) hm
  have b := dot_bd (d := n + 4) (by omega) hb
  unfold Bd2 at *; omega
theorem iside_g {n : Nat} (hn : n < 8) {A B : Int} {p : P4} (hA : Bd2 8589934592 A B) (mA : A % 64 = 0 ∧ B % 64 = 0) (hb : Bd 8589934592 p) (hm : M64 p) (w : World) (hT : LT true w) :
    Calls Tryd.prog 67 #[gl n A B, gp p] w (RetB (.int .i64 (sideV n A B p)) w) := by
  obtain ⟨f1, f2, f3⟩ := side_facts hn hA mA hb hm
  have HH := fun w (hT : LT true w) => height_g (d := n) (by omega) (bd2_mono hA (by decide)) (bd_mono hb (by decide)) w hT
  rw [Nat.mod_eq_of_lt (show n + 4 < 16 by omega)] at HH
  exact side_core _ _ _ _ _ _ _ _ _ _ _ _ _ _ w hT (Lib.hid HH) (Lib.hid fun w _ => sign_g f1 f2 f3 w)
theorem sside_g {n : Nat} (hn : n < 8) {A B : Int} {p : P4} (hA : Bd2 8589934592 A B) (mA : A % 64 = 0 ∧ B % 64 = 0) (hb : Bd 8589934592 p) (hm : M64 p) (w : World) (hT : LT β w) :
    Calls Tryd.prog 64 #[gl n A B, gp p] w (RetB (.int .i64 (sideV n A B p)) w) := by
  obtain ⟨f1, f2, f3⟩ := side_facts hn hA mA hb hm
  have HD := fun w (hT : LT β w) => sDot_g (d := n + 4) (by omega) (bd_mono hb (by decide)) w hT
  rw [Nat.mod_eq_of_lt (show n + 4 < 16 by omega), show ((n + 4 : Nat) : Int) = (n : Int) + 4 by omega] at HD
  have b := dot_bd (d := n + 4) (by omega) hb
  exact sSide_core _ _ _ _ _ _ _ _ _ _ _ _ _ _ _ _ _ w hT (by omega) (by omega) (Lib.hid HD) (Lib.hid fun w hT => sSub_g (bd2_mono b (by decide)) (bd2_mono hA (by decide)) w hT) (Lib.hid fun w _ => sSign_g f1 f2 f3 w)

theorem vL_split {d a b k : Int} (h : vL d a b k = true) : ∃ n : Nat, d = n ∧ n < 8 ∧ validB a b k = true := by
  unfold vL at h; rw [Bool.and_eq_true] at h
  have := h.1
  simp [inB] at this
  exact ⟨d.toNat, by omega, by omega, h.2⟩

theorem so_both {e x y z a b k c d l : Int} (hl : I3 x y z) (h : I6 a b k c d l) : ∃ r : Int,
    (∀ w, LT true w → Calls Tryd.prog 33 #[lnv e x y z, pt a b k c d l] w (RetB (.int .i64 r) w)) ∧ (∀ w, LT true w → Calls Tryd.prog 34 #[lnv e x y z, pt a b k c d l] w (RetB (.int .i64 r) w)) := by
  by_cases hL : vL e x y z = true
  · by_cases hv : vP a b k c d l = true
    · have HL := hL
      obtain ⟨n, rfl, hn, hx⟩ := vL_split hL
      obtain ⟨hA, mA⟩ := valid_bd hx
      obtain ⟨hb, hm⟩ := valid_bp hv
      have S := fun w (hT : LT true w) => sside_g hn hA mA hb hm w hT
      have I := fun w (hT : LT true w) => iside_g hn hA mA hb hm w hT
      have DL := fun w (hT : LT true w) => dlineOf_g n (up16 x z.toNat) (up16 y z.toNat) w hT
      have VO := fun w (hT : LT true w) => vectorOf_g (gP a b k c d l) w hT
      rw [← valid_gl hx] at S I DL
      rw [← valid_gp hv] at S I VO
      exact ⟨_, fun w hT => sSO_ok _ _ _ _ _ _ _ _ _ _ _ _ _ _ _ _ _ _ _ _ _ w hT (Lib.hid fun w hT => HL ▸ sLL_any _ x y z w hT) (Lib.hid fun w hT => hv ▸ sLP_any a b k c d l w hT) (Lib.hid fun w hT => sLineOf_any _ _ _ _ w hT) (Lib.hid fun w hT => sOf_any _ _ _ _ _ _ w hT) (Lib.hid S),
        fun w hT => iSO_ok _ _ _ _ _ _ _ _ _ _ _ _ _ _ _ _ _ _ _ _ _ w hT (Lib.hid fun w hT => HL ▸ iVL_any hl w hT) (Lib.hid fun w hT => hv ▸ iVP_any h w hT) (Lib.hid DL) (Lib.hid VO) (Lib.hid I)⟩
    · have hf := Bool.eq_false_iff.2 hv
      exact ⟨0, fun w hT => sSO_no2 _ _ _ _ _ _ _ _ _ _ w hT (Lib.hid fun w hT => hL ▸ sLL_any e x y z w hT) (Lib.hid fun w hT => hf ▸ sLP_any a b k c d l w hT),
        fun w hT => iSO_no2 _ _ _ _ _ _ _ _ _ _ w hT (Lib.hid fun w hT => hL ▸ iVL_any hl w hT) (Lib.hid fun w hT => hf ▸ iVP_any h w hT)⟩
  · have hf := Bool.eq_false_iff.2 hL
    exact ⟨0, fun w hT => sSO_no1 _ _ _ _ _ _ _ _ _ _ w hT (Lib.hid fun w hT => hf ▸ sLL_any e x y z w hT), fun w hT => iSO_no1 _ _ _ _ _ _ _ _ _ _ w hT (Lib.hid fun w hT => hf ▸ iVL_any hl w hT)⟩
theorem exactSideOf.walk {e x y z a b k c d l : Int} (hl : I3 x y z) (h : I6 a b k c d l) (w : World) (hT : LT true w) : Calls Tryd.prog 10 #[lnv e x y z, pt a b k c d l] w (RetB (.bool true) w) := by
  obtain ⟨r, S, I⟩ := so_both (e := e) hl h
  exact exactSideOf.core _ _ _ _ _ _ _ _ _ _ _ w hT (Lib.hid fun w hT => toLn_any e x y z w hT) (Lib.hid fun w hT => toPt_any a b k c d l w hT) (Lib.hid S) (Lib.hid fun w hT => toLn_any e x y z w hT) (Lib.hid fun w hT => toPt_any a b k c d l w hT) (Lib.hid I)
end Go.Proofs.YtojgopnjefnglaaDoor
