/- Lines through points on both sides: the same line, or none. -/
import Derived.Test.YtojgopnjefnglaaDoorGz
import Derived.Test.YtojgopnjefnglaaDoorGs
import Derived.Test.YtojgopnjefnglaaDoorGeLineAt
namespace Go.Proofs.YtojgopnjefnglaaDoor
open Go Go.RowKit OriM
variable {β : Bool}

/-! ### LineAt -/
theorem dot_m64 {d : Nat} (hd : d < 16) {p : P4} (h : M64 p) : dotA d p % 64 = 0 ∧ dotB d p % 64 = 0 := by
  obtain ⟨h1, h2, h3, h4⟩ := h
  rcases lt16 hd with rfl | rfl | rfl | rfl | rfl | rfl | rfl | rfl | rfl | rfl | rfl | rfl | rfl | rfl | rfl | rfl <;> simp [dotA, dotB, xA, xB, yA, yB] <;> omega

/-- LineAt of a valid point: both sides. -/
theorem iLA_g {a b k c d l : Int} (hv : vP a b k c d l = true) (h : I6 a b k c d l) {n : Nat} (hn : n < 8) (w : World) (hT : LT true w) :
    Calls Tryd.prog 29 #[pt a b k c d l, .int .i64 n] w (RetB (lineV n (dotA (n + 4) (gP a b k c d l)) (dotB (n + 4) (gP a b k c d l))) w) := by
  obtain ⟨hb, _⟩ := valid_bp hv
  have hi : inB n 0 7 = true := by simp [inB]; omega
  have HL := fun w (hT : LT true w) => line_g (d := n) (bd2_mono (dot_bd (d := n + 4) (by omega) hb) (by decide)) w hT
  have HD := fun w (hT : LT true w) => dlineAt_g (d := n) (by omega) (bd_mono hb (by decide)) w hT
  rw [Nat.mod_eq_of_lt (show n < 16 by omega), Nat.mod_eq_of_lt (show n + 4 < 16 by omega)] at HD
  have HV := fun w (hT : LT true w) => vectorOf_g (gP a b k c d l) w hT
  rw [← valid_gp hv] at HV HD
  have HI := fun w => (isDir_any (n : Int) w).mono fun _ _ h => h.toB
  rw [hi] at HI
  unfold lineV at HL ⊢
  by_cases ho : gOk (dotA (n + 4) (gP a b k c d l)) (dotB (n + 4) (gP a b k c d l)) = true
  · rw [ho] at HL ⊢
    exact iLA_ok _ _ _ _ _ _ _ _ _ _ _ _ _ _ _ _ _ _ _ _ _ _ w hT (Lib.hid fun w hT => hv ▸ iVP_any h w hT) (Lib.hid fun w _ => HI w) (Lib.hid HV) (Lib.hid HD) (Lib.hid HL)
  · rw [Bool.eq_false_iff.2 ho] at HL ⊢
    exact iLA_ok _ _ _ _ _ _ _ _ _ _ _ _ _ _ _ _ _ _ _ _ _ _ w hT (Lib.hid fun w hT => hv ▸ iVP_any h w hT) (Lib.hid fun w _ => HI w) (Lib.hid HV) (Lib.hid HD) (Lib.hid HL)
theorem sLA_g {a b k c d l : Int} (hv : vP a b k c d l = true) {n : Nat} (hn : n < 8) (w : World) (hT : LT β w) :
    Calls Tryd.prog 28 #[pt a b k c d l, .int .i64 n] w (RetB (lineV n (dotA (n + 4) (gP a b k c d l)) (dotB (n + 4) (gP a b k c d l))) w) := by
  obtain ⟨hb, _⟩ := valid_bp hv
  have hi : inB n 0 7 = true := by simp [inB]; omega
  have HN := fun w => sNum1_g (bd2_mono (dot_bd (d := n + 4) (by omega) hb) (show (4 * 8589934592 : Int) ≤ 1152921504606846976 by decide)) w
  have HD := fun w (hT : LT β w) => sDot_g (d := n + 4) (by omega) (bd_mono hb (by decide)) w hT
  rw [Nat.mod_eq_of_lt (show n + 4 < 16 by omega), show ((n + 4 : Nat) : Int) = (n : Int) + 4 by omega] at HD
  rw [← valid_gp hv] at HD
  have HI := fun w => (l00In_any (n : Int) 0 7 w).mono fun _ _ h => h.toB
  rw [hi] at HI
  unfold limV at HN
  unfold lineV
  by_cases ho : gOk (dotA (n + 4) (gP a b k c d l)) (dotB (n + 4) (gP a b k c d l)) = true
  · rw [ho] at HN ⊢
    exact sLA_ok _ _ _ _ _ _ _ _ _ _ _ _ _ _ _ _ _ _ _ w hT (by omega) (by omega) (Lib.hid fun w hT => hv ▸ sLP_any a b k c d l w hT) (Lib.hid fun w _ => HI w) (Lib.hid fun w hT => sOf_any _ _ _ _ _ _ w hT) (Lib.hid HD) (Lib.hid fun w _ => HN w)
  · rw [Bool.eq_false_iff.2 ho] at HN ⊢
    exact sLA_rg _ _ _ _ _ _ _ _ _ _ _ _ _ _ _ _ _ _ _ w hT (by omega) (by omega) (Lib.hid fun w hT => hv ▸ sLP_any a b k c d l w hT) (Lib.hid fun w _ => HI w) (Lib.hid fun w hT => sOf_any _ _ _ _ _ _ w hT) (Lib.hid HD) (Lib.hid fun w _ => HN w)

/-- Both sides answer the same line, or none. -/
theorem la_both {a b k c d l : Int} (h : I6 a b k c d l) (dir : Int) : ∃ (rd ra rb rk : Int) (ro : Bool),
    (∀ w, LT true w → Calls Tryd.prog 28 #[pt a b k c d l, .int .i64 dir] w (RetB (.tuple #[lnv rd ra rb rk, .bool ro]) w)) ∧
    (∀ w, LT true w → Calls Tryd.prog 29 #[pt a b k c d l, .int .i64 dir] w (RetB (.tuple #[lnv rd ra rb rk, .bool ro]) w)) := by
  by_cases hv : vP a b k c d l = true
  · by_cases hd : 0 ≤ dir ∧ dir < 8
    · obtain ⟨n, rfl⟩ : ∃ n : Nat, dir = n := ⟨dir.toNat, by omega⟩
      have hn : n < 8 := by omega
      have S := fun w (hT : LT true w) => sLA_g hv hn w hT
      have I := fun w (hT : LT true w) => iLA_g hv h hn w hT
      unfold lineV at S I
      by_cases ho : gOk (dotA (n + 4) (gP a b k c d l)) (dotB (n + 4) (gP a b k c d l)) = true
      · rw [ho] at S I; exact ⟨_, _, _, _, _, S, I⟩
      · rw [Bool.eq_false_iff.2 ho] at S I; exact ⟨_, _, _, _, _, S, I⟩
    · have hi : inB dir 0 7 = false := by simp [inB]; omega
      refine ⟨0, 0, 0, 0, false, fun w hT => sLA_no2 _ _ _ _ _ _ _ w hT (Lib.hid fun w hT => hv ▸ sLP_any a b k c d l w hT) (Lib.hid fun w _ => ?_), fun w hT => iLA_no2 _ _ _ _ _ _ _ w hT (Lib.hid fun w hT => hv ▸ iVP_any h w hT) (Lib.hid fun w _ => ?_)⟩
      · have := (l00In_any dir 0 7 w).mono fun _ _ h => h.toB
        rwa [hi] at this
      · have := (isDir_any dir w).mono fun _ _ h => h.toB
        rwa [hi] at this
  · have hf := Bool.eq_false_iff.2 hv
    exact ⟨0, 0, 0, 0, false, fun w hT => sLA_no1 _ _ _ _ _ _ _ w hT (Lib.hid fun w hT => hf ▸ sLP_any a b k c d l w hT), fun w hT => iLA_no1 _ _ _ _ _ _ _ w hT (Lib.hid fun w hT => hf ▸ iVP_any h w hT)⟩

end Go.Proofs.YtojgopnjefnglaaDoor
