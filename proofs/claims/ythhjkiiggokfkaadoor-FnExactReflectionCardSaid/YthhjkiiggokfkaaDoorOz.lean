/- Motions: validity, directions: both sides; the walks of their laws. -/
import Derived.Test.YthhjkiiggokfkaaDoorOa
import Derived.Test.YthhjkiiggokfkaaDoorOb
import Derived.Test.YthhjkiiggokfkaaDoorGz
import Derived.Test.YthhjkiiggokfkaaDoorGyt
namespace Go.Proofs.YthhjkiiggokfkaaDoor
open Go Go.RowKit OriM
variable {β : Bool}

/-- A motion as a value. -/
abbrev mot (t : Int) (f : Bool) (a b k c d l : Int) : Value := .agg #[.int .i64 t, .bool f, .int .i64 a, .int .i64 b, .int .i64 k, .int .i64 c, .int .i64 d, .int .i64 l]
def vM (t a b k c d l : Int) : Bool := inB t 0 7 && vP a b k c d l

theorem toMot_any (t : Int) (f : Bool) (a b k c d l : Int) (w : World) (hT : LT β w) : Calls Tryd.prog 28 #[mot t f a b k c d l] w (RetB (mot t f a b k c d l) w) :=
  toMotion_core _ _ _ _ _ _ _ _ w hT (Lib.hid fun w _ => toNum_any a b k w) (Lib.hid fun w _ => toNum_any c d l w)
theorem shift_any (t : Int) (f : Bool) (a b k c d l : Int) (w : World) (hT : LT β w) : Calls Tryd.prog 136 #[mot t f a b k c d l] w (RetB (pt a b k c d l) w) :=
  shift_core _ _ _ _ _ _ _ _ w hT
theorem iVM_any (t : Int) (f : Bool) {a b k c d l : Int} (h : I6 a b k c d l) (w : World) (hT : LT β w) : Calls Tryd.prog 76 #[mot t f a b k c d l] w (RetB (.bool (vM t a b k c d l)) w) := by
  unfold vM
  by_cases h0 : t < 0
  · rw [show inB t 0 7 = false by simp [inB]; omega, Bool.false_and]
    exact iVM_lo _ _ _ _ _ _ _ _ w hT h0
  · by_cases h1 : 8 ≤ t
    · rw [show inB t 0 7 = false by simp [inB]; omega, Bool.false_and]
      exact iVM_hi _ _ _ _ _ _ _ _ w hT h1
    · rw [show inB t 0 7 = true by simp [inB]; omega, Bool.true_and]
      exact iVM_ok _ _ _ _ _ _ _ _ _ w hT (by omega) (by omega) (Lib.hid fun w hT => shift_any t f a b k c d l w hT) (Lib.hid fun w hT => iVP_any h w hT)
theorem sMK_any (t : Int) (f : Bool) (a b k c d l : Int) (w : World) (hT : LT β w) : Calls Tryd.prog 72 #[mot t f a b k c d l] w (RetB (.bool (vM t a b k c d l)) w) := by
  unfold vM vP
  have hd := fun w => (l00In_any t 0 7 w).mono fun _ _ h => h.toB
  by_cases h0 : inB t 0 7 = true
  · rw [h0, Bool.true_and]
    by_cases h1 : validB a b k = true
    · rw [h1, Bool.true_and]
      exact sMK_ok _ _ _ _ _ _ _ _ _ w hT (Lib.hid fun w _ => h0 ▸ hd w) (Lib.hid fun w _ => h1 ▸ l01Ok_any a b k w) (Lib.hid fun w _ => l01Ok_any c d l w)
    · rw [Bool.eq_false_iff.2 h1, Bool.false_and]
      exact sMK_no2 _ _ _ _ _ _ _ _ w hT (Lib.hid fun w _ => h0 ▸ hd w) (Lib.hid fun w _ => (Bool.eq_false_iff.2 h1) ▸ l01Ok_any a b k w)
  · rw [Bool.eq_false_iff.2 h0, Bool.false_and]
    exact sMK_no1 _ _ _ _ _ _ _ _ w hT (Lib.hid fun w _ => (Bool.eq_false_iff.2 h0) ▸ hd w)
def dirV (t : Int) (f : Bool) (e : Int) : Int := if f then (t * 2 + (16 - e)) % 16 else (t * 2 + e) % 16
def mdV (t : Int) (f : Bool) (a b k c d l e : Int) : Int := if vM t a b k c d l && inB e 0 15 then dirV t f e else -1

theorem dir_any {t : Int} (f : Bool) (a b k c d l : Int) {e : Int} (h0 : 0 ≤ t) (h1 : t < 8) (h2 : 0 ≤ e) (h3 : e < 16) (w : World) (hT : LT β w) :
    Calls Tryd.prog 139 #[mot t f a b k c d l, .int .i64 e] w (RetB (.int .i64 (dirV t f e)) w) := by
  cases f
  · exact iDir_no _ _ _ _ _ _ _ _ w hT h0 h1 h2 h3
  · exact iDir_yes _ _ _ _ _ _ _ _ w hT h0 h1 h2 h3
theorem sMOf_any (t : Int) (f : Bool) (a b k c d l : Int) (w : World) (hT : LT β w) : Calls Tryd.prog 75 #[mot t f a b k c d l] w (RetB (mot t f a b k c d l) w) :=
  sMOf_core _ _ _ _ _ _ _ _ _ _ _ _ _ _ w hT (Lib.hid fun w _ => lOf_any a b k w) (Lib.hid fun w _ => lOf_any c d l w)

theorem vM_in {t a b k c d l : Int} (h : vM t a b k c d l = true) : 0 ≤ t ∧ t < 8 := by
  simp [vM, inB] at h; omega
theorem in_bd {e : Int} (h : inB e 0 15 = true) : 0 ≤ e ∧ e < 16 := by simp [inB] at h; omega
end Go.Proofs.YthhjkiiggokfkaaDoor
