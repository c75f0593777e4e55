/- Motions: validity, directions: both sides; the walks of their laws. -/
import Derived.Test.YtgfplfbfjkkalaaDoorOa
import Derived.Test.YtgfplfbfjkkalaaDoorOb
import Derived.Test.YtgfplfbfjkkalaaDoorGl
import Derived.Test.YtgfplfbfjkkalaaDoorGc
import Derived.Test.YtgfplfbfjkkalaaDoorGyt
namespace Go.Proofs.YtgfplfbfjkkalaaDoor
open Go Go.RowKit OriM
variable {β : Bool}

/-- A motion as a value. -/
abbrev mot (t : Int) (f : Bool) (a b k c d l : Int) : Value := .agg #[.int .i64 t, .bool f, .int .i64 a, .int .i64 b, .int .i64 k, .int .i64 c, .int .i64 d, .int .i64 l]
def vM (t a b k c d l : Int) : Bool := inB t 0 7 && vP a b k c d l

theorem shift_any (t : Int) (f : Bool) (a b k c d l : Int) (w : World) (hT : LT β w) : Calls Tryd.prog 63 #[mot t f a b k c d l] w (RetB (pt a b k c d l) w) :=
  shift_core _ _ _ _ _ _ _ _ w hT
theorem iVM_any (t : Int) (f : Bool) {a b k c d l : Int} (h : I6 a b k c d l) (w : World) (hT : LT β w) : Calls Tryd.prog 27 #[mot t f a b k c d l] w (RetB (.bool (vM t a b k c d l)) w) := by
  unfold vM
  by_cases h0 : t < 0
  · rw [show inB t 0 7 = false by simp [inB]; omega, Bool.false_and]
    exact iVM_lo _ _ _ _ _ _ _ _ w hT h0
  · by_cases h1 : 8 ≤ t
    · rw [show inB t 0 7 = false by simp [inB]; omega, Bool.false_and]
      exact iVM_hi _ _ _ _ _ _ _ _ w hT h1
    · rw [show inB t 0 7 = true by simp [inB]; omega, Bool.true_and]
      exact iVM_ok _ _ _ _ _ _ _ _ _ w hT (by omega) (by omega) (Lib.hid fun w hT => shift_any t f a b k c d l w hT) (Lib.hid fun w hT => iVP_any h w hT)
theorem sMK_any (t : Int) (f : Bool) (a b k c d l : Int) (w : World) (hT : LT β w) : Calls Tryd.prog 25 #[mot t f a b k c d l] w (RetB (.bool (vM t a b k c d l)) w) := by
  unfold vM vP
  have hd := fun w => (l00In_any t 0 7 w).mono fun _ _ h => h.toB
  by_cases h0 : inB t 0 7 = true
  · rw [h0, Bool.true_and]
    by_cases h1 : validB a b k = true
    · rw [h1, Bool.true_and]
      exact sMK_ok _ _ _ _ _ _ _ _ _ w hT (Lib.hid fun w _ => h0 ▸ hd w) (Lib.hid fun w _ => h1 ▸ l01Ok_any a b k w) (Lib.hid fun w _ => l01Ok_any c d l w)
    · rw [Bool.eq_false_iff.2 h1, Bool.false_and]
      exact sMK_no2 _ _ _ _ _ _ _ _ w hT (Lib.hid fun w _ => h0 ▸ hd w) (Lib.hid fun w _ => (Bool.eq_false_iff.2 h1) ▸ l01Ok_any a b k w)
  · rw [Bool.eq_false_iff.2 h0, Bool.false_and]
    exact sMK_no1 _ _ _ _ _ _ _ _ w hT (Lib.hid fun w _ => (Bool.eq_false_iff.2 h0) ▸ hd w)
theorem sVM_any (t : Int) (f : Bool) (a b k c d l : Int) (w : World) (hT : LT β w) : Calls Tryd.prog 8 #[mot t f a b k c d l] w (RetB (.bool (vM t a b k c d l)) w) :=
  sVM _ _ _ _ _ _ _ _ _ w hT (Lib.hid fun w hT => sMK_any t f a b k c d l w hT)

def dirV (t : Int) (f : Bool) (e : Int) : Int := if f then (t * 2 + (16 - e)) % 16 else (t * 2 + e) % 16
def mdV (t : Int) (f : Bool) (a b k c d l e : Int) : Int := if vM t a b k c d l && inB e 0 15 then dirV t f e else -1

theorem dir_any {t : Int} (f : Bool) (a b k c d l : Int) {e : Int} (h0 : 0 ≤ t) (h1 : t < 8) (h2 : 0 ≤ e) (h3 : e < 16) (w : World) (hT : LT β w) :
    Calls Tryd.prog 47 #[mot t f a b k c d l, .int .i64 e] w (RetB (.int .i64 (dirV t f e)) w) := by
  cases f
  · exact iDir_no _ _ _ _ _ _ _ _ w hT h0 h1 h2 h3
  · exact iDir_yes _ _ _ _ _ _ _ _ w hT h0 h1 h2 h3
theorem sdir_any {t : Int} (f : Bool) (a b k c d l : Int) {e : Int} (h0 : 0 ≤ t) (h1 : t < 8) (h2 : 0 ≤ e) (h3 : e < 16) (w : World) (hT : LT β w) :
    Calls Tryd.prog 83 #[mot t f a b k c d l, .int .i64 e] w (RetB (.int .i64 (dirV t f e)) w) := by
  cases f
  · have e1 : dirV t false e = (e + 2 * t) % 16 := by simp only [dirV, Bool.false_eq_true, if_false]; omega
    rw [e1]
    exact sDir_no _ _ _ _ _ _ _ _ _ w hT h0 h1 h2 h3 (Lib.hid fun w _ => (smod_int _ w).mono fun _ _ h => h.toB)
  · have e1 : dirV t true e = (-e + 2 * t) % 16 := by simp only [dirV, if_true]; omega
    rw [e1]
    exact sDir_yes _ _ _ _ _ _ _ _ _ w hT h0 h1 h2 h3 (Lib.hid fun w _ => (smod_int _ w).mono fun _ _ h => h.toB)
theorem sMOf_any (t : Int) (f : Bool) (a b k c d l : Int) (w : World) (hT : LT β w) : Calls Tryd.prog 38 #[mot t f a b k c d l] w (RetB (mot t f a b k c d l) w) :=
  sMOf_core _ _ _ _ _ _ _ _ _ _ _ _ _ _ w hT (Lib.hid fun w _ => lOf_any a b k w) (Lib.hid fun w _ => lOf_any c d l w)

theorem vM_in {t a b k c d l : Int} (h : vM t a b k c d l = true) : 0 ≤ t ∧ t < 8 := by
  simp [vM, inB] at h; omega
theorem in_bd {e : Int} (h : inB e 0 15 = true) : 0 ≤ e ∧ e < 16 := by simp [inB] at h; omega
theorem iMD_any (t : Int) (f : Bool) {a b k c d l : Int} (h : I6 a b k c d l) (e : Int) (w : World) (hT : LT β w) :
    Calls Tryd.prog 20 #[mot t f a b k c d l, .int .i64 e] w (RetB (.int .i64 (mdV t f a b k c d l e)) w) := by
  unfold mdV
  have HV := fun w (hT : LT β w) => iVM_any t f h w hT
  by_cases hv : vM t a b k c d l = true
  · rw [hv] at HV ⊢
    rw [Bool.true_and]
    by_cases h0 : e < 0
    · rw [show inB e 0 15 = false by simp [inB]; omega]
      exact iMD_lo _ _ _ _ _ _ _ _ _ w hT h0 (Lib.hid HV)
    · by_cases h1 : 16 ≤ e
      · rw [show inB e 0 15 = false by simp [inB]; omega]
        exact iMD_hi _ _ _ _ _ _ _ _ _ w hT h1 (Lib.hid HV)
      · rw [show inB e 0 15 = true by simp [inB]; omega, if_pos rfl]
        have ht := vM_in hv
        exact iMD_ok _ _ _ _ _ _ _ _ _ _ w hT (by omega) (by omega) (Lib.hid HV) (Lib.hid fun w hT => dir_any f a b k c d l ht.1 ht.2 (by omega) (by omega) w hT)
  · rw [Bool.eq_false_iff.2 hv] at HV ⊢
    exact iMD_no _ _ _ _ _ _ _ _ _ w hT (Lib.hid HV)
end Go.Proofs.YtgfplfbfjkkalaaDoor
