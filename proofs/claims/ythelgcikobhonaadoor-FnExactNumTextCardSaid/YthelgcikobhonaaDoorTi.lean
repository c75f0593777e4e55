/- Texts of numbers, points, lines, motions: both sides answer the same text; the walks of the laws. -/
import Derived.Test.YthelgcikobhonaaDoorTe
import Derived.Test.YthelgcikobhonaaDoorTf
import Derived.Test.YthelgcikobhonaaDoorTg
import Derived.Test.YthelgcikobhonaaDoorTh
import Derived.Test.YthelgcikobhonaaDoorTo
import Derived.Test.YthelgcikobhonaaDoorWd
namespace Go.Proofs.YthelgcikobhonaaDoor
open Go Go.RowKit OriM

theorem Ret.toB {v : Value} {w : World} {e : Ending} {w' : World} (h : Ret v w e w') : RetB v w e w' := ⟨h.1, by rw [← h.2]; exact Below.refl _ _⟩
theorem isDir_any (d : Int) (w : World) : Calls Tryd.prog 38 #[.int .i64 d] w (Ret (.bool (inB d 0 7)) w) := by
  by_cases h0 : 0 ≤ d
  · by_cases h1 : d < 8
    · rw [show inB d 0 7 = true by simp [inB]; omega]
      go_enter Tryd.func38, Tryd.ntmps38
      go_wp2
      go_ret
      exact ⟨rfl, rfl⟩
    · rw [show inB d 0 7 = false by simp [inB]; omega]
      go_enter Tryd.func38, Tryd.ntmps38
      go_wp2
      go_ret
      exact ⟨rfl, rfl⟩
  · rw [show inB d 0 7 = false by simp [inB]; omega]
    have h0' : d < 0 := by omega
    clear h0
    go_enter Tryd.func38, Tryd.ntmps38
    go_wp2
    go_ret
    exact ⟨rfl, rfl⟩

/-! ### Numbers -/
def numT (a b k : Int) : List UInt8 := textT a b k (Lib.itoa a) (Lib.itoa b) (Lib.itoa (2 ^ k.toNat))
theorem it_len {a : Int} (h0 : -131072 ≤ a) (h1 : a ≤ 131072) : (Lib.itoa a).length ≤ 11 := itoa_len (by omega) (by omega)
theorem pw_len {k : Int} (k1 : 0 ≤ k) (k2 : k ≤ 10) : (Lib.itoa (2 ^ k.toNat)).length ≤ 11 := by
  by_cases h : k = 0
  · subst h; exact itoa_len (by decide) (by decide)
  · have := pow_bd (k := k) (by omega) k2
    exact itoa_len (by omega) (by omega)
theorem numT_len {a b k : Int} (h : validB a b k = true) : (numT a b k).length ≤ 40 := by
  obtain ⟨a0, a1, b0, b1, k0, k1⟩ := valid_bounds h
  exact text_len (it_len a0 a1) (it_len b0 b1) (pw_len k0 k1)
theorem fmtI {n : Int} (h0 : -2147483647 ≤ n) (h1 : n ≤ 2147483647) (w : World) (hT : TT w) : Calls Tryd.prog 29 #[.int .i64 n, .int .i64 10] w (RetB (tv (Lib.itoa n)) w) := fmt_any n (by omega) (by omega) w hT
theorem itext_any {a b k : Int} (h : validB a b k = true) (w : World) (hT : TT w) : Calls Tryd.prog 22 #[num a b k] w (RetB (tv (numT a b k)) w) := by
  obtain ⟨a0, a1, b0, b1, k0, k1⟩ := valid_bounds h
  have la := it_len a0 a1
  have lb := it_len b0 b1
  have HP := fun w (hT : TT w) => iParts_core a b _ _ la lb w hT (Lib.hid fun w hT => fmtI (by omega) (by omega) w hT) (Lib.hid fun w hT => fmtI (by omega) (by omega) w hT)
  by_cases hk : k = 0
  · subst hk
    have := iText_zero a b _ w hT (Lib.hid HP)
    unfold numT textT
    rwa [if_pos rfl]
  · have hp := pow_bd (k := k) (by omega) k1
    have := iText_more a b k _ _ _ _ w hT (by omega) k1 (parts_len (a := a) (b := b) la lb) (pw_len k0 k1) rfl rfl (Lib.hid HP) (Lib.hid fun w hT => fmtI (by omega) (by omega) w hT)
    unfold numT textT
    rwa [if_neg hk]
theorem stext_any {a b k : Int} (h : validB a b k = true) (w : World) : Calls Tryd.prog 20 #[num a b k] w (RetB (tv (numT a b k)) w) := by
  obtain ⟨a0, a1, b0, b1, k0, k1⟩ := valid_bounds h
  have hL := And.intro (it_len a0 a1) (And.intro (it_len b0 b1) (pw_len k0 k1))
  have HA := Lib.hid fun w => dec_any a (by omega) (by omega) w
  have HB := Lib.hid fun w => dec_any b (by omega) (by omega) w
  unfold numT
  by_cases hk : k = 0
  · by_cases hb : b = 0
    · exact sText_c1z a b k _ _ _ w hb hk hL HA
    · by_cases ha : a = 0
      · exact sText_c2z a b k _ _ _ w hb ha hk hL HB
      · by_cases hp : 0 < b
        · exact sText_c3z a b k _ _ _ w ha hp hk hL HA HB
        · exact sText_c4z a b k _ _ _ w hb ha hp hk hL HA HB
  · have hq := pow_bd (k := k) (by omega) k1
    have HD := Lib.hid fun w => dec_any (2 ^ k.toNat) (by omega) (by omega) w
    by_cases hb : b = 0
    · by_cases ha : a = 0
      · exact sText_c1m a b k _ _ _ w hb ha (by omega) k1 hL HA HD
      · exact sText_c1n a b k _ _ _ w hb ha (by omega) k1 hL HA HD
    · by_cases ha : a = 0
      · exact sText_c2m a b k _ _ _ w hb ha (by omega) k1 hL HB HD
      · by_cases hp : 0 < b
        · exact sText_c3m a b k _ _ _ w ha hp (by omega) k1 hL HA HB HD
        · exact sText_c4m a b k _ _ _ w hb ha hp (by omega) k1 hL HA HB HD
theorem exactNumText.walk (a b k : Int) (hI : I3 a b k) (w : World) (hT : TT w) : Calls Tryd.prog 3 #[num a b k] w (RetB (.bool true) w) := by
  have VI := fun w (hT : TT w) => valid_i3 a b k hI w hT.tz
  have VS := fun w (_ : TT w) => l01Ok_any a b k w
  have TN := Lib.hid fun w (_ : TT w) => toNum_any a b k w
  by_cases h : validB a b k = true
  · rw [h] at VI VS
    exact exactNumText.core a b k _ w hT TN (Lib.hid fun w hT => sNT_ok a b k _ w hT (Lib.hid VS) (Lib.hid fun w _ => stext_any h w)) (Lib.hid fun w hT => iNT_ok a b k _ w hT (Lib.hid VI) (Lib.hid fun w hT => itext_any h w hT))
  · rw [Bool.eq_false_iff.2 h] at VI VS
    exact exactNumText.core a b k _ w hT TN (Lib.hid fun w hT => sNT_no a b k w hT (Lib.hid VS)) (Lib.hid fun w hT => iNT_no a b k w hT (Lib.hid VI))

/-! ### Points -/
def vP6 (a b k c d l : Int) : Bool := validB a b k && validB c d l
theorem iVP6 {a b k c d l : Int} (h : I6 a b k c d l) (w : World) (hT : TT w) : Calls Tryd.prog 25 #[pt a b k c d l] w (RetB (.bool (vP6 a b k c d l)) w) := by
  have V1 := fun w (hT : TT w) => valid_i3 a b k h.x w hT.tz
  have V2 := fun w (hT : TT w) => valid_i3 c d l h.y w hT.tz
  unfold vP6
  by_cases h1 : validB a b k = true
  · rw [h1] at V1 ⊢; rw [Bool.true_and]
    exact tiVP_ok _ _ _ _ _ _ _ w hT (Lib.hid V1) (Lib.hid V2)
  · rw [Bool.eq_false_iff.2 h1] at V1 ⊢; rw [Bool.false_and]
    exact tiVP_no _ _ _ _ _ _ w hT (Lib.hid V1)
theorem sVP6 (a b k c d l : Int) (w : World) (hT : TT w) : Calls Tryd.prog 23 #[pt a b k c d l] w (RetB (.bool (vP6 a b k c d l)) w) := by
  have V1 := fun w (_ : TT w) => l01Ok_any a b k w
  have V2 := fun w (_ : TT w) => l01Ok_any c d l w
  unfold vP6
  by_cases h1 : validB a b k = true
  · rw [h1] at V1 ⊢; rw [Bool.true_and]
    exact tsVP_ok _ _ _ _ _ _ _ w hT (Lib.hid V1) (Lib.hid V2)
  · rw [Bool.eq_false_iff.2 h1] at V1 ⊢; rw [Bool.false_and]
    exact tsVP_no _ _ _ _ _ _ w hT (Lib.hid V1)
def ptT (a b k c d l : Int) : List UInt8 := [40] ++ numT a b k ++ [44] ++ numT c d l ++ [41]
theorem ptT_len {a b k c d l : Int} (h1 : validB a b k = true) (h2 : validB c d l = true) : (ptT a b k c d l).length ≤ 120 := by
  have := numT_len h1
  have := numT_len h2
  unfold ptT; simp; omega
theorem s02T_any {a b k c d l : Int} (h1 : validB a b k = true) (h2 : validB c d l = true) (w : World) (hT : TT w) : Calls Tryd.prog 24 #[pt a b k c d l] w (RetB (tv (ptT a b k c d l)) w) :=
  s02T _ _ _ _ _ _ _ _ w hT (by have := numT_len h1; have := numT_len h2; omega) (Lib.hid fun w _ => stext_any h1 w) (Lib.hid fun w _ => stext_any h2 w)
theorem iPT_any {a b k c d l : Int} (h : I6 a b k c d l) (h1 : validB a b k = true) (h2 : validB c d l = true) (w : World) (hT : TT w) : Calls Tryd.prog 12 #[pt a b k c d l] w (RetB (tv (ptT a b k c d l)) w) := by
  have V := fun w (hT : TT w) => iVP6 h w hT
  rw [show vP6 a b k c d l = true by unfold vP6; rw [h1, h2]; rfl] at V
  exact iPT_ok _ _ _ _ _ _ _ _ w hT (by have := numT_len h1; have := numT_len h2; omega) (Lib.hid V) (Lib.hid fun w hT => itext_any h1 w hT) (Lib.hid fun w hT => itext_any h2 w hT)
theorem toPt6 (a b k c d l : Int) (w : World) (hT : TT w) : Calls Tryd.prog 11 #[pt a b k c d l] w (RetB (pt a b k c d l) w) :=
  tPoint _ _ _ _ _ _ w hT (Lib.hid fun w _ => toNum_any a b k w) (Lib.hid fun w _ => toNum_any c d l w)
theorem exactPointText.walk {a b k c d l : Int} (h : I6 a b k c d l) (w : World) (hT : TT w) : Calls Tryd.prog 4 #[pt a b k c d l] w (RetB (.bool true) w) := by
  have VI := fun w (hT : TT w) => iVP6 h w hT
  have VS := fun w (hT : TT w) => sVP6 a b k c d l w hT
  have TN := Lib.hid fun w (hT : TT w) => toPt6 a b k c d l w hT
  by_cases hv : vP6 a b k c d l = true
  · have hw := hv
    unfold vP6 at hw
    rw [Bool.and_eq_true] at hw
    rw [hv] at VS
    exact exactPointText.core _ _ _ _ _ _ _ w hT TN (Lib.hid fun w hT => sPT_ok _ _ _ _ _ _ _ w hT (Lib.hid VS) (Lib.hid fun w hT => s02T_any hw.1 hw.2 w hT)) (Lib.hid fun w hT => iPT_any h hw.1 hw.2 w hT)
  · rw [Bool.eq_false_iff.2 hv] at VI VS
    exact exactPointText.core _ _ _ _ _ _ _ w hT TN (Lib.hid fun w hT => sPT_no _ _ _ _ _ _ w hT (Lib.hid VS)) (Lib.hid fun w hT => iPT_no _ _ _ _ _ _ w hT (Lib.hid VI))

/-! ### Lines -/
def vL4 (d a b k : Int) : Bool := inB d 0 7 && validB a b k
theorem iVL4 {d a b k : Int} (h : I3 a b k) (w : World) (hT : TT w) : Calls Tryd.prog 28 #[lnv d a b k] w (RetB (.bool (vL4 d a b k)) w) := by
  have V1 := fun w (_ : TT w) => (isDir_any d w).mono fun _ _ h => h.toB
  have V2 := fun w (hT : TT w) => valid_i3 a b k h w hT.tz
  unfold vL4
  by_cases h1 : inB d 0 7 = true
  · rw [h1] at V1 ⊢; rw [Bool.true_and]
    exact tiVL_ok _ _ _ _ _ w hT (Lib.hid V1) (Lib.hid V2)
  · rw [Bool.eq_false_iff.2 h1] at V1 ⊢; rw [Bool.false_and]
    exact tiVL_no _ _ _ _ w hT (Lib.hid V1)
theorem sVL4 (d a b k : Int) (w : World) (hT : TT w) : Calls Tryd.prog 26 #[lnv d a b k] w (RetB (.bool (vL4 d a b k)) w) := by
  have V1 := fun w (_ : TT w) => (l00In_any d 0 7 w).mono fun _ _ h => h.toB
  have V2 := fun w (_ : TT w) => l01Ok_any a b k w
  unfold vL4
  by_cases h1 : inB d 0 7 = true
  · rw [h1] at V1 ⊢; rw [Bool.true_and]
    exact tsVL_ok _ _ _ _ _ w hT (Lib.hid V1) (Lib.hid V2)
  · rw [Bool.eq_false_iff.2 h1] at V1 ⊢; rw [Bool.false_and]
    exact tsVL_no _ _ _ _ w hT (Lib.hid V1)
theorem exactLineText.walk {d a b k : Int} (h : I3 a b k) (w : World) (hT : TT w) : Calls Tryd.prog 5 #[lnv d a b k] w (RetB (.bool true) w) := by
  have VI := fun w (hT : TT w) => iVL4 (d := d) h w hT
  have VS := fun w (hT : TT w) => sVL4 d a b k w hT
  have TN := Lib.hid fun w (hT : TT w) => tLine d a b k w hT (Lib.hid fun w _ => toNum_any a b k w)
  by_cases hv : vL4 d a b k = true
  · have hw := hv
    unfold vL4 at hw
    rw [Bool.and_eq_true] at hw
    have hd : 0 ≤ d ∧ d ≤ 7 := by have := hw.1; simp [inB] at this; omega
    rw [hv] at VI VS
    have hL : (Lib.itoa d).length ≤ 120 ∧ (numT a b k).length ≤ 120 := ⟨by have := itoa_len (n := d) (by omega) (by omega); omega, by have := numT_len hw.2; omega⟩
    exact exactLineText.core _ _ _ _ _ w hT TN (Lib.hid fun w hT => sLT_ok _ _ _ _ _ _ w hT hL (Lib.hid VS) (Lib.hid fun w _ => dec_any d (by omega) (by omega) w) (Lib.hid fun w _ => stext_any hw.2 w))
      (Lib.hid fun w hT => iLT_ok _ _ _ _ _ _ w hT hL (Lib.hid VI) (Lib.hid fun w hT => fmtI (by omega) (by omega) w hT) (Lib.hid fun w hT => itext_any hw.2 w hT))
  · rw [Bool.eq_false_iff.2 hv] at VI VS
    exact exactLineText.core _ _ _ _ _ w hT TN (Lib.hid fun w hT => sLT_no _ _ _ _ w hT (Lib.hid VS)) (Lib.hid fun w hT => iLT_no _ _ _ _ w hT (Lib.hid VI))

/-! ### Motions -/
def vM8 (t a b k c d l : Int) : Bool := inB t 0 7 && vP6 a b k c d l
theorem iVM8 (t : Int) (f : Bool) {a b k c d l : Int} (h : I6 a b k c d l) (w : World) (hT : TT w) : Calls Tryd.prog 32 #[mot t f a b k c d l] w (RetB (.bool (vM8 t a b k c d l)) w) := by
  unfold vM8
  by_cases h0 : t < 0
  · rw [show inB t 0 7 = false by simp [inB]; omega, Bool.false_and]
    exact tiVM_lo _ _ _ _ _ _ _ _ w hT h0
  · by_cases h1 : 8 ≤ t
    · rw [show inB t 0 7 = false by simp [inB]; omega, Bool.false_and]
      exact tiVM_hi _ _ _ _ _ _ _ _ w hT h1
    · rw [show inB t 0 7 = true by simp [inB]; omega, Bool.true_and]
      exact tiVM_ok _ _ _ _ _ _ _ _ _ w hT (by omega) (by omega) (Lib.hid fun w hT => tShift _ _ _ _ _ _ _ _ w hT) (Lib.hid fun w hT => iVP6 h w hT)
theorem sVM8 (t : Int) (f : Bool) (a b k c d l : Int) (w : World) (hT : TT w) : Calls Tryd.prog 30 #[mot t f a b k c d l] w (RetB (.bool (vM8 t a b k c d l)) w) := by
  have hd := fun w (_ : TT w) => (l00In_any t 0 7 w).mono fun _ _ h => h.toB
  have V1 := fun w (_ : TT w) => l01Ok_any a b k w
  unfold vM8 vP6
  by_cases h0 : inB t 0 7 = true
  · rw [h0] at hd ⊢; rw [Bool.true_and]
    by_cases h1 : validB a b k = true
    · rw [h1] at V1 ⊢; rw [Bool.true_and]
      exact tsVM_ok _ _ _ _ _ _ _ _ _ w hT (Lib.hid hd) (Lib.hid V1) (Lib.hid fun w _ => l01Ok_any c d l w)
    · rw [Bool.eq_false_iff.2 h1] at V1 ⊢; rw [Bool.false_and]
      exact tsVM_no2 _ _ _ _ _ _ _ _ w hT (Lib.hid hd) (Lib.hid V1)
  · rw [Bool.eq_false_iff.2 h0] at hd ⊢; rw [Bool.false_and]
    exact tsVM_no1 _ _ _ _ _ _ _ _ w hT (Lib.hid hd)
theorem toMot8 (t : Int) (f : Bool) (a b k c d l : Int) (w : World) (hT : TT w) : Calls Tryd.prog 17 #[mot t f a b k c d l] w (RetB (mot t f a b k c d l) w) :=
  tMotion _ _ _ _ _ _ _ _ w hT (Lib.hid fun w _ => toNum_any a b k w) (Lib.hid fun w _ => toNum_any c d l w)
theorem exactMotionText.walk (t : Int) (f : Bool) {a b k c d l : Int} (h : I6 a b k c d l) (w : World) (hT : TT w) : Calls Tryd.prog 6 #[mot t f a b k c d l] w (RetB (.bool true) w) := by
  have VI := fun w (hT : TT w) => iVM8 t f h w hT
  have VS := fun w (hT : TT w) => sVM8 t f a b k c d l w hT
  have TN := Lib.hid fun w (hT : TT w) => toMot8 t f a b k c d l w hT
  by_cases hv : vM8 t a b k c d l = true
  · have hw := hv
    unfold vM8 vP6 at hw
    rw [Bool.and_eq_true, Bool.and_eq_true] at hw
    obtain ⟨h0, h1, h2⟩ := hw
    have hd : 0 ≤ t ∧ t ≤ 7 := by simp [inB] at h0; omega
    rw [hv] at VI VS
    have hL : (Lib.itoa t).length ≤ 120 ∧ (ptT a b k c d l).length ≤ 120 := ⟨by have := itoa_len (n := t) (by omega) (by omega); omega, ptT_len h1 h2⟩
    have DS := Lib.hid fun w (_ : TT w) => dec_any t (by omega) (by omega) w
    have DI := Lib.hid fun w (hT : TT w) => fmtI (n := t) (by omega) (by omega) w hT
    have PS := Lib.hid fun w (hT : TT w) => s02T_any h1 h2 w hT
    have PI := Lib.hid fun w (hT : TT w) => iPT_any h h1 h2 w hT
    have SH := Lib.hid fun w (hT : TT w) => tShift t a b k c d l f w hT
    cases f
    · exact exactMotionText.core _ _ _ _ _ _ _ _ _ w hT TN (Lib.hid fun w hT => sMT_ok _ _ _ _ _ _ _ _ _ w hT (Lib.hid VS) (Lib.hid fun w hT => s04T_false _ _ _ _ _ _ _ _ _ w hT hL DS PS)) (Lib.hid fun w hT => iMT_false _ _ _ _ _ _ _ _ _ w hT hL (Lib.hid VI) DI SH PI)
    · exact exactMotionText.core _ _ _ _ _ _ _ _ _ w hT TN (Lib.hid fun w hT => sMT_ok _ _ _ _ _ _ _ _ _ w hT (Lib.hid VS) (Lib.hid fun w hT => s04T_true _ _ _ _ _ _ _ _ _ w hT hL DS PS)) (Lib.hid fun w hT => iMT_true _ _ _ _ _ _ _ _ _ w hT hL (Lib.hid VI) DI SH PI)
  · rw [Bool.eq_false_iff.2 hv] at VI VS
    exact exactMotionText.core _ _ _ _ _ _ _ _ _ w hT TN (Lib.hid fun w hT => sMT_no _ _ _ _ _ _ _ _ w hT (Lib.hid VS)) (Lib.hid fun w hT => iMT_no _ _ _ _ _ _ _ _ w hT (Lib.hid VI))
end Go.Proofs.YthelgcikobhonaaDoor
