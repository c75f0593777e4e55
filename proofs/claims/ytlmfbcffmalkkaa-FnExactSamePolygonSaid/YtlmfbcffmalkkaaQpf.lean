/- SamePolygon: both sides; the walk of its law. -/
import Derived.Test.YtlmfbcffmalkkaaQpe
namespace Go.Proofs.Ytlmfbcffmalkkaa
open Go Go.RowKit

theorem sSame2_any (v v' : Value) (n n' : Nat) (fs gs : List Int) (w : World) (h : SlF w w.heap.size v n fs) (h' : SlF w w.heap.size v' n' gs) (hl : n ≤ 1048576) : Calls Try.prog 34 #[v, v'] w (RetPd (fs = gs) w) := by
  have H := Lib.hid (sSame_any v v' n n' fs gs w h h' hl)
  go_enter Try.func34, Try.ntmps34
  go_wp2_with fail
  refine (H.out).mono ?_
  rintro e w1 ⟨r, rfl, hr, hm⟩
  have HR := Lib.hid hr
  have HM := Lib.hid hm
  clear hr hm
  go_wp2_with fail
  go_ret
  exact ⟨r, rfl, HR.out, HM.out⟩
theorem iSame_any (v v' : Value) (n n' : Nat) (fs gs : List Int) (w : World) (h : SlF w w.heap.size v n fs) (h' : SlF w w.heap.size v' n' gs) (hl : n ≤ 1048576) : Calls Try.prog 36 #[v, v'] w (RetPd (fs = gs) w) := by
  have H := Lib.hid (iEqual_any v v' n n' fs gs w h h' hl)
  go_enter Try.func36, Try.ntmps36
  go_wp2_with fail
  refine (H.out).mono ?_
  rintro e w1 ⟨r, rfl, hr, hm⟩
  have HR := Lib.hid hr
  have HM := Lib.hid hm
  clear hr hm
  go_wp2_with fail
  go_ret
  exact ⟨r, rfl, HR.out, HM.out⟩

theorem sz_ok (A : Option Addr) (n c : Nat) (left : Int) (w : World) (h0 : 0 ≤ left) (h1 : left ≤ 1048576) (h : (n : Int) ≤ left) : Calls Try.prog 33 #[.slice A n c, .int .i64 left] w (RetV (.int .i64 (left - n)) w) := by
  go_enter Try.func33, Try.ntmps33
  go_wp2_with fail
  go_ret
  exact ⟨rfl, rfl⟩
theorem sz_no (A : Option Addr) (n c : Nat) (left : Int) (w : World) (h0 : 0 ≤ left) (h1 : left ≤ 1048576) (hn : (n : Int) ≤ 9223372036854775807) (h : left < (n : Int)) : Calls Try.prog 33 #[.slice A n c, .int .i64 left] w (RetV (.int .i64 (-1)) w) := by
  go_enter Try.func33, Try.ntmps33
  go_wp2_with fail
  go_ret
  exact ⟨rfl, rfl⟩

/-- The walk behind the two sizes. -/
theorem SlF.nil {w : World} {hi n : Nat} {v : Value} {fs : List Int} (h : SlF w hi v n fs) : fs.length = n * 6 := h.1

set_option maxHeartbeats 4000000 in
theorem exactSamePolygon.walk (a b : Value) (n n' : Nat) (fs gs : List Int) (w : World) (hn : (n : Int) ≤ 9223372036854775807) (hn' : (n' : Int) ≤ 9223372036854775807) (h : SlF w w.heap.size a n fs) (h' : SlF w w.heap.size b n' gs) : Calls Try.prog 10 #[a, b] w (RetT w) := by
  have HA := Lib.hid h
  have HB := Lib.hid h'
  obtain ⟨_, A, c, rfl, _, _⟩ := h
  obtain ⟨_, A', c', rfl, _, _⟩ := h'
  by_cases h1 : 1048576 < n
  · have HZ := Lib.hid (fun w => sz_no A n c 1048576 w (by omega) (by omega) hn (by omega))
    clear h1
    go_enter Try.func10, Try.ntmps10
    go_wp2_with fail
    refine (HZ.out _).mono ?_
    rintro e w1 ⟨rfl, rfl⟩
    go_wp2_with fail
    go_ret
    exact ⟨rfl, Below.refl _ _⟩
  · have HZ := Lib.hid (fun w => sz_ok A n c 1048576 w (by omega) (by omega) (by omega))
    by_cases h2 : 1048576 - (n : Int) < (n' : Int)
    · have HZ' := Lib.hid (fun w => sz_no A' n' c' (1048576 - (n : Int)) w (by omega) (by omega) hn' h2)
      have h1' : (n : Int) ≤ 1048576 := by omega
      clear h1 h2
      go_enter Try.func10, Try.ntmps10
      go_wp2_with fail
      refine (HZ.out _).mono ?_
      rintro e w1 ⟨rfl, rfl⟩
      go_wp2_with fail
      refine (HZ'.out _).mono ?_
      rintro e w1 ⟨rfl, rfl⟩
      go_wp2_with fail
      go_ret
      exact ⟨rfl, Below.refl _ _⟩
    · have HZ' := Lib.hid (fun w => sz_ok A' n' c' (1048576 - (n : Int)) w (by omega) (by omega) (by omega))
      have hl : n ≤ 1048576 := by omega
      have hl' : n' ≤ 1048576 := by omega
      have h1' : (n : Int) ≤ 1048576 := by omega
      have h2' : (n' : Int) ≤ 1048576 - (n : Int) := by omega
      clear h1 h2
      go_enter Try.func10, Try.ntmps10
      go_wp2_with fail
      refine (HZ.out _).mono ?_
      rintro e w1 ⟨rfl, rfl⟩
      go_wp2_with fail
      refine (HZ'.out _).mono ?_
      rintro e w1 ⟨rfl, rfl⟩
      go_wp2_with fail
      refine (toP_any _ n fs _ HA.out hl).mono ?_
      rintro e w1 ⟨u, rfl, o1, b1⟩
      have B1 := b1
      go_wp2_with fail
      refine (toP_any _ n' gs _ ((HB.out.below B1 (Nat.le_refl _)).mono B1.size) hl').mono ?_
      rintro e w2 ⟨u', rfl, o2, b2⟩
      have B2 := B1.trans (b2.mono B1.size)
      go_wp2_with fail
      refine (sSame2_any _ _ n n' fs gs _ (OwnF.sl (own_below o1 b2 (Nat.le_refl _))) (OwnF.sl o2) hl).mono ?_
      rintro e w3 ⟨r, rfl, hr, m3, rfl⟩
      have HR := Lib.hid hr
      have B3 := below_drewN B2 m3
      clear hr o1 b1 o2 b2 B1 B2
      go_wp2_with fail
      refine (toP_any _ n fs _ ((HA.out.below B3 (Nat.le_refl _)).mono B3.size) hl).mono ?_
      rintro e w4 ⟨x0, rfl, o4, b4⟩
      have B4 := B3.trans (b4.mono B3.size)
      go_wp2_with fail
      refine (toP_any _ n' gs _ ((HB.out.below B4 (Nat.le_refl _)).mono B4.size) hl').mono ?_
      rintro e w5 ⟨x1, rfl, o5, b5⟩
      have B5 := B4.trans (b5.mono B4.size)
      have p4 := own_below o4 b5 (Nat.le_refl _)
      clear o4 b4 b5 B3 B4
      go_wp2_with fail
      refine (iSame_any _ _ n n' fs gs _ (OwnF.sl p4) (OwnF.sl o5) hl).mono ?_
      rintro e w6 ⟨r', rfl, hr', m6, rfl⟩
      obtain rfl : r' = r := by rw [Bool.eq_iff_iff, hr', HR.out]
      clear hr'
      have hrr : (r' != r') = false := by simp
      have B6 := below_drewN B5 m6
      go_wp2_with fail
      refine (toP_any _ n fs _ ((HA.out.below B6 (Nat.le_refl _)).mono B6.size) hl).mono ?_
      rintro e w7 ⟨x7, rfl, o7, b7⟩
      have B7 := B6.trans (b7.mono B6.size)
      have p7 : OwnF w7 _ x0 n fs := own_below (w := w5.drewN m6) p4 b7 (Nat.le_refl _)
      have q7 : OwnF w7 _ x1 n' gs := own_below (w := w5.drewN m6) o5 b7 (Nat.le_refl _)
      go_wp2_with fail
      refine (eqP_same _ _ n fs _ (OwnF.sl p7) (OwnF.sl o7) hl).mono ?_
      rintro e w8 ⟨rfl, b8⟩
      have B8 := B7.trans (b8.mono B7.size)
      have q8 := own_below q7 b8 (Nat.le_refl _)
      go_wp2_with fail
      refine (toP_any _ n' gs _ ((HB.out.below B8 (Nat.le_refl _)).mono B8.size) hl').mono ?_
      rintro e w9 ⟨x9, rfl, o9, b9⟩
      have B9 := B8.trans (b9.mono B8.size)
      have q9 := own_below q8 b9 (Nat.le_refl _)
      go_wp2_with fail
      refine (eqP_same _ _ n' gs _ (OwnF.sl q9) (OwnF.sl o9) hl').mono ?_
      rintro e w10 ⟨rfl, b10⟩
      go_wp2_with fail
      go_ret
      exact ⟨rfl, B9.trans (b10.mono B9.size)⟩
end Go.Proofs.Ytlmfbcffmalkkaa
