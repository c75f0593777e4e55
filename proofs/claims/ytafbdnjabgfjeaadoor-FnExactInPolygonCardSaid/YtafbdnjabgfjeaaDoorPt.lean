/- ValidPolygon: the walk of its law. -/
import Derived.Test.YtafbdnjabgfjeaaDoorPs
import Derived.Test.YtafbdnjabgfjeaaDoorSeqq
namespace Go.Proofs.YtafbdnjabgfjeaaDoor
open Go Go.RowKit OriM
namespace Pol
variable {β : Bool}

theorem sVPo_any (v : Value) (n : Nat) (fs : List Int) (w : World) (h : SlF w w.heap.size v n fs) (hT : LT β w) (hl : n ≤ 1048576) :
    Calls Tryd.prog 33 #[v] w (RetQb (MP n fs) w) := by
  have H := Lib.hid (sPo_any v n fs w h hT hl)
  clear h
  go_enter Tryd.func33, Tryd.ntmps33
  go_wp2_with fail
  refine (H.out).mono ?_
  rintro e w1 ⟨b, rfl, hb, hb1⟩
  have HB := Lib.hid hb
  clear hb
  go_wp2_with fail
  go_ret
  exact ⟨b, rfl, HB.out, hb1⟩
end Pol

set_option maxHeartbeats 4000000 in
theorem exactValidPolygon.walk (a : Value) (n : Nat) (fs : List Int) (w : World) (hT : LT true w) (hn : (n : Int) ≤ 9223372036854775807) (h64 : Pol.C64 n fs) (h : SlF w w.heap.size a n fs) : Calls Tryd.prog 6 #[a] w (RetB (.bool true) w) := by
  have HA := Lib.hid h
  obtain ⟨_, A, c, rfl, _, _⟩ := h
  by_cases h1 : 1048576 < n
  · have HZ := Lib.hid (fun w => sz_no A n c 1048576 w (by omega) (by omega) hn (by omega))
    clear h1
    go_enter Tryd.func6, Tryd.ntmps6
    go_wp2_with fail
    refine (HZ.out _).mono ?_
    rintro e w1 ⟨rfl, rfl⟩
    go_wp2_with fail
    go_ret
    exact ⟨rfl, Below.refl _ _⟩
  · have HZ := Lib.hid (fun w => sz_ok A n c 1048576 w (by omega) (by omega) (by omega))
    have hl : n ≤ 1048576 := by omega
    have h1' : (n : Int) ≤ 1048576 := by omega
    clear h1
    go_enter Tryd.func6, Tryd.ntmps6
    go_wp2_with fail
    refine (HZ.out _).mono ?_
    rintro e w1 ⟨rfl, rfl⟩
    go_wp2_with fail
    refine (toP_any _ n fs _ HA.out hl).mono ?_
    rintro e w1 ⟨u, rfl, o1, b1⟩
    have B1 := b1
    go_wp2_with fail
    refine (Pol.sVPo_any _ n fs _ (OwnF.sl o1) (LT.below hT B1 (Nat.le_refl _)) hl).mono ?_
    rintro e w2 ⟨r, rfl, hr, b2⟩
    have HR := Lib.hid hr
    have B2 := B1.trans (b2.mono B1.size)
    clear hr o1 b1 b2
    go_wp2_with fail
    refine (toP_any _ n fs _ ((HA.out.below B2 (Nat.le_refl _)).mono B2.size) hl).mono ?_
    rintro e w3 ⟨x0, rfl, o3, b3⟩
    have B3 := B2.trans (b3.mono B2.size)
    go_wp2_with fail
    refine (Pol.iVPo_any _ n fs _ (OwnF.sl o3) h64 (LT.below hT B3 (Nat.le_refl _)) hl).mono ?_
    rintro e w4 ⟨r', rfl, hr', b4⟩
    obtain rfl : r' = r := by rw [Bool.eq_iff_iff, hr', HR.out]
    clear hr'
    have hrr : (r' != r') = false := by simp
    have B4 := B3.trans (b4.mono B3.size)
    have p4 := own_below o3 b4 (Nat.le_refl _)
    clear o3 b3 b4
    go_wp2_with fail
    refine (toP_any _ n fs _ ((HA.out.below B4 (Nat.le_refl _)).mono B4.size) hl).mono ?_
    rintro e w5 ⟨x5, rfl, o5, b5⟩
    have B5 := B4.trans (b5.mono B4.size)
    have p5 := own_below p4 b5 (Nat.le_refl _)
    go_wp2_with fail
    refine (eqP_same _ _ n fs _ (OwnF.sl p5) (OwnF.sl o5) hl).mono ?_
    rintro e w6 ⟨rfl, b6⟩
    go_wp2_with fail
    go_ret
    exact ⟨rfl, B5.trans (b6.mono B5.size)⟩
end Go.Proofs.YtafbdnjabgfjeaaDoor
