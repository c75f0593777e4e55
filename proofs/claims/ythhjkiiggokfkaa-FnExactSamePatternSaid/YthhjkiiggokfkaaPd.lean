/- Patterns in laws: sizes, copies, comparisons. -/
import Derived.Test.YthhjkiiggokfkaaPc
import Derived.Test.YthhjkiiggokfkaaQpf
namespace Go.Proofs.Ythhjkiiggokfkaa
open Go Go.RowKit

/-- The values P, C read as a pattern in the world w. -/
def PatS (w : World) (P C : Value) (n m : Nat) (fs us : List Int) : Prop := SlF w w.heap.size P n fs ∧ SlC w w.heap.size C m us
def OwnPat (w : World) (base : Nat) (P C : Value) (n m : Nat) (fs us : List Int) : Prop := OwnF w base P n fs ∧ OwnC w base C m us
section
variable {w w' : World} {P C : Value} {n m base : Nat} {fs us : List Int}
theorem PatS.grow (h : PatS w P C n m fs us) (hb : Below w.heap.size w w') : PatS w' P C n m fs us := ⟨h.1.grow hb, h.2.grow hb⟩
theorem OwnPat.sl (h : OwnPat w base P C n m fs us) : PatS w P C n m fs us := ⟨OwnF.sl h.1, OwnC.sl h.2⟩
theorem OwnPat.grow (h : OwnPat w base P C n m fs us) (hb : Below w.heap.size w w') : OwnPat w' base P C n m fs us := ⟨own_below h.1 hb (Nat.le_refl _), own_below h.2 hb (Nat.le_refl _)⟩
theorem own_mono {e : TypeId} {size b b' : Nat} {v : Value} {xs : List Value} (h : w.ownsRow b e size v n xs) (hb : b' ≤ b) : w.ownsRow b' e size v n xs := by
  refine ⟨h.1, ?_⟩
  rcases h.2 with hn | ⟨g, cap, cur, rfl, hb', rest⟩
  · exact .inl hn
  · exact .inr ⟨g, cap, cur, rfl, Nat.le_trans hb hb', rest⟩
end
theorem own_slice {w : World} {e : TypeId} {size b n : Nat} {v : Value} {xs : List Value} (h : w.ownsRow b e size v n xs) : ∃ A c, v = .slice A n c := by
  rcases h.2 with ⟨rfl, rfl⟩ | ⟨g, cap, cur, rfl, _⟩
  · exact ⟨none, 0, rfl⟩
  · exact ⟨_, _, rfl⟩
theorem BoxP.grow {w wr wr' : World} {P C P' C' : Value} (h : BoxP w P C P' C' wr) (hb : Below wr.heap.size wr wr') : BoxP w P C P' C' wr' := by
  obtain ⟨h0, h1, h2, h3, h4, h5⟩ := h
  have hz := h0.size
  have hz' := hb.size
  refine ⟨h0.trans (hb.mono hz), by omega, ?_, ?_, ?_, ?_⟩
  · exact (hb.cell (p := ⟨w.heap.size, 0, none⟩) (by show w.heap.size < wr.heap.size; omega)).trans h2
  · exact (hb.cell (p := ⟨w.heap.size, 1, none⟩) (by show w.heap.size < wr.heap.size; omega)).trans h3
  · exact (hb.cell (p := ⟨w.heap.size + 1, 0, none⟩) h1).trans h4
  · exact (hb.cell (p := ⟨w.heap.size + 1, 1, none⟩) h1).trans h5

theorem own_set {w : World} {e : TypeId} {size b n lo : Nat} {v : Value} {xs : List Value} (h : w.ownsRow b e size v n xs) (hlo : ∀ k, v.ownBlock = some k → lo ≤ k) {a : Addr} (ha : a.block < lo) (x : Value) : (w.setCell a x).ownsRow b e size v n xs :=
  ownsRow_setCell_other h (a := a) (fun e' => by have := hlo _ e'; omega) x

/-! ### Sizes -/
theorem szC_ok (A : Option Addr) (n c : Nat) (left : Int) (w : World) (h0 : 0 ≤ left) (h1 : left ≤ 1048576) (h : (n : Int) ≤ left) : Calls Try.prog 10 #[.slice A n c, .int .i64 left] w (RetV (.int .i64 (left - n)) w) := by
  go_enter Try.func10, Try.ntmps10
  go_wp2_with fail
  go_ret
  exact ⟨rfl, rfl⟩
theorem szC_no (A : Option Addr) (n c : Nat) (left : Int) (w : World) (h0 : 0 ≤ left) (h1 : left ≤ 1048576) (hn : (n : Int) ≤ 9223372036854775807) (h : left < (n : Int)) : Calls Try.prog 10 #[.slice A n c, .int .i64 left] w (RetV (.int .i64 (-1)) w) := by
  go_enter Try.func10, Try.ntmps10
  go_wp2_with fail
  go_ret
  exact ⟨rfl, rfl⟩
theorem szP_ok (A E : Option Addr) (n c m d : Nat) (left : Int) (w : World) (h0 : 0 ≤ left) (h1 : left ≤ 1048576) (h : (n : Int) + m ≤ left) : Calls Try.prog 4 #[patV (.slice A n c) (.slice E m d), .int .i64 left] w (RetW (.int .i64 (left - n - m)) w) := by
  have H1 := Lib.hid fun w => sz_ok A n c left w h0 h1 (by omega)
  have H2 := Lib.hid fun w => szC_ok E m d (left - n) w (by omega) (by omega) (by omega)
  go_enter Try.func4, Try.ntmps4
  go_wp2_with fail
  refine (H1.out _).mono ?_
  rintro e w1 ⟨rfl, rfl⟩
  go_wp2_with fail
  refine (H2.out _).mono ?_
  rintro e w2 ⟨rfl, rfl⟩
  go_wp2_with fail
  go_ret
  exact ⟨rfl, by (repeat (first | with_reducible exact Below.refl _ _ | with_reducible assumption | with_reducible refine below_drewN ?_ _ | with_reducible refine Below.drew ?_ | with_reducible refine Below.alloc ?_ (by first | omega | (simp; done) | (simp; omega)) _ | with_reducible refine Below.setCell ?_ (by first | omega | (simp; done) | (simp; omega)) _ | with_reducible refine Below.trans ?_ (Below.mono (by assumption) (by first | omega | (simp; done) | (simp; omega)))))⟩
theorem szP_no (A E : Option Addr) (n c m d : Nat) (left : Int) (w : World) (h0 : 0 ≤ left) (h1 : left ≤ 1048576) (hn : (n : Int) ≤ 9223372036854775807) (hm : (m : Int) ≤ 9223372036854775807) (h : left < (n : Int) + m) : Calls Try.prog 4 #[patV (.slice A n c) (.slice E m d), .int .i64 left] w (RetW (.int .i64 (-1)) w) := by
  by_cases h2 : left < (n : Int)
  · have H1 := Lib.hid fun w => sz_no A n c left w h0 h1 hn h2
    go_enter Try.func4, Try.ntmps4
    go_wp2_with fail
    refine (H1.out _).mono ?_
    rintro e w1 ⟨rfl, rfl⟩
    go_wp2_with fail
    go_ret
    exact ⟨rfl, by (repeat (first | with_reducible exact Below.refl _ _ | with_reducible assumption | with_reducible refine below_drewN ?_ _ | with_reducible refine Below.drew ?_ | with_reducible refine Below.alloc ?_ (by first | omega | (simp; done) | (simp; omega)) _ | with_reducible refine Below.setCell ?_ (by first | omega | (simp; done) | (simp; omega)) _ | with_reducible refine Below.trans ?_ (Below.mono (by assumption) (by first | omega | (simp; done) | (simp; omega)))))⟩
  · have H1 := Lib.hid fun w => sz_ok A n c left w h0 h1 (by omega)
    have H2 := Lib.hid fun w => szC_no E m d (left - n) w (by omega) (by omega) hm (by omega)
    clear h
    have h3 : (n : Int) ≤ left := by omega
    clear h2
    go_enter Try.func4, Try.ntmps4
    go_wp2_with fail
    refine (H1.out _).mono ?_
    rintro e w1 ⟨rfl, rfl⟩
    go_wp2_with fail
    refine (H2.out _).mono ?_
    rintro e w2 ⟨rfl, rfl⟩
    go_wp2_with fail
    go_ret
    exact ⟨rfl, by (repeat (first | with_reducible exact Below.refl _ _ | with_reducible assumption | with_reducible refine below_drewN ?_ _ | with_reducible refine Below.drew ?_ | with_reducible refine Below.alloc ?_ (by first | omega | (simp; done) | (simp; omega)) _ | with_reducible refine Below.setCell ?_ (by first | omega | (simp; done) | (simp; omega)) _ | with_reducible refine Below.trans ?_ (Below.mono (by assumption) (by first | omega | (simp; done) | (simp; omega)))))⟩

/-! ### Copies, comparisons -/
/-- A pattern of the call's own; nothing old has turned. -/
def RetPat (n m : Nat) (fs us : List Int) (w : World) (e : Ending) (w' : World) : Prop := ∃ P C, e = .returned (patV P C) ∧ OwnPat w' w.heap.size P C n m fs us ∧ Below w.heap.size w w'
set_option maxHeartbeats 2000000 in
theorem toPat_any (P C : Value) (n m : Nat) (fs us : List Int) (w : World) (h : PatS w P C n m fs us) (hl : n ≤ 1048576) (hm : m ≤ 1048576) :
    Calls Try.prog 6 #[patV P C] w (RetPat n m fs us w) := by
  have HP := Lib.hid fun w' (hb : Below w.heap.size w w') => toP_any P n fs w' (h.1.grow hb) hl
  have HC := Lib.hid fun w' (hb : Below w.heap.size w w') => toC_any C m us w' (h.2.grow hb) hm
  clear h
  go_enter Try.func6, Try.ntmps6
  go_wp2_with fail
  refine (HP.out _ ?_).mono ?_
  · (repeat (first | with_reducible exact Below.refl _ _ | with_reducible assumption | with_reducible refine below_drewN ?_ _ | with_reducible refine Below.drew ?_ | with_reducible refine Below.alloc ?_ (by first | omega | (simp; done) | (simp; omega)) _ | with_reducible refine Below.setCell ?_ (by first | omega | (simp; done) | (simp; omega)) _ | with_reducible refine Below.trans ?_ (Below.mono (by assumption) (by first | omega | (simp; done) | (simp; omega)))))
  rintro e w1 ⟨u, rfl, o1, b1⟩
  obtain ⟨UA, uc, rfl⟩ := own_slice o1
  obtain ⟨hc1, hf1⟩ := cellsF b1
  have hz1 := b1.size
  simp at hz1
  have z1 : w.heap.size < w1.heap.size := by omega
  have z2 : w.heap.size + 1 < w1.heap.size := by omega
  have z3 : w.heap.size + 1 + 1 < w1.heap.size := by omega
  have O1 := Lib.hid (show OwnF w1 w.heap.size (.slice UA n uc) n fs from own_mono o1 (by simp; omega))
  have B1 := Lib.hid (show Below w.heap.size w w1 by (repeat (first | with_reducible exact Below.refl _ _ | with_reducible assumption | with_reducible refine below_drewN ?_ _ | with_reducible refine Below.drew ?_ | with_reducible refine Below.alloc ?_ (by first | omega | (simp; done) | (simp; omega)) _ | with_reducible refine Below.setCell ?_ (by first | omega | (simp; done) | (simp; omega)) _ | with_reducible refine Below.trans ?_ (Below.mono (by assumption) (by first | omega | (simp; done) | (simp; omega))))))
  have hu := Lib.hid (own_row o1)
  clear o1
  go_wp2_with fail
  refine (HC.out _ ?_).mono ?_
  · (repeat (first | with_reducible exact Below.refl _ _ | with_reducible assumption | with_reducible refine below_drewN ?_ _ | with_reducible refine Below.drew ?_ | with_reducible refine Below.alloc ?_ (by first | omega | (simp; done) | (simp; omega)) _ | with_reducible refine Below.setCell ?_ (by first | omega | (simp; done) | (simp; omega)) _ | with_reducible refine Below.trans ?_ (Below.mono (by assumption) (by first | omega | (simp; done) | (simp; omega)))))
  rintro e w2 ⟨v, rfl, o2, b2⟩
  obtain ⟨VA, vc, rfl⟩ := own_slice o2
  obtain ⟨hc2, hf2⟩ := cellsF b2
  have hz2 := b2.size
  simp at hz2
  have y1 : w.heap.size < w2.heap.size := by omega
  have y2 : w.heap.size + 1 < w2.heap.size := by omega
  have y3 : w.heap.size + 1 + 1 < w2.heap.size := by omega
  go_wp2_with fail
  have O2 := Lib.hid (show OwnC w2 w.heap.size (.slice VA m vc) m us from own_mono o2 (by simp; omega))
  have hu2 := Lib.hid (show ∀ k, (Value.slice VA m vc).ownBlock = some k → w.heap.size + 3 ≤ k from fun k hk => by have := (own_row o2 k hk).1; simp at this; omega)
  have hu1 := Lib.hid (show ∀ k, (Value.slice UA n uc).ownBlock = some k → w.heap.size + 3 ≤ k from fun k hk => by have := (hu.out k hk).1; simp at this; omega)
  have O1' := Lib.hid (show OwnF w2 w.heap.size (.slice UA n uc) n fs from own_below (own_set O1.out hu1.out (by show w.heap.size + 1 + 1 < _; omega) _) b2 (Nat.le_refl _))
  refine bodyPost_ret (v := patV (.slice UA n uc) (.slice VA m vc)) (by simp [results, Try.results6, go_sem, hc1, hc2, z2]) rfl ⟨_, _, rfl, ⟨?_, ?_⟩, by (repeat (first | with_reducible exact Below.refl _ _ | with_reducible assumption | with_reducible refine below_drewN ?_ _ | with_reducible refine Below.drew ?_ | with_reducible refine Below.alloc ?_ (by first | omega | (simp; done) | (simp; omega)) _ | with_reducible refine Below.setCell ?_ (by first | omega | (simp; done) | (simp; omega)) _ | with_reducible refine Below.trans ?_ (Below.mono (by assumption) (by first | omega | (simp; done) | (simp; omega)))))⟩
  · exact own_set (own_set (own_set O1'.out hu1.out (by show w.heap.size + 1 + 1 < _; omega) _) hu1.out (by show w.heap.size + 1 < _; omega) _) hu1.out (by show w.heap.size + 1 < _; omega) _
  · exact own_set (own_set (own_set O2.out hu2.out (by show w.heap.size + 1 + 1 < _; omega) _) hu2.out (by show w.heap.size + 1 < _; omega) _) hu2.out (by show w.heap.size + 1 < _; omega) _
set_option maxHeartbeats 2000000 in
theorem eqPat_same (P C P' C' : Value) (n m : Nat) (fs us : List Int) (w : World) (h : PatS w P C n m fs us) (h' : PatS w P' C' n m fs us) (hl : n ≤ 1048576) (hm : m ≤ 1048576) :
    Calls Try.prog 8 #[patV P C, patV P' C'] w (RetW (.bool true) w) := by
  have HP := Lib.hid fun w' (hb : Below w.heap.size w w') => eqP_same P P' n fs w' (h.1.grow hb) (h'.1.grow hb) hl
  have HC := Lib.hid fun w' (hb : Below w.heap.size w w') => eqC_same C C' m us w' (h.2.grow hb) (h'.2.grow hb) hm
  clear h h'
  go_enter Try.func8, Try.ntmps8
  go_wp2_with fail
  refine (HP.out _ ?_).mono ?_
  · (repeat (first | with_reducible exact Below.refl _ _ | with_reducible assumption | with_reducible refine below_drewN ?_ _ | with_reducible refine Below.drew ?_ | with_reducible refine Below.alloc ?_ (by first | omega | (simp; done) | (simp; omega)) _ | with_reducible refine Below.setCell ?_ (by first | omega | (simp; done) | (simp; omega)) _ | with_reducible refine Below.trans ?_ (Below.mono (by assumption) (by first | omega | (simp; done) | (simp; omega)))))
  rintro e w1 ⟨rfl, b1⟩
  obtain ⟨hc1, hf1⟩ := cellsF b1
  have hz1 := b1.size
  simp at hz1
  have z1 : w.heap.size < w1.heap.size := by omega
  have z2 : w.heap.size + 1 < w1.heap.size := by omega
  go_wp2_with fail
  refine (HC.out _ ?_).mono ?_
  · (repeat (first | with_reducible exact Below.refl _ _ | with_reducible assumption | with_reducible refine below_drewN ?_ _ | with_reducible refine Below.drew ?_ | with_reducible refine Below.alloc ?_ (by first | omega | (simp; done) | (simp; omega)) _ | with_reducible refine Below.setCell ?_ (by first | omega | (simp; done) | (simp; omega)) _ | with_reducible refine Below.trans ?_ (Below.mono (by assumption) (by first | omega | (simp; done) | (simp; omega)))))
  rintro e w2 ⟨rfl, b2⟩
  go_wp2_with fail
  go_ret
  exact ⟨rfl, by (repeat (first | with_reducible exact Below.refl _ _ | with_reducible assumption | with_reducible refine below_drewN ?_ _ | with_reducible refine Below.drew ?_ | with_reducible refine Below.alloc ?_ (by first | omega | (simp; done) | (simp; omega)) _ | with_reducible refine Below.setCell ?_ (by first | omega | (simp; done) | (simp; omega)) _ | with_reducible refine Below.trans ?_ (Below.mono (by assumption) (by first | omega | (simp; done) | (simp; omega)))))⟩
end Go.Proofs.Ythhjkiiggokfkaa
