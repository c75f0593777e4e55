/- SamePattern: the walk of its law. -/
import Derived.Test.YthhjkiiggokfkaaPd
namespace Go.Proofs.Ythhjkiiggokfkaa
open Go Go.RowKit

/-- A pattern in a box of its own. -/
def BoxQ (G : Nat) (x y : Value) (wr : World) : Prop := G < wr.heap.size ∧ wr.cell? ⟨G, 0, none⟩ = some x ∧ wr.cell? ⟨G, 1, none⟩ = some y
theorem BoxQ.grow {G : Nat} {x y : Value} {wr wr' : World} (h : BoxQ G x y wr) (hb : Below wr.heap.size wr wr') : BoxQ G x y wr' :=
  ⟨Nat.lt_of_lt_of_le h.1 hb.size, (hb.cell (p := ⟨G, 0, none⟩) h.1).trans h.2.1, (hb.cell (p := ⟨G, 1, none⟩) h.1).trans h.2.2⟩

set_option maxRecDepth 100000 in
set_option maxHeartbeats 4000000 in
theorem exactSamePattern.walk (P C P' C' : Value) (n n' m m' : Nat) (fs gs us vs : List Int) (w : World) (hn : (n : Int) ≤ 9223372036854775807) (hn' : (n' : Int) ≤ 9223372036854775807) (hm : (m : Int) ≤ 9223372036854775807) (hm' : (m' : Int) ≤ 9223372036854775807)
    (h : PatS w P C n m fs us) (h' : PatS w P' C' n' m' gs vs) : Calls Try.prog 3 #[patV P C, patV P' C'] w (RetT w) := by
  have HA := Lib.hid h
  have HB := Lib.hid h'
  obtain ⟨⟨_, A, c, rfl, _, _⟩, ⟨_, E, d, rfl, _, _⟩⟩ := h
  obtain ⟨⟨_, A', c', rfl, _, _⟩, ⟨_, E', d', rfl, _, _⟩⟩ := h'
  by_cases h1 : (1048576 : Int) < (n : Int) + m
  · have HZ := Lib.hid fun w => szP_no A E n c m d 1048576 w (by omega) (by omega) hn hm h1
    clear h1
    go_enter Try.func3, Try.ntmps3
    go_wp2_with fail
    refine (HZ.out _).mono ?_
    rintro e w1 ⟨rfl, b1⟩
    go_wp2_with fail
    go_ret
    exact ⟨rfl, by (repeat (first | with_reducible exact Below.refl _ _ | with_reducible assumption | with_reducible refine below_drewN ?_ _ | with_reducible refine Below.drew ?_ | with_reducible refine Below.alloc ?_ (by first | omega | (simp; done) | (simp; omega)) _ | with_reducible refine Below.setCell ?_ (by first | omega | (simp; done) | (simp; omega)) _ | with_reducible refine Below.trans ?_ (Below.mono (by assumption) (by first | omega | (simp; done) | (simp; omega)))))⟩
  · have HZ := Lib.hid fun w => szP_ok A E n c m d 1048576 w (by omega) (by omega) (by omega)
    by_cases h2 : 1048576 - (n : Int) - m < (n' : Int) + m'
    · have HZ' := Lib.hid fun w => szP_no A' E' n' c' m' d' (1048576 - (n : Int) - m) w (by omega) (by omega) hn' hm' h2
      have h1' : (n : Int) + m ≤ 1048576 := by omega
      clear h1 h2
      go_enter Try.func3, Try.ntmps3
      go_wp2_with fail
      refine (HZ.out _).mono ?_
      rintro e w1 ⟨rfl, b1⟩
      obtain ⟨hc1, hf1⟩ := cellsF b1
      have hz1 := b1.size
      simp at hz1
      have z1 : w.heap.size < w1.heap.size := by omega
      have z2 : w.heap.size + 1 < w1.heap.size := by omega
      go_wp2_with fail
      refine (HZ'.out _).mono ?_
      rintro e w2 ⟨rfl, b2⟩
      go_wp2_with fail
      go_ret
      exact ⟨rfl, by (repeat (first | with_reducible exact Below.refl _ _ | with_reducible assumption | with_reducible refine below_drewN ?_ _ | with_reducible refine Below.drew ?_ | with_reducible refine Below.alloc ?_ (by first | omega | (simp; done) | (simp; omega)) _ | with_reducible refine Below.setCell ?_ (by first | omega | (simp; done) | (simp; omega)) _ | with_reducible refine Below.trans ?_ (Below.mono (by assumption) (by first | omega | (simp; done) | (simp; omega)))))⟩
    · have HZ' := Lib.hid fun w => szP_ok A' E' n' c' m' d' (1048576 - (n : Int) - m) w (by omega) (by omega) (by omega)
      have h1' : (n : Int) + m ≤ 1048576 := by omega
      have h2' : (n' : Int) + m' ≤ 1048576 - (n : Int) - m := by omega
      have HTA := Lib.hid fun w' (hb : Below w.heap.size w w') => toPat_any (.slice A n c) (.slice E m d) n m fs us w' (HA.out.grow hb) (by omega) (by omega)
      have HTB := Lib.hid fun w' (hb : Below w.heap.size w w') => toPat_any (.slice A' n' c') (.slice E' m' d') n' m' gs vs w' (HB.out.grow hb) (by omega) (by omega)
      have HS := Lib.hid fun P C P' C' w' (h : PatS w' P C n m fs us) (h' : PatS w' P' C' n' m' gs vs) => sSameP_any P C P' C' n n' m m' fs gs us vs w' h.1 h'.1 h.2 h'.2 (by omega) (by omega)
      have HI := Lib.hid fun P C P' C' w' (h : PatS w' P C n m fs us) (h' : PatS w' P' C' n' m' gs vs) => iSameP_any P C P' C' n n' m m' fs gs us vs w' h.1 h'.1 h.2 h'.2 (by omega) (by omega)
      have HEA := Lib.hid fun P C P' C' w' (h : PatS w' P C n m fs us) (h' : PatS w' P' C' n m fs us) => eqPat_same P C P' C' n m fs us w' h h' (by omega) (by omega)
      have HEB := Lib.hid fun P C P' C' w' (h : PatS w' P C n' m' gs vs) (h' : PatS w' P' C' n' m' gs vs) => eqPat_same P C P' C' n' m' gs vs w' h h' (by omega) (by omega)
      clear h1 h2 HA HB
      go_enter Try.func3, Try.ntmps3
      go_wp2_with fail
      refine (HZ.out _).mono ?_
      rintro e w1 ⟨rfl, b1⟩
      have BX1 : BoxP w (.slice A n c) (.slice E m d) (.slice A' n' c') (.slice E' m' d') w1 := BoxP.grow (wr := (w.alloc (Obj.cells #[.slice A n c, .slice E m d] 25)).alloc (Obj.cells #[.slice A' n' c', .slice E' m' d'] 25)) ⟨by (repeat (first | with_reducible exact Below.refl _ _ | with_reducible assumption | with_reducible refine below_drewN ?_ _ | with_reducible refine Below.drew ?_ | with_reducible refine Below.alloc ?_ (by first | omega | (simp; done) | (simp; omega)) _ | with_reducible refine Below.setCell ?_ (by first | omega | (simp; done) | (simp; omega)) _ | with_reducible refine Below.trans ?_ (Below.mono (by assumption) (by first | omega | (simp; done) | (simp; omega))))), by simp, by simp [go_sem], by simp [go_sem], by simp [go_sem], by simp [go_sem]⟩ b1
      clear b1
      have HX1 := Lib.hid BX1
      obtain ⟨_, z1, p1, p2, p3, p4⟩ := BX1
      have z0 : w.heap.size < w1.heap.size := by omega
      go_wp2_with fail
      refine (HZ'.out _).mono ?_
      rintro e w2 ⟨rfl, b2⟩
      have BX2 := HX1.out.grow b2
      clear b2 p1 p2 p3 p4 z1 z0 HX1
      have HX2 := Lib.hid BX2
      obtain ⟨B2, z1, p1, p2, p3, p4⟩ := BX2
      have z0 : w.heap.size < w2.heap.size := by omega
      go_wp2_with fail
      go_region_held3 (fun w' => w'.cell? ⟨w.heap.size, 0, none⟩ = some (.slice A n c) ∧ w'.cell? ⟨w.heap.size, 1, none⟩ = some (.slice E m d) ∧ w'.cell? ⟨w.heap.size + 1, 0, none⟩ = some (.slice A' n' c') ∧ w'.cell? ⟨w.heap.size + 1, 1, none⟩ = some (.slice E' m' d')) ((first | (go_simp; done) | (simp [*]; done)))
        ((first
        | (go_at_call_of 6 (Value.agg #[Value.slice A n c, Value.slice E m d]); refine (HTA.out _ ?_).mono ?_; exact (by (repeat (first | with_reducible exact Below.refl _ _ | with_reducible assumption | with_reducible refine below_drewN ?_ _ | with_reducible refine Below.drew ?_ | with_reducible refine Below.alloc ?_ (by first | omega | (simp; done) | (simp; omega)) _ | with_reducible refine Below.setCell ?_ (by first | omega | (simp; done) | (simp; omega)) _ | with_reducible refine Below.trans ?_ (Below.mono (by assumption) (by first | omega | (simp; done) | (simp; omega)))))); rintro e w3 ⟨u, v, rfl, o3, b3⟩; (try replace b3 := below_undrew b3); have HX3 := Lib.hid (HX2.out.grow b3); have HO3 := Lib.hid o3; clear o3 b3 p1 p2 p3 p4 z1 z0; obtain ⟨B3, z1, p1, p2, p3, p4⟩ := HX3.out; have z0 : w.heap.size < w3.heap.size := (by omega))
        | (go_at_call_of 6 (Value.agg #[Value.slice A' n' c', Value.slice E' m' d']); refine (HTB.out _ ?_).mono ?_; exact (by (repeat (first | with_reducible exact Below.refl _ _ | with_reducible assumption | with_reducible refine below_drewN ?_ _ | with_reducible refine Below.drew ?_ | with_reducible refine Below.alloc ?_ (by first | omega | (simp; done) | (simp; omega)) _ | with_reducible refine Below.setCell ?_ (by first | omega | (simp; done) | (simp; omega)) _ | with_reducible refine Below.trans ?_ (Below.mono (by assumption) (by first | omega | (simp; done) | (simp; omega)))))); rintro e w4 ⟨u', v', rfl, o4, b4⟩; (try replace b4 := below_undrew b4); have HX4 := Lib.hid (HX3.out.grow b4); have HO4 := Lib.hid o4; have HP3 := Lib.hid (HO3.out.grow b4); clear o4 b4 p1 p2 p3 p4 z1 z0; obtain ⟨B4, z1, p1, p2, p3, p4⟩ := HX4.out; have z0 : w.heap.size < w4.heap.size := (by omega))
        | (go_at_call 5; refine (HS.out _ _ _ _ _ HP3.out.sl HO4.out.sl).mono ?_; rintro e w5 ⟨r, rfl, hr, b5⟩; (try replace b5 := below_undrew b5); have HX5 := Lib.hid (HX4.out.grow b5); have HR := Lib.hid hr; clear hr b5 p1 p2 p3 p4 z1 z0; obtain ⟨B5, z1, p1, p2, p3, p4⟩ := HX5.out; have z0 : w.heap.size < w5.heap.size := (by omega))))
      clear HX2 B2 HX3 B3 HX4 B4 HO3 HO4 HP3
      go_wp2_with fail
      refine (HTA.out _ ?_).mono ?_
      · (repeat (first | with_reducible exact Below.refl _ _ | with_reducible assumption | with_reducible refine below_drewN ?_ _ | with_reducible refine Below.drew ?_ | with_reducible refine Below.alloc ?_ (by first | omega | (simp; done) | (simp; omega)) _ | with_reducible refine Below.setCell ?_ (by first | omega | (simp; done) | (simp; omega)) _ | with_reducible refine Below.trans ?_ (Below.mono (by assumption) (by first | omega | (simp; done) | (simp; omega)))))
      rintro e w6 ⟨x, y, rfl, o6, b6⟩
      obtain ⟨XA, xc, rfl⟩ := own_slice o6.1
      obtain ⟨YA, yc, rfl⟩ := own_slice o6.2
      have G6 : Below w6.heap.size w6 (w6.alloc (Obj.cells #[.slice XA n xc, .slice YA m yc] 31)) := by (repeat (first | with_reducible exact Below.refl _ _ | with_reducible assumption | with_reducible refine below_drewN ?_ _ | with_reducible refine Below.drew ?_ | with_reducible refine Below.alloc ?_ (by first | omega | (simp; done) | (simp; omega)) _ | with_reducible refine Below.setCell ?_ (by first | omega | (simp; done) | (simp; omega)) _ | with_reducible refine Below.trans ?_ (Below.mono (by assumption) (by first | omega | (simp; done) | (simp; omega)))))
      have HX6 := Lib.hid ((HX5.out.grow b6).grow G6)
      have HO6 := Lib.hid (o6.grow G6)
      have HQ6 := Lib.hid (show BoxQ w6.heap.size (.slice XA n xc) (.slice YA m yc) (w6.alloc (Obj.cells #[.slice XA n xc, .slice YA m yc] 31)) from ⟨by simp, by simp [go_sem], by simp [go_sem]⟩)
      clear o6 b6 G6 HX5 B5 p1 p2 p3 p4 z1 z0
      obtain ⟨B6, z1, p1, p2, p3, p4⟩ := HX6.out
      obtain ⟨k1, k2, k3⟩ := HQ6.out
      have z0 : w.heap.size < (w6.alloc (Obj.cells #[.slice XA n xc, .slice YA m yc] 31)).heap.size := by omega
      simp at z0 z1
      go_wp2_with fail
      refine (HTB.out _ ?_).mono ?_
      · exact HX6.out.1
      rintro e w7 ⟨x', y', rfl, o7, b7⟩
      obtain ⟨XA', xc', rfl⟩ := own_slice o7.1
      obtain ⟨YA', yc', rfl⟩ := own_slice o7.2
      have G7 : Below w7.heap.size w7 (w7.alloc (Obj.cells #[.slice XA' n' xc', .slice YA' m' yc'] 31)) := by (repeat (first | with_reducible exact Below.refl _ _ | with_reducible assumption | with_reducible refine below_drewN ?_ _ | with_reducible refine Below.drew ?_ | with_reducible refine Below.alloc ?_ (by first | omega | (simp; done) | (simp; omega)) _ | with_reducible refine Below.setCell ?_ (by first | omega | (simp; done) | (simp; omega)) _ | with_reducible refine Below.trans ?_ (Below.mono (by assumption) (by first | omega | (simp; done) | (simp; omega)))))
      have HX7 := Lib.hid ((HX6.out.grow b7).grow G7)
      have HO7 := Lib.hid (o7.grow G7)
      have HO6' := Lib.hid ((HO6.out.grow b7).grow G7)
      have HQ6' := Lib.hid ((HQ6.out.grow b7).grow G7)
      have HQ7 := Lib.hid (show BoxQ w7.heap.size (.slice XA' n' xc') (.slice YA' m' yc') (w7.alloc (Obj.cells #[.slice XA' n' xc', .slice YA' m' yc'] 31)) from ⟨by simp, by simp [go_sem], by simp [go_sem]⟩)
      have l7 : w6.heap.size < w7.heap.size := by have := b7.size; simp at this; omega
      clear o7 b7 G7 HX6 B6 HO6 HQ6 p1 p2 p3 p4 z1 z0 k1 k2 k3
      obtain ⟨B7, z1, p1, p2, p3, p4⟩ := HX7.out
      obtain ⟨k1, k2, k3⟩ := HQ6'.out
      obtain ⟨j1, j2, j3⟩ := HQ7.out
      go_wp2_with fail
      refine (HI.out _ _ _ _ _ HO6'.out.sl HO7.out.sl).mono ?_
      rintro e w8 ⟨r', rfl, hr', b8⟩
      obtain rfl : r' = r := by rw [Bool.eq_iff_iff, hr', HR.out]
      clear hr'
      have hrr : (r' != r') = false := by simp
      have HX8 := Lib.hid (HX7.out.grow b8)
      have HO8 := Lib.hid (HO6'.out.grow b8)
      have HO8' := Lib.hid (HO7.out.grow b8)
      have HQ8 := Lib.hid (HQ6'.out.grow b8)
      have HQ8' := Lib.hid (HQ7.out.grow b8)
      have l8 : w7.heap.size < w8.heap.size := by have := b8.size; simp at this; omega
      clear b8 HX7 B7 HO6' HO7 HQ6' HQ7 p1 p2 p3 p4 z1 k1 k2 k3 j1 j2 j3
      obtain ⟨B8, z1, p1, p2, p3, p4⟩ := HX8.out
      obtain ⟨k1, k2, k3⟩ := HQ8.out
      obtain ⟨j1, j2, j3⟩ := HQ8'.out
      go_wp2_with fail
      go_region_held3 (fun w' => w'.cell? ⟨w.heap.size, 0, none⟩ = some (.slice A n c) ∧ w'.cell? ⟨w.heap.size, 1, none⟩ = some (.slice E m d) ∧ w'.cell? ⟨w6.heap.size, 0, none⟩ = some (.slice XA n xc) ∧ w'.cell? ⟨w6.heap.size, 1, none⟩ = some (.slice YA m yc)) ((first | (go_simp; done) | (simp [*]; done)))
        ((first
        | (go_at_call 6; refine (HTA.out _ ?_).mono ?_; exact (by (repeat (first | with_reducible exact Below.refl _ _ | with_reducible assumption | with_reducible refine below_drewN ?_ _ | with_reducible refine Below.drew ?_ | with_reducible refine Below.alloc ?_ (by first | omega | (simp; done) | (simp; omega)) _ | with_reducible refine Below.setCell ?_ (by first | omega | (simp; done) | (simp; omega)) _ | with_reducible refine Below.trans ?_ (Below.mono (by assumption) (by first | omega | (simp; done) | (simp; omega)))))); rintro e w9 ⟨s, t, rfl, o9, b9⟩; (try replace b9 := below_undrew b9); have HX9 := Lib.hid (HX8.out.grow b9); have HO9 := Lib.hid o9; have HP9 := Lib.hid (HO8.out.grow b9); have HP9' := Lib.hid (HO8'.out.grow b9); have HQ9 := Lib.hid (HQ8.out.grow b9); have HQ9' := Lib.hid (HQ8'.out.grow b9); clear o9 b9 p1 p2 p3 p4 z1 k1 k2 k3 j1 j2 j3; obtain ⟨B9, z1, p1, p2, p3, p4⟩ := HX9.out; obtain ⟨k1, k2, k3⟩ := HQ9.out; obtain ⟨j1, j2, j3⟩ := HQ9'.out)
        | (go_at_call 8; refine (HEA.out _ _ _ _ _ HP9.out.sl HO9.out.sl).mono ?_; rintro e w10 ⟨rfl, b10⟩; (try replace b10 := below_undrew b10); have HX10 := Lib.hid (HX9.out.grow b10); have HP10 := Lib.hid (HP9'.out.grow b10); have HQ10 := Lib.hid (HQ9.out.grow b10); have HQ10' := Lib.hid (HQ9'.out.grow b10); clear b10 p1 p2 p3 p4 z1 k1 k2 k3 j1 j2 j3; obtain ⟨B10, z1, p1, p2, p3, p4⟩ := HX10.out; obtain ⟨k1, k2, k3⟩ := HQ10.out; obtain ⟨j1, j2, j3⟩ := HQ10'.out)))
      clear HX8 B8 HO8 HO8' HQ8 HQ8' HX9 B9 HO9 HP9 HP9' HQ9 HQ9'
      go_wp2_with fail
      go_region_held3 (fun w' => w'.cell? ⟨w.heap.size + 1, 0, none⟩ = some (.slice A' n' c') ∧ w'.cell? ⟨w.heap.size + 1, 1, none⟩ = some (.slice E' m' d') ∧ w'.cell? ⟨w7.heap.size, 0, none⟩ = some (.slice XA' n' xc') ∧ w'.cell? ⟨w7.heap.size, 1, none⟩ = some (.slice YA' m' yc')) ((first | (go_simp; done) | (simp [*]; done)))
        ((first
        | (go_at_call 6; refine (HTB.out _ ?_).mono ?_; exact (by (repeat (first | with_reducible exact Below.refl _ _ | with_reducible assumption | with_reducible refine below_drewN ?_ _ | with_reducible refine Below.drew ?_ | with_reducible refine Below.alloc ?_ (by first | omega | (simp; done) | (simp; omega)) _ | with_reducible refine Below.setCell ?_ (by first | omega | (simp; done) | (simp; omega)) _ | with_reducible refine Below.trans ?_ (Below.mono (by assumption) (by first | omega | (simp; done) | (simp; omega)))))); rintro e w11 ⟨s', t', rfl, o11, b11⟩; (try replace b11 := below_undrew b11); have HX11 := Lib.hid (HX10.out.grow b11); have HO11 := Lib.hid o11; have HP11 := Lib.hid (HP10.out.grow b11); have HQ11 := Lib.hid (HQ10'.out.grow b11); clear o11 b11 p1 p2 p3 p4 z1 k1 k2 k3 j1 j2 j3; obtain ⟨B11, z1, p1, p2, p3, p4⟩ := HX11.out; obtain ⟨j1, j2, j3⟩ := HQ11.out)
        | (go_at_call 8; refine (HEB.out _ _ _ _ _ HP11.out.sl HO11.out.sl).mono ?_; rintro e w12 ⟨rfl, b12⟩; (try replace b12 := below_undrew b12); have HX12 := Lib.hid (HX11.out.grow b12); have HQ12 := Lib.hid (HQ11.out.grow b12); clear b12 p1 p2 p3 p4 z1 j1 j2 j3; obtain ⟨B12, z1, p1, p2, p3, p4⟩ := HX12.out; obtain ⟨j1, j2, j3⟩ := HQ12.out)))
      go_wp2_with fail
      go_ret
      exact ⟨rfl, HX12.out.1⟩
end Go.Proofs.Ythhjkiiggokfkaa
