/- Equal slices of creases; equal patterns: the program's. -/
import Derived.Test.YthhjkiiggokfkaaQpe
import Derived.Test.YthhjkiiggokfkaaPa
namespace Go.Proofs.Ythhjkiiggokfkaa
open Go Go.RowKit

theorem eqc_run (a b k a' b' k' : Int) (w : World) : (Op.equalIn 10000 41 (c3v a b k) (c3v a' b' k')).run Try.prog w = .ok (e3 a b k a' b' k') w := by
  have u2 := Try.underlying2
  have a2 := Try.isAgg2
  have z2 := Try.sizeOf2
  have hS : Try.prog.underlying 41 = some (.struct (Try.prog.fieldsOf 41)) := by kernel_rfl
  have hp : Try.prog.stoodInHeld 41 = false := by kernel_rfl
  rw [show (10000 : Nat) = 9999 + 1 from rfl, run_equalIn_agg w 9999 41 _ _ hS hp]
  simp only [Program.fieldsOf, Try.underlying41]
  go_simp
  by_cases h1 : a = a' <;> by_cases h2 : b = b' <;> by_cases h3 : k = k' <;> simp [h1, h2, h3, e3]
theorem e3_all {fs gs : List Int} {k : Nat} (h : ∀ j, j < k * 3 → nth fs j = nth gs j) (hq : e3 (nth fs (k * 3)) (nth fs (k * 3 + 1)) (nth fs (k * 3 + 2)) (nth gs (k * 3)) (nth gs (k * 3 + 1)) (nth gs (k * 3 + 2)) = true) :
    ∀ j, j < (k + 1) * 3 → nth fs j = nth gs j := by
  simp [e3] at hq
  obtain ⟨⟨q0, q1⟩, q2⟩ := hq
  intro j hj
  rcases (show j < k * 3 ∨ j = k * 3 ∨ j = k * 3 + 1 ∨ j = k * 3 + 2 by omega) with h' | h' | h' | h'
  · exact h j h'
  all_goals subst h'; assumption

set_option maxRecDepth 100000 in
set_option maxHeartbeats 4000000 in
theorem iEqC_any (v v' : Value) (n n' : Nat) (fs gs : List Int) (w : World) (h : SlC w w.heap.size v n fs) (h' : SlC w w.heap.size v' n' gs) (hl : n ≤ 1048576) :
    Calls Try.prog 14 #[v, v'] w (RetPd (fs = gs) w) := by
  obtain ⟨h6, A, c, rfl, hc, hcell⟩ := h
  obtain ⟨h6', A', c', rfl, hc', hcell'⟩ := h'
  by_cases hnn : n = n'
  · subst hnn
    have HC := Lib.hid hcell
    have HC' := Lib.hid hcell'
    have H6 := Lib.hid h6
    have H6' := Lib.hid h6'
    clear hcell hcell' h6 h6'
    go_enter Try.func14, Try.ntmps14
    go_wp2_with fail
    go_loopw [13] (fun i wr => ∃ k : Nat, k ≤ n ∧ i = .int .i64 k ∧ Hid (∀ j, j < k * 3 → nth fs j = nth gs j) ∧ Hid (∃ m, wr = w.drewN m)) (fun i _ => n - (intOf i).toNat)
    case atStart => exact ⟨0, Nat.zero_le _, rfl, Lib.hid (fun j hj => absurd hj (by omega)), Lib.hid ⟨0, rfl⟩⟩
    case round =>
      obtain ⟨k, hk, rfl, hall, hm⟩ := hrel
      by_cases hlt : k < n
      · obtain ⟨b, o, rfl, hb, hcs⟩ := HC.out (by omega)
        obtain ⟨b', o', rfl, hb', hcs'⟩ := HC'.out (by omega)
        have hcw : ∀ (b o : Nat) (xs : List Int), Cells w b o xs → Cells wr b o xs := fun b o xs h => by obtain ⟨m, e⟩ := hm.out; rw [e]; exact h
        obtain ⟨a0, a1, a2⟩ := three (hcw _ _ _ hcs) H6.out hlt
        obtain ⟨d0, d1, d2⟩ := three (hcw _ _ _ hcs') H6'.out hlt
        have HEQ := Lib.hid (eqc_run (nth fs (k * 3)) (nth fs (k * 3 + 1)) (nth fs (k * 3 + 2)) (nth gs (k * 3)) (nth gs (k * 3 + 1)) (nth gs (k * 3 + 2)))
        clear hcs hcs' hcw
        by_cases hq : e3 (nth fs (k * 3)) (nth fs (k * 3 + 1)) (nth fs (k * 3 + 2)) (nth gs (k * 3)) (nth gs (k * 3 + 1)) (nth gs (k * 3 + 2)) = true
        · have hn := Lib.hid (e3_all hall.out hq)
          rw [hq] at HEQ
          clear hq
          have heq := HEQ.out
          go_wp2_with fail
          go_quiet (fail)
          go_wp2_with fail
          go_roundw
          case rel => exact ⟨k + 1, by omega, by go_num, hn, Lib.hid (drew_more' hm.out _)⟩
          case measure => simp [intOf]; omega
        · have hno := Lib.hid (show ¬ fs = gs from fun e => by rw [e] at hq; exact hq (by simp [e3]))
          rw [Bool.eq_false_iff.2 hq] at HEQ
          clear hq
          have heq := HEQ.out
          go_wp2_with fail
          go_quiet (fail)
          go_wp2_with fail
          go_ret
          exact ⟨false, rfl, iff_of_false (by simp) hno.out, drew_more' hm.out _⟩
      · obtain rfl : k = n := by omega
        have hyes := Lib.hid (show fs = gs from nth_ext (H6.out.trans H6'.out.symm) fun j hj => hall.out j (by rw [← H6.out]; exact hj))
        clear hall
        go_wp2_with fail
        go_ret
        exact ⟨true, rfl, iff_of_true rfl hyes.out, hm.out⟩
  · have hne : ((n : Int) != (n' : Int)) = true := by simp; omega
    have HN := Lib.hid (show ¬ fs = gs from fun e => by rw [e] at h6; omega)
    clear hnn hcell hcell' h6 h6'
    go_enter Try.func14, Try.ntmps14
    go_wp2_with fail
    go_ret
    exact ⟨false, rfl, iff_of_false (by simp) HN.out, 0, rfl⟩

/-- A pattern's value. -/
abbrev patV (P C : Value) : Value := .agg #[P, C]
theorem SlF.grow {w w' : World} {v : Value} {n : Nat} {fs : List Int} (h : SlF w w.heap.size v n fs) (hb : Below w.heap.size w w') : SlF w' w'.heap.size v n fs := (h.below hb (Nat.le_refl _)).mono hb.size
theorem SlC.grow {w w' : World} {v : Value} {n : Nat} {fs : List Int} (h : SlC w w.heap.size v n fs) (hb : Below w.heap.size w w') : SlC w' w'.heap.size v n fs := (h.below hb (Nat.le_refl _)).mono hb.size
/-- A bool that says whether p holds; nothing old has turned. -/
def RetPb (p : Prop) (w : World) (e : Ending) (w' : World) : Prop := ∃ r : Bool, e = .returned (.bool r) ∧ (r = true ↔ p) ∧ Below w.heap.size w w'
set_option maxHeartbeats 2000000 in
theorem iSameP_any (P C P' C' : Value) (n n' m m' : Nat) (fs gs us vs : List Int) (w : World) (h : SlF w w.heap.size P n fs) (h' : SlF w w.heap.size P' n' gs) (k : SlC w w.heap.size C m us) (k' : SlC w w.heap.size C' m' vs) (hl : n ≤ 1048576) (hm : m ≤ 1048576) :
    Calls Try.prog 7 #[patV P C, patV P' C'] w (RetPb (fs = gs ∧ us = vs) w) := by
  have HP := Lib.hid fun w' (hb : Below w.heap.size w w') => iEqual_any P P' n n' fs gs w' (h.grow hb) (h'.grow hb) hl
  have HC := Lib.hid fun w' (hb : Below w.heap.size w w') => iEqC_any C C' m m' us vs w' (k.grow hb) (k'.grow hb) hm
  clear h h' k k'
  go_enter Try.func7, Try.ntmps7
  go_wp2_with fail
  refine (HP.out _ (by (repeat (first | with_reducible exact Below.refl _ _ | with_reducible assumption | with_reducible refine below_drewN ?_ _ | with_reducible refine Below.drew ?_ | with_reducible refine Below.alloc ?_ (by first | omega | (simp; done) | (simp; omega)) _ | with_reducible refine Below.setCell ?_ (by first | omega | (simp; done) | (simp; omega)) _ | with_reducible refine Below.trans ?_ (Below.mono (by assumption) (by first | omega | (simp; done) | (simp; omega))))))).mono ?_
  rintro e w1 ⟨r, rfl, hr, q, rfl⟩
  have HR := Lib.hid hr
  clear hr
  cases r
  · go_wp2_with fail
    go_ret
    exact ⟨false, rfl, iff_of_false (by simp) fun hh => by have := HR.out.2 hh.1; simp at this, by (repeat (first | with_reducible exact Below.refl _ _ | with_reducible assumption | with_reducible refine below_drewN ?_ _ | with_reducible refine Below.drew ?_ | with_reducible refine Below.alloc ?_ (by first | omega | (simp; done) | (simp; omega)) _ | with_reducible refine Below.setCell ?_ (by first | omega | (simp; done) | (simp; omega)) _ | with_reducible refine Below.trans ?_ (Below.mono (by assumption) (by first | omega | (simp; done) | (simp; omega)))))⟩
  · go_wp2_with fail
    refine (HC.out _ (by (repeat (first | with_reducible exact Below.refl _ _ | with_reducible assumption | with_reducible refine below_drewN ?_ _ | with_reducible refine Below.drew ?_ | with_reducible refine Below.alloc ?_ (by first | omega | (simp; done) | (simp; omega)) _ | with_reducible refine Below.setCell ?_ (by first | omega | (simp; done) | (simp; omega)) _ | with_reducible refine Below.trans ?_ (Below.mono (by assumption) (by first | omega | (simp; done) | (simp; omega))))))).mono ?_
    rintro e w2 ⟨r', rfl, hr', q', rfl⟩
    have HR' := Lib.hid hr'
    clear hr'
    go_wp2_with fail
    go_ret
    exact ⟨r', rfl, HR'.out.trans ⟨fun hh => ⟨HR.out.1 (by simp), hh⟩, fun hh => hh.2⟩, by (repeat (first | with_reducible exact Below.refl _ _ | with_reducible assumption | with_reducible refine below_drewN ?_ _ | with_reducible refine Below.drew ?_ | with_reducible refine Below.alloc ?_ (by first | omega | (simp; done) | (simp; omega)) _ | with_reducible refine Below.setCell ?_ (by first | omega | (simp; done) | (simp; omega)) _ | with_reducible refine Below.trans ?_ (Below.mono (by assumption) (by first | omega | (simp; done) | (simp; omega)))))⟩
end Go.Proofs.Ythhjkiiggokfkaa
