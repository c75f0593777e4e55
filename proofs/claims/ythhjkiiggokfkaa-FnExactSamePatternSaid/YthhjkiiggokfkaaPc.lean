/- Equal patterns: the model's. -/
import Derived.Test.YthhjkiiggokfkaaPb
namespace Go.Proofs.Ythhjkiiggokfkaa
open Go Go.RowKit

/-- The boxes of two patterns, as long as nothing turns. -/
def BoxP (w : World) (P C P' C' : Value) (wr : World) : Prop := Below w.heap.size w wr ∧ w.heap.size + 1 < wr.heap.size ∧ wr.cell? ⟨w.heap.size, 0, none⟩ = some P ∧ wr.cell? ⟨w.heap.size, 1, none⟩ = some C ∧ wr.cell? ⟨w.heap.size + 1, 0, none⟩ = some P' ∧ wr.cell? ⟨w.heap.size + 1, 1, none⟩ = some C'
theorem BoxP.drewN {w wr : World} {P C P' C' : Value} (h : BoxP w P C P' C' wr) (q : Nat) : BoxP w P C P' C' (wr.drewN q) := ⟨below_drewN h.1 q, h.2.1, h.2.2.1, h.2.2.2.1, h.2.2.2.2.1, h.2.2.2.2.2⟩

set_option maxRecDepth 100000 in
set_option maxHeartbeats 4000000 in
theorem sSameP_any (P C P' C' : Value) (n n' m m' : Nat) (fs gs us vs : List Int) (w : World) (h : SlF w w.heap.size P n fs) (h' : SlF w w.heap.size P' n' gs) (k : SlC w w.heap.size C m us) (k' : SlC w w.heap.size C' m' vs) (hl : n ≤ 1048576) (hm : m ≤ 1048576) :
    Calls Try.prog 5 #[patV P C, patV P' C'] w (RetPb (fs = gs ∧ us = vs) w) := by
  obtain ⟨h6, A, c, rfl, hc, hcell⟩ := h
  obtain ⟨h6', A', c', rfl, hc', hcell'⟩ := h'
  obtain ⟨h3, E, d, rfl, hd, hcl⟩ := k
  obtain ⟨h3', E', d', rfl, hd', hcl'⟩ := k'
  have HC := Lib.hid hcell
  have HC' := Lib.hid hcell'
  have H6 := Lib.hid h6
  have H6' := Lib.hid h6'
  have HE := Lib.hid hcl
  have HE' := Lib.hid hcl'
  have H3 := Lib.hid h3
  have H3' := Lib.hid h3'
  clear hcell hcell' hcl hcl'
  by_cases hnn : n = n'
  · subst hnn
    by_cases hmm : m = m'
    · subst hmm
      clear h6 h6' h3 h3'
      go_enter Try.func5, Try.ntmps5
      go_wp2_with fail
      go_loopw [5] (fun i wr => ∃ k : Nat, k ≤ n ∧ i = .int .i64 k ∧ Hid (∀ j, j < k * 6 → nth fs j = nth gs j) ∧ BoxP w (.slice A n c) (.slice E m d) (.slice A' n c') (.slice E' m d') wr) (fun i _ => n - (intOf i).toNat)
      case atStart => exact ⟨0, Nat.zero_le _, rfl, Lib.hid (fun j hj => absurd hj (by omega)), ⟨by (repeat (first | with_reducible exact Below.refl _ _ | with_reducible assumption | with_reducible refine below_drewN ?_ _ | with_reducible refine Below.drew ?_ | with_reducible refine Below.alloc ?_ (by first | omega | (simp; done) | (simp; omega)) _ | with_reducible refine Below.setCell ?_ (by first | omega | (simp; done) | (simp; omega)) _ | with_reducible refine Below.trans ?_ (Below.mono (by assumption) (by first | omega | (simp; done) | (simp; omega))))), by simp, by simp [go_sem], by simp [go_sem], by simp [go_sem], by simp [go_sem]⟩⟩
      case round =>
        obtain ⟨k, hk, rfl, hall, hbx⟩ := hrel
        have HBX := Lib.hid hbx
        obtain ⟨hbel, hsz, x0, x1, y0, y1⟩ := hbx
        have hsz0 : w.heap.size < wr.heap.size := by omega
        have hz0 := hbel.size
        by_cases hlt : k < n
        · obtain ⟨b, o, rfl, hb, hcs⟩ := HC.out (by omega)
          obtain ⟨b', o', rfl, hb', hcs'⟩ := HC'.out (by omega)
          obtain ⟨a0, a1, a2, a3, a4, a5⟩ := six (hcs.below hbel hb) H6.out hlt
          obtain ⟨d0, d1, d2, d3, d4, d5⟩ := six (hcs'.below hbel hb') H6'.out hlt
          have HEQ := Lib.hid (eq6_run (nth fs (k * 6)) (nth fs (k * 6 + 1)) (nth fs (k * 6 + 2)) (nth fs (k * 6 + 3)) (nth fs (k * 6 + 4)) (nth fs (k * 6 + 5)) (nth gs (k * 6)) (nth gs (k * 6 + 1)) (nth gs (k * 6 + 2)) (nth gs (k * 6 + 3)) (nth gs (k * 6 + 4)) (nth gs (k * 6 + 5)))
          clear hcs hcs'
          by_cases hq : e6 (nth fs (k * 6)) (nth fs (k * 6 + 1)) (nth fs (k * 6 + 2)) (nth fs (k * 6 + 3)) (nth fs (k * 6 + 4)) (nth fs (k * 6 + 5)) (nth gs (k * 6)) (nth gs (k * 6 + 1)) (nth gs (k * 6 + 2)) (nth gs (k * 6 + 3)) (nth gs (k * 6 + 4)) (nth gs (k * 6 + 5)) = true
          · have hn := Lib.hid (e6_all hall.out hq)
            rw [hq] at HEQ
            clear hq
            have heq := HEQ.out
            go_wp2_with fail
            go_quiet (fail)
            go_wp2_with fail
            go_roundw
            case rel => exact ⟨k + 1, by omega, by go_num, hn, HBX.out.drewN _⟩
            case measure => simp [intOf]; omega
          · have hno := Lib.hid (show ¬ fs = gs from fun e => by rw [e] at hq; exact hq (by simp [e6, e3]))
            rw [Bool.eq_false_iff.2 hq] at HEQ
            clear hq
            have heq := HEQ.out
            go_wp2_with fail
            go_quiet (fail)
            go_wp2_with fail
            go_ret
            exact ⟨false, rfl, iff_of_false (by simp) (fun hh => hno.out hh.1), (HBX.out.drewN _).1⟩
        · have hkn : n = k := by omega
          subst hkn
          have hyes := Lib.hid (show fs = gs from nth_ext (H6.out.trans H6'.out.symm) fun j hj => hall.out j (by rw [← H6.out]; exact hj))
          clear hall
          go_wp2_with fail
          go_loopw [6] (fun i wr => ∃ k : Nat, k ≤ m ∧ i = .int .i64 k ∧ Hid (∀ j, j < k * 3 → nth us j = nth vs j) ∧ BoxP w (.slice A n c) (.slice E m d) (.slice A' n c') (.slice E' m d') wr) (fun i _ => m - (intOf i).toNat)
          case atStart => exact ⟨0, Nat.zero_le _, rfl, Lib.hid (fun j hj => absurd hj (by omega)), HBX.out⟩
          case round =>
            obtain ⟨k, hk, rfl, hall, hbx⟩ := hrel
            have HBX2 := Lib.hid hbx
            obtain ⟨hbel, hsz, x0, x1, y0, y1⟩ := hbx
            have hsz0 : w.heap.size < wr.heap.size := by omega
            have hz0 := hbel.size
            by_cases hlt : k < m
            · obtain ⟨b, o, rfl, hb, hcs⟩ := HE.out (by omega)
              obtain ⟨b', o', rfl, hb', hcs'⟩ := HE'.out (by omega)
              obtain ⟨a0, a1, a2⟩ := three (hcs.below hbel hb) H3.out hlt
              obtain ⟨d0, d1, d2⟩ := three (hcs'.below hbel hb') H3'.out hlt
              have HEQ := Lib.hid (eqc_run (nth us (k * 3)) (nth us (k * 3 + 1)) (nth us (k * 3 + 2)) (nth vs (k * 3)) (nth vs (k * 3 + 1)) (nth vs (k * 3 + 2)))
              clear hcs hcs'
              by_cases hq : e3 (nth us (k * 3)) (nth us (k * 3 + 1)) (nth us (k * 3 + 2)) (nth vs (k * 3)) (nth vs (k * 3 + 1)) (nth vs (k * 3 + 2)) = true
              · have hn := Lib.hid (e3_all hall.out hq)
                rw [hq] at HEQ
                clear hq
                have heq := HEQ.out
                go_wp2_with fail
                go_quiet (fail)
                go_wp2_with fail
                go_roundw
                case rel => exact ⟨k + 1, by omega, by go_num, hn, HBX2.out.drewN _⟩
                case measure => simp [intOf]; omega
              · have hno := Lib.hid (show ¬ us = vs from fun e => by rw [e] at hq; exact hq (by simp [e3]))
                rw [Bool.eq_false_iff.2 hq] at HEQ
                clear hq
                have heq := HEQ.out
                go_wp2_with fail
                go_quiet (fail)
                go_wp2_with fail
                go_ret
                exact ⟨false, rfl, iff_of_false (by simp) (fun hh => hno.out hh.2), (HBX2.out.drewN _).1⟩
            · have hkn : m = k := by omega
              subst hkn
              have hyes2 := Lib.hid (show us = vs from nth_ext (H3.out.trans H3'.out.symm) fun j hj => hall.out j (by rw [← H3.out]; exact hj))
              clear hall
              go_wp2_with fail
              go_ret
              exact ⟨true, rfl, iff_of_true rfl ⟨hyes.out, hyes2.out⟩, HBX2.out.1⟩
    · have hne : ((m : Int) != (m' : Int)) = true := by simp; omega
      have HN := Lib.hid (show ¬ us = vs from fun e => by rw [e] at h3; omega)
      clear h6 h6' h3 h3'
      go_enter Try.func5, Try.ntmps5
      go_wp2_with fail
      go_ret
      exact ⟨false, rfl, iff_of_false (by simp) (fun hh => HN.out hh.2), by (repeat (first | with_reducible exact Below.refl _ _ | with_reducible assumption | with_reducible refine below_drewN ?_ _ | with_reducible refine Below.drew ?_ | with_reducible refine Below.alloc ?_ (by first | omega | (simp; done) | (simp; omega)) _ | with_reducible refine Below.setCell ?_ (by first | omega | (simp; done) | (simp; omega)) _ | with_reducible refine Below.trans ?_ (Below.mono (by assumption) (by first | omega | (simp; done) | (simp; omega)))))⟩
  · have hne : ((n : Int) != (n' : Int)) = true := by simp; omega
    have HN := Lib.hid (show ¬ fs = gs from fun e => by rw [e] at h6; omega)
    clear h6 h6' h3 h3'
    go_enter Try.func5, Try.ntmps5
    go_wp2_with fail
    go_ret
    exact ⟨false, rfl, iff_of_false (by simp) (fun hh => HN.out hh.1), by (repeat (first | with_reducible exact Below.refl _ _ | with_reducible assumption | with_reducible refine below_drewN ?_ _ | with_reducible refine Below.drew ?_ | with_reducible refine Below.alloc ?_ (by first | omega | (simp; done) | (simp; omega)) _ | with_reducible refine Below.setCell ?_ (by first | omega | (simp; done) | (simp; omega)) _ | with_reducible refine Below.trans ?_ (Below.mono (by assumption) (by first | omega | (simp; done) | (simp; omega)))))⟩
end Go.Proofs.Ythhjkiiggokfkaa
