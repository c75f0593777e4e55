/- Equal slices of points: the model's and the library's. -/
import Derived.Test.YthhjkiiggokfkaaQpd
namespace Go.Proofs.Ythhjkiiggokfkaa
open Go Go.RowKit

def e3 (a b k a' b' k' : Int) : Bool := a == a' && b == b' && k == k'
def e6 (a b k c d l a' b' k' c' d' l' : Int) : Bool := e3 a b k a' b' k' && e3 c d l c' d' l'
theorem eq3_run (a b k a' b' k' : Int) (w : World) : (Op.equalIn 9999 37 (.agg #[.int .i64 a, .int .i64 b, .int .i64 k]) (.agg #[.int .i64 a', .int .i64 b', .int .i64 k'])).run Try.prog w = .ok (e3 a b k a' b' k') w := by
  have u2 := Try.underlying2
  have a2 := Try.isAgg2
  have z2 := Try.sizeOf2
  have hS : Try.prog.underlying 37 = some (.struct (Try.prog.fieldsOf 37)) := by kernel_rfl
  have hp : Try.prog.stoodInHeld 37 = false := by kernel_rfl
  rw [show (9999 : Nat) = 9998 + 1 from rfl, run_equalIn_agg w 9998 37 _ _ hS hp]
  simp only [Program.fieldsOf, Try.underlying37]
  go_simp
  by_cases h1 : a = a' <;> by_cases h2 : b = b' <;> by_cases h3 : k = k' <;> simp [h1, h2, h3, e3]
theorem eq6_run (a b k c d l a' b' k' c' d' l' : Int) (w : World) : (Op.equalIn 10000 39 (p6v a b k c d l) (p6v a' b' k' c' d' l')).run Try.prog w = .ok (e6 a b k c d l a' b' k' c' d' l') w := by
  have a2 := Try.isAgg37
  have z2 := Try.sizeOf37
  have hS : Try.prog.underlying 39 = some (.struct (Try.prog.fieldsOf 39)) := by kernel_rfl
  have hp : Try.prog.stoodInHeld 39 = false := by kernel_rfl
  rw [show (10000 : Nat) = 9999 + 1 from rfl, run_equalIn_agg w 9999 39 _ _ hS hp]
  simp only [Program.fieldsOf, Try.underlying39]
  have q := eq3_run
  go_simp
  cases h1 : e3 a b k a' b' k' <;> cases h2 : e3 c d l c' d' l' <;> simp [h1, h2, e6]
-- LOOPS
theorem drew_more' {w wr : World} (h : ∃ m, wr = w.drewN m) (n : Nat) : ∃ m, wr.drewN n = w.drewN m := by
  obtain ⟨m, rfl⟩ := h
  exact ⟨m + n, by rw [World.drewN_drewN]⟩
/-- A bool that says whether p holds; the world has drawn, no more. -/
def RetPd (p : Prop) (w : World) (e : Ending) (w' : World) : Prop := ∃ r : Bool, e = .returned (.bool r) ∧ (r = true ↔ p) ∧ ∃ n, w' = w.drewN n
theorem e6_all {fs gs : List Int} {k : Nat} (h : ∀ j, j < k * 6 → nth fs j = nth gs j) (hq : e6 (nth fs (k * 6)) (nth fs (k * 6 + 1)) (nth fs (k * 6 + 2)) (nth fs (k * 6 + 3)) (nth fs (k * 6 + 4)) (nth fs (k * 6 + 5)) (nth gs (k * 6)) (nth gs (k * 6 + 1)) (nth gs (k * 6 + 2)) (nth gs (k * 6 + 3)) (nth gs (k * 6 + 4)) (nth gs (k * 6 + 5)) = true) :
    ∀ j, j < (k + 1) * 6 → nth fs j = nth gs j := by
  simp [e6, e3] at hq
  obtain ⟨⟨⟨q0, q1⟩, q2⟩, ⟨q3, q4⟩, q5⟩ := hq
  intro j hj
  rcases (show j < k * 6 ∨ j = k * 6 ∨ j = k * 6 + 1 ∨ j = k * 6 + 2 ∨ j = k * 6 + 3 ∨ j = k * 6 + 4 ∨ j = k * 6 + 5 by omega) with h' | h' | h' | h' | h' | h' | h'
  · exact h j h'
  all_goals subst h'; assumption

set_option maxRecDepth 100000 in
set_option maxHeartbeats 4000000 in
theorem iEqual_any (v v' : Value) (n n' : Nat) (fs gs : List Int) (w : World) (h : SlF w w.heap.size v n fs) (h' : SlF w w.heap.size v' n' gs) (hl : n ≤ 1048576) :
    Calls Try.prog 13 #[v, v'] w (RetPd (fs = gs) w) := by
  obtain ⟨h6, A, c, rfl, hc, hcell⟩ := h
  obtain ⟨h6', A', c', rfl, hc', hcell'⟩ := h'
  by_cases hnn : n = n'
  · subst hnn
    have HC := Lib.hid hcell
    have HC' := Lib.hid hcell'
    have H6 := Lib.hid h6
    have H6' := Lib.hid h6'
    clear hcell hcell' h6 h6'
    go_enter Try.func13, Try.ntmps13
    go_wp2_with fail
    go_loopw [13] (fun i wr => ∃ k : Nat, k ≤ n ∧ i = .int .i64 k ∧ Hid (∀ j, j < k * 6 → nth fs j = nth gs j) ∧ Hid (∃ m, wr = w.drewN m)) (fun i _ => n - (intOf i).toNat)
    case atStart => exact ⟨0, Nat.zero_le _, rfl, Lib.hid (fun j hj => absurd hj (by omega)), Lib.hid ⟨0, rfl⟩⟩
    case round =>
      obtain ⟨k, hk, rfl, hall, hm⟩ := hrel
      by_cases hlt : k < n
      · obtain ⟨b, o, rfl, hb, hcs⟩ := HC.out (by omega)
        obtain ⟨b', o', rfl, hb', hcs'⟩ := HC'.out (by omega)
        have hcw : ∀ (b o : Nat) (xs : List Int), Cells w b o xs → Cells wr b o xs := fun b o xs h => by obtain ⟨m, e⟩ := hm.out; rw [e]; exact h
        obtain ⟨a0, a1, a2, a3, a4, a5⟩ := six (hcw _ _ _ hcs) H6.out hlt
        obtain ⟨d0, d1, d2, d3, d4, d5⟩ := six (hcw _ _ _ hcs') H6'.out hlt
        have HEQ := Lib.hid (eq6_run (nth fs (k * 6)) (nth fs (k * 6 + 1)) (nth fs (k * 6 + 2)) (nth fs (k * 6 + 3)) (nth fs (k * 6 + 4)) (nth fs (k * 6 + 5)) (nth gs (k * 6)) (nth gs (k * 6 + 1)) (nth gs (k * 6 + 2)) (nth gs (k * 6 + 3)) (nth gs (k * 6 + 4)) (nth gs (k * 6 + 5)))
        clear hcs hcs' hcw
        by_cases hq : e6 (nth fs (k * 6)) (nth fs (k * 6 + 1)) (nth fs (k * 6 + 2)) (nth fs (k * 6 + 3)) (nth fs (k * 6 + 4)) (nth fs (k * 6 + 5)) (nth gs (k * 6)) (nth gs (k * 6 + 1)) (nth gs (k * 6 + 2)) (nth gs (k * 6 + 3)) (nth gs (k * 6 + 4)) (nth gs (k * 6 + 5)) = true
        · have hn := Lib.hid (e6_all hall.out hq)
          rw [hq] at HEQ
          clear hq
          have heq := HEQ.out
          go_wp2_with fail
          go_quiet (fail)
          go_wp2_with fail
          go_roundw
          case rel => exact ⟨k + 1, by omega, by go_num, hn, Lib.hid (drew_more' hm.out _)⟩
          case measure => simp [intOf]; omega
        · have hno := Lib.hid (show ¬ fs = gs from fun e => by rw [e] at hq; exact hq (by simp [e6, e3]))
          rw [Bool.eq_false_iff.2 hq] at HEQ
          clear hq
          have heq := HEQ.out
          go_wp2_with fail
          go_quiet (fail)
          go_wp2_with fail
          go_ret
          exact ⟨false, rfl, iff_of_false (by simp) hno.out, drew_more' hm.out _⟩
      · obtain rfl : k = n := by omega
        have hyes := Lib.hid (show fs = gs from nth_ext (H6.out.trans H6'.out.symm) fun j hj => hall.out j (by rw [← H6.out]; exact hj))
        clear hall
        go_wp2_with fail
        go_ret
        exact ⟨true, rfl, iff_of_true rfl hyes.out, hm.out⟩
  · have hne : ((n : Int) != (n' : Int)) = true := by simp; omega
    have HN := Lib.hid (show ¬ fs = gs from fun e => by rw [e] at h6; omega)
    clear hnn hcell hcell' h6 h6'
    go_enter Try.func13, Try.ntmps13
    go_wp2_with fail
    go_ret
    exact ⟨false, rfl, iff_of_false (by simp) HN.out, 0, rfl⟩
end Go.Proofs.Ythhjkiiggokfkaa
