/- Contracts of the model: lowest terms by a loop, numbers with limits, sums and products. -/
import Derived.Test.YtafbdnjabgfjeaaDoorWb
import Derived.Deep.LoopGhost
namespace Go.Proofs.YtafbdnjabgfjeaaDoor
open Go Go.RowKit OriM

/-- A wide number of the model, as a value (the same fields). -/
def LowEq (a' b' : Int) (k' : Nat) (a b : Int) (k : Nat) : Prop := lowA a' b' k' = lowA a b k ∧ lowB a' b' k' = lowB a b k ∧ lowK a' b' k' = lowK a b k
theorem LowEq.refl (a b : Int) (k : Nat) : LowEq a b k a b k := ⟨rfl, rfl, rfl⟩
theorem LowEq.half {c d : Int} {k : Nat} {a b : Int} {K : Nat} (h : LowEq (2 * c) (2 * d) (k + 1) a b K) : LowEq c d k a b K := by
  have e : Eqv c d k (2 * c) (2 * d) (k + 1) := by
    unfold Eqv; rw [Int.pow_succ]; constructor
    · rw [Int.mul_comm 2 c, Int.mul_assoc, Int.mul_comm 2]
    · rw [Int.mul_comm 2 d, Int.mul_assoc, Int.mul_comm 2]
  obtain ⟨e1, e2, e3⟩ := low_of_eqv e
  exact ⟨e1.trans h.1, e2.trans h.2.1, e3.trans h.2.2⟩
theorem LowEq.done {a' b' : Int} {k' : Nat} {a b : Int} {k : Nat} (h : LowEq a' b' k' a b k) (c : Canon a' b' k') : num a' b' k' = num (lowA a b k) (lowB a b k) (lowK a b k) := by
  obtain ⟨e1, e2, e3⟩ := low_of_canon c
  obtain ⟨h1, h2, h3⟩ := h
  rw [← h1, ← h2, ← h3, e1, e2, e3]
theorem twos_zero : ∀ k, twos k 0 0 = k
  | 0 => rfl
  | k + 1 => by unfold twos; simp [twos_zero k]
theorem low_zero (k : Nat) : num 0 0 0 = num (lowA 0 0 k) (lowB 0 0 k) (lowK 0 0 k) := by
  simp [lowA, lowB, lowK, twos_zero]

theorem tdiv_two (c : Int) : (2 * c).tdiv 2 = c := Int.mul_tdiv_cancel_left c (by decide)
theorem tmod_two (c : Int) : ((2 * c).tmod 2 == 0) = true := by
  have : (2 * c).tmod 2 = 0 := Int.mul_tmod_right 2 c
  rw [this]; rfl
theorem tmod_odd {a : Int} (h : a % 2 ≠ 0) : (a.tmod 2 == 0) = false := by
  have h1 := Int.dvd_iff_emod_eq_zero (a := 2) (b := a)
  have h2 := Int.dvd_iff_tmod_eq_zero (a := 2) (b := a)
  simp only [beq_eq_false_iff_ne]
  intro e; exact h (h1.1 (h2.2 e))

/-- What holds at each round's head: k' halvings at most are to come. -/
def LowRel (w : World) (a b : Int) (k k' : Nat) (wr : World) : Prop := ∃ a' b' : Int, wr.cell? ⟨w.heap.size, 0, none⟩ = some (.int .i64 a') ∧ wr.cell? ⟨w.heap.size, 1, none⟩ = some (.int .i64 b') ∧ wr.cell? ⟨w.heap.size, 2, none⟩ = some (.int .i64 (k' : Int)) ∧
  wr.frozen? ⟨w.heap.size, 0, none⟩ = false ∧ wr.frozen? ⟨w.heap.size, 1, none⟩ = false ∧ wr.frozen? ⟨w.heap.size, 2, none⟩ = false ∧
  wr.cell? ⟨w.heap.size + 1, 0, none⟩ = some (.int .i64 0) ∧ wr.cell? ⟨w.heap.size + 1, 1, none⟩ = some (.int .i64 0) ∧ wr.cell? ⟨w.heap.size + 1, 2, none⟩ = some (.int .i64 0) ∧
  wr.frozen? ⟨w.heap.size + 1, 0, none⟩ = false ∧ wr.frozen? ⟨w.heap.size + 1, 1, none⟩ = false ∧ wr.frozen? ⟨w.heap.size + 1, 2, none⟩ = false ∧
  w.heap.size + 1 < wr.heap.size ∧ Below w.heap.size w wr ∧ LowEq a' b' k' a b k ∧ k' ≤ 64 ∧ -9223372036854775808 ≤ a' ∧ a' ≤ 9223372036854775807 ∧ -9223372036854775808 ≤ b' ∧ b' ≤ 9223372036854775807

set_option maxHeartbeats 1000000 in
theorem low_any (a b : Int) (k : Nat) (w : World) (a1 : -9223372036854775808 ≤ a) (a2 : a ≤ 9223372036854775807) (b1 : -9223372036854775808 ≤ b) (b2 : b ≤ 9223372036854775807) (k1 : k ≤ 64) :
    Calls Tryd.prog 124 #[num a b k] w (RetB (num (lowA a b k) (lowB a b k) (lowK a b k)) w) := by
  by_cases h0 : a = 0 ∧ b = 0
  · obtain ⟨rfl, rfl⟩ := h0
    have E := Lib.hid (low_zero k)
    go_enter Tryd.func124, Tryd.ntmps124
    go_wp2
    exact bodyPost_ret (v := num 0 0 0) (by simp [results, Tryd.results124, go_sem, *]) rfl ⟨congrArg _ E.out, by (repeat (first | with_reducible exact Below.refl _ _ | with_reducible refine Below.drew ?_ | with_reducible refine Below.alloc ?_ (by first | omega | (simp; done) | (simp; omega)) _ | with_reducible refine Below.setCell ?_ (by first | omega | (simp; done) | (simp; omega)) _ | with_reducible refine Below.trans ?_ (Below.mono (by assumption) (by first | omega | (simp; done) | (simp; omega)))))⟩
  · by_cases ha : a = 0
    · have hb0 : (b == 0) = false := by rw [beq_eq_false_iff_ne]; exact fun e => h0 ⟨ha, e⟩
      subst ha
      clear h0
      go_enter Tryd.func124, Tryd.ntmps124
      go_wp2
      go_loopg [] k (LowRel w 0 b k)
      case atStart => exact ⟨0, b, by simp, by simp, by simp, by simp, by simp, by simp, by simp, by simp, by simp, by simp, by simp, by simp, by simp, by (repeat (first | with_reducible exact Below.refl _ _ | with_reducible refine Below.drew ?_ | with_reducible refine Below.alloc ?_ (by first | omega | (simp; done) | (simp; omega)) _ | with_reducible refine Below.setCell ?_ (by first | omega | (simp; done) | (simp; omega)) _ | with_reducible refine Below.trans ?_ (Below.mono (by assumption) (by first | omega | (simp; done) | (simp; omega))))), LowEq.refl _ _ _, k1, a1, a2, b1, b2⟩
      case round =>
        obtain ⟨a', b', c0, c1, c2, f0, f1, f2, r0, r1, r2, s0, s1, s2, hz, hB, hE, hk, x1, x2, y1, y2⟩ := hrel
        have HE := Lib.hid hE
        have HB := Lib.hid hB
        clear hE hB a1 a2 b1 b2 k1
        by_cases hc : gk = 0
        · subst hc
          have E := Lib.hid (HE.out.done (.inl rfl))
          clear x1 x2 y1 y2
          go_wp2
          exact bodyPost_ret (v := num a' b' 0) (by simp [results, Tryd.results124, go_sem, *]) rfl ⟨congrArg _ E.out, by have hB := HB.out; (repeat (first | with_reducible assumption | with_reducible refine Below.drew ?_ | with_reducible refine Below.alloc ?_ (by first | omega | (simp; done) | (simp; omega)) _ | with_reducible refine Below.setCell ?_ (by first | omega | (simp; done) | (simp; omega)) _ | with_reducible refine Below.trans ?_ (Below.mono (by assumption) (by first | omega | (simp; done) | (simp; omega)))))⟩
        · by_cases hea : a' % 2 = 0
          · by_cases heb : b' % 2 = 0
            · obtain ⟨c, rfl⟩ : ∃ c, a' = 2 * c := ⟨a' / 2, by omega⟩
              obtain ⟨d, rfl⟩ : ∃ d, b' = 2 * d := ⟨b' / 2, by omega⟩
              obtain ⟨m, rfl⟩ : ∃ m, gk = m + 1 := ⟨gk - 1, by omega⟩
              have c2' : wr.cell? ⟨w.heap.size, 2, none⟩ = some (.int .i64 ((m : Int) + 1)) := by simpa using c2
              clear c2 hc hea heb
              have n1 : -4611686018427387904 ≤ c := by omega
              have n2 : c ≤ 4611686018427387903 := by omega
              have n3 : -4611686018427387904 ≤ d := by omega
              have n4 : d ≤ 4611686018427387903 := by omega
              clear x1 x2 y1 y2
              have t1 := tdiv_two c
              have t2 := tdiv_two d
              have u1 := tmod_two c
              have u2 := tmod_two d
              go_wp2
              go_roundg m
              case measure => omega
              case rel =>
                have hE := HE.out.half
                have hB := HB.out
                exact ⟨c, d, by simp [go_sem, *], by simp [go_sem, *], by simp [go_sem, *], by simp [go_sem, *], by simp [go_sem, *], by simp [go_sem, *], by simp [go_sem, *], by simp [go_sem, *], by simp [go_sem, *], by simp [go_sem, *], by simp [go_sem, *], by simp [go_sem, *], by simp [go_sem, *], by (repeat (first | with_reducible assumption | with_reducible refine Below.drew ?_ | with_reducible refine Below.alloc ?_ (by first | omega | (simp; done) | (simp; omega)) _ | with_reducible refine Below.setCell ?_ (by first | omega | (simp; done) | (simp; omega)) _ | with_reducible refine Below.trans ?_ (Below.mono (by assumption) (by first | omega | (simp; done) | (simp; omega))))), hE, by omega, by omega, by omega, by omega, by omega⟩
            · have mo := tmod_odd heb
              have E := Lib.hid (HE.out.done (.inr (.inr heb)))
              have me : (a'.tmod 2 == 0) = true := by
                obtain ⟨c, rfl⟩ : ∃ c, a' = 2 * c := ⟨a' / 2, by omega⟩
                exact tmod_two c
              clear hea
              clear x1 x2 y1 y2
              have g0 : (0 : Int) < (gk : Int) := by omega
              clear hc heb
              go_wp2
              exact bodyPost_ret (v := num a' b' gk) (by simp [results, Tryd.results124, go_sem, *]) rfl ⟨congrArg _ E.out, by have hB := HB.out; (repeat (first | with_reducible assumption | with_reducible refine Below.drew ?_ | with_reducible refine Below.alloc ?_ (by first | omega | (simp; done) | (simp; omega)) _ | with_reducible refine Below.setCell ?_ (by first | omega | (simp; done) | (simp; omega)) _ | with_reducible refine Below.trans ?_ (Below.mono (by assumption) (by first | omega | (simp; done) | (simp; omega)))))⟩
          · have mo := tmod_odd hea
            have E := Lib.hid (HE.out.done (.inr (.inl hea)))
            clear x1 x2 y1 y2
            have g0 : (0 : Int) < (gk : Int) := by omega
            clear hc hea
            go_wp2
            exact bodyPost_ret (v := num a' b' gk) (by simp [results, Tryd.results124, go_sem, *]) rfl ⟨congrArg _ E.out, by have hB := HB.out; (repeat (first | with_reducible assumption | with_reducible refine Below.drew ?_ | with_reducible refine Below.alloc ?_ (by first | omega | (simp; done) | (simp; omega)) _ | with_reducible refine Below.setCell ?_ (by first | omega | (simp; done) | (simp; omega)) _ | with_reducible refine Below.trans ?_ (Below.mono (by assumption) (by first | omega | (simp; done) | (simp; omega)))))⟩
    · have ha0 : (a == 0) = false := by simpa using ha
      clear h0
      go_enter Tryd.func124, Tryd.ntmps124
      go_wp2
      go_loopg [] k (LowRel w a b k)
      case atStart => exact ⟨a, b, by simp, by simp, by simp, by simp, by simp, by simp, by simp, by simp, by simp, by simp, by simp, by simp, by simp, by (repeat (first | with_reducible exact Below.refl _ _ | with_reducible refine Below.drew ?_ | with_reducible refine Below.alloc ?_ (by first | omega | (simp; done) | (simp; omega)) _ | with_reducible refine Below.setCell ?_ (by first | omega | (simp; done) | (simp; omega)) _ | with_reducible refine Below.trans ?_ (Below.mono (by assumption) (by first | omega | (simp; done) | (simp; omega))))), LowEq.refl _ _ _, k1, a1, a2, b1, b2⟩
      case round =>
        obtain ⟨a', b', c0, c1, c2, f0, f1, f2, r0, r1, r2, s0, s1, s2, hz, hB, hE, hk, x1, x2, y1, y2⟩ := hrel
        have HE := Lib.hid hE
        have HB := Lib.hid hB
        clear hE hB a1 a2 b1 b2 k1
        by_cases hc : gk = 0
        · subst hc
          have E := Lib.hid (HE.out.done (.inl rfl))
          clear x1 x2 y1 y2
          go_wp2
          exact bodyPost_ret (v := num a' b' 0) (by simp [results, Tryd.results124, go_sem, *]) rfl ⟨congrArg _ E.out, by have hB := HB.out; (repeat (first | with_reducible assumption | with_reducible refine Below.drew ?_ | with_reducible refine Below.alloc ?_ (by first | omega | (simp; done) | (simp; omega)) _ | with_reducible refine Below.setCell ?_ (by first | omega | (simp; done) | (simp; omega)) _ | with_reducible refine Below.trans ?_ (Below.mono (by assumption) (by first | omega | (simp; done) | (simp; omega)))))⟩
        · by_cases hea : a' % 2 = 0
          · by_cases heb : b' % 2 = 0
            · obtain ⟨c, rfl⟩ : ∃ c, a' = 2 * c := ⟨a' / 2, by omega⟩
              obtain ⟨d, rfl⟩ : ∃ d, b' = 2 * d := ⟨b' / 2, by omega⟩
              obtain ⟨m, rfl⟩ : ∃ m, gk = m + 1 := ⟨gk - 1, by omega⟩
              have c2' : wr.cell? ⟨w.heap.size, 2, none⟩ = some (.int .i64 ((m : Int) + 1)) := by simpa using c2
              clear c2 hc hea heb
              have n1 : -4611686018427387904 ≤ c := by omega
              have n2 : c ≤ 4611686018427387903 := by omega
              have n3 : -4611686018427387904 ≤ d := by omega
              have n4 : d ≤ 4611686018427387903 := by omega
              clear x1 x2 y1 y2
              have t1 := tdiv_two c
              have t2 := tdiv_two d
              have u1 := tmod_two c
              have u2 := tmod_two d
              go_wp2
              go_roundg m
              case measure => omega
              case rel =>
                have hE := HE.out.half
                have hB := HB.out
                exact ⟨c, d, by simp [go_sem, *], by simp [go_sem, *], by simp [go_sem, *], by simp [go_sem, *], by simp [go_sem, *], by simp [go_sem, *], by simp [go_sem, *], by simp [go_sem, *], by simp [go_sem, *], by simp [go_sem, *], by simp [go_sem, *], by simp [go_sem, *], by simp [go_sem, *], by (repeat (first | with_reducible assumption | with_reducible refine Below.drew ?_ | with_reducible refine Below.alloc ?_ (by first | omega | (simp; done) | (simp; omega)) _ | with_reducible refine Below.setCell ?_ (by first | omega | (simp; done) | (simp; omega)) _ | with_reducible refine Below.trans ?_ (Below.mono (by assumption) (by first | omega | (simp; done) | (simp; omega))))), hE, by omega, by omega, by omega, by omega, by omega⟩
            · have mo := tmod_odd heb
              have E := Lib.hid (HE.out.done (.inr (.inr heb)))
              have me : (a'.tmod 2 == 0) = true := by
                obtain ⟨c, rfl⟩ : ∃ c, a' = 2 * c := ⟨a' / 2, by omega⟩
                exact tmod_two c
              clear hea
              clear x1 x2 y1 y2
              have g0 : (0 : Int) < (gk : Int) := by omega
              clear hc heb
              go_wp2
              exact bodyPost_ret (v := num a' b' gk) (by simp [results, Tryd.results124, go_sem, *]) rfl ⟨congrArg _ E.out, by have hB := HB.out; (repeat (first | with_reducible assumption | with_reducible refine Below.drew ?_ | with_reducible refine Below.alloc ?_ (by first | omega | (simp; done) | (simp; omega)) _ | with_reducible refine Below.setCell ?_ (by first | omega | (simp; done) | (simp; omega)) _ | with_reducible refine Below.trans ?_ (Below.mono (by assumption) (by first | omega | (simp; done) | (simp; omega)))))⟩
          · have mo := tmod_odd hea
            have E := Lib.hid (HE.out.done (.inr (.inl hea)))
            clear x1 x2 y1 y2
            have g0 : (0 : Int) < (gk : Int) := by omega
            clear hc hea
            go_wp2
            exact bodyPost_ret (v := num a' b' gk) (by simp [results, Tryd.results124, go_sem, *]) rfl ⟨congrArg _ E.out, by have hB := HB.out; (repeat (first | with_reducible assumption | with_reducible refine Below.drew ?_ | with_reducible refine Below.alloc ?_ (by first | omega | (simp; done) | (simp; omega)) _ | with_reducible refine Below.setCell ?_ (by first | omega | (simp; done) | (simp; omega)) _ | with_reducible refine Below.trans ?_ (Below.mono (by assumption) (by first | omega | (simp; done) | (simp; omega)))))⟩
end Go.Proofs.YtafbdnjabgfjeaaDoor
