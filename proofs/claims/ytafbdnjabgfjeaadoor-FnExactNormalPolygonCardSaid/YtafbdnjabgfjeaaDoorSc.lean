/- Contracts of the model: sums (two loops that bring both to one power), differences, products. -/
import Derived.Test.YtafbdnjabgfjeaaDoorSb
import Derived.Test.YtafbdnjabgfjeaaDoorWe
namespace Go.Proofs.YtafbdnjabgfjeaaDoor
open Go Go.RowKit OriM

/-- p halved n times more is s. -/
def Up (p : Int) (n : Nat) (s : Int) : Prop := p * 2 ^ n = s ∧ -134217728 ≤ s ∧ s ≤ 134217728
theorem Up.bound {p s : Int} {n : Nat} (h : Up p n s) : -134217728 ≤ p ∧ p ≤ 134217728 := by
  obtain ⟨h1, h2, h3⟩ := h
  have p1 := two_pow_pos n
  constructor
  · apply Int.le_of_not_gt; intro hc
    have : p * 2 ^ n ≤ p * 1 := Int.mul_le_mul_of_nonpos_left (by omega) (by omega)
    omega
  · apply Int.le_of_not_gt; intro hc
    have : p * 1 ≤ p * 2 ^ n := Int.mul_le_mul_of_nonneg_left (by omega) (by omega)
    omega
theorem Up.step {p s : Int} {m : Nat} (h : Up p (m + 1) s) : Up (p * 2) m s := by
  obtain ⟨h1, h2, h3⟩ := h
  refine ⟨?_, h2, h3⟩
  rw [← h1, Int.pow_succ]; ac_rfl
theorem Up.zero {p s : Int} (h : Up p 0 s) : p = s := by have := h.1; simpa using this

/-- The first loop: the first number is brought up. -/
def AddRel1 (w : World) (a' b' k' SA SB M : Int) (n : Nat) (wr : World) : Prop := ∃ p q x : Int, wr.cell? ⟨w.heap.size, 0, none⟩ = some (.int .i64 p) ∧ wr.cell? ⟨w.heap.size, 1, none⟩ = some (.int .i64 q) ∧ wr.cell? ⟨w.heap.size, 2, none⟩ = some (.int .i64 x) ∧ wr.frozen? ⟨w.heap.size, 0, none⟩ = false ∧ wr.frozen? ⟨w.heap.size, 1, none⟩ = false ∧ wr.frozen? ⟨w.heap.size, 2, none⟩ = false ∧
  wr.cell? ⟨w.heap.size + 1, 0, none⟩ = some (.int .i64 a') ∧ wr.cell? ⟨w.heap.size + 1, 1, none⟩ = some (.int .i64 b') ∧ wr.cell? ⟨w.heap.size + 1, 2, none⟩ = some (.int .i64 k') ∧ wr.frozen? ⟨w.heap.size + 1, 0, none⟩ = false ∧ wr.frozen? ⟨w.heap.size + 1, 1, none⟩ = false ∧ wr.frozen? ⟨w.heap.size + 1, 2, none⟩ = false ∧ wr.cell? ⟨w.heap.size + 1 + 1, 0, none⟩ = some (.int .i64 0) ∧ wr.cell? ⟨w.heap.size + 1 + 1, 1, none⟩ = some (.int .i64 0) ∧ wr.cell? ⟨w.heap.size + 1 + 1, 2, none⟩ = some (.int .i64 0) ∧ wr.frozen? ⟨w.heap.size + 1 + 1, 0, none⟩ = false ∧ wr.frozen? ⟨w.heap.size + 1 + 1, 1, none⟩ = false ∧ wr.frozen? ⟨w.heap.size + 1 + 1, 2, none⟩ = false ∧
  w.heap.size + 1 + 1 < wr.heap.size ∧ Below w.heap.size w wr ∧ (x + n = M ∧ Up p n SA ∧ Up q n SB ∧ (n = 0 ∨ k' = M)) ∧ 0 ≤ x ∧ x ≤ 10 ∧ n ≤ 10
/-- The second loop: the second one is. -/
def AddRel2 (w : World) (SA SB TA TB M : Int) (n : Nat) (wr : World) : Prop := ∃ p q x : Int, wr.cell? ⟨w.heap.size, 0, none⟩ = some (.int .i64 SA) ∧ wr.cell? ⟨w.heap.size, 1, none⟩ = some (.int .i64 SB) ∧ wr.cell? ⟨w.heap.size, 2, none⟩ = some (.int .i64 M) ∧ wr.frozen? ⟨w.heap.size, 0, none⟩ = false ∧ wr.frozen? ⟨w.heap.size, 1, none⟩ = false ∧ wr.frozen? ⟨w.heap.size, 2, none⟩ = false ∧
  wr.cell? ⟨w.heap.size + 1, 0, none⟩ = some (.int .i64 p) ∧ wr.cell? ⟨w.heap.size + 1, 1, none⟩ = some (.int .i64 q) ∧ wr.cell? ⟨w.heap.size + 1, 2, none⟩ = some (.int .i64 x) ∧ wr.frozen? ⟨w.heap.size + 1, 0, none⟩ = false ∧ wr.frozen? ⟨w.heap.size + 1, 1, none⟩ = false ∧ wr.frozen? ⟨w.heap.size + 1, 2, none⟩ = false ∧ wr.cell? ⟨w.heap.size + 1 + 1, 0, none⟩ = some (.int .i64 0) ∧ wr.cell? ⟨w.heap.size + 1 + 1, 1, none⟩ = some (.int .i64 0) ∧ wr.cell? ⟨w.heap.size + 1 + 1, 2, none⟩ = some (.int .i64 0) ∧ wr.frozen? ⟨w.heap.size + 1 + 1, 0, none⟩ = false ∧ wr.frozen? ⟨w.heap.size + 1 + 1, 1, none⟩ = false ∧ wr.frozen? ⟨w.heap.size + 1 + 1, 2, none⟩ = false ∧
  w.heap.size + 1 + 1 < wr.heap.size ∧ Below w.heap.size w wr ∧ (x + n = M ∧ Up p n TA ∧ Up q n TB) ∧ 0 ≤ x ∧ x ≤ 10 ∧ n ≤ 10

theorem up_start {a : Int} (k M : Int) (a1 : -131072 ≤ a) (a2 : a ≤ 131072) (k0 : 0 ≤ k) (kM : k ≤ M) (M1 : M ≤ 10) : Up a (M - k).toNat (a * 2 ^ (M - k).toNat) := by
  obtain ⟨s, _, e, s1, s2⟩ := shl_fits (a := a) (M - k) a1 a2 (by omega) (by omega)
  exact ⟨rfl, by omega, by omega⟩

set_option maxHeartbeats 4000000 in
set_option maxRecDepth 100000 in
theorem lAdd_core (a b k a' b' k' SA SB TA TB M : Int) (w : World) (n1 n2 : Nat) (k0 : 0 ≤ k) (k1 : k ≤ 10) (k0' : 0 ≤ k') (k1' : k' ≤ 10) (hM : M = max k k') (e1 : k + n1 = M) (e2 : k' + n2 = M)
    (ua : Up a n1 SA) (ub : Up b n1 SB) (va : Up a' n2 TA) (vb : Up b' n2 TB) :
    Calls Tryd.prog 131 #[num a b k, num a' b' k'] w (RetB (num (lowA (SA + TA) (SB + TB) M.toNat) (lowB (SA + TA) (SB + TB) M.toNat) (lowK (SA + TA) (SB + TB) M.toNat)) w) := by
  have M0 : 0 ≤ M := by omega
  have M1 : M ≤ 10 := by omega
  have hk : k = M ∨ k' = M := by omega
  have hkM : k' ≤ M := by omega
  have HL := Lib.hid (fun w => low_any (SA + TA) (SB + TB) M.toNat w (by have := ua.2; have := va.2; omega) (by have := ua.2; have := va.2; omega) (by have := ub.2; have := vb.2; omega) (by have := ub.2; have := vb.2; omega) (by omega))
  rw [show ((M.toNat : Nat) : Int) = M by omega] at HL
  have ZA := ua.2
  have ZB := ub.2
  have YA := va.2
  have YB := vb.2
  have U1 := Lib.hid (And.intro ua ub)
  have U2 := Lib.hid (And.intro va vb)
  have E1 := Lib.hid e1
  have E2 := Lib.hid e2
  have HK := Lib.hid hk
  have N1 : n1 ≤ 10 := by omega
  have N2 : n2 ≤ 10 := by omega
  clear hk hM e1 e2 ua ub va vb
  go_enter Tryd.func131, Tryd.ntmps131
  go_wp2
  go_loopg [] n1 (AddRel1 w a' b' k' SA SB M)
  case atStart => exact ⟨a, b, k, by simp [go_sem], by simp [go_sem], by simp [go_sem], by simp [go_sem], by simp [go_sem], by simp [go_sem], by simp [go_sem], by simp [go_sem], by simp [go_sem], by simp [go_sem], by simp [go_sem], by simp [go_sem], by simp [go_sem], by simp [go_sem], by simp [go_sem], by simp [go_sem], by simp [go_sem], by simp [go_sem], by simp, by (repeat (first | with_reducible exact Below.refl _ _ | with_reducible refine Below.drew ?_ | with_reducible refine Below.alloc ?_ (by first | omega | (simp; done) | (simp; omega)) _ | with_reducible refine Below.setCell ?_ (by first | omega | (simp; done) | (simp; omega)) _ | with_reducible refine Below.trans ?_ (Below.mono (by assumption) (by first | omega | (simp; done) | (simp; omega))))), ⟨E1.out, U1.out.1, U1.out.2, by have := HK.out; have := E1.out; omega⟩, k0, k1, N1⟩
  case round =>
    obtain ⟨p, q, x, c0, c1, c2, f0, f1, f2, d0, d1, d2, g0, g1, g2, r0, r1, r2, s0, s1, s2, hz, hB, hE, x0, x1, hn⟩ := hrel
    have HE := Lib.hid hE
    have HB := Lib.hid hB
    have p1 := hE.2.1.bound
    have q1 := hE.2.2.1.bound
    by_cases hg : gk = 0
    · have ex : x = M := by have := hE.1; omega
      have ep : p = SA := Up.zero (by have := hE.2.1; rwa [hg] at this)
      have eq : q = SB := Up.zero (by have := hE.2.2.1; rwa [hg] at this)
      clear hE hB HE p1 q1
      subst ex ep eq
      clear hg
      have ht : k' ≤ x := hkM
      go_wp2
      go_loopg [] n2 (AddRel2 w p q TA TB x)
      case atStart => exact ⟨a', b', k', c0, c1, c2, f0, f1, f2, d0, d1, d2, g0, g1, g2, r0, r1, r2, s0, s1, s2, hz, HB.out, ⟨E2.out, U2.out.1, U2.out.2⟩, k0', k1', N2⟩
      case round =>
        clear c0 c1 c2 f0 f1 f2 d0 d1 d2 g0 g1 g2 r0 r1 r2 s0 s1 s2 hz
        rename_i wo gko wro
        obtain ⟨p', q', x', c0, c1, c2, f0, f1, f2, d0, d1, d2, g0, g1, g2, r0, r1, r2, s0, s1, s2, hz, hB, hE, x0', x1', hn'⟩ := hrel
        have HE2 := Lib.hid hE
        have HB2 := Lib.hid hB
        have p1 := hE.2.1.bound
        have q1 := hE.2.2.bound
        by_cases hg : gk = 0
        · have ex : x' = x := by have := hE.1; omega
          have ep : p' = TA := Up.zero (by have := hE.2.1; rwa [hg] at this)
          have eq : q' = TB := Up.zero (by have := hE.2.2; rwa [hg] at this)
          clear hE hB HE2 p1 q1
          subst ex ep eq
          clear hg
          have ht2 : ¬ x' < x' := Int.lt_irrefl _
          go_wp2_with fail
          refine (HL.out _).mono ?_
          rintro e w1 ⟨rfl, hb1⟩
          (try replace hb1 := Below.undrew hb1)
          obtain ⟨hc1, hf1⟩ := bcell hb1
          have hz1 := hb1.size
          have i0 : w1.cell? ⟨w.heap.size + 1 + 1, 0, none⟩ = some (.int .i64 0) := by rw [hc1 _ _ (by first | omega | (simp; done) | (simp; omega))]; assumption
          have i1 : w1.cell? ⟨w.heap.size + 1 + 1, 1, none⟩ = some (.int .i64 0) := by rw [hc1 _ _ (by first | omega | (simp; done) | (simp; omega))]; assumption
          have i2 : w1.cell? ⟨w.heap.size + 1 + 1, 2, none⟩ = some (.int .i64 0) := by rw [hc1 _ _ (by first | omega | (simp; done) | (simp; omega))]; assumption
          have j0 : w1.frozen? ⟨w.heap.size + 1 + 1, 0, none⟩ = false := by rw [hf1 _ _ (by first | omega | (simp; done) | (simp; omega))]; assumption
          have j1 : w1.frozen? ⟨w.heap.size + 1 + 1, 1, none⟩ = false := by rw [hf1 _ _ (by first | omega | (simp; done) | (simp; omega))]; assumption
          have j2 : w1.frozen? ⟨w.heap.size + 1 + 1, 2, none⟩ = false := by rw [hf1 _ _ (by first | omega | (simp; done) | (simp; omega))]; assumption
          clear hc1 hf1
          go_wp2_with fail
          refine bodyPost_ret (v := num (lowA (p + p') (q + q') x'.toNat) (lowB (p + p') (q + q') x'.toNat) (lowK (p + p') (q + q') x'.toNat)) (by simp [results, Tryd.results131, go_sem, i0, i1, i2]) rfl ⟨rfl, ?_⟩
          have hB := HB2.out
          (repeat (first | with_reducible assumption | with_reducible refine Below.drew ?_ | with_reducible refine Below.alloc ?_ (by first | omega | (simp; done) | (simp; omega)) _ | with_reducible refine Below.setCell ?_ (by first | omega | (simp; done) | (simp; omega)) _ | with_reducible refine Below.trans ?_ (Below.mono (by assumption) (by first | omega | (simp; done) | (simp; omega)))))
        · obtain ⟨m, rfl⟩ : ∃ m, gk = m + 1 := ⟨gk - 1, by omega⟩
          have hlt : x' < x := by have := hE.1; omega
          clear hE hB hg
          go_wp2
          go_roundg m
          case measure => omega
          case rel =>
            have hE := HE2.out
            have hB := HB2.out
            exact ⟨p' * 2, q' * 2, x' + 1, by simp [go_sem, *], by simp [go_sem, *], by simp [go_sem, *], by simp [go_sem, *], by simp [go_sem, *], by simp [go_sem, *], by simp [go_sem, *], by simp [go_sem, *], by simp [go_sem, *], by simp [go_sem, *], by simp [go_sem, *], by simp [go_sem, *], by simp [go_sem, *], by simp [go_sem, *], by simp [go_sem, *], by simp [go_sem, *], by simp [go_sem, *], by simp [go_sem, *], by simp; omega, by (repeat (first | with_reducible assumption | with_reducible refine Below.drew ?_ | with_reducible refine Below.alloc ?_ (by first | omega | (simp; done) | (simp; omega)) _ | with_reducible refine Below.setCell ?_ (by first | omega | (simp; done) | (simp; omega)) _ | with_reducible refine Below.trans ?_ (Below.mono (by assumption) (by first | omega | (simp; done) | (simp; omega))))), ⟨by omega, hE.2.1.step, hE.2.2.step⟩, by omega, by omega, by omega⟩
    · obtain ⟨m, rfl⟩ : ∃ m, gk = m + 1 := ⟨gk - 1, by omega⟩
      have hkm : k' = M := by have := hE.2.2.2; omega
      have hlt : x < k' := by have := hE.1; omega
      have HKM := Lib.hid hkm
      clear hkm
      clear hE hB hg
      go_wp2
      go_roundg m
      case measure => omega
      case rel =>
        have hE := HE.out
        have hB := HB.out
        exact ⟨p * 2, q * 2, x + 1, by simp [go_sem, *], by simp [go_sem, *], by simp [go_sem, *], by simp [go_sem, *], by simp [go_sem, *], by simp [go_sem, *], by simp [go_sem, *], by simp [go_sem, *], by simp [go_sem, *], by simp [go_sem, *], by simp [go_sem, *], by simp [go_sem, *], by simp [go_sem, *], by simp [go_sem, *], by simp [go_sem, *], by simp [go_sem, *], by simp [go_sem, *], by simp [go_sem, *], by simp; omega, by (repeat (first | with_reducible assumption | with_reducible refine Below.drew ?_ | with_reducible refine Below.alloc ?_ (by first | omega | (simp; done) | (simp; omega)) _ | with_reducible refine Below.setCell ?_ (by first | omega | (simp; done) | (simp; omega)) _ | with_reducible refine Below.trans ?_ (Below.mono (by assumption) (by first | omega | (simp; done) | (simp; omega))))), ⟨by omega, hE.2.1.step, hE.2.2.1.step, .inr HKM.out⟩, by omega, by omega, by omega⟩
end Go.Proofs.YtafbdnjabgfjeaaDoor
