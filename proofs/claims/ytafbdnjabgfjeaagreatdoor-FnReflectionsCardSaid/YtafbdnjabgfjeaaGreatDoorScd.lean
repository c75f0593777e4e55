/- Contracts of the model's signs; the program's SignNum and CompareNum. -/
import Derived.Test.YtafbdnjabgfjeaaGreatDoorSab
import Derived.Test.YtafbdnjabgfjeaaGreatDoorWe
import Derived.Test.YtafbdnjabgfjeaaGreatDoorWs
section
namespace Go.Proofs.YtafbdnjabgfjeaaGreatDoor
open Go Go.RowKit OriM

/-- p halved n times more is s. -/
def Up (p : Int) (n : Nat) (s : Int) : Prop := p * 2 ^ n = s ∧ -134217728 ≤ s ∧ s ≤ 134217728
theorem Up.bound {p s : Int} {n : Nat} (h : Up p n s) : -134217728 ≤ p ∧ p ≤ 134217728 := by
  obtain ⟨h1, h2, h3⟩ := h
  have p1 := two_pow_pos n
  constructor
  · apply Int.le_of_not_gt; intro hc
    have : p * 2 ^ n ≤ p * 1 := Int.mul_le_mul_of_nonpos_left (by omega) (by omega)
    omega
  · apply Int.le_of_not_gt; intro hc
    have : p * 1 ≤ p * 2 ^ n := Int.mul_le_mul_of_nonneg_left (by omega) (by omega)
    omega
theorem Up.step {p s : Int} {m : Nat} (h : Up p (m + 1) s) : Up (p * 2) m s := by
  obtain ⟨h1, h2, h3⟩ := h
  refine ⟨?_, h2, h3⟩
  rw [← h1, Int.pow_succ]; ac_rfl
theorem Up.zero {p s : Int} (h : Up p 0 s) : p = s := by have := h.1; simpa using this

/-- The first loop: the first number is brought up. -/
def AddRel1 (w : World) (a' b' k' SA SB M : Int) (n : Nat) (wr : World) : Prop := ∃ p q x : Int, wr.cell? ⟨w.heap.size, 0, none⟩ = some (.int .i64 p) ∧ wr.cell? ⟨w.heap.size, 1, none⟩ = some (.int .i64 q) ∧ wr.cell? ⟨w.heap.size, 2, none⟩ = some (.int .i64 x) ∧ wr.frozen? ⟨w.heap.size, 0, none⟩ = false ∧ wr.frozen? ⟨w.heap.size, 1, none⟩ = false ∧ wr.frozen? ⟨w.heap.size, 2, none⟩ = false ∧
  wr.cell? ⟨w.heap.size + 1, 0, none⟩ = some (.int .i64 a') ∧ wr.cell? ⟨w.heap.size + 1, 1, none⟩ = some (.int .i64 b') ∧ wr.cell? ⟨w.heap.size + 1, 2, none⟩ = some (.int .i64 k') ∧ wr.frozen? ⟨w.heap.size + 1, 0, none⟩ = false ∧ wr.frozen? ⟨w.heap.size + 1, 1, none⟩ = false ∧ wr.frozen? ⟨w.heap.size + 1, 2, none⟩ = false ∧ wr.cell? ⟨w.heap.size + 1 + 1, 0, none⟩ = some (.int .i64 0) ∧ wr.cell? ⟨w.heap.size + 1 + 1, 1, none⟩ = some (.int .i64 0) ∧ wr.cell? ⟨w.heap.size + 1 + 1, 2, none⟩ = some (.int .i64 0) ∧ wr.frozen? ⟨w.heap.size + 1 + 1, 0, none⟩ = false ∧ wr.frozen? ⟨w.heap.size + 1 + 1, 1, none⟩ = false ∧ wr.frozen? ⟨w.heap.size + 1 + 1, 2, none⟩ = false ∧
  w.heap.size + 1 + 1 < wr.heap.size ∧ Below w.heap.size w wr ∧ (x + n = M ∧ Up p n SA ∧ Up q n SB ∧ (n = 0 ∨ k' = M)) ∧ 0 ≤ x ∧ x ≤ 10 ∧ n ≤ 10
/-- The second loop: the second one is. -/
def AddRel2 (w : World) (SA SB TA TB M : Int) (n : Nat) (wr : World) : Prop := ∃ p q x : Int, wr.cell? ⟨w.heap.size, 0, none⟩ = some (.int .i64 SA) ∧ wr.cell? ⟨w.heap.size, 1, none⟩ = some (.int .i64 SB) ∧ wr.cell? ⟨w.heap.size, 2, none⟩ = some (.int .i64 M) ∧ wr.frozen? ⟨w.heap.size, 0, none⟩ = false ∧ wr.frozen? ⟨w.heap.size, 1, none⟩ = false ∧ wr.frozen? ⟨w.heap.size, 2, none⟩ = false ∧
  wr.cell? ⟨w.heap.size + 1, 0, none⟩ = some (.int .i64 p) ∧ wr.cell? ⟨w.heap.size + 1, 1, none⟩ = some (.int .i64 q) ∧ wr.cell? ⟨w.heap.size + 1, 2, none⟩ = some (.int .i64 x) ∧ wr.frozen? ⟨w.heap.size + 1, 0, none⟩ = false ∧ wr.frozen? ⟨w.heap.size + 1, 1, none⟩ = false ∧ wr.frozen? ⟨w.heap.size + 1, 2, none⟩ = false ∧ wr.cell? ⟨w.heap.size + 1 + 1, 0, none⟩ = some (.int .i64 0) ∧ wr.cell? ⟨w.heap.size + 1 + 1, 1, none⟩ = some (.int .i64 0) ∧ wr.cell? ⟨w.heap.size + 1 + 1, 2, none⟩ = some (.int .i64 0) ∧ wr.frozen? ⟨w.heap.size + 1 + 1, 0, none⟩ = false ∧ wr.frozen? ⟨w.heap.size + 1 + 1, 1, none⟩ = false ∧ wr.frozen? ⟨w.heap.size + 1 + 1, 2, none⟩ = false ∧
  w.heap.size + 1 + 1 < wr.heap.size ∧ Below w.heap.size w wr ∧ (x + n = M ∧ Up p n TA ∧ Up q n TB) ∧ 0 ≤ x ∧ x ≤ 10 ∧ n ≤ 10

theorem up_start {a : Int} (k M : Int) (a1 : -131072 ≤ a) (a2 : a ≤ 131072) (k0 : 0 ≤ k) (kM : k ≤ M) (M1 : M ≤ 10) : Up a (M - k).toNat (a * 2 ^ (M - k).toNat) := by
  obtain ⟨s, _, e, s1, s2⟩ := shl_fits (a := a) (M - k) a1 a2 (by omega) (by omega)
  exact ⟨rfl, by omega, by omega⟩

set_option maxHeartbeats 4000000 in
set_option maxRecDepth 100000 in
theorem lAdd_core (a b k a' b' k' SA SB TA TB M : Int) (w : World) (n1 n2 : Nat) (k0 : 0 ≤ k) (k1 : k ≤ 10) (k0' : 0 ≤ k') (k1' : k' ≤ 10) (hM : M = max k k') (e1 : k + n1 = M) (e2 : k' + n2 = M)
    (ua : Up a n1 SA) (ub : Up b n1 SB) (va : Up a' n2 TA) (vb : Up b' n2 TB) :
    Calls Tryz.prog 95 #[num a b k, num a' b' k'] w (RetB (num (lowA (SA + TA) (SB + TB) M.toNat) (lowB (SA + TA) (SB + TB) M.toNat) (lowK (SA + TA) (SB + TB) M.toNat)) w) := by
  have M0 : 0 ≤ M := by omega
  have M1 : M ≤ 10 := by omega
  have hk : k = M ∨ k' = M := by omega
  have hkM : k' ≤ M := by omega
  have HL := Lib.hid (fun w => low_any (SA + TA) (SB + TB) M.toNat w (by have := ua.2; have := va.2; omega) (by have := ua.2; have := va.2; omega) (by have := ub.2; have := vb.2; omega) (by have := ub.2; have := vb.2; omega) (by omega))
  rw [show ((M.toNat : Nat) : Int) = M by omega] at HL
  have ZA := ua.2
  have ZB := ub.2
  have YA := va.2
  have YB := vb.2
  have U1 := Lib.hid (And.intro ua ub)
  have U2 := Lib.hid (And.intro va vb)
  have E1 := Lib.hid e1
  have E2 := Lib.hid e2
  have HK := Lib.hid hk
  have N1 : n1 ≤ 10 := by omega
  have N2 : n2 ≤ 10 := by omega
  clear hk hM e1 e2 ua ub va vb
  go_enter Tryz.func95, Tryz.ntmps95
  go_wp2
  go_loopg [] n1 (AddRel1 w a' b' k' SA SB M)
  case atStart => exact ⟨a, b, k, by simp [go_sem], by simp [go_sem], by simp [go_sem], by simp [go_sem], by simp [go_sem], by simp [go_sem], by simp [go_sem], by simp [go_sem], by simp [go_sem], by simp [go_sem], by simp [go_sem], by simp [go_sem], by simp [go_sem], by simp [go_sem], by simp [go_sem], by simp [go_sem], by simp [go_sem], by simp [go_sem], by simp, by (repeat (first | with_reducible exact Below.refl _ _ | with_reducible refine Below.drew ?_ | with_reducible refine Below.alloc ?_ (by first | omega | (simp; done) | (simp; omega)) _ | with_reducible refine Below.setCell ?_ (by first | omega | (simp; done) | (simp; omega)) _ | with_reducible refine Below.trans ?_ (Below.mono (by assumption) (by first | omega | (simp; done) | (simp; omega))))), ⟨E1.out, U1.out.1, U1.out.2, by have := HK.out; have := E1.out; omega⟩, k0, k1, N1⟩
  case round =>
    obtain ⟨p, q, x, c0, c1, c2, f0, f1, f2, d0, d1, d2, g0, g1, g2, r0, r1, r2, s0, s1, s2, hz, hB, hE, x0, x1, hn⟩ := hrel
    have HE := Lib.hid hE
    have HB := Lib.hid hB
    have p1 := hE.2.1.bound
    have q1 := hE.2.2.1.bound
    by_cases hg : gk = 0
    · have ex : x = M := by have := hE.1; omega
      have ep : p = SA := Up.zero (by have := hE.2.1; rwa [hg] at this)
      have eq : q = SB := Up.zero (by have := hE.2.2.1; rwa [hg] at this)
      clear hE hB HE p1 q1
      subst ex ep eq
      clear hg
      have ht : k' ≤ x := hkM
      go_wp2
      go_loopg [] n2 (AddRel2 w p q TA TB x)
      case atStart => exact ⟨a', b', k', c0, c1, c2, f0, f1, f2, d0, d1, d2, g0, g1, g2, r0, r1, r2, s0, s1, s2, hz, HB.out, ⟨E2.out, U2.out.1, U2.out.2⟩, k0', k1', N2⟩
      case round =>
        clear c0 c1 c2 f0 f1 f2 d0 d1 d2 g0 g1 g2 r0 r1 r2 s0 s1 s2 hz
        rename_i wo gko wro
        obtain ⟨p', q', x', c0, c1, c2, f0, f1, f2, d0, d1, d2, g0, g1, g2, r0, r1, r2, s0, s1, s2, hz, hB, hE, x0', x1', hn'⟩ := hrel
        have HE2 := Lib.hid hE
        have HB2 := Lib.hid hB
        have p1 := hE.2.1.bound
        have q1 := hE.2.2.bound
        by_cases hg : gk = 0
        · have ex : x' = x := by have := hE.1; omega
          have ep : p' = TA := Up.zero (by have := hE.2.1; rwa [hg] at this)
          have eq : q' = TB := Up.zero (by have := hE.2.2; rwa [hg] at this)
          clear hE hB HE2 p1 q1
          subst ex ep eq
          clear hg
          have ht2 : ¬ x' < x' := Int.lt_irrefl _
          go_wp2_with fail
          refine (HL.out _).mono ?_
          rintro e w1 ⟨rfl, hb1⟩
          (try replace hb1 := Below.undrew hb1)
          obtain ⟨hc1, hf1⟩ := bcell hb1
          have hz1 := hb1.size
          have i0 : w1.cell? ⟨w.heap.size + 1 + 1, 0, none⟩ = some (.int .i64 0) := by rw [hc1 _ _ (by first | omega | (simp; done) | (simp; omega))]; assumption
          have i1 : w1.cell? ⟨w.heap.size + 1 + 1, 1, none⟩ = some (.int .i64 0) := by rw [hc1 _ _ (by first | omega | (simp; done) | (simp; omega))]; assumption
          have i2 : w1.cell? ⟨w.heap.size + 1 + 1, 2, none⟩ = some (.int .i64 0) := by rw [hc1 _ _ (by first | omega | (simp; done) | (simp; omega))]; assumption
          have j0 : w1.frozen? ⟨w.heap.size + 1 + 1, 0, none⟩ = false := by rw [hf1 _ _ (by first | omega | (simp; done) | (simp; omega))]; assumption
          have j1 : w1.frozen? ⟨w.heap.size + 1 + 1, 1, none⟩ = false := by rw [hf1 _ _ (by first | omega | (simp; done) | (simp; omega))]; assumption
          have j2 : w1.frozen? ⟨w.heap.size + 1 + 1, 2, none⟩ = false := by rw [hf1 _ _ (by first | omega | (simp; done) | (simp; omega))]; assumption
          clear hc1 hf1
          go_wp2_with fail
          refine bodyPost_ret (v := num (lowA (p + p') (q + q') x'.toNat) (lowB (p + p') (q + q') x'.toNat) (lowK (p + p') (q + q') x'.toNat)) (by simp [results, Tryz.results95, go_sem, i0, i1, i2]) rfl ⟨rfl, ?_⟩
          have hB := HB2.out
          (repeat (first | with_reducible assumption | with_reducible refine Below.drew ?_ | with_reducible refine Below.alloc ?_ (by first | omega | (simp; done) | (simp; omega)) _ | with_reducible refine Below.setCell ?_ (by first | omega | (simp; done) | (simp; omega)) _ | with_reducible refine Below.trans ?_ (Below.mono (by assumption) (by first | omega | (simp; done) | (simp; omega)))))
        · obtain ⟨m, rfl⟩ : ∃ m, gk = m + 1 := ⟨gk - 1, by omega⟩
          have hlt : x' < x := by have := hE.1; omega
          clear hE hB hg
          go_wp2
          go_roundg m
          case measure => omega
          case rel =>
            have hE := HE2.out
            have hB := HB2.out
            exact ⟨p' * 2, q' * 2, x' + 1, by simp [go_sem, *], by simp [go_sem, *], by simp [go_sem, *], by simp [go_sem, *], by simp [go_sem, *], by simp [go_sem, *], by simp [go_sem, *], by simp [go_sem, *], by simp [go_sem, *], by simp [go_sem, *], by simp [go_sem, *], by simp [go_sem, *], by simp [go_sem, *], by simp [go_sem, *], by simp [go_sem, *], by simp [go_sem, *], by simp [go_sem, *], by simp [go_sem, *], by simp; omega, by (repeat (first | with_reducible assumption | with_reducible refine Below.drew ?_ | with_reducible refine Below.alloc ?_ (by first | omega | (simp; done) | (simp; omega)) _ | with_reducible refine Below.setCell ?_ (by first | omega | (simp; done) | (simp; omega)) _ | with_reducible refine Below.trans ?_ (Below.mono (by assumption) (by first | omega | (simp; done) | (simp; omega))))), ⟨by omega, hE.2.1.step, hE.2.2.step⟩, by omega, by omega, by omega⟩
    · obtain ⟨m, rfl⟩ : ∃ m, gk = m + 1 := ⟨gk - 1, by omega⟩
      have hkm : k' = M := by have := hE.2.2.2; omega
      have hlt : x < k' := by have := hE.1; omega
      have HKM := Lib.hid hkm
      clear hkm
      clear hE hB hg
      go_wp2
      go_roundg m
      case measure => omega
      case rel =>
        have hE := HE.out
        have hB := HB.out
        exact ⟨p * 2, q * 2, x + 1, by simp [go_sem, *], by simp [go_sem, *], by simp [go_sem, *], by simp [go_sem, *], by simp [go_sem, *], by simp [go_sem, *], by simp [go_sem, *], by simp [go_sem, *], by simp [go_sem, *], by simp [go_sem, *], by simp [go_sem, *], by simp [go_sem, *], by simp [go_sem, *], by simp [go_sem, *], by simp [go_sem, *], by simp [go_sem, *], by simp [go_sem, *], by simp [go_sem, *], by simp; omega, by (repeat (first | with_reducible assumption | with_reducible refine Below.drew ?_ | with_reducible refine Below.alloc ?_ (by first | omega | (simp; done) | (simp; omega)) _ | with_reducible refine Below.setCell ?_ (by first | omega | (simp; done) | (simp; omega)) _ | with_reducible refine Below.trans ?_ (Below.mono (by assumption) (by first | omega | (simp; done) | (simp; omega))))), ⟨by omega, hE.2.1.step, hE.2.2.1.step, .inr HKM.out⟩, by omega, by omega, by omega⟩
end Go.Proofs.YtafbdnjabgfjeaaGreatDoor
end
section
namespace Go.Proofs.YtafbdnjabgfjeaaGreatDoor
open Go Go.RowKit OriM

/-- Twice in lowest terms is once. -/
theorem lim_low (a b : Int) (k : Nat) (K : Int) (hK : K.toNat = k) : numOk (limA (lowA a b k) (lowB a b k) (lowK a b k)) (limB (lowA a b k) (lowB a b k) (lowK a b k)) (limK (lowA a b k) (lowB a b k) (lowK a b k)) (limO (lowA a b k) (lowB a b k) (lowK a b k)) = numOk (limA a b K) (limB a b K) (limK a b K) (limO a b K) := by
  subst hK
  obtain ⟨e1, e2, e3⟩ := low_of_canon (low_canon K.toNat a b)
  simp only [limA, limB, limK, limO, Int.toNat_natCast, e1, e2, e3]

theorem lNum_low (a b K : Int) (a1 : -9223372036854775808 ≤ a) (a2 : a ≤ 9223372036854775807) (b1 : -9223372036854775808 ≤ b) (b2 : b ≤ 9223372036854775807) (K0 : 0 ≤ K) (K1 : K ≤ 64) (w : World) :
    Calls Tryz.prog 89 #[num (lowA a b K.toNat) (lowB a b K.toNat) (lowK a b K.toNat)] w (RetB (numOk (limA a b K) (limB a b K) (limK a b K) (limO a b K)) w) := by
  obtain ⟨a3, a4⟩ := div_bound (twos K.toNat a b) a1 a2
  obtain ⟨b3, b4⟩ := div_bound (twos K.toNat a b) b1 b2
  rw [← lim_low a b K.toNat K rfl]
  exact lNum_any (lowA a b K.toNat) (lowB a b K.toNat) (lowK a b K.toNat) w a3 a4 b3 b4 (by unfold lowK; omega)

/-- The wide sum of two valid numbers, and its limits. -/
def wA (a b k a' b' k' : Int) : Int := lowA (plusA a k a' k') (plusA b k b' k') (max k k').toNat
def wB (a b k a' b' k' : Int) : Int := lowB (plusA a k a' k') (plusA b k b' k') (max k k').toNat
def wK (a b k a' b' k' : Int) : Int := lowK (plusA a k a' k') (plusA b k b' k') (max k k').toNat

theorem lAdd_valid (a b k a' b' k' : Int) (hx : validB a b k = true) (hy : validB a' b' k' = true) (w : World) :
    Calls Tryz.prog 95 #[num a b k, num a' b' k'] w (RetB (num (wA a b k a' b' k') (wB a b k a' b' k') (wK a b k a' b' k')) w) := by
  obtain ⟨a1, a2, b1, b2, k0, k1⟩ := valid_bounds hx
  obtain ⟨a1', a2', b1', b2', k0', k1'⟩ := valid_bounds hy
  exact lAdd_core a b k a' b' k' _ _ _ _ (max k k') w (max k k' - k).toNat (max k k' - k').toNat k0 k1 k0' k1' rfl (by omega) (by omega)
    (up_start k _ a1 a2 k0 (by omega) (by omega)) (up_start k _ b1 b2 k0 (by omega) (by omega)) (up_start k' _ a1' a2' k0' (by omega) (by omega)) (up_start k' _ b1' b2' k0' (by omega) (by omega))

theorem sAdd_val (a b k a' b' k' : Int) (hx : validB a b k = true) (hy : validB a' b' k' = true) :
    (∀ w, Calls Tryz.prog 95 #[num a b k, num a' b' k'] w (RetB (num (wA a b k a' b' k') (wB a b k a' b' k') (wK a b k a' b' k')) w)) ∧
    (∀ w, Calls Tryz.prog 89 #[num (wA a b k a' b' k') (wB a b k a' b' k') (wK a b k a' b' k')] w (RetB (numOk (addA a b k a' b' k') (addB a b k a' b' k') (addK a b k a' b' k') (addO a b k a' b' k')) w)) := by
  refine ⟨lAdd_valid a b k a' b' k' hx hy, ?_⟩
  obtain ⟨a1, a2, b1, b2, k0, k1⟩ := valid_bounds hx
  obtain ⟨a1', a2', b1', b2', k0', k1'⟩ := valid_bounds hy
  obtain ⟨p1, p2⟩ := plusA_bound a k a' k' a1 a2 a1' a2' k0 k1 k0' k1'
  obtain ⟨q1, q2⟩ := plusA_bound b k b' k' b1 b2 b1' b2' k0 k1 k0' k1'
  exact lNum_low _ _ _ (by omega) (by omega) (by omega) (by omega) (by omega) (by omega)

theorem lSub_valid (a b k a' b' k' : Int) (hx : validB a b k = true) (hy : validB a' b' k' = true) (w : World) :
    Calls Tryz.prog 92 #[num a b k, num a' b' k'] w (RetB (num (wA a b k (-a') (-b') k') (wB a b k (-a') (-b') k') (wK a b k (-a') (-b') k')) w) := by
  have HP := Lib.hid (lAdd_valid a b k (-a') (-b') k' hx (by rw [valid_neg]; exact hy))
  obtain ⟨a1', a2', b1', b2', k0', k1'⟩ := valid_bounds hy
  have HN := Lib.hid (fun w => lNeg_any a' b' k' w a1' a2' b1' b2')
  clear hx hy a1' a2' b1' b2' k0' k1'
  generalize wA a b k (-a') (-b') k' = rA at *
  generalize wB a b k (-a') (-b') k' = rB at *
  generalize wK a b k (-a') (-b') k' = rK at *
  go_enter Tryz.func92, Tryz.ntmps92
  go_wp2_with fail
  go_region_held3 (fun w' => w'.cell? ⟨w.heap.size, 0, none⟩ = some (.int .i64 a) ∧ w'.cell? ⟨w.heap.size, 1, none⟩ = some (.int .i64 b) ∧ w'.cell? ⟨w.heap.size, 2, none⟩ = some (.int .i64 k) ∧ w'.cell? ⟨w.heap.size + 1, 0, none⟩ = some (.int .i64 a') ∧ w'.cell? ⟨w.heap.size + 1, 1, none⟩ = some (.int .i64 b') ∧ w'.cell? ⟨w.heap.size + 1, 2, none⟩ = some (.int .i64 k')) ((first | (go_simp; done) | (simp [*]; done)))
    ((first
    | (go_at_call 121; refine (HN.out _).mono ?_; rintro e w3 ⟨rfl, hb3⟩; (try replace hb3 := Below.undrew hb3); obtain ⟨hc3, hf3⟩ := bcell hb3; have hz3 := hb3.size; (try simp at hz3); have hz3a : w.heap.size < w3.heap.size := (by omega); have hz3b : w.heap.size + 1 < w3.heap.size := (by omega); have hz3c : w.heap.size + 1 + 1 < w3.heap.size := (by omega))
    | (go_at_call 95; refine (HP.out _).mono ?_; rintro e w4 ⟨rfl, hb4⟩; (try replace hb4 := Below.undrew hb4); obtain ⟨hc4, hf4⟩ := bcell hb4; have hz4 := hb4.size; (try simp at hz4); have hz4a : w.heap.size < w4.heap.size := (by omega); have hz4b : w.heap.size + 1 < w4.heap.size := (by omega); have hz4c : w.heap.size + 1 + 1 < w4.heap.size := (by omega))))
  go_wp2_with fail
  exact bodyPost_ret (v := num rA rB rK) (by simp [results, Tryz.results92, go_sem, *]) rfl ⟨rfl, by (repeat (first | with_reducible exact Below.refl _ _ | with_reducible refine Below.drew ?_ | with_reducible refine Below.alloc ?_ (by first | omega | (simp; done) | (simp; omega)) _ | with_reducible refine Below.setCell ?_ (by first | omega | (simp; done) | (simp; omega)) _ | with_reducible refine Below.trans ?_ (Below.mono (by assumption) (by first | omega | (simp; done) | (simp; omega)))))⟩

theorem sSub_val (a b k a' b' k' : Int) (hx : validB a b k = true) (hy : validB a' b' k' = true) :
    (∀ w, Calls Tryz.prog 92 #[num a b k, num a' b' k'] w (RetB (num (wA a b k (-a') (-b') k') (wB a b k (-a') (-b') k') (wK a b k (-a') (-b') k')) w)) ∧
    (∀ w, Calls Tryz.prog 89 #[num (wA a b k (-a') (-b') k') (wB a b k (-a') (-b') k') (wK a b k (-a') (-b') k')] w (RetB (numOk (addA a b k (-a') (-b') k') (addB a b k (-a') (-b') k') (addK a b k (-a') (-b') k') (addO a b k (-a') (-b') k')) w)) :=
  ⟨lSub_valid a b k a' b' k' hx hy, (sAdd_val a b k (-a') (-b') k' hx (by rw [valid_neg]; exact hy)).2⟩

def mwA (a b k a' b' k' : Int) : Int := lowA (timesA a b a' b') (timesB a b a' b') (k + k').toNat
def mwB (a b k a' b' k' : Int) : Int := lowB (timesA a b a' b') (timesB a b a' b') (k + k').toNat
def mwK (a b k a' b' k' : Int) : Int := lowK (timesA a b a' b') (timesB a b a' b') (k + k').toNat

theorem lMul_valid (a b k a' b' k' : Int) (hx : validB a b k = true) (hy : validB a' b' k' = true) (w : World) :
    Calls Tryz.prog 96 #[num a b k, num a' b' k'] w (RetB (num (mwA a b k a' b' k') (mwB a b k a' b' k') (mwK a b k a' b' k')) w) := by
  obtain ⟨a1, a2, b1, b2, k0, k1⟩ := valid_bounds hx
  obtain ⟨a1', a2', b1', b2', k0', k1'⟩ := valid_bounds hy
  obtain ⟨p1, p2, q1, q2⟩ := times_bounds a1 a2 b1 b2 a1' a2' b1' b2'
  obtain ⟨x1, x2⟩ := mul_fits 131072 131072 a1 a2 a1' a2'
  obtain ⟨x3, x4⟩ := mul_fits 262144 131072 (p := 2 * b) (by omega) (by omega) b1' b2'
  obtain ⟨x5, x6⟩ := mul_fits 131072 131072 a1 a2 b1' b2'
  obtain ⟨x7, x8⟩ := mul_fits 131072 131072 b1 b2 a1' a2'
  have low := fun w => low_any (timesA a b a' b') (timesB a b a' b') (k + k').toNat w (by omega) (by omega) (by omega) (by omega) (by omega)
  rw [show (((k + k').toNat : Nat) : Int) = k + k' by omega] at low
  have HL := Lib.hid low
  clear low p1 p2 q1 q2 hx hy
  simp only [Int.reduceMul, Int.cast_ofNat_Int] at x1 x2 x3 x4 x5 x6 x7 x8
  unfold mwA mwB mwK
  generalize lowA (timesA a b a' b') (timesB a b a' b') (k + k').toNat = rA at *
  generalize lowB (timesA a b a' b') (timesB a b a' b') (k + k').toNat = rB at *
  generalize ((lowK (timesA a b a' b') (timesB a b a' b') (k + k').toNat : Nat) : Int) = rK at *
  go_enter Tryz.func96, Tryz.ntmps96
  go_wp2_with fail
  refine (HL.out _).mono ?_
  rintro e w1 ⟨rfl, hb1⟩; (try replace hb1 := Below.undrew hb1); obtain ⟨hc1, hf1⟩ := bcell hb1; have hz1 := hb1.size; (try simp at hz1); have hz1a : w.heap.size < w1.heap.size := (by omega); have hz1b : w.heap.size + 1 < w1.heap.size := (by omega); have hz1c : w.heap.size + 1 + 1 < w1.heap.size := (by omega)
  go_wp2_with fail
  exact bodyPost_ret (v := num rA rB rK) (by simp [results, Tryz.results96, go_sem, *]) rfl ⟨rfl, by (repeat (first | with_reducible exact Below.refl _ _ | with_reducible refine Below.drew ?_ | with_reducible refine Below.alloc ?_ (by first | omega | (simp; done) | (simp; omega)) _ | with_reducible refine Below.setCell ?_ (by first | omega | (simp; done) | (simp; omega)) _ | with_reducible refine Below.trans ?_ (Below.mono (by assumption) (by first | omega | (simp; done) | (simp; omega)))))⟩

theorem sMul_val (a b k a' b' k' : Int) (hx : validB a b k = true) (hy : validB a' b' k' = true) :
    (∀ w, Calls Tryz.prog 96 #[num a b k, num a' b' k'] w (RetB (num (mwA a b k a' b' k') (mwB a b k a' b' k') (mwK a b k a' b' k')) w)) ∧
    (∀ w, Calls Tryz.prog 89 #[num (mwA a b k a' b' k') (mwB a b k a' b' k') (mwK a b k a' b' k')] w (RetB (numOk (mulA a b k a' b' k') (mulB a b k a' b' k') (mulK a b k a' b' k') (mulO a b k a' b' k')) w)) := by
  refine ⟨lMul_valid a b k a' b' k' hx hy, ?_⟩
  obtain ⟨a1, a2, b1, b2, k0, k1⟩ := valid_bounds hx
  obtain ⟨a1', a2', b1', b2', k0', k1'⟩ := valid_bounds hy
  obtain ⟨p1, p2, q1, q2⟩ := times_bounds a1 a2 b1 b2 a1' a2' b1' b2'
  exact lNum_low _ _ _ (by omega) (by omega) (by omega) (by omega) (by omega) (by omega)

end Go.Proofs.YtafbdnjabgfjeaaGreatDoor
end
section
namespace Go.Proofs.YtafbdnjabgfjeaaGreatDoor
open Go Go.RowKit OriM

theorem lSquare_pos (x s : Int) (w : World) (h0 : 0 ≤ x) (h1 : x ≤ 1073741824) (hs : x * x = s) (s0 : 0 ≤ s) (s1 : s ≤ 1152921504606846976) :
    Calls Tryz.prog 144 #[.int .i64 x] w (Ret (.tuple #[.int .u64 0, .int .u64 s]) w) := by
  have ha := and_low x h0 h1
  have hq : x / 4294967296 = 0 := by omega
  have hl : ¬ s < s := Int.lt_irrefl s
  go_enter Tryz.func144, Tryz.ntmps144
  go_wp2
  go_ret2
  exact ⟨rfl, rfl⟩

theorem lSquare_neg (x s : Int) (w : World) (h0 : 0 < x) (h1 : x ≤ 1073741824) (hs : x * x = s) (s0 : 0 ≤ s) (s1 : s ≤ 1152921504606846976) :
    Calls Tryz.prog 144 #[.int .i64 (-x)] w (Ret (.tuple #[.int .u64 0, .int .u64 s]) w) := by
  have ha := and_low x (by omega) h1
  have hq : x / 4294967296 = 0 := by omega
  have hl : ¬ s < s := Int.lt_irrefl s
  have hn : -x < 0 := by omega
  go_enter Tryz.func144, Tryz.ntmps144
  go_wp2
  go_ret2
  exact ⟨rfl, rfl⟩

theorem lSquare_any (x : Int) (w : World) (h0 : -1073741824 ≤ x) (h1 : x ≤ 1073741824) :
    Calls Tryz.prog 144 #[.int .i64 x] w (Ret (.tuple #[.int .u64 0, .int .u64 (x * x)]) w) := by
  rcases (show x < 0 ∨ 0 ≤ x by omega) with h | h
  · obtain ⟨y, rfl⟩ : ∃ y, x = -y := ⟨-x, by omega⟩
    obtain ⟨s0, s1⟩ := sq_bounds (x := y) (by omega) (by omega)
    rw [Int.neg_mul_neg]
    exact lSquare_neg y (y * y) w (by omega) (by omega) rfl s0 s1
  · obtain ⟨s0, s1⟩ := sq_bounds h h1
    exact lSquare_pos x (x * x) w h h1 rfl s0 s1

theorem sq_bounds' {x : Int} (h0 : -1073741824 ≤ x) (h1 : x ≤ 1073741824) : 0 ≤ x * x ∧ x * x ≤ 1152921504606846976 := by
  rcases (show x < 0 ∨ 0 ≤ x by omega) with h | h
  · have := sq_bounds (x := -x) (by omega) (by omega)
    rwa [Int.neg_mul_neg] at this
  · exact sq_bounds h h1

theorem lLess_any (a b : Int) (w : World) (a1 : -1073741824 ≤ a) (a2 : a ≤ 1073741824) (b1 : -1073741824 ≤ b) (b2 : b ≤ 1073741824) :
    Calls Tryz.prog 123 #[.int .i64 a, .int .i64 b] w (Ret (.bool (dbl b a)) w) := by
  obtain ⟨s0, s1⟩ := sq_bounds' b1 b2
  obtain ⟨t0, t1⟩ := sq_bounds' a1 a2
  have HA := Lib.hid (fun w => lSquare_any a w a1 a2)
  have HB := Lib.hid (fun w => lSquare_any b w b1 b2)
  have E := Lib.hid (show decide (a * a < b * b * 2) = dbl b a by unfold dbl; rw [Int.mul_comm 2])
  clear a1 a2 b1 b2
  generalize b * b = s at *
  generalize a * a = t at *
  have q1 : s / 9223372036854775808 = 0 := by omega
  go_enter Tryz.func123, Tryz.ntmps123
  go_wp2_with fail
  refine (HA.out _).mono ?_
  rintro e w1 ⟨rfl, rfl⟩
  go_wp2_with fail
  refine (HB.out _).mono ?_
  rintro e w1 ⟨rfl, rfl⟩
  go_wp2_with fail
  go_ret
  exact ⟨congrArg (fun b => Ending.returned (Value.bool b)) E.out, rfl⟩

theorem lSign_zero (k : Int) (w : World) : Calls Tryz.prog 98 #[num 0 0 k] w (RetB (.int .i64 (Q.sgn2 0 0)) w) := by
  rw [show Q.sgn2 0 0 = 0 by decide]
  go_enter Tryz.func98, Tryz.ntmps98
  go_wp2_with fail
  go_ret
  exact ⟨rfl, by (repeat (first | with_reducible exact Below.refl _ _ | with_reducible refine Below.drew ?_ | with_reducible refine Below.alloc ?_ (by first | omega | (simp; done) | (simp; omega)) _ | with_reducible refine Below.setCell ?_ (by first | omega | (simp; done) | (simp; omega)) _ | with_reducible refine Below.trans ?_ (Below.mono (by assumption) (by first | omega | (simp; done) | (simp; omega)))))⟩

theorem lSign_pos (a b k : Int) (w : World) (h0 : (a == 0 && b == 0) = false) (ha : 0 ≤ a) (hb : 0 ≤ b) : Calls Tryz.prog 98 #[num a b k] w (RetB (.int .i64 (Q.sgn2 a b)) w) := by
  have E := Lib.hid (show Q.sgn2 a b = 1 by
    simp at h0
    rcases Int.lt_or_eq_of_le ha with h | h <;> rcases Int.lt_or_eq_of_le hb with g | g
    · unfold Q.sgn2; rw [Int.sign_eq_one_of_pos h, Int.sign_eq_one_of_pos g]; simp
    · subst g; unfold Q.sgn2; rw [Int.sign_eq_one_of_pos h]; simp
    · subst h; unfold Q.sgn2; rw [Int.sign_eq_one_of_pos g]; simp
    · omega)
  by_cases h : a = 0
  · subst h
    have hb0 : (b == 0) = false := by simpa using h0
    clear h0
    go_enter Tryz.func98, Tryz.ntmps98
    go_wp2_with fail
    go_ret
    exact ⟨by rw [E.out]; rfl, by (repeat (first | with_reducible exact Below.refl _ _ | with_reducible refine Below.drew ?_ | with_reducible refine Below.alloc ?_ (by first | omega | (simp; done) | (simp; omega)) _ | with_reducible refine Below.setCell ?_ (by first | omega | (simp; done) | (simp; omega)) _ | with_reducible refine Below.trans ?_ (Below.mono (by assumption) (by first | omega | (simp; done) | (simp; omega)))))⟩
  · have ha0 : (a == 0) = false := by simpa using h
    clear h0 h
    go_enter Tryz.func98, Tryz.ntmps98
    go_wp2_with fail
    go_ret
    exact ⟨by rw [E.out]; rfl, by (repeat (first | with_reducible exact Below.refl _ _ | with_reducible refine Below.drew ?_ | with_reducible refine Below.alloc ?_ (by first | omega | (simp; done) | (simp; omega)) _ | with_reducible refine Below.setCell ?_ (by first | omega | (simp; done) | (simp; omega)) _ | with_reducible refine Below.trans ?_ (Below.mono (by assumption) (by first | omega | (simp; done) | (simp; omega)))))⟩

theorem lSign_neg (a b k : Int) (w : World) (h0 : (a == 0 && b == 0) = false) (ha : a ≤ 0) (hb : b ≤ 0) : Calls Tryz.prog 98 #[num a b k] w (RetB (.int .i64 (Q.sgn2 a b)) w) := by
  have E := Lib.hid (show Q.sgn2 a b = -1 by
    simp at h0
    rcases Int.lt_or_eq_of_le ha with h | h <;> rcases Int.lt_or_eq_of_le hb with g | g
    · unfold Q.sgn2; rw [Int.sign_eq_neg_one_of_neg h, Int.sign_eq_neg_one_of_neg g]; simp
    · subst g; unfold Q.sgn2; rw [Int.sign_eq_neg_one_of_neg h]; simp
    · subst h; unfold Q.sgn2; rw [Int.sign_eq_neg_one_of_neg g]; simp
    · omega)
  by_cases h : a = 0
  · subst h
    have hb1 : b < 0 := by simp at h0; omega
    have hb0 : (b == 0) = false := by simpa using h0
    clear h0
    go_enter Tryz.func98, Tryz.ntmps98
    go_wp2_with fail
    go_ret
    exact ⟨by rw [E.out]; rfl, by (repeat (first | with_reducible exact Below.refl _ _ | with_reducible refine Below.drew ?_ | with_reducible refine Below.alloc ?_ (by first | omega | (simp; done) | (simp; omega)) _ | with_reducible refine Below.setCell ?_ (by first | omega | (simp; done) | (simp; omega)) _ | with_reducible refine Below.trans ?_ (Below.mono (by assumption) (by first | omega | (simp; done) | (simp; omega)))))⟩
  · have ha0 : (a == 0) = false := by simpa using h
    have ha1 : a < 0 := by omega
    clear h0 h
    go_enter Tryz.func98, Tryz.ntmps98
    go_wp2_with fail
    go_ret
    exact ⟨by rw [E.out]; rfl, by (repeat (first | with_reducible exact Below.refl _ _ | with_reducible refine Below.drew ?_ | with_reducible refine Below.alloc ?_ (by first | omega | (simp; done) | (simp; omega)) _ | with_reducible refine Below.setCell ?_ (by first | omega | (simp; done) | (simp; omega)) _ | with_reducible refine Below.trans ?_ (Below.mono (by assumption) (by first | omega | (simp; done) | (simp; omega)))))⟩

theorem lSign_np (a b k : Int) (w : World) (a1 : -1073741824 ≤ a) (b2 : b ≤ 1073741824) (ha : a < 0) (hb : 0 < b) : Calls Tryz.prog 98 #[num a b k] w (RetB (.int .i64 (Q.sgn2 a b)) w) := by
  have HL := Lib.hid (fun w => lLess_any a b w a1 (by omega) (by omega) b2)
  have es : Q.sgn2 a b = if dbl b a then 1 else -1 := by
    unfold Q.sgn2 dbl; rw [Int.sign_eq_neg_one_of_neg ha, Int.sign_eq_one_of_pos hb]; simp
  rw [es]
  clear a1 b2 es
  have ha0 : (a == 0) = false := by simp; omega
  generalize dbl b a = d at *
  cases d
  all_goals
    go_enter Tryz.func98, Tryz.ntmps98
    go_wp2_with fail
    go_quiet ((go_at_call 123; exact Ret.q (HL.out _)))
    go_wp2_with fail
    go_ret
    exact ⟨rfl, by (repeat (first | with_reducible exact Below.refl _ _ | with_reducible refine below_drewN ?_ _ | with_reducible refine Below.drew ?_ | with_reducible refine Below.alloc ?_ (by first | omega | (simp; done) | (simp; omega)) _ | with_reducible refine Below.setCell ?_ (by first | omega | (simp; done) | (simp; omega)) _ | with_reducible refine Below.trans ?_ (Below.mono (by assumption) (by first | omega | (simp; done) | (simp; omega)))))⟩

theorem lSign_pn (a b k : Int) (w : World) (a2 : a ≤ 1073741824) (b1 : -1073741824 ≤ b) (ha : 0 < a) (hb : b < 0) : Calls Tryz.prog 98 #[num a b k] w (RetB (.int .i64 (Q.sgn2 a b)) w) := by
  have HL := Lib.hid (fun w => lLess_any a b w (by omega) a2 b1 (by omega))
  have es : Q.sgn2 a b = if dbl b a then -1 else 1 := by
    unfold Q.sgn2 dbl; rw [Int.sign_eq_neg_one_of_neg hb, Int.sign_eq_one_of_pos ha]; simp
  rw [es]
  clear a2 b1 es
  have ha0 : (a == 0) = false := by simp; omega
  generalize dbl b a = d at *
  have hbd : decide (0 < b) = false := by simp; omega
  cases d
  all_goals
    go_enter Tryz.func98, Tryz.ntmps98
    go_wp2_with fail
    go_quiet ((go_at_call 123; exact Ret.q (HL.out _)))
    go_wp2_with fail
    go_ret
    exact ⟨rfl, by (repeat (first | with_reducible exact Below.refl _ _ | with_reducible refine below_drewN ?_ _ | with_reducible refine Below.drew ?_ | with_reducible refine Below.alloc ?_ (by first | omega | (simp; done) | (simp; omega)) _ | with_reducible refine Below.setCell ?_ (by first | omega | (simp; done) | (simp; omega)) _ | with_reducible refine Below.trans ?_ (Below.mono (by assumption) (by first | omega | (simp; done) | (simp; omega)))))⟩

theorem lSign_any (a b k : Int) (w : World) (a1 : -1073741824 ≤ a) (a2 : a ≤ 1073741824) (b1 : -1073741824 ≤ b) (b2 : b ≤ 1073741824) :
    Calls Tryz.prog 98 #[num a b k] w (RetB (.int .i64 (Q.sgn2 a b)) w) := by
  by_cases h0 : (a == 0 && b == 0) = true
  · simp at h0; obtain ⟨rfl, rfl⟩ := h0; exact lSign_zero k w
  · have h0' : (a == 0 && b == 0) = false := by simpa using h0
    by_cases ha : 0 ≤ a
    · by_cases hb : 0 ≤ b
      · exact lSign_pos a b k w h0' ha hb
      · by_cases hz : a = 0
        · exact lSign_neg a b k w h0' (by omega) (by omega)
        · exact lSign_pn a b k w a2 b1 (by omega) (by omega)
    · by_cases hb : b ≤ 0
      · exact lSign_neg a b k w h0' (by omega) hb
      · exact lSign_np a b k w a1 b2 (by omega) (by omega)

theorem sgn_low (a b : Int) (k : Nat) : Q.sgn2 (lowA a b k) (lowB a b k) = Q.sgn2 a b := by
  obtain ⟨h1, h2⟩ := twos_dvd k a b
  rw [← Q.sgn2_scale (two_pow_pos (twos k a b)) (lowA a b k) (lowB a b k)]
  congr 1
  · unfold lowA; rw [Int.mul_comm]; exact h1.symm
  · unfold lowB; rw [Int.mul_comm]; exact h2.symm

theorem div_small {q c x : Int} (p : 0 < q) (h : x = q * c) (x1 : -268435456 ≤ x) (x2 : x ≤ 268435456) : -1073741824 ≤ c ∧ c ≤ 1073741824 := by
  constructor
  · apply Int.le_of_not_gt; intro hc
    have : q * c ≤ 1 * c := Int.mul_le_mul_of_nonpos_right (by omega) (by omega)
    omega
  · apply Int.le_of_not_gt; intro hc
    have : 1 * c ≤ q * c := Int.mul_le_mul_of_nonneg_right (by omega) (by omega)
    omega
theorem low_small {a b : Int} (k : Nat) (a1 : -268435456 ≤ a) (a2 : a ≤ 268435456) (b1 : -268435456 ≤ b) (b2 : b ≤ 268435456) : -1073741824 ≤ lowA a b k ∧ lowA a b k ≤ 1073741824 ∧ -1073741824 ≤ lowB a b k ∧ lowB a b k ≤ 1073741824 := by
  obtain ⟨h1, h2⟩ := twos_dvd k a b
  have p := two_pow_pos (twos k a b)
  obtain ⟨x, y⟩ := div_small p h1 a1 a2
  obtain ⟨z, t⟩ := div_small p h2 b1 b2
  exact ⟨x, y, z, t⟩
end Go.Proofs.YtafbdnjabgfjeaaGreatDoor
end
