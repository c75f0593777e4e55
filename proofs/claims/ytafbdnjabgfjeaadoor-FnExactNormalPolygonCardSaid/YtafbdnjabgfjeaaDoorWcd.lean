/- Contracts of the program's exported functions on numbers. -/
import Derived.Test.YtafbdnjabgfjeaaDoorWb
import Derived.StillTailTactics
section
namespace Go.Proofs.YtafbdnjabgfjeaaDoor
open Go Go.RowKit OriM

theorem negated_any (a b k : Int) (w : World) (a1 : -131072 ≤ a) (a2 : a ≤ 131072) (b1 : -131072 ≤ b) (b2 : b ≤ 131072) :
    Calls Tryd.prog 157 #[num a b k] w (RetB (num (-a) (-b) k) w) := by
  go_enter Tryd.func157, Tryd.ntmps157
  go_wp2
  try go_region
  go_wp2
  exact bodyPost_ret (v := num (-a) (-b) k) (by simp [results, Tryd.results157, go_sem, *]) rfl ⟨rfl, by (repeat (first | with_reducible exact Below.refl _ _ | with_reducible refine Below.drew ?_ | with_reducible refine Below.alloc ?_ (by first | omega | (simp; done) | (simp; omega)) _ | with_reducible refine Below.setCell ?_ (by first | omega | (simp; done) | (simp; omega)) _ | with_reducible refine Below.trans ?_ (Below.mono (by assumption) (by first | omega | (simp; done) | (simp; omega)))))⟩

/-- A left shift that fits. -/
theorem shl_fits {a : Int} (n : Int) (a1 : -131072 ≤ a) (a2 : a ≤ 131072) (n0 : 0 ≤ n) (n1 : n ≤ 10) : ∃ s : Int, IntKind.i64.wrap (a * 2 ^ n.toNat) = s ∧ s = a * 2 ^ n.toNat ∧ -134217728 ≤ s ∧ s ≤ 134217728 := by
  have h : ∃ p : Int, p = 2 ^ n.toNat ∧ 1 ≤ p ∧ p ≤ 1024 := ⟨_, rfl, by have := two_pow_pos n.toNat; omega, by
    have e : (2 : Int) ^ 10 = 2 ^ n.toNat * 2 ^ (10 - n.toNat) := pow_split (by omega)
    have p1 := two_pow_pos n.toNat
    have p2 := two_pow_pos (10 - n.toNat)
    have : (2 : Int) ^ n.toNat * 1 ≤ 2 ^ n.toNat * 2 ^ (10 - n.toNat) := Int.mul_le_mul_of_nonneg_left (by omega) (by omega)
    rw [← e] at this
    simpa using this⟩
  obtain ⟨p, hp, p1, p2⟩ := h
  rw [← hp]
  have l1 : a * p ≤ 131072 * p := Int.mul_le_mul_of_nonneg_right a2 (by omega)
  have l2 : -131072 * p ≤ a * p := Int.mul_le_mul_of_nonneg_right a1 (by omega)
  refine ⟨a * p, ?_, rfl, by omega, by omega⟩
  simp [IntKind.wrap, IntKind.signed, IntKind.bits]
  omega

/-- Sums over a common power. -/
def plusA (a k a' k' : Int) : Int := a * 2 ^ (max k k' - k).toNat + a' * 2 ^ (max k k' - k').toNat

set_option maxRecDepth 100000 in
theorem plus_lt (a b k a' b' k' : Int) (w : World) (a1 : -131072 ≤ a) (a2 : a ≤ 131072) (b1 : -131072 ≤ b) (b2 : b ≤ 131072) (k0 : 0 ≤ k) (k1 : k ≤ 10)
    (a1' : -131072 ≤ a') (a2' : a' ≤ 131072) (b1' : -131072 ≤ b') (b2' : b' ≤ 131072) (k0' : 0 ≤ k') (k1' : k' ≤ 10) (h : k < k') :
    Calls Tryd.prog 162 #[num a b k, num a' b' k'] w (RetB (num (plusA a k a' k') (plusA b k b' k') (max k k')) w) := by
  obtain ⟨sa, ea, fa, sa1, sa2⟩ := shl_fits (a := a) (k' - k) a1 a2 (by omega) (by omega)
  obtain ⟨sb, eb, fb, sb1, sb2⟩ := shl_fits (a := b) (k' - k) b1 b2 (by omega) (by omega)
  have fin : num (sa + a') (sb + b') k' = num (plusA a k a' k') (plusA b k b' k') (max k k') := by
    unfold plusA; rw [Int.max_eq_right (by omega), ← fa, ← fb]; simp
  have Fin := Lib.hid fin
  clear fa fb fin
  go_enter Tryd.func162, Tryd.ntmps162
  go_wp2
  obtain ⟨W, hW⟩ : ∃ W, W = ((w.alloc (Obj.cells #[Value.int IntKind.i64 a, Value.int IntKind.i64 b, Value.int IntKind.i64 k] 25)).alloc (Obj.cells #[Value.int IntKind.i64 a', Value.int IntKind.i64 b', Value.int IntKind.i64 k'] 25)).alloc (Obj.cells #[Value.int IntKind.i64 0, Value.int IntKind.i64 0, Value.int IntKind.i64 0] 25) := ⟨_, rfl⟩
  have hB : Below w.heap.size w W := by rw [hW]; (repeat (first | with_reducible exact Below.refl _ _ | with_reducible refine Below.drew ?_ | with_reducible refine Below.alloc ?_ (by first | omega | (simp; done) | (simp; omega)) _ | with_reducible refine Below.setCell ?_ (by first | omega | (simp; done) | (simp; omega)) _ | with_reducible refine Below.trans ?_ (Below.mono (by assumption) (by first | omega | (simp; done) | (simp; omega)))))
  have hz : w.heap.size + 1 + 1 < W.heap.size := by rw [hW]; simp
  have c0 : W.cell? ⟨w.heap.size, 0, none⟩ = some (.int .i64 a) := by rw [hW]; simp [go_sem]
  have c1 : W.cell? ⟨w.heap.size, 1, none⟩ = some (.int .i64 b) := by rw [hW]; simp [go_sem]
  have c2 : W.cell? ⟨w.heap.size, 2, none⟩ = some (.int .i64 k) := by rw [hW]; simp [go_sem]
  have d0 : W.cell? ⟨w.heap.size + 1, 0, none⟩ = some (.int .i64 a') := by rw [hW]; simp [go_sem]
  have d1 : W.cell? ⟨w.heap.size + 1, 1, none⟩ = some (.int .i64 b') := by rw [hW]; simp [go_sem]
  have d2 : W.cell? ⟨w.heap.size + 1, 2, none⟩ = some (.int .i64 k') := by rw [hW]; simp [go_sem]
  have o0 : W.cell? ⟨w.heap.size + 1 + 1, 0, none⟩ = some (.int .i64 0) := by rw [hW]; simp [go_sem]
  have o1 : W.cell? ⟨w.heap.size + 1 + 1, 1, none⟩ = some (.int .i64 0) := by rw [hW]; simp [go_sem]
  have o2 : W.cell? ⟨w.heap.size + 1 + 1, 2, none⟩ = some (.int .i64 0) := by rw [hW]; simp [go_sem]
  have f0 : W.frozen? ⟨w.heap.size + 1 + 1, 0, none⟩ = false := by rw [hW]; simp [go_sem]
  have f1 : W.frozen? ⟨w.heap.size + 1 + 1, 1, none⟩ = false := by rw [hW]; simp [go_sem]
  have f2 : W.frozen? ⟨w.heap.size + 1 + 1, 2, none⟩ = false := by rw [hW]; simp [go_sem]
  rw [← hW]
  clear hW
  have q0 : 0 ≤ k' - k := by omega
  have q1 : ¬ (k' - k < 0) := by omega
  have q2 : min (k' - k).toNat 64 = (k' - k).toNat := by omega
  have x1 : IntKind.i64.wrap (sa + a') = sa + a' := IntWalk.i64_in _ (by omega)
  have x2 : IntKind.i64.wrap (sb + b') = sb + b' := IntWalk.i64_in _ (by omega)
  have x3 : IntKind.i64.wrap a' = a' := IntWalk.i64_in _ (by omega)
  have x4 : IntKind.i64.wrap b' = b' := IntWalk.i64_in _ (by omega)
  have x0 : IntKind.i64.wrap (k' - k) = k' - k := IntWalk.i64_in _ (by omega)
  have y0 : IntKind.i64.wrap 0 = 0 := by decide
  go_still_tail 32, (by kernel_rfl)
  change wpList _ _ _ _ _ W.drew
  go_wp2
  exact bodyPost_ret (v := num (sa + a') (sb + b') (k')) (by simp [results, Tryd.results162, go_sem, *]) rfl ⟨by rw [← Fin.out], by (repeat (first | with_reducible exact Below.refl _ _ | with_reducible refine Below.drew ?_ | with_reducible refine Below.alloc ?_ (by first | omega | (simp; done) | (simp; omega)) _ | with_reducible refine Below.setCell ?_ (by first | omega | (simp; done) | (simp; omega)) _ | with_reducible refine Below.trans ?_ (Below.mono (by assumption) (by first | omega | (simp; done) | (simp; omega)))))⟩

set_option maxRecDepth 100000 in
theorem plus_gt (a b k a' b' k' : Int) (w : World) (a1 : -131072 ≤ a) (a2 : a ≤ 131072) (b1 : -131072 ≤ b) (b2 : b ≤ 131072) (k0 : 0 ≤ k) (k1 : k ≤ 10)
    (a1' : -131072 ≤ a') (a2' : a' ≤ 131072) (b1' : -131072 ≤ b') (b2' : b' ≤ 131072) (k0' : 0 ≤ k') (k1' : k' ≤ 10) (h : k' < k) :
    Calls Tryd.prog 162 #[num a b k, num a' b' k'] w (RetB (num (plusA a k a' k') (plusA b k b' k') (max k k')) w) := by
  obtain ⟨sa, ea, fa, sa1, sa2⟩ := shl_fits (a := a') (k - k') a1' a2' (by omega) (by omega)
  obtain ⟨sb, eb, fb, sb1, sb2⟩ := shl_fits (a := b') (k - k') b1' b2' (by omega) (by omega)
  have fin : num (a + sa) (b + sb) k = num (plusA a k a' k') (plusA b k b' k') (max k k') := by
    unfold plusA; rw [Int.max_eq_left (by omega), ← fa, ← fb]; simp
  have Fin := Lib.hid fin
  clear fa fb fin
  go_enter Tryd.func162, Tryd.ntmps162
  go_wp2
  obtain ⟨W, hW⟩ : ∃ W, W = ((w.alloc (Obj.cells #[Value.int IntKind.i64 a, Value.int IntKind.i64 b, Value.int IntKind.i64 k] 25)).alloc (Obj.cells #[Value.int IntKind.i64 a', Value.int IntKind.i64 b', Value.int IntKind.i64 k'] 25)).alloc (Obj.cells #[Value.int IntKind.i64 0, Value.int IntKind.i64 0, Value.int IntKind.i64 0] 25) := ⟨_, rfl⟩
  have hB : Below w.heap.size w W := by rw [hW]; (repeat (first | with_reducible exact Below.refl _ _ | with_reducible refine Below.drew ?_ | with_reducible refine Below.alloc ?_ (by first | omega | (simp; done) | (simp; omega)) _ | with_reducible refine Below.setCell ?_ (by first | omega | (simp; done) | (simp; omega)) _ | with_reducible refine Below.trans ?_ (Below.mono (by assumption) (by first | omega | (simp; done) | (simp; omega)))))
  have hz : w.heap.size + 1 + 1 < W.heap.size := by rw [hW]; simp
  have c0 : W.cell? ⟨w.heap.size, 0, none⟩ = some (.int .i64 a) := by rw [hW]; simp [go_sem]
  have c1 : W.cell? ⟨w.heap.size, 1, none⟩ = some (.int .i64 b) := by rw [hW]; simp [go_sem]
  have c2 : W.cell? ⟨w.heap.size, 2, none⟩ = some (.int .i64 k) := by rw [hW]; simp [go_sem]
  have d0 : W.cell? ⟨w.heap.size + 1, 0, none⟩ = some (.int .i64 a') := by rw [hW]; simp [go_sem]
  have d1 : W.cell? ⟨w.heap.size + 1, 1, none⟩ = some (.int .i64 b') := by rw [hW]; simp [go_sem]
  have d2 : W.cell? ⟨w.heap.size + 1, 2, none⟩ = some (.int .i64 k') := by rw [hW]; simp [go_sem]
  have o0 : W.cell? ⟨w.heap.size + 1 + 1, 0, none⟩ = some (.int .i64 0) := by rw [hW]; simp [go_sem]
  have o1 : W.cell? ⟨w.heap.size + 1 + 1, 1, none⟩ = some (.int .i64 0) := by rw [hW]; simp [go_sem]
  have o2 : W.cell? ⟨w.heap.size + 1 + 1, 2, none⟩ = some (.int .i64 0) := by rw [hW]; simp [go_sem]
  have f0 : W.frozen? ⟨w.heap.size + 1 + 1, 0, none⟩ = false := by rw [hW]; simp [go_sem]
  have f1 : W.frozen? ⟨w.heap.size + 1 + 1, 1, none⟩ = false := by rw [hW]; simp [go_sem]
  have f2 : W.frozen? ⟨w.heap.size + 1 + 1, 2, none⟩ = false := by rw [hW]; simp [go_sem]
  rw [← hW]
  clear hW
  have q0 : 0 ≤ k - k' := by omega
  have q1 : ¬ (k - k' < 0) := by omega
  have q2 : min (k - k').toNat 64 = (k - k').toNat := by omega
  have x1 : IntKind.i64.wrap (a + sa) = a + sa := IntWalk.i64_in _ (by omega)
  have x2 : IntKind.i64.wrap (b + sb) = b + sb := IntWalk.i64_in _ (by omega)
  have x3 : IntKind.i64.wrap a = a := IntWalk.i64_in _ (by omega)
  have x4 : IntKind.i64.wrap b = b := IntWalk.i64_in _ (by omega)
  have x0 : IntKind.i64.wrap (k - k') = k - k' := IntWalk.i64_in _ (by omega)
  have y0 : IntKind.i64.wrap 0 = 0 := by decide
  go_still_tail 32, (by kernel_rfl)
  change wpList _ _ _ _ _ W.drew
  go_wp2
  exact bodyPost_ret (v := num (a + sa) (b + sb) (k)) (by simp [results, Tryd.results162, go_sem, *]) rfl ⟨by rw [← Fin.out], by (repeat (first | with_reducible exact Below.refl _ _ | with_reducible refine Below.drew ?_ | with_reducible refine Below.alloc ?_ (by first | omega | (simp; done) | (simp; omega)) _ | with_reducible refine Below.setCell ?_ (by first | omega | (simp; done) | (simp; omega)) _ | with_reducible refine Below.trans ?_ (Below.mono (by assumption) (by first | omega | (simp; done) | (simp; omega)))))⟩

set_option maxRecDepth 100000 in
theorem plus_eq (a b k a' b' : Int) (w : World) (a1 : -131072 ≤ a) (a2 : a ≤ 131072) (b1 : -131072 ≤ b) (b2 : b ≤ 131072) (_k0 : 0 ≤ k) (_k1 : k ≤ 10)
    (a1' : -131072 ≤ a') (a2' : a' ≤ 131072) (b1' : -131072 ≤ b') (b2' : b' ≤ 131072) :
    Calls Tryd.prog 162 #[num a b k, num a' b' k] w (RetB (num (plusA a k a' k) (plusA b k b' k) (max k k)) w) := by
  have fin : num (a + a') (b + b') k = num (plusA a k a' k) (plusA b k b' k) (max k k) := by
    unfold plusA; rw [Int.max_self]; simp
  have Fin := Lib.hid fin
  clear fin
  go_enter Tryd.func162, Tryd.ntmps162
  go_wp2
  obtain ⟨W, hW⟩ : ∃ W, W = ((w.alloc (Obj.cells #[Value.int IntKind.i64 a, Value.int IntKind.i64 b, Value.int IntKind.i64 k] 25)).alloc (Obj.cells #[Value.int IntKind.i64 a', Value.int IntKind.i64 b', Value.int IntKind.i64 k] 25)).alloc (Obj.cells #[Value.int IntKind.i64 0, Value.int IntKind.i64 0, Value.int IntKind.i64 0] 25) := ⟨_, rfl⟩
  have hB : Below w.heap.size w W := by rw [hW]; (repeat (first | with_reducible exact Below.refl _ _ | with_reducible refine Below.drew ?_ | with_reducible refine Below.alloc ?_ (by first | omega | (simp; done) | (simp; omega)) _ | with_reducible refine Below.setCell ?_ (by first | omega | (simp; done) | (simp; omega)) _ | with_reducible refine Below.trans ?_ (Below.mono (by assumption) (by first | omega | (simp; done) | (simp; omega)))))
  have hz : w.heap.size + 1 + 1 < W.heap.size := by rw [hW]; simp
  have c0 : W.cell? ⟨w.heap.size, 0, none⟩ = some (.int .i64 a) := by rw [hW]; simp [go_sem]
  have c1 : W.cell? ⟨w.heap.size, 1, none⟩ = some (.int .i64 b) := by rw [hW]; simp [go_sem]
  have c2 : W.cell? ⟨w.heap.size, 2, none⟩ = some (.int .i64 k) := by rw [hW]; simp [go_sem]
  have d0 : W.cell? ⟨w.heap.size + 1, 0, none⟩ = some (.int .i64 a') := by rw [hW]; simp [go_sem]
  have d1 : W.cell? ⟨w.heap.size + 1, 1, none⟩ = some (.int .i64 b') := by rw [hW]; simp [go_sem]
  have d2 : W.cell? ⟨w.heap.size + 1, 2, none⟩ = some (.int .i64 k) := by rw [hW]; simp [go_sem]
  have o0 : W.cell? ⟨w.heap.size + 1 + 1, 0, none⟩ = some (.int .i64 0) := by rw [hW]; simp [go_sem]
  have o1 : W.cell? ⟨w.heap.size + 1 + 1, 1, none⟩ = some (.int .i64 0) := by rw [hW]; simp [go_sem]
  have o2 : W.cell? ⟨w.heap.size + 1 + 1, 2, none⟩ = some (.int .i64 0) := by rw [hW]; simp [go_sem]
  have f0 : W.frozen? ⟨w.heap.size + 1 + 1, 0, none⟩ = false := by rw [hW]; simp [go_sem]
  have f1 : W.frozen? ⟨w.heap.size + 1 + 1, 1, none⟩ = false := by rw [hW]; simp [go_sem]
  have f2 : W.frozen? ⟨w.heap.size + 1 + 1, 2, none⟩ = false := by rw [hW]; simp [go_sem]
  rw [← hW]
  clear hW
  have x1 : IntKind.i64.wrap (a + a') = a + a' := IntWalk.i64_in _ (by omega)
  have x2 : IntKind.i64.wrap (b + b') = b + b' := IntWalk.i64_in _ (by omega)
  have x3 : IntKind.i64.wrap a = a := IntWalk.i64_in _ (by omega)
  have x4 : IntKind.i64.wrap b = b := IntWalk.i64_in _ (by omega)
  have x5 : IntKind.i64.wrap a' = a' := IntWalk.i64_in _ (by omega)
  have x6 : IntKind.i64.wrap b' = b' := IntWalk.i64_in _ (by omega)
  have y0 : IntKind.i64.wrap 0 = 0 := by decide
  go_still_tail 32, (by kernel_rfl)
  change wpList _ _ _ _ _ W.drew
  go_wp2
  exact bodyPost_ret (v := num (a + a') (b + b') (k)) (by simp [results, Tryd.results162, go_sem, *]) rfl ⟨by rw [← Fin.out], by (repeat (first | with_reducible exact Below.refl _ _ | with_reducible refine Below.drew ?_ | with_reducible refine Below.alloc ?_ (by first | omega | (simp; done) | (simp; omega)) _ | with_reducible refine Below.setCell ?_ (by first | omega | (simp; done) | (simp; omega)) _ | with_reducible refine Below.trans ?_ (Below.mono (by assumption) (by first | omega | (simp; done) | (simp; omega)))))⟩

theorem plus_any (a b k a' b' k' : Int) (w : World) (a1 : -131072 ≤ a) (a2 : a ≤ 131072) (b1 : -131072 ≤ b) (b2 : b ≤ 131072) (k0 : 0 ≤ k) (k1 : k ≤ 10)
    (a1' : -131072 ≤ a') (a2' : a' ≤ 131072) (b1' : -131072 ≤ b') (b2' : b' ≤ 131072) (k0' : 0 ≤ k') (k1' : k' ≤ 10) :
    Calls Tryd.prog 162 #[num a b k, num a' b' k'] w (RetB (num (plusA a k a' k') (plusA b k b' k') (max k k')) w) := by
  rcases Int.lt_trichotomy k k' with h | h | h
  · exact plus_lt a b k a' b' k' w a1 a2 b1 b2 k0 k1 a1' a2' b1' b2' k0' k1' h
  · subst h; exact plus_eq a b k a' b' w a1 a2 b1 b2 k0 k1 a1' a2' b1' b2'
  · exact plus_gt a b k a' b' k' w a1 a2 b1 b2 k0 k1 a1' a2' b1' b2' k0' k1' h

/-- Products fit. -/
theorem mul_fits {p q : Int} (m n : Nat) (p1 : -(m : Int) ≤ p) (p2 : p ≤ m) (q1 : -(n : Int) ≤ q) (q2 : q ≤ n) : -((m : Int) * n) ≤ p * q ∧ p * q ≤ (m : Int) * n := by
  have h : (p * q).natAbs ≤ m * n := by rw [Int.natAbs_mul]; exact Nat.mul_le_mul (by omega) (by omega)
  have e : ((m * n : Nat) : Int) = (m : Int) * n := by simp
  omega

def timesA (a b a' b' : Int) : Int := a * a' + 2 * b * b'
def timesB (a b a' b' : Int) : Int := a * b' + b * a'
theorem times_any (a b k a' b' k' : Int) (w : World) (a1 : -131072 ≤ a) (a2 : a ≤ 131072) (b1 : -131072 ≤ b) (b2 : b ≤ 131072) (k0 : 0 ≤ k) (k1 : k ≤ 10)
    (a1' : -131072 ≤ a') (a2' : a' ≤ 131072) (b1' : -131072 ≤ b') (b2' : b' ≤ 131072) (k0' : 0 ≤ k') (k1' : k' ≤ 10) :
    Calls Tryd.prog 153 #[num a b k, num a' b' k'] w (RetB (num (timesA a b a' b') (timesB a b a' b') (k + k')) w) := by
  obtain ⟨x1, x2⟩ := mul_fits 131072 131072 a1 a2 a1' a2'
  obtain ⟨x3, x4⟩ := mul_fits 262144 131072 (p := 2 * b) (by omega) (by omega) b1' b2'
  obtain ⟨x5, x6⟩ := mul_fits 131072 131072 a1 a2 b1' b2'
  obtain ⟨x7, x8⟩ := mul_fits 131072 131072 b1 b2 a1' a2'
  simp only [Int.reduceMul, Int.cast_ofNat_Int] at x1 x2 x3 x4 x5 x6 x7 x8
  go_enter Tryd.func153, Tryd.ntmps153
  go_wp2
  exact bodyPost_ret (v := num (a * a' + 2 * b * b') (a * b' + b * a') (k + k')) (by simp [results, Tryd.results153, go_sem, *]) rfl ⟨rfl, by (repeat (first | with_reducible exact Below.refl _ _ | with_reducible refine Below.drew ?_ | with_reducible refine Below.alloc ?_ (by first | omega | (simp; done) | (simp; omega)) _ | with_reducible refine Below.setCell ?_ (by first | omega | (simp; done) | (simp; omega)) _ | with_reducible refine Below.trans ?_ (Below.mono (by assumption) (by first | omega | (simp; done) | (simp; omega)))))⟩
end Go.Proofs.YtafbdnjabgfjeaaDoor
end
section
namespace Go.Proofs.YtafbdnjabgfjeaaDoor
open Go Go.RowKit OriM

theorem valid_bounds {a b k : Int} (h : validB a b k = true) : -131072 ≤ a ∧ a ≤ 131072 ∧ -131072 ≤ b ∧ b ≤ 131072 ∧ 0 ≤ k ∧ k ≤ 10 := by
  simp [validB, withinB, inB] at h; omega

/-- Any three int64. -/
structure I3 (a b k : Int) : Prop where
  a1 : -9223372036854775808 ≤ a
  a2 : a ≤ 9223372036854775807
  b1 : -9223372036854775808 ≤ b
  b2 : b ≤ 9223372036854775807

theorem valid_i3 (a b k : Int) (h : I3 a b k) (w : World) (hT : TzTab w) : Calls Tryd.prog 113 #[num a b k] w (RetB (.bool (validB a b k)) w) :=
  valid_any a b k w h.a1 h.a2 h.b1 h.b2 hT

theorem plusA_bound (a k a' k' : Int) (a1 : -131072 ≤ a) (a2 : a ≤ 131072) (a1' : -131072 ≤ a') (a2' : a' ≤ 131072) (k0 : 0 ≤ k) (k1 : k ≤ 10) (k0' : 0 ≤ k') (k1' : k' ≤ 10) :
    -268435456 ≤ plusA a k a' k' ∧ plusA a k a' k' ≤ 268435456 := by
  obtain ⟨s, _, e, s1, s2⟩ := shl_fits (a := a) (max k k' - k) a1 a2 (by omega) (by omega)
  obtain ⟨t, _, f, t1, t2⟩ := shl_fits (a := a') (max k k' - k') a1' a2' (by omega) (by omega)
  unfold plusA
  omega

/-- What a sum is: the fields, and whether there is one. -/
def addA (a b k a' b' k' : Int) : Int := limA (plusA a k a' k') (plusA b k b' k') (max k k')
def addB (a b k a' b' k' : Int) : Int := limB (plusA a k a' k') (plusA b k b' k') (max k k')
def addK (a b k a' b' k' : Int) : Int := limK (plusA a k a' k') (plusA b k b' k') (max k k')
def addO (a b k a' b' k' : Int) : Bool := limO (plusA a k a' k') (plusA b k b' k') (max k k')
def sumV (a b k a' b' k' : Int) : Value := numOk (addA a b k a' b' k') (addB a b k a' b' k') (addK a b k a' b' k') (addO a b k a' b' k')

/-- A sum that is limited: two calls in one contract. -/
theorem plus_val (a b k a' b' k' : Int) (hx : validB a b k = true) (hy : validB a' b' k' = true) :
    (∀ w, Calls Tryd.prog 162 #[num a b k, num a' b' k'] w (RetB (num (plusA a k a' k') (plusA b k b' k') (max k k')) w)) ∧
    (∀ w, TzTab w → Calls Tryd.prog 104 #[num (plusA a k a' k') (plusA b k b' k') (max k k')] w (RetB (numOk (addA a b k a' b' k') (addB a b k a' b' k') (addK a b k a' b' k') (addO a b k a' b' k')) w)) := by
  obtain ⟨a1, a2, b1, b2, k0, k1⟩ := valid_bounds hx
  obtain ⟨a1', a2', b1', b2', k0', k1'⟩ := valid_bounds hy
  obtain ⟨p1, p2⟩ := plusA_bound a k a' k' a1 a2 a1' a2' k0 k1 k0' k1'
  obtain ⟨q1, q2⟩ := plusA_bound b k b' k' b1 b2 b1' b2' k0 k1 k0' k1'
  exact ⟨fun w => plus_any a b k a' b' k' w a1 a2 b1 b2 k0 k1 a1' a2' b1' b2' k0' k1',
    fun w hT => limited_any _ _ _ w (by omega) (by omega) (by omega) (by omega) (by omega) (by omega) hT⟩

end Go.Proofs.YtafbdnjabgfjeaaDoor
end
