/- Sums, products and quotients of the program on the grid, with wide bounds. -/
import Derived.Test.YtafbdnjabgfjeaaDoorWcd
import Derived.Test.YtafbdnjabgfjeaaDoorGrid
namespace Go.Proofs.YtafbdnjabgfjeaaDoor
open Go Go.RowKit OriM

/-- A number on the grid, as a value. -/
noncomputable def gv (A B : Int) : Value := num (gA A B) (gB A B) (gK A B)

set_option maxRecDepth 100000 in
theorem gplus_lt (a b k a' b' k' sa sb : Int) (w : World) (_k0 : 0 ≤ k) (k1' : k' ≤ 16) (h : k < k') (ea : IntKind.i64.wrap (a * 2 ^ (k' - k).toNat) = sa) (eb : IntKind.i64.wrap (b * 2 ^ (k' - k).toNat) = sb) (ap1 : -2305843009213693952 ≤ a') (ap2 : a' ≤ 2305843009213693952) (bp1 : -2305843009213693952 ≤ b') (bp2 : b' ≤ 2305843009213693952) (sa1 : -2305843009213693952 ≤ sa) (sa2 : sa ≤ 2305843009213693952) (sb1 : -2305843009213693952 ≤ sb) (sb2 : sb ≤ 2305843009213693952) :
    Calls Tryd.prog 162 #[num a b k, num a' b' k'] w (RetB (num (sa + a') (sb + b') k') w) := by
  go_enter Tryd.func162, Tryd.ntmps162
  go_wp2
  obtain ⟨W, hW⟩ : ∃ W, W = ((w.alloc (Obj.cells #[Value.int IntKind.i64 a, Value.int IntKind.i64 b, Value.int IntKind.i64 k] 25)).alloc (Obj.cells #[Value.int IntKind.i64 a', Value.int IntKind.i64 b', Value.int IntKind.i64 k'] 25)).alloc (Obj.cells #[Value.int IntKind.i64 0, Value.int IntKind.i64 0, Value.int IntKind.i64 0] 25) := ⟨_, rfl⟩
  have hB : Below w.heap.size w W := by rw [hW]; (repeat (first | with_reducible exact Below.refl _ _ | with_reducible refine Below.drew ?_ | with_reducible refine Below.alloc ?_ (by first | omega | (simp; done) | (simp; omega)) _ | with_reducible refine Below.setCell ?_ (by first | omega | (simp; done) | (simp; omega)) _ | with_reducible refine Below.trans ?_ (Below.mono (by assumption) (by first | omega | (simp; done) | (simp; omega)))))
  have hz : w.heap.size + 1 + 1 < W.heap.size := by rw [hW]; simp
  have c0 : W.cell? ⟨w.heap.size, 0, none⟩ = some (.int .i64 a) := by rw [hW]; simp [go_sem]
  have c1 : W.cell? ⟨w.heap.size, 1, none⟩ = some (.int .i64 b) := by rw [hW]; simp [go_sem]
  have c2 : W.cell? ⟨w.heap.size, 2, none⟩ = some (.int .i64 k) := by rw [hW]; simp [go_sem]
  have d0 : W.cell? ⟨w.heap.size + 1, 0, none⟩ = some (.int .i64 a') := by rw [hW]; simp [go_sem]
  have d1 : W.cell? ⟨w.heap.size + 1, 1, none⟩ = some (.int .i64 b') := by rw [hW]; simp [go_sem]
  have d2 : W.cell? ⟨w.heap.size + 1, 2, none⟩ = some (.int .i64 k') := by rw [hW]; simp [go_sem]
  have o0 : W.cell? ⟨w.heap.size + 1 + 1, 0, none⟩ = some (.int .i64 0) := by rw [hW]; simp [go_sem]
  have o1 : W.cell? ⟨w.heap.size + 1 + 1, 1, none⟩ = some (.int .i64 0) := by rw [hW]; simp [go_sem]
  have o2 : W.cell? ⟨w.heap.size + 1 + 1, 2, none⟩ = some (.int .i64 0) := by rw [hW]; simp [go_sem]
  have f0 : W.frozen? ⟨w.heap.size + 1 + 1, 0, none⟩ = false := by rw [hW]; simp [go_sem]
  have f1 : W.frozen? ⟨w.heap.size + 1 + 1, 1, none⟩ = false := by rw [hW]; simp [go_sem]
  have f2 : W.frozen? ⟨w.heap.size + 1 + 1, 2, none⟩ = false := by rw [hW]; simp [go_sem]
  rw [← hW]
  clear hW
  have q0 : 0 ≤ k' - k := by omega
  have q1 : ¬ (k' - k < 0) := by omega
  have q2 : min (k' - k).toNat 64 = (k' - k).toNat := by omega
  have x1 : IntKind.i64.wrap (sa + a') = sa + a' := IntWalk.i64_in _ (by omega)
  have x2 : IntKind.i64.wrap (sb + b') = sb + b' := IntWalk.i64_in _ (by omega)
  have x3 : IntKind.i64.wrap a' = a' := IntWalk.i64_in _ (by omega)
  have x4 : IntKind.i64.wrap b' = b' := IntWalk.i64_in _ (by omega)
  have x0 : IntKind.i64.wrap (k' - k) = k' - k := IntWalk.i64_in _ (by omega)
  have y0 : IntKind.i64.wrap 0 = 0 := by decide
  go_still_tail 32, (by kernel_rfl)
  change wpList _ _ _ _ _ W.drew
  go_wp2
  exact bodyPost_ret (v := num (sa + a') (sb + b') (k')) (by simp [results, Tryd.results162, go_sem, *]) rfl ⟨rfl, by (repeat (first | with_reducible exact Below.refl _ _ | with_reducible refine Below.drew ?_ | with_reducible refine Below.alloc ?_ (by first | omega | (simp; done) | (simp; omega)) _ | with_reducible refine Below.setCell ?_ (by first | omega | (simp; done) | (simp; omega)) _ | with_reducible refine Below.trans ?_ (Below.mono (by assumption) (by first | omega | (simp; done) | (simp; omega)))))⟩


set_option maxRecDepth 100000 in
theorem gplus_gt (a b k a' b' k' sa sb : Int) (w : World) (_k0 : 0 ≤ k') (k1 : k ≤ 16) (h : k' < k) (ea : IntKind.i64.wrap (a' * 2 ^ (k - k').toNat) = sa) (eb : IntKind.i64.wrap (b' * 2 ^ (k - k').toNat) = sb) (a1 : -2305843009213693952 ≤ a) (a2 : a ≤ 2305843009213693952) (b1 : -2305843009213693952 ≤ b) (b2 : b ≤ 2305843009213693952) (sa1 : -2305843009213693952 ≤ sa) (sa2 : sa ≤ 2305843009213693952) (sb1 : -2305843009213693952 ≤ sb) (sb2 : sb ≤ 2305843009213693952) :
    Calls Tryd.prog 162 #[num a b k, num a' b' k'] w (RetB (num (a + sa) (b + sb) k) w) := by
  go_enter Tryd.func162, Tryd.ntmps162
  go_wp2
  obtain ⟨W, hW⟩ : ∃ W, W = ((w.alloc (Obj.cells #[Value.int IntKind.i64 a, Value.int IntKind.i64 b, Value.int IntKind.i64 k] 25)).alloc (Obj.cells #[Value.int IntKind.i64 a', Value.int IntKind.i64 b', Value.int IntKind.i64 k'] 25)).alloc (Obj.cells #[Value.int IntKind.i64 0, Value.int IntKind.i64 0, Value.int IntKind.i64 0] 25) := ⟨_, rfl⟩
  have hB : Below w.heap.size w W := by rw [hW]; (repeat (first | with_reducible exact Below.refl _ _ | with_reducible refine Below.drew ?_ | with_reducible refine Below.alloc ?_ (by first | omega | (simp; done) | (simp; omega)) _ | with_reducible refine Below.setCell ?_ (by first | omega | (simp; done) | (simp; omega)) _ | with_reducible refine Below.trans ?_ (Below.mono (by assumption) (by first | omega | (simp; done) | (simp; omega)))))
  have hz : w.heap.size + 1 + 1 < W.heap.size := by rw [hW]; simp
  have c0 : W.cell? ⟨w.heap.size, 0, none⟩ = some (.int .i64 a) := by rw [hW]; simp [go_sem]
  have c1 : W.cell? ⟨w.heap.size, 1, none⟩ = some (.int .i64 b) := by rw [hW]; simp [go_sem]
  have c2 : W.cell? ⟨w.heap.size, 2, none⟩ = some (.int .i64 k) := by rw [hW]; simp [go_sem]
  have d0 : W.cell? ⟨w.heap.size + 1, 0, none⟩ = some (.int .i64 a') := by rw [hW]; simp [go_sem]
  have d1 : W.cell? ⟨w.heap.size + 1, 1, none⟩ = some (.int .i64 b') := by rw [hW]; simp [go_sem]
  have d2 : W.cell? ⟨w.heap.size + 1, 2, none⟩ = some (.int .i64 k') := by rw [hW]; simp [go_sem]
  have o0 : W.cell? ⟨w.heap.size + 1 + 1, 0, none⟩ = some (.int .i64 0) := by rw [hW]; simp [go_sem]
  have o1 : W.cell? ⟨w.heap.size + 1 + 1, 1, none⟩ = some (.int .i64 0) := by rw [hW]; simp [go_sem]
  have o2 : W.cell? ⟨w.heap.size + 1 + 1, 2, none⟩ = some (.int .i64 0) := by rw [hW]; simp [go_sem]
  have f0 : W.frozen? ⟨w.heap.size + 1 + 1, 0, none⟩ = false := by rw [hW]; simp [go_sem]
  have f1 : W.frozen? ⟨w.heap.size + 1 + 1, 1, none⟩ = false := by rw [hW]; simp [go_sem]
  have f2 : W.frozen? ⟨w.heap.size + 1 + 1, 2, none⟩ = false := by rw [hW]; simp [go_sem]
  rw [← hW]
  clear hW
  have q0 : 0 ≤ k - k' := by omega
  have q1 : ¬ (k - k' < 0) := by omega
  have q2 : min (k - k').toNat 64 = (k - k').toNat := by omega
  have x1 : IntKind.i64.wrap (a + sa) = a + sa := IntWalk.i64_in _ (by omega)
  have x2 : IntKind.i64.wrap (b + sb) = b + sb := IntWalk.i64_in _ (by omega)
  have x3 : IntKind.i64.wrap a = a := IntWalk.i64_in _ (by omega)
  have x4 : IntKind.i64.wrap b = b := IntWalk.i64_in _ (by omega)
  have x0 : IntKind.i64.wrap (k - k') = k - k' := IntWalk.i64_in _ (by omega)
  have y0 : IntKind.i64.wrap 0 = 0 := by decide
  go_still_tail 32, (by kernel_rfl)
  change wpList _ _ _ _ _ W.drew
  go_wp2
  exact bodyPost_ret (v := num (a + sa) (b + sb) (k)) (by simp [results, Tryd.results162, go_sem, *]) rfl ⟨rfl, by (repeat (first | with_reducible exact Below.refl _ _ | with_reducible refine Below.drew ?_ | with_reducible refine Below.alloc ?_ (by first | omega | (simp; done) | (simp; omega)) _ | with_reducible refine Below.setCell ?_ (by first | omega | (simp; done) | (simp; omega)) _ | with_reducible refine Below.trans ?_ (Below.mono (by assumption) (by first | omega | (simp; done) | (simp; omega)))))⟩


set_option maxRecDepth 100000 in
theorem gplus_eq (a b k a' b' : Int) (w : World) (_k0 : 0 ≤ k) (_k1 : k ≤ 16) (a1 : -2305843009213693952 ≤ a) (a2 : a ≤ 2305843009213693952) (b1 : -2305843009213693952 ≤ b) (b2 : b ≤ 2305843009213693952) (ap1 : -2305843009213693952 ≤ a') (ap2 : a' ≤ 2305843009213693952) (bp1 : -2305843009213693952 ≤ b') (bp2 : b' ≤ 2305843009213693952) :
    Calls Tryd.prog 162 #[num a b k, num a' b' k] w (RetB (num (a + a') (b + b') k) w) := by
  go_enter Tryd.func162, Tryd.ntmps162
  go_wp2
  obtain ⟨W, hW⟩ : ∃ W, W = ((w.alloc (Obj.cells #[Value.int IntKind.i64 a, Value.int IntKind.i64 b, Value.int IntKind.i64 k] 25)).alloc (Obj.cells #[Value.int IntKind.i64 a', Value.int IntKind.i64 b', Value.int IntKind.i64 k] 25)).alloc (Obj.cells #[Value.int IntKind.i64 0, Value.int IntKind.i64 0, Value.int IntKind.i64 0] 25) := ⟨_, rfl⟩
  have hB : Below w.heap.size w W := by rw [hW]; (repeat (first | with_reducible exact Below.refl _ _ | with_reducible refine Below.drew ?_ | with_reducible refine Below.alloc ?_ (by first | omega | (simp; done) | (simp; omega)) _ | with_reducible refine Below.setCell ?_ (by first | omega | (simp; done) | (simp; omega)) _ | with_reducible refine Below.trans ?_ (Below.mono (by assumption) (by first | omega | (simp; done) | (simp; omega)))))
  have hz : w.heap.size + 1 + 1 < W.heap.size := by rw [hW]; simp
  have c0 : W.cell? ⟨w.heap.size, 0, none⟩ = some (.int .i64 a) := by rw [hW]; simp [go_sem]
  have c1 : W.cell? ⟨w.heap.size, 1, none⟩ = some (.int .i64 b) := by rw [hW]; simp [go_sem]
  have c2 : W.cell? ⟨w.heap.size, 2, none⟩ = some (.int .i64 k) := by rw [hW]; simp [go_sem]
  have d0 : W.cell? ⟨w.heap.size + 1, 0, none⟩ = some (.int .i64 a') := by rw [hW]; simp [go_sem]
  have d1 : W.cell? ⟨w.heap.size + 1, 1, none⟩ = some (.int .i64 b') := by rw [hW]; simp [go_sem]
  have d2 : W.cell? ⟨w.heap.size + 1, 2, none⟩ = some (.int .i64 k) := by rw [hW]; simp [go_sem]
  have o0 : W.cell? ⟨w.heap.size + 1 + 1, 0, none⟩ = some (.int .i64 0) := by rw [hW]; simp [go_sem]
  have o1 : W.cell? ⟨w.heap.size + 1 + 1, 1, none⟩ = some (.int .i64 0) := by rw [hW]; simp [go_sem]
  have o2 : W.cell? ⟨w.heap.size + 1 + 1, 2, none⟩ = some (.int .i64 0) := by rw [hW]; simp [go_sem]
  have f0 : W.frozen? ⟨w.heap.size + 1 + 1, 0, none⟩ = false := by rw [hW]; simp [go_sem]
  have f1 : W.frozen? ⟨w.heap.size + 1 + 1, 1, none⟩ = false := by rw [hW]; simp [go_sem]
  have f2 : W.frozen? ⟨w.heap.size + 1 + 1, 2, none⟩ = false := by rw [hW]; simp [go_sem]
  rw [← hW]
  clear hW
  have x1 : IntKind.i64.wrap (a + a') = a + a' := IntWalk.i64_in _ (by omega)
  have x2 : IntKind.i64.wrap (b + b') = b + b' := IntWalk.i64_in _ (by omega)
  have x3 : IntKind.i64.wrap a = a := IntWalk.i64_in _ (by omega)
  have x4 : IntKind.i64.wrap b = b := IntWalk.i64_in _ (by omega)
  have x5 : IntKind.i64.wrap a' = a' := IntWalk.i64_in _ (by omega)
  have x6 : IntKind.i64.wrap b' = b' := IntWalk.i64_in _ (by omega)
  have y0 : IntKind.i64.wrap 0 = 0 := by decide
  go_still_tail 32, (by kernel_rfl)
  change wpList _ _ _ _ _ W.drew
  go_wp2
  exact bodyPost_ret (v := num (a + a') (b + b') (k)) (by simp [results, Tryd.results162, go_sem, *]) rfl ⟨rfl, by (repeat (first | with_reducible exact Below.refl _ _ | with_reducible refine Below.drew ?_ | with_reducible refine Below.alloc ?_ (by first | omega | (simp; done) | (simp; omega)) _ | with_reducible refine Below.setCell ?_ (by first | omega | (simp; done) | (simp; omega)) _ | with_reducible refine Below.trans ?_ (Below.mono (by assumption) (by first | omega | (simp; done) | (simp; omega)))))⟩


theorem wrap_in {x : Int} (h0 : -9223372036854775808 ≤ x) (h1 : x ≤ 9223372036854775807) : IntKind.i64.wrap x = x := IntWalk.i64_in _ ⟨h0, h1⟩

/-- The sum of two numbers on the grid, ahead of lowest terms. -/
theorem gplus_any {A B A' B' : Int} (h : Bd2 1152921504606846976 A B) (h' : Bd2 1152921504606846976 A' B') :
    ∃ P R M : Int, 0 ≤ M ∧ M ≤ 16 ∧ Gr P R M.toNat (A + A') (B + B') ∧ ∀ w, Calls Tryd.prog 162 #[gv A B, gv A' B'] w (RetB (num P R M) w) := by
  have g := gr_self A B
  have g' := gr_self A' B'
  have k := gK_le A B
  have k' := gK_le A' B'
  obtain ⟨a1, a2, b1, b2⟩ := h
  obtain ⟨a1', a2', b1', b2'⟩ := h'
  have z1 := shift_zero g.1 k a1 a2
  have z2 := shift_zero g.2 k b1 b2
  have z3 := shift_zero g'.1 k' a1' a2'
  have z4 := shift_zero g'.2 k' b1' b2'
  unfold gv
  generalize gA A B = a at *
  generalize gB A B = b at *
  generalize gA A' B' = a' at *
  generalize gB A' B' = b' at *
  generalize gK A B = n at *
  generalize gK A' B' = n' at *
  rcases Nat.lt_trichotomy n n' with hn | hn | hn
  · have s1 := shift_le g.1 (show n ≤ n' by omega) k' a1 a2
    have s2 := shift_le g.2 (show n ≤ n' by omega) k' b1 b2
    refine ⟨a * 2 ^ (n' - n) + a', b * 2 ^ (n' - n) + b', n', by omega, by omega, ?_, fun w => ?_⟩
    · have := gr_plus g g' (show n ≤ n' by omega) (Nat.le_refl _)
      simpa using this
    · have e : ((n' : Int) - n).toNat = n' - n := by omega
      exact gplus_lt a b n a' b' n' _ _ w (by omega) (by omega) (by omega) (by rw [e]; exact wrap_in (by omega) (by omega)) (by rw [e]; exact wrap_in (by omega) (by omega)) (by omega) (by omega) (by omega) (by omega) (by omega) (by omega) (by omega) (by omega)
  · subst hn
    refine ⟨a + a', b + b', n, by omega, by omega, ?_, fun w => ?_⟩
    · have := gr_plus g g' (Nat.le_refl _) (Nat.le_refl _)
      simpa using this
    · exact gplus_eq a b n a' b' w (by omega) (by omega) (by omega) (by omega) (by omega) (by omega) (by omega) (by omega) (by omega) (by omega)
  · have s1 := shift_le g'.1 (show n' ≤ n by omega) k a1' a2'
    have s2 := shift_le g'.2 (show n' ≤ n by omega) k b1' b2'
    refine ⟨a + a' * 2 ^ (n - n'), b + b' * 2 ^ (n - n'), n, by omega, by omega, ?_, fun w => ?_⟩
    · have := gr_plus g g' (Nat.le_refl _) (show n' ≤ n by omega)
      simpa using this
    · have e : ((n : Int) - n').toNat = n - n' := by omega
      exact gplus_gt a b n a' b' n' _ _ w (by omega) (by omega) (by omega) (by rw [e]; exact wrap_in (by omega) (by omega)) (by rw [e]; exact wrap_in (by omega) (by omega)) (by omega) (by omega) (by omega) (by omega) (by omega) (by omega) (by omega) (by omega)

theorem gneg_any (a b k : Int) (w : World) (a1 : -2305843009213693952 ≤ a) (a2 : a ≤ 2305843009213693952) (b1 : -2305843009213693952 ≤ b) (b2 : b ≤ 2305843009213693952) :
    Calls Tryd.prog 157 #[num a b k] w (RetB (num (-a) (-b) k) w) := by
  go_enter Tryd.func157, Tryd.ntmps157
  go_wp2
  try go_region
  go_wp2
  exact bodyPost_ret (v := num (-a) (-b) k) (by simp [results, Tryd.results157, go_sem, *]) rfl ⟨rfl, by (repeat (first | with_reducible exact Below.refl _ _ | with_reducible refine Below.drew ?_ | with_reducible refine Below.alloc ?_ (by first | omega | (simp; done) | (simp; omega)) _ | with_reducible refine Below.setCell ?_ (by first | omega | (simp; done) | (simp; omega)) _ | with_reducible refine Below.trans ?_ (Below.mono (by assumption) (by first | omega | (simp; done) | (simp; omega)))))⟩

/-- A product that fits. -/
theorem gtimes_core (a b k c d l pa pb qa qb q2 : Int) (w : World) (h1 : IntKind.i64.wrap (a * c) = pa) (h2 : IntKind.i64.wrap (2 * b) = q2) (h3 : IntKind.i64.wrap (q2 * d) = pb) (h4 : IntKind.i64.wrap (a * d) = qa) (h5 : IntKind.i64.wrap (b * c) = qb)
    (b1 : -2305843009213693952 ≤ pa) (b2 : pa ≤ 2305843009213693952) (b3 : -2305843009213693952 ≤ pb) (b4 : pb ≤ 2305843009213693952) (b5 : -2305843009213693952 ≤ qa) (b6 : qa ≤ 2305843009213693952) (b7 : -2305843009213693952 ≤ qb) (b8 : qb ≤ 2305843009213693952) (k0 : 0 ≤ k) (k1 : k ≤ 64) (l0 : 0 ≤ l) (l1 : l ≤ 64) :
    Calls Tryd.prog 153 #[num a b k, num c d l] w (RetB (num (pa + pb) (qa + qb) (k + l)) w) := by
  go_enter Tryd.func153, Tryd.ntmps153
  go_wp2
  exact bodyPost_ret (v := num (pa + pb) (qa + qb) (k + l)) (by simp [results, Tryd.results153, go_sem, *]) rfl ⟨rfl, by (repeat (first | with_reducible exact Below.refl _ _ | with_reducible refine Below.drew ?_ | with_reducible refine Below.alloc ?_ (by first | omega | (simp; done) | (simp; omega)) _ | with_reducible refine Below.setCell ?_ (by first | omega | (simp; done) | (simp; omega)) _ | with_reducible refine Below.trans ?_ (Below.mono (by assumption) (by first | omega | (simp; done) | (simp; omega)))))⟩
end Go.Proofs.YtafbdnjabgfjeaaDoor
