/- The model's AddNum, SubNum, MulNum. -/
import Derived.Test.YtafbdnjabgfjeaaDoorSc
namespace Go.Proofs.YtafbdnjabgfjeaaDoor
open Go Go.RowKit OriM

/-- Twice in lowest terms is once. -/
theorem lim_low (a b : Int) (k : Nat) (K : Int) (hK : K.toNat = k) : numOk (limA (lowA a b k) (lowB a b k) (lowK a b k)) (limB (lowA a b k) (lowB a b k) (lowK a b k)) (limK (lowA a b k) (lowB a b k) (lowK a b k)) (limO (lowA a b k) (lowB a b k) (lowK a b k)) = numOk (limA a b K) (limB a b K) (limK a b K) (limO a b K) := by
  subst hK
  obtain ⟨e1, e2, e3⟩ := low_of_canon (low_canon K.toNat a b)
  simp only [limA, limB, limK, limO, Int.toNat_natCast, e1, e2, e3]

theorem lNum_low (a b K : Int) (a1 : -9223372036854775808 ≤ a) (a2 : a ≤ 9223372036854775807) (b1 : -9223372036854775808 ≤ b) (b2 : b ≤ 9223372036854775807) (K0 : 0 ≤ K) (K1 : K ≤ 64) (w : World) :
    Calls Tryd.prog 69 #[num (lowA a b K.toNat) (lowB a b K.toNat) (lowK a b K.toNat)] w (RetB (numOk (limA a b K) (limB a b K) (limK a b K) (limO a b K)) w) := by
  obtain ⟨a3, a4⟩ := div_bound (twos K.toNat a b) a1 a2
  obtain ⟨b3, b4⟩ := div_bound (twos K.toNat a b) b1 b2
  rw [← lim_low a b K.toNat K rfl]
  exact lNum_any (lowA a b K.toNat) (lowB a b K.toNat) (lowK a b K.toNat) w a3 a4 b3 b4 (by unfold lowK; omega)

/-- The wide sum of two valid numbers, and its limits. -/
def wA (a b k a' b' k' : Int) : Int := lowA (plusA a k a' k') (plusA b k b' k') (max k k').toNat
def wB (a b k a' b' k' : Int) : Int := lowB (plusA a k a' k') (plusA b k b' k') (max k k').toNat
def wK (a b k a' b' k' : Int) : Int := lowK (plusA a k a' k') (plusA b k b' k') (max k k').toNat

theorem lAdd_valid (a b k a' b' k' : Int) (hx : validB a b k = true) (hy : validB a' b' k' = true) (w : World) :
    Calls Tryd.prog 131 #[num a b k, num a' b' k'] w (RetB (num (wA a b k a' b' k') (wB a b k a' b' k') (wK a b k a' b' k')) w) := by
  obtain ⟨a1, a2, b1, b2, k0, k1⟩ := valid_bounds hx
  obtain ⟨a1', a2', b1', b2', k0', k1'⟩ := valid_bounds hy
  exact lAdd_core a b k a' b' k' _ _ _ _ (max k k') w (max k k' - k).toNat (max k k' - k').toNat k0 k1 k0' k1' rfl (by omega) (by omega)
    (up_start k _ a1 a2 k0 (by omega) (by omega)) (up_start k _ b1 b2 k0 (by omega) (by omega)) (up_start k' _ a1' a2' k0' (by omega) (by omega)) (up_start k' _ b1' b2' k0' (by omega) (by omega))

theorem sAdd_val (a b k a' b' k' : Int) (hx : validB a b k = true) (hy : validB a' b' k' = true) :
    (∀ w, Calls Tryd.prog 131 #[num a b k, num a' b' k'] w (RetB (num (wA a b k a' b' k') (wB a b k a' b' k') (wK a b k a' b' k')) w)) ∧
    (∀ w, Calls Tryd.prog 69 #[num (wA a b k a' b' k') (wB a b k a' b' k') (wK a b k a' b' k')] w (RetB (numOk (addA a b k a' b' k') (addB a b k a' b' k') (addK a b k a' b' k') (addO a b k a' b' k')) w)) := by
  refine ⟨lAdd_valid a b k a' b' k' hx hy, ?_⟩
  obtain ⟨a1, a2, b1, b2, k0, k1⟩ := valid_bounds hx
  obtain ⟨a1', a2', b1', b2', k0', k1'⟩ := valid_bounds hy
  obtain ⟨p1, p2⟩ := plusA_bound a k a' k' a1 a2 a1' a2' k0 k1 k0' k1'
  obtain ⟨q1, q2⟩ := plusA_bound b k b' k' b1 b2 b1' b2' k0 k1 k0' k1'
  exact lNum_low _ _ _ (by omega) (by omega) (by omega) (by omega) (by omega) (by omega)

theorem lSub_valid (a b k a' b' k' : Int) (hx : validB a b k = true) (hy : validB a' b' k' = true) (w : World) :
    Calls Tryd.prog 126 #[num a b k, num a' b' k'] w (RetB (num (wA a b k (-a') (-b') k') (wB a b k (-a') (-b') k') (wK a b k (-a') (-b') k')) w) := by
  have HP := Lib.hid (lAdd_valid a b k (-a') (-b') k' hx (by rw [valid_neg]; exact hy))
  obtain ⟨a1', a2', b1', b2', k0', k1'⟩ := valid_bounds hy
  have HN := Lib.hid (fun w => lNeg_any a' b' k' w a1' a2' b1' b2')
  clear hx hy a1' a2' b1' b2' k0' k1'
  generalize wA a b k (-a') (-b') k' = rA at *
  generalize wB a b k (-a') (-b') k' = rB at *
  generalize wK a b k (-a') (-b') k' = rK at *
  go_enter Tryd.func126, Tryd.ntmps126
  go_wp2_with fail
  go_region_held3 (fun w' => w'.cell? ⟨w.heap.size, 0, none⟩ = some (.int .i64 a) ∧ w'.cell? ⟨w.heap.size, 1, none⟩ = some (.int .i64 b) ∧ w'.cell? ⟨w.heap.size, 2, none⟩ = some (.int .i64 k) ∧ w'.cell? ⟨w.heap.size + 1, 0, none⟩ = some (.int .i64 a') ∧ w'.cell? ⟨w.heap.size + 1, 1, none⟩ = some (.int .i64 b') ∧ w'.cell? ⟨w.heap.size + 1, 2, none⟩ = some (.int .i64 k')) ((first | (go_simp; done) | (simp [*]; done)))
    ((first
    | (go_at_call 161; refine (HN.out _).mono ?_; rintro e w3 ⟨rfl, hb3⟩; (try replace hb3 := Below.undrew hb3); obtain ⟨hc3, hf3⟩ := bcell hb3; have hz3 := hb3.size; (try simp at hz3); have hz3a : w.heap.size < w3.heap.size := (by omega); have hz3b : w.heap.size + 1 < w3.heap.size := (by omega); have hz3c : w.heap.size + 1 + 1 < w3.heap.size := (by omega))
    | (go_at_call 131; refine (HP.out _).mono ?_; rintro e w4 ⟨rfl, hb4⟩; (try replace hb4 := Below.undrew hb4); obtain ⟨hc4, hf4⟩ := bcell hb4; have hz4 := hb4.size; (try simp at hz4); have hz4a : w.heap.size < w4.heap.size := (by omega); have hz4b : w.heap.size + 1 < w4.heap.size := (by omega); have hz4c : w.heap.size + 1 + 1 < w4.heap.size := (by omega))))
  go_wp2_with fail
  exact bodyPost_ret (v := num rA rB rK) (by simp [results, Tryd.results126, go_sem, *]) rfl ⟨rfl, by (repeat (first | with_reducible exact Below.refl _ _ | with_reducible refine Below.drew ?_ | with_reducible refine Below.alloc ?_ (by first | omega | (simp; done) | (simp; omega)) _ | with_reducible refine Below.setCell ?_ (by first | omega | (simp; done) | (simp; omega)) _ | with_reducible refine Below.trans ?_ (Below.mono (by assumption) (by first | omega | (simp; done) | (simp; omega)))))⟩

theorem sSub_val (a b k a' b' k' : Int) (hx : validB a b k = true) (hy : validB a' b' k' = true) :
    (∀ w, Calls Tryd.prog 126 #[num a b k, num a' b' k'] w (RetB (num (wA a b k (-a') (-b') k') (wB a b k (-a') (-b') k') (wK a b k (-a') (-b') k')) w)) ∧
    (∀ w, Calls Tryd.prog 69 #[num (wA a b k (-a') (-b') k') (wB a b k (-a') (-b') k') (wK a b k (-a') (-b') k')] w (RetB (numOk (addA a b k (-a') (-b') k') (addB a b k (-a') (-b') k') (addK a b k (-a') (-b') k') (addO a b k (-a') (-b') k')) w)) :=
  ⟨lSub_valid a b k a' b' k' hx hy, (sAdd_val a b k (-a') (-b') k' hx (by rw [valid_neg]; exact hy)).2⟩

def mwA (a b k a' b' k' : Int) : Int := lowA (timesA a b a' b') (timesB a b a' b') (k + k').toNat
def mwB (a b k a' b' k' : Int) : Int := lowB (timesA a b a' b') (timesB a b a' b') (k + k').toNat
def mwK (a b k a' b' k' : Int) : Int := lowK (timesA a b a' b') (timesB a b a' b') (k + k').toNat

theorem lMul_valid (a b k a' b' k' : Int) (hx : validB a b k = true) (hy : validB a' b' k' = true) (w : World) :
    Calls Tryd.prog 132 #[num a b k, num a' b' k'] w (RetB (num (mwA a b k a' b' k') (mwB a b k a' b' k') (mwK a b k a' b' k')) w) := by
  obtain ⟨a1, a2, b1, b2, k0, k1⟩ := valid_bounds hx
  obtain ⟨a1', a2', b1', b2', k0', k1'⟩ := valid_bounds hy
  obtain ⟨p1, p2, q1, q2⟩ := times_bounds a1 a2 b1 b2 a1' a2' b1' b2'
  obtain ⟨x1, x2⟩ := mul_fits 131072 131072 a1 a2 a1' a2'
  obtain ⟨x3, x4⟩ := mul_fits 262144 131072 (p := 2 * b) (by omega) (by omega) b1' b2'
  obtain ⟨x5, x6⟩ := mul_fits 131072 131072 a1 a2 b1' b2'
  obtain ⟨x7, x8⟩ := mul_fits 131072 131072 b1 b2 a1' a2'
  have low := fun w => low_any (timesA a b a' b') (timesB a b a' b') (k + k').toNat w (by omega) (by omega) (by omega) (by omega) (by omega)
  rw [show (((k + k').toNat : Nat) : Int) = k + k' by omega] at low
  have HL := Lib.hid low
  clear low p1 p2 q1 q2 hx hy
  simp only [Int.reduceMul, Int.cast_ofNat_Int] at x1 x2 x3 x4 x5 x6 x7 x8
  unfold mwA mwB mwK
  generalize lowA (timesA a b a' b') (timesB a b a' b') (k + k').toNat = rA at *
  generalize lowB (timesA a b a' b') (timesB a b a' b') (k + k').toNat = rB at *
  generalize ((lowK (timesA a b a' b') (timesB a b a' b') (k + k').toNat : Nat) : Int) = rK at *
  go_enter Tryd.func132, Tryd.ntmps132
  go_wp2_with fail
  refine (HL.out _).mono ?_
  rintro e w1 ⟨rfl, hb1⟩; (try replace hb1 := Below.undrew hb1); obtain ⟨hc1, hf1⟩ := bcell hb1; have hz1 := hb1.size; (try simp at hz1); have hz1a : w.heap.size < w1.heap.size := (by omega); have hz1b : w.heap.size + 1 < w1.heap.size := (by omega); have hz1c : w.heap.size + 1 + 1 < w1.heap.size := (by omega)
  go_wp2_with fail
  exact bodyPost_ret (v := num rA rB rK) (by simp [results, Tryd.results132, go_sem, *]) rfl ⟨rfl, by (repeat (first | with_reducible exact Below.refl _ _ | with_reducible refine Below.drew ?_ | with_reducible refine Below.alloc ?_ (by first | omega | (simp; done) | (simp; omega)) _ | with_reducible refine Below.setCell ?_ (by first | omega | (simp; done) | (simp; omega)) _ | with_reducible refine Below.trans ?_ (Below.mono (by assumption) (by first | omega | (simp; done) | (simp; omega)))))⟩

theorem sMul_val (a b k a' b' k' : Int) (hx : validB a b k = true) (hy : validB a' b' k' = true) :
    (∀ w, Calls Tryd.prog 132 #[num a b k, num a' b' k'] w (RetB (num (mwA a b k a' b' k') (mwB a b k a' b' k') (mwK a b k a' b' k')) w)) ∧
    (∀ w, Calls Tryd.prog 69 #[num (mwA a b k a' b' k') (mwB a b k a' b' k') (mwK a b k a' b' k')] w (RetB (numOk (mulA a b k a' b' k') (mulB a b k a' b' k') (mulK a b k a' b' k') (mulO a b k a' b' k')) w)) := by
  refine ⟨lMul_valid a b k a' b' k' hx hy, ?_⟩
  obtain ⟨a1, a2, b1, b2, k0, k1⟩ := valid_bounds hx
  obtain ⟨a1', a2', b1', b2', k0', k1'⟩ := valid_bounds hy
  obtain ⟨p1, p2, q1, q2⟩ := times_bounds a1 a2 b1 b2 a1' a2' b1' b2'
  exact lNum_low _ _ _ (by omega) (by omega) (by omega) (by omega) (by omega) (by omega)

end Go.Proofs.YtafbdnjabgfjeaaDoor
