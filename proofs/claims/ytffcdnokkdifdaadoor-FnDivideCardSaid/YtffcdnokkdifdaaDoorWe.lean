/- Contracts of the program's differences and products, and of MakeNum. -/
import Derived.Test.YtffcdnokkdifdaaDoorWd
namespace Go.Proofs.YtffcdnokkdifdaaDoor
open Go Go.RowKit OriM

theorem valid_neg (a b k : Int) : validB (-a) (-b) k = validB a b k := by
  rw [Bool.eq_iff_iff]; simp [validB, withinB, inB, oddB]; omega

theorem AddNum_any (a b k a' b' k' : Int) (h : I3 a b k) (h' : I3 a' b' k') (w : World) (hT : TzTab w) :
    Calls Tryd.prog 19 #[num a b k, num a' b' k'] w (RetB (if validB a b k && validB a' b' k' then sumV a b k a' b' k' else numOk 0 0 0 false) w) := by
  by_cases hv : (validB a b k && validB a' b' k') = true
  · rw [if_pos hv]; rw [Bool.and_eq_true] at hv; exact AddNum_ok a b k a' b' k' hv.1 hv.2 h h' w hT
  · rw [if_neg hv]; exact AddNum_no a b k a' b' k' (by simpa using hv) h h' w hT

theorem SubNum_ok (a b k a' b' k' : Int) (hx : validB a b k = true) (hy : validB a' b' k' = true) (h : I3 a b k) (h' : I3 a' b' k') (w : World) (hT : TzTab w) :
    Calls Tryd.prog 22 #[num a b k, num a' b' k'] w (RetB (sumV a b k (-a') (-b') k') w) := by
  obtain ⟨P, L⟩ := plus_val a b k (-a') (-b') k' hx (by rw [valid_neg]; exact hy)
  have HP := Lib.hid P
  have HL := Lib.hid L
  have HX := Lib.hid (fun w hT => hx ▸ valid_i3 a b k h w hT)
  have HY := Lib.hid (fun w hT => hy ▸ valid_i3 a' b' k' h' w hT)
  obtain ⟨a1', a2', b1', b2', k0', k1'⟩ := valid_bounds hy
  have HN := Lib.hid (fun w => negated_any a' b' k' w a1' a2' b1' b2')
  clear P L hx hy h h' a1' a2' b1' b2' k0' k1'
  unfold sumV
  generalize addA a b k (-a') (-b') k' = rA at *
  generalize addB a b k (-a') (-b') k' = rB at *
  generalize addK a b k (-a') (-b') k' = rK at *
  generalize addO a b k (-a') (-b') k' = rO at *
  generalize plusA a k (-a') k' = pA at *
  generalize plusA b k (-b') k' = pB at *
  generalize max k k' = pK at *
  go_enter Tryd.func22, Tryd.ntmps22
  go_wp2_with fail
  refine (HX.out _ ?_).mono ?_; (repeat (first | with_reducible assumption | with_reducible apply TzTab.drew | with_reducible apply TzTab.alloc))
  rintro e w1 ⟨rfl, hb1⟩; (try replace hb1 := Below.undrew hb1); obtain ⟨hc1, hf1⟩ := bcell hb1; have hT1 := TzTab.below (by (repeat (first | with_reducible assumption | with_reducible apply TzTab.drew | with_reducible apply TzTab.alloc))) hb1 (Nat.le_refl _); have hz1 := hb1.size; (try simp at hz1); have hz1a : w.heap.size < w1.heap.size := (by omega); have hz1b : w.heap.size + 1 < w1.heap.size := (by omega); have hz1c : w.heap.size + 1 + 1 < w1.heap.size := (by omega)
  go_wp2_with fail
  refine (HY.out _ ?_).mono ?_; (repeat (first | with_reducible assumption | with_reducible apply TzTab.drew | with_reducible apply TzTab.alloc))
  rintro e w2 ⟨rfl, hb2⟩; (try replace hb2 := Below.undrew hb2); obtain ⟨hc2, hf2⟩ := bcell hb2; have hT2 := TzTab.below (by (repeat (first | with_reducible assumption | with_reducible apply TzTab.drew | with_reducible apply TzTab.alloc))) hb2 (Nat.le_refl _); have hz2 := hb2.size; (try simp at hz2); have hz2a : w.heap.size < w2.heap.size := (by omega); have hz2b : w.heap.size + 1 < w2.heap.size := (by omega); have hz2c : w.heap.size + 1 + 1 < w2.heap.size := (by omega)
  go_wp2_with fail
  go_region_held3 (fun w' => w'.cell? ⟨w.heap.size, 0, none⟩ = some (.int .i64 a) ∧ w'.cell? ⟨w.heap.size, 1, none⟩ = some (.int .i64 b) ∧ w'.cell? ⟨w.heap.size, 2, none⟩ = some (.int .i64 k) ∧ w'.cell? ⟨w.heap.size + 1, 0, none⟩ = some (.int .i64 a') ∧ w'.cell? ⟨w.heap.size + 1, 1, none⟩ = some (.int .i64 b') ∧ w'.cell? ⟨w.heap.size + 1, 2, none⟩ = some (.int .i64 k')) ((first | (go_simp; done) | (simp [*]; done)))
    ((first
    | (go_at_call 52; refine (HN.out _).mono ?_; rintro e w3 ⟨rfl, hb3⟩; (try replace hb3 := Below.undrew hb3); obtain ⟨hc3, hf3⟩ := bcell hb3; have hT3 := TzTab.below (by (repeat (first | with_reducible assumption | with_reducible apply TzTab.drew | with_reducible apply TzTab.alloc))) hb3 (Nat.le_refl _); have hz3 := hb3.size; (try simp at hz3); have hz3a : w.heap.size < w3.heap.size := (by omega); have hz3b : w.heap.size + 1 < w3.heap.size := (by omega); have hz3c : w.heap.size + 1 + 1 < w3.heap.size := (by omega))
    | (go_at_call 48; refine (HP.out _).mono ?_; rintro e w4 ⟨rfl, hb4⟩; (try replace hb4 := Below.undrew hb4); obtain ⟨hc4, hf4⟩ := bcell hb4; have hT4 := TzTab.below (by (repeat (first | with_reducible assumption | with_reducible apply TzTab.drew | with_reducible apply TzTab.alloc))) hb4 (Nat.le_refl _); have hz4 := hb4.size; (try simp at hz4); have hz4a : w.heap.size < w4.heap.size := (by omega); have hz4b : w.heap.size + 1 < w4.heap.size := (by omega); have hz4c : w.heap.size + 1 + 1 < w4.heap.size := (by omega))
    | (go_at_call 49; refine (HL.out _ ?_).mono ?_; (repeat (first | with_reducible assumption | with_reducible apply TzTab.drew | with_reducible apply TzTab.alloc)); rintro e w5 ⟨rfl, hb5⟩; (try replace hb5 := Below.undrew hb5); obtain ⟨hc5, hf5⟩ := bcell hb5; have hT5 := TzTab.below (by (repeat (first | with_reducible assumption | with_reducible apply TzTab.drew | with_reducible apply TzTab.alloc))) hb5 (Nat.le_refl _); have hz5 := hb5.size; (try simp at hz5); have hz5a : w.heap.size < w5.heap.size := (by omega); have hz5b : w.heap.size + 1 < w5.heap.size := (by omega); have hz5c : w.heap.size + 1 + 1 < w5.heap.size := (by omega))))
  go_wp2_with fail
  exact bodyPost_ret (v := numOk rA rB rK rO) (by simp [results, Tryd.results22, go_sem, *]) rfl ⟨rfl, by (repeat (first | with_reducible exact Below.refl _ _ | with_reducible refine Below.drew ?_ | with_reducible refine Below.alloc ?_ (by first | omega | (simp; done) | (simp; omega)) _ | with_reducible refine Below.setCell ?_ (by first | omega | (simp; done) | (simp; omega)) _ | with_reducible refine Below.trans ?_ (Below.mono (by assumption) (by first | omega | (simp; done) | (simp; omega)))))⟩

theorem SubNum_no (a b k a' b' k' : Int) (hv : (validB a b k && validB a' b' k') = false) (h : I3 a b k) (h' : I3 a' b' k') (w : World) (hT : TzTab w) :
    Calls Tryd.prog 22 #[num a b k, num a' b' k'] w (RetB (numOk 0 0 0 false) w) := by
  by_cases hx : validB a b k = true
  · have hy : validB a' b' k' = false := by rw [hx] at hv; exact hv
    have HX := Lib.hid (fun w hT => hx ▸ valid_i3 a b k h w hT)
    have HY := Lib.hid (fun w hT => hy ▸ valid_i3 a' b' k' h' w hT)
    clear hx hy h h' hv
    go_enter Tryd.func22, Tryd.ntmps22
    go_wp2_with fail
    refine (HX.out _ ?_).mono ?_; (repeat (first | with_reducible assumption | with_reducible apply TzTab.drew | with_reducible apply TzTab.alloc))
    rintro e w1 ⟨rfl, hb1⟩; (try replace hb1 := Below.undrew hb1); obtain ⟨hc1, hf1⟩ := bcell hb1; have hT1 := TzTab.below (by (repeat (first | with_reducible assumption | with_reducible apply TzTab.drew | with_reducible apply TzTab.alloc))) hb1 (Nat.le_refl _); have hz1 := hb1.size; (try simp at hz1); have hz1a : w.heap.size < w1.heap.size := (by omega); have hz1b : w.heap.size + 1 < w1.heap.size := (by omega); have hz1c : w.heap.size + 1 + 1 < w1.heap.size := (by omega)
    go_wp2_with fail
    refine (HY.out _ ?_).mono ?_; (repeat (first | with_reducible assumption | with_reducible apply TzTab.drew | with_reducible apply TzTab.alloc))
    rintro e w2 ⟨rfl, hb2⟩; (try replace hb2 := Below.undrew hb2); obtain ⟨hc2, hf2⟩ := bcell hb2; have hT2 := TzTab.below (by (repeat (first | with_reducible assumption | with_reducible apply TzTab.drew | with_reducible apply TzTab.alloc))) hb2 (Nat.le_refl _); have hz2 := hb2.size; (try simp at hz2); have hz2a : w.heap.size < w2.heap.size := (by omega); have hz2b : w.heap.size + 1 < w2.heap.size := (by omega); have hz2c : w.heap.size + 1 + 1 < w2.heap.size := (by omega)
    go_wp2_with fail
    exact bodyPost_ret (v := numOk 0 0 0 false) (by simp [results, Tryd.results22, go_sem, *]) rfl ⟨rfl, by (repeat (first | with_reducible exact Below.refl _ _ | with_reducible refine Below.drew ?_ | with_reducible refine Below.alloc ?_ (by first | omega | (simp; done) | (simp; omega)) _ | with_reducible refine Below.setCell ?_ (by first | omega | (simp; done) | (simp; omega)) _ | with_reducible refine Below.trans ?_ (Below.mono (by assumption) (by first | omega | (simp; done) | (simp; omega)))))⟩
  · have HX := Lib.hid (fun w hT => (Bool.eq_false_iff.2 hx) ▸ valid_i3 a b k h w hT)
    clear hx h h' hv
    go_enter Tryd.func22, Tryd.ntmps22
    go_wp2_with fail
    refine (HX.out _ ?_).mono ?_; (repeat (first | with_reducible assumption | with_reducible apply TzTab.drew | with_reducible apply TzTab.alloc))
    rintro e w1 ⟨rfl, hb1⟩; (try replace hb1 := Below.undrew hb1); obtain ⟨hc1, hf1⟩ := bcell hb1; have hT1 := TzTab.below (by (repeat (first | with_reducible assumption | with_reducible apply TzTab.drew | with_reducible apply TzTab.alloc))) hb1 (Nat.le_refl _); have hz1 := hb1.size; (try simp at hz1); have hz1a : w.heap.size < w1.heap.size := (by omega); have hz1b : w.heap.size + 1 < w1.heap.size := (by omega); have hz1c : w.heap.size + 1 + 1 < w1.heap.size := (by omega)
    go_wp2_with fail
    exact bodyPost_ret (v := numOk 0 0 0 false) (by simp [results, Tryd.results22, go_sem, *]) rfl ⟨rfl, by (repeat (first | with_reducible exact Below.refl _ _ | with_reducible refine Below.drew ?_ | with_reducible refine Below.alloc ?_ (by first | omega | (simp; done) | (simp; omega)) _ | with_reducible refine Below.setCell ?_ (by first | omega | (simp; done) | (simp; omega)) _ | with_reducible refine Below.trans ?_ (Below.mono (by assumption) (by first | omega | (simp; done) | (simp; omega)))))⟩

theorem SubNum_any (a b k a' b' k' : Int) (h : I3 a b k) (h' : I3 a' b' k') (w : World) (hT : TzTab w) :
    Calls Tryd.prog 22 #[num a b k, num a' b' k'] w (RetB (if validB a b k && validB a' b' k' then sumV a b k (-a') (-b') k' else numOk 0 0 0 false) w) := by
  by_cases hv : (validB a b k && validB a' b' k') = true
  · rw [if_pos hv]; rw [Bool.and_eq_true] at hv; exact SubNum_ok a b k a' b' k' hv.1 hv.2 h h' w hT
  · rw [if_neg hv]; exact SubNum_no a b k a' b' k' (by simpa using hv) h h' w hT

def mulA (a b k a' b' k' : Int) : Int := limA (timesA a b a' b') (timesB a b a' b') (k + k')
def mulB (a b k a' b' k' : Int) : Int := limB (timesA a b a' b') (timesB a b a' b') (k + k')
def mulK (a b k a' b' k' : Int) : Int := limK (timesA a b a' b') (timesB a b a' b') (k + k')
def mulO (a b k a' b' k' : Int) : Bool := limO (timesA a b a' b') (timesB a b a' b') (k + k')
def mulV (a b k a' b' k' : Int) : Value := numOk (mulA a b k a' b' k') (mulB a b k a' b' k') (mulK a b k a' b' k') (mulO a b k a' b' k')

theorem times_bounds {a b a' b' : Int} (a1 : -131072 ≤ a) (a2 : a ≤ 131072) (b1 : -131072 ≤ b) (b2 : b ≤ 131072) (a1' : -131072 ≤ a') (a2' : a' ≤ 131072) (b1' : -131072 ≤ b') (b2' : b' ≤ 131072) :
    -51539607552 ≤ timesA a b a' b' ∧ timesA a b a' b' ≤ 51539607552 ∧ -34359738368 ≤ timesB a b a' b' ∧ timesB a b a' b' ≤ 34359738368 := by
  obtain ⟨x1, x2⟩ := mul_fits 131072 131072 a1 a2 a1' a2'
  obtain ⟨x3, x4⟩ := mul_fits 262144 131072 (p := 2 * b) (by omega) (by omega) b1' b2'
  obtain ⟨x5, x6⟩ := mul_fits 131072 131072 a1 a2 b1' b2'
  obtain ⟨x7, x8⟩ := mul_fits 131072 131072 b1 b2 a1' a2'
  simp only [Int.reduceMul, Int.cast_ofNat_Int] at x1 x2 x3 x4 x5 x6 x7 x8
  unfold timesA timesB
  omega

theorem times_val (a b k a' b' k' : Int) (hx : validB a b k = true) (hy : validB a' b' k' = true) :
    (∀ w, Calls Tryd.prog 50 #[num a b k, num a' b' k'] w (RetB (num (timesA a b a' b') (timesB a b a' b') (k + k')) w)) ∧
    (∀ w, TzTab w → Calls Tryd.prog 49 #[num (timesA a b a' b') (timesB a b a' b') (k + k')] w (RetB (numOk (mulA a b k a' b' k') (mulB a b k a' b' k') (mulK a b k a' b' k') (mulO a b k a' b' k')) w)) := by
  obtain ⟨a1, a2, b1, b2, k0, k1⟩ := valid_bounds hx
  obtain ⟨a1', a2', b1', b2', k0', k1'⟩ := valid_bounds hy
  obtain ⟨p1, p2, q1, q2⟩ := times_bounds a1 a2 b1 b2 a1' a2' b1' b2'
  exact ⟨fun w => times_any a b k a' b' k' w a1 a2 b1 b2 k0 k1 a1' a2' b1' b2' k0' k1',
    fun w hT => limited_any _ _ _ w (by omega) (by omega) (by omega) (by omega) (by omega) (by omega) hT⟩

theorem MulNum_ok (a b k a' b' k' : Int) (hx : validB a b k = true) (hy : validB a' b' k' = true) (h : I3 a b k) (h' : I3 a' b' k') (w : World) (hT : TzTab w) :
    Calls Tryd.prog 20 #[num a b k, num a' b' k'] w (RetB (mulV a b k a' b' k') w) := by
  obtain ⟨P, L⟩ := times_val a b k a' b' k' hx hy
  have HP := Lib.hid P
  have HL := Lib.hid L
  have HX := Lib.hid (fun w hT => hx ▸ valid_i3 a b k h w hT)
  have HY := Lib.hid (fun w hT => hy ▸ valid_i3 a' b' k' h' w hT)
  clear P L hx hy h h'
  unfold mulV
  generalize mulA a b k a' b' k' = rA at *
  generalize mulB a b k a' b' k' = rB at *
  generalize mulK a b k a' b' k' = rK at *
  generalize mulO a b k a' b' k' = rO at *
  generalize timesA a b a' b' = pA at *
  generalize timesB a b a' b' = pB at *
  generalize k + k' = pK at *
  go_enter Tryd.func20, Tryd.ntmps20
  go_wp2_with fail
  refine (HX.out _ ?_).mono ?_; (repeat (first | with_reducible assumption | with_reducible apply TzTab.drew | with_reducible apply TzTab.alloc))
  rintro e w1 ⟨rfl, hb1⟩; (try replace hb1 := Below.undrew hb1); obtain ⟨hc1, hf1⟩ := bcell hb1; have hT1 := TzTab.below (by (repeat (first | with_reducible assumption | with_reducible apply TzTab.drew | with_reducible apply TzTab.alloc))) hb1 (Nat.le_refl _); have hz1 := hb1.size; (try simp at hz1); have hz1a : w.heap.size < w1.heap.size := (by omega); have hz1b : w.heap.size + 1 < w1.heap.size := (by omega); have hz1c : w.heap.size + 1 + 1 < w1.heap.size := (by omega)
  go_wp2_with fail
  refine (HY.out _ ?_).mono ?_; (repeat (first | with_reducible assumption | with_reducible apply TzTab.drew | with_reducible apply TzTab.alloc))
  rintro e w2 ⟨rfl, hb2⟩; (try replace hb2 := Below.undrew hb2); obtain ⟨hc2, hf2⟩ := bcell hb2; have hT2 := TzTab.below (by (repeat (first | with_reducible assumption | with_reducible apply TzTab.drew | with_reducible apply TzTab.alloc))) hb2 (Nat.le_refl _); have hz2 := hb2.size; (try simp at hz2); have hz2a : w.heap.size < w2.heap.size := (by omega); have hz2b : w.heap.size + 1 < w2.heap.size := (by omega); have hz2c : w.heap.size + 1 + 1 < w2.heap.size := (by omega)
  go_wp2_with fail
  refine (HP.out _).mono ?_
  rintro e w3 ⟨rfl, hb3⟩; (try replace hb3 := Below.undrew hb3); obtain ⟨hc3, hf3⟩ := bcell hb3; have hT3 := TzTab.below (by (repeat (first | with_reducible assumption | with_reducible apply TzTab.drew | with_reducible apply TzTab.alloc))) hb3 (Nat.le_refl _); have hz3 := hb3.size; (try simp at hz3); have hz3a : w.heap.size < w3.heap.size := (by omega); have hz3b : w.heap.size + 1 < w3.heap.size := (by omega); have hz3c : w.heap.size + 1 + 1 < w3.heap.size := (by omega)
  go_wp2_with fail
  refine (HL.out _ ?_).mono ?_; (repeat (first | with_reducible assumption | with_reducible apply TzTab.drew | with_reducible apply TzTab.alloc))
  rintro e w4 ⟨rfl, hb4⟩; (try replace hb4 := Below.undrew hb4); obtain ⟨hc4, hf4⟩ := bcell hb4; have hT4 := TzTab.below (by (repeat (first | with_reducible assumption | with_reducible apply TzTab.drew | with_reducible apply TzTab.alloc))) hb4 (Nat.le_refl _); have hz4 := hb4.size; (try simp at hz4); have hz4a : w.heap.size < w4.heap.size := (by omega); have hz4b : w.heap.size + 1 < w4.heap.size := (by omega); have hz4c : w.heap.size + 1 + 1 < w4.heap.size := (by omega)
  go_wp2_with fail
  exact bodyPost_ret (v := numOk rA rB rK rO) (by simp [results, Tryd.results20, go_sem, *]) rfl ⟨rfl, by (repeat (first | with_reducible exact Below.refl _ _ | with_reducible refine Below.drew ?_ | with_reducible refine Below.alloc ?_ (by first | omega | (simp; done) | (simp; omega)) _ | with_reducible refine Below.setCell ?_ (by first | omega | (simp; done) | (simp; omega)) _ | with_reducible refine Below.trans ?_ (Below.mono (by assumption) (by first | omega | (simp; done) | (simp; omega)))))⟩

theorem MulNum_no (a b k a' b' k' : Int) (hv : (validB a b k && validB a' b' k') = false) (h : I3 a b k) (h' : I3 a' b' k') (w : World) (hT : TzTab w) :
    Calls Tryd.prog 20 #[num a b k, num a' b' k'] w (RetB (numOk 0 0 0 false) w) := by
  by_cases hx : validB a b k = true
  · have hy : validB a' b' k' = false := by rw [hx] at hv; exact hv
    have HX := Lib.hid (fun w hT => hx ▸ valid_i3 a b k h w hT)
    have HY := Lib.hid (fun w hT => hy ▸ valid_i3 a' b' k' h' w hT)
    clear hx hy h h' hv
    go_enter Tryd.func20, Tryd.ntmps20
    go_wp2_with fail
    refine (HX.out _ ?_).mono ?_; (repeat (first | with_reducible assumption | with_reducible apply TzTab.drew | with_reducible apply TzTab.alloc))
    rintro e w1 ⟨rfl, hb1⟩; (try replace hb1 := Below.undrew hb1); obtain ⟨hc1, hf1⟩ := bcell hb1; have hT1 := TzTab.below (by (repeat (first | with_reducible assumption | with_reducible apply TzTab.drew | with_reducible apply TzTab.alloc))) hb1 (Nat.le_refl _); have hz1 := hb1.size; (try simp at hz1); have hz1a : w.heap.size < w1.heap.size := (by omega); have hz1b : w.heap.size + 1 < w1.heap.size := (by omega); have hz1c : w.heap.size + 1 + 1 < w1.heap.size := (by omega)
    go_wp2_with fail
    refine (HY.out _ ?_).mono ?_; (repeat (first | with_reducible assumption | with_reducible apply TzTab.drew | with_reducible apply TzTab.alloc))
    rintro e w2 ⟨rfl, hb2⟩; (try replace hb2 := Below.undrew hb2); obtain ⟨hc2, hf2⟩ := bcell hb2; have hT2 := TzTab.below (by (repeat (first | with_reducible assumption | with_reducible apply TzTab.drew | with_reducible apply TzTab.alloc))) hb2 (Nat.le_refl _); have hz2 := hb2.size; (try simp at hz2); have hz2a : w.heap.size < w2.heap.size := (by omega); have hz2b : w.heap.size + 1 < w2.heap.size := (by omega); have hz2c : w.heap.size + 1 + 1 < w2.heap.size := (by omega)
    go_wp2_with fail
    exact bodyPost_ret (v := numOk 0 0 0 false) (by simp [results, Tryd.results20, go_sem, *]) rfl ⟨rfl, by (repeat (first | with_reducible exact Below.refl _ _ | with_reducible refine Below.drew ?_ | with_reducible refine Below.alloc ?_ (by first | omega | (simp; done) | (simp; omega)) _ | with_reducible refine Below.setCell ?_ (by first | omega | (simp; done) | (simp; omega)) _ | with_reducible refine Below.trans ?_ (Below.mono (by assumption) (by first | omega | (simp; done) | (simp; omega)))))⟩
  · have HX := Lib.hid (fun w hT => (Bool.eq_false_iff.2 hx) ▸ valid_i3 a b k h w hT)
    clear hx h h' hv
    go_enter Tryd.func20, Tryd.ntmps20
    go_wp2_with fail
    refine (HX.out _ ?_).mono ?_; (repeat (first | with_reducible assumption | with_reducible apply TzTab.drew | with_reducible apply TzTab.alloc))
    rintro e w1 ⟨rfl, hb1⟩; (try replace hb1 := Below.undrew hb1); obtain ⟨hc1, hf1⟩ := bcell hb1; have hT1 := TzTab.below (by (repeat (first | with_reducible assumption | with_reducible apply TzTab.drew | with_reducible apply TzTab.alloc))) hb1 (Nat.le_refl _); have hz1 := hb1.size; (try simp at hz1); have hz1a : w.heap.size < w1.heap.size := (by omega); have hz1b : w.heap.size + 1 < w1.heap.size := (by omega); have hz1c : w.heap.size + 1 + 1 < w1.heap.size := (by omega)
    go_wp2_with fail
    exact bodyPost_ret (v := numOk 0 0 0 false) (by simp [results, Tryd.results20, go_sem, *]) rfl ⟨rfl, by (repeat (first | with_reducible exact Below.refl _ _ | with_reducible refine Below.drew ?_ | with_reducible refine Below.alloc ?_ (by first | omega | (simp; done) | (simp; omega)) _ | with_reducible refine Below.setCell ?_ (by first | omega | (simp; done) | (simp; omega)) _ | with_reducible refine Below.trans ?_ (Below.mono (by assumption) (by first | omega | (simp; done) | (simp; omega)))))⟩

theorem MulNum_any (a b k a' b' k' : Int) (h : I3 a b k) (h' : I3 a' b' k') (w : World) (hT : TzTab w) :
    Calls Tryd.prog 20 #[num a b k, num a' b' k'] w (RetB (if validB a b k && validB a' b' k' then mulV a b k a' b' k' else numOk 0 0 0 false) w) := by
  by_cases hv : (validB a b k && validB a' b' k') = true
  · rw [if_pos hv]; rw [Bool.and_eq_true] at hv; exact MulNum_ok a b k a' b' k' hv.1 hv.2 h h' w hT
  · rw [if_neg hv]; exact MulNum_no a b k a' b' k' (by simpa using hv) h h' w hT

def makeV (a b k : Int) : Value := numOk (limA a b k) (limB a b k) (limK a b k) (limO a b k)
theorem MakeNum_any (a b k : Int) (h : I3 a b k) (w : World) (hT : TzTab w) :
    Calls Tryd.prog 35 #[.int .i64 a, .int .i64 b, .int .i64 k] w (RetB (if inB k 0 62 then makeV a b k else numOk 0 0 0 false) w) := by
  by_cases hk : inB k 0 62 = true
  · rw [if_pos hk]
    have k01 : 0 ≤ k ∧ k ≤ 62 := by simpa [inB] using hk
    obtain ⟨k0, k1⟩ := k01
    have HL := Lib.hid (fun w hT => limited_any a b k w h.a1 h.a2 h.b1 h.b2 k0 k1 hT)
    clear h hk
    unfold makeV
    generalize limA a b k = rA at *
    generalize limB a b k = rB at *
    generalize limK a b k = rK at *
    generalize limO a b k = rO at *
    go_enter Tryd.func35, Tryd.ntmps35
    go_wp2_with fail
    refine (HL.out _ ?_).mono ?_; (repeat (first | with_reducible assumption | with_reducible apply TzTab.drew | with_reducible apply TzTab.alloc))
    rintro e w1 ⟨rfl, hb1⟩; (try replace hb1 := Below.undrew hb1); obtain ⟨hc1, hf1⟩ := bcell hb1; have hT1 := TzTab.below (by (repeat (first | with_reducible assumption | with_reducible apply TzTab.drew | with_reducible apply TzTab.alloc))) hb1 (Nat.le_refl _); have hz1 := hb1.size; (try simp at hz1); have hz1a : w.heap.size < w1.heap.size := (by omega)
    go_wp2_with fail
    exact bodyPost_ret (v := numOk rA rB rK rO) (by simp [results, Tryd.results35, go_sem, *]) rfl ⟨rfl, by (repeat (first | with_reducible exact Below.refl _ _ | with_reducible refine Below.drew ?_ | with_reducible refine Below.alloc ?_ (by first | omega | (simp; done) | (simp; omega)) _ | with_reducible refine Below.setCell ?_ (by first | omega | (simp; done) | (simp; omega)) _ | with_reducible refine Below.trans ?_ (Below.mono (by assumption) (by first | omega | (simp; done) | (simp; omega)))))⟩
  · rw [if_neg hk]
    have hk' : k < 0 ∨ 62 < k := by simp [inB] at hk; omega
    clear h hk
    rcases hk' with hk | hk
    · go_enter Tryd.func35, Tryd.ntmps35
      go_wp2_with fail
      exact bodyPost_ret (v := numOk 0 0 0 false) (by simp [results, Tryd.results35, go_sem, *]) rfl ⟨rfl, by (repeat (first | with_reducible exact Below.refl _ _ | with_reducible refine Below.drew ?_ | with_reducible refine Below.alloc ?_ (by first | omega | (simp; done) | (simp; omega)) _ | with_reducible refine Below.setCell ?_ (by first | omega | (simp; done) | (simp; omega)) _ | with_reducible refine Below.trans ?_ (Below.mono (by assumption) (by first | omega | (simp; done) | (simp; omega)))))⟩
    · have h0 : 0 ≤ k := by omega
      go_enter Tryd.func35, Tryd.ntmps35
      go_wp2_with fail
      exact bodyPost_ret (v := numOk 0 0 0 false) (by simp [results, Tryd.results35, go_sem, *]) rfl ⟨rfl, by (repeat (first | with_reducible exact Below.refl _ _ | with_reducible refine Below.drew ?_ | with_reducible refine Below.alloc ?_ (by first | omega | (simp; done) | (simp; omega)) _ | with_reducible refine Below.setCell ?_ (by first | omega | (simp; done) | (simp; omega)) _ | with_reducible refine Below.trans ?_ (Below.mono (by assumption) (by first | omega | (simp; done) | (simp; omega)))))⟩

end Go.Proofs.YtffcdnokkdifdaaDoor
