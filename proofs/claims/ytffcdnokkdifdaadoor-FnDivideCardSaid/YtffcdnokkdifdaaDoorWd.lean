/- Contracts of the program's exported functions on numbers. -/
import Derived.Test.YtffcdnokkdifdaaDoorWc
namespace Go.Proofs.YtffcdnokkdifdaaDoor
open Go Go.RowKit OriM

theorem valid_bounds {a b k : Int} (h : validB a b k = true) : -131072 ≤ a ∧ a ≤ 131072 ∧ -131072 ≤ b ∧ b ≤ 131072 ∧ 0 ≤ k ∧ k ≤ 10 := by
  simp [validB, withinB, inB] at h; omega

/-- Any three int64. -/
structure I3 (a b k : Int) : Prop where
  a1 : -9223372036854775808 ≤ a
  a2 : a ≤ 9223372036854775807
  b1 : -9223372036854775808 ≤ b
  b2 : b ≤ 9223372036854775807

theorem valid_i3 (a b k : Int) (h : I3 a b k) (w : World) (hT : TzTab w) : Calls Tryd.prog 47 #[num a b k] w (RetB (.bool (validB a b k)) w) :=
  valid_any a b k w h.a1 h.a2 h.b1 h.b2 hT

theorem ValidNum_any (a b k : Int) (h : I3 a b k) (w : World) (hT : TzTab w) : Calls Tryd.prog 34 #[num a b k] w (RetB (.bool (validB a b k)) w) := by
  have HX := Lib.hid (valid_i3 a b k h)
  clear h
  go_enter Tryd.func34, Tryd.ntmps34
  go_wp2_with (go_at_call 47; refine (HX.out _ ?_).mono ?_; (repeat (first | with_reducible assumption | with_reducible apply TzTab.drew | with_reducible apply TzTab.alloc)); rintro e w1 ⟨rfl, hb1⟩; (try replace hb1 := Below.undrew hb1); obtain ⟨hc1, hf1⟩ := bcell hb1; have hT1 := TzTab.below (by (repeat (first | with_reducible assumption | with_reducible apply TzTab.drew | with_reducible apply TzTab.alloc))) hb1 (Nat.le_refl _); have hz1 := hb1.size; (try simp at hz1); have hz1a : w.heap.size < w1.heap.size := (by omega))
  go_ret
  exact ⟨rfl, by (repeat (first | with_reducible exact Below.refl _ _ | with_reducible refine Below.drew ?_ | with_reducible refine Below.alloc ?_ (by first | omega | (simp; done) | (simp; omega)) _ | with_reducible refine Below.setCell ?_ (by first | omega | (simp; done) | (simp; omega)) _ | with_reducible refine Below.trans ?_ (Below.mono (by assumption) (by first | omega | (simp; done) | (simp; omega)))))⟩

theorem plusA_bound (a k a' k' : Int) (a1 : -131072 ≤ a) (a2 : a ≤ 131072) (a1' : -131072 ≤ a') (a2' : a' ≤ 131072) (k0 : 0 ≤ k) (k1 : k ≤ 10) (k0' : 0 ≤ k') (k1' : k' ≤ 10) :
    -268435456 ≤ plusA a k a' k' ∧ plusA a k a' k' ≤ 268435456 := by
  obtain ⟨s, _, e, s1, s2⟩ := shl_fits (a := a) (max k k' - k) a1 a2 (by omega) (by omega)
  obtain ⟨t, _, f, t1, t2⟩ := shl_fits (a := a') (max k k' - k') a1' a2' (by omega) (by omega)
  unfold plusA
  omega

/-- What a sum is: the fields, and whether there is one. -/
def addA (a b k a' b' k' : Int) : Int := limA (plusA a k a' k') (plusA b k b' k') (max k k')
def addB (a b k a' b' k' : Int) : Int := limB (plusA a k a' k') (plusA b k b' k') (max k k')
def addK (a b k a' b' k' : Int) : Int := limK (plusA a k a' k') (plusA b k b' k') (max k k')
def addO (a b k a' b' k' : Int) : Bool := limO (plusA a k a' k') (plusA b k b' k') (max k k')
def sumV (a b k a' b' k' : Int) : Value := numOk (addA a b k a' b' k') (addB a b k a' b' k') (addK a b k a' b' k') (addO a b k a' b' k')

/-- A sum that is limited: two calls in one contract. -/
theorem plus_val (a b k a' b' k' : Int) (hx : validB a b k = true) (hy : validB a' b' k' = true) :
    (∀ w, Calls Tryd.prog 48 #[num a b k, num a' b' k'] w (RetB (num (plusA a k a' k') (plusA b k b' k') (max k k')) w)) ∧
    (∀ w, TzTab w → Calls Tryd.prog 49 #[num (plusA a k a' k') (plusA b k b' k') (max k k')] w (RetB (numOk (addA a b k a' b' k') (addB a b k a' b' k') (addK a b k a' b' k') (addO a b k a' b' k')) w)) := by
  obtain ⟨a1, a2, b1, b2, k0, k1⟩ := valid_bounds hx
  obtain ⟨a1', a2', b1', b2', k0', k1'⟩ := valid_bounds hy
  obtain ⟨p1, p2⟩ := plusA_bound a k a' k' a1 a2 a1' a2' k0 k1 k0' k1'
  obtain ⟨q1, q2⟩ := plusA_bound b k b' k' b1 b2 b1' b2' k0 k1 k0' k1'
  exact ⟨fun w => plus_any a b k a' b' k' w a1 a2 b1 b2 k0 k1 a1' a2' b1' b2' k0' k1',
    fun w hT => limited_any _ _ _ w (by omega) (by omega) (by omega) (by omega) (by omega) (by omega) hT⟩

theorem AddNum_ok (a b k a' b' k' : Int) (hx : validB a b k = true) (hy : validB a' b' k' = true) (h : I3 a b k) (h' : I3 a' b' k') (w : World) (hT : TzTab w) :
    Calls Tryd.prog 19 #[num a b k, num a' b' k'] w (RetB (sumV a b k a' b' k') w) := by
  obtain ⟨P, L⟩ := plus_val a b k a' b' k' hx hy
  have HP := Lib.hid P
  have HL := Lib.hid L
  have HX := Lib.hid (fun w hT => hx ▸ valid_i3 a b k h w hT)
  have HY := Lib.hid (fun w hT => hy ▸ valid_i3 a' b' k' h' w hT)
  clear P L hx hy h h'
  unfold sumV
  generalize addA a b k a' b' k' = rA at *
  generalize addB a b k a' b' k' = rB at *
  generalize addK a b k a' b' k' = rK at *
  generalize addO a b k a' b' k' = rO at *
  generalize plusA a k a' k' = pA at *
  generalize plusA b k b' k' = pB at *
  generalize max k k' = pK at *
  go_enter Tryd.func19, Tryd.ntmps19
  go_wp2_with fail
  refine (HX.out _ ?_).mono ?_; (repeat (first | with_reducible assumption | with_reducible apply TzTab.drew | with_reducible apply TzTab.alloc))
  rintro e w1 ⟨rfl, hb1⟩; (try replace hb1 := Below.undrew hb1); obtain ⟨hc1, hf1⟩ := bcell hb1; have hT1 := TzTab.below (by (repeat (first | with_reducible assumption | with_reducible apply TzTab.drew | with_reducible apply TzTab.alloc))) hb1 (Nat.le_refl _); have hz1 := hb1.size; (try simp at hz1); have hz1a : w.heap.size < w1.heap.size := (by omega); have hz1b : w.heap.size + 1 < w1.heap.size := (by omega); have hz1c : w.heap.size + 1 + 1 < w1.heap.size := (by omega)
  go_wp2_with fail
  refine (HY.out _ ?_).mono ?_; (repeat (first | with_reducible assumption | with_reducible apply TzTab.drew | with_reducible apply TzTab.alloc))
  rintro e w2 ⟨rfl, hb2⟩; (try replace hb2 := Below.undrew hb2); obtain ⟨hc2, hf2⟩ := bcell hb2; have hT2 := TzTab.below (by (repeat (first | with_reducible assumption | with_reducible apply TzTab.drew | with_reducible apply TzTab.alloc))) hb2 (Nat.le_refl _); have hz2 := hb2.size; (try simp at hz2); have hz2a : w.heap.size < w2.heap.size := (by omega); have hz2b : w.heap.size + 1 < w2.heap.size := (by omega); have hz2c : w.heap.size + 1 + 1 < w2.heap.size := (by omega)
  go_wp2_with fail
  refine (HP.out _).mono ?_
  rintro e w3 ⟨rfl, hb3⟩; (try replace hb3 := Below.undrew hb3); obtain ⟨hc3, hf3⟩ := bcell hb3; have hT3 := TzTab.below (by (repeat (first | with_reducible assumption | with_reducible apply TzTab.drew | with_reducible apply TzTab.alloc))) hb3 (Nat.le_refl _); have hz3 := hb3.size; (try simp at hz3); have hz3a : w.heap.size < w3.heap.size := (by omega); have hz3b : w.heap.size + 1 < w3.heap.size := (by omega); have hz3c : w.heap.size + 1 + 1 < w3.heap.size := (by omega)
  go_wp2_with fail
  refine (HL.out _ ?_).mono ?_; (repeat (first | with_reducible assumption | with_reducible apply TzTab.drew | with_reducible apply TzTab.alloc))
  rintro e w4 ⟨rfl, hb4⟩; (try replace hb4 := Below.undrew hb4); obtain ⟨hc4, hf4⟩ := bcell hb4; have hT4 := TzTab.below (by (repeat (first | with_reducible assumption | with_reducible apply TzTab.drew | with_reducible apply TzTab.alloc))) hb4 (Nat.le_refl _); have hz4 := hb4.size; (try simp at hz4); have hz4a : w.heap.size < w4.heap.size := (by omega); have hz4b : w.heap.size + 1 < w4.heap.size := (by omega); have hz4c : w.heap.size + 1 + 1 < w4.heap.size := (by omega)
  go_wp2_with fail
  exact bodyPost_ret (v := numOk rA rB rK rO) (by simp [results, Tryd.results19, go_sem, *]) rfl ⟨rfl, by (repeat (first | with_reducible exact Below.refl _ _ | with_reducible refine Below.drew ?_ | with_reducible refine Below.alloc ?_ (by first | omega | (simp; done) | (simp; omega)) _ | with_reducible refine Below.setCell ?_ (by first | omega | (simp; done) | (simp; omega)) _ | with_reducible refine Below.trans ?_ (Below.mono (by assumption) (by first | omega | (simp; done) | (simp; omega)))))⟩


/-- Where an argument is not valid. -/
theorem AddNum_no (a b k a' b' k' : Int) (hv : (validB a b k && validB a' b' k') = false) (h : I3 a b k) (h' : I3 a' b' k') (w : World) (hT : TzTab w) :
    Calls Tryd.prog 19 #[num a b k, num a' b' k'] w (RetB (numOk 0 0 0 false) w) := by
  by_cases hx : validB a b k = true
  · have hy : validB a' b' k' = false := by rw [hx] at hv; exact hv
    have HX := Lib.hid (fun w hT => hx ▸ valid_i3 a b k h w hT)
    have HY := Lib.hid (fun w hT => hy ▸ valid_i3 a' b' k' h' w hT)
    clear hx hy h h' hv
    go_enter Tryd.func19, Tryd.ntmps19
    go_wp2_with fail
    refine (HX.out _ ?_).mono ?_; (repeat (first | with_reducible assumption | with_reducible apply TzTab.drew | with_reducible apply TzTab.alloc))
    rintro e w1 ⟨rfl, hb1⟩; (try replace hb1 := Below.undrew hb1); obtain ⟨hc1, hf1⟩ := bcell hb1; have hT1 := TzTab.below (by (repeat (first | with_reducible assumption | with_reducible apply TzTab.drew | with_reducible apply TzTab.alloc))) hb1 (Nat.le_refl _); have hz1 := hb1.size; (try simp at hz1); have hz1a : w.heap.size < w1.heap.size := (by omega); have hz1b : w.heap.size + 1 < w1.heap.size := (by omega); have hz1c : w.heap.size + 1 + 1 < w1.heap.size := (by omega)
    go_wp2_with fail
    refine (HY.out _ ?_).mono ?_; (repeat (first | with_reducible assumption | with_reducible apply TzTab.drew | with_reducible apply TzTab.alloc))
    rintro e w2 ⟨rfl, hb2⟩; (try replace hb2 := Below.undrew hb2); obtain ⟨hc2, hf2⟩ := bcell hb2; have hT2 := TzTab.below (by (repeat (first | with_reducible assumption | with_reducible apply TzTab.drew | with_reducible apply TzTab.alloc))) hb2 (Nat.le_refl _); have hz2 := hb2.size; (try simp at hz2); have hz2a : w.heap.size < w2.heap.size := (by omega); have hz2b : w.heap.size + 1 < w2.heap.size := (by omega); have hz2c : w.heap.size + 1 + 1 < w2.heap.size := (by omega)
    go_wp2_with fail
    exact bodyPost_ret (v := numOk 0 0 0 false) (by simp [results, Tryd.results19, go_sem, *]) rfl ⟨rfl, by (repeat (first | with_reducible exact Below.refl _ _ | with_reducible refine Below.drew ?_ | with_reducible refine Below.alloc ?_ (by first | omega | (simp; done) | (simp; omega)) _ | with_reducible refine Below.setCell ?_ (by first | omega | (simp; done) | (simp; omega)) _ | with_reducible refine Below.trans ?_ (Below.mono (by assumption) (by first | omega | (simp; done) | (simp; omega)))))⟩
  · have HX := Lib.hid (fun w hT => (Bool.eq_false_iff.2 hx) ▸ valid_i3 a b k h w hT)
    clear hx h h' hv
    go_enter Tryd.func19, Tryd.ntmps19
    go_wp2_with fail
    refine (HX.out _ ?_).mono ?_; (repeat (first | with_reducible assumption | with_reducible apply TzTab.drew | with_reducible apply TzTab.alloc))
    rintro e w1 ⟨rfl, hb1⟩; (try replace hb1 := Below.undrew hb1); obtain ⟨hc1, hf1⟩ := bcell hb1; have hT1 := TzTab.below (by (repeat (first | with_reducible assumption | with_reducible apply TzTab.drew | with_reducible apply TzTab.alloc))) hb1 (Nat.le_refl _); have hz1 := hb1.size; (try simp at hz1); have hz1a : w.heap.size < w1.heap.size := (by omega); have hz1b : w.heap.size + 1 < w1.heap.size := (by omega); have hz1c : w.heap.size + 1 + 1 < w1.heap.size := (by omega)
    go_wp2_with fail
    exact bodyPost_ret (v := numOk 0 0 0 false) (by simp [results, Tryd.results19, go_sem, *]) rfl ⟨rfl, by (repeat (first | with_reducible exact Below.refl _ _ | with_reducible refine Below.drew ?_ | with_reducible refine Below.alloc ?_ (by first | omega | (simp; done) | (simp; omega)) _ | with_reducible refine Below.setCell ?_ (by first | omega | (simp; done) | (simp; omega)) _ | with_reducible refine Below.trans ?_ (Below.mono (by assumption) (by first | omega | (simp; done) | (simp; omega)))))⟩

end Go.Proofs.YtffcdnokkdifdaaDoor
