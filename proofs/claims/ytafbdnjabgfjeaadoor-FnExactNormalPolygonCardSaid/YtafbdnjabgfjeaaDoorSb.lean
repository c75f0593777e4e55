/- Contracts of the model: numbers with limits, sums by loops. -/
import Derived.Test.YtafbdnjabgfjeaaDoorSa
import Derived.Test.YtafbdnjabgfjeaaDoorWcd
namespace Go.Proofs.YtafbdnjabgfjeaaDoor
open Go Go.RowKit OriM

theorem valid_low (a b : Int) (k : Nat) : validB (lowA a b k) (lowB a b k) (lowK a b k) = withinB (lowA a b k) (lowB a b k) (lowK a b k) := by
  unfold validB
  have : oddB (lowA a b k) (lowB a b k) (lowK a b k) = true := (oddB_canon (by omega)).2 (by simpa using low_canon k a b)
  rw [this, Bool.and_true]

theorem lNum_any (a b : Int) (k : Nat) (w : World) (a1 : -9223372036854775808 ≤ a) (a2 : a ≤ 9223372036854775807) (b1 : -9223372036854775808 ≤ b) (b2 : b ≤ 9223372036854775807) (k1 : k ≤ 64) :
    Calls Tryd.prog 69 #[num a b k] w (RetB (numOk (limA a b k) (limB a b k) (limK a b k) (limO a b k)) w) := by
  have HL := Lib.hid (fun w => low_any a b k w a1 a2 b1 b2 k1)
  have HO := Lib.hid (fun w => l01Ok_any (lowA a b k) (lowB a b k) (lowK a b k) w)
  rw [valid_low] at HO
  clear a1 a2 b1 b2 k1
  by_cases h : withinB (lowA a b k) (lowB a b k) (lowK a b k) = true
  · have E := Lib.hid (show numOk (lowA a b k) (lowB a b k) (lowK a b k) true = numOk (limA a b k) (limB a b k) (limK a b k) (limO a b k) by simp [limA, limB, limK, limO, h])
    rw [h] at HO
    clear h
    generalize lowA a b k = lA at *
    generalize lowB a b k = lB at *
    generalize (lowK a b k : Int) = lK at *
    go_enter Tryd.func69, Tryd.ntmps69
    go_wp2_with fail
    refine (HL.out _).mono ?_
    rintro e w1 ⟨rfl, hb1⟩; (try replace hb1 := Below.undrew hb1); obtain ⟨hc1, hf1⟩ := bcell hb1; have hz1 := hb1.size; (try simp at hz1); have hz1a : w.heap.size < w1.heap.size := (by omega); have hz1b : w.heap.size + 1 < w1.heap.size := (by omega)
    have e0 : w1.cell? ⟨w.heap.size, 0, none⟩ = some (.int .i64 a) := by rw [hc1 _ _ (by first | omega | (simp; done) | (simp; omega))]; simp [go_sem]
    have e1 : w1.cell? ⟨w.heap.size, 1, none⟩ = some (.int .i64 b) := by rw [hc1 _ _ (by first | omega | (simp; done) | (simp; omega))]; simp [go_sem]
    have e2 : w1.cell? ⟨w.heap.size, 2, none⟩ = some (.int .i64 k) := by rw [hc1 _ _ (by first | omega | (simp; done) | (simp; omega))]; simp [go_sem]
    go_wp2_with fail
    refine (HO.out _).mono ?_
    rintro e w2 ⟨rfl, hb2⟩; (try replace hb2 := Below.undrew hb2); obtain ⟨hc2, hf2⟩ := bcell hb2; have hz2 := hb2.size; (try simp at hz2); have hz2a : w.heap.size < w2.heap.size := (by omega); have hz2b : w.heap.size + 1 < w2.heap.size := (by omega)
    go_wp2_with fail
    exact bodyPost_ret (v := numOk lA lB lK true) (by simp [results, Tryd.results69, go_sem, *]) rfl ⟨congrArg _ E.out, by (repeat (first | with_reducible exact Below.refl _ _ | with_reducible refine Below.drew ?_ | with_reducible refine Below.alloc ?_ (by first | omega | (simp; done) | (simp; omega)) _ | with_reducible refine Below.setCell ?_ (by first | omega | (simp; done) | (simp; omega)) _ | with_reducible refine Below.trans ?_ (Below.mono (by assumption) (by first | omega | (simp; done) | (simp; omega)))))⟩
  · have E := Lib.hid (show numOk 0 0 0 false = numOk (limA a b k) (limB a b k) (limK a b k) (limO a b k) by simp [limA, limB, limK, limO, h])
    rw [Bool.eq_false_iff.2 h] at HO
    clear h
    generalize lowA a b k = lA at *
    generalize lowB a b k = lB at *
    generalize (lowK a b k : Int) = lK at *
    go_enter Tryd.func69, Tryd.ntmps69
    go_wp2_with fail
    refine (HL.out _).mono ?_
    rintro e w1 ⟨rfl, hb1⟩; (try replace hb1 := Below.undrew hb1); obtain ⟨hc1, hf1⟩ := bcell hb1; have hz1 := hb1.size; (try simp at hz1); have hz1a : w.heap.size < w1.heap.size := (by omega); have hz1b : w.heap.size + 1 < w1.heap.size := (by omega)
    have e0 : w1.cell? ⟨w.heap.size, 0, none⟩ = some (.int .i64 a) := by rw [hc1 _ _ (by first | omega | (simp; done) | (simp; omega))]; simp [go_sem]
    have e1 : w1.cell? ⟨w.heap.size, 1, none⟩ = some (.int .i64 b) := by rw [hc1 _ _ (by first | omega | (simp; done) | (simp; omega))]; simp [go_sem]
    have e2 : w1.cell? ⟨w.heap.size, 2, none⟩ = some (.int .i64 k) := by rw [hc1 _ _ (by first | omega | (simp; done) | (simp; omega))]; simp [go_sem]
    go_wp2_with fail
    refine (HO.out _).mono ?_
    rintro e w2 ⟨rfl, hb2⟩; (try replace hb2 := Below.undrew hb2); obtain ⟨hc2, hf2⟩ := bcell hb2; have hz2 := hb2.size; (try simp at hz2); have hz2a : w.heap.size < w2.heap.size := (by omega); have hz2b : w.heap.size + 1 < w2.heap.size := (by omega)
    go_wp2_with fail
    exact bodyPost_ret (v := numOk 0 0 0 false) (by simp [results, Tryd.results69, go_sem, *]) rfl ⟨congrArg _ E.out, by (repeat (first | with_reducible exact Below.refl _ _ | with_reducible refine Below.drew ?_ | with_reducible refine Below.alloc ?_ (by first | omega | (simp; done) | (simp; omega)) _ | with_reducible refine Below.setCell ?_ (by first | omega | (simp; done) | (simp; omega)) _ | with_reducible refine Below.trans ?_ (Below.mono (by assumption) (by first | omega | (simp; done) | (simp; omega)))))⟩

theorem lOf_any (a b k : Int) (w : World) : Calls Tryd.prog 123 #[num a b k] w (RetB (num a b k) w) := by
  go_enter Tryd.func123, Tryd.ntmps123
  go_wp2
  try go_region
  go_wp2
  exact bodyPost_ret (v := num a b k) (by simp [results, Tryd.results123, go_sem, *]) rfl ⟨rfl, by (repeat (first | with_reducible exact Below.refl _ _ | with_reducible refine Below.drew ?_ | with_reducible refine Below.alloc ?_ (by first | omega | (simp; done) | (simp; omega)) _ | with_reducible refine Below.setCell ?_ (by first | omega | (simp; done) | (simp; omega)) _ | with_reducible refine Below.trans ?_ (Below.mono (by assumption) (by first | omega | (simp; done) | (simp; omega)))))⟩

theorem lNeg_any (a b k : Int) (w : World) (a1 : -131072 ≤ a) (a2 : a ≤ 131072) (b1 : -131072 ≤ b) (b2 : b ≤ 131072) : Calls Tryd.prog 161 #[num a b k] w (RetB (num (-a) (-b) k) w) := by
  go_enter Tryd.func161, Tryd.ntmps161
  go_wp2
  try go_region
  go_wp2
  exact bodyPost_ret (v := num (-a) (-b) k) (by simp [results, Tryd.results161, go_sem, *]) rfl ⟨rfl, by (repeat (first | with_reducible exact Below.refl _ _ | with_reducible refine Below.drew ?_ | with_reducible refine Below.alloc ?_ (by first | omega | (simp; done) | (simp; omega)) _ | with_reducible refine Below.setCell ?_ (by first | omega | (simp; done) | (simp; omega)) _ | with_reducible refine Below.trans ?_ (Below.mono (by assumption) (by first | omega | (simp; done) | (simp; omega)))))⟩

end Go.Proofs.YtafbdnjabgfjeaaDoor
