/- The walk of FnExactValidNum. -/
import Derived.Test.YtffcdnokkdifdaaDoorWd
namespace Go.Proofs.YtffcdnokkdifdaaDoor
open Go Go.RowKit OriM

theorem sValidNum_any (a b k : Int) (w : World) : Calls Tryd.prog 21 #[num a b k] w (RetB (.bool (validB a b k)) w) := by
  go_enter Tryd.func21, Tryd.ntmps21
  go_wp2_with (go_at_call 51; refine (l01Ok_any a b k _).mono ?_; rintro e w1 ⟨rfl, hb1⟩)
  go_ret
  exact ⟨rfl, by (repeat (first | with_reducible exact Below.refl _ _ | with_reducible refine Below.drew ?_ | with_reducible refine Below.alloc ?_ (by first | omega | (simp; done) | (simp; omega)) _ | with_reducible refine Below.setCell ?_ (by first | omega | (simp; done) | (simp; omega)) _ | with_reducible refine Below.trans ?_ (Below.mono (by assumption) (by first | omega | (simp; done) | (simp; omega)))))⟩

theorem exactValidNum.walk (a b k : Int) (h : I3 a b k) (w : World) (hT : TzTab w) :
    Calls Tryd.prog 7 #[num a b k] w (RetB (.bool true) w) := by
  have HI := Lib.hid (ValidNum_any a b k h)
  have HS := Lib.hid (sValidNum_any a b k)
  have HN := Lib.hid (toNum_any a b k)
  clear h
  generalize validB a b k = r at *
  go_enter Tryd.func7, Tryd.ntmps7
  go_wp2_with fail
  refine (HN.out _).mono ?_
  rintro e w1 ⟨rfl, hb1⟩; (try replace hb1 := Below.undrew hb1); obtain ⟨hc1, hf1⟩ := bcell hb1; have hT1 := TzTab.below (by (repeat (first | with_reducible assumption | with_reducible apply TzTab.drew | with_reducible apply TzTab.alloc))) hb1 (Nat.le_refl _); have hz1 := hb1.size; (try simp at hz1); have hz1a : w.heap.size < w1.heap.size := (by omega)
  go_wp2_with fail
  refine (HS.out _).mono ?_
  rintro e w2 ⟨rfl, hb2⟩; (try replace hb2 := Below.undrew hb2); obtain ⟨hc2, hf2⟩ := bcell hb2; have hT2 := TzTab.below (by (repeat (first | with_reducible assumption | with_reducible apply TzTab.drew | with_reducible apply TzTab.alloc))) hb2 (Nat.le_refl _); have hz2 := hb2.size; (try simp at hz2); have hz2a : w.heap.size < w2.heap.size := (by omega)
  go_wp2_with fail
  refine (HN.out _).mono ?_
  rintro e w3 ⟨rfl, hb3⟩; (try replace hb3 := Below.undrew hb3); obtain ⟨hc3, hf3⟩ := bcell hb3; have hT3 := TzTab.below (by (repeat (first | with_reducible assumption | with_reducible apply TzTab.drew | with_reducible apply TzTab.alloc))) hb3 (Nat.le_refl _); have hz3 := hb3.size; (try simp at hz3); have hz3a : w.heap.size < w3.heap.size := (by omega)
  go_wp2_with fail
  refine (HI.out _ ?_).mono ?_; (repeat (first | with_reducible assumption | with_reducible apply TzTab.drew | with_reducible apply TzTab.alloc))
  rintro e w4 ⟨rfl, hb4⟩; (try replace hb4 := Below.undrew hb4); obtain ⟨hc4, hf4⟩ := bcell hb4; have hT4 := TzTab.below (by (repeat (first | with_reducible assumption | with_reducible apply TzTab.drew | with_reducible apply TzTab.alloc))) hb4 (Nat.le_refl _); have hz4 := hb4.size; (try simp at hz4); have hz4a : w.heap.size < w4.heap.size := (by omega)
  go_wp2_with fail
  go_ret
  exact ⟨rfl, by (repeat (first | with_reducible exact Below.refl _ _ | with_reducible refine Below.drew ?_ | with_reducible refine Below.alloc ?_ (by first | omega | (simp; done) | (simp; omega)) _ | with_reducible refine Below.setCell ?_ (by first | omega | (simp; done) | (simp; omega)) _ | with_reducible refine Below.trans ?_ (Below.mono (by assumption) (by first | omega | (simp; done) | (simp; omega)))))⟩
end Go.Proofs.YtffcdnokkdifdaaDoor
