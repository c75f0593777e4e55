/- The laws of the vectors of directions, of lines through points, of sides and of midpoints: walked whole. -/
import Derived.Test.YtafbdnjabgfjeaaDoorGl
import Derived.Test.YtafbdnjabgfjeaaDoorGc
import Derived.Test.YtafbdnjabgfjeaaDoorGs
import Derived.Deep.RegionHeld3
import Derived.Deep.DeepCutAuto
import Derived.Deep.DrawnRows
section
namespace Go.Proofs.YtafbdnjabgfjeaaDoor
open Go Go.RowKit OriM
variable {β : Bool}

/-! ### LineAt -/
theorem dot_m64 {d : Nat} (hd : d < 16) {p : P4} (h : M64 p) : dotA d p % 64 = 0 ∧ dotB d p % 64 = 0 := by
  obtain ⟨h1, h2, h3, h4⟩ := h
  rcases lt16 hd with rfl | rfl | rfl | rfl | rfl | rfl | rfl | rfl | rfl | rfl | rfl | rfl | rfl | rfl | rfl | rfl <;> simp [dotA, dotB, xA, xB, yA, yB] <;> omega

end Go.Proofs.YtafbdnjabgfjeaaDoor
end
section
namespace Go.Proofs.YtafbdnjabgfjeaaDoor
open Go Go.RowKit OriM
variable {β : Bool}
attribute [local go_sem ↓] Go.wp_at_zero Go.wp_at_succ

set_option maxHeartbeats 1000000 in
theorem sSO_ok (xd xa xb xk ya yb yk yc yd yl ld la lb lk va vb vk vc vd vl r : Int) (w : World) (hT : LT β w)
    (H1 : Hid (∀ w, LT β w → Calls Tryd.prog 52 #[Value.agg #[Value.int IntKind.i64 xd, Value.int IntKind.i64 xa, Value.int IntKind.i64 xb, Value.int IntKind.i64 xk]] w (RetB (Value.bool true) w)))
    (H2 : Hid (∀ w, LT β w → Calls Tryd.prog 53 #[Value.agg #[Value.int IntKind.i64 ya, Value.int IntKind.i64 yb, Value.int IntKind.i64 yk, Value.int IntKind.i64 yc, Value.int IntKind.i64 yd, Value.int IntKind.i64 yl]] w (RetB (Value.bool true) w)))
    (H3 : Hid (∀ w, LT β w → Calls Tryd.prog 68 #[Value.agg #[Value.int IntKind.i64 xd, Value.int IntKind.i64 xa, Value.int IntKind.i64 xb, Value.int IntKind.i64 xk]] w (RetB (Value.agg #[Value.int IntKind.i64 ld, Value.int IntKind.i64 la, Value.int IntKind.i64 lb, Value.int IntKind.i64 lk]) w)))
    (H4 : Hid (∀ w, LT β w → Calls Tryd.prog 71 #[Value.agg #[Value.int IntKind.i64 ya, Value.int IntKind.i64 yb, Value.int IntKind.i64 yk, Value.int IntKind.i64 yc, Value.int IntKind.i64 yd, Value.int IntKind.i64 yl]] w (RetB (Value.agg #[Value.int IntKind.i64 va, Value.int IntKind.i64 vb, Value.int IntKind.i64 vk, Value.int IntKind.i64 vc, Value.int IntKind.i64 vd, Value.int IntKind.i64 vl]) w)))
    (H5 : Hid (∀ w, LT β w → Calls Tryd.prog 70 #[Value.agg #[Value.int IntKind.i64 ld, Value.int IntKind.i64 la, Value.int IntKind.i64 lb, Value.int IntKind.i64 lk], Value.agg #[Value.int IntKind.i64 va, Value.int IntKind.i64 vb, Value.int IntKind.i64 vk, Value.int IntKind.i64 vc, Value.int IntKind.i64 vd, Value.int IntKind.i64 vl]] w (RetB (Value.int IntKind.i64 r) w)))
    : Calls Tryd.prog 19 #[Value.agg #[Value.int IntKind.i64 xd, Value.int IntKind.i64 xa, Value.int IntKind.i64 xb, Value.int IntKind.i64 xk], Value.agg #[Value.int IntKind.i64 ya, Value.int IntKind.i64 yb, Value.int IntKind.i64 yk, Value.int IntKind.i64 yc, Value.int IntKind.i64 yd, Value.int IntKind.i64 yl]] w (RetB (Value.int IntKind.i64 r) w) := by
  go_enter Tryd.func19, Tryd.ntmps19
  go_wp2_with fail
  refine (H1.out _ ?_).mono ?_
  · exact LT.below (w := w) hT (by (repeat (first | with_reducible exact Below.refl _ _ | with_reducible assumption | with_reducible refine below_drewN ?_ _ | with_reducible refine Below.drew ?_ | with_reducible refine Below.alloc ?_ (by first | omega | (simp; done) | (simp; omega)) _ | with_reducible refine Below.setCell ?_ (by first | omega | (simp; done) | (simp; omega)) _ | with_reducible refine Below.trans ?_ (Below.mono (by assumption) (by first | omega | (simp; done) | (simp; omega)))))) (Nat.le_refl _)
  rintro e w1 ⟨rfl, hb1⟩; (try replace hb1 := Below.undrew hb1); obtain ⟨hc1, hf1⟩ := bcell hb1; have hz1 := hb1.size; (try simp at hz1); (have zz_1_0 : w.heap.size < w.heap.size + 1 + 1 := (by omega)); (try have z1_0 : w.heap.size < w1.heap.size := (by omega)); (try have z1_1 : w.heap.size + 1 < w1.heap.size := (by omega))
  go_wp2_with fail
  refine (H2.out _ ?_).mono ?_
  · exact LT.below (w := w) hT (by (repeat (first | with_reducible exact Below.refl _ _ | with_reducible assumption | with_reducible refine below_drewN ?_ _ | with_reducible refine Below.drew ?_ | with_reducible refine Below.alloc ?_ (by first | omega | (simp; done) | (simp; omega)) _ | with_reducible refine Below.setCell ?_ (by first | omega | (simp; done) | (simp; omega)) _ | with_reducible refine Below.trans ?_ (Below.mono (by assumption) (by first | omega | (simp; done) | (simp; omega)))))) (Nat.le_refl _)
  rintro e w2 ⟨rfl, hb2⟩; (try replace hb2 := Below.undrew hb2); obtain ⟨hc2, hf2⟩ := bcell hb2; have hz2 := hb2.size; (try simp at hz2); (try have z2_0 : w.heap.size < w2.heap.size := (by omega)); (try have z2_1 : w.heap.size + 1 < w2.heap.size := (by omega))
  go_wp2_with fail
  go_region_held3 (fun w' => w'.cell? ⟨w.heap.size, 0, none⟩ = some (Value.int IntKind.i64 xd) ∧ w'.cell? ⟨w.heap.size, 1, none⟩ = some (Value.int IntKind.i64 xa) ∧ w'.cell? ⟨w.heap.size, 2, none⟩ = some (Value.int IntKind.i64 xb) ∧ w'.cell? ⟨w.heap.size, 3, none⟩ = some (Value.int IntKind.i64 xk) ∧ w'.cell? ⟨w.heap.size + 1, 0, none⟩ = some (Value.int IntKind.i64 ya) ∧ w'.cell? ⟨w.heap.size + 1, 1, none⟩ = some (Value.int IntKind.i64 yb) ∧ w'.cell? ⟨w.heap.size + 1, 2, none⟩ = some (Value.int IntKind.i64 yk) ∧ w'.cell? ⟨w.heap.size + 1, 3, none⟩ = some (Value.int IntKind.i64 yc) ∧ w'.cell? ⟨w.heap.size + 1, 4, none⟩ = some (Value.int IntKind.i64 yd) ∧ w'.cell? ⟨w.heap.size + 1, 5, none⟩ = some (Value.int IntKind.i64 yl)) ((first | (go_simp; done) | (simp [*]; done)))
    ((first
    | (go_at_call 68; refine (H3.out _ ?_).mono ?_; exact LT.below (w := w) hT (by (repeat (first | with_reducible exact Below.refl _ _ | with_reducible assumption | with_reducible refine below_drewN ?_ _ | with_reducible refine Below.drew ?_ | with_reducible refine Below.alloc ?_ (by first | omega | (simp; done) | (simp; omega)) _ | with_reducible refine Below.setCell ?_ (by first | omega | (simp; done) | (simp; omega)) _ | with_reducible refine Below.trans ?_ (Below.mono (by assumption) (by first | omega | (simp; done) | (simp; omega)))))) (Nat.le_refl _); rintro e w3 ⟨rfl, hb3⟩; (try replace hb3 := Below.undrew hb3); obtain ⟨hc3, hf3⟩ := bcell hb3; have hz3 := hb3.size; (try simp at hz3); (try have z3_0 : w.heap.size < w3.heap.size := (by omega)); (try have z3_1 : w.heap.size + 1 < w3.heap.size := (by omega)))
    | (go_at_call 71; refine (H4.out _ ?_).mono ?_; exact LT.below (w := w) hT (by (repeat (first | with_reducible exact Below.refl _ _ | with_reducible assumption | with_reducible refine below_drewN ?_ _ | with_reducible refine Below.drew ?_ | with_reducible refine Below.alloc ?_ (by first | omega | (simp; done) | (simp; omega)) _ | with_reducible refine Below.setCell ?_ (by first | omega | (simp; done) | (simp; omega)) _ | with_reducible refine Below.trans ?_ (Below.mono (by assumption) (by first | omega | (simp; done) | (simp; omega)))))) (Nat.le_refl _); rintro e w4 ⟨rfl, hb4⟩; (try replace hb4 := Below.undrew hb4); obtain ⟨hc4, hf4⟩ := bcell hb4; have hz4 := hb4.size; (try simp at hz4); (try have z4_0 : w.heap.size < w4.heap.size := (by omega)); (try have z4_1 : w.heap.size + 1 < w4.heap.size := (by omega)))
    | (go_at_call 70; refine (H5.out _ ?_).mono ?_; exact LT.below (w := w) hT (by (repeat (first | with_reducible exact Below.refl _ _ | with_reducible assumption | with_reducible refine below_drewN ?_ _ | with_reducible refine Below.drew ?_ | with_reducible refine Below.alloc ?_ (by first | omega | (simp; done) | (simp; omega)) _ | with_reducible refine Below.setCell ?_ (by first | omega | (simp; done) | (simp; omega)) _ | with_reducible refine Below.trans ?_ (Below.mono (by assumption) (by first | omega | (simp; done) | (simp; omega)))))) (Nat.le_refl _); rintro e w5 ⟨rfl, hb5⟩; (try replace hb5 := Below.undrew hb5); obtain ⟨hc5, hf5⟩ := bcell hb5; have hz5 := hb5.size; (try simp at hz5); (try have z5_0 : w.heap.size < w5.heap.size := (by omega)); (try have z5_1 : w.heap.size + 1 < w5.heap.size := (by omega)))))
  go_wp2_with fail
  go_ret
  exact ⟨rfl, by (repeat (first | with_reducible exact Below.refl _ _ | with_reducible assumption | with_reducible refine below_drewN ?_ _ | with_reducible refine Below.drew ?_ | with_reducible refine Below.alloc ?_ (by first | omega | (simp; done) | (simp; omega)) _ | with_reducible refine Below.setCell ?_ (by first | omega | (simp; done) | (simp; omega)) _ | with_reducible refine Below.trans ?_ (Below.mono (by assumption) (by first | omega | (simp; done) | (simp; omega)))))⟩
end Go.Proofs.YtafbdnjabgfjeaaDoor
end
section
namespace Go.Proofs.YtafbdnjabgfjeaaDoor
open Go Go.RowKit OriM
variable {β : Bool}

/-! ### DirVector -/
/-- On which side of the line d, A, B a point is. -/
def sideV (n : Nat) (A B : Int) (p : P4) : Int := Q.sgn2 (dotA (n + 4) p - A) (dotB (n + 4) p - B)
theorem side_facts {n : Nat} (hn : n < 8) {A B : Int} {p : P4} (hA : Bd2 8589934592 A B) (mA : A % 64 = 0 ∧ B % 64 = 0) (hb : Bd 8589934592 p) (hm : M64 p) :
    (dotA (n + 4) p - A) % 64 = 0 ∧ (dotB (n + 4) p - B) % 64 = 0 ∧ Bd2 68719476736 (dotA (n + 4) p - A) (dotB (n + 4) p - B) := by
  have m := dot_m64 (d := n + 4) (by omega) hm
  have b := dot_bd (d := n + 4) (by omega) hb
  unfold Bd2 at *; omega
theorem sside_g {n : Nat} (hn : n < 8) {A B : Int} {p : P4} (hA : Bd2 8589934592 A B) (mA : A % 64 = 0 ∧ B % 64 = 0) (hb : Bd 8589934592 p) (hm : M64 p) (w : World) (hT : LT β w) :
    Calls Tryd.prog 70 #[gl n A B, gp p] w (RetB (.int .i64 (sideV n A B p)) w) := by
  obtain ⟨f1, f2, f3⟩ := side_facts hn hA mA hb hm
  have HD := fun w (hT : LT β w) => sDot_g (d := n + 4) (by omega) (bd_mono hb (by decide)) w hT
  rw [Nat.mod_eq_of_lt (show n + 4 < 16 by omega), show ((n + 4 : Nat) : Int) = (n : Int) + 4 by omega] at HD
  have b := dot_bd (d := n + 4) (by omega) hb
  exact sSide_core _ _ _ _ _ _ _ _ _ _ _ _ _ _ _ _ _ w hT (by omega) (by omega) (Lib.hid HD) (Lib.hid fun w hT => sSub_g (bd2_mono b (by decide)) (bd2_mono hA (by decide)) w hT) (Lib.hid fun w _ => sSign_g f1 f2 f3 w)

theorem vL_split {d a b k : Int} (h : vL d a b k = true) : ∃ n : Nat, d = n ∧ n < 8 ∧ validB a b k = true := by
  unfold vL at h; rw [Bool.and_eq_true] at h
  have := h.1
  simp [inB] at this
  exact ⟨d.toNat, by omega, by omega, h.2⟩

end Go.Proofs.YtafbdnjabgfjeaaDoor
end
