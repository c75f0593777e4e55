/- The laws of directions and of lines through two points, walked whole. -/
import Derived.Test.YtafbdnjabgfjeaaDoorGl
import Derived.Test.YtafbdnjabgfjeaaDoorGZ
import Derived.Test.YtafbdnjabgfjeaaDoorGlq
import Derived.Deep.RegionHeld3
import Derived.Deep.DeepCutAuto
import Derived.Deep.DrawnRows
section
namespace Go.Proofs.YtafbdnjabgfjeaaDoor
open Go Go.RowKit OriM
variable {β : Bool}
attribute [local go_sem ↓] Go.wp_at_zero Go.wp_at_succ

set_option maxHeartbeats 1000000 in
theorem sDO_ok (xa xb xk xc xd xl ya yb yk yc yd yl va vb vk vc vd vl ua ub uk uc ud ul za zb zk zc zd zl r : Int) (w : World) (hT : LT β w)
    (H1 : Hid (∀ w, LT β w → Calls Tryd.prog 53 #[Value.agg #[Value.int IntKind.i64 xa, Value.int IntKind.i64 xb, Value.int IntKind.i64 xk, Value.int IntKind.i64 xc, Value.int IntKind.i64 xd, Value.int IntKind.i64 xl]] w (RetB (Value.bool true) w)))
    (H2 : Hid (∀ w, LT β w → Calls Tryd.prog 53 #[Value.agg #[Value.int IntKind.i64 ya, Value.int IntKind.i64 yb, Value.int IntKind.i64 yk, Value.int IntKind.i64 yc, Value.int IntKind.i64 yd, Value.int IntKind.i64 yl]] w (RetB (Value.bool true) w)))
    (H3 : Hid (∀ w, LT β w → Calls Tryd.prog 71 #[Value.agg #[Value.int IntKind.i64 ya, Value.int IntKind.i64 yb, Value.int IntKind.i64 yk, Value.int IntKind.i64 yc, Value.int IntKind.i64 yd, Value.int IntKind.i64 yl]] w (RetB (Value.agg #[Value.int IntKind.i64 va, Value.int IntKind.i64 vb, Value.int IntKind.i64 vk, Value.int IntKind.i64 vc, Value.int IntKind.i64 vd, Value.int IntKind.i64 vl]) w)))
    (H4 : Hid (∀ w, LT β w → Calls Tryd.prog 71 #[Value.agg #[Value.int IntKind.i64 xa, Value.int IntKind.i64 xb, Value.int IntKind.i64 xk, Value.int IntKind.i64 xc, Value.int IntKind.i64 xd, Value.int IntKind.i64 xl]] w (RetB (Value.agg #[Value.int IntKind.i64 ua, Value.int IntKind.i64 ub, Value.int IntKind.i64 uk, Value.int IntKind.i64 uc, Value.int IntKind.i64 ud, Value.int IntKind.i64 ul]) w)))
    (H5 : Hid (∀ w, LT β w → Calls Tryd.prog 73 #[Value.agg #[Value.int IntKind.i64 va, Value.int IntKind.i64 vb, Value.int IntKind.i64 vk, Value.int IntKind.i64 vc, Value.int IntKind.i64 vd, Value.int IntKind.i64 vl], Value.agg #[Value.int IntKind.i64 ua, Value.int IntKind.i64 ub, Value.int IntKind.i64 uk, Value.int IntKind.i64 uc, Value.int IntKind.i64 ud, Value.int IntKind.i64 ul]] w (RetB (Value.agg #[Value.int IntKind.i64 za, Value.int IntKind.i64 zb, Value.int IntKind.i64 zk, Value.int IntKind.i64 zc, Value.int IntKind.i64 zd, Value.int IntKind.i64 zl]) w)))
    (H6 : Hid (∀ w, LT β w → Calls Tryd.prog 72 #[Value.agg #[Value.int IntKind.i64 za, Value.int IntKind.i64 zb, Value.int IntKind.i64 zk, Value.int IntKind.i64 zc, Value.int IntKind.i64 zd, Value.int IntKind.i64 zl]] w (RetB (Value.int IntKind.i64 r) w)))
    : Calls Tryd.prog 21 #[Value.agg #[Value.int IntKind.i64 xa, Value.int IntKind.i64 xb, Value.int IntKind.i64 xk, Value.int IntKind.i64 xc, Value.int IntKind.i64 xd, Value.int IntKind.i64 xl], Value.agg #[Value.int IntKind.i64 ya, Value.int IntKind.i64 yb, Value.int IntKind.i64 yk, Value.int IntKind.i64 yc, Value.int IntKind.i64 yd, Value.int IntKind.i64 yl]] w (RetB (Value.int IntKind.i64 r) w) := by
  go_enter Tryd.func21, Tryd.ntmps21
  go_wp2_with fail
  refine (H1.out _ ?_).mono ?_
  · exact LT.below (w := w) hT (by (repeat (first | with_reducible exact Below.refl _ _ | with_reducible assumption | with_reducible refine below_drewN ?_ _ | with_reducible refine Below.drew ?_ | with_reducible refine Below.alloc ?_ (by first | omega | (simp; done) | (simp; omega)) _ | with_reducible refine Below.setCell ?_ (by first | omega | (simp; done) | (simp; omega)) _ | with_reducible refine Below.trans ?_ (Below.mono (by assumption) (by first | omega | (simp; done) | (simp; omega)))))) (Nat.le_refl _)
  rintro e w1 ⟨rfl, hb1⟩; (try replace hb1 := Below.undrew hb1); obtain ⟨hc1, hf1⟩ := bcell hb1; have hz1 := hb1.size; (try simp at hz1); (have zz_1_0 : w.heap.size < w.heap.size + 1 + 1 := (by omega)); (try have z1_0 : w.heap.size < w1.heap.size := (by omega)); (try have z1_1 : w.heap.size + 1 < w1.heap.size := (by omega))
  go_wp2_with fail
  refine (H2.out _ ?_).mono ?_
  · exact LT.below (w := w) hT (by (repeat (first | with_reducible exact Below.refl _ _ | with_reducible assumption | with_reducible refine below_drewN ?_ _ | with_reducible refine Below.drew ?_ | with_reducible refine Below.alloc ?_ (by first | omega | (simp; done) | (simp; omega)) _ | with_reducible refine Below.setCell ?_ (by first | omega | (simp; done) | (simp; omega)) _ | with_reducible refine Below.trans ?_ (Below.mono (by assumption) (by first | omega | (simp; done) | (simp; omega)))))) (Nat.le_refl _)
  rintro e w2 ⟨rfl, hb2⟩; (try replace hb2 := Below.undrew hb2); obtain ⟨hc2, hf2⟩ := bcell hb2; have hz2 := hb2.size; (try simp at hz2); (try have z2_0 : w.heap.size < w2.heap.size := (by omega)); (try have z2_1 : w.heap.size + 1 < w2.heap.size := (by omega))
  go_wp2_with fail
  go_region_held3 (fun w' => w'.cell? ⟨w.heap.size + 1, 0, none⟩ = some (Value.int IntKind.i64 ya) ∧ w'.cell? ⟨w.heap.size + 1, 1, none⟩ = some (Value.int IntKind.i64 yb) ∧ w'.cell? ⟨w.heap.size + 1, 2, none⟩ = some (Value.int IntKind.i64 yk) ∧ w'.cell? ⟨w.heap.size + 1, 3, none⟩ = some (Value.int IntKind.i64 yc) ∧ w'.cell? ⟨w.heap.size + 1, 4, none⟩ = some (Value.int IntKind.i64 yd) ∧ w'.cell? ⟨w.heap.size + 1, 5, none⟩ = some (Value.int IntKind.i64 yl) ∧ w'.cell? ⟨w.heap.size, 0, none⟩ = some (Value.int IntKind.i64 xa) ∧ w'.cell? ⟨w.heap.size, 1, none⟩ = some (Value.int IntKind.i64 xb) ∧ w'.cell? ⟨w.heap.size, 2, none⟩ = some (Value.int IntKind.i64 xk) ∧ w'.cell? ⟨w.heap.size, 3, none⟩ = some (Value.int IntKind.i64 xc) ∧ w'.cell? ⟨w.heap.size, 4, none⟩ = some (Value.int IntKind.i64 xd) ∧ w'.cell? ⟨w.heap.size, 5, none⟩ = some (Value.int IntKind.i64 xl)) ((first | (go_simp; done) | (simp [*]; done)))
    ((first
    | (go_at_call_of 71 (Value.agg #[Value.int IntKind.i64 ya, Value.int IntKind.i64 yb, Value.int IntKind.i64 yk, Value.int IntKind.i64 yc, Value.int IntKind.i64 yd, Value.int IntKind.i64 yl]); refine (H3.out _ ?_).mono ?_; exact LT.below (w := w) hT (by (repeat (first | with_reducible exact Below.refl _ _ | with_reducible assumption | with_reducible refine below_drewN ?_ _ | with_reducible refine Below.drew ?_ | with_reducible refine Below.alloc ?_ (by first | omega | (simp; done) | (simp; omega)) _ | with_reducible refine Below.setCell ?_ (by first | omega | (simp; done) | (simp; omega)) _ | with_reducible refine Below.trans ?_ (Below.mono (by assumption) (by first | omega | (simp; done) | (simp; omega)))))) (Nat.le_refl _); rintro e w3 ⟨rfl, hb3⟩; (try replace hb3 := Below.undrew hb3); obtain ⟨hc3, hf3⟩ := bcell hb3; have hz3 := hb3.size; (try simp at hz3); (try have z3_0 : w.heap.size < w3.heap.size := (by omega)); (try have z3_1 : w.heap.size + 1 < w3.heap.size := (by omega)))
    | (go_at_call_of 71 (Value.agg #[Value.int IntKind.i64 xa, Value.int IntKind.i64 xb, Value.int IntKind.i64 xk, Value.int IntKind.i64 xc, Value.int IntKind.i64 xd, Value.int IntKind.i64 xl]); refine (H4.out _ ?_).mono ?_; exact LT.below (w := w) hT (by (repeat (first | with_reducible exact Below.refl _ _ | with_reducible assumption | with_reducible refine below_drewN ?_ _ | with_reducible refine Below.drew ?_ | with_reducible refine Below.alloc ?_ (by first | omega | (simp; done) | (simp; omega)) _ | with_reducible refine Below.setCell ?_ (by first | omega | (simp; done) | (simp; omega)) _ | with_reducible refine Below.trans ?_ (Below.mono (by assumption) (by first | omega | (simp; done) | (simp; omega)))))) (Nat.le_refl _); rintro e w4 ⟨rfl, hb4⟩; (try replace hb4 := Below.undrew hb4); obtain ⟨hc4, hf4⟩ := bcell hb4; have hz4 := hb4.size; (try simp at hz4); (try have z4_0 : w.heap.size < w4.heap.size := (by omega)); (try have z4_1 : w.heap.size + 1 < w4.heap.size := (by omega)))
    | (go_at_call 73; refine (H5.out _ ?_).mono ?_; exact LT.below (w := w) hT (by (repeat (first | with_reducible exact Below.refl _ _ | with_reducible assumption | with_reducible refine below_drewN ?_ _ | with_reducible refine Below.drew ?_ | with_reducible refine Below.alloc ?_ (by first | omega | (simp; done) | (simp; omega)) _ | with_reducible refine Below.setCell ?_ (by first | omega | (simp; done) | (simp; omega)) _ | with_reducible refine Below.trans ?_ (Below.mono (by assumption) (by first | omega | (simp; done) | (simp; omega)))))) (Nat.le_refl _); rintro e w5 ⟨rfl, hb5⟩; (try replace hb5 := Below.undrew hb5); obtain ⟨hc5, hf5⟩ := bcell hb5; have hz5 := hb5.size; (try simp at hz5); (try have z5_0 : w.heap.size < w5.heap.size := (by omega)); (try have z5_1 : w.heap.size + 1 < w5.heap.size := (by omega)))
    | (go_at_call 72; refine (H6.out _ ?_).mono ?_; exact LT.below (w := w) hT (by (repeat (first | with_reducible exact Below.refl _ _ | with_reducible assumption | with_reducible refine below_drewN ?_ _ | with_reducible refine Below.drew ?_ | with_reducible refine Below.alloc ?_ (by first | omega | (simp; done) | (simp; omega)) _ | with_reducible refine Below.setCell ?_ (by first | omega | (simp; done) | (simp; omega)) _ | with_reducible refine Below.trans ?_ (Below.mono (by assumption) (by first | omega | (simp; done) | (simp; omega)))))) (Nat.le_refl _); rintro e w6 ⟨rfl, hb6⟩; (try replace hb6 := Below.undrew hb6); obtain ⟨hc6, hf6⟩ := bcell hb6; have hz6 := hb6.size; (try simp at hz6); (try have z6_0 : w.heap.size < w6.heap.size := (by omega)); (try have z6_1 : w.heap.size + 1 < w6.heap.size := (by omega)))))
  go_wp2_with fail
  go_ret
  exact ⟨rfl, by (repeat (first | with_reducible exact Below.refl _ _ | with_reducible assumption | with_reducible refine below_drewN ?_ _ | with_reducible refine Below.drew ?_ | with_reducible refine Below.alloc ?_ (by first | omega | (simp; done) | (simp; omega)) _ | with_reducible refine Below.setCell ?_ (by first | omega | (simp; done) | (simp; omega)) _ | with_reducible refine Below.trans ?_ (Below.mono (by assumption) (by first | omega | (simp; done) | (simp; omega)))))⟩
end Go.Proofs.YtafbdnjabgfjeaaDoor
end
section
namespace Go.Proofs.YtafbdnjabgfjeaaDoor
open Go Go.RowKit OriM
variable {β : Bool}

theorem find16_dir (p : P4) : ∀ n d, find16 (fun j => decide (dotA (j % 16) p = 0 ∧ dotB (j % 16) p = 0)) (fun j => decide (0 < sgD j p)) n d = dirFrom16 p n d
  | 0, _ => rfl
  | n + 1, d => by
    unfold find16 dirFrom16
    rw [find16_dir p n (d + 1)]
    by_cases h : (dotA ((d + 4) % 16) p = 0 ∧ dotB ((d + 4) % 16) p = 0) ∧ 0 < sgD d p
    · rw [if_pos h, if_pos]; simp only [decide_eq_true h.1, decide_eq_true h.2]; rfl
    · rw [if_neg h, if_neg]
      intro hc
      simp only [Bool.and_eq_true, decide_eq_true_eq] at hc
      exact h hc

theorem sDir_g {p : P4} (hb : Bd 17179869184 p) (hm : M64 p) (w : World) (hT : LT β w) : Calls Tryd.prog 72 #[gp p] w (RetB (.int .i64 (dirOf p)) w) := by
  have b16 : ∀ j : Nat, j % 16 < 16 := fun j => Nat.mod_lt _ (by decide)
  have c := sDir_core (β := β) (gA p.a p.b) (gB p.a p.b) (gK p.a p.b) (gA p.c p.d) (gB p.c p.d) (gK p.c p.d) (fun j => decide (dotA (j % 16) p = 0 ∧ dotB (j % 16) p = 0)) (fun j => decide (0 < sgD j p))
    (fun j => gA (dotA (j % 16) p) (dotB (j % 16) p)) (fun j => gB (dotA (j % 16) p) (dotB (j % 16) p)) (fun j => gK (dotA (j % 16) p) (dotB (j % 16) p)) (fun j => sgD j p) w hT
    (Lib.hid fun j hj w hT => sDot_g hj (bd_mono hb (by decide)) w hT)
    (Lib.hid fun j _ w => by
      by_cases h : dotA (j % 16) p = 0 ∧ dotB (j % 16) p = 0
      · simp only [decide_eq_true h]
        obtain ⟨e1, e2⟩ := g_zero.2 h
        rw [e1, e2]
        exact sZero_true _ w
      · simp only [decide_eq_false h]
        exact sZero_false _ (fun hc => h (g_zero.1 hc)) w)
    (Lib.hid fun j hj w => by
      have m := dot_m64 (b16 j) hm
      have := sSign_g m.1 m.2 (bd2_mono (dot_bd (b16 j) hb) (by decide)) w
      simp only [Nat.mod_eq_of_lt hj] at this ⊢
      exact this)
    (Lib.hid fun _ => rfl)
  rw [find16_dir, dir_agree] at c
  exact c

end Go.Proofs.YtafbdnjabgfjeaaDoor
end
