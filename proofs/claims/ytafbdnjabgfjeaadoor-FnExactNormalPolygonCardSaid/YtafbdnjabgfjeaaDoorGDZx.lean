/- The laws of directions and of lines through two points, walked whole. -/
import Derived.Test.YtafbdnjabgfjeaaDoorGl
import Derived.Test.YtafbdnjabgfjeaaDoorGZx
import Derived.Test.YtafbdnjabgfjeaaDoorGlqx
import Derived.Deep.RegionHeld3
import Derived.Deep.DeepCutAuto
import Derived.Deep.DrawnRows
section
namespace Go.Proofs.YtafbdnjabgfjeaaDoor
open Go Go.RowKit OriM
variable {β : Bool}
attribute [local go_sem ↓] Go.wp_at_zero Go.wp_at_succ

set_option maxHeartbeats 1000000 in
theorem iDO_ok (xa xb xk xc xd xl ya yb yk yc yd yl va vb vk vc vd vl ua ub uk uc ud ul r : Int) (w : World) (hT : LT β w)
    (H1 : Hid (∀ w, LT β w → Calls Tryd.prog 63 #[Value.agg #[Value.int IntKind.i64 xa, Value.int IntKind.i64 xb, Value.int IntKind.i64 xk, Value.int IntKind.i64 xc, Value.int IntKind.i64 xd, Value.int IntKind.i64 xl]] w (RetB (Value.bool true) w)))
    (H2 : Hid (∀ w, LT β w → Calls Tryd.prog 63 #[Value.agg #[Value.int IntKind.i64 ya, Value.int IntKind.i64 yb, Value.int IntKind.i64 yk, Value.int IntKind.i64 yc, Value.int IntKind.i64 yd, Value.int IntKind.i64 yl]] w (RetB (Value.bool true) w)))
    (H3 : Hid (∀ w, LT β w → Calls Tryd.prog 64 #[Value.agg #[Value.int IntKind.i64 xa, Value.int IntKind.i64 xb, Value.int IntKind.i64 xk, Value.int IntKind.i64 xc, Value.int IntKind.i64 xd, Value.int IntKind.i64 xl]] w (RetB (Value.agg #[Value.int IntKind.i64 va, Value.int IntKind.i64 vb, Value.int IntKind.i64 vk, Value.int IntKind.i64 vc, Value.int IntKind.i64 vd, Value.int IntKind.i64 vl]) w)))
    (H4 : Hid (∀ w, LT β w → Calls Tryd.prog 64 #[Value.agg #[Value.int IntKind.i64 ya, Value.int IntKind.i64 yb, Value.int IntKind.i64 yk, Value.int IntKind.i64 yc, Value.int IntKind.i64 yd, Value.int IntKind.i64 yl]] w (RetB (Value.agg #[Value.int IntKind.i64 ua, Value.int IntKind.i64 ub, Value.int IntKind.i64 uk, Value.int IntKind.i64 uc, Value.int IntKind.i64 ud, Value.int IntKind.i64 ul]) w)))
    (H5 : Hid (∀ w, LT β w → Calls Tryd.prog 79 #[Value.agg #[Value.int IntKind.i64 va, Value.int IntKind.i64 vb, Value.int IntKind.i64 vk, Value.int IntKind.i64 vc, Value.int IntKind.i64 vd, Value.int IntKind.i64 vl], Value.agg #[Value.int IntKind.i64 ua, Value.int IntKind.i64 ub, Value.int IntKind.i64 uk, Value.int IntKind.i64 uc, Value.int IntKind.i64 ud, Value.int IntKind.i64 ul]] w (RetB (Value.int IntKind.i64 r) w)))
    : Calls Tryd.prog 26 #[Value.agg #[Value.int IntKind.i64 xa, Value.int IntKind.i64 xb, Value.int IntKind.i64 xk, Value.int IntKind.i64 xc, Value.int IntKind.i64 xd, Value.int IntKind.i64 xl], Value.agg #[Value.int IntKind.i64 ya, Value.int IntKind.i64 yb, Value.int IntKind.i64 yk, Value.int IntKind.i64 yc, Value.int IntKind.i64 yd, Value.int IntKind.i64 yl]] w (RetB (Value.int IntKind.i64 r) w) := by
  go_enter Tryd.func26, Tryd.ntmps26
  go_wp2_with fail
  refine (H1.out _ ?_).mono ?_
  · exact LT.below (w := w) hT (by (repeat (first | with_reducible exact Below.refl _ _ | with_reducible assumption | with_reducible refine below_drewN ?_ _ | with_reducible refine Below.drew ?_ | with_reducible refine Below.alloc ?_ (by first | omega | (simp; done) | (simp; omega)) _ | with_reducible refine Below.setCell ?_ (by first | omega | (simp; done) | (simp; omega)) _ | with_reducible refine Below.trans ?_ (Below.mono (by assumption) (by first | omega | (simp; done) | (simp; omega)))))) (Nat.le_refl _)
  rintro e w1 ⟨rfl, hb1⟩; (try replace hb1 := Below.undrew hb1); obtain ⟨hc1, hf1⟩ := bcell hb1; have hz1 := hb1.size; (try simp at hz1); (have zz_1_0 : w.heap.size < w.heap.size + 1 + 1 := (by omega)); (try have z1_0 : w.heap.size < w1.heap.size := (by omega)); (try have z1_1 : w.heap.size + 1 < w1.heap.size := (by omega))
  go_wp2_with fail
  refine (H2.out _ ?_).mono ?_
  · exact LT.below (w := w) hT (by (repeat (first | with_reducible exact Below.refl _ _ | with_reducible assumption | with_reducible refine below_drewN ?_ _ | with_reducible refine Below.drew ?_ | with_reducible refine Below.alloc ?_ (by first | omega | (simp; done) | (simp; omega)) _ | with_reducible refine Below.setCell ?_ (by first | omega | (simp; done) | (simp; omega)) _ | with_reducible refine Below.trans ?_ (Below.mono (by assumption) (by first | omega | (simp; done) | (simp; omega)))))) (Nat.le_refl _)
  rintro e w2 ⟨rfl, hb2⟩; (try replace hb2 := Below.undrew hb2); obtain ⟨hc2, hf2⟩ := bcell hb2; have hz2 := hb2.size; (try simp at hz2); (try have z2_0 : w.heap.size < w2.heap.size := (by omega)); (try have z2_1 : w.heap.size + 1 < w2.heap.size := (by omega))
  go_wp2_with fail
  go_region_held3 (fun w' => w'.cell? ⟨w.heap.size, 0, none⟩ = some (Value.int IntKind.i64 xa) ∧ w'.cell? ⟨w.heap.size, 1, none⟩ = some (Value.int IntKind.i64 xb) ∧ w'.cell? ⟨w.heap.size, 2, none⟩ = some (Value.int IntKind.i64 xk) ∧ w'.cell? ⟨w.heap.size, 3, none⟩ = some (Value.int IntKind.i64 xc) ∧ w'.cell? ⟨w.heap.size, 4, none⟩ = some (Value.int IntKind.i64 xd) ∧ w'.cell? ⟨w.heap.size, 5, none⟩ = some (Value.int IntKind.i64 xl) ∧ w'.cell? ⟨w.heap.size + 1, 0, none⟩ = some (Value.int IntKind.i64 ya) ∧ w'.cell? ⟨w.heap.size + 1, 1, none⟩ = some (Value.int IntKind.i64 yb) ∧ w'.cell? ⟨w.heap.size + 1, 2, none⟩ = some (Value.int IntKind.i64 yk) ∧ w'.cell? ⟨w.heap.size + 1, 3, none⟩ = some (Value.int IntKind.i64 yc) ∧ w'.cell? ⟨w.heap.size + 1, 4, none⟩ = some (Value.int IntKind.i64 yd) ∧ w'.cell? ⟨w.heap.size + 1, 5, none⟩ = some (Value.int IntKind.i64 yl)) ((first | (go_simp; done) | (simp [*]; done)))
    ((first
    | (go_at_call_of 64 (Value.agg #[Value.int IntKind.i64 xa, Value.int IntKind.i64 xb, Value.int IntKind.i64 xk, Value.int IntKind.i64 xc, Value.int IntKind.i64 xd, Value.int IntKind.i64 xl]); refine (H3.out _ ?_).mono ?_; exact LT.below (w := w) hT (by (repeat (first | with_reducible exact Below.refl _ _ | with_reducible assumption | with_reducible refine below_drewN ?_ _ | with_reducible refine Below.drew ?_ | with_reducible refine Below.alloc ?_ (by first | omega | (simp; done) | (simp; omega)) _ | with_reducible refine Below.setCell ?_ (by first | omega | (simp; done) | (simp; omega)) _ | with_reducible refine Below.trans ?_ (Below.mono (by assumption) (by first | omega | (simp; done) | (simp; omega)))))) (Nat.le_refl _); rintro e w3 ⟨rfl, hb3⟩; (try replace hb3 := Below.undrew hb3); obtain ⟨hc3, hf3⟩ := bcell hb3; have hz3 := hb3.size; (try simp at hz3); (try have z3_0 : w.heap.size < w3.heap.size := (by omega)); (try have z3_1 : w.heap.size + 1 < w3.heap.size := (by omega)))
    | (go_at_call_of 64 (Value.agg #[Value.int IntKind.i64 ya, Value.int IntKind.i64 yb, Value.int IntKind.i64 yk, Value.int IntKind.i64 yc, Value.int IntKind.i64 yd, Value.int IntKind.i64 yl]); refine (H4.out _ ?_).mono ?_; exact LT.below (w := w) hT (by (repeat (first | with_reducible exact Below.refl _ _ | with_reducible assumption | with_reducible refine below_drewN ?_ _ | with_reducible refine Below.drew ?_ | with_reducible refine Below.alloc ?_ (by first | omega | (simp; done) | (simp; omega)) _ | with_reducible refine Below.setCell ?_ (by first | omega | (simp; done) | (simp; omega)) _ | with_reducible refine Below.trans ?_ (Below.mono (by assumption) (by first | omega | (simp; done) | (simp; omega)))))) (Nat.le_refl _); rintro e w4 ⟨rfl, hb4⟩; (try replace hb4 := Below.undrew hb4); obtain ⟨hc4, hf4⟩ := bcell hb4; have hz4 := hb4.size; (try simp at hz4); (try have z4_0 : w.heap.size < w4.heap.size := (by omega)); (try have z4_1 : w.heap.size + 1 < w4.heap.size := (by omega)))
    | (go_at_call 79; refine (H5.out _ ?_).mono ?_; exact LT.below (w := w) hT (by (repeat (first | with_reducible exact Below.refl _ _ | with_reducible assumption | with_reducible refine below_drewN ?_ _ | with_reducible refine Below.drew ?_ | with_reducible refine Below.alloc ?_ (by first | omega | (simp; done) | (simp; omega)) _ | with_reducible refine Below.setCell ?_ (by first | omega | (simp; done) | (simp; omega)) _ | with_reducible refine Below.trans ?_ (Below.mono (by assumption) (by first | omega | (simp; done) | (simp; omega)))))) (Nat.le_refl _); rintro e w5 ⟨rfl, hb5⟩; (try replace hb5 := Below.undrew hb5); obtain ⟨hc5, hf5⟩ := bcell hb5; have hz5 := hb5.size; (try simp at hz5); (try have z5_0 : w.heap.size < w5.heap.size := (by omega)); (try have z5_1 : w.heap.size + 1 < w5.heap.size := (by omega)))))
  go_wp2_with fail
  go_ret
  exact ⟨rfl, by (repeat (first | with_reducible exact Below.refl _ _ | with_reducible assumption | with_reducible refine below_drewN ?_ _ | with_reducible refine Below.drew ?_ | with_reducible refine Below.alloc ?_ (by first | omega | (simp; done) | (simp; omega)) _ | with_reducible refine Below.setCell ?_ (by first | omega | (simp; done) | (simp; omega)) _ | with_reducible refine Below.trans ?_ (Below.mono (by assumption) (by first | omega | (simp; done) | (simp; omega)))))⟩

end Go.Proofs.YtafbdnjabgfjeaaDoor
end
section
namespace Go.Proofs.YtafbdnjabgfjeaaDoor
open Go Go.RowKit OriM
variable {β : Bool}

theorem find16_dir (p : P4) : ∀ n d, find16 (fun j => decide (dotA (j % 16) p = 0 ∧ dotB (j % 16) p = 0)) (fun j => decide (0 < sgD j p)) n d = dirFrom16 p n d
  | 0, _ => rfl
  | n + 1, d => by
    unfold find16 dirFrom16
    rw [find16_dir p n (d + 1)]
    by_cases h : (dotA ((d + 4) % 16) p = 0 ∧ dotB ((d + 4) % 16) p = 0) ∧ 0 < sgD d p
    · rw [if_pos h, if_pos]; simp only [decide_eq_true h.1, decide_eq_true h.2]; rfl
    · rw [if_neg h, if_neg]
      intro hc
      simp only [Bool.and_eq_true, decide_eq_true_eq] at hc
      exact h hc

theorem sDir_g {p : P4} (hb : Bd 17179869184 p) (hm : M64 p) (w : World) (hT : LT β w) : Calls Tryd.prog 72 #[gp p] w (RetB (.int .i64 (dirOf p)) w) := by
  have b16 : ∀ j : Nat, j % 16 < 16 := fun j => Nat.mod_lt _ (by decide)
  have c := sDir_core (β := β) (gA p.a p.b) (gB p.a p.b) (gK p.a p.b) (gA p.c p.d) (gB p.c p.d) (gK p.c p.d) (fun j => decide (dotA (j % 16) p = 0 ∧ dotB (j % 16) p = 0)) (fun j => decide (0 < sgD j p))
    (fun j => gA (dotA (j % 16) p) (dotB (j % 16) p)) (fun j => gB (dotA (j % 16) p) (dotB (j % 16) p)) (fun j => gK (dotA (j % 16) p) (dotB (j % 16) p)) (fun j => sgD j p) w hT
    (Lib.hid fun j hj w hT => sDot_g hj (bd_mono hb (by decide)) w hT)
    (Lib.hid fun j _ w => by
      by_cases h : dotA (j % 16) p = 0 ∧ dotB (j % 16) p = 0
      · simp only [decide_eq_true h]
        obtain ⟨e1, e2⟩ := g_zero.2 h
        rw [e1, e2]
        exact sZero_true _ w
      · simp only [decide_eq_false h]
        exact sZero_false _ (fun hc => h (g_zero.1 hc)) w)
    (Lib.hid fun j hj w => by
      have m := dot_m64 (b16 j) hm
      have := sSign_g m.1 m.2 (bd2_mono (dot_bd (b16 j) hb) (by decide)) w
      simp only [Nat.mod_eq_of_lt hj] at this ⊢
      exact this)
    (Lib.hid fun _ => rfl)
  rw [find16_dir, dir_agree] at c
  exact c

theorem find8_dir (p : P4) : ∀ n d, d + n ≤ 8 → find8 (fun j => Q.sgn2 (crossA j p) (crossB j p)) (fun j => sgD j p) n d = dirFrom p n d
  | 0, _, _ => rfl
  | n + 1, d, h => by
    unfold find8 dirFrom
    rw [find8_dir p n (d + 1) (by omega)]
    have e : (Q.sgn2 (crossA d p) (crossB d p) = 0) ↔ Along d p := by
      rw [sgn2_zero', (cross_dot (by omega) p).1, (cross_dot (by omega) p).2]; rfl
    by_cases ha : Along d p
    · rw [if_pos (e.2 ha), if_pos ha]
    · rw [if_neg (fun hc => ha (e.1 hc)), if_neg ha]

theorem wf_of {x : Int} (h : -1152921504606846976 ≤ x ∧ x ≤ 1152921504606846976) : (Lit.int .i64 x).wf = true := WalkArith.wf_i64 (by omega)
theorem gk_wf (A B : Int) : (Lit.int .i64 (gK A B : Int)).wf = true := wf_of (by have := gK_le A B; omega)

theorem iDirTo_g {p q : P4} (hp : Bd 8589934592 p) (hq : Bd 8589934592 q) (mp : M64 p) (mq : M64 q) (w : World) (hT : LT true w) :
    Calls Tryd.prog 79 #[gp p, gp q] w (RetB (.int .i64 (dirOf (q.sub p))) w) := by
  obtain ⟨p1, p2⟩ := bd_half hp
  obtain ⟨q1, q2⟩ := bd_half hq
  have bp1 := g_bound p1
  have bp2 := g_bound p2
  have bq1 := g_bound q1
  have bq2 := g_bound q2
  have hv := fun w => veq_run (wf_of (x := gA p.a p.b) (by omega)) (wf_of (x := gB p.a p.b) (by omega)) (gk_wf p.a p.b) (wf_of (x := gA p.c p.d) (by omega)) (wf_of (x := gB p.c p.d) (by omega)) (gk_wf p.c p.d)
    (wf_of (x := gA q.a q.b) (by omega)) (wf_of (x := gB q.a q.b) (by omega)) (gk_wf q.a q.b) (wf_of (x := gA q.c q.d) (by omega)) (wf_of (x := gB q.c q.d) (by omega)) (gk_wf q.c q.d) w
  by_cases he : p = q
  · subst he
    have hz : dirOf (p.sub p) = -1 := by unfold dirOf; rw [if_pos]; unfold zero P4.sub; simp
    rw [hz]
    simp only [eqB, beq_self_eq_true, Bool.and_self] at hv
    exact dirTo_same _ _ _ _ _ _ w hv
  · have hne : ∀ w, (Op.equalIn 10000 84 (.agg #[.int .i64 (gA p.a p.b), .int .i64 (gB p.a p.b), .int .i64 (gK p.a p.b), .int .i64 (gA p.c p.d), .int .i64 (gB p.c p.d), .int .i64 (gK p.c p.d)]) (.agg #[.int .i64 (gA q.a q.b), .int .i64 (gB q.a q.b), .int .i64 (gK q.a q.b), .int .i64 (gA q.c q.d), .int .i64 (gB q.c q.d), .int .i64 (gK q.c q.d)])).run Tryd.prog w = .ok false w := by
      intro w
      rw [hv w]
      congr 1
      rw [Bool.eq_false_iff]
      intro hc
      simp only [eqB, Bool.and_eq_true, beq_iff_eq] at hc
      obtain ⟨⟨a1, a2, a3⟩, a4, a5, a6⟩ := hc
      obtain ⟨e1, e2⟩ := g_inj ⟨a1, a2, by omega⟩
      obtain ⟨e3, e4⟩ := g_inj ⟨a4, a5, by omega⟩
      apply he
      cases p; cases q; simp_all
    have hD : Bd 17179869184 (q.sub p) := by unfold Bd P4.sub at *; simp only; omega
    have hM : M64 (q.sub p) := by unfold M64 P4.sub at *; simp only; omega
    have hnz : ¬ zero (q.sub p) := by
      intro hc
      unfold zero P4.sub at hc
      simp only at hc
      apply he
      cases p; cases q; simp only [P4.mk.injEq]; simp only at hc; omega
    refine dirTo_core _ _ _ _ _ _ _ _ _ _ _ _ _ _ _ _ _ _ _ xA xB yA yB _ _ _ _ _ _ (fun j => Q.sgn2 (crossA j (q.sub p)) (crossB j (q.sub p))) (fun j => sgD j (q.sub p)) w hT hne (Lib.hid fun w hT => vminus_g (bd_mono hq (by decide)) (bd_mono hp (by decide)) w hT)
      (Lib.hid fun j hj w hT => ?_) (Lib.hid fun j hj w hT => vcross_g (by omega) (bd_mono hD (by decide)) w hT) (Lib.hid fun j hj w => ?_) (Lib.hid fun j hj w hT => vdot_g (by omega) (bd_mono hD (by decide)) w hT) (Lib.hid fun j hj w => ?_) (Lib.hid ?_)
    · have := dirvec_any j (by omega) w hT
      rwa [Nat.mod_eq_of_lt (show j < 16 by omega)] at this
    · have m := dot_m64 (d := j + 4) (by omega) hM
      have b := dot_bd (d := j + 4) (by omega) hD
      rw [← (cross_dot hj _).1, ← (cross_dot hj _).2] at m b
      exact sign_g m.1 m.2 (bd2_mono b (by decide)) w
    · have m := dot_m64 (d := j) (by omega) hM
      exact sign_g m.1 m.2 (bd2_mono (dot_bd (by omega) hD) (by decide)) w
    · rw [find8_dir _ 8 0 (by omega)]
      unfold dirOf; rw [if_neg hnz]

end Go.Proofs.YtafbdnjabgfjeaaDoor
end
