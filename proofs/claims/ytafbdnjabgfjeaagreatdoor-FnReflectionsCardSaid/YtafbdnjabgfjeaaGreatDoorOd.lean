/- Directions of unit vectors; matrices compared. (find8_dir, iDirTo_g are those of XGzd, dot_m64 that of XGza, without their imports.) -/
import Derived.Test.YtafbdnjabgfjeaaGreatDoorOk
import Derived.Test.YtafbdnjabgfjeaaGreatDoorGlq
namespace Go.Proofs.YtafbdnjabgfjeaaGreatDoor
namespace Com
open Go Go.RowKit OriM
variable {β : Bool}

theorem dot_m64 {d : Nat} (hd : d < 16) {p : P4} (h : M64 p) : dotA d p % 64 = 0 ∧ dotB d p % 64 = 0 := by
  obtain ⟨h1, h2, h3, h4⟩ := h
  rcases lt16 hd with rfl | rfl | rfl | rfl | rfl | rfl | rfl | rfl | rfl | rfl | rfl | rfl | rfl | rfl | rfl | rfl <;> simp [dotA, dotB, xA, xB, yA, yB] <;> omega

/-- LineAt of a valid point: both sides. -/
theorem find8_dir (p : P4) : ∀ n d, d + n ≤ 8 → find8 (fun j => Q.sgn2 (crossA j p) (crossB j p)) (fun j => sgD j p) n d = dirFrom p n d
  | 0, _, _ => rfl
  | n + 1, d, h => by
    unfold find8 dirFrom
    rw [find8_dir p n (d + 1) (by omega)]
    have e : (Q.sgn2 (crossA d p) (crossB d p) = 0) ↔ Along d p := by
      rw [sgn2_zero', (cross_dot (by omega) p).1, (cross_dot (by omega) p).2]; rfl
    by_cases ha : Along d p
    · rw [if_pos (e.2 ha), if_pos ha]
    · rw [if_neg (fun hc => ha (e.1 hc)), if_neg ha]

theorem wf_of {x : Int} (h : -1152921504606846976 ≤ x ∧ x ≤ 1152921504606846976) : (Lit.int .i64 x).wf = true := WalkArith.wf_i64 (by omega)
theorem gk_wf (A B : Int) : (Lit.int .i64 (gK A B : Int)).wf = true := wf_of (by have := gK_le A B; omega)

theorem iDirTo_g {p q : P4} (hp : Bd 8589934592 p) (hq : Bd 8589934592 q) (mp : M64 p) (mq : M64 q) (w : World) (hT : LT true w) :
    Calls Tryz.prog 75 #[gp p, gp q] w (RetB (.int .i64 (dirOf (q.sub p))) w) := by
  obtain ⟨p1, p2⟩ := bd_half hp
  obtain ⟨q1, q2⟩ := bd_half hq
  have bp1 := g_bound p1
  have bp2 := g_bound p2
  have bq1 := g_bound q1
  have bq2 := g_bound q2
  have hv := fun w => veq_run (wf_of (x := gA p.a p.b) (by omega)) (wf_of (x := gB p.a p.b) (by omega)) (gk_wf p.a p.b) (wf_of (x := gA p.c p.d) (by omega)) (wf_of (x := gB p.c p.d) (by omega)) (gk_wf p.c p.d)
    (wf_of (x := gA q.a q.b) (by omega)) (wf_of (x := gB q.a q.b) (by omega)) (gk_wf q.a q.b) (wf_of (x := gA q.c q.d) (by omega)) (wf_of (x := gB q.c q.d) (by omega)) (gk_wf q.c q.d) w
  by_cases he : p = q
  · subst he
    have hz : dirOf (p.sub p) = -1 := by unfold dirOf; rw [if_pos]; unfold zero P4.sub; simp
    rw [hz]
    simp only [eqB, beq_self_eq_true, Bool.and_self] at hv
    exact dirTo_same _ _ _ _ _ _ w hv
  · have hne : ∀ w, (Op.equalIn 10000 65 (.agg #[.int .i64 (gA p.a p.b), .int .i64 (gB p.a p.b), .int .i64 (gK p.a p.b), .int .i64 (gA p.c p.d), .int .i64 (gB p.c p.d), .int .i64 (gK p.c p.d)]) (.agg #[.int .i64 (gA q.a q.b), .int .i64 (gB q.a q.b), .int .i64 (gK q.a q.b), .int .i64 (gA q.c q.d), .int .i64 (gB q.c q.d), .int .i64 (gK q.c q.d)])).run Tryz.prog w = .ok false w := by
      intro w
      rw [hv w]
      congr 1
      rw [Bool.eq_false_iff]
      intro hc
      simp only [eqB, Bool.and_eq_true, beq_iff_eq] at hc
      obtain ⟨⟨a1, a2, a3⟩, a4, a5, a6⟩ := hc
      obtain ⟨e1, e2⟩ := g_inj ⟨a1, a2, by omega⟩
      obtain ⟨e3, e4⟩ := g_inj ⟨a4, a5, by omega⟩
      apply he
      cases p; cases q; simp_all
    have hD : Bd 17179869184 (q.sub p) := by unfold Bd P4.sub at *; simp only; omega
    have hM : M64 (q.sub p) := by unfold M64 P4.sub at *; simp only; omega
    have hnz : ¬ zero (q.sub p) := by
      intro hc
      unfold zero P4.sub at hc
      simp only at hc
      apply he
      cases p; cases q; simp only [P4.mk.injEq]; simp only at hc; omega
    refine dirTo_core _ _ _ _ _ _ _ _ _ _ _ _ _ _ _ _ _ _ _ xA xB yA yB _ _ _ _ _ _ (fun j => Q.sgn2 (crossA j (q.sub p)) (crossB j (q.sub p))) (fun j => sgD j (q.sub p)) w hT hne (Lib.hid fun w hT => vminus_g (bd_mono hq (by decide)) (bd_mono hp (by decide)) w hT)
      (Lib.hid fun j hj w hT => ?_) (Lib.hid fun j hj w hT => vcross_g (by omega) (bd_mono hD (by decide)) w hT) (Lib.hid fun j hj w => ?_) (Lib.hid fun j hj w hT => vdot_g (by omega) (bd_mono hD (by decide)) w hT) (Lib.hid fun j hj w => ?_) (Lib.hid ?_)
    · have := dirvec_any j (by omega) w hT
      rwa [Nat.mod_eq_of_lt (show j < 16 by omega)] at this
    · have m := dot_m64 (d := j + 4) (by omega) hM
      have b := dot_bd (d := j + 4) (by omega) hD
      rw [← (cross_dot hj _).1, ← (cross_dot hj _).2] at m b
      exact sign_g m.1 m.2 (bd2_mono b (by decide)) w
    · have m := dot_m64 (d := j) (by omega) hM
      exact sign_g m.1 m.2 (bd2_mono (dot_bd (by omega) hD) (by decide)) w
    · rw [find8_dir _ 8 0 (by omega)]
      unfold dirOf; rw [if_neg hnz]

/-! ### Unit vectors on the grid -/
theorem unit_gp {j : Nat} (hj : j < 8) : gp (uP j 65536 0) = unitV j := by
  rcases lt8 hj with rfl | rfl | rfl | rfl | rfl | rfl | rfl | rfl <;> rfl
theorem uP_zero (j : Nat) : uP j 0 0 = ⟨0, 0, 0, 0⟩ := by simp [uP, uA, uB]
theorem uP_unit_bd {j : Nat} (hj : j < 8) : Bd 65536 (uP j 65536 0) := by
  rcases lt8 hj with rfl | rfl | rfl | rfl | rfl | rfl | rfl | rfl <;> (unfold Bd; decide)
theorem uP_unit_m64 {j : Nat} (hj : j < 8) : M64 (uP j 65536 0) := by
  rcases lt8 hj with rfl | rfl | rfl | rfl | rfl | rfl | rfl | rfl <;> (unfold M64; decide)
theorem dir_unit {j : Nat} (hj : j < 8) : dirOf ((uP j 65536 0).sub ⟨0, 0, 0, 0⟩) = ((2 * j : Nat) : Int) := by
  rcases lt8 hj with rfl | rfl | rfl | rfl | rfl | rfl | rfl | rfl <;> decide
theorem zero_gp : gp ⟨0, 0, 0, 0⟩ = Value.agg #[.int .i64 0, .int .i64 0, .int .i64 0, .int .i64 0, .int .i64 0, .int .i64 0] := rfl
theorem dirTo_unit {j : Nat} (hj : j < 8) (w : World) (hT : LT true w) :
    Calls Tryz.prog 75 #[gp ⟨0, 0, 0, 0⟩, unitV j] w (RetB (.int .i64 ((2 * j : Nat) : Int)) w) := by
  have h := iDirTo_g (p := ⟨0, 0, 0, 0⟩) (q := uP j 65536 0) (by unfold Bd; decide) (bd_mono (uP_unit_bd hj) (by decide)) (by unfold M64; decide) (uP_unit_m64 hj) w hT
  rw [dir_unit hj, unit_gp hj] at h
  exact h

/-! ### Matrices compared -/
theorem cellsMx : Tryz.prog.cellsOf 67 = 18 := by kernel_rfl
theorem kyM : Tryz.prog.keyTypeAt 6 67 = true := by kernel_rfl
/-- Six integers of 64 bits. -/
def W6 (a b k c d l : Int) : Prop := (Lit.int .i64 a).wf = true ∧ (Lit.int .i64 b).wf = true ∧ (Lit.int .i64 k).wf = true ∧ (Lit.int .i64 c).wf = true ∧ (Lit.int .i64 d).wf = true ∧ (Lit.int .i64 l).wf = true
def e6b (a b k c d l a' b' k' c' d' l' : Int) : Bool := eqB a b k a' b' k' && eqB c d l c' d' l'
theorem kvec6 {a b k c d l : Int} (h : W6 a b k c d l) : Tryz.prog.keyLits 4 65 [.int .i64 a, .int .i64 b, .int .i64 k, .int .i64 c, .int .i64 d, .int .i64 l] = some [.int .i64 a, .int .i64 b, .int .i64 k, .int .i64 c, .int .i64 d, .int .i64 l] :=
  kvec h.1 h.2.1 h.2.2.1 h.2.2.2.1 h.2.2.2.2.1 h.2.2.2.2.2
theorem kmat {pa pb pk pc pd pl qa qb qk qc qd ql ra rb rk rc rd rl : Int} (h1 : W6 pa pb pk pc pd pl) (h2 : W6 qa qb qk qc qd ql) (h3 : W6 ra rb rk rc rd rl) : Tryz.prog.keyLits 5 67 [.int .i64 pa, .int .i64 pb, .int .i64 pk, .int .i64 pc, .int .i64 pd, .int .i64 pl, .int .i64 qa, .int .i64 qb, .int .i64 qk, .int .i64 qc, .int .i64 qd, .int .i64 ql, .int .i64 ra, .int .i64 rb, .int .i64 rk, .int .i64 rc, .int .i64 rd, .int .i64 rl] = some [.int .i64 pa, .int .i64 pb, .int .i64 pk, .int .i64 pc, .int .i64 pd, .int .i64 pl, .int .i64 qa, .int .i64 qb, .int .i64 qk, .int .i64 qc, .int .i64 qd, .int .i64 ql, .int .i64 ra, .int .i64 rb, .int .i64 rk, .int .i64 rc, .int .i64 rd, .int .i64 rl] := by
  unfold Program.keyLits
  simp only [Tryz.underlying67]
  simp [cellsMx, cellsVec, kvec6 h1, kvec6 h2, kvec6 h3]
theorem kfM (pa pb pk pc pd pl qa qb qk qc qd ql ra rb rk rc rd rl : Int) : (Value.agg #[.int .i64 pa, .int .i64 pb, .int .i64 pk, .int .i64 pc, .int .i64 pd, .int .i64 pl, .int .i64 qa, .int .i64 qb, .int .i64 qk, .int .i64 qc, .int .i64 qd, .int .i64 ql, .int .i64 ra, .int .i64 rb, .int .i64 rk, .int .i64 rc, .int .i64 rd, .int .i64 rl]).formed Tryz.prog 67 = true := by kernel_rfl
set_option maxRecDepth 100000 in
theorem meq_run {pa pb pk pc pd pl qa qb qk qc qd ql ra rb rk rc rd rl xa xb xk xc xd xl ya yb yk yc yd yl za zb zk zc zd zl : Int} (h1 : W6 pa pb pk pc pd pl) (h2 : W6 qa qb qk qc qd ql) (h3 : W6 ra rb rk rc rd rl) (g1 : W6 xa xb xk xc xd xl) (g2 : W6 ya yb yk yc yd yl) (g3 : W6 za zb zk zc zd zl) (w : World) :
    (Op.equalIn 10000 67 (.agg #[.int .i64 pa, .int .i64 pb, .int .i64 pk, .int .i64 pc, .int .i64 pd, .int .i64 pl, .int .i64 qa, .int .i64 qb, .int .i64 qk, .int .i64 qc, .int .i64 qd, .int .i64 ql, .int .i64 ra, .int .i64 rb, .int .i64 rk, .int .i64 rc, .int .i64 rd, .int .i64 rl]) (.agg #[.int .i64 xa, .int .i64 xb, .int .i64 xk, .int .i64 xc, .int .i64 xd, .int .i64 xl, .int .i64 ya, .int .i64 yb, .int .i64 yk, .int .i64 yc, .int .i64 yd, .int .i64 yl, .int .i64 za, .int .i64 zb, .int .i64 zk, .int .i64 zc, .int .i64 zd, .int .i64 zl])).run Tryz.prog w = .ok (e6b pa pb pk pc pd pl xa xb xk xc xd xl && e6b qa qb qk qc qd ql ya yb yk yc yd yl && e6b ra rb rk rc rd rl za zb zk zc zd zl) w := by
  have hd := run_equalIn_deep 9994 6 67 kyM w 5 5 _ _ _ _ (kfM pa pb pk pc pd pl qa qb qk qc qd ql ra rb rk rc rd rl) (kfM xa xb xk xc xd xl ya yb yk yc yd yl za zb zk zc zd zl) (kmat h1 h2 h3) (kmat g1 g2 g3)
  generalize hN : 9994 + 6 = N at hd
  obtain rfl : 10000 = N := hN
  obtain ⟨r, hr, he⟩ := hd
  rw [hr]
  have : r = (e6b pa pb pk pc pd pl xa xb xk xc xd xl && e6b qa qb qk qc qd ql ya yb yk yc yd yl && e6b ra rb rk rc rd rl za zb zk zc zd zl) := by
    rw [Bool.eq_iff_iff, he]
    simp [e6b, eqB, and_assoc]
  rw [this]
theorem w6_unit {j : Nat} (hj : j < 8) : W6 (uc j) (ud j) (ul j : Nat) (uc (us j)) (ud (us j)) (ul (us j) : Nat) := by
  rcases lt8 hj with rfl | rfl | rfl | rfl | rfl | rfl | rfl | rfl <;> (unfold W6; decide)
theorem w6_gp {p : P4} (hp : Bd 70368744177664 p) : W6 (gA p.a p.b) (gB p.a p.b) (gK p.a p.b) (gA p.c p.d) (gB p.c p.d) (gK p.c p.d) := by
  obtain ⟨p1, p2⟩ := bd_half hp
  have b1 := g_bound p1
  have b2 := g_bound p2
  exact ⟨wf_of (by omega), wf_of (by omega), gk_wf _ _, wf_of (by omega), wf_of (by omega), gk_wf _ _⟩
theorem e6b_units {t : Nat} (ht : t < 8) (f : Bool) : e6b (uc (upI t false)) (ud (upI t false)) (ul (upI t false) : Nat) (uc (us (upI t false))) (ud (us (upI t false))) (ul (us (upI t false)) : Nat) (uc (upI t f)) (ud (upI t f)) (ul (upI t f) : Nat) (uc (us (upI t f))) (ud (us (upI t f))) (ul (us (upI t f)) : Nat) = !f := by
  cases f <;> rcases lt8 ht with rfl | rfl | rfl | rfl | rfl | rfl | rfl | rfl <;> decide
theorem e6b_same (a b k c d l : Int) : e6b a b k c d l a b k c d l = true := by simp [e6b, eqB]
theorem mx_cmp {t : Nat} (ht : t < 8) (f : Bool) {s : P4} (hs : Bd 70368744177664 s) (w : World) :
    (Op.equalIn 10000 67 (matV t (upI t false) s) (matV t (upI t f) s)).run Tryz.prog w = .ok (!f) w := by
  have h := meq_run (w6_unit ht) (w6_unit (upI_lt t false)) (w6_gp hs) (w6_unit ht) (w6_unit (upI_lt t f)) (w6_gp hs) w
  rw [e6b_same, e6b_same, e6b_units ht f, Bool.true_and, Bool.and_true] at h
  exact h
end Com
end Go.Proofs.YtafbdnjabgfjeaaGreatDoor
