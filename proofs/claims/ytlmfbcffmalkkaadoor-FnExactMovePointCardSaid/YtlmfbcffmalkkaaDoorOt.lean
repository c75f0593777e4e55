/- The model's turned points. -/
import Derived.Test.YtlmfbcffmalkkaaDoorOz
import Derived.Test.YtlmfbcffmalkkaaDoorGs
import Derived.StillTailTactics
import Derived.Deep.LoopGhost
import Derived.Deep.RegionHeld3
import Derived.Deep.DrawnRows
namespace Go.Proofs.YtlmfbcffmalkkaaDoor
open Go Go.RowKit OriM
variable {β : Bool}
attribute [local go_sem ↓] Go.wp_at_zero Go.wp_at_succ

section
variable {P : Program} {ops : Array Oper} {Q : Exit → Act → World → Prop} {md : Region.Mode} {S : World → Prop} {n : Nat}

/-- Whatever order is picked, and S holds behind every operation of the head. -/
def wpAnyT (P : Program) (md : Region.Mode) (ops : Array Oper) (Q : Exit → Act → World → Prop) (S : World → Prop) (n : Nat) : Nat → Array Bool → Act → World → Prop
  | 0, listed, a, w => Region.ready md ops listed = [] ∧ Q .normal a w
  | fuel + 1, listed, a, w =>
    (Region.ready md ops listed = [] → Q .normal a w) ∧
    ∀ i ∈ Region.ready md ops listed, wpOp P ops Q i (fun a' w' => (i < n → S w') ∧ wpAnyT P md ops Q S n fuel (listed.setIfInBounds i true) a' w') a w

theorem wpAny_of_tail : ∀ (fuel : Nat) (listed : Array Bool) (a : Act) (w : World), wpAnyT P md ops Q S n fuel listed a w → wpAny P md ops Q fuel listed a w
  | 0, _, _, _, h => h
  | fuel + 1, _, _, _, h => ⟨h.1, fun i hi => wpOp_mono (fun a' w' h' => wpAny_of_tail fuel _ a' w' h'.2) (h.2 i hi)⟩

theorem wpAnyT_first {i : Nat} {oi : Oper} {v : Value} (hi : ops[i]? = some oi) (hsel : ∀ (j : Nat) (o : Oper) cs b, ops[j]? = some o → o.op ≠ .select cs b)
    (hs : Region.sinkB md ops n = true) (hc : Region.chainB md ops n = true) (hn : n < ops.size) (hin : i < n)
    (hQ : ∀ c a w, Q (.panic c) (a.put oi.dst v) w → Q (.panic c) a w) :
    ∀ (fuel : Nat) (listed : Array Bool) (a : Act) (w : World), HeadInv md ops n listed →
      (∀ j oj, ops[j]? = some oj → j ≠ i → listed.getD j true = false → (∀ e ∈ oj.after, Region.binds md e = true → e.on ≠ i) → oi.apart ops oj = true) →
      i ∈ Region.ready md ops listed → YieldsIf P ops S oi v a → S w →
      wpAnyT P md ops Q S n fuel (listed.setIfInBounds i true) (a.put oi.dst v) w → wpAnyT P md ops Q S n (fuel + 1) listed a w := by
  intro fuel
  induction fuel with
  | zero =>
    intro listed a w _ _ hr hy hS H
    refine ⟨fun h => (by rw [h] at hr; cases hr), fun j hj => ?_⟩
    by_cases hji : j = i
    · subst hji; exact hy.wpOp hi hS ⟨fun _ => hS, H⟩
    · have := ready_mono hj hji
      rw [H.1] at this
      cases this
  | succ fuel ih =>
    intro listed a w inv hfree hr hy hS H
    have hun := (mem_ready.1 hr).1
    refine ⟨fun h => (by rw [h] at hr; cases hr), fun j hj => ?_⟩
    have hjn : j < n := by
      rcases Nat.lt_or_ge j n with h | h
      · exact h
      · exact absurd hj (tail_waits hs hc hn inv _ i rfl hin hun j h)
    by_cases hji : j = i
    · subst hji; exact hy.wpOp hi hS ⟨fun _ => hS, H⟩
    · have h1 := H.2 j (ready_mono hj hji)
      obtain ⟨hjun, oj, hoj, hall⟩ := mem_ready.1 hj
      have hnot : ∀ e ∈ oj.after, Region.binds md e = true → e.on ≠ i := fun e he hb heq => by
        have h1 := hall e he hb
        rw [heq, getD_both hun] at h1
        cases h1
      have h2 := wpOp_putIf hoj (hfree j oj hoj hji hjun hnot) (fun cs b => hsel i oi cs b hi) (fun cs b => hsel j oj cs b hoj) hQ hy h1
      have hfree' : ∀ k ok, ops[k]? = some ok → k ≠ i → (listed.setIfInBounds j true).getD k true = false →
          (∀ e ∈ ok.after, Region.binds md e = true → e.on ≠ i) → oi.apart ops ok = true := fun k ok hk hki hun hno => by
        refine hfree k ok hk hki ?_ hno
        by_cases hjk : j = k
        · subst hjk; exact hjun
        · rw [getD_set_ne true hjk] at hun; exact hun
      refine wpOp_mono (fun a' w' h3 => ⟨h3.2.1, ih (listed.setIfInBounds j true) a' w' (inv.set hj hjn) hfree' (ready_mono hr (Ne.symm hji)) h3.1 (h3.2.1 hjn) ?_⟩) h2
      rw [Array.setIfInBounds_comm _ _ hji]
      exact h3.2.2

/-- The state of a walk through the head. -/
def HeadW (P : Program) (ops : Array Oper) (Q : Exit → Act → World → Prop) (S : World → Prop) (n : Nat) (fuel : Nat) (listed : Array Bool) (a : Act) (w : World) : Prop :=
  HeadInv .any ops n listed → wpAnyT P .any ops Q S n fuel listed a w

theorem head_take {i : Nat} {oi : Oper} {v : Value} {fuel : Nat} {listed : Array Bool} {a : Act} {w : World} (hi : ops[i]? = some oi)
    (hb : (Region.noSelect ops && Region.sinkB .any ops n && Region.chainB .any ops n && decide (n < ops.size) && decide (i < n) && Region.free .any ops listed i && (Region.ready .any ops listed).contains i) = true)
    (hQ : ∀ c a w, Q (.panic c) (a.put oi.dst v) w → Q (.panic c) a w) (hy : YieldsIf P ops S oi v a) (hS : S w)
    (h : HeadW P ops Q S n fuel (listed.setIfInBounds i true) (a.put oi.dst v) w) : HeadW P ops Q S n (fuel + 1) listed a w := by
  simp only [Bool.and_eq_true, decide_eq_true_eq] at hb
  obtain ⟨⟨⟨⟨⟨⟨h1, h2⟩, h3⟩, h4⟩, h5⟩, h6⟩, h7⟩ := hb
  have hr : i ∈ Region.ready .any ops listed := by simpa using h7
  exact fun inv => wpAnyT_first hi (Region.noSelect_spec h1) h2 h3 h4 h5 hQ fuel listed a w inv (Region.free_spec hi h6) hr hy hS (h (inv.set hr h5))

/-- A call of the head, which comes up alone. -/
theorem head_call {i : Nat} {o : Oper} {fuel : Nat} {listed : Array Bool} {a : Act} {w : World} (ho : ops[i]? = some o) (hr : Region.ready .any ops listed = [i]) (hin : i < n)
    (h : ∀ K' : Act → World → Prop, Shut (∀ a w, S w → (S w → HeadW P ops Q S n fuel (listed.setIfInBounds i true) a w) → K' a w) → if Region.wanted o (yielded ops a.tmps) = true then Oper.wp P o a w K' Q else K' (a.put o.dst undef) w) :
    HeadW P ops Q S n (fuel + 1) listed a w := by
  intro inv
  refine ⟨fun h0 => (by rw [hr] at h0; cases h0), fun j hj => ?_⟩
  have hj0 := hj
  rw [hr] at hj
  obtain rfl : j = i := by simpa using hj
  exact wpOp_step ho (fun K' hK => h K' (fun a w hS hW => hK a w ⟨fun _ => hS, hW hS (inv.set hj0 hin)⟩))

/-- The tail: the one operation left. -/
theorem head_last {o : Oper} {fuel : Nat} {listed : Array Bool} {a : Act} {w : World} (ho : ops[n]? = some o) (hr : Region.ready .any ops listed = [n]) (he : Region.ready .any ops (listed.setIfInBounds n true) = [])
    (h : ∀ K' : Act → World → Prop, Shut (∀ a w, Q .normal a w → K' a w) → if Region.wanted o (yielded ops a.tmps) = true then Oper.wp P o a w K' Q else K' (a.put o.dst undef) w) :
    HeadW P ops Q S n (fuel + 1) listed a w := by
  intro inv
  refine ⟨fun h0 => (by rw [hr] at h0; cases h0), fun j hj => ?_⟩
  rw [hr] at hj
  obtain rfl : j = n := by simpa using hj
  refine wpOp_step ho (fun K' hK => h K' (fun a w hq => hK a w ⟨fun hlt => absurd hlt (Nat.lt_irrefl _), ?_⟩))
  cases fuel with
  | zero => exact ⟨he, hq⟩
  | succ f => exact ⟨fun _ => hq, by rw [he]; simp⟩

theorem wp_region_tail {id : Nat} {a : Act} {w : World} (n N : Nat) (hN : ops.size = N) (hm : P.follows .mixedOrders = true) (hS : S w.drew)
    (h : S w.drew → HeadW P ops Q S n N (Array.replicate N false) a w.drew) : (Code.region id ops true).wp P Q a w := by
  subst hN
  refine wp_region_any hm (wpAny_of_tail (S := S) (n := n) _ _ _ _ (h hS ⟨by simp, fun j oj _ hl => ?_, fun t _ ht => by simp [ht]⟩))
  rw [getD_replicate_false] at hl
  cases hl
end

def rot (p : P4) : P4 := ⟨-p.c, -p.d, p.a, p.b⟩
def rotN : Nat → P4 → P4
  | 0, p => p
  | n + 1, p => rotN n (rot p)
def halfP' (q : P4) : P4 := ⟨q.b - q.d, (q.a - q.c) / 2, q.b + q.d, (q.a + q.c) / 2⟩
def tR (t : Int) (q : P4) : P4 := if t.tmod 2 = 1 then halfP' q else q
def flP (f : Bool) (p : P4) : P4 := if f then ⟨p.a, p.b, -p.c, -p.d⟩ else p

theorem sNeg_g {A B : Int} (h : Bd2 1099511627776 A B) (w : World) : Calls Tryd.prog 67 #[num (gA A B) (gB A B) (gK A B)] w (RetB (num (gA (-A) (-B)) (gB (-A) (-B)) (gK (-A) (-B))) w) := by
  obtain ⟨h1, h2, h3, h4⟩ := g_bound h
  have e := gv_neg A B
  unfold gv at e
  rw [e]
  exact gNeg_any _ _ _ w (by omega) (by omega) (by omega) (by omega)
theorem sMul_h {A B : Int} (hA : A % 2 = 0) (h : Bd2 1125899906842624 A B) (w : World) : Calls Tryd.prog 68 #[gv A B, num 0 1 1] w (RetB (gv B (A / 2)) w) := by
  have k := gK_le A B
  have g := gr_half (A' := B) (B' := A / 2) 1 (gr_times 0 1 (gr_self A B)) (by omega) (by omega)
  obtain ⟨e1, e2, e3⟩ := gr_low g
  exact gMul_val (k := gK A B) (l := 1) (g_bound h) (by unfold Small; decide) (by omega) (by omega) ⟨e1.symm, e2.symm, by rw [e3]⟩ w
def TurnRel (w : World) (R : P4) (gk : Nat) (s7 : Value) (W : World) : Prop := ∃ a b c d : Int, s7 = .int .i64 (gk : Int) ∧ gk ≤ 3 ∧ rotN gk ⟨a, b, c, d⟩ = R ∧ Bd 1099511627776 ⟨a, b, c, d⟩ ∧ a % 2 = 0 ∧ c % 2 = 0 ∧ W.cell? ⟨w.heap.size, 0, none⟩ = some (.int .i64 (gA a b)) ∧ W.cell? ⟨w.heap.size, 1, none⟩ = some (.int .i64 (gB a b)) ∧ W.cell? ⟨w.heap.size, 2, none⟩ = some (.int .i64 (gK a b)) ∧ W.cell? ⟨w.heap.size, 3, none⟩ = some (.int .i64 (gA c d)) ∧ W.cell? ⟨w.heap.size, 4, none⟩ = some (.int .i64 (gB c d)) ∧ W.cell? ⟨w.heap.size, 5, none⟩ = some (.int .i64 (gK c d)) ∧ W.frozen? ⟨w.heap.size, 0, none⟩ = false ∧ W.frozen? ⟨w.heap.size, 1, none⟩ = false ∧ W.frozen? ⟨w.heap.size, 2, none⟩ = false ∧ W.frozen? ⟨w.heap.size, 3, none⟩ = false ∧ W.frozen? ⟨w.heap.size, 4, none⟩ = false ∧ W.frozen? ⟨w.heap.size, 5, none⟩ = false ∧ W.cell? ⟨w.heap.size + 1, 0, none⟩ = some (.int .i64 0) ∧ W.cell? ⟨w.heap.size + 1, 1, none⟩ = some (.int .i64 0) ∧ W.cell? ⟨w.heap.size + 1, 2, none⟩ = some (.int .i64 0) ∧ W.cell? ⟨w.heap.size + 1, 3, none⟩ = some (.int .i64 0) ∧ W.cell? ⟨w.heap.size + 1, 4, none⟩ = some (.int .i64 0) ∧ W.cell? ⟨w.heap.size + 1, 5, none⟩ = some (.int .i64 0) ∧ W.frozen? ⟨w.heap.size + 1, 0, none⟩ = false ∧ W.frozen? ⟨w.heap.size + 1, 1, none⟩ = false ∧ W.frozen? ⟨w.heap.size + 1, 2, none⟩ = false ∧ W.frozen? ⟨w.heap.size + 1, 3, none⟩ = false ∧ W.frozen? ⟨w.heap.size + 1, 4, none⟩ = false ∧ W.frozen? ⟨w.heap.size + 1, 5, none⟩ = false ∧ w.heap.size + 1 < W.heap.size ∧ Below w.heap.size w W

set_option maxHeartbeats 4000000 in
set_option maxRecDepth 100000 in
theorem sTurn_no (t : Int) (n : Nat) (a b c d : Int) (w : World) (hT : LT β w) (hn : t.tdiv 2 = (n : Int)) (hn3 : n ≤ 3) (ho : t.tmod 2 = 0 ∨ t.tmod 2 = 1) (hb : Bd 1099511627776 ⟨a, b, c, d⟩) (he : a % 2 = 0) (he2 : c % 2 = 0) :
    Calls Tryd.prog 51 #[.int .i64 t, .bool false, pt (gA a b) (gB a b) (gK a b) (gA c d) (gB c d) (gK c d)] w (RetB (gp (tR t (rotN n ⟨a, b, c, d⟩))) w) := by
  have HN0 := Lib.hid (fun w => sNeg_g (A := c) (B := d) ⟨hb.2.2.2.2.1, hb.2.2.2.2.2.1, hb.2.2.2.2.2.2.1, hb.2.2.2.2.2.2.2⟩ w)
  have HBD := Lib.hid (show Bd 1099511627776 ⟨a, b, c, d⟩ by unfold Bd at *; simp only at *; omega)
  have HEV := Lib.hid (And.intro he he2)
  have HO := Lib.hid ho
  have hw : IntKind.i64.wrap (n : Int) = (n : Int) := wrap_in (by omega) (by omega)
  have hw' := Lib.hid hn3
  obtain ⟨R, hR⟩ : ∃ R, R = rotN n ⟨a, b, c, d⟩ := ⟨_, rfl⟩
  rw [← hR]
  have HR := Lib.hid hR
  clear hR hb he he2 ho
  go_enter Tryd.func51, Tryd.ntmps51
  go_wp2_with fail
  go_loopg [7] n (TurnRel w R)
  case atStart => exact ⟨a, b, c, d, by (first | rfl | go_num | simp [go_sem, *]), hn3, HR.out.symm, HBD.out, HEV.out.1, by have := HEV.out.2; omega, by simp [go_sem, *], by simp [go_sem, *], by simp [go_sem, *], by simp [go_sem, *], by simp [go_sem, *], by simp [go_sem, *], by simp [go_sem, *], by simp [go_sem, *], by simp [go_sem, *], by simp [go_sem, *], by simp [go_sem, *], by simp [go_sem, *], by simp [go_sem, *], by simp [go_sem, *], by simp [go_sem, *], by simp [go_sem, *], by simp [go_sem, *], by simp [go_sem, *], by simp [go_sem, *], by simp [go_sem, *], by simp [go_sem, *], by simp [go_sem, *], by simp [go_sem, *], by simp [go_sem, *], by (first | omega | (simp; done) | (simp; omega)), by (repeat (first | with_reducible exact Below.refl _ _ | with_reducible assumption | with_reducible refine below_drewN ?_ _ | with_reducible refine Below.drew ?_ | with_reducible refine Below.alloc ?_ (by first | omega | (simp; done) | (simp; omega)) _ | with_reducible refine Below.setCell ?_ (by first | omega | (simp; done) | (simp; omega)) _ | with_reducible refine Below.trans ?_ (Below.mono (by assumption) (by first | omega | (simp; done) | (simp; omega)))))⟩
  case round =>
    clear HN0 HBD HEV HR
    rename_i gk0 wr0
    obtain ⟨a', b', c', d', rfl, hg3, hq, hbd, he, he2, c0, c1, c2, c3, c4, c5, f0, f1, f2, f3, f4, f5, r0, r1, r2, r3, r4, r5, s0, s1, s2, s3, s4, s5, hz, hB⟩ := hrel
    have HB := Lib.hid hB
    clear hB
    have hzz : w.heap.size < wr.heap.size := by omega
    have h1 : Bd2 1099511627776 a' b' := ⟨hbd.1, hbd.2.1, hbd.2.2.1, hbd.2.2.2.1⟩
    have h2 : Bd2 1099511627776 c' d' := ⟨hbd.2.2.2.2.1, hbd.2.2.2.2.2.1, hbd.2.2.2.2.2.2.1, hbd.2.2.2.2.2.2.2⟩
    by_cases hg : gk = 0
    · subst hg
      have hq' : R = ⟨a', b', c', d'⟩ := hq.symm
      rcases HO.out with ho | ho
      · have HE := Lib.hid (show gp (tR t R) = pt (gA a' b') (gB a' b') (gK a' b') (gA c' d') (gB c' d') (gK c' d') by rw [hq']; unfold tR; rw [if_neg (by omega)]; rfl)
        clear hq hq' hbd he he2 h1 h2
        generalize gA a' b' = xa at *; generalize gB a' b' = xb at *; generalize gK a' b' = xk at *; generalize gA c' d' = ya at *; generalize gB c' d' = yb at *; generalize gK c' d' = yk at *
        go_wp2_with fail
        exact bodyPost_ret (v := pt xa xb xk ya yb yk) (by simp [results, Tryd.results51, go_sem, *]) rfl ⟨by (first | exact HE.out | exact HE.out.symm | rw [HE.out]), by have hB := HB.out; (repeat (first | with_reducible exact Below.refl _ _ | with_reducible assumption | with_reducible refine below_drewN ?_ _ | with_reducible refine Below.drew ?_ | with_reducible refine Below.alloc ?_ (by first | omega | (simp; done) | (simp; omega)) _ | with_reducible refine Below.setCell ?_ (by first | omega | (simp; done) | (simp; omega)) _ | with_reducible refine Below.trans ?_ (Below.mono (by assumption) (by first | omega | (simp; done) | (simp; omega)))))⟩
      · have HE := Lib.hid (show gp (tR t R) = pt (gA (b' - d') ((a' - c') / 2)) (gB (b' - d') ((a' - c') / 2)) (gK (b' - d') ((a' - c') / 2)) (gA (b' + d') ((a' + c') / 2)) (gB (b' + d') ((a' + c') / 2)) (gK (b' + d') ((a' + c') / 2)) by rw [hq']; unfold tR; rw [if_pos ho]; rfl)
        have HS := Lib.hid (fun w => sSub_g (β := β) (bd2_mono h1 (by decide)) (bd2_mono h2 (by decide)) w)
        have HA := Lib.hid (fun w => gAdd_any (bd2_mono h1 (by decide)) (bd2_mono h2 (by decide)) w)
        have b1 : Bd2 1125899906842624 (a' - c') (b' - d') := by unfold Bd2 at *; omega
        have b2 : Bd2 1125899906842624 (a' + c') (b' + d') := by unfold Bd2 at *; omega
        have HM1 := Lib.hid (fun w => sMul_h (show (a' - c') % 2 = 0 by omega) b1 w)
        have HM2 := Lib.hid (fun w => sMul_h (show (a' + c') % 2 = 0 by omega) b2 w)
        unfold gv at HS HA HM1 HM2
        clear hq hq' hbd he he2 h1 h2 b1 b2
        generalize gA (b' - d') ((a' - c') / 2) = pa at *; generalize gB (b' - d') ((a' - c') / 2) = pb at *; generalize gK (b' - d') ((a' - c') / 2) = pk at *
        generalize gA (b' + d') ((a' + c') / 2) = qa at *; generalize gB (b' + d') ((a' + c') / 2) = qb at *; generalize gK (b' + d') ((a' + c') / 2) = qk at *
        generalize gA (a' - c') (b' - d') = sa at *; generalize gB (a' - c') (b' - d') = sb at *; generalize gK (a' - c') (b' - d') = sk at *
        generalize gA (a' + c') (b' + d') = ua at *; generalize gB (a' + c') (b' + d') = ub at *; generalize gK (a' + c') (b' + d') = uk at *
        generalize gA a' b' = xa at *; generalize gB a' b' = xb at *; generalize gK a' b' = xk at *; generalize gA c' d' = ya at *; generalize gB c' d' = yb at *; generalize gK c' d' = yk at *
        have zz0 : w.heap.size + 1 < wr.heap.size + 1 := by omega
        have zz1 : w.heap.size < wr.heap.size + 1 := by omega
        go_wp2_with fail
        refine wp_region_tail (S := fun w' => w'.cell? ⟨w.heap.size, 0, none⟩ = some (.int .i64 xa) ∧ w'.cell? ⟨w.heap.size, 1, none⟩ = some (.int .i64 xb) ∧ w'.cell? ⟨w.heap.size, 2, none⟩ = some (.int .i64 xk) ∧ w'.cell? ⟨w.heap.size, 3, none⟩ = some (.int .i64 ya) ∧ w'.cell? ⟨w.heap.size, 4, none⟩ = some (.int .i64 yb) ∧ w'.cell? ⟨w.heap.size, 5, none⟩ = some (.int .i64 yk) ∧ w'.cell? ⟨wr.heap.size, 0, none⟩ = some (.int .i64 0) ∧ w'.cell? ⟨wr.heap.size, 1, none⟩ = some (.int .i64 1) ∧ w'.cell? ⟨wr.heap.size, 2, none⟩ = some (.int .i64 1)) 15 16 rfl (by kernel_rfl) ?hS1 ?hW1
        case hS1 => ((try dsimp only); (first | (go_simp; done) | (simp [*]; done)))
        case hW1 =>
        intro hHeld
        refine head_take (i := 0) (v := ?v2) rfl (by kernel_rfl) (fun _ _ _ h => h) (Or.inl ⟨by rfl, ?hy2⟩) hHeld ?hr2
        case hy2 => (intro w hSw; (try dsimp only at hSw); (try simp only [List.getElem_toArray, List.getElem_cons_zero]); go_simp; try (with_reducible rfl))
        try simp only [List.getElem_toArray, List.getElem_cons_zero, Act.put, List.setIfInBounds_toArray, List.set_cons_zero, List.set_cons_succ]
        refine head_take (i := 1) (v := ?v3) rfl (by kernel_rfl) (fun _ _ _ h => h) (Or.inl ⟨by rfl, ?hy3⟩) hHeld ?hr3
        case hy3 => (intro w hSw; (try dsimp only at hSw); (try simp only [List.getElem_toArray, List.getElem_cons_zero, List.getElem_cons_succ]); go_simp; try (with_reducible rfl))
        try simp only [List.getElem_toArray, List.getElem_cons_zero, List.getElem_cons_succ, Act.put, List.setIfInBounds_toArray, List.set_cons_zero, List.set_cons_succ]
        refine head_take (i := 2) (v := ?v4) rfl (by kernel_rfl) (fun _ _ _ h => h) (Or.inl ⟨by rfl, ?hy4⟩) hHeld ?hr4
        case hy4 => (intro w hSw; (try dsimp only at hSw); (try simp only [List.getElem_toArray, List.getElem_cons_zero, List.getElem_cons_succ]); go_simp; try (with_reducible rfl))
        try simp only [List.getElem_toArray, List.getElem_cons_zero, List.getElem_cons_succ, Act.put, List.setIfInBounds_toArray, List.set_cons_zero, List.set_cons_succ]
        refine head_take (i := 3) (v := ?v5) rfl (by kernel_rfl) (fun _ _ _ h => h) (Or.inl ⟨by rfl, ?hy5⟩) hHeld ?hr5
        case hy5 => (intro w hSw; (try dsimp only at hSw); (try simp only [List.getElem_toArray, List.getElem_cons_zero, List.getElem_cons_succ]); go_simp; try (with_reducible rfl))
        try simp only [List.getElem_toArray, List.getElem_cons_zero, List.getElem_cons_succ, Act.put, List.setIfInBounds_toArray, List.set_cons_zero, List.set_cons_succ]
        refine head_take (i := 5) (v := ?v6) rfl (by kernel_rfl) (fun _ _ _ h => h) (Or.inl ⟨by rfl, ?hy6⟩) hHeld ?hr6
        case hy6 => (intro w hSw; (try dsimp only at hSw); (try simp only [List.getElem_toArray, List.getElem_cons_zero, List.getElem_cons_succ]); go_simp; try (with_reducible rfl))
        try simp only [List.getElem_toArray, List.getElem_cons_zero, List.getElem_cons_succ, Act.put, List.setIfInBounds_toArray, List.set_cons_zero, List.set_cons_succ]
        refine head_take (i := 7) (v := ?v7) rfl (by kernel_rfl) (fun _ _ _ h => h) (Or.inl ⟨by rfl, ?hy7⟩) hHeld ?hr7
        case hy7 => (intro w hSw; (try dsimp only at hSw); (try simp only [List.getElem_toArray, List.getElem_cons_zero, List.getElem_cons_succ]); go_simp; try (with_reducible rfl))
        try simp only [List.getElem_toArray, List.getElem_cons_zero, List.getElem_cons_succ, Act.put, List.setIfInBounds_toArray, List.set_cons_zero, List.set_cons_succ]
        refine head_take (i := 8) (v := ?v8) rfl (by kernel_rfl) (fun _ _ _ h => h) (Or.inl ⟨by rfl, ?hy8⟩) hHeld ?hr8
        case hy8 => (intro w hSw; (try dsimp only at hSw); (try simp only [List.getElem_toArray, List.getElem_cons_zero, List.getElem_cons_succ]); go_simp; try (with_reducible rfl))
        try simp only [List.getElem_toArray, List.getElem_cons_zero, List.getElem_cons_succ, Act.put, List.setIfInBounds_toArray, List.set_cons_zero, List.set_cons_succ]
        refine head_take (i := 9) (v := ?v9) rfl (by kernel_rfl) (fun _ _ _ h => h) (Or.inl ⟨by rfl, ?hy9⟩) hHeld ?hr9
        case hy9 => (intro w hSw; (try dsimp only at hSw); (try simp only [List.getElem_toArray, List.getElem_cons_zero, List.getElem_cons_succ]); go_simp; try (with_reducible rfl))
        try simp only [List.getElem_toArray, List.getElem_cons_zero, List.getElem_cons_succ, Act.put, List.setIfInBounds_toArray, List.set_cons_zero, List.set_cons_succ]
        refine head_take (i := 10) (v := ?v10) rfl (by kernel_rfl) (fun _ _ _ h => h) (Or.inl ⟨by rfl, ?hy10⟩) hHeld ?hr10
        case hy10 => (intro w hSw; (try dsimp only at hSw); (try simp only [List.getElem_toArray, List.getElem_cons_zero, List.getElem_cons_succ]); go_simp; try (with_reducible rfl))
        try simp only [List.getElem_toArray, List.getElem_cons_zero, List.getElem_cons_succ, Act.put, List.setIfInBounds_toArray, List.set_cons_zero, List.set_cons_succ]
        refine head_take (i := 12) (v := ?v11) rfl (by kernel_rfl) (fun _ _ _ h => h) (Or.inl ⟨by rfl, ?hy11⟩) hHeld ?hr11
        case hy11 => (intro w hSw; (try dsimp only at hSw); (try simp only [List.getElem_toArray, List.getElem_cons_zero, List.getElem_cons_succ]); go_simp; try (with_reducible rfl))
        try simp only [List.getElem_toArray, List.getElem_cons_zero, List.getElem_cons_succ, Act.put, List.setIfInBounds_toArray, List.set_cons_zero, List.set_cons_succ]
        refine head_call (i := 4) rfl (by kernel_rfl) (by decide) (fun K hK => ?_)
        try simp only [List.getElem_toArray, List.getElem_cons_zero, List.getElem_cons_succ]
        go_simp
        go_at_call 69; refine (HS.out _ ?_).mono ?_; exact LT.below (w := w) hT (by have hB := HB.out; (repeat (first | with_reducible exact Below.refl _ _ | with_reducible assumption | with_reducible refine below_drewN ?_ _ | with_reducible refine Below.drew ?_ | with_reducible refine Below.alloc ?_ (by first | omega | (simp; done) | (simp; omega)) _ | with_reducible refine Below.setCell ?_ (by first | omega | (simp; done) | (simp; omega)) _ | with_reducible refine Below.trans ?_ (Below.mono (by assumption) (by first | omega | (simp; done) | (simp; omega)))))) (Nat.le_refl _); rintro e w1 ⟨rfl, hb1⟩; (try replace hb1 := Below.undrew hb1); obtain ⟨hc1, hf1⟩ := bcell hb1; have hz1 := hb1.size; (try simp at hz1); (try have z1_0 : w.heap.size < w1.heap.size := (by omega)); (try have z1_1 : w.heap.size + 1 < w1.heap.size := (by omega)); (try have z1_2 : wr.heap.size < w1.heap.size := (by omega))
        go_wp2_with fail
        refine hK.out _ _ ?hS12 (fun hHeld => ?hW12)
        case hS12 => ((try dsimp only); (first | (go_simp; done) | (simp [*]; done)))
        clear hK K
        try simp only [List.getElem_toArray, List.getElem_cons_zero, List.getElem_cons_succ, Act.put, List.setIfInBounds_toArray, List.set_cons_zero, List.set_cons_succ]
        refine head_call (i := 6) rfl (by kernel_rfl) (by decide) (fun K hK => ?_)
        try simp only [List.getElem_toArray, List.getElem_cons_zero, List.getElem_cons_succ]
        go_simp
        go_at_call 68; refine (HM1.out _).mono ?_; rintro e w2 ⟨rfl, hb2⟩; (try replace hb2 := Below.undrew hb2); obtain ⟨hc2, hf2⟩ := bcell hb2; have hz2 := hb2.size; (try simp at hz2); (try have z2_0 : w.heap.size < w2.heap.size := (by omega)); (try have z2_1 : w.heap.size + 1 < w2.heap.size := (by omega)); (try have z2_2 : wr.heap.size < w2.heap.size := (by omega))
        go_wp2_with fail
        refine hK.out _ _ ?hS13 (fun hHeld => ?hW13)
        case hS13 => ((try dsimp only); (first | (go_simp; done) | (simp [*]; done)))
        clear hK K
        try simp only [List.getElem_toArray, List.getElem_cons_zero, List.getElem_cons_succ, Act.put, List.setIfInBounds_toArray, List.set_cons_zero, List.set_cons_succ]
        refine head_call (i := 11) rfl (by kernel_rfl) (by decide) (fun K hK => ?_)
        try simp only [List.getElem_toArray, List.getElem_cons_zero, List.getElem_cons_succ]
        go_simp
        go_at_call 66; refine (HA.out _).mono ?_; rintro e w3 ⟨rfl, hb3⟩; (try replace hb3 := Below.undrew hb3); obtain ⟨hc3, hf3⟩ := bcell hb3; have hz3 := hb3.size; (try simp at hz3); (try have z3_0 : w.heap.size < w3.heap.size := (by omega)); (try have z3_1 : w.heap.size + 1 < w3.heap.size := (by omega)); (try have z3_2 : wr.heap.size < w3.heap.size := (by omega))
        go_wp2_with fail
        refine hK.out _ _ ?hS14 (fun hHeld => ?hW14)
        case hS14 => ((try dsimp only); (first | (go_simp; done) | (simp [*]; done)))
        clear hK K
        try simp only [List.getElem_toArray, List.getElem_cons_zero, List.getElem_cons_succ, Act.put, List.setIfInBounds_toArray, List.set_cons_zero, List.set_cons_succ]
        refine head_call (i := 13) rfl (by kernel_rfl) (by decide) (fun K hK => ?_)
        try simp only [List.getElem_toArray, List.getElem_cons_zero, List.getElem_cons_succ]
        go_simp
        go_at_call 68; refine (HM2.out _).mono ?_; rintro e w4 ⟨rfl, hb4⟩; (try replace hb4 := Below.undrew hb4); obtain ⟨hc4, hf4⟩ := bcell hb4; have hz4 := hb4.size; (try simp at hz4); (try have z4_0 : w.heap.size < w4.heap.size := (by omega)); (try have z4_1 : w.heap.size + 1 < w4.heap.size := (by omega)); (try have z4_2 : wr.heap.size < w4.heap.size := (by omega))
        go_wp2_with fail
        refine hK.out _ _ ?hS15 (fun hHeld => ?hW15)
        case hS15 => ((try dsimp only); (first | (go_simp; done) | (simp [*]; done)))
        clear hK K
        try simp only [List.getElem_toArray, List.getElem_cons_zero, List.getElem_cons_succ, Act.put, List.setIfInBounds_toArray, List.set_cons_zero, List.set_cons_succ]
        refine head_take (i := 14) (v := ?v16) rfl (by kernel_rfl) (fun _ _ _ h => h) (Or.inl ⟨by rfl, ?hy16⟩) hHeld ?hr16
        case hy16 => (intro w hSw; (try dsimp only at hSw); (try simp only [List.getElem_toArray, List.getElem_cons_zero, List.getElem_cons_succ]); go_simp; try (with_reducible rfl))
        try simp only [List.getElem_toArray, List.getElem_cons_zero, List.getElem_cons_succ, Act.put, List.setIfInBounds_toArray, List.set_cons_zero, List.set_cons_succ]
        refine head_last rfl (by kernel_rfl) (by kernel_rfl) (fun K hK => ?_)
        try simp only [List.getElem_toArray, List.getElem_cons_zero, List.getElem_cons_succ]
        go_simp
        refine hK.out _ _ ?_
        clear hK K
        go_wp2_with fail
        exact bodyPost_ret (v := pt pa pb pk qa qb qk) (by simp [results, Tryd.results51, go_sem, *]) rfl ⟨by (first | exact HE.out | exact HE.out.symm | rw [HE.out]), by have hB := HB.out; (repeat (first | with_reducible exact Below.refl _ _ | with_reducible assumption | with_reducible refine below_drewN ?_ _ | with_reducible refine Below.drew ?_ | with_reducible refine Below.alloc ?_ (by first | omega | (simp; done) | (simp; omega)) _ | with_reducible refine Below.setCell ?_ (by first | omega | (simp; done) | (simp; omega)) _ | with_reducible refine Below.trans ?_ (Below.mono (by assumption) (by first | omega | (simp; done) | (simp; omega)))))⟩
    · obtain ⟨m, rfl⟩ : ∃ m, gk = m + 1 := ⟨gk - 1, by omega⟩
      have HQ := Lib.hid (show rotN m ⟨-c', -d', a', b'⟩ = R from hq)
      have HD := Lib.hid (show Bd 1099511627776 ⟨-c', -d', a', b'⟩ by unfold Bd at *; simp only at *; omega)
      have HV := Lib.hid (show (-c') % 2 = 0 ∧ a' % 2 = 0 by omega)
      have HN := Lib.hid (fun w => sNeg_g h2 w)
      have hm : (0 : Int) < (m : Int) + 1 := by omega
      have e1 : IntKind.i64.wrap ((m : Int) + 1 - 1) = (m : Int) := by rw [show (m : Int) + 1 - 1 = (m : Int) by omega]; exact wrap_in (by omega) (by omega)
      have e2 : IntKind.i64.wrap (m : Int) = (m : Int) := wrap_in (by omega) (by omega)
      clear hq hbd he he2 h1 h2 hg

      go_wp2_with fail
      refine wp_region_tail (S := fun w' => w'.cell? ⟨w.heap.size, 0, none⟩ = some (.int .i64 (gA a' b')) ∧ w'.cell? ⟨w.heap.size, 1, none⟩ = some (.int .i64 (gB a' b')) ∧ w'.cell? ⟨w.heap.size, 2, none⟩ = some (.int .i64 (gK a' b')) ∧ w'.cell? ⟨w.heap.size, 3, none⟩ = some (.int .i64 (gA c' d')) ∧ w'.cell? ⟨w.heap.size, 4, none⟩ = some (.int .i64 (gB c' d')) ∧ w'.cell? ⟨w.heap.size, 5, none⟩ = some (.int .i64 (gK c' d'))) 6 7 rfl (by kernel_rfl) ?hS18 ?hW18
      case hS18 => ((try dsimp only); (first | (go_simp; done) | (simp [*]; done)))
      case hW18 =>
      intro hHeld
      refine head_take (i := 0) (v := ?v19) rfl (by kernel_rfl) (fun _ _ _ h => h) (Or.inl ⟨by rfl, ?hy19⟩) hHeld ?hr19
      case hy19 => (intro w hSw; (try dsimp only at hSw); (try simp only [List.getElem_toArray, List.getElem_cons_zero]); go_simp; try (with_reducible rfl))
      try simp only [List.getElem_toArray, List.getElem_cons_zero, Act.put, List.setIfInBounds_toArray, List.set_cons_zero, List.set_cons_succ]
      refine head_take (i := 1) (v := ?v20) rfl (by kernel_rfl) (fun _ _ _ h => h) (Or.inl ⟨by rfl, ?hy20⟩) hHeld ?hr20
      case hy20 => (intro w hSw; (try dsimp only at hSw); (try simp only [List.getElem_toArray, List.getElem_cons_zero, List.getElem_cons_succ]); go_simp; try (with_reducible rfl))
      try simp only [List.getElem_toArray, List.getElem_cons_zero, List.getElem_cons_succ, Act.put, List.setIfInBounds_toArray, List.set_cons_zero, List.set_cons_succ]
      refine head_take (i := 3) (v := ?v21) rfl (by kernel_rfl) (fun _ _ _ h => h) (Or.inl ⟨by rfl, ?hy21⟩) hHeld ?hr21
      case hy21 => (intro w hSw; (try dsimp only at hSw); (try simp only [List.getElem_toArray, List.getElem_cons_zero, List.getElem_cons_succ]); go_simp; try (with_reducible rfl))
      try simp only [List.getElem_toArray, List.getElem_cons_zero, List.getElem_cons_succ, Act.put, List.setIfInBounds_toArray, List.set_cons_zero, List.set_cons_succ]
      refine head_take (i := 4) (v := ?v22) rfl (by kernel_rfl) (fun _ _ _ h => h) (Or.inl ⟨by rfl, ?hy22⟩) hHeld ?hr22
      case hy22 => (intro w hSw; (try dsimp only at hSw); (try simp only [List.getElem_toArray, List.getElem_cons_zero, List.getElem_cons_succ]); go_simp; try (with_reducible rfl))
      try simp only [List.getElem_toArray, List.getElem_cons_zero, List.getElem_cons_succ, Act.put, List.setIfInBounds_toArray, List.set_cons_zero, List.set_cons_succ]
      refine head_call (i := 2) rfl (by kernel_rfl) (by decide) (fun K hK => ?_)
      try simp only [List.getElem_toArray, List.getElem_cons_zero, List.getElem_cons_succ]
      go_simp
      go_at_call 67; refine (HN.out _).mono ?_; rintro e w1 ⟨rfl, hb1⟩; (try replace hb1 := Below.undrew hb1); obtain ⟨hc1, hf1⟩ := bcell hb1; have hz1 := hb1.size; (try simp at hz1); (try have z1_0 : w.heap.size < w1.heap.size := (by omega)); (try have z1_1 : w.heap.size + 1 < w1.heap.size := (by omega))
      go_wp2_with fail
      refine hK.out _ _ ?hS23 (fun hHeld => ?hW23)
      case hS23 => ((try dsimp only); (first | (go_simp; done) | (simp [*]; done)))
      clear hK K
      try simp only [List.getElem_toArray, List.getElem_cons_zero, List.getElem_cons_succ, Act.put, List.setIfInBounds_toArray, List.set_cons_zero, List.set_cons_succ]
      refine head_take (i := 5) (v := ?v24) rfl (by kernel_rfl) (fun _ _ _ h => h) (Or.inl ⟨by rfl, ?hy24⟩) hHeld ?hr24
      case hy24 => (intro w hSw; (try dsimp only at hSw); (try simp only [List.getElem_toArray, List.getElem_cons_zero, List.getElem_cons_succ]); go_simp; try (with_reducible rfl))
      try simp only [List.getElem_toArray, List.getElem_cons_zero, List.getElem_cons_succ, Act.put, List.setIfInBounds_toArray, List.set_cons_zero, List.set_cons_succ]
      refine head_last rfl (by kernel_rfl) (by kernel_rfl) (fun K hK => ?_)
      try simp only [List.getElem_toArray, List.getElem_cons_zero, List.getElem_cons_succ]
      go_simp
      refine hK.out _ _ ?_
      clear hK K
      go_wp2_with fail
      go_roundg m
      case measure => omega
      case rel => exact ⟨-c', -d', a', b', by (first | rfl | go_num | simp [go_sem, *]), by omega, HQ.out, HD.out, HV.out.1, HV.out.2, by simp [go_sem, *], by simp [go_sem, *], by simp [go_sem, *], by simp [go_sem, *], by simp [go_sem, *], by simp [go_sem, *], by simp [go_sem, *], by simp [go_sem, *], by simp [go_sem, *], by simp [go_sem, *], by simp [go_sem, *], by simp [go_sem, *], by simp [go_sem, *], by simp [go_sem, *], by simp [go_sem, *], by simp [go_sem, *], by simp [go_sem, *], by simp [go_sem, *], by simp [go_sem, *], by simp [go_sem, *], by simp [go_sem, *], by simp [go_sem, *], by simp [go_sem, *], by simp [go_sem, *], by (first | omega | (simp; omega)), by have hB := HB.out; (repeat (first | with_reducible exact Below.refl _ _ | with_reducible assumption | with_reducible refine below_drewN ?_ _ | with_reducible refine Below.drew ?_ | with_reducible refine Below.alloc ?_ (by first | omega | (simp; done) | (simp; omega)) _ | with_reducible refine Below.setCell ?_ (by first | omega | (simp; done) | (simp; omega)) _ | with_reducible refine Below.trans ?_ (Below.mono (by assumption) (by first | omega | (simp; done) | (simp; omega)))))⟩

set_option maxHeartbeats 4000000 in
set_option maxRecDepth 100000 in
theorem sTurn_yes (t : Int) (n : Nat) (a b c d : Int) (w : World) (hT : LT β w) (hn : t.tdiv 2 = (n : Int)) (hn3 : n ≤ 3) (ho : t.tmod 2 = 0 ∨ t.tmod 2 = 1) (hb : Bd 1099511627776 ⟨a, b, c, d⟩) (he : a % 2 = 0) (he2 : c % 2 = 0) :
    Calls Tryd.prog 51 #[.int .i64 t, .bool true, pt (gA a b) (gB a b) (gK a b) (gA c d) (gB c d) (gK c d)] w (RetB (gp (tR t (rotN n ⟨a, b, -c, -d⟩))) w) := by
  have HN0 := Lib.hid (fun w => sNeg_g (A := c) (B := d) ⟨hb.2.2.2.2.1, hb.2.2.2.2.2.1, hb.2.2.2.2.2.2.1, hb.2.2.2.2.2.2.2⟩ w)
  have HBD := Lib.hid (show Bd 1099511627776 ⟨a, b, -c, -d⟩ by unfold Bd at *; simp only at *; omega)
  have HEV := Lib.hid (And.intro he he2)
  have HO := Lib.hid ho
  have hw : IntKind.i64.wrap (n : Int) = (n : Int) := wrap_in (by omega) (by omega)
  have hw' := Lib.hid hn3
  obtain ⟨R, hR⟩ : ∃ R, R = rotN n ⟨a, b, -c, -d⟩ := ⟨_, rfl⟩
  rw [← hR]
  have HR := Lib.hid hR
  clear hR hb he he2 ho
  go_enter Tryd.func51, Tryd.ntmps51
  go_wp2_with fail
  have zz9 : w.heap.size < w.heap.size + 1 + 1 := (by omega)
  refine (HN0.out _).mono ?_
  rintro e w9 ⟨rfl, hb9⟩; (try replace hb9 := Below.undrew hb9); obtain ⟨hc9, hf9⟩ := bcell hb9; have hz9 := hb9.size; (try simp at hz9); (try have z9_0 : w.heap.size < w9.heap.size := (by omega)); (try have z9_1 : w.heap.size + 1 < w9.heap.size := (by omega))
  go_wp2_with fail
  go_loopg [7] n (TurnRel w R)
  case atStart => exact ⟨a, b, -c, -d, by (first | rfl | go_num | simp [go_sem, *]), hn3, HR.out.symm, HBD.out, HEV.out.1, by have := HEV.out.2; omega, by simp [go_sem, *], by simp [go_sem, *], by simp [go_sem, *], by simp [go_sem, *], by simp [go_sem, *], by simp [go_sem, *], by simp [go_sem, *], by simp [go_sem, *], by simp [go_sem, *], by simp [go_sem, *], by simp [go_sem, *], by simp [go_sem, *], by simp [go_sem, *], by simp [go_sem, *], by simp [go_sem, *], by simp [go_sem, *], by simp [go_sem, *], by simp [go_sem, *], by simp [go_sem, *], by simp [go_sem, *], by simp [go_sem, *], by simp [go_sem, *], by simp [go_sem, *], by simp [go_sem, *], by (first | omega | (simp; done) | (simp; omega)), by (repeat (first | with_reducible exact Below.refl _ _ | with_reducible assumption | with_reducible refine below_drewN ?_ _ | with_reducible refine Below.drew ?_ | with_reducible refine Below.alloc ?_ (by first | omega | (simp; done) | (simp; omega)) _ | with_reducible refine Below.setCell ?_ (by first | omega | (simp; done) | (simp; omega)) _ | with_reducible refine Below.trans ?_ (Below.mono (by assumption) (by first | omega | (simp; done) | (simp; omega)))))⟩
  case round =>
    clear hc9 hf9 hb9 hz9 z9_0 z9_1
    clear HN0 HBD HEV HR
    rename_i gk0 wr0
    obtain ⟨a', b', c', d', rfl, hg3, hq, hbd, he, he2, c0, c1, c2, c3, c4, c5, f0, f1, f2, f3, f4, f5, r0, r1, r2, r3, r4, r5, s0, s1, s2, s3, s4, s5, hz, hB⟩ := hrel
    have HB := Lib.hid hB
    clear hB
    have hzz : w.heap.size < wr.heap.size := by omega
    have h1 : Bd2 1099511627776 a' b' := ⟨hbd.1, hbd.2.1, hbd.2.2.1, hbd.2.2.2.1⟩
    have h2 : Bd2 1099511627776 c' d' := ⟨hbd.2.2.2.2.1, hbd.2.2.2.2.2.1, hbd.2.2.2.2.2.2.1, hbd.2.2.2.2.2.2.2⟩
    by_cases hg : gk = 0
    · subst hg
      have hq' : R = ⟨a', b', c', d'⟩ := hq.symm
      rcases HO.out with ho | ho
      · have HE := Lib.hid (show gp (tR t R) = pt (gA a' b') (gB a' b') (gK a' b') (gA c' d') (gB c' d') (gK c' d') by rw [hq']; unfold tR; rw [if_neg (by omega)]; rfl)
        clear hq hq' hbd he he2 h1 h2
        generalize gA a' b' = xa at *; generalize gB a' b' = xb at *; generalize gK a' b' = xk at *; generalize gA c' d' = ya at *; generalize gB c' d' = yb at *; generalize gK c' d' = yk at *
        go_wp2_with fail
        exact bodyPost_ret (v := pt xa xb xk ya yb yk) (by simp [results, Tryd.results51, go_sem, *]) rfl ⟨by (first | exact HE.out | exact HE.out.symm | rw [HE.out]), by have hB := HB.out; (repeat (first | with_reducible exact Below.refl _ _ | with_reducible assumption | with_reducible refine below_drewN ?_ _ | with_reducible refine Below.drew ?_ | with_reducible refine Below.alloc ?_ (by first | omega | (simp; done) | (simp; omega)) _ | with_reducible refine Below.setCell ?_ (by first | omega | (simp; done) | (simp; omega)) _ | with_reducible refine Below.trans ?_ (Below.mono (by assumption) (by first | omega | (simp; done) | (simp; omega)))))⟩
      · have HE := Lib.hid (show gp (tR t R) = pt (gA (b' - d') ((a' - c') / 2)) (gB (b' - d') ((a' - c') / 2)) (gK (b' - d') ((a' - c') / 2)) (gA (b' + d') ((a' + c') / 2)) (gB (b' + d') ((a' + c') / 2)) (gK (b' + d') ((a' + c') / 2)) by rw [hq']; unfold tR; rw [if_pos ho]; rfl)
        have HS := Lib.hid (fun w => sSub_g (β := β) (bd2_mono h1 (by decide)) (bd2_mono h2 (by decide)) w)
        have HA := Lib.hid (fun w => gAdd_any (bd2_mono h1 (by decide)) (bd2_mono h2 (by decide)) w)
        have b1 : Bd2 1125899906842624 (a' - c') (b' - d') := by unfold Bd2 at *; omega
        have b2 : Bd2 1125899906842624 (a' + c') (b' + d') := by unfold Bd2 at *; omega
        have HM1 := Lib.hid (fun w => sMul_h (show (a' - c') % 2 = 0 by omega) b1 w)
        have HM2 := Lib.hid (fun w => sMul_h (show (a' + c') % 2 = 0 by omega) b2 w)
        unfold gv at HS HA HM1 HM2
        clear hq hq' hbd he he2 h1 h2 b1 b2
        generalize gA (b' - d') ((a' - c') / 2) = pa at *; generalize gB (b' - d') ((a' - c') / 2) = pb at *; generalize gK (b' - d') ((a' - c') / 2) = pk at *
        generalize gA (b' + d') ((a' + c') / 2) = qa at *; generalize gB (b' + d') ((a' + c') / 2) = qb at *; generalize gK (b' + d') ((a' + c') / 2) = qk at *
        generalize gA (a' - c') (b' - d') = sa at *; generalize gB (a' - c') (b' - d') = sb at *; generalize gK (a' - c') (b' - d') = sk at *
        generalize gA (a' + c') (b' + d') = ua at *; generalize gB (a' + c') (b' + d') = ub at *; generalize gK (a' + c') (b' + d') = uk at *
        generalize gA a' b' = xa at *; generalize gB a' b' = xb at *; generalize gK a' b' = xk at *; generalize gA c' d' = ya at *; generalize gB c' d' = yb at *; generalize gK c' d' = yk at *
        have zz0 : w.heap.size + 1 < wr.heap.size + 1 := by omega
        have zz1 : w.heap.size < wr.heap.size + 1 := by omega
        go_wp2_with fail
        refine wp_region_tail (S := fun w' => w'.cell? ⟨w.heap.size, 0, none⟩ = some (.int .i64 xa) ∧ w'.cell? ⟨w.heap.size, 1, none⟩ = some (.int .i64 xb) ∧ w'.cell? ⟨w.heap.size, 2, none⟩ = some (.int .i64 xk) ∧ w'.cell? ⟨w.heap.size, 3, none⟩ = some (.int .i64 ya) ∧ w'.cell? ⟨w.heap.size, 4, none⟩ = some (.int .i64 yb) ∧ w'.cell? ⟨w.heap.size, 5, none⟩ = some (.int .i64 yk) ∧ w'.cell? ⟨wr.heap.size, 0, none⟩ = some (.int .i64 0) ∧ w'.cell? ⟨wr.heap.size, 1, none⟩ = some (.int .i64 1) ∧ w'.cell? ⟨wr.heap.size, 2, none⟩ = some (.int .i64 1)) 15 16 rfl (by kernel_rfl) ?hS26 ?hW26
        case hS26 => ((try dsimp only); (first | (go_simp; done) | (simp [*]; done)))
        case hW26 =>
        intro hHeld
        refine head_take (i := 0) (v := ?v27) rfl (by kernel_rfl) (fun _ _ _ h => h) (Or.inl ⟨by rfl, ?hy27⟩) hHeld ?hr27
        case hy27 => (intro w hSw; (try dsimp only at hSw); (try simp only [List.getElem_toArray, List.getElem_cons_zero]); go_simp; try (with_reducible rfl))
        try simp only [List.getElem_toArray, List.getElem_cons_zero, Act.put, List.setIfInBounds_toArray, List.set_cons_zero, List.set_cons_succ]
        refine head_take (i := 1) (v := ?v28) rfl (by kernel_rfl) (fun _ _ _ h => h) (Or.inl ⟨by rfl, ?hy28⟩) hHeld ?hr28
        case hy28 => (intro w hSw; (try dsimp only at hSw); (try simp only [List.getElem_toArray, List.getElem_cons_zero, List.getElem_cons_succ]); go_simp; try (with_reducible rfl))
        try simp only [List.getElem_toArray, List.getElem_cons_zero, List.getElem_cons_succ, Act.put, List.setIfInBounds_toArray, List.set_cons_zero, List.set_cons_succ]
        refine head_take (i := 2) (v := ?v29) rfl (by kernel_rfl) (fun _ _ _ h => h) (Or.inl ⟨by rfl, ?hy29⟩) hHeld ?hr29
        case hy29 => (intro w hSw; (try dsimp only at hSw); (try simp only [List.getElem_toArray, List.getElem_cons_zero, List.getElem_cons_succ]); go_simp; try (with_reducible rfl))
        try simp only [List.getElem_toArray, List.getElem_cons_zero, List.getElem_cons_succ, Act.put, List.setIfInBounds_toArray, List.set_cons_zero, List.set_cons_succ]
        refine head_take (i := 3) (v := ?v30) rfl (by kernel_rfl) (fun _ _ _ h => h) (Or.inl ⟨by rfl, ?hy30⟩) hHeld ?hr30
        case hy30 => (intro w hSw; (try dsimp only at hSw); (try simp only [List.getElem_toArray, List.getElem_cons_zero, List.getElem_cons_succ]); go_simp; try (with_reducible rfl))
        try simp only [List.getElem_toArray, List.getElem_cons_zero, List.getElem_cons_succ, Act.put, List.setIfInBounds_toArray, List.set_cons_zero, List.set_cons_succ]
        refine head_take (i := 5) (v := ?v31) rfl (by kernel_rfl) (fun _ _ _ h => h) (Or.inl ⟨by rfl, ?hy31⟩) hHeld ?hr31
        case hy31 => (intro w hSw; (try dsimp only at hSw); (try simp only [List.getElem_toArray, List.getElem_cons_zero, List.getElem_cons_succ]); go_simp; try (with_reducible rfl))
        try simp only [List.getElem_toArray, List.getElem_cons_zero, List.getElem_cons_succ, Act.put, List.setIfInBounds_toArray, List.set_cons_zero, List.set_cons_succ]
        refine head_take (i := 7) (v := ?v32) rfl (by kernel_rfl) (fun _ _ _ h => h) (Or.inl ⟨by rfl, ?hy32⟩) hHeld ?hr32
        case hy32 => (intro w hSw; (try dsimp only at hSw); (try simp only [List.getElem_toArray, List.getElem_cons_zero, List.getElem_cons_succ]); go_simp; try (with_reducible rfl))
        try simp only [List.getElem_toArray, List.getElem_cons_zero, List.getElem_cons_succ, Act.put, List.setIfInBounds_toArray, List.set_cons_zero, List.set_cons_succ]
        refine head_take (i := 8) (v := ?v33) rfl (by kernel_rfl) (fun _ _ _ h => h) (Or.inl ⟨by rfl, ?hy33⟩) hHeld ?hr33
        case hy33 => (intro w hSw; (try dsimp only at hSw); (try simp only [List.getElem_toArray, List.getElem_cons_zero, List.getElem_cons_succ]); go_simp; try (with_reducible rfl))
        try simp only [List.getElem_toArray, List.getElem_cons_zero, List.getElem_cons_succ, Act.put, List.setIfInBounds_toArray, List.set_cons_zero, List.set_cons_succ]
        refine head_take (i := 9) (v := ?v34) rfl (by kernel_rfl) (fun _ _ _ h => h) (Or.inl ⟨by rfl, ?hy34⟩) hHeld ?hr34
        case hy34 => (intro w hSw; (try dsimp only at hSw); (try simp only [List.getElem_toArray, List.getElem_cons_zero, List.getElem_cons_succ]); go_simp; try (with_reducible rfl))
        try simp only [List.getElem_toArray, List.getElem_cons_zero, List.getElem_cons_succ, Act.put, List.setIfInBounds_toArray, List.set_cons_zero, List.set_cons_succ]
        refine head_take (i := 10) (v := ?v35) rfl (by kernel_rfl) (fun _ _ _ h => h) (Or.inl ⟨by rfl, ?hy35⟩) hHeld ?hr35
        case hy35 => (intro w hSw; (try dsimp only at hSw); (try simp only [List.getElem_toArray, List.getElem_cons_zero, List.getElem_cons_succ]); go_simp; try (with_reducible rfl))
        try simp only [List.getElem_toArray, List.getElem_cons_zero, List.getElem_cons_succ, Act.put, List.setIfInBounds_toArray, List.set_cons_zero, List.set_cons_succ]
        refine head_take (i := 12) (v := ?v36) rfl (by kernel_rfl) (fun _ _ _ h => h) (Or.inl ⟨by rfl, ?hy36⟩) hHeld ?hr36
        case hy36 => (intro w hSw; (try dsimp only at hSw); (try simp only [List.getElem_toArray, List.getElem_cons_zero, List.getElem_cons_succ]); go_simp; try (with_reducible rfl))
        try simp only [List.getElem_toArray, List.getElem_cons_zero, List.getElem_cons_succ, Act.put, List.setIfInBounds_toArray, List.set_cons_zero, List.set_cons_succ]
        refine head_call (i := 4) rfl (by kernel_rfl) (by decide) (fun K hK => ?_)
        try simp only [List.getElem_toArray, List.getElem_cons_zero, List.getElem_cons_succ]
        go_simp
        go_at_call 69; refine (HS.out _ ?_).mono ?_; exact LT.below (w := w) hT (by have hB := HB.out; (repeat (first | with_reducible exact Below.refl _ _ | with_reducible assumption | with_reducible refine below_drewN ?_ _ | with_reducible refine Below.drew ?_ | with_reducible refine Below.alloc ?_ (by first | omega | (simp; done) | (simp; omega)) _ | with_reducible refine Below.setCell ?_ (by first | omega | (simp; done) | (simp; omega)) _ | with_reducible refine Below.trans ?_ (Below.mono (by assumption) (by first | omega | (simp; done) | (simp; omega)))))) (Nat.le_refl _); rintro e w1 ⟨rfl, hb1⟩; (try replace hb1 := Below.undrew hb1); obtain ⟨hc1, hf1⟩ := bcell hb1; have hz1 := hb1.size; (try simp at hz1); (try have z1_0 : w.heap.size < w1.heap.size := (by omega)); (try have z1_1 : w.heap.size + 1 < w1.heap.size := (by omega)); (try have z1_2 : wr.heap.size < w1.heap.size := (by omega))
        go_wp2_with fail
        refine hK.out _ _ ?hS37 (fun hHeld => ?hW37)
        case hS37 => ((try dsimp only); (first | (go_simp; done) | (simp [*]; done)))
        clear hK K
        try simp only [List.getElem_toArray, List.getElem_cons_zero, List.getElem_cons_succ, Act.put, List.setIfInBounds_toArray, List.set_cons_zero, List.set_cons_succ]
        refine head_call (i := 6) rfl (by kernel_rfl) (by decide) (fun K hK => ?_)
        try simp only [List.getElem_toArray, List.getElem_cons_zero, List.getElem_cons_succ]
        go_simp
        go_at_call 68; refine (HM1.out _).mono ?_; rintro e w2 ⟨rfl, hb2⟩; (try replace hb2 := Below.undrew hb2); obtain ⟨hc2, hf2⟩ := bcell hb2; have hz2 := hb2.size; (try simp at hz2); (try have z2_0 : w.heap.size < w2.heap.size := (by omega)); (try have z2_1 : w.heap.size + 1 < w2.heap.size := (by omega)); (try have z2_2 : wr.heap.size < w2.heap.size := (by omega))
        go_wp2_with fail
        refine hK.out _ _ ?hS38 (fun hHeld => ?hW38)
        case hS38 => ((try dsimp only); (first | (go_simp; done) | (simp [*]; done)))
        clear hK K
        try simp only [List.getElem_toArray, List.getElem_cons_zero, List.getElem_cons_succ, Act.put, List.setIfInBounds_toArray, List.set_cons_zero, List.set_cons_succ]
        refine head_call (i := 11) rfl (by kernel_rfl) (by decide) (fun K hK => ?_)
        try simp only [List.getElem_toArray, List.getElem_cons_zero, List.getElem_cons_succ]
        go_simp
        go_at_call 66; refine (HA.out _).mono ?_; rintro e w3 ⟨rfl, hb3⟩; (try replace hb3 := Below.undrew hb3); obtain ⟨hc3, hf3⟩ := bcell hb3; have hz3 := hb3.size; (try simp at hz3); (try have z3_0 : w.heap.size < w3.heap.size := (by omega)); (try have z3_1 : w.heap.size + 1 < w3.heap.size := (by omega)); (try have z3_2 : wr.heap.size < w3.heap.size := (by omega))
        go_wp2_with fail
        refine hK.out _ _ ?hS39 (fun hHeld => ?hW39)
        case hS39 => ((try dsimp only); (first | (go_simp; done) | (simp [*]; done)))
        clear hK K
        try simp only [List.getElem_toArray, List.getElem_cons_zero, List.getElem_cons_succ, Act.put, List.setIfInBounds_toArray, List.set_cons_zero, List.set_cons_succ]
        refine head_call (i := 13) rfl (by kernel_rfl) (by decide) (fun K hK => ?_)
        try simp only [List.getElem_toArray, List.getElem_cons_zero, List.getElem_cons_succ]
        go_simp
        go_at_call 68; refine (HM2.out _).mono ?_; rintro e w4 ⟨rfl, hb4⟩; (try replace hb4 := Below.undrew hb4); obtain ⟨hc4, hf4⟩ := bcell hb4; have hz4 := hb4.size; (try simp at hz4); (try have z4_0 : w.heap.size < w4.heap.size := (by omega)); (try have z4_1 : w.heap.size + 1 < w4.heap.size := (by omega)); (try have z4_2 : wr.heap.size < w4.heap.size := (by omega))
        go_wp2_with fail
        refine hK.out _ _ ?hS40 (fun hHeld => ?hW40)
        case hS40 => ((try dsimp only); (first | (go_simp; done) | (simp [*]; done)))
        clear hK K
        try simp only [List.getElem_toArray, List.getElem_cons_zero, List.getElem_cons_succ, Act.put, List.setIfInBounds_toArray, List.set_cons_zero, List.set_cons_succ]
        refine head_take (i := 14) (v := ?v41) rfl (by kernel_rfl) (fun _ _ _ h => h) (Or.inl ⟨by rfl, ?hy41⟩) hHeld ?hr41
        case hy41 => (intro w hSw; (try dsimp only at hSw); (try simp only [List.getElem_toArray, List.getElem_cons_zero, List.getElem_cons_succ]); go_simp; try (with_reducible rfl))
        try simp only [List.getElem_toArray, List.getElem_cons_zero, List.getElem_cons_succ, Act.put, List.setIfInBounds_toArray, List.set_cons_zero, List.set_cons_succ]
        refine head_last rfl (by kernel_rfl) (by kernel_rfl) (fun K hK => ?_)
        try simp only [List.getElem_toArray, List.getElem_cons_zero, List.getElem_cons_succ]
        go_simp
        refine hK.out _ _ ?_
        clear hK K
        go_wp2_with fail
        exact bodyPost_ret (v := pt pa pb pk qa qb qk) (by simp [results, Tryd.results51, go_sem, *]) rfl ⟨by (first | exact HE.out | exact HE.out.symm | rw [HE.out]), by have hB := HB.out; (repeat (first | with_reducible exact Below.refl _ _ | with_reducible assumption | with_reducible refine below_drewN ?_ _ | with_reducible refine Below.drew ?_ | with_reducible refine Below.alloc ?_ (by first | omega | (simp; done) | (simp; omega)) _ | with_reducible refine Below.setCell ?_ (by first | omega | (simp; done) | (simp; omega)) _ | with_reducible refine Below.trans ?_ (Below.mono (by assumption) (by first | omega | (simp; done) | (simp; omega)))))⟩
    · obtain ⟨m, rfl⟩ : ∃ m, gk = m + 1 := ⟨gk - 1, by omega⟩
      have HQ := Lib.hid (show rotN m ⟨-c', -d', a', b'⟩ = R from hq)
      have HD := Lib.hid (show Bd 1099511627776 ⟨-c', -d', a', b'⟩ by unfold Bd at *; simp only at *; omega)
      have HV := Lib.hid (show (-c') % 2 = 0 ∧ a' % 2 = 0 by omega)
      have HN := Lib.hid (fun w => sNeg_g h2 w)
      have hm : (0 : Int) < (m : Int) + 1 := by omega
      have e1 : IntKind.i64.wrap ((m : Int) + 1 - 1) = (m : Int) := by rw [show (m : Int) + 1 - 1 = (m : Int) by omega]; exact wrap_in (by omega) (by omega)
      have e2 : IntKind.i64.wrap (m : Int) = (m : Int) := wrap_in (by omega) (by omega)
      clear hq hbd he he2 h1 h2 hg

      go_wp2_with fail
      refine wp_region_tail (S := fun w' => w'.cell? ⟨w.heap.size, 0, none⟩ = some (.int .i64 (gA a' b')) ∧ w'.cell? ⟨w.heap.size, 1, none⟩ = some (.int .i64 (gB a' b')) ∧ w'.cell? ⟨w.heap.size, 2, none⟩ = some (.int .i64 (gK a' b')) ∧ w'.cell? ⟨w.heap.size, 3, none⟩ = some (.int .i64 (gA c' d')) ∧ w'.cell? ⟨w.heap.size, 4, none⟩ = some (.int .i64 (gB c' d')) ∧ w'.cell? ⟨w.heap.size, 5, none⟩ = some (.int .i64 (gK c' d'))) 6 7 rfl (by kernel_rfl) ?hS43 ?hW43
      case hS43 => ((try dsimp only); (first | (go_simp; done) | (simp [*]; done)))
      case hW43 =>
      intro hHeld
      refine head_take (i := 0) (v := ?v44) rfl (by kernel_rfl) (fun _ _ _ h => h) (Or.inl ⟨by rfl, ?hy44⟩) hHeld ?hr44
      case hy44 => (intro w hSw; (try dsimp only at hSw); (try simp only [List.getElem_toArray, List.getElem_cons_zero]); go_simp; try (with_reducible rfl))
      try simp only [List.getElem_toArray, List.getElem_cons_zero, Act.put, List.setIfInBounds_toArray, List.set_cons_zero, List.set_cons_succ]
      refine head_take (i := 1) (v := ?v45) rfl (by kernel_rfl) (fun _ _ _ h => h) (Or.inl ⟨by rfl, ?hy45⟩) hHeld ?hr45
      case hy45 => (intro w hSw; (try dsimp only at hSw); (try simp only [List.getElem_toArray, List.getElem_cons_zero, List.getElem_cons_succ]); go_simp; try (with_reducible rfl))
      try simp only [List.getElem_toArray, List.getElem_cons_zero, List.getElem_cons_succ, Act.put, List.setIfInBounds_toArray, List.set_cons_zero, List.set_cons_succ]
      refine head_take (i := 3) (v := ?v46) rfl (by kernel_rfl) (fun _ _ _ h => h) (Or.inl ⟨by rfl, ?hy46⟩) hHeld ?hr46
      case hy46 => (intro w hSw; (try dsimp only at hSw); (try simp only [List.getElem_toArray, List.getElem_cons_zero, List.getElem_cons_succ]); go_simp; try (with_reducible rfl))
      try simp only [List.getElem_toArray, List.getElem_cons_zero, List.getElem_cons_succ, Act.put, List.setIfInBounds_toArray, List.set_cons_zero, List.set_cons_succ]
      refine head_take (i := 4) (v := ?v47) rfl (by kernel_rfl) (fun _ _ _ h => h) (Or.inl ⟨by rfl, ?hy47⟩) hHeld ?hr47
      case hy47 => (intro w hSw; (try dsimp only at hSw); (try simp only [List.getElem_toArray, List.getElem_cons_zero, List.getElem_cons_succ]); go_simp; try (with_reducible rfl))
      try simp only [List.getElem_toArray, List.getElem_cons_zero, List.getElem_cons_succ, Act.put, List.setIfInBounds_toArray, List.set_cons_zero, List.set_cons_succ]
      refine head_call (i := 2) rfl (by kernel_rfl) (by decide) (fun K hK => ?_)
      try simp only [List.getElem_toArray, List.getElem_cons_zero, List.getElem_cons_succ]
      go_simp
      go_at_call 67; refine (HN.out _).mono ?_; rintro e w1 ⟨rfl, hb1⟩; (try replace hb1 := Below.undrew hb1); obtain ⟨hc1, hf1⟩ := bcell hb1; have hz1 := hb1.size; (try simp at hz1); (try have z1_0 : w.heap.size < w1.heap.size := (by omega)); (try have z1_1 : w.heap.size + 1 < w1.heap.size := (by omega))
      go_wp2_with fail
      refine hK.out _ _ ?hS48 (fun hHeld => ?hW48)
      case hS48 => ((try dsimp only); (first | (go_simp; done) | (simp [*]; done)))
      clear hK K
      try simp only [List.getElem_toArray, List.getElem_cons_zero, List.getElem_cons_succ, Act.put, List.setIfInBounds_toArray, List.set_cons_zero, List.set_cons_succ]
      refine head_take (i := 5) (v := ?v49) rfl (by kernel_rfl) (fun _ _ _ h => h) (Or.inl ⟨by rfl, ?hy49⟩) hHeld ?hr49
      case hy49 => (intro w hSw; (try dsimp only at hSw); (try simp only [List.getElem_toArray, List.getElem_cons_zero, List.getElem_cons_succ]); go_simp; try (with_reducible rfl))
      try simp only [List.getElem_toArray, List.getElem_cons_zero, List.getElem_cons_succ, Act.put, List.setIfInBounds_toArray, List.set_cons_zero, List.set_cons_succ]
      refine head_last rfl (by kernel_rfl) (by kernel_rfl) (fun K hK => ?_)
      try simp only [List.getElem_toArray, List.getElem_cons_zero, List.getElem_cons_succ]
      go_simp
      refine hK.out _ _ ?_
      clear hK K
      go_wp2_with fail
      go_roundg m
      case measure => omega
      case rel => exact ⟨-c', -d', a', b', by (first | rfl | go_num | simp [go_sem, *]), by omega, HQ.out, HD.out, HV.out.1, HV.out.2, by simp [go_sem, *], by simp [go_sem, *], by simp [go_sem, *], by simp [go_sem, *], by simp [go_sem, *], by simp [go_sem, *], by simp [go_sem, *], by simp [go_sem, *], by simp [go_sem, *], by simp [go_sem, *], by simp [go_sem, *], by simp [go_sem, *], by simp [go_sem, *], by simp [go_sem, *], by simp [go_sem, *], by simp [go_sem, *], by simp [go_sem, *], by simp [go_sem, *], by simp [go_sem, *], by simp [go_sem, *], by simp [go_sem, *], by simp [go_sem, *], by simp [go_sem, *], by simp [go_sem, *], by (first | omega | (simp; omega)), by have hB := HB.out; (repeat (first | with_reducible exact Below.refl _ _ | with_reducible assumption | with_reducible refine below_drewN ?_ _ | with_reducible refine Below.drew ?_ | with_reducible refine Below.alloc ?_ (by first | omega | (simp; done) | (simp; omega)) _ | with_reducible refine Below.setCell ?_ (by first | omega | (simp; done) | (simp; omega)) _ | with_reducible refine Below.trans ?_ (Below.mono (by assumption) (by first | omega | (simp; done) | (simp; omega)))))⟩
end Go.Proofs.YtlmfbcffmalkkaaDoor
