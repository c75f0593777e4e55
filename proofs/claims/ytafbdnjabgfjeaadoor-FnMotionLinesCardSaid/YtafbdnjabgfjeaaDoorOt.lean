/- The model's turned points. -/
import Derived.Test.YtafbdnjabgfjeaaDoorOZC
import Derived.Test.YtafbdnjabgfjeaaDoorGs
import Derived.StillTailTactics
import Derived.Deep.LoopGhost
import Derived.Deep.RegionHeld3
import Derived.Deep.DrawnRows
namespace Go.Proofs.YtafbdnjabgfjeaaDoor
open Go Go.RowKit OriM
variable {β : Bool}
attribute [local go_sem ↓] Go.wp_at_zero Go.wp_at_succ

section
variable {P : Program} {ops : Array Oper} {Q : Exit → Act → World → Prop} {S : World → Prop} {n : Nat}

/-- Behind the head comes the last operation. -/
def postLast (P : Program) (ops : Array Oper) (Q : Exit → Act → World → Prop) (n : Nat) : Exit → Act → World → Prop
  | .normal, a, w => wpOp P ops Q n (fun a w => Q .normal a w) a w
  | e, a, w => Q e a w

theorem last_step {o : Oper} {a : Act} {w : World} (ho : ops[n]? = some o)
    (h : ∀ K : Act → World → Prop, Shut (∀ a w, Q .normal a w → K a w) → if Region.wanted o (yielded ops a.tmps) = true then Oper.wp P o a w K Q else K (a.put o.dst undef) w) : postLast P ops Q n .normal a w :=
  wpOp_step ho fun K hK => h K fun a w hq => hK a w hq

/-- Operation n is the last one, waits for all others; each waits for earlier ones alone; no guard ahead of it. -/
def lastB (ops : Array Oper) (n : Nat) : Bool :=
  decide (ops.size = n + 1) && (List.range n).all (fun i => Region.waitsFor .any ops n i) &&
  (List.range (n + 1)).all fun j => match ops[j]? with
    | some o => o.after.all (fun e => decide (e.on < j)) && (decide (j = n) || o.guard.isNone)
    | none => false

structure LastOk (ops : Array Oper) (n : Nat) : Prop where
  size : ops.size = n + 1
  waits : ∀ i, i < n → Region.waitsFor .any ops n i = true
  back : ∀ (j : Nat) (o : Oper), ops[j]? = some o → ∀ e ∈ o.after, e.on < j
  free : ∀ (j : Nat) (o : Oper), j < n → ops[j]? = some o → o.guard = none
theorem lastB_ok (h : lastB ops n = true) : LastOk ops n := by
  unfold lastB at h
  simp only [Bool.and_eq_true, decide_eq_true_eq, List.all_eq_true, List.mem_range] at h
  obtain ⟨⟨h1, h2⟩, h3⟩ := h
  have hj : ∀ j o, ops[j]? = some o → j < n + 1 := fun j o ho => by have := (Array.getElem?_eq_some_iff.1 ho).1; omega
  refine ⟨h1, h2, fun j o ho e he => ?_, fun j o hjn ho => ?_⟩
  · have h := h3 j (hj j o ho)
    rw [ho] at h
    simp only [Bool.and_eq_true] at h
    have := Array.all_eq_true'.1 h.1 e he
    simpa using this
  · have h := h3 j (hj j o ho)
    rw [ho] at h
    simp only [Bool.and_eq_true, Bool.or_eq_true, decide_eq_true_eq] at h
    rcases h.2 with h | h
    · omega
    · simpa using h

/-- What has come up of the region, and of its head. -/
structure Pair (n : Nat) (listed head : Array Bool) : Prop where
  size : head.size = n
  same : ∀ j, j < n → listed[j]? = head[j]?
  last : listed[n]? = some false
  over : listed.size = n + 1

theorem pop_at (hk : LastOk ops n) {j : Nat} (hj : j < n) : ops.pop[j]? = ops[j]? := by
  rw [Array.getElem?_pop]
  have := hk.size
  rw [if_pos (by omega)]
theorem pair_getD {listed head : Array Bool} (p : Pair n listed head) {j : Nat} (hj : j < n) (d : Bool) : listed.getD j d = head.getD j d := by
  rw [Array.getD_eq_getD_getElem?, Array.getD_eq_getD_getElem?, p.same j hj]
theorem pair_ready (hk : LastOk ops n) {listed head : Array Bool} (p : Pair n listed head) {j : Nat} (hj : j < n) : j ∈ Region.ready .any ops listed ↔ j ∈ Region.ready .any ops.pop head := by
  rw [mem_ready, mem_ready, pop_at hk hj, pair_getD p hj]
  constructor
  · rintro ⟨h0, o, ho, h⟩
    refine ⟨h0, o, ho, fun e he hb => ?_⟩
    rw [← pair_getD p (by have := hk.back j o ho e he; omega)]
    exact h e he hb
  · rintro ⟨h0, o, ho, h⟩
    refine ⟨h0, o, ho, fun e he hb => ?_⟩
    rw [pair_getD p (by have := hk.back j o ho e he; omega)]
    exact h e he hb
theorem Pair.set {listed head : Array Bool} (p : Pair n listed head) {i : Nat} (hi : i < n) : Pair n (listed.setIfInBounds i true) (head.setIfInBounds i true) := by
  have h1 := p.size
  have h2 := p.over
  refine ⟨by simp [h1], fun j hj => ?_, ?_, by simp [h2]⟩
  · by_cases hij : i = j
    · subst hij
      rw [Array.getElem?_setIfInBounds_self_of_lt (by omega), Array.getElem?_setIfInBounds_self_of_lt (by omega)]
    · rw [Array.getElem?_setIfInBounds_ne hij, Array.getElem?_setIfInBounds_ne hij, p.same j hj]
  · rw [Array.getElem?_setIfInBounds_ne (by omega), p.last]

/-- Nothing of the head may come up any more: all of it has. -/
theorem head_done (hk : LastOk ops n) {listed head : Array Bool} (p : Pair n listed head) (hr : Region.ready .any ops.pop head = []) : ∀ j, j < n → listed.getD j true = true := by
  intro j
  induction j using Nat.strongRecOn with
  | _ j ih =>
    intro hj
    cases hl : listed.getD j true with
    | true => rfl
    | false =>
      have hs := hk.size
      have ho : ops[j]? = some (ops[j]'(by omega)) := Array.getElem?_eq_getElem (by omega)
      have : j ∈ Region.ready .any ops listed := mem_ready.2 ⟨hl, _, ho, fun e he _ => by
        have hlt := hk.back j _ ho e he
        have h := ih e.on hlt (by omega)
        have h2 := p.over
        simp only [Array.getD, show e.on < listed.size by omega, dite_true] at h ⊢
        exact h⟩
      rw [pair_ready hk p hj, hr] at this
      cases this
theorem head_last (hk : LastOk ops n) {listed head : Array Bool} {a : Act} {w : World} (p : Pair n listed head) (hr : Region.ready .any ops.pop head = []) (h : postLast P ops Q n .normal a w) :
    ∀ g, wpAny P .any ops Q (g + 1) listed a w := by
  intro g
  have hall := head_done hk p hr
  have h1 := p.over
  have hs := hk.size
  have hrange : ∀ j, listed.getD j true = false → j = n := fun j hj => by
    rcases Nat.lt_trichotomy j n with hlt | heq | hgt
    · rw [hall j hlt] at hj; cases hj
    · exact heq
    · rw [Array.getD_eq_getD_getElem?, Array.getElem?_eq_none (by omega)] at hj; cases hj
  have hn : n ∈ Region.ready .any ops listed := by
    have ho : ops[n]? = some (ops[n]'(by omega)) := Array.getElem?_eq_getElem (by omega)
    refine mem_ready.2 ⟨by rw [Array.getD_eq_getD_getElem?, p.last]; rfl, _, ho, fun e he _ => ?_⟩
    have hlt := hk.back n _ ho e he
    have h := hall e.on hlt
    simp only [Array.getD, show e.on < listed.size by omega, dite_true] at h ⊢
    exact h
  refine ⟨fun h0 => (by rw [h0] at hn; cases hn), fun i hi => ?_⟩
  obtain rfl : i = n := hrange i (mem_ready.1 hi).1
  have hend : Region.ready .any ops (listed.setIfInBounds i true) = [] := by
    refine List.eq_nil_iff_forall_not_mem.2 fun j hj => ?_
    have h0 := (mem_ready.1 hj).1
    by_cases hij : i = j
    · subst hij
      rw [Array.getD_eq_getD_getElem?, Array.getElem?_setIfInBounds_self_of_lt (by omega)] at h0; cases h0
    · rw [getD_set_ne true hij] at h0
      exact hij (hrange j h0).symm
  refine wpOp_mono (fun a' w' hq => ?_) h
  cases g with
  | zero => exact ⟨hend, hq⟩
  | succ g => exact ⟨fun _ => hq, by rw [hend]; simp⟩

theorem head_step {i : Nat} {o : Oper} {a : Act} {w : World} (ho : ops[i]? = some o) (ho' : ops.pop[i]? = some o) (hg : o.guard = none) {K K' : Act → World → Prop} (hK : ∀ a w, K' a w → K a w)
    (h : wpOp P ops.pop (postLast P ops Q n) i K' a w) : wpOp P ops Q i K a w := by
  have hw : ∀ f, Region.wanted o f = true := fun f => by unfold Region.wanted; rw [hg]
  unfold wpOp at *
  rw [ho'] at h
  rw [ho]
  simp only [hw, if_true] at h ⊢
  refine h.imp (fun h => ?_) (fun h => ⟨h.1, let ⟨a, w, q⟩ := h.2; ⟨a, w, q⟩⟩)
  have h := Oper.wp_mono hK h
  unfold Oper.wp at *
  generalize (execOp a.eval o).run P w = r at *
  match r, h with
  | .ok (.enter f args) w', h =>
    exact Calls.mono h fun e w'' he => match e, he with
      | .returned _, he => he
      | .panicked _, he => he
      | .outgrown, ⟨a, w, q⟩ => ⟨a, w, q⟩
  | .ok (.value _) _, h => exact h
  | .ok .skip _, h => exact h
  | .ok (.defer _) _, h => exact h
  | .ok (.row _ _) _, h => exact h
  | .halt (.panic _) _, h => exact h

theorem wpAny_split (hk : LastOk ops n) : ∀ (f : Nat) (listed head : Array Bool) (a : Act) (w : World), Pair n listed head →
    wpAnyH P .any ops.pop (postLast P ops Q n) S f head a w → wpAny P .any ops Q (f + 1) listed a w
  | 0, _, _, _, _, p, h => head_last hk p h.1 h.2 0
  | f + 1, listed, head, a, w, p, h => by
    by_cases hr : Region.ready .any ops.pop head = []
    · exact head_last hk p hr (h.1 hr) (f + 1)
    · obtain ⟨j, hj⟩ := List.exists_mem_of_ne_nil _ hr
      have hs := hk.size
      have hjn : j < n := by
        obtain ⟨_, o, ho, _⟩ := mem_ready.1 hj
        have := (Array.getElem?_eq_some_iff.1 ho).1
        rw [Array.size_pop] at this
        omega
      have hj2 := (pair_ready hk p hjn).2 hj
      refine ⟨fun h0 => (by rw [h0] at hj2; cases hj2), fun i hi => ?_⟩
      obtain ⟨hun, o, ho, hall⟩ := mem_ready.1 hi
      have hlt := (Array.getElem?_eq_some_iff.1 ho).1
      have hin : i < n := by
        rcases Nat.lt_or_ge i n with hin | hge
        · exact hin
        · obtain rfl : i = n := by omega
          obtain ⟨o', ho', e, he, hb, hon⟩ := Region.waitsFor_spec (hk.waits j hjn)
          obtain rfl : o' = o := Option.some.inj (ho'.symm.trans ho)
          have h1 := hall e he hb
          rw [hon, getD_both (mem_ready.1 hj2).1] at h1
          cases h1
      exact head_step ho ((pop_at hk hin).trans ho) (hk.free i o hin ho) (fun a' w' hh => wpAny_split hk f _ _ a' w' (p.set hin) hh.2) (h.2 i ((pair_ready hk p hin).1 hi))

theorem wp_region_last {id : Nat} {a : Act} {w : World} (n : Nat) (hb : lastB ops n = true) (hm : P.follows .mixedOrders = true) (hS : S w.drew)
    (h : S w.drew → wpAnyH P .any ops.pop (postLast P ops Q n) S n (Array.replicate n false) a w.drew) : (Code.region id ops true).wp P Q a w := by
  have hk := lastB_ok hb
  refine wp_region_any hm ?_
  rw [hk.size]
  exact wpAny_split hk n _ _ a _ ⟨by simp, fun j hj => by simp [hj, Nat.lt_succ_of_lt hj], by simp, by simp⟩ (h hS)
end

def rot (p : P4) : P4 := ⟨-p.c, -p.d, p.a, p.b⟩
def rotN : Nat → P4 → P4
  | 0, p => p
  | n + 1, p => rotN n (rot p)
def halfP' (q : P4) : P4 := ⟨q.b - q.d, (q.a - q.c) / 2, q.b + q.d, (q.a + q.c) / 2⟩
def tR (t : Int) (q : P4) : P4 := if t.tmod 2 = 1 then halfP' q else q
def flP (f : Bool) (p : P4) : P4 := if f then ⟨p.a, p.b, -p.c, -p.d⟩ else p

theorem sNeg_g {A B : Int} (h : Bd2 1099511627776 A B) (w : World) : Calls Tryd.prog 161 #[num (gA A B) (gB A B) (gK A B)] w (RetB (num (gA (-A) (-B)) (gB (-A) (-B)) (gK (-A) (-B))) w) := by
  obtain ⟨h1, h2, h3, h4⟩ := g_bound h
  have e := gv_neg A B
  unfold gv at e
  rw [e]
  exact gNeg_any _ _ _ w (by omega) (by omega) (by omega) (by omega)
theorem sMul_h {A B : Int} (hA : A % 2 = 0) (h : Bd2 1125899906842624 A B) (w : World) : Calls Tryd.prog 132 #[gv A B, num 0 1 1] w (RetB (gv B (A / 2)) w) := by
  have k := gK_le A B
  have g := gr_half (A' := B) (B' := A / 2) 1 (gr_times 0 1 (gr_self A B)) (by omega) (by omega)
  obtain ⟨e1, e2, e3⟩ := gr_low g
  exact gMul_val (k := gK A B) (l := 1) (g_bound h) (by unfold Small; decide) (by omega) (by omega) ⟨e1.symm, e2.symm, by rw [e3]⟩ w
def TurnRel (w : World) (R : P4) (gk : Nat) (s7 : Value) (W : World) : Prop := ∃ a b c d : Int, s7 = .int .i64 (gk : Int) ∧ gk ≤ 3 ∧ rotN gk ⟨a, b, c, d⟩ = R ∧ Bd 1099511627776 ⟨a, b, c, d⟩ ∧ a % 2 = 0 ∧ c % 2 = 0 ∧ W.cell? ⟨w.heap.size, 0, none⟩ = some (.int .i64 (gA a b)) ∧ W.cell? ⟨w.heap.size, 1, none⟩ = some (.int .i64 (gB a b)) ∧ W.cell? ⟨w.heap.size, 2, none⟩ = some (.int .i64 (gK a b)) ∧ W.cell? ⟨w.heap.size, 3, none⟩ = some (.int .i64 (gA c d)) ∧ W.cell? ⟨w.heap.size, 4, none⟩ = some (.int .i64 (gB c d)) ∧ W.cell? ⟨w.heap.size, 5, none⟩ = some (.int .i64 (gK c d)) ∧ W.frozen? ⟨w.heap.size, 0, none⟩ = false ∧ W.frozen? ⟨w.heap.size, 1, none⟩ = false ∧ W.frozen? ⟨w.heap.size, 2, none⟩ = false ∧ W.frozen? ⟨w.heap.size, 3, none⟩ = false ∧ W.frozen? ⟨w.heap.size, 4, none⟩ = false ∧ W.frozen? ⟨w.heap.size, 5, none⟩ = false ∧ W.cell? ⟨w.heap.size + 1, 0, none⟩ = some (.int .i64 0) ∧ W.cell? ⟨w.heap.size + 1, 1, none⟩ = some (.int .i64 0) ∧ W.cell? ⟨w.heap.size + 1, 2, none⟩ = some (.int .i64 0) ∧ W.cell? ⟨w.heap.size + 1, 3, none⟩ = some (.int .i64 0) ∧ W.cell? ⟨w.heap.size + 1, 4, none⟩ = some (.int .i64 0) ∧ W.cell? ⟨w.heap.size + 1, 5, none⟩ = some (.int .i64 0) ∧ W.frozen? ⟨w.heap.size + 1, 0, none⟩ = false ∧ W.frozen? ⟨w.heap.size + 1, 1, none⟩ = false ∧ W.frozen? ⟨w.heap.size + 1, 2, none⟩ = false ∧ W.frozen? ⟨w.heap.size + 1, 3, none⟩ = false ∧ W.frozen? ⟨w.heap.size + 1, 4, none⟩ = false ∧ W.frozen? ⟨w.heap.size + 1, 5, none⟩ = false ∧ w.heap.size + 1 < W.heap.size ∧ Below w.heap.size w W

set_option maxHeartbeats 4000000 in
set_option maxRecDepth 100000 in
theorem sTurn_no (t : Int) (n : Nat) (a b c d : Int) (w : World) (hT : LT β w) (hn : t.tdiv 2 = (n : Int)) (hn3 : n ≤ 3) (ho : t.tmod 2 = 0 ∨ t.tmod 2 = 1) (hb : Bd 1099511627776 ⟨a, b, c, d⟩) (he : a % 2 = 0) (he2 : c % 2 = 0) :
    Calls Tryd.prog 159 #[.int .i64 t, .bool false, pt (gA a b) (gB a b) (gK a b) (gA c d) (gB c d) (gK c d)] w (RetB (gp (tR t (rotN n ⟨a, b, c, d⟩))) w) := by
  have HN0 := Lib.hid (fun w => sNeg_g (A := c) (B := d) ⟨hb.2.2.2.2.1, hb.2.2.2.2.2.1, hb.2.2.2.2.2.2.1, hb.2.2.2.2.2.2.2⟩ w)
  have HBD := Lib.hid (show Bd 1099511627776 ⟨a, b, c, d⟩ by unfold Bd at *; simp only at *; omega)
  have HEV := Lib.hid (And.intro he he2)
  have HO := Lib.hid ho
  have hw : IntKind.i64.wrap (n : Int) = (n : Int) := wrap_in (by omega) (by omega)
  have hw' := Lib.hid hn3
  obtain ⟨R, hR⟩ : ∃ R, R = rotN n ⟨a, b, c, d⟩ := ⟨_, rfl⟩
  rw [← hR]
  have HR := Lib.hid hR
  clear hR hb he he2 ho
  go_enter Tryd.func159, Tryd.ntmps159
  go_wp2_with fail
  go_loopg [7] n (TurnRel w R)
  case atStart => exact ⟨a, b, c, d, by (first | rfl | go_num | simp [go_sem, *]), hn3, HR.out.symm, HBD.out, HEV.out.1, by have := HEV.out.2; omega, by simp [go_sem, *], by simp [go_sem, *], by simp [go_sem, *], by simp [go_sem, *], by simp [go_sem, *], by simp [go_sem, *], by simp [go_sem, *], by simp [go_sem, *], by simp [go_sem, *], by simp [go_sem, *], by simp [go_sem, *], by simp [go_sem, *], by simp [go_sem, *], by simp [go_sem, *], by simp [go_sem, *], by simp [go_sem, *], by simp [go_sem, *], by simp [go_sem, *], by simp [go_sem, *], by simp [go_sem, *], by simp [go_sem, *], by simp [go_sem, *], by simp [go_sem, *], by simp [go_sem, *], by (first | omega | (simp; done) | (simp; omega)), by (repeat (first | with_reducible exact Below.refl _ _ | with_reducible assumption | with_reducible refine below_drewN ?_ _ | with_reducible refine Below.drew ?_ | with_reducible refine Below.alloc ?_ (by first | omega | (simp; done) | (simp; omega)) _ | with_reducible refine Below.setCell ?_ (by first | omega | (simp; done) | (simp; omega)) _ | with_reducible refine Below.trans ?_ (Below.mono (by assumption) (by first | omega | (simp; done) | (simp; omega)))))⟩
  case round =>
    clear HN0 HBD HEV HR
    rename_i gk0 wr0
    obtain ⟨a', b', c', d', rfl, hg3, hq, hbd, he, he2, c0, c1, c2, c3, c4, c5, f0, f1, f2, f3, f4, f5, r0, r1, r2, r3, r4, r5, s0, s1, s2, s3, s4, s5, hz, hB⟩ := hrel
    have HB := Lib.hid hB
    clear hB
    have hzz : w.heap.size < wr.heap.size := by omega
    have h1 : Bd2 1099511627776 a' b' := ⟨hbd.1, hbd.2.1, hbd.2.2.1, hbd.2.2.2.1⟩
    have h2 : Bd2 1099511627776 c' d' := ⟨hbd.2.2.2.2.1, hbd.2.2.2.2.2.1, hbd.2.2.2.2.2.2.1, hbd.2.2.2.2.2.2.2⟩
    by_cases hg : gk = 0
    · subst hg
      have hq' : R = ⟨a', b', c', d'⟩ := hq.symm
      rcases HO.out with ho | ho
      · have HE := Lib.hid (show gp (tR t R) = pt (gA a' b') (gB a' b') (gK a' b') (gA c' d') (gB c' d') (gK c' d') by rw [hq']; unfold tR; rw [if_neg (by omega)]; rfl)
        clear hq hq' hbd he he2 h1 h2
        generalize gA a' b' = xa at *; generalize gB a' b' = xb at *; generalize gK a' b' = xk at *; generalize gA c' d' = ya at *; generalize gB c' d' = yb at *; generalize gK c' d' = yk at *
        go_wp2_with fail
        exact bodyPost_ret (v := pt xa xb xk ya yb yk) (by simp [results, Tryd.results159, go_sem, *]) rfl ⟨by (first | exact HE.out | exact HE.out.symm | rw [HE.out]), by have hB := HB.out; (repeat (first | with_reducible exact Below.refl _ _ | with_reducible assumption | with_reducible refine below_drewN ?_ _ | with_reducible refine Below.drew ?_ | with_reducible refine Below.alloc ?_ (by first | omega | (simp; done) | (simp; omega)) _ | with_reducible refine Below.setCell ?_ (by first | omega | (simp; done) | (simp; omega)) _ | with_reducible refine Below.trans ?_ (Below.mono (by assumption) (by first | omega | (simp; done) | (simp; omega)))))⟩
      · have HE := Lib.hid (show gp (tR t R) = pt (gA (b' - d') ((a' - c') / 2)) (gB (b' - d') ((a' - c') / 2)) (gK (b' - d') ((a' - c') / 2)) (gA (b' + d') ((a' + c') / 2)) (gB (b' + d') ((a' + c') / 2)) (gK (b' + d') ((a' + c') / 2)) by rw [hq']; unfold tR; rw [if_pos ho]; rfl)
        have HS := Lib.hid (fun w => sSub_g (β := β) (bd2_mono h1 (by decide)) (bd2_mono h2 (by decide)) w)
        have HA := Lib.hid (fun w => gAdd_any (bd2_mono h1 (by decide)) (bd2_mono h2 (by decide)) w)
        have b1 : Bd2 1125899906842624 (a' - c') (b' - d') := by unfold Bd2 at *; omega
        have b2 : Bd2 1125899906842624 (a' + c') (b' + d') := by unfold Bd2 at *; omega
        have HM1 := Lib.hid (fun w => sMul_h (show (a' - c') % 2 = 0 by omega) b1 w)
        have HM2 := Lib.hid (fun w => sMul_h (show (a' + c') % 2 = 0 by omega) b2 w)
        unfold gv at HS HA HM1 HM2
        clear hq hq' hbd he he2 h1 h2 b1 b2
        generalize gA (b' - d') ((a' - c') / 2) = pa at *; generalize gB (b' - d') ((a' - c') / 2) = pb at *; generalize gK (b' - d') ((a' - c') / 2) = pk at *
        generalize gA (b' + d') ((a' + c') / 2) = qa at *; generalize gB (b' + d') ((a' + c') / 2) = qb at *; generalize gK (b' + d') ((a' + c') / 2) = qk at *
        generalize gA (a' - c') (b' - d') = sa at *; generalize gB (a' - c') (b' - d') = sb at *; generalize gK (a' - c') (b' - d') = sk at *
        generalize gA (a' + c') (b' + d') = ua at *; generalize gB (a' + c') (b' + d') = ub at *; generalize gK (a' + c') (b' + d') = uk at *
        generalize gA a' b' = xa at *; generalize gB a' b' = xb at *; generalize gK a' b' = xk at *; generalize gA c' d' = ya at *; generalize gB c' d' = yb at *; generalize gK c' d' = yk at *
        have zz0 : w.heap.size + 1 < wr.heap.size + 1 := by omega
        have zz1 : w.heap.size < wr.heap.size + 1 := by omega
        go_wp2_with fail
        refine wp_region_last (S := fun w' => w'.cell? ⟨w.heap.size, 0, none⟩ = some (.int .i64 xa) ∧ w'.cell? ⟨w.heap.size, 1, none⟩ = some (.int .i64 xb) ∧ w'.cell? ⟨w.heap.size, 2, none⟩ = some (.int .i64 xk) ∧ w'.cell? ⟨w.heap.size, 3, none⟩ = some (.int .i64 ya) ∧ w'.cell? ⟨w.heap.size, 4, none⟩ = some (.int .i64 yb) ∧ w'.cell? ⟨w.heap.size, 5, none⟩ = some (.int .i64 yk) ∧ w'.cell? ⟨wr.heap.size, 0, none⟩ = some (.int .i64 0) ∧ w'.cell? ⟨wr.heap.size, 1, none⟩ = some (.int .i64 1) ∧ w'.cell? ⟨wr.heap.size, 2, none⟩ = some (.int .i64 1)) 15 (by kernel_rfl) (by kernel_rfl) ?hS1 ?hW1
        case hS1 => ((try dsimp only); (first | (go_simp; done) | (simp [*]; done)))
        case hW1 =>
        intro hHeld
        simp only [List.pop_toArray, List.dropLast_cons_cons, List.dropLast_singleton]
        refine wpAnyH_take (i := 0) (v := ?v2) rfl (by kernel_rfl) (by kernel_rfl) (by kernel_rfl) (fun _ _ _ h => h) (Or.inl ⟨by rfl, ?hy2⟩) hHeld ?hr2
        case hy2 => (intro w hSw; (try dsimp only at hSw); (try simp only [List.getElem_toArray, List.getElem_cons_zero]); go_simp; try (with_reducible rfl))
        try simp only [List.getElem_toArray, List.getElem_cons_zero, Act.put, List.setIfInBounds_toArray, List.set_cons_zero, List.set_cons_succ]
        refine wpAnyH_take (i := 1) (v := ?v3) rfl (by kernel_rfl) (by kernel_rfl) (by kernel_rfl) (fun _ _ _ h => h) (Or.inl ⟨by rfl, ?hy3⟩) hHeld ?hr3
        case hy3 => (intro w hSw; (try dsimp only at hSw); (try simp only [List.getElem_toArray, List.getElem_cons_zero, List.getElem_cons_succ]); go_simp; try (with_reducible rfl))
        try simp only [List.getElem_toArray, List.getElem_cons_zero, List.getElem_cons_succ, Act.put, List.setIfInBounds_toArray, List.set_cons_zero, List.set_cons_succ]
        refine wpAnyH_take (i := 2) (v := ?v4) rfl (by kernel_rfl) (by kernel_rfl) (by kernel_rfl) (fun _ _ _ h => h) (Or.inl ⟨by rfl, ?hy4⟩) hHeld ?hr4
        case hy4 => (intro w hSw; (try dsimp only at hSw); (try simp only [List.getElem_toArray, List.getElem_cons_zero, List.getElem_cons_succ]); go_simp; try (with_reducible rfl))
        try simp only [List.getElem_toArray, List.getElem_cons_zero, List.getElem_cons_succ, Act.put, List.setIfInBounds_toArray, List.set_cons_zero, List.set_cons_succ]
        refine wpAnyH_take (i := 3) (v := ?v5) rfl (by kernel_rfl) (by kernel_rfl) (by kernel_rfl) (fun _ _ _ h => h) (Or.inl ⟨by rfl, ?hy5⟩) hHeld ?hr5
        case hy5 => (intro w hSw; (try dsimp only at hSw); (try simp only [List.getElem_toArray, List.getElem_cons_zero, List.getElem_cons_succ]); go_simp; try (with_reducible rfl))
        try simp only [List.getElem_toArray, List.getElem_cons_zero, List.getElem_cons_succ, Act.put, List.setIfInBounds_toArray, List.set_cons_zero, List.set_cons_succ]
        refine wpAnyH_take (i := 5) (v := ?v6) rfl (by kernel_rfl) (by kernel_rfl) (by kernel_rfl) (fun _ _ _ h => h) (Or.inl ⟨by rfl, ?hy6⟩) hHeld ?hr6
        case hy6 => (intro w hSw; (try dsimp only at hSw); (try simp only [List.getElem_toArray, List.getElem_cons_zero, List.getElem_cons_succ]); go_simp; try (with_reducible rfl))
        try simp only [List.getElem_toArray, List.getElem_cons_zero, List.getElem_cons_succ, Act.put, List.setIfInBounds_toArray, List.set_cons_zero, List.set_cons_succ]
        refine wpAnyH_take (i := 7) (v := ?v7) rfl (by kernel_rfl) (by kernel_rfl) (by kernel_rfl) (fun _ _ _ h => h) (Or.inl ⟨by rfl, ?hy7⟩) hHeld ?hr7
        case hy7 => (intro w hSw; (try dsimp only at hSw); (try simp only [List.getElem_toArray, List.getElem_cons_zero, List.getElem_cons_succ]); go_simp; try (with_reducible rfl))
        try simp only [List.getElem_toArray, List.getElem_cons_zero, List.getElem_cons_succ, Act.put, List.setIfInBounds_toArray, List.set_cons_zero, List.set_cons_succ]
        refine wpAnyH_take (i := 8) (v := ?v8) rfl (by kernel_rfl) (by kernel_rfl) (by kernel_rfl) (fun _ _ _ h => h) (Or.inl ⟨by rfl, ?hy8⟩) hHeld ?hr8
        case hy8 => (intro w hSw; (try dsimp only at hSw); (try simp only [List.getElem_toArray, List.getElem_cons_zero, List.getElem_cons_succ]); go_simp; try (with_reducible rfl))
        try simp only [List.getElem_toArray, List.getElem_cons_zero, List.getElem_cons_succ, Act.put, List.setIfInBounds_toArray, List.set_cons_zero, List.set_cons_succ]
        refine wpAnyH_take (i := 9) (v := ?v9) rfl (by kernel_rfl) (by kernel_rfl) (by kernel_rfl) (fun _ _ _ h => h) (Or.inl ⟨by rfl, ?hy9⟩) hHeld ?hr9
        case hy9 => (intro w hSw; (try dsimp only at hSw); (try simp only [List.getElem_toArray, List.getElem_cons_zero, List.getElem_cons_succ]); go_simp; try (with_reducible rfl))
        try simp only [List.getElem_toArray, List.getElem_cons_zero, List.getElem_cons_succ, Act.put, List.setIfInBounds_toArray, List.set_cons_zero, List.set_cons_succ]
        refine wpAnyH_take (i := 10) (v := ?v10) rfl (by kernel_rfl) (by kernel_rfl) (by kernel_rfl) (fun _ _ _ h => h) (Or.inl ⟨by rfl, ?hy10⟩) hHeld ?hr10
        case hy10 => (intro w hSw; (try dsimp only at hSw); (try simp only [List.getElem_toArray, List.getElem_cons_zero, List.getElem_cons_succ]); go_simp; try (with_reducible rfl))
        try simp only [List.getElem_toArray, List.getElem_cons_zero, List.getElem_cons_succ, Act.put, List.setIfInBounds_toArray, List.set_cons_zero, List.set_cons_succ]
        refine wpAnyH_take (i := 12) (v := ?v11) rfl (by kernel_rfl) (by kernel_rfl) (by kernel_rfl) (fun _ _ _ h => h) (Or.inl ⟨by rfl, ?hy11⟩) hHeld ?hr11
        case hy11 => (intro w hSw; (try dsimp only at hSw); (try simp only [List.getElem_toArray, List.getElem_cons_zero, List.getElem_cons_succ]); go_simp; try (with_reducible rfl))
        try simp only [List.getElem_toArray, List.getElem_cons_zero, List.getElem_cons_succ, Act.put, List.setIfInBounds_toArray, List.set_cons_zero, List.set_cons_succ]
        refine wpAnyH_ready (rs := [4]) (by kernel_rfl) (by simp) (AllReadyH.cons rfl (fun K hK => ?_) AllReadyH.nil)
        try simp only [List.getElem_toArray, List.getElem_cons_zero, List.getElem_cons_succ]
        go_simp
        go_at_call 126; refine (HS.out _ ?_).mono ?_; exact LT.below (w := w) hT (by have hB := HB.out; (repeat (first | with_reducible exact Below.refl _ _ | with_reducible assumption | with_reducible refine below_drewN ?_ _ | with_reducible refine Below.drew ?_ | with_reducible refine Below.alloc ?_ (by first | omega | (simp; done) | (simp; omega)) _ | with_reducible refine Below.setCell ?_ (by first | omega | (simp; done) | (simp; omega)) _ | with_reducible refine Below.trans ?_ (Below.mono (by assumption) (by first | omega | (simp; done) | (simp; omega)))))) (Nat.le_refl _); rintro e w1 ⟨rfl, hb1⟩; (try replace hb1 := Below.undrew hb1); obtain ⟨hc1, hf1⟩ := bcell hb1; have hz1 := hb1.size; (try simp at hz1); (try have z1_0 : w.heap.size < w1.heap.size := (by omega)); (try have z1_1 : w.heap.size + 1 < w1.heap.size := (by omega)); (try have z1_2 : wr.heap.size < w1.heap.size := (by omega))
        go_wp2_with fail
        refine hK.out _ _ ?hS12 (fun hHeld => ?hW12)
        case hS12 => ((try dsimp only); (first | (go_simp; done) | (simp [*]; done)))
        clear hK K
        try simp only [List.getElem_toArray, List.getElem_cons_zero, List.getElem_cons_succ, Act.put, List.setIfInBounds_toArray, List.set_cons_zero, List.set_cons_succ]
        refine wpAnyH_ready (rs := [6]) (by kernel_rfl) (by simp) (AllReadyH.cons rfl (fun K hK => ?_) AllReadyH.nil)
        try simp only [List.getElem_toArray, List.getElem_cons_zero, List.getElem_cons_succ]
        go_simp
        go_at_call 132; refine (HM1.out _).mono ?_; rintro e w2 ⟨rfl, hb2⟩; (try replace hb2 := Below.undrew hb2); obtain ⟨hc2, hf2⟩ := bcell hb2; have hz2 := hb2.size; (try simp at hz2); (try have z2_0 : w.heap.size < w2.heap.size := (by omega)); (try have z2_1 : w.heap.size + 1 < w2.heap.size := (by omega)); (try have z2_2 : wr.heap.size < w2.heap.size := (by omega))
        go_wp2_with fail
        refine hK.out _ _ ?hS13 (fun hHeld => ?hW13)
        case hS13 => ((try dsimp only); (first | (go_simp; done) | (simp [*]; done)))
        clear hK K
        try simp only [List.getElem_toArray, List.getElem_cons_zero, List.getElem_cons_succ, Act.put, List.setIfInBounds_toArray, List.set_cons_zero, List.set_cons_succ]
        refine wpAnyH_ready (rs := [11]) (by kernel_rfl) (by simp) (AllReadyH.cons rfl (fun K hK => ?_) AllReadyH.nil)
        try simp only [List.getElem_toArray, List.getElem_cons_zero, List.getElem_cons_succ]
        go_simp
        go_at_call 131; refine (HA.out _).mono ?_; rintro e w3 ⟨rfl, hb3⟩; (try replace hb3 := Below.undrew hb3); obtain ⟨hc3, hf3⟩ := bcell hb3; have hz3 := hb3.size; (try simp at hz3); (try have z3_0 : w.heap.size < w3.heap.size := (by omega)); (try have z3_1 : w.heap.size + 1 < w3.heap.size := (by omega)); (try have z3_2 : wr.heap.size < w3.heap.size := (by omega))
        go_wp2_with fail
        refine hK.out _ _ ?hS14 (fun hHeld => ?hW14)
        case hS14 => ((try dsimp only); (first | (go_simp; done) | (simp [*]; done)))
        clear hK K
        try simp only [List.getElem_toArray, List.getElem_cons_zero, List.getElem_cons_succ, Act.put, List.setIfInBounds_toArray, List.set_cons_zero, List.set_cons_succ]
        refine wpAnyH_ready (rs := [13]) (by kernel_rfl) (by simp) (AllReadyH.cons rfl (fun K hK => ?_) AllReadyH.nil)
        try simp only [List.getElem_toArray, List.getElem_cons_zero, List.getElem_cons_succ]
        go_simp
        go_at_call 132; refine (HM2.out _).mono ?_; rintro e w4 ⟨rfl, hb4⟩; (try replace hb4 := Below.undrew hb4); obtain ⟨hc4, hf4⟩ := bcell hb4; have hz4 := hb4.size; (try simp at hz4); (try have z4_0 : w.heap.size < w4.heap.size := (by omega)); (try have z4_1 : w.heap.size + 1 < w4.heap.size := (by omega)); (try have z4_2 : wr.heap.size < w4.heap.size := (by omega))
        go_wp2_with fail
        refine hK.out _ _ ?hS15 (fun hHeld => ?hW15)
        case hS15 => ((try dsimp only); (first | (go_simp; done) | (simp [*]; done)))
        clear hK K
        try simp only [List.getElem_toArray, List.getElem_cons_zero, List.getElem_cons_succ, Act.put, List.setIfInBounds_toArray, List.set_cons_zero, List.set_cons_succ]
        refine wpAnyH_take (i := 14) (v := ?v16) rfl (by kernel_rfl) (by kernel_rfl) (by kernel_rfl) (fun _ _ _ h => h) (Or.inl ⟨by rfl, ?hy16⟩) hHeld ?hr16
        case hy16 => (intro w hSw; (try dsimp only at hSw); (try simp only [List.getElem_toArray, List.getElem_cons_zero, List.getElem_cons_succ]); go_simp; try (with_reducible rfl))
        try simp only [List.getElem_toArray, List.getElem_cons_zero, List.getElem_cons_succ, Act.put, List.setIfInBounds_toArray, List.set_cons_zero, List.set_cons_succ]
        refine wpAnyH_done (by kernel_rfl) ?_ _
        refine last_step rfl (fun K hK => ?_)
        try simp only [List.getElem_toArray, List.getElem_cons_zero, List.getElem_cons_succ]
        go_simp
        refine hK.out _ _ ?_
        clear hK K
        go_wp2_with fail
        exact bodyPost_ret (v := pt pa pb pk qa qb qk) (by simp [results, Tryd.results159, go_sem, *]) rfl ⟨by (first | exact HE.out | exact HE.out.symm | rw [HE.out]), by have hB := HB.out; (repeat (first | with_reducible exact Below.refl _ _ | with_reducible assumption | with_reducible refine below_drewN ?_ _ | with_reducible refine Below.drew ?_ | with_reducible refine Below.alloc ?_ (by first | omega | (simp; done) | (simp; omega)) _ | with_reducible refine Below.setCell ?_ (by first | omega | (simp; done) | (simp; omega)) _ | with_reducible refine Below.trans ?_ (Below.mono (by assumption) (by first | omega | (simp; done) | (simp; omega)))))⟩
    · obtain ⟨m, rfl⟩ : ∃ m, gk = m + 1 := ⟨gk - 1, by omega⟩
      have HQ := Lib.hid (show rotN m ⟨-c', -d', a', b'⟩ = R from hq)
      have HD := Lib.hid (show Bd 1099511627776 ⟨-c', -d', a', b'⟩ by unfold Bd at *; simp only at *; omega)
      have HV := Lib.hid (show (-c') % 2 = 0 ∧ a' % 2 = 0 by omega)
      have HN := Lib.hid (fun w => sNeg_g h2 w)
      have hm : (0 : Int) < (m : Int) + 1 := by omega
      have e1 : IntKind.i64.wrap ((m : Int) + 1 - 1) = (m : Int) := by rw [show (m : Int) + 1 - 1 = (m : Int) by omega]; exact wrap_in (by omega) (by omega)
      have e2 : IntKind.i64.wrap (m : Int) = (m : Int) := wrap_in (by omega) (by omega)
      clear hq hbd he he2 h1 h2 hg

      go_wp2_with fail
      refine wp_region_last (S := fun w' => w'.cell? ⟨w.heap.size, 0, none⟩ = some (.int .i64 (gA a' b')) ∧ w'.cell? ⟨w.heap.size, 1, none⟩ = some (.int .i64 (gB a' b')) ∧ w'.cell? ⟨w.heap.size, 2, none⟩ = some (.int .i64 (gK a' b')) ∧ w'.cell? ⟨w.heap.size, 3, none⟩ = some (.int .i64 (gA c' d')) ∧ w'.cell? ⟨w.heap.size, 4, none⟩ = some (.int .i64 (gB c' d')) ∧ w'.cell? ⟨w.heap.size, 5, none⟩ = some (.int .i64 (gK c' d'))) 6 (by kernel_rfl) (by kernel_rfl) ?hS18 ?hW18
      case hS18 => ((try dsimp only); (first | (go_simp; done) | (simp [*]; done)))
      case hW18 =>
      intro hHeld
      simp only [List.pop_toArray, List.dropLast_cons_cons, List.dropLast_singleton]
      refine wpAnyH_take (i := 0) (v := ?v19) rfl (by kernel_rfl) (by kernel_rfl) (by kernel_rfl) (fun _ _ _ h => h) (Or.inl ⟨by rfl, ?hy19⟩) hHeld ?hr19
      case hy19 => (intro w hSw; (try dsimp only at hSw); (try simp only [List.getElem_toArray, List.getElem_cons_zero]); go_simp; try (with_reducible rfl))
      try simp only [List.getElem_toArray, List.getElem_cons_zero, Act.put, List.setIfInBounds_toArray, List.set_cons_zero, List.set_cons_succ]
      refine wpAnyH_take (i := 1) (v := ?v20) rfl (by kernel_rfl) (by kernel_rfl) (by kernel_rfl) (fun _ _ _ h => h) (Or.inl ⟨by rfl, ?hy20⟩) hHeld ?hr20
      case hy20 => (intro w hSw; (try dsimp only at hSw); (try simp only [List.getElem_toArray, List.getElem_cons_zero, List.getElem_cons_succ]); go_simp; try (with_reducible rfl))
      try simp only [List.getElem_toArray, List.getElem_cons_zero, List.getElem_cons_succ, Act.put, List.setIfInBounds_toArray, List.set_cons_zero, List.set_cons_succ]
      refine wpAnyH_take (i := 3) (v := ?v21) rfl (by kernel_rfl) (by kernel_rfl) (by kernel_rfl) (fun _ _ _ h => h) (Or.inl ⟨by rfl, ?hy21⟩) hHeld ?hr21
      case hy21 => (intro w hSw; (try dsimp only at hSw); (try simp only [List.getElem_toArray, List.getElem_cons_zero, List.getElem_cons_succ]); go_simp; try (with_reducible rfl))
      try simp only [List.getElem_toArray, List.getElem_cons_zero, List.getElem_cons_succ, Act.put, List.setIfInBounds_toArray, List.set_cons_zero, List.set_cons_succ]
      refine wpAnyH_take (i := 4) (v := ?v22) rfl (by kernel_rfl) (by kernel_rfl) (by kernel_rfl) (fun _ _ _ h => h) (Or.inl ⟨by rfl, ?hy22⟩) hHeld ?hr22
      case hy22 => (intro w hSw; (try dsimp only at hSw); (try simp only [List.getElem_toArray, List.getElem_cons_zero, List.getElem_cons_succ]); go_simp; try (with_reducible rfl))
      try simp only [List.getElem_toArray, List.getElem_cons_zero, List.getElem_cons_succ, Act.put, List.setIfInBounds_toArray, List.set_cons_zero, List.set_cons_succ]
      refine wpAnyH_ready (rs := [2]) (by kernel_rfl) (by simp) (AllReadyH.cons rfl (fun K hK => ?_) AllReadyH.nil)
      try simp only [List.getElem_toArray, List.getElem_cons_zero, List.getElem_cons_succ]
      go_simp
      go_at_call 161; refine (HN.out _).mono ?_; rintro e w1 ⟨rfl, hb1⟩; (try replace hb1 := Below.undrew hb1); obtain ⟨hc1, hf1⟩ := bcell hb1; have hz1 := hb1.size; (try simp at hz1); (try have z1_0 : w.heap.size < w1.heap.size := (by omega)); (try have z1_1 : w.heap.size + 1 < w1.heap.size := (by omega))
      go_wp2_with fail
      refine hK.out _ _ ?hS23 (fun hHeld => ?hW23)
      case hS23 => ((try dsimp only); (first | (go_simp; done) | (simp [*]; done)))
      clear hK K
      try simp only [List.getElem_toArray, List.getElem_cons_zero, List.getElem_cons_succ, Act.put, List.setIfInBounds_toArray, List.set_cons_zero, List.set_cons_succ]
      refine wpAnyH_take (i := 5) (v := ?v24) rfl (by kernel_rfl) (by kernel_rfl) (by kernel_rfl) (fun _ _ _ h => h) (Or.inl ⟨by rfl, ?hy24⟩) hHeld ?hr24
      case hy24 => (intro w hSw; (try dsimp only at hSw); (try simp only [List.getElem_toArray, List.getElem_cons_zero, List.getElem_cons_succ]); go_simp; try (with_reducible rfl))
      try simp only [List.getElem_toArray, List.getElem_cons_zero, List.getElem_cons_succ, Act.put, List.setIfInBounds_toArray, List.set_cons_zero, List.set_cons_succ]
      refine wpAnyH_done (by kernel_rfl) ?_ _
      refine last_step rfl (fun K hK => ?_)
      try simp only [List.getElem_toArray, List.getElem_cons_zero, List.getElem_cons_succ]
      go_simp
      refine hK.out _ _ ?_
      clear hK K
      go_wp2_with fail
      go_roundg m
      case measure => omega
      case rel => exact ⟨-c', -d', a', b', by (first | rfl | go_num | simp [go_sem, *]), by omega, HQ.out, HD.out, HV.out.1, HV.out.2, by simp [go_sem, *], by simp [go_sem, *], by simp [go_sem, *], by simp [go_sem, *], by simp [go_sem, *], by simp [go_sem, *], by simp [go_sem, *], by simp [go_sem, *], by simp [go_sem, *], by simp [go_sem, *], by simp [go_sem, *], by simp [go_sem, *], by simp [go_sem, *], by simp [go_sem, *], by simp [go_sem, *], by simp [go_sem, *], by simp [go_sem, *], by simp [go_sem, *], by simp [go_sem, *], by simp [go_sem, *], by simp [go_sem, *], by simp [go_sem, *], by simp [go_sem, *], by simp [go_sem, *], by (first | omega | (simp; omega)), by have hB := HB.out; (repeat (first | with_reducible exact Below.refl _ _ | with_reducible assumption | with_reducible refine below_drewN ?_ _ | with_reducible refine Below.drew ?_ | with_reducible refine Below.alloc ?_ (by first | omega | (simp; done) | (simp; omega)) _ | with_reducible refine Below.setCell ?_ (by first | omega | (simp; done) | (simp; omega)) _ | with_reducible refine Below.trans ?_ (Below.mono (by assumption) (by first | omega | (simp; done) | (simp; omega)))))⟩

set_option maxHeartbeats 4000000 in
set_option maxRecDepth 100000 in
theorem sTurn_yes (t : Int) (n : Nat) (a b c d : Int) (w : World) (hT : LT β w) (hn : t.tdiv 2 = (n : Int)) (hn3 : n ≤ 3) (ho : t.tmod 2 = 0 ∨ t.tmod 2 = 1) (hb : Bd 1099511627776 ⟨a, b, c, d⟩) (he : a % 2 = 0) (he2 : c % 2 = 0) :
    Calls Tryd.prog 159 #[.int .i64 t, .bool true, pt (gA a b) (gB a b) (gK a b) (gA c d) (gB c d) (gK c d)] w (RetB (gp (tR t (rotN n ⟨a, b, -c, -d⟩))) w) := by
  have HN0 := Lib.hid (fun w => sNeg_g (A := c) (B := d) ⟨hb.2.2.2.2.1, hb.2.2.2.2.2.1, hb.2.2.2.2.2.2.1, hb.2.2.2.2.2.2.2⟩ w)
  have HBD := Lib.hid (show Bd 1099511627776 ⟨a, b, -c, -d⟩ by unfold Bd at *; simp only at *; omega)
  have HEV := Lib.hid (And.intro he he2)
  have HO := Lib.hid ho
  have hw : IntKind.i64.wrap (n : Int) = (n : Int) := wrap_in (by omega) (by omega)
  have hw' := Lib.hid hn3
  obtain ⟨R, hR⟩ : ∃ R, R = rotN n ⟨a, b, -c, -d⟩ := ⟨_, rfl⟩
  rw [← hR]
  have HR := Lib.hid hR
  clear hR hb he he2 ho
  go_enter Tryd.func159, Tryd.ntmps159
  go_wp2_with fail
  have zz9 : w.heap.size < w.heap.size + 1 + 1 := (by omega)
  refine (HN0.out _).mono ?_
  rintro e w9 ⟨rfl, hb9⟩; (try replace hb9 := Below.undrew hb9); obtain ⟨hc9, hf9⟩ := bcell hb9; have hz9 := hb9.size; (try simp at hz9); (try have z9_0 : w.heap.size < w9.heap.size := (by omega)); (try have z9_1 : w.heap.size + 1 < w9.heap.size := (by omega))
  go_wp2_with fail
  go_loopg [7] n (TurnRel w R)
  case atStart => exact ⟨a, b, -c, -d, by (first | rfl | go_num | simp [go_sem, *]), hn3, HR.out.symm, HBD.out, HEV.out.1, by have := HEV.out.2; omega, by simp [go_sem, *], by simp [go_sem, *], by simp [go_sem, *], by simp [go_sem, *], by simp [go_sem, *], by simp [go_sem, *], by simp [go_sem, *], by simp [go_sem, *], by simp [go_sem, *], by simp [go_sem, *], by simp [go_sem, *], by simp [go_sem, *], by simp [go_sem, *], by simp [go_sem, *], by simp [go_sem, *], by simp [go_sem, *], by simp [go_sem, *], by simp [go_sem, *], by simp [go_sem, *], by simp [go_sem, *], by simp [go_sem, *], by simp [go_sem, *], by simp [go_sem, *], by simp [go_sem, *], by (first | omega | (simp; done) | (simp; omega)), by (repeat (first | with_reducible exact Below.refl _ _ | with_reducible assumption | with_reducible refine below_drewN ?_ _ | with_reducible refine Below.drew ?_ | with_reducible refine Below.alloc ?_ (by first | omega | (simp; done) | (simp; omega)) _ | with_reducible refine Below.setCell ?_ (by first | omega | (simp; done) | (simp; omega)) _ | with_reducible refine Below.trans ?_ (Below.mono (by assumption) (by first | omega | (simp; done) | (simp; omega)))))⟩
  case round =>
    clear hc9 hf9 hb9 hz9 z9_0 z9_1
    clear HN0 HBD HEV HR
    rename_i gk0 wr0
    obtain ⟨a', b', c', d', rfl, hg3, hq, hbd, he, he2, c0, c1, c2, c3, c4, c5, f0, f1, f2, f3, f4, f5, r0, r1, r2, r3, r4, r5, s0, s1, s2, s3, s4, s5, hz, hB⟩ := hrel
    have HB := Lib.hid hB
    clear hB
    have hzz : w.heap.size < wr.heap.size := by omega
    have h1 : Bd2 1099511627776 a' b' := ⟨hbd.1, hbd.2.1, hbd.2.2.1, hbd.2.2.2.1⟩
    have h2 : Bd2 1099511627776 c' d' := ⟨hbd.2.2.2.2.1, hbd.2.2.2.2.2.1, hbd.2.2.2.2.2.2.1, hbd.2.2.2.2.2.2.2⟩
    by_cases hg : gk = 0
    · subst hg
      have hq' : R = ⟨a', b', c', d'⟩ := hq.symm
      rcases HO.out with ho | ho
      · have HE := Lib.hid (show gp (tR t R) = pt (gA a' b') (gB a' b') (gK a' b') (gA c' d') (gB c' d') (gK c' d') by rw [hq']; unfold tR; rw [if_neg (by omega)]; rfl)
        clear hq hq' hbd he he2 h1 h2
        generalize gA a' b' = xa at *; generalize gB a' b' = xb at *; generalize gK a' b' = xk at *; generalize gA c' d' = ya at *; generalize gB c' d' = yb at *; generalize gK c' d' = yk at *
        go_wp2_with fail
        exact bodyPost_ret (v := pt xa xb xk ya yb yk) (by simp [results, Tryd.results159, go_sem, *]) rfl ⟨by (first | exact HE.out | exact HE.out.symm | rw [HE.out]), by have hB := HB.out; (repeat (first | with_reducible exact Below.refl _ _ | with_reducible assumption | with_reducible refine below_drewN ?_ _ | with_reducible refine Below.drew ?_ | with_reducible refine Below.alloc ?_ (by first | omega | (simp; done) | (simp; omega)) _ | with_reducible refine Below.setCell ?_ (by first | omega | (simp; done) | (simp; omega)) _ | with_reducible refine Below.trans ?_ (Below.mono (by assumption) (by first | omega | (simp; done) | (simp; omega)))))⟩
      · have HE := Lib.hid (show gp (tR t R) = pt (gA (b' - d') ((a' - c') / 2)) (gB (b' - d') ((a' - c') / 2)) (gK (b' - d') ((a' - c') / 2)) (gA (b' + d') ((a' + c') / 2)) (gB (b' + d') ((a' + c') / 2)) (gK (b' + d') ((a' + c') / 2)) by rw [hq']; unfold tR; rw [if_pos ho]; rfl)
        have HS := Lib.hid (fun w => sSub_g (β := β) (bd2_mono h1 (by decide)) (bd2_mono h2 (by decide)) w)
        have HA := Lib.hid (fun w => gAdd_any (bd2_mono h1 (by decide)) (bd2_mono h2 (by decide)) w)
        have b1 : Bd2 1125899906842624 (a' - c') (b' - d') := by unfold Bd2 at *; omega
        have b2 : Bd2 1125899906842624 (a' + c') (b' + d') := by unfold Bd2 at *; omega
        have HM1 := Lib.hid (fun w => sMul_h (show (a' - c') % 2 = 0 by omega) b1 w)
        have HM2 := Lib.hid (fun w => sMul_h (show (a' + c') % 2 = 0 by omega) b2 w)
        unfold gv at HS HA HM1 HM2
        clear hq hq' hbd he he2 h1 h2 b1 b2
        generalize gA (b' - d') ((a' - c') / 2) = pa at *; generalize gB (b' - d') ((a' - c') / 2) = pb at *; generalize gK (b' - d') ((a' - c') / 2) = pk at *
        generalize gA (b' + d') ((a' + c') / 2) = qa at *; generalize gB (b' + d') ((a' + c') / 2) = qb at *; generalize gK (b' + d') ((a' + c') / 2) = qk at *
        generalize gA (a' - c') (b' - d') = sa at *; generalize gB (a' - c') (b' - d') = sb at *; generalize gK (a' - c') (b' - d') = sk at *
        generalize gA (a' + c') (b' + d') = ua at *; generalize gB (a' + c') (b' + d') = ub at *; generalize gK (a' + c') (b' + d') = uk at *
        generalize gA a' b' = xa at *; generalize gB a' b' = xb at *; generalize gK a' b' = xk at *; generalize gA c' d' = ya at *; generalize gB c' d' = yb at *; generalize gK c' d' = yk at *
        have zz0 : w.heap.size + 1 < wr.heap.size + 1 := by omega
        have zz1 : w.heap.size < wr.heap.size + 1 := by omega
        go_wp2_with fail
        refine wp_region_last (S := fun w' => w'.cell? ⟨w.heap.size, 0, none⟩ = some (.int .i64 xa) ∧ w'.cell? ⟨w.heap.size, 1, none⟩ = some (.int .i64 xb) ∧ w'.cell? ⟨w.heap.size, 2, none⟩ = some (.int .i64 xk) ∧ w'.cell? ⟨w.heap.size, 3, none⟩ = some (.int .i64 ya) ∧ w'.cell? ⟨w.heap.size, 4, none⟩ = some (.int .i64 yb) ∧ w'.cell? ⟨w.heap.size, 5, none⟩ = some (.int .i64 yk) ∧ w'.cell? ⟨wr.heap.size, 0, none⟩ = some (.int .i64 0) ∧ w'.cell? ⟨wr.heap.size, 1, none⟩ = some (.int .i64 1) ∧ w'.cell? ⟨wr.heap.size, 2, none⟩ = some (.int .i64 1)) 15 (by kernel_rfl) (by kernel_rfl) ?hS26 ?hW26
        case hS26 => ((try dsimp only); (first | (go_simp; done) | (simp [*]; done)))
        case hW26 =>
        intro hHeld
        simp only [List.pop_toArray, List.dropLast_cons_cons, List.dropLast_singleton]
        refine wpAnyH_take (i := 0) (v := ?v27) rfl (by kernel_rfl) (by kernel_rfl) (by kernel_rfl) (fun _ _ _ h => h) (Or.inl ⟨by rfl, ?hy27⟩) hHeld ?hr27
        case hy27 => (intro w hSw; (try dsimp only at hSw); (try simp only [List.getElem_toArray, List.getElem_cons_zero]); go_simp; try (with_reducible rfl))
        try simp only [List.getElem_toArray, List.getElem_cons_zero, Act.put, List.setIfInBounds_toArray, List.set_cons_zero, List.set_cons_succ]
        refine wpAnyH_take (i := 1) (v := ?v28) rfl (by kernel_rfl) (by kernel_rfl) (by kernel_rfl) (fun _ _ _ h => h) (Or.inl ⟨by rfl, ?hy28⟩) hHeld ?hr28
        case hy28 => (intro w hSw; (try dsimp only at hSw); (try simp only [List.getElem_toArray, List.getElem_cons_zero, List.getElem_cons_succ]); go_simp; try (with_reducible rfl))
        try simp only [List.getElem_toArray, List.getElem_cons_zero, List.getElem_cons_succ, Act.put, List.setIfInBounds_toArray, List.set_cons_zero, List.set_cons_succ]
        refine wpAnyH_take (i := 2) (v := ?v29) rfl (by kernel_rfl) (by kernel_rfl) (by kernel_rfl) (fun _ _ _ h => h) (Or.inl ⟨by rfl, ?hy29⟩) hHeld ?hr29
        case hy29 => (intro w hSw; (try dsimp only at hSw); (try simp only [List.getElem_toArray, List.getElem_cons_zero, List.getElem_cons_succ]); go_simp; try (with_reducible rfl))
        try simp only [List.getElem_toArray, List.getElem_cons_zero, List.getElem_cons_succ, Act.put, List.setIfInBounds_toArray, List.set_cons_zero, List.set_cons_succ]
        refine wpAnyH_take (i := 3) (v := ?v30) rfl (by kernel_rfl) (by kernel_rfl) (by kernel_rfl) (fun _ _ _ h => h) (Or.inl ⟨by rfl, ?hy30⟩) hHeld ?hr30
        case hy30 => (intro w hSw; (try dsimp only at hSw); (try simp only [List.getElem_toArray, List.getElem_cons_zero, List.getElem_cons_succ]); go_simp; try (with_reducible rfl))
        try simp only [List.getElem_toArray, List.getElem_cons_zero, List.getElem_cons_succ, Act.put, List.setIfInBounds_toArray, List.set_cons_zero, List.set_cons_succ]
        refine wpAnyH_take (i := 5) (v := ?v31) rfl (by kernel_rfl) (by kernel_rfl) (by kernel_rfl) (fun _ _ _ h => h) (Or.inl ⟨by rfl, ?hy31⟩) hHeld ?hr31
        case hy31 => (intro w hSw; (try dsimp only at hSw); (try simp only [List.getElem_toArray, List.getElem_cons_zero, List.getElem_cons_succ]); go_simp; try (with_reducible rfl))
        try simp only [List.getElem_toArray, List.getElem_cons_zero, List.getElem_cons_succ, Act.put, List.setIfInBounds_toArray, List.set_cons_zero, List.set_cons_succ]
        refine wpAnyH_take (i := 7) (v := ?v32) rfl (by kernel_rfl) (by kernel_rfl) (by kernel_rfl) (fun _ _ _ h => h) (Or.inl ⟨by rfl, ?hy32⟩) hHeld ?hr32
        case hy32 => (intro w hSw; (try dsimp only at hSw); (try simp only [List.getElem_toArray, List.getElem_cons_zero, List.getElem_cons_succ]); go_simp; try (with_reducible rfl))
        try simp only [List.getElem_toArray, List.getElem_cons_zero, List.getElem_cons_succ, Act.put, List.setIfInBounds_toArray, List.set_cons_zero, List.set_cons_succ]
        refine wpAnyH_take (i := 8) (v := ?v33) rfl (by kernel_rfl) (by kernel_rfl) (by kernel_rfl) (fun _ _ _ h => h) (Or.inl ⟨by rfl, ?hy33⟩) hHeld ?hr33
        case hy33 => (intro w hSw; (try dsimp only at hSw); (try simp only [List.getElem_toArray, List.getElem_cons_zero, List.getElem_cons_succ]); go_simp; try (with_reducible rfl))
        try simp only [List.getElem_toArray, List.getElem_cons_zero, List.getElem_cons_succ, Act.put, List.setIfInBounds_toArray, List.set_cons_zero, List.set_cons_succ]
        refine wpAnyH_take (i := 9) (v := ?v34) rfl (by kernel_rfl) (by kernel_rfl) (by kernel_rfl) (fun _ _ _ h => h) (Or.inl ⟨by rfl, ?hy34⟩) hHeld ?hr34
        case hy34 => (intro w hSw; (try dsimp only at hSw); (try simp only [List.getElem_toArray, List.getElem_cons_zero, List.getElem_cons_succ]); go_simp; try (with_reducible rfl))
        try simp only [List.getElem_toArray, List.getElem_cons_zero, List.getElem_cons_succ, Act.put, List.setIfInBounds_toArray, List.set_cons_zero, List.set_cons_succ]
        refine wpAnyH_take (i := 10) (v := ?v35) rfl (by kernel_rfl) (by kernel_rfl) (by kernel_rfl) (fun _ _ _ h => h) (Or.inl ⟨by rfl, ?hy35⟩) hHeld ?hr35
        case hy35 => (intro w hSw; (try dsimp only at hSw); (try simp only [List.getElem_toArray, List.getElem_cons_zero, List.getElem_cons_succ]); go_simp; try (with_reducible rfl))
        try simp only [List.getElem_toArray, List.getElem_cons_zero, List.getElem_cons_succ, Act.put, List.setIfInBounds_toArray, List.set_cons_zero, List.set_cons_succ]
        refine wpAnyH_take (i := 12) (v := ?v36) rfl (by kernel_rfl) (by kernel_rfl) (by kernel_rfl) (fun _ _ _ h => h) (Or.inl ⟨by rfl, ?hy36⟩) hHeld ?hr36
        case hy36 => (intro w hSw; (try dsimp only at hSw); (try simp only [List.getElem_toArray, List.getElem_cons_zero, List.getElem_cons_succ]); go_simp; try (with_reducible rfl))
        try simp only [List.getElem_toArray, List.getElem_cons_zero, List.getElem_cons_succ, Act.put, List.setIfInBounds_toArray, List.set_cons_zero, List.set_cons_succ]
        refine wpAnyH_ready (rs := [4]) (by kernel_rfl) (by simp) (AllReadyH.cons rfl (fun K hK => ?_) AllReadyH.nil)
        try simp only [List.getElem_toArray, List.getElem_cons_zero, List.getElem_cons_succ]
        go_simp
        go_at_call 126; refine (HS.out _ ?_).mono ?_; exact LT.below (w := w) hT (by have hB := HB.out; (repeat (first | with_reducible exact Below.refl _ _ | with_reducible assumption | with_reducible refine below_drewN ?_ _ | with_reducible refine Below.drew ?_ | with_reducible refine Below.alloc ?_ (by first | omega | (simp; done) | (simp; omega)) _ | with_reducible refine Below.setCell ?_ (by first | omega | (simp; done) | (simp; omega)) _ | with_reducible refine Below.trans ?_ (Below.mono (by assumption) (by first | omega | (simp; done) | (simp; omega)))))) (Nat.le_refl _); rintro e w1 ⟨rfl, hb1⟩; (try replace hb1 := Below.undrew hb1); obtain ⟨hc1, hf1⟩ := bcell hb1; have hz1 := hb1.size; (try simp at hz1); (try have z1_0 : w.heap.size < w1.heap.size := (by omega)); (try have z1_1 : w.heap.size + 1 < w1.heap.size := (by omega)); (try have z1_2 : wr.heap.size < w1.heap.size := (by omega))
        go_wp2_with fail
        refine hK.out _ _ ?hS37 (fun hHeld => ?hW37)
        case hS37 => ((try dsimp only); (first | (go_simp; done) | (simp [*]; done)))
        clear hK K
        try simp only [List.getElem_toArray, List.getElem_cons_zero, List.getElem_cons_succ, Act.put, List.setIfInBounds_toArray, List.set_cons_zero, List.set_cons_succ]
        refine wpAnyH_ready (rs := [6]) (by kernel_rfl) (by simp) (AllReadyH.cons rfl (fun K hK => ?_) AllReadyH.nil)
        try simp only [List.getElem_toArray, List.getElem_cons_zero, List.getElem_cons_succ]
        go_simp
        go_at_call 132; refine (HM1.out _).mono ?_; rintro e w2 ⟨rfl, hb2⟩; (try replace hb2 := Below.undrew hb2); obtain ⟨hc2, hf2⟩ := bcell hb2; have hz2 := hb2.size; (try simp at hz2); (try have z2_0 : w.heap.size < w2.heap.size := (by omega)); (try have z2_1 : w.heap.size + 1 < w2.heap.size := (by omega)); (try have z2_2 : wr.heap.size < w2.heap.size := (by omega))
        go_wp2_with fail
        refine hK.out _ _ ?hS38 (fun hHeld => ?hW38)
        case hS38 => ((try dsimp only); (first | (go_simp; done) | (simp [*]; done)))
        clear hK K
        try simp only [List.getElem_toArray, List.getElem_cons_zero, List.getElem_cons_succ, Act.put, List.setIfInBounds_toArray, List.set_cons_zero, List.set_cons_succ]
        refine wpAnyH_ready (rs := [11]) (by kernel_rfl) (by simp) (AllReadyH.cons rfl (fun K hK => ?_) AllReadyH.nil)
        try simp only [List.getElem_toArray, List.getElem_cons_zero, List.getElem_cons_succ]
        go_simp
        go_at_call 131; refine (HA.out _).mono ?_; rintro e w3 ⟨rfl, hb3⟩; (try replace hb3 := Below.undrew hb3); obtain ⟨hc3, hf3⟩ := bcell hb3; have hz3 := hb3.size; (try simp at hz3); (try have z3_0 : w.heap.size < w3.heap.size := (by omega)); (try have z3_1 : w.heap.size + 1 < w3.heap.size := (by omega)); (try have z3_2 : wr.heap.size < w3.heap.size := (by omega))
        go_wp2_with fail
        refine hK.out _ _ ?hS39 (fun hHeld => ?hW39)
        case hS39 => ((try dsimp only); (first | (go_simp; done) | (simp [*]; done)))
        clear hK K
        try simp only [List.getElem_toArray, List.getElem_cons_zero, List.getElem_cons_succ, Act.put, List.setIfInBounds_toArray, List.set_cons_zero, List.set_cons_succ]
        refine wpAnyH_ready (rs := [13]) (by kernel_rfl) (by simp) (AllReadyH.cons rfl (fun K hK => ?_) AllReadyH.nil)
        try simp only [List.getElem_toArray, List.getElem_cons_zero, List.getElem_cons_succ]
        go_simp
        go_at_call 132; refine (HM2.out _).mono ?_; rintro e w4 ⟨rfl, hb4⟩; (try replace hb4 := Below.undrew hb4); obtain ⟨hc4, hf4⟩ := bcell hb4; have hz4 := hb4.size; (try simp at hz4); (try have z4_0 : w.heap.size < w4.heap.size := (by omega)); (try have z4_1 : w.heap.size + 1 < w4.heap.size := (by omega)); (try have z4_2 : wr.heap.size < w4.heap.size := (by omega))
        go_wp2_with fail
        refine hK.out _ _ ?hS40 (fun hHeld => ?hW40)
        case hS40 => ((try dsimp only); (first | (go_simp; done) | (simp [*]; done)))
        clear hK K
        try simp only [List.getElem_toArray, List.getElem_cons_zero, List.getElem_cons_succ, Act.put, List.setIfInBounds_toArray, List.set_cons_zero, List.set_cons_succ]
        refine wpAnyH_take (i := 14) (v := ?v41) rfl (by kernel_rfl) (by kernel_rfl) (by kernel_rfl) (fun _ _ _ h => h) (Or.inl ⟨by rfl, ?hy41⟩) hHeld ?hr41
        case hy41 => (intro w hSw; (try dsimp only at hSw); (try simp only [List.getElem_toArray, List.getElem_cons_zero, List.getElem_cons_succ]); go_simp; try (with_reducible rfl))
        try simp only [List.getElem_toArray, List.getElem_cons_zero, List.getElem_cons_succ, Act.put, List.setIfInBounds_toArray, List.set_cons_zero, List.set_cons_succ]
        refine wpAnyH_done (by kernel_rfl) ?_ _
        refine last_step rfl (fun K hK => ?_)
        try simp only [List.getElem_toArray, List.getElem_cons_zero, List.getElem_cons_succ]
        go_simp
        refine hK.out _ _ ?_
        clear hK K
        go_wp2_with fail
        exact bodyPost_ret (v := pt pa pb pk qa qb qk) (by simp [results, Tryd.results159, go_sem, *]) rfl ⟨by (first | exact HE.out | exact HE.out.symm | rw [HE.out]), by have hB := HB.out; (repeat (first | with_reducible exact Below.refl _ _ | with_reducible assumption | with_reducible refine below_drewN ?_ _ | with_reducible refine Below.drew ?_ | with_reducible refine Below.alloc ?_ (by first | omega | (simp; done) | (simp; omega)) _ | with_reducible refine Below.setCell ?_ (by first | omega | (simp; done) | (simp; omega)) _ | with_reducible refine Below.trans ?_ (Below.mono (by assumption) (by first | omega | (simp; done) | (simp; omega)))))⟩
    · obtain ⟨m, rfl⟩ : ∃ m, gk = m + 1 := ⟨gk - 1, by omega⟩
      have HQ := Lib.hid (show rotN m ⟨-c', -d', a', b'⟩ = R from hq)
      have HD := Lib.hid (show Bd 1099511627776 ⟨-c', -d', a', b'⟩ by unfold Bd at *; simp only at *; omega)
      have HV := Lib.hid (show (-c') % 2 = 0 ∧ a' % 2 = 0 by omega)
      have HN := Lib.hid (fun w => sNeg_g h2 w)
      have hm : (0 : Int) < (m : Int) + 1 := by omega
      have e1 : IntKind.i64.wrap ((m : Int) + 1 - 1) = (m : Int) := by rw [show (m : Int) + 1 - 1 = (m : Int) by omega]; exact wrap_in (by omega) (by omega)
      have e2 : IntKind.i64.wrap (m : Int) = (m : Int) := wrap_in (by omega) (by omega)
      clear hq hbd he he2 h1 h2 hg

      go_wp2_with fail
      refine wp_region_last (S := fun w' => w'.cell? ⟨w.heap.size, 0, none⟩ = some (.int .i64 (gA a' b')) ∧ w'.cell? ⟨w.heap.size, 1, none⟩ = some (.int .i64 (gB a' b')) ∧ w'.cell? ⟨w.heap.size, 2, none⟩ = some (.int .i64 (gK a' b')) ∧ w'.cell? ⟨w.heap.size, 3, none⟩ = some (.int .i64 (gA c' d')) ∧ w'.cell? ⟨w.heap.size, 4, none⟩ = some (.int .i64 (gB c' d')) ∧ w'.cell? ⟨w.heap.size, 5, none⟩ = some (.int .i64 (gK c' d'))) 6 (by kernel_rfl) (by kernel_rfl) ?hS43 ?hW43
      case hS43 => ((try dsimp only); (first | (go_simp; done) | (simp [*]; done)))
      case hW43 =>
      intro hHeld
      simp only [List.pop_toArray, List.dropLast_cons_cons, List.dropLast_singleton]
      refine wpAnyH_take (i := 0) (v := ?v44) rfl (by kernel_rfl) (by kernel_rfl) (by kernel_rfl) (fun _ _ _ h => h) (Or.inl ⟨by rfl, ?hy44⟩) hHeld ?hr44
      case hy44 => (intro w hSw; (try dsimp only at hSw); (try simp only [List.getElem_toArray, List.getElem_cons_zero]); go_simp; try (with_reducible rfl))
      try simp only [List.getElem_toArray, List.getElem_cons_zero, Act.put, List.setIfInBounds_toArray, List.set_cons_zero, List.set_cons_succ]
      refine wpAnyH_take (i := 1) (v := ?v45) rfl (by kernel_rfl) (by kernel_rfl) (by kernel_rfl) (fun _ _ _ h => h) (Or.inl ⟨by rfl, ?hy45⟩) hHeld ?hr45
      case hy45 => (intro w hSw; (try dsimp only at hSw); (try simp only [List.getElem_toArray, List.getElem_cons_zero, List.getElem_cons_succ]); go_simp; try (with_reducible rfl))
      try simp only [List.getElem_toArray, List.getElem_cons_zero, List.getElem_cons_succ, Act.put, List.setIfInBounds_toArray, List.set_cons_zero, List.set_cons_succ]
      refine wpAnyH_take (i := 3) (v := ?v46) rfl (by kernel_rfl) (by kernel_rfl) (by kernel_rfl) (fun _ _ _ h => h) (Or.inl ⟨by rfl, ?hy46⟩) hHeld ?hr46
      case hy46 => (intro w hSw; (try dsimp only at hSw); (try simp only [List.getElem_toArray, List.getElem_cons_zero, List.getElem_cons_succ]); go_simp; try (with_reducible rfl))
      try simp only [List.getElem_toArray, List.getElem_cons_zero, List.getElem_cons_succ, Act.put, List.setIfInBounds_toArray, List.set_cons_zero, List.set_cons_succ]
      refine wpAnyH_take (i := 4) (v := ?v47) rfl (by kernel_rfl) (by kernel_rfl) (by kernel_rfl) (fun _ _ _ h => h) (Or.inl ⟨by rfl, ?hy47⟩) hHeld ?hr47
      case hy47 => (intro w hSw; (try dsimp only at hSw); (try simp only [List.getElem_toArray, List.getElem_cons_zero, List.getElem_cons_succ]); go_simp; try (with_reducible rfl))
      try simp only [List.getElem_toArray, List.getElem_cons_zero, List.getElem_cons_succ, Act.put, List.setIfInBounds_toArray, List.set_cons_zero, List.set_cons_succ]
      refine wpAnyH_ready (rs := [2]) (by kernel_rfl) (by simp) (AllReadyH.cons rfl (fun K hK => ?_) AllReadyH.nil)
      try simp only [List.getElem_toArray, List.getElem_cons_zero, List.getElem_cons_succ]
      go_simp
      go_at_call 161; refine (HN.out _).mono ?_; rintro e w1 ⟨rfl, hb1⟩; (try replace hb1 := Below.undrew hb1); obtain ⟨hc1, hf1⟩ := bcell hb1; have hz1 := hb1.size; (try simp at hz1); (try have z1_0 : w.heap.size < w1.heap.size := (by omega)); (try have z1_1 : w.heap.size + 1 < w1.heap.size := (by omega))
      go_wp2_with fail
      refine hK.out _ _ ?hS48 (fun hHeld => ?hW48)
      case hS48 => ((try dsimp only); (first | (go_simp; done) | (simp [*]; done)))
      clear hK K
      try simp only [List.getElem_toArray, List.getElem_cons_zero, List.getElem_cons_succ, Act.put, List.setIfInBounds_toArray, List.set_cons_zero, List.set_cons_succ]
      refine wpAnyH_take (i := 5) (v := ?v49) rfl (by kernel_rfl) (by kernel_rfl) (by kernel_rfl) (fun _ _ _ h => h) (Or.inl ⟨by rfl, ?hy49⟩) hHeld ?hr49
      case hy49 => (intro w hSw; (try dsimp only at hSw); (try simp only [List.getElem_toArray, List.getElem_cons_zero, List.getElem_cons_succ]); go_simp; try (with_reducible rfl))
      try simp only [List.getElem_toArray, List.getElem_cons_zero, List.getElem_cons_succ, Act.put, List.setIfInBounds_toArray, List.set_cons_zero, List.set_cons_succ]
      refine wpAnyH_done (by kernel_rfl) ?_ _
      refine last_step rfl (fun K hK => ?_)
      try simp only [List.getElem_toArray, List.getElem_cons_zero, List.getElem_cons_succ]
      go_simp
      refine hK.out _ _ ?_
      clear hK K
      go_wp2_with fail
      go_roundg m
      case measure => omega
      case rel => exact ⟨-c', -d', a', b', by (first | rfl | go_num | simp [go_sem, *]), by omega, HQ.out, HD.out, HV.out.1, HV.out.2, by simp [go_sem, *], by simp [go_sem, *], by simp [go_sem, *], by simp [go_sem, *], by simp [go_sem, *], by simp [go_sem, *], by simp [go_sem, *], by simp [go_sem, *], by simp [go_sem, *], by simp [go_sem, *], by simp [go_sem, *], by simp [go_sem, *], by simp [go_sem, *], by simp [go_sem, *], by simp [go_sem, *], by simp [go_sem, *], by simp [go_sem, *], by simp [go_sem, *], by simp [go_sem, *], by simp [go_sem, *], by simp [go_sem, *], by simp [go_sem, *], by simp [go_sem, *], by simp [go_sem, *], by (first | omega | (simp; omega)), by have hB := HB.out; (repeat (first | with_reducible exact Below.refl _ _ | with_reducible assumption | with_reducible refine below_drewN ?_ _ | with_reducible refine Below.drew ?_ | with_reducible refine Below.alloc ?_ (by first | omega | (simp; done) | (simp; omega)) _ | with_reducible refine Below.setCell ?_ (by first | omega | (simp; done) | (simp; omega)) _ | with_reducible refine Below.trans ?_ (Below.mono (by assumption) (by first | omega | (simp; done) | (simp; omega)))))⟩
end Go.Proofs.YtafbdnjabgfjeaaDoor
