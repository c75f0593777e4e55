/- A region that draws its order and ends in one operation that waits for all others: the head is walked as a region of its own, then the last operation comes. -/
import Derived.StillTailTactics
import Derived.Deep.RegionHeld3
namespace Go.Proofs.YthelgcikobhonaaDoor
open Go

section
variable {P : Program} {ops : Array Oper} {Q : Exit → Act → World → Prop} {S : World → Prop} {n : Nat}

/-- Behind the head comes the last operation. -/
def postLast (P : Program) (ops : Array Oper) (Q : Exit → Act → World → Prop) (n : Nat) : Exit → Act → World → Prop
  | .normal, a, w => wpOp P ops Q n (fun a w => Q .normal a w) a w
  | e, a, w => Q e a w

theorem last_step {o : Oper} {a : Act} {w : World} (ho : ops[n]? = some o)
    (h : ∀ K : Act → World → Prop, Shut (∀ a w, Q .normal a w → K a w) → if Region.wanted o (yielded ops a.tmps) = true then Oper.wp P o a w K Q else K (a.put o.dst undef) w) : postLast P ops Q n .normal a w :=
  wpOp_step ho fun K hK => h K fun a w hq => hK a w hq

/-- Operation n is the last one, waits for all others; each waits for earlier ones alone; no guard ahead of it. -/
def lastB (ops : Array Oper) (n : Nat) : Bool :=
  decide (ops.size = n + 1) && (List.range n).all (fun i => Region.waitsFor .any ops n i) &&
  (List.range (n + 1)).all fun j => match ops[j]? with
    | some o => o.after.all (fun e => decide (e.on < j)) && (decide (j = n) || o.guard.isNone)
    | none => false

structure LastOk (ops : Array Oper) (n : Nat) : Prop where
  size : ops.size = n + 1
  waits : ∀ i, i < n → Region.waitsFor .any ops n i = true
  back : ∀ (j : Nat) (o : Oper), ops[j]? = some o → ∀ e ∈ o.after, e.on < j
  free : ∀ (j : Nat) (o : Oper), j < n → ops[j]? = some o → o.guard = none
theorem lastB_ok (h : lastB ops n = true) : LastOk ops n := by
  unfold lastB at h
  simp only [Bool.and_eq_true, decide_eq_true_eq, List.all_eq_true, List.mem_range] at h
  obtain ⟨⟨h1, h2⟩, h3⟩ := h
  have hj : ∀ j o, ops[j]? = some o → j < n + 1 := fun j o ho => by have := (Array.getElem?_eq_some_iff.1 ho).1; omega
  refine ⟨h1, h2, fun j o ho e he => ?_, fun j o hjn ho => ?_⟩
  · have h := h3 j (hj j o ho)
    rw [ho] at h
    simp only [Bool.and_eq_true] at h
    have := Array.all_eq_true'.1 h.1 e he
    simpa using this
  · have h := h3 j (hj j o ho)
    rw [ho] at h
    simp only [Bool.and_eq_true, Bool.or_eq_true, decide_eq_true_eq] at h
    rcases h.2 with h | h
    · omega
    · simpa using h

/-- What has come up of the region, and of its head. -/
structure Pair (n : Nat) (listed head : Array Bool) : Prop where
  size : head.size = n
  same : ∀ j, j < n → listed[j]? = head[j]?
  last : listed[n]? = some false
  over : listed.size = n + 1

theorem pop_at (hk : LastOk ops n) {j : Nat} (hj : j < n) : ops.pop[j]? = ops[j]? := by
  rw [Array.getElem?_pop]
  have := hk.size
  rw [if_pos (by omega)]
theorem pair_getD {listed head : Array Bool} (p : Pair n listed head) {j : Nat} (hj : j < n) (d : Bool) : listed.getD j d = head.getD j d := by
  rw [Array.getD_eq_getD_getElem?, Array.getD_eq_getD_getElem?, p.same j hj]
theorem pair_ready (hk : LastOk ops n) {listed head : Array Bool} (p : Pair n listed head) {j : Nat} (hj : j < n) : j ∈ Region.ready .any ops listed ↔ j ∈ Region.ready .any ops.pop head := by
  rw [mem_ready, mem_ready, pop_at hk hj, pair_getD p hj]
  constructor
  · rintro ⟨h0, o, ho, h⟩
    refine ⟨h0, o, ho, fun e he hb => ?_⟩
    rw [← pair_getD p (by have := hk.back j o ho e he; omega)]
    exact h e he hb
  · rintro ⟨h0, o, ho, h⟩
    refine ⟨h0, o, ho, fun e he hb => ?_⟩
    rw [pair_getD p (by have := hk.back j o ho e he; omega)]
    exact h e he hb
theorem Pair.set {listed head : Array Bool} (p : Pair n listed head) {i : Nat} (hi : i < n) : Pair n (listed.setIfInBounds i true) (head.setIfInBounds i true) := by
  have h1 := p.size
  have h2 := p.over
  refine ⟨by simp [h1], fun j hj => ?_, ?_, by simp [h2]⟩
  · by_cases hij : i = j
    · subst hij
      rw [Array.getElem?_setIfInBounds_self_of_lt (by omega), Array.getElem?_setIfInBounds_self_of_lt (by omega)]
    · rw [Array.getElem?_setIfInBounds_ne hij, Array.getElem?_setIfInBounds_ne hij, p.same j hj]
  · rw [Array.getElem?_setIfInBounds_ne (by omega), p.last]

/-- Nothing of the head may come up any more: all of it has. -/
theorem head_done (hk : LastOk ops n) {listed head : Array Bool} (p : Pair n listed head) (hr : Region.ready .any ops.pop head = []) : ∀ j, j < n → listed.getD j true = true := by
  intro j
  induction j using Nat.strongRecOn with
  | _ j ih =>
    intro hj
    cases hl : listed.getD j true with
    | true => rfl
    | false =>
      have hs := hk.size
      have ho : ops[j]? = some (ops[j]'(by omega)) := Array.getElem?_eq_getElem (by omega)
      have : j ∈ Region.ready .any ops listed := mem_ready.2 ⟨hl, _, ho, fun e he _ => by
        have hlt := hk.back j _ ho e he
        have h := ih e.on hlt (by omega)
        have h2 := p.over
        simp only [Array.getD, show e.on < listed.size by omega, dite_true] at h ⊢
        exact h⟩
      rw [pair_ready hk p hj, hr] at this
      cases this
theorem head_last (hk : LastOk ops n) {listed head : Array Bool} {a : Act} {w : World} (p : Pair n listed head) (hr : Region.ready .any ops.pop head = []) (h : postLast P ops Q n .normal a w) :
    ∀ g, wpAny P .any ops Q (g + 1) listed a w := by
  intro g
  have hall := head_done hk p hr
  have h1 := p.over
  have hs := hk.size
  have hrange : ∀ j, listed.getD j true = false → j = n := fun j hj => by
    rcases Nat.lt_trichotomy j n with hlt | heq | hgt
    · rw [hall j hlt] at hj; cases hj
    · exact heq
    · rw [Array.getD_eq_getD_getElem?, Array.getElem?_eq_none (by omega)] at hj; cases hj
  have hn : n ∈ Region.ready .any ops listed := by
    have ho : ops[n]? = some (ops[n]'(by omega)) := Array.getElem?_eq_getElem (by omega)
    refine mem_ready.2 ⟨by rw [Array.getD_eq_getD_getElem?, p.last]; rfl, _, ho, fun e he _ => ?_⟩
    have hlt := hk.back n _ ho e he
    have h := hall e.on hlt
    simp only [Array.getD, show e.on < listed.size by omega, dite_true] at h ⊢
    exact h
  refine ⟨fun h0 => (by rw [h0] at hn; cases hn), fun i hi => ?_⟩
  obtain rfl : i = n := hrange i (mem_ready.1 hi).1
  have hend : Region.ready .any ops (listed.setIfInBounds i true) = [] := by
    refine List.eq_nil_iff_forall_not_mem.2 fun j hj => ?_
    have h0 := (mem_ready.1 hj).1
    by_cases hij : i = j
    · subst hij
      rw [Array.getD_eq_getD_getElem?, Array.getElem?_setIfInBounds_self_of_lt (by omega)] at h0; cases h0
    · rw [getD_set_ne true hij] at h0
      exact hij (hrange j h0).symm
  refine wpOp_mono (fun a' w' hq => ?_) h
  cases g with
  | zero => exact ⟨hend, hq⟩
  | succ g => exact ⟨fun _ => hq, by rw [hend]; simp⟩

theorem head_step {i : Nat} {o : Oper} {a : Act} {w : World} (ho : ops[i]? = some o) (ho' : ops.pop[i]? = some o) (hg : o.guard = none) {K K' : Act → World → Prop} (hK : ∀ a w, K' a w → K a w)
    (h : wpOp P ops.pop (postLast P ops Q n) i K' a w) : wpOp P ops Q i K a w := by
  have hw : ∀ f, Region.wanted o f = true := fun f => by unfold Region.wanted; rw [hg]
  unfold wpOp at *
  rw [ho'] at h
  rw [ho]
  simp only [hw, if_true] at h ⊢
  refine h.imp (fun h => ?_) (fun h => ⟨h.1, let ⟨a, w, q⟩ := h.2; ⟨a, w, q⟩⟩)
  have h := Oper.wp_mono hK h
  unfold Oper.wp at *
  generalize (execOp a.eval o).run P w = r at *
  match r, h with
  | .ok (.enter f args) w', h =>
    exact Calls.mono h fun e w'' he => match e, he with
      | .returned _, he => he
      | .panicked _, he => he
      | .outgrown, ⟨a, w, q⟩ => ⟨a, w, q⟩
  | .ok (.value _) _, h => exact h
  | .ok .skip _, h => exact h
  | .ok (.defer _) _, h => exact h
  | .ok (.row _ _) _, h => exact h
  | .halt (.panic _) _, h => exact h

theorem wpAny_split (hk : LastOk ops n) : ∀ (f : Nat) (listed head : Array Bool) (a : Act) (w : World), Pair n listed head →
    wpAnyH P .any ops.pop (postLast P ops Q n) S f head a w → wpAny P .any ops Q (f + 1) listed a w
  | 0, _, _, _, _, p, h => head_last hk p h.1 h.2 0
  | f + 1, listed, head, a, w, p, h => by
    by_cases hr : Region.ready .any ops.pop head = []
    · exact head_last hk p hr (h.1 hr) (f + 1)
    · obtain ⟨j, hj⟩ := List.exists_mem_of_ne_nil _ hr
      have hs := hk.size
      have hjn : j < n := by
        obtain ⟨_, o, ho, _⟩ := mem_ready.1 hj
        have := (Array.getElem?_eq_some_iff.1 ho).1
        rw [Array.size_pop] at this
        omega
      have hj2 := (pair_ready hk p hjn).2 hj
      refine ⟨fun h0 => (by rw [h0] at hj2; cases hj2), fun i hi => ?_⟩
      obtain ⟨hun, o, ho, hall⟩ := mem_ready.1 hi
      have hlt := (Array.getElem?_eq_some_iff.1 ho).1
      have hin : i < n := by
        rcases Nat.lt_or_ge i n with hin | hge
        · exact hin
        · obtain rfl : i = n := by omega
          obtain ⟨o', ho', e, he, hb, hon⟩ := Region.waitsFor_spec (hk.waits j hjn)
          obtain rfl : o' = o := Option.some.inj (ho'.symm.trans ho)
          have h1 := hall e he hb
          rw [hon, getD_both (mem_ready.1 hj2).1] at h1
          cases h1
      exact head_step ho ((pop_at hk hin).trans ho) (hk.free i o hin ho) (fun a' w' hh => wpAny_split hk f _ _ a' w' (p.set hin) hh.2) (h.2 i ((pair_ready hk p hin).1 hi))

theorem wp_region_last {id : Nat} {a : Act} {w : World} (n : Nat) (hb : lastB ops n = true) (hm : P.follows .mixedOrders = true) (hS : S w.drew)
    (h : S w.drew → wpAnyH P .any ops.pop (postLast P ops Q n) S n (Array.replicate n false) a w.drew) : (Code.region id ops true).wp P Q a w := by
  have hk := lastB_ok hb
  refine wp_region_any hm ?_
  rw [hk.size]
  exact wpAny_split hk n _ _ a _ ⟨by simp, fun j hj => by simp [hj, Nat.lt_succ_of_lt hj], by simp, by simp⟩ (h hS)
end
end Go.Proofs.YthelgcikobhonaaDoor
