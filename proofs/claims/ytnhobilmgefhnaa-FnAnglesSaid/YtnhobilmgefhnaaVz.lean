/- FnAngles' memory: two new lists, and those that have come. -/
import Derived.Test.YtnhobilmgefhnaaVx
import Derived.Test.YtnhobilmgefhnaaVy
import Derived.Maps.AppendAt
namespace Go.Proofs.Ytnhobilmgefhnaa
open Go Go.RowKit

/-- The i-th of the two lists of round k; all that have come within it. -/
def itm (xs : List Int) (k d : Nat) : List Int := if d = 0 then rot xs k else rot xs.reverse k
noncomputable def mid (xs : List Int) (k : Nat) : Nat → List (List Int)
  | 0 => uni xs k
  | d + 1 => ins (mid xs k d) (itm xs k d)
theorem mid_two (xs : List Int) (k : Nat) : mid xs k 2 = uni xs (k + 1) := rfl
theorem ins_len (all : List (List Int)) (x : List Int) : (ins all x).length ≤ all.length + 1 := by
  by_cases h : x ∈ all
  · rw [ins_old h]; omega
  · rw [ins_new h]; simp
theorem uni_len (xs : List Int) (k : Nat) : (uni xs k).length ≤ 2 * k := by
  induction k with
  | zero => simp [uni]
  | succ k ih =>
    have h1 := ins_len (uni xs k) (rot xs k)
    have h2 := ins_len (ins (uni xs k) (rot xs k)) (rot xs.reverse k)
    simp only [uni]
    omega
theorem mid_len (xs : List Int) (k d : Nat) : (mid xs k d).length ≤ 2 * k + d := by
  induction d with
  | zero => exact uni_len xs k
  | succ d ih =>
    have := ins_len (mid xs k d) (itm xs k d)
    simp only [mid]
    omega
theorem itm_orb {xs : List Int} {n k d : Nat} (hk : k < n) : Orb n xs (itm xs k d) := by
  unfold itm; split
  · exact ⟨k, hk, .inl rfl⟩
  · exact ⟨k, hk, .inr rfl⟩
theorem mid_orb {xs : List Int} {n k : Nat} (hk : k < n) : ∀ (d : Nat) {x : List Int}, x ∈ mid xs k d → Orb n xs x := by
  intro d
  induction d with
  | zero =>
    intro x hx
    obtain ⟨j, hj, h⟩ := uni_mem.1 hx
    exact ⟨j, by omega, h⟩
  | succ d ih =>
    intro x hx
    rcases ins_mem.1 hx with h | rfl
    · exact ih h
    · exact itm_orb hk

structure FaS (n₀ : Nat) (w4 W : World) (T : Nat) (u1 u2 av : Value) (x1 x2 : List Int) (ls : List (List Int)) : Prop where
  bel : Below n₀ w4 W
  lst : Ls W n₀ av ls
  o1 : OwnI W n₀ u1 x1
  o2 : OwnI W n₀ u2 x2
  c1 : W.cell? ⟨T, 0, none⟩ = some u1
  c2 : W.cell? ⟨T, 1, none⟩ = some u2
  t : T < W.heap.size
  ne : av.ownBlock ≠ some T
  sz : n₀ ≤ W.heap.size
theorem FaS.fresh {n₀ : Nat} {w4 W W' : World} {T : Nat} {u1 u2 av : Value} {x1 x2 : List Int} {ls : List (List Int)} (h : FaS n₀ w4 W T u1 u2 av x1 x2 ls) (hf : Below W.heap.size W W') : FaS n₀ w4 W' T u1 u2 av x1 x2 ls := by
  have hn : ∀ r, (none : Option Nat) = some r → ∃ o : Obj, W.heap[r]? = some o ∧ o.isCells = false := fun r e => by cases e
  exact ⟨h.bel.trans (hf.mono h.sz), h.lst.from (fresh_grown hf) hn, ownV_from h.o1 (fresh_grown hf) hn, ownV_from h.o2 (fresh_grown hf) hn, (hf.cell (p := ⟨T, 0, none⟩) h.t).trans h.c1, (hf.cell (p := ⟨T, 1, none⟩) h.t).trans h.c2, Nat.lt_of_lt_of_le h.t hf.size, h.ne, Nat.le_trans h.sz hf.size⟩
theorem FaS.drewN {n₀ : Nat} {w4 W : World} {T : Nat} {u1 u2 av : Value} {x1 x2 : List Int} {ls : List (List Int)} (h : FaS n₀ w4 W T u1 u2 av x1 x2 ls) (m : Nat) : FaS n₀ w4 (W.drewN m) T u1 u2 av x1 x2 ls := h.fresh (below_drewN (Below.refl _ _) m)
theorem FaS.drewE {n₀ : Nat} {w4 W W' : World} {T : Nat} {u1 u2 av : Value} {x1 x2 : List Int} {ls : List (List Int)} (h : FaS n₀ w4 W T u1 u2 av x1 x2 ls) (hm : ∃ m, W' = W.drewN m) : FaS n₀ w4 W' T u1 u2 av x1 x2 ls := by
  obtain ⟨m, rfl⟩ := hm
  exact h.drewN m
theorem FaS.append {n₀ : Nat} {w4 W w1 : World} {T : Nat} {u1 u2 av v v' : Value} {x1 x2 x : List Int} {ls : List (List Int)} {vs : List Value} (h : FaS n₀ w4 W T u1 u2 av x1 x2 ls) (hv : OwnI W n₀ v x)
    (hrow : W.ownsRow n₀ 24 1 av ls.length vs) (hat : ∀ i (h : i < ls.length), ∃ u, vs[i]? = some u ∧ OwnI W n₀ u ls[i])
    (hown' : w1.ownsRow n₀ 24 1 v' (ls.length + 1) (vs ++ [v])) (hgrow : (W.alloc (.cells #[v] 24)).grownBy w1 av.ownBlock) (hnb : v'.ownBlock = av.ownBlock ∨ v'.ownBlock = some (W.alloc (.cells #[v] 24)).heap.size) :
    FaS n₀ w4 w1 T u1 u2 v' x1 x2 (ls ++ [x]) := by
  have hgz := hgrow.size
  simp only [World.size_alloc] at hgz
  have hints : ∀ (u : Value) (ys : List Int), OwnI W n₀ u ys → OwnI w1 n₀ u ys := fun u ys ho => by
    have ha : (W.alloc (.cells #[v] 24)).ownsRow n₀ 2 1 u ys.length (ys.map (Value.int .i64)) := ho.alloc _
    exact ha.kept hgrow (by
      rcases rows_apart ho hrow (by decide) with h | h
      · rcases ho.2 with ⟨rfl, _⟩ | ⟨g, cap, cur, rfl, _⟩
        · exact .inl rfl
        · simp [Value.ownBlock] at h
      · exact .inr h)
  have hT : w1.heap[T]? = W.heap[T]? := (hgrow.block T (by simp; have := h.t; omega) h.ne.symm).trans (Below.heap_alloc _ _ _ h.t)
  have hlen : vs.length = ls.length := by have := hrow.1; omega
  refine ⟨(h.bel.alloc h.sz _).grown hgrow (by simp; have := h.sz; omega) (fun k e => (own_row hrow k e).1), ⟨vs ++ [v], by rw [List.length_append]; exact hown', fun i hi => ?_⟩, hints _ _ h.o1, hints _ _ h.o2, (World.cell?_of_block (a := ⟨T, 0, none⟩) hT).trans h.c1, (World.cell?_of_block (a := ⟨T, 1, none⟩) hT).trans h.c2, by have := h.t; omega, ?_, by have := h.sz; omega⟩
  · rcases Nat.lt_or_ge i ls.length with hlt | hge
    · obtain ⟨u, hu, ho⟩ := hat i hlt
      refine ⟨u, by rw [List.getElem?_append_left (by omega)]; exact hu, ?_⟩
      rw [List.getElem_append_left hlt]
      exact hints u _ ho
    · have hie : i = ls.length := by rw [List.length_append, show [x].length = 1 from rfl] at hi; omega
      subst hie
      refine ⟨v, by rw [List.getElem?_append_right (by omega), hlen]; simp, ?_⟩
      rw [List.getElem_append_right (Nat.le_refl _)]
      simp only [Nat.sub_self, List.getElem_cons_zero]
      exact hints v _ hv
  · rcases hnb with e | e
    · rw [e]; exact h.ne
    · rw [e]
      intro e2
      have := h.t
      simp at e2
      omega
/-- Of the slice of lists, that it does not lie in a block to come. -/
theorem ls_below {W : World} {n₀ T : Nat} {av : Value} {ls : List (List Int)} (h : Ls W n₀ av ls) (hT : W.heap.size ≤ T) : av.ownBlock ≠ some T := by
  obtain ⟨vs, hrow, _⟩ := h
  rcases hrow.2 with ⟨rfl, _⟩ | ⟨g, cap, cur, rfl, _, hg, _⟩
  · simp [Value.ownBlock]
  · have := (Array.getElem?_eq_some_iff.1 hg).1
    simp [Value.ownBlock]
    omega
end Go.Proofs.Ytnhobilmgefhnaa
