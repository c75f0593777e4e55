/- The state of a law on one slice: the argument a, the model's answer r, the copy x, the program's answer g. -/
import Derived.Test.YtnhobilmgefhnaaQb
namespace Go.Proofs.Ytnhobilmgefhnaa
open Go Go.RowKit

/-- A law has answered true; nothing old has turned. -/
def RetT (w : World) (e : Ending) (w' : World) : Prop := e = .returned (.bool true) ∧ Below w.heap.size w w'

theorem below_drewN {B : Nat} {a w : World} (h : Below B a w) (n : Nat) : Below B a (w.drewN n) := ⟨h.os, h.tape, h.output, h.size, h.block⟩
theorem own_drewN {w : World} {base : Nat} {v : Value} {xs : List Int} (h : OwnI w base v xs) (n : Nat) : OwnI (w.drewN n) base v xs := h

structure St (W : World) (s2 s3 : Nat) (a r x g : Value) (xs ys zs us : List Int) (w : World) : Prop where
  bel : Below W.heap.size W w
  A : Sl w W.heap.size a xs
  R : Sl w s2 r ys
  X : OwnI w s2 x zs
  xb : ∀ k, x.ownBlock = some k → k < s3
  G : OwnI w s3 g us
  l1 : W.heap.size ≤ s2
  l2 : s2 ≤ s3
  l3 : s3 ≤ w.heap.size

section
variable {W w w' : World} {s2 s3 : Nat} {a r x g : Value} {xs ys zs us : List Int}

/-- Once both have answered. -/
theorem St.start {w1 w2 w3 w4 : World} (hA : Sl W W.heap.size a xs) (b1 : Below W.heap.size W w1) (hR : OwnI w2 w1.heap.size r ys) (b2 : Below w1.heap.size w1 w2)
    (hX : OwnI w3 w2.heap.size x zs) (b3 : Below w2.heap.size w2 w3) (hG : OwnI w4 w3.heap.size g us) (b4 : Below w3.heap.size w3 w4) :
    St W w2.heap.size w3.heap.size a r x g xs ys zs us w4 := by
  have s1 := b1.size; have s2 := b2.size; have s3 := b3.size; have s4 := b4.size
  have bel : Below W.heap.size W w4 := ((b1.trans (b2.mono (by omega))).trans (b3.mono (by omega))).trans (b4.mono (by omega))
  exact ⟨bel, hA.below bel (Nat.le_refl _), (hR.sl.below b3 (Nat.le_refl _)).below b4 (by omega), own_below hX b4 (Nat.le_refl _), fun k hk => (own_row hX k hk).2, hG, by omega, s3, s4⟩
theorem St.below (h : St W s2 s3 a r x g xs ys zs us w) (hb : Below w.heap.size w w') : St W s2 s3 a r x g xs ys zs us w' := by
  have l1 := h.l1; have l2 := h.l2; have l3 := h.l3
  exact ⟨h.bel.trans (hb.mono (by omega)), h.A.below hb (by omega), h.R.below hb (by omega), own_below h.X hb (Nat.le_refl _), h.xb, own_below h.G hb (Nat.le_refl _), l1, l2, Nat.le_trans l3 hb.size⟩
theorem St.drewN (h : St W s2 s3 a r x g xs ys zs us w) (n : Nat) : St W s2 s3 a r x g xs ys zs us (w.drewN n) :=
  ⟨below_drewN h.bel n, h.A, h.R, h.X, h.xb, h.G, h.l1, h.l2, h.l3⟩
theorem St.markX {zs' : List Int} (h : St W s2 s3 a r x g xs ys zs us w) (hX : OwnI w' s2 x zs') (hg : w.grownBy w' x.ownBlock) : St W s2 s3 a r x g xs ys zs' us w' := by
  have l1 := h.l1; have l2 := h.l2; have l3 := h.l3; have sz := hg.size
  have hx : ∀ k, x.ownBlock = some k → s2 ≤ k := fun k hk => (own_row h.X k hk).1
  refine ⟨h.bel.grown hg (by omega) (fun k hk => by have := hx k hk; omega), h.A.kept hg (by omega) (fun k hk => by have := hx k hk; omega), h.R.kept hg (by omega) hx, hX, h.xb, h.G.kept hg ?_, l1, l2, by omega⟩
  rcases hgo : g.ownBlock with _ | k
  · exact .inl rfl
  · right
    intro e
    have h1 := (own_row h.G k hgo).1
    have h2 := h.xb k e.symm
    omega
theorem St.markG {us' : List Int} (h : St W s2 s3 a r x g xs ys zs us w) (hG : OwnI w' s3 g us') (hg : w.grownBy w' g.ownBlock) : St W s2 s3 a r x g xs ys zs us' w' := by
  have l1 := h.l1; have l2 := h.l2; have l3 := h.l3; have sz := hg.size
  have hx : ∀ k, g.ownBlock = some k → s3 ≤ k := fun k hk => (own_row h.G k hk).1
  refine ⟨h.bel.grown hg (by omega) (fun k hk => by have := hx k hk; omega), h.A.kept hg (by omega) (fun k hk => by have := hx k hk; omega), h.R.kept hg (by omega) (fun k hk => by have := hx k hk; omega), h.X.kept hg ?_, h.xb, hG, l1, l2, by omega⟩
  rcases hxo : x.ownBlock with _ | k
  · exact .inl rfl
  · right
    intro e
    have h1 := hx k e.symm
    have h2 := h.xb k hxo
    omega
theorem St.a_ (h : St W s2 s3 a r x g xs ys zs us w) : Sl w w.heap.size a xs := h.A.mono (by have := h.l1; have := h.l2; have := h.l3; omega)
theorem St.r_ (h : St W s2 s3 a r x g xs ys zs us w) : Sl w w.heap.size r ys := h.R.mono (by have := h.l2; have := h.l3; omega)
theorem St.x_ (h : St W s2 s3 a r x g xs ys zs us w) : Sl w w.heap.size x zs := h.X.sl
theorem St.g_ (h : St W s2 s3 a r x g xs ys zs us w) : Sl w w.heap.size g us := h.G.sl
end
end Go.Proofs.Ytnhobilmgefhnaa
