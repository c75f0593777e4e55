/- Slices of sector runs, cell for cell: what they read as, what they own; the laws' helpers on them. -/
import Derived.Test.YtnhobilmgefhnaaQp
import Derived.Deep.RegionHeld3
namespace Go.Proofs.Ytnhobilmgefhnaa
open Go Go.RowKit

/-- A run's value, cell for cell. -/
abbrev p3v (a b c : Int) : Value := .agg #[.int .i64 a, .int .i64 b, .int .i64 c]
/-- The slice v, of n runs, reads cell for cell as fs and lies below block hi. -/
def SlR (w : World) (hi : Nat) (v : Value) (n : Nat) (fs : List Int) : Prop :=
  fs.length = n * 3 ∧ ∃ (A : Option Addr) (c : Nat), v = .slice A n c ∧ n ≤ c ∧ (0 < n → ∃ b o, A = some ⟨b, o, none⟩ ∧ b < hi ∧ Cells w b o fs)
theorem SlR.below {w w' : World} {hi B n : Nat} {v : Value} {fs : List Int} (h : SlR w hi v n fs) (hb : Below B w w') (hB : hi ≤ B) : SlR w' hi v n fs := by
  obtain ⟨h0, A, c, h1, h2, h3⟩ := h
  refine ⟨h0, A, c, h1, h2, fun hn => ?_⟩
  obtain ⟨b, o, e, hlt, hc⟩ := h3 hn
  exact ⟨b, o, e, hlt, fun k hk => (hb.cell (p := ⟨b, o + k, none⟩) (by show b < B; omega)).trans (hc k hk)⟩
theorem SlR.mono {w : World} {hi hi' n : Nat} {v : Value} {fs : List Int} (h : SlR w hi v n fs) (hB : hi ≤ hi') : SlR w hi' v n fs := by
  obtain ⟨h0, A, c, h1, h2, h3⟩ := h
  refine ⟨h0, A, c, h1, h2, fun hn => ?_⟩
  obtain ⟨b, o, e, hlt, hc⟩ := h3 hn
  exact ⟨b, o, e, by omega, hc⟩
theorem SlR.kept {w w' : World} {row : Option Nat} {hi n : Nat} {v : Value} {fs : List Int} (h : SlR w hi v n fs) (hg : w.grownBy w' row) (hh : hi ≤ w.heap.size) (hr : ∀ k, row = some k → hi ≤ k) : SlR w' hi v n fs := by
  obtain ⟨h0, A, c, h1, h2, h3⟩ := h
  refine ⟨h0, A, c, h1, h2, fun hn => ?_⟩
  obtain ⟨b, o, e, hlt, hc⟩ := h3 hn
  exact ⟨b, o, e, hlt, fun k hk => (World.cell?_of_block (hg.block b (by omega) (fun e => by have := hr _ e.symm; omega))).trans (hc k hk)⟩
/-- The slice v owns n runs, cell for cell fs, in a block from base on. -/
abbrev OwnR (w : World) (base : Nat) (v : Value) (n : Nat) (fs : List Int) : Prop := w.ownsRow base 41 3 v n (fs.map (Value.int .i64))
theorem OwnR.len {w : World} {base n : Nat} {v : Value} {fs : List Int} (h : OwnR w base v n fs) : fs.length = n * 3 := by have := h.1; simpa using this
theorem OwnR.sl {w : World} {base n : Nat} {v : Value} {fs : List Int} (h : OwnR w base v n fs) : SlR w w.heap.size v n fs := by
  refine ⟨OwnR.len h, ?_⟩
  have hl := OwnR.len h
  rcases h.2 with ⟨rfl, h0⟩ | ⟨g, cap, cur, rfl, hb, hg, hn, hm, hs, ht⟩
  · exact ⟨none, 0, by rw [h0], by omega, fun h => by omega⟩
  · refine ⟨some ⟨g, 0, none⟩, cap, rfl, hn, fun _ => ⟨g, 0, rfl, (Array.getElem?_eq_some_iff.1 hg).1, fun k hk => ?_⟩⟩
    have := h.cells (g := g) rfl k (.int .i64 (nth fs k)) (by rw [List.getElem?_map, List.getElem?_eq_getElem hk, nth_of hk]; rfl)
    rw [Nat.zero_add]
    have hadd : (⟨g, 0, none⟩ : Addr).add k = ⟨g, k, none⟩ := by unfold Addr.add; split <;> simp_all
    rw [hadd] at this
    exact this
theorem ownR_cell {w1 : World} {g n c base : Nat} {fs : List Int} (h : OwnR w1 base (.slice (some ⟨g, 0, none⟩) n c) n fs) {k : Nat} (hk : k < n * 3) : w1.cell? ⟨g, k, none⟩ = some (.int .i64 (nth fs k)) := by
  have hl := OwnR.len h
  rw [h.cellAt k (by omega), List.getElem?_map, List.getElem?_eq_getElem (by omega), nth_of (by omega)]; rfl
theorem three {w : World} {b o n k : Nat} {fs : List Int} (h : Cells w b o fs) (hl : fs.length = n * 3) (hk : k < n) :
    w.cell? ⟨b, o + k * 3, none⟩ = some (.int .i64 (nth fs (k * 3))) ∧ w.cell? ⟨b, o + k * 3 + 1, none⟩ = some (.int .i64 (nth fs (k * 3 + 1))) ∧ w.cell? ⟨b, o + k * 3 + 2, none⟩ = some (.int .i64 (nth fs (k * 3 + 2))) :=
  ⟨h (k * 3) (by omega), h (k * 3 + 1) (by omega), h (k * 3 + 2) (by omega)⟩
theorem cellsR_below {w w' : World} {b o B : Nat} {fs : List Int} (h : Cells w b o fs) (hb : Below B w w') (hB : b < B) : Cells w' b o fs := fun k hk => (hb.cell (p := ⟨b, o + k, none⟩) hB).trans (h k hk)

theorem markR1 {w1 : World} {g n c base j : Nat} {m x : Int} {fs : List Int} (hl : fs.length = n * 3) (hj : j < n * 3) (hx : x = m + (j : Int)) (h : OwnR w1 base (.slice (some ⟨g, 0, none⟩) n c) n (marked m fs j)) :
    OwnR (w1.setCell ⟨g, j, none⟩ (.int .i64 x)) base (.slice (some ⟨g, 0, none⟩) n c) n (marked m fs (j + 1)) ∧ w1.grownBy (w1.setCell ⟨g, j, none⟩ (.int .i64 x)) (some g) := by
  subst hx
  have := h.stored j (.int .i64 (m + (j : Int)))
  rw [← List.map_set, marked_set (by omega)] at this
  exact this
theorem markR3 {w1 : World} {g n c base k : Nat} {m : Int} {fs : List Int} (hl : fs.length = n * 3) (hk : k < n) (hm : m = 1 + 3 * (k : Int)) (h : OwnR w1 base (.slice (some ⟨g, 0, none⟩) n c) n (marked 1 fs (k * 3))) :
    OwnR (((w1.setCell ⟨g, k * 3, none⟩ (.int .i64 m)).setCell ⟨g, k * 3 + 1, none⟩ (.int .i64 (m + 1))).setCell ⟨g, k * 3 + 2, none⟩ (.int .i64 (m + 1 + 1))) base (.slice (some ⟨g, 0, none⟩) n c) n (marked 1 fs ((k + 1) * 3)) ∧
    w1.grownBy (((w1.setCell ⟨g, k * 3, none⟩ (.int .i64 m)).setCell ⟨g, k * 3 + 1, none⟩ (.int .i64 (m + 1))).setCell ⟨g, k * 3 + 2, none⟩ (.int .i64 (m + 1 + 1))) (some g) := by
  have a0 := markR1 (x := m) hl (by omega) (by push_cast; omega) h
  have a1 := markR1 (x := m + 1) hl (by omega) (by push_cast; omega) a0.1
  have a2 := markR1 (x := m + 1 + 1) hl (by omega) (by push_cast; omega) a1.1
  rw [show (k + 1) * 3 = k * 3 + 1 + 1 + 1 by omega]
  exact ⟨a2.1, grownBy_trans a0.2 (grownBy_trans a1.2 a2.2)⟩

/-- Marks are laid: nothing but the row has turned. -/
def RetMR (v : Value) (base n : Nat) (w : World) (e : Ending) (w' : World) : Prop := e = .returned (.int .i64 (1 + ((n * 3 : Nat) : Int))) ∧ OwnR w' base v n (marks 1 (n * 3)) ∧ w.grownBy w' v.ownBlock

/-- The state of a law on one slice of integers that answers with runs. -/
structure StR (W : World) (s2 s3 : Nat) (a r x g : Value) (xs zs : List Int) (n : Nat) (fs us : List Int) (w : World) : Prop where
  bel : Below W.heap.size W w
  A : Sl w W.heap.size a xs
  R : SlR w s2 r n fs
  X : OwnI w s2 x zs
  xb : ∀ k, x.ownBlock = some k → k < s3
  G : OwnR w s3 g n us
  l1 : W.heap.size ≤ s2
  l2 : s2 ≤ s3
  l3 : s3 ≤ w.heap.size
section
variable {W w w' : World} {s2 s3 n : Nat} {a r x g : Value} {xs zs fs us : List Int}
theorem StR.start {w1 w2 w3 w4 : World} (hA : Sl W W.heap.size a xs) (b1 : Below W.heap.size W w1) (hR : OwnR w2 w1.heap.size r n fs) (b2 : Below w1.heap.size w1 w2)
    (hX : OwnI w3 w2.heap.size x zs) (b3 : Below w2.heap.size w2 w3) (hG : OwnR w4 w3.heap.size g n us) (b4 : Below w3.heap.size w3 w4) :
    StR W w2.heap.size w3.heap.size a r x g xs zs n fs us w4 := by
  have s1 := b1.size; have s2 := b2.size; have s3 := b3.size; have s4 := b4.size
  have bel : Below W.heap.size W w4 := ((b1.trans (b2.mono (by omega))).trans (b3.mono (by omega))).trans (b4.mono (by omega))
  exact ⟨bel, hA.below bel (Nat.le_refl _), ((OwnR.sl hR).below b3 (Nat.le_refl _)).below b4 (by omega), own_below hX b4 (Nat.le_refl _), fun k hk => (own_row hX k hk).2, hG, by omega, s3, s4⟩
theorem StR.below (h : StR W s2 s3 a r x g xs zs n fs us w) (hb : Below w.heap.size w w') : StR W s2 s3 a r x g xs zs n fs us w' := by
  have l1 := h.l1; have l2 := h.l2; have l3 := h.l3
  exact ⟨h.bel.trans (hb.mono (by omega)), h.A.below hb (by omega), h.R.below hb (by omega), own_below h.X hb (Nat.le_refl _), h.xb, own_below h.G hb (Nat.le_refl _), l1, l2, Nat.le_trans l3 hb.size⟩
theorem StR.drewN (h : StR W s2 s3 a r x g xs zs n fs us w) (k : Nat) : StR W s2 s3 a r x g xs zs n fs us (w.drewN k) :=
  ⟨below_drewN h.bel k, h.A, h.R, h.X, h.xb, h.G, h.l1, h.l2, h.l3⟩
theorem StR.markX {zs' : List Int} (h : StR W s2 s3 a r x g xs zs n fs us w) (hX : OwnI w' s2 x zs') (hg : w.grownBy w' x.ownBlock) : StR W s2 s3 a r x g xs zs' n fs us w' := by
  have l1 := h.l1; have l2 := h.l2; have l3 := h.l3; have sz := hg.size
  have hx : ∀ k, x.ownBlock = some k → s2 ≤ k := fun k hk => (own_row h.X k hk).1
  refine ⟨h.bel.grown hg (by omega) (fun k hk => by have := hx k hk; omega), h.A.kept hg (by omega) (fun k hk => by have := hx k hk; omega), h.R.kept hg (by omega) hx, hX, h.xb, h.G.kept hg ?_, l1, l2, by omega⟩
  rcases hgo : g.ownBlock with _ | k
  · rcases h.G.2 with ⟨rfl, _⟩ | ⟨g', cap, cur, rfl, _⟩
    · exact .inl rfl
    · simp [Value.ownBlock] at hgo
  · right
    intro e
    have h1 := (own_row h.G k hgo).1
    have h2 := h.xb k (by rw [← e])
    omega
theorem StR.markG {us' : List Int} (h : StR W s2 s3 a r x g xs zs n fs us w) (hG : OwnR w' s3 g n us') (hg : w.grownBy w' g.ownBlock) : StR W s2 s3 a r x g xs zs n fs us' w' := by
  have l1 := h.l1; have l2 := h.l2; have l3 := h.l3; have sz := hg.size
  have hx : ∀ k, g.ownBlock = some k → s3 ≤ k := fun k hk => (own_row h.G k hk).1
  refine ⟨h.bel.grown hg (by omega) (fun k hk => by have := hx k hk; omega), h.A.kept hg (by omega) (fun k hk => by have := hx k hk; omega), h.R.kept hg (by omega) (fun k hk => by have := hx k hk; omega), h.X.kept hg ?_, h.xb, hG, l1, l2, by omega⟩
  rcases hxo : x.ownBlock with _ | k
  · rcases h.X.2 with ⟨rfl, _⟩ | ⟨g', cap, cur, rfl, _⟩
    · exact .inl rfl
    · simp [Value.ownBlock] at hxo
  · right
    intro e
    have h1 := hx k (by rw [← e])
    have h2 := h.xb k hxo
    omega
theorem StR.a_ (h : StR W s2 s3 a r x g xs zs n fs us w) : Sl w w.heap.size a xs := h.A.mono (by have := h.l1; have := h.l2; have := h.l3; omega)
theorem StR.r_ (h : StR W s2 s3 a r x g xs zs n fs us w) : SlR w w.heap.size r n fs := h.R.mono (by have := h.l2; have := h.l3; omega)
theorem StR.x_ (h : StR W s2 s3 a r x g xs zs n fs us w) : Sl w w.heap.size x zs := h.X.sl
theorem StR.g_ (h : StR W s2 s3 a r x g xs zs n fs us w) : SlR w w.heap.size g n us := OwnR.sl h.G
end
end Go.Proofs.Ytnhobilmgefhnaa
