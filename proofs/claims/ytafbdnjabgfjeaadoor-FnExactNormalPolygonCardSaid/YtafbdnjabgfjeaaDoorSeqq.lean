/- SamePolygon: both sides; the walk of its law. -/
import Derived.Test.YtafbdnjabgfjeaaDoorProg
import Derived.WalkKit
import Derived.WalkSpells
import Derived.WalkLawsBesides
import Derived.Below
import Derived.OwnWalk
import Derived.Laws.OwnMore
import Derived.Lib.Hide
import Derived.Deep.Light
import Derived.Deep.QuietTactic
import Derived.BigQuiet
import Derived.Deep.LoopGhost
import Derived.Outline
import Derived.Deep.RegionWith
import Derived.Maps.AppendAt
import Derived.Deep.RegionHeld3
import Derived.RegionTactic
import Derived.Lib.SliceRun
section
namespace Go.Proofs.YtafbdnjabgfjeaaDoor
open Go Go.RowKit

def I64 (x : Int) : Prop := -9223372036854775808 ≤ x ∧ x ≤ 9223372036854775807
/-- The element k (0 behind the end), under a name that the walk leaves alone. -/
def nth (xs : List Int) (k : Nat) : Int := xs.getD k 0
theorem nth_of {xs : List Int} {k : Nat} (h : k < xs.length) : nth xs k = xs[k] := by simp [nth, List.getD, h]
theorem take_snoc {xs : List Int} {k : Nat} (h : k < xs.length) : xs.take (k + 1) = xs.take k ++ [nth xs k] := by
  rw [List.take_succ_eq_append_getElem h, nth_of h]

/-- The cells of block b from o on hold xs. -/
def Cells (w : World) (b o : Nat) (xs : List Int) : Prop := ∀ k, k < xs.length → w.cell? ⟨b, o + k, none⟩ = some (.int .i64 (nth xs k))
/-- The slice v reads as xs and lies below block hi. -/
def Sl (w : World) (hi : Nat) (v : Value) (xs : List Int) : Prop :=
  ∃ (A : Option Addr) (c : Nat), v = .slice A xs.length c ∧ xs.length ≤ c ∧ (0 < xs.length → ∃ b o, A = some ⟨b, o, none⟩ ∧ b < hi ∧ Cells w b o xs)

theorem Sl.below {w w' : World} {hi B : Nat} {v : Value} {xs : List Int} (h : Sl w hi v xs) (hb : Below B w w') (hB : hi ≤ B) : Sl w' hi v xs := by
  obtain ⟨A, c, h1, h2, h3⟩ := h
  refine ⟨A, c, h1, h2, fun h0 => ?_⟩
  obtain ⟨b, o, e, hlt, hc⟩ := h3 h0
  exact ⟨b, o, e, hlt, fun k hk => (hb.cell (p := ⟨b, o + k, none⟩) (by show b < B; omega)).trans (hc k hk)⟩
theorem Sl.mono {w : World} {hi hi' : Nat} {v : Value} {xs : List Int} (h : Sl w hi v xs) (hB : hi ≤ hi') : Sl w hi' v xs := by
  obtain ⟨A, c, h1, h2, h3⟩ := h
  refine ⟨A, c, h1, h2, fun h0 => ?_⟩
  obtain ⟨b, o, e, hlt, hc⟩ := h3 h0
  exact ⟨b, o, e, by omega, hc⟩
theorem Sl.drewN {w : World} {hi : Nat} {v : Value} {xs : List Int} (h : Sl w hi v xs) (n : Nat) : Sl (w.drewN n) hi v xs := h
theorem Sl.kept {w w' : World} {row : Option Nat} {hi : Nat} {v : Value} {xs : List Int} (h : Sl w hi v xs) (hg : w.grownBy w' row) (hh : hi ≤ w.heap.size) (hr : ∀ k, row = some k → hi ≤ k) : Sl w' hi v xs := by
  obtain ⟨A, c, h1, h2, h3⟩ := h
  refine ⟨A, c, h1, h2, fun h0 => ?_⟩
  obtain ⟨b, o, e, hlt, hc⟩ := h3 h0
  exact ⟨b, o, e, hlt, fun k hk => (World.cell?_of_block (hg.block b (by omega) (fun e => by have := hr _ e.symm; omega))).trans (hc k hk)⟩

/-- The slice v owns the integers xs, in a block from base on; nil owns none. -/
abbrev OwnI (w : World) (base : Nat) (v : Value) (xs : List Int) : Prop := w.ownsRow base 2 1 v xs.length (xs.map (Value.int .i64))

theorem OwnI.sl {w : World} {base : Nat} {v : Value} {xs : List Int} (h : OwnI w base v xs) : Sl w w.heap.size v xs := by
  rcases h.2 with ⟨rfl, h0⟩ | ⟨g, cap, cur, rfl, hb, hg, hn, hm, hs, ht⟩
  · exact ⟨none, 0, by rw [h0], by omega, fun h => by omega⟩
  · refine ⟨some ⟨g, 0, none⟩, cap, rfl, hn, fun _ => ⟨g, 0, rfl, (Array.getElem?_eq_some_iff.1 hg).1, fun k hk => ?_⟩⟩
    have := h.cells (g := g) rfl k (.int .i64 (nth xs k)) (by rw [List.getElem?_map, List.getElem?_eq_getElem hk, nth_of hk]; rfl)
    rw [Nat.zero_add]
    have hadd : (⟨g, 0, none⟩ : Addr).add k = ⟨g, k, none⟩ := by unfold Addr.add; split <;> simp_all
    rw [hadd] at this
    exact this

/-- Where an owned row lies. -/
theorem own_row {w : World} {base : Nat} {e : TypeId} {size : Nat} {v : Value} {n : Nat} {xs : List Value} (h : w.ownsRow base e size v n xs) : ∀ k, v.ownBlock = some k → base ≤ k ∧ k < w.heap.size := h.lt

/-- What is owned below B stays owned. -/
theorem own_below {w w' : World} {base B : Nat} {e : TypeId} {size : Nat} {v : Value} {n : Nat} {xs : List Value} (h : w.ownsRow base e size v n xs) (hb : Below B w w') (hB : w.heap.size ≤ B) : w'.ownsRow base e size v n xs := by
  refine ⟨h.1, ?_⟩
  rcases h.2 with hn | ⟨g, cap, cur, rfl, hb', hg, rest⟩
  · exact .inl hn
  · refine .inr ⟨g, cap, cur, rfl, hb', ?_, rest⟩
    rw [hb.block g (by have := (Array.getElem?_eq_some_iff.1 hg).1; omega)]
    exact hg

/-- The whole world but one row. -/
theorem grown_below {w w' : World} {row : Option Nat} {B : Nat} (hg : w.grownBy w' row) (hB : B ≤ w.heap.size) (hr : ∀ k, row = some k → B ≤ k) : Below B w w' :=
  (Below.refl B w).grown hg hB hr

theorem grownBy_refl (w : World) (row : Option Nat) : w.grownBy w row := ⟨rfl, rfl, rfl, Nat.le_refl _, fun _ _ _ => rfl⟩
theorem grownBy_trans {a b c : World} {row : Option Nat} (h : a.grownBy b row) (k : b.grownBy c row) : a.grownBy c row :=
  ⟨k.os.trans h.os, k.tape.trans h.tape, k.output.trans h.output, Nat.le_trans h.size k.size, fun i hi hn => (k.block i (Nat.lt_of_lt_of_le hi h.size) hn).trans (h.block i hi hn)⟩

/-- xs as far as k, zeros behind: a copy under way. -/
def part (xs : List Int) (k : Nat) : List Int := xs.take k ++ List.replicate (xs.length - k) 0
theorem part_zero (xs : List Int) : part xs 0 = List.replicate xs.length 0 := by simp [part]
theorem part_all (xs : List Int) : part xs xs.length = xs := by simp [part]
theorem part_set {xs : List Int} {k : Nat} (h : k < xs.length) : (part xs k).set k (nth xs k) = part xs (k + 1) := by
  unfold part
  rw [take_snoc h, List.set_append_right _ _ (by simp; omega)]
  simp only [List.length_take, Nat.min_eq_left (Nat.le_of_lt h), Nat.sub_self, List.append_assoc, List.singleton_append]
  rw [show xs.length - k = (xs.length - (k + 1)) + 1 by omega, List.replicate_succ, List.set_cons_zero]

/-- k, k + 1, .. -/
def marks (m : Int) (n : Nat) : List Int := (List.range n).map fun (j : Nat) => m + (j : Int)
theorem marks_len (m : Int) (n : Nat) : (marks m n).length = n := by simp [marks]
theorem marks_nth {m : Int} {n k : Nat} (h : k < n) : nth (marks m n) k = m + k := by
  rw [nth_of (by rw [marks_len]; exact h)]; simp [marks]
/-- The first k marked. -/
def marked (m : Int) (xs : List Int) (k : Nat) : List Int := marks m k ++ xs.drop k
theorem marked_zero (m : Int) (xs : List Int) : marked m xs 0 = xs := by simp [marked, marks]
theorem marked_all (m : Int) (xs : List Int) : marked m xs xs.length = marks m xs.length := by simp [marked]
theorem marks_succ (m : Int) (k : Nat) : marks m (k + 1) = marks m k ++ [m + k] := by simp [marks, List.range_succ]
theorem marked_set {m : Int} {xs : List Int} {k : Nat} (h : k < xs.length) : (marked m xs k).set k (m + k) = marked m xs (k + 1) := by
  unfold marked
  rw [List.set_append_right _ _ (by rw [marks_len]; omega), marks_len, Nat.sub_self, List.drop_eq_getElem_cons h, List.set_cons_zero, marks_succ, List.append_assoc]
  rfl
end Go.Proofs.YtafbdnjabgfjeaaDoor
end
section
namespace Go.Proofs.YtafbdnjabgfjeaaDoor
open Go Go.RowKit

theorem infoI64 : (Tryd.prog.info? 2).map (fun i => (i.zero, i.size, i.bytes)) = some (some (.int .i64 0), 1, 8) := by kernel_rfl
theorem zeros_made (n : Nat) : (madeCells #[Value.int .i64 0] (n * 1)).toList = (List.replicate n (0 : Int)).map (Value.int .i64) := by
  rw [Nat.mul_one]
  apply List.ext_getElem
  · simp [madeCells]
  · intro k h1 h2
    simp [madeCells, Nat.mod_one]

/-- A slice of the call's own that reads as xs, nothing old turned. -/
def RetO (xs : List Int) (w : World) (e : Ending) (w' : World) : Prop := ∃ v, e = .returned v ∧ OwnI w' w.heap.size v xs ∧ Below w.heap.size w w'

theorem own_cell {w1 : World} {g n c base : Nat} {ys : List Int} (hn : ys.length = n) (h : OwnI w1 base (.slice (some ⟨g, 0, none⟩) n c) ys) {k : Nat} (hk : k < n) :
    w1.cell? ⟨g, k, none⟩ = some (.int .i64 (nth ys k)) := by
  subst hn
  rw [h.cellAt k (by omega), List.getElem?_map, List.getElem?_eq_getElem hk, nth_of hk]; rfl
theorem own_free {w1 : World} {g n c base : Nat} {ys : List Int} (hn : ys.length = n) (h : OwnI w1 base (.slice (some ⟨g, 0, none⟩) n c) ys) (k : Nat) :
    w1.frozen? ⟨g, k, none⟩ = false := by
  subst hn
  exact h.frozenAt k

/-- The world has drawn, no more. -/
def RetQ (v : Value) (w : World) (e : Ending) (w' : World) : Prop := e = .returned v ∧ ∃ n, w' = w.drewN n

end Go.Proofs.YtafbdnjabgfjeaaDoor
end
section
namespace Go.Proofs.YtafbdnjabgfjeaaDoor
open Go Go.RowKit

def RetV (v : Value) (w : World) (e : Ending) (w' : World) : Prop := e = .returned v ∧ w = w'
end Go.Proofs.YtafbdnjabgfjeaaDoor
end
section
namespace Go.Proofs.YtafbdnjabgfjeaaDoor
open Go Go.RowKit

theorem below_drewN {B : Nat} {a w : World} (h : Below B a w) (n : Nat) : Below B a (w.drewN n) := ⟨h.os, h.tape, h.output, h.size, h.block⟩
structure St (W : World) (s2 s3 : Nat) (a r x g : Value) (xs ys zs us : List Int) (w : World) : Prop where
  bel : Below W.heap.size W w
  A : Sl w W.heap.size a xs
  R : Sl w s2 r ys
  X : OwnI w s2 x zs
  xb : ∀ k, x.ownBlock = some k → k < s3
  G : OwnI w s3 g us
  l1 : W.heap.size ≤ s2
  l2 : s2 ≤ s3
  l3 : s3 ≤ w.heap.size

section
variable {W w w' : World} {s2 s3 : Nat} {a r x g : Value} {xs ys zs us : List Int}

/-- Once both have answered. -/
theorem St.start {w1 w2 w3 w4 : World} (hA : Sl W W.heap.size a xs) (b1 : Below W.heap.size W w1) (hR : OwnI w2 w1.heap.size r ys) (b2 : Below w1.heap.size w1 w2)
    (hX : OwnI w3 w2.heap.size x zs) (b3 : Below w2.heap.size w2 w3) (hG : OwnI w4 w3.heap.size g us) (b4 : Below w3.heap.size w3 w4) :
    St W w2.heap.size w3.heap.size a r x g xs ys zs us w4 := by
  have s1 := b1.size; have s2 := b2.size; have s3 := b3.size; have s4 := b4.size
  have bel : Below W.heap.size W w4 := ((b1.trans (b2.mono (by omega))).trans (b3.mono (by omega))).trans (b4.mono (by omega))
  exact ⟨bel, hA.below bel (Nat.le_refl _), (hR.sl.below b3 (Nat.le_refl _)).below b4 (by omega), own_below hX b4 (Nat.le_refl _), fun k hk => (own_row hX k hk).2, hG, by omega, s3, s4⟩
theorem St.below (h : St W s2 s3 a r x g xs ys zs us w) (hb : Below w.heap.size w w') : St W s2 s3 a r x g xs ys zs us w' := by
  have l1 := h.l1; have l2 := h.l2; have l3 := h.l3
  exact ⟨h.bel.trans (hb.mono (by omega)), h.A.below hb (by omega), h.R.below hb (by omega), own_below h.X hb (Nat.le_refl _), h.xb, own_below h.G hb (Nat.le_refl _), l1, l2, Nat.le_trans l3 hb.size⟩
theorem St.drewN (h : St W s2 s3 a r x g xs ys zs us w) (n : Nat) : St W s2 s3 a r x g xs ys zs us (w.drewN n) :=
  ⟨below_drewN h.bel n, h.A, h.R, h.X, h.xb, h.G, h.l1, h.l2, h.l3⟩
theorem St.markX {zs' : List Int} (h : St W s2 s3 a r x g xs ys zs us w) (hX : OwnI w' s2 x zs') (hg : w.grownBy w' x.ownBlock) : St W s2 s3 a r x g xs ys zs' us w' := by
  have l1 := h.l1; have l2 := h.l2; have l3 := h.l3; have sz := hg.size
  have hx : ∀ k, x.ownBlock = some k → s2 ≤ k := fun k hk => (own_row h.X k hk).1
  refine ⟨h.bel.grown hg (by omega) (fun k hk => by have := hx k hk; omega), h.A.kept hg (by omega) (fun k hk => by have := hx k hk; omega), h.R.kept hg (by omega) hx, hX, h.xb, h.G.kept hg ?_, l1, l2, by omega⟩
  rcases hgo : g.ownBlock with _ | k
  · exact .inl rfl
  · right
    intro e
    have h1 := (own_row h.G k hgo).1
    have h2 := h.xb k e.symm
    omega
theorem St.markG {us' : List Int} (h : St W s2 s3 a r x g xs ys zs us w) (hG : OwnI w' s3 g us') (hg : w.grownBy w' g.ownBlock) : St W s2 s3 a r x g xs ys zs us' w' := by
  have l1 := h.l1; have l2 := h.l2; have l3 := h.l3; have sz := hg.size
  have hx : ∀ k, g.ownBlock = some k → s3 ≤ k := fun k hk => (own_row h.G k hk).1
  refine ⟨h.bel.grown hg (by omega) (fun k hk => by have := hx k hk; omega), h.A.kept hg (by omega) (fun k hk => by have := hx k hk; omega), h.R.kept hg (by omega) (fun k hk => by have := hx k hk; omega), h.X.kept hg ?_, h.xb, hG, l1, l2, by omega⟩
  rcases hxo : x.ownBlock with _ | k
  · exact .inl rfl
  · right
    intro e
    have h1 := hx k e.symm
    have h2 := h.xb k hxo
    omega
theorem St.a_ (h : St W s2 s3 a r x g xs ys zs us w) : Sl w w.heap.size a xs := h.A.mono (by have := h.l1; have := h.l2; have := h.l3; omega)
theorem St.r_ (h : St W s2 s3 a r x g xs ys zs us w) : Sl w w.heap.size r ys := h.R.mono (by have := h.l2; have := h.l3; omega)
theorem St.x_ (h : St W s2 s3 a r x g xs ys zs us w) : Sl w w.heap.size x zs := h.X.sl
theorem St.g_ (h : St W s2 s3 a r x g xs ys zs us w) : Sl w w.heap.size g us := h.G.sl
end
end Go.Proofs.YtafbdnjabgfjeaaDoor
end
section
namespace Go.Proofs.YtafbdnjabgfjeaaDoor
open Go Go.RowKit

/-- A point's value, cell for cell. -/
abbrev p6v (a b k c d l : Int) : Value := .agg #[.int .i64 a, .int .i64 b, .int .i64 k, .int .i64 c, .int .i64 d, .int .i64 l]
/-- The slice v, of n points, reads cell for cell as fs and lies below block hi. -/
def SlF (w : World) (hi : Nat) (v : Value) (n : Nat) (fs : List Int) : Prop :=
  fs.length = n * 6 ∧ ∃ (A : Option Addr) (c : Nat), v = .slice A n c ∧ n ≤ c ∧ (0 < n → ∃ b o, A = some ⟨b, o, none⟩ ∧ b < hi ∧ Cells w b o fs)
theorem SlF.below {w w' : World} {hi B n : Nat} {v : Value} {fs : List Int} (h : SlF w hi v n fs) (hb : Below B w w') (hB : hi ≤ B) : SlF w' hi v n fs := by
  obtain ⟨h0, A, c, h1, h2, h3⟩ := h
  refine ⟨h0, A, c, h1, h2, fun hn => ?_⟩
  obtain ⟨b, o, e, hlt, hc⟩ := h3 hn
  exact ⟨b, o, e, hlt, fun k hk => (hb.cell (p := ⟨b, o + k, none⟩) (by show b < B; omega)).trans (hc k hk)⟩
theorem SlF.mono {w : World} {hi hi' n : Nat} {v : Value} {fs : List Int} (h : SlF w hi v n fs) (hB : hi ≤ hi') : SlF w hi' v n fs := by
  obtain ⟨h0, A, c, h1, h2, h3⟩ := h
  refine ⟨h0, A, c, h1, h2, fun hn => ?_⟩
  obtain ⟨b, o, e, hlt, hc⟩ := h3 hn
  exact ⟨b, o, e, by omega, hc⟩
theorem SlF.kept {w w' : World} {row : Option Nat} {hi n : Nat} {v : Value} {fs : List Int} (h : SlF w hi v n fs) (hg : w.grownBy w' row) (hh : hi ≤ w.heap.size) (hr : ∀ k, row = some k → hi ≤ k) : SlF w' hi v n fs := by
  obtain ⟨h0, A, c, h1, h2, h3⟩ := h
  refine ⟨h0, A, c, h1, h2, fun hn => ?_⟩
  obtain ⟨b, o, e, hlt, hc⟩ := h3 hn
  exact ⟨b, o, e, hlt, fun k hk => (World.cell?_of_block (hg.block b (by omega) (fun e => by have := hr _ e.symm; omega))).trans (hc k hk)⟩
/-- The slice v owns n points, cell for cell fs, in a block from base on. -/
abbrev OwnF (w : World) (base : Nat) (v : Value) (n : Nat) (fs : List Int) : Prop := w.ownsRow base 33 6 v n (fs.map (Value.int .i64))
theorem OwnF.len {w : World} {base n : Nat} {v : Value} {fs : List Int} (h : OwnF w base v n fs) : fs.length = n * 6 := by have := h.1; simpa using this
theorem OwnF.sl {w : World} {base n : Nat} {v : Value} {fs : List Int} (h : OwnF w base v n fs) : SlF w w.heap.size v n fs := by
  refine ⟨OwnF.len h, ?_⟩
  have hl := OwnF.len h
  rcases h.2 with ⟨rfl, h0⟩ | ⟨g, cap, cur, rfl, hb, hg, hn, hm, hs, ht⟩
  · exact ⟨none, 0, by rw [h0], by omega, fun h => by omega⟩
  · refine ⟨some ⟨g, 0, none⟩, cap, rfl, hn, fun _ => ⟨g, 0, rfl, (Array.getElem?_eq_some_iff.1 hg).1, fun k hk => ?_⟩⟩
    have := h.cells (g := g) rfl k (.int .i64 (nth fs k)) (by rw [List.getElem?_map, List.getElem?_eq_getElem hk, nth_of hk]; rfl)
    rw [Nat.zero_add]
    have hadd : (⟨g, 0, none⟩ : Addr).add k = ⟨g, k, none⟩ := by unfold Addr.add; split <;> simp_all
    rw [hadd] at this
    exact this
theorem ownF_cell {w1 : World} {g n c base : Nat} {fs : List Int} (h : OwnF w1 base (.slice (some ⟨g, 0, none⟩) n c) n fs) {k : Nat} (hk : k < n * 6) : w1.cell? ⟨g, k, none⟩ = some (.int .i64 (nth fs k)) := by
  have hl := OwnF.len h
  rw [h.cellAt k (by omega), List.getElem?_map, List.getElem?_eq_getElem (by omega), nth_of (by omega)]; rfl

/-- A value; nothing old has turned. -/
def RetW (v : Value) (w : World) (e : Ending) (w' : World) : Prop := e = .returned v ∧ Below w.heap.size w w'
theorem cellsF {W w1 : World} (hb : Below W.heap.size W w1) : (∀ b o, b < W.heap.size → w1.cell? ⟨b, o, none⟩ = W.cell? ⟨b, o, none⟩) ∧ (∀ b o, b < W.heap.size → w1.frozen? ⟨b, o, none⟩ = W.frozen? ⟨b, o, none⟩) :=
  ⟨fun b o h => hb.cell (p := ⟨b, o, none⟩) h, fun b o h => hb.frozen (p := ⟨b, o, none⟩) h⟩

theorem below_undrew {w w' : World} (h : Below w.drew.heap.size w.drew w') : Below w.heap.size w w' := ⟨h.os, h.tape, h.output, h.size, h.block⟩

set_option maxHeartbeats 1000000 in
theorem toN3 (a b k : Int) (w : World) : Calls Tryd.prog 98 #[.agg #[.int .i64 a, .int .i64 b, .int .i64 k]] w (RetW (.agg #[.int .i64 a, .int .i64 b, .int .i64 k]) w) := by
  go_enter Tryd.func98, Tryd.ntmps98
  go_wp2_with fail
  exact bodyPost_ret (v := .agg #[.int .i64 a, .int .i64 b, .int .i64 k]) (by simp [results, Tryd.results98, go_sem]) rfl ⟨rfl, by (repeat (first | with_reducible exact Below.refl _ _ | with_reducible assumption | with_reducible refine below_drewN ?_ _ | with_reducible refine Below.drew ?_ | with_reducible refine Below.alloc ?_ (by first | omega | (simp; done) | (simp; omega)) _ | with_reducible refine Below.setCell ?_ (by first | omega | (simp; done) | (simp; omega)) _ | with_reducible refine Below.trans ?_ (Below.mono (by assumption) (by first | omega | (simp; done) | (simp; omega)))))⟩
set_option maxHeartbeats 1000000 in
theorem eqN3 (a b k : Int) (w : World) : Calls Tryd.prog 46 #[.agg #[.int .i64 a, .int .i64 b, .int .i64 k], .agg #[.int .i64 a, .int .i64 b, .int .i64 k]] w (RetW (.bool true) w) := by
  go_enter Tryd.func46, Tryd.ntmps46
  go_wp2_with fail
  go_ret
  exact ⟨rfl, by (repeat (first | with_reducible exact Below.refl _ _ | with_reducible assumption | with_reducible refine below_drewN ?_ _ | with_reducible refine Below.drew ?_ | with_reducible refine Below.alloc ?_ (by first | omega | (simp; done) | (simp; omega)) _ | with_reducible refine Below.setCell ?_ (by first | omega | (simp; done) | (simp; omega)) _ | with_reducible refine Below.trans ?_ (Below.mono (by assumption) (by first | omega | (simp; done) | (simp; omega)))))⟩
set_option maxHeartbeats 1000000 in
theorem toPt6 (a b k c d l : Int) (w : World) : Calls Tryd.prog 42 #[p6v a b k c d l] w (RetW (p6v a b k c d l) w) := by
  have H1 := Lib.hid (fun w => toN3 a b k w)
  have H2 := Lib.hid (fun w => toN3 c d l w)
  go_enter Tryd.func42, Tryd.ntmps42
  go_wp2_with fail
  refine (H1.out _).mono ?_
  rintro e w1 ⟨rfl, hb1⟩
  obtain ⟨hc1, hf1⟩ := cellsF hb1
  have hz1 := hb1.size
  simp at hz1
  have z1 : w.heap.size < w1.heap.size := by omega
  have z2 : w.heap.size + 1 < w1.heap.size := by omega
  have z3 : w.heap.size + 1 + 1 < w1.heap.size := by omega
  have z4 : w.heap.size < w.heap.size + 1 + 1 + 1 := by omega
  have z5 : w.heap.size + 1 < w.heap.size + 1 + 1 + 1 := by omega
  go_wp2_with fail
  refine (H2.out _).mono ?_
  rintro e w2 ⟨rfl, hb2⟩
  obtain ⟨hc2, hf2⟩ := cellsF hb2
  have hz2 := hb2.size
  simp at hz2
  have y1 : w.heap.size < w2.heap.size := by omega
  have y2 : w.heap.size + 1 < w2.heap.size := by omega
  have y3 : w.heap.size + 1 + 1 < w2.heap.size := by omega
  go_wp2_with fail
  exact bodyPost_ret (v := p6v a b k c d l) (by simp [results, Tryd.results42, go_sem, *]) rfl ⟨rfl, by (repeat (first | with_reducible exact Below.refl _ _ | with_reducible assumption | with_reducible refine below_drewN ?_ _ | with_reducible refine Below.drew ?_ | with_reducible refine Below.alloc ?_ (by first | omega | (simp; done) | (simp; omega)) _ | with_reducible refine Below.setCell ?_ (by first | omega | (simp; done) | (simp; omega)) _ | with_reducible refine Below.trans ?_ (Below.mono (by assumption) (by first | omega | (simp; done) | (simp; omega)))))⟩
set_option maxHeartbeats 1000000 in
theorem eqPt6 (a b k c d l : Int) (w : World) : Calls Tryd.prog 91 #[p6v a b k c d l, p6v a b k c d l] w (RetW (.bool true) w) := by
  have H1 := Lib.hid (fun w => eqN3 a b k w)
  have H2 := Lib.hid (fun w => eqN3 c d l w)
  go_enter Tryd.func91, Tryd.ntmps91
  go_wp2_with fail
  refine (H1.out _).mono ?_
  rintro e w1 ⟨rfl, hb1⟩
  obtain ⟨hc1, hf1⟩ := cellsF hb1
  have hz1 := hb1.size
  simp at hz1
  have z1 : w.heap.size < w1.heap.size := by omega
  have z2 : w.heap.size + 1 < w1.heap.size := by omega
  have z4 : w.heap.size < w.heap.size + 1 + 1 := by omega
  go_wp2_with fail
  refine (H2.out _).mono ?_
  rintro e w2 ⟨rfl, hb2⟩
  go_wp2_with fail
  go_ret
  exact ⟨rfl, by (repeat (first | with_reducible exact Below.refl _ _ | with_reducible assumption | with_reducible refine below_drewN ?_ _ | with_reducible refine Below.drew ?_ | with_reducible refine Below.alloc ?_ (by first | omega | (simp; done) | (simp; omega)) _ | with_reducible refine Below.setCell ?_ (by first | omega | (simp; done) | (simp; omega)) _ | with_reducible refine Below.trans ?_ (Below.mono (by assumption) (by first | omega | (simp; done) | (simp; omega)))))⟩
end Go.Proofs.YtafbdnjabgfjeaaDoor
end
section
namespace Go.Proofs.YtafbdnjabgfjeaaDoor
open Go Go.RowKit

theorem infoP : (Tryd.prog.info? 33).map (fun i => (i.zero, i.size, i.bytes)) = some (some (p6v 0 0 0 0 0 0), 6, 48) := by kernel_rfl

set_option maxHeartbeats 2000000 in
theorem heldP_any (v : Value) (n : Nat) (w : World) (h : SlF w w.heap.size v n (marks 1 (n * 6))) (hl : n ≤ 1048576) :
    Calls Tryd.prog 40 #[v, .int .i64 1] w (RetQ (.int .i64 (1 + ((n * 6 : Nat) : Int))) w) := by
  obtain ⟨_, A, c, rfl, hc, hcell⟩ := h
  have HC := Lib.hid hcell
  clear hcell
  go_enter Tryd.func40, Tryd.ntmps40
  go_wp2_with fail
  go_loop [1, 5] (fun q i => ∃ (k : Nat) (m : Int), k ≤ n ∧ i = .int .i64 k ∧ q = .int .i64 m ∧ Hid (m = 1 + 6 * (k : Int)) ∧ 0 ≤ m ∧ m ≤ 1 + 6 * 1048576) (fun _ i => n - (intOf i).toNat)
  case atStart => exact ⟨0, 1, Nat.zero_le _, rfl, rfl, Lib.hid (by simp), by omega, by omega⟩
  case round =>
    obtain ⟨k, m, hk, rfl, rfl, hm, m0, m1⟩ := hrel
    by_cases hlt : k < n
    · obtain ⟨b, o, rfl, hb, hcs⟩ := HC.out (by omega)
      have hx : ∀ i : Nat, i < 6 → w.cell? ⟨b, o + (k * 6 + i), none⟩ = some (.int .i64 (m + (i : Int))) := fun i hi => by
        rw [hcs (k * 6 + i) (by rw [marks_len]; omega), marks_nth (by omega), hm.out]
        congr 2; push_cast; omega
      have bm : m ≤ 1 + 6 * 1048576 - 6 := by have := hm.out; omega
      have h0 : w.cell? ⟨b, o + k * 6, none⟩ = some (.int .i64 m) := by have := hx 0 (by omega); simpa using this
      have h1 : w.cell? ⟨b, o + k * 6 + 1, none⟩ = some (.int .i64 (m + 1)) := hx 1 (by omega)
      have h2 : w.cell? ⟨b, o + k * 6 + 2, none⟩ = some (.int .i64 (m + 1 + 1)) := by have := hx 2 (by omega); rw [show m + ((2 : Nat) : Int) = m + 1 + 1 by omega] at this; exact this
      have h3 : w.cell? ⟨b, o + k * 6 + 3, none⟩ = some (.int .i64 (m + 1 + 1 + 1)) := by have := hx 3 (by omega); rw [show m + ((3 : Nat) : Int) = m + 1 + 1 + 1 by omega] at this; exact this
      have h4 : w.cell? ⟨b, o + k * 6 + 4, none⟩ = some (.int .i64 (m + 1 + 1 + 1 + 1)) := by have := hx 4 (by omega); rw [show m + ((4 : Nat) : Int) = m + 1 + 1 + 1 + 1 by omega] at this; exact this
      have h5 : w.cell? ⟨b, o + k * 6 + 5, none⟩ = some (.int .i64 (m + 1 + 1 + 1 + 1 + 1)) := by have := hx 5 (by omega); rw [show m + ((5 : Nat) : Int) = m + 1 + 1 + 1 + 1 + 1 by omega] at this; exact this
      clear hcs hx
      go_wp2_with fail
      go_round
      case rel => exact ⟨k + 1, m + 1 + 1 + 1 + 1 + 1 + 1, by omega, by go_num, rfl, Lib.hid (by have := hm.out; omega), by omega, by omega⟩
      case measure => simp [intOf]; omega
    · go_wp2_with fail
      go_ret
      obtain rfl : k = n := by omega
      refine ⟨?_, 0, rfl⟩
      show Ending.returned (.int .i64 m) = _
      rw [hm.out]; congr 2; push_cast; omega

theorem markF1 {w1 : World} {g n c base j : Nat} {m x : Int} {fs : List Int} (hl : fs.length = n * 6) (hj : j < n * 6) (hx : x = m + (j : Int)) (h : OwnF w1 base (.slice (some ⟨g, 0, none⟩) n c) n (marked m fs j)) :
    OwnF (w1.setCell ⟨g, j, none⟩ (.int .i64 x)) base (.slice (some ⟨g, 0, none⟩) n c) n (marked m fs (j + 1)) ∧ w1.grownBy (w1.setCell ⟨g, j, none⟩ (.int .i64 x)) (some g) := by
  subst hx
  have := h.stored j (.int .i64 (m + (j : Int)))
  rw [← List.map_set, marked_set (by omega)] at this
  exact this
theorem markF6 {w1 : World} {g n c base k : Nat} {m : Int} {fs : List Int} (hl : fs.length = n * 6) (hk : k < n) (hm : m = 1 + 6 * (k : Int)) (h : OwnF w1 base (.slice (some ⟨g, 0, none⟩) n c) n (marked 1 fs (k * 6))) :
    OwnF ((((((w1.setCell ⟨g, k * 6, none⟩ (.int .i64 m)).setCell ⟨g, k * 6 + 1, none⟩ (.int .i64 (m + 1))).setCell ⟨g, k * 6 + 2, none⟩ (.int .i64 (m + 1 + 1))).setCell ⟨g, k * 6 + 3, none⟩ (.int .i64 (m + 1 + 1 + 1))).setCell ⟨g, k * 6 + 4, none⟩ (.int .i64 (m + 1 + 1 + 1 + 1))).setCell ⟨g, k * 6 + 5, none⟩ (.int .i64 (m + 1 + 1 + 1 + 1 + 1))) base (.slice (some ⟨g, 0, none⟩) n c) n (marked 1 fs ((k + 1) * 6)) ∧
    w1.grownBy ((((((w1.setCell ⟨g, k * 6, none⟩ (.int .i64 m)).setCell ⟨g, k * 6 + 1, none⟩ (.int .i64 (m + 1))).setCell ⟨g, k * 6 + 2, none⟩ (.int .i64 (m + 1 + 1))).setCell ⟨g, k * 6 + 3, none⟩ (.int .i64 (m + 1 + 1 + 1))).setCell ⟨g, k * 6 + 4, none⟩ (.int .i64 (m + 1 + 1 + 1 + 1))).setCell ⟨g, k * 6 + 5, none⟩ (.int .i64 (m + 1 + 1 + 1 + 1 + 1))) (some g) := by
  have a0 := markF1 (x := m) hl (by omega) (by push_cast; omega) h
  have a1 := markF1 (x := m + 1) hl (by omega) (by push_cast; omega) a0.1
  have a2 := markF1 (x := m + 1 + 1) hl (by omega) (by push_cast; omega) a1.1
  have a3 := markF1 (x := m + 1 + 1 + 1) hl (by omega) (by push_cast; omega) a2.1
  have a4 := markF1 (x := m + 1 + 1 + 1 + 1) hl (by omega) (by push_cast; omega) a3.1
  have a5 := markF1 (x := m + 1 + 1 + 1 + 1 + 1) hl (by omega) (by push_cast; omega) a4.1
  rw [show (k + 1) * 6 = k * 6 + 1 + 1 + 1 + 1 + 1 + 1 by omega]
  exact ⟨a5.1, grownBy_trans a0.2 (grownBy_trans a1.2 (grownBy_trans a2.2 (grownBy_trans a3.2 (grownBy_trans a4.2 a5.2))))⟩

/-- Marks are laid: nothing but the row has turned. -/
def RetMF (v : Value) (base n : Nat) (w : World) (e : Ending) (w' : World) : Prop := e = .returned (.int .i64 (1 + ((n * 6 : Nat) : Int))) ∧ OwnF w' base v n (marks 1 (n * 6)) ∧ w.grownBy w' v.ownBlock

set_option maxHeartbeats 4000000 in
theorem markP_any (v : Value) (base n : Nat) (fs : List Int) (w : World) (h : OwnF w base v n fs) (hl : n ≤ 1048576) :
    Calls Tryd.prog 39 #[v, .int .i64 1] w (RetMF v base n w) := by
  have hlen := OwnF.len h
  rcases h.2 with ⟨rfl, rfl⟩ | ⟨g, c, cur, rfl, hb, hg, hnc, hm, hs, ht⟩
  · obtain rfl : fs = [] := List.eq_nil_of_length_eq_zero (by omega)
    go_enter Tryd.func39, Tryd.ntmps39
    go_wp2_with fail
    refine wp_loop_rounds 1 ?_
    rw [rounds_succ]
    go_wp2_with fail
    go_ret
    exact ⟨rfl, h, grownBy_refl _ _⟩
  · have H0 : OwnF w base (.slice (some ⟨g, 0, none⟩) n c) n (marked 1 fs (0 * 6)) := by rw [Nat.zero_mul, marked_zero]; exact h
    have HL := Lib.hid hlen
    clear h hb hg hm hs ht hlen
    go_enter Tryd.func39, Tryd.ntmps39
    go_wp2_with fail
    go_loopw [1, 5] (fun q i wr => ∃ (k : Nat) (m : Int), k ≤ n ∧ i = .int .i64 k ∧ q = .int .i64 m ∧ Hid (m = 1 + 6 * (k : Int)) ∧ 0 ≤ m ∧ m ≤ 1 + 6 * 1048576 ∧ OwnF wr base (.slice (some ⟨g, 0, none⟩) n c) n (marked 1 fs (k * 6)) ∧ w.grownBy wr (some g)) (fun _ i _ => n - (intOf i).toNat)
    case atStart => exact ⟨0, 1, Nat.zero_le _, rfl, rfl, Lib.hid (by simp), by omega, by omega, H0, grownBy_refl _ _⟩
    case round =>
      obtain ⟨k, m, hk, rfl, rfl, hm, m0, m1, hown, hgr⟩ := hrel
      clear H0
      by_cases hlt : k < n
      · have bm : m ≤ 1 + 6 * 1048576 - 6 := by have := hm.out; omega
        have c0 := ownF_cell hown (k := k * 6) (by omega)
        have c1 := ownF_cell hown (k := k * 6 + 1) (by omega)
        have c2 := ownF_cell hown (k := k * 6 + 2) (by omega)
        have c3 := ownF_cell hown (k := k * 6 + 3) (by omega)
        have c4 := ownF_cell hown (k := k * 6 + 4) (by omega)
        have c5 := ownF_cell hown (k := k * 6 + 5) (by omega)
        have f0 := hown.frozenAt (k * 6)
        have f1 := hown.frozenAt (k * 6 + 1)
        have f2 := hown.frozenAt (k * 6 + 2)
        have f3 := hown.frozenAt (k * 6 + 3)
        have f4 := hown.frozenAt (k * 6 + 4)
        have f5 := hown.frozenAt (k * 6 + 5)
        have HS := Lib.hid (markF6 HL.out hlt hm.out hown)
        clear hown
        go_wp2_with fail
        go_roundw
        case rel => exact ⟨k + 1, m + 1 + 1 + 1 + 1 + 1 + 1, by omega, by go_num, rfl, Lib.hid (by have := hm.out; omega), by omega, by omega, HS.out.1, grownBy_trans hgr HS.out.2⟩
        case measure => simp [intOf]; omega
      · go_wp2_with fail
        go_ret
        obtain rfl : k = n := by omega
        refine ⟨?_, ?_, hgr⟩
        · show Ending.returned (.int .i64 m) = _
          rw [hm.out]; congr 2; push_cast; omega
        · rw [← HL.out, marked_all, HL.out] at hown; exact hown
end Go.Proofs.YtafbdnjabgfjeaaDoor
end
section
namespace Go.Proofs.YtafbdnjabgfjeaaDoor
open Go Go.RowKit

/-- The six cells of point k. -/
theorem six {w : World} {b o n k : Nat} {fs : List Int} (h : Cells w b o fs) (hl : fs.length = n * 6) (hk : k < n) :
    w.cell? ⟨b, o + k * 6, none⟩ = some (.int .i64 (nth fs (k * 6))) ∧ w.cell? ⟨b, o + k * 6 + 1, none⟩ = some (.int .i64 (nth fs (k * 6 + 1))) ∧ w.cell? ⟨b, o + k * 6 + 2, none⟩ = some (.int .i64 (nth fs (k * 6 + 2))) ∧
    w.cell? ⟨b, o + k * 6 + 3, none⟩ = some (.int .i64 (nth fs (k * 6 + 3))) ∧ w.cell? ⟨b, o + k * 6 + 4, none⟩ = some (.int .i64 (nth fs (k * 6 + 4))) ∧ w.cell? ⟨b, o + k * 6 + 5, none⟩ = some (.int .i64 (nth fs (k * 6 + 5))) :=
  ⟨h (k * 6) (by omega), h (k * 6 + 1) (by omega), h (k * 6 + 2) (by omega), h (k * 6 + 3) (by omega), h (k * 6 + 4) (by omega), h (k * 6 + 5) (by omega)⟩
theorem Cells.below {w w' : World} {b o B : Nat} {fs : List Int} (h : Cells w b o fs) (hb : Below B w w') (hB : b < B) : Cells w' b o fs := fun k hk => (hb.cell (p := ⟨b, o + k, none⟩) hB).trans (h k hk)

set_option maxRecDepth 100000 in
set_option maxHeartbeats 4000000 in
theorem eqP_same (v v' : Value) (n : Nat) (fs : List Int) (w : World) (h : SlF w w.heap.size v n fs) (h' : SlF w w.heap.size v' n fs) (hl : n ≤ 1048576) :
    Calls Tryd.prog 36 #[v, v'] w (RetW (.bool true) w) := by
  obtain ⟨h6, A, c, rfl, hc, hcell⟩ := h
  obtain ⟨_, A', c', rfl, hc', hcell'⟩ := h'
  have HC := Lib.hid hcell
  have HC' := Lib.hid hcell'
  have H6 := Lib.hid h6
  have HE := Lib.hid (fun a b k c d l w => eqPt6 a b k c d l w)
  clear hcell hcell' h6
  go_enter Tryd.func36, Tryd.ntmps36
  go_wp2_with fail
  go_loopw [5] (fun i wr => ∃ k : Nat, k ≤ n ∧ i = .int .i64 k ∧ Below w.heap.size w wr) (fun i _ => n - (intOf i).toNat)
  case atStart => exact ⟨0, Nat.zero_le _, rfl, Below.refl _ _⟩
  case round =>
    obtain ⟨k, hk, rfl, hbel⟩ := hrel
    by_cases hlt : k < n
    · obtain ⟨b, o, rfl, hb, hcs⟩ := HC.out (by omega)
      obtain ⟨b', o', rfl, hb', hcs'⟩ := HC'.out (by omega)
      obtain ⟨a0, a1, a2, a3, a4, a5⟩ := six (hcs.below hbel hb) H6.out hlt
      obtain ⟨d0, d1, d2, d3, d4, d5⟩ := six (hcs'.below hbel hb') H6.out hlt
      have hsz := hbel.size
      have q1 : b < wr.heap.size := by omega
      have q2 : b' < wr.heap.size := by omega
      have i0 : (0 : Int) ≤ (k : Int) := by omega
      have i1 : (k : Int) < (n : Int) := by omega
      generalize nth fs (k * 6) = x0 at *
      generalize nth fs (k * 6 + 1) = x1 at *
      generalize nth fs (k * 6 + 2) = x2 at *
      generalize nth fs (k * 6 + 3) = x3 at *
      generalize nth fs (k * 6 + 4) = x4 at *
      generalize nth fs (k * 6 + 5) = x5 at *
      have HF := Lib.hid (fun w => HE.out x0 x1 x2 x3 x4 x5 w)
      clear hcs hcs'
      go_wp2_with fail
      go_region_held3 (fun w' => w'.cell? ⟨b, o + k * 6, none⟩ = some (.int .i64 x0) ∧ w'.cell? ⟨b, o + k * 6 + 1, none⟩ = some (.int .i64 x1) ∧ w'.cell? ⟨b, o + k * 6 + 2, none⟩ = some (.int .i64 x2) ∧ w'.cell? ⟨b, o + k * 6 + 3, none⟩ = some (.int .i64 x3) ∧ w'.cell? ⟨b, o + k * 6 + 4, none⟩ = some (.int .i64 x4) ∧ w'.cell? ⟨b, o + k * 6 + 5, none⟩ = some (.int .i64 x5) ∧ w'.cell? ⟨b', o' + k * 6, none⟩ = some (.int .i64 x0) ∧ w'.cell? ⟨b', o' + k * 6 + 1, none⟩ = some (.int .i64 x1) ∧ w'.cell? ⟨b', o' + k * 6 + 2, none⟩ = some (.int .i64 x2) ∧ w'.cell? ⟨b', o' + k * 6 + 3, none⟩ = some (.int .i64 x3) ∧ w'.cell? ⟨b', o' + k * 6 + 4, none⟩ = some (.int .i64 x4) ∧ w'.cell? ⟨b', o' + k * 6 + 5, none⟩ = some (.int .i64 x5)) ((first | (go_simp; done) | (simp [*]; done))) ((go_at_call 91; refine (HF.out _).mono ?_; rintro e w1 ⟨rfl, hb1⟩; (try replace hb1 := below_undrew hb1); obtain ⟨hc1, hf1⟩ := cellsF hb1; have hz1 := hb1.size))
      go_wp2_with fail
      go_roundw
      case rel => exact ⟨k + 1, by omega, by go_num, by first | exact hbel.trans (hb1.mono hsz) | exact (hbel.trans (hb1.mono hsz)).drew⟩
      case measure => simp [intOf]; omega
    · go_wp2_with fail
      go_ret
      exact ⟨rfl, hbel⟩
end Go.Proofs.YtafbdnjabgfjeaaDoor
end
section
namespace Go.Proofs.YtafbdnjabgfjeaaDoor
open Go Go.RowKit

/-- n integers that v owns. -/
abbrev OwnN (w : World) (base : Nat) (v : Value) (n : Nat) (xs : List Int) : Prop := w.ownsRow base 2 1 v n (xs.map (Value.int .i64))

theorem sl_news {w : World} {b o : Nat} {xs : List Int} (h : Cells w b o xs) : ∀ j u, (xs.map (Value.int .i64))[j]? = some u → w.cell? ((⟨b, o, none⟩ : Addr).add j) = some u := by
  intro j u hu
  rw [List.getElem?_map] at hu
  rcases Nat.lt_or_ge j xs.length with hj | hj
  · rw [List.getElem?_eq_getElem hj] at hu
    simp only [Option.map_some, Option.some.injEq] at hu
    subst hu
    have := h j hj
    rw [nth_of hj] at this
    have hadd : (⟨b, o, none⟩ : Addr).add j = ⟨b, o + j, none⟩ := by unfold Addr.add; split <;> simp_all
    rw [hadd]; exact this
  · rw [List.getElem?_eq_none hj] at hu; cases hu
theorem ints_one (xs : List Int) : ∀ u ∈ xs.map (Value.int .i64), u.oneCell' = true := by
  intro u hu
  obtain ⟨x, _, rfl⟩ := List.mem_map.1 hu
  rfl

theorem nth_set {xs : List Int} {i j : Nat} {x : Int} (h : j < xs.length) : nth (xs.set i x) j = if i = j then x else nth xs j := by
  rw [nth_of (by simpa using h), List.getElem_set]
  split
  · rfl
  · rw [nth_of h]
end Go.Proofs.YtafbdnjabgfjeaaDoor
end
section
namespace Go.Proofs.YtafbdnjabgfjeaaDoor
open Go Go.RowKit

theorem zeros_madeF (n : Nat) : (madeCells (p6v 0 0 0 0 0 0).cells (n * 6)).toList = (List.replicate (n * 6) (0 : Int)).map (Value.int .i64) := by
  apply List.ext_getElem
  · simp [madeCells]
  · intro k h1 h2
    have hk : k % 6 < 6 := Nat.mod_lt _ (by decide)
    simp only [madeCells, Value.cells, List.getElem_map, List.getElem_replicate]
    rcases (show k % 6 = 0 ∨ k % 6 = 1 ∨ k % 6 = 2 ∨ k % 6 = 3 ∨ k % 6 = 4 ∨ k % 6 = 5 by omega) with h | h | h | h | h | h <;> simp [h]
theorem copyF_start {w w1 : World} {n : Nat} {fs : List Int} (hl : fs.length = n * 6) (h : w1.ownsRow w.heap.size 33 6 (.slice (some ⟨w.heap.size, 0, none⟩) n n) n (madeCells (p6v 0 0 0 0 0 0).cells (n * 6)).toList) :
    OwnF w1 w.heap.size (.slice (some ⟨w.heap.size, 0, none⟩) n n) n (part fs (0 * 6)) := by
  unfold OwnF
  rw [Nat.zero_mul, part_zero, hl, ← zeros_madeF]
  exact h
theorem copyF1 {w1 : World} {g n c base j : Nat} {x : Int} {fs : List Int} (hl : fs.length = n * 6) (hj : j < n * 6) (hx : x = nth fs j) (h : OwnF w1 base (.slice (some ⟨g, 0, none⟩) n c) n (part fs j)) :
    OwnF (w1.setCell ⟨g, j, none⟩ (.int .i64 x)) base (.slice (some ⟨g, 0, none⟩) n c) n (part fs (j + 1)) := by
  subst hx
  have := (h.stored j (.int .i64 (nth fs j))).1
  rw [← List.map_set, part_set (by omega)] at this
  exact this
theorem copyF6 {w1 : World} {g n c base k : Nat} {fs : List Int} (hl : fs.length = n * 6) (hk : k < n) (h : OwnF w1 base (.slice (some ⟨g, 0, none⟩) n c) n (part fs (k * 6))) :
    OwnF ((((((w1.setCell ⟨g, k * 6, none⟩ (.int .i64 (nth fs (k * 6)))).setCell ⟨g, k * 6 + 1, none⟩ (.int .i64 (nth fs (k * 6 + 1)))).setCell ⟨g, k * 6 + 2, none⟩ (.int .i64 (nth fs (k * 6 + 2)))).setCell ⟨g, k * 6 + 3, none⟩ (.int .i64 (nth fs (k * 6 + 3)))).setCell ⟨g, k * 6 + 4, none⟩ (.int .i64 (nth fs (k * 6 + 4)))).setCell ⟨g, k * 6 + 5, none⟩ (.int .i64 (nth fs (k * 6 + 5)))) base (.slice (some ⟨g, 0, none⟩) n c) n (part fs ((k + 1) * 6)) := by
  rw [show (k + 1) * 6 = k * 6 + 1 + 1 + 1 + 1 + 1 + 1 by omega]
  exact copyF1 hl (by omega) rfl (copyF1 hl (by omega) rfl (copyF1 hl (by omega) rfl (copyF1 hl (by omega) rfl (copyF1 hl (by omega) rfl (copyF1 hl (by omega) rfl h)))))

/-- A slice of points of the call's own, nothing old turned. -/
def RetOF (n : Nat) (fs : List Int) (w : World) (e : Ending) (w' : World) : Prop := ∃ v, e = .returned v ∧ OwnF w' w.heap.size v n fs ∧ Below w.heap.size w w'

set_option maxRecDepth 100000 in
set_option maxHeartbeats 4000000 in
theorem toP_any (v : Value) (n : Nat) (fs : List Int) (w : World) (h : SlF w w.heap.size v n fs) (hl : n ≤ 1048576) :
    Calls Tryd.prog 34 #[v] w (RetOF n fs w) := by
  obtain ⟨h6, A, c, rfl, hc, hcell⟩ := h
  have HC := Lib.hid hcell
  have H6 := Lib.hid h6
  have HE := Lib.hid (fun a b k c d l w => toPt6 a b k c d l w)
  clear hcell h6
  obtain ⟨i0, hi, hz0, hz1, hz2⟩ := info_parts infoP
  go_enter Tryd.func34, Tryd.ntmps34
  go_wp2_with (at_make; refine wpList_make_full _ rfl _ _ 60 rfl w.heap.size 33 i0 (p6v 0 0 0 0 0 0) 6 Tryd.underlying60 hi hz0 hz1 .i64 .i64 _ _ n rfl rfl rfl rfl (by rw [hz2]; omega) (by unfold maxLen; omega) (Nat.le_refl _) ?_; intro w0 hown0 hgrow0)
  have H0 := copyF_start H6.out hown0
  have B0 := grown_below hgrow0 (Nat.le_refl _) (fun k h => by cases h)
  clear hown0 hgrow0
  go_loopw [4] (fun i wr => ∃ k : Nat, k ≤ n ∧ i = .int .i64 k ∧ OwnF wr w.heap.size (.slice (some ⟨w.heap.size, 0, none⟩) n n) n (part fs (k * 6)) ∧ Below w.heap.size w wr) (fun i _ => n - (intOf i).toNat)
  case atStart => exact ⟨0, Nat.zero_le _, rfl, H0, B0⟩
  case round =>
    obtain ⟨k, hk, rfl, hown, hbel⟩ := hrel
    clear H0 B0
    by_cases hlt : k < n
    · obtain ⟨b, o, rfl, hb, hcs⟩ := HC.out (by omega)
      obtain ⟨a0, a1, a2, a3, a4, a5⟩ := six (hcs.below hbel hb) H6.out hlt
      have HF := Lib.hid (fun w => HE.out (nth fs (k * 6)) (nth fs (k * 6 + 1)) (nth fs (k * 6 + 2)) (nth fs (k * 6 + 3)) (nth fs (k * 6 + 4)) (nth fs (k * 6 + 5)) w)
      clear hcs
      go_wp2_with fail
      refine (HF.out _).mono ?_
      rintro e w1 ⟨rfl, hb1⟩
      have ho1 := own_below hown hb1 (Nat.le_refl _)
      have B1 := hbel.trans (hb1.mono hbel.size)
      have c0 := ownF_cell ho1 (k := k * 6) (by omega)
      have c1 := ownF_cell ho1 (k := k * 6 + 1) (by omega)
      have c2 := ownF_cell ho1 (k := k * 6 + 2) (by omega)
      have c3 := ownF_cell ho1 (k := k * 6 + 3) (by omega)
      have c4 := ownF_cell ho1 (k := k * 6 + 4) (by omega)
      have c5 := ownF_cell ho1 (k := k * 6 + 5) (by omega)
      have f0 := ho1.frozenAt (k * 6)
      have f1 := ho1.frozenAt (k * 6 + 1)
      have f2 := ho1.frozenAt (k * 6 + 2)
      have f3 := ho1.frozenAt (k * 6 + 3)
      have f4 := ho1.frozenAt (k * 6 + 4)
      have f5 := ho1.frozenAt (k * 6 + 5)
      have HS := Lib.hid (copyF6 H6.out hlt ho1)
      clear hown ho1
      go_wp2_with fail
      go_roundw
      case rel => exact ⟨k + 1, by omega, by go_num, HS.out, ((((((B1.setCell (p := ⟨w.heap.size, k * 6, none⟩) (Nat.le_refl _) _).setCell (p := ⟨w.heap.size, k * 6 + 1, none⟩) (Nat.le_refl _) _).setCell (p := ⟨w.heap.size, k * 6 + 2, none⟩) (Nat.le_refl _) _).setCell (p := ⟨w.heap.size, k * 6 + 3, none⟩) (Nat.le_refl _) _).setCell (p := ⟨w.heap.size, k * 6 + 4, none⟩) (Nat.le_refl _) _).setCell (p := ⟨w.heap.size, k * 6 + 5, none⟩) (Nat.le_refl _) _)⟩
      case measure => simp [intOf]; omega
    · go_wp2_with fail
      go_ret
      obtain rfl : k = n := by omega
      refine ⟨_, rfl, ?_, hbel⟩
      rw [← H6.out, part_all] at hown
      exact hown
end Go.Proofs.YtafbdnjabgfjeaaDoor
end
section
namespace Go.Proofs.YtafbdnjabgfjeaaDoor
open Go Go.RowKit

def e3 (a b k a' b' k' : Int) : Bool := a == a' && b == b' && k == k'
def e6 (a b k c d l a' b' k' c' d' l' : Int) : Bool := e3 a b k a' b' k' && e3 c d l c' d' l'
end Go.Proofs.YtafbdnjabgfjeaaDoor
end
section
namespace Go.Proofs.YtafbdnjabgfjeaaDoor
open Go Go.RowKit

/-- d 0, d 1, .. -/
def tab (d : Nat → Int) (k : Nat) : List Int := (List.range k).map d
theorem tab_len (d : Nat → Int) (k : Nat) : (tab d k).length = k := by simp [tab]
theorem tab_succ (d : Nat → Int) (k : Nat) : tab d (k + 1) = tab d k ++ [d k] := by simp [tab, List.range_succ]
theorem tab_nth {d : Nat → Int} {n k : Nat} (h : k < n) : nth (tab d n) k = d k := by rw [nth_of (by rw [tab_len]; exact h)]; simp [tab]
def tabZ (d : Nat → Int) (k n : Nat) : List Int := tab d k ++ List.replicate (n - k) 0
theorem tabZ_len (d : Nat → Int) {k n : Nat} (h : k ≤ n) : (tabZ d k n).length = n := by simp [tabZ, tab_len]; omega
theorem tabZ_zero (d : Nat → Int) (n : Nat) : tabZ d 0 n = List.replicate n 0 := by simp [tabZ, tab]
theorem tabZ_all (d : Nat → Int) (n : Nat) : tabZ d n n = tab d n := by simp [tabZ]
theorem tabZ_set {d : Nat → Int} {k n : Nat} (h : k < n) : (tabZ d k n).set k (d k) = tabZ d (k + 1) n := by
  unfold tabZ
  rw [List.set_append_right _ _ (by rw [tab_len]; omega), tab_len, Nat.sub_self, show n - k = (n - (k + 1)) + 1 by omega, List.replicate_succ, List.set_cons_zero, tab_succ, List.append_assoc]
  rfl
theorem tabZ_start {w w1 : World} {n : Nat} (d : Nat → Int) (h : w1.ownsRow w.heap.size 2 1 (.slice (some ⟨w.heap.size, 0, none⟩) n n) n (madeCells #[Value.int .i64 0] (n * 1)).toList) :
    OwnI w1 w.heap.size (.slice (some ⟨w.heap.size, 0, none⟩) n n) (tabZ d 0 n) := by
  unfold OwnI
  rw [tabZ_zero, List.length_replicate, ← zeros_made]
  exact h
theorem tabZ_step {w1 : World} {g n k base : Nat} {d : Nat → Int} (hk : k < n) (h : OwnI w1 base (.slice (some ⟨g, 0, none⟩) n n) (tabZ d k n)) :
    OwnI (w1.setCell ⟨g, k, none⟩ (.int .i64 (d k))) base (.slice (some ⟨g, 0, none⟩) n n) (tabZ d (k + 1) n) := by
  unfold OwnI at *
  rw [tabZ_len d (by omega)] at *
  have := (h.stored k (.int .i64 (d k))).1
  rw [← List.map_set, tabZ_set hk] at this
  exact this

end Go.Proofs.YtafbdnjabgfjeaaDoor
end
section
namespace Go.Proofs.YtafbdnjabgfjeaaDoor
open Go Go.RowKit

theorem sz_ok (A : Option Addr) (n c : Nat) (left : Int) (w : World) (h0 : 0 ≤ left) (h1 : left ≤ 1048576) (h : (n : Int) ≤ left) : Calls Tryd.prog 32 #[.slice A n c, .int .i64 left] w (RetV (.int .i64 (left - n)) w) := by
  go_enter Tryd.func32, Tryd.ntmps32
  go_wp2_with fail
  go_ret
  exact ⟨rfl, rfl⟩
theorem sz_no (A : Option Addr) (n c : Nat) (left : Int) (w : World) (h0 : 0 ≤ left) (h1 : left ≤ 1048576) (hn : (n : Int) ≤ 9223372036854775807) (h : left < (n : Int)) : Calls Tryd.prog 32 #[.slice A n c, .int .i64 left] w (RetV (.int .i64 (-1)) w) := by
  go_enter Tryd.func32, Tryd.ntmps32
  go_wp2_with fail
  go_ret
  exact ⟨rfl, rfl⟩

/-- The walk behind the two sizes. -/
theorem SlF.nil {w : World} {hi n : Nat} {v : Value} {fs : List Int} (h : SlF w hi v n fs) : fs.length = n * 6 := h.1

end Go.Proofs.YtafbdnjabgfjeaaDoor
end
