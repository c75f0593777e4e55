/- Slices of points, cell for cell: what they read as, what they own; conversions of one point. -/
import Derived.Test.YtnhobilmgefhnaaQl
import Derived.Maps.AppendAt
namespace Go.Proofs.Ytnhobilmgefhnaa
open Go Go.RowKit

/-- A point's value, cell for cell. -/
abbrev p6v (a b k c d l : Int) : Value := .agg #[.int .i64 a, .int .i64 b, .int .i64 k, .int .i64 c, .int .i64 d, .int .i64 l]
/-- The slice v, of n points, reads cell for cell as fs and lies below block hi. -/
def SlF (w : World) (hi : Nat) (v : Value) (n : Nat) (fs : List Int) : Prop :=
  fs.length = n * 6 ∧ ∃ (A : Option Addr) (c : Nat), v = .slice A n c ∧ n ≤ c ∧ (0 < n → ∃ b o, A = some ⟨b, o, none⟩ ∧ b < hi ∧ Cells w b o fs)
theorem SlF.below {w w' : World} {hi B n : Nat} {v : Value} {fs : List Int} (h : SlF w hi v n fs) (hb : Below B w w') (hB : hi ≤ B) : SlF w' hi v n fs := by
  obtain ⟨h0, A, c, h1, h2, h3⟩ := h
  refine ⟨h0, A, c, h1, h2, fun hn => ?_⟩
  obtain ⟨b, o, e, hlt, hc⟩ := h3 hn
  exact ⟨b, o, e, hlt, fun k hk => (hb.cell (p := ⟨b, o + k, none⟩) (by show b < B; omega)).trans (hc k hk)⟩
theorem SlF.mono {w : World} {hi hi' n : Nat} {v : Value} {fs : List Int} (h : SlF w hi v n fs) (hB : hi ≤ hi') : SlF w hi' v n fs := by
  obtain ⟨h0, A, c, h1, h2, h3⟩ := h
  refine ⟨h0, A, c, h1, h2, fun hn => ?_⟩
  obtain ⟨b, o, e, hlt, hc⟩ := h3 hn
  exact ⟨b, o, e, by omega, hc⟩
theorem SlF.kept {w w' : World} {row : Option Nat} {hi n : Nat} {v : Value} {fs : List Int} (h : SlF w hi v n fs) (hg : w.grownBy w' row) (hh : hi ≤ w.heap.size) (hr : ∀ k, row = some k → hi ≤ k) : SlF w' hi v n fs := by
  obtain ⟨h0, A, c, h1, h2, h3⟩ := h
  refine ⟨h0, A, c, h1, h2, fun hn => ?_⟩
  obtain ⟨b, o, e, hlt, hc⟩ := h3 hn
  exact ⟨b, o, e, hlt, fun k hk => (World.cell?_of_block (hg.block b (by omega) (fun e => by have := hr _ e.symm; omega))).trans (hc k hk)⟩
/-- A value; nothing old has turned. -/
def RetW (v : Value) (w : World) (e : Ending) (w' : World) : Prop := e = .returned v ∧ Below w.heap.size w w'
theorem cellsF {W w1 : World} (hb : Below W.heap.size W w1) : (∀ b o, b < W.heap.size → w1.cell? ⟨b, o, none⟩ = W.cell? ⟨b, o, none⟩) ∧ (∀ b o, b < W.heap.size → w1.frozen? ⟨b, o, none⟩ = W.frozen? ⟨b, o, none⟩) :=
  ⟨fun b o h => hb.cell (p := ⟨b, o, none⟩) h, fun b o h => hb.frozen (p := ⟨b, o, none⟩) h⟩

theorem below_undrew {w w' : World} (h : Below w.drew.heap.size w.drew w') : Below w.heap.size w w' := ⟨h.os, h.tape, h.output, h.size, h.block⟩

end Go.Proofs.Ytnhobilmgefhnaa
