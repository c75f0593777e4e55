/- slices.Backward over integers: its contract. -/
import Derived.Test.YtdnkgnknjhnjiaaQt
import Derived.RangeFuncBox
import Derived.RangeFuncLeaves
import Derived.RangeFuncWrites
import Derived.Shelf.Abstract
import Derived.OwnWalkIn
import Derived.TacticsInMore
import Derived.LoopNIn
import Derived.LoopIn
namespace Go.Proofs.Ytdnkgnknjhnjiaa
open Go Go.RowKit Go.Shelf
attribute [local go_sem] Oper.semAt_some

/-- What has come when k rounds are over. -/
def upto {α : Type} (f : Nat → α) (k : Nat) : List α := (List.range k).map f
theorem upto_succ {α : Type} (f : Nat → α) (k : Nat) : upto f (k + 1) = upto f k ++ [f k] := by simp [upto, List.range_succ]
theorem upto_len {α : Type} (f : Nat → α) (k : Nat) : (upto f k).length = k := by simp [upto]

/-- An index below n, and a value. -/
abbrev Ix (n : Nat) := { p : Nat × Int // p.1 < n }
def ixE {n : Nat} (x : Ix n) : Array Value := #[Value.int .i64 (x.1.1 : Int), Value.int .i64 x.1.2]
/-- What comes in round j of a range from behind. -/
def bk (xs : List Int) (n : Nat) (hp : 0 < n) (j : Nat) : Ix n := ⟨(n - 1 - j, nth xs (n - 1 - j)), by show n - 1 - j < n; omega⟩
theorem bk_at (xs : List Int) {n p : Nat} (hp : 0 < n) (h : p < n) : bk xs n hp (n - (p + 1)) = ⟨(p, nth xs p), h⟩ := by
  apply Subtype.ext
  show (n - 1 - (n - (p + 1)), nth xs (n - 1 - (n - (p + 1)))) = (p, nth xs p)
  rw [show n - 1 - (n - (p + 1)) = p by omega]

/-- What a round keeps: all below n₀, and the box Bs. -/
def Kb (n₀ Bs : Nat) (W W' : World) : Prop := Below n₀ W W' ∧ W'.heap[Bs]? = W.heap[Bs]?
theorem kb_t {n₀ Bs : Nat} {A B C : World} (h : Kb n₀ Bs A B) (k : Kb n₀ Bs B C) : Kb n₀ Bs A C := ⟨h.1.trans k.1, k.2.trans h.2⟩
theorem kb_b {n₀ Bs : Nat} {w : World} (hn : n₀ ≤ w.heap.size) (hB : Bs < w.heap.size) (W : World) (l : Nat) (o o' : Obj) (hl : w.heap.size ≤ l) (h : W.heap[l]? = some o) (hc : o.isCells = false) (hw : o.isWalk = false) : Kb n₀ Bs W (W.putObj l o') :=
  ⟨belowK_b hn W l o o' hl h hc hw, (grownBy_putObj' W l o').block Bs (by have := (Array.getElem?_eq_some_iff.1 h).1; omega) (fun e => by cases e; omega)⟩

end Go.Proofs.Ytdnkgnknjhnjiaa
