/- Slices of integers: what a slice reads as, what it owns; lists. -/
import Derived.Test.YtnhobilmgefhnaaProg
import Derived.WalkKit
import Derived.WalkSpells
import Derived.WalkLawsBesides
import Derived.Below
import Derived.OwnWalk
import Derived.Laws.OwnMore
import Derived.Lib.Hide
namespace Go.Proofs.Ytnhobilmgefhnaa
open Go Go.RowKit

def I64 (x : Int) : Prop := -9223372036854775808 ≤ x ∧ x ≤ 9223372036854775807
def Ints (xs : List Int) : Prop := ∀ x ∈ xs, I64 x
/-- The element k (0 behind the end), under a name that the walk leaves alone. -/
def nth (xs : List Int) (k : Nat) : Int := xs.getD k 0
theorem nth_of {xs : List Int} {k : Nat} (h : k < xs.length) : nth xs k = xs[k] := by simp [nth, List.getD, h]
theorem nth_mem {xs : List Int} {k : Nat} (h : k < xs.length) : nth xs k ∈ xs := by rw [nth_of h]; exact List.getElem_mem h
theorem nth_bd {xs : List Int} (hx : Ints xs) {k : Nat} (h : k < xs.length) : I64 (nth xs k) := hx _ (nth_mem h)
theorem nth_ext {xs ys : List Int} (hl : xs.length = ys.length) (h : ∀ k, k < xs.length → nth xs k = nth ys k) : xs = ys :=
  List.ext_getElem hl fun k h1 h2 => by rw [← nth_of h1, ← nth_of h2]; exact h k h1
theorem take_snoc {xs : List Int} {k : Nat} (h : k < xs.length) : xs.take (k + 1) = xs.take k ++ [nth xs k] := by
  rw [List.take_succ_eq_append_getElem h, nth_of h]

/-- The cells of block b from o on hold xs. -/
def Cells (w : World) (b o : Nat) (xs : List Int) : Prop := ∀ k, k < xs.length → w.cell? ⟨b, o + k, none⟩ = some (.int .i64 (nth xs k))
/-- The slice v reads as xs and lies below block hi. -/
def Sl (w : World) (hi : Nat) (v : Value) (xs : List Int) : Prop :=
  ∃ (A : Option Addr) (c : Nat), v = .slice A xs.length c ∧ xs.length ≤ c ∧ (0 < xs.length → ∃ b o, A = some ⟨b, o, none⟩ ∧ b < hi ∧ Cells w b o xs)

theorem Sl.below {w w' : World} {hi B : Nat} {v : Value} {xs : List Int} (h : Sl w hi v xs) (hb : Below B w w') (hB : hi ≤ B) : Sl w' hi v xs := by
  obtain ⟨A, c, h1, h2, h3⟩ := h
  refine ⟨A, c, h1, h2, fun h0 => ?_⟩
  obtain ⟨b, o, e, hlt, hc⟩ := h3 h0
  exact ⟨b, o, e, hlt, fun k hk => (hb.cell (p := ⟨b, o + k, none⟩) (by show b < B; omega)).trans (hc k hk)⟩
theorem Sl.mono {w : World} {hi hi' : Nat} {v : Value} {xs : List Int} (h : Sl w hi v xs) (hB : hi ≤ hi') : Sl w hi' v xs := by
  obtain ⟨A, c, h1, h2, h3⟩ := h
  refine ⟨A, c, h1, h2, fun h0 => ?_⟩
  obtain ⟨b, o, e, hlt, hc⟩ := h3 h0
  exact ⟨b, o, e, by omega, hc⟩
theorem Sl.drewN {w : World} {hi : Nat} {v : Value} {xs : List Int} (h : Sl w hi v xs) (n : Nat) : Sl (w.drewN n) hi v xs := h
theorem Sl.kept {w w' : World} {row : Option Nat} {hi : Nat} {v : Value} {xs : List Int} (h : Sl w hi v xs) (hg : w.grownBy w' row) (hh : hi ≤ w.heap.size) (hr : ∀ k, row = some k → hi ≤ k) : Sl w' hi v xs := by
  obtain ⟨A, c, h1, h2, h3⟩ := h
  refine ⟨A, c, h1, h2, fun h0 => ?_⟩
  obtain ⟨b, o, e, hlt, hc⟩ := h3 h0
  exact ⟨b, o, e, hlt, fun k hk => (World.cell?_of_block (hg.block b (by omega) (fun e => by have := hr _ e.symm; omega))).trans (hc k hk)⟩

/-- The slice v owns the integers xs, in a block from base on; nil owns none. -/
abbrev OwnI (w : World) (base : Nat) (v : Value) (xs : List Int) : Prop := w.ownsRow base 2 1 v xs.length (xs.map (Value.int .i64))

theorem OwnI.sl {w : World} {base : Nat} {v : Value} {xs : List Int} (h : OwnI w base v xs) : Sl w w.heap.size v xs := by
  rcases h.2 with ⟨rfl, h0⟩ | ⟨g, cap, cur, rfl, hb, hg, hn, hm, hs, ht⟩
  · exact ⟨none, 0, by rw [h0], by omega, fun h => by omega⟩
  · refine ⟨some ⟨g, 0, none⟩, cap, rfl, hn, fun _ => ⟨g, 0, rfl, (Array.getElem?_eq_some_iff.1 hg).1, fun k hk => ?_⟩⟩
    have := h.cells (g := g) rfl k (.int .i64 (nth xs k)) (by rw [List.getElem?_map, List.getElem?_eq_getElem hk, nth_of hk]; rfl)
    rw [Nat.zero_add]
    have hadd : (⟨g, 0, none⟩ : Addr).add k = ⟨g, k, none⟩ := by unfold Addr.add; split <;> simp_all
    rw [hadd] at this
    exact this

/-- Where an owned row lies. -/
theorem own_row {w : World} {base : Nat} {e : TypeId} {size : Nat} {v : Value} {n : Nat} {xs : List Value} (h : w.ownsRow base e size v n xs) : ∀ k, v.ownBlock = some k → base ≤ k ∧ k < w.heap.size := h.lt

/-- What is owned below B stays owned. -/
theorem own_below {w w' : World} {base B : Nat} {e : TypeId} {size : Nat} {v : Value} {n : Nat} {xs : List Value} (h : w.ownsRow base e size v n xs) (hb : Below B w w') (hB : w.heap.size ≤ B) : w'.ownsRow base e size v n xs := by
  refine ⟨h.1, ?_⟩
  rcases h.2 with hn | ⟨g, cap, cur, rfl, hb', hg, rest⟩
  · exact .inl hn
  · refine .inr ⟨g, cap, cur, rfl, hb', ?_, rest⟩
    rw [hb.block g (by have := (Array.getElem?_eq_some_iff.1 hg).1; omega)]
    exact hg

/-- The whole world but one row. -/
theorem grown_below {w w' : World} {row : Option Nat} {B : Nat} (hg : w.grownBy w' row) (hB : B ≤ w.heap.size) (hr : ∀ k, row = some k → B ≤ k) : Below B w w' :=
  (Below.refl B w).grown hg hB hr

theorem grownBy_refl (w : World) (row : Option Nat) : w.grownBy w row := ⟨rfl, rfl, rfl, Nat.le_refl _, fun _ _ _ => rfl⟩
theorem grownBy_trans {a b c : World} {row : Option Nat} (h : a.grownBy b row) (k : b.grownBy c row) : a.grownBy c row :=
  ⟨k.os.trans h.os, k.tape.trans h.tape, k.output.trans h.output, Nat.le_trans h.size k.size, fun i hi hn => (k.block i (Nat.lt_of_lt_of_le hi h.size) hn).trans (h.block i hi hn)⟩

/-- xs as far as k, zeros behind: a copy under way. -/
def part (xs : List Int) (k : Nat) : List Int := xs.take k ++ List.replicate (xs.length - k) 0
theorem part_len (xs : List Int) (k : Nat) (h : k ≤ xs.length) : (part xs k).length = xs.length := by simp [part]; omega
theorem part_zero (xs : List Int) : part xs 0 = List.replicate xs.length 0 := by simp [part]
theorem part_all (xs : List Int) : part xs xs.length = xs := by simp [part]
theorem part_set {xs : List Int} {k : Nat} (h : k < xs.length) : (part xs k).set k (nth xs k) = part xs (k + 1) := by
  unfold part
  rw [take_snoc h, List.set_append_right _ _ (by simp; omega)]
  simp only [List.length_take, Nat.min_eq_left (Nat.le_of_lt h), Nat.sub_self, List.append_assoc, List.singleton_append]
  rw [show xs.length - k = (xs.length - (k + 1)) + 1 by omega, List.replicate_succ, List.set_cons_zero]

/-- k, k + 1, .. -/
def marks (m : Int) (n : Nat) : List Int := (List.range n).map fun (j : Nat) => m + (j : Int)
theorem marks_len (m : Int) (n : Nat) : (marks m n).length = n := by simp [marks]
theorem marks_nth {m : Int} {n k : Nat} (h : k < n) : nth (marks m n) k = m + k := by
  rw [nth_of (by rw [marks_len]; exact h)]; simp [marks]
/-- The first k marked. -/
def marked (m : Int) (xs : List Int) (k : Nat) : List Int := marks m k ++ xs.drop k
theorem marked_len (m : Int) (xs : List Int) (k : Nat) (h : k ≤ xs.length) : (marked m xs k).length = xs.length := by simp [marked, marks_len]; omega
theorem marked_zero (m : Int) (xs : List Int) : marked m xs 0 = xs := by simp [marked, marks]
theorem marked_all (m : Int) (xs : List Int) : marked m xs xs.length = marks m xs.length := by simp [marked]
theorem marks_succ (m : Int) (k : Nat) : marks m (k + 1) = marks m k ++ [m + k] := by simp [marks, List.range_succ]
theorem marked_set {m : Int} {xs : List Int} {k : Nat} (h : k < xs.length) : (marked m xs k).set k (m + k) = marked m xs (k + 1) := by
  unfold marked
  rw [List.set_append_right _ _ (by rw [marks_len]; omega), marks_len, Nat.sub_self, List.drop_eq_getElem_cons h, List.set_cons_zero, marks_succ, List.append_assoc]
  rfl
end Go.Proofs.Ytnhobilmgefhnaa
