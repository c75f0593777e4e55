/- Slices of points, cell for cell: what they read as, what they own; conversions of one point. -/
import Derived.Test.YthhjkiiggokfkaaQl
import Derived.Maps.AppendAt
namespace Go.Proofs.Ythhjkiiggokfkaa
open Go Go.RowKit

/-- A point's value, cell for cell. -/
abbrev p6v (a b k c d l : Int) : Value := .agg #[.int .i64 a, .int .i64 b, .int .i64 k, .int .i64 c, .int .i64 d, .int .i64 l]
/-- The slice v, of n points, reads cell for cell as fs and lies below block hi. -/
def SlF (w : World) (hi : Nat) (v : Value) (n : Nat) (fs : List Int) : Prop :=
  fs.length = n * 6 ∧ ∃ (A : Option Addr) (c : Nat), v = .slice A n c ∧ n ≤ c ∧ (0 < n → ∃ b o, A = some ⟨b, o, none⟩ ∧ b < hi ∧ Cells w b o fs)
theorem SlF.below {w w' : World} {hi B n : Nat} {v : Value} {fs : List Int} (h : SlF w hi v n fs) (hb : Below B w w') (hB : hi ≤ B) : SlF w' hi v n fs := by
  obtain ⟨h0, A, c, h1, h2, h3⟩ := h
  refine ⟨h0, A, c, h1, h2, fun hn => ?_⟩
  obtain ⟨b, o, e, hlt, hc⟩ := h3 hn
  exact ⟨b, o, e, hlt, fun k hk => (hb.cell (p := ⟨b, o + k, none⟩) (by show b < B; omega)).trans (hc k hk)⟩
theorem SlF.mono {w : World} {hi hi' n : Nat} {v : Value} {fs : List Int} (h : SlF w hi v n fs) (hB : hi ≤ hi') : SlF w hi' v n fs := by
  obtain ⟨h0, A, c, h1, h2, h3⟩ := h
  refine ⟨h0, A, c, h1, h2, fun hn => ?_⟩
  obtain ⟨b, o, e, hlt, hc⟩ := h3 hn
  exact ⟨b, o, e, by omega, hc⟩
theorem SlF.kept {w w' : World} {row : Option Nat} {hi n : Nat} {v : Value} {fs : List Int} (h : SlF w hi v n fs) (hg : w.grownBy w' row) (hh : hi ≤ w.heap.size) (hr : ∀ k, row = some k → hi ≤ k) : SlF w' hi v n fs := by
  obtain ⟨h0, A, c, h1, h2, h3⟩ := h
  refine ⟨h0, A, c, h1, h2, fun hn => ?_⟩
  obtain ⟨b, o, e, hlt, hc⟩ := h3 hn
  exact ⟨b, o, e, hlt, fun k hk => (World.cell?_of_block (hg.block b (by omega) (fun e => by have := hr _ e.symm; omega))).trans (hc k hk)⟩
/-- The slice v owns n points, cell for cell fs, in a block from base on. -/
abbrev OwnF (w : World) (base : Nat) (v : Value) (n : Nat) (fs : List Int) : Prop := w.ownsRow base 39 6 v n (fs.map (Value.int .i64))
theorem OwnF.len {w : World} {base n : Nat} {v : Value} {fs : List Int} (h : OwnF w base v n fs) : fs.length = n * 6 := by have := h.1; simpa using this
theorem OwnF.sl {w : World} {base n : Nat} {v : Value} {fs : List Int} (h : OwnF w base v n fs) : SlF w w.heap.size v n fs := by
  refine ⟨OwnF.len h, ?_⟩
  have hl := OwnF.len h
  rcases h.2 with ⟨rfl, h0⟩ | ⟨g, cap, cur, rfl, hb, hg, hn, hm, hs, ht⟩
  · exact ⟨none, 0, by rw [h0], by omega, fun h => by omega⟩
  · refine ⟨some ⟨g, 0, none⟩, cap, rfl, hn, fun _ => ⟨g, 0, rfl, (Array.getElem?_eq_some_iff.1 hg).1, fun k hk => ?_⟩⟩
    have := h.cells (g := g) rfl k (.int .i64 (nth fs k)) (by rw [List.getElem?_map, List.getElem?_eq_getElem hk, nth_of hk]; rfl)
    rw [Nat.zero_add]
    have hadd : (⟨g, 0, none⟩ : Addr).add k = ⟨g, k, none⟩ := by unfold Addr.add; split <;> simp_all
    rw [hadd] at this
    exact this
theorem ownF_cell {w1 : World} {g n c base : Nat} {fs : List Int} (h : OwnF w1 base (.slice (some ⟨g, 0, none⟩) n c) n fs) {k : Nat} (hk : k < n * 6) : w1.cell? ⟨g, k, none⟩ = some (.int .i64 (nth fs k)) := by
  have hl := OwnF.len h
  rw [h.cellAt k (by omega), List.getElem?_map, List.getElem?_eq_getElem (by omega), nth_of (by omega)]; rfl

/-- A value; nothing old has turned. -/
def RetW (v : Value) (w : World) (e : Ending) (w' : World) : Prop := e = .returned v ∧ Below w.heap.size w w'
theorem cellsF {W w1 : World} (hb : Below W.heap.size W w1) : (∀ b o, b < W.heap.size → w1.cell? ⟨b, o, none⟩ = W.cell? ⟨b, o, none⟩) ∧ (∀ b o, b < W.heap.size → w1.frozen? ⟨b, o, none⟩ = W.frozen? ⟨b, o, none⟩) :=
  ⟨fun b o h => hb.cell (p := ⟨b, o, none⟩) h, fun b o h => hb.frozen (p := ⟨b, o, none⟩) h⟩

theorem below_undrew {w w' : World} (h : Below w.drew.heap.size w.drew w') : Below w.heap.size w w' := ⟨h.os, h.tape, h.output, h.size, h.block⟩

set_option maxHeartbeats 1000000 in
theorem toN3 (a b k : Int) (w : World) : Calls Try.prog 21 #[.agg #[.int .i64 a, .int .i64 b, .int .i64 k]] w (RetW (.agg #[.int .i64 a, .int .i64 b, .int .i64 k]) w) := by
  go_enter Try.func21, Try.ntmps21
  go_wp2_with fail
  exact bodyPost_ret (v := .agg #[.int .i64 a, .int .i64 b, .int .i64 k]) (by simp [results, Try.results21, go_sem]) rfl ⟨rfl, by (repeat (first | with_reducible exact Below.refl _ _ | with_reducible assumption | with_reducible refine below_drewN ?_ _ | with_reducible refine Below.drew ?_ | with_reducible refine Below.alloc ?_ (by first | omega | (simp; done) | (simp; omega)) _ | with_reducible refine Below.setCell ?_ (by first | omega | (simp; done) | (simp; omega)) _ | with_reducible refine Below.trans ?_ (Below.mono (by assumption) (by first | omega | (simp; done) | (simp; omega)))))⟩
set_option maxHeartbeats 1000000 in
theorem eqN3 (a b k : Int) (w : World) : Calls Try.prog 22 #[.agg #[.int .i64 a, .int .i64 b, .int .i64 k], .agg #[.int .i64 a, .int .i64 b, .int .i64 k]] w (RetW (.bool true) w) := by
  go_enter Try.func22, Try.ntmps22
  go_wp2_with fail
  go_ret
  exact ⟨rfl, by (repeat (first | with_reducible exact Below.refl _ _ | with_reducible assumption | with_reducible refine below_drewN ?_ _ | with_reducible refine Below.drew ?_ | with_reducible refine Below.alloc ?_ (by first | omega | (simp; done) | (simp; omega)) _ | with_reducible refine Below.setCell ?_ (by first | omega | (simp; done) | (simp; omega)) _ | with_reducible refine Below.trans ?_ (Below.mono (by assumption) (by first | omega | (simp; done) | (simp; omega)))))⟩
set_option maxHeartbeats 1000000 in
theorem toPt6 (a b k c d l : Int) (w : World) : Calls Try.prog 17 #[p6v a b k c d l] w (RetW (p6v a b k c d l) w) := by
  have H1 := Lib.hid (fun w => toN3 a b k w)
  have H2 := Lib.hid (fun w => toN3 c d l w)
  go_enter Try.func17, Try.ntmps17
  go_wp2_with fail
  refine (H1.out _).mono ?_
  rintro e w1 ⟨rfl, hb1⟩
  obtain ⟨hc1, hf1⟩ := cellsF hb1
  have hz1 := hb1.size
  simp at hz1
  have z1 : w.heap.size < w1.heap.size := by omega
  have z2 : w.heap.size + 1 < w1.heap.size := by omega
  have z3 : w.heap.size + 1 + 1 < w1.heap.size := by omega
  have z4 : w.heap.size < w.heap.size + 1 + 1 + 1 := by omega
  have z5 : w.heap.size + 1 < w.heap.size + 1 + 1 + 1 := by omega
  go_wp2_with fail
  refine (H2.out _).mono ?_
  rintro e w2 ⟨rfl, hb2⟩
  obtain ⟨hc2, hf2⟩ := cellsF hb2
  have hz2 := hb2.size
  simp at hz2
  have y1 : w.heap.size < w2.heap.size := by omega
  have y2 : w.heap.size + 1 < w2.heap.size := by omega
  have y3 : w.heap.size + 1 + 1 < w2.heap.size := by omega
  go_wp2_with fail
  exact bodyPost_ret (v := p6v a b k c d l) (by simp [results, Try.results17, go_sem, *]) rfl ⟨rfl, by (repeat (first | with_reducible exact Below.refl _ _ | with_reducible assumption | with_reducible refine below_drewN ?_ _ | with_reducible refine Below.drew ?_ | with_reducible refine Below.alloc ?_ (by first | omega | (simp; done) | (simp; omega)) _ | with_reducible refine Below.setCell ?_ (by first | omega | (simp; done) | (simp; omega)) _ | with_reducible refine Below.trans ?_ (Below.mono (by assumption) (by first | omega | (simp; done) | (simp; omega)))))⟩
set_option maxHeartbeats 1000000 in
theorem eqPt6 (a b k c d l : Int) (w : World) : Calls Try.prog 19 #[p6v a b k c d l, p6v a b k c d l] w (RetW (.bool true) w) := by
  have H1 := Lib.hid (fun w => eqN3 a b k w)
  have H2 := Lib.hid (fun w => eqN3 c d l w)
  go_enter Try.func19, Try.ntmps19
  go_wp2_with fail
  refine (H1.out _).mono ?_
  rintro e w1 ⟨rfl, hb1⟩
  obtain ⟨hc1, hf1⟩ := cellsF hb1
  have hz1 := hb1.size
  simp at hz1
  have z1 : w.heap.size < w1.heap.size := by omega
  have z2 : w.heap.size + 1 < w1.heap.size := by omega
  have z4 : w.heap.size < w.heap.size + 1 + 1 := by omega
  go_wp2_with fail
  refine (H2.out _).mono ?_
  rintro e w2 ⟨rfl, hb2⟩
  go_wp2_with fail
  go_ret
  exact ⟨rfl, by (repeat (first | with_reducible exact Below.refl _ _ | with_reducible assumption | with_reducible refine below_drewN ?_ _ | with_reducible refine Below.drew ?_ | with_reducible refine Below.alloc ?_ (by first | omega | (simp; done) | (simp; omega)) _ | with_reducible refine Below.setCell ?_ (by first | omega | (simp; done) | (simp; omega)) _ | with_reducible refine Below.trans ?_ (Below.mono (by assumption) (by first | omega | (simp; done) | (simp; omega)))))⟩
end Go.Proofs.Ythhjkiiggokfkaa
