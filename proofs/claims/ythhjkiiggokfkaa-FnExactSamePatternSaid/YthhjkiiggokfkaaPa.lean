/- Slices of creases, cell for cell: what they read as, what they own; one crease copied and compared. -/
import Derived.Test.YthhjkiiggokfkaaQpb
namespace Go.Proofs.Ythhjkiiggokfkaa
open Go Go.RowKit

/-- A crease's value, cell for cell. -/
abbrev c3v (a b k : Int) : Value := .agg #[.int .i64 a, .int .i64 b, .int .i64 k]
/-- The slice v, of n creases, reads cell for cell as fs and lies below block hi. -/
def SlC (w : World) (hi : Nat) (v : Value) (n : Nat) (fs : List Int) : Prop :=
  fs.length = n * 3 ∧ ∃ (A : Option Addr) (c : Nat), v = .slice A n c ∧ n ≤ c ∧ (0 < n → ∃ b o, A = some ⟨b, o, none⟩ ∧ b < hi ∧ Cells w b o fs)
theorem SlC.below {w w' : World} {hi B n : Nat} {v : Value} {fs : List Int} (h : SlC w hi v n fs) (hb : Below B w w') (hB : hi ≤ B) : SlC w' hi v n fs := by
  obtain ⟨h0, A, c, h1, h2, h3⟩ := h
  refine ⟨h0, A, c, h1, h2, fun hn => ?_⟩
  obtain ⟨b, o, e, hlt, hc⟩ := h3 hn
  exact ⟨b, o, e, hlt, fun k hk => (hb.cell (p := ⟨b, o + k, none⟩) (by show b < B; omega)).trans (hc k hk)⟩
theorem SlC.mono {w : World} {hi hi' n : Nat} {v : Value} {fs : List Int} (h : SlC w hi v n fs) (hB : hi ≤ hi') : SlC w hi' v n fs := by
  obtain ⟨h0, A, c, h1, h2, h3⟩ := h
  refine ⟨h0, A, c, h1, h2, fun hn => ?_⟩
  obtain ⟨b, o, e, hlt, hc⟩ := h3 hn
  exact ⟨b, o, e, by omega, hc⟩
/-- The slice v owns n creases, cell for cell fs, in a block from base on. -/
abbrev OwnC (w : World) (base : Nat) (v : Value) (n : Nat) (fs : List Int) : Prop := w.ownsRow base 41 3 v n (fs.map (Value.int .i64))
theorem OwnC.len {w : World} {base n : Nat} {v : Value} {fs : List Int} (h : OwnC w base v n fs) : fs.length = n * 3 := by have := h.1; simpa using this
theorem OwnC.sl {w : World} {base n : Nat} {v : Value} {fs : List Int} (h : OwnC w base v n fs) : SlC w w.heap.size v n fs := by
  refine ⟨OwnC.len h, ?_⟩
  have hl := OwnC.len h
  rcases h.2 with ⟨rfl, h0⟩ | ⟨g, cap, cur, rfl, hb, hg, hn, hm, hs, ht⟩
  · exact ⟨none, 0, by rw [h0], by omega, fun h => by omega⟩
  · refine ⟨some ⟨g, 0, none⟩, cap, rfl, hn, fun _ => ⟨g, 0, rfl, (Array.getElem?_eq_some_iff.1 hg).1, fun k hk => ?_⟩⟩
    have := h.cells (g := g) rfl k (.int .i64 (nth fs k)) (by rw [List.getElem?_map, List.getElem?_eq_getElem hk, nth_of hk]; rfl)
    rw [Nat.zero_add]
    have hadd : (⟨g, 0, none⟩ : Addr).add k = ⟨g, k, none⟩ := by unfold Addr.add; split <;> simp_all
    rw [hadd] at this
    exact this
theorem ownC_cell {w1 : World} {g n c base : Nat} {fs : List Int} (h : OwnC w1 base (.slice (some ⟨g, 0, none⟩) n c) n fs) {k : Nat} (hk : k < n * 3) : w1.cell? ⟨g, k, none⟩ = some (.int .i64 (nth fs k)) := by
  have hl := OwnC.len h
  rw [h.cellAt k (by omega), List.getElem?_map, List.getElem?_eq_getElem (by omega), nth_of (by omega)]; rfl
theorem three {w : World} {b o n k : Nat} {fs : List Int} (h : Cells w b o fs) (hl : fs.length = n * 3) (hk : k < n) :
    w.cell? ⟨b, o + k * 3, none⟩ = some (.int .i64 (nth fs (k * 3))) ∧ w.cell? ⟨b, o + k * 3 + 1, none⟩ = some (.int .i64 (nth fs (k * 3 + 1))) ∧ w.cell? ⟨b, o + k * 3 + 2, none⟩ = some (.int .i64 (nth fs (k * 3 + 2))) :=
  ⟨h (k * 3) (by omega), h (k * 3 + 1) (by omega), h (k * 3 + 2) (by omega)⟩

theorem infoC : (Try.prog.info? 41).map (fun i => (i.zero, i.size, i.bytes)) = some (some (c3v 0 0 0), 3, 24) := by kernel_rfl
set_option maxHeartbeats 1000000 in
theorem toCr3 (a b k : Int) (w : World) : Calls Try.prog 18 #[c3v a b k] w (RetW (c3v a b k) w) := by
  go_enter Try.func18, Try.ntmps18
  go_wp2_with fail
  exact bodyPost_ret (v := c3v a b k) (by simp [results, Try.results18, go_sem]) rfl ⟨rfl, by (repeat (first | with_reducible exact Below.refl _ _ | with_reducible assumption | with_reducible refine below_drewN ?_ _ | with_reducible refine Below.drew ?_ | with_reducible refine Below.alloc ?_ (by first | omega | (simp; done) | (simp; omega)) _ | with_reducible refine Below.setCell ?_ (by first | omega | (simp; done) | (simp; omega)) _ | with_reducible refine Below.trans ?_ (Below.mono (by assumption) (by first | omega | (simp; done) | (simp; omega)))))⟩
set_option maxHeartbeats 1000000 in
theorem eqCr3 (a b k : Int) (w : World) : Calls Try.prog 20 #[c3v a b k, c3v a b k] w (RetW (.bool true) w) := by
  go_enter Try.func20, Try.ntmps20
  go_wp2_with fail
  go_ret
  exact ⟨rfl, by (repeat (first | with_reducible exact Below.refl _ _ | with_reducible assumption | with_reducible refine below_drewN ?_ _ | with_reducible refine Below.drew ?_ | with_reducible refine Below.alloc ?_ (by first | omega | (simp; done) | (simp; omega)) _ | with_reducible refine Below.setCell ?_ (by first | omega | (simp; done) | (simp; omega)) _ | with_reducible refine Below.trans ?_ (Below.mono (by assumption) (by first | omega | (simp; done) | (simp; omega)))))⟩

/-! ### Copies out of the laws' creases -/
theorem zeros_madeC (n : Nat) : (madeCells (c3v 0 0 0).cells (n * 3)).toList = (List.replicate (n * 3) (0 : Int)).map (Value.int .i64) := by
  apply List.ext_getElem
  · simp [madeCells]
  · intro k h1 h2
    have hk : k % 3 < 3 := Nat.mod_lt _ (by decide)
    simp only [madeCells, Value.cells, List.getElem_map, List.getElem_replicate]
    rcases (show k % 3 = 0 ∨ k % 3 = 1 ∨ k % 3 = 2 by omega) with h | h | h <;> simp [h]
theorem copyC_start {w w1 : World} {n : Nat} {fs : List Int} (hl : fs.length = n * 3) (h : w1.ownsRow w.heap.size 41 3 (.slice (some ⟨w.heap.size, 0, none⟩) n n) n (madeCells (c3v 0 0 0).cells (n * 3)).toList) :
    OwnC w1 w.heap.size (.slice (some ⟨w.heap.size, 0, none⟩) n n) n (part fs (0 * 3)) := by
  unfold OwnC
  rw [Nat.zero_mul, part_zero, hl, ← zeros_madeC]
  exact h
theorem copyC1 {w1 : World} {g n c base j : Nat} {x : Int} {fs : List Int} (hl : fs.length = n * 3) (hj : j < n * 3) (hx : x = nth fs j) (h : OwnC w1 base (.slice (some ⟨g, 0, none⟩) n c) n (part fs j)) :
    OwnC (w1.setCell ⟨g, j, none⟩ (.int .i64 x)) base (.slice (some ⟨g, 0, none⟩) n c) n (part fs (j + 1)) := by
  subst hx
  have := (h.stored j (.int .i64 (nth fs j))).1
  rw [← List.map_set, part_set (by omega)] at this
  exact this
theorem copyC3 {w1 : World} {g n c base k : Nat} {fs : List Int} (hl : fs.length = n * 3) (hk : k < n) (h : OwnC w1 base (.slice (some ⟨g, 0, none⟩) n c) n (part fs (k * 3))) :
    OwnC (((w1.setCell ⟨g, k * 3, none⟩ (.int .i64 (nth fs (k * 3)))).setCell ⟨g, k * 3 + 1, none⟩ (.int .i64 (nth fs (k * 3 + 1)))).setCell ⟨g, k * 3 + 2, none⟩ (.int .i64 (nth fs (k * 3 + 2)))) base (.slice (some ⟨g, 0, none⟩) n c) n (part fs ((k + 1) * 3)) := by
  rw [show (k + 1) * 3 = k * 3 + 1 + 1 + 1 by omega]
  exact copyC1 hl (by omega) rfl (copyC1 hl (by omega) rfl (copyC1 hl (by omega) rfl h))
/-- A slice of creases of the call's own, nothing old turned. -/
def RetOC (n : Nat) (fs : List Int) (w : World) (e : Ending) (w' : World) : Prop := ∃ v, e = .returned v ∧ OwnC w' w.heap.size v n fs ∧ Below w.heap.size w w'

set_option maxRecDepth 100000 in
set_option maxHeartbeats 4000000 in
theorem toC_any (v : Value) (n : Nat) (fs : List Int) (w : World) (h : SlC w w.heap.size v n fs) (hl : n ≤ 1048576) :
    Calls Try.prog 12 #[v] w (RetOC n fs w) := by
  obtain ⟨h6, A, c, rfl, hc, hcell⟩ := h
  have HC := Lib.hid hcell
  have H6 := Lib.hid h6
  have HE := Lib.hid (fun a b k w => toCr3 a b k w)
  clear hcell h6
  obtain ⟨i0, hi, hz0, hz1, hz2⟩ := info_parts infoC
  go_enter Try.func12, Try.ntmps12
  go_wp2_with (at_make; refine wpList_make_full _ rfl _ _ 29 rfl w.heap.size 41 i0 (c3v 0 0 0) 3 Try.underlying29 hi hz0 hz1 .i64 .i64 _ _ n rfl rfl rfl rfl (by rw [hz2]; omega) (by unfold maxLen; omega) (Nat.le_refl _) ?_; intro w0 hown0 hgrow0)
  have H0 := copyC_start H6.out hown0
  have B0 := grown_below hgrow0 (Nat.le_refl _) (fun k h => by cases h)
  clear hown0 hgrow0
  go_loopw [4] (fun i wr => ∃ k : Nat, k ≤ n ∧ i = .int .i64 k ∧ OwnC wr w.heap.size (.slice (some ⟨w.heap.size, 0, none⟩) n n) n (part fs (k * 3)) ∧ Below w.heap.size w wr) (fun i _ => n - (intOf i).toNat)
  case atStart => exact ⟨0, Nat.zero_le _, rfl, H0, B0⟩
  case round =>
    obtain ⟨k, hk, rfl, hown, hbel⟩ := hrel
    clear H0 B0
    by_cases hlt : k < n
    · obtain ⟨b, o, rfl, hb, hcs⟩ := HC.out (by omega)
      obtain ⟨a0, a1, a2⟩ := three (hcs.below hbel hb) H6.out hlt
      have HF := Lib.hid (fun w => HE.out (nth fs (k * 3)) (nth fs (k * 3 + 1)) (nth fs (k * 3 + 2)) w)
      clear hcs
      go_wp2_with fail
      refine (HF.out _).mono ?_
      rintro e w1 ⟨rfl, hb1⟩
      have ho1 := own_below hown hb1 (Nat.le_refl _)
      have B1 := hbel.trans (hb1.mono hbel.size)
      have c0 := ownC_cell ho1 (k := k * 3) (by omega)
      have c1 := ownC_cell ho1 (k := k * 3 + 1) (by omega)
      have c2 := ownC_cell ho1 (k := k * 3 + 2) (by omega)
      have f0 := ho1.frozenAt (k * 3)
      have f1 := ho1.frozenAt (k * 3 + 1)
      have f2 := ho1.frozenAt (k * 3 + 2)
      have HS := Lib.hid (copyC3 H6.out hlt ho1)
      clear hown ho1
      go_wp2_with fail
      go_roundw
      case rel => exact ⟨k + 1, by omega, by go_num, HS.out, (((B1.setCell (p := ⟨w.heap.size, k * 3, none⟩) (Nat.le_refl _) _).setCell (p := ⟨w.heap.size, k * 3 + 1, none⟩) (Nat.le_refl _) _).setCell (p := ⟨w.heap.size, k * 3 + 2, none⟩) (Nat.le_refl _) _)⟩
      case measure => simp [intOf]; omega
    · go_wp2_with fail
      go_ret
      obtain rfl : k = n := by omega
      refine ⟨_, rfl, ?_, hbel⟩
      rw [← H6.out, part_all] at hown
      exact hown

set_option maxRecDepth 100000 in
set_option maxHeartbeats 4000000 in
theorem eqC_same (v v' : Value) (n : Nat) (fs : List Int) (w : World) (h : SlC w w.heap.size v n fs) (h' : SlC w w.heap.size v' n fs) (hl : n ≤ 1048576) :
    Calls Try.prog 16 #[v, v'] w (RetW (.bool true) w) := by
  obtain ⟨h6, A, c, rfl, hc, hcell⟩ := h
  obtain ⟨_, A', c', rfl, hc', hcell'⟩ := h'
  have HC := Lib.hid hcell
  have HC' := Lib.hid hcell'
  have H6 := Lib.hid h6
  have HE := Lib.hid (fun a b k w => eqCr3 a b k w)
  clear hcell hcell' h6
  go_enter Try.func16, Try.ntmps16
  go_wp2_with fail
  go_loopw [5] (fun i wr => ∃ k : Nat, k ≤ n ∧ i = .int .i64 k ∧ Below w.heap.size w wr) (fun i _ => n - (intOf i).toNat)
  case atStart => exact ⟨0, Nat.zero_le _, rfl, Below.refl _ _⟩
  case round =>
    obtain ⟨k, hk, rfl, hbel⟩ := hrel
    by_cases hlt : k < n
    · obtain ⟨b, o, rfl, hb, hcs⟩ := HC.out (by omega)
      obtain ⟨b', o', rfl, hb', hcs'⟩ := HC'.out (by omega)
      obtain ⟨a0, a1, a2⟩ := three (hcs.below hbel hb) H6.out hlt
      obtain ⟨d0, d1, d2⟩ := three (hcs'.below hbel hb') H6.out hlt
      have hsz := hbel.size
      have q1 : b < wr.heap.size := by omega
      have q2 : b' < wr.heap.size := by omega
      have i0 : (0 : Int) ≤ (k : Int) := by omega
      have i1 : (k : Int) < (n : Int) := by omega
      generalize nth fs (k * 3) = x0 at *
      generalize nth fs (k * 3 + 1) = x1 at *
      generalize nth fs (k * 3 + 2) = x2 at *
      have HF := Lib.hid (fun w => HE.out x0 x1 x2 w)
      clear hcs hcs'
      go_wp2_with fail
      go_region_held3 (fun w' => w'.cell? ⟨b, o + k * 3, none⟩ = some (.int .i64 x0) ∧ w'.cell? ⟨b, o + k * 3 + 1, none⟩ = some (.int .i64 x1) ∧ w'.cell? ⟨b, o + k * 3 + 2, none⟩ = some (.int .i64 x2) ∧ w'.cell? ⟨b', o' + k * 3, none⟩ = some (.int .i64 x0) ∧ w'.cell? ⟨b', o' + k * 3 + 1, none⟩ = some (.int .i64 x1) ∧ w'.cell? ⟨b', o' + k * 3 + 2, none⟩ = some (.int .i64 x2)) ((first | (go_simp; done) | (simp [*]; done))) ((go_at_call 20; refine (HF.out _).mono ?_; rintro e w1 ⟨rfl, hb1⟩; (try replace hb1 := below_undrew hb1); obtain ⟨hc1, hf1⟩ := cellsF hb1; have hz1 := hb1.size))
      go_wp2_with fail
      go_roundw
      case rel => exact ⟨k + 1, by omega, by go_num, by first | exact hbel.trans (hb1.mono hsz) | exact (hbel.trans (hb1.mono hsz)).drew⟩
      case measure => simp [intOf]; omega
    · go_wp2_with fail
      go_ret
      exact ⟨rfl, hbel⟩
end Go.Proofs.Ythhjkiiggokfkaa
