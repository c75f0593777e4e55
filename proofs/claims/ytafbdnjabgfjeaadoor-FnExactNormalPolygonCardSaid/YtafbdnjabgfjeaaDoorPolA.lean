/- Joined slices of points (slices.Concat of two, slices.Grow): by the program. -/
import Derived.Test.YtafbdnjabgfjeaaDoorGl
import Derived.Test.YtafbdnjabgfjeaaDoorGc
import Derived.Test.YtafbdnjabgfjeaaDoorSeqq
import Derived.Test.YtafbdnjabgfjeaaDoorGop
import Derived.Deep.Strs
import Derived.Deep.RegionLawGrows
import Derived.Deep.RegionHeld3
import Derived.Lib.AppendZeros
section
namespace Go.Proofs.YtafbdnjabgfjeaaDoor
open Go Go.RowKit OriM
namespace Pol
variable {β : Bool}

/-- The cells of n points are 64-bit integers. -/
def C64 (n : Nat) (fs : List Int) : Prop := ∀ j, j < n * 6 → I64 (nth fs j)
abbrev ptV (fs : List Int) (k : Nat) : Value := p6v (nth fs (k * 6)) (nth fs (k * 6 + 1)) (nth fs (k * 6 + 2)) (nth fs (k * 6 + 3)) (nth fs (k * 6 + 4)) (nth fs (k * 6 + 5))
def vAt (fs : List Int) (k : Nat) : Bool := vP (nth fs (k * 6)) (nth fs (k * 6 + 1)) (nth fs (k * 6 + 2)) (nth fs (k * 6 + 3)) (nth fs (k * 6 + 4)) (nth fs (k * 6 + 5))
noncomputable def gAt (fs : List Int) (k : Nat) : P4 := gP (nth fs (k * 6)) (nth fs (k * 6 + 1)) (nth fs (k * 6 + 2)) (nth fs (k * 6 + 3)) (nth fs (k * 6 + 4)) (nth fs (k * 6 + 5))
theorem i6_at {n : Nat} {fs : List Int} {k : Nat} (h : C64 n fs) (hk : k < n) : I6 (nth fs (k * 6)) (nth fs (k * 6 + 1)) (nth fs (k * 6 + 2)) (nth fs (k * 6 + 3)) (nth fs (k * 6 + 4)) (nth fs (k * 6 + 5)) := by
  have h0 := h (k * 6) (by omega)
  have h1 := h (k * 6 + 1) (by omega)
  have h2 := h (k * 6 + 2) (by omega)
  have h3 := h (k * 6 + 3) (by omega)
  have h4 := h (k * 6 + 4) (by omega)
  have h5 := h (k * 6 + 5) (by omega)
  unfold I64 at *
  constructor <;> (constructor <;> omega)
/-- A bool that says whether p holds; nothing old has turned. -/
def RetQb (p : Prop) (w : World) (e : Ending) (w' : World) : Prop := ∃ b : Bool, e = .returned (.bool b) ∧ (b = true ↔ p) ∧ Below w.heap.size w w'
/-- From three to sixteen valid points. -/
def HCo (n : Nat) (fs : List Int) : Prop := 3 ≤ n ∧ n ≤ 16 ∧ ∀ k, k < n → vAt fs k = true

theorem hc1_any {a b k c d l : Int} (h : I6 a b k c d l) (w : World) (hT : LT β w) : Calls Tryd.prog 145 #[pt a b k c d l] w (RetB (.bool (!vP a b k c d l)) w) := by
  have H := Lib.hid fun w (hT : LT β w) => iVP_any h w hT
  clear h
  generalize vP a b k c d l = v at *
  go_enter Tryd.func145, Tryd.ntmps145
  go_wp2_with fail
  refine (H.out _ ?_).mono ?_
  · exact LT.below (w := w) hT (by (repeat (first | with_reducible exact Below.refl _ _ | with_reducible assumption | with_reducible refine below_drewN ?_ _ | with_reducible refine Below.drew ?_ | with_reducible refine Below.alloc ?_ (by first | omega | (simp; done) | (simp; omega)) _ | with_reducible refine Below.setCell ?_ (by first | omega | (simp; done) | (simp; omega)) _ | with_reducible refine Below.trans ?_ (Below.mono (by assumption) (by first | omega | (simp; done) | (simp; omega)))))) (Nat.le_refl _)
  rintro e w1 ⟨rfl, hb1⟩
  go_wp2_with fail
  go_ret
  exact ⟨rfl, by (repeat (first | with_reducible exact Below.refl _ _ | with_reducible assumption | with_reducible refine below_drewN ?_ _ | with_reducible refine Below.drew ?_ | with_reducible refine Below.alloc ?_ (by first | omega | (simp; done) | (simp; omega)) _ | with_reducible refine Below.setCell ?_ (by first | omega | (simp; done) | (simp; omega)) _ | with_reducible refine Below.trans ?_ (Below.mono (by assumption) (by first | omega | (simp; done) | (simp; omega)))))⟩

set_option maxHeartbeats 2000000 in
theorem idxF_any (v : Value) (n : Nat) (fs : List Int) (w : World) (h : SlF w w.heap.size v n fs) (h64 : C64 n fs) (hT : LT β w) (hl : n ≤ 1048576) :
    Calls Tryd.prog 169 #[v, .func (.func 145) #[] #[]] w
      fun e w' => ∃ r : Int, e = .returned (.int .i64 r) ∧ (0 ≤ r ↔ ∃ k, k < n ∧ vAt fs k = false) ∧ -1 ≤ r ∧ r ≤ 1048576 ∧ Below w.heap.size w w' := by
  obtain ⟨h6, A, c, rfl, hc, hcell⟩ := h
  have HC := Lib.hid hcell
  have H6 := Lib.hid h6
  have HI := Lib.hid h64
  clear hcell h6 h64
  go_enter Tryd.func169, Tryd.ntmps169
  go_wp2_with fail
  go_loopw [8] (fun i wr => ∃ k : Nat, k ≤ n ∧ i = .int .i64 k ∧ Hid (∀ j, j < k → vAt fs j = true) ∧ Below w.heap.size w wr) (fun i _ => n - (intOf i).toNat)
  case atStart => exact ⟨0, Nat.zero_le _, rfl, Lib.hid (fun j hj => absurd hj (by omega)), Below.refl _ _⟩
  case round =>
    obtain ⟨k, hk, rfl, hall, hbel⟩ := hrel
    by_cases hlt : k < n
    · obtain ⟨b, o, rfl, hb, hcs⟩ := HC.out (by omega)
      obtain ⟨a0, a1, a2, a3, a4, a5⟩ := six (hcs.below hbel hb) H6.out hlt
      have hsz := hbel.size
      have HF := Lib.hid (fun w (hT : LT β w) => hc1_any (i6_at HI.out hlt) w hT)
      cases hv : vAt fs k
      · have HN := Lib.hid hv
        unfold vAt at hv
        rw [hv] at HF
        clear hcs hv
        go_wp2_with fail
        refine (HF.out _ ?_).mono ?_
        · exact LT.below (w := w) hT (by (repeat (first | with_reducible exact Below.refl _ _ | with_reducible assumption | with_reducible refine below_drewN ?_ _ | with_reducible refine Below.drew ?_ | with_reducible refine Below.alloc ?_ (by first | omega | (simp; done) | (simp; omega)) _ | with_reducible refine Below.setCell ?_ (by first | omega | (simp; done) | (simp; omega)) _ | with_reducible refine Below.trans ?_ (Below.mono (by assumption) (by first | omega | (simp; done) | (simp; omega)))))) (Nat.le_refl _)
        rintro e w1 ⟨rfl, hb1⟩
        go_wp2_with fail
        go_ret
        exact ⟨k, rfl, iff_of_true (by omega) ⟨k, hlt, HN.out⟩, by omega, by omega, hbel.trans (hb1.mono hsz)⟩
      · have HN := Lib.hid hv
        unfold vAt at hv
        rw [hv] at HF
        clear hcs hv
        go_wp2_with fail
        refine (HF.out _ ?_).mono ?_
        · exact LT.below (w := w) hT (by (repeat (first | with_reducible exact Below.refl _ _ | with_reducible assumption | with_reducible refine below_drewN ?_ _ | with_reducible refine Below.drew ?_ | with_reducible refine Below.alloc ?_ (by first | omega | (simp; done) | (simp; omega)) _ | with_reducible refine Below.setCell ?_ (by first | omega | (simp; done) | (simp; omega)) _ | with_reducible refine Below.trans ?_ (Below.mono (by assumption) (by first | omega | (simp; done) | (simp; omega)))))) (Nat.le_refl _)
        rintro e w1 ⟨rfl, hb1⟩
        go_wp2_with fail
        go_roundw
        case rel => exact ⟨k + 1, by omega, by go_num, Lib.hid (fun j hj => by
          rcases Nat.lt_or_ge j k with h | h
          · exact hall.out j h
          · obtain rfl : j = k := by omega
            exact HN.out), hbel.trans (hb1.mono hsz)⟩
        case measure => simp [intOf]; omega
    · obtain rfl : k = n := by omega
      go_wp2_with fail
      go_ret
      exact ⟨-1, rfl, iff_of_false (by omega) (by rintro ⟨j, hj, hv⟩; rw [hall.out j hj] at hv; cases hv), by omega, by omega, hbel⟩

theorem contF_any (v : Value) (n : Nat) (fs : List Int) (w : World) (h : SlF w w.heap.size v n fs) (h64 : C64 n fs) (hT : LT β w) (hl : n ≤ 1048576) :
    Calls Tryd.prog 144 #[v, .func (.func 145) #[] #[]] w (RetQb (∃ k, k < n ∧ vAt fs k = false) w) := by
  have H := Lib.hid (idxF_any v n fs w h h64 hT hl)
  clear h h64
  go_enter Tryd.func144, Tryd.ntmps144
  go_wp2_with fail
  refine (H.out).mono ?_
  rintro e w1 ⟨r, rfl, hr, r0, r1, hb1⟩
  have HR := Lib.hid hr
  clear hr
  go_wp2_with fail
  go_ret
  exact ⟨decide (0 ≤ r), rfl, by rw [decide_eq_true_iff]; exact HR.out, hb1⟩

theorem hasC_any (v : Value) (n : Nat) (fs : List Int) (w : World) (h : SlF w w.heap.size v n fs) (h64 : C64 n fs) (hT : LT β w) (hl : n ≤ 1048576) :
    Calls Tryd.prog 87 #[v] w (RetQb (HCo n fs) w) := by
  have H := Lib.hid (contF_any v n fs w h h64 hT hl)
  obtain ⟨h6, A, c, rfl, hc, hcell⟩ := h
  clear hcell h6 h64
  by_cases h3 : n < 3
  · go_enter Tryd.func87, Tryd.ntmps87
    go_wp2_with fail
    go_ret
    exact ⟨false, rfl, iff_of_false (by simp) (fun h => by have := h.1; omega), Below.refl _ _⟩
  · by_cases h16 : 16 < n
    · have h3' : ¬ (n : Int) < 3 := by omega
      have h16' : (16 : Int) < (n : Int) := by omega
      go_enter Tryd.func87, Tryd.ntmps87
      go_wp2_with fail
      go_ret
      exact ⟨false, rfl, iff_of_false (by simp) (fun h => by have := h.2.1; omega), Below.refl _ _⟩
    · have h3' : ¬ (n : Int) < 3 := by omega
      have h16' : ¬ (16 : Int) < (n : Int) := by omega
      go_enter Tryd.func87, Tryd.ntmps87
      go_wp2_with fail
      refine (H.out).mono ?_
      rintro e w1 ⟨b, rfl, hb, hb1⟩
      have HB := Lib.hid hb
      clear hb
      go_wp2_with fail
      go_ret
      refine ⟨!b, rfl, ?_, hb1⟩
      have := HB.out
      cases b
      · refine iff_of_true rfl ⟨by omega, by omega, fun k hk => ?_⟩
        by_cases hv : vAt fs k = true
        · exact hv
        · exact absurd (this.2 ⟨k, hk, Bool.eq_false_iff.2 hv⟩) (by simp)
      · refine iff_of_false (by simp) (fun h => ?_)
        obtain ⟨k, hk, hv⟩ := this.1 rfl
        rw [h.2.2 k hk] at hv; cases hv
end Pol
end Go.Proofs.YtafbdnjabgfjeaaDoor
end
section
namespace Go.Proofs.YtafbdnjabgfjeaaDoor
open Go Go.ChangeShapes Go.WideShapes Go.ChangeAt Go.RowKit Go.Joins OriM
namespace Pol
variable {H : Type} {enc : TypeId × Value → H}

theorem cellsLNum : Tryd.prog.cellsOf 67 = 3 := by kernel_rfl
theorem cellsLPoint : Tryd.prog.cellsOf 69 = 6 := by kernel_rfl

/-- Three cells that read as a number. -/
theorem num3 {w : World} {base : Nat} {sp : Nat → Bool} {held : Bool} {fuel : Nat} {cs : List Value} {x : DataW H × List MemPlace}
    (h : DataW.trod enc Tryd.prog w base sp held fuel 67 cs = some x) : ∃ a b k : Int, cs = [.int .i64 a, .int .i64 b, .int .i64 k] ∧ I64 a ∧ I64 b ∧ I64 k := by
  obtain ⟨y0, y1, y2, n, rfl, hl, g0, g1, g2⟩ := Go.Deep.trod_struct3 Tryd.underlying67 h
  simp only [cellsI64] at g0 g1 g2
  obtain ⟨a, c0, _, wa⟩ := DataW.trod_int Tryd.underlying2 g0
  obtain ⟨b, c1, _, wb⟩ := DataW.trod_int Tryd.underlying2 g1
  obtain ⟨k, c2, _, wk⟩ := DataW.trod_int Tryd.underlying2 g2
  rw [cellsLNum] at hl
  match cs, hl with
  | [z0, z1, z2], _ =>
    simp at c0 c1 c2
    subst c0 c1 c2
    exact ⟨a, b, k, rfl, bounds_i64 wa, bounds_i64 wb, bounds_i64 wk⟩
theorem pt6 {w : World} {base : Nat} {sp : Nat → Bool} {held : Bool} {fuel : Nat} {cs : List Value} {x : DataW H × List MemPlace}
    (h : DataW.trod enc Tryd.prog w base sp held fuel 69 cs = some x) : ∃ a b k c d l : Int, cs = [.int .i64 a, .int .i64 b, .int .i64 k, .int .i64 c, .int .i64 d, .int .i64 l] ∧ I64 a ∧ I64 b ∧ I64 k ∧ I64 c ∧ I64 d ∧ I64 l := by
  obtain ⟨y0, y1, n, hx, hl, g0, g1⟩ := trod_struct2 Tryd.underlying69 h
  simp only [cellsLNum] at g0 g1
  obtain ⟨a, b, k, e0, i0, i1, i2⟩ := num3 g0
  obtain ⟨c, d, l, e1, i3, i4, i5⟩ := num3 g1
  rw [cellsLPoint] at hl
  match cs, hl with
  | [z0, z1, z2, z3, z4, z5], _ =>
    simp at e0 e1
    obtain ⟨rfl, rfl, rfl⟩ := e0
    obtain ⟨rfl, rfl, rfl⟩ := e1
    exact ⟨a, b, k, c, d, l, rfl, i0, i1, i2, i3, i4, i5⟩
theorem add_add' (a : Addr) (i j : Nat) : (a.add i).add j = a.add (i + j) := by
  unfold Addr.add
  by_cases hi : i = 0 <;> by_cases hj : j = 0 <;> simp [hi, hj, Nat.add_assoc]

set_option maxRecDepth 100000 in
/-- An argument that is a slice of points. -/
theorem open_pts {W : World} {base : Nat} {v : Value} {d : DataW H} {p : List MemPlace} (hv : Value.okWide Tryd.prog W .any base 57 v)
    (h : DataW.Trod enc Tryd.prog W 0 (fun _ => true) true 57 v d p) : ∃ n fs, SlF W W.heap.size v n fs ∧ C64 n fs ∧ (n : Int) ≤ 9223372036854775807 := by
  obtain ⟨a0, len, cap, rfl⟩ := Go.WideShapes.okWide_slice Tryd.underlying57 hv
  obtain ⟨fuel, hf⟩ := h
  rcases DataW.trod_slice Tryd.underlying57 hf with ⟨hcs, _⟩ | ⟨a, len', cap', elems, rest, m, _, hcs, _, _, hle, hmax, hlen, hel, _, _⟩
  · simp [Value.cells] at hcs
    obtain ⟨rfl, rfl, rfl⟩ := hcs
    exact ⟨0, [], ⟨rfl, none, 0, rfl, by omega, fun h => by omega⟩, fun j hj => by omega, by omega⟩
  · simp [Value.cells] at hcs
    obtain ⟨rfl, rfl, rfl⟩ := hcs
    have key : ∀ q, q < len * 6 → ∃ z : Int, W.cell? (a.add q) = some (.int .i64 z) ∧ I64 z := by
      intro q hq
      have hi : q / 6 < len := by omega
      have h1 := hel (q / 6) hi
      rw [cellsLPoint] at h1
      obtain ⟨y, hy⟩ : ∃ y, elems[q / 6]? = some y := ⟨_, List.getElem?_eq_getElem (by omega)⟩
      rw [hy, Option.bind_eq_some_iff] at h1
      obtain ⟨cs, hcs, ht⟩ := h1
      obtain ⟨x0, x1, x2, x3, x4, x5, rfl, b0, b1, b2, b3, b4, b5⟩ := pt6 ht
      have h2 := (World.cells?_some hcs).2.2 (q % 6) (Nat.mod_lt _ (by decide))
      rw [add_add', show q / 6 * 6 + q % 6 = q by omega] at h2
      rcases (show q % 6 = 0 ∨ q % 6 = 1 ∨ q % 6 = 2 ∨ q % 6 = 3 ∨ q % 6 = 4 ∨ q % 6 = 5 by omega) with h | h | h | h | h | h <;> rw [h] at h2
      · exact ⟨_, h2, b0⟩
      · exact ⟨_, h2, b1⟩
      · exact ⟨_, h2, b2⟩
      · exact ⟨_, h2, b3⟩
      · exact ⟨_, h2, b4⟩
      · exact ⟨_, h2, b5⟩
    have hm : (len : Int) ≤ 9223372036854775807 := by unfold maxLen at hmax; omega
    obtain ⟨g, hg⟩ : ∃ g : Nat → Int, ∀ q, q < len * 6 → W.cell? (a.add q) = some (.int .i64 (g q)) ∧ I64 (g q) := by
      refine ⟨fun q => intOf ((W.cell? (a.add q)).getD (.int .i64 0)), fun q hq => ?_⟩
      obtain ⟨z, hz, hb⟩ := key q hq
      simp only [hz, Option.getD_some, intOf]
      exact ⟨trivial, hb⟩
    refine ⟨len, (List.range (len * 6)).map g, ⟨by simp, some a, cap, rfl, hle, fun hp => ?_⟩, fun j hj => by rw [nth_of (by simp; exact hj)]; simp only [List.getElem_map, List.getElem_range]; exact (hg j hj).2, hm⟩
    have hl2 : ((List.range (len * 6)).map g).length = len * 6 := by simp
    have hgn : ∀ q, q < len * 6 → ((List.range (len * 6)).map g).getD q 0 = g q := fun q hq => by simp [List.getD_eq_getElem?_getD, hq]
    obtain ⟨b, off, rfl, hc⟩ := ints_at (a := a) (k := .i64) (zs := (List.range (len * 6)).map g) (w := W) (fun q hq => by rw [hl2] at hq; rw [hgn q hq]; exact (hg q hq).1) (by rw [hl2]; omega)
    exact ⟨b, off, rfl, World.block_lt_of_cell? W _ (hc 0 (by rw [hl2]; omega)), fun q hq => hc q hq⟩
end Pol
end Go.Proofs.YtafbdnjabgfjeaaDoor
end
section
namespace Go.Proofs.YtafbdnjabgfjeaaDoor
open Go Go.RowKit OriM
namespace Pol
variable {β : Bool}

theorem nth_app {xs ys : List Int} {k : Nat} (h : k < xs.length) : nth (xs ++ ys) k = nth xs k := by
  rw [nth_of (by rw [List.length_append]; omega), nth_of h, List.getElem_append_left h]
theorem nth_app2 {xs ys : List Int} {k : Nat} (h : k < ys.length) : nth (xs ++ ys) (xs.length + k) = nth ys k := by
  rw [nth_of (by rw [List.length_append]; omega), nth_of h, List.getElem_append_right (by omega)]; congr 1; omega
theorem nth_take {xs : List Int} {k m : Nat} (h : k < m) (hm : m ≤ xs.length) : nth (xs.take m) k = nth xs k := by
  rw [nth_of (by rw [List.length_take]; omega), nth_of (by omega), List.getElem_take]

set_option maxHeartbeats 4000000 in
theorem circI_any (v : Value) (xs : List Int) (w : World) (h : Sl w w.heap.size v xs) (hp : 1 < xs.length) (hl : xs.length ≤ 1048576) :
    Calls Tryd.prog 148 #[v] w (RetO (xs ++ xs.take 1) w) := by
  obtain ⟨A, c, rfl, hc, hcell⟩ := h
  obtain ⟨b, o, rfl, hb, hcs⟩ := hcell (by omega)
  obtain ⟨n, hn⟩ : ∃ n, xs.length = n := ⟨_, rfl⟩
  have HN := Lib.hid (show xs.length = n * 1 by omega)
  have HM := Lib.hid (show (xs.take 1).length = 1 * 1 by rw [List.length_take]; omega)
  have HC := Lib.hid hcs
  have HC1 := Lib.hid (show Cells w b o (xs.take 1) from fun k hk => by
    rw [List.length_take] at hk
    rw [nth_take (by omega) (by omega)]; exact hcs k (by omega))
  rw [hn] at hl hc hp
  rw [hn]
  clear hcs hcell hn
  obtain ⟨i0, hi, hz0, hz1, hz2⟩ := info_parts infoI64
  have i0a : (0 : Int) ≤ (n : Int) := by omega
  have i0b : (n : Int) ≤ (c : Int) := by omega
  have i0c : (1 : Int) < (n : Int) := by omega
  have i0d : (1 : Int) ≤ (c : Int) := by omega
  have i0e : ¬ (n : Int) < 1 := by omega
  have i0f : ¬ (n : Int) < 0 := by omega
  have i0g : min (n : Int) 1 = 1 := by omega
  have i0h : n ≤ c := by omega
  have i0i : 1 ≤ c := by omega
  go_enter Tryd.func148, Tryd.ntmps148
  go_wp2_with fail
  go_region_held3 (fun w' => True) (trivial) ((refine step_append_grows rfl _ _ _ (by rfl) 2 i0 (.int .i64 0) 1 8 Tryd.underlying126 hi hz0 hz1 hz2 rfl (by decide) (some ⟨b, o, none⟩) n n (xs.map (Value.int .i64)) (by rfl) (by simp) (by first | (rw [List.length_map, HN.out]; done) | (rw [List.length_map, HN.out]; omega)) (fun b' e => by cases e; exact sl_news HC.out) ⟨b, o, none⟩ 1 c ((xs.take 1).map (Value.int .i64)) (by rfl) (by rw [List.length_map]; exact HM.out) (sl_news HC1.out) (ints_one _) (by omega) (by unfold maxLen; omega) (by omega) ?_; intro v' w1 hown1 hgrow1))
  all_goals
    go_wp2_with fail
    go_ret
    refine ⟨v', rfl, ?_, ?_⟩
    · have h1 := HN.out
      have h2 := HM.out
      unfold OwnI
      rw [List.length_append, h1, h2, List.map_append, show n * 1 + 1 * 1 = n + 1 by omega]
      exact hown1
    · exact below_undrew (grown_below (row := none) hgrow1 (Nat.le_refl _) (fun k h => by cases h))

set_option maxHeartbeats 4000000 in
theorem circP_any (v : Value) (n : Nat) (fs : List Int) (w : World) (h : SlF w w.heap.size v n fs) (hp : 1 < n) (hl : n ≤ 1048576) :
    Calls Tryd.prog 170 #[v] w (RetOF (n + 1) (fs ++ fs.take 6) w) := by
  obtain ⟨h6, A, c, rfl, hc, hcell⟩ := h
  obtain ⟨b, o, rfl, hb, hcs⟩ := hcell (by omega)
  have HN := Lib.hid (show fs.length = n * 6 by omega)
  have HM := Lib.hid (show (fs.take 6).length = 1 * 6 by rw [List.length_take]; omega)
  have HC := Lib.hid hcs
  have HC1 := Lib.hid (show Cells w b o (fs.take 6) from fun k hk => by
    rw [List.length_take] at hk
    rw [nth_take (by omega) (by omega)]; exact hcs k (by omega))
  clear hcs hcell h6
  obtain ⟨i0, hi, hz0, hz1, hz2⟩ := info_parts infoP
  have i0a : (0 : Int) ≤ (n : Int) := by omega
  have i0b : (n : Int) ≤ (c : Int) := by omega
  have i0c : (1 : Int) < (n : Int) := by omega
  have i0d : (1 : Int) ≤ (c : Int) := by omega
  have i0e : ¬ (n : Int) < 1 := by omega
  have i0f : ¬ (n : Int) < 0 := by omega
  have i0g : min (n : Int) 1 = 1 := by omega
  have i0h : n ≤ c := by omega
  have i0i : 1 ≤ c := by omega
  go_enter Tryd.func170, Tryd.ntmps170
  go_wp2_with fail
  go_region_held3 (fun w' => True) (trivial) ((refine step_append_grows rfl _ _ _ (by rfl) 33 i0 (p6v 0 0 0 0 0 0) 6 48 Tryd.underlying60 hi hz0 hz1 hz2 rfl (by decide) (some ⟨b, o, none⟩) n n (fs.map (Value.int .i64)) (by rfl) (by simp) (by first | (rw [List.length_map, HN.out]; done) | (rw [List.length_map, HN.out]; omega)) (fun b' e => by cases e; exact sl_news HC.out) ⟨b, o, none⟩ 1 c ((fs.take 6).map (Value.int .i64)) (by rfl) (by rw [List.length_map]; exact HM.out) (sl_news HC1.out) (ints_one _) (by omega) (by unfold maxLen; omega) (by omega) ?_; intro v' w1 hown1 hgrow1))
  all_goals
    go_wp2_with fail
    go_ret
    refine ⟨v', rfl, ?_, ?_⟩
    · unfold OwnF
      rw [List.map_append]
      exact hown1
    · exact below_undrew (grown_below (row := none) hgrow1 (Nat.le_refl _) (fun k h => by cases h))

/-! ### Lists that contain a number -/
set_option maxHeartbeats 2000000 in
theorem idxI_any (v : Value) (xs : List Int) (x : Int) (w : World) (h : Sl w w.heap.size v xs) (hl : xs.length ≤ 1048576) :
    Calls Tryd.prog 171 #[v, .int .i64 x] w
      fun e w' => ∃ r : Int, e = .returned (.int .i64 r) ∧ (0 ≤ r ↔ ∃ k, k < xs.length ∧ nth xs k = x) ∧ -1 ≤ r ∧ r ≤ 1048576 ∧ Below w.heap.size w w' := by
  obtain ⟨A, c, rfl, hc, hcell⟩ := h
  obtain ⟨n, hn⟩ : ∃ n, xs.length = n := ⟨_, rfl⟩
  rw [hn] at hl hc hcell ⊢
  have HC := Lib.hid hcell
  have HN := Lib.hid hn
  clear hcell hn
  go_enter Tryd.func171, Tryd.ntmps171
  go_wp2_with fail
  go_loopw [8] (fun i wr => ∃ k : Nat, k ≤ n ∧ i = .int .i64 k ∧ Hid (∀ j, j < k → nth xs j ≠ x) ∧ Below w.heap.size w wr) (fun i _ => n - (intOf i).toNat)
  case atStart => exact ⟨0, Nat.zero_le _, rfl, Lib.hid (fun j hj => absurd hj (by omega)), Below.refl _ _⟩
  case round =>
    obtain ⟨k, hk, rfl, hall, hbel⟩ := hrel
    by_cases hlt : k < n
    · obtain ⟨b, o, rfl, hb, hcs⟩ := HC.out (by omega)
      have hcx : wr.cell? ⟨b, o + k, none⟩ = some (.int .i64 (nth xs k)) := (hbel.cell (p := ⟨b, o + k, none⟩) hb).trans (hcs k (by rw [HN.out]; exact hlt))
      clear hcs
      by_cases hx : x = nth xs k
      · have hxe : (x == nth xs k) = true := by simp [hx]
        have HX := Lib.hid hx
        clear hx
        go_wp2_with fail
        go_ret
        exact ⟨k, rfl, iff_of_true (by omega) ⟨k, hlt, HX.out.symm⟩, by omega, by omega, hbel⟩
      · have hxe : (x == nth xs k) = false := by simp [hx]
        have HX := Lib.hid hx
        clear hx
        go_wp2_with fail
        go_roundw
        case rel => exact ⟨k + 1, by omega, by go_num, Lib.hid (fun j hj => by
          rcases Nat.lt_or_ge j k with h | h
          · exact hall.out j h
          · obtain rfl : j = k := by omega
            exact fun e => HX.out e.symm), hbel⟩
        case measure => simp [intOf]; omega
    · obtain rfl : k = n := by omega
      go_wp2_with fail
      go_ret
      exact ⟨-1, rfl, iff_of_false (by omega) (by rintro ⟨j, hj, hv⟩; exact hall.out j hj hv), by omega, by omega, hbel⟩
theorem contI_any (v : Value) (xs : List Int) (x : Int) (w : World) (h : Sl w w.heap.size v xs) (hl : xs.length ≤ 1048576) :
    Calls Tryd.prog 147 #[v, .int .i64 x] w (RetQb (∃ k, k < xs.length ∧ nth xs k = x) w) := by
  have H := Lib.hid (idxI_any v xs x w h hl)
  clear h
  go_enter Tryd.func147, Tryd.ntmps147
  go_wp2_with fail
  refine (H.out).mono ?_
  rintro e w1 ⟨r, rfl, hr, r0, r1, hb1⟩
  have HR := Lib.hid hr
  clear hr
  go_wp2_with fail
  go_ret
  exact ⟨decide (0 ≤ r), rfl, by rw [decide_eq_true_iff]; exact HR.out, hb1⟩
end Pol
end Go.Proofs.YtafbdnjabgfjeaaDoor
end
section
namespace Go.Proofs.YtafbdnjabgfjeaaDoor
open Go Go.RowKit OriM
namespace Pol
variable {β : Bool}

set_option maxHeartbeats 2000000 in
theorem growP_any (m : Nat) (h0 : 0 < m) (hm : m ≤ 1048576) (w : World) :
    Calls Tryd.prog 173 #[.slice none 0 0, .int .i64 (m : Int)] w fun e w' => ∃ v, e = .returned v ∧ w'.ownsRow w.heap.size 33 6 v 0 [] ∧ Below w.heap.size w w' := by
  obtain ⟨i0, hi, hz0, hz1, hz2⟩ := info_parts infoP
  have hcap0 := grownCap_ge w m 0 33
  have hcap1 := grownCap_le_maxLen w m 0 33 (by unfold maxLen; omega)
  have HR := fun ty => Lib.run_append_nil_zeros (P := Tryd.prog) w 60 3 ty 33 i0 (p6v 0 0 0 0 0 0) .i64 .i64 Tryd.underlying60 Tryd.underlying3 hi hz0 m h0 (by rw [hz1]; omega) (by omega) (by rw [hz2]; omega)
  have ej : IntKind.i64.wrap (m : Int) = m := wrap_in (by omega) (by omega)
  have ej0 : ¬ (m : Int) < 0 := by omega
  have ej1 : (0 : Int) < (m : Int) := by omega
  obtain ⟨cap, hcap⟩ : ∃ cap, grownCap w m 0 33 = cap := ⟨_, rfl⟩
  rw [hcap] at HR hcap0 hcap1
  clear hcap
  go_enter Tryd.func173, Tryd.ntmps173
  go_wp2_with (at_builtin; refine Lib.wpList_append_run _ rfl _ _ _ _ rfl _ _ rfl rfl _ _ (HR _) ?_)
  go_ret
  refine ⟨_, rfl, ⟨rfl, .inr ⟨w.heap.size, cap, _, rfl, Nat.le_refl _, heap_alloc_new w.drew _, Nat.zero_le _, hcap1, ?_, rfl⟩⟩, by (repeat (first | with_reducible exact Below.refl _ _ | with_reducible assumption | with_reducible refine below_drewN ?_ _ | with_reducible refine Below.drew ?_ | with_reducible refine Below.alloc ?_ (by first | omega | (simp; done) | (simp; omega)) _ | with_reducible refine Below.setCell ?_ (by first | omega | (simp; done) | (simp; omega)) _ | with_reducible refine Below.trans ?_ (Below.mono (by assumption) (by first | omega | (simp; done) | (simp; omega)))))⟩
  simp only [Array.size_append, size_zeroCells, ← Nat.add_mul]
  have : (#[Value.int IntKind.i64 0, Value.int IntKind.i64 0, Value.int IntKind.i64 0, Value.int IntKind.i64 0, Value.int IntKind.i64 0, Value.int IntKind.i64 0] : Array Value).size = 6 := rfl
  rw [this]; omega

/-- The sizes added up. -/
def sz2 (n1 n2 : Nat) : Nat → Int
  | 0 => 0
  | 1 => n1
  | _ => (n1 : Int) + (n2 : Int)
def nu2 (n1 n2 : Nat) : Nat → Nat
  | 0 => 0
  | 1 => n1
  | _ => n1 + n2
def va2 (f1 f2 : List Int) : Nat → List Int
  | 0 => []
  | 1 => f1
  | _ => f1 ++ f2
set_option maxHeartbeats 8000000 in
set_option maxRecDepth 100000 in
theorem concatP_any (B b o1 o2 n1 n2 c1 c2 : Nat) (f1 f2 : List Int) (w : World) (hB : B < w.heap.size) (e0 : w.cell? ⟨B, 0, none⟩ = some (.slice (some ⟨b, o1, none⟩) n1 c1)) (e1 : w.cell? ⟨B, 1, none⟩ = some (.slice (some ⟨b, o2, none⟩) n2 c2))
    (hb : b < w.heap.size) (C1 : Cells w b o1 f1) (C2 : Cells w b o2 f2) (l1 : f1.length = n1 * 6) (l2 : f2.length = n2 * 6) (hp : 0 < n1 + n2) (hl : n1 + n2 ≤ 1048576) :
    Calls Tryd.prog 151 #[.slice (some ⟨B, 0, none⟩) 2 2] w (RetOF (n1 + n2) (f1 ++ f2) w) := by
  obtain ⟨i0, hi, hz0, hz1, hz2⟩ := info_parts infoP
  have K1 := Lib.hid C1
  have K2 := Lib.hid C2
  have L1 := Lib.hid l1
  have L2 := Lib.hid l2
  have HG := Lib.hid fun (w : World) => show Calls Tryd.prog 173 #[.slice none 0 0, .int .i64 ((n1 : Int) + (n2 : Int))] w _ from by have := growP_any (n1 + n2) hp hl w; rw [Int.natCast_add] at this; exact this
  have E0 := Lib.hid e0
  have E1 := Lib.hid e1
  clear C1 C2 l1 l2
  have s1 : IntKind.i64.wrap (0 + (n1 : Int)) = (n1 : Int) := by rw [Int.zero_add]; exact wrap_in (by omega) (by omega)
  have s1' : IntKind.i64.wrap (n1 : Int) = (n1 : Int) := wrap_in (by omega) (by omega)
  have s2 : IntKind.i64.wrap ((n1 : Int) + (n2 : Int)) = (n1 : Int) + (n2 : Int) := wrap_in (by omega) (by omega)
  have s3 : ¬ (n1 : Int) < 0 := by omega
  have s4 : ¬ (n1 : Int) + (n2 : Int) < 0 := by omega
  go_enter Tryd.func151, Tryd.ntmps151
  go_wp2_with fail
  go_loopw [3, 11] (fun q i wr => ∃ k : Nat, k ≤ 2 ∧ i = .int .i64 k ∧ q = .int .i64 (sz2 n1 n2 k) ∧ wr = w) (fun _ i _ => 2 - (intOf i).toNat)
  case atStart => exact ⟨0, Nat.zero_le _, rfl, rfl, rfl⟩
  case round =>
    obtain ⟨k, hk, rfl, rfl, hw⟩ := hrel
    replace hw := hw.symm
    subst hw
    have z0 : sz2 n1 n2 0 = 0 := rfl
    have z1 : sz2 n1 n2 1 = (n1 : Int) := rfl
    have z2 : sz2 n1 n2 2 = (n1 : Int) + (n2 : Int) := rfl
    rcases (show k = 0 ∨ k = 1 ∨ k = 2 by omega) with rfl | rfl | rfl
    · go_wp2_with fail
      go_roundw
      case rel => exact ⟨1, by omega, by go_num, by rw [z1], by first | rfl | trivial⟩
      case measure => simp [intOf]
    · go_wp2_with fail
      go_roundw
      case rel => exact ⟨2, by omega, by go_num, by rw [z2], by first | rfl | trivial⟩
      case measure => simp [intOf]
    · rw [z2]
      clear z0 z1 z2
      go_wp2_with fail
      refine (HG.out _).mono ?_
      rintro e w1 ⟨v, rfl, o1', b1⟩
      go_wp2_with fail
      go_loopw [6, 27] (fun q i wr => ∃ k : Nat, k ≤ 2 ∧ i = .int .i64 k ∧ wr.ownsRow w.heap.size 33 6 q (nu2 n1 n2 k) ((va2 f1 f2 k).map (Value.int .i64)) ∧ Below w.heap.size w wr) (fun _ i _ => 2 - (intOf i).toNat)
      case atStart => exact ⟨0, Nat.zero_le _, rfl, o1', b1⟩
      case round =>
        obtain ⟨k, hk, rfl, hown, hbel⟩ := hrel
        clear o1' b1
        have hsz := hbel.size
        have y0 := (hbel.cell (p := ⟨B, 0, none⟩) hB).trans E0.out
        have y1 := (hbel.cell (p := ⟨B, 1, none⟩) hB).trans E1.out
        have hBx : B < wr.heap.size := by omega
        rcases (show k = 0 ∨ k = 1 ∨ k = 2 by omega) with rfl | rfl | rfl
        · have hown0 : wr.ownsRow w.heap.size 33 6 _ 0 [] := hown
          clear hown
          go_wp2_with (at_builtin; refine wpList_append_own _ rfl _ _ 60 rfl w.heap.size 33 i0 (p6v 0 0 0 0 0 0) 6 48 Tryd.underlying60 hi hz0 hz1 hz2 rfl (by decide) _ _ _ rfl hown0 ⟨b, o1, none⟩ n1 c1 (f1.map (Value.int .i64)) rfl (by rw [List.length_map]; exact L1.out) (sl_news (K1.out.below hbel hb)) (ints_one f1) (by unfold maxLen; omega) (by omega) (by omega) ?_; intro v' w1 hown1 hgrow1 _)
          go_wp2_with fail
          go_roundw
          case rel =>
            refine ⟨1, by omega, by go_num, ?_, hbel.grown hgrow1 hsz (fun k hk => (own_row hown0 k hk).1)⟩
            show World.ownsRow _ _ _ _ _ n1 (f1.map (Value.int .i64))
            rw [Nat.zero_add, List.nil_append] at hown1
            exact hown1
          case measure => simp [intOf]
        · have hown0 : wr.ownsRow w.heap.size 33 6 _ n1 (f1.map (Value.int .i64)) := hown
          clear hown
          go_wp2_with (at_builtin; refine wpList_append_own _ rfl _ _ 60 rfl w.heap.size 33 i0 (p6v 0 0 0 0 0 0) 6 48 Tryd.underlying60 hi hz0 hz1 hz2 rfl (by decide) _ _ _ rfl hown0 ⟨b, o2, none⟩ n2 c2 (f2.map (Value.int .i64)) rfl (by rw [List.length_map]; exact L2.out) (sl_news (K2.out.below hbel hb)) (ints_one f2) (by unfold maxLen; omega) (by omega) (by omega) ?_; intro v' w1 hown1 hgrow1 _)
          go_wp2_with fail
          go_roundw
          case rel =>
            refine ⟨2, by omega, by go_num, ?_, hbel.grown hgrow1 hsz (fun k hk => (own_row hown0 k hk).1)⟩
            show World.ownsRow _ _ _ _ _ (n1 + n2) ((f1 ++ f2).map (Value.int .i64))
            rw [List.map_append]
            exact hown1
          case measure => simp [intOf]
        · go_wp2_with fail
          go_ret
          exact ⟨_, rfl, hown, hbel⟩
end Pol
end Go.Proofs.YtafbdnjabgfjeaaDoor
end
