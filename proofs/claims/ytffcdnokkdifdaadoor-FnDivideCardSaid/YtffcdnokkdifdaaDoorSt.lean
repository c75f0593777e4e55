/- Drawn numbers: whatever the bytes, they are valid. -/
import Derived.Test.YtffcdnokkdifdaaDoorSr
import Derived.Test.YtffcdnokkdifdaaDoorSb
import Derived.Deep.DeepCutAuto
namespace Go.Proofs.YtffcdnokkdifdaaDoor
open Go Go.RowKit OriM

theorem SrcAt.congr {w w' : World} {B : Nat} {v : Value} {m : Nat} (h : SrcAt w B v m) (hb : w'.heap[B]? = w.heap[B]?) : SrcAt w' B v m := by
  have hc : ∀ o, w'.cell? ⟨B, o, none⟩ = w.cell? ⟨B, o, none⟩ := fun o => World.cell?_of_block (a := ⟨B, o, none⟩) hb
  have hf : ∀ o, w'.frozen? ⟨B, o, none⟩ = w.frozen? ⟨B, o, none⟩ := fun o => World.frozen?_of_block (a := ⟨B, o, none⟩) hb
  obtain ⟨c0, ⟨n, s, c1, c2, r⟩, f1, f2⟩ := h
  exact ⟨by rw [hc]; exact c0, ⟨n, s, by rw [hc]; exact c1, by rw [hc]; exact c2, r⟩, by rw [hf]; exact f1, by rw [hf]; exact f2⟩
theorem SrcAt.lt {w : World} {B : Nat} {v : Value} {m : Nat} (h : SrcAt w B v m) : B < w.heap.size := World.block_lt_of_cell? w _ h.1
theorem SrcAt.drew {w : World} {B : Nat} {v : Value} {m : Nat} (h : SrcAt w B v m) : SrcAt w.drew B v m := h
theorem SrcAt.alloc {w : World} {B : Nat} {v : Value} {m : Nat} (h : SrcAt w B v m) (o : Obj) : SrcAt (w.alloc o) B v m := h.congr (Below.heap_alloc w o B h.lt)
theorem SrcAt.setFar {w : World} {B : Nat} {v : Value} {m : Nat} (h : SrcAt w B v m) {X : Nat} (hX : B ≠ X) (o : Nat) (q : Option Nat) (u : Value) : SrcAt (w.setCell ⟨X, o, q⟩ u) B v m :=
  h.congr (Below.heap_setCell w ⟨X, o, q⟩ u B hX)
theorem SrcAt.below {w w' : World} {B M : Nat} {v : Value} {m : Nat} (h : SrcAt w B v m) (hb : Below M w w') (hM : B < M) : SrcAt w' B v m := h.congr (hb.block B hM)
theorem SrcAt.mono {w : World} {B : Nat} {v : Value} {m m' : Nat} (h : SrcAt w B v m) (hm : m ≤ m') : SrcAt w B v m' := by
  obtain ⟨c0, ⟨n, s, c1, c2, n0, n1, s0, s1⟩, f1, f2⟩ := h
  exact ⟨c0, ⟨n, s, c1, c2, n0, by omega, s0, s1⟩, f1, f2⟩

/-- A valid number has been drawn. -/
def DrawnN (B : Nat) (v : Value) (m : Nat) (w : World) (e : Ending) (w' : World) : Prop :=
  ∃ a b k : Int, e = .returned (num a b k) ∧ validB a b k = true ∧ SrcAt w' B v m ∧ Touch B w w'

/-- Between the statements: the number that is being made lies in block X, the result's place is block R. -/
def DrawRel (B : Nat) (v : Value) (m : Nat) (w : World) (X : Nat) (wr : World) : Prop :=
  ∃ a b k : Int, wr.cell? ⟨X, 0, none⟩ = some (.int .i64 a) ∧ wr.cell? ⟨X, 1, none⟩ = some (.int .i64 b) ∧ wr.cell? ⟨X, 2, none⟩ = some (.int .i64 k) ∧
    wr.frozen? ⟨X, 0, none⟩ = false ∧ wr.frozen? ⟨X, 1, none⟩ = false ∧ wr.frozen? ⟨X, 2, none⟩ = false ∧
    wr.cell? ⟨w.heap.size, 0, none⟩ = some (.int .i64 0) ∧ wr.cell? ⟨w.heap.size, 1, none⟩ = some (.int .i64 0) ∧ wr.cell? ⟨w.heap.size, 2, none⟩ = some (.int .i64 0) ∧
    wr.frozen? ⟨w.heap.size, 0, none⟩ = false ∧ wr.frozen? ⟨w.heap.size, 1, none⟩ = false ∧ wr.frozen? ⟨w.heap.size, 2, none⟩ = false ∧
    X < wr.heap.size ∧ SrcAt wr B v m ∧ Touch B w wr ∧ -131072 ≤ a ∧ a ≤ 131072 ∧ -131072 ≤ b ∧ b ≤ 131072 ∧ 0 ≤ k ∧ k ≤ 10

theorem DrawRel.src {B : Nat} {v : Value} {m : Nat} {w : World} {X : Nat} {wr : World} (h : DrawRel B v m w X wr) : SrcAt wr B v m := by
  obtain ⟨a, b, k, _, _, _, _, _, _, _, _, _, _, _, _, _, hs, _⟩ := h; exact hs
theorem DrawRel.tch {B : Nat} {v : Value} {m : Nat} {w : World} {X : Nat} {wr : World} (h : DrawRel B v m w X wr) : Touch B w wr := by
  obtain ⟨a, b, k, _, _, _, _, _, _, _, _, _, _, _, _, _, _, ht, _⟩ := h; exact ht
theorem DrawRel.mono {B : Nat} {v : Value} {m m' : Nat} {w : World} {X : Nat} {wr : World} (h : DrawRel B v m w X wr) (hm : m ≤ m') : DrawRel B v m' w X wr := by
  obtain ⟨a, b, k, x0, x1, x2, y0, y1, y2, z0, z1, z2, u0, u1, u2, hX, hs, r⟩ := h
  exact ⟨a, b, k, x0, x1, x2, y0, y1, y2, z0, z1, z2, u0, u1, u2, hX, hs.mono hm, r⟩
theorem DrawRel.touch {B : Nat} {v : Value} {m m' : Nat} {w : World} {X : Nat} {wr w' : World} (h : DrawRel B v m w X wr) (hs' : SrcAt w' B v m') (t : Touch B wr w') (hXB : X ≠ B) (hR : w.heap.size ≠ B) : DrawRel B v m' w X w' := by
  obtain ⟨a, b, k, x0, x1, x2, y0, y1, y2, z0, z1, z2, u0, u1, u2, hX, hs, ht, r⟩ := h
  have hw : w.heap.size < wr.heap.size := World.block_lt_of_cell? wr _ z0
  have cX : ∀ i, w'.cell? ⟨X, i, none⟩ = wr.cell? ⟨X, i, none⟩ := fun i => t.cell (p := ⟨X, i, none⟩) hX hXB
  have fX : ∀ i, w'.frozen? ⟨X, i, none⟩ = wr.frozen? ⟨X, i, none⟩ := fun i => t.frozen (p := ⟨X, i, none⟩) hX hXB
  have cR : ∀ i, w'.cell? ⟨w.heap.size, i, none⟩ = wr.cell? ⟨w.heap.size, i, none⟩ := fun i => t.cell (p := ⟨w.heap.size, i, none⟩) hw hR
  have fR : ∀ i, w'.frozen? ⟨w.heap.size, i, none⟩ = wr.frozen? ⟨w.heap.size, i, none⟩ := fun i => t.frozen (p := ⟨w.heap.size, i, none⟩) hw hR
  exact ⟨a, b, k, by rw [cX]; exact x0, by rw [cX]; exact x1, by rw [cX]; exact x2, by rw [fX]; exact y0, by rw [fX]; exact y1, by rw [fX]; exact y2,
    by rw [cR]; exact z0, by rw [cR]; exact z1, by rw [cR]; exact z2, by rw [fR]; exact u0, by rw [fR]; exact u1, by rw [fR]; exact u2, Nat.lt_of_lt_of_le hX t.size, hs', ht.trans t, r⟩
/-- New blocks change nothing of it. -/
theorem DrawRel.alloc {B : Nat} {v : Value} {m : Nat} {w : World} {X : Nat} {wr : World} (h : DrawRel B v m w X wr) (hXB : X ≠ B) (hR : w.heap.size ≠ B) (o : Obj) : DrawRel B v m w X (wr.alloc o) := by
  have hs : SrcAt wr B v m := by obtain ⟨a, b, k, _, _, _, _, _, _, _, _, _, _, _, _, _, hs, _⟩ := h; exact hs
  exact h.touch (hs.alloc o) ((Touch.refl _ _).alloc o) hXB hR
theorem DrawRel.set0 {B : Nat} {v : Value} {m : Nat} {w : World} {X : Nat} {wr : World} (h : DrawRel B v m w X wr) (hXB : X ≠ B) (hwX : w.heap.size < X) (n : Int) (n0 : -131072 ≤ n) (n1 : n ≤ 131072) : DrawRel B v m w X (wr.setCell ⟨X, 0, none⟩ (.int .i64 n)) := by
  obtain ⟨a, b, k, x0, x1, x2, y0, y1, y2, z0, z1, z2, u0, u1, u2, hX, hs, ht, l0, l1, l2, l3, l4, l5⟩ := h
  have hw : w.heap.size < wr.heap.size := World.block_lt_of_cell? wr _ z0
  have hb : (wr.setCell ⟨X, 0, none⟩ (.int .i64 n)).heap[w.heap.size]? = wr.heap[w.heap.size]? := Below.heap_setCell wr ⟨X, 0, none⟩ _ _ (Nat.ne_of_lt hwX)
  have cR : ∀ i, (wr.setCell ⟨X, 0, none⟩ (.int .i64 n)).cell? ⟨w.heap.size, i, none⟩ = wr.cell? ⟨w.heap.size, i, none⟩ := fun i => World.cell?_of_block (a := ⟨w.heap.size, i, none⟩) hb
  have fR : ∀ i, (wr.setCell ⟨X, 0, none⟩ (.int .i64 n)).frozen? ⟨w.heap.size, i, none⟩ = wr.frozen? ⟨w.heap.size, i, none⟩ := fun i => World.frozen?_of_block (a := ⟨w.heap.size, i, none⟩) hb
  refine ⟨n, b, k, by simp [go_sem, x0], by simp [go_sem, x1], by simp [go_sem, x2], by simp [go_sem, y0], by simp [go_sem, y1], by simp [go_sem, y2],
    by rw [cR]; exact z0, by rw [cR]; exact z1, by rw [cR]; exact z2, by rw [fR]; exact u0, by rw [fR]; exact u1, by rw [fR]; exact u2, by simpa using hX, hs.setFar (Ne.symm hXB) _ _ _, ht.setNew (Nat.le_of_lt hwX) _ _ _, n0, n1, l2, l3, l4, l5⟩
theorem DrawRel.set1 {B : Nat} {v : Value} {m : Nat} {w : World} {X : Nat} {wr : World} (h : DrawRel B v m w X wr) (hXB : X ≠ B) (hwX : w.heap.size < X) (n : Int) (n0 : -131072 ≤ n) (n1 : n ≤ 131072) : DrawRel B v m w X (wr.setCell ⟨X, 1, none⟩ (.int .i64 n)) := by
  obtain ⟨a, b, k, x0, x1, x2, y0, y1, y2, z0, z1, z2, u0, u1, u2, hX, hs, ht, l0, l1, l2, l3, l4, l5⟩ := h
  have hw : w.heap.size < wr.heap.size := World.block_lt_of_cell? wr _ z0
  have hb : (wr.setCell ⟨X, 1, none⟩ (.int .i64 n)).heap[w.heap.size]? = wr.heap[w.heap.size]? := Below.heap_setCell wr ⟨X, 1, none⟩ _ _ (Nat.ne_of_lt hwX)
  have cR : ∀ i, (wr.setCell ⟨X, 1, none⟩ (.int .i64 n)).cell? ⟨w.heap.size, i, none⟩ = wr.cell? ⟨w.heap.size, i, none⟩ := fun i => World.cell?_of_block (a := ⟨w.heap.size, i, none⟩) hb
  have fR : ∀ i, (wr.setCell ⟨X, 1, none⟩ (.int .i64 n)).frozen? ⟨w.heap.size, i, none⟩ = wr.frozen? ⟨w.heap.size, i, none⟩ := fun i => World.frozen?_of_block (a := ⟨w.heap.size, i, none⟩) hb
  refine ⟨a, n, k, by simp [go_sem, x0], by simp [go_sem, x1], by simp [go_sem, x2], by simp [go_sem, y0], by simp [go_sem, y1], by simp [go_sem, y2],
    by rw [cR]; exact z0, by rw [cR]; exact z1, by rw [cR]; exact z2, by rw [fR]; exact u0, by rw [fR]; exact u1, by rw [fR]; exact u2, by simpa using hX, hs.setFar (Ne.symm hXB) _ _ _, ht.setNew (Nat.le_of_lt hwX) _ _ _, l0, l1, n0, n1, l4, l5⟩
theorem DrawRel.set2 {B : Nat} {v : Value} {m : Nat} {w : World} {X : Nat} {wr : World} (h : DrawRel B v m w X wr) (hXB : X ≠ B) (hwX : w.heap.size < X) (n : Int) (n0 : 0 ≤ n) (n1 : n ≤ 10) : DrawRel B v m w X (wr.setCell ⟨X, 2, none⟩ (.int .i64 n)) := by
  obtain ⟨a, b, k, x0, x1, x2, y0, y1, y2, z0, z1, z2, u0, u1, u2, hX, hs, ht, l0, l1, l2, l3, l4, l5⟩ := h
  have hw : w.heap.size < wr.heap.size := World.block_lt_of_cell? wr _ z0
  have hb : (wr.setCell ⟨X, 2, none⟩ (.int .i64 n)).heap[w.heap.size]? = wr.heap[w.heap.size]? := Below.heap_setCell wr ⟨X, 2, none⟩ _ _ (Nat.ne_of_lt hwX)
  have cR : ∀ i, (wr.setCell ⟨X, 2, none⟩ (.int .i64 n)).cell? ⟨w.heap.size, i, none⟩ = wr.cell? ⟨w.heap.size, i, none⟩ := fun i => World.cell?_of_block (a := ⟨w.heap.size, i, none⟩) hb
  have fR : ∀ i, (wr.setCell ⟨X, 2, none⟩ (.int .i64 n)).frozen? ⟨w.heap.size, i, none⟩ = wr.frozen? ⟨w.heap.size, i, none⟩ := fun i => World.frozen?_of_block (a := ⟨w.heap.size, i, none⟩) hb
  refine ⟨a, b, n, by simp [go_sem, x0], by simp [go_sem, x1], by simp [go_sem, x2], by simp [go_sem, y0], by simp [go_sem, y1], by simp [go_sem, y2],
    by rw [cR]; exact z0, by rw [cR]; exact z1, by rw [cR]; exact z2, by rw [fR]; exact u0, by rw [fR]; exact u1, by rw [fR]; exact u2, by simpa using hX, hs.setFar (Ne.symm hXB) _ _ _, ht.setNew (Nat.le_of_lt hwX) _ _ _, l0, l1, l2, l3, n0, n1⟩
set_option maxHeartbeats 4000000 in
set_option maxRecDepth 100000 in
theorem draw_any (B : Nat) (v : Value) (m : Nat) (w : World) (hS : SrcAt w B v m) (hC : CodeAt w B v) (hm : m ≤ 1073741824) :
    Calls Tryd.prog 46 #[.pointer (some ⟨B, 0, none⟩)] w (DrawnN B v (m + 9) w) := by
  have hB := hS.lt
  have HS := Lib.hid hS
  have HC := Lib.hid hC
  clear hS hC
  go_enter Tryd.func46, Tryd.ntmps46
  go_wp2_with fail
  refine (pick_small B v m 9 _ (HS.out.alloc _) (HC.out.touch ((Touch.refl _ _).alloc _)) (by omega) (by omega) (by omega)).mono ?_
  rintro e w1 ⟨r, rfl, r0, r1, hS1, ht1⟩
  have hRB : w.heap.size ≠ B := by omega
  have hz1 : w.heap.size < w1.heap.size := by have := ht1.size; simp at this; omega
  have hXB : w1.heap.size ≠ B := by omega
  have D1 : DrawRel B v (m + 1) w w1.heap.size (w1.alloc (Obj.cells #[Value.int IntKind.i64 (r - 4), Value.int IntKind.i64 0, Value.int IntKind.i64 0] 62)) := by
    have hb : w1.heap[w.heap.size]? = (w.alloc (Obj.cells #[Value.int IntKind.i64 0, Value.int IntKind.i64 0, Value.int IntKind.i64 0] 24)).heap[w.heap.size]? := ht1.block w.heap.size (by simp) hRB
    have hb2 : (w1.alloc (Obj.cells #[Value.int IntKind.i64 (r - 4), Value.int IntKind.i64 0, Value.int IntKind.i64 0] 62)).heap[w.heap.size]? = (w.alloc (Obj.cells #[Value.int IntKind.i64 0, Value.int IntKind.i64 0, Value.int IntKind.i64 0] 24)).heap[w.heap.size]? := (Below.heap_alloc w1 _ _ hz1).trans hb
    have cR : ∀ i, (w1.alloc (Obj.cells #[Value.int IntKind.i64 (r - 4), Value.int IntKind.i64 0, Value.int IntKind.i64 0] 62)).cell? ⟨w.heap.size, i, none⟩ = _ := fun i => World.cell?_of_block (a := ⟨w.heap.size, i, none⟩) hb2
    have fR : ∀ i, (w1.alloc (Obj.cells #[Value.int IntKind.i64 (r - 4), Value.int IntKind.i64 0, Value.int IntKind.i64 0] 62)).frozen? ⟨w.heap.size, i, none⟩ = _ := fun i => World.frozen?_of_block (a := ⟨w.heap.size, i, none⟩) hb2
    refine ⟨r - 4, 0, 0, by simp [go_sem], by simp [go_sem], by simp [go_sem], by simp [go_sem], by simp [go_sem], by simp [go_sem], by rw [cR]; simp [go_sem], by rw [cR]; simp [go_sem], by rw [cR]; simp [go_sem], by rw [fR]; simp [go_sem], by rw [fR]; simp [go_sem], by rw [fR]; simp [go_sem], by simp, hS1.alloc _, ((((Touch.refl B w).alloc _).trans ht1).alloc _), by omega, by omega, by omega, by omega, by omega, by omega⟩
  have HC1 := Lib.hid (CodeAt.touch HC.out ((((Touch.refl B w).alloc _).trans ht1).alloc (Obj.cells #[Value.int IntKind.i64 (r - 4), Value.int IntKind.i64 0, Value.int IntKind.i64 0] 62)))
  have hS1' : SrcAt (w1.alloc (Obj.cells #[Value.int IntKind.i64 (r - 4), Value.int IntKind.i64 0, Value.int IntKind.i64 0] 62)) B v (m + 1) := hS1.alloc _
  have hwX : w.heap.size < w1.heap.size := hz1
  clear hS1 ht1
  go_wp2_with fail
  generalize w1.alloc (Obj.cells #[Value.int IntKind.i64 (r - 4), Value.int IntKind.i64 0, Value.int IntKind.i64 0] 62) = w0 at *
  generalize w1.heap.size = X at *
  refine (one_small B v (m + 1) 3 _ hS1' HC1.out (by omega) (by omega) (by omega)).mono ?_
  rintro e w2 ⟨bb, rfl, hS2, ht2⟩
  have D2 := D1.touch hS2 ht2 hXB hRB
  have HC2 := Lib.hid (HC1.out.touch ht2)
  clear D1 hS1' ht2 HC1
  go_upto_if 11 with fail
  go_cut [] (DrawRel B v (m + 3) w X)
  case first =>
    cases bb
    · have D := Lib.hid (D2.mono (m' := m + 3) (by omega))
      clear D2 hS2 HC2
      go_wp2_with fail
      go_meet
      exact D.out
    · go_wp2_with fail
      refine (pick_small B v (m + 2) 9 _ hS2 HC2.out (by omega) (by omega) (by omega)).mono ?_
      rintro e w3 ⟨r, rfl, r0, r1, hS3, ht3⟩
      have D3 := Lib.hid (D2.touch hS3 ht3 hXB hRB)
      obtain ⟨a, b, k, x0, x1, x2, y0, y1, y2, z0, z1, z2, u0, u1, u2, hX', hs', ht', l0, l1, l2, l3, l4, l5⟩ := D3.out
      have R := Lib.hid (D3.out.set1 hXB hwX (r - 4) (by omega) (by omega))
      clear hS3 ht3 hs' ht' l0 l1 l2 l3 l4 l5 D2 hS2
      go_wp2_with fail
      go_meet
      exact R.out
  rename_i wc
  obtain ⟨w0, hw0⟩ : ∃ x, x = wc := ⟨_, rfl⟩
  subst hw0
  have D1 : DrawRel B v (m + 3) w X w0 := by assumption
  have hS1' : SrcAt w0 B v (m + 3) := D1.src
  have HC1 := Lib.hid (CodeAt.touch HC.out D1.tch)
  clear hS2 HC2 D2
  go_wp2_with fail
  refine (one_small B v (m + 3) 3 _ hS1' HC1.out (by omega) (by omega) (by omega)).mono ?_
  rintro e w2 ⟨bb, rfl, hS2, ht2⟩
  have D2 := D1.touch hS2 ht2 hXB hRB
  have HC2 := Lib.hid (HC1.out.touch ht2)
  clear D1 hS1' ht2 HC1
  go_upto_if 17 with fail
  go_cut [] (DrawRel B v (m + 5) w X)
  case first =>
    cases bb
    · have D := Lib.hid (D2.mono (m' := m + 5) (by omega))
      clear D2 hS2 HC2
      go_wp2_with fail
      go_meet
      exact D.out
    · go_wp2_with fail
      refine (pick_small B v (m + 4) 4 _ hS2 HC2.out (by omega) (by omega) (by omega)).mono ?_
      rintro e w3 ⟨r, rfl, r0, r1, hS3, ht3⟩
      have D3 := Lib.hid (D2.touch hS3 ht3 hXB hRB)
      obtain ⟨a, b, k, x0, x1, x2, y0, y1, y2, z0, z1, z2, u0, u1, u2, hX', hs', ht', l0, l1, l2, l3, l4, l5⟩ := D3.out
      have R := Lib.hid (D3.out.set2 hXB hwX (r) (by omega) (by omega))
      clear hS3 ht3 hs' ht' l0 l1 l2 l3 l4 l5 D2 hS2
      go_wp2_with fail
      go_meet
      exact R.out
  rename_i wc
  obtain ⟨w0, hw0⟩ : ∃ x, x = wc := ⟨_, rfl⟩
  subst hw0
  have D1 : DrawRel B v (m + 5) w X w0 := by assumption
  have hS1' : SrcAt w0 B v (m + 5) := D1.src
  have HC1 := Lib.hid (CodeAt.touch HC.out D1.tch)
  clear hS2 HC2 D2
  go_wp2_with fail
  refine (one_small B v (m + 5) 12 _ hS1' HC1.out (by omega) (by omega) (by omega)).mono ?_
  rintro e w2 ⟨bb, rfl, hS2, ht2⟩
  have D2 := D1.touch hS2 ht2 hXB hRB
  have HC2 := Lib.hid (HC1.out.touch ht2)
  clear D1 hS1' ht2 HC1
  go_upto_if 22 with fail
  go_cut [] (DrawRel B v (m + 9) w X)
  case first =>
    cases bb
    · have D := Lib.hid (D2.mono (m' := m + 9) (by omega))
      clear D2 hS2 HC2
      go_wp2_with fail
      go_meet
      exact D.out
    · go_wp2_with fail
      have hB2 : B < w2.heap.size := hS2.lt
      refine (among_small B w2.heap.size v (m + 6) 5 (-131072) 131072 _ (hS2.alloc _) (HC2.out.touch ((Touch.refl _ _).alloc _)) (by omega) (by omega) (by omega) ?_ (by omega) ?_).mono ?_
      · simp
      · intro i hi
        rcases (show i = 0 ∨ i = 1 ∨ i = 2 ∨ i = 3 ∨ i = 4 by omega) with rfl | rfl | rfl | rfl | rfl
        all_goals exact ⟨_, (by simp [go_sem]; rfl), (by decide), (by decide)⟩
      rintro e w3 ⟨r, rfl, r0, r1, hS3, ht3⟩
      have D3 := Lib.hid ((D2.alloc hXB hRB _).touch hS3 ht3 hXB hRB)
      obtain ⟨a, b, k, x0, x1, x2, y0, y1, y2, z0, z1, z2, u0, u1, u2, hX', hs', ht', l0, l1, l2, l3, l4, l5⟩ := D3.out
      have R3 := Lib.hid (D3.out.set0 hXB hwX r r0 r1)
      clear hS3 ht3 hs' ht' l0 l1 l2 l3 l4 l5 D2 hS2 HC2
      go_wp2_with fail
      clear x0 x1 x2 y0 y1 y2 z0 z1 z2 u0 u1 u2 hX'
      have hB3 : B < (w3.setCell ⟨X, 0, none⟩ (.int .i64 r)).heap.size := R3.out.src.lt
      have HSZ := Lib.hid (show (w3.setCell ⟨X, 0, none⟩ (.int .i64 r)).heap.size = w3.heap.size by simp)
      generalize w3.setCell ⟨X, 0, none⟩ (.int .i64 r) = w4 at *
      rw [← HSZ.out]
      refine (among_small B w4.heap.size v (m + 7) 5 (-131072) 131072 _ (R3.out.src.alloc _) (HC.out.touch (R3.out.tch.alloc _)) (by omega) (by omega) (by omega) ?_ (by omega) ?_).mono ?_
      · simp
      · intro i hi
        rcases (show i = 0 ∨ i = 1 ∨ i = 2 ∨ i = 3 ∨ i = 4 by omega) with rfl | rfl | rfl | rfl | rfl
        all_goals exact ⟨_, (by simp [go_sem]; rfl), (by decide), (by decide)⟩
      rintro e w5 ⟨q, rfl, q0, q1, hS5, ht5⟩
      have D5 := Lib.hid ((R3.out.alloc hXB hRB _).touch hS5 ht5 hXB hRB)
      obtain ⟨a, b, k, x0, x1, x2, y0, y1, y2, z0, z1, z2, u0, u1, u2, hX', hs', ht', l0, l1, l2, l3, l4, l5⟩ := D5.out
      have R5 := Lib.hid (D5.out.set1 hXB hwX q q0 q1)
      clear hS5 ht5 hs' ht' l0 l1 l2 l3 l4 l5 R3
      go_wp2_with fail
      clear x0 x1 x2 y0 y1 y2 z0 z1 z2 u0 u1 u2 hX'
      generalize w5.setCell ⟨X, 1, none⟩ (.int .i64 q) = w6 at *
      refine (pick_small B v (m + 8) 11 _ R5.out.src (HC.out.touch R5.out.tch) (by omega) (by omega) (by omega)).mono ?_
      rintro e w7 ⟨t, rfl, t0, t1, hS7, ht7⟩
      have D7 := Lib.hid (R5.out.touch hS7 ht7 hXB hRB)
      obtain ⟨a, b, k, x0, x1, x2, y0, y1, y2, z0, z1, z2, u0, u1, u2, hX', hs', ht', l0, l1, l2, l3, l4, l5⟩ := D7.out
      have R7 := Lib.hid (D7.out.set2 hXB hwX t (by omega) (by omega))
      clear hS7 ht7 hs' ht' l0 l1 l2 l3 l4 l5 R5
      go_wp2_with fail
      go_meet
      exact R7.out
  rename_i wc
  obtain ⟨w0, hw0⟩ : ∃ x, x = wc := ⟨_, rfl⟩
  subst hw0
  have D1 : DrawRel B v (m + 9) w X w0 := by assumption
  clear hcut hS2 HC2 D2
  obtain ⟨a, b, k, x0, x1, x2, y0, y1, y2, z0, z1, z2, u0, u1, u2, hX', hs', ht', l0, l1, l2, l3, l4, l5⟩ := D1
  obtain ⟨K, rfl⟩ := Int.eq_ofNat_of_zero_le l4
  have HL := Lib.hid (fun w => lNum_any a b K w (by omega) (by omega) (by omega) (by omega) (by omega))
  have HS2 := Lib.hid hs'
  have HT2 := Lib.hid ht'
  have hw0 : w.heap.size < w0.heap.size := World.block_lt_of_cell? w0 _ z0
  clear hs' ht' l0 l1 l2 l3 l4 l5
  go_wp2_with fail
  refine (HL.out _).mono ?_
  rintro e w8 ⟨rfl, hb8⟩
  have hz8 := hb8.size
  have hw8 : w.heap.size < w8.heap.size := by omega
  have c8 : ∀ i, w8.cell? ⟨w.heap.size, i, none⟩ = w0.cell? ⟨w.heap.size, i, none⟩ := fun i => hb8.cell (p := ⟨w.heap.size, i, none⟩) hw0
  have f8 : ∀ i, w8.frozen? ⟨w.heap.size, i, none⟩ = w0.frozen? ⟨w.heap.size, i, none⟩ := fun i => hb8.frozen (p := ⟨w.heap.size, i, none⟩) hw0
  have e0 := (c8 0).trans z0
  have e1 := (c8 1).trans z1
  have e2 := (c8 2).trans z2
  have g0 := (f8 0).trans u0
  have g1 := (f8 1).trans u1
  have g2 := (f8 2).trans u2
  have hS8 := Lib.hid (HS2.out.below hb8 HS2.out.lt)
  have hT8 := Lib.hid (HT2.out.trans (.ofBelow hb8))
  clear c8 f8 x0 x1 x2 y0 y1 y2 z0 z1 z2 u0 u1 u2 hb8
  cases ho : limO a b K
  · go_wp2_with fail
    refine bodyPost_ret (v := num 1 0 0) (by simp [results, Tryd.results46, go_sem, *]) rfl ⟨1, 0, 0, rfl, by decide, ?_, ?_⟩
    · have hS := hS8.out
      (repeat (first | with_reducible assumption | with_reducible refine SrcAt.drew ?_ | with_reducible refine SrcAt.alloc ?_ _ | with_reducible refine SrcAt.setFar ?_ (by first | omega | (simp; done) | (simp; omega)) _ _ _))
    · have hT := hT8.out
      (repeat (first | with_reducible assumption | with_reducible refine Touch.drew ?_ | with_reducible refine Touch.alloc ?_ _ | with_reducible refine Touch.setNew ?_ (by first | omega | (simp; done) | (simp; omega)) _ _ _))
  · go_wp2_with fail
    refine bodyPost_ret (v := num (limA a b K) (limB a b K) (limK a b K)) (by simp [results, Tryd.results46, go_sem, *]) rfl ⟨limA a b K, limB a b K, limK a b K, rfl, ?_, ?_, ?_⟩
    · unfold limO at ho
      simp only [limA, limB, limK, ho, if_true]
      rw [← valid_low] at ho
      exact ho
    · have hS := hS8.out
      (repeat (first | with_reducible assumption | with_reducible refine SrcAt.drew ?_ | with_reducible refine SrcAt.alloc ?_ _ | with_reducible refine SrcAt.setFar ?_ (by first | omega | (simp; done) | (simp; omega)) _ _ _))
    · have hT := hT8.out
      (repeat (first | with_reducible assumption | with_reducible refine Touch.drew ?_ | with_reducible refine Touch.alloc ?_ _ | with_reducible refine Touch.setNew ?_ (by first | omega | (simp; done) | (simp; omega)) _ _ _))
end Go.Proofs.YtffcdnokkdifdaaDoor
