/- Lines drawn that are often not valid; a motion and a line from a law's bytes. Their parts are small. -/
import Derived.Test.YtafbdnjabgfjeaaDoorWb
import Derived.Test.YtafbdnjabgfjeaaDoorSb
import Derived.WalkSmall
import Derived.Deep.DeepCutAuto
import Derived.BigRegion
section
namespace Go.Proofs.YtafbdnjabgfjeaaDoor
open Go Go.RowKit OriM

/-- Only block B (and what is new) may have turned. -/
structure Touch (B : Nat) (w w' : World) : Prop where
  os : w'.os = w.os
  tape : w'.tape = w.tape
  output : w'.output = w.output
  size : w.heap.size ≤ w'.heap.size
  block : ∀ k, k < w.heap.size → k ≠ B → w'.heap[k]? = w.heap[k]?
theorem Touch.refl (B : Nat) (w : World) : Touch B w w := ⟨rfl, rfl, rfl, Nat.le_refl _, fun _ _ _ => rfl⟩
theorem Touch.trans {B : Nat} {a b c : World} (h : Touch B a b) (k : Touch B b c) : Touch B a c :=
  ⟨k.os.trans h.os, k.tape.trans h.tape, k.output.trans h.output, Nat.le_trans h.size k.size, fun i hi hB => (k.block i (Nat.lt_of_lt_of_le hi h.size) hB).trans (h.block i hi hB)⟩
theorem Touch.ofBelow {B : Nat} {w w' : World} (h : Below w.heap.size w w') : Touch B w w' := ⟨h.os, h.tape, h.output, h.size, fun k hk _ => h.block k hk⟩
theorem Touch.drew {B : Nat} {a w : World} (h : Touch B a w) : Touch B a w.drew := h.trans (.ofBelow ((Below.refl _ _).drew))
theorem Touch.drewN {B : Nat} {a w : World} (h : Touch B a w) (n : Nat) : Touch B a (w.drewN n) := h.trans (.ofBelow (below_drewN (Below.refl _ _) n))
theorem Touch.alloc {B : Nat} {a w : World} (h : Touch B a w) (o : Obj) : Touch B a (w.alloc o) := h.trans (.ofBelow ((Below.refl _ _).alloc (Nat.le_refl _) o))
theorem Touch.setCell {B : Nat} {a w : World} (h : Touch B a w) (o : Nat) (m : Option Nat) (v : Value) : Touch B a (w.setCell ⟨B, o, m⟩ v) := by
  refine h.trans ⟨rfl, rfl, rfl, ?_, fun k _ hB => Below.heap_setCell w ⟨B, o, m⟩ v k hB⟩
  simp
theorem Touch.setNew {B : Nat} {a w : World} (h : Touch B a w) {X : Nat} (hX : a.heap.size ≤ X) (o : Nat) (m : Option Nat) (v : Value) : Touch B a (w.setCell ⟨X, o, m⟩ v) := by
  refine ⟨h.os, h.tape, h.output, by simpa using h.size, fun k hk hB => (Below.heap_setCell w ⟨X, o, m⟩ v k (by show k ≠ X; omega)).trans (h.block k hk hB)⟩
theorem Touch.below {B M : Nat} {w w' : World} (h : Touch B w w') (hM : M ≤ B) (hs : M ≤ w.heap.size) : Below M w w' := ⟨h.os, h.tape, h.output, h.size, fun k hk => h.block k (by omega) (by omega)⟩
theorem Touch.cell {B : Nat} {w w' : World} (h : Touch B w w') {p : Addr} (hp : p.block < w.heap.size) (hB : p.block ≠ B) : w'.cell? p = w.cell? p := World.cell?_of_block (w := w) (h.block p.block hp hB)
theorem Touch.frozen {B : Nat} {w w' : World} (h : Touch B w w') {p : Addr} (hp : p.block < w.heap.size) (hB : p.block ≠ B) : w'.frozen? p = w.frozen? p := World.frozen?_of_block (w := w) (h.block p.block hp hB)

/-- The source lies in block B; at most m numbers have been drawn. -/
def SrcAt (w : World) (B : Nat) (v : Value) (m : Nat) : Prop :=
  w.cell? ⟨B, 0, none⟩ = some v ∧ (∃ n s : Int, w.cell? ⟨B, 1, none⟩ = some (.int .i64 n) ∧ w.cell? ⟨B, 2, none⟩ = some (.int .u64 s) ∧ 0 ≤ n ∧ n ≤ m ∧ 0 ≤ s ∧ s ≤ 18446744073709551615) ∧
  w.frozen? ⟨B, 1, none⟩ = false ∧ w.frozen? ⟨B, 2, none⟩ = false
/-- Its bytes lie elsewhere. -/
def CodeAt (w : World) (B : Nat) (v : Value) : Prop :=
  (∃ a c, v = .slice a 0 c) ∨ ∃ (b o n c : Nat), v = .slice (some ⟨b, o, none⟩) n c ∧ b ≠ B ∧ b < w.heap.size ∧ n ≤ 9223372036854775807 ∧ ∀ i, i < n → ∃ x : Int, w.cell? ⟨b, o + i, none⟩ = some (.int .u8 x) ∧ 0 ≤ x ∧ x ≤ 255
theorem CodeAt.touch {w w' : World} {B : Nat} {v : Value} (h : CodeAt w B v) (t : Touch B w w') : CodeAt w' B v := by
  rcases h with h | ⟨b, o, n, c, rfl, hb, hs, hn, h⟩
  · exact .inl h
  · refine .inr ⟨b, o, n, c, rfl, hb, Nat.lt_of_lt_of_le hs t.size, hn, fun i hi => ?_⟩
    obtain ⟨x, hx, h0, h1⟩ := h i hi
    exact ⟨x, by rw [t.cell (p := ⟨b, o + i, none⟩) hs hb]; exact hx, h0, h1⟩

/-- A number in its bounds has been drawn. -/
def Drawn (B : Nat) (v : Value) (m : Nat) (lo hi : Int) (w : World) (e : Ending) (w' : World) : Prop :=
  ∃ r : Int, e = .returned (.int .i64 r) ∧ lo ≤ r ∧ r ≤ hi ∧ SrcAt w' B v m ∧ Touch B w w'

theorem and_255 (y : Int) (h0 : 0 ≤ y) (h1 : y ≤ 18446744073709551615) : 0 ≤ bits BinOp.and IntKind.u64 y 255 ∧ bits BinOp.and IntKind.u64 y 255 ≤ 255 := by
  obtain ⟨n, rfl⟩ := Int.eq_ofNat_of_zero_le h0
  have h := bits_and_u64_nat n 255 (by omega) (by omega)
  rw [show ((255 : Nat) : Int) = 255 from rfl] at h
  rw [h, show (255 : Nat) = 2 ^ 8 - 1 from rfl, Nat.and_two_pow_sub_one_eq_mod]
  omega

theorem u64_bd (x : Int) : 0 ≤ IntKind.u64.wrap x ∧ IntKind.u64.wrap x ≤ 18446744073709551615 := by rw [IntKind.wrap_u64]; omega

theorem next_any (B : Nat) (v : Value) (m : Nat) (w : World) (hS : SrcAt w B v m) (hC : CodeAt w B v) (hm : m ≤ 1099511627776) :
    Calls Tryd.prog 156 #[.pointer (some ⟨B, 0, none⟩)] w (Drawn B v (m + 1) 0 255 w) := by
  obtain ⟨c0, ⟨n, s, c1, c2, n0, n1, s0, s1⟩, f1, f2⟩ := hS
  have n2 : n ≤ 1099511627776 := by omega
  clear hm
  rcases hC with ⟨a, c, rfl⟩ | ⟨b, o, len, cap, rfl, hb, hs, hlen, hcell⟩
  · have hlt : ¬ n < 0 := by omega
    have hle : ¬ n + 1 ≤ 0 := by omega
    go_enter Tryd.func156, Tryd.ntmps156
    go_wp2_with fail
    go_quiet (fail)
    go_wp2_with fail
    go_quiet (fail)
    go_wp2_with fail
    have q := u64_bd (IntKind.u64.wrap (IntKind.u64.wrap (s * 6364136223846793005)) + 1442695040888963407)
    obtain ⟨y0, y1⟩ := and_255 (IntKind.u64.wrap (IntKind.u64.wrap (IntKind.u64.wrap (s * 6364136223846793005)) + 1442695040888963407) / 1099511627776) (by omega) (by omega)
    have e := IntWalk.wrap64_in (bits BinOp.and IntKind.u64 (IntKind.u64.wrap (IntKind.u64.wrap (IntKind.u64.wrap (s * 6364136223846793005)) + 1442695040888963407) / 1099511627776) 255) ⟨by omega, by omega⟩
    go_ret
    refine ⟨_, rfl, by rw [e]; exact y0, by rw [e]; exact y1, ⟨by simp [go_sem, c0], ⟨n + 1, _, by simp [go_sem, c1], by simp [go_sem, c2], by omega, by omega, q.1, q.2⟩, by simp [go_sem, f1], by simp [go_sem, f2]⟩, ?_⟩
    (repeat (first | with_reducible exact Touch.refl _ _ | with_reducible assumption | with_reducible refine Touch.drewN ?_ _ | with_reducible refine Touch.drew ?_ | with_reducible refine Touch.alloc ?_ _ | with_reducible refine Touch.setCell ?_ _ _ _ | with_reducible refine Touch.trans ?_ (by assumption)))
  · by_cases hlt : n < len
    · obtain ⟨i, rfl⟩ := Int.eq_ofNat_of_zero_le n0
      obtain ⟨x, hx, x0, x1⟩ := hcell i (by omega)
      have hne : ¬ (b = B) := hb
      have hle : (i : Int) + 1 ≤ len := by omega
      clear hcell
      go_enter Tryd.func156, Tryd.ntmps156
      go_wp2_with fail
      go_quiet (fail)
      go_wp2_with fail
      go_quiet (fail)
      go_wp2_with fail
      go_quiet (fail)
      go_wp2_with fail
      have q := u64_bd (IntKind.u64.wrap (IntKind.u64.wrap (s * 6364136223846793005) + x) + 1442695040888963407)
      go_ret
      refine ⟨_, rfl, x0, x1, ⟨by simp [go_sem, c0], ⟨i + 1, _, by simp [go_sem, c1], by simp [go_sem, c2], by omega, by omega, q.1, q.2⟩, by simp [go_sem, f1], by simp [go_sem, f2]⟩, ?_⟩
      (repeat (first | with_reducible exact Touch.refl _ _ | with_reducible assumption | with_reducible refine Touch.drewN ?_ _ | with_reducible refine Touch.drew ?_ | with_reducible refine Touch.alloc ?_ _ | with_reducible refine Touch.setCell ?_ _ _ _ | with_reducible refine Touch.trans ?_ (by assumption)))
    · have hge : ¬ n < len := hlt
      have hle : ¬ n + 1 ≤ len := by omega
      clear hcell hlt
      go_enter Tryd.func156, Tryd.ntmps156
      go_wp2_with fail
      go_quiet (fail)
      go_wp2_with fail
      go_quiet (fail)
      go_wp2_with fail
      have q := u64_bd (IntKind.u64.wrap (IntKind.u64.wrap (s * 6364136223846793005)) + 1442695040888963407)
      obtain ⟨y0, y1⟩ := and_255 (IntKind.u64.wrap (IntKind.u64.wrap (IntKind.u64.wrap (s * 6364136223846793005)) + 1442695040888963407) / 1099511627776) (by omega) (by omega)
      have e := IntWalk.wrap64_in (bits BinOp.and IntKind.u64 (IntKind.u64.wrap (IntKind.u64.wrap (IntKind.u64.wrap (s * 6364136223846793005)) + 1442695040888963407) / 1099511627776) 255) ⟨by omega, by omega⟩
      go_ret
      refine ⟨_, rfl, by rw [e]; exact y0, by rw [e]; exact y1, ⟨by simp [go_sem, c0], ⟨n + 1, _, by simp [go_sem, c1], by simp [go_sem, c2], by omega, by omega, q.1, q.2⟩, by simp [go_sem, f1], by simp [go_sem, f2]⟩, ?_⟩
      (repeat (first | with_reducible exact Touch.refl _ _ | with_reducible assumption | with_reducible refine Touch.drewN ?_ _ | with_reducible refine Touch.drew ?_ | with_reducible refine Touch.alloc ?_ _ | with_reducible refine Touch.setCell ?_ _ _ _ | with_reducible refine Touch.trans ?_ (by assumption)))

theorem Drawn.mono {B m m' : Nat} {v : Value} {lo hi lo' hi' : Int} {w : World} {e : Ending} {w' : World} (h : Drawn B v m lo hi w e w') (hm : m ≤ m') (h0 : lo' ≤ lo) (h1 : hi ≤ hi') : Drawn B v m' lo' hi' w e w' := by
  obtain ⟨r, rfl, r0, r1, ⟨c0, ⟨n, s, c1, c2, n0, n1, s0, s1⟩, f1, f2⟩, t⟩ := h
  exact ⟨r, rfl, by omega, by omega, ⟨c0, ⟨n, s, c1, c2, n0, by omega, s0, s1⟩, f1, f2⟩, t⟩

/-- pick, of at most 200. -/
theorem pick_small (B : Nat) (v : Value) (m : Nat) (n : Int) (w : World) (hS : SrcAt w B v m) (hC : CodeAt w B v) (hm : m ≤ 1099511627776) (n1 : 1 < n) (n2 : n ≤ 200) :
    Calls Tryd.prog 106 #[.pointer (some ⟨B, 0, none⟩), .int .i64 n] w (Drawn B v (m + 1) 0 (n - 1) w) := by
  have HN := Lib.hid (next_any B v m w hS hC hm)
  clear hS hC hm
  go_enter Tryd.func106, Tryd.ntmps106
  go_wp2_with fail
  refine (HN.out).mono ?_
  rintro e w1 ⟨r, rfl, r0, r1, hS1, ht1⟩
  have HS1 := Lib.hid hS1
  have HT1 := Lib.hid ht1
  clear hS1 ht1
  have q0 : 0 ≤ r % n := Int.emod_nonneg _ (by omega)
  have q1 : r % n < n := Int.emod_lt_of_pos _ (by omega)
  go_wp2_with fail
  go_ret
  exact ⟨r % n, rfl, q0, by omega, HS1.out, HT1.out⟩

/-- one. -/
def DrawnB (B : Nat) (v : Value) (m : Nat) (w : World) (e : Ending) (w' : World) : Prop := ∃ b : Bool, e = .returned (.bool b) ∧ SrcAt w' B v m ∧ Touch B w w'
theorem one_small (B : Nat) (v : Value) (m : Nat) (n : Int) (w : World) (hS : SrcAt w B v m) (hC : CodeAt w B v) (hm : m ≤ 1099511627776) (n1 : 1 < n) (n2 : n ≤ 200) :
    Calls Tryd.prog 109 #[.pointer (some ⟨B, 0, none⟩), .int .i64 n] w (DrawnB B v (m + 1) w) := by
  have HN := Lib.hid (pick_small B v m n w hS hC hm n1 n2)
  clear hS hC hm
  go_enter Tryd.func109, Tryd.ntmps109
  go_wp2_with fail
  refine (HN.out).mono ?_
  rintro e w1 ⟨r, rfl, r0, r1, hS1, ht1⟩
  have HS1 := Lib.hid hS1
  have HT1 := Lib.hid ht1
  clear hS1 ht1
  go_wp2_with fail
  go_ret
  exact ⟨_, rfl, HS1.out, HT1.out⟩

/-- among, of a list that lies in a block of its own. -/
theorem among_small (B L : Nat) (v : Value) (m len : Nat) (lo hi : Int) (w : World) (hS : SrcAt w B v m) (hC : CodeAt w B v) (hm : m ≤ 1099511627776) (n1 : 1 < len) (n2 : len ≤ 200)
    (hL : L < w.heap.size) (hLB : L ≠ B) (hcell : ∀ i, i < len → ∃ x : Int, w.cell? ⟨L, i, none⟩ = some (.int .i64 x) ∧ lo ≤ x ∧ x ≤ hi) :
    Calls Tryd.prog 107 #[.pointer (some ⟨B, 0, none⟩), .slice (some ⟨L, 0, none⟩) len len] w (Drawn B v (m + 1) lo hi w) := by
  have HN := Lib.hid (pick_small B v m len w hS hC hm (by omega) (by omega))
  have HC := Lib.hid hcell
  clear hS hC hm hcell
  go_enter Tryd.func107, Tryd.ntmps107
  go_wp2_with fail
  refine (HN.out).mono ?_
  rintro e w1 ⟨r, rfl, r0, r1, hS1, ht1⟩
  obtain ⟨i, rfl⟩ := Int.eq_ofNat_of_zero_le r0
  obtain ⟨x, hx, x0, x1⟩ := HC.out i (by omega)
  have hx1 : w1.cell? ⟨L, i, none⟩ = some (.int .i64 x) := by rw [ht1.cell (p := ⟨L, i, none⟩) hL hLB]; exact hx
  have HS1 := Lib.hid hS1
  have HT1 := Lib.hid ht1
  have hlt : (i : Int) < len := by omega
  clear hS1 ht1 hx r1
  go_wp2_with fail
  go_ret
  exact ⟨x, rfl, x0, x1, HS1.out, HT1.out⟩
end Go.Proofs.YtafbdnjabgfjeaaDoor
end
section
namespace Go.Proofs.YtafbdnjabgfjeaaDoor
open Go Go.RowKit OriM

theorem SrcAt.congr {w w' : World} {B : Nat} {v : Value} {m : Nat} (h : SrcAt w B v m) (hb : w'.heap[B]? = w.heap[B]?) : SrcAt w' B v m := by
  have hc : ∀ o, w'.cell? ⟨B, o, none⟩ = w.cell? ⟨B, o, none⟩ := fun o => World.cell?_of_block (a := ⟨B, o, none⟩) hb
  have hf : ∀ o, w'.frozen? ⟨B, o, none⟩ = w.frozen? ⟨B, o, none⟩ := fun o => World.frozen?_of_block (a := ⟨B, o, none⟩) hb
  obtain ⟨c0, ⟨n, s, c1, c2, r⟩, f1, f2⟩ := h
  exact ⟨by rw [hc]; exact c0, ⟨n, s, by rw [hc]; exact c1, by rw [hc]; exact c2, r⟩, by rw [hf]; exact f1, by rw [hf]; exact f2⟩
theorem SrcAt.lt {w : World} {B : Nat} {v : Value} {m : Nat} (h : SrcAt w B v m) : B < w.heap.size := World.block_lt_of_cell? w _ h.1
theorem SrcAt.drew {w : World} {B : Nat} {v : Value} {m : Nat} (h : SrcAt w B v m) : SrcAt w.drew B v m := h
theorem SrcAt.alloc {w : World} {B : Nat} {v : Value} {m : Nat} (h : SrcAt w B v m) (o : Obj) : SrcAt (w.alloc o) B v m := h.congr (Below.heap_alloc w o B h.lt)
theorem SrcAt.setFar {w : World} {B : Nat} {v : Value} {m : Nat} (h : SrcAt w B v m) {X : Nat} (hX : B ≠ X) (o : Nat) (q : Option Nat) (u : Value) : SrcAt (w.setCell ⟨X, o, q⟩ u) B v m :=
  h.congr (Below.heap_setCell w ⟨X, o, q⟩ u B hX)
theorem SrcAt.below {w w' : World} {B M : Nat} {v : Value} {m : Nat} (h : SrcAt w B v m) (hb : Below M w w') (hM : B < M) : SrcAt w' B v m := h.congr (hb.block B hM)
theorem SrcAt.mono {w : World} {B : Nat} {v : Value} {m m' : Nat} (h : SrcAt w B v m) (hm : m ≤ m') : SrcAt w B v m' := by
  obtain ⟨c0, ⟨n, s, c1, c2, n0, n1, s0, s1⟩, f1, f2⟩ := h
  exact ⟨c0, ⟨n, s, c1, c2, n0, by omega, s0, s1⟩, f1, f2⟩

/-- A valid number has been drawn. -/
def DrawnN (B : Nat) (v : Value) (m : Nat) (w : World) (e : Ending) (w' : World) : Prop :=
  ∃ a b k : Int, e = .returned (num a b k) ∧ validB a b k = true ∧ SrcAt w' B v m ∧ Touch B w w'

/-- Between the statements: the number that is being made lies in block X, the result's place is block R. -/
def DrawRel (B : Nat) (v : Value) (m : Nat) (w : World) (X : Nat) (wr : World) : Prop :=
  ∃ a b k : Int, wr.cell? ⟨X, 0, none⟩ = some (.int .i64 a) ∧ wr.cell? ⟨X, 1, none⟩ = some (.int .i64 b) ∧ wr.cell? ⟨X, 2, none⟩ = some (.int .i64 k) ∧
    wr.frozen? ⟨X, 0, none⟩ = false ∧ wr.frozen? ⟨X, 1, none⟩ = false ∧ wr.frozen? ⟨X, 2, none⟩ = false ∧
    wr.cell? ⟨w.heap.size, 0, none⟩ = some (.int .i64 0) ∧ wr.cell? ⟨w.heap.size, 1, none⟩ = some (.int .i64 0) ∧ wr.cell? ⟨w.heap.size, 2, none⟩ = some (.int .i64 0) ∧
    wr.frozen? ⟨w.heap.size, 0, none⟩ = false ∧ wr.frozen? ⟨w.heap.size, 1, none⟩ = false ∧ wr.frozen? ⟨w.heap.size, 2, none⟩ = false ∧
    X < wr.heap.size ∧ SrcAt wr B v m ∧ Touch B w wr ∧ -131072 ≤ a ∧ a ≤ 131072 ∧ -131072 ≤ b ∧ b ≤ 131072 ∧ 0 ≤ k ∧ k ≤ 10

theorem DrawRel.src {B : Nat} {v : Value} {m : Nat} {w : World} {X : Nat} {wr : World} (h : DrawRel B v m w X wr) : SrcAt wr B v m := by
  obtain ⟨a, b, k, _, _, _, _, _, _, _, _, _, _, _, _, _, hs, _⟩ := h; exact hs
theorem DrawRel.tch {B : Nat} {v : Value} {m : Nat} {w : World} {X : Nat} {wr : World} (h : DrawRel B v m w X wr) : Touch B w wr := by
  obtain ⟨a, b, k, _, _, _, _, _, _, _, _, _, _, _, _, _, _, ht, _⟩ := h; exact ht
theorem DrawRel.mono {B : Nat} {v : Value} {m m' : Nat} {w : World} {X : Nat} {wr : World} (h : DrawRel B v m w X wr) (hm : m ≤ m') : DrawRel B v m' w X wr := by
  obtain ⟨a, b, k, x0, x1, x2, y0, y1, y2, z0, z1, z2, u0, u1, u2, hX, hs, r⟩ := h
  exact ⟨a, b, k, x0, x1, x2, y0, y1, y2, z0, z1, z2, u0, u1, u2, hX, hs.mono hm, r⟩
theorem DrawRel.touch {B : Nat} {v : Value} {m m' : Nat} {w : World} {X : Nat} {wr w' : World} (h : DrawRel B v m w X wr) (hs' : SrcAt w' B v m') (t : Touch B wr w') (hXB : X ≠ B) (hR : w.heap.size ≠ B) : DrawRel B v m' w X w' := by
  obtain ⟨a, b, k, x0, x1, x2, y0, y1, y2, z0, z1, z2, u0, u1, u2, hX, hs, ht, r⟩ := h
  have hw : w.heap.size < wr.heap.size := World.block_lt_of_cell? wr _ z0
  have cX : ∀ i, w'.cell? ⟨X, i, none⟩ = wr.cell? ⟨X, i, none⟩ := fun i => t.cell (p := ⟨X, i, none⟩) hX hXB
  have fX : ∀ i, w'.frozen? ⟨X, i, none⟩ = wr.frozen? ⟨X, i, none⟩ := fun i => t.frozen (p := ⟨X, i, none⟩) hX hXB
  have cR : ∀ i, w'.cell? ⟨w.heap.size, i, none⟩ = wr.cell? ⟨w.heap.size, i, none⟩ := fun i => t.cell (p := ⟨w.heap.size, i, none⟩) hw hR
  have fR : ∀ i, w'.frozen? ⟨w.heap.size, i, none⟩ = wr.frozen? ⟨w.heap.size, i, none⟩ := fun i => t.frozen (p := ⟨w.heap.size, i, none⟩) hw hR
  exact ⟨a, b, k, by rw [cX]; exact x0, by rw [cX]; exact x1, by rw [cX]; exact x2, by rw [fX]; exact y0, by rw [fX]; exact y1, by rw [fX]; exact y2,
    by rw [cR]; exact z0, by rw [cR]; exact z1, by rw [cR]; exact z2, by rw [fR]; exact u0, by rw [fR]; exact u1, by rw [fR]; exact u2, Nat.lt_of_lt_of_le hX t.size, hs', ht.trans t, r⟩
/-- New blocks change nothing of it. -/
theorem DrawRel.alloc {B : Nat} {v : Value} {m : Nat} {w : World} {X : Nat} {wr : World} (h : DrawRel B v m w X wr) (hXB : X ≠ B) (hR : w.heap.size ≠ B) (o : Obj) : DrawRel B v m w X (wr.alloc o) := by
  have hs : SrcAt wr B v m := by obtain ⟨a, b, k, _, _, _, _, _, _, _, _, _, _, _, _, _, hs, _⟩ := h; exact hs
  exact h.touch (hs.alloc o) ((Touch.refl _ _).alloc o) hXB hR
theorem DrawRel.set0 {B : Nat} {v : Value} {m : Nat} {w : World} {X : Nat} {wr : World} (h : DrawRel B v m w X wr) (hXB : X ≠ B) (hwX : w.heap.size < X) (n : Int) (n0 : -131072 ≤ n) (n1 : n ≤ 131072) : DrawRel B v m w X (wr.setCell ⟨X, 0, none⟩ (.int .i64 n)) := by
  obtain ⟨a, b, k, x0, x1, x2, y0, y1, y2, z0, z1, z2, u0, u1, u2, hX, hs, ht, l0, l1, l2, l3, l4, l5⟩ := h
  have hw : w.heap.size < wr.heap.size := World.block_lt_of_cell? wr _ z0
  have hb : (wr.setCell ⟨X, 0, none⟩ (.int .i64 n)).heap[w.heap.size]? = wr.heap[w.heap.size]? := Below.heap_setCell wr ⟨X, 0, none⟩ _ _ (Nat.ne_of_lt hwX)
  have cR : ∀ i, (wr.setCell ⟨X, 0, none⟩ (.int .i64 n)).cell? ⟨w.heap.size, i, none⟩ = wr.cell? ⟨w.heap.size, i, none⟩ := fun i => World.cell?_of_block (a := ⟨w.heap.size, i, none⟩) hb
  have fR : ∀ i, (wr.setCell ⟨X, 0, none⟩ (.int .i64 n)).frozen? ⟨w.heap.size, i, none⟩ = wr.frozen? ⟨w.heap.size, i, none⟩ := fun i => World.frozen?_of_block (a := ⟨w.heap.size, i, none⟩) hb
  refine ⟨n, b, k, by simp [go_sem, x0], by simp [go_sem, x1], by simp [go_sem, x2], by simp [go_sem, y0], by simp [go_sem, y1], by simp [go_sem, y2],
    by rw [cR]; exact z0, by rw [cR]; exact z1, by rw [cR]; exact z2, by rw [fR]; exact u0, by rw [fR]; exact u1, by rw [fR]; exact u2, by simpa using hX, hs.setFar (Ne.symm hXB) _ _ _, ht.setNew (Nat.le_of_lt hwX) _ _ _, n0, n1, l2, l3, l4, l5⟩
theorem DrawRel.set1 {B : Nat} {v : Value} {m : Nat} {w : World} {X : Nat} {wr : World} (h : DrawRel B v m w X wr) (hXB : X ≠ B) (hwX : w.heap.size < X) (n : Int) (n0 : -131072 ≤ n) (n1 : n ≤ 131072) : DrawRel B v m w X (wr.setCell ⟨X, 1, none⟩ (.int .i64 n)) := by
  obtain ⟨a, b, k, x0, x1, x2, y0, y1, y2, z0, z1, z2, u0, u1, u2, hX, hs, ht, l0, l1, l2, l3, l4, l5⟩ := h
  have hw : w.heap.size < wr.heap.size := World.block_lt_of_cell? wr _ z0
  have hb : (wr.setCell ⟨X, 1, none⟩ (.int .i64 n)).heap[w.heap.size]? = wr.heap[w.heap.size]? := Below.heap_setCell wr ⟨X, 1, none⟩ _ _ (Nat.ne_of_lt hwX)
  have cR : ∀ i, (wr.setCell ⟨X, 1, none⟩ (.int .i64 n)).cell? ⟨w.heap.size, i, none⟩ = wr.cell? ⟨w.heap.size, i, none⟩ := fun i => World.cell?_of_block (a := ⟨w.heap.size, i, none⟩) hb
  have fR : ∀ i, (wr.setCell ⟨X, 1, none⟩ (.int .i64 n)).frozen? ⟨w.heap.size, i, none⟩ = wr.frozen? ⟨w.heap.size, i, none⟩ := fun i => World.frozen?_of_block (a := ⟨w.heap.size, i, none⟩) hb
  refine ⟨a, n, k, by simp [go_sem, x0], by simp [go_sem, x1], by simp [go_sem, x2], by simp [go_sem, y0], by simp [go_sem, y1], by simp [go_sem, y2],
    by rw [cR]; exact z0, by rw [cR]; exact z1, by rw [cR]; exact z2, by rw [fR]; exact u0, by rw [fR]; exact u1, by rw [fR]; exact u2, by simpa using hX, hs.setFar (Ne.symm hXB) _ _ _, ht.setNew (Nat.le_of_lt hwX) _ _ _, l0, l1, n0, n1, l4, l5⟩
theorem DrawRel.set2 {B : Nat} {v : Value} {m : Nat} {w : World} {X : Nat} {wr : World} (h : DrawRel B v m w X wr) (hXB : X ≠ B) (hwX : w.heap.size < X) (n : Int) (n0 : 0 ≤ n) (n1 : n ≤ 10) : DrawRel B v m w X (wr.setCell ⟨X, 2, none⟩ (.int .i64 n)) := by
  obtain ⟨a, b, k, x0, x1, x2, y0, y1, y2, z0, z1, z2, u0, u1, u2, hX, hs, ht, l0, l1, l2, l3, l4, l5⟩ := h
  have hw : w.heap.size < wr.heap.size := World.block_lt_of_cell? wr _ z0
  have hb : (wr.setCell ⟨X, 2, none⟩ (.int .i64 n)).heap[w.heap.size]? = wr.heap[w.heap.size]? := Below.heap_setCell wr ⟨X, 2, none⟩ _ _ (Nat.ne_of_lt hwX)
  have cR : ∀ i, (wr.setCell ⟨X, 2, none⟩ (.int .i64 n)).cell? ⟨w.heap.size, i, none⟩ = wr.cell? ⟨w.heap.size, i, none⟩ := fun i => World.cell?_of_block (a := ⟨w.heap.size, i, none⟩) hb
  have fR : ∀ i, (wr.setCell ⟨X, 2, none⟩ (.int .i64 n)).frozen? ⟨w.heap.size, i, none⟩ = wr.frozen? ⟨w.heap.size, i, none⟩ := fun i => World.frozen?_of_block (a := ⟨w.heap.size, i, none⟩) hb
  refine ⟨a, b, n, by simp [go_sem, x0], by simp [go_sem, x1], by simp [go_sem, x2], by simp [go_sem, y0], by simp [go_sem, y1], by simp [go_sem, y2],
    by rw [cR]; exact z0, by rw [cR]; exact z1, by rw [cR]; exact z2, by rw [fR]; exact u0, by rw [fR]; exact u1, by rw [fR]; exact u2, by simpa using hX, hs.setFar (Ne.symm hXB) _ _ _, ht.setNew (Nat.le_of_lt hwX) _ _ _, l0, l1, l2, l3, n0, n1⟩
set_option maxHeartbeats 4000000 in
set_option maxRecDepth 100000 in
theorem draw_any (B : Nat) (v : Value) (m : Nat) (w : World) (hS : SrcAt w B v m) (hC : CodeAt w B v) (hm : m ≤ 1073741824) :
    Calls Tryd.prog 129 #[.pointer (some ⟨B, 0, none⟩)] w (DrawnN B v (m + 9) w) := by
  have hB := hS.lt
  have HS := Lib.hid hS
  have HC := Lib.hid hC
  clear hS hC
  go_enter Tryd.func129, Tryd.ntmps129
  go_wp2_with fail
  refine (pick_small B v m 9 _ (HS.out.alloc _) (HC.out.touch ((Touch.refl _ _).alloc _)) (by omega) (by omega) (by omega)).mono ?_
  rintro e w1 ⟨r, rfl, r0, r1, hS1, ht1⟩
  have hRB : w.heap.size ≠ B := by omega
  have hz1 : w.heap.size < w1.heap.size := by have := ht1.size; simp at this; omega
  have hXB : w1.heap.size ≠ B := by omega
  have D1 : DrawRel B v (m + 1) w w1.heap.size (w1.alloc (Obj.cells #[Value.int IntKind.i64 (r - 4), Value.int IntKind.i64 0, Value.int IntKind.i64 0] 99)) := by
    have hb : w1.heap[w.heap.size]? = (w.alloc (Obj.cells #[Value.int IntKind.i64 0, Value.int IntKind.i64 0, Value.int IntKind.i64 0] 25)).heap[w.heap.size]? := ht1.block w.heap.size (by simp) hRB
    have hb2 : (w1.alloc (Obj.cells #[Value.int IntKind.i64 (r - 4), Value.int IntKind.i64 0, Value.int IntKind.i64 0] 99)).heap[w.heap.size]? = (w.alloc (Obj.cells #[Value.int IntKind.i64 0, Value.int IntKind.i64 0, Value.int IntKind.i64 0] 25)).heap[w.heap.size]? := (Below.heap_alloc w1 _ _ hz1).trans hb
    have cR : ∀ i, (w1.alloc (Obj.cells #[Value.int IntKind.i64 (r - 4), Value.int IntKind.i64 0, Value.int IntKind.i64 0] 99)).cell? ⟨w.heap.size, i, none⟩ = _ := fun i => World.cell?_of_block (a := ⟨w.heap.size, i, none⟩) hb2
    have fR : ∀ i, (w1.alloc (Obj.cells #[Value.int IntKind.i64 (r - 4), Value.int IntKind.i64 0, Value.int IntKind.i64 0] 99)).frozen? ⟨w.heap.size, i, none⟩ = _ := fun i => World.frozen?_of_block (a := ⟨w.heap.size, i, none⟩) hb2
    refine ⟨r - 4, 0, 0, by simp [go_sem], by simp [go_sem], by simp [go_sem], by simp [go_sem], by simp [go_sem], by simp [go_sem], by rw [cR]; simp [go_sem], by rw [cR]; simp [go_sem], by rw [cR]; simp [go_sem], by rw [fR]; simp [go_sem], by rw [fR]; simp [go_sem], by rw [fR]; simp [go_sem], by simp, hS1.alloc _, ((((Touch.refl B w).alloc _).trans ht1).alloc _), by omega, by omega, by omega, by omega, by omega, by omega⟩
  have HC1 := Lib.hid (CodeAt.touch HC.out ((((Touch.refl B w).alloc _).trans ht1).alloc (Obj.cells #[Value.int IntKind.i64 (r - 4), Value.int IntKind.i64 0, Value.int IntKind.i64 0] 99)))
  have hS1' : SrcAt (w1.alloc (Obj.cells #[Value.int IntKind.i64 (r - 4), Value.int IntKind.i64 0, Value.int IntKind.i64 0] 99)) B v (m + 1) := hS1.alloc _
  have hwX : w.heap.size < w1.heap.size := hz1
  clear hS1 ht1
  go_wp2_with fail
  generalize w1.alloc (Obj.cells #[Value.int IntKind.i64 (r - 4), Value.int IntKind.i64 0, Value.int IntKind.i64 0] 99) = w0 at *
  generalize w1.heap.size = X at *
  refine (one_small B v (m + 1) 3 _ hS1' HC1.out (by omega) (by omega) (by omega)).mono ?_
  rintro e w2 ⟨bb, rfl, hS2, ht2⟩
  have D2 := D1.touch hS2 ht2 hXB hRB
  have HC2 := Lib.hid (HC1.out.touch ht2)
  clear D1 hS1' ht2 HC1
  go_upto_if 11 with fail
  go_cut [] (DrawRel B v (m + 3) w X)
  case first =>
    cases bb
    · have D := Lib.hid (D2.mono (m' := m + 3) (by omega))
      clear D2 hS2 HC2
      go_wp2_with fail
      go_meet
      exact D.out
    · go_wp2_with fail
      refine (pick_small B v (m + 2) 9 _ hS2 HC2.out (by omega) (by omega) (by omega)).mono ?_
      rintro e w3 ⟨r, rfl, r0, r1, hS3, ht3⟩
      have D3 := Lib.hid (D2.touch hS3 ht3 hXB hRB)
      obtain ⟨a, b, k, x0, x1, x2, y0, y1, y2, z0, z1, z2, u0, u1, u2, hX', hs', ht', l0, l1, l2, l3, l4, l5⟩ := D3.out
      have R := Lib.hid (D3.out.set1 hXB hwX (r - 4) (by omega) (by omega))
      clear hS3 ht3 hs' ht' l0 l1 l2 l3 l4 l5 D2 hS2
      go_wp2_with fail
      go_meet
      exact R.out
  rename_i wc
  obtain ⟨w0, hw0⟩ : ∃ x, x = wc := ⟨_, rfl⟩
  subst hw0
  have D1 : DrawRel B v (m + 3) w X w0 := by assumption
  have hS1' : SrcAt w0 B v (m + 3) := D1.src
  have HC1 := Lib.hid (CodeAt.touch HC.out D1.tch)
  clear hS2 HC2 D2
  go_wp2_with fail
  refine (one_small B v (m + 3) 3 _ hS1' HC1.out (by omega) (by omega) (by omega)).mono ?_
  rintro e w2 ⟨bb, rfl, hS2, ht2⟩
  have D2 := D1.touch hS2 ht2 hXB hRB
  have HC2 := Lib.hid (HC1.out.touch ht2)
  clear D1 hS1' ht2 HC1
  go_upto_if 17 with fail
  go_cut [] (DrawRel B v (m + 5) w X)
  case first =>
    cases bb
    · have D := Lib.hid (D2.mono (m' := m + 5) (by omega))
      clear D2 hS2 HC2
      go_wp2_with fail
      go_meet
      exact D.out
    · go_wp2_with fail
      refine (pick_small B v (m + 4) 4 _ hS2 HC2.out (by omega) (by omega) (by omega)).mono ?_
      rintro e w3 ⟨r, rfl, r0, r1, hS3, ht3⟩
      have D3 := Lib.hid (D2.touch hS3 ht3 hXB hRB)
      obtain ⟨a, b, k, x0, x1, x2, y0, y1, y2, z0, z1, z2, u0, u1, u2, hX', hs', ht', l0, l1, l2, l3, l4, l5⟩ := D3.out
      have R := Lib.hid (D3.out.set2 hXB hwX (r) (by omega) (by omega))
      clear hS3 ht3 hs' ht' l0 l1 l2 l3 l4 l5 D2 hS2
      go_wp2_with fail
      go_meet
      exact R.out
  rename_i wc
  obtain ⟨w0, hw0⟩ : ∃ x, x = wc := ⟨_, rfl⟩
  subst hw0
  have D1 : DrawRel B v (m + 5) w X w0 := by assumption
  have hS1' : SrcAt w0 B v (m + 5) := D1.src
  have HC1 := Lib.hid (CodeAt.touch HC.out D1.tch)
  clear hS2 HC2 D2
  go_wp2_with fail
  refine (one_small B v (m + 5) 12 _ hS1' HC1.out (by omega) (by omega) (by omega)).mono ?_
  rintro e w2 ⟨bb, rfl, hS2, ht2⟩
  have D2 := D1.touch hS2 ht2 hXB hRB
  have HC2 := Lib.hid (HC1.out.touch ht2)
  clear D1 hS1' ht2 HC1
  go_upto_if 22 with fail
  go_cut [] (DrawRel B v (m + 9) w X)
  case first =>
    cases bb
    · have D := Lib.hid (D2.mono (m' := m + 9) (by omega))
      clear D2 hS2 HC2
      go_wp2_with fail
      go_meet
      exact D.out
    · go_wp2_with fail
      have hB2 : B < w2.heap.size := hS2.lt
      refine (among_small B w2.heap.size v (m + 6) 5 (-131072) 131072 _ (hS2.alloc _) (HC2.out.touch ((Touch.refl _ _).alloc _)) (by omega) (by omega) (by omega) ?_ (by omega) ?_).mono ?_
      · simp
      · intro i hi
        rcases (show i = 0 ∨ i = 1 ∨ i = 2 ∨ i = 3 ∨ i = 4 by omega) with rfl | rfl | rfl | rfl | rfl
        all_goals exact ⟨_, (by simp [go_sem]; rfl), (by decide), (by decide)⟩
      rintro e w3 ⟨r, rfl, r0, r1, hS3, ht3⟩
      have D3 := Lib.hid ((D2.alloc hXB hRB _).touch hS3 ht3 hXB hRB)
      obtain ⟨a, b, k, x0, x1, x2, y0, y1, y2, z0, z1, z2, u0, u1, u2, hX', hs', ht', l0, l1, l2, l3, l4, l5⟩ := D3.out
      have R3 := Lib.hid (D3.out.set0 hXB hwX r r0 r1)
      clear hS3 ht3 hs' ht' l0 l1 l2 l3 l4 l5 D2 hS2 HC2
      go_wp2_with fail
      clear x0 x1 x2 y0 y1 y2 z0 z1 z2 u0 u1 u2 hX'
      have hB3 : B < (w3.setCell ⟨X, 0, none⟩ (.int .i64 r)).heap.size := R3.out.src.lt
      have HSZ := Lib.hid (show (w3.setCell ⟨X, 0, none⟩ (.int .i64 r)).heap.size = w3.heap.size by simp)
      generalize w3.setCell ⟨X, 0, none⟩ (.int .i64 r) = w4 at *
      rw [← HSZ.out]
      refine (among_small B w4.heap.size v (m + 7) 5 (-131072) 131072 _ (R3.out.src.alloc _) (HC.out.touch (R3.out.tch.alloc _)) (by omega) (by omega) (by omega) ?_ (by omega) ?_).mono ?_
      · simp
      · intro i hi
        rcases (show i = 0 ∨ i = 1 ∨ i = 2 ∨ i = 3 ∨ i = 4 by omega) with rfl | rfl | rfl | rfl | rfl
        all_goals exact ⟨_, (by simp [go_sem]; rfl), (by decide), (by decide)⟩
      rintro e w5 ⟨q, rfl, q0, q1, hS5, ht5⟩
      have D5 := Lib.hid ((R3.out.alloc hXB hRB _).touch hS5 ht5 hXB hRB)
      obtain ⟨a, b, k, x0, x1, x2, y0, y1, y2, z0, z1, z2, u0, u1, u2, hX', hs', ht', l0, l1, l2, l3, l4, l5⟩ := D5.out
      have R5 := Lib.hid (D5.out.set1 hXB hwX q q0 q1)
      clear hS5 ht5 hs' ht' l0 l1 l2 l3 l4 l5 R3
      go_wp2_with fail
      clear x0 x1 x2 y0 y1 y2 z0 z1 z2 u0 u1 u2 hX'
      generalize w5.setCell ⟨X, 1, none⟩ (.int .i64 q) = w6 at *
      refine (pick_small B v (m + 8) 11 _ R5.out.src (HC.out.touch R5.out.tch) (by omega) (by omega) (by omega)).mono ?_
      rintro e w7 ⟨t, rfl, t0, t1, hS7, ht7⟩
      have D7 := Lib.hid (R5.out.touch hS7 ht7 hXB hRB)
      obtain ⟨a, b, k, x0, x1, x2, y0, y1, y2, z0, z1, z2, u0, u1, u2, hX', hs', ht', l0, l1, l2, l3, l4, l5⟩ := D7.out
      have R7 := Lib.hid (D7.out.set2 hXB hwX t (by omega) (by omega))
      clear hS7 ht7 hs' ht' l0 l1 l2 l3 l4 l5 R5
      go_wp2_with fail
      go_meet
      exact R7.out
  rename_i wc
  obtain ⟨w0, hw0⟩ : ∃ x, x = wc := ⟨_, rfl⟩
  subst hw0
  have D1 : DrawRel B v (m + 9) w X w0 := by assumption
  clear hcut hS2 HC2 D2
  obtain ⟨a, b, k, x0, x1, x2, y0, y1, y2, z0, z1, z2, u0, u1, u2, hX', hs', ht', l0, l1, l2, l3, l4, l5⟩ := D1
  obtain ⟨K, rfl⟩ := Int.eq_ofNat_of_zero_le l4
  have HL := Lib.hid (fun w => lNum_any a b K w (by omega) (by omega) (by omega) (by omega) (by omega))
  have HS2 := Lib.hid hs'
  have HT2 := Lib.hid ht'
  have hw0 : w.heap.size < w0.heap.size := World.block_lt_of_cell? w0 _ z0
  clear hs' ht' l0 l1 l2 l3 l4 l5
  go_wp2_with fail
  refine (HL.out _).mono ?_
  rintro e w8 ⟨rfl, hb8⟩
  have hz8 := hb8.size
  have hw8 : w.heap.size < w8.heap.size := by omega
  have c8 : ∀ i, w8.cell? ⟨w.heap.size, i, none⟩ = w0.cell? ⟨w.heap.size, i, none⟩ := fun i => hb8.cell (p := ⟨w.heap.size, i, none⟩) hw0
  have f8 : ∀ i, w8.frozen? ⟨w.heap.size, i, none⟩ = w0.frozen? ⟨w.heap.size, i, none⟩ := fun i => hb8.frozen (p := ⟨w.heap.size, i, none⟩) hw0
  have e0 := (c8 0).trans z0
  have e1 := (c8 1).trans z1
  have e2 := (c8 2).trans z2
  have g0 := (f8 0).trans u0
  have g1 := (f8 1).trans u1
  have g2 := (f8 2).trans u2
  have hS8 := Lib.hid (HS2.out.below hb8 HS2.out.lt)
  have hT8 := Lib.hid (HT2.out.trans (.ofBelow hb8))
  clear c8 f8 x0 x1 x2 y0 y1 y2 z0 z1 z2 u0 u1 u2 hb8
  cases ho : limO a b K
  · go_wp2_with fail
    refine bodyPost_ret (v := num 1 0 0) (by simp [results, Tryd.results129, go_sem, *]) rfl ⟨1, 0, 0, rfl, by decide, ?_, ?_⟩
    · have hS := hS8.out
      (repeat (first | with_reducible assumption | with_reducible refine SrcAt.drew ?_ | with_reducible refine SrcAt.alloc ?_ _ | with_reducible refine SrcAt.setFar ?_ (by first | omega | (simp; done) | (simp; omega)) _ _ _))
    · have hT := hT8.out
      (repeat (first | with_reducible assumption | with_reducible refine Touch.drew ?_ | with_reducible refine Touch.alloc ?_ _ | with_reducible refine Touch.setNew ?_ (by first | omega | (simp; done) | (simp; omega)) _ _ _))
  · go_wp2_with fail
    refine bodyPost_ret (v := num (limA a b K) (limB a b K) (limK a b K)) (by simp [results, Tryd.results129, go_sem, *]) rfl ⟨limA a b K, limB a b K, limK a b K, rfl, ?_, ?_, ?_⟩
    · unfold limO at ho
      simp only [limA, limB, limK, ho, if_true]
      rw [← valid_low] at ho
      exact ho
    · have hS := hS8.out
      (repeat (first | with_reducible assumption | with_reducible refine SrcAt.drew ?_ | with_reducible refine SrcAt.alloc ?_ _ | with_reducible refine SrcAt.setFar ?_ (by first | omega | (simp; done) | (simp; omega)) _ _ _))
    · have hT := hT8.out
      (repeat (first | with_reducible assumption | with_reducible refine Touch.drew ?_ | with_reducible refine Touch.alloc ?_ _ | with_reducible refine Touch.setNew ?_ (by first | omega | (simp; done) | (simp; omega)) _ _ _))
end Go.Proofs.YtafbdnjabgfjeaaDoor
end
section
namespace Go.Proofs.YtafbdnjabgfjeaaDoor
open Go Go.RowKit OriM

/-- The bytes of a law, as they lie when it is called. -/
def CodeIn (w : World) (v : Value) : Prop :=
  (∃ a c, v = .slice a 0 c) ∨ ∃ (b o n c : Nat), v = .slice (some ⟨b, o, none⟩) n c ∧ b < w.heap.size ∧ n ≤ 9223372036854775807 ∧ ∀ i, i < n → ∃ x : Int, w.cell? ⟨b, o + i, none⟩ = some (.int .u8 x) ∧ 0 ≤ x ∧ x ≤ 255
theorem CodeIn.at {w w' : World} {v : Value} (h : CodeIn w v) {B : Nat} (hB : w.heap.size ≤ B) (hb : Below w.heap.size w w') : CodeAt w' B v := by
  rcases h with h | ⟨b, o, n, c, rfl, hs, hn, h⟩
  · exact .inl h
  · refine .inr ⟨b, o, n, c, rfl, by omega, Nat.lt_of_lt_of_le hs hb.size, hn, fun i hi => ?_⟩
    obtain ⟨x, hx, h0, h1⟩ := h i hi
    exact ⟨x, by rw [hb.cell (p := ⟨b, o + i, none⟩) hs]; exact hx, h0, h1⟩

theorem CodeIn.slice {w : World} {v : Value} (h : CodeIn w v) : ∃ a n c, v = .slice a n c := by
  rcases h with ⟨a, c, h⟩ | ⟨b, o, n, c, h, _⟩
  · exact ⟨a, 0, c, h⟩
  · exact ⟨_, n, c, h⟩

theorem from_any (sa : Option Addr) (sn sc : Nat) (w : World) : Calls Tryd.prog 47 #[.slice sa sn sc] w fun e w' => e = .returned (.pointer (some ⟨w.heap.size, 0, none⟩)) ∧ w.alloc (Obj.cells #[.slice sa sn sc, Value.int IntKind.i64 0, Value.int IntKind.u64 0] 141) = w' := by
  go_enter Tryd.func47, Tryd.ntmps47
  go_wp2
  go_ret
  exact ⟨rfl, rfl⟩

end Go.Proofs.YtafbdnjabgfjeaaDoor
end
section
namespace Go.Proofs.YtafbdnjabgfjeaaDoor
open Go Go.RowKit OriM

/-- A value has been drawn of which P holds. -/
def DrawnV (P : Value → Prop) (B : Nat) (v : Value) (m : Nat) (w : World) (e : Ending) (w' : World) : Prop :=
  ∃ u : Value, e = .returned u ∧ P u ∧ SrcAt w' B v m ∧ Touch B w w'
theorem DrawnV.mono {P Q : Value → Prop} {B : Nat} {v : Value} {m m' : Nat} {w : World} {e : Ending} {w' : World} (h : DrawnV P B v m w e w') (hm : m ≤ m') (hPQ : ∀ u, P u → Q u) : DrawnV Q B v m' w e w' := by
  obtain ⟨u, rfl, hP, hS, hT⟩ := h
  exact ⟨u, rfl, hPQ _ hP, hS.mono hm, hT⟩
/-- A valid point. -/
def IsVP (u : Value) : Prop := ∃ a b k c d l : Int, u = .agg #[.int .i64 a, .int .i64 b, .int .i64 k, .int .i64 c, .int .i64 d, .int .i64 l] ∧ validB a b k = true ∧ validB c d l = true
/-- A valid line. -/
def IsVL (u : Value) : Prop := ∃ t a b k : Int, u = .agg #[.int .i64 t, .int .i64 a, .int .i64 b, .int .i64 k] ∧ 0 ≤ t ∧ t ≤ 7 ∧ validB a b k = true

set_option maxHeartbeats 2000000 in
set_option maxRecDepth 100000 in
theorem draw_pt (B : Nat) (v : Value) (m : Nat) (w : World) (hS : SrcAt w B v m) (hC : CodeAt w B v) (hm : m ≤ 1073741800) :
    Calls Tryd.prog 75 #[.pointer (some ⟨B, 0, none⟩)] w (DrawnV IsVP B v (m + 18) w) := by
  have hB := hS.lt
  have HS := Lib.hid hS
  have HC := Lib.hid (hC.touch ((Touch.refl B w).alloc (Obj.cells #[Value.int IntKind.i64 0, Value.int IntKind.i64 0, Value.int IntKind.i64 0, Value.int IntKind.i64 0, Value.int IntKind.i64 0, Value.int IntKind.i64 0] 33)))
  clear hS hC
  go_enter Tryd.func75, Tryd.ntmps75
  go_wp2_with fail
  refine (draw_any B v m _ (HS.out.alloc _) HC.out (by omega)).mono ?_
  rintro e w1 ⟨a, b, k, rfl, v1, hS1, hT1⟩
  have HT1 := Lib.hid hT1
  have HS1 := Lib.hid hS1
  have HV1 := Lib.hid v1
  have HC1 := Lib.hid (HC.out.touch (hT1.alloc (Obj.cells #[Value.int IntKind.i64 a, Value.int IntKind.i64 b, Value.int IntKind.i64 k] 25)))
  have z1 := hT1.size
  simp only [World.size_alloc] at z1
  clear v1 hS1 hT1
  go_wp2_with fail
  refine (draw_any B v (m + 9) _ (HS1.out.alloc _) HC1.out (by omega)).mono ?_
  rintro e w2 ⟨a', b', k', rfl, v2, hS2, hT2⟩
  have HT2 := Lib.hid hT2
  have HS2 := Lib.hid hS2
  have HV2 := Lib.hid v2
  have z2 := hT2.size
  simp only [World.size_alloc] at z2
  clear v2 hS2 hT2
  have hRB : w.heap.size ≠ B := by omega
  have hXB : w1.heap.size ≠ B := by omega
  have eR : w2.heap[w.heap.size]? = (w.alloc (Obj.cells #[Value.int IntKind.i64 0, Value.int IntKind.i64 0, Value.int IntKind.i64 0, Value.int IntKind.i64 0, Value.int IntKind.i64 0, Value.int IntKind.i64 0] 33)).heap[w.heap.size]? := (HT2.out.block _ (by simp; omega) hRB).trans ((Below.heap_alloc w1 _ _ (by omega)).trans (HT1.out.block _ (by simp) hRB))
  have eX : w2.heap[w1.heap.size]? = (w1.alloc (Obj.cells #[Value.int IntKind.i64 a, Value.int IntKind.i64 b, Value.int IntKind.i64 k] 25)).heap[w1.heap.size]? := HT2.out.block _ (by simp) hXB
  have cR0 : w2.cell? ⟨w.heap.size, 0, none⟩ = some (Value.int IntKind.i64 0) := (World.cell?_of_block (a := ⟨w.heap.size, 0, none⟩) eR).trans (by simp [go_sem])
  have fR0 : w2.frozen? ⟨w.heap.size, 0, none⟩ = false := (World.frozen?_of_block (a := ⟨w.heap.size, 0, none⟩) eR).trans (by simp [go_sem])
  have cR1 : w2.cell? ⟨w.heap.size, 1, none⟩ = some (Value.int IntKind.i64 0) := (World.cell?_of_block (a := ⟨w.heap.size, 1, none⟩) eR).trans (by simp [go_sem])
  have fR1 : w2.frozen? ⟨w.heap.size, 1, none⟩ = false := (World.frozen?_of_block (a := ⟨w.heap.size, 1, none⟩) eR).trans (by simp [go_sem])
  have cR2 : w2.cell? ⟨w.heap.size, 2, none⟩ = some (Value.int IntKind.i64 0) := (World.cell?_of_block (a := ⟨w.heap.size, 2, none⟩) eR).trans (by simp [go_sem])
  have fR2 : w2.frozen? ⟨w.heap.size, 2, none⟩ = false := (World.frozen?_of_block (a := ⟨w.heap.size, 2, none⟩) eR).trans (by simp [go_sem])
  have cR3 : w2.cell? ⟨w.heap.size, 3, none⟩ = some (Value.int IntKind.i64 0) := (World.cell?_of_block (a := ⟨w.heap.size, 3, none⟩) eR).trans (by simp [go_sem])
  have fR3 : w2.frozen? ⟨w.heap.size, 3, none⟩ = false := (World.frozen?_of_block (a := ⟨w.heap.size, 3, none⟩) eR).trans (by simp [go_sem])
  have cR4 : w2.cell? ⟨w.heap.size, 4, none⟩ = some (Value.int IntKind.i64 0) := (World.cell?_of_block (a := ⟨w.heap.size, 4, none⟩) eR).trans (by simp [go_sem])
  have fR4 : w2.frozen? ⟨w.heap.size, 4, none⟩ = false := (World.frozen?_of_block (a := ⟨w.heap.size, 4, none⟩) eR).trans (by simp [go_sem])
  have cR5 : w2.cell? ⟨w.heap.size, 5, none⟩ = some (Value.int IntKind.i64 0) := (World.cell?_of_block (a := ⟨w.heap.size, 5, none⟩) eR).trans (by simp [go_sem])
  have fR5 : w2.frozen? ⟨w.heap.size, 5, none⟩ = false := (World.frozen?_of_block (a := ⟨w.heap.size, 5, none⟩) eR).trans (by simp [go_sem])
  have cX0 : w2.cell? ⟨w1.heap.size, 0, none⟩ = some (Value.int IntKind.i64 a) := (World.cell?_of_block (a := ⟨w1.heap.size, 0, none⟩) eX).trans (by simp [go_sem])
  have fX0 : w2.frozen? ⟨w1.heap.size, 0, none⟩ = false := (World.frozen?_of_block (a := ⟨w1.heap.size, 0, none⟩) eX).trans (by simp [go_sem])
  have cX1 : w2.cell? ⟨w1.heap.size, 1, none⟩ = some (Value.int IntKind.i64 b) := (World.cell?_of_block (a := ⟨w1.heap.size, 1, none⟩) eX).trans (by simp [go_sem])
  have fX1 : w2.frozen? ⟨w1.heap.size, 1, none⟩ = false := (World.frozen?_of_block (a := ⟨w1.heap.size, 1, none⟩) eX).trans (by simp [go_sem])
  have cX2 : w2.cell? ⟨w1.heap.size, 2, none⟩ = some (Value.int IntKind.i64 k) := (World.cell?_of_block (a := ⟨w1.heap.size, 2, none⟩) eX).trans (by simp [go_sem])
  have fX2 : w2.frozen? ⟨w1.heap.size, 2, none⟩ = false := (World.frozen?_of_block (a := ⟨w1.heap.size, 2, none⟩) eX).trans (by simp [go_sem])
  have p1 : w1.heap.size ≠ w.heap.size := by omega
  have p2 : w2.heap.size ≠ w.heap.size := by omega
  have p3 : w2.heap.size ≠ w1.heap.size := by omega
  have q1 : w.heap.size ≠ w1.heap.size := by omega
  have q2 : w.heap.size ≠ w2.heap.size := by omega
  have q3 : w1.heap.size ≠ w2.heap.size := by omega
  have q4 : w.heap.size < w2.heap.size := by omega
  have q5 : w1.heap.size < w2.heap.size := by omega
  have HT := Lib.hid (((((Touch.refl B w).alloc (Obj.cells #[Value.int IntKind.i64 0, Value.int IntKind.i64 0, Value.int IntKind.i64 0, Value.int IntKind.i64 0, Value.int IntKind.i64 0, Value.int IntKind.i64 0] 33)).trans HT1.out).alloc (Obj.cells #[Value.int IntKind.i64 a, Value.int IntKind.i64 b, Value.int IntKind.i64 k] 25)).trans HT2.out)
  clear eR eX z1 z2
  go_wp2_with fail
  refine bodyPost_ret (v := .agg #[.int .i64 a, .int .i64 b, .int .i64 k, .int .i64 a', .int .i64 b', .int .i64 k']) (by simp [results, Tryd.results75, go_sem, *]) rfl ⟨_, rfl, ⟨a, b, k, a', b', k', rfl, HV1.out, HV2.out⟩, ?_, ?_⟩
  · have hS := HS2.out
    (repeat (first | with_reducible assumption | with_reducible refine SrcAt.drew ?_ | with_reducible refine SrcAt.alloc ?_ _ | with_reducible refine SrcAt.setFar ?_ (by first | omega | (simp; done) | (simp; omega)) _ _ _))
  · have hT := HT.out
    (repeat (first | with_reducible assumption | with_reducible refine Touch.drew ?_ | with_reducible refine Touch.alloc ?_ _ | with_reducible refine Touch.setNew ?_ (by first | omega | (simp; done) | (simp; omega)) _ _ _))

set_option maxHeartbeats 2000000 in
set_option maxRecDepth 100000 in
theorem draw_ln (B : Nat) (v : Value) (m : Nat) (w : World) (hS : SrcAt w B v m) (hC : CodeAt w B v) (hm : m ≤ 1073741800) :
    Calls Tryd.prog 74 #[.pointer (some ⟨B, 0, none⟩)] w (DrawnV IsVL B v (m + 10) w) := by
  have hB := hS.lt
  have HS := Lib.hid hS
  have HC := Lib.hid (hC.touch ((Touch.refl B w).alloc (Obj.cells #[Value.int IntKind.i64 0, Value.int IntKind.i64 0, Value.int IntKind.i64 0, Value.int IntKind.i64 0] 29)))
  clear hS hC
  go_enter Tryd.func74, Tryd.ntmps74
  go_wp2_with fail
  refine (pick_small B v m 8 _ (HS.out.alloc _) HC.out (by omega) (by omega) (by omega)).mono ?_
  rintro e w1 ⟨t, rfl, t0, t1, hS1, hT1⟩
  have HT1 := Lib.hid hT1
  have HS1 := Lib.hid hS1
  have HD := Lib.hid (And.intro t0 (show t ≤ 7 by omega))
  have HC1 := Lib.hid (HC.out.touch hT1)
  have z1 := hT1.size
  simp only [World.size_alloc] at z1
  clear t0 t1 hS1 hT1
  go_wp2_with fail
  refine (draw_any B v (m + 1) _ HS1.out HC1.out (by omega)).mono ?_
  rintro e w2 ⟨a, b, k, rfl, v2, hS2, hT2⟩
  have HT2 := Lib.hid hT2
  have HS2 := Lib.hid hS2
  have HV2 := Lib.hid v2
  have z2 := hT2.size
  clear v2 hS2 hT2
  have hRB : w.heap.size ≠ B := by omega
  have eR : w2.heap[w.heap.size]? = (w.alloc (Obj.cells #[Value.int IntKind.i64 0, Value.int IntKind.i64 0, Value.int IntKind.i64 0, Value.int IntKind.i64 0] 29)).heap[w.heap.size]? := (HT2.out.block _ (by omega) hRB).trans (HT1.out.block _ (by simp) hRB)
  have cR0 : w2.cell? ⟨w.heap.size, 0, none⟩ = some (Value.int IntKind.i64 0) := (World.cell?_of_block (a := ⟨w.heap.size, 0, none⟩) eR).trans (by simp [go_sem])
  have fR0 : w2.frozen? ⟨w.heap.size, 0, none⟩ = false := (World.frozen?_of_block (a := ⟨w.heap.size, 0, none⟩) eR).trans (by simp [go_sem])
  have cR1 : w2.cell? ⟨w.heap.size, 1, none⟩ = some (Value.int IntKind.i64 0) := (World.cell?_of_block (a := ⟨w.heap.size, 1, none⟩) eR).trans (by simp [go_sem])
  have fR1 : w2.frozen? ⟨w.heap.size, 1, none⟩ = false := (World.frozen?_of_block (a := ⟨w.heap.size, 1, none⟩) eR).trans (by simp [go_sem])
  have cR2 : w2.cell? ⟨w.heap.size, 2, none⟩ = some (Value.int IntKind.i64 0) := (World.cell?_of_block (a := ⟨w.heap.size, 2, none⟩) eR).trans (by simp [go_sem])
  have fR2 : w2.frozen? ⟨w.heap.size, 2, none⟩ = false := (World.frozen?_of_block (a := ⟨w.heap.size, 2, none⟩) eR).trans (by simp [go_sem])
  have cR3 : w2.cell? ⟨w.heap.size, 3, none⟩ = some (Value.int IntKind.i64 0) := (World.cell?_of_block (a := ⟨w.heap.size, 3, none⟩) eR).trans (by simp [go_sem])
  have fR3 : w2.frozen? ⟨w.heap.size, 3, none⟩ = false := (World.frozen?_of_block (a := ⟨w.heap.size, 3, none⟩) eR).trans (by simp [go_sem])
  have p2 : w2.heap.size ≠ w.heap.size := by omega
  have q2 : w.heap.size ≠ w2.heap.size := by omega
  have q4 : w.heap.size < w2.heap.size := by omega
  have HT := Lib.hid ((((Touch.refl B w).alloc (Obj.cells #[Value.int IntKind.i64 0, Value.int IntKind.i64 0, Value.int IntKind.i64 0, Value.int IntKind.i64 0] 29)).trans HT1.out).trans HT2.out)
  clear eR z1 z2
  go_wp2_with fail
  refine bodyPost_ret (v := .agg #[.int .i64 t, .int .i64 a, .int .i64 b, .int .i64 k]) (by simp [results, Tryd.results74, go_sem, *]) rfl ⟨_, rfl, ⟨t, a, b, k, rfl, HD.out.1, HD.out.2, HV2.out⟩, ?_, ?_⟩
  · have hS := HS2.out
    (repeat (first | with_reducible assumption | with_reducible refine SrcAt.drew ?_ | with_reducible refine SrcAt.alloc ?_ _ | with_reducible refine SrcAt.setFar ?_ (by first | omega | (simp; done) | (simp; omega)) _ _ _))
  · have hT := HT.out
    (repeat (first | with_reducible assumption | with_reducible refine Touch.drew ?_ | with_reducible refine Touch.alloc ?_ _ | with_reducible refine Touch.setNew ?_ (by first | omega | (simp; done) | (simp; omega)) _ _ _))
end Go.Proofs.YtafbdnjabgfjeaaDoor
end
section
namespace Go.Proofs.YtafbdnjabgfjeaaDoor
open Go Go.RowKit OriM

def Sm (a b k : Int) : Prop := -131073 ≤ a ∧ a ≤ 131073 ∧ -131073 ≤ b ∧ b ≤ 131073 ∧ -1 ≤ k ∧ k ≤ 11
theorem sm_valid {a b k : Int} (h : validB a b k = true) : Sm a b k := by
  obtain ⟨a1, a2, b1, b2, k0, k1⟩ := valid_bounds h
  unfold Sm; omega
/-- A number with small parts; a point; a motion. -/
def IsN (u : Value) : Prop := ∃ a b k : Int, u = .agg #[.int .i64 a, .int .i64 b, .int .i64 k] ∧ Sm a b k
def IsP (u : Value) : Prop := ∃ a b k c d l : Int, u = .agg #[.int .i64 a, .int .i64 b, .int .i64 k, .int .i64 c, .int .i64 d, .int .i64 l] ∧ Sm a b k ∧ Sm c d l
def IsM (u : Value) : Prop := ∃ (t : Int) (f : Bool) (a b k c d l : Int), u = .agg #[.int .i64 t, .bool f, .int .i64 a, .int .i64 b, .int .i64 k, .int .i64 c, .int .i64 d, .int .i64 l] ∧ (-1 ≤ t ∧ t ≤ 8) ∧ Sm a b k ∧ Sm c d l

set_option maxHeartbeats 4000000 in
set_option maxRecDepth 100000 in
theorem bent_any (B : Nat) (v : Value) (m : Nat) (w : World) (hS : SrcAt w B v m) (hC : CodeAt w B v) (hm : m ≤ 1073741800) :
    Calls Tryd.prog 108 #[.pointer (some ⟨B, 0, none⟩)] w (DrawnV IsN B v (m + 11) w) := by
  have hB := hS.lt
  have HS := Lib.hid hS
  have HC := Lib.hid (hC.touch ((Touch.refl B w).alloc (Obj.cells #[Value.int IntKind.i64 0, Value.int IntKind.i64 0, Value.int IntKind.i64 0] 25)))
  clear hS hC
  go_enter Tryd.func108, Tryd.ntmps108
  go_wp2_with fail
  refine (draw_any B v m _ (HS.out.alloc _) HC.out (by omega)).mono ?_
  rintro e w1 ⟨a, b, k, rfl, v1, hS1, hT1⟩
  have HT1 := Lib.hid hT1
  have HS1 := Lib.hid hS1
  have HV1 := Lib.hid (sm_valid v1)
  have HC1 := Lib.hid (HC.out.touch (hT1.alloc (Obj.cells #[Value.int IntKind.i64 a, Value.int IntKind.i64 b, Value.int IntKind.i64 k] 25)))
  have z1 := hT1.size
  simp only [World.size_alloc] at z1
  clear v1 hS1 hT1
  go_wp2_with fail
  refine (pick_small B v (m + 9) 16 _ (HS1.out.alloc _) HC1.out (by omega) (by omega) (by omega)).mono ?_
  rintro e w2 ⟨r, rfl, r0, r1, hS2, hT2⟩
  have HT2 := Lib.hid hT2
  have HS2 := Lib.hid hS2
  have HC2 := Lib.hid (HC1.out.touch hT2)
  have z2 := hT2.size
  simp only [World.size_alloc] at z2
  clear hS2 hT2
  have hRB : w.heap.size ≠ B := by omega
  have hXB : w1.heap.size ≠ B := by omega
  have eR : w2.heap[w.heap.size]? = (w.alloc (Obj.cells #[Value.int IntKind.i64 0, Value.int IntKind.i64 0, Value.int IntKind.i64 0] 25)).heap[w.heap.size]? := (HT2.out.block _ (by simp; omega) hRB).trans ((Below.heap_alloc w1 _ _ (by omega)).trans (HT1.out.block _ (by simp) hRB))
  have eX : w2.heap[w1.heap.size]? = (w1.alloc (Obj.cells #[Value.int IntKind.i64 a, Value.int IntKind.i64 b, Value.int IntKind.i64 k] 25)).heap[w1.heap.size]? := HT2.out.block _ (by simp) hXB
  have cR0 : w2.cell? ⟨w.heap.size, 0, none⟩ = some (Value.int IntKind.i64 0) := (World.cell?_of_block (a := ⟨w.heap.size, 0, none⟩) eR).trans (by simp [go_sem])
  have fR0 : w2.frozen? ⟨w.heap.size, 0, none⟩ = false := (World.frozen?_of_block (a := ⟨w.heap.size, 0, none⟩) eR).trans (by simp [go_sem])
  have cR1 : w2.cell? ⟨w.heap.size, 1, none⟩ = some (Value.int IntKind.i64 0) := (World.cell?_of_block (a := ⟨w.heap.size, 1, none⟩) eR).trans (by simp [go_sem])
  have fR1 : w2.frozen? ⟨w.heap.size, 1, none⟩ = false := (World.frozen?_of_block (a := ⟨w.heap.size, 1, none⟩) eR).trans (by simp [go_sem])
  have cR2 : w2.cell? ⟨w.heap.size, 2, none⟩ = some (Value.int IntKind.i64 0) := (World.cell?_of_block (a := ⟨w.heap.size, 2, none⟩) eR).trans (by simp [go_sem])
  have fR2 : w2.frozen? ⟨w.heap.size, 2, none⟩ = false := (World.frozen?_of_block (a := ⟨w.heap.size, 2, none⟩) eR).trans (by simp [go_sem])
  have cX0 : w2.cell? ⟨w1.heap.size, 0, none⟩ = some (Value.int IntKind.i64 a) := (World.cell?_of_block (a := ⟨w1.heap.size, 0, none⟩) eX).trans (by simp [go_sem])
  have fX0 : w2.frozen? ⟨w1.heap.size, 0, none⟩ = false := (World.frozen?_of_block (a := ⟨w1.heap.size, 0, none⟩) eX).trans (by simp [go_sem])
  have cX1 : w2.cell? ⟨w1.heap.size, 1, none⟩ = some (Value.int IntKind.i64 b) := (World.cell?_of_block (a := ⟨w1.heap.size, 1, none⟩) eX).trans (by simp [go_sem])
  have fX1 : w2.frozen? ⟨w1.heap.size, 1, none⟩ = false := (World.frozen?_of_block (a := ⟨w1.heap.size, 1, none⟩) eX).trans (by simp [go_sem])
  have cX2 : w2.cell? ⟨w1.heap.size, 2, none⟩ = some (Value.int IntKind.i64 k) := (World.cell?_of_block (a := ⟨w1.heap.size, 2, none⟩) eX).trans (by simp [go_sem])
  have fX2 : w2.frozen? ⟨w1.heap.size, 2, none⟩ = false := (World.frozen?_of_block (a := ⟨w1.heap.size, 2, none⟩) eX).trans (by simp [go_sem])
  have q0 : w.heap.size < w1.heap.size := by omega
  have q9 : w.heap.size ≤ w1.heap.size := by omega
  have p1 : w1.heap.size ≠ w.heap.size := by omega
  have p2 : w2.heap.size ≠ w.heap.size := by omega
  have p3 : w2.heap.size ≠ w1.heap.size := by omega
  have q1 : w.heap.size ≠ w1.heap.size := by omega
  have q2 : w.heap.size ≠ w2.heap.size := by omega
  have q3 : w1.heap.size ≠ w2.heap.size := by omega
  have q4 : w.heap.size < w2.heap.size := by omega
  have q5 : w1.heap.size < w2.heap.size := by omega
  have HT := Lib.hid (((((Touch.refl B w).alloc (Obj.cells #[Value.int IntKind.i64 0, Value.int IntKind.i64 0, Value.int IntKind.i64 0] 25)).trans HT1.out).alloc (Obj.cells #[Value.int IntKind.i64 a, Value.int IntKind.i64 b, Value.int IntKind.i64 k] 25)).trans HT2.out)
  clear eR eX z1 z2
  have hr : r = 0 ∨ r = 1 ∨ r = 2 ∨ (¬ r = 0 ∧ ¬ r = 1 ∧ ¬ r = 2) := by omega
  rcases hr with hr | hr | hr | ⟨r2, r3, r4⟩
  · subst hr
    clear r0 r1
    go_wp2_with fail
    refine (among_small B w2.heap.size v (m + 10) 3 (-131073) 131073 _ (HS2.out.alloc _) (HC2.out.touch ((Touch.refl _ _).alloc _)) (by omega) (by omega) (by omega) (by simp) (by omega) ?_).mono ?_
    · intro i hi
      have hi' : i = 0 ∨ i = 1 ∨ i = 2 := by omega
      rcases hi' with rfl | rfl | rfl <;> exact ⟨_, by simp [go_sem]; rfl, by omega, by omega⟩
    rintro e w3 ⟨x, rfl, x0, x1, hS3, hT3⟩
    have T3 := ((Touch.refl B w2).alloc _).trans hT3
    have z3 := T3.size
    have cA0 : w3.cell? ⟨w.heap.size, 0, none⟩ = some (Value.int IntKind.i64 0) := (T3.cell (p := ⟨w.heap.size, 0, none⟩) q4 hRB).trans cR0
    have fA0 : w3.frozen? ⟨w.heap.size, 0, none⟩ = false := (T3.frozen (p := ⟨w.heap.size, 0, none⟩) q4 hRB).trans fR0
    have cA1 : w3.cell? ⟨w.heap.size, 1, none⟩ = some (Value.int IntKind.i64 0) := (T3.cell (p := ⟨w.heap.size, 1, none⟩) q4 hRB).trans cR1
    have fA1 : w3.frozen? ⟨w.heap.size, 1, none⟩ = false := (T3.frozen (p := ⟨w.heap.size, 1, none⟩) q4 hRB).trans fR1
    have cA2 : w3.cell? ⟨w.heap.size, 2, none⟩ = some (Value.int IntKind.i64 0) := (T3.cell (p := ⟨w.heap.size, 2, none⟩) q4 hRB).trans cR2
    have fA2 : w3.frozen? ⟨w.heap.size, 2, none⟩ = false := (T3.frozen (p := ⟨w.heap.size, 2, none⟩) q4 hRB).trans fR2
    have cB0 : w3.cell? ⟨w1.heap.size, 0, none⟩ = some (Value.int IntKind.i64 a) := (T3.cell (p := ⟨w1.heap.size, 0, none⟩) q5 hXB).trans cX0
    have fB0 : w3.frozen? ⟨w1.heap.size, 0, none⟩ = false := (T3.frozen (p := ⟨w1.heap.size, 0, none⟩) q5 hXB).trans fX0
    have cB1 : w3.cell? ⟨w1.heap.size, 1, none⟩ = some (Value.int IntKind.i64 b) := (T3.cell (p := ⟨w1.heap.size, 1, none⟩) q5 hXB).trans cX1
    have fB1 : w3.frozen? ⟨w1.heap.size, 1, none⟩ = false := (T3.frozen (p := ⟨w1.heap.size, 1, none⟩) q5 hXB).trans fX1
    have cB2 : w3.cell? ⟨w1.heap.size, 2, none⟩ = some (Value.int IntKind.i64 k) := (T3.cell (p := ⟨w1.heap.size, 2, none⟩) q5 hXB).trans cX2
    have fB2 : w3.frozen? ⟨w1.heap.size, 2, none⟩ = false := (T3.frozen (p := ⟨w1.heap.size, 2, none⟩) q5 hXB).trans fX2
    have q6 : w.heap.size < w3.heap.size := by omega
    have q7 : w1.heap.size < w3.heap.size := by omega
    have HSZ := Lib.hid hS3
    have HTZ := Lib.hid (HT.out.trans T3)
    clear T3 hT3 hS3 z3
    go_wp2_with fail
    refine bodyPost_ret (v := .agg #[.int .i64 x, .int .i64 b, .int .i64 k]) (by simp [results, Tryd.results108, go_sem, *]) rfl ⟨_, rfl, ⟨x, b, k, rfl, (by have h := HV1.out; unfold Sm at h ⊢; omega)⟩, ?_, ?_⟩
    · have hS := HSZ.out
      (repeat (first | with_reducible assumption | with_reducible refine SrcAt.drew ?_ | with_reducible refine SrcAt.alloc ?_ _ | with_reducible refine SrcAt.setFar ?_ (by first | omega | (simp; done) | (simp; omega)) _ _ _))
    · have hT := HTZ.out
      (repeat (first | with_reducible assumption | with_reducible refine Touch.drew ?_ | with_reducible refine Touch.alloc ?_ _ | with_reducible refine Touch.setNew ?_ (by first | omega | (simp; done) | (simp; omega)) _ _ _))
  · subst hr
    clear r0 r1
    go_wp2_with fail
    refine (among_small B w2.heap.size v (m + 10) 3 (-131073) 131073 _ (HS2.out.alloc _) (HC2.out.touch ((Touch.refl _ _).alloc _)) (by omega) (by omega) (by omega) (by simp) (by omega) ?_).mono ?_
    · intro i hi
      have hi' : i = 0 ∨ i = 1 ∨ i = 2 := by omega
      rcases hi' with rfl | rfl | rfl <;> exact ⟨_, by simp [go_sem]; rfl, by omega, by omega⟩
    rintro e w3 ⟨x, rfl, x0, x1, hS3, hT3⟩
    have T3 := ((Touch.refl B w2).alloc _).trans hT3
    have z3 := T3.size
    have cA0 : w3.cell? ⟨w.heap.size, 0, none⟩ = some (Value.int IntKind.i64 0) := (T3.cell (p := ⟨w.heap.size, 0, none⟩) q4 hRB).trans cR0
    have fA0 : w3.frozen? ⟨w.heap.size, 0, none⟩ = false := (T3.frozen (p := ⟨w.heap.size, 0, none⟩) q4 hRB).trans fR0
    have cA1 : w3.cell? ⟨w.heap.size, 1, none⟩ = some (Value.int IntKind.i64 0) := (T3.cell (p := ⟨w.heap.size, 1, none⟩) q4 hRB).trans cR1
    have fA1 : w3.frozen? ⟨w.heap.size, 1, none⟩ = false := (T3.frozen (p := ⟨w.heap.size, 1, none⟩) q4 hRB).trans fR1
    have cA2 : w3.cell? ⟨w.heap.size, 2, none⟩ = some (Value.int IntKind.i64 0) := (T3.cell (p := ⟨w.heap.size, 2, none⟩) q4 hRB).trans cR2
    have fA2 : w3.frozen? ⟨w.heap.size, 2, none⟩ = false := (T3.frozen (p := ⟨w.heap.size, 2, none⟩) q4 hRB).trans fR2
    have cB0 : w3.cell? ⟨w1.heap.size, 0, none⟩ = some (Value.int IntKind.i64 a) := (T3.cell (p := ⟨w1.heap.size, 0, none⟩) q5 hXB).trans cX0
    have fB0 : w3.frozen? ⟨w1.heap.size, 0, none⟩ = false := (T3.frozen (p := ⟨w1.heap.size, 0, none⟩) q5 hXB).trans fX0
    have cB1 : w3.cell? ⟨w1.heap.size, 1, none⟩ = some (Value.int IntKind.i64 b) := (T3.cell (p := ⟨w1.heap.size, 1, none⟩) q5 hXB).trans cX1
    have fB1 : w3.frozen? ⟨w1.heap.size, 1, none⟩ = false := (T3.frozen (p := ⟨w1.heap.size, 1, none⟩) q5 hXB).trans fX1
    have cB2 : w3.cell? ⟨w1.heap.size, 2, none⟩ = some (Value.int IntKind.i64 k) := (T3.cell (p := ⟨w1.heap.size, 2, none⟩) q5 hXB).trans cX2
    have fB2 : w3.frozen? ⟨w1.heap.size, 2, none⟩ = false := (T3.frozen (p := ⟨w1.heap.size, 2, none⟩) q5 hXB).trans fX2
    have q6 : w.heap.size < w3.heap.size := by omega
    have q7 : w1.heap.size < w3.heap.size := by omega
    have HSZ := Lib.hid hS3
    have HTZ := Lib.hid (HT.out.trans T3)
    clear T3 hT3 hS3 z3
    go_wp2_with fail
    refine bodyPost_ret (v := .agg #[.int .i64 a, .int .i64 x, .int .i64 k]) (by simp [results, Tryd.results108, go_sem, *]) rfl ⟨_, rfl, ⟨a, x, k, rfl, (by have h := HV1.out; unfold Sm at h ⊢; omega)⟩, ?_, ?_⟩
    · have hS := HSZ.out
      (repeat (first | with_reducible assumption | with_reducible refine SrcAt.drew ?_ | with_reducible refine SrcAt.alloc ?_ _ | with_reducible refine SrcAt.setFar ?_ (by first | omega | (simp; done) | (simp; omega)) _ _ _))
    · have hT := HTZ.out
      (repeat (first | with_reducible assumption | with_reducible refine Touch.drew ?_ | with_reducible refine Touch.alloc ?_ _ | with_reducible refine Touch.setNew ?_ (by first | omega | (simp; done) | (simp; omega)) _ _ _))
  · subst hr
    clear r0 r1
    go_wp2_with fail
    refine (among_small B w2.heap.size v (m + 10) 3 (-1) 11 _ (HS2.out.alloc _) (HC2.out.touch ((Touch.refl _ _).alloc _)) (by omega) (by omega) (by omega) (by simp) (by omega) ?_).mono ?_
    · intro i hi
      have hi' : i = 0 ∨ i = 1 ∨ i = 2 := by omega
      rcases hi' with rfl | rfl | rfl <;> exact ⟨_, by simp [go_sem]; rfl, by omega, by omega⟩
    rintro e w3 ⟨x, rfl, x0, x1, hS3, hT3⟩
    have T3 := ((Touch.refl B w2).alloc _).trans hT3
    have z3 := T3.size
    have cA0 : w3.cell? ⟨w.heap.size, 0, none⟩ = some (Value.int IntKind.i64 0) := (T3.cell (p := ⟨w.heap.size, 0, none⟩) q4 hRB).trans cR0
    have fA0 : w3.frozen? ⟨w.heap.size, 0, none⟩ = false := (T3.frozen (p := ⟨w.heap.size, 0, none⟩) q4 hRB).trans fR0
    have cA1 : w3.cell? ⟨w.heap.size, 1, none⟩ = some (Value.int IntKind.i64 0) := (T3.cell (p := ⟨w.heap.size, 1, none⟩) q4 hRB).trans cR1
    have fA1 : w3.frozen? ⟨w.heap.size, 1, none⟩ = false := (T3.frozen (p := ⟨w.heap.size, 1, none⟩) q4 hRB).trans fR1
    have cA2 : w3.cell? ⟨w.heap.size, 2, none⟩ = some (Value.int IntKind.i64 0) := (T3.cell (p := ⟨w.heap.size, 2, none⟩) q4 hRB).trans cR2
    have fA2 : w3.frozen? ⟨w.heap.size, 2, none⟩ = false := (T3.frozen (p := ⟨w.heap.size, 2, none⟩) q4 hRB).trans fR2
    have cB0 : w3.cell? ⟨w1.heap.size, 0, none⟩ = some (Value.int IntKind.i64 a) := (T3.cell (p := ⟨w1.heap.size, 0, none⟩) q5 hXB).trans cX0
    have fB0 : w3.frozen? ⟨w1.heap.size, 0, none⟩ = false := (T3.frozen (p := ⟨w1.heap.size, 0, none⟩) q5 hXB).trans fX0
    have cB1 : w3.cell? ⟨w1.heap.size, 1, none⟩ = some (Value.int IntKind.i64 b) := (T3.cell (p := ⟨w1.heap.size, 1, none⟩) q5 hXB).trans cX1
    have fB1 : w3.frozen? ⟨w1.heap.size, 1, none⟩ = false := (T3.frozen (p := ⟨w1.heap.size, 1, none⟩) q5 hXB).trans fX1
    have cB2 : w3.cell? ⟨w1.heap.size, 2, none⟩ = some (Value.int IntKind.i64 k) := (T3.cell (p := ⟨w1.heap.size, 2, none⟩) q5 hXB).trans cX2
    have fB2 : w3.frozen? ⟨w1.heap.size, 2, none⟩ = false := (T3.frozen (p := ⟨w1.heap.size, 2, none⟩) q5 hXB).trans fX2
    have q6 : w.heap.size < w3.heap.size := by omega
    have q7 : w1.heap.size < w3.heap.size := by omega
    have HSZ := Lib.hid hS3
    have HTZ := Lib.hid (HT.out.trans T3)
    clear T3 hT3 hS3 z3
    go_wp2_with fail
    refine bodyPost_ret (v := .agg #[.int .i64 a, .int .i64 b, .int .i64 x]) (by simp [results, Tryd.results108, go_sem, *]) rfl ⟨_, rfl, ⟨a, b, x, rfl, (by have h := HV1.out; unfold Sm at h ⊢; omega)⟩, ?_, ?_⟩
    · have hS := HSZ.out
      (repeat (first | with_reducible assumption | with_reducible refine SrcAt.drew ?_ | with_reducible refine SrcAt.alloc ?_ _ | with_reducible refine SrcAt.setFar ?_ (by first | omega | (simp; done) | (simp; omega)) _ _ _))
    · have hT := HTZ.out
      (repeat (first | with_reducible assumption | with_reducible refine Touch.drew ?_ | with_reducible refine Touch.alloc ?_ _ | with_reducible refine Touch.setNew ?_ (by first | omega | (simp; done) | (simp; omega)) _ _ _))
  · have HSZ := Lib.hid (HS2.out.mono (show m + 10 ≤ m + 11 by omega))
    have HTZ := HT
    clear r0 r1
    go_wp2_with fail
    refine bodyPost_ret (v := .agg #[.int .i64 a, .int .i64 b, .int .i64 k]) (by simp [results, Tryd.results108, go_sem, *]) rfl ⟨_, rfl, ⟨a, b, k, rfl, HV1.out⟩, ?_, ?_⟩
    · have hS := HSZ.out
      (repeat (first | with_reducible assumption | with_reducible refine SrcAt.drew ?_ | with_reducible refine SrcAt.alloc ?_ _ | with_reducible refine SrcAt.setFar ?_ (by first | omega | (simp; done) | (simp; omega)) _ _ _))
    · have hT := HTZ.out
      (repeat (first | with_reducible assumption | with_reducible refine Touch.drew ?_ | with_reducible refine Touch.alloc ?_ _ | with_reducible refine Touch.setNew ?_ (by first | omega | (simp; done) | (simp; omega)) _ _ _))

set_option maxHeartbeats 4000000 in
set_option maxRecDepth 100000 in
theorem bentP_any (B : Nat) (v : Value) (m : Nat) (w : World) (hS : SrcAt w B v m) (hC : CodeAt w B v) (hm : m ≤ 1073741700) :
    Calls Tryd.prog 50 #[.pointer (some ⟨B, 0, none⟩)] w (DrawnV IsP B v (m + 30) w) := by
  have hB := hS.lt
  have HS := Lib.hid hS
  have HC := Lib.hid (hC.touch ((Touch.refl B w).alloc (Obj.cells #[Value.int IntKind.i64 0, Value.int IntKind.i64 0, Value.int IntKind.i64 0, Value.int IntKind.i64 0, Value.int IntKind.i64 0, Value.int IntKind.i64 0] 33)))
  clear hS hC
  go_enter Tryd.func50, Tryd.ntmps50
  go_wp2_with fail
  refine (draw_pt B v m _ (HS.out.alloc _) HC.out (by omega)).mono ?_
  rintro e w1 ⟨_, rfl, ⟨a, b, k, c, d, l, rfl, v1, v2⟩, hS1, hT1⟩
  have HT1 := Lib.hid hT1
  have HS1 := Lib.hid hS1
  have HV1 := Lib.hid (sm_valid v1)
  have HV2 := Lib.hid (sm_valid v2)
  have HC1 := Lib.hid (HC.out.touch (hT1.alloc (Obj.cells #[Value.int IntKind.i64 a, Value.int IntKind.i64 b, Value.int IntKind.i64 k, Value.int IntKind.i64 c, Value.int IntKind.i64 d, Value.int IntKind.i64 l] 33)))
  have z1 := hT1.size
  simp only [World.size_alloc] at z1
  clear v1 v2 hS1 hT1
  go_wp2_with fail
  refine (one_small B v (m + 18) 16 _ (HS1.out.alloc _) HC1.out (by omega) (by omega) (by omega)).mono ?_
  rintro e w2 ⟨bb, rfl, hS2, hT2⟩
  have HT2 := Lib.hid hT2
  have HS2 := Lib.hid hS2
  have HC2 := Lib.hid (HC1.out.touch hT2)
  have z2 := hT2.size
  simp only [World.size_alloc] at z2
  clear hS2 hT2
  have hRB : w.heap.size ≠ B := by omega
  have hXB : w1.heap.size ≠ B := by omega
  have eR : w2.heap[w.heap.size]? = (w.alloc (Obj.cells #[Value.int IntKind.i64 0, Value.int IntKind.i64 0, Value.int IntKind.i64 0, Value.int IntKind.i64 0, Value.int IntKind.i64 0, Value.int IntKind.i64 0] 33)).heap[w.heap.size]? := (HT2.out.block _ (by simp; omega) hRB).trans ((Below.heap_alloc w1 _ _ (by omega)).trans (HT1.out.block _ (by simp) hRB))
  have eX : w2.heap[w1.heap.size]? = (w1.alloc (Obj.cells #[Value.int IntKind.i64 a, Value.int IntKind.i64 b, Value.int IntKind.i64 k, Value.int IntKind.i64 c, Value.int IntKind.i64 d, Value.int IntKind.i64 l] 33)).heap[w1.heap.size]? := HT2.out.block _ (by simp) hXB
  have cR0 : w2.cell? ⟨w.heap.size, 0, none⟩ = some (Value.int IntKind.i64 0) := (World.cell?_of_block (a := ⟨w.heap.size, 0, none⟩) eR).trans (by simp [go_sem])
  have fR0 : w2.frozen? ⟨w.heap.size, 0, none⟩ = false := (World.frozen?_of_block (a := ⟨w.heap.size, 0, none⟩) eR).trans (by simp [go_sem])
  have cR1 : w2.cell? ⟨w.heap.size, 1, none⟩ = some (Value.int IntKind.i64 0) := (World.cell?_of_block (a := ⟨w.heap.size, 1, none⟩) eR).trans (by simp [go_sem])
  have fR1 : w2.frozen? ⟨w.heap.size, 1, none⟩ = false := (World.frozen?_of_block (a := ⟨w.heap.size, 1, none⟩) eR).trans (by simp [go_sem])
  have cR2 : w2.cell? ⟨w.heap.size, 2, none⟩ = some (Value.int IntKind.i64 0) := (World.cell?_of_block (a := ⟨w.heap.size, 2, none⟩) eR).trans (by simp [go_sem])
  have fR2 : w2.frozen? ⟨w.heap.size, 2, none⟩ = false := (World.frozen?_of_block (a := ⟨w.heap.size, 2, none⟩) eR).trans (by simp [go_sem])
  have cR3 : w2.cell? ⟨w.heap.size, 3, none⟩ = some (Value.int IntKind.i64 0) := (World.cell?_of_block (a := ⟨w.heap.size, 3, none⟩) eR).trans (by simp [go_sem])
  have fR3 : w2.frozen? ⟨w.heap.size, 3, none⟩ = false := (World.frozen?_of_block (a := ⟨w.heap.size, 3, none⟩) eR).trans (by simp [go_sem])
  have cR4 : w2.cell? ⟨w.heap.size, 4, none⟩ = some (Value.int IntKind.i64 0) := (World.cell?_of_block (a := ⟨w.heap.size, 4, none⟩) eR).trans (by simp [go_sem])
  have fR4 : w2.frozen? ⟨w.heap.size, 4, none⟩ = false := (World.frozen?_of_block (a := ⟨w.heap.size, 4, none⟩) eR).trans (by simp [go_sem])
  have cR5 : w2.cell? ⟨w.heap.size, 5, none⟩ = some (Value.int IntKind.i64 0) := (World.cell?_of_block (a := ⟨w.heap.size, 5, none⟩) eR).trans (by simp [go_sem])
  have fR5 : w2.frozen? ⟨w.heap.size, 5, none⟩ = false := (World.frozen?_of_block (a := ⟨w.heap.size, 5, none⟩) eR).trans (by simp [go_sem])
  have cX0 : w2.cell? ⟨w1.heap.size, 0, none⟩ = some (Value.int IntKind.i64 a) := (World.cell?_of_block (a := ⟨w1.heap.size, 0, none⟩) eX).trans (by simp [go_sem])
  have fX0 : w2.frozen? ⟨w1.heap.size, 0, none⟩ = false := (World.frozen?_of_block (a := ⟨w1.heap.size, 0, none⟩) eX).trans (by simp [go_sem])
  have cX1 : w2.cell? ⟨w1.heap.size, 1, none⟩ = some (Value.int IntKind.i64 b) := (World.cell?_of_block (a := ⟨w1.heap.size, 1, none⟩) eX).trans (by simp [go_sem])
  have fX1 : w2.frozen? ⟨w1.heap.size, 1, none⟩ = false := (World.frozen?_of_block (a := ⟨w1.heap.size, 1, none⟩) eX).trans (by simp [go_sem])
  have cX2 : w2.cell? ⟨w1.heap.size, 2, none⟩ = some (Value.int IntKind.i64 k) := (World.cell?_of_block (a := ⟨w1.heap.size, 2, none⟩) eX).trans (by simp [go_sem])
  have fX2 : w2.frozen? ⟨w1.heap.size, 2, none⟩ = false := (World.frozen?_of_block (a := ⟨w1.heap.size, 2, none⟩) eX).trans (by simp [go_sem])
  have cX3 : w2.cell? ⟨w1.heap.size, 3, none⟩ = some (Value.int IntKind.i64 c) := (World.cell?_of_block (a := ⟨w1.heap.size, 3, none⟩) eX).trans (by simp [go_sem])
  have fX3 : w2.frozen? ⟨w1.heap.size, 3, none⟩ = false := (World.frozen?_of_block (a := ⟨w1.heap.size, 3, none⟩) eX).trans (by simp [go_sem])
  have cX4 : w2.cell? ⟨w1.heap.size, 4, none⟩ = some (Value.int IntKind.i64 d) := (World.cell?_of_block (a := ⟨w1.heap.size, 4, none⟩) eX).trans (by simp [go_sem])
  have fX4 : w2.frozen? ⟨w1.heap.size, 4, none⟩ = false := (World.frozen?_of_block (a := ⟨w1.heap.size, 4, none⟩) eX).trans (by simp [go_sem])
  have cX5 : w2.cell? ⟨w1.heap.size, 5, none⟩ = some (Value.int IntKind.i64 l) := (World.cell?_of_block (a := ⟨w1.heap.size, 5, none⟩) eX).trans (by simp [go_sem])
  have fX5 : w2.frozen? ⟨w1.heap.size, 5, none⟩ = false := (World.frozen?_of_block (a := ⟨w1.heap.size, 5, none⟩) eX).trans (by simp [go_sem])
  have q0 : w.heap.size < w1.heap.size := by omega
  have q9 : w.heap.size ≤ w1.heap.size := by omega
  have p1 : w1.heap.size ≠ w.heap.size := by omega
  have p2 : w2.heap.size ≠ w.heap.size := by omega
  have p3 : w2.heap.size ≠ w1.heap.size := by omega
  have q1 : w.heap.size ≠ w1.heap.size := by omega
  have q2 : w.heap.size ≠ w2.heap.size := by omega
  have q3 : w1.heap.size ≠ w2.heap.size := by omega
  have q4 : w.heap.size < w2.heap.size := by omega
  have q5 : w1.heap.size < w2.heap.size := by omega
  have HT := Lib.hid (((((Touch.refl B w).alloc (Obj.cells #[Value.int IntKind.i64 0, Value.int IntKind.i64 0, Value.int IntKind.i64 0, Value.int IntKind.i64 0, Value.int IntKind.i64 0, Value.int IntKind.i64 0] 33)).trans HT1.out).alloc (Obj.cells #[Value.int IntKind.i64 a, Value.int IntKind.i64 b, Value.int IntKind.i64 k, Value.int IntKind.i64 c, Value.int IntKind.i64 d, Value.int IntKind.i64 l] 33)).trans HT2.out)
  clear eR eX z1 z2
  cases bb
  · have HSZ := Lib.hid (HS2.out.mono (show m + 19 ≤ m + 30 by omega))
    have HTZ := HT
    go_wp2_with fail
    refine bodyPost_ret (v := .agg #[.int .i64 a, .int .i64 b, .int .i64 k, .int .i64 c, .int .i64 d, .int .i64 l]) (by simp [results, Tryd.results50, go_sem, *]) rfl ⟨_, rfl, ⟨_, _, _, _, _, _, rfl, HV1.out, HV2.out⟩, ?_, ?_⟩
    · have hS := HSZ.out
      (repeat (first | with_reducible assumption | with_reducible refine SrcAt.drew ?_ | with_reducible refine SrcAt.alloc ?_ _ | with_reducible refine SrcAt.setFar ?_ (by first | omega | (simp; done) | (simp; omega)) _ _ _))
    · have hT := HTZ.out
      (repeat (first | with_reducible assumption | with_reducible refine Touch.drew ?_ | with_reducible refine Touch.alloc ?_ _ | with_reducible refine Touch.setNew ?_ (by first | omega | (simp; done) | (simp; omega)) _ _ _))
  · skip
    go_wp2_with fail
    refine (bent_any B v (m + 19) _ HS2.out HC2.out (by omega)).mono ?_
    rintro e w3 ⟨_, rfl, ⟨x, y, z, rfl, hsm⟩, hS3, hT3⟩
    have HM3 := Lib.hid hsm
    have z3 := hT3.size
    have cA0 : w3.cell? ⟨w.heap.size, 0, none⟩ = some (Value.int IntKind.i64 0) := (hT3.cell (p := ⟨w.heap.size, 0, none⟩) q4 hRB).trans cR0
    have fA0 : w3.frozen? ⟨w.heap.size, 0, none⟩ = false := (hT3.frozen (p := ⟨w.heap.size, 0, none⟩) q4 hRB).trans fR0
    have cA1 : w3.cell? ⟨w.heap.size, 1, none⟩ = some (Value.int IntKind.i64 0) := (hT3.cell (p := ⟨w.heap.size, 1, none⟩) q4 hRB).trans cR1
    have fA1 : w3.frozen? ⟨w.heap.size, 1, none⟩ = false := (hT3.frozen (p := ⟨w.heap.size, 1, none⟩) q4 hRB).trans fR1
    have cA2 : w3.cell? ⟨w.heap.size, 2, none⟩ = some (Value.int IntKind.i64 0) := (hT3.cell (p := ⟨w.heap.size, 2, none⟩) q4 hRB).trans cR2
    have fA2 : w3.frozen? ⟨w.heap.size, 2, none⟩ = false := (hT3.frozen (p := ⟨w.heap.size, 2, none⟩) q4 hRB).trans fR2
    have cA3 : w3.cell? ⟨w.heap.size, 3, none⟩ = some (Value.int IntKind.i64 0) := (hT3.cell (p := ⟨w.heap.size, 3, none⟩) q4 hRB).trans cR3
    have fA3 : w3.frozen? ⟨w.heap.size, 3, none⟩ = false := (hT3.frozen (p := ⟨w.heap.size, 3, none⟩) q4 hRB).trans fR3
    have cA4 : w3.cell? ⟨w.heap.size, 4, none⟩ = some (Value.int IntKind.i64 0) := (hT3.cell (p := ⟨w.heap.size, 4, none⟩) q4 hRB).trans cR4
    have fA4 : w3.frozen? ⟨w.heap.size, 4, none⟩ = false := (hT3.frozen (p := ⟨w.heap.size, 4, none⟩) q4 hRB).trans fR4
    have cA5 : w3.cell? ⟨w.heap.size, 5, none⟩ = some (Value.int IntKind.i64 0) := (hT3.cell (p := ⟨w.heap.size, 5, none⟩) q4 hRB).trans cR5
    have fA5 : w3.frozen? ⟨w.heap.size, 5, none⟩ = false := (hT3.frozen (p := ⟨w.heap.size, 5, none⟩) q4 hRB).trans fR5
    have cB0 : w3.cell? ⟨w1.heap.size, 0, none⟩ = some (Value.int IntKind.i64 a) := (hT3.cell (p := ⟨w1.heap.size, 0, none⟩) q5 hXB).trans cX0
    have fB0 : w3.frozen? ⟨w1.heap.size, 0, none⟩ = false := (hT3.frozen (p := ⟨w1.heap.size, 0, none⟩) q5 hXB).trans fX0
    have cB1 : w3.cell? ⟨w1.heap.size, 1, none⟩ = some (Value.int IntKind.i64 b) := (hT3.cell (p := ⟨w1.heap.size, 1, none⟩) q5 hXB).trans cX1
    have fB1 : w3.frozen? ⟨w1.heap.size, 1, none⟩ = false := (hT3.frozen (p := ⟨w1.heap.size, 1, none⟩) q5 hXB).trans fX1
    have cB2 : w3.cell? ⟨w1.heap.size, 2, none⟩ = some (Value.int IntKind.i64 k) := (hT3.cell (p := ⟨w1.heap.size, 2, none⟩) q5 hXB).trans cX2
    have fB2 : w3.frozen? ⟨w1.heap.size, 2, none⟩ = false := (hT3.frozen (p := ⟨w1.heap.size, 2, none⟩) q5 hXB).trans fX2
    have cB3 : w3.cell? ⟨w1.heap.size, 3, none⟩ = some (Value.int IntKind.i64 c) := (hT3.cell (p := ⟨w1.heap.size, 3, none⟩) q5 hXB).trans cX3
    have fB3 : w3.frozen? ⟨w1.heap.size, 3, none⟩ = false := (hT3.frozen (p := ⟨w1.heap.size, 3, none⟩) q5 hXB).trans fX3
    have cB4 : w3.cell? ⟨w1.heap.size, 4, none⟩ = some (Value.int IntKind.i64 d) := (hT3.cell (p := ⟨w1.heap.size, 4, none⟩) q5 hXB).trans cX4
    have fB4 : w3.frozen? ⟨w1.heap.size, 4, none⟩ = false := (hT3.frozen (p := ⟨w1.heap.size, 4, none⟩) q5 hXB).trans fX4
    have cB5 : w3.cell? ⟨w1.heap.size, 5, none⟩ = some (Value.int IntKind.i64 l) := (hT3.cell (p := ⟨w1.heap.size, 5, none⟩) q5 hXB).trans cX5
    have fB5 : w3.frozen? ⟨w1.heap.size, 5, none⟩ = false := (hT3.frozen (p := ⟨w1.heap.size, 5, none⟩) q5 hXB).trans fX5
    have q6 : w.heap.size < w3.heap.size := by omega
    have q7 : w1.heap.size < w3.heap.size := by omega
    have HSZ := Lib.hid hS3
    have HTZ := Lib.hid (HT.out.trans hT3)
    clear hT3 hS3 z3 hsm
    go_wp2_with fail
    refine bodyPost_ret (v := .agg #[.int .i64 x, .int .i64 y, .int .i64 z, .int .i64 c, .int .i64 d, .int .i64 l]) (by simp [results, Tryd.results50, go_sem, *]) rfl ⟨_, rfl, ⟨_, _, _, _, _, _, rfl, HM3.out, HV2.out⟩, ?_, ?_⟩
    · have hS := HSZ.out
      (repeat (first | with_reducible assumption | with_reducible refine SrcAt.drew ?_ | with_reducible refine SrcAt.alloc ?_ _ | with_reducible refine SrcAt.setFar ?_ (by first | omega | (simp; done) | (simp; omega)) _ _ _))
    · have hT := HTZ.out
      (repeat (first | with_reducible assumption | with_reducible refine Touch.drew ?_ | with_reducible refine Touch.alloc ?_ _ | with_reducible refine Touch.setNew ?_ (by first | omega | (simp; done) | (simp; omega)) _ _ _))

set_option maxHeartbeats 4000000 in
set_option maxRecDepth 100000 in
theorem drawM_any (B : Nat) (v : Value) (m : Nat) (w : World) (hS : SrcAt w B v m) (hC : CodeAt w B v) (hm : m ≤ 1073741700) :
    Calls Tryd.prog 105 #[.pointer (some ⟨B, 0, none⟩)] w (DrawnV IsM B v (m + 21) w) := by
  have hB := hS.lt
  have HS := Lib.hid hS
  have HC := Lib.hid (hC.touch ((Touch.refl B w).alloc (Obj.cells #[Value.int IntKind.i64 0, Value.bool false, Value.int IntKind.i64 0, Value.int IntKind.i64 0, Value.int IntKind.i64 0, Value.int IntKind.i64 0, Value.int IntKind.i64 0, Value.int IntKind.i64 0] 27)))
  clear hS hC
  go_enter Tryd.func105, Tryd.ntmps105
  go_wp2_with fail
  refine (pick_small B v m 8 _ (HS.out.alloc _) HC.out (by omega) (by omega) (by omega)).mono ?_
  rintro e w1 ⟨t, rfl, t0, t1, hS1, hT1⟩
  have HT1 := Lib.hid hT1
  have HS1 := Lib.hid hS1
  have HV1 := Lib.hid (show -1 ≤ t ∧ t ≤ 8 by omega)
  have HC1 := Lib.hid (HC.out.touch hT1)
  have z1 := hT1.size
  simp only [World.size_alloc] at z1
  clear t0 t1 hS1 hT1
  go_wp2_with fail
  refine (one_small B v (m + 1) 2 _ HS1.out HC1.out (by omega) (by omega) (by omega)).mono ?_
  rintro e w2 ⟨f, rfl, hS2, hT2⟩
  have HT2 := Lib.hid hT2
  have HS2 := Lib.hid hS2
  have HC2 := Lib.hid (HC1.out.touch (hT2.alloc (Obj.cells #[Value.int IntKind.i64 t, Value.bool f, Value.int IntKind.i64 0, Value.int IntKind.i64 0, Value.int IntKind.i64 0, Value.int IntKind.i64 0, Value.int IntKind.i64 0, Value.int IntKind.i64 0] 27)))
  have z2 := hT2.size
  clear hS2 hT2
  go_wp2_with fail
  refine (one_small B v (m + 2) 4 _ (HS2.out.alloc _) HC2.out (by omega) (by omega) (by omega)).mono ?_
  rintro e w3 ⟨bb, rfl, hS3, hT3⟩
  have HT3 := Lib.hid hT3
  have HS3 := Lib.hid hS3
  have HC3 := Lib.hid (HC2.out.touch hT3)
  have z3 := hT3.size
  simp only [World.size_alloc] at z3
  clear hS3 hT3
  have hRB : w.heap.size ≠ B := by omega
  have hXB : w2.heap.size ≠ B := by omega
  have eR : w3.heap[w.heap.size]? = (w.alloc (Obj.cells #[Value.int IntKind.i64 0, Value.bool false, Value.int IntKind.i64 0, Value.int IntKind.i64 0, Value.int IntKind.i64 0, Value.int IntKind.i64 0, Value.int IntKind.i64 0, Value.int IntKind.i64 0] 27)).heap[w.heap.size]? := (HT3.out.block _ (by simp; omega) hRB).trans ((Below.heap_alloc w2 _ _ (by omega)).trans ((HT2.out.block _ (by omega) hRB).trans (HT1.out.block _ (by simp) hRB)))
  have eX : w3.heap[w2.heap.size]? = (w2.alloc (Obj.cells #[Value.int IntKind.i64 t, Value.bool f, Value.int IntKind.i64 0, Value.int IntKind.i64 0, Value.int IntKind.i64 0, Value.int IntKind.i64 0, Value.int IntKind.i64 0, Value.int IntKind.i64 0] 27)).heap[w2.heap.size]? := HT3.out.block _ (by simp) hXB
  have cR0 : w3.cell? ⟨w.heap.size, 0, none⟩ = some (Value.int IntKind.i64 0) := (World.cell?_of_block (a := ⟨w.heap.size, 0, none⟩) eR).trans (by simp [go_sem])
  have fR0 : w3.frozen? ⟨w.heap.size, 0, none⟩ = false := (World.frozen?_of_block (a := ⟨w.heap.size, 0, none⟩) eR).trans (by simp [go_sem])
  have cR1 : w3.cell? ⟨w.heap.size, 1, none⟩ = some (Value.bool false) := (World.cell?_of_block (a := ⟨w.heap.size, 1, none⟩) eR).trans (by simp [go_sem])
  have fR1 : w3.frozen? ⟨w.heap.size, 1, none⟩ = false := (World.frozen?_of_block (a := ⟨w.heap.size, 1, none⟩) eR).trans (by simp [go_sem])
  have cR2 : w3.cell? ⟨w.heap.size, 2, none⟩ = some (Value.int IntKind.i64 0) := (World.cell?_of_block (a := ⟨w.heap.size, 2, none⟩) eR).trans (by simp [go_sem])
  have fR2 : w3.frozen? ⟨w.heap.size, 2, none⟩ = false := (World.frozen?_of_block (a := ⟨w.heap.size, 2, none⟩) eR).trans (by simp [go_sem])
  have cR3 : w3.cell? ⟨w.heap.size, 3, none⟩ = some (Value.int IntKind.i64 0) := (World.cell?_of_block (a := ⟨w.heap.size, 3, none⟩) eR).trans (by simp [go_sem])
  have fR3 : w3.frozen? ⟨w.heap.size, 3, none⟩ = false := (World.frozen?_of_block (a := ⟨w.heap.size, 3, none⟩) eR).trans (by simp [go_sem])
  have cR4 : w3.cell? ⟨w.heap.size, 4, none⟩ = some (Value.int IntKind.i64 0) := (World.cell?_of_block (a := ⟨w.heap.size, 4, none⟩) eR).trans (by simp [go_sem])
  have fR4 : w3.frozen? ⟨w.heap.size, 4, none⟩ = false := (World.frozen?_of_block (a := ⟨w.heap.size, 4, none⟩) eR).trans (by simp [go_sem])
  have cR5 : w3.cell? ⟨w.heap.size, 5, none⟩ = some (Value.int IntKind.i64 0) := (World.cell?_of_block (a := ⟨w.heap.size, 5, none⟩) eR).trans (by simp [go_sem])
  have fR5 : w3.frozen? ⟨w.heap.size, 5, none⟩ = false := (World.frozen?_of_block (a := ⟨w.heap.size, 5, none⟩) eR).trans (by simp [go_sem])
  have cR6 : w3.cell? ⟨w.heap.size, 6, none⟩ = some (Value.int IntKind.i64 0) := (World.cell?_of_block (a := ⟨w.heap.size, 6, none⟩) eR).trans (by simp [go_sem])
  have fR6 : w3.frozen? ⟨w.heap.size, 6, none⟩ = false := (World.frozen?_of_block (a := ⟨w.heap.size, 6, none⟩) eR).trans (by simp [go_sem])
  have cR7 : w3.cell? ⟨w.heap.size, 7, none⟩ = some (Value.int IntKind.i64 0) := (World.cell?_of_block (a := ⟨w.heap.size, 7, none⟩) eR).trans (by simp [go_sem])
  have fR7 : w3.frozen? ⟨w.heap.size, 7, none⟩ = false := (World.frozen?_of_block (a := ⟨w.heap.size, 7, none⟩) eR).trans (by simp [go_sem])
  have cX0 : w3.cell? ⟨w2.heap.size, 0, none⟩ = some (Value.int IntKind.i64 t) := (World.cell?_of_block (a := ⟨w2.heap.size, 0, none⟩) eX).trans (by simp [go_sem])
  have fX0 : w3.frozen? ⟨w2.heap.size, 0, none⟩ = false := (World.frozen?_of_block (a := ⟨w2.heap.size, 0, none⟩) eX).trans (by simp [go_sem])
  have cX1 : w3.cell? ⟨w2.heap.size, 1, none⟩ = some (Value.bool f) := (World.cell?_of_block (a := ⟨w2.heap.size, 1, none⟩) eX).trans (by simp [go_sem])
  have fX1 : w3.frozen? ⟨w2.heap.size, 1, none⟩ = false := (World.frozen?_of_block (a := ⟨w2.heap.size, 1, none⟩) eX).trans (by simp [go_sem])
  have cX2 : w3.cell? ⟨w2.heap.size, 2, none⟩ = some (Value.int IntKind.i64 0) := (World.cell?_of_block (a := ⟨w2.heap.size, 2, none⟩) eX).trans (by simp [go_sem])
  have fX2 : w3.frozen? ⟨w2.heap.size, 2, none⟩ = false := (World.frozen?_of_block (a := ⟨w2.heap.size, 2, none⟩) eX).trans (by simp [go_sem])
  have cX3 : w3.cell? ⟨w2.heap.size, 3, none⟩ = some (Value.int IntKind.i64 0) := (World.cell?_of_block (a := ⟨w2.heap.size, 3, none⟩) eX).trans (by simp [go_sem])
  have fX3 : w3.frozen? ⟨w2.heap.size, 3, none⟩ = false := (World.frozen?_of_block (a := ⟨w2.heap.size, 3, none⟩) eX).trans (by simp [go_sem])
  have cX4 : w3.cell? ⟨w2.heap.size, 4, none⟩ = some (Value.int IntKind.i64 0) := (World.cell?_of_block (a := ⟨w2.heap.size, 4, none⟩) eX).trans (by simp [go_sem])
  have fX4 : w3.frozen? ⟨w2.heap.size, 4, none⟩ = false := (World.frozen?_of_block (a := ⟨w2.heap.size, 4, none⟩) eX).trans (by simp [go_sem])
  have cX5 : w3.cell? ⟨w2.heap.size, 5, none⟩ = some (Value.int IntKind.i64 0) := (World.cell?_of_block (a := ⟨w2.heap.size, 5, none⟩) eX).trans (by simp [go_sem])
  have fX5 : w3.frozen? ⟨w2.heap.size, 5, none⟩ = false := (World.frozen?_of_block (a := ⟨w2.heap.size, 5, none⟩) eX).trans (by simp [go_sem])
  have cX6 : w3.cell? ⟨w2.heap.size, 6, none⟩ = some (Value.int IntKind.i64 0) := (World.cell?_of_block (a := ⟨w2.heap.size, 6, none⟩) eX).trans (by simp [go_sem])
  have fX6 : w3.frozen? ⟨w2.heap.size, 6, none⟩ = false := (World.frozen?_of_block (a := ⟨w2.heap.size, 6, none⟩) eX).trans (by simp [go_sem])
  have cX7 : w3.cell? ⟨w2.heap.size, 7, none⟩ = some (Value.int IntKind.i64 0) := (World.cell?_of_block (a := ⟨w2.heap.size, 7, none⟩) eX).trans (by simp [go_sem])
  have fX7 : w3.frozen? ⟨w2.heap.size, 7, none⟩ = false := (World.frozen?_of_block (a := ⟨w2.heap.size, 7, none⟩) eX).trans (by simp [go_sem])
  have q0 : w.heap.size < w2.heap.size := by omega
  have q9 : w.heap.size ≤ w2.heap.size := by omega
  have p1 : w2.heap.size ≠ w.heap.size := by omega
  have p2 : w3.heap.size ≠ w.heap.size := by omega
  have p3 : w3.heap.size ≠ w2.heap.size := by omega
  have q1 : w.heap.size ≠ w2.heap.size := by omega
  have q2 : w.heap.size ≠ w3.heap.size := by omega
  have q3 : w2.heap.size ≠ w3.heap.size := by omega
  have q4 : w.heap.size < w3.heap.size := by omega
  have q5 : w2.heap.size < w3.heap.size := by omega
  have HT := Lib.hid ((((((Touch.refl B w).alloc (Obj.cells #[Value.int IntKind.i64 0, Value.bool false, Value.int IntKind.i64 0, Value.int IntKind.i64 0, Value.int IntKind.i64 0, Value.int IntKind.i64 0, Value.int IntKind.i64 0, Value.int IntKind.i64 0] 27)).trans HT1.out).trans HT2.out).alloc (Obj.cells #[Value.int IntKind.i64 t, Value.bool f, Value.int IntKind.i64 0, Value.int IntKind.i64 0, Value.int IntKind.i64 0, Value.int IntKind.i64 0, Value.int IntKind.i64 0, Value.int IntKind.i64 0] 27)).trans HT3.out)
  clear eR eX z1 z2 z3
  cases bb
  · go_wp2_with fail
    refine (draw_pt B v (m + 3) _ HS3.out HC3.out (by omega)).mono ?_
    rintro e w4 ⟨_, rfl, ⟨a, b, k, c, d, l, rfl, v1, v2⟩, hS4, hT4⟩
    have HV2 := Lib.hid (And.intro (sm_valid v1) (sm_valid v2))
    have z4 := hT4.size
    have cA0 : w4.cell? ⟨w.heap.size, 0, none⟩ = some (Value.int IntKind.i64 0) := (hT4.cell (p := ⟨w.heap.size, 0, none⟩) q4 hRB).trans cR0
    have fA0 : w4.frozen? ⟨w.heap.size, 0, none⟩ = false := (hT4.frozen (p := ⟨w.heap.size, 0, none⟩) q4 hRB).trans fR0
    have cA1 : w4.cell? ⟨w.heap.size, 1, none⟩ = some (Value.bool false) := (hT4.cell (p := ⟨w.heap.size, 1, none⟩) q4 hRB).trans cR1
    have fA1 : w4.frozen? ⟨w.heap.size, 1, none⟩ = false := (hT4.frozen (p := ⟨w.heap.size, 1, none⟩) q4 hRB).trans fR1
    have cA2 : w4.cell? ⟨w.heap.size, 2, none⟩ = some (Value.int IntKind.i64 0) := (hT4.cell (p := ⟨w.heap.size, 2, none⟩) q4 hRB).trans cR2
    have fA2 : w4.frozen? ⟨w.heap.size, 2, none⟩ = false := (hT4.frozen (p := ⟨w.heap.size, 2, none⟩) q4 hRB).trans fR2
    have cA3 : w4.cell? ⟨w.heap.size, 3, none⟩ = some (Value.int IntKind.i64 0) := (hT4.cell (p := ⟨w.heap.size, 3, none⟩) q4 hRB).trans cR3
    have fA3 : w4.frozen? ⟨w.heap.size, 3, none⟩ = false := (hT4.frozen (p := ⟨w.heap.size, 3, none⟩) q4 hRB).trans fR3
    have cA4 : w4.cell? ⟨w.heap.size, 4, none⟩ = some (Value.int IntKind.i64 0) := (hT4.cell (p := ⟨w.heap.size, 4, none⟩) q4 hRB).trans cR4
    have fA4 : w4.frozen? ⟨w.heap.size, 4, none⟩ = false := (hT4.frozen (p := ⟨w.heap.size, 4, none⟩) q4 hRB).trans fR4
    have cA5 : w4.cell? ⟨w.heap.size, 5, none⟩ = some (Value.int IntKind.i64 0) := (hT4.cell (p := ⟨w.heap.size, 5, none⟩) q4 hRB).trans cR5
    have fA5 : w4.frozen? ⟨w.heap.size, 5, none⟩ = false := (hT4.frozen (p := ⟨w.heap.size, 5, none⟩) q4 hRB).trans fR5
    have cA6 : w4.cell? ⟨w.heap.size, 6, none⟩ = some (Value.int IntKind.i64 0) := (hT4.cell (p := ⟨w.heap.size, 6, none⟩) q4 hRB).trans cR6
    have fA6 : w4.frozen? ⟨w.heap.size, 6, none⟩ = false := (hT4.frozen (p := ⟨w.heap.size, 6, none⟩) q4 hRB).trans fR6
    have cA7 : w4.cell? ⟨w.heap.size, 7, none⟩ = some (Value.int IntKind.i64 0) := (hT4.cell (p := ⟨w.heap.size, 7, none⟩) q4 hRB).trans cR7
    have fA7 : w4.frozen? ⟨w.heap.size, 7, none⟩ = false := (hT4.frozen (p := ⟨w.heap.size, 7, none⟩) q4 hRB).trans fR7
    have cB0 : w4.cell? ⟨w2.heap.size, 0, none⟩ = some (Value.int IntKind.i64 t) := (hT4.cell (p := ⟨w2.heap.size, 0, none⟩) q5 hXB).trans cX0
    have fB0 : w4.frozen? ⟨w2.heap.size, 0, none⟩ = false := (hT4.frozen (p := ⟨w2.heap.size, 0, none⟩) q5 hXB).trans fX0
    have cB1 : w4.cell? ⟨w2.heap.size, 1, none⟩ = some (Value.bool f) := (hT4.cell (p := ⟨w2.heap.size, 1, none⟩) q5 hXB).trans cX1
    have fB1 : w4.frozen? ⟨w2.heap.size, 1, none⟩ = false := (hT4.frozen (p := ⟨w2.heap.size, 1, none⟩) q5 hXB).trans fX1
    have cB2 : w4.cell? ⟨w2.heap.size, 2, none⟩ = some (Value.int IntKind.i64 0) := (hT4.cell (p := ⟨w2.heap.size, 2, none⟩) q5 hXB).trans cX2
    have fB2 : w4.frozen? ⟨w2.heap.size, 2, none⟩ = false := (hT4.frozen (p := ⟨w2.heap.size, 2, none⟩) q5 hXB).trans fX2
    have cB3 : w4.cell? ⟨w2.heap.size, 3, none⟩ = some (Value.int IntKind.i64 0) := (hT4.cell (p := ⟨w2.heap.size, 3, none⟩) q5 hXB).trans cX3
    have fB3 : w4.frozen? ⟨w2.heap.size, 3, none⟩ = false := (hT4.frozen (p := ⟨w2.heap.size, 3, none⟩) q5 hXB).trans fX3
    have cB4 : w4.cell? ⟨w2.heap.size, 4, none⟩ = some (Value.int IntKind.i64 0) := (hT4.cell (p := ⟨w2.heap.size, 4, none⟩) q5 hXB).trans cX4
    have fB4 : w4.frozen? ⟨w2.heap.size, 4, none⟩ = false := (hT4.frozen (p := ⟨w2.heap.size, 4, none⟩) q5 hXB).trans fX4
    have cB5 : w4.cell? ⟨w2.heap.size, 5, none⟩ = some (Value.int IntKind.i64 0) := (hT4.cell (p := ⟨w2.heap.size, 5, none⟩) q5 hXB).trans cX5
    have fB5 : w4.frozen? ⟨w2.heap.size, 5, none⟩ = false := (hT4.frozen (p := ⟨w2.heap.size, 5, none⟩) q5 hXB).trans fX5
    have cB6 : w4.cell? ⟨w2.heap.size, 6, none⟩ = some (Value.int IntKind.i64 0) := (hT4.cell (p := ⟨w2.heap.size, 6, none⟩) q5 hXB).trans cX6
    have fB6 : w4.frozen? ⟨w2.heap.size, 6, none⟩ = false := (hT4.frozen (p := ⟨w2.heap.size, 6, none⟩) q5 hXB).trans fX6
    have cB7 : w4.cell? ⟨w2.heap.size, 7, none⟩ = some (Value.int IntKind.i64 0) := (hT4.cell (p := ⟨w2.heap.size, 7, none⟩) q5 hXB).trans cX7
    have fB7 : w4.frozen? ⟨w2.heap.size, 7, none⟩ = false := (hT4.frozen (p := ⟨w2.heap.size, 7, none⟩) q5 hXB).trans fX7
    have q6 : w.heap.size < w4.heap.size := by omega
    have q7 : w2.heap.size < w4.heap.size := by omega
    have p6 : w4.heap.size ≠ w.heap.size := by omega
    have p7 : w4.heap.size ≠ w2.heap.size := by omega
    have p8 : w.heap.size ≠ w4.heap.size := by omega
    have p9 : w2.heap.size ≠ w4.heap.size := by omega
    have HSZ := Lib.hid hS4
    have HTZ := Lib.hid (HT.out.trans hT4)
    clear hT4 hS4 z4 v1 v2
    go_wp2_with fail
    refine bodyPost_ret (v := .agg #[.int .i64 t, .bool f, .int .i64 a, .int .i64 b, .int .i64 k, .int .i64 c, .int .i64 d, .int .i64 l]) (by simp [results, Tryd.results105, go_sem, *]) rfl ⟨_, rfl, ⟨t, f, _, _, _, _, _, _, rfl, HV1.out, HV2.out.1, HV2.out.2⟩, ?_, ?_⟩
    · have hS := HSZ.out
      (repeat (first | with_reducible assumption | with_reducible refine SrcAt.drew ?_ | with_reducible refine SrcAt.alloc ?_ _ | with_reducible refine SrcAt.setFar ?_ (by first | omega | (simp; done) | (simp; omega)) _ _ _))
    · have hT := HTZ.out
      (repeat (first | with_reducible assumption | with_reducible refine Touch.drew ?_ | with_reducible refine Touch.alloc ?_ _ | with_reducible refine Touch.setNew ?_ (by first | omega | (simp; done) | (simp; omega)) _ _ _))
  · have HSZ := Lib.hid (HS3.out.mono (show m + 3 ≤ m + 21 by omega))
    have HTZ := HT
    go_wp2_with fail
    refine bodyPost_ret (v := .agg #[.int .i64 t, .bool f, .int .i64 0, .int .i64 0, .int .i64 0, .int .i64 0, .int .i64 0, .int .i64 0]) (by simp [results, Tryd.results105, go_sem, *]) rfl ⟨_, rfl, ⟨t, f, _, _, _, _, _, _, rfl, HV1.out, by unfold Sm; decide, by unfold Sm; decide⟩, ?_, ?_⟩
    · have hS := HSZ.out
      (repeat (first | with_reducible assumption | with_reducible refine SrcAt.drew ?_ | with_reducible refine SrcAt.alloc ?_ _ | with_reducible refine SrcAt.setFar ?_ (by first | omega | (simp; done) | (simp; omega)) _ _ _))
    · have hT := HTZ.out
      (repeat (first | with_reducible assumption | with_reducible refine Touch.drew ?_ | with_reducible refine Touch.alloc ?_ _ | with_reducible refine Touch.setNew ?_ (by first | omega | (simp; done) | (simp; omega)) _ _ _))

set_option maxHeartbeats 4000000 in
set_option maxRecDepth 100000 in
theorem bentM_any (B : Nat) (v : Value) (m : Nat) (w : World) (hS : SrcAt w B v m) (hC : CodeAt w B v) (hm : m ≤ 1073741600) :
    Calls Tryd.prog 48 #[.pointer (some ⟨B, 0, none⟩)] w (DrawnV IsM B v (m + 33) w) := by
  have hB := hS.lt
  have HS := Lib.hid hS
  have HC := Lib.hid (hC.touch ((Touch.refl B w).alloc (Obj.cells #[Value.int IntKind.i64 0, Value.bool false, Value.int IntKind.i64 0, Value.int IntKind.i64 0, Value.int IntKind.i64 0, Value.int IntKind.i64 0, Value.int IntKind.i64 0, Value.int IntKind.i64 0] 27)))
  clear hS hC
  go_enter Tryd.func48, Tryd.ntmps48
  go_wp2_with fail
  refine (drawM_any B v m _ (HS.out.alloc _) HC.out (by omega)).mono ?_
  rintro e w1 ⟨_, rfl, ⟨t, f, a, b, k, c, d, l, rfl, v0, v1, v2⟩, hS1, hT1⟩
  have HT1 := Lib.hid hT1
  have HS1 := Lib.hid hS1
  have HV0 := Lib.hid v0
  have HV1 := Lib.hid v1
  have HV2 := Lib.hid v2
  have HC1 := Lib.hid (HC.out.touch (hT1.alloc (Obj.cells #[Value.int IntKind.i64 t, Value.bool f, Value.int IntKind.i64 a, Value.int IntKind.i64 b, Value.int IntKind.i64 k, Value.int IntKind.i64 c, Value.int IntKind.i64 d, Value.int IntKind.i64 l] 27)))
  have z1 := hT1.size
  simp only [World.size_alloc] at z1
  clear v0 v1 v2 hS1 hT1
  go_wp2_with fail
  refine (pick_small B v (m + 21) 16 _ (HS1.out.alloc _) HC1.out (by omega) (by omega) (by omega)).mono ?_
  rintro e w2 ⟨r, rfl, r0, r1, hS2, hT2⟩
  have HT2 := Lib.hid hT2
  have HS2 := Lib.hid hS2
  have HC2 := Lib.hid (HC1.out.touch hT2)
  have z2 := hT2.size
  simp only [World.size_alloc] at z2
  clear hS2 hT2
  have hRB : w.heap.size ≠ B := by omega
  have hXB : w1.heap.size ≠ B := by omega
  have eR : w2.heap[w.heap.size]? = (w.alloc (Obj.cells #[Value.int IntKind.i64 0, Value.bool false, Value.int IntKind.i64 0, Value.int IntKind.i64 0, Value.int IntKind.i64 0, Value.int IntKind.i64 0, Value.int IntKind.i64 0, Value.int IntKind.i64 0] 27)).heap[w.heap.size]? := (HT2.out.block _ (by simp; omega) hRB).trans ((Below.heap_alloc w1 _ _ (by omega)).trans (HT1.out.block _ (by simp) hRB))
  have eX : w2.heap[w1.heap.size]? = (w1.alloc (Obj.cells #[Value.int IntKind.i64 t, Value.bool f, Value.int IntKind.i64 a, Value.int IntKind.i64 b, Value.int IntKind.i64 k, Value.int IntKind.i64 c, Value.int IntKind.i64 d, Value.int IntKind.i64 l] 27)).heap[w1.heap.size]? := HT2.out.block _ (by simp) hXB
  have cR0 : w2.cell? ⟨w.heap.size, 0, none⟩ = some (Value.int IntKind.i64 0) := (World.cell?_of_block (a := ⟨w.heap.size, 0, none⟩) eR).trans (by simp [go_sem])
  have fR0 : w2.frozen? ⟨w.heap.size, 0, none⟩ = false := (World.frozen?_of_block (a := ⟨w.heap.size, 0, none⟩) eR).trans (by simp [go_sem])
  have cR1 : w2.cell? ⟨w.heap.size, 1, none⟩ = some (Value.bool false) := (World.cell?_of_block (a := ⟨w.heap.size, 1, none⟩) eR).trans (by simp [go_sem])
  have fR1 : w2.frozen? ⟨w.heap.size, 1, none⟩ = false := (World.frozen?_of_block (a := ⟨w.heap.size, 1, none⟩) eR).trans (by simp [go_sem])
  have cR2 : w2.cell? ⟨w.heap.size, 2, none⟩ = some (Value.int IntKind.i64 0) := (World.cell?_of_block (a := ⟨w.heap.size, 2, none⟩) eR).trans (by simp [go_sem])
  have fR2 : w2.frozen? ⟨w.heap.size, 2, none⟩ = false := (World.frozen?_of_block (a := ⟨w.heap.size, 2, none⟩) eR).trans (by simp [go_sem])
  have cR3 : w2.cell? ⟨w.heap.size, 3, none⟩ = some (Value.int IntKind.i64 0) := (World.cell?_of_block (a := ⟨w.heap.size, 3, none⟩) eR).trans (by simp [go_sem])
  have fR3 : w2.frozen? ⟨w.heap.size, 3, none⟩ = false := (World.frozen?_of_block (a := ⟨w.heap.size, 3, none⟩) eR).trans (by simp [go_sem])
  have cR4 : w2.cell? ⟨w.heap.size, 4, none⟩ = some (Value.int IntKind.i64 0) := (World.cell?_of_block (a := ⟨w.heap.size, 4, none⟩) eR).trans (by simp [go_sem])
  have fR4 : w2.frozen? ⟨w.heap.size, 4, none⟩ = false := (World.frozen?_of_block (a := ⟨w.heap.size, 4, none⟩) eR).trans (by simp [go_sem])
  have cR5 : w2.cell? ⟨w.heap.size, 5, none⟩ = some (Value.int IntKind.i64 0) := (World.cell?_of_block (a := ⟨w.heap.size, 5, none⟩) eR).trans (by simp [go_sem])
  have fR5 : w2.frozen? ⟨w.heap.size, 5, none⟩ = false := (World.frozen?_of_block (a := ⟨w.heap.size, 5, none⟩) eR).trans (by simp [go_sem])
  have cR6 : w2.cell? ⟨w.heap.size, 6, none⟩ = some (Value.int IntKind.i64 0) := (World.cell?_of_block (a := ⟨w.heap.size, 6, none⟩) eR).trans (by simp [go_sem])
  have fR6 : w2.frozen? ⟨w.heap.size, 6, none⟩ = false := (World.frozen?_of_block (a := ⟨w.heap.size, 6, none⟩) eR).trans (by simp [go_sem])
  have cR7 : w2.cell? ⟨w.heap.size, 7, none⟩ = some (Value.int IntKind.i64 0) := (World.cell?_of_block (a := ⟨w.heap.size, 7, none⟩) eR).trans (by simp [go_sem])
  have fR7 : w2.frozen? ⟨w.heap.size, 7, none⟩ = false := (World.frozen?_of_block (a := ⟨w.heap.size, 7, none⟩) eR).trans (by simp [go_sem])
  have cX0 : w2.cell? ⟨w1.heap.size, 0, none⟩ = some (Value.int IntKind.i64 t) := (World.cell?_of_block (a := ⟨w1.heap.size, 0, none⟩) eX).trans (by simp [go_sem])
  have fX0 : w2.frozen? ⟨w1.heap.size, 0, none⟩ = false := (World.frozen?_of_block (a := ⟨w1.heap.size, 0, none⟩) eX).trans (by simp [go_sem])
  have cX1 : w2.cell? ⟨w1.heap.size, 1, none⟩ = some (Value.bool f) := (World.cell?_of_block (a := ⟨w1.heap.size, 1, none⟩) eX).trans (by simp [go_sem])
  have fX1 : w2.frozen? ⟨w1.heap.size, 1, none⟩ = false := (World.frozen?_of_block (a := ⟨w1.heap.size, 1, none⟩) eX).trans (by simp [go_sem])
  have cX2 : w2.cell? ⟨w1.heap.size, 2, none⟩ = some (Value.int IntKind.i64 a) := (World.cell?_of_block (a := ⟨w1.heap.size, 2, none⟩) eX).trans (by simp [go_sem])
  have fX2 : w2.frozen? ⟨w1.heap.size, 2, none⟩ = false := (World.frozen?_of_block (a := ⟨w1.heap.size, 2, none⟩) eX).trans (by simp [go_sem])
  have cX3 : w2.cell? ⟨w1.heap.size, 3, none⟩ = some (Value.int IntKind.i64 b) := (World.cell?_of_block (a := ⟨w1.heap.size, 3, none⟩) eX).trans (by simp [go_sem])
  have fX3 : w2.frozen? ⟨w1.heap.size, 3, none⟩ = false := (World.frozen?_of_block (a := ⟨w1.heap.size, 3, none⟩) eX).trans (by simp [go_sem])
  have cX4 : w2.cell? ⟨w1.heap.size, 4, none⟩ = some (Value.int IntKind.i64 k) := (World.cell?_of_block (a := ⟨w1.heap.size, 4, none⟩) eX).trans (by simp [go_sem])
  have fX4 : w2.frozen? ⟨w1.heap.size, 4, none⟩ = false := (World.frozen?_of_block (a := ⟨w1.heap.size, 4, none⟩) eX).trans (by simp [go_sem])
  have cX5 : w2.cell? ⟨w1.heap.size, 5, none⟩ = some (Value.int IntKind.i64 c) := (World.cell?_of_block (a := ⟨w1.heap.size, 5, none⟩) eX).trans (by simp [go_sem])
  have fX5 : w2.frozen? ⟨w1.heap.size, 5, none⟩ = false := (World.frozen?_of_block (a := ⟨w1.heap.size, 5, none⟩) eX).trans (by simp [go_sem])
  have cX6 : w2.cell? ⟨w1.heap.size, 6, none⟩ = some (Value.int IntKind.i64 d) := (World.cell?_of_block (a := ⟨w1.heap.size, 6, none⟩) eX).trans (by simp [go_sem])
  have fX6 : w2.frozen? ⟨w1.heap.size, 6, none⟩ = false := (World.frozen?_of_block (a := ⟨w1.heap.size, 6, none⟩) eX).trans (by simp [go_sem])
  have cX7 : w2.cell? ⟨w1.heap.size, 7, none⟩ = some (Value.int IntKind.i64 l) := (World.cell?_of_block (a := ⟨w1.heap.size, 7, none⟩) eX).trans (by simp [go_sem])
  have fX7 : w2.frozen? ⟨w1.heap.size, 7, none⟩ = false := (World.frozen?_of_block (a := ⟨w1.heap.size, 7, none⟩) eX).trans (by simp [go_sem])
  have q0 : w.heap.size < w1.heap.size := by omega
  have q9 : w.heap.size ≤ w1.heap.size := by omega
  have p1 : w1.heap.size ≠ w.heap.size := by omega
  have p2 : w2.heap.size ≠ w.heap.size := by omega
  have p3 : w2.heap.size ≠ w1.heap.size := by omega
  have q1 : w.heap.size ≠ w1.heap.size := by omega
  have q2 : w.heap.size ≠ w2.heap.size := by omega
  have q3 : w1.heap.size ≠ w2.heap.size := by omega
  have q4 : w.heap.size < w2.heap.size := by omega
  have q5 : w1.heap.size < w2.heap.size := by omega
  have HT := Lib.hid (((((Touch.refl B w).alloc (Obj.cells #[Value.int IntKind.i64 0, Value.bool false, Value.int IntKind.i64 0, Value.int IntKind.i64 0, Value.int IntKind.i64 0, Value.int IntKind.i64 0, Value.int IntKind.i64 0, Value.int IntKind.i64 0] 27)).trans HT1.out).alloc (Obj.cells #[Value.int IntKind.i64 t, Value.bool f, Value.int IntKind.i64 a, Value.int IntKind.i64 b, Value.int IntKind.i64 k, Value.int IntKind.i64 c, Value.int IntKind.i64 d, Value.int IntKind.i64 l] 27)).trans HT2.out)
  clear eR eX z1 z2
  have hr : r = 0 ∨ r = 1 ∨ r = 2 ∨ (¬ r = 0 ∧ ¬ r = 1 ∧ ¬ r = 2) := by omega
  rcases hr with hr | hr | hr | ⟨r2, r3, r4⟩
  · subst hr
    clear r0 r1
    go_wp2_with fail
    refine (among_small B w2.heap.size v (m + 22) 2 (-1) 8 _ ((HS2.out.mono (show m + 22 ≤ m + 22 by omega)).alloc _) (HC2.out.touch ((Touch.refl _ _).alloc _)) (by omega) (by omega) (by omega) (by simp) (by omega) ?_).mono ?_
    · intro i hi
      have hi' : i = 0 ∨ i = 1 := by omega
      rcases hi' with rfl | rfl <;> exact ⟨_, by simp [go_sem]; rfl, by omega, by omega⟩
    rintro e w3 ⟨x, rfl, x0, x1, hS3, hT3⟩
    have T3 := ((Touch.refl B w2).alloc _).trans hT3
    have z3 := T3.size
    have cA0 : w3.cell? ⟨w.heap.size, 0, none⟩ = some (Value.int IntKind.i64 0) := (T3.cell (p := ⟨w.heap.size, 0, none⟩) q4 hRB).trans cR0
    have fA0 : w3.frozen? ⟨w.heap.size, 0, none⟩ = false := (T3.frozen (p := ⟨w.heap.size, 0, none⟩) q4 hRB).trans fR0
    have cA1 : w3.cell? ⟨w.heap.size, 1, none⟩ = some (Value.bool false) := (T3.cell (p := ⟨w.heap.size, 1, none⟩) q4 hRB).trans cR1
    have fA1 : w3.frozen? ⟨w.heap.size, 1, none⟩ = false := (T3.frozen (p := ⟨w.heap.size, 1, none⟩) q4 hRB).trans fR1
    have cA2 : w3.cell? ⟨w.heap.size, 2, none⟩ = some (Value.int IntKind.i64 0) := (T3.cell (p := ⟨w.heap.size, 2, none⟩) q4 hRB).trans cR2
    have fA2 : w3.frozen? ⟨w.heap.size, 2, none⟩ = false := (T3.frozen (p := ⟨w.heap.size, 2, none⟩) q4 hRB).trans fR2
    have cA3 : w3.cell? ⟨w.heap.size, 3, none⟩ = some (Value.int IntKind.i64 0) := (T3.cell (p := ⟨w.heap.size, 3, none⟩) q4 hRB).trans cR3
    have fA3 : w3.frozen? ⟨w.heap.size, 3, none⟩ = false := (T3.frozen (p := ⟨w.heap.size, 3, none⟩) q4 hRB).trans fR3
    have cA4 : w3.cell? ⟨w.heap.size, 4, none⟩ = some (Value.int IntKind.i64 0) := (T3.cell (p := ⟨w.heap.size, 4, none⟩) q4 hRB).trans cR4
    have fA4 : w3.frozen? ⟨w.heap.size, 4, none⟩ = false := (T3.frozen (p := ⟨w.heap.size, 4, none⟩) q4 hRB).trans fR4
    have cA5 : w3.cell? ⟨w.heap.size, 5, none⟩ = some (Value.int IntKind.i64 0) := (T3.cell (p := ⟨w.heap.size, 5, none⟩) q4 hRB).trans cR5
    have fA5 : w3.frozen? ⟨w.heap.size, 5, none⟩ = false := (T3.frozen (p := ⟨w.heap.size, 5, none⟩) q4 hRB).trans fR5
    have cA6 : w3.cell? ⟨w.heap.size, 6, none⟩ = some (Value.int IntKind.i64 0) := (T3.cell (p := ⟨w.heap.size, 6, none⟩) q4 hRB).trans cR6
    have fA6 : w3.frozen? ⟨w.heap.size, 6, none⟩ = false := (T3.frozen (p := ⟨w.heap.size, 6, none⟩) q4 hRB).trans fR6
    have cA7 : w3.cell? ⟨w.heap.size, 7, none⟩ = some (Value.int IntKind.i64 0) := (T3.cell (p := ⟨w.heap.size, 7, none⟩) q4 hRB).trans cR7
    have fA7 : w3.frozen? ⟨w.heap.size, 7, none⟩ = false := (T3.frozen (p := ⟨w.heap.size, 7, none⟩) q4 hRB).trans fR7
    have cB0 : w3.cell? ⟨w1.heap.size, 0, none⟩ = some (Value.int IntKind.i64 t) := (T3.cell (p := ⟨w1.heap.size, 0, none⟩) q5 hXB).trans cX0
    have fB0 : w3.frozen? ⟨w1.heap.size, 0, none⟩ = false := (T3.frozen (p := ⟨w1.heap.size, 0, none⟩) q5 hXB).trans fX0
    have cB1 : w3.cell? ⟨w1.heap.size, 1, none⟩ = some (Value.bool f) := (T3.cell (p := ⟨w1.heap.size, 1, none⟩) q5 hXB).trans cX1
    have fB1 : w3.frozen? ⟨w1.heap.size, 1, none⟩ = false := (T3.frozen (p := ⟨w1.heap.size, 1, none⟩) q5 hXB).trans fX1
    have cB2 : w3.cell? ⟨w1.heap.size, 2, none⟩ = some (Value.int IntKind.i64 a) := (T3.cell (p := ⟨w1.heap.size, 2, none⟩) q5 hXB).trans cX2
    have fB2 : w3.frozen? ⟨w1.heap.size, 2, none⟩ = false := (T3.frozen (p := ⟨w1.heap.size, 2, none⟩) q5 hXB).trans fX2
    have cB3 : w3.cell? ⟨w1.heap.size, 3, none⟩ = some (Value.int IntKind.i64 b) := (T3.cell (p := ⟨w1.heap.size, 3, none⟩) q5 hXB).trans cX3
    have fB3 : w3.frozen? ⟨w1.heap.size, 3, none⟩ = false := (T3.frozen (p := ⟨w1.heap.size, 3, none⟩) q5 hXB).trans fX3
    have cB4 : w3.cell? ⟨w1.heap.size, 4, none⟩ = some (Value.int IntKind.i64 k) := (T3.cell (p := ⟨w1.heap.size, 4, none⟩) q5 hXB).trans cX4
    have fB4 : w3.frozen? ⟨w1.heap.size, 4, none⟩ = false := (T3.frozen (p := ⟨w1.heap.size, 4, none⟩) q5 hXB).trans fX4
    have cB5 : w3.cell? ⟨w1.heap.size, 5, none⟩ = some (Value.int IntKind.i64 c) := (T3.cell (p := ⟨w1.heap.size, 5, none⟩) q5 hXB).trans cX5
    have fB5 : w3.frozen? ⟨w1.heap.size, 5, none⟩ = false := (T3.frozen (p := ⟨w1.heap.size, 5, none⟩) q5 hXB).trans fX5
    have cB6 : w3.cell? ⟨w1.heap.size, 6, none⟩ = some (Value.int IntKind.i64 d) := (T3.cell (p := ⟨w1.heap.size, 6, none⟩) q5 hXB).trans cX6
    have fB6 : w3.frozen? ⟨w1.heap.size, 6, none⟩ = false := (T3.frozen (p := ⟨w1.heap.size, 6, none⟩) q5 hXB).trans fX6
    have cB7 : w3.cell? ⟨w1.heap.size, 7, none⟩ = some (Value.int IntKind.i64 l) := (T3.cell (p := ⟨w1.heap.size, 7, none⟩) q5 hXB).trans cX7
    have fB7 : w3.frozen? ⟨w1.heap.size, 7, none⟩ = false := (T3.frozen (p := ⟨w1.heap.size, 7, none⟩) q5 hXB).trans fX7
    have q6 : w.heap.size < w3.heap.size := by omega
    have q7 : w1.heap.size < w3.heap.size := by omega
    have HSZ := Lib.hid (hS3.mono (show m + 22 + 1 ≤ m + 33 by omega))
    have HTZ := Lib.hid (HT.out.trans T3)
    clear T3 hT3 hS3 z3
    go_wp2_with fail
    refine bodyPost_ret (v := .agg #[.int .i64 x, .bool f, .int .i64 a, .int .i64 b, .int .i64 k, .int .i64 c, .int .i64 d, .int .i64 l]) (by simp [results, Tryd.results48, go_sem, *]) rfl ⟨_, rfl, ⟨x, f, _, _, _, _, _, _, rfl, by omega, HV1.out, HV2.out⟩, ?_, ?_⟩
    · have hS := HSZ.out
      (repeat (first | with_reducible assumption | with_reducible refine SrcAt.drew ?_ | with_reducible refine SrcAt.alloc ?_ _ | with_reducible refine SrcAt.setFar ?_ (by first | omega | (simp; done) | (simp; omega)) _ _ _))
    · have hT := HTZ.out
      (repeat (first | with_reducible assumption | with_reducible refine Touch.drew ?_ | with_reducible refine Touch.alloc ?_ _ | with_reducible refine Touch.setNew ?_ (by first | omega | (simp; done) | (simp; omega)) _ _ _))
  · subst hr
    clear r0 r1
    go_wp2_with fail
    refine (bent_any B v (m + 22) _ HS2.out HC2.out (by omega)).mono ?_
    rintro e w3 ⟨_, rfl, ⟨x, y, z, rfl, hsm⟩, hS3, hT3⟩
    have HM3 := Lib.hid hsm
    have z3 := hT3.size
    have cA0 : w3.cell? ⟨w.heap.size, 0, none⟩ = some (Value.int IntKind.i64 0) := (hT3.cell (p := ⟨w.heap.size, 0, none⟩) q4 hRB).trans cR0
    have fA0 : w3.frozen? ⟨w.heap.size, 0, none⟩ = false := (hT3.frozen (p := ⟨w.heap.size, 0, none⟩) q4 hRB).trans fR0
    have cA1 : w3.cell? ⟨w.heap.size, 1, none⟩ = some (Value.bool false) := (hT3.cell (p := ⟨w.heap.size, 1, none⟩) q4 hRB).trans cR1
    have fA1 : w3.frozen? ⟨w.heap.size, 1, none⟩ = false := (hT3.frozen (p := ⟨w.heap.size, 1, none⟩) q4 hRB).trans fR1
    have cA2 : w3.cell? ⟨w.heap.size, 2, none⟩ = some (Value.int IntKind.i64 0) := (hT3.cell (p := ⟨w.heap.size, 2, none⟩) q4 hRB).trans cR2
    have fA2 : w3.frozen? ⟨w.heap.size, 2, none⟩ = false := (hT3.frozen (p := ⟨w.heap.size, 2, none⟩) q4 hRB).trans fR2
    have cA3 : w3.cell? ⟨w.heap.size, 3, none⟩ = some (Value.int IntKind.i64 0) := (hT3.cell (p := ⟨w.heap.size, 3, none⟩) q4 hRB).trans cR3
    have fA3 : w3.frozen? ⟨w.heap.size, 3, none⟩ = false := (hT3.frozen (p := ⟨w.heap.size, 3, none⟩) q4 hRB).trans fR3
    have cA4 : w3.cell? ⟨w.heap.size, 4, none⟩ = some (Value.int IntKind.i64 0) := (hT3.cell (p := ⟨w.heap.size, 4, none⟩) q4 hRB).trans cR4
    have fA4 : w3.frozen? ⟨w.heap.size, 4, none⟩ = false := (hT3.frozen (p := ⟨w.heap.size, 4, none⟩) q4 hRB).trans fR4
    have cA5 : w3.cell? ⟨w.heap.size, 5, none⟩ = some (Value.int IntKind.i64 0) := (hT3.cell (p := ⟨w.heap.size, 5, none⟩) q4 hRB).trans cR5
    have fA5 : w3.frozen? ⟨w.heap.size, 5, none⟩ = false := (hT3.frozen (p := ⟨w.heap.size, 5, none⟩) q4 hRB).trans fR5
    have cA6 : w3.cell? ⟨w.heap.size, 6, none⟩ = some (Value.int IntKind.i64 0) := (hT3.cell (p := ⟨w.heap.size, 6, none⟩) q4 hRB).trans cR6
    have fA6 : w3.frozen? ⟨w.heap.size, 6, none⟩ = false := (hT3.frozen (p := ⟨w.heap.size, 6, none⟩) q4 hRB).trans fR6
    have cA7 : w3.cell? ⟨w.heap.size, 7, none⟩ = some (Value.int IntKind.i64 0) := (hT3.cell (p := ⟨w.heap.size, 7, none⟩) q4 hRB).trans cR7
    have fA7 : w3.frozen? ⟨w.heap.size, 7, none⟩ = false := (hT3.frozen (p := ⟨w.heap.size, 7, none⟩) q4 hRB).trans fR7
    have cB0 : w3.cell? ⟨w1.heap.size, 0, none⟩ = some (Value.int IntKind.i64 t) := (hT3.cell (p := ⟨w1.heap.size, 0, none⟩) q5 hXB).trans cX0
    have fB0 : w3.frozen? ⟨w1.heap.size, 0, none⟩ = false := (hT3.frozen (p := ⟨w1.heap.size, 0, none⟩) q5 hXB).trans fX0
    have cB1 : w3.cell? ⟨w1.heap.size, 1, none⟩ = some (Value.bool f) := (hT3.cell (p := ⟨w1.heap.size, 1, none⟩) q5 hXB).trans cX1
    have fB1 : w3.frozen? ⟨w1.heap.size, 1, none⟩ = false := (hT3.frozen (p := ⟨w1.heap.size, 1, none⟩) q5 hXB).trans fX1
    have cB2 : w3.cell? ⟨w1.heap.size, 2, none⟩ = some (Value.int IntKind.i64 a) := (hT3.cell (p := ⟨w1.heap.size, 2, none⟩) q5 hXB).trans cX2
    have fB2 : w3.frozen? ⟨w1.heap.size, 2, none⟩ = false := (hT3.frozen (p := ⟨w1.heap.size, 2, none⟩) q5 hXB).trans fX2
    have cB3 : w3.cell? ⟨w1.heap.size, 3, none⟩ = some (Value.int IntKind.i64 b) := (hT3.cell (p := ⟨w1.heap.size, 3, none⟩) q5 hXB).trans cX3
    have fB3 : w3.frozen? ⟨w1.heap.size, 3, none⟩ = false := (hT3.frozen (p := ⟨w1.heap.size, 3, none⟩) q5 hXB).trans fX3
    have cB4 : w3.cell? ⟨w1.heap.size, 4, none⟩ = some (Value.int IntKind.i64 k) := (hT3.cell (p := ⟨w1.heap.size, 4, none⟩) q5 hXB).trans cX4
    have fB4 : w3.frozen? ⟨w1.heap.size, 4, none⟩ = false := (hT3.frozen (p := ⟨w1.heap.size, 4, none⟩) q5 hXB).trans fX4
    have cB5 : w3.cell? ⟨w1.heap.size, 5, none⟩ = some (Value.int IntKind.i64 c) := (hT3.cell (p := ⟨w1.heap.size, 5, none⟩) q5 hXB).trans cX5
    have fB5 : w3.frozen? ⟨w1.heap.size, 5, none⟩ = false := (hT3.frozen (p := ⟨w1.heap.size, 5, none⟩) q5 hXB).trans fX5
    have cB6 : w3.cell? ⟨w1.heap.size, 6, none⟩ = some (Value.int IntKind.i64 d) := (hT3.cell (p := ⟨w1.heap.size, 6, none⟩) q5 hXB).trans cX6
    have fB6 : w3.frozen? ⟨w1.heap.size, 6, none⟩ = false := (hT3.frozen (p := ⟨w1.heap.size, 6, none⟩) q5 hXB).trans fX6
    have cB7 : w3.cell? ⟨w1.heap.size, 7, none⟩ = some (Value.int IntKind.i64 l) := (hT3.cell (p := ⟨w1.heap.size, 7, none⟩) q5 hXB).trans cX7
    have fB7 : w3.frozen? ⟨w1.heap.size, 7, none⟩ = false := (hT3.frozen (p := ⟨w1.heap.size, 7, none⟩) q5 hXB).trans fX7
    have q6 : w.heap.size < w3.heap.size := by omega
    have q7 : w1.heap.size < w3.heap.size := by omega
    have HSZ := Lib.hid hS3
    have HTZ := Lib.hid (HT.out.trans hT3)
    clear hT3 hS3 z3 hsm
    go_wp2_with fail
    refine bodyPost_ret (v := .agg #[.int .i64 t, .bool f, .int .i64 x, .int .i64 y, .int .i64 z, .int .i64 c, .int .i64 d, .int .i64 l]) (by simp [results, Tryd.results48, go_sem, *]) rfl ⟨_, rfl, ⟨t, f, _, _, _, _, _, _, rfl, HV0.out, HM3.out, HV2.out⟩, ?_, ?_⟩
    · have hS := HSZ.out
      (repeat (first | with_reducible assumption | with_reducible refine SrcAt.drew ?_ | with_reducible refine SrcAt.alloc ?_ _ | with_reducible refine SrcAt.setFar ?_ (by first | omega | (simp; done) | (simp; omega)) _ _ _))
    · have hT := HTZ.out
      (repeat (first | with_reducible assumption | with_reducible refine Touch.drew ?_ | with_reducible refine Touch.alloc ?_ _ | with_reducible refine Touch.setNew ?_ (by first | omega | (simp; done) | (simp; omega)) _ _ _))
  · subst hr
    clear r0 r1
    go_wp2_with fail
    refine (bent_any B v (m + 22) _ HS2.out HC2.out (by omega)).mono ?_
    rintro e w3 ⟨_, rfl, ⟨x, y, z, rfl, hsm⟩, hS3, hT3⟩
    have HM3 := Lib.hid hsm
    have z3 := hT3.size
    have cA0 : w3.cell? ⟨w.heap.size, 0, none⟩ = some (Value.int IntKind.i64 0) := (hT3.cell (p := ⟨w.heap.size, 0, none⟩) q4 hRB).trans cR0
    have fA0 : w3.frozen? ⟨w.heap.size, 0, none⟩ = false := (hT3.frozen (p := ⟨w.heap.size, 0, none⟩) q4 hRB).trans fR0
    have cA1 : w3.cell? ⟨w.heap.size, 1, none⟩ = some (Value.bool false) := (hT3.cell (p := ⟨w.heap.size, 1, none⟩) q4 hRB).trans cR1
    have fA1 : w3.frozen? ⟨w.heap.size, 1, none⟩ = false := (hT3.frozen (p := ⟨w.heap.size, 1, none⟩) q4 hRB).trans fR1
    have cA2 : w3.cell? ⟨w.heap.size, 2, none⟩ = some (Value.int IntKind.i64 0) := (hT3.cell (p := ⟨w.heap.size, 2, none⟩) q4 hRB).trans cR2
    have fA2 : w3.frozen? ⟨w.heap.size, 2, none⟩ = false := (hT3.frozen (p := ⟨w.heap.size, 2, none⟩) q4 hRB).trans fR2
    have cA3 : w3.cell? ⟨w.heap.size, 3, none⟩ = some (Value.int IntKind.i64 0) := (hT3.cell (p := ⟨w.heap.size, 3, none⟩) q4 hRB).trans cR3
    have fA3 : w3.frozen? ⟨w.heap.size, 3, none⟩ = false := (hT3.frozen (p := ⟨w.heap.size, 3, none⟩) q4 hRB).trans fR3
    have cA4 : w3.cell? ⟨w.heap.size, 4, none⟩ = some (Value.int IntKind.i64 0) := (hT3.cell (p := ⟨w.heap.size, 4, none⟩) q4 hRB).trans cR4
    have fA4 : w3.frozen? ⟨w.heap.size, 4, none⟩ = false := (hT3.frozen (p := ⟨w.heap.size, 4, none⟩) q4 hRB).trans fR4
    have cA5 : w3.cell? ⟨w.heap.size, 5, none⟩ = some (Value.int IntKind.i64 0) := (hT3.cell (p := ⟨w.heap.size, 5, none⟩) q4 hRB).trans cR5
    have fA5 : w3.frozen? ⟨w.heap.size, 5, none⟩ = false := (hT3.frozen (p := ⟨w.heap.size, 5, none⟩) q4 hRB).trans fR5
    have cA6 : w3.cell? ⟨w.heap.size, 6, none⟩ = some (Value.int IntKind.i64 0) := (hT3.cell (p := ⟨w.heap.size, 6, none⟩) q4 hRB).trans cR6
    have fA6 : w3.frozen? ⟨w.heap.size, 6, none⟩ = false := (hT3.frozen (p := ⟨w.heap.size, 6, none⟩) q4 hRB).trans fR6
    have cA7 : w3.cell? ⟨w.heap.size, 7, none⟩ = some (Value.int IntKind.i64 0) := (hT3.cell (p := ⟨w.heap.size, 7, none⟩) q4 hRB).trans cR7
    have fA7 : w3.frozen? ⟨w.heap.size, 7, none⟩ = false := (hT3.frozen (p := ⟨w.heap.size, 7, none⟩) q4 hRB).trans fR7
    have cB0 : w3.cell? ⟨w1.heap.size, 0, none⟩ = some (Value.int IntKind.i64 t) := (hT3.cell (p := ⟨w1.heap.size, 0, none⟩) q5 hXB).trans cX0
    have fB0 : w3.frozen? ⟨w1.heap.size, 0, none⟩ = false := (hT3.frozen (p := ⟨w1.heap.size, 0, none⟩) q5 hXB).trans fX0
    have cB1 : w3.cell? ⟨w1.heap.size, 1, none⟩ = some (Value.bool f) := (hT3.cell (p := ⟨w1.heap.size, 1, none⟩) q5 hXB).trans cX1
    have fB1 : w3.frozen? ⟨w1.heap.size, 1, none⟩ = false := (hT3.frozen (p := ⟨w1.heap.size, 1, none⟩) q5 hXB).trans fX1
    have cB2 : w3.cell? ⟨w1.heap.size, 2, none⟩ = some (Value.int IntKind.i64 a) := (hT3.cell (p := ⟨w1.heap.size, 2, none⟩) q5 hXB).trans cX2
    have fB2 : w3.frozen? ⟨w1.heap.size, 2, none⟩ = false := (hT3.frozen (p := ⟨w1.heap.size, 2, none⟩) q5 hXB).trans fX2
    have cB3 : w3.cell? ⟨w1.heap.size, 3, none⟩ = some (Value.int IntKind.i64 b) := (hT3.cell (p := ⟨w1.heap.size, 3, none⟩) q5 hXB).trans cX3
    have fB3 : w3.frozen? ⟨w1.heap.size, 3, none⟩ = false := (hT3.frozen (p := ⟨w1.heap.size, 3, none⟩) q5 hXB).trans fX3
    have cB4 : w3.cell? ⟨w1.heap.size, 4, none⟩ = some (Value.int IntKind.i64 k) := (hT3.cell (p := ⟨w1.heap.size, 4, none⟩) q5 hXB).trans cX4
    have fB4 : w3.frozen? ⟨w1.heap.size, 4, none⟩ = false := (hT3.frozen (p := ⟨w1.heap.size, 4, none⟩) q5 hXB).trans fX4
    have cB5 : w3.cell? ⟨w1.heap.size, 5, none⟩ = some (Value.int IntKind.i64 c) := (hT3.cell (p := ⟨w1.heap.size, 5, none⟩) q5 hXB).trans cX5
    have fB5 : w3.frozen? ⟨w1.heap.size, 5, none⟩ = false := (hT3.frozen (p := ⟨w1.heap.size, 5, none⟩) q5 hXB).trans fX5
    have cB6 : w3.cell? ⟨w1.heap.size, 6, none⟩ = some (Value.int IntKind.i64 d) := (hT3.cell (p := ⟨w1.heap.size, 6, none⟩) q5 hXB).trans cX6
    have fB6 : w3.frozen? ⟨w1.heap.size, 6, none⟩ = false := (hT3.frozen (p := ⟨w1.heap.size, 6, none⟩) q5 hXB).trans fX6
    have cB7 : w3.cell? ⟨w1.heap.size, 7, none⟩ = some (Value.int IntKind.i64 l) := (hT3.cell (p := ⟨w1.heap.size, 7, none⟩) q5 hXB).trans cX7
    have fB7 : w3.frozen? ⟨w1.heap.size, 7, none⟩ = false := (hT3.frozen (p := ⟨w1.heap.size, 7, none⟩) q5 hXB).trans fX7
    have q6 : w.heap.size < w3.heap.size := by omega
    have q7 : w1.heap.size < w3.heap.size := by omega
    have HSZ := Lib.hid hS3
    have HTZ := Lib.hid (HT.out.trans hT3)
    clear hT3 hS3 z3 hsm
    go_wp2_with fail
    refine bodyPost_ret (v := .agg #[.int .i64 t, .bool f, .int .i64 a, .int .i64 b, .int .i64 k, .int .i64 x, .int .i64 y, .int .i64 z]) (by simp [results, Tryd.results48, go_sem, *]) rfl ⟨_, rfl, ⟨t, f, _, _, _, _, _, _, rfl, HV0.out, HV1.out, HM3.out⟩, ?_, ?_⟩
    · have hS := HSZ.out
      (repeat (first | with_reducible assumption | with_reducible refine SrcAt.drew ?_ | with_reducible refine SrcAt.alloc ?_ _ | with_reducible refine SrcAt.setFar ?_ (by first | omega | (simp; done) | (simp; omega)) _ _ _))
    · have hT := HTZ.out
      (repeat (first | with_reducible assumption | with_reducible refine Touch.drew ?_ | with_reducible refine Touch.alloc ?_ _ | with_reducible refine Touch.setNew ?_ (by first | omega | (simp; done) | (simp; omega)) _ _ _))
  · have HSZ := Lib.hid (HS2.out.mono (show m + 22 ≤ m + 33 by omega))
    have HTZ := HT
    clear r0 r1
    go_wp2_with fail
    refine bodyPost_ret (v := .agg #[.int .i64 t, .bool f, .int .i64 a, .int .i64 b, .int .i64 k, .int .i64 c, .int .i64 d, .int .i64 l]) (by simp [results, Tryd.results48, go_sem, *]) rfl ⟨_, rfl, ⟨t, f, _, _, _, _, _, _, rfl, HV0.out, HV1.out, HV2.out⟩, ?_, ?_⟩
    · have hS := HSZ.out
      (repeat (first | with_reducible assumption | with_reducible refine SrcAt.drew ?_ | with_reducible refine SrcAt.alloc ?_ _ | with_reducible refine SrcAt.setFar ?_ (by first | omega | (simp; done) | (simp; omega)) _ _ _))
    · have hT := HTZ.out
      (repeat (first | with_reducible assumption | with_reducible refine Touch.drew ?_ | with_reducible refine Touch.alloc ?_ _ | with_reducible refine Touch.setNew ?_ (by first | omega | (simp; done) | (simp; omega)) _ _ _))
end Go.Proofs.YtafbdnjabgfjeaaDoor
end
section
namespace Go.Proofs.YtafbdnjabgfjeaaDoor
open Go Go.RowKit OriM

/-- Two values have been drawn. -/
def Drawn2 (P Q : Value → Prop) (w : World) (e : Ending) (w' : World) : Prop := ∃ x y : Value, e = .returned (.tuple #[x, y]) ∧ P x ∧ Q y ∧ Below w.heap.size w w'

set_option maxHeartbeats 4000000 in
set_option maxRecDepth 100000 in
theorem dMovePoint_any (v : Value) (w : World) (hC : CodeIn w v) : Calls Tryd.prog 12 #[v] w (Drawn2 IsM IsP w) := by
  obtain ⟨sa, sn, sc, rfl⟩ := hC.slice
  have HC := Lib.hid hC
  clear hC
  go_enter Tryd.func12, Tryd.ntmps12
  go_wp2_with fail
  refine (from_any sa sn sc _).mono ?_
  rintro e w0 ⟨rfl, hw0⟩
  have HB0 := Lib.hid (show Below w.heap.size w w0 by rw [← hw0]; (repeat (first | with_reducible exact Below.refl _ _ | with_reducible refine Below.drew ?_ | with_reducible refine Below.alloc ?_ (by first | omega | (simp; done) | (simp; omega)) _ | with_reducible refine Below.setCell ?_ (by first | omega | (simp; done) | (simp; omega)) _ | with_reducible refine Below.trans ?_ (Below.mono (by assumption) (by first | omega | (simp; done) | (simp; omega))))))
  have hs0 : w0.heap.size = w.heap.size + 1 + 1 + 1 := by rw [← hw0]; simp
  have HS0 := Lib.hid (show SrcAt w0 (w.heap.size + 1 + 1) (.slice sa sn sc) 0 by rw [← hw0]; exact ⟨by simp [go_sem], ⟨0, 0, by simp [go_sem], by simp [go_sem], by omega, by omega, by omega, by omega⟩, by simp [go_sem], by simp [go_sem]⟩)
  have HC0 := Lib.hid (HC.out.at (B := w.heap.size + 1 + 1) (by omega) HB0.out)
  have HW0 := Lib.hid hw0
  have HS := Lib.hid hs0
  clear hw0 hs0
  have es : ((w.alloc (Obj.cells #[Value.int IntKind.i64 0, Value.bool false, Value.int IntKind.i64 0, Value.int IntKind.i64 0, Value.int IntKind.i64 0, Value.int IntKind.i64 0, Value.int IntKind.i64 0, Value.int IntKind.i64 0] 27)).alloc (Obj.cells #[Value.int IntKind.i64 0, Value.int IntKind.i64 0, Value.int IntKind.i64 0, Value.int IntKind.i64 0, Value.int IntKind.i64 0, Value.int IntKind.i64 0] 33)).heap.size = w.heap.size + 1 + 1 := by simp
  go_wp2_with fail
  refine (bentM_any (w.heap.size + 1 + 1) _ 0 _ HS0.out HC0.out (by omega)).mono ?_
  rintro e w1 ⟨_, rfl, ⟨t, f, a, b, k, c, d, l, rfl, v0, v1, v2⟩, hS1, hT1⟩
  have HT1 := Lib.hid hT1
  have HS1 := Lib.hid hS1
  have HV1 := Lib.hid (And.intro v0 (And.intro v1 v2))
  have HC1 := Lib.hid (HC0.out.touch (hT1.alloc (Obj.cells #[Value.int IntKind.i64 t, Value.bool f, Value.int IntKind.i64 a, Value.int IntKind.i64 b, Value.int IntKind.i64 k, Value.int IntKind.i64 c, Value.int IntKind.i64 d, Value.int IntKind.i64 l] 27)))
  clear v0 v1 v2 hS1 hT1
  go_wp2_with fail
  refine (bentP_any (w.heap.size + 1 + 1) _ 33 _ (HS1.out.alloc _) HC1.out (by omega)).mono ?_
  rintro e w2 ⟨_, rfl, ⟨a', b', k', c', d', l', rfl, u1, u2⟩, hS2, hT2⟩
  have HT2 := Lib.hid hT2
  have HV2 := Lib.hid (And.intro u1 u2)
  clear hS2 hT2
  go_wp2_with fail
  obtain ⟨W, hW⟩ : ∃ W, W = w2.alloc (Obj.cells #[Value.int IntKind.i64 a', Value.int IntKind.i64 b', Value.int IntKind.i64 k', Value.int IntKind.i64 c', Value.int IntKind.i64 d', Value.int IntKind.i64 l'] 33) := ⟨_, rfl⟩
  have z1 := HT1.out.size
  have z2 := HT2.out.size
  have hs := HS.out
  simp only [World.size_alloc] at z2
  have old : ∀ i, i < ((w.alloc (Obj.cells #[Value.int IntKind.i64 0, Value.bool false, Value.int IntKind.i64 0, Value.int IntKind.i64 0, Value.int IntKind.i64 0, Value.int IntKind.i64 0, Value.int IntKind.i64 0, Value.int IntKind.i64 0] 27)).alloc (Obj.cells #[Value.int IntKind.i64 0, Value.int IntKind.i64 0, Value.int IntKind.i64 0, Value.int IntKind.i64 0, Value.int IntKind.i64 0, Value.int IntKind.i64 0] 33)).heap.size → i ≠ w.heap.size + 1 + 1 → W.heap[i]? = (((w.alloc (Obj.cells #[Value.int IntKind.i64 0, Value.bool false, Value.int IntKind.i64 0, Value.int IntKind.i64 0, Value.int IntKind.i64 0, Value.int IntKind.i64 0, Value.int IntKind.i64 0, Value.int IntKind.i64 0] 27)).alloc (Obj.cells #[Value.int IntKind.i64 0, Value.int IntKind.i64 0, Value.int IntKind.i64 0, Value.int IntKind.i64 0, Value.int IntKind.i64 0, Value.int IntKind.i64 0] 33)).alloc (Obj.cells #[Value.slice sa sn sc, Value.int IntKind.i64 0, Value.int IntKind.u64 0] 141)).heap[i]? := by
    intro i hi hB
    rw [es] at hi
    rw [hW, Below.heap_alloc w2 _ i (by omega), HT2.out.block i (by simp; omega) hB, Below.heap_alloc w1 _ i (by omega), HT1.out.block i (by omega) hB, ← HW0.out]
  have ne1 : w1.heap.size ≠ w.heap.size + 1 + 1 := by omega
  have e0 : W.heap[w1.heap.size]? = (w1.alloc (Obj.cells #[Value.int IntKind.i64 t, Value.bool f, Value.int IntKind.i64 a, Value.int IntKind.i64 b, Value.int IntKind.i64 k, Value.int IntKind.i64 c, Value.int IntKind.i64 d, Value.int IntKind.i64 l] 27)).heap[w1.heap.size]? := by
    rw [hW, Below.heap_alloc w2 _ _ (by omega), HT2.out.block _ (by simp) ne1]
  have e1 : W.heap[w2.heap.size]? = (w2.alloc (Obj.cells #[Value.int IntKind.i64 a', Value.int IntKind.i64 b', Value.int IntKind.i64 k', Value.int IntKind.i64 c', Value.int IntKind.i64 d', Value.int IntKind.i64 l'] 33)).heap[w2.heap.size]? := by rw [hW]
  have d0 := old w.heap.size (by rw [es]; omega) (by omega)
  have d1 := old (w.heap.size + 1) (by rw [es]; omega) (by omega)
  have cR0 : W.cell? ⟨w.heap.size, 0, none⟩ = some (Value.int IntKind.i64 0) := (World.cell?_of_block (a := ⟨w.heap.size, 0, none⟩) d0).trans (by simp [go_sem])
  have fR0 : W.frozen? ⟨w.heap.size, 0, none⟩ = false := (World.frozen?_of_block (a := ⟨w.heap.size, 0, none⟩) d0).trans (by simp [go_sem])
  have cR1 : W.cell? ⟨w.heap.size, 1, none⟩ = some (Value.bool false) := (World.cell?_of_block (a := ⟨w.heap.size, 1, none⟩) d0).trans (by simp [go_sem])
  have fR1 : W.frozen? ⟨w.heap.size, 1, none⟩ = false := (World.frozen?_of_block (a := ⟨w.heap.size, 1, none⟩) d0).trans (by simp [go_sem])
  have cR2 : W.cell? ⟨w.heap.size, 2, none⟩ = some (Value.int IntKind.i64 0) := (World.cell?_of_block (a := ⟨w.heap.size, 2, none⟩) d0).trans (by simp [go_sem])
  have fR2 : W.frozen? ⟨w.heap.size, 2, none⟩ = false := (World.frozen?_of_block (a := ⟨w.heap.size, 2, none⟩) d0).trans (by simp [go_sem])
  have cR3 : W.cell? ⟨w.heap.size, 3, none⟩ = some (Value.int IntKind.i64 0) := (World.cell?_of_block (a := ⟨w.heap.size, 3, none⟩) d0).trans (by simp [go_sem])
  have fR3 : W.frozen? ⟨w.heap.size, 3, none⟩ = false := (World.frozen?_of_block (a := ⟨w.heap.size, 3, none⟩) d0).trans (by simp [go_sem])
  have cR4 : W.cell? ⟨w.heap.size, 4, none⟩ = some (Value.int IntKind.i64 0) := (World.cell?_of_block (a := ⟨w.heap.size, 4, none⟩) d0).trans (by simp [go_sem])
  have fR4 : W.frozen? ⟨w.heap.size, 4, none⟩ = false := (World.frozen?_of_block (a := ⟨w.heap.size, 4, none⟩) d0).trans (by simp [go_sem])
  have cR5 : W.cell? ⟨w.heap.size, 5, none⟩ = some (Value.int IntKind.i64 0) := (World.cell?_of_block (a := ⟨w.heap.size, 5, none⟩) d0).trans (by simp [go_sem])
  have fR5 : W.frozen? ⟨w.heap.size, 5, none⟩ = false := (World.frozen?_of_block (a := ⟨w.heap.size, 5, none⟩) d0).trans (by simp [go_sem])
  have cR6 : W.cell? ⟨w.heap.size, 6, none⟩ = some (Value.int IntKind.i64 0) := (World.cell?_of_block (a := ⟨w.heap.size, 6, none⟩) d0).trans (by simp [go_sem])
  have fR6 : W.frozen? ⟨w.heap.size, 6, none⟩ = false := (World.frozen?_of_block (a := ⟨w.heap.size, 6, none⟩) d0).trans (by simp [go_sem])
  have cR7 : W.cell? ⟨w.heap.size, 7, none⟩ = some (Value.int IntKind.i64 0) := (World.cell?_of_block (a := ⟨w.heap.size, 7, none⟩) d0).trans (by simp [go_sem])
  have fR7 : W.frozen? ⟨w.heap.size, 7, none⟩ = false := (World.frozen?_of_block (a := ⟨w.heap.size, 7, none⟩) d0).trans (by simp [go_sem])
  have cS0 : W.cell? ⟨w.heap.size + 1, 0, none⟩ = some (Value.int IntKind.i64 0) := (World.cell?_of_block (a := ⟨w.heap.size + 1, 0, none⟩) d1).trans (by simp [go_sem])
  have fS0 : W.frozen? ⟨w.heap.size + 1, 0, none⟩ = false := (World.frozen?_of_block (a := ⟨w.heap.size + 1, 0, none⟩) d1).trans (by simp [go_sem])
  have cS1 : W.cell? ⟨w.heap.size + 1, 1, none⟩ = some (Value.int IntKind.i64 0) := (World.cell?_of_block (a := ⟨w.heap.size + 1, 1, none⟩) d1).trans (by simp [go_sem])
  have fS1 : W.frozen? ⟨w.heap.size + 1, 1, none⟩ = false := (World.frozen?_of_block (a := ⟨w.heap.size + 1, 1, none⟩) d1).trans (by simp [go_sem])
  have cS2 : W.cell? ⟨w.heap.size + 1, 2, none⟩ = some (Value.int IntKind.i64 0) := (World.cell?_of_block (a := ⟨w.heap.size + 1, 2, none⟩) d1).trans (by simp [go_sem])
  have fS2 : W.frozen? ⟨w.heap.size + 1, 2, none⟩ = false := (World.frozen?_of_block (a := ⟨w.heap.size + 1, 2, none⟩) d1).trans (by simp [go_sem])
  have cS3 : W.cell? ⟨w.heap.size + 1, 3, none⟩ = some (Value.int IntKind.i64 0) := (World.cell?_of_block (a := ⟨w.heap.size + 1, 3, none⟩) d1).trans (by simp [go_sem])
  have fS3 : W.frozen? ⟨w.heap.size + 1, 3, none⟩ = false := (World.frozen?_of_block (a := ⟨w.heap.size + 1, 3, none⟩) d1).trans (by simp [go_sem])
  have cS4 : W.cell? ⟨w.heap.size + 1, 4, none⟩ = some (Value.int IntKind.i64 0) := (World.cell?_of_block (a := ⟨w.heap.size + 1, 4, none⟩) d1).trans (by simp [go_sem])
  have fS4 : W.frozen? ⟨w.heap.size + 1, 4, none⟩ = false := (World.frozen?_of_block (a := ⟨w.heap.size + 1, 4, none⟩) d1).trans (by simp [go_sem])
  have cS5 : W.cell? ⟨w.heap.size + 1, 5, none⟩ = some (Value.int IntKind.i64 0) := (World.cell?_of_block (a := ⟨w.heap.size + 1, 5, none⟩) d1).trans (by simp [go_sem])
  have fS5 : W.frozen? ⟨w.heap.size + 1, 5, none⟩ = false := (World.frozen?_of_block (a := ⟨w.heap.size + 1, 5, none⟩) d1).trans (by simp [go_sem])
  have cX0 : W.cell? ⟨w1.heap.size, 0, none⟩ = some (Value.int IntKind.i64 t) := (World.cell?_of_block (a := ⟨w1.heap.size, 0, none⟩) e0).trans (by simp [go_sem])
  have fX0 : W.frozen? ⟨w1.heap.size, 0, none⟩ = false := (World.frozen?_of_block (a := ⟨w1.heap.size, 0, none⟩) e0).trans (by simp [go_sem])
  have cX1 : W.cell? ⟨w1.heap.size, 1, none⟩ = some (Value.bool f) := (World.cell?_of_block (a := ⟨w1.heap.size, 1, none⟩) e0).trans (by simp [go_sem])
  have fX1 : W.frozen? ⟨w1.heap.size, 1, none⟩ = false := (World.frozen?_of_block (a := ⟨w1.heap.size, 1, none⟩) e0).trans (by simp [go_sem])
  have cX2 : W.cell? ⟨w1.heap.size, 2, none⟩ = some (Value.int IntKind.i64 a) := (World.cell?_of_block (a := ⟨w1.heap.size, 2, none⟩) e0).trans (by simp [go_sem])
  have fX2 : W.frozen? ⟨w1.heap.size, 2, none⟩ = false := (World.frozen?_of_block (a := ⟨w1.heap.size, 2, none⟩) e0).trans (by simp [go_sem])
  have cX3 : W.cell? ⟨w1.heap.size, 3, none⟩ = some (Value.int IntKind.i64 b) := (World.cell?_of_block (a := ⟨w1.heap.size, 3, none⟩) e0).trans (by simp [go_sem])
  have fX3 : W.frozen? ⟨w1.heap.size, 3, none⟩ = false := (World.frozen?_of_block (a := ⟨w1.heap.size, 3, none⟩) e0).trans (by simp [go_sem])
  have cX4 : W.cell? ⟨w1.heap.size, 4, none⟩ = some (Value.int IntKind.i64 k) := (World.cell?_of_block (a := ⟨w1.heap.size, 4, none⟩) e0).trans (by simp [go_sem])
  have fX4 : W.frozen? ⟨w1.heap.size, 4, none⟩ = false := (World.frozen?_of_block (a := ⟨w1.heap.size, 4, none⟩) e0).trans (by simp [go_sem])
  have cX5 : W.cell? ⟨w1.heap.size, 5, none⟩ = some (Value.int IntKind.i64 c) := (World.cell?_of_block (a := ⟨w1.heap.size, 5, none⟩) e0).trans (by simp [go_sem])
  have fX5 : W.frozen? ⟨w1.heap.size, 5, none⟩ = false := (World.frozen?_of_block (a := ⟨w1.heap.size, 5, none⟩) e0).trans (by simp [go_sem])
  have cX6 : W.cell? ⟨w1.heap.size, 6, none⟩ = some (Value.int IntKind.i64 d) := (World.cell?_of_block (a := ⟨w1.heap.size, 6, none⟩) e0).trans (by simp [go_sem])
  have fX6 : W.frozen? ⟨w1.heap.size, 6, none⟩ = false := (World.frozen?_of_block (a := ⟨w1.heap.size, 6, none⟩) e0).trans (by simp [go_sem])
  have cX7 : W.cell? ⟨w1.heap.size, 7, none⟩ = some (Value.int IntKind.i64 l) := (World.cell?_of_block (a := ⟨w1.heap.size, 7, none⟩) e0).trans (by simp [go_sem])
  have fX7 : W.frozen? ⟨w1.heap.size, 7, none⟩ = false := (World.frozen?_of_block (a := ⟨w1.heap.size, 7, none⟩) e0).trans (by simp [go_sem])
  have cY0 : W.cell? ⟨w2.heap.size, 0, none⟩ = some (Value.int IntKind.i64 a') := (World.cell?_of_block (a := ⟨w2.heap.size, 0, none⟩) e1).trans (by simp [go_sem])
  have fY0 : W.frozen? ⟨w2.heap.size, 0, none⟩ = false := (World.frozen?_of_block (a := ⟨w2.heap.size, 0, none⟩) e1).trans (by simp [go_sem])
  have cY1 : W.cell? ⟨w2.heap.size, 1, none⟩ = some (Value.int IntKind.i64 b') := (World.cell?_of_block (a := ⟨w2.heap.size, 1, none⟩) e1).trans (by simp [go_sem])
  have fY1 : W.frozen? ⟨w2.heap.size, 1, none⟩ = false := (World.frozen?_of_block (a := ⟨w2.heap.size, 1, none⟩) e1).trans (by simp [go_sem])
  have cY2 : W.cell? ⟨w2.heap.size, 2, none⟩ = some (Value.int IntKind.i64 k') := (World.cell?_of_block (a := ⟨w2.heap.size, 2, none⟩) e1).trans (by simp [go_sem])
  have fY2 : W.frozen? ⟨w2.heap.size, 2, none⟩ = false := (World.frozen?_of_block (a := ⟨w2.heap.size, 2, none⟩) e1).trans (by simp [go_sem])
  have cY3 : W.cell? ⟨w2.heap.size, 3, none⟩ = some (Value.int IntKind.i64 c') := (World.cell?_of_block (a := ⟨w2.heap.size, 3, none⟩) e1).trans (by simp [go_sem])
  have fY3 : W.frozen? ⟨w2.heap.size, 3, none⟩ = false := (World.frozen?_of_block (a := ⟨w2.heap.size, 3, none⟩) e1).trans (by simp [go_sem])
  have cY4 : W.cell? ⟨w2.heap.size, 4, none⟩ = some (Value.int IntKind.i64 d') := (World.cell?_of_block (a := ⟨w2.heap.size, 4, none⟩) e1).trans (by simp [go_sem])
  have fY4 : W.frozen? ⟨w2.heap.size, 4, none⟩ = false := (World.frozen?_of_block (a := ⟨w2.heap.size, 4, none⟩) e1).trans (by simp [go_sem])
  have cY5 : W.cell? ⟨w2.heap.size, 5, none⟩ = some (Value.int IntKind.i64 l') := (World.cell?_of_block (a := ⟨w2.heap.size, 5, none⟩) e1).trans (by simp [go_sem])
  have fY5 : W.frozen? ⟨w2.heap.size, 5, none⟩ = false := (World.frozen?_of_block (a := ⟨w2.heap.size, 5, none⟩) e1).trans (by simp [go_sem])
  have HBW : Hid (Below w.heap.size w W) := Lib.hid (by
    rw [hW]
    exact ((HB0.out.trans (HT1.out.below (by omega) (by omega))).alloc (by omega) _).trans (HT2.out.below (by omega) (by simp; omega)) |>.alloc (by omega) _)
  have dd0 : w.heap.size + 1 < W.heap.size := by rw [hW]; simp; omega
  have p10 : w1.heap.size ≠ w.heap.size := by omega
  have q10 : w.heap.size ≠ w1.heap.size := by omega
  have p11 : w1.heap.size ≠ w.heap.size + 1 := by omega
  have q11 : w.heap.size + 1 ≠ w1.heap.size := by omega
  have p20 : w2.heap.size ≠ w.heap.size := by omega
  have q20 : w.heap.size ≠ w2.heap.size := by omega
  have p21 : w2.heap.size ≠ w.heap.size + 1 := by omega
  have q21 : w.heap.size + 1 ≠ w2.heap.size := by omega
  rw [← hW]
  clear old e0 e1 d0 d1 hW es z1 z2 hs ne1
  go_region
  go_wp2
  exact bodyPost_ret (v := .tuple #[.agg #[.int .i64 t, .bool f, .int .i64 a, .int .i64 b, .int .i64 k, .int .i64 c, .int .i64 d, .int .i64 l], .agg #[.int .i64 a', .int .i64 b', .int .i64 k', .int .i64 c', .int .i64 d', .int .i64 l']]) (by simp [results, Tryd.results12, go_sem, *]) rfl ⟨_, _, rfl, ⟨t, f, a, b, k, c, d, l, rfl, HV1.out⟩, ⟨a', b', k', c', d', l', rfl, HV2.out⟩, (by
    have hb := HBW.out
    repeat (first | with_reducible exact hb | with_reducible refine Below.drew ?_ | refine Below.setCell ?_ (Nat.le_refl w.heap.size) _ | refine Below.setCell ?_ (Nat.le_add_right w.heap.size 1) _))⟩
end Go.Proofs.YtafbdnjabgfjeaaDoor
end
section
namespace Go.Proofs.YtafbdnjabgfjeaaDoor
open Go Go.RowKit OriM

def IsL (u : Value) : Prop := ∃ t a b k : Int, u = .agg #[.int .i64 t, .int .i64 a, .int .i64 b, .int .i64 k] ∧ (-1 ≤ t ∧ t ≤ 15) ∧ Sm a b k

set_option maxHeartbeats 4000000 in
set_option maxRecDepth 100000 in
theorem bentL_any (B : Nat) (v : Value) (m : Nat) (w : World) (hS : SrcAt w B v m) (hC : CodeAt w B v) (hm : m ≤ 1073741600) :
    Calls Tryd.prog 49 #[.pointer (some ⟨B, 0, none⟩)] w (DrawnV IsL B v (m + 22) w) := by
  have hB := hS.lt
  have HS := Lib.hid hS
  have HC := Lib.hid (hC.touch ((Touch.refl B w).alloc (Obj.cells #[Value.int IntKind.i64 0, Value.int IntKind.i64 0, Value.int IntKind.i64 0, Value.int IntKind.i64 0] 29)))
  clear hS hC
  go_enter Tryd.func49, Tryd.ntmps49
  go_wp2_with fail
  refine (draw_ln B v m _ (HS.out.alloc _) HC.out (by omega)).mono ?_
  rintro e w1 ⟨_, rfl, ⟨t, a, b, k, rfl, t0, t1, v1⟩, hS1, hT1⟩
  have HT1 := Lib.hid hT1
  have HS1 := Lib.hid hS1
  have HV0 := Lib.hid (show -1 ≤ t ∧ t ≤ 15 by omega)
  have HV1 := Lib.hid (sm_valid v1)
  have HC1 := Lib.hid (HC.out.touch (hT1.alloc (Obj.cells #[Value.int IntKind.i64 t, Value.int IntKind.i64 a, Value.int IntKind.i64 b, Value.int IntKind.i64 k] 29)))
  have z1 := hT1.size
  simp only [World.size_alloc] at z1
  clear t0 t1 v1 hS1 hT1
  go_wp2_with fail
  refine (pick_small B v (m + 10) 16 _ (HS1.out.alloc _) HC1.out (by omega) (by omega) (by omega)).mono ?_
  rintro e w2 ⟨r, rfl, r0, r1, hS2, hT2⟩
  have HT2 := Lib.hid hT2
  have HS2 := Lib.hid hS2
  have HC2 := Lib.hid (HC1.out.touch hT2)
  have z2 := hT2.size
  simp only [World.size_alloc] at z2
  clear hS2 hT2
  have hRB : w.heap.size ≠ B := by omega
  have hXB : w1.heap.size ≠ B := by omega
  have eR : w2.heap[w.heap.size]? = (w.alloc (Obj.cells #[Value.int IntKind.i64 0, Value.int IntKind.i64 0, Value.int IntKind.i64 0, Value.int IntKind.i64 0] 29)).heap[w.heap.size]? := (HT2.out.block _ (by simp; omega) hRB).trans ((Below.heap_alloc w1 _ _ (by omega)).trans (HT1.out.block _ (by simp) hRB))
  have eX : w2.heap[w1.heap.size]? = (w1.alloc (Obj.cells #[Value.int IntKind.i64 t, Value.int IntKind.i64 a, Value.int IntKind.i64 b, Value.int IntKind.i64 k] 29)).heap[w1.heap.size]? := HT2.out.block _ (by simp) hXB
  have cR0 : w2.cell? ⟨w.heap.size, 0, none⟩ = some (Value.int IntKind.i64 0) := (World.cell?_of_block (a := ⟨w.heap.size, 0, none⟩) eR).trans (by simp [go_sem])
  have fR0 : w2.frozen? ⟨w.heap.size, 0, none⟩ = false := (World.frozen?_of_block (a := ⟨w.heap.size, 0, none⟩) eR).trans (by simp [go_sem])
  have cR1 : w2.cell? ⟨w.heap.size, 1, none⟩ = some (Value.int IntKind.i64 0) := (World.cell?_of_block (a := ⟨w.heap.size, 1, none⟩) eR).trans (by simp [go_sem])
  have fR1 : w2.frozen? ⟨w.heap.size, 1, none⟩ = false := (World.frozen?_of_block (a := ⟨w.heap.size, 1, none⟩) eR).trans (by simp [go_sem])
  have cR2 : w2.cell? ⟨w.heap.size, 2, none⟩ = some (Value.int IntKind.i64 0) := (World.cell?_of_block (a := ⟨w.heap.size, 2, none⟩) eR).trans (by simp [go_sem])
  have fR2 : w2.frozen? ⟨w.heap.size, 2, none⟩ = false := (World.frozen?_of_block (a := ⟨w.heap.size, 2, none⟩) eR).trans (by simp [go_sem])
  have cR3 : w2.cell? ⟨w.heap.size, 3, none⟩ = some (Value.int IntKind.i64 0) := (World.cell?_of_block (a := ⟨w.heap.size, 3, none⟩) eR).trans (by simp [go_sem])
  have fR3 : w2.frozen? ⟨w.heap.size, 3, none⟩ = false := (World.frozen?_of_block (a := ⟨w.heap.size, 3, none⟩) eR).trans (by simp [go_sem])
  have cX0 : w2.cell? ⟨w1.heap.size, 0, none⟩ = some (Value.int IntKind.i64 t) := (World.cell?_of_block (a := ⟨w1.heap.size, 0, none⟩) eX).trans (by simp [go_sem])
  have fX0 : w2.frozen? ⟨w1.heap.size, 0, none⟩ = false := (World.frozen?_of_block (a := ⟨w1.heap.size, 0, none⟩) eX).trans (by simp [go_sem])
  have cX1 : w2.cell? ⟨w1.heap.size, 1, none⟩ = some (Value.int IntKind.i64 a) := (World.cell?_of_block (a := ⟨w1.heap.size, 1, none⟩) eX).trans (by simp [go_sem])
  have fX1 : w2.frozen? ⟨w1.heap.size, 1, none⟩ = false := (World.frozen?_of_block (a := ⟨w1.heap.size, 1, none⟩) eX).trans (by simp [go_sem])
  have cX2 : w2.cell? ⟨w1.heap.size, 2, none⟩ = some (Value.int IntKind.i64 b) := (World.cell?_of_block (a := ⟨w1.heap.size, 2, none⟩) eX).trans (by simp [go_sem])
  have fX2 : w2.frozen? ⟨w1.heap.size, 2, none⟩ = false := (World.frozen?_of_block (a := ⟨w1.heap.size, 2, none⟩) eX).trans (by simp [go_sem])
  have cX3 : w2.cell? ⟨w1.heap.size, 3, none⟩ = some (Value.int IntKind.i64 k) := (World.cell?_of_block (a := ⟨w1.heap.size, 3, none⟩) eX).trans (by simp [go_sem])
  have fX3 : w2.frozen? ⟨w1.heap.size, 3, none⟩ = false := (World.frozen?_of_block (a := ⟨w1.heap.size, 3, none⟩) eX).trans (by simp [go_sem])
  have q0 : w.heap.size < w1.heap.size := by omega
  have q9 : w.heap.size ≤ w1.heap.size := by omega
  have p1 : w1.heap.size ≠ w.heap.size := by omega
  have p2 : w2.heap.size ≠ w.heap.size := by omega
  have p3 : w2.heap.size ≠ w1.heap.size := by omega
  have q1 : w.heap.size ≠ w1.heap.size := by omega
  have q2 : w.heap.size ≠ w2.heap.size := by omega
  have q3 : w1.heap.size ≠ w2.heap.size := by omega
  have q4 : w.heap.size < w2.heap.size := by omega
  have q5 : w1.heap.size < w2.heap.size := by omega
  have HT := Lib.hid (((((Touch.refl B w).alloc (Obj.cells #[Value.int IntKind.i64 0, Value.int IntKind.i64 0, Value.int IntKind.i64 0, Value.int IntKind.i64 0] 29)).trans HT1.out).alloc (Obj.cells #[Value.int IntKind.i64 t, Value.int IntKind.i64 a, Value.int IntKind.i64 b, Value.int IntKind.i64 k] 29)).trans HT2.out)
  clear eR eX z1 z2
  have hr : r = 0 ∨ r = 1 ∨ (¬ r = 0 ∧ ¬ r = 1) := by omega
  rcases hr with hr | hr | ⟨r2, r3⟩
  · subst hr
    clear r0 r1
    go_wp2_with fail
    refine (among_small B w2.heap.size v (m + 11) 3 (-1) 15 _ (HS2.out.alloc _) (HC2.out.touch ((Touch.refl _ _).alloc _)) (by omega) (by omega) (by omega) (by simp) (by omega) ?_).mono ?_
    · intro i hi
      have hi' : i = 0 ∨ i = 1 ∨ i = 2 := by omega
      rcases hi' with rfl | rfl | rfl <;> exact ⟨_, by simp [go_sem]; rfl, by omega, by omega⟩
    rintro e w3 ⟨x, rfl, x0, x1, hS3, hT3⟩
    have T3 := ((Touch.refl B w2).alloc _).trans hT3
    have z3 := T3.size
    have cA0 : w3.cell? ⟨w.heap.size, 0, none⟩ = some (Value.int IntKind.i64 0) := (T3.cell (p := ⟨w.heap.size, 0, none⟩) q4 hRB).trans cR0
    have fA0 : w3.frozen? ⟨w.heap.size, 0, none⟩ = false := (T3.frozen (p := ⟨w.heap.size, 0, none⟩) q4 hRB).trans fR0
    have cA1 : w3.cell? ⟨w.heap.size, 1, none⟩ = some (Value.int IntKind.i64 0) := (T3.cell (p := ⟨w.heap.size, 1, none⟩) q4 hRB).trans cR1
    have fA1 : w3.frozen? ⟨w.heap.size, 1, none⟩ = false := (T3.frozen (p := ⟨w.heap.size, 1, none⟩) q4 hRB).trans fR1
    have cA2 : w3.cell? ⟨w.heap.size, 2, none⟩ = some (Value.int IntKind.i64 0) := (T3.cell (p := ⟨w.heap.size, 2, none⟩) q4 hRB).trans cR2
    have fA2 : w3.frozen? ⟨w.heap.size, 2, none⟩ = false := (T3.frozen (p := ⟨w.heap.size, 2, none⟩) q4 hRB).trans fR2
    have cA3 : w3.cell? ⟨w.heap.size, 3, none⟩ = some (Value.int IntKind.i64 0) := (T3.cell (p := ⟨w.heap.size, 3, none⟩) q4 hRB).trans cR3
    have fA3 : w3.frozen? ⟨w.heap.size, 3, none⟩ = false := (T3.frozen (p := ⟨w.heap.size, 3, none⟩) q4 hRB).trans fR3
    have cB0 : w3.cell? ⟨w1.heap.size, 0, none⟩ = some (Value.int IntKind.i64 t) := (T3.cell (p := ⟨w1.heap.size, 0, none⟩) q5 hXB).trans cX0
    have fB0 : w3.frozen? ⟨w1.heap.size, 0, none⟩ = false := (T3.frozen (p := ⟨w1.heap.size, 0, none⟩) q5 hXB).trans fX0
    have cB1 : w3.cell? ⟨w1.heap.size, 1, none⟩ = some (Value.int IntKind.i64 a) := (T3.cell (p := ⟨w1.heap.size, 1, none⟩) q5 hXB).trans cX1
    have fB1 : w3.frozen? ⟨w1.heap.size, 1, none⟩ = false := (T3.frozen (p := ⟨w1.heap.size, 1, none⟩) q5 hXB).trans fX1
    have cB2 : w3.cell? ⟨w1.heap.size, 2, none⟩ = some (Value.int IntKind.i64 b) := (T3.cell (p := ⟨w1.heap.size, 2, none⟩) q5 hXB).trans cX2
    have fB2 : w3.frozen? ⟨w1.heap.size, 2, none⟩ = false := (T3.frozen (p := ⟨w1.heap.size, 2, none⟩) q5 hXB).trans fX2
    have cB3 : w3.cell? ⟨w1.heap.size, 3, none⟩ = some (Value.int IntKind.i64 k) := (T3.cell (p := ⟨w1.heap.size, 3, none⟩) q5 hXB).trans cX3
    have fB3 : w3.frozen? ⟨w1.heap.size, 3, none⟩ = false := (T3.frozen (p := ⟨w1.heap.size, 3, none⟩) q5 hXB).trans fX3
    have q6 : w.heap.size < w3.heap.size := by omega
    have q7 : w1.heap.size < w3.heap.size := by omega
    have HSZ := Lib.hid (hS3.mono (show m + 11 + 1 ≤ m + 22 by omega))
    have HTZ := Lib.hid (HT.out.trans T3)
    clear T3 hT3 hS3 z3
    go_wp2_with fail
    refine bodyPost_ret (v := .agg #[.int .i64 x, .int .i64 a, .int .i64 b, .int .i64 k]) (by simp [results, Tryd.results49, go_sem, *]) rfl ⟨_, rfl, ⟨x, _, _, _, rfl, by omega, HV1.out⟩, ?_, ?_⟩
    · have hS := HSZ.out
      (repeat (first | with_reducible assumption | with_reducible refine SrcAt.drew ?_ | with_reducible refine SrcAt.alloc ?_ _ | with_reducible refine SrcAt.setFar ?_ (by first | omega | (simp; done) | (simp; omega)) _ _ _))
    · have hT := HTZ.out
      (repeat (first | with_reducible assumption | with_reducible refine Touch.drew ?_ | with_reducible refine Touch.alloc ?_ _ | with_reducible refine Touch.setNew ?_ (by first | omega | (simp; done) | (simp; omega)) _ _ _))
  · subst hr
    clear r0 r1
    go_wp2_with fail
    refine (bent_any B v (m + 11) _ HS2.out HC2.out (by omega)).mono ?_
    rintro e w3 ⟨_, rfl, ⟨x, y, z, rfl, hsm⟩, hS3, hT3⟩
    have HM3 := Lib.hid hsm
    have z3 := hT3.size
    have cA0 : w3.cell? ⟨w.heap.size, 0, none⟩ = some (Value.int IntKind.i64 0) := (hT3.cell (p := ⟨w.heap.size, 0, none⟩) q4 hRB).trans cR0
    have fA0 : w3.frozen? ⟨w.heap.size, 0, none⟩ = false := (hT3.frozen (p := ⟨w.heap.size, 0, none⟩) q4 hRB).trans fR0
    have cA1 : w3.cell? ⟨w.heap.size, 1, none⟩ = some (Value.int IntKind.i64 0) := (hT3.cell (p := ⟨w.heap.size, 1, none⟩) q4 hRB).trans cR1
    have fA1 : w3.frozen? ⟨w.heap.size, 1, none⟩ = false := (hT3.frozen (p := ⟨w.heap.size, 1, none⟩) q4 hRB).trans fR1
    have cA2 : w3.cell? ⟨w.heap.size, 2, none⟩ = some (Value.int IntKind.i64 0) := (hT3.cell (p := ⟨w.heap.size, 2, none⟩) q4 hRB).trans cR2
    have fA2 : w3.frozen? ⟨w.heap.size, 2, none⟩ = false := (hT3.frozen (p := ⟨w.heap.size, 2, none⟩) q4 hRB).trans fR2
    have cA3 : w3.cell? ⟨w.heap.size, 3, none⟩ = some (Value.int IntKind.i64 0) := (hT3.cell (p := ⟨w.heap.size, 3, none⟩) q4 hRB).trans cR3
    have fA3 : w3.frozen? ⟨w.heap.size, 3, none⟩ = false := (hT3.frozen (p := ⟨w.heap.size, 3, none⟩) q4 hRB).trans fR3
    have cB0 : w3.cell? ⟨w1.heap.size, 0, none⟩ = some (Value.int IntKind.i64 t) := (hT3.cell (p := ⟨w1.heap.size, 0, none⟩) q5 hXB).trans cX0
    have fB0 : w3.frozen? ⟨w1.heap.size, 0, none⟩ = false := (hT3.frozen (p := ⟨w1.heap.size, 0, none⟩) q5 hXB).trans fX0
    have cB1 : w3.cell? ⟨w1.heap.size, 1, none⟩ = some (Value.int IntKind.i64 a) := (hT3.cell (p := ⟨w1.heap.size, 1, none⟩) q5 hXB).trans cX1
    have fB1 : w3.frozen? ⟨w1.heap.size, 1, none⟩ = false := (hT3.frozen (p := ⟨w1.heap.size, 1, none⟩) q5 hXB).trans fX1
    have cB2 : w3.cell? ⟨w1.heap.size, 2, none⟩ = some (Value.int IntKind.i64 b) := (hT3.cell (p := ⟨w1.heap.size, 2, none⟩) q5 hXB).trans cX2
    have fB2 : w3.frozen? ⟨w1.heap.size, 2, none⟩ = false := (hT3.frozen (p := ⟨w1.heap.size, 2, none⟩) q5 hXB).trans fX2
    have cB3 : w3.cell? ⟨w1.heap.size, 3, none⟩ = some (Value.int IntKind.i64 k) := (hT3.cell (p := ⟨w1.heap.size, 3, none⟩) q5 hXB).trans cX3
    have fB3 : w3.frozen? ⟨w1.heap.size, 3, none⟩ = false := (hT3.frozen (p := ⟨w1.heap.size, 3, none⟩) q5 hXB).trans fX3
    have q6 : w.heap.size < w3.heap.size := by omega
    have q7 : w1.heap.size < w3.heap.size := by omega
    have HSZ := Lib.hid hS3
    have HTZ := Lib.hid (HT.out.trans hT3)
    clear hT3 hS3 z3 hsm
    go_wp2_with fail
    refine bodyPost_ret (v := .agg #[.int .i64 t, .int .i64 x, .int .i64 y, .int .i64 z]) (by simp [results, Tryd.results49, go_sem, *]) rfl ⟨_, rfl, ⟨t, _, _, _, rfl, HV0.out, HM3.out⟩, ?_, ?_⟩
    · have hS := HSZ.out
      (repeat (first | with_reducible assumption | with_reducible refine SrcAt.drew ?_ | with_reducible refine SrcAt.alloc ?_ _ | with_reducible refine SrcAt.setFar ?_ (by first | omega | (simp; done) | (simp; omega)) _ _ _))
    · have hT := HTZ.out
      (repeat (first | with_reducible assumption | with_reducible refine Touch.drew ?_ | with_reducible refine Touch.alloc ?_ _ | with_reducible refine Touch.setNew ?_ (by first | omega | (simp; done) | (simp; omega)) _ _ _))
  · have HSZ := Lib.hid (HS2.out.mono (show m + 11 ≤ m + 22 by omega))
    have HTZ := HT
    clear r0 r1
    go_wp2_with fail
    refine bodyPost_ret (v := .agg #[.int .i64 t, .int .i64 a, .int .i64 b, .int .i64 k]) (by simp [results, Tryd.results49, go_sem, *]) rfl ⟨_, rfl, ⟨t, _, _, _, rfl, HV0.out, HV1.out⟩, ?_, ?_⟩
    · have hS := HSZ.out
      (repeat (first | with_reducible assumption | with_reducible refine SrcAt.drew ?_ | with_reducible refine SrcAt.alloc ?_ _ | with_reducible refine SrcAt.setFar ?_ (by first | omega | (simp; done) | (simp; omega)) _ _ _))
    · have hT := HTZ.out
      (repeat (first | with_reducible assumption | with_reducible refine Touch.drew ?_ | with_reducible refine Touch.alloc ?_ _ | with_reducible refine Touch.setNew ?_ (by first | omega | (simp; done) | (simp; omega)) _ _ _))

set_option maxHeartbeats 4000000 in
set_option maxRecDepth 100000 in
theorem dMoveLine_any (v : Value) (w : World) (hC : CodeIn w v) : Calls Tryd.prog 11 #[v] w (Drawn2 IsM IsL w) := by
  obtain ⟨sa, sn, sc, rfl⟩ := hC.slice
  have HC := Lib.hid hC
  clear hC
  go_enter Tryd.func11, Tryd.ntmps11
  go_wp2_with fail
  refine (from_any sa sn sc _).mono ?_
  rintro e w0 ⟨rfl, hw0⟩
  have HB0 := Lib.hid (show Below w.heap.size w w0 by rw [← hw0]; (repeat (first | with_reducible exact Below.refl _ _ | with_reducible refine Below.drew ?_ | with_reducible refine Below.alloc ?_ (by first | omega | (simp; done) | (simp; omega)) _ | with_reducible refine Below.setCell ?_ (by first | omega | (simp; done) | (simp; omega)) _ | with_reducible refine Below.trans ?_ (Below.mono (by assumption) (by first | omega | (simp; done) | (simp; omega))))))
  have hs0 : w0.heap.size = w.heap.size + 1 + 1 + 1 := by rw [← hw0]; simp
  have HS0 := Lib.hid (show SrcAt w0 (w.heap.size + 1 + 1) (.slice sa sn sc) 0 by rw [← hw0]; exact ⟨by simp [go_sem], ⟨0, 0, by simp [go_sem], by simp [go_sem], by omega, by omega, by omega, by omega⟩, by simp [go_sem], by simp [go_sem]⟩)
  have HC0 := Lib.hid (HC.out.at (B := w.heap.size + 1 + 1) (by omega) HB0.out)
  have HW0 := Lib.hid hw0
  have HS := Lib.hid hs0
  clear hw0 hs0
  have es : ((w.alloc (Obj.cells #[Value.int IntKind.i64 0, Value.bool false, Value.int IntKind.i64 0, Value.int IntKind.i64 0, Value.int IntKind.i64 0, Value.int IntKind.i64 0, Value.int IntKind.i64 0, Value.int IntKind.i64 0] 27)).alloc (Obj.cells #[Value.int IntKind.i64 0, Value.int IntKind.i64 0, Value.int IntKind.i64 0, Value.int IntKind.i64 0] 29)).heap.size = w.heap.size + 1 + 1 := by simp
  go_wp2_with fail
  refine (bentM_any (w.heap.size + 1 + 1) _ 0 _ HS0.out HC0.out (by omega)).mono ?_
  rintro e w1 ⟨_, rfl, ⟨t, f, a, b, k, c, d, l, rfl, v0, v1, v2⟩, hS1, hT1⟩
  have HT1 := Lib.hid hT1
  have HS1 := Lib.hid hS1
  have HV1 := Lib.hid (And.intro v0 (And.intro v1 v2))
  have HC1 := Lib.hid (HC0.out.touch (hT1.alloc (Obj.cells #[Value.int IntKind.i64 t, Value.bool f, Value.int IntKind.i64 a, Value.int IntKind.i64 b, Value.int IntKind.i64 k, Value.int IntKind.i64 c, Value.int IntKind.i64 d, Value.int IntKind.i64 l] 27)))
  clear v0 v1 v2 hS1 hT1
  go_wp2_with fail
  refine (bentL_any (w.heap.size + 1 + 1) _ 33 _ (HS1.out.alloc _) HC1.out (by omega)).mono ?_
  rintro e w2 ⟨_, rfl, ⟨t', a', b', k', rfl, u1, u2⟩, hS2, hT2⟩
  have HT2 := Lib.hid hT2
  have HV2 := Lib.hid (And.intro u1 u2)
  clear hS2 hT2
  go_wp2_with fail
  obtain ⟨W, hW⟩ : ∃ W, W = w2.alloc (Obj.cells #[Value.int IntKind.i64 t', Value.int IntKind.i64 a', Value.int IntKind.i64 b', Value.int IntKind.i64 k'] 29) := ⟨_, rfl⟩
  have z1 := HT1.out.size
  have z2 := HT2.out.size
  have hs := HS.out
  simp only [World.size_alloc] at z2
  have old : ∀ i, i < ((w.alloc (Obj.cells #[Value.int IntKind.i64 0, Value.bool false, Value.int IntKind.i64 0, Value.int IntKind.i64 0, Value.int IntKind.i64 0, Value.int IntKind.i64 0, Value.int IntKind.i64 0, Value.int IntKind.i64 0] 27)).alloc (Obj.cells #[Value.int IntKind.i64 0, Value.int IntKind.i64 0, Value.int IntKind.i64 0, Value.int IntKind.i64 0] 29)).heap.size → i ≠ w.heap.size + 1 + 1 → W.heap[i]? = (((w.alloc (Obj.cells #[Value.int IntKind.i64 0, Value.bool false, Value.int IntKind.i64 0, Value.int IntKind.i64 0, Value.int IntKind.i64 0, Value.int IntKind.i64 0, Value.int IntKind.i64 0, Value.int IntKind.i64 0] 27)).alloc (Obj.cells #[Value.int IntKind.i64 0, Value.int IntKind.i64 0, Value.int IntKind.i64 0, Value.int IntKind.i64 0] 29)).alloc (Obj.cells #[Value.slice sa sn sc, Value.int IntKind.i64 0, Value.int IntKind.u64 0] 141)).heap[i]? := by
    intro i hi hB
    rw [es] at hi
    rw [hW, Below.heap_alloc w2 _ i (by omega), HT2.out.block i (by simp; omega) hB, Below.heap_alloc w1 _ i (by omega), HT1.out.block i (by omega) hB, ← HW0.out]
  have ne1 : w1.heap.size ≠ w.heap.size + 1 + 1 := by omega
  have e0 : W.heap[w1.heap.size]? = (w1.alloc (Obj.cells #[Value.int IntKind.i64 t, Value.bool f, Value.int IntKind.i64 a, Value.int IntKind.i64 b, Value.int IntKind.i64 k, Value.int IntKind.i64 c, Value.int IntKind.i64 d, Value.int IntKind.i64 l] 27)).heap[w1.heap.size]? := by
    rw [hW, Below.heap_alloc w2 _ _ (by omega), HT2.out.block _ (by simp) ne1]
  have e1 : W.heap[w2.heap.size]? = (w2.alloc (Obj.cells #[Value.int IntKind.i64 t', Value.int IntKind.i64 a', Value.int IntKind.i64 b', Value.int IntKind.i64 k'] 29)).heap[w2.heap.size]? := by rw [hW]
  have d0 := old w.heap.size (by rw [es]; omega) (by omega)
  have d1 := old (w.heap.size + 1) (by rw [es]; omega) (by omega)
  have cR0 : W.cell? ⟨w.heap.size, 0, none⟩ = some (Value.int IntKind.i64 0) := (World.cell?_of_block (a := ⟨w.heap.size, 0, none⟩) d0).trans (by simp [go_sem])
  have fR0 : W.frozen? ⟨w.heap.size, 0, none⟩ = false := (World.frozen?_of_block (a := ⟨w.heap.size, 0, none⟩) d0).trans (by simp [go_sem])
  have cR1 : W.cell? ⟨w.heap.size, 1, none⟩ = some (Value.bool false) := (World.cell?_of_block (a := ⟨w.heap.size, 1, none⟩) d0).trans (by simp [go_sem])
  have fR1 : W.frozen? ⟨w.heap.size, 1, none⟩ = false := (World.frozen?_of_block (a := ⟨w.heap.size, 1, none⟩) d0).trans (by simp [go_sem])
  have cR2 : W.cell? ⟨w.heap.size, 2, none⟩ = some (Value.int IntKind.i64 0) := (World.cell?_of_block (a := ⟨w.heap.size, 2, none⟩) d0).trans (by simp [go_sem])
  have fR2 : W.frozen? ⟨w.heap.size, 2, none⟩ = false := (World.frozen?_of_block (a := ⟨w.heap.size, 2, none⟩) d0).trans (by simp [go_sem])
  have cR3 : W.cell? ⟨w.heap.size, 3, none⟩ = some (Value.int IntKind.i64 0) := (World.cell?_of_block (a := ⟨w.heap.size, 3, none⟩) d0).trans (by simp [go_sem])
  have fR3 : W.frozen? ⟨w.heap.size, 3, none⟩ = false := (World.frozen?_of_block (a := ⟨w.heap.size, 3, none⟩) d0).trans (by simp [go_sem])
  have cR4 : W.cell? ⟨w.heap.size, 4, none⟩ = some (Value.int IntKind.i64 0) := (World.cell?_of_block (a := ⟨w.heap.size, 4, none⟩) d0).trans (by simp [go_sem])
  have fR4 : W.frozen? ⟨w.heap.size, 4, none⟩ = false := (World.frozen?_of_block (a := ⟨w.heap.size, 4, none⟩) d0).trans (by simp [go_sem])
  have cR5 : W.cell? ⟨w.heap.size, 5, none⟩ = some (Value.int IntKind.i64 0) := (World.cell?_of_block (a := ⟨w.heap.size, 5, none⟩) d0).trans (by simp [go_sem])
  have fR5 : W.frozen? ⟨w.heap.size, 5, none⟩ = false := (World.frozen?_of_block (a := ⟨w.heap.size, 5, none⟩) d0).trans (by simp [go_sem])
  have cR6 : W.cell? ⟨w.heap.size, 6, none⟩ = some (Value.int IntKind.i64 0) := (World.cell?_of_block (a := ⟨w.heap.size, 6, none⟩) d0).trans (by simp [go_sem])
  have fR6 : W.frozen? ⟨w.heap.size, 6, none⟩ = false := (World.frozen?_of_block (a := ⟨w.heap.size, 6, none⟩) d0).trans (by simp [go_sem])
  have cR7 : W.cell? ⟨w.heap.size, 7, none⟩ = some (Value.int IntKind.i64 0) := (World.cell?_of_block (a := ⟨w.heap.size, 7, none⟩) d0).trans (by simp [go_sem])
  have fR7 : W.frozen? ⟨w.heap.size, 7, none⟩ = false := (World.frozen?_of_block (a := ⟨w.heap.size, 7, none⟩) d0).trans (by simp [go_sem])
  have cS0 : W.cell? ⟨w.heap.size + 1, 0, none⟩ = some (Value.int IntKind.i64 0) := (World.cell?_of_block (a := ⟨w.heap.size + 1, 0, none⟩) d1).trans (by simp [go_sem])
  have fS0 : W.frozen? ⟨w.heap.size + 1, 0, none⟩ = false := (World.frozen?_of_block (a := ⟨w.heap.size + 1, 0, none⟩) d1).trans (by simp [go_sem])
  have cS1 : W.cell? ⟨w.heap.size + 1, 1, none⟩ = some (Value.int IntKind.i64 0) := (World.cell?_of_block (a := ⟨w.heap.size + 1, 1, none⟩) d1).trans (by simp [go_sem])
  have fS1 : W.frozen? ⟨w.heap.size + 1, 1, none⟩ = false := (World.frozen?_of_block (a := ⟨w.heap.size + 1, 1, none⟩) d1).trans (by simp [go_sem])
  have cS2 : W.cell? ⟨w.heap.size + 1, 2, none⟩ = some (Value.int IntKind.i64 0) := (World.cell?_of_block (a := ⟨w.heap.size + 1, 2, none⟩) d1).trans (by simp [go_sem])
  have fS2 : W.frozen? ⟨w.heap.size + 1, 2, none⟩ = false := (World.frozen?_of_block (a := ⟨w.heap.size + 1, 2, none⟩) d1).trans (by simp [go_sem])
  have cS3 : W.cell? ⟨w.heap.size + 1, 3, none⟩ = some (Value.int IntKind.i64 0) := (World.cell?_of_block (a := ⟨w.heap.size + 1, 3, none⟩) d1).trans (by simp [go_sem])
  have fS3 : W.frozen? ⟨w.heap.size + 1, 3, none⟩ = false := (World.frozen?_of_block (a := ⟨w.heap.size + 1, 3, none⟩) d1).trans (by simp [go_sem])
  have cX0 : W.cell? ⟨w1.heap.size, 0, none⟩ = some (Value.int IntKind.i64 t) := (World.cell?_of_block (a := ⟨w1.heap.size, 0, none⟩) e0).trans (by simp [go_sem])
  have fX0 : W.frozen? ⟨w1.heap.size, 0, none⟩ = false := (World.frozen?_of_block (a := ⟨w1.heap.size, 0, none⟩) e0).trans (by simp [go_sem])
  have cX1 : W.cell? ⟨w1.heap.size, 1, none⟩ = some (Value.bool f) := (World.cell?_of_block (a := ⟨w1.heap.size, 1, none⟩) e0).trans (by simp [go_sem])
  have fX1 : W.frozen? ⟨w1.heap.size, 1, none⟩ = false := (World.frozen?_of_block (a := ⟨w1.heap.size, 1, none⟩) e0).trans (by simp [go_sem])
  have cX2 : W.cell? ⟨w1.heap.size, 2, none⟩ = some (Value.int IntKind.i64 a) := (World.cell?_of_block (a := ⟨w1.heap.size, 2, none⟩) e0).trans (by simp [go_sem])
  have fX2 : W.frozen? ⟨w1.heap.size, 2, none⟩ = false := (World.frozen?_of_block (a := ⟨w1.heap.size, 2, none⟩) e0).trans (by simp [go_sem])
  have cX3 : W.cell? ⟨w1.heap.size, 3, none⟩ = some (Value.int IntKind.i64 b) := (World.cell?_of_block (a := ⟨w1.heap.size, 3, none⟩) e0).trans (by simp [go_sem])
  have fX3 : W.frozen? ⟨w1.heap.size, 3, none⟩ = false := (World.frozen?_of_block (a := ⟨w1.heap.size, 3, none⟩) e0).trans (by simp [go_sem])
  have cX4 : W.cell? ⟨w1.heap.size, 4, none⟩ = some (Value.int IntKind.i64 k) := (World.cell?_of_block (a := ⟨w1.heap.size, 4, none⟩) e0).trans (by simp [go_sem])
  have fX4 : W.frozen? ⟨w1.heap.size, 4, none⟩ = false := (World.frozen?_of_block (a := ⟨w1.heap.size, 4, none⟩) e0).trans (by simp [go_sem])
  have cX5 : W.cell? ⟨w1.heap.size, 5, none⟩ = some (Value.int IntKind.i64 c) := (World.cell?_of_block (a := ⟨w1.heap.size, 5, none⟩) e0).trans (by simp [go_sem])
  have fX5 : W.frozen? ⟨w1.heap.size, 5, none⟩ = false := (World.frozen?_of_block (a := ⟨w1.heap.size, 5, none⟩) e0).trans (by simp [go_sem])
  have cX6 : W.cell? ⟨w1.heap.size, 6, none⟩ = some (Value.int IntKind.i64 d) := (World.cell?_of_block (a := ⟨w1.heap.size, 6, none⟩) e0).trans (by simp [go_sem])
  have fX6 : W.frozen? ⟨w1.heap.size, 6, none⟩ = false := (World.frozen?_of_block (a := ⟨w1.heap.size, 6, none⟩) e0).trans (by simp [go_sem])
  have cX7 : W.cell? ⟨w1.heap.size, 7, none⟩ = some (Value.int IntKind.i64 l) := (World.cell?_of_block (a := ⟨w1.heap.size, 7, none⟩) e0).trans (by simp [go_sem])
  have fX7 : W.frozen? ⟨w1.heap.size, 7, none⟩ = false := (World.frozen?_of_block (a := ⟨w1.heap.size, 7, none⟩) e0).trans (by simp [go_sem])
  have cY0 : W.cell? ⟨w2.heap.size, 0, none⟩ = some (Value.int IntKind.i64 t') := (World.cell?_of_block (a := ⟨w2.heap.size, 0, none⟩) e1).trans (by simp [go_sem])
  have fY0 : W.frozen? ⟨w2.heap.size, 0, none⟩ = false := (World.frozen?_of_block (a := ⟨w2.heap.size, 0, none⟩) e1).trans (by simp [go_sem])
  have cY1 : W.cell? ⟨w2.heap.size, 1, none⟩ = some (Value.int IntKind.i64 a') := (World.cell?_of_block (a := ⟨w2.heap.size, 1, none⟩) e1).trans (by simp [go_sem])
  have fY1 : W.frozen? ⟨w2.heap.size, 1, none⟩ = false := (World.frozen?_of_block (a := ⟨w2.heap.size, 1, none⟩) e1).trans (by simp [go_sem])
  have cY2 : W.cell? ⟨w2.heap.size, 2, none⟩ = some (Value.int IntKind.i64 b') := (World.cell?_of_block (a := ⟨w2.heap.size, 2, none⟩) e1).trans (by simp [go_sem])
  have fY2 : W.frozen? ⟨w2.heap.size, 2, none⟩ = false := (World.frozen?_of_block (a := ⟨w2.heap.size, 2, none⟩) e1).trans (by simp [go_sem])
  have cY3 : W.cell? ⟨w2.heap.size, 3, none⟩ = some (Value.int IntKind.i64 k') := (World.cell?_of_block (a := ⟨w2.heap.size, 3, none⟩) e1).trans (by simp [go_sem])
  have fY3 : W.frozen? ⟨w2.heap.size, 3, none⟩ = false := (World.frozen?_of_block (a := ⟨w2.heap.size, 3, none⟩) e1).trans (by simp [go_sem])
  have HBW : Hid (Below w.heap.size w W) := Lib.hid (by
    rw [hW]
    exact ((HB0.out.trans (HT1.out.below (by omega) (by omega))).alloc (by omega) _).trans (HT2.out.below (by omega) (by simp; omega)) |>.alloc (by omega) _)
  have dd0 : w.heap.size + 1 < W.heap.size := by rw [hW]; simp; omega
  have p10 : w1.heap.size ≠ w.heap.size := by omega
  have q10 : w.heap.size ≠ w1.heap.size := by omega
  have p11 : w1.heap.size ≠ w.heap.size + 1 := by omega
  have q11 : w.heap.size + 1 ≠ w1.heap.size := by omega
  have p20 : w2.heap.size ≠ w.heap.size := by omega
  have q20 : w.heap.size ≠ w2.heap.size := by omega
  have p21 : w2.heap.size ≠ w.heap.size + 1 := by omega
  have q21 : w.heap.size + 1 ≠ w2.heap.size := by omega
  rw [← hW]
  clear old e0 e1 d0 d1 hW es z1 z2 hs ne1
  go_region
  go_wp2
  exact bodyPost_ret (v := .tuple #[.agg #[.int .i64 t, .bool f, .int .i64 a, .int .i64 b, .int .i64 k, .int .i64 c, .int .i64 d, .int .i64 l], .agg #[.int .i64 t', .int .i64 a', .int .i64 b', .int .i64 k']]) (by simp [results, Tryd.results11, go_sem, *]) rfl ⟨_, _, rfl, ⟨t, f, a, b, k, c, d, l, rfl, HV1.out⟩, ⟨t', a', b', k', rfl, HV2.out⟩, (by
    have hb := HBW.out
    repeat (first | with_reducible exact hb | with_reducible refine Below.drew ?_ | refine Below.setCell ?_ (Nat.le_refl w.heap.size) _ | refine Below.setCell ?_ (Nat.le_add_right w.heap.size 1) _))⟩
end Go.Proofs.YtafbdnjabgfjeaaDoor
end
