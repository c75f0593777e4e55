/- The source of choices: contracts of next, pick, one, among. Whatever the bytes, the choice is within its bounds, and only the source's own block turns. -/
import Derived.Test.YtnhobilmgefhnaaWb
import Derived.WalkSmall
namespace Go.Proofs.Ytnhobilmgefhnaa
open Go Go.RowKit OriM

/-- Only block B (and what is new) may have turned. -/
structure Touch (B : Nat) (w w' : World) : Prop where
  os : w'.os = w.os
  tape : w'.tape = w.tape
  output : w'.output = w.output
  size : w.heap.size ≤ w'.heap.size
  block : ∀ k, k < w.heap.size → k ≠ B → w'.heap[k]? = w.heap[k]?
theorem Touch.refl (B : Nat) (w : World) : Touch B w w := ⟨rfl, rfl, rfl, Nat.le_refl _, fun _ _ _ => rfl⟩
theorem Touch.trans {B : Nat} {a b c : World} (h : Touch B a b) (k : Touch B b c) : Touch B a c :=
  ⟨k.os.trans h.os, k.tape.trans h.tape, k.output.trans h.output, Nat.le_trans h.size k.size, fun i hi hB => (k.block i (Nat.lt_of_lt_of_le hi h.size) hB).trans (h.block i hi hB)⟩
theorem Touch.ofBelow {B : Nat} {w w' : World} (h : Below w.heap.size w w') : Touch B w w' := ⟨h.os, h.tape, h.output, h.size, fun k hk _ => h.block k hk⟩
theorem Touch.drew {B : Nat} {a w : World} (h : Touch B a w) : Touch B a w.drew := h.trans (.ofBelow ((Below.refl _ _).drew))
theorem Touch.drewN {B : Nat} {a w : World} (h : Touch B a w) (n : Nat) : Touch B a (w.drewN n) := h.trans (.ofBelow (below_drewN (Below.refl _ _) n))
theorem Touch.alloc {B : Nat} {a w : World} (h : Touch B a w) (o : Obj) : Touch B a (w.alloc o) := h.trans (.ofBelow ((Below.refl _ _).alloc (Nat.le_refl _) o))
theorem Touch.setCell {B : Nat} {a w : World} (h : Touch B a w) (o : Nat) (m : Option Nat) (v : Value) : Touch B a (w.setCell ⟨B, o, m⟩ v) := by
  refine h.trans ⟨rfl, rfl, rfl, ?_, fun k _ hB => Below.heap_setCell w ⟨B, o, m⟩ v k hB⟩
  simp
theorem Touch.setNew {B : Nat} {a w : World} (h : Touch B a w) {X : Nat} (hX : a.heap.size ≤ X) (o : Nat) (m : Option Nat) (v : Value) : Touch B a (w.setCell ⟨X, o, m⟩ v) := by
  refine ⟨h.os, h.tape, h.output, by simpa using h.size, fun k hk hB => (Below.heap_setCell w ⟨X, o, m⟩ v k (by show k ≠ X; omega)).trans (h.block k hk hB)⟩
theorem Touch.below {B M : Nat} {w w' : World} (h : Touch B w w') (hM : M ≤ B) (hs : M ≤ w.heap.size) : Below M w w' := ⟨h.os, h.tape, h.output, h.size, fun k hk => h.block k (by omega) (by omega)⟩
theorem Touch.cell {B : Nat} {w w' : World} (h : Touch B w w') {p : Addr} (hp : p.block < w.heap.size) (hB : p.block ≠ B) : w'.cell? p = w.cell? p := World.cell?_of_block (w := w) (h.block p.block hp hB)
theorem Touch.frozen {B : Nat} {w w' : World} (h : Touch B w w') {p : Addr} (hp : p.block < w.heap.size) (hB : p.block ≠ B) : w'.frozen? p = w.frozen? p := World.frozen?_of_block (w := w) (h.block p.block hp hB)

/-- The source lies in block B; at most m numbers have been drawn. -/
def SrcAt (w : World) (B : Nat) (v : Value) (m : Nat) : Prop :=
  w.cell? ⟨B, 0, none⟩ = some v ∧ (∃ n s : Int, w.cell? ⟨B, 1, none⟩ = some (.int .i64 n) ∧ w.cell? ⟨B, 2, none⟩ = some (.int .u64 s) ∧ 0 ≤ n ∧ n ≤ m ∧ 0 ≤ s ∧ s ≤ 18446744073709551615) ∧
  w.frozen? ⟨B, 1, none⟩ = false ∧ w.frozen? ⟨B, 2, none⟩ = false
/-- Its bytes lie elsewhere. -/
def CodeAt (w : World) (B : Nat) (v : Value) : Prop :=
  (∃ a c, v = .slice a 0 c) ∨ ∃ (b o n c : Nat), v = .slice (some ⟨b, o, none⟩) n c ∧ b ≠ B ∧ b < w.heap.size ∧ n ≤ 9223372036854775807 ∧ ∀ i, i < n → ∃ x : Int, w.cell? ⟨b, o + i, none⟩ = some (.int .u8 x) ∧ 0 ≤ x ∧ x ≤ 255
theorem CodeAt.touch {w w' : World} {B : Nat} {v : Value} (h : CodeAt w B v) (t : Touch B w w') : CodeAt w' B v := by
  rcases h with h | ⟨b, o, n, c, rfl, hb, hs, hn, h⟩
  · exact .inl h
  · refine .inr ⟨b, o, n, c, rfl, hb, Nat.lt_of_lt_of_le hs t.size, hn, fun i hi => ?_⟩
    obtain ⟨x, hx, h0, h1⟩ := h i hi
    exact ⟨x, by rw [t.cell (p := ⟨b, o + i, none⟩) hs hb]; exact hx, h0, h1⟩

/-- A number in its bounds has been drawn. -/
def Drawn (B : Nat) (v : Value) (m : Nat) (lo hi : Int) (w : World) (e : Ending) (w' : World) : Prop :=
  ∃ r : Int, e = .returned (.int .i64 r) ∧ lo ≤ r ∧ r ≤ hi ∧ SrcAt w' B v m ∧ Touch B w w'

theorem and_255 (y : Int) (h0 : 0 ≤ y) (h1 : y ≤ 18446744073709551615) : 0 ≤ bits BinOp.and IntKind.u64 y 255 ∧ bits BinOp.and IntKind.u64 y 255 ≤ 255 := by
  obtain ⟨n, rfl⟩ := Int.eq_ofNat_of_zero_le h0
  have h := bits_and_u64_nat n 255 (by omega) (by omega)
  rw [show ((255 : Nat) : Int) = 255 from rfl] at h
  rw [h, show (255 : Nat) = 2 ^ 8 - 1 from rfl, Nat.and_two_pow_sub_one_eq_mod]
  omega

theorem u64_bd (x : Int) : 0 ≤ IntKind.u64.wrap x ∧ IntKind.u64.wrap x ≤ 18446744073709551615 := by rw [IntKind.wrap_u64]; omega

theorem next_any (B : Nat) (v : Value) (m : Nat) (w : World) (hS : SrcAt w B v m) (hC : CodeAt w B v) (hm : m ≤ 1099511627776) :
    Calls Try.prog 73 #[.pointer (some ⟨B, 0, none⟩)] w (Drawn B v (m + 1) 0 255 w) := by
  obtain ⟨c0, ⟨n, s, c1, c2, n0, n1, s0, s1⟩, f1, f2⟩ := hS
  have n2 : n ≤ 1099511627776 := by omega
  clear hm
  rcases hC with ⟨a, c, rfl⟩ | ⟨b, o, len, cap, rfl, hb, hs, hlen, hcell⟩
  · have hlt : ¬ n < 0 := by omega
    have hle : ¬ n + 1 ≤ 0 := by omega
    go_enter Try.func73, Try.ntmps73
    go_wp2_with fail
    go_quiet (fail)
    go_wp2_with fail
    go_quiet (fail)
    go_wp2_with fail
    have q := u64_bd (IntKind.u64.wrap (IntKind.u64.wrap (s * 6364136223846793005)) + 1442695040888963407)
    obtain ⟨y0, y1⟩ := and_255 (IntKind.u64.wrap (IntKind.u64.wrap (IntKind.u64.wrap (s * 6364136223846793005)) + 1442695040888963407) / 1099511627776) (by omega) (by omega)
    have e := IntWalk.wrap64_in (bits BinOp.and IntKind.u64 (IntKind.u64.wrap (IntKind.u64.wrap (IntKind.u64.wrap (s * 6364136223846793005)) + 1442695040888963407) / 1099511627776) 255) ⟨by omega, by omega⟩
    go_ret
    refine ⟨_, rfl, by rw [e]; exact y0, by rw [e]; exact y1, ⟨by simp [go_sem, c0], ⟨n + 1, _, by simp [go_sem, c1], by simp [go_sem, c2], by omega, by omega, q.1, q.2⟩, by simp [go_sem, f1], by simp [go_sem, f2]⟩, ?_⟩
    (repeat (first | with_reducible exact Touch.refl _ _ | with_reducible assumption | with_reducible refine Touch.drewN ?_ _ | with_reducible refine Touch.drew ?_ | with_reducible refine Touch.alloc ?_ _ | with_reducible refine Touch.setCell ?_ _ _ _ | with_reducible refine Touch.trans ?_ (by assumption)))
  · by_cases hlt : n < len
    · obtain ⟨i, rfl⟩ := Int.eq_ofNat_of_zero_le n0
      obtain ⟨x, hx, x0, x1⟩ := hcell i (by omega)
      have hne : ¬ (b = B) := hb
      have hle : (i : Int) + 1 ≤ len := by omega
      clear hcell
      go_enter Try.func73, Try.ntmps73
      go_wp2_with fail
      go_quiet (fail)
      go_wp2_with fail
      go_quiet (fail)
      go_wp2_with fail
      go_quiet (fail)
      go_wp2_with fail
      have q := u64_bd (IntKind.u64.wrap (IntKind.u64.wrap (s * 6364136223846793005) + x) + 1442695040888963407)
      go_ret
      refine ⟨_, rfl, x0, x1, ⟨by simp [go_sem, c0], ⟨i + 1, _, by simp [go_sem, c1], by simp [go_sem, c2], by omega, by omega, q.1, q.2⟩, by simp [go_sem, f1], by simp [go_sem, f2]⟩, ?_⟩
      (repeat (first | with_reducible exact Touch.refl _ _ | with_reducible assumption | with_reducible refine Touch.drewN ?_ _ | with_reducible refine Touch.drew ?_ | with_reducible refine Touch.alloc ?_ _ | with_reducible refine Touch.setCell ?_ _ _ _ | with_reducible refine Touch.trans ?_ (by assumption)))
    · have hge : ¬ n < len := hlt
      have hle : ¬ n + 1 ≤ len := by omega
      clear hcell hlt
      go_enter Try.func73, Try.ntmps73
      go_wp2_with fail
      go_quiet (fail)
      go_wp2_with fail
      go_quiet (fail)
      go_wp2_with fail
      have q := u64_bd (IntKind.u64.wrap (IntKind.u64.wrap (s * 6364136223846793005)) + 1442695040888963407)
      obtain ⟨y0, y1⟩ := and_255 (IntKind.u64.wrap (IntKind.u64.wrap (IntKind.u64.wrap (s * 6364136223846793005)) + 1442695040888963407) / 1099511627776) (by omega) (by omega)
      have e := IntWalk.wrap64_in (bits BinOp.and IntKind.u64 (IntKind.u64.wrap (IntKind.u64.wrap (IntKind.u64.wrap (s * 6364136223846793005)) + 1442695040888963407) / 1099511627776) 255) ⟨by omega, by omega⟩
      go_ret
      refine ⟨_, rfl, by rw [e]; exact y0, by rw [e]; exact y1, ⟨by simp [go_sem, c0], ⟨n + 1, _, by simp [go_sem, c1], by simp [go_sem, c2], by omega, by omega, q.1, q.2⟩, by simp [go_sem, f1], by simp [go_sem, f2]⟩, ?_⟩
      (repeat (first | with_reducible exact Touch.refl _ _ | with_reducible assumption | with_reducible refine Touch.drewN ?_ _ | with_reducible refine Touch.drew ?_ | with_reducible refine Touch.alloc ?_ _ | with_reducible refine Touch.setCell ?_ _ _ _ | with_reducible refine Touch.trans ?_ (by assumption)))

theorem Drawn.mono {B m m' : Nat} {v : Value} {lo hi lo' hi' : Int} {w : World} {e : Ending} {w' : World} (h : Drawn B v m lo hi w e w') (hm : m ≤ m') (h0 : lo' ≤ lo) (h1 : hi ≤ hi') : Drawn B v m' lo' hi' w e w' := by
  obtain ⟨r, rfl, r0, r1, ⟨c0, ⟨n, s, c1, c2, n0, n1, s0, s1⟩, f1, f2⟩, t⟩ := h
  exact ⟨r, rfl, by omega, by omega, ⟨c0, ⟨n, s, c1, c2, n0, by omega, s0, s1⟩, f1, f2⟩, t⟩

/-- pick, of at most 200. -/
theorem pick_small (B : Nat) (v : Value) (m : Nat) (n : Int) (w : World) (hS : SrcAt w B v m) (hC : CodeAt w B v) (hm : m ≤ 1099511627776) (n1 : 1 < n) (n2 : n ≤ 200) :
    Calls Try.prog 52 #[.pointer (some ⟨B, 0, none⟩), .int .i64 n] w (Drawn B v (m + 1) 0 (n - 1) w) := by
  have HN := Lib.hid (next_any B v m w hS hC hm)
  clear hS hC hm
  go_enter Try.func52, Try.ntmps52
  go_wp2_with fail
  refine (HN.out).mono ?_
  rintro e w1 ⟨r, rfl, r0, r1, hS1, ht1⟩
  have HS1 := Lib.hid hS1
  have HT1 := Lib.hid ht1
  clear hS1 ht1
  have q0 : 0 ≤ r % n := Int.emod_nonneg _ (by omega)
  have q1 : r % n < n := Int.emod_lt_of_pos _ (by omega)
  go_wp2_with fail
  go_ret
  exact ⟨r % n, rfl, q0, by omega, HS1.out, HT1.out⟩

/-- one. -/
def DrawnB (B : Nat) (v : Value) (m : Nat) (w : World) (e : Ending) (w' : World) : Prop := ∃ b : Bool, e = .returned (.bool b) ∧ SrcAt w' B v m ∧ Touch B w w'
theorem one_small (B : Nat) (v : Value) (m : Nat) (n : Int) (w : World) (hS : SrcAt w B v m) (hC : CodeAt w B v) (hm : m ≤ 1099511627776) (n1 : 1 < n) (n2 : n ≤ 200) :
    Calls Try.prog 30 #[.pointer (some ⟨B, 0, none⟩), .int .i64 n] w (DrawnB B v (m + 1) w) := by
  have HN := Lib.hid (pick_small B v m n w hS hC hm n1 n2)
  clear hS hC hm
  go_enter Try.func30, Try.ntmps30
  go_wp2_with fail
  refine (HN.out).mono ?_
  rintro e w1 ⟨r, rfl, r0, r1, hS1, ht1⟩
  have HS1 := Lib.hid hS1
  have HT1 := Lib.hid ht1
  clear hS1 ht1
  go_wp2_with fail
  go_ret
  exact ⟨_, rfl, HS1.out, HT1.out⟩

/-- among, of a list that lies in a block of its own. -/
theorem among_small (B L : Nat) (v : Value) (m len : Nat) (lo hi : Int) (w : World) (hS : SrcAt w B v m) (hC : CodeAt w B v) (hm : m ≤ 1099511627776) (n1 : 1 < len) (n2 : len ≤ 200)
    (hL : L < w.heap.size) (hLB : L ≠ B) (hcell : ∀ i, i < len → ∃ x : Int, w.cell? ⟨L, i, none⟩ = some (.int .i64 x) ∧ lo ≤ x ∧ x ≤ hi) :
    Calls Try.prog 31 #[.pointer (some ⟨B, 0, none⟩), .slice (some ⟨L, 0, none⟩) len len] w (Drawn B v (m + 1) lo hi w) := by
  have HN := Lib.hid (pick_small B v m len w hS hC hm (by omega) (by omega))
  have HC := Lib.hid hcell
  clear hS hC hm hcell
  go_enter Try.func31, Try.ntmps31
  go_wp2_with fail
  refine (HN.out).mono ?_
  rintro e w1 ⟨r, rfl, r0, r1, hS1, ht1⟩
  obtain ⟨i, rfl⟩ := Int.eq_ofNat_of_zero_le r0
  obtain ⟨x, hx, x0, x1⟩ := HC.out i (by omega)
  have hx1 : w1.cell? ⟨L, i, none⟩ = some (.int .i64 x) := by rw [ht1.cell (p := ⟨L, i, none⟩) hL hLB]; exact hx
  have HS1 := Lib.hid hS1
  have HT1 := Lib.hid ht1
  have hlt : (i : Int) < len := by omega
  clear hS1 ht1 hx r1
  go_wp2_with fail
  go_ret
  exact ⟨x, rfl, x0, x1, HS1.out, HT1.out⟩
end Go.Proofs.Ytnhobilmgefhnaa
