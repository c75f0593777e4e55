/- slices.Chunk in twos: its contract; the program's alternating sums. -/
import Derived.Test.YtnhobilmgefhnaaQu
import Derived.Test.YtnhobilmgefhnaaQj
import Derived.RegionTactic
namespace Go.Proofs.Ytnhobilmgefhnaa
open Go Go.RowKit Go.Shelf
attribute [local go_sem] Oper.semAt_some

/-- The round of a pair: below m. -/
abbrev Rd (m : Nat) := { k : Nat // k < m }
def pairE (b o : Nat) {m : Nat} (x : Rd m) : Array Value := #[Value.slice (some ⟨b, o + 2 * x.1, none⟩) 2 2]
def rd {m : Nat} (hm : 0 < m) (k : Nat) : Rd m := ⟨min k (m - 1), by omega⟩
theorem rd_at {m : Nat} (hm : 0 < m) {k : Nat} (h : k < m) : rd hm k = ⟨k, h⟩ := Subtype.ext (by show min k (m - 1) = k; omega)
/-- What a round keeps: all below n₀, the two boxes. -/
def Kc (n₀ B1 B2 : Nat) (W W' : World) : Prop := Below n₀ W W' ∧ W'.heap[B1]? = W.heap[B1]? ∧ W'.heap[B2]? = W.heap[B2]?
theorem kc_t {n₀ B1 B2 : Nat} {A B C : World} (h : Kc n₀ B1 B2 A B) (k : Kc n₀ B1 B2 B C) : Kc n₀ B1 B2 A C := ⟨h.1.trans k.1, k.2.1.trans h.2.1, k.2.2.trans h.2.2⟩
theorem kc_b {n₀ B1 B2 : Nat} {w : World} (hn : n₀ ≤ w.heap.size) (h1 : B1 < w.heap.size) (h2 : B2 < w.heap.size) (W : World) (l : Nat) (o o' : Obj) (hl : w.heap.size ≤ l) (h : W.heap[l]? = some o) (hc : o.isCells = false) (hw : o.isWalk = false) : Kc n₀ B1 B2 W (W.putObj l o') :=
  ⟨belowK_b hn W l o o' hl h hc hw, (kb_b hn h1 W l o o' hl h hc hw).2, (kb_b hn h2 W l o o' hl h hc hw).2⟩

set_option maxRecDepth 100000 in
set_option maxHeartbeats 4000000 in
theorem chunk1_in (F : Fence) (n : Nat) (h7 : F.fn 84) (hro : F.round = none) (hn : 1 ≤ n) (l B1 B2 n₀ b off m cap : Nat) (hm : 0 < m) (hl : 2 * m ≤ 1048576) (hcap : 2 * m ≤ cap) (J Jx : List (Rd m) → World → Prop)
    (hAb : ∀ pre W, J pre W → J pre W.drew)
    (hY : ∀ pre x W, J pre W → pre.length < m → YieldAt F (n - 1) Try.prog l (pairE b off x) W fun e W' =>
      (e = .returned (.bool true) ∧ J (pre ++ [x]) W' ∧ Kc n₀ B1 B2 W W') ∨ (e = .returned (.bool false) ∧ Jx (pre ++ [x]) W'))
    (W : World) (hB1 : W.cell? ⟨B1, 0, none⟩ = some (.slice (some ⟨b, off, none⟩) (2 * m) cap)) (hB2 : W.cell? ⟨B2, 0, none⟩ = some (.int .i64 2)) (h0 : J [] W) :
    CallsIn F n Try.prog 84 #[.func (.yield l) #[] #[], .pointer (some ⟨B1, 0, none⟩), .pointer (some ⟨B2, 0, none⟩)] W fun e W' => (∃ v, e = .returned v) ∧
      ((∃ ys, ys = upto (rd hm) m ∧ J ys W') ∨ (∃ pre, True ∧ Jx pre W')) := by
  refine callsIn_of_wp Try.func84 rfl h7 ?_ hro
  simp only [Try.ntmps84, List.size_toArray, List.length_cons, List.length_nil, Nat.reduceAdd, Nat.reduceSub, Array.replicate_succ, Array.replicate_zero, List.push_toArray, List.append_toArray, List.nil_append, List.cons_append]
  obtain ⟨N, hN⟩ : ∃ N, 2 * m = N := ⟨_, rfl⟩
  rw [hN] at hl hcap hB1
  have HN := Lib.hid hN
  clear hN
  gi_wp2
  gi_loopw [4] (fun i wr => ∃ k p : Nat, Hid (p = 2 * k) ∧ p ≤ N ∧ i = .int .i64 p ∧ J (upto (rd hm) k) wr ∧ wr.cell? ⟨B1, 0, none⟩ = some (.slice (some ⟨b, off, none⟩) N cap) ∧ wr.cell? ⟨B2, 0, none⟩ = some (.int .i64 2))
    (fun i _ => N - (intOf i).toNat)
  case atStart => exact ⟨0, 0, Lib.hid rfl, Nat.zero_le _, rfl, h0, hB1, hB2⟩
  case round =>
    obtain ⟨k, p, hp, hpN, rfl, hJs, hB1r, hB2r⟩ := hrel
    by_cases hlt : p < N
    · have hlt1 : p + 2 ≤ N := by have := HN.out; have := hp.out; omega
      have hcp : ¬ cap = p := by omega
      have h2 : (2 : Int) ≤ ((N - p : Nat) : Int) := by omega
      have hkm : k < m := by have := HN.out; have := hp.out; omega
      obtain ⟨fn, tmps, assign, body, hy, hR⟩ := hY _ ⟨k, hkm⟩ wr.drew (hAb _ _ hJs) (by rw [upto_len]; exact hkm)
      simp only [pairE] at hy
      rw [show 2 * k = p from hp.out.symm] at hy
      gi_wp2
      gi_region
      all_goals gi_wp2
      all_goals refine hR.mono ?_
      all_goals rintro e W3 (⟨rfl, hJ3, hk3⟩ | ⟨rfl, hJx3⟩)
      all_goals first
        | (have hB1n : W3.cell? ⟨B1, 0, none⟩ = some (.slice (some ⟨b, off, none⟩) N cap) := (World.cell?_of_block (w := wr.drew) hk3.2.1).trans hB1r
           have hB2n : W3.cell? ⟨B2, 0, none⟩ = some (.int .i64 2) := (World.cell?_of_block (w := wr.drew) hk3.2.2).trans hB2r
           gi_wp2
           go_roundw
           case rel =>
             refine ⟨k + 1, p + 2, Lib.hid (by have := hp.out; omega), by omega, by go_num, ?_, hB1n, hB2n⟩
             rw [upto_succ, rd_at hm hkm]
             exact hJ3
           case measure => simp [intOf]; omega)
        | (gi_wp2
           refine bodyPost_ret (results_none rfl _ _ _) rfl ?_
           exact ⟨⟨_, rfl⟩, .inr ⟨_, trivial, hJx3⟩⟩)
    · gi_wp2
      go_end0
      have : k = m := by have := HN.out; have := hp.out; omega
      subst this
      exact ⟨⟨_, rfl⟩, .inl ⟨_, rfl, hJs⟩⟩
end Go.Proofs.Ytnhobilmgefhnaa
