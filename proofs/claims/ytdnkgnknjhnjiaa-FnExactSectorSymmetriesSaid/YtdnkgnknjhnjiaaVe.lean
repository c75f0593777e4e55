/- The iterator of the rotations: its contract. -/
import Derived.Test.YtdnkgnknjhnjiaaVd
import Derived.Test.YtdnkgnknjhnjiaaQt
import Derived.RangeFuncLeaves
import Derived.Shelf.Abstract
import Derived.OwnWalkIn
import Derived.TacticsInMore
import Derived.LoopNIn
import Derived.LoopIn
namespace Go.Proofs.Ytdnkgnknjhnjiaa
open Go Go.RowKit Go.Shelf
attribute [local go_sem] Oper.semAt_some

/-- An index below n, and what is yielded with it. -/
abbrev Rot (n : Nat) := { k : Nat // k < n } × Value
def rtE {n : Nat} (x : Rot n) : Array Value := #[Value.int .i64 (x.1.1 : Int), x.2]
/-- The indices come in order; behind each lies a rotation, in memory from n₀ on. -/
def Yr (n₀ : Nat) (xs : List Int) {n : Nat} (pre : List (Rot n)) (x : Rot n) (W : World) : Prop := x.1.1 = pre.length ∧ OwnI W n₀ x.2 (rot xs x.1.1)
/-- What a round keeps: all below n₀, and the box Bs. -/
def Kr (n₀ Bs : Nat) (W W' : World) : Prop := Below n₀ W W' ∧ W'.heap[Bs]? = W.heap[Bs]?
theorem kr_t {n₀ Bs : Nat} {A B C : World} (h : Kr n₀ Bs A B) (k : Kr n₀ Bs B C) : Kr n₀ Bs A C := ⟨h.1.trans k.1, k.2.trans h.2⟩
theorem kr_b {n₀ Bs : Nat} {w : World} (hn : n₀ ≤ w.heap.size) (hB : Bs < w.heap.size) (W : World) (l : Nat) (o o' : Obj) (hl : w.heap.size ≤ l) (h : W.heap[l]? = some o) (hc : o.isCells = false) (hw : o.isWalk = false) : Kr n₀ Bs W (W.putObj l o') :=
  ⟨belowK_b hn W l o o' hl h hc hw, (grownBy_putObj' W l o').block Bs (by have := (Array.getElem?_eq_some_iff.1 h).1; omega) (fun e => by cases e; omega)⟩

set_option maxRecDepth 100000 in
set_option maxHeartbeats 2000000 in
theorem rots1_in (n l Bs n₀ b off len cap : Nat) (xs : List Int) (hxl : xs.length = len) (hl : len ≤ 1048576) (hcap : len ≤ cap) (hb : b < n₀) (J Jx : List (Rot len) → World → Prop) (hJ : ∀ s A B, J s A → Fresh A B → J s B)
    (hY : ∀ pre x W, J pre W → Yr n₀ xs pre x W → YieldAt Fence.wide (n - 1) Try.prog l (rtE x) W fun e W' =>
      (e = .returned (.bool true) ∧ J (pre ++ [x]) W' ∧ Kr n₀ Bs W W') ∨ (e = .returned (.bool false) ∧ Jx (pre ++ [x]) W'))
    (W : World) (hn₀ : n₀ ≤ Bs) (hBl : Bs < W.heap.size) (hBs : W.cell? ⟨Bs, 0, none⟩ = some (.slice (some ⟨b, off, none⟩) len cap)) (hc : Cells W b off xs) (h0 : J [] W) :
    CallsIn Fence.wide n Try.prog 70 #[.func (.yield l) #[] #[], .pointer (some ⟨Bs, 0, none⟩)] W fun e W' => (∃ v, e = .returned v) ∧
      ((∃ ys, ys.length = len ∧ J ys W') ∨ (∃ pre, True ∧ Jx pre W')) := by
  have HC := Lib.hid hc
  have HL := Lib.hid hxl
  clear hc hxl
  refine callsIn_of_wp Try.func70 rfl trivial ?_ rfl
  simp only [Try.ntmps70, List.size_toArray, List.length_cons, List.length_nil, Nat.reduceAdd, Nat.reduceSub, Array.replicate_succ, Array.replicate_zero, List.push_toArray, List.append_toArray, List.nil_append, List.cons_append]
  gi_wp2
  gi_loopw [6] (fun i wr => ∃ k : Nat, k ≤ len ∧ i = .int .i64 (k : Int) ∧ Hid (∃ ys : List (Rot len), ys.length = k ∧ J ys wr) ∧ Below n₀ W wr ∧ wr.cell? ⟨Bs, 0, none⟩ = some (.slice (some ⟨b, off, none⟩) len cap) ∧ Bs < wr.heap.size)
    (fun i _ => len - (intOf i).toNat)
  case atStart => exact ⟨0, Nat.zero_le _, rfl, Lib.hid ⟨[], rfl, h0⟩, Below.refl _ _, hBs, hBl⟩
  case round =>
    obtain ⟨k, hk, rfl, hys, hnx, hBr, hBw⟩ := hrel
    by_cases hlt : k < len
    · have hsz := hnx.size
      have HR := Lib.hid (iRt_any b off cap len k xs wr (by omega) (cells_below HC.out hnx hb) HL.out hcap hlt hl)
      gi_wp2_with fail
      refine ⟨trivial, fun h => (by cases h), ?_⟩
      refine (callsIn_wide.2 HR.out).mono ?_
      rintro e w5 ⟨v, rfl, o5, b5⟩
      obtain ⟨ys, hyl, hyJ⟩ := hys.out
      obtain ⟨fn, tmps, assign, body, hy, hR⟩ := hY ys (⟨k, hlt⟩, v) w5 (hJ _ _ _ hyJ b5) ⟨hyl.symm, own_base o5 (by omega)⟩
      simp only [rtE] at hy
      have HRn := Lib.hid hR
      have HYL := Lib.hid hyl
      have HBx := Lib.hid ((b5.cell (p := ⟨Bs, 0, none⟩) hBw).trans hBr)
      have HSx := b5.size
      clear hys hyl hyJ hR
      gi_wp2_with fail
      refine ⟨fun h => (by cases h), ?_⟩
      refine HRn.out.mono ?_
      rintro e W3 (⟨rfl, hJ3, hk3⟩ | ⟨rfl, hJx3⟩)
      · have hB3 : W3.cell? ⟨Bs, 0, none⟩ = some (.slice (some ⟨b, off, none⟩) len cap) := (World.cell?_of_block (w := w5) hk3.2).trans HBx.out
        have hs3 := hk3.1.size
        have HJ3 := Lib.hid hJ3
        have HK3 := Lib.hid ((hnx.trans (b5.mono (by omega))).trans hk3.1)
        clear hJ3 hk3
        gi_wp2_with fail
        go_roundw
        case rel =>
          exact ⟨k + 1, by omega, by go_num, Lib.hid ⟨_, by rw [List.length_append, HYL.out]; rfl, HJ3.out⟩, HK3.out, hB3, by omega⟩
        case measure => first | (simp [intOf]; done) | (simp [intOf]; omega)
      · have HJx := Lib.hid hJx3
        clear hJx3
        gi_wp2_with fail
        refine bodyPost_ret (results_none rfl _ _ _) rfl ?_
        exact ⟨⟨_, rfl⟩, .inr ⟨_, trivial, HJx.out⟩⟩
    · obtain rfl : k = len := by omega
      gi_wp2_with fail
      go_end0
      obtain ⟨ys, hyl, hyJ⟩ := hys.out
      exact ⟨⟨_, rfl⟩, .inl ⟨ys, hyl, hyJ⟩⟩

set_option maxHeartbeats 1000000 in
theorem rots_in (n : Nat) (a : Option Addr) (len cap : Nat) (w : World) :
    CallsIn Fence.wide n Try.prog 51 #[.slice a len cap] w fun e w' => e = .returned (.func (.func 70) #[] #[.pointer (some ⟨w.heap.size, 0, none⟩)]) ∧ w' = w.alloc (.cells #[.slice a len cap] 22) := by
  refine callsIn_of_wp Try.func51 rfl trivial ?_ rfl
  simp only [Try.ntmps51, List.size_toArray, List.length_cons, List.length_nil, Nat.reduceAdd, Nat.reduceSub, Array.replicate_succ, Array.replicate_zero, List.push_toArray, List.append_toArray, List.nil_append, List.cons_append]
  gi_wp2
  go_ret
  exact ⟨rfl, rfl⟩

theorem rots_made (n Bs n₀ b off len cap : Nat) (xs : List Int) (hxl : xs.length = len) (hl : len ≤ 1048576) (hcap : len ≤ cap) (hb : b < n₀) (w : World) (hn₀ : n₀ ≤ Bs) (hBs : Bs < w.heap.size)
    (hB : w.cell? ⟨Bs, 0, none⟩ = some (.slice (some ⟨b, off, none⟩) len cap)) (hc : Cells w b off xs) :
    SeqMade Fence.wide n Try.prog 70 #[.pointer (some ⟨Bs, 0, none⟩)] (fun x : Rot len => rtE x) (Kr n₀ Bs) (Yr n₀ xs) (fun ys => ys.length = len) (fun _ => True) w := fun l J Jx W hW hJ _ hY h0 =>
  rots1_in n l Bs n₀ b off len cap xs hxl hl hcap hb J Jx hJ hY W hn₀ (Nat.lt_of_lt_of_le hBs hW.size) ((hW.cell (p := ⟨Bs, 0, none⟩) hBs).trans hB) (cells_below hc hW (by omega)) h0
end Go.Proofs.Ytdnkgnknjhnjiaa
