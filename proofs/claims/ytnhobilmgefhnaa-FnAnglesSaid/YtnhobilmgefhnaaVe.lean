/- The iterator of the rotations: its contract. -/
import Derived.Test.YtnhobilmgefhnaaVd
import Derived.Test.YtnhobilmgefhnaaQt
import Derived.RangeFuncLeaves
import Derived.Shelf.Abstract
import Derived.OwnWalkIn
import Derived.TacticsInMore
import Derived.LoopNIn
import Derived.LoopIn
namespace Go.Proofs.Ytnhobilmgefhnaa
open Go Go.RowKit Go.Shelf
attribute [local go_sem] Oper.semAt_some

/-- An index below n, and what is yielded with it. -/
abbrev Rot (n : Nat) := { k : Nat // k < n } × Value
def rtE {n : Nat} (x : Rot n) : Array Value := #[Value.int .i64 (x.1.1 : Int), x.2]
/-- The indices come in order; behind each lies a rotation, in memory from n₀ on. -/
def Yr (n₀ : Nat) (xs : List Int) {n : Nat} (pre : List (Rot n)) (x : Rot n) (W : World) : Prop := x.1.1 = pre.length ∧ OwnI W n₀ x.2 (rot xs x.1.1)
/-- What a round keeps: the list's block b, and the box Bs. -/
def Kr (b Bs : Nat) (W W' : World) : Prop := W.heap.size ≤ W'.heap.size ∧ W'.heap[b]? = W.heap[b]? ∧ W'.heap[Bs]? = W.heap[Bs]?
theorem kr_t {b Bs : Nat} {A B C : World} (h : Kr b Bs A B) (k : Kr b Bs B C) : Kr b Bs A C := ⟨Nat.le_trans h.1 k.1, k.2.1.trans h.2.1, k.2.2.trans h.2.2⟩
theorem kr_b {b Bs : Nat} {w : World} (hb : b < w.heap.size) (hB : Bs < w.heap.size) (W : World) (l : Nat) (o o' : Obj) (hl : w.heap.size ≤ l) (h : W.heap[l]? = some o) (_ : o.isCells = false) (_ : o.isWalk = false) : Kr b Bs W (W.putObj l o') := by
  have hlt := (Array.getElem?_eq_some_iff.1 h).1
  exact ⟨by simp, (grownBy_putObj' W l o').block b (by omega) (fun e => by cases e; omega), (grownBy_putObj' W l o').block Bs (by omega) (fun e => by cases e; omega)⟩
theorem kr_below {b Bs n₀ : Nat} {W W' : World} (h : Below n₀ W W') (hb : b < n₀) (hB : Bs < n₀) : Kr b Bs W W' := ⟨h.size, h.block b hb, h.block Bs hB⟩
theorem cells_kept {w w' : World} {b o : Nat} {fs : List Int} (h : Cells w b o fs) (hb : w'.heap[b]? = w.heap[b]?) : Cells w' b o fs := fun k hk => (World.cell?_of_block (w := w) hb).trans (h k hk)

set_option maxRecDepth 100000 in
set_option maxHeartbeats 2000000 in
theorem rots1_in (n l Bs n₀ b off len cap : Nat) (xs : List Int) (hxl : xs.length = len) (hl : len ≤ 1048576) (hcap : len ≤ cap) (J Jx : List (Rot len) → World → Prop) (hJ : ∀ s A B, J s A → Fresh A B → J s B)
    (hY : ∀ pre x W, J pre W → Yr n₀ xs pre x W → YieldAt Fence.wide (n - 1) Try.prog l (rtE x) W fun e W' =>
      (e = .returned (.bool true) ∧ J (pre ++ [x]) W' ∧ Kr b Bs W W') ∨ (e = .returned (.bool false) ∧ Jx (pre ++ [x]) W'))
    (W : World) (hb : b < W.heap.size) (hn₀ : n₀ ≤ W.heap.size) (hBl : Bs < W.heap.size) (hBs : W.cell? ⟨Bs, 0, none⟩ = some (.slice (some ⟨b, off, none⟩) len cap)) (hc : Cells W b off xs) (h0 : J [] W) :
    CallsIn Fence.wide n Try.prog 58 #[.func (.yield l) #[] #[], .pointer (some ⟨Bs, 0, none⟩)] W fun e W' => (∃ v, e = .returned v) ∧
      ((∃ ys, ys.length = len ∧ J ys W') ∨ (∃ pre, True ∧ Jx pre W')) := by
  have HC := Lib.hid hc
  have HL := Lib.hid hxl
  clear hc hxl
  refine callsIn_of_wp Try.func58 rfl trivial ?_ rfl
  simp only [Try.ntmps58, List.size_toArray, List.length_cons, List.length_nil, Nat.reduceAdd, Nat.reduceSub, Array.replicate_succ, Array.replicate_zero, List.push_toArray, List.append_toArray, List.nil_append, List.cons_append]
  gi_wp2
  gi_loopw [6] (fun i wr => ∃ k : Nat, k ≤ len ∧ i = .int .i64 (k : Int) ∧ Hid (∃ ys : List (Rot len), ys.length = k ∧ J ys wr) ∧ W.heap.size ≤ wr.heap.size ∧ wr.heap[b]? = W.heap[b]? ∧ wr.cell? ⟨Bs, 0, none⟩ = some (.slice (some ⟨b, off, none⟩) len cap))
    (fun i _ => len - (intOf i).toNat)
  case atStart => exact ⟨0, Nat.zero_le _, rfl, Lib.hid ⟨[], rfl, h0⟩, Nat.le_refl _, rfl, hBs⟩
  case round =>
    obtain ⟨k, hk, rfl, hys, hsz, hbk, hBr⟩ := hrel
    have hBw : Bs < wr.heap.size := by omega
    have HBK := Lib.hid hbk
    clear hbk
    by_cases hlt : k < len
    · have HR := Lib.hid (iRt_any b off cap len k xs wr (by omega) (cells_kept HC.out HBK.out) HL.out hcap hlt hl)
      gi_wp2_with fail
      refine ⟨trivial, fun h => (by cases h), ?_⟩
      refine (callsIn_wide.2 HR.out).mono ?_
      rintro e w5 ⟨v, rfl, o5, b5⟩
      obtain ⟨ys, hyl, hyJ⟩ := hys.out
      obtain ⟨fn, tmps, assign, body, hy, hR⟩ := hY ys (⟨k, hlt⟩, v) w5 (hJ _ _ _ hyJ b5) ⟨hyl.symm, own_base o5 (by omega)⟩
      simp only [rtE] at hy
      have HRn := Lib.hid hR
      have HYL := Lib.hid hyl
      have HBx := Lib.hid ((b5.cell (p := ⟨Bs, 0, none⟩) hBw).trans hBr)
      have HSx := b5.size
      clear hys hyl hyJ hR
      gi_wp2_with fail
      refine ⟨fun h => (by cases h), ?_⟩
      refine HRn.out.mono ?_
      rintro e W3 (⟨rfl, hJ3, hk3⟩ | ⟨rfl, hJx3⟩)
      · have hB3 : W3.cell? ⟨Bs, 0, none⟩ = some (.slice (some ⟨b, off, none⟩) len cap) := (World.cell?_of_block (w := w5) hk3.2.2).trans HBx.out
        have hs3 := hk3.1
        have HJ3 := Lib.hid hJ3
        have HK3 := Lib.hid (hk3.2.1.trans ((b5.block b (by omega)).trans HBK.out))
        clear hJ3 hk3
        gi_wp2_with fail
        go_roundw
        case rel =>
          exact ⟨k + 1, by omega, by go_num, Lib.hid ⟨_, by rw [List.length_append, HYL.out]; rfl, HJ3.out⟩, by omega, HK3.out, hB3⟩
        case measure => first | (simp [intOf]; done) | (simp [intOf]; omega)
      · have HJx := Lib.hid hJx3
        clear hJx3
        gi_wp2_with fail
        refine bodyPost_ret (results_none rfl _ _ _) rfl ?_
        exact ⟨⟨_, rfl⟩, .inr ⟨_, trivial, HJx.out⟩⟩
    · obtain rfl : k = len := by omega
      gi_wp2_with fail
      go_end0
      obtain ⟨ys, hyl, hyJ⟩ := hys.out
      exact ⟨⟨_, rfl⟩, .inl ⟨ys, hyl, hyJ⟩⟩

set_option maxHeartbeats 1000000 in
theorem rots_in (n : Nat) (a : Option Addr) (len cap : Nat) (w : World) :
    CallsIn Fence.wide n Try.prog 37 #[.slice a len cap] w fun e w' => e = .returned (.func (.func 58) #[] #[.pointer (some ⟨w.heap.size, 0, none⟩)]) ∧ w' = w.alloc (.cells #[.slice a len cap] 24) := by
  refine callsIn_of_wp Try.func37 rfl trivial ?_ rfl
  simp only [Try.ntmps37, List.size_toArray, List.length_cons, List.length_nil, Nat.reduceAdd, Nat.reduceSub, Array.replicate_succ, Array.replicate_zero, List.push_toArray, List.append_toArray, List.nil_append, List.cons_append]
  gi_wp2
  go_ret
  exact ⟨rfl, rfl⟩

theorem rots_made (n Bs n₀ b off len cap : Nat) (xs : List Int) (hxl : xs.length = len) (hl : len ≤ 1048576) (hcap : len ≤ cap) (w : World) (hb : b < w.heap.size) (hn₀ : n₀ ≤ w.heap.size) (hBs : Bs < w.heap.size)
    (hB : w.cell? ⟨Bs, 0, none⟩ = some (.slice (some ⟨b, off, none⟩) len cap)) (hc : Cells w b off xs) :
    SeqMade Fence.wide n Try.prog 58 #[.pointer (some ⟨Bs, 0, none⟩)] (fun x : Rot len => rtE x) (Kr b Bs) (Yr n₀ xs) (fun ys => ys.length = len) (fun _ => True) w := fun l J Jx W hW hJ _ hY h0 =>
  rots1_in n l Bs n₀ b off len cap xs hxl hl hcap J Jx hJ hY W (Nat.lt_of_lt_of_le hb hW.size) (Nat.le_trans hn₀ hW.size) (Nat.lt_of_lt_of_le hBs hW.size) ((hW.cell (p := ⟨Bs, 0, none⟩) hBs).trans hB) (cells_below hc hW (by omega)) h0
end Go.Proofs.Ytnhobilmgefhnaa
