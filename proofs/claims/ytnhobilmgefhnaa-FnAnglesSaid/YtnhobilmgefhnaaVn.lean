/- Drawn sector lists: whatever the bytes, they are valid. -/
import Derived.Test.YtnhobilmgefhnaaSr
import Derived.Test.YtnhobilmgefhnaaVg
namespace Go.Proofs.Ytnhobilmgefhnaa
open Go Go.RowKit OriM

theorem srcAt_congr {w w' : World} {B : Nat} {v : Value} {m : Nat} (h : SrcAt w B v m) (hb : w'.heap[B]? = w.heap[B]?) : SrcAt w' B v m := by
  have hc : ∀ o, w'.cell? ⟨B, o, none⟩ = w.cell? ⟨B, o, none⟩ := fun o => World.cell?_of_block (a := ⟨B, o, none⟩) hb
  have hf : ∀ o, w'.frozen? ⟨B, o, none⟩ = w.frozen? ⟨B, o, none⟩ := fun o => World.frozen?_of_block (a := ⟨B, o, none⟩) hb
  obtain ⟨c0, ⟨n, s, c1, c2, r⟩, f1, f2⟩ := h
  exact ⟨by rw [hc]; exact c0, ⟨n, s, by rw [hc]; exact c1, by rw [hc]; exact c2, r⟩, by rw [hf]; exact f1, by rw [hf]; exact f2⟩
theorem srcAt_lt {w : World} {B : Nat} {v : Value} {m : Nat} (h : SrcAt w B v m) : B < w.heap.size := World.block_lt_of_cell? w _ h.1
theorem srcAt_mono {w : World} {B : Nat} {v : Value} {m m' : Nat} (h : SrcAt w B v m) (hm : m ≤ m') : SrcAt w B v m' := by
  obtain ⟨c0, ⟨n, s, c1, c2, n0, n1, s0, s1⟩, f1, f2⟩ := h
  exact ⟨c0, ⟨n, s, c1, c2, n0, by omega, s0, s1⟩, f1, f2⟩

/-- The source and its bytes, at most m numbers drawn. -/
structure Src (w : World) (B : Nat) (v : Value) (m : Nat) : Prop where
  at_ : SrcAt w B v m
  code : CodeAt w B v
theorem Src.fresh {w w' : World} {B : Nat} {v : Value} {m : Nat} (h : Src w B v m) (hf : Below w.heap.size w w') : Src w' B v m :=
  ⟨srcAt_congr h.at_ (hf.block B (srcAt_lt h.at_)), h.code.touch (.ofBelow hf)⟩
theorem Src.grown {w w' : World} {B : Nat} {v : Value} {m : Nat} {row : Option Nat} (h : Src w B v m) (hg : w.grownBy w' row) (hr : ∀ k, row = some k → k ≠ B ∧ ∀ o c a n, 0 < n → v = .slice (some ⟨k, o, a⟩) n c → False) : Src w' B v m := by
  have hB := srcAt_lt h.at_
  refine ⟨srcAt_congr h.at_ (hg.block B hB (fun e => (hr B e.symm).1 rfl)), ?_⟩
  rcases h.code with hc | ⟨b, o, n, c, rfl, hb, hs, hn, hcell⟩
  · exact .inl hc
  · have hk : 0 < n → w'.heap[b]? = w.heap[b]? := fun hn0 => hg.block b hs (fun e => (hr b e.symm).2 o c none n hn0 rfl)
    refine .inr ⟨b, o, n, c, rfl, hb, Nat.lt_of_lt_of_le hs hg.size, hn, fun i hi => ?_⟩
    obtain ⟨x, hx, h0, h1⟩ := hcell i hi
    exact ⟨x, by rw [World.cell?_of_block (w := w) (hk (by omega))]; exact hx, h0, h1⟩
theorem Src.mono {w : World} {B : Nat} {v : Value} {m m' : Nat} (h : Src w B v m) (hm : m ≤ m') : Src w B v m' := ⟨srcAt_mono h.at_ hm, h.code⟩
theorem Touch.grown {B : Nat} {a w w' : World} {row : Option Nat} (h : Touch B a w) (hg : w.grownBy w' row) (hr : ∀ k, row = some k → a.heap.size ≤ k) : Touch B a w' :=
  ⟨hg.os.trans h.os, hg.tape.trans h.tape, hg.output.trans h.output, Nat.le_trans h.size hg.size, fun k hk hB => (hg.block k (Nat.lt_of_lt_of_le hk h.size) (fun e => by have := hr k e.symm; omega)).trans (h.block k hk hB)⟩
/-- A row of the call's own abides what touches the source. -/
theorem own_touch {w w' : World} {B base : Nat} {e : TypeId} {size : Nat} {v : Value} {n : Nat} {xs : List Value} (h : w.ownsRow base e size v n xs) (t : Touch B w w') (hB : B < base) : w'.ownsRow base e size v n xs := by
  refine ⟨h.1, ?_⟩
  rcases h.2 with hn | ⟨g, cap, cur, rfl, hb, hg, rest⟩
  · exact .inl hn
  · exact .inr ⟨g, cap, cur, rfl, hb, by rw [t.block g (Array.getElem?_eq_some_iff.1 hg).1 (by omega)]; exact hg, rest⟩

/-- A number within bounds; the source has moved on. -/
def PickR (B : Nat) (v : Value) (m : Nat) (hi : Int) (w : World) (e : Ending) (w' : World) : Prop := ∃ r : Int, e = .returned (.int .i64 r) ∧ 0 ≤ r ∧ r ≤ hi ∧ Src w' B v m ∧ Touch B w w'
set_option maxHeartbeats 1000000 in
theorem pick_any (B : Nat) (v : Value) (m : Nat) (n : Int) (w : World) (h : Src w B v m) (hm : m ≤ 1099511627776) (n1 : 1 ≤ n) (n2 : n ≤ 200) :
    Calls Try.prog 52 #[.pointer (some ⟨B, 0, none⟩), .int .i64 n] w (PickR B v (m + 1) (n - 1) w) := by
  by_cases h1 : 1 < n
  · refine (pick_small B v m n w h.at_ h.code hm h1 n2).mono ?_
    rintro e w' ⟨r, rfl, r0, r1, hS, hT⟩
    exact ⟨r, rfl, r0, r1, ⟨hS, h.code.touch hT⟩, hT⟩
  · obtain rfl : n = 1 := by omega
    have H := Lib.hid (h.mono (Nat.le_succ m))
    clear h hm h1
    go_enter Try.func52, Try.ntmps52
    go_wp2_with fail
    go_ret
    exact ⟨0, rfl, by omega, by omega, H.out, Touch.refl _ _⟩
def OneR (B : Nat) (v : Value) (m : Nat) (w : World) (e : Ending) (w' : World) : Prop := ∃ b : Bool, e = .returned (.bool b) ∧ Src w' B v m ∧ Touch B w w'
theorem one_any (B : Nat) (v : Value) (m : Nat) (n : Int) (w : World) (h : Src w B v m) (hm : m ≤ 1099511627776) (n1 : 1 < n) (n2 : n ≤ 200) :
    Calls Try.prog 30 #[.pointer (some ⟨B, 0, none⟩), .int .i64 n] w (OneR B v (m + 1) w) := by
  refine (one_small B v m n w h.at_ h.code hm n1 n2).mono ?_
  rintro e w' ⟨b, rfl, hS, hT⟩
  exact ⟨b, rfl, ⟨hS, h.code.touch hT⟩, hT⟩

set_option maxHeartbeats 1000000 in
theorem min_any (a b : Int) (w : World) : Calls Try.prog 74 #[.int .i64 a, .int .i64 b] w fun e w' => (∃ r : Int, e = .returned (.int .i64 r) ∧ r ≤ a ∧ r ≤ b ∧ (r = a ∨ r = b)) ∧ w = w' := by
  by_cases h : a < b
  · have h1 : decide (a < b) = true := decide_eq_true h
    go_enter Try.func74, Try.ntmps74
    go_wp2_with fail
    go_ret
    exact ⟨⟨a, rfl, by omega, by omega, .inl rfl⟩, rfl⟩
  · have h1 : decide (a < b) = false := decide_eq_false h
    go_enter Try.func74, Try.ntmps74
    go_wp2_with fail
    go_ret
    exact ⟨⟨b, rfl, by omega, by omega, .inr rfl⟩, rfl⟩

/-- A list of so many parts of at least 1, with this sum, in memory of the call's own. -/
def Parts (B : Nat) (v : Value) (m : Nat) (n : Nat) (sum : Int) (w : World) (e : Ending) (w' : World) : Prop :=
  ∃ u xs, e = .returned u ∧ OwnI w' w.heap.size u xs ∧ xs.length = n ∧ (∀ x ∈ xs, 1 ≤ x) ∧ xs.sum = sum ∧ Src w' B v m ∧ Touch B w w'

set_option maxRecDepth 100000 in
set_option maxHeartbeats 4000000 in
theorem parts_any (B : Nat) (v : Value) (m n : Nat) (sum : Int) (w : World) (h : Src w B v m) (hm : m + 40 ≤ 1099511627776) (n1 : 1 ≤ n) (n2 : (n : Int) ≤ sum) (n3 : sum ≤ 16)
    (hv : ∀ (k : Nat) o c a n', 0 < n' → w.heap.size ≤ k → v = .slice (some ⟨k, o, a⟩) n' c → False) :
    Calls Try.prog 53 #[.pointer (some ⟨B, 0, none⟩), .int .i64 (n : Int), .int .i64 sum] w (Parts B v (m + 40) n sum w) := by
  have HW := Lib.hid (World.ownsRow_lit (base := w.heap.size) (e := 2) (size := 1) w #[] 0 (Nat.le_refl _) (by decide) rfl)
  have HB := srcAt_lt h.at_
  have HS := Lib.hid (h.fresh ((Below.refl w.heap.size w).alloc (Nat.le_refl _) (.cells #[] 2)))
  have HV := Lib.hid hv
  clear h hv
  obtain ⟨i0, hi, hz0, hz1, hz2⟩ := info_parts infoI64
  go_enter Try.func53, Try.ntmps53
  go_wp2_with fail
  go_loopw [1, 2, 7] (fun i q z wr => ∃ (k : Nat) (xs : List Int) (s : Int), 1 ≤ k ∧ i = .int .i64 (k : Int) ∧ q = .int .i64 s ∧ Hid (xs.length + k = n) ∧ Hid ((∀ x ∈ xs, 1 ≤ x) ∧ xs.sum + s = sum) ∧ (k : Int) ≤ s ∧ s ≤ 16 ∧ OwnI wr w.heap.size z xs ∧ Hid (Src wr B v (m + 2 * xs.length)) ∧ Hid (Touch B w wr)) (fun i _ _ _ => (intOf i).toNat)
  case atStart => exact ⟨n, [], sum, n1, rfl, rfl, Lib.hid (by simp), Lib.hid ⟨fun x hx => (by cases hx), by simp⟩, n2, n3, HW.out, Lib.hid HS.out, Lib.hid (Touch.alloc (Touch.refl _ _) _)⟩
  case round =>
    obtain ⟨k, xs, s, hk, rfl, rfl, hkn, hxs, hks, hs16, hown, hsrc, htch⟩ := hrel
    have htz := htch.out.size
    have hn16 : xs.length + k ≤ 16 := by have := hkn.out; omega
    by_cases h1 : 1 < k
    · have HP1 := Lib.hid (pick_any B v (m + 2 * xs.length) 6 wr hsrc.out (by omega) (by omega) (by omega))
      have e1 : IntKind.i64.wrap (s - (k : Int)) = s - (k : Int) := IntWalk.i64_in _ (by omega)
      have e2 : IntKind.i64.wrap (s - (k : Int) + 1) = s - (k : Int) + 1 := IntWalk.i64_in _ (by omega)
      have HX := Lib.hid hown
      go_wp2_with fail
      refine (HP1.out).mono ?_
      rintro e w1 ⟨r, rfl, r0, r1, hs1, ht1⟩
      have e3 : IntKind.i64.wrap (1 + r) = 1 + r := IntWalk.i64_in _ (by omega)
      have HT1 := Lib.hid (htch.out.trans ht1)
      have HX1 := Lib.hid (own_touch HX.out ht1 (by omega))
      have HM := Lib.hid (min_any (s - (k : Int) + 1) (1 + r))
      have HS1 := Lib.hid hs1
      clear hs1 ht1 HX hown
      go_wp2_with fail
      refine (HM.out _).mono ?_
      rintro e w2 ⟨⟨y, rfl, y1, y2, y3⟩, rfl⟩
      have y0 : 1 ≤ y := by omega
      have HP2 := Lib.hid (pick_any B v (m + 2 * xs.length + 1) y w1 HS1.out (by omega) y0 (by omega))
      clear y3
      go_wp2_with fail
      refine (HP2.out).mono ?_
      rintro e w3 ⟨x, rfl, x0, x1, hs3, ht3⟩
      have e4 : IntKind.i64.wrap (1 + x) = 1 + x := IntWalk.i64_in _ (by omega)
      have e5 : IntKind.i64.wrap (s - (1 + x)) = s - (1 + x) := IntWalk.i64_in _ (by omega)
      have HT3 := Lib.hid (HT1.out.trans ht3)
      have hown3 : w3.ownsRow w.heap.size 2 1 u7 xs.length (xs.map (Value.int .i64)) := own_touch HX1.out ht3 (by omega)
      have HS3 := Lib.hid hs3
      have hz3 := HT3.out.size
      obtain ⟨p, hp⟩ : ∃ p, 1 + x = p := ⟨_, rfl⟩
      rw [hp] at e4 e5
      clear hs3 ht3
      go_wp2_with (at_builtin; refine wpList_append_own _ rfl _ _ 24 rfl w.heap.size 2 i0 (.int .i64 0) 1 8 Try.underlying24 hi hz0 hz1 hz2 rfl (by decide) _ _ _ rfl (hown3.alloc _) ⟨w3.heap.size, 0, none⟩ 1 1 [.int .i64 p] rfl rfl (cell_one_new _ _ _) (by simp [Value.oneCell']) (by unfold maxLen; omega) (by omega) (by simp; omega) ?_; intro v' w4 hown4 hgrow4 _)
      have hrow : ∀ k, Value.ownBlock u7 = some k → w.heap.size ≤ k := fun k hk => (own_row hown3 k hk).1
      have HT4 := Lib.hid ((HT3.out.alloc (.cells #[.int .i64 p] 2)).grown hgrow4 hrow)
      have HS4 := Lib.hid ((HS3.out.fresh ((Below.refl _ w3).alloc (Nat.le_refl _) (.cells #[.int .i64 p] 2))).grown hgrow4 (fun k hk => ⟨by have := hrow k hk; omega, fun o c a n' hn e => HV.out k o c a n' hn (hrow k hk) e⟩))
      clear hgrow4
      go_wp2_with fail
      go_roundw
      case rel =>
        refine ⟨k - 1, xs ++ [p], s - p, by omega, by go_num, rfl, Lib.hid (by have := hkn.out; simp; omega), Lib.hid ⟨fun y hy => ?_, ?_⟩, by omega, by omega, ?_, Lib.hid (HS4.out.mono (by simp; omega)), HT4⟩
        · rcases List.mem_append.1 hy with h | h
          · exact hxs.out.1 y h
          · have : y = p := by simpa using h
            omega
        · have := hxs.out.2
          simp
          omega
        · unfold OwnI
          rw [List.map_append, List.length_append]
          exact hown4
      case measure => simp [intOf]; omega
    · obtain rfl : k = 1 := by omega
      have HSR := Lib.hid hsrc.out
      have HTC := Lib.hid htch.out
      have hrow : ∀ k, Value.ownBlock u7 = some k → w.heap.size ≤ k := fun k hk => (own_row hown k hk).1
      have hown' : wr.ownsRow w.heap.size 2 1 u7 xs.length (xs.map (Value.int .i64)) := hown
      clear hown
      go_wp2_with (at_builtin; refine wpList_append_own _ rfl _ _ 24 rfl w.heap.size 2 i0 (.int .i64 0) 1 8 Try.underlying24 hi hz0 hz1 hz2 rfl (by decide) _ _ _ rfl (hown'.alloc _) ⟨wr.heap.size, 0, none⟩ 1 1 [.int .i64 s] rfl rfl (cell_one_new _ _ _) (by simp [Value.oneCell']) (by unfold maxLen; omega) (by omega) (by simp; omega) ?_; intro v' w4 hown4 hgrow4 _)
      have HT4 := Lib.hid ((HTC.out.alloc (.cells #[.int .i64 s] 2)).grown hgrow4 hrow)
      have HS4 := Lib.hid ((HSR.out.fresh ((Below.refl _ wr).alloc (Nat.le_refl _) (.cells #[.int .i64 s] 2))).grown hgrow4 (fun k hk => ⟨by have := hrow k hk; omega, fun o c a n' hn e => HV.out k o c a n' hn (hrow k hk) e⟩))
      clear hgrow4
      go_wp2_with fail
      go_ret
      refine ⟨v', xs ++ [s], rfl, ?_, by have := hkn.out; simp; omega, fun y hy => ?_, ?_, HS4.out.mono (by have := hkn.out; omega), HT4.out⟩
      · unfold OwnI
        rw [List.map_append, List.length_append]
        exact hown4
      · rcases List.mem_append.1 hy with h | h
        · exact hxs.out.1 y h
        · have : y = s := by simpa using h
          omega
      · have := hxs.out.2
        simp
        omega
end Go.Proofs.Ytnhobilmgefhnaa
