/- FnAngles' helpers on lists: same, less, has. -/
import Derived.Test.YtnhobilmgefhnaaVw
import Derived.Test.YtnhobilmgefhnaaVp
namespace Go.Proofs.Ytnhobilmgefhnaa
open Go Go.RowKit

set_option maxHeartbeats 2000000 in
theorem aLess_any (va vb : Value) (xs ys : List Int) (n : Nat) (hx : xs.length = n) (hy : ys.length = n) (hp : 0 < n) (hl : n ≤ 1048576) (w : World) (ha : Sl w w.heap.size va xs) (hb : Sl w w.heap.size vb ys) :
    Calls Try.prog 16 #[va, vb] w (RetPQ (lx xs ys n) w) := by
  obtain ⟨b1, o1, c1, rfl, hc1, hb1, C1⟩ := sl_at ha hx hp
  obtain ⟨b2, o2, c2, rfl, hc2, hb2, C2⟩ := sl_at hb hy hp
  have HC1 := Lib.hid C1
  have HC2 := Lib.hid C2
  have HX := Lib.hid hx
  have HY := Lib.hid hy
  clear C1 C2 hx hy ha hb
  go_enter Try.func16, Try.ntmps16
  go_wp2_with fail
  go_loopw [5] (fun i wr => ∃ k : Nat, k ≤ n ∧ i = .int .i64 k ∧ Hid (∀ j, j < k → nth xs j = nth ys j) ∧ Hid (∃ m, wr = w.drewN m)) (fun i _ => n - (intOf i).toNat)
  case atStart => exact ⟨0, Nat.zero_le _, rfl, Lib.hid (fun j hj => absurd hj (by omega)), Lib.hid ⟨0, rfl⟩⟩
  case round =>
    obtain ⟨k, hk, rfl, hall, hm⟩ := hrel
    have hcw : ∀ b o, wr.cell? ⟨b, o, none⟩ = w.cell? ⟨b, o, none⟩ := fun b o => by obtain ⟨m, e⟩ := hm.out; rw [e]; rfl
    by_cases hlt : k < n
    · have x1 := (hcw _ _).trans (HC1.out k (by rw [HX.out]; exact hlt))
      have x2 := (hcw _ _).trans (HC2.out k (by rw [HY.out]; exact hlt))
      clear hcw
      by_cases he : nth xs k = nth ys k
      · have HE := Lib.hid (show ∀ j, j < k + 1 → nth xs j = nth ys j from fun j hj => by
          rcases Nat.lt_or_ge j k with h | h
          · exact hall.out j h
          · obtain rfl : j = k := by omega
            exact he)
        have e1 : (nth xs k != nth ys k) = false := by simp [he]
        have e2 : (nth xs k == nth ys k) = true := by simp [he]
        clear he
        go_wp2_with fail
        go_quiet (fail)
        go_wp2_with fail
        go_roundw
        case rel => exact ⟨k + 1, by omega, by go_num, HE, Lib.hid (drew_more hm.out _)⟩
        case measure => simp [intOf]; omega
      · have HE := Lib.hid he
        have e1 : (nth xs k != nth ys k) = true := by simp [he]
        have e2 : (nth xs k == nth ys k) = false := by simp [he]
        by_cases hs : nth xs k < nth ys k
        · have e3 : decide (nth xs k < nth ys k) = true := decide_eq_true hs
          have HS := Lib.hid hs
          clear he hs
          go_wp2_with fail
          go_quiet (fail)
          go_wp2_with fail
          go_quiet (fail)
          go_wp2_with fail
          go_ret
          exact ⟨true, rfl, iff_of_true rfl ⟨k, hlt, HS.out, hall.out⟩, drew_more (drew_more hm.out _) _⟩
        · have e3 : decide (nth xs k < nth ys k) = false := decide_eq_false hs
          have HS := Lib.hid hs
          clear he hs
          go_wp2_with fail
          go_quiet (fail)
          go_wp2_with fail
          go_quiet (fail)
          go_wp2_with fail
          go_ret
          refine ⟨false, rfl, iff_of_false (by simp) ?_, drew_more (drew_more hm.out _) _⟩
          rintro ⟨i, hi, h1, h2⟩
          rcases Nat.lt_trichotomy i k with h | h | h
          · have := hall.out i h; omega
          · subst h; have := HS.out; omega
          · exact HE.out (h2 k h)
    · obtain rfl : k = n := by omega
      clear hcw
      go_wp2_with fail
      go_ret
      exact ⟨false, by first | rfl | simp, iff_of_false (by simp) (fun ⟨i, hi, h1, _⟩ => by have := hall.out i hi; omega), hm.out⟩

set_option maxHeartbeats 2000000 in
theorem aSame_any (va vb : Value) (xs ys : List Int) (n : Nat) (hx : xs.length = n) (hy : ys.length = n) (hp : 0 < n) (hl : n ≤ 1048576) (w : World) (ha : Sl w w.heap.size va xs) (hb : Sl w w.heap.size vb ys) :
    Calls Try.prog 11 #[va, vb] w (RetPQ (xs = ys) w) := by
  obtain ⟨b1, o1, c1, rfl, hc1, hb1, C1⟩ := sl_at ha hx hp
  obtain ⟨b2, o2, c2, rfl, hc2, hb2, C2⟩ := sl_at hb hy hp
  have HC1 := Lib.hid C1
  have HC2 := Lib.hid C2
  have HX := Lib.hid hx
  have HY := Lib.hid hy
  clear C1 C2 hx hy ha hb
  go_enter Try.func11, Try.ntmps11
  go_wp2_with fail
  go_loopw [5] (fun i wr => ∃ k : Nat, k ≤ n ∧ i = .int .i64 k ∧ Hid (∀ j, j < k → nth xs j = nth ys j) ∧ Hid (∃ m, wr = w.drewN m)) (fun i _ => n - (intOf i).toNat)
  case atStart => exact ⟨0, Nat.zero_le _, rfl, Lib.hid (fun j hj => absurd hj (by omega)), Lib.hid ⟨0, rfl⟩⟩
  case round =>
    obtain ⟨k, hk, rfl, hall, hm⟩ := hrel
    have hcw : ∀ b o, wr.cell? ⟨b, o, none⟩ = w.cell? ⟨b, o, none⟩ := fun b o => by obtain ⟨m, e⟩ := hm.out; rw [e]; rfl
    by_cases hlt : k < n
    · have x1 := (hcw _ _).trans (HC1.out k (by rw [HX.out]; exact hlt))
      have x2 := (hcw _ _).trans (HC2.out k (by rw [HY.out]; exact hlt))
      clear hcw
      by_cases he : nth xs k = nth ys k
      · have HE := Lib.hid (show ∀ j, j < k + 1 → nth xs j = nth ys j from fun j hj => by
          rcases Nat.lt_or_ge j k with h | h
          · exact hall.out j h
          · obtain rfl : j = k := by omega
            exact he)
        have e1 : (nth xs k != nth ys k) = false := by simp [he]
        have e2 : (nth xs k == nth ys k) = true := by simp [he]
        clear he
        go_wp2_with fail
        go_quiet (fail)
        go_wp2_with fail
        go_roundw
        case rel => exact ⟨k + 1, by omega, by go_num, HE, Lib.hid (drew_more hm.out _)⟩
        case measure => simp [intOf]; omega
      · have HE := Lib.hid he
        have e1 : (nth xs k != nth ys k) = true := by simp [he]
        have e2 : (nth xs k == nth ys k) = false := by simp [he]
        clear he
        go_wp2_with fail
        go_quiet (fail)
        go_wp2_with fail
        go_ret
        exact ⟨false, rfl, iff_of_false (by simp) (fun h => HE.out (by rw [h])), drew_more hm.out _⟩
    · obtain rfl : k = n := by omega
      clear hcw
      go_wp2_with fail
      go_ret
      exact ⟨true, rfl, iff_of_true rfl (ext_nth HX.out HY.out hall.out), hm.out⟩

theorem ls_cells {w : World} {n₀ N n : Nat} {v : Value} {ls : List (List Int)} (h : Ls w n₀ v ls) (hN : ls.length = N) (hls : ∀ x ∈ ls, x.length = n) : ∃ A cap, v = .slice A N cap ∧ ∀ i, i < N → ∃ g, A = some ⟨g, 0, none⟩ ∧ N ≤ cap ∧ ∃ (x : List Int) (u : Value), ls[i]? = some x ∧ w.cell? ⟨g, i, none⟩ = some u ∧ OwnI w n₀ u x ∧ x.length = n := by
  obtain ⟨vs, hrow, hat⟩ := h
  rw [hN] at hrow
  rcases hrow.2 with ⟨rfl, h0⟩ | ⟨g, cap, cur, rfl, hbg, hg, hnc, hrest⟩
  · subst h0; exact ⟨none, 0, rfl, fun i hi => absurd hi (by omega)⟩
  · refine ⟨some ⟨g, 0, none⟩, cap, rfl, fun i hi => ⟨g, rfl, hnc, ?_⟩⟩
    obtain ⟨u, hu, ho⟩ := hat i (by omega)
    refine ⟨ls[i]'(by omega), u, List.getElem?_eq_getElem _, ?_, ho, hls _ (List.getElem_mem _)⟩
    have := hrow.cells (g := g) rfl i u hu
    have hadd : (⟨g, 0, none⟩ : Addr).add i = ⟨g, i, none⟩ := by unfold Addr.add; split <;> simp_all
    rw [hadd] at this
    exact this
set_option maxHeartbeats 4000000 in
theorem aHas_any (n : Nat) (v vx : Value) (ls : List (List Int)) (ys : List Int) (n₀ : Nat) (hp : 0 < n) (hl : n ≤ 1048576) (h1 : ls.length ≤ 1048576) (hls : ∀ x ∈ ls, x.length = n) (hy : ys.length = n) (w : World) (h : Ls w n₀ v ls) (hx : Sl w w.heap.size vx ys) :
    Calls Try.prog 18 #[v, vx] w (RetPQ (ys ∈ ls) w) := by
  obtain ⟨N, hN⟩ : ∃ N, ls.length = N := ⟨_, rfl⟩
  obtain ⟨A, cap, rfl, hcs⟩ := ls_cells h hN hls
  have HG := Lib.hid hcs
  have HN := Lib.hid hN
  have HX := Lib.hid hx
  have HY := Lib.hid hy
  rw [hN] at h1
  clear hcs h hN hls hx hy
  go_enter Try.func18, Try.ntmps18
  go_wp2_with fail
  go_loopw [5] (fun i wr => ∃ k : Nat, k ≤ N ∧ i = .int .i64 k ∧ Hid (∀ j x, j < k → ls[j]? = some x → x ≠ ys) ∧ Hid (∃ m, wr = w.drewN m)) (fun i _ => N - (intOf i).toNat)
  case atStart => exact ⟨0, Nat.zero_le _, rfl, Lib.hid (fun j x hj => absurd hj (by omega)), Lib.hid ⟨0, rfl⟩⟩
  case round =>
    obtain ⟨k, hk, rfl, hall, hm⟩ := hrel
    by_cases hlt : k < N
    · obtain ⟨g, rfl, hcap, x, u, hx, hu, ho, hxl⟩ := HG.out k hlt
      have hcu : wr.cell? ⟨g, k, none⟩ = some u := by obtain ⟨m, e⟩ := hm.out; rw [e]; exact hu
      have hS : Sl wr wr.heap.size u x := by obtain ⟨m, e⟩ := hm.out; rw [e]; exact (OwnI.sl ho).drewN m
      have hSx : Sl wr wr.heap.size vx ys := by obtain ⟨m, e⟩ := hm.out; rw [e]; exact HX.out.drewN m
      have HC := Lib.hid (aSame_any u vx x ys n hxl HY.out hp hl wr hS hSx)
      have HXK := Lib.hid hx
      clear hS hSx hx ho hxl hu
      go_wp2_with fail
      refine (HC.out).mono ?_
      rintro e w1 ⟨r, rfl, hr, m1, rfl⟩
      have HR := Lib.hid hr
      clear hr
      cases r
      · go_wp2_with fail
        go_roundw
        case rel =>
          refine ⟨k + 1, by omega, by go_num, Lib.hid (fun j y hj hy => ?_), Lib.hid (drew_more hm.out _)⟩
          rcases Nat.lt_or_ge j k with h | h
          · exact hall.out j y h hy
          · obtain rfl : j = k := by omega
            rw [HXK.out] at hy
            cases hy
            intro e
            have := HR.out.2 e
            cases this
        case measure => simp [intOf]; omega
      · go_wp2_with fail
        go_ret
        refine ⟨true, rfl, iff_of_true rfl ?_, drew_more hm.out _⟩
        have := HR.out.1 (by trivial)
        subst this
        exact List.mem_of_getElem? HXK.out
    · obtain rfl : k = N := by omega
      go_wp2_with fail
      go_ret
      refine ⟨false, rfl, iff_of_false (by simp) (fun h => ?_), hm.out⟩
      obtain ⟨j, hj, e⟩ := List.getElem_of_mem h
      exact hall.out j ys (by rw [← HN.out]; exact hj) (by rw [List.getElem?_eq_getElem hj, e]) rfl
end Go.Proofs.Ytnhobilmgefhnaa
