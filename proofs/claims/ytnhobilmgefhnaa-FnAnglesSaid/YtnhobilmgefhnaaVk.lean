/- The least of several lists: slices.Compare, slices.MinFunc. -/
import Derived.Test.YtnhobilmgefhnaaVh
namespace Go.Proofs.Ytnhobilmgefhnaa
open Go Go.RowKit

theorem lx_trans {xs ys zs : List Int} {n : Nat} (h : lx xs ys n) (k : lx ys zs n) : lx xs zs n := by
  obtain ⟨i, hi, h1, h2⟩ := h
  obtain ⟨j, hj, k1, k2⟩ := k
  rcases Nat.lt_trichotomy i j with h | h | h
  · exact ⟨i, hi, by rw [← k2 i h]; exact h1, fun m hm => (h2 m hm).trans (k2 m (by omega))⟩
  · subst h; exact ⟨i, hi, by omega, fun m hm => (h2 m hm).trans (k2 m hm)⟩
  · exact ⟨j, hj, by rw [h2 j h]; exact k1, fun m hm => (h2 m (by omega)).trans (k2 m hm)⟩

set_option maxHeartbeats 1000000 in
theorem nan_no (x : Int) (w : World) : Calls Try.prog 77 #[.int .i64 x] w (RetV (.bool false) w) := by
  have e : (x != x) = false := by simp
  go_enter Try.func77, Try.ntmps77
  go_wp2_with fail
  go_ret
  exact ⟨rfl, rfl⟩
set_option maxHeartbeats 1000000 in
theorem cmpI_any (x y z : Int) (hz : (x < y ∧ z = -1) ∨ (y < x ∧ z = 1) ∨ (x = y ∧ z = 0)) (w : World) : Calls Try.prog 60 #[.int .i64 x, .int .i64 y] w (RetV (.int .i64 z) w) := by
  have H1 := Lib.hid (nan_no x)
  have H2 := Lib.hid (nan_no y)
  rcases hz with ⟨h, rfl⟩ | ⟨h, rfl⟩ | ⟨h, rfl⟩
  · have h1 : decide (x < y) = true := decide_eq_true h
    go_enter Try.func60, Try.ntmps60
    go_wp2_with fail
    refine (H1.out _).mono ?_
    rintro e w1 ⟨rfl, rfl⟩
    go_wp2_with fail
    refine (H2.out _).mono ?_
    rintro e w1 ⟨rfl, rfl⟩
    go_wp2_with fail
    go_ret
    exact ⟨rfl, rfl⟩
  · have h1 : decide (x < y) = false := decide_eq_false (by omega)
    have h2 : decide (y < x) = true := decide_eq_true h
    have h3 : ¬ x < y := by omega
    go_enter Try.func60, Try.ntmps60
    go_wp2_with fail
    refine (H1.out _).mono ?_
    rintro e w1 ⟨rfl, rfl⟩
    go_wp2_with fail
    refine (H2.out _).mono ?_
    rintro e w1 ⟨rfl, rfl⟩
    go_wp2_with fail
    go_ret
    exact ⟨rfl, rfl⟩
  · subst h
    have h3 : ¬ x < x := by omega
    go_enter Try.func60, Try.ntmps60
    go_wp2_with fail
    refine (H1.out _).mono ?_
    rintro e w1 ⟨rfl, rfl⟩
    go_wp2_with fail
    refine (H2.out _).mono ?_
    rintro e w1 ⟨rfl, rfl⟩
    go_wp2_with fail
    go_ret
    exact ⟨rfl, rfl⟩

/-- A number that is negative just if p holds. -/
def RetLt (p : Prop) (w : World) (e : Ending) (w' : World) : Prop := ∃ z : Int, e = .returned (.int .i64 z) ∧ (z < 0 ↔ p) ∧ w = w'

set_option maxHeartbeats 2000000 in
theorem iCmp_any (va vb : Value) (xs ys : List Int) (n : Nat) (hx : xs.length = n) (hy : ys.length = n) (hp : 0 < n) (hl : n ≤ 1048576) (w : World) (ha : Sl w w.heap.size va xs) (hb : Sl w w.heap.size vb ys) :
    Calls Try.prog 39 #[va, vb] w (RetLt (lx xs ys n) w) := by
  obtain ⟨b1, o1, c1, rfl, hc1, hb1, C1⟩ := sl_at ha hx hp
  obtain ⟨b2, o2, c2, rfl, hc2, hb2, C2⟩ := sl_at hb hy hp
  have HC1 := Lib.hid C1
  have HC2 := Lib.hid C2
  have HX := Lib.hid hx
  have HY := Lib.hid hy
  clear C1 C2 hx hy ha hb
  go_enter Try.func39, Try.ntmps39
  go_wp2_with fail
  go_loopw [11] (fun i wr => ∃ k : Nat, k ≤ n ∧ i = .int .i64 k ∧ Hid (∀ j, j < k → nth xs j = nth ys j) ∧ wr = w) (fun i _ => n - (intOf i).toNat)
  case atStart => exact ⟨0, Nat.zero_le _, rfl, Lib.hid (fun j hj => absurd hj (by omega)), rfl⟩
  case round =>
    obtain ⟨k, hk, rfl, hall, hw⟩ := hrel
    replace hw := hw.symm
    subst hw
    by_cases hlt : k < n
    · have x1 := HC1.out k (by rw [HX.out]; exact hlt)
      have x2 := HC2.out k (by rw [HY.out]; exact hlt)
      rcases Int.lt_trichotomy (nth xs k) (nth ys k) with h | h | h
      · have HK := Lib.hid (cmpI_any (nth xs k) (nth ys k) (-1) (.inl ⟨h, rfl⟩))
        have HS := Lib.hid h
        clear h
        go_wp2_with fail
        refine (HK.out _).mono ?_
        rintro e w1 ⟨rfl, rfl⟩
        go_wp2_with fail
        go_ret
        exact ⟨-1, rfl, iff_of_true (by omega) ⟨k, hlt, HS.out, hall.out⟩, by first | rfl | trivial⟩
      · have HK := Lib.hid (cmpI_any (nth xs k) (nth ys k) 0 (.inr (.inr ⟨h, rfl⟩)))
        have HE := Lib.hid (show ∀ j, j < k + 1 → nth xs j = nth ys j from fun j hj => by
          rcases Nat.lt_or_ge j k with h' | h'
          · exact hall.out j h'
          · obtain rfl : j = k := by omega
            exact h)
        clear h
        go_wp2_with fail
        refine (HK.out _).mono ?_
        rintro e w1 ⟨rfl, rfl⟩
        go_wp2_with fail
        go_roundw
        case rel => exact ⟨k + 1, by omega, by go_num, HE, by first | rfl | trivial⟩
        case measure => simp [intOf]; omega
      · have HK := Lib.hid (cmpI_any (nth xs k) (nth ys k) 1 (.inr (.inl ⟨h, rfl⟩)))
        have HS := Lib.hid h
        clear h
        go_wp2_with fail
        refine (HK.out _).mono ?_
        rintro e w1 ⟨rfl, rfl⟩
        go_wp2_with fail
        go_ret
        refine ⟨1, rfl, iff_of_false (by omega) ?_, by first | rfl | trivial⟩
        rintro ⟨i, hi, h1, h2⟩
        have hh := HS.out
        rcases Nat.lt_trichotomy i k with h | h | h
        · have := hall.out i h; omega
        · subst h; omega
        · have := h2 k h; omega
    · obtain rfl : k = n := by omega
      go_wp2_with fail
      go_ret
      exact ⟨0, rfl, iff_of_false (by omega) (fun ⟨i, hi, h1, _⟩ => by have := hall.out i hi; omega), by first | rfl | trivial⟩

/-- The slice v owns slices that own the lists ls. -/
def Ls (W : World) (n₀ : Nat) (v : Value) (ls : List (List Int)) : Prop :=
  ∃ vs : List Value, W.ownsRow n₀ 24 1 v ls.length vs ∧ ∀ i (h : i < ls.length), ∃ u, vs[i]? = some u ∧ OwnI W n₀ u ls[i]

/-- m is the least of ls. -/
def IsMin (n : Nat) (ls : List (List Int)) (m : List Int) : Prop := m ∈ ls ∧ ∀ x ∈ ls, ¬ lx x m n

set_option maxHeartbeats 4000000 in
theorem minF_any (n : Nat) (v : Value) (ls : List (List Int)) (n₀ : Nat) (hp : 0 < n) (hl : n ≤ 1048576) (h0 : 0 < ls.length) (h1 : ls.length ≤ 1048576) (hls : ∀ x ∈ ls, x.length = n) (w : World) (h : Ls w n₀ v ls) :
    Calls Try.prog 38 #[v, .func (.func 39) #[] #[]] w fun e w' => ∃ u m, e = .returned u ∧ IsMin n ls m ∧ OwnI w n₀ u m ∧ w' = w := by
  obtain ⟨vs, hrow, hat⟩ := h
  obtain ⟨N, hN⟩ : ∃ N, ls.length = N := ⟨_, rfl⟩
  have hcell : ∃ g cap, v = .slice (some ⟨g, 0, none⟩) N cap ∧ ∀ i u, vs[i]? = some u → w.cell? ⟨g, i, none⟩ = some u := by
    rw [hN] at hrow
    have hr' : w.ownsRow n₀ 24 1 v (N - 1 + 1) vs := by rw [show N - 1 + 1 = N by omega]; exact hrow
    obtain ⟨g, cap, rfl⟩ := ownsRow_succ hr'
    refine ⟨g, cap, by rw [show N - 1 + 1 = N by omega], fun i u hu => ?_⟩
    have := hr'.cells (g := g) rfl i u hu
    have hadd : (⟨g, 0, none⟩ : Addr).add i = ⟨g, i, none⟩ := by unfold Addr.add; split <;> simp_all
    rw [hadd] at this
    exact this
  obtain ⟨g, cap, rfl, hcs⟩ := hcell
  have hget : ∀ i, i < N → ∃ (x : List Int) (u : Value), ls[i]? = some x ∧ w.cell? ⟨g, i, none⟩ = some u ∧ OwnI w n₀ u x ∧ x.length = n ∧ x ∈ ls := by
    intro i hi
    obtain ⟨u, hu, ho⟩ := hat i (by omega)
    exact ⟨ls[i]'(by omega), u, List.getElem?_eq_getElem _, hcs i u hu, ho, hls _ (List.getElem_mem _), List.getElem_mem _⟩
  have HG := Lib.hid hget
  have HN := Lib.hid hN
  rw [hN] at h0 h1
  obtain ⟨x0, u0, hx0, hu0, ho0, hxl0, hxm0⟩ := hget 0 h0
  have HX0 := Lib.hid hx0
  have HO0 := Lib.hid ho0
  have HL0 := Lib.hid hxl0
  have hN1 : 1 ≤ N := h0
  clear hat hcs hget hN hls hrow hx0 ho0 hxl0 hxm0
  go_enter Try.func38, Try.ntmps38
  go_wp2_with fail
  go_loopw [5, 6] (fun q i wr => ∃ k : Nat, 1 ≤ k ∧ k ≤ N ∧ i = .int .i64 k ∧ Hid (∃ m, m ∈ ls ∧ m.length = n ∧ OwnI w n₀ q m ∧ ∀ j x, j < k → ls[j]? = some x → ¬ lx x m n) ∧ wr = w) (fun _ i _ => N - (intOf i).toNat)
  case atStart =>
    refine ⟨1, Nat.le_refl _, hN1, rfl, Lib.hid ⟨x0, List.mem_of_getElem? HX0.out, HL0.out, HO0.out, fun j x hj hx => ?_⟩, rfl⟩
    obtain rfl : j = 0 := by omega
    rw [HX0.out] at hx
    cases hx
    exact lx_irrefl
  case round =>
    obtain ⟨k, hk1, hk, rfl, hm, hw⟩ := hrel
    replace hw := hw.symm
    subst hw
    by_cases hlt : k < N
    · obtain ⟨x, u, hx, hu, ho, hxl, hxm⟩ := HG.out k hlt
      obtain ⟨m, hmm, hml, hmo, hmin⟩ := hm.out
      have HC := Lib.hid (iCmp_any u u5 x m n hxl hml hp hl w ho.sl hmo.sl)
      have HX := Lib.hid hx
      have HO := Lib.hid ho
      have HL := Lib.hid hxl
      have HM := Lib.hid hxm
      have Hmm := Lib.hid hmm
      have Hml := Lib.hid hml
      have Hmo := Lib.hid hmo
      have Hmin := Lib.hid hmin
      clear hx ho hxl hxm hmm hml hmo hmin hm
      go_wp2_with fail
      refine (HC.out).mono ?_
      rintro e w1 ⟨z, rfl, hz, rfl⟩
      by_cases h2 : z < 0
      · have HZ := Lib.hid (hz.1 h2)
        clear hz
        go_wp2_with fail
        go_roundw
        case rel =>
          refine ⟨k + 1, by omega, by omega, by go_num, Lib.hid ⟨x, HM.out, HL.out, HO.out, fun j y hj hy hlx => ?_⟩, by first | rfl | trivial⟩
          rcases Nat.lt_or_ge j k with h | h
          · exact Hmin.out j y h hy (lx_trans hlx HZ.out)
          · obtain rfl : j = k := by omega
            rw [HX.out] at hy
            cases hy
            exact lx_irrefl hlx
        case measure => simp [intOf]; omega
      · have HZ := Lib.hid (fun h => h2 (hz.2 h))
        clear hz
        go_wp2_with fail
        go_roundw
        case rel =>
          refine ⟨k + 1, by omega, by omega, by go_num, Lib.hid ⟨m, Hmm.out, Hml.out, Hmo.out, fun j y hj hy => ?_⟩, by first | rfl | trivial⟩
          rcases Nat.lt_or_ge j k with h | h
          · exact Hmin.out j y h hy
          · obtain rfl : j = k := by omega
            rw [HX.out] at hy
            cases hy
            exact HZ.out
        case measure => simp [intOf]; omega
    · obtain rfl : k = N := by omega
      have HM := Lib.hid hm.out
      clear hm
      go_wp2_with fail
      go_ret
      obtain ⟨m, hmm, hml, hmo, hmin⟩ := HM.out
      refine ⟨_, m, rfl, ⟨hmm, fun x hx => ?_⟩, hmo, by first | rfl | trivial⟩
      obtain ⟨j, hj, rfl⟩ := List.getElem_of_mem hx
      exact hmin j _ (by rw [← HN.out]; exact hj) (List.getElem?_eq_getElem hj)
end Go.Proofs.Ytnhobilmgefhnaa
