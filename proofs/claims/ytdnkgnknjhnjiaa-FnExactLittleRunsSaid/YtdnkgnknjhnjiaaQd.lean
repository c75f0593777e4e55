/- Mirrored sector lists, on both sides. -/
import Derived.Test.YtdnkgnknjhnjiaaQc
namespace Go.Proofs.Ytdnkgnknjhnjiaa
open Go Go.RowKit

set_option maxHeartbeats 2000000 in
theorem clone_any (v : Value) (xs : List Int) (w : World) (h : Sl w w.heap.size v xs) (hp : 0 < xs.length) (hl : xs.length ≤ 1048576) :
    Calls Try.prog 72 #[v] w (RetO xs w) := by
  obtain ⟨A, c, rfl, hc, hcell⟩ := h
  obtain ⟨b, o, rfl, hb, hcs⟩ := hcell hp
  obtain ⟨n, hn⟩ : ∃ n, xs.length = n := ⟨_, rfl⟩
  have HW := Lib.hid (World.ownsRow_lit (base := w.heap.size) (e := 2) (size := 1) w #[] 0 (Nat.le_refl _) (by decide) rfl)
  have HC := Lib.hid (show Cells (w.alloc (.cells #[] 2)) b o xs from fun k hk => (World.cell?_alloc_past _ _ _ hb).trans (hcs k hk))
  rw [hn] at hl hc hp ⊢
  have HN := Lib.hid hn
  have hnil := fun w => Lib.run_eql_slice_nil (P := Try.prog) w 22 2 (some ⟨b, o, none⟩) n c 0 0 Try.underlying22
  clear hn hcs hcell
  obtain ⟨i0, hi, hz0, hz1, hz2⟩ := info_parts infoI64
  go_enter Try.func72, Try.ntmps72
  go_wp2_with (at_builtin; refine wpList_append_own _ rfl _ _ 22 rfl w.heap.size 2 i0 (.int .i64 0) 1 8 Try.underlying22 hi hz0 hz1 hz2 rfl (by decide) _ _ _ rfl HW.out ⟨b, o, none⟩ n c (xs.map (Value.int .i64)) rfl (by rw [List.length_map, HN.out, Nat.mul_one]) (sl_news HC.out) (ints_one xs) (by unfold maxLen; omega) (by omega) (by simp) ?_; intro v' w1 hown1 hgrow1 _)
  go_ret
  refine ⟨v', rfl, ?_, ?_⟩
  · have := HN.out
    subst this
    simpa using hown1
  · exact ((Below.refl w.heap.size w).alloc (Nat.le_refl _) _).grown hgrow1 (by simp) (fun k hk => by cases hk; exact Nat.le_refl _)

set_option maxHeartbeats 1000000 in
theorem iMir_any (v : Value) (xs : List Int) (w : World) (h : Sl w w.heap.size v xs) (hp : 0 < xs.length) (hl : xs.length ≤ 1048576) :
    Calls Try.prog 53 #[v] w (RetO xs.reverse w) := by
  go_enter Try.func53, Try.ntmps53
  go_wp2_with fail
  refine (clone_any v xs _ h hp hl).mono ?_
  rintro e w1 ⟨v1, rfl, h1, b1⟩
  go_wp2_with fail
  refine (reverse_any v1 _ xs _ h1 hp hl).mono ?_
  rintro e w2 ⟨rfl, h2, g2⟩
  go_wp2_with fail
  go_ret
  exact ⟨v1, rfl, h2, b1.grown g2 b1.size (fun k hk => (own_row h1 k hk).1)⟩

theorem revT_succ {xs : List Int} {m : Nat} (h : m < xs.length) : xs.reverse.take (xs.length - m) = xs.reverse.take (xs.length - (m + 1)) ++ [nth xs m] := by
  have e : xs.length - m = (xs.length - (m + 1)) + 1 := by omega
  rw [e, take_snoc (by rw [List.length_reverse]; omega), nth_reverse (by omega)]
  congr 3; omega

set_option maxHeartbeats 2000000 in
theorem sMir_any (v : Value) (xs : List Int) (w : World) (h : Sl w w.heap.size v xs) (hl : xs.length ≤ 1048576) :
    Calls Try.prog 52 #[v] w (RetO xs.reverse w) := by
  obtain ⟨A, c, rfl, hc, hcell⟩ := h
  obtain ⟨n, hn⟩ : ∃ n, xs.length = n := ⟨_, rfl⟩
  have HW := Lib.hid (World.ownsRow_lit (base := w.heap.size) (e := 2) (size := 1) w #[] 0 (Nat.le_refl _) (by decide) rfl)
  have HB := Lib.hid ((Below.refl w.heap.size w).alloc (Nat.le_refl _) (.cells #[] 2))
  rw [hn] at hl hc hcell ⊢
  have HC := Lib.hid hcell
  have HN := Lib.hid hn
  clear hn hcell
  obtain ⟨i0, hi, hz0, hz1, hz2⟩ := info_parts infoI64
  go_enter Try.func52, Try.ntmps52
  go_wp2_with fail
  go_loopw [3, 4] (fun q i wr => ∃ m : Nat, m ≤ n ∧ i = .int .i64 ((m : Int) - 1) ∧ OwnN wr w.heap.size q (n - m) (xs.reverse.take (n - m)) ∧ Below w.heap.size w wr) (fun _ i _ => (intOf i + 1).toNat)
  case atStart => exact ⟨n, Nat.le_refl _, by go_num, by rw [Nat.sub_self]; exact HW.out, HB.out⟩
  case round =>
    obtain ⟨m, hm, rfl, hown, hbel⟩ := hrel
    rcases m with _ | m
    · rw [show (((0 : Nat) : Int) - 1) = -1 by rfl]
      go_wp2_with fail
      go_ret
      refine ⟨_, rfl, ?_, hbel⟩
      have := HN.out
      unfold OwnN at hown
      unfold OwnI
      rw [List.length_reverse, this]
      rw [List.take_of_length_le (by rw [List.length_reverse, this]; omega)] at hown
      exact hown
    · rw [show (((m + 1 : Nat) : Int) - 1) = (m : Int) by omega]
      have hlt : m < n := by omega
      obtain ⟨b, o, rfl, hb, hcs⟩ := HC.out (by omega)
      have hcx : wr.cell? ⟨b, o + m, none⟩ = some (.int .i64 (nth xs m)) := (hbel.cell (p := ⟨b, o + m, none⟩) hb).trans (hcs m (by rw [HN.out]; exact hlt))
      have HR := Lib.hid (revT_succ (xs := xs) (m := m) (by rw [HN.out]; exact hlt))
      have hsz := hbel.size
      clear hcs
      go_wp2_with (at_builtin; refine wpList_append_own _ rfl _ _ 22 rfl w.heap.size 2 i0 (.int .i64 0) 1 8 Try.underlying22 hi hz0 hz1 hz2 rfl (by decide) _ _ _ rfl (hown.alloc _) ⟨wr.heap.size, 0, none⟩ 1 1 [.int .i64 (nth xs m)] rfl rfl (cell_one_new _ _ _) (by simp [Value.oneCell']) (by unfold maxLen; omega) (by omega) (by simp; omega) ?_; intro v' w1 hown1 hgrow1 _)
      have HB1 := (hbel.alloc hsz (.cells #[.int .i64 (nth xs m)] 2)).grown hgrow1 (by simp; omega) (fun k hk => (own_row hown k hk).1)
      clear hgrow1
      go_wp2_with fail
      go_roundw
      case rel =>
        refine ⟨m, by omega, by go_num, ?_, HB1⟩
        have := HR.out
        rw [HN.out] at this
        unfold OwnN
        rw [this, List.map_append, show n - m = n - (m + 1) + 1 by omega]
        exact hown1
      case measure => first | (simp [intOf]; done) | (simp [intOf]; omega)

/-- A mirrored valid list; nothing of any other. -/
def mir (b : Bool) (xs : List Int) : List Int := if b then xs.reverse else []
theorem mir_len (b : Bool) (xs : List Int) (h : xs.length ≤ 1048576) : (mir b xs).length ≤ 1048576 := by
  unfold mir; split
  · simpa using h
  · simp
theorem own_nil (w : World) (base : Nat) : OwnI w base (.slice none 0 0) [] := World.ownsRow_nil _ _ _ _

set_option maxHeartbeats 1000000 in
theorem iMS_any (v : Value) (xs : List Int) (hx : Ints xs) (b : Bool) (hv : b = true ↔ Vs xs) (w : World) (h : Sl w w.heap.size v xs) (hl : xs.length ≤ 1048576) :
    Calls Try.prog 30 #[v] w (RetO (mir b xs) w) := by
  go_enter Try.func30, Try.ntmps30
  go_wp2_with fail
  refine (iVS_any v xs hx _ h hl).mono ?_
  rintro e w1 ⟨r, rfl, hr, rfl⟩
  obtain rfl : r = b := by rw [Bool.eq_iff_iff, hr, hv]
  clear hr
  cases r
  · go_wp2_with fail
    go_ret
    exact ⟨_, rfl, own_nil _ _, Below.refl _ _⟩
  · have HV := Lib.hid (vs_pos (hv.1 rfl))
    clear hv
    go_wp2_with fail
    refine (iMir_any v xs _ h HV.out hl).mono ?_
    rintro e w1 ⟨v1, rfl, h1, b1⟩
    go_wp2_with fail
    go_ret
    exact ⟨v1, rfl, h1, b1⟩

set_option maxHeartbeats 1000000 in
theorem sMS_any (v : Value) (xs : List Int) (hx : Ints xs) (b : Bool) (hv : b = true ↔ Vs xs) (w : World) (h : Sl w w.heap.size v xs) (hl : xs.length ≤ 1048576) :
    Calls Try.prog 29 #[v] w (RetO (mir b xs) w) := by
  go_enter Try.func29, Try.ntmps29
  go_wp2_with fail
  refine (sOk_any v xs hx _ h hl).mono ?_
  rintro e w1 ⟨r, rfl, hr, rfl⟩
  obtain rfl : r = b := by rw [Bool.eq_iff_iff, hr, hv]
  clear hr
  cases r
  · go_wp2_with fail
    go_ret
    exact ⟨_, rfl, own_nil _ _, Below.refl _ _⟩
  · clear hv
    go_wp2_with fail
    refine (sMir_any v xs _ h hl).mono ?_
    rintro e w1 ⟨v1, rfl, h1, b1⟩
    go_wp2_with fail
    go_ret
    exact ⟨v1, rfl, h1, b1⟩
end Go.Proofs.Ytdnkgnknjhnjiaa
