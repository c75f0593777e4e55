/- Places of a folded cone, on both sides. -/
import Derived.Test.YtdnkgnknjhnjiaaVb
namespace Go.Proofs.Ytdnkgnknjhnjiaa
open Go Go.RowKit

/-- The place of crease k. -/
def pl (xs : List Int) : Nat → Int
  | 0 => 0
  | k + 1 => pl xs k + (if k % 2 = 0 then nth xs k else -nth xs k)
theorem pl_even {xs : List Int} {k : Nat} (h : k % 2 = 0) : pl xs (k + 1) = pl xs k + nth xs k := by simp [pl, h]
theorem pl_odd {xs : List Int} {k : Nat} (h : k % 2 = 1) : pl xs (k + 1) = pl xs k - nth xs k := by
  have : ¬ k % 2 = 0 := by omega
  simp [pl, h]; omega
theorem pl_bd {xs : List Int} (h : Tl xs) (k : Nat) (hk : k ≤ xs.length) : -(sumT xs k) ≤ pl xs k ∧ pl xs k ≤ sumT xs k := by
  induction k with
  | zero => simp [pl, sumT_zero]
  | succ k ih =>
    have h1 := ih (by omega)
    have h2 := tl_nth h (k := k) (by omega)
    rw [sumT_succ (by omega)]
    rcases (show k % 2 = 0 ∨ k % 2 = 1 by omega) with h3 | h3
    · rw [pl_even h3]; omega
    · rw [pl_odd h3]; omega
theorem pl_bd16 {xs : List Int} (h : Tl xs) (k : Nat) (hk : k ≤ xs.length) : -16 ≤ pl xs k ∧ pl xs k ≤ 16 := by
  have h1 := pl_bd h k hk
  have h2 := tl_take h k
  omega
def pls (b : Bool) (xs : List Int) : List Int := if b then tab (pl xs) xs.length else []
theorem pls_len (b : Bool) (xs : List Int) (h : xs.length ≤ 1048576) : (pls b xs).length ≤ 1048576 := by
  unfold pls; split
  · rw [tab_len]; exact h
  · simp

set_option maxHeartbeats 2000000 in
theorem sPl_any (v : Value) (xs : List Int) (ht : Tl xs) (w : World) (h : Sl w w.heap.size v xs) (hl : xs.length ≤ 1048576) :
    Calls Try.prog 63 #[v] w (RetO (tab (pl xs) xs.length) w) := by
  obtain ⟨A, c, rfl, hc, hcell⟩ := h
  obtain ⟨n, hn⟩ : ∃ n, xs.length = n := ⟨_, rfl⟩
  have HW := Lib.hid (World.ownsRow_lit (base := w.heap.size) (e := 2) (size := 1) w #[] 0 (Nat.le_refl _) (by decide) rfl)
  have HB := Lib.hid ((Below.refl w.heap.size w).alloc (Nat.le_refl _) (.cells #[] 2))
  rw [hn] at hl hc hcell ⊢
  have HC := Lib.hid hcell
  have HN := Lib.hid hn
  have HT := Lib.hid ht
  clear hn hcell ht
  obtain ⟨i0, hi, hz0, hz1, hz2⟩ := info_parts infoI64
  go_enter Try.func63, Try.ntmps63
  go_wp2_with fail
  go_loopw [3, 4, 5] (fun z q i wr => ∃ k : Nat, k ≤ n ∧ i = .int .i64 k ∧ q = .int .i64 (pl xs k) ∧ OwnN wr w.heap.size z k (tab (pl xs) k) ∧ Below w.heap.size w wr) (fun _ _ i _ => n - (intOf i).toNat)
  case atStart => exact ⟨0, Nat.zero_le _, rfl, rfl, HW.out, HB.out⟩
  case round =>
    obtain ⟨k, hk, rfl, rfl, hown, hbel⟩ := hrel
    by_cases hlt : k < n
    · have hkx : k < xs.length := by rw [HN.out]; exact hlt
      obtain ⟨bb, o, rfl, hbb, hcs⟩ := HC.out (by omega)
      have hcx : wr.cell? ⟨bb, o + k, none⟩ = some (.int .i64 (nth xs k)) := (hbel.cell (p := ⟨bb, o + k, none⟩) hbb).trans (hcs k hkx)
      have hb1 := tl_nth HT.out hkx
      have hb2 := pl_bd16 HT.out k (by omega)
      have hsz := hbel.size
      have hcz : ∀ (wz : World), Below wr.heap.size wr wz → wz.cell? ⟨bb, o + k, none⟩ = some (.int .i64 (nth xs k)) := fun wz hz => (hz.cell (p := ⟨bb, o + k, none⟩) (by show bb < _; omega)).trans hcx
      have hcn : ∀ (wz : World), (wr.alloc (.cells #[.int .i64 (pl xs k)] 2)).grownBy wz (Value.ownBlock u3) → wz.cell? ⟨bb, o + k, none⟩ = some (.int .i64 (nth xs k)) := fun wz hz => by
        refine (World.cell?_of_block (hz.block bb (by simp; omega) ?_)).trans ((World.cell?_alloc_past _ _ _ (by show bb < _; omega)).trans hcx)
        intro e
        have := (own_row hown bb e.symm).1
        omega
      clear hcs hkx hcx hcz
      rcases (show k % 2 = 0 ∨ k % 2 = 1 by omega) with ho | ho
      · have HP := Lib.hid (pl_even (xs := xs) ho)
        have ho2 : ((k : Int) % 2 == 0) = true := by simp; omega
        clear ho
        go_wp2_with (at_builtin; refine wpList_append_own _ rfl _ _ 22 rfl w.heap.size 2 i0 (.int .i64 0) 1 8 Try.underlying22 hi hz0 hz1 hz2 rfl (by decide) _ _ _ rfl (hown.alloc _) ⟨wr.heap.size, 0, none⟩ 1 1 [.int .i64 (pl xs k)] rfl rfl (cell_one_new _ _ _) (by simp [Value.oneCell']) (by unfold maxLen; omega) (by omega) (by simp; omega) ?_; intro v' w1 hown1 hgrow1 _; have hcx := hcn w1 hgrow1)
        have HB1 := (hbel.alloc hsz (.cells #[.int .i64 (pl xs k)] 2)).grown hgrow1 (by simp; omega) (fun k hk => (own_row hown k hk).1)
        have HO1 : OwnN w1 w.heap.size v' (k + 1) (tab (pl xs) (k + 1)) := by
          unfold OwnN
          rw [tab_succ, List.map_append]
          exact hown1
        clear hgrow1 hcn hown1 hown hbel
        go_wp2_with fail
        go_roundw
        case rel => exact ⟨k + 1, by omega, by go_num, by rw [HP.out], HO1, HB1⟩
        case measure => simp [intOf]; omega
      · have HP := Lib.hid (pl_odd (xs := xs) ho)
        have ho2 : ((k : Int) % 2 == 0) = false := by simp; omega
        clear ho
        go_wp2_with (at_builtin; refine wpList_append_own _ rfl _ _ 22 rfl w.heap.size 2 i0 (.int .i64 0) 1 8 Try.underlying22 hi hz0 hz1 hz2 rfl (by decide) _ _ _ rfl (hown.alloc _) ⟨wr.heap.size, 0, none⟩ 1 1 [.int .i64 (pl xs k)] rfl rfl (cell_one_new _ _ _) (by simp [Value.oneCell']) (by unfold maxLen; omega) (by omega) (by simp; omega) ?_; intro v' w1 hown1 hgrow1 _; have hcx := hcn w1 hgrow1)
        have HB1 := (hbel.alloc hsz (.cells #[.int .i64 (pl xs k)] 2)).grown hgrow1 (by simp; omega) (fun k hk => (own_row hown k hk).1)
        have HO1 : OwnN w1 w.heap.size v' (k + 1) (tab (pl xs) (k + 1)) := by
          unfold OwnN
          rw [tab_succ, List.map_append]
          exact hown1
        clear hgrow1 hcn hown1 hown hbel
        go_wp2_with fail
        go_roundw
        case rel => exact ⟨k + 1, by omega, by go_num, by rw [HP.out], HO1, HB1⟩
        case measure => simp [intOf]; omega
    · obtain rfl : k = n := by omega
      go_wp2_with fail
      go_ret
      refine ⟨_, rfl, ?_, hbel⟩
      unfold OwnI
      rw [tab_len]
      exact hown

theorem pls_no {xs : List Int} {b : Bool} (hb : b = true ↔ Cn xs) (h : ¬ Cn xs) : b = false := by
  rcases b with _ | _
  · rfl
  · exact absurd (hb.1 rfl) h

set_option maxHeartbeats 1000000 in
theorem sSP_any (v : Value) (xs : List Int) (hx : Ints xs) (b : Bool) (hv : b = true ↔ Cn xs) (w : World) (h : Sl w w.heap.size v xs) (hl : xs.length ≤ 1048576) :
    Calls Try.prog 42 #[v] w (RetOB (pls b xs) b w) := by
  have HO := Lib.hid (sCk_any v xs hx w h hl)
  by_cases hc : Cn xs
  · obtain rfl : b = true := hv.2 hc
    have HP := Lib.hid (sPl_any v xs hc.1 w h hl)
    have HV := Lib.hid hc
    clear hv hc
    go_enter Try.func42, Try.ntmps42
    go_wp2_with fail
    refine (HO.out).mono ?_
    rintro e w1 ⟨r, rfl, hr, rfl⟩
    obtain rfl : r = true := by rw [hr]; exact HV.out
    clear hr
    go_wp2_with fail
    refine (HP.out).mono ?_
    rintro e w1 ⟨z, rfl, o1, b1⟩
    go_wp2_with fail
    go_ret2
    exact ⟨z, rfl, o1, b1⟩
  · obtain rfl : b = false := pls_no hv hc
    have HV := Lib.hid hc
    clear hv hc
    go_enter Try.func42, Try.ntmps42
    go_wp2_with fail
    refine (HO.out).mono ?_
    rintro e w1 ⟨r, rfl, hr, rfl⟩
    obtain rfl : r = false := by rw [Bool.eq_false_iff]; exact fun h => HV.out (hr.1 h)
    clear hr
    go_wp2_with fail
    go_ret2
    exact ⟨_, rfl, own_nil _ _, Below.refl _ _⟩

/-- The way behind crease k. -/
def wy (k : Nat) : Int := if k % 2 = 0 then 1 else -1

set_option maxHeartbeats 2000000 in
theorem iSP_any (v : Value) (xs : List Int) (hx : Ints xs) (b : Bool) (hv : b = true ↔ Cn xs) (w : World) (h : Sl w w.heap.size v xs) (hl : xs.length ≤ 1048576) :
    Calls Try.prog 43 #[v] w (RetOB (pls b xs) b w) := by
  have HO := Lib.hid (iVC_any v xs hx w h hl)
  by_cases hcn : Cn xs
  · obtain rfl : b = true := hv.2 hcn
    have HT := Lib.hid hcn.1
    have HV := Lib.hid hcn
    obtain ⟨A, c, rfl, hc, hcell⟩ := h
    obtain ⟨n, hn⟩ : ∃ n, xs.length = n := ⟨_, rfl⟩
    rw [hn] at hl hc hcell HO ⊢
    obtain ⟨bb, o, rfl, hbb, hcs⟩ := hcell (by rw [← hn]; exact hcn.2.1)
    have HC := Lib.hid hcs
    have HN := Lib.hid hn
    clear hn hcell hx hv hcn hcs
    obtain ⟨i0, hi, hz0, hz1, hz2⟩ := info_parts infoI64
    go_enter Try.func43, Try.ntmps43
    go_wp2_with fail
    refine (HO.out).mono ?_
    rintro e w1 ⟨r, rfl, hr, b1⟩
    obtain rfl : r = true := by rw [hr]; exact HV.out
    clear hr
    have hs1 := b1.size
    go_wp2_with (at_make; refine wpList_make_full _ rfl _ _ 22 rfl w1.heap.size 2 i0 (.int .i64 0) 1 Try.underlying22 hi hz0 hz1 .i64 .i64 _ _ n rfl rfl rfl rfl (by rw [hz2]; omega) (by unfold maxLen; omega) (Nat.le_refl _) ?_; intro w0 hown0 hgrow0)
    have H0 := tabZ_start (pl xs) hown0
    have B0 := grown_below hgrow0 (Nat.le_refl _) (fun k h => by cases h)
    clear hown0 hgrow0
    go_loopw [5, 6, 17] (fun q y i wr => ∃ k : Nat, k ≤ n ∧ i = .int .i64 k ∧ q = .int .i64 (pl xs k) ∧ y = .int .i64 (wy k) ∧ OwnI wr w1.heap.size (.slice (some ⟨w1.heap.size, 0, none⟩) n n) (tabZ (pl xs) k n) ∧ Below w1.heap.size w1 wr) (fun _ _ i _ => n - (intOf i).toNat)
    case atStart => exact ⟨0, Nat.zero_le _, rfl, rfl, rfl, H0, B0⟩
    case round =>
      obtain ⟨k, hk, rfl, rfl, rfl, hown, hbel⟩ := hrel
      clear H0 B0
      by_cases hlt : k < n
      · have hkx : k < xs.length := by rw [HN.out]; exact hlt
        have hcx : wr.cell? ⟨bb, o + k, none⟩ = some (.int .i64 (nth xs k)) := ((b1.trans (hbel.mono hs1)).cell (p := ⟨bb, o + k, none⟩) hbb).trans (HC.out k hkx)
        have hb1 := tl_nth HT.out hkx
        have hb2 := pl_bd16 HT.out k (by omega)
        have hcd := own_cell (tabZ_len _ hk) hown hlt
        have hfd := own_free (tabZ_len _ hk) hown k
        have HS := tabZ_step hlt hown
        have HB := hbel.setCell (p := ⟨w1.heap.size, k, none⟩) (Nat.le_refl _) (.int .i64 (pl xs k))
        clear hkx hown
        rcases (show k % 2 = 0 ∨ k % 2 = 1 by omega) with ho | ho
        · have HP := Lib.hid (pl_even (xs := xs) ho)
          have hw : wy k = 1 := by simp [wy, ho]
          have HW := Lib.hid (show wy (k + 1) = -1 from if_neg (by omega))
          rw [hw]
          clear ho hw
          go_wp2_with fail
          go_roundw
          case rel => exact ⟨k + 1, by omega, by go_num, by rw [HP.out], by rw [HW.out], HS, HB⟩
          case measure => simp [intOf]; omega
        · have HP := Lib.hid (pl_odd (xs := xs) ho)
          have hw : wy k = -1 := by simp [wy, ho]
          have HW := Lib.hid (show wy (k + 1) = 1 from if_pos (by omega))
          have e1 : IntKind.i64.wrap (-1 * nth xs k) = -nth xs k := by rw [show -1 * nth xs k = -nth xs k by omega]; exact IntWalk.i64_in _ (by omega)
          have e2 : IntKind.i64.wrap (-nth xs k) = -nth xs k := IntWalk.i64_in _ (by omega)
          have e3 : IntKind.i64.wrap (pl xs k + -nth xs k) = pl xs k + -nth xs k := IntWalk.i64_in _ (by omega)
          rw [hw]
          clear ho hw
          go_wp2_with fail
          go_roundw
          case rel => exact ⟨k + 1, by omega, by go_num, by rw [HP.out]; go_num, by rw [HW.out], HS, HB⟩
          case measure => simp [intOf]; omega
      · have hkn : k = n := by omega
        clear hkn
        go_wp2_with fail
        go_ret2
        refine ⟨_, rfl, ?_, b1.trans (hbel.mono hs1)⟩
        obtain rfl : k = n := by omega
        have := HN.out
        unfold OwnI pls
        rw [if_pos rfl, tab_len, this]
        rw [tabZ_all] at hown
        unfold OwnI at hown
        rw [tab_len] at hown
        exact own_base hown hs1
  · obtain rfl : b = false := pls_no hv hcn
    have HV := Lib.hid hcn
    clear hv hcn
    go_enter Try.func43, Try.ntmps43
    go_wp2_with fail
    refine (HO.out).mono ?_
    rintro e w1 ⟨r, rfl, hr, b1⟩
    obtain rfl : r = false := by rw [Bool.eq_false_iff]; exact fun h => HV.out (hr.1 h)
    clear hr
    go_wp2_with fail
    go_ret2
    exact ⟨_, rfl, own_nil _ _, b1⟩
end Go.Proofs.Ytdnkgnknjhnjiaa
