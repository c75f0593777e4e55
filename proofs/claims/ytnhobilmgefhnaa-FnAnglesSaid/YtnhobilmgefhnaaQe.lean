/- Directions of sectors, on both sides. -/
import Derived.Test.YtnhobilmgefhnaaQd
namespace Go.Proofs.Ytnhobilmgefhnaa
open Go Go.RowKit

/-- d 0, d 1, .. -/
def tab (d : Nat → Int) (k : Nat) : List Int := (List.range k).map d
theorem tab_len (d : Nat → Int) (k : Nat) : (tab d k).length = k := by simp [tab]
theorem tab_succ (d : Nat → Int) (k : Nat) : tab d (k + 1) = tab d k ++ [d k] := by simp [tab, List.range_succ]
theorem tab_nth {d : Nat → Int} {n k : Nat} (h : k < n) : nth (tab d n) k = d k := by rw [nth_of (by rw [tab_len]; exact h)]; simp [tab]
def tabZ (d : Nat → Int) (k n : Nat) : List Int := tab d k ++ List.replicate (n - k) 0
theorem tabZ_len (d : Nat → Int) {k n : Nat} (h : k ≤ n) : (tabZ d k n).length = n := by simp [tabZ, tab_len]; omega
theorem tabZ_zero (d : Nat → Int) (n : Nat) : tabZ d 0 n = List.replicate n 0 := by simp [tabZ, tab]
theorem tabZ_all (d : Nat → Int) (n : Nat) : tabZ d n n = tab d n := by simp [tabZ]
theorem tabZ_set {d : Nat → Int} {k n : Nat} (h : k < n) : (tabZ d k n).set k (d k) = tabZ d (k + 1) n := by
  unfold tabZ
  rw [List.set_append_right _ _ (by rw [tab_len]; omega), tab_len, Nat.sub_self, show n - k = (n - (k + 1)) + 1 by omega, List.replicate_succ, List.set_cons_zero, tab_succ, List.append_assoc]
  rfl
theorem tabZ_start {w w1 : World} {n : Nat} (d : Nat → Int) (h : w1.ownsRow w.heap.size 2 1 (.slice (some ⟨w.heap.size, 0, none⟩) n n) n (madeCells #[Value.int .i64 0] (n * 1)).toList) :
    OwnI w1 w.heap.size (.slice (some ⟨w.heap.size, 0, none⟩) n n) (tabZ d 0 n) := by
  unfold OwnI
  rw [tabZ_zero, List.length_replicate, ← zeros_made]
  exact h
theorem tabZ_step {w1 : World} {g n k base : Nat} {d : Nat → Int} (hk : k < n) (h : OwnI w1 base (.slice (some ⟨g, 0, none⟩) n n) (tabZ d k n)) :
    OwnI (w1.setCell ⟨g, k, none⟩ (.int .i64 (d k))) base (.slice (some ⟨g, 0, none⟩) n n) (tabZ d (k + 1) n) := by
  unfold OwnI at *
  rw [tabZ_len d (by omega)] at *
  have := (h.stored k (.int .i64 (d k))).1
  rw [← List.map_set, tabZ_set hk] at this
  exact this

theorem own_base {w : World} {base base' : Nat} {e : TypeId} {size : Nat} {v : Value} {n : Nat} {xs : List Value} (h : w.ownsRow base e size v n xs) (hb : base' ≤ base) : w.ownsRow base' e size v n xs := by
  refine ⟨h.1, ?_⟩
  rcases h.2 with hn | ⟨g, cap, cur, rfl, hb', rest⟩
  · exact .inl hn
  · exact .inr ⟨g, cap, cur, rfl, by omega, rest⟩
/-- A number; nothing old turned. -/
def RetN (x : Int) (w : World) (e : Ending) (w' : World) : Prop := e = .returned (.int .i64 x) ∧ Below w.heap.size w w'

/-- A slice of the call's own that reads as xs, and a bool. -/
def RetOB (xs : List Int) (b : Bool) (w : World) (e : Ending) (w' : World) : Prop := ∃ v, e = .returned (.tuple #[v, .bool b]) ∧ OwnI w' w.heap.size v xs ∧ Below w.heap.size w w'

def dr (f : Int) (xs : List Int) (j : Nat) : Int := f + sumT xs j
theorem dr_zero (f : Int) (xs : List Int) : dr f xs 0 = f := by simp [dr, sumT_zero]
theorem dr_succ {f : Int} {xs : List Int} {k : Nat} (h : k < xs.length) : dr f xs (k + 1) = dr f xs k + nth xs k := by unfold dr; rw [sumT_succ h]; omega
def DirP (f : Int) (xs : List Int) : Prop := Vs xs ∧ 0 ≤ f ∧ ∀ j, j < xs.length → dr f xs j ≤ 15
def dirs (b : Bool) (f : Int) (xs : List Int) : List Int := if b then tab (dr f xs) xs.length else []
theorem dirs_len (b : Bool) (f : Int) (xs : List Int) (h : xs.length ≤ 1048576) : (dirs b f xs).length ≤ 1048576 := by
  unfold dirs; split
  · rw [tab_len]; exact h
  · simp
theorem dirs_no {f : Int} {xs : List Int} {b : Bool} (hb : b = true ↔ DirP f xs) (h : ¬ DirP f xs) : b = false := by
  rcases b with _ | _
  · rfl
  · exact absurd (hb.1 rfl) h

set_option maxRecDepth 100000 in
set_option maxHeartbeats 2000000 in
theorem iDO_any (f : Int) (v : Value) (xs : List Int) (hx : Ints xs) (b : Bool) (hv : b = true ↔ DirP f xs) (w : World) (h : Sl w w.heap.size v xs) (hl : xs.length ≤ 1048576) :
    Calls Try.prog 9 #[.int .i64 f, v] w (RetOB (dirs b f xs) b w) := by
  have HO := Lib.hid (iVS_any v xs hx w h hl)
  by_cases hvs : Vs xs
  · have HV := Lib.hid hvs
    obtain ⟨A, c, rfl, hc, hcell⟩ := h
    obtain ⟨n, hn⟩ : ∃ n, xs.length = n := ⟨_, rfl⟩
    rw [hn] at hl hc hcell HO ⊢
    have HC := Lib.hid hcell
    have HN := Lib.hid hn
    have HP := Lib.hid (show 0 < n by rw [← hn]; exact vs_pos hvs)
    have HB' := Lib.hid hv
    clear hn hcell hx hv hvs
    obtain ⟨i0, hi, hz0, hz1, hz2⟩ := info_parts infoI64
    go_enter Try.func9, Try.ntmps9
    go_wp2_with fail
    refine (HO.out).mono ?_
    rintro e w1 ⟨r, rfl, hr, rfl⟩
    obtain rfl : r = true := by rw [hr]; exact HV.out
    clear hr
    by_cases hf : f < 0
    · obtain rfl : b = false := dirs_no HB'.out (fun h => by have := h.2.1; omega)
      go_wp2_with fail
      go_ret2
      exact ⟨_, rfl, own_nil _ _, Below.refl _ _⟩
    · have hf0 : 0 ≤ f := by omega
      by_cases hf1 : 16 ≤ f
      · obtain rfl : b = false := dirs_no HB'.out (fun h => by have := h.2.2 0 (by rw [HN.out]; exact HP.out); rw [dr_zero] at this; omega)
        clear hf
        go_wp2_with fail
        go_ret2
        exact ⟨_, rfl, own_nil _ _, Below.refl _ _⟩
      · have hf1' : f ≤ 15 := by omega
        have hf2 : f < 16 := by omega
        clear hf hf1
        go_wp2_with (at_make; refine wpList_make_full _ rfl _ _ 24 rfl w.heap.size 2 i0 (.int .i64 0) 1 Try.underlying24 hi hz0 hz1 .i64 .i64 _ _ n rfl rfl rfl rfl (by rw [hz2]; omega) (by unfold maxLen; omega) (Nat.le_refl _) ?_; intro w0 hown0 hgrow0)
        have H0 := tabZ_start (dr f xs) hown0
        have B0 := grown_below hgrow0 (Nat.le_refl _) (fun k h => by cases h)
        clear hown0 hgrow0
        go_loopw [7, 27] (fun q i wr => ∃ k : Nat, k ≤ n ∧ i = .int .i64 k ∧ q = .int .i64 (dr f xs k) ∧ OwnI wr w.heap.size (.slice (some ⟨w.heap.size, 0, none⟩) n n) (tabZ (dr f xs) k n) ∧ Below w.heap.size w wr ∧ Hid (∀ j, j < k → dr f xs j ≤ 15)) (fun _ i _ => n - (intOf i).toNat)
        case atStart => exact ⟨0, Nat.zero_le _, rfl, by rw [dr_zero], H0, B0, Lib.hid (fun j hj => absurd hj (by omega))⟩
        case round =>
          obtain ⟨k, hk, rfl, rfl, hown, hbel, hall⟩ := hrel
          clear H0 B0
          by_cases hlt : k < n
          · have hkx : k < xs.length := by rw [HN.out]; exact hlt
            obtain ⟨bb, o, rfl, hbb, hcs⟩ := HC.out (by omega)
            have hcx : wr.cell? ⟨bb, o + k, none⟩ = some (.int .i64 (nth xs k)) := (hbel.cell (p := ⟨bb, o + k, none⟩) hbb).trans (hcs k hkx)
            have hb1 := vs_nth HV.out hkx
            have HDS := Lib.hid (dr_succ (f := f) hkx)
            by_cases hd : 16 ≤ dr f xs k
            · obtain rfl : b = false := dirs_no HB'.out (fun h => by have := h.2.2 k hkx; omega)
              clear hcs hkx
              go_wp2_with fail
              go_ret2
              exact ⟨_, rfl, own_nil _ _, hbel⟩
            · have hd' : dr f xs k ≤ 15 := by omega
              have hd0 : 0 ≤ dr f xs k := by have := (vs_take HV.out k).1; unfold dr; omega
              have hcd := own_cell (tabZ_len _ hk) hown hlt
              have hfd := own_free (tabZ_len _ hk) hown k
              have HS := tabZ_step hlt hown
              have HB := hbel.setCell (p := ⟨w.heap.size, k, none⟩) (Nat.le_refl _) (.int .i64 (dr f xs k))
              clear hcs hd hkx hown
              go_wp2_with fail
              go_roundw
              case rel =>
                exact ⟨k + 1, by omega, by go_num, by rw [HDS.out], HS, HB, Lib.hid (fun j hj => by
                  rcases Nat.lt_or_ge j k with h | h
                  · exact hall.out j h
                  · obtain rfl : j = k := by omega
                    exact hd')⟩
              case measure => simp [intOf]; omega
          · have hkn : k = n := by omega
            obtain rfl : b = true := HB'.out.2 ⟨HV.out, hf0, fun j hj => hall.out j (by rw [hkn, ← HN.out]; exact hj)⟩
            clear hkn
            go_wp2_with fail
            go_ret2
            refine ⟨_, rfl, ?_, hbel⟩
            obtain rfl : k = n := by omega
            have := HN.out
            unfold OwnI dirs
            rw [if_pos rfl, tab_len, this]
            rw [tabZ_all] at hown
            unfold OwnI at hown
            rw [tab_len] at hown
            exact hown
  · obtain rfl : b = false := dirs_no hv (fun h => hvs h.1)
    have HV := Lib.hid hvs
    clear hvs hv
    go_enter Try.func9, Try.ntmps9
    go_wp2_with fail
    refine (HO.out).mono ?_
    rintro e w1 ⟨r, rfl, hr, rfl⟩
    obtain rfl : r = false := by rw [Bool.eq_false_iff]; exact fun h => HV.out (hr.1 h)
    clear hr
    go_wp2_with fail
    go_ret2
    exact ⟨_, rfl, own_nil _ _, Below.refl _ _⟩
end Go.Proofs.Ytnhobilmgefhnaa
