/- RotateSectors: the other lists by the program; by the model; the contracts of both. -/
import Derived.Test.YtnhobilmgefhnaaVf
namespace Go.Proofs.Ytnhobilmgefhnaa
open Go Go.RowKit

theorem rotP_no {k : Int} {xs : List Int} {b : Bool} (hb : b = true ↔ RotP k xs) (h : ¬ RotP k xs) : b = false := by
  rcases b with _ | _
  · rfl
  · exact absurd (hb.1 rfl) h

set_option maxHeartbeats 2000000 in
theorem iRS_any (k : Int) (v : Value) (xs : List Int) (hx : Ints xs) (r : Bool) (hr : r = true ↔ RotP k xs) (w : World) (h : Sl w w.heap.size v xs) (hl : xs.length ≤ 1048576) :
    Calls Try.prog 14 #[v, .int .i64 k] w (RetO (rots r k xs) w) := by
  have HD := Lib.hid (fun W (hb : Below w.heap.size w W) => iVS_any v xs hx W ((h.below hb (Nat.le_refl _)).mono hb.size) hl)
  by_cases hv : Vs xs
  · obtain ⟨A, c, rfl, hc, hcell⟩ := h
    obtain ⟨b, o, rfl, hb, hcs⟩ := hcell (vs_pos hv)
    exact iRS_yes b o c k xs r hr w hc hb hcs hv hl HD
  · obtain rfl : r = false := rotP_no hr (fun h => hv h.1)
    have HV := Lib.hid hv
    clear hv hr h
    go_enter Try.func14, Try.ntmps14
    go_wp2_with fail
    refine (HD.out _ (by (repeat (first | with_reducible exact Below.refl _ _ | with_reducible assumption | with_reducible refine below_drewN ?_ _ | with_reducible refine Below.drew ?_ | with_reducible refine Below.alloc ?_ (by first | omega | (simp; done) | (simp; omega)) _ | with_reducible refine Below.setCell ?_ (by first | omega | (simp; done) | (simp; omega)) _ | with_reducible refine Below.trans ?_ (Below.mono (by assumption) (by first | omega | (simp; done) | (simp; omega))))))).mono ?_
    rintro e w1 ⟨r, rfl, hr, rfl⟩
    obtain rfl : r = false := by rw [Bool.eq_false_iff]; exact fun h => HV.out (hr.1 h)
    clear hr
    go_wp2_with fail
    refine bodyPost_ret (v := .slice none 0 0) (by simp [results, Try.results14, go_sem]) rfl ?_
    exact ⟨_, rfl, own_nil _ _, by (repeat (first | with_reducible exact Below.refl _ _ | with_reducible assumption | with_reducible refine below_drewN ?_ _ | with_reducible refine Below.drew ?_ | with_reducible refine Below.alloc ?_ (by first | omega | (simp; done) | (simp; omega)) _ | with_reducible refine Below.setCell ?_ (by first | omega | (simp; done) | (simp; omega)) _ | with_reducible refine Below.trans ?_ (Below.mono (by assumption) (by first | omega | (simp; done) | (simp; omega)))))⟩

set_option maxHeartbeats 2000000 in
theorem sOwn_any (b o n c : Nat) (xs : List Int) (w : World) (hb : b < w.heap.size) (hcs : Cells w b o xs) (hn : xs.length = n) (hl : n ≤ 1048576) :
    Calls Try.prog 75 #[.slice (some ⟨b, o, none⟩) n c] w (RetO xs w) := by
  have HW := Lib.hid (World.ownsRow_lit (base := w.heap.size) (e := 2) (size := 1) w #[] 0 (Nat.le_refl _) (by decide) rfl)
  have HC := Lib.hid (show Cells (w.alloc (.cells #[] 2)) b o xs from fun k hk => (World.cell?_alloc_past _ _ _ hb).trans (hcs k hk))
  have HN := Lib.hid hn
  clear hn hcs
  obtain ⟨i0, hi, hz0, hz1, hz2⟩ := info_parts infoI64
  go_enter Try.func75, Try.ntmps75
  go_wp2_with (at_builtin; refine wpList_append_own _ rfl _ _ 24 rfl w.heap.size 2 i0 (.int .i64 0) 1 8 Try.underlying24 hi hz0 hz1 hz2 rfl (by decide) _ _ _ rfl HW.out ⟨b, o, none⟩ n c (xs.map (Value.int .i64)) rfl (by rw [List.length_map, HN.out, Nat.mul_one]) (sl_news HC.out) (ints_one xs) (by unfold maxLen; omega) (by omega) (by simp) ?_; intro v' w1 hown1 hgrow1 _)
  go_ret
  refine ⟨v', rfl, ?_, ?_⟩
  · have := HN.out
    subst this
    simpa using hown1
  · exact ((Below.refl w.heap.size w).alloc (Nat.le_refl _) _).grown hgrow1 (by simp) (fun k hk => by cases hk; exact Nat.le_refl _)

set_option maxHeartbeats 4000000 in
/-- Element k first: by the model. -/
theorem sRt_any (b o c n k : Nat) (xs : List Int) (w : World) (hb : b < w.heap.size) (hcs : Cells w b o xs) (hn : xs.length = n) (hc : n ≤ c) (hk : k < n) (hl : n ≤ 1048576) :
    Calls Try.prog 54 #[.slice (some ⟨b, o, none⟩) n c, .int .i64 (k : Int)] w (RetO (rot xs k) w) := by
  have L1 : (xs.drop k).length = n - k := by rw [List.length_drop, hn]
  have L2 : (xs.take k).length = k := by rw [List.length_take, hn]; omega
  have HO := Lib.hid (sOwn_any b (o + k) (n - k) (c - k) (xs.drop k) w hb (cells_drop hcs k) L1 (by omega))
  have HT := Lib.hid (cells_take hcs k)
  have HL1 := Lib.hid L1
  have HL2 := Lib.hid L2
  have j0 : (0 : Int) ≤ (k : Int) := by omega
  have j1 : (k : Int) ≤ (n : Int) := by omega
  have j2 : (k : Int) ≤ (c : Int) := by omega
  have j3 : (n : Int) ≤ (c : Int) := by omega
  have j4 : k ≤ n := by omega
  have j5 : k ≤ c := by omega
  have j6 : ¬ c = k := by omega
  clear L1 L2 hcs hn
  obtain ⟨i0, hi, hz0, hz1, hz2⟩ := info_parts infoI64
  go_enter Try.func54, Try.ntmps54
  go_wp2_with fail
  refine (HO.out).mono ?_
  rintro e w1 ⟨v, rfl, o1, b1⟩
  have hs1 := b1.size
  have hown0 : w1.ownsRow w.heap.size 2 1 v (n - k) ((xs.drop k).map (Value.int .i64)) := by
    unfold OwnI at o1
    rw [HL1.out] at o1
    exact o1
  have HC := Lib.hid (cells_below HT.out b1 hb)
  clear o1
  go_wp2_with (at_builtin; refine wpList_append_own _ rfl _ _ 24 rfl w.heap.size 2 i0 (.int .i64 0) 1 8 Try.underlying24 hi hz0 hz1 hz2 rfl (by decide) _ _ _ rfl hown0 ⟨b, o, none⟩ k c ((xs.take k).map (Value.int .i64)) rfl (by rw [List.length_map, HL2.out, Nat.mul_one]) (sl_news HC.out) (ints_one _) (by unfold maxLen; omega) (by omega) (by omega) ?_; intro v' w2 hown1 hgrow1 _)
  go_ret
  refine ⟨v', rfl, ?_, b1.grown hgrow1 hs1 (fun k hk => (own_row hown0 k hk).1)⟩
  unfold OwnI rot
  rw [List.map_append, List.length_append, HL1.out, HL2.out]
  exact hown1

end Go.Proofs.Ytnhobilmgefhnaa
