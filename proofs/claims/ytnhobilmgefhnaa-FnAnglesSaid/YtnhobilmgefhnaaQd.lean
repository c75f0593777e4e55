/- Mirrored sector lists, on both sides. -/
import Derived.Test.YtnhobilmgefhnaaQc
namespace Go.Proofs.Ytnhobilmgefhnaa
open Go Go.RowKit

set_option maxHeartbeats 2000000 in
theorem clone_any (v : Value) (xs : List Int) (w : World) (h : Sl w w.heap.size v xs) (hp : 0 < xs.length) (hl : xs.length ≤ 1048576) :
    Calls Try.prog 56 #[v] w (RetO xs w) := by
  obtain ⟨A, c, rfl, hc, hcell⟩ := h
  obtain ⟨b, o, rfl, hb, hcs⟩ := hcell hp
  obtain ⟨n, hn⟩ : ∃ n, xs.length = n := ⟨_, rfl⟩
  have HW := Lib.hid (World.ownsRow_lit (base := w.heap.size) (e := 2) (size := 1) w #[] 0 (Nat.le_refl _) (by decide) rfl)
  have HC := Lib.hid (show Cells (w.alloc (.cells #[] 2)) b o xs from fun k hk => (World.cell?_alloc_past _ _ _ hb).trans (hcs k hk))
  rw [hn] at hl hc hp ⊢
  have HN := Lib.hid hn
  have hnil := fun w => Lib.run_eql_slice_nil (P := Try.prog) w 24 2 (some ⟨b, o, none⟩) n c 0 0 Try.underlying24
  clear hn hcs hcell
  obtain ⟨i0, hi, hz0, hz1, hz2⟩ := info_parts infoI64
  go_enter Try.func56, Try.ntmps56
  go_wp2_with (at_builtin; refine wpList_append_own _ rfl _ _ 24 rfl w.heap.size 2 i0 (.int .i64 0) 1 8 Try.underlying24 hi hz0 hz1 hz2 rfl (by decide) _ _ _ rfl HW.out ⟨b, o, none⟩ n c (xs.map (Value.int .i64)) rfl (by rw [List.length_map, HN.out, Nat.mul_one]) (sl_news HC.out) (ints_one xs) (by unfold maxLen; omega) (by omega) (by simp) ?_; intro v' w1 hown1 hgrow1 _)
  go_ret
  refine ⟨v', rfl, ?_, ?_⟩
  · have := HN.out
    subst this
    simpa using hown1
  · exact ((Below.refl w.heap.size w).alloc (Nat.le_refl _) _).grown hgrow1 (by simp) (fun k hk => by cases hk; exact Nat.le_refl _)

set_option maxHeartbeats 1000000 in
theorem iMir_any (v : Value) (xs : List Int) (w : World) (h : Sl w w.heap.size v xs) (hp : 0 < xs.length) (hl : xs.length ≤ 1048576) :
    Calls Try.prog 36 #[v] w (RetO xs.reverse w) := by
  go_enter Try.func36, Try.ntmps36
  go_wp2_with fail
  refine (clone_any v xs _ h hp hl).mono ?_
  rintro e w1 ⟨v1, rfl, h1, b1⟩
  go_wp2_with fail
  refine (reverse_any v1 _ xs _ h1 hp hl).mono ?_
  rintro e w2 ⟨rfl, h2, g2⟩
  go_wp2_with fail
  go_ret
  exact ⟨v1, rfl, h2, b1.grown g2 b1.size (fun k hk => (own_row h1 k hk).1)⟩

theorem revT_succ {xs : List Int} {m : Nat} (h : m < xs.length) : xs.reverse.take (xs.length - m) = xs.reverse.take (xs.length - (m + 1)) ++ [nth xs m] := by
  have e : xs.length - m = (xs.length - (m + 1)) + 1 := by omega
  rw [e, take_snoc (by rw [List.length_reverse]; omega), nth_reverse (by omega)]
  congr 3; omega

/-- A mirrored valid list; nothing of any other. -/
def mir (b : Bool) (xs : List Int) : List Int := if b then xs.reverse else []
theorem mir_len (b : Bool) (xs : List Int) (h : xs.length ≤ 1048576) : (mir b xs).length ≤ 1048576 := by
  unfold mir; split
  · simpa using h
  · simp
theorem own_nil (w : World) (base : Nat) : OwnI w base (.slice none 0 0) [] := World.ownsRow_nil _ _ _ _

set_option maxHeartbeats 1000000 in
theorem iMS_any (v : Value) (xs : List Int) (hx : Ints xs) (b : Bool) (hv : b = true ↔ Vs xs) (w : World) (h : Sl w w.heap.size v xs) (hl : xs.length ≤ 1048576) :
    Calls Try.prog 13 #[v] w (RetO (mir b xs) w) := by
  go_enter Try.func13, Try.ntmps13
  go_wp2_with fail
  refine (iVS_any v xs hx _ h hl).mono ?_
  rintro e w1 ⟨r, rfl, hr, rfl⟩
  obtain rfl : r = b := by rw [Bool.eq_iff_iff, hr, hv]
  clear hr
  cases r
  · go_wp2_with fail
    go_ret
    exact ⟨_, rfl, own_nil _ _, Below.refl _ _⟩
  · have HV := Lib.hid (vs_pos (hv.1 rfl))
    clear hv
    go_wp2_with fail
    refine (iMir_any v xs _ h HV.out hl).mono ?_
    rintro e w1 ⟨v1, rfl, h1, b1⟩
    go_wp2_with fail
    go_ret
    exact ⟨v1, rfl, h1, b1⟩

end Go.Proofs.Ytnhobilmgefhnaa
