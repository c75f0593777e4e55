/- The model's sectors of directions. -/
import Derived.Test.YtlmfbcffmalkkaaQs
import Derived.Laws.Pointers
import Derived.StillTactics
namespace Go.Proofs.Ytlmfbcffmalkkaa
open Go Go.RowKit

def sec (xs : List Int) (j : Nat) : Int := if j + 1 < xs.length then nth xs (j + 1) - nth xs j else nth xs 0 + 16 - nth xs j
def secs (b : Bool) (xs : List Int) : List Int := if b then tab (sec xs) xs.length else []
theorem secs_len (b : Bool) (xs : List Int) (h : xs.length ≤ 1048576) : (secs b xs).length ≤ 1048576 := by
  unfold secs; split
  · rw [tab_len]; exact h
  · simp
theorem dirsP_no {xs : List Int} {b : Bool} (hb : b = true ↔ DirsP xs) (h : ¬ DirsP xs) : b = false := by
  rcases b with _ | _
  · rfl
  · exact absurd (hb.1 rfl) h
theorem own_ne {w : World} {base : Nat} {e : TypeId} {size : Nat} {v : Value} {n : Nat} {xs : List Value} (h : w.ownsRow base e size v n xs) {g : Nat} (hg : g < base) : some g ≠ v.ownBlock := by
  intro e
  have := (own_row h g e.symm).1
  omega

set_option maxRecDepth 100000 in
set_option maxHeartbeats 4000000 in
theorem sSO_yes (A : Option Addr) (c : Nat) (xs : List Int) (w : World) (hc : xs.length ≤ c) (hcell : 0 < xs.length → ∃ b o, A = some ⟨b, o, none⟩ ∧ b < w.heap.size ∧ Cells w b o xs) (hd : DirsP xs) (hl : xs.length ≤ 1048576)
    (HD : Hid (Calls Try.prog 40 #[.slice A xs.length c] w (RetPQ (DsK xs xs.length) w))) :
    Calls Try.prog 16 #[.slice A xs.length c] w (RetOB (tab (sec xs) xs.length) true w) := by
  obtain ⟨n, hn⟩ : ∃ n, xs.length = n := ⟨_, rfl⟩
  have hp := hd.1
  obtain ⟨b, o, rfl, hb, hcs⟩ := hcell hp
  rw [hn] at hl hc HD hp ⊢
  have HN := Lib.hid hn
  have HDs := Lib.hid (show DsK xs n by rw [← hn]; exact hd.2)
  have HC := Lib.hid hcs
  clear hn hcell hcs hd
  obtain ⟨i0, hi, hz0, hz1, hz2⟩ := info_parts infoI64
  have hn0 : (n == 0) = false := by simp; omega
  have hn0' : ((n : Int) == 0) = false := by simp; omega
  go_enter Try.func16, Try.ntmps16
  go_wp2_with fail
  refine (HD.out).mono ?_
  rintro e w1 ⟨r, rfl, hr, m, rfl⟩
  obtain rfl : r = true := by rw [hr]; exact HDs.out
  clear hr
  have HW := Lib.hid (World.ownsRow_lit (base := w.heap.size) (e := 2) (size := 1) (w.drewN m) #[] 0 (Nat.le_refl _) (by decide) rfl)
  have HB := Lib.hid ((below_drewN (Below.refl w.heap.size w) m).alloc (Nat.le_refl _) (.cells #[] 2))
  go_wp2_with fail
  go_loopw [4, 5] (fun z i wr => ∃ k : Nat, k + 1 ≤ n ∧ i = .int .i64 ((k : Int) + 1) ∧ OwnN wr w.heap.size z k (tab (sec xs) k) ∧ Below w.heap.size w wr) (fun _ i _ => n - (intOf i).toNat)
  case atStart => exact ⟨0, by omega, rfl, HW.out, HB.out⟩
  case round =>
    obtain ⟨k, hk, rfl, hown, hbel⟩ := hrel
    have hsz := hbel.size
    have hx : ∀ j, j < n → wr.cell? ⟨b, o + j, none⟩ = some (.int .i64 (nth xs j)) := fun j hj => (hbel.cell (p := ⟨b, o + j, none⟩) hb).trans (HC.out j (by rw [HN.out]; exact hj))
    have hds : ∀ j, j < n → 0 ≤ nth xs j ∧ nth xs j ≤ 15 := fun j hj => HDs.out.1 j (by omega)
    have hne := own_ne hown (g := b) hb
    by_cases hlt : k + 1 < n
    · have hc1 := hx (k + 1) hlt
      have hc0 := hx k (by omega)
      have d1 := hds (k + 1) hlt
      have d0 := hds k (by omega)
      have e1 : IntKind.i64.wrap ((k : Int) + 1 - 1) = (k : Int) := by rw [show (k : Int) + 1 - 1 = (k : Int) by omega]; exact IntWalk.i64_in _ (by omega)
      have e1' : IntKind.i64.wrap (k : Int) = (k : Int) := IntWalk.i64_in _ (by omega)
      have hs : Hid (sec xs k = nth xs (k + 1) - nth xs k) := Lib.hid (by unfold sec; rw [HN.out, if_pos hlt])
      have e2 : IntKind.i64.wrap (nth xs (k + 1) - nth xs k) = nth xs (k + 1) - nth xs k := IntWalk.i64_in _ (by omega)
      have ht : ((k : Int) + 1).toNat = k + 1 := by omega
      have hlb : b < wr.heap.size := by omega
      have i0a : (0 : Int) ≤ (k : Int) + 1 := by omega
      have i0b : (k : Int) + 1 < (n : Int) := by omega
      have i0c : (0 : Int) ≤ (k : Int) := by omega
      have i0d : (k : Int) < (n : Int) := by omega
      clear hx hds
      go_wp2_with fail
      go_region_held3 (fun w' => w'.cell? ⟨b, o + (k + 1), none⟩ = some (.int .i64 (nth xs (k + 1))) ∧ w'.cell? ⟨b, o + k, none⟩ = some (.int .i64 (nth xs k))) (first | go_keep | (go_split_ands; refine ⟨?_, ?_⟩ <;> (rw [hgrow.cell_far _ (by simp; omega) hne]; assumption))) ((refine step_append_lies _ (by rfl) _ _ _ (by rfl) w.heap.size 2 i0 _ 1 8 Try.underlying22 hi hz0 hz1 hz2 rfl (by omega) u4 k ((tab (sec xs) k).map (Value.int .i64)) (by rfl) ((hown.alloc _).drew) ⟨wr.heap.size, 0, none⟩ 1 1 [.int .i64 (nth xs (k + 1) - nth xs k)] (by rfl) (by rfl) (World.news_of_block (cs := #[.int .i64 (nth xs (k + 1) - nth xs k)]) (t := 2) (fr := (0, 0)) (heap_alloc_new wr _)) (by simp [Value.oneCell']) (by omega) (by unfold maxLen; omega) (by omega) (by simp; omega) (wr.heap.size + 1) (by simp) ?_; intro gg cap w1 hown1 hgrow hat hlt1))
      have HB1 := ((hbel.alloc hsz (.cells #[.int .i64 (nth xs (k + 1) - nth xs k)] 2)).drew).grown hgrow (by simp; omega) (fun j hj => (own_row hown j hj).1)
      clear hgrow hc1 hc0
      go_wp2_with fail
      go_roundw
      case rel =>
        refine ⟨k + 1, by omega, by go_num, ?_, HB1⟩
        unfold OwnN
        rw [tab_succ, List.map_append, hs.out]
        exact hown1
      case measure => simp [intOf]; omega
    · obtain rfl : n = k + 1 := by omega
      have hc0 : wr.cell? ⟨b, o, none⟩ = some (.int .i64 (nth xs 0)) := hx 0 (by omega)
      have hc1 := hx k (by omega)
      have d1 := hds k (by omega)
      have d0 := hds 0 (by omega)
      have e1 : IntKind.i64.wrap (((k + 1 : Nat) : Int) - 1) = (k : Int) := by rw [show ((k + 1 : Nat) : Int) - 1 = (k : Int) by omega]; exact IntWalk.i64_in _ (by omega)
      have e1a : IntKind.i64.wrap ((k : Int) + 1 - 1) = (k : Int) := by rw [show (k : Int) + 1 - 1 = (k : Int) by omega]; exact IntWalk.i64_in _ (by omega)
      have e1' : IntKind.i64.wrap (k : Int) = (k : Int) := IntWalk.i64_in _ (by omega)
      have hs : Hid (sec xs k = nth xs 0 + 16 - nth xs k) := Lib.hid (by unfold sec; rw [HN.out, if_neg (by omega)])
      have e2 : IntKind.i64.wrap (nth xs 0 + 16) = nth xs 0 + 16 := IntWalk.i64_in _ (by omega)
      have e3 : IntKind.i64.wrap (nth xs 0 + 16 - nth xs k) = nth xs 0 + 16 - nth xs k := IntWalk.i64_in _ (by omega)
      have hlb : b < wr.heap.size := by omega
      have i0a : (0 : Int) < (k : Int) + 1 := by omega
      have i0c : (0 : Int) ≤ (k : Int) := by omega
      have i0d : (k : Int) < (k : Int) + 1 := by omega
      have HR := Lib.hid hn0
      clear hx hds hn0 hn0'
      go_wp2_with fail
      go_region_held3 (fun w' => w'.cell? ⟨b, o, none⟩ = some (.int .i64 (nth xs 0)) ∧ w'.cell? ⟨b, o + k, none⟩ = some (.int .i64 (nth xs k))) (first | go_keep | (go_split_ands; refine ⟨?_, ?_⟩ <;> (rw [hgrow.cell_far _ (by simp; omega) hne]; assumption))) ((refine step_append_lies _ (by rfl) _ _ _ (by rfl) w.heap.size 2 i0 _ 1 8 Try.underlying22 hi hz0 hz1 hz2 rfl (by omega) u4 k ((tab (sec xs) k).map (Value.int .i64)) (by rfl) ((hown.alloc _).drew) ⟨wr.heap.size, 0, none⟩ 1 1 [.int .i64 (nth xs 0 + 16 - nth xs k)] (by rfl) (by rfl) (World.news_of_block (cs := #[.int .i64 (nth xs 0 + 16 - nth xs k)]) (t := 2) (fr := (0, 0)) (heap_alloc_new wr _)) (by simp [Value.oneCell']) (by omega) (by unfold maxLen; omega) (by omega) (by simp; omega) (wr.heap.size + 1) (by simp) ?_; intro gg cap w1 hown1 hgrow hat hlt1))
      have HB1 := ((hbel.alloc hsz (.cells #[.int .i64 (nth xs 0 + 16 - nth xs k)] 2)).drew).grown hgrow (by simp; omega) (fun j hj => (own_row hown j hj).1)
      clear hgrow hc1 hc0
      go_wp2_with fail
      go_ret2
      refine ⟨_, rfl, ?_, HB1⟩
      unfold OwnI
      rw [tab_len, tab_succ, List.map_append, hs.out]
      exact hown1

set_option maxHeartbeats 1000000 in
theorem sSO_any (v : Value) (xs : List Int) (hx : Ints xs) (b : Bool) (hv : b = true ↔ DirsP xs) (w : World) (h : Sl w w.heap.size v xs) (hl : xs.length ≤ 1048576) :
    Calls Try.prog 16 #[v] w (RetOB (secs b xs) b w) := by
  have HD := Lib.hid (sDs_any v xs hx w h hl)
  by_cases hd : DirsP xs
  · obtain rfl : b = true := hv.2 hd
    obtain ⟨A, c, rfl, hc, hcell⟩ := h
    exact sSO_yes A c xs w hc hcell hd hl HD
  · obtain rfl : b = false := dirsP_no hv hd
    obtain ⟨A, c, rfl, hc, hcell⟩ := h
    have HN := Lib.hid hd
    clear hcell hv hd
    by_cases h0 : xs.length = 0
    · rw [h0] at HD ⊢
      go_enter Try.func16, Try.ntmps16
      go_wp2_with fail
      go_ret2
      exact ⟨_, rfl, own_nil _ _, Below.refl _ _⟩
    · have h0' : ((xs.length : Int) == 0) = false := by simp only [beq_eq_false_iff_ne, ne_eq]; omega
      have H0 := Lib.hid h0
      clear h0
      go_enter Try.func16, Try.ntmps16
      go_wp2_with fail
      refine (HD.out).mono ?_
      rintro e w1 ⟨r, rfl, hr, m, rfl⟩
      obtain rfl : r = false := by rw [Bool.eq_false_iff]; exact fun h => HN.out ⟨Nat.pos_of_ne_zero H0.out, hr.1 h⟩
      clear hr
      go_wp2_with fail
      go_ret2
      exact ⟨_, rfl, own_nil _ _, below_drewN (Below.refl _ _) m⟩
end Go.Proofs.Ytlmfbcffmalkkaa
