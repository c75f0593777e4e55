/- Valid sector lists, on both sides. -/
import Derived.Test.YtnhobilmgefhnaaQa
import Derived.Deep.RegionWith
namespace Go.Proofs.Ytnhobilmgefhnaa
open Go Go.RowKit

def RetV (v : Value) (w : World) (e : Ending) (w' : World) : Prop := e = .returned v ∧ w = w'
/-- A bool that says whether p holds. -/
def RetP (p : Prop) (w : World) (e : Ending) (w' : World) : Prop := ∃ r : Bool, e = .returned (.bool r) ∧ (r = true ↔ p) ∧ w = w'

def sumT (xs : List Int) (k : Nat) : Int := (xs.take k).sum
theorem sumT_zero (xs : List Int) : sumT xs 0 = 0 := by simp [sumT]
theorem sumT_succ {xs : List Int} {k : Nat} (h : k < xs.length) : sumT xs (k + 1) = sumT xs k + nth xs k := by
  unfold sumT; rw [take_snoc h, List.sum_append]; simp
theorem sumT_all (xs : List Int) : sumT xs xs.length = xs.sum := by simp [sumT]

/-- A valid sector list. -/
def Vs (xs : List Int) : Prop := (∀ x ∈ xs, 1 ≤ x) ∧ xs.sum = 16

theorem sum_pos {xs : List Int} (h : ∀ x ∈ xs, 1 ≤ x) : (xs.length : Int) ≤ xs.sum := by
  induction xs with
  | nil => simp
  | cons a l ih =>
    have h1 := h a (by simp)
    have h2 := ih (fun x hx => h x (by simp [hx]))
    simp only [List.length_cons, List.sum_cons]; omega
theorem vs_take {xs : List Int} (h : Vs xs) (k : Nat) : 0 ≤ sumT xs k ∧ sumT xs k ≤ 16 := by
  have e : xs.sum = sumT xs k + (xs.drop k).sum := by unfold sumT; rw [← List.sum_append, List.take_append_drop]
  have h1 := sum_pos (xs := xs.drop k) (fun x hx => h.1 x (List.mem_of_mem_drop hx))
  have h2 := sum_pos (xs := xs.take k) (fun x hx => h.1 x (List.mem_of_mem_take hx))
  have := h.2
  unfold sumT at e ⊢
  omega
theorem vs_len {xs : List Int} (h : Vs xs) : xs.length ≤ 16 := by
  have := sum_pos h.1; have := h.2; omega
theorem vs_pos {xs : List Int} (h : Vs xs) : 0 < xs.length := by
  rcases xs with _ | ⟨a, l⟩
  · have := h.2; simp at this
  · simp
theorem vs_nth {xs : List Int} (h : Vs xs) {k : Nat} (hk : k < xs.length) : 1 ≤ nth xs k ∧ nth xs k ≤ 16 := by
  have h1 := h.1 _ (nth_mem hk)
  have h2 := vs_take h k
  have h3 := vs_take h (k + 1)
  rw [sumT_succ hk] at h3
  omega
theorem vs_ints {xs : List Int} (h : Vs xs) : Ints xs := by
  intro x hx
  obtain ⟨k, hk, rfl⟩ := List.getElem_of_mem hx
  have := vs_nth h hk
  rw [nth_of hk] at this
  unfold I64; omega

/-- Sectors of a part of a whole turn. -/
def Tl (xs : List Int) : Prop := (∀ x ∈ xs, 1 ≤ x) ∧ xs.sum ≤ 16
theorem Vs.tl {xs : List Int} (h : Vs xs) : Tl xs := ⟨h.1, by have := h.2; omega⟩
theorem tl_take {xs : List Int} (h : Tl xs) (k : Nat) : 0 ≤ sumT xs k ∧ sumT xs k ≤ 16 := by
  have e : xs.sum = sumT xs k + (xs.drop k).sum := by unfold sumT; rw [← List.sum_append, List.take_append_drop]
  have h1 := sum_pos (xs := xs.drop k) (fun x hx => h.1 x (List.mem_of_mem_drop hx))
  have h2 := sum_pos (xs := xs.take k) (fun x hx => h.1 x (List.mem_of_mem_take hx))
  have := h.2
  unfold sumT at e ⊢
  omega
theorem tl_len {xs : List Int} (h : Tl xs) : xs.length ≤ 16 := by
  have := sum_pos h.1; have := h.2; omega
theorem tl_nth {xs : List Int} (h : Tl xs) {k : Nat} (hk : k < xs.length) : 1 ≤ nth xs k ∧ nth xs k ≤ 16 := by
  have h1 := h.1 _ (nth_mem hk)
  have h2 := tl_take h k
  have h3 := tl_take h (k + 1)
  rw [sumT_succ hk] at h3
  omega
/-- What is left of a whole turn, and whether there was room. -/
def RetRT (xs : List Int) (w : World) (e : Ending) (w' : World) : Prop := ∃ (r : Bool) (z : Int), e = .returned (.tuple #[.int .i64 z, .bool r]) ∧ (r = true ↔ Tl xs) ∧ (r = true → z = 16 - xs.sum) ∧ w = w'

theorem in_yes (x a b : Int) (w : World) (h1 : a ≤ x) (h2 : x ≤ b) : Calls Try.prog 65 #[.int .i64 x, .int .i64 a, .int .i64 b] w (RetV (.bool true) w) := by
  go_enter Try.func65, Try.ntmps65
  go_wp2_with fail
  go_ret
  exact ⟨rfl, rfl⟩
theorem in_no (x a b : Int) (w : World) (h : x < a ∨ b < x) : Calls Try.prog 65 #[.int .i64 x, .int .i64 a, .int .i64 b] w (RetV (.bool false) w) := by
  by_cases h1 : x < a
  · go_enter Try.func65, Try.ntmps65
    go_wp2_with fail
    go_ret
    exact ⟨rfl, rfl⟩
  · have h2 : a ≤ x := by omega
    have h3 : decide (x ≤ b) = false := decide_eq_false (by omega)
    clear h
    go_enter Try.func65, Try.ntmps65
    go_wp2_with fail
    go_ret
    exact ⟨rfl, rfl⟩

set_option maxHeartbeats 1000000 in
theorem iRT_any (v : Value) (xs : List Int) (hx : Ints xs) (w : World) (h : Sl w w.heap.size v xs) (hl : xs.length ≤ 1048576) :
    Calls Try.prog 40 #[v] w (RetRT xs w) := by
  obtain ⟨A, c, rfl, hc, hcell⟩ := h
  obtain ⟨n, hn⟩ : ∃ n, xs.length = n := ⟨_, rfl⟩
  rw [hn] at hl hc hcell ⊢
  have HC := Lib.hid hcell
  have HN := Lib.hid hn
  have HX := Lib.hid hx
  clear hn hcell hx
  go_enter Try.func40, Try.ntmps40
  go_wp2_with fail
  go_loop [4, 9] (fun q i => ∃ k : Nat, k ≤ n ∧ i = .int .i64 k ∧ q = .int .i64 (16 - sumT xs k) ∧ 0 ≤ sumT xs k ∧ sumT xs k ≤ 16 ∧ Hid (∀ j, j < k → 1 ≤ nth xs j)) (fun _ i => n - (intOf i).toNat)
  case atStart => exact ⟨0, Nat.zero_le _, rfl, by rw [sumT_zero]; rfl, by rw [sumT_zero]; omega, by rw [sumT_zero]; omega, Lib.hid (fun j hj => absurd hj (by omega))⟩
  case round =>
    obtain ⟨k, hk, rfl, rfl, hs0, hs1, hall⟩ := hrel
    by_cases hlt : k < n
    · obtain ⟨b, o, rfl, hb, hcs⟩ := HC.out (by omega)
      have hkx : k < xs.length := by rw [HN.out]; exact hlt
      have hcx := hcs k hkx
      have HSS := Lib.hid (sumT_succ hkx)
      have HV := Lib.hid (fun hv : Tl xs => And.intro (tl_nth hv hkx) (tl_take hv (k + 1)))
      have bd := nth_bd HX.out hkx
      unfold I64 at bd
      clear hcs hkx
      by_cases h1 : nth xs k < 1
      · go_wp2_with fail
        go_ret2
        exact ⟨false, _, rfl, iff_of_false (by simp) (fun hv => by have := (HV.out hv).1; omega), fun h => (by cases h), rfl⟩
      · have h1' : 1 ≤ nth xs k := by omega
        by_cases h2 : 16 - sumT xs k < nth xs k
        · clear h1
          go_wp2_with fail
          go_ret2
          exact ⟨false, _, rfl, iff_of_false (by simp) (fun hv => by have h := (HV.out hv).2; rw [HSS.out] at h; omega), fun h => (by cases h), rfl⟩
        · have h2' : nth xs k ≤ 16 - sumT xs k := by omega
          clear h1 h2
          go_wp2_with fail
          go_round
          case rel =>
            exact ⟨k + 1, by omega, by go_num, by rw [HSS.out]; go_num, by rw [HSS.out]; omega, by rw [HSS.out]; omega, Lib.hid (fun j hj => by
              rcases Nat.lt_or_ge j k with h | h
              · exact hall.out j h
              · obtain rfl : j = k := by omega
                exact h1')⟩
          case measure => simp [intOf]; omega
    · have hkn : k = n := by omega
      have HE := Lib.hid (show sumT xs k = xs.sum by rw [hkn, ← HN.out, sumT_all])
      have HA := Lib.hid (show ∀ x ∈ xs, 1 ≤ x from fun x hx => by
        obtain ⟨j, hj, rfl⟩ := List.getElem_of_mem hx
        have := hall.out j (by rw [hkn, ← HN.out]; exact hj)
        rw [nth_of hj] at this; exact this)
      clear hkn
      go_wp2_with fail
      go_ret2
      exact ⟨true, _, rfl, iff_of_true rfl ⟨HA.out, by rw [← HE.out]; exact hs1⟩, fun _ => by rw [HE.out], rfl⟩

set_option maxHeartbeats 1000000 in
theorem iVS_any (v : Value) (xs : List Int) (hx : Ints xs) (w : World) (h : Sl w w.heap.size v xs) (hl : xs.length ≤ 1048576) :
    Calls Try.prog 15 #[v] w (RetP (Vs xs) w) := by
  have HR := Lib.hid (iRT_any v xs hx w h hl)
  clear hx h hl
  go_enter Try.func15, Try.ntmps15
  go_wp2_with fail
  refine (HR.out).mono ?_
  rintro e w1 ⟨r, z, rfl, hr, hz, rfl⟩
  cases r
  · have H := Lib.hid hr
    clear hr hz
    go_wp2_with fail
    go_ret
    exact ⟨false, rfl, iff_of_false (by simp) (fun hv => by have := H.out.2 hv.tl; cases this), rfl⟩
  · have hT := hr.1 rfl
    have hZ := hz rfl
    have HT := Lib.hid hT
    have HZ := Lib.hid hZ
    by_cases h3 : z = 0
    · have h4 : (z == 0) = true := by rw [h3]; rfl
      have H3 := Lib.hid h3
      clear h3 hr hz hT hZ
      go_wp2_with fail
      go_ret
      exact ⟨true, rfl, iff_of_true rfl ⟨HT.out.1, by have := HZ.out; have := H3.out; omega⟩, rfl⟩
    · have h4 : (z == 0) = false := by simp; omega
      have H3 := Lib.hid h3
      clear h3 hr hz hT hZ
      go_wp2_with fail
      go_ret
      exact ⟨false, rfl, iff_of_false (by simp) (fun hv => by have := HZ.out; have := H3.out; have := hv.2; omega), rfl⟩

end Go.Proofs.Ytnhobilmgefhnaa
