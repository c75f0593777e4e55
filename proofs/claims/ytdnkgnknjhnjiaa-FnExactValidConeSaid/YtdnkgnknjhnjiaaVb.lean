/- Cones: what is one, on both sides; the walk of FnExactValidCone. -/
import Derived.Test.YtdnkgnknjhnjiaaQw
namespace Go.Proofs.Ytdnkgnknjhnjiaa
open Go Go.RowKit

/-- A cone. -/
def Cn (xs : List Int) : Prop := Tl xs ∧ 0 < xs.length ∧ xs.length % 2 = 0 ∧ altK xs (xs.length / 2) = 0
/-- What the elements with even indices add up to. -/
def evK (xs : List Int) : Nat → Int
  | 0 => 0
  | k + 1 => evK xs k + (if k % 2 = 0 then nth xs k else 0)
theorem evK_even {xs : List Int} {k : Nat} (h : k % 2 = 0) : evK xs (k + 1) = evK xs k + nth xs k := by simp [evK, h]
theorem evK_odd {xs : List Int} {k : Nat} (h : k % 2 = 1) : evK xs (k + 1) = evK xs k := by simp [evK, h]
theorem alt_ev {xs : List Int} (m : Nat) (h : 2 * m ≤ xs.length) : altK xs m = 2 * evK xs (2 * m) - sumT xs (2 * m) := by
  induction m with
  | zero => simp [altK, evK, sumT_zero]
  | succ m ih =>
    have h0 := ih (by omega)
    have e1 : evK xs (2 * m + 1) = evK xs (2 * m) + nth xs (2 * m) := evK_even (by omega)
    have e2 : evK xs (2 * m + 1 + 1) = evK xs (2 * m + 1) := evK_odd (by omega)
    have e3 : sumT xs (2 * m + 1) = sumT xs (2 * m) + nth xs (2 * m) := sumT_succ (by omega)
    have e4 : sumT xs (2 * m + 1 + 1) = sumT xs (2 * m + 1) + nth xs (2 * m + 1) := sumT_succ (by omega)
    show altK xs m + (nth xs (2 * m) - nth xs (2 * m + 1)) = 2 * evK xs (2 * m + 1 + 1) - sumT xs (2 * m + 1 + 1)
    omega
/-- A bool that says whether p holds; nothing old turned. -/
def RetPB (p : Prop) (w : World) (e : Ending) (w' : World) : Prop := ∃ r : Bool, e = .returned (.bool r) ∧ (r = true ↔ p) ∧ Below w.heap.size w w'

set_option maxHeartbeats 1000000 in
theorem iVC_any (v : Value) (xs : List Int) (hx : Ints xs) (w : World) (h : Sl w w.heap.size v xs) (hl : xs.length ≤ 1048576) :
    Calls Try.prog 41 #[v] w (RetPB (Cn xs) w) := by
  have HR := Lib.hid (iRT_any v xs hx w h hl)
  obtain ⟨A, c, rfl, hc, hcell⟩ := h
  obtain ⟨n, hn⟩ : ∃ n, xs.length = n := ⟨_, rfl⟩
  by_cases ht : Tl xs
  · by_cases hp : 0 < xs.length
    · by_cases he : xs.length % 2 = 0
      · obtain ⟨b, o, rfl, hb, hcs⟩ := hcell hp
        have HA := Lib.hid (iAl_yes b o c (xs.length / 2) xs w hc hb hcs ht (by omega) (by omega) hl)
        obtain ⟨z, hz⟩ : ∃ z, altK xs (xs.length / 2) = z := ⟨_, rfl⟩
        have HC := Lib.hid (show Cn xs ↔ z = 0 from ⟨fun h => by rw [← hz]; exact h.2.2.2, fun h => ⟨ht, hp, he, by rw [hz]; exact h⟩⟩)
        rw [hz] at HA
        rw [hn] at HR HA hp he ⊢
        have hp' : decide (0 < n) = true := decide_eq_true hp
        have he2 : ((n : Int) % 2 == 0) = true := by simp; omega
        have HT := Lib.hid ht
        have HP := Lib.hid hp
        by_cases h3 : z = 0
        · have h4 : (z == 0) = true := by rw [h3]; rfl
          have H3 := Lib.hid h3
          clear h3 hcell hcs hz ht hn he
          go_enter Try.func41, Try.ntmps41
          go_wp2_with fail
          refine (HR.out).mono ?_
          rintro e w1 ⟨r, y, rfl, hr, _, rfl⟩
          obtain rfl : r = true := hr.2 HT.out
          clear hr
          go_wp2_with fail
          refine (HA.out).mono ?_
          rintro e w2 ⟨rfl, b2⟩
          go_wp2_with fail
          go_ret
          exact ⟨true, rfl, iff_of_true rfl (HC.out.2 H3.out), b2⟩
        · have h4 : (z == 0) = false := by simp; omega
          have H3 := Lib.hid h3
          clear h3 hcell hcs hz ht hn he
          go_enter Try.func41, Try.ntmps41
          go_wp2_with fail
          refine (HR.out).mono ?_
          rintro e w1 ⟨r, y, rfl, hr, _, rfl⟩
          obtain rfl : r = true := hr.2 HT.out
          clear hr
          go_wp2_with fail
          refine (HA.out).mono ?_
          rintro e w2 ⟨rfl, b2⟩
          go_wp2_with fail
          go_ret
          exact ⟨false, rfl, iff_of_false (by simp) (fun h => H3.out (HC.out.1 h)), b2⟩
      · have HC := Lib.hid (show ¬ Cn xs from fun h => he h.2.2.1)
        rw [hn] at HR hp he ⊢
        have hp' : decide (0 < n) = true := decide_eq_true hp
        have he2 : ((n : Int) % 2 == 0) = false := by simp; omega
        have HT := Lib.hid ht
        clear hcell ht hn he
        go_enter Try.func41, Try.ntmps41
        go_wp2_with fail
        refine (HR.out).mono ?_
        rintro e w1 ⟨r, y, rfl, hr, _, rfl⟩
        obtain rfl : r = true := hr.2 HT.out
        clear hr
        go_wp2_with fail
        go_ret
        exact ⟨false, rfl, iff_of_false (by simp) HC.out, Below.refl _ _⟩
    · have HC := Lib.hid (show ¬ Cn xs from fun h => hp h.2.1)
      rw [hn] at HR hp ⊢
      obtain rfl : n = 0 := by omega
      have HT := Lib.hid ht
      clear hcell ht hn hp
      go_enter Try.func41, Try.ntmps41
      go_wp2_with fail
      refine (HR.out).mono ?_
      rintro e w1 ⟨r, y, rfl, hr, _, rfl⟩
      obtain rfl : r = true := hr.2 HT.out
      clear hr
      go_wp2_with fail
      go_ret
      exact ⟨false, rfl, iff_of_false (by simp) HC.out, Below.refl _ _⟩
  · have HC := Lib.hid (show ¬ Cn xs from fun h => ht h.1)
    rw [hn] at HR ⊢
    have HT := Lib.hid ht
    clear hcell ht hn
    go_enter Try.func41, Try.ntmps41
    go_wp2_with fail
    refine (HR.out).mono ?_
    rintro e w1 ⟨r, y, rfl, hr, _, rfl⟩
    obtain rfl : r = false := by rw [Bool.eq_false_iff]; exact fun h => HT.out (hr.1 h)
    clear hr
    go_wp2_with fail
    go_ret
    exact ⟨false, rfl, iff_of_false (by simp) HC.out, Below.refl _ _⟩

set_option maxHeartbeats 2000000 in
theorem sCk_any (v : Value) (xs : List Int) (hx : Ints xs) (w : World) (h : Sl w w.heap.size v xs) (hl : xs.length ≤ 1048576) :
    Calls Try.prog 62 #[v] w (RetP (Cn xs) w) := by
  obtain ⟨A, c, rfl, hc, hcell⟩ := h
  obtain ⟨n, hn⟩ : ∃ n, xs.length = n := ⟨_, rfl⟩
  rw [hn] at hl hc hcell ⊢
  have HC := Lib.hid hcell
  have HN := Lib.hid hn
  have HX := Lib.hid hx
  clear hn hcell hx
  by_cases h2 : n < 2
  · have H2 := Lib.hid h2
    go_enter Try.func62, Try.ntmps62
    go_wp2_with fail
    go_ret
    exact ⟨false, rfl, iff_of_false (by simp) (fun h => by have := h.2.1; have := h.2.2.1; rw [HN.out] at *; omega), rfl⟩
  have h2' : 2 ≤ n := by omega
  clear h2
  by_cases h16 : 16 < n
  · go_enter Try.func62, Try.ntmps62
    go_wp2_with fail
    go_ret
    exact ⟨false, rfl, iff_of_false (by simp) (fun h => by have := tl_len h.1; have := HN.out; omega), rfl⟩
  have h16' : n ≤ 16 := by omega
  clear h16
  by_cases he : n % 2 = 0
  case neg =>
    have he2 : ((n : Int) % 2 == 0) = false := by simp; omega
    have he3 : ((n : Int) % 2 != 0) = true := by simp; omega
    have HE := Lib.hid he
    clear he
    go_enter Try.func62, Try.ntmps62
    go_wp2_with fail
    go_ret
    exact ⟨false, rfl, iff_of_false (by simp) (fun h => HE.out (by rw [← HN.out]; exact h.2.2.1)), rfl⟩
  have he2 : ((n : Int) % 2 == 0) = true := by simp; omega
  have he3 : ((n : Int) % 2 != 0) = false := by simp; omega
  have HE := Lib.hid he
  clear he
  go_enter Try.func62, Try.ntmps62
  go_wp2_with fail
  go_loop [3, 4, 5] (fun q u i => ∃ k : Nat, k ≤ n ∧ i = .int .i64 k ∧ q = .int .i64 (sumT xs k) ∧ u = .int .i64 (evK xs k) ∧ 0 ≤ sumT xs k ∧ sumT xs k ≤ 16 * (k : Int) ∧ 0 ≤ evK xs k ∧ evK xs k ≤ 16 * (k : Int) ∧ Hid (∀ j, j < k → 1 ≤ nth xs j)) (fun _ _ i => n - (intOf i).toNat)
  case atStart => exact ⟨0, Nat.zero_le _, rfl, by rw [sumT_zero], rfl, by rw [sumT_zero]; omega, by rw [sumT_zero]; omega, by simp [evK], by simp [evK], Lib.hid (fun j hj => absurd hj (by omega))⟩
  case round =>
    obtain ⟨k, hk, rfl, rfl, rfl, hs0, hs1, hu0, hu1, hall⟩ := hrel
    by_cases hlt : k < n
    · obtain ⟨b, o, rfl, hb, hcs⟩ := HC.out (by omega)
      have hkx : k < xs.length := by rw [HN.out]; exact hlt
      have hcx := hcs k hkx
      have HSS := Lib.hid (sumT_succ hkx)
      have HV := Lib.hid (fun hv : Tl xs => tl_nth hv hkx)
      clear hcs hkx
      by_cases h1 : nth xs k < 1 ∨ 16 < nth xs k
      · have HI := Lib.hid (fun w => in_no (nth xs k) 1 16 w h1)
        have H1 := Lib.hid h1
        clear h1
        go_wp2_with fail
        refine (HI.out _).mono ?_
        rintro e w1 ⟨rfl, rfl⟩
        go_wp2_with fail
        go_ret
        exact ⟨false, rfl, iff_of_false (by simp) (fun hv => by have := HV.out hv.1; have := H1.out; omega), rfl⟩
      · have h1' : 1 ≤ nth xs k := by omega
        have h2' : nth xs k ≤ 16 := by omega
        have HI := Lib.hid (fun w => in_yes (nth xs k) 1 16 w h1' h2')
        clear h1
        by_cases ho : k % 2 = 0
        · have HO := Lib.hid (evK_even (xs := xs) ho)
          have ho2 : ((k : Int) % 2 == 0) = true := by simp; omega
          have ho3 : IntKind.i64.wrap ((k : Int) % 2) = (k : Int) % 2 := IntWalk.i64_in _ (by omega)
          clear ho
          go_wp2_with fail
          refine (HI.out _).mono ?_
          rintro e w1 ⟨rfl, rfl⟩
          go_wp2_with fail
          go_round
          case rel =>
            exact ⟨k + 1, by omega, by go_num, by rw [HSS.out], by rw [HO.out], by rw [HSS.out]; omega, by rw [HSS.out]; omega, by rw [HO.out]; omega, by rw [HO.out]; omega, Lib.hid (fun j hj => by
              rcases Nat.lt_or_ge j k with h | h
              · exact hall.out j h
              · obtain rfl : j = k := by omega
                exact h1')⟩
          case measure => simp [intOf]; omega
        · have HO := Lib.hid (evK_odd (xs := xs) (k := k) (by omega))
          have ho2 : ((k : Int) % 2 == 0) = false := by simp; omega
          clear ho
          go_wp2_with fail
          refine (HI.out _).mono ?_
          rintro e w1 ⟨rfl, rfl⟩
          go_wp2_with fail
          go_round
          case rel =>
            exact ⟨k + 1, by omega, by go_num, by rw [HSS.out], by rw [HO.out], by rw [HSS.out]; omega, by rw [HSS.out]; omega, by rw [HO.out]; omega, by rw [HO.out]; omega, Lib.hid (fun j hj => by
              rcases Nat.lt_or_ge j k with h | h
              · exact hall.out j h
              · obtain rfl : j = k := by omega
                exact h1')⟩
          case measure => simp [intOf]; omega
    · have hkn : k = n := by omega
      have HS := Lib.hid (show sumT xs k = xs.sum by rw [hkn, ← HN.out, sumT_all])
      have HA := Lib.hid (show ∀ x ∈ xs, 1 ≤ x from fun x hx => by
        obtain ⟨j, hj, rfl⟩ := List.getElem_of_mem hx
        have := hall.out j (by rw [hkn, ← HN.out]; exact hj)
        rw [nth_of hj] at this; exact this)
      have HK := Lib.hid (show altK xs (xs.length / 2) = 2 * evK xs k - sumT xs k by
        have h := alt_ev (xs := xs) (xs.length / 2) (by omega)
        rw [h, show 2 * (xs.length / 2) = k by have := HN.out; have := HE.out; omega])
      have hcn : Hid (Cn xs ↔ sumT xs k ≤ 16 ∧ 2 * evK xs k = sumT xs k) := Lib.hid ⟨fun h => ⟨by rw [HS.out]; exact h.1.2, by have := h.2.2.2; rw [HK.out] at this; omega⟩,
        fun h => ⟨⟨HA.out, by rw [← HS.out]; exact h.1⟩, by rw [HN.out]; omega, by rw [HN.out]; exact HE.out, by rw [HK.out]; omega⟩⟩
      have HKN := Lib.hid hkn
      obtain ⟨s, hs⟩ : ∃ s, sumT xs k = s := ⟨_, rfl⟩
      obtain ⟨u, hu⟩ : ∃ u, evK xs k = u := ⟨_, rfl⟩
      rw [hs] at hs0 hs1 hcn ⊢
      rw [hu] at hu0 hu1 hcn ⊢
      clear hkn hs hu HS HK
      by_cases h5 : s ≤ 16
      · by_cases h3 : 2 * u = s
        · have h4 : (2 * u == s) = true := by rw [h3]; simp
          have H3 := Lib.hid h3
          clear h3
          go_wp2_with fail
          go_ret
          exact ⟨true, rfl, iff_of_true rfl (hcn.out.2 ⟨h5, H3.out⟩), rfl⟩
        · have h4 : (2 * u == s) = false := by simp; omega
          have H3 := Lib.hid h3
          clear h3
          go_wp2_with fail
          go_ret
          exact ⟨false, rfl, iff_of_false (by simp) (fun hv => H3.out (hcn.out.1 hv).2), rfl⟩
      · have h5' : decide (s ≤ 16) = false := decide_eq_false h5
        go_wp2_with fail
        go_ret
        exact ⟨false, rfl, iff_of_false (by simp) (fun hv => by have := (hcn.out.1 hv).1; omega), rfl⟩

theorem sVC_any (v : Value) (xs : List Int) (hx : Ints xs) (w : World) (h : Sl w w.heap.size v xs) (hl : xs.length ≤ 1048576) :
    Calls Try.prog 40 #[v] w (RetP (Cn xs) w) := by
  go_enter Try.func40, Try.ntmps40
  go_wp2_with fail
  refine (sCk_any v xs hx _ h hl).mono ?_
  rintro e w1 ⟨r, rfl, hr, rfl⟩
  have HR := Lib.hid hr
  clear hr
  go_wp2_with fail
  go_ret
  exact ⟨r, rfl, HR.out, rfl⟩

set_option maxHeartbeats 1000000 in
theorem exactValidCone.walk (a : Value) (xs : List Int) (hx : Ints xs) (w : World) (h : Sl w w.heap.size a xs) : Calls Try.prog 12 #[a] w (RetT w) := by
  by_cases hl : 1048576 < xs.length
  · obtain ⟨A, c, rfl, hc, _⟩ := h
    go_enter Try.func12, Try.ntmps12
    go_wp2_with fail
    go_ret
    exact ⟨rfl, Below.refl _ _⟩
  have hl' : xs.length ≤ 1048576 := by omega
  obtain ⟨A, c, rfl, hc, hcell⟩ := h
  have HA := Lib.hid (show Sl w w.heap.size (.slice A xs.length c) xs from ⟨A, c, rfl, hc, hcell⟩)
  have HX := Lib.hid hx
  clear hcell hx
  go_enter Try.func12, Try.ntmps12
  go_wp2_with fail
  refine (toI_any _ xs _ HA.out hl').mono ?_
  rintro e w1 ⟨v1, rfl, h1, b1⟩
  go_wp2_with fail
  refine (sVC_any _ xs HX.out _ h1.sl hl').mono ?_
  rintro e w2 ⟨r, rfl, hr, rfl⟩
  have HR := Lib.hid hr
  clear hr
  go_wp2_with fail
  refine (toI_any _ xs _ ((HA.out.below b1 (Nat.le_refl _)).mono b1.size) hl').mono ?_
  rintro e w3 ⟨v3, rfl, h3, b3⟩
  go_wp2_with fail
  refine (iVC_any _ xs HX.out _ h3.sl hl').mono ?_
  rintro e w4 ⟨r', rfl, hr', b4⟩
  obtain rfl : r' = r := by rw [Bool.eq_iff_iff, hr', HR.out]
  clear hr'
  have hrr : (r' != r') = false := by simp
  have c4 := b4
  replace b4 := (b1.trans (b3.mono b1.size)).trans (b4.mono (b1.trans (b3.mono b1.size)).size)
  go_wp2_with fail
  refine (toI_any _ xs _ ((HA.out.below b4 (Nat.le_refl _)).mono b4.size) hl').mono ?_
  rintro e w5 ⟨v5, rfl, h5, b5⟩
  go_wp2_with fail
  refine (eqI_same _ _ xs _ (OwnI.sl (own_below (own_below h3 c4 (Nat.le_refl _)) b5 (Nat.le_refl _))) h5.sl hl').mono ?_
  rintro e w6 ⟨rfl, m, rfl⟩
  go_wp2_with fail
  go_ret
  exact ⟨rfl, below_drewN (b4.trans (b5.mono b4.size)) m⟩
end Go.Proofs.Ytdnkgnknjhnjiaa
