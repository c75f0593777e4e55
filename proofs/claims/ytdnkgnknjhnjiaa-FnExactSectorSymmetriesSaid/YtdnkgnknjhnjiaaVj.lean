/- Symmetries of sector lists, on both sides; the walk of FnExactSectorSymmetries. -/
import Derived.Test.YtdnkgnknjhnjiaaVi
namespace Go.Proofs.Ytdnkgnknjhnjiaa
open Go Go.RowKit

/-- Two numbers; nothing old turned. -/
def RetII (x y : Int) (w : World) (e : Ending) (w' : World) : Prop := e = .returned (.tuple #[.int .i64 x, .int .i64 y]) ∧ Below w.heap.size w w'
def sy1 (b : Bool) (xs : List Int) : Int := if b then cn xs xs xs.length else 0
def sy2 (b : Bool) (xs : List Int) : Int := if b then cn xs.reverse xs xs.length else 0
theorem vs_no {xs : List Int} {b : Bool} (hb : b = true ↔ Vs xs) (h : ¬ Vs xs) : b = false := by
  rcases b with _ | _
  · rfl
  · exact absurd (hb.1 rfl) h

set_option maxHeartbeats 2000000 in
theorem iSS_any (v : Value) (xs : List Int) (hx : Ints xs) (b : Bool) (hv : b = true ↔ Vs xs) (w : World) (h : Sl w w.heap.size v xs) (hl : xs.length ≤ 1048576) :
    Calls Try.prog 34 #[v] w (RetII (sy1 b xs) (sy2 b xs) w) := by
  have HO := Lib.hid (iVS_any v xs hx w h hl)
  by_cases hvs : Vs xs
  · obtain rfl : b = true := hv.2 hvs
    have hp := vs_pos hvs
    have HV := Lib.hid hvs
    have H1 := Lib.hid (iCR_any v v xs xs xs.length rfl rfl hp hl w h h)
    have HM := Lib.hid (fun W (hb : Below w.heap.size w W) => iMir_any v xs W ((h.below hb (Nat.le_refl _)).mono hb.size) hp hl)
    have H2 := Lib.hid (fun u W (hb : Below w.heap.size w W) (hu : Sl W W.heap.size u xs.reverse) => iCR_any u v xs.reverse xs xs.length (by simp) rfl hp hl W hu ((h.below hb (Nat.le_refl _)).mono hb.size))
    unfold sy1 sy2
    rw [if_pos rfl, if_pos rfl]
    obtain ⟨a1, e1⟩ : ∃ a, cn xs xs xs.length = a := ⟨_, rfl⟩
    obtain ⟨a2, e2⟩ : ∃ a, cn xs.reverse xs xs.length = a := ⟨_, rfl⟩
    rw [e1] at H1 ⊢
    rw [e2] at H2 ⊢
    clear hv hvs h e1 e2
    go_enter Try.func34, Try.ntmps34
    go_wp2_with fail
    refine (HO.out).mono ?_
    rintro e w1 ⟨r, rfl, hr, rfl⟩
    obtain rfl : r = true := by rw [hr]; exact HV.out
    clear hr
    go_wp2_with fail
    refine (H1.out).mono ?_
    rintro e w2 ⟨rfl, b2⟩
    go_wp2_with fail
    refine (HM.out _ b2).mono ?_
    rintro e w3 ⟨u, rfl, o3, b3⟩
    have b3' := b2.trans (b3.mono b2.size)
    go_wp2_with fail
    refine (H2.out _ _ b3' o3.sl).mono ?_
    rintro e w4 ⟨rfl, b4⟩
    go_wp2_with fail
    go_ret2
    exact ⟨rfl, b3'.trans (b4.mono b3'.size)⟩
  · obtain rfl : b = false := vs_no hv hvs
    have HV := Lib.hid hvs
    clear hv hvs h
    go_enter Try.func34, Try.ntmps34
    go_wp2_with fail
    refine (HO.out).mono ?_
    rintro e w1 ⟨r, rfl, hr, rfl⟩
    obtain rfl : r = false := by rw [Bool.eq_false_iff]; exact fun h => HV.out (hr.1 h)
    clear hr
    go_wp2_with fail
    go_ret2
    exact ⟨rfl, Below.refl _ _⟩

set_option maxHeartbeats 4000000 in
theorem sSS_any (v : Value) (xs : List Int) (hx : Ints xs) (b : Bool) (hv : b = true ↔ Vs xs) (w : World) (h : Sl w w.heap.size v xs) (hl : xs.length ≤ 1048576) :
    Calls Try.prog 33 #[v] w (RetII (sy1 b xs) (sy2 b xs) w) := by
  have HO := Lib.hid (fun W (hb : Below w.heap.size w W) => sOk_any v xs hx W ((h.below hb (Nat.le_refl _)).mono hb.size) hl)
  have HM := Lib.hid (sMir_any v xs w h hl)
  by_cases hvs : Vs xs
  · obtain rfl : b = true := hv.2 hvs
    have hp := vs_pos hvs
    have HV := Lib.hid hvs
    obtain ⟨n, hn⟩ : ∃ n, xs.length = n := ⟨_, rfl⟩
    rw [hn] at hp hl
    obtain ⟨bb, o, c, rfl, hc, hbb, C1⟩ := sl_at h hn hp
    have HC := Lib.hid C1
    have HN := Lib.hid hn
    have HS := Lib.hid h
    clear hv hvs C1 h
    unfold sy1 sy2
    rw [if_pos rfl, if_pos rfl, hn]
    clear hn
    have hn16 : n ≤ 16 := by rw [← HN.out]; exact vs_len HV.out
    go_enter Try.func33, Try.ntmps33
    go_wp2_with fail
    refine (HM.out).mono ?_
    rintro e w1 ⟨u, rfl, o1, b1⟩
    have hs1 := b1.size
    obtain ⟨b2, o2, c2, rfl, hc2, hb2, C2⟩ := sl_at o1.sl (n := n) (by rw [List.length_reverse, HN.out]) hp
    have HC2 := Lib.hid C2
    clear o1 C2
    go_wp2_with fail
    go_loopw [4, 5, 7] (fun q p i wr => ∃ k : Nat, k ≤ n ∧ i = .int .i64 (k : Int) ∧ q = .int .i64 (cn xs xs k) ∧ p = .int .i64 (cn xs.reverse xs k) ∧ Below w1.heap.size w1 wr) (fun _ _ i _ => n - (intOf i).toNat)
    case atStart => exact ⟨0, Nat.zero_le _, rfl, rfl, rfl, Below.refl _ _⟩
    case round =>
      obtain ⟨k, hk, rfl, rfl, rfl, hbel⟩ := hrel
      have hB : Below w.heap.size w wr := b1.trans (hbel.mono hs1)
      by_cases hlt : k < n
      · have d1 := cn_bd xs xs k
        have d2 := cn_bd xs.reverse xs k
        have hsz := hbel.size
        have HO1 := Lib.hid (HO.out wr hB)
        have HR1 := Lib.hid (sRt_any bb o c n k xs wr (by omega) (cells_below HC.out hB hbb) HN.out hc hlt hl)
        have l1 : (rot xs k).length = n := by rw [rot_len _ (by rw [HN.out]; omega), HN.out]
        have l2 : (rot xs.reverse k).length = n := by rw [rot_len _ (by rw [List.length_reverse, HN.out]; omega), List.length_reverse, HN.out]
        have HE1 := Lib.hid (fun v1 W (hb : Below w.heap.size w W) (hu : Sl W W.heap.size v1 (rot xs k)) => sSame_any v1 (.slice (some ⟨bb, o, none⟩) n c) (rot xs k) xs n l1 HN.out hp hl W hu ((HS.out.below hb (Nat.le_refl _)).mono hb.size))
        have HR2 := Lib.hid (fun W (hb : Below w1.heap.size w1 W) => sRt_any b2 o2 c2 n k xs.reverse W (Nat.lt_of_lt_of_le hb2 hb.size) (cells_below HC2.out hb hb2) (by rw [List.length_reverse, HN.out]) hc2 hlt hl)
        have HE2 := Lib.hid (fun v1 W (hb : Below w.heap.size w W) (hu : Sl W W.heap.size v1 (rot xs.reverse k)) => sSame_any v1 (.slice (some ⟨bb, o, none⟩) n c) (rot xs.reverse k) xs n l2 HN.out hp hl W hu ((HS.out.below hb (Nat.le_refl _)).mono hb.size))
        obtain ⟨q, hq⟩ : ∃ q, cn xs xs k = q := ⟨_, rfl⟩
        obtain ⟨p, hp⟩ : ∃ p, cn xs.reverse xs k = p := ⟨_, rfl⟩
        have HQ := Lib.hid hq
        have HP := Lib.hid hp
        rw [hq] at d1 ⊢
        rw [hp] at d2 ⊢
        clear hq hp l1 l2
        go_wp2_with fail
        refine (HO1.out).mono ?_
        rintro e w2 ⟨r, rfl, hr, rfl⟩
        obtain rfl : r = true := by rw [hr]; exact HV.out
        clear hr
        go_wp2_with fail
        refine (HR1.out).mono ?_
        rintro e w2 ⟨v1, rfl, o2', b2'⟩
        have hB2 := hB.trans (b2'.mono hB.size)
        have hD2 := hbel.trans (b2'.mono hsz)
        go_wp2_with fail
        refine (HE1.out _ _ hB2 o2'.sl).mono ?_
        rintro e w3 ⟨r1, rfl, hr1, m, rfl⟩
        have hD3 : Below w1.heap.size w1 (w2.drewN m) := below_drewN hD2 m
        have hB3 : Below w.heap.size w (w2.drewN m) := below_drewN hB2 m
        have HR1' := Lib.hid hr1
        clear hr1 o2' b2' hB2 hD2
        cases r1
        all_goals
          go_wp2_with fail
          refine (HR2.out _ hD3).mono ?_
          rintro e w4 ⟨v2, rfl, o4, b4⟩
          have hB4 := hB3.trans (b4.mono hB3.size)
          have hD4 := hD3.trans (b4.mono hD3.size)
          go_wp2_with fail
          refine (HE2.out _ _ hB4 o4.sl).mono ?_
          rintro e w5 ⟨r2, rfl, hr2, m2, rfl⟩
          have hD5 : Below w1.heap.size w1 (w4.drewN m2) := below_drewN hD4 m2
          have HR2' := Lib.hid hr2
          clear hr2 o4 b4 hB4 hD4
          cases r2
          all_goals
            go_wp2_with fail
            go_roundw
            case rel =>
              refine ⟨k + 1, by omega, by go_num, ?_, ?_, hD5⟩
              · first
                | (rw [cn_yes (HR1'.out.1 (by trivial)), HQ.out]; done)
                | (rw [cn_no (fun h => absurd (HR1'.out.2 h) (by simp)), HQ.out]; done)
              · first
                | (rw [cn_yes (HR2'.out.1 (by trivial)), HP.out]; done)
                | (rw [cn_no (fun h => absurd (HR2'.out.2 h) (by simp)), HP.out]; done)
            case measure => simp [intOf]; omega
      · obtain rfl : k = n := by omega
        go_wp2_with fail
        go_ret2
        exact ⟨rfl, hB⟩
  · obtain rfl : b = false := vs_no hv hvs
    have HV := Lib.hid hvs
    obtain ⟨A, c, rfl, hc, hcell⟩ := h
    obtain ⟨n, hn⟩ : ∃ n, xs.length = n := ⟨_, rfl⟩
    rw [hn] at HO HM ⊢
    clear hv hvs hcell hn
    unfold sy1 sy2
    go_enter Try.func33, Try.ntmps33
    go_wp2_with fail
    refine (HM.out).mono ?_
    rintro e w1 ⟨u, rfl, o1, b1⟩
    have HB1 := Lib.hid b1
    clear o1
    go_wp2_with fail
    go_loopw [4, 5, 7] (fun q p i wr => i = .int .i64 0 ∧ q = .int .i64 0 ∧ p = .int .i64 0 ∧ wr = w1) (fun _ _ i _ => 0)
    case atStart => exact ⟨rfl, rfl, rfl, rfl⟩
    case round =>
      obtain ⟨rfl, rfl, rfl, hw⟩ := hrel
      replace hw := hw.symm
      subst hw
      by_cases hp : 0 < n
      · go_wp2_with fail
        refine (HO.out _ HB1.out).mono ?_
        rintro e w2 ⟨r, rfl, hr, rfl⟩
        obtain rfl : r = false := by rw [Bool.eq_false_iff]; exact fun h => HV.out (hr.1 h)
        clear hr
        go_wp2_with fail
        go_ret2
        exact ⟨rfl, HB1.out⟩
      · obtain rfl : n = 0 := by omega
        go_wp2_with fail
        go_ret2
        exact ⟨rfl, HB1.out⟩

set_option maxHeartbeats 1000000 in
theorem exactSectorSymmetries.walk (a : Value) (xs : List Int) (hx : Ints xs) (w : World) (h : Sl w w.heap.size a xs) : Calls Try.prog 10 #[a] w (RetT w) := by
  by_cases hl : 1048576 < xs.length
  · obtain ⟨A, c, rfl, hc, _⟩ := h
    go_enter Try.func10, Try.ntmps10
    go_wp2_with fail
    go_ret
    exact ⟨rfl, Below.refl _ _⟩
  have hl' : xs.length ≤ 1048576 := by omega
  obtain ⟨b, hv⟩ : ∃ b : Bool, b = true ↔ Vs xs := ⟨@decide (Vs xs) (Classical.propDecidable _), by simp⟩
  have HS := Lib.hid (fun v w h => sSS_any v xs hx b hv w h hl')
  have HI := Lib.hid (fun v w h => iSS_any v xs hx b hv w h hl')
  obtain ⟨y, hy⟩ : ∃ y, sy1 b xs = y := ⟨_, rfl⟩
  obtain ⟨z, hz⟩ : ∃ z, sy2 b xs = z := ⟨_, rfl⟩
  rw [hy, hz] at HS HI
  obtain ⟨A, c, rfl, hc, hcell⟩ := h
  have HA := Lib.hid (show Sl w w.heap.size (.slice A xs.length c) xs from ⟨A, c, rfl, hc, hcell⟩)
  have hyy : (y != y) = false := by simp
  have hzz : (z != z) = false := by simp
  clear hcell hx hv hz hy
  go_enter Try.func10, Try.ntmps10
  go_wp2_with fail
  refine (toI_any _ xs _ HA.out hl').mono ?_
  rintro e w1 ⟨v1, rfl, h1, b1⟩
  go_wp2_with fail
  refine (HS.out _ _ h1.sl).mono ?_
  rintro e w2 ⟨rfl, b2⟩
  have B2 := b1.trans (b2.mono b1.size)
  go_wp2_with fail
  refine (toI_any _ xs _ ((HA.out.below B2 (Nat.le_refl _)).mono B2.size) hl').mono ?_
  rintro e w3 ⟨v3, rfl, h3, b3⟩
  have B3 := B2.trans (b3.mono B2.size)
  go_wp2_with fail
  refine (HI.out _ _ h3.sl).mono ?_
  rintro e w4 ⟨rfl, b4⟩
  have B4 := B3.trans (b4.mono B3.size)
  go_wp2_with fail
  refine (toI_any _ xs _ ((HA.out.below B4 (Nat.le_refl _)).mono B4.size) hl').mono ?_
  rintro e w5 ⟨v5, rfl, h5, b5⟩
  have B5 := B4.trans (b5.mono B4.size)
  go_wp2_with fail
  refine (eqI_same _ _ xs _ (OwnI.sl (own_below (own_below h3 b4 (Nat.le_refl _)) b5 (Nat.le_refl _))) h5.sl hl').mono ?_
  rintro e w6 ⟨rfl, m, rfl⟩
  go_wp2_with fail
  go_ret
  exact ⟨rfl, below_drewN B5 m⟩
end Go.Proofs.Ytdnkgnknjhnjiaa
