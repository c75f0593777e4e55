/- Little runs: by the model; the contracts of both. -/
import Derived.Test.YtdnkgnknjhnjiaaVt
namespace Go.Proofs.Ytdnkgnknjhnjiaa
open Go Go.RowKit

theorem rot_nth {xs : List Int} {n k p : Nat} (hn : xs.length = n) (hk : k < n) (hp : p < n) : nth (rot xs k) p = nth xs ((k + p) % n) := by
  have hl : (rot xs k).length = n := by rw [rot_len _ (by omega), hn]
  rw [nth_of (by omega)]
  unfold rot
  by_cases h : k + p < n
  · rw [Nat.mod_eq_of_lt h, nth_of (by omega), List.getElem_append_left (by simp; omega), List.getElem_drop]
  · have e : (k + p) % n = k + p - n := by
      rw [Nat.mod_eq_sub_mod (by omega), Nat.mod_eq_of_lt (by omega)]
    rw [e, nth_of (by omega), List.getElem_append_right (by simp; omega), List.getElem_take]
    congr 1
    simp
    omega

set_option maxHeartbeats 4000000 in
theorem sRun_any (b o c n k : Nat) (xs : List Int) (w : World) (hx : xs.length = n) (hk : k < n) (_hc : n ≤ c) (_hb : b < w.heap.size) (hcs : Cells w b o xs) (hl : n ≤ 1048576) :
    Calls Try.prog 59 #[.slice (some ⟨b, o, none⟩) n c, .int .i64 (k : Int)] w fun e w' => e = .returned (.int .i64 (lr (rot xs k) n : Int)) ∧ ∃ m, w' = w.drewN m := by
  have HC := Lib.hid hcs
  have HX := Lib.hid hx
  clear hcs hx
  have s0 : nth (rot xs k) 0 = nth xs k := rot_zero (by rw [HX.out]; exact hk)
  obtain ⟨idx, hidx⟩ : ∃ idx, (k + (n - 1)) % n = idx := ⟨_, rfl⟩
  have hil : idx < n := by rw [← hidx]; exact Nat.mod_lt _ (by omega)
  have sp : nth (rot xs k) (n - 1) = nth xs idx := by rw [rot_nth HX.out hk (by omega), hidx]
  have x0 := HC.out k (by rw [HX.out]; exact hk)
  have xp := HC.out idx (by rw [HX.out]; exact hil)
  have a1 : IntKind.i64.wrap ((k : Int) + (n : Int)) = (k : Int) + (n : Int) := IntWalk.i64_in _ (by omega)
  have a2 : IntKind.i64.wrap ((k : Int) + (n : Int) - 1) = (k : Int) + (n : Int) - 1 := IntWalk.i64_in _ (by omega)
  have a3 : ((k : Int) + (n : Int) - 1).tmod (n : Int) = (idx : Int) := by
    rw [Int.tmod_eq_emod_of_nonneg (by omega), ← hidx]
    push_cast
    congr 1
    omega
  have a4 : IntKind.i64.wrap (idx : Int) = (idx : Int) := IntWalk.i64_in _ (by omega)
  have a5 : ¬ (n : Int) = 0 := by omega
  have a6 : ((n : Int) == 0) = false := by simp; omega
  have a7 : ¬ n = 0 := by omega
  have i0 : (0 : Int) ≤ (idx : Int) := by omega
  have i1 : (idx : Int) < (n : Int) := by omega
  have i2 : (0 : Int) ≤ (k : Int) := by omega
  have i3 : (k : Int) < (n : Int) := by omega
  obtain ⟨s, hs⟩ : ∃ s, nth xs k = s := ⟨_, rfl⟩
  obtain ⟨q, hq⟩ : ∃ q, nth xs idx = q := ⟨_, rfl⟩
  rw [hs] at x0 s0
  rw [hq] at xp sp
  have S0 := Lib.hid s0
  have SP := Lib.hid sp
  clear s0 sp hs hq hidx
  by_cases h1 : q ≤ s
  · have d1 : decide (q ≤ s) = true := decide_eq_true h1
    have HL := Lib.hid (show lr (rot xs k) n = 0 from lr_no (fun ⟨d, hd⟩ => by have := hd.2.1; rw [S0.out, SP.out] at this; omega))
    clear h1
    go_enter Try.func59, Try.ntmps59
    go_wp2_with fail
    go_quiet (fail)
    go_wp2_with fail
    go_ret
    exact ⟨by rw [HL.out]; rfl, _, rfl⟩
  · have d1 : decide (q ≤ s) = false := decide_eq_false h1
    have hqs : s < q := by omega
    have HQS := Lib.hid hqs
    clear h1 hqs
    have hn2 : 1 < n := by
      rcases Nat.lt_or_ge 1 n with h | h
      · exact h
      · have h1 := SP.out
        rw [show n - 1 = 0 by omega, S0.out] at h1
        have := HQS.out
        omega
    go_enter Try.func59, Try.ntmps59
    go_wp2_with fail
    go_quiet (fail)
    go_wp2_with fail
    go_loopw [6] (fun i wr => ∃ c : Nat, 1 ≤ c ∧ c < n ∧ i = .int .i64 (c : Int) ∧ Hid (∀ j, j < c → nth (rot xs k) j = s) ∧ Hid (∃ m, wr = w.drewN m)) (fun i _ => n - (intOf i).toNat)
    case atStart => exact ⟨1, Nat.le_refl _, hn2, rfl, Lib.hid (fun j hj => (show j = 0 by omega) ▸ S0.out), Lib.hid ⟨_, rfl⟩⟩
    case round =>
      obtain ⟨d, hd1, hdn, rfl, hall, hm⟩ := hrel
      have hcw : ∀ b o, wr.cell? ⟨b, o, none⟩ = w.cell? ⟨b, o, none⟩ := fun b o => by obtain ⟨m, e⟩ := hm.out; rw [e]; rfl
      obtain ⟨ix, hix⟩ : ∃ ix, (k + d) % n = ix := ⟨_, rfl⟩
      have hil2 : ix < n := by rw [← hix]; exact Nat.mod_lt _ (by omega)
      have sd : nth (rot xs k) d = nth xs ix := by rw [rot_nth HX.out hk hdn, hix]
      have xd := (hcw _ _).trans (HC.out ix (by rw [HX.out]; exact hil2))
      have xk := (hcw _ _).trans x0
      have c1 : IntKind.i64.wrap ((k : Int) + (d : Int)) = (k : Int) + (d : Int) := IntWalk.i64_in _ (by omega)
      have c3 : ((k : Int) + (d : Int)).tmod (n : Int) = (ix : Int) := by
        rw [Int.tmod_eq_emod_of_nonneg (by omega), ← hix]
        push_cast
        rfl
      have c4 : IntKind.i64.wrap (ix : Int) = (ix : Int) := IntWalk.i64_in _ (by omega)
      have j0 : (0 : Int) ≤ (ix : Int) := by omega
      have j1 : (ix : Int) < (n : Int) := by omega
      obtain ⟨y, hy⟩ : ∃ y, nth xs ix = y := ⟨_, rfl⟩
      rw [hy] at xd sd
      have SD := Lib.hid sd
      clear hcw hix sd hy x0 xp
      by_cases he : y = s
      · have e1 : (y == s) = true := by simp [he]
        have HE := Lib.hid (show ∀ j, j < d + 1 → nth (rot xs k) j = s from fun j hj => by
          rcases Nat.lt_or_ge j d with h | h
          · exact hall.out j h
          · obtain rfl : j = d := by omega
            rw [SD.out]; exact he)
        have hd2 : d + 1 < n := by
          rcases Nat.lt_or_ge (d + 1) n with h | h
          · exact h
          · have h1 := HE.out (n - 1) (by omega)
            rw [SP.out] at h1
            have := HQS.out
            omega
        clear he
        go_wp2_with fail
        go_quiet (fail)
        go_wp2_with fail
        go_roundw
        case rel => exact ⟨d + 1, by omega, hd2, by go_num, HE, Lib.hid (drew_more hm.out _)⟩
        case measure => simp [intOf]; omega
      · have e1 : (y == s) = false := by simp [he]
        have HB := Lib.hid (show BhP (rot xs k) n d from ⟨hdn, by rw [SD.out, S0.out]; exact he, fun j hj => by rw [S0.out]; exact hall.out j hj⟩)
        have HE := Lib.hid he
        clear he
        by_cases hs : y < s
        · have e2 : decide (y < s) = true := decide_eq_true hs
          have HL := Lib.hid (show lr (rot xs k) n = 0 from lr_no (fun ⟨f, hf⟩ => by
            obtain rfl := bhP_one HB.out hf.1
            have := hf.2.2
            rw [S0.out, SD.out] at this
            omega))
          clear hs
          go_wp2_with fail
          go_quiet (fail)
          go_wp2_with fail
          go_quiet (fail)
          go_wp2_with fail
          go_ret
          exact ⟨by rw [HL.out]; rfl, drew_more (drew_more hm.out _) _⟩
        · have e2 : decide (y < s) = false := decide_eq_false hs
          have HL := Lib.hid (show lr (rot xs k) n = d from lr_of ⟨HB.out, by rw [S0.out, SP.out]; exact HQS.out, by rw [S0.out, SD.out]; have := HE.out; omega⟩)
          clear hs
          go_wp2_with fail
          go_quiet (fail)
          go_wp2_with fail
          go_quiet (fail)
          go_wp2_with fail
          go_ret
          exact ⟨by rw [HL.out]; rfl, drew_more (drew_more hm.out _) _⟩

/-- Runs of the call's own. -/
def RetR (m : Nat) (fs : List Int) (w : World) (e : Ending) (w' : World) : Prop := ∃ u, e = .returned u ∧ OwnR w' w.heap.size u m fs ∧ Below w.heap.size w w'
noncomputable def lrF (b : Bool) (xs : List Int) : List Int := if b then runsF xs xs.length xs.length else []
noncomputable def lrN (b : Bool) (xs : List Int) : Nat := if b then runsN xs xs.length xs.length else 0
theorem lrN_le (b : Bool) (xs : List Int) (h : xs.length ≤ 1048576) : lrN b xs ≤ 1048576 := by
  unfold lrN; split
  · exact Nat.le_trans (runsN_le _ _ _) h
  · omega
theorem ownR_nil (w : World) (base : Nat) : OwnR w base (.slice none 0 0) 0 [] := World.ownsRow_nil _ _ _ _

set_option maxHeartbeats 1000000 in
theorem iLT_any (v : Value) (xs : List Int) (hx : Ints xs) (b : Bool) (hv : b = true ↔ Vs xs) (w : World) (h : Sl w w.heap.size v xs) (hl : xs.length ≤ 1048576) :
    Calls Try.prog 36 #[v] w (RetR (lrN b xs) (lrF b xs) w) := by
  have HD := Lib.hid (iVS_any v xs hx w h hl)
  by_cases hvs : Vs xs
  · obtain rfl : b = true := hv.2 hvs
    obtain ⟨bb, o, c, rfl, hc, hb, C⟩ := sl_at h rfl (vs_pos hvs)
    have HR := Lib.hid (iLr_yes bb o c xs.length xs w rfl (vs_pos hvs) hc hb C (vs_len hvs))
    obtain ⟨n, hn⟩ : ∃ n, xs.length = n := ⟨_, rfl⟩
    unfold lrN lrF
    rw [if_pos rfl, if_pos rfl]
    rw [hn] at HD HR ⊢
    have HV := Lib.hid hvs
    clear hv hvs C hn h
    go_enter Try.func36, Try.ntmps36
    go_wp2_with fail
    refine (HD.out).mono ?_
    rintro e w1 ⟨r, rfl, hr, rfl⟩
    obtain rfl : r = true := by rw [hr]; exact HV.out
    clear hr
    go_wp2_with fail
    refine (HR.out).mono ?_
    rintro e w1 ⟨u, rfl, o1, b1⟩
    go_wp2_with fail
    go_ret
    exact ⟨u, rfl, o1, b1⟩
  · obtain rfl : b = false := vs_no hv hvs
    have HV := Lib.hid hvs
    clear hv hvs h
    go_enter Try.func36, Try.ntmps36
    go_wp2_with fail
    refine (HD.out).mono ?_
    rintro e w1 ⟨r, rfl, hr, rfl⟩
    obtain rfl : r = false := by rw [Bool.eq_false_iff]; exact fun h => HV.out (hr.1 h)
    clear hr
    go_wp2_with fail
    go_ret
    exact ⟨_, rfl, ownR_nil _ _, Below.refl _ _⟩

set_option maxHeartbeats 4000000 in
theorem sLT_any (v : Value) (xs : List Int) (hx : Ints xs) (b : Bool) (hv : b = true ↔ Vs xs) (w : World) (h : Sl w w.heap.size v xs) (hl : xs.length ≤ 1048576) :
    Calls Try.prog 35 #[v] w (RetR (lrN b xs) (lrF b xs) w) := by
  have HO := Lib.hid (sOk_any v xs hx w h hl)
  by_cases hvs : Vs xs
  · obtain rfl : b = true := hv.2 hvs
    have hp := vs_pos hvs
    have hn16 := vs_len hvs
    obtain ⟨bb, o, c, rfl, hc, hb, C⟩ := sl_at h rfl hp
    obtain ⟨n, hn⟩ : ∃ n, xs.length = n := ⟨_, rfl⟩
    unfold lrN lrF
    rw [if_pos rfl, if_pos rfl]
    have HW := Lib.hid (World.ownsRow_lit (base := w.heap.size) (e := 54) (size := 3) w #[] 0 (Nat.le_refl _) (by decide) rfl)
    have HB := Lib.hid ((Below.refl w.heap.size w).alloc (Nat.le_refl _) (.cells #[] 54))
    rw [hn] at HO hc hp hn16 ⊢
    have HV := Lib.hid hvs
    have HN := Lib.hid hn
    have HC := Lib.hid C
    clear hv hvs C hn h
    obtain ⟨i0, hi, hz0, hz1, hz2⟩ := info_parts infoRun
    go_enter Try.func35, Try.ntmps35
    go_wp2_with fail
    refine (HO.out).mono ?_
    rintro e w1 ⟨r, rfl, hr, rfl⟩
    obtain rfl : r = true := by rw [hr]; exact HV.out
    clear hr
    go_wp2_with fail
    go_loopw [3, 4] (fun z i wr => ∃ k : Nat, k ≤ n ∧ i = .int .i64 k ∧ OwnR wr w.heap.size z (runsN xs n k) (runsF xs n k) ∧ Below w.heap.size w wr) (fun _ i _ => n - (intOf i).toNat)
    case atStart => exact ⟨0, Nat.zero_le _, rfl, HW.out, HB.out⟩
    case round =>
      obtain ⟨k, hk, rfl, hown, hbel⟩ := hrel
      by_cases hlt : k < n
      · have hsz := hbel.size
        have HR := Lib.hid (sRun_any bb o c n k xs wr HN.out hlt hc (by omega) (cells_below HC.out hbel hb) (by omega))
        have hql := runsN_le xs n k
        by_cases hrun : ∃ d, LrP (rot xs k) n d
        · obtain ⟨d, hd⟩ := hrun
          have h0 : lr (rot xs k) n = d := lr_of hd
          have hdp := bhP_pos hd.1
          have hdn := hd.1.1
          rw [h0] at HR
          have HY := Lib.hid (runs_yes hd)
          have hxk : wr.cell? ⟨bb, o + k, none⟩ = some (.int .i64 (nth xs k)) := (hbel.cell (p := ⟨bb, o + k, none⟩) hb).trans (HC.out k (by rw [HN.out]; exact hlt))
          clear hd h0
          have dp : (0 : Int) < (d : Int) := by omega
          obtain ⟨s, hs⟩ : ∃ s, nth xs k = s := ⟨_, rfl⟩
          rw [hs] at hxk HY
          obtain ⟨q, hq⟩ : ∃ q, runsN xs n k = q := ⟨_, rfl⟩
          obtain ⟨fs, hfs⟩ : ∃ fs, runsF xs n k = fs := ⟨_, rfl⟩
          rw [hq, hfs] at hown HY
          rw [hq] at hql
          clear hs hq hfs
          go_wp2_with fail
          refine (HR.out).mono ?_
          rintro e w2 ⟨rfl, hm⟩
          have HM := Lib.hid hm
          have hown2 : OwnR w2 w.heap.size u3 q fs := by obtain ⟨m, rfl⟩ := hm; exact hown
          have hbel2 : Below w.heap.size w w2 := by obtain ⟨m, rfl⟩ := hm; exact below_drewN hbel m
          have hx2 : w2.cell? ⟨bb, o + k, none⟩ = some (.int .i64 s) := by obtain ⟨m, rfl⟩ := hm; exact hxk
          have hz2' := hbel2.size
          clear hm hown hbel hxk hsz
          go_wp2_with (at_builtin; refine wpList_append_own _ rfl _ _ 36 rfl w.heap.size 54 i0 (p3v 0 0 0) 3 24 Try.underlying36 hi hz0 hz1 hz2 rfl (by decide) _ _ _ rfl (hown2.alloc _) ⟨w2.heap.size, 0, none⟩ 1 1 [.int .i64 (k : Int), .int .i64 (d : Int), .int .i64 s] rfl rfl (World.news_of_block (cs := #[.int .i64 (k : Int), .int .i64 (d : Int), .int .i64 s]) (t := 54) (fr := (0, 0)) (heap_alloc_new w2 _)) (by simp [Value.oneCell']) (by unfold maxLen; omega) (by omega) (by simp; omega) ?_; intro v' w3 hown3 hgrow3 _)
          have HB3 := (hbel2.alloc hz2' (.cells #[.int .i64 (k : Int), .int .i64 (d : Int), .int .i64 s] 54)).grown hgrow3 (by simp; omega) (fun k hk => (own_row hown2 k hk).1)
          clear hgrow3
          go_wp2_with fail
          go_roundw
          case rel =>
            refine ⟨k + 1, by omega, by go_num, ?_, HB3⟩
            rw [HY.out.1, HY.out.2]
            unfold OwnR
            rw [List.map_append]
            exact hown3
          case measure => simp [intOf]; omega
        · have h0 : lr (rot xs k) n = 0 := lr_no hrun
          rw [h0] at HR
          have HR0 := Lib.hid (show Calls Try.prog 59 #[.slice (some ⟨bb, o, none⟩) n c, .int .i64 (k : Int)] wr fun e w' => e = .returned (.int .i64 0) ∧ ∃ m, w' = wr.drewN m from HR.out)
          have HY := Lib.hid (runs_no hrun)
          clear hrun h0 HR
          go_wp2_with fail
          refine (HR0.out).mono ?_
          rintro e w2 ⟨rfl, hm⟩
          have HM := Lib.hid hm
          clear hm
          go_wp2_with fail
          go_roundw
          case rel =>
            obtain ⟨m, rfl⟩ := HM.out
            refine ⟨k + 1, by omega, by go_num, ?_, below_drewN hbel m⟩
            rw [HY.out.1, HY.out.2]
            exact hown
          case measure => simp [intOf]; omega
      · obtain rfl : k = n := by omega
        go_wp2_with fail
        go_ret
        exact ⟨_, rfl, hown, hbel⟩
  · obtain rfl : b = false := vs_no hv hvs
    have HV := Lib.hid hvs
    clear hv hvs h
    go_enter Try.func35, Try.ntmps35
    go_wp2_with fail
    refine (HO.out).mono ?_
    rintro e w1 ⟨r, rfl, hr, rfl⟩
    obtain rfl : r = false := by rw [Bool.eq_false_iff]; exact fun h => HV.out (hr.1 h)
    clear hr
    go_wp2_with fail
    go_ret
    exact ⟨_, rfl, ownR_nil _ _, Below.refl _ _⟩

set_option maxHeartbeats 4000000 in
theorem exactLittleRuns.core (a : Value) (xs fs : List Int) (n : Nat) (w : World) (h : Sl w w.heap.size a xs) (hl : xs.length ≤ 1048576) (hy : n ≤ 1048576)
    (HS : Hid (∀ v w, Sl w w.heap.size v xs → Calls Try.prog 35 #[v] w (RetR n fs w))) (HI : Hid (∀ v w, Sl w w.heap.size v xs → Calls Try.prog 36 #[v] w (RetR n fs w))) :
    Calls Try.prog 11 #[a] w (RetT w) := by
  obtain ⟨A, c, rfl, hc, hcell⟩ := h
  have HA := Lib.hid (show Sl w w.heap.size (.slice A xs.length c) xs from ⟨A, c, rfl, hc, hcell⟩)
  clear hcell
  go_enter Try.func11, Try.ntmps11
  go_wp2_with fail
  refine (toI_any _ xs _ HA.out hl).mono ?_
  rintro e w1 ⟨v1, rfl, h1, b1⟩
  go_wp2_with fail
  refine (HS.out _ _ h1.sl).mono ?_
  rintro e w2 ⟨r, rfl, h2, b2⟩
  go_wp2_with fail
  refine (toI_any _ xs _ ((HA.out.below (b1.trans (b2.mono b1.size)) (Nat.le_refl _)).mono (b1.trans (b2.mono b1.size)).size) hl).mono ?_
  rintro e w3 ⟨x, rfl, h3, b3⟩
  go_wp2_with fail
  refine (HI.out _ _ h3.sl).mono ?_
  rintro e w4 ⟨g, rfl, h4, b4⟩
  have S := StR.start HA.out b1 h2 b2 h3 b3 h4 b4
  clear h1 b1 h2 b2 h3 b3 h4 b4
  go_wp2_with fail
  refine (eqR_same _ _ n fs _ S.g_ S.r_ hy).mono ?_
  rintro e w5 ⟨rfl, b5⟩
  replace S := S.below b5
  clear b5
  go_wp2_with fail
  refine (toI_any _ xs _ S.a_ hl).mono ?_
  rintro e w6 ⟨t6, rfl, h6, b6⟩
  replace S := S.below b6
  go_wp2_with fail
  refine (eqI_same _ _ xs _ S.x_ h6.sl hl).mono ?_
  rintro e w7 ⟨rfl, m7, rfl⟩
  replace S := S.drewN m7
  clear h6 b6
  go_wp2_with fail
  refine (mark_any _ _ xs _ S.X hl).mono ?_
  rintro e w8 ⟨rfl, h8, g8⟩
  replace S := S.markX h8 g8
  clear h8 g8
  go_wp2_with fail
  refine (eqR_same _ _ n fs _ S.g_ S.r_ hy).mono ?_
  rintro e w9 ⟨rfl, b9⟩
  replace S := S.below b9
  clear b9
  go_wp2_with fail
  refine (markR_any _ _ n fs _ S.G hy).mono ?_
  rintro e w10 ⟨rfl, h10, g10⟩
  replace S := S.markG h10 g10
  clear h10 g10
  go_wp2_with fail
  refine (heldR_any _ n _ S.g_ hy).mono ?_
  rintro e w11 ⟨rfl, m11, rfl⟩
  replace S := S.drewN m11
  go_wp2_with fail
  refine (toI_any _ xs _ S.a_ hl).mono ?_
  rintro e w12 ⟨t12, rfl, h12, b12⟩
  replace S := S.below b12
  go_wp2_with fail
  refine (HI.out _ _ h12.sl).mono ?_
  rintro e w13 ⟨t13, rfl, h13, b13⟩
  replace S := S.below b13
  go_wp2_with fail
  refine (eqR_same _ _ n fs _ (OwnR.sl h13) S.r_ hy).mono ?_
  rintro e w14 ⟨rfl, b14⟩
  replace S := S.below b14
  clear h12 h13 b12 b13 b14
  go_wp2_with fail
  refine (heldR_any _ n _ S.g_ hy).mono ?_
  rintro e w15 ⟨rfl, m15, rfl⟩
  replace S := S.drewN m15
  go_wp2_with fail
  go_ret
  exact ⟨rfl, by have B := S.bel; first | exact B | (simp only [World.drewN_drewN] at B; exact B)⟩

theorem exactLittleRuns.walk (a : Value) (xs : List Int) (hx : Ints xs) (w : World) (h : Sl w w.heap.size a xs) : Calls Try.prog 11 #[a] w (RetT w) := by
  by_cases hl : 1048576 < xs.length
  · obtain ⟨A, c, rfl, hc, _⟩ := h
    go_enter Try.func11, Try.ntmps11
    go_wp2_with fail
    go_ret
    exact ⟨rfl, Below.refl _ _⟩
  · obtain ⟨b, hv⟩ : ∃ b : Bool, b = true ↔ Vs xs := ⟨@decide (Vs xs) (Classical.propDecidable _), by simp⟩
    exact exactLittleRuns.core a xs (lrF b xs) (lrN b xs) w h (by omega) (lrN_le b xs (by omega)) (Lib.hid fun v w h => sLT_any v xs hx b hv w h (by omega)) (Lib.hid fun v w h => iLT_any v xs hx b hv w h (by omega))
end Go.Proofs.Ytdnkgnknjhnjiaa
