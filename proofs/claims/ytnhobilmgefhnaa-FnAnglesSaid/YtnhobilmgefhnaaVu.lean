/- Little runs: by the model; the contracts of both. -/
import Derived.Test.YtnhobilmgefhnaaVt
namespace Go.Proofs.Ytnhobilmgefhnaa
open Go Go.RowKit

theorem rot_nth {xs : List Int} {n k p : Nat} (hn : xs.length = n) (hk : k < n) (hp : p < n) : nth (rot xs k) p = nth xs ((k + p) % n) := by
  have hl : (rot xs k).length = n := by rw [rot_len _ (by omega), hn]
  rw [nth_of (by omega)]
  unfold rot
  by_cases h : k + p < n
  · rw [Nat.mod_eq_of_lt h, nth_of (by omega), List.getElem_append_left (by simp; omega), List.getElem_drop]
  · have e : (k + p) % n = k + p - n := by
      rw [Nat.mod_eq_sub_mod (by omega), Nat.mod_eq_of_lt (by omega)]
    rw [e, nth_of (by omega), List.getElem_append_right (by simp; omega), List.getElem_take]
    congr 1
    simp
    omega

set_option maxHeartbeats 4000000 in
theorem sRun_any (b o c n k : Nat) (xs : List Int) (w : World) (hx : xs.length = n) (hk : k < n) (_hc : n ≤ c) (_hb : b < w.heap.size) (hcs : Cells w b o xs) (hl : n ≤ 1048576) :
    Calls Try.prog 79 #[.slice (some ⟨b, o, none⟩) n c, .int .i64 (k : Int)] w fun e w' => e = .returned (.int .i64 (lr (rot xs k) n : Int)) ∧ ∃ m, w' = w.drewN m := by
  have HC := Lib.hid hcs
  have HX := Lib.hid hx
  clear hcs hx
  have s0 : nth (rot xs k) 0 = nth xs k := rot_zero (by rw [HX.out]; exact hk)
  obtain ⟨idx, hidx⟩ : ∃ idx, (k + (n - 1)) % n = idx := ⟨_, rfl⟩
  have hil : idx < n := by rw [← hidx]; exact Nat.mod_lt _ (by omega)
  have sp : nth (rot xs k) (n - 1) = nth xs idx := by rw [rot_nth HX.out hk (by omega), hidx]
  have x0 := HC.out k (by rw [HX.out]; exact hk)
  have xp := HC.out idx (by rw [HX.out]; exact hil)
  have a1 : IntKind.i64.wrap ((k : Int) + (n : Int)) = (k : Int) + (n : Int) := IntWalk.i64_in _ (by omega)
  have a2 : IntKind.i64.wrap ((k : Int) + (n : Int) - 1) = (k : Int) + (n : Int) - 1 := IntWalk.i64_in _ (by omega)
  have a3 : ((k : Int) + (n : Int) - 1).tmod (n : Int) = (idx : Int) := by
    rw [Int.tmod_eq_emod_of_nonneg (by omega), ← hidx]
    push_cast
    congr 1
    omega
  have a4 : IntKind.i64.wrap (idx : Int) = (idx : Int) := IntWalk.i64_in _ (by omega)
  have a5 : ¬ (n : Int) = 0 := by omega
  have a6 : ((n : Int) == 0) = false := by simp; omega
  have a7 : ¬ n = 0 := by omega
  have i0 : (0 : Int) ≤ (idx : Int) := by omega
  have i1 : (idx : Int) < (n : Int) := by omega
  have i2 : (0 : Int) ≤ (k : Int) := by omega
  have i3 : (k : Int) < (n : Int) := by omega
  obtain ⟨s, hs⟩ : ∃ s, nth xs k = s := ⟨_, rfl⟩
  obtain ⟨q, hq⟩ : ∃ q, nth xs idx = q := ⟨_, rfl⟩
  rw [hs] at x0 s0
  rw [hq] at xp sp
  have S0 := Lib.hid s0
  have SP := Lib.hid sp
  clear s0 sp hs hq hidx
  by_cases h1 : q ≤ s
  · have d1 : decide (q ≤ s) = true := decide_eq_true h1
    have HL := Lib.hid (show lr (rot xs k) n = 0 from lr_no (fun ⟨d, hd⟩ => by have := hd.2.1; rw [S0.out, SP.out] at this; omega))
    clear h1
    go_enter Try.func79, Try.ntmps79
    go_wp2_with fail
    go_quiet (fail)
    go_wp2_with fail
    go_ret
    exact ⟨by rw [HL.out]; rfl, _, rfl⟩
  · have d1 : decide (q ≤ s) = false := decide_eq_false h1
    have hqs : s < q := by omega
    have HQS := Lib.hid hqs
    clear h1 hqs
    have hn2 : 1 < n := by
      rcases Nat.lt_or_ge 1 n with h | h
      · exact h
      · have h1 := SP.out
        rw [show n - 1 = 0 by omega, S0.out] at h1
        have := HQS.out
        omega
    go_enter Try.func79, Try.ntmps79
    go_wp2_with fail
    go_quiet (fail)
    go_wp2_with fail
    go_loopw [6] (fun i wr => ∃ c : Nat, 1 ≤ c ∧ c < n ∧ i = .int .i64 (c : Int) ∧ Hid (∀ j, j < c → nth (rot xs k) j = s) ∧ Hid (∃ m, wr = w.drewN m)) (fun i _ => n - (intOf i).toNat)
    case atStart => exact ⟨1, Nat.le_refl _, hn2, rfl, Lib.hid (fun j hj => (show j = 0 by omega) ▸ S0.out), Lib.hid ⟨_, rfl⟩⟩
    case round =>
      obtain ⟨d, hd1, hdn, rfl, hall, hm⟩ := hrel
      have hcw : ∀ b o, wr.cell? ⟨b, o, none⟩ = w.cell? ⟨b, o, none⟩ := fun b o => by obtain ⟨m, e⟩ := hm.out; rw [e]; rfl
      obtain ⟨ix, hix⟩ : ∃ ix, (k + d) % n = ix := ⟨_, rfl⟩
      have hil2 : ix < n := by rw [← hix]; exact Nat.mod_lt _ (by omega)
      have sd : nth (rot xs k) d = nth xs ix := by rw [rot_nth HX.out hk hdn, hix]
      have xd := (hcw _ _).trans (HC.out ix (by rw [HX.out]; exact hil2))
      have xk := (hcw _ _).trans x0
      have c1 : IntKind.i64.wrap ((k : Int) + (d : Int)) = (k : Int) + (d : Int) := IntWalk.i64_in _ (by omega)
      have c3 : ((k : Int) + (d : Int)).tmod (n : Int) = (ix : Int) := by
        rw [Int.tmod_eq_emod_of_nonneg (by omega), ← hix]
        push_cast
        rfl
      have c4 : IntKind.i64.wrap (ix : Int) = (ix : Int) := IntWalk.i64_in _ (by omega)
      have j0 : (0 : Int) ≤ (ix : Int) := by omega
      have j1 : (ix : Int) < (n : Int) := by omega
      obtain ⟨y, hy⟩ : ∃ y, nth xs ix = y := ⟨_, rfl⟩
      rw [hy] at xd sd
      have SD := Lib.hid sd
      clear hcw hix sd hy x0 xp
      by_cases he : y = s
      · have e1 : (y == s) = true := by simp [he]
        have HE := Lib.hid (show ∀ j, j < d + 1 → nth (rot xs k) j = s from fun j hj => by
          rcases Nat.lt_or_ge j d with h | h
          · exact hall.out j h
          · obtain rfl : j = d := by omega
            rw [SD.out]; exact he)
        have hd2 : d + 1 < n := by
          rcases Nat.lt_or_ge (d + 1) n with h | h
          · exact h
          · have h1 := HE.out (n - 1) (by omega)
            rw [SP.out] at h1
            have := HQS.out
            omega
        clear he
        go_wp2_with fail
        go_quiet (fail)
        go_wp2_with fail
        go_roundw
        case rel => exact ⟨d + 1, by omega, hd2, by go_num, HE, Lib.hid (drew_more hm.out _)⟩
        case measure => simp [intOf]; omega
      · have e1 : (y == s) = false := by simp [he]
        have HB := Lib.hid (show BhP (rot xs k) n d from ⟨hdn, by rw [SD.out, S0.out]; exact he, fun j hj => by rw [S0.out]; exact hall.out j hj⟩)
        have HE := Lib.hid he
        clear he
        by_cases hs : y < s
        · have e2 : decide (y < s) = true := decide_eq_true hs
          have HL := Lib.hid (show lr (rot xs k) n = 0 from lr_no (fun ⟨f, hf⟩ => by
            obtain rfl := bhP_one HB.out hf.1
            have := hf.2.2
            rw [S0.out, SD.out] at this
            omega))
          clear hs
          go_wp2_with fail
          go_quiet (fail)
          go_wp2_with fail
          go_quiet (fail)
          go_wp2_with fail
          go_ret
          exact ⟨by rw [HL.out]; rfl, drew_more (drew_more hm.out _) _⟩
        · have e2 : decide (y < s) = false := decide_eq_false hs
          have HL := Lib.hid (show lr (rot xs k) n = d from lr_of ⟨HB.out, by rw [S0.out, SP.out]; exact HQS.out, by rw [S0.out, SD.out]; have := HE.out; omega⟩)
          clear hs
          go_wp2_with fail
          go_quiet (fail)
          go_wp2_with fail
          go_quiet (fail)
          go_wp2_with fail
          go_ret
          exact ⟨by rw [HL.out]; rfl, drew_more (drew_more hm.out _) _⟩

/-- Runs of the call's own. -/
def RetR (m : Nat) (fs : List Int) (w : World) (e : Ending) (w' : World) : Prop := ∃ u, e = .returned u ∧ OwnR w' w.heap.size u m fs ∧ Below w.heap.size w w'
noncomputable def lrF (b : Bool) (xs : List Int) : List Int := if b then runsF xs xs.length xs.length else []
noncomputable def lrN (b : Bool) (xs : List Int) : Nat := if b then runsN xs xs.length xs.length else 0
theorem lrN_le (b : Bool) (xs : List Int) (h : xs.length ≤ 1048576) : lrN b xs ≤ 1048576 := by
  unfold lrN; split
  · exact Nat.le_trans (runsN_le _ _ _) h
  · omega
theorem ownR_nil (w : World) (base : Nat) : OwnR w base (.slice none 0 0) 0 [] := World.ownsRow_nil _ _ _ _

set_option maxHeartbeats 1000000 in
theorem iLT_any (v : Value) (xs : List Int) (hx : Ints xs) (b : Bool) (hv : b = true ↔ Vs xs) (w : World) (h : Sl w w.heap.size v xs) (hl : xs.length ≤ 1048576) :
    Calls Try.prog 20 #[v] w (RetR (lrN b xs) (lrF b xs) w) := by
  have HD := Lib.hid (iVS_any v xs hx w h hl)
  by_cases hvs : Vs xs
  · obtain rfl : b = true := hv.2 hvs
    obtain ⟨bb, o, c, rfl, hc, hb, C⟩ := sl_at h rfl (vs_pos hvs)
    have HR := Lib.hid (iLr_yes bb o c xs.length xs w rfl (vs_pos hvs) hc hb C (vs_len hvs))
    obtain ⟨n, hn⟩ : ∃ n, xs.length = n := ⟨_, rfl⟩
    unfold lrN lrF
    rw [if_pos rfl, if_pos rfl]
    rw [hn] at HD HR ⊢
    have HV := Lib.hid hvs
    clear hv hvs C hn h
    go_enter Try.func20, Try.ntmps20
    go_wp2_with fail
    refine (HD.out).mono ?_
    rintro e w1 ⟨r, rfl, hr, rfl⟩
    obtain rfl : r = true := by rw [hr]; exact HV.out
    clear hr
    go_wp2_with fail
    refine (HR.out).mono ?_
    rintro e w1 ⟨u, rfl, o1, b1⟩
    go_wp2_with fail
    go_ret
    exact ⟨u, rfl, o1, b1⟩
  · obtain rfl : b = false := vs_no hv hvs
    have HV := Lib.hid hvs
    clear hv hvs h
    go_enter Try.func20, Try.ntmps20
    go_wp2_with fail
    refine (HD.out).mono ?_
    rintro e w1 ⟨r, rfl, hr, rfl⟩
    obtain rfl : r = false := by rw [Bool.eq_false_iff]; exact fun h => HV.out (hr.1 h)
    clear hr
    go_wp2_with fail
    go_ret
    exact ⟨_, rfl, ownR_nil _ _, Below.refl _ _⟩

end Go.Proofs.Ytnhobilmgefhnaa
