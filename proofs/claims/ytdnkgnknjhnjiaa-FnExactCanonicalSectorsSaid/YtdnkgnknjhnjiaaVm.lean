/- CanonicalSectors: the least list, by the model; the contracts of both. -/
import Derived.Test.YtdnkgnknjhnjiaaVl
namespace Go.Proofs.Ytdnkgnknjhnjiaa
open Go Go.RowKit

/-- All rotations of a list and of its mirror image. -/
def allR (xs : List Int) : List (List Int) := rotsK xs xs.length ++ rotsK xs.reverse xs.length
theorem allR_len {xs x : List Int} (h : x ∈ allR xs) : x.length = xs.length := by
  rcases List.mem_append.1 h with h | h
  · obtain ⟨j, hj, rfl⟩ := rotsK_mem.1 h
    exact rot_len _ (by omega)
  · obtain ⟨j, hj, rfl⟩ := rotsK_mem.1 h
    rw [rot_len _ (by rw [List.length_reverse]; omega), List.length_reverse]
theorem isMin_one {xs m m' : List Int} (h : IsMin xs.length (allR xs) m) (h' : IsMin xs.length (allR xs) m') : m = m' :=
  (lx_same (allR_len h.1) (allR_len h'.1)).1 ⟨h'.2 _ h.1, h.2 _ h'.1⟩
open Classical in
/-- The least list; nothing of a list that is not valid. -/
noncomputable def can (b : Bool) (xs : List Int) : List Int := if b then (if h : ∃ m, IsMin xs.length (allR xs) m then h.choose else []) else []
theorem can_of {xs m : List Int} (h : IsMin xs.length (allR xs) m) : can true xs = m := by
  unfold can
  rw [if_pos rfl, dif_pos ⟨m, h⟩]
  exact isMin_one (Exists.choose_spec (⟨m, h⟩ : ∃ m, IsMin xs.length (allR xs) m)) h
theorem can_len (b : Bool) (xs : List Int) (h : xs.length ≤ 1048576) : (can b xs).length ≤ 1048576 := by
  unfold can
  split
  · split
    · rename_i hm
      rw [allR_len hm.choose_spec.1]; exact h
    · simp
  · simp

set_option maxHeartbeats 1000000 in
theorem iCS_any (v : Value) (xs : List Int) (hx : Ints xs) (b : Bool) (hv : b = true ↔ Vs xs) (w : World) (h : Sl w w.heap.size v xs) (hl : xs.length ≤ 1048576) :
    Calls Try.prog 32 #[v] w (RetO (can b xs) w) := by
  have HD := Lib.hid (iVS_any v xs hx w h hl)
  by_cases hvs : Vs xs
  · obtain rfl : b = true := hv.2 hvs
    have HM := Lib.hid (fun W (hb : Below w.heap.size w W) => iMir_any v xs W ((h.below hb (Nat.le_refl _)).mono hb.size) (vs_pos hvs) hl)
    obtain ⟨bb, o, c, rfl, hc, hb, C⟩ := sl_at h rfl (vs_pos hvs)
    refine (iCS_yes bb o c xs.length xs w rfl (vs_pos hvs) hc hb C hvs (vs_len hvs) HD HM).mono ?_
    rintro e w' ⟨u, m, rfl, hmin, hown, hbel⟩
    rw [can_of hmin]
    exact ⟨u, rfl, hown, hbel⟩
  · obtain rfl : b = false := vs_no hv hvs
    have HV := Lib.hid hvs
    clear hv hvs h
    go_enter Try.func32, Try.ntmps32
    go_wp2_with fail
    refine (HD.out).mono ?_
    rintro e w1 ⟨r, rfl, hr, rfl⟩
    obtain rfl : r = false := by rw [Bool.eq_false_iff]; exact fun h => HV.out (hr.1 h)
    clear hr
    go_wp2_with fail
    go_ret
    exact ⟨_, rfl, own_nil _ _, Below.refl _ _⟩

/-- The least so far: of the lists that A names. -/
def LeastOf (S : List (List Int)) (n : Nat) (A : List Int → Prop) (m : List Int) : Prop := m ∈ S ∧ ∀ x, A x → ¬ lx x m n
theorem least_yes {S : List (List Int)} {n : Nat} {A : List Int → Prop} {m x : List Int} (h : LeastOf S n A m) (hx : x ∈ S) (hl : lx x m n) : LeastOf S n (fun y => A y ∨ y = x) x :=
  ⟨hx, fun y hy hlt => by
    rcases hy with hy | rfl
    · exact h.2 y hy (lx_trans hlt hl)
    · exact lx_irrefl hlt⟩
theorem least_no {S : List (List Int)} {n : Nat} {A : List Int → Prop} {m x : List Int} (h : LeastOf S n A m) (hl : ¬ lx x m n) : LeastOf S n (fun y => A y ∨ y = x) m :=
  ⟨h.1, fun y hy => by
    rcases hy with hy | rfl
    · exact h.2 y hy
    · exact hl⟩
/-- What the model has looked at after k rounds. -/
def seenK (xs : List Int) (k : Nat) (y : List Int) : Prop := ∃ j, j < k ∧ (y = rot xs j ∨ y = rot xs.reverse j)
theorem seenK_all {xs y : List Int} (h : y ∈ allR xs) : seenK xs xs.length y := by
  rcases List.mem_append.1 h with h | h
  · obtain ⟨j, hj, rfl⟩ := rotsK_mem.1 h
    exact ⟨j, hj, .inl rfl⟩
  · obtain ⟨j, hj, rfl⟩ := rotsK_mem.1 h
    exact ⟨j, hj, .inr rfl⟩
theorem least_next {S : List (List Int)} {n k : Nat} {xs m : List Int} (h : LeastOf S n (fun y => (seenK xs k y ∨ y = rot xs k) ∨ y = rot xs.reverse k) m) : LeastOf S n (seenK xs (k + 1)) m :=
  ⟨h.1, fun y ⟨j, hj, hy⟩ => h.2 y (by
    rcases Nat.lt_or_ge j k with h | h
    · exact .inl (.inl ⟨j, h, hy⟩)
    · obtain rfl : j = k := by omega
      rcases hy with hy | hy
      · exact .inl (.inr hy)
      · exact .inr hy)⟩

set_option maxHeartbeats 4000000 in
theorem sLe_any (v : Value) (xs : List Int) (n : Nat) (hn : xs.length = n) (hp : 0 < n) (hl : n ≤ 1048576) (w : World) (h : Sl w w.heap.size v xs) :
    Calls Try.prog 54 #[v] w (RetO (can true xs) w) := by
  have HMi := Lib.hid (fun W (hb : Below w.heap.size w W) => sMir_any v xs W ((h.below hb (Nat.le_refl _)).mono hb.size) (by omega))
  obtain ⟨bb, o, c, rfl, hc, hbb, C1⟩ := sl_at h hn hp
  have HO := Lib.hid (sOwn_any bb o n c xs w hbb C1 hn hl)
  have HC := Lib.hid C1
  have HN := Lib.hid hn
  clear C1 h hn
  go_enter Try.func54, Try.ntmps54
  go_wp2_with fail
  refine (HO.out).mono ?_
  rintro e w0 ⟨q0, rfl, o0, b0⟩
  have hs0 := b0.size
  have HO0 := Lib.hid o0
  clear o0
  go_wp2_with fail
  refine (HMi.out _ b0).mono ?_
  rintro e w1 ⟨u, rfl, o1, b1⟩
  have hs1 := b1.size
  have B1 := b0.trans (b1.mono hs0)
  have hxr : xs.reverse.length = n := by rw [List.length_reverse, HN.out]
  obtain ⟨b2, o2, c2, rfl, hc2, hb2, C2⟩ := sl_at o1.sl hxr hp
  have HC2 := Lib.hid C2
  have HNR := Lib.hid hxr
  have HQ0 := Lib.hid (own_below HO0.out b1 (Nat.le_refl _))
  clear o1 C2 hxr
  go_wp2_with fail
  go_loopw [3, 5] (fun q i wr => ∃ k : Nat, k ≤ n ∧ i = .int .i64 (k : Int) ∧ Hid (∃ m, OwnI wr w.heap.size q m ∧ m.length = n ∧ LeastOf (allR xs) n (seenK xs k) m) ∧ Below w1.heap.size w1 wr) (fun _ i _ => n - (intOf i).toNat)
  case atStart =>
    refine ⟨0, Nat.zero_le _, rfl, Lib.hid ⟨xs, HQ0.out, HN.out, ?_, fun x hx => ?_⟩, Below.refl _ _⟩
    · exact List.mem_append.2 (.inl (rotsK_mem.2 ⟨0, by rw [HN.out]; exact hp, by simp [rot]⟩))
    · obtain ⟨j, hj, _⟩ := hx
      omega
  case round =>
    obtain ⟨k, hk, rfl, hm, hbel⟩ := hrel
    have hB : Below w.heap.size w wr := B1.trans (hbel.mono (by omega))
    by_cases hlt : k < n
    · have hsz := hbel.size
      have HR1 := Lib.hid (sRt_any bb o c n k xs wr (by omega) (cells_below HC.out hB hbb) HN.out hc hlt hl)
      have l1 : (rot xs k).length = n := by rw [rot_len _ (by rw [HN.out]; omega), HN.out]
      have l2 : (rot xs.reverse k).length = n := by rw [rot_len _ (by rw [HNR.out]; omega), HNR.out]
      have m1 : rot xs k ∈ allR xs := List.mem_append.2 (.inl (rotsK_mem.2 ⟨k, by rw [HN.out]; exact hlt, rfl⟩))
      have m2 : rot xs.reverse k ∈ allR xs := List.mem_append.2 (.inr (rotsK_mem.2 ⟨k, by rw [HN.out]; exact hlt, rfl⟩))
      have HR2 := Lib.hid (fun W (hb : Below w1.heap.size w1 W) => sRt_any b2 o2 c2 n k xs.reverse W (Nat.lt_of_lt_of_le hb2 hb.size) (cells_below HC2.out hb hb2) HNR.out hc2 hlt hl)
      have L1 := Lib.hid l1
      have L2 := Lib.hid l2
      have M1 := Lib.hid m1
      have M2 := Lib.hid m2
      obtain ⟨m, hmo, hml, hmin⟩ := hm.out
      have HMO := Lib.hid hmo
      have HML := Lib.hid hml
      have HMN := Lib.hid hmin
      clear l1 l2 m1 m2 hm hmo hml hmin
      go_wp2_with fail
      refine (HR1.out).mono ?_
      rintro e w2 ⟨v1, rfl, p2, b2'⟩
      have hB2 := hB.trans (b2'.mono hB.size)
      have hD2 := hbel.trans (b2'.mono hsz)
      have HMO2 := Lib.hid (own_below HMO.out b2' (Nat.le_refl _))
      have HL1 := Lib.hid (sLess_any v1 u3 (rot xs k) m n L1.out HML.out hp hl w2 p2.sl (OwnI.sl HMO2.out))
      have HP2 := Lib.hid (own_base p2 hB.size)
      clear p2 b2'
      go_wp2_with fail
      refine (HL1.out).mono ?_
      rintro e w3 ⟨r1, rfl, hr1, j1, rfl⟩
      have hD3 : Below w1.heap.size w1 (w2.drewN j1) := below_drewN hD2 j1
      have hB3 : Below w.heap.size w (w2.drewN j1) := below_drewN hB2 j1
      have HR1' := Lib.hid hr1
      have step : Hid (∃ q m', (if r1 = true then v1 else u3) = q ∧ OwnI (w2.drewN j1) w.heap.size q m' ∧ m'.length = n ∧ LeastOf (allR xs) n (fun y => seenK xs k y ∨ y = rot xs k) m') := by
        cases r1
        · exact Lib.hid ⟨_, m, rfl, HMO2.out, HML.out, least_no HMN.out (fun h => by have := HR1'.out.2 h; cases this)⟩
        · exact Lib.hid ⟨_, _, rfl, HP2.out, L1.out, least_yes HMN.out M1.out (HR1'.out.1 rfl)⟩
      clear hr1 hB2 hD2
      obtain ⟨q, m', hq, hmo', hml', hmin'⟩ := step.out
      have HMO' := Lib.hid hmo'
      have HML' := Lib.hid hml'
      have HMN' := Lib.hid hmin'
      clear step hmo' hml' hmin' HR1' HMO2 HP2
      cases r1
      all_goals
        simp only [if_true, Bool.false_eq_true, if_false] at hq
        subst hq
        go_wp2_with fail
        refine (HR2.out _ hD3).mono ?_
        rintro e w4 ⟨v2, rfl, p4, b4⟩
        have hB4 := hB3.trans (b4.mono hB3.size)
        have hD4 := hD3.trans (b4.mono hD3.size)
        have HMO4 := Lib.hid (own_below HMO'.out b4 (Nat.le_refl _))
        have HL2 := Lib.hid (sLess_any v2 _ (rot xs.reverse k) m' n L2.out HML'.out hp hl w4 p4.sl (OwnI.sl HMO4.out))
        have HP4 := Lib.hid (own_base p4 hB3.size)
        clear p4 b4
        go_wp2_with fail
        refine (HL2.out).mono ?_
        rintro e w5 ⟨r2, rfl, hr2, j2, rfl⟩
        have hD5 : Below w1.heap.size w1 (w4.drewN j2) := below_drewN hD4 j2
        have HR2' := Lib.hid hr2
        clear hr2 hB4 hD4
        cases r2
        · have HF := Lib.hid (show ∃ m, OwnI (w4.drewN j2) w.heap.size _ m ∧ m.length = n ∧ LeastOf (allR xs) n (seenK xs (k + 1)) m from ⟨m', HMO4.out, HML'.out, least_next (least_no HMN'.out (fun h => by have := HR2'.out.2 h; cases this))⟩)
          go_wp2_with fail
          go_roundw
          case rel => exact ⟨k + 1, by omega, by go_num, HF, hD5⟩
          case measure => simp [intOf]; omega
        · have HF := Lib.hid (show ∃ m, OwnI (w4.drewN j2) w.heap.size v2 m ∧ m.length = n ∧ LeastOf (allR xs) n (seenK xs (k + 1)) m from ⟨_, HP4.out, L2.out, least_next (least_yes HMN'.out M2.out (HR2'.out.1 rfl))⟩)
          go_wp2_with fail
          go_roundw
          case rel => exact ⟨k + 1, by omega, by go_num, HF, hD5⟩
          case measure => simp [intOf]; omega
    · obtain rfl : k = n := by omega
      have HM := Lib.hid hm.out
      clear hm
      go_wp2_with fail
      go_ret
      obtain ⟨m, hmo, hml, hmin⟩ := HM.out
      have hmn : IsMin xs.length (allR xs) m := ⟨hmin.1, fun x hx => by rw [HN.out]; exact hmin.2 x (by have := seenK_all hx; rw [HN.out] at this; exact this)⟩
      rw [can_of hmn]
      exact ⟨_, rfl, hmo, hB⟩

set_option maxHeartbeats 1000000 in
theorem sCS_any (v : Value) (xs : List Int) (hx : Ints xs) (b : Bool) (hv : b = true ↔ Vs xs) (w : World) (h : Sl w w.heap.size v xs) (hl : xs.length ≤ 1048576) :
    Calls Try.prog 31 #[v] w (RetO (can b xs) w) := by
  have HO := Lib.hid (sOk_any v xs hx w h hl)
  by_cases hvs : Vs xs
  · obtain rfl : b = true := hv.2 hvs
    have HL := Lib.hid (sLe_any v xs xs.length rfl (vs_pos hvs) hl w h)
    have HV := Lib.hid hvs
    clear hv hvs h
    go_enter Try.func31, Try.ntmps31
    go_wp2_with fail
    refine (HO.out).mono ?_
    rintro e w1 ⟨r, rfl, hr, rfl⟩
    obtain rfl : r = true := by rw [hr]; exact HV.out
    clear hr
    go_wp2_with fail
    refine (HL.out).mono ?_
    rintro e w1 ⟨u, rfl, o1, b1⟩
    go_wp2_with fail
    go_ret
    exact ⟨u, rfl, o1, b1⟩
  · obtain rfl : b = false := vs_no hv hvs
    have HV := Lib.hid hvs
    clear hv hvs h
    go_enter Try.func31, Try.ntmps31
    go_wp2_with fail
    refine (HO.out).mono ?_
    rintro e w1 ⟨r, rfl, hr, rfl⟩
    obtain rfl : r = false := by rw [Bool.eq_false_iff]; exact fun h => HV.out (hr.1 h)
    clear hr
    go_wp2_with fail
    go_ret
    exact ⟨_, rfl, own_nil _ _, Below.refl _ _⟩
end Go.Proofs.Ytdnkgnknjhnjiaa
