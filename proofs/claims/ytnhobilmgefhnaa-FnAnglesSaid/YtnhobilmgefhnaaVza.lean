/- The walk of FnAngles. -/
import Derived.Test.YtnhobilmgefhnaaVz
namespace Go.Proofs.Ytnhobilmgefhnaa
open Go Go.RowKit OriM

set_option maxRecDepth 100000 in
set_option maxHeartbeats 16000000 in
theorem angles.core (v : Value) (a : Option Addr) (sn sc : Nat) (w : World) (hva : v = .slice a sn sc) (hC : CodeW w v) (hlong : ¬ 3000 < sn) :
    Calls Try.prog 3 #[v] w (RetT w) := by
  have HA := Lib.hid (a2Long_any a sn sc w)
  rw [show decide (3000 < sn) = false from decide_eq_false hlong] at HA
  have HC := Lib.hid (sectors_any v w hC)
  obtain ⟨i0, hi, hz0, hz1, hz2⟩ := info_parts infoSl
  subst hva
  clear hlong hC
  go_enter Try.func3, Try.ntmps3
  go_wp2_with fail
  refine (HA.out).mono ?_
  rintro e w' ⟨rfl, rfl⟩
  go_wp2_with fail
  refine (HC.out).mono ?_
  rintro e w1 ⟨L, xs, rfl, hul, hv, b1⟩
  obtain ⟨n, hn⟩ : ∃ n, xs.length = n := ⟨_, rfl⟩
  have hp : 0 < n := by rw [← hn]; exact vs_pos hv
  have hn16 : n ≤ 16 := by rw [← hn]; exact vs_len hv
  have HV := Lib.hid hv
  have HN := Lib.hid hn
  have HI := Lib.hid (vs_ints hv)
  have HSL := Lib.hid (fun W (hb : Below w1.heap.size w1 W) => ((OwnI.sl hul).below hb (Nat.le_refl _)).mono hb.size)
  have HB1 := Lib.hid b1
  have hs1 := b1.size
  obtain ⟨b, hb⟩ : ∃ b : Bool, b = true ↔ AltP xs := ⟨@decide (AltP xs) (Classical.propDecidable _), by simp⟩
  have HAL := Lib.hid hb
  obtain ⟨lb, lo, lc, rfl, hlc, hlb, CL⟩ := sl_at (OwnI.sl hul) hn hp
  clear hul hv hn b1 hb CL
  have HD := Lib.hid (iDO_any 0 _ xs HI.out true (by simp [dirP_zero HV.out]) w1 (HSL.out w1 (Below.refl _ _)) (by rw [HN.out]; omega))
  go_wp2_with fail
  refine (HD.out).mono ?_
  rintro e w2 ⟨vd, rfl, hod, b2⟩
  have HS := Lib.hid (iSO_any vd _ (ints_dirs HV.out) true (by simp [dirsP_dirs HV.out]) w2 (OwnI.sl hod) (by rw [dirs_size, HN.out]; omega))
  rw [back_again HV.out] at HS
  clear hod
  go_wp2_with fail
  refine (HS.out).mono ?_
  rintro e w3 ⟨vb, rfl, hob, b3⟩
  have b3' := b2.trans (b3.mono b2.size)
  have HE := Lib.hid (aSame_any vb _ xs xs n HN.out HN.out hp (by omega) w3 (OwnI.sl hob) (HSL.out w3 b3'))
  clear hob
  go_wp2_with fail
  refine (HE.out).mono ?_
  rintro e w4 ⟨r, rfl, hr, m, rfl⟩
  obtain rfl : r = true := hr.2 (by trivial)
  clear hr
  have b4 := below_drewN b3' m
  obtain ⟨w4, hw4⟩ : ∃ w4, w3.drewN m = w4 := ⟨_, rfl⟩
  rw [hw4] at b4 ⊢
  have HCN := Lib.hid (iCS_any _ xs HI.out true (by simp [HV.out]) w4 (HSL.out w4 b4) (by rw [HN.out]; omega))
  clear hw4
  go_wp2_with fail
  refine (HCN.out).mono ?_
  rintro e w5 ⟨Q, rfl, hoq, b5⟩
  have b5' := b4.trans (b5.mono b4.size)
  have HMR := Lib.hid (iMS_any _ xs HI.out true (by simp [HV.out]) w5 (HSL.out w5 b5') (by rw [HN.out]; omega))
  rw [show mir true xs = xs.reverse from rfl] at HMR
  go_wp2_with fail
  refine (HMR.out).mono ?_
  rintro e w6 ⟨M, rfl, hom, b6⟩
  have b6' := b5'.trans (b6.mono b5'.size)
  have hs6 := b6'.size
  have HB6 := Lib.hid (HB1.out.trans (b6'.mono hs1))
  obtain ⟨n₀, hn0⟩ : ∃ n₀, w6.heap.size = n₀ := ⟨_, rfl⟩
  have hw0 : w.heap.size ≤ n₀ := by omega
  have hmn := can_min (xs := xs) (by rw [HN.out]; exact hp)
  rw [HN.out] at hmn
  have hml : (can true xs).length = n := by have := allR_len hmn.1; rw [HN.out] at this; exact this
  have hmo : Orb n xs (can true xs) := by have := mem_allR.1 hmn.1; rw [HN.out] at this; exact this
  have hrl : xs.reverse.length = n := by rw [List.length_reverse, HN.out]
  have hq6 := (OwnI.sl hoq).below b6 (Nat.le_refl _)
  have HLQ := Lib.hid (fun W (hb : Below n₀ w6 W) => show Sl W W.heap.size (.slice (some ⟨lb, lo, none⟩) n lc) xs ∧ Sl W W.heap.size Q (can true xs) ∧ Sl W W.heap.size M xs.reverse from
    ⟨HSL.out W (b6'.trans (hb.mono (by omega))), (hq6.below hb (by have := b6.size; omega)).mono (by have := hb.size; have := b6.size; omega), (((OwnI.sl hom).below (B := n₀) hb (by omega)).mono (by have := hb.size; omega))⟩)
  have HMN := Lib.hid hmn
  have HML0 := Lib.hid hml
  have HMO := Lib.hid hmo
  have HRL := Lib.hid hrl
  obtain ⟨cm, hcm⟩ : ∃ cm, can true xs = cm := ⟨_, rfl⟩
  rw [hcm] at HMN HML0 HMO HLQ
  have HCM := Lib.hid hcm
  have HW0 := Lib.hid (World.ownsRow_lit (base := n₀) (e := 24) (size := 1) w6 #[] 0 (by omega) (by decide) rfl)
  rw [hn0] at HW0
  have HBb := Lib.hid ((Below.refl n₀ w6).alloc (by omega) (.cells #[] 24))
  clear hoq hom b2 b3 b3' b4 b5 b5' b6 b6' hmn hml hmo hrl hq6 hcm
  go_wp2_with fail
  go_loopw [9, 10, 11] (fun q av i wr => ∃ (k : Nat) (bf : Bool), k ≤ n ∧ i = .int .i64 (k : Int) ∧ q = .bool bf ∧ Hid (bf = true ↔ cm ∈ uni xs k) ∧ Hid (Ls wr n₀ av (uni xs k)) ∧ Hid (Below n₀ w6 wr)) (fun _ _ i _ => n - (intOf i).toNat)
  case atStart => exact ⟨0, false, Nat.zero_le _, rfl, rfl, Lib.hid (by simp [uni]), Lib.hid ⟨[], HW0.out, fun i hi => absurd hi (by simp [uni])⟩, HBb⟩
  case round =>
    obtain ⟨k, bf, hk, rfl, rfl, hbf, hls, hbel⟩ := hrel
    by_cases hkn : k < n
    · have hbs := hbel.out.size
      have HR1 := Lib.hid (iRS_any (k : Int) _ xs HI.out true (by simp [RotP, HV.out, HN.out]; omega) wr (HLQ.out wr hbel.out).1 (by rw [HN.out]; omega))
      rw [show rots true (k : Int) xs = rot xs k by simp [rots]] at HR1
      go_wp2_with fail
      refine (HR1.out).mono ?_
      rintro e wa ⟨u1, rfl, ou1, ba⟩
      have ba' := hbel.out.trans (ba.mono (by omega))
      have HR2 := Lib.hid (iRS_any (k : Int) _ xs.reverse (vs_ints (vs_rev HV.out)) true (by simp [RotP, vs_rev HV.out, HN.out]; omega) wa (HLQ.out wa ba').2.2 (by rw [HRL.out]; omega))
      rw [show rots true (k : Int) xs.reverse = rot xs.reverse k by simp [rots]] at HR2
      go_wp2_with fail
      refine (HR2.out).mono ?_
      rintro e wb ⟨u2, rfl, ou2, bb⟩
      obtain ⟨g1, o1, c1, rfl, _, _, _⟩ := sl_at (OwnI.sl ou1) (n := n) (by rw [rot_len _ (by rw [HN.out]; omega), HN.out]) hp
      obtain ⟨g2, o2, c2, rfl, _, _, _⟩ := sl_at (OwnI.sl ou2) (n := n) (by rw [rot_len _ (by rw [HRL.out]; omega), HRL.out]) hp
      have hza := ba.size
      have hzb := bb.size
      have hnr : ∀ W : World, ∀ r, (none : Option Nat) = some r → ∃ o : Obj, W.heap[r]? = some o ∧ o.isCells = false := fun W r e => by cases e
      have bz : Below wb.heap.size wb (wb.alloc (.cells #[.slice (some ⟨g1, o1, none⟩) n c1, .slice (some ⟨g2, o2, none⟩) n c2] 24)) := (Below.refl _ wb).alloc (Nat.le_refl _) _
      have bwz := (ba.trans (bb.mono hza)).trans (bz.mono (by omega))
      have HS5 := Lib.hid (show FaS n₀ w6 (wb.alloc (.cells #[.slice (some ⟨g1, o1, none⟩) n c1, .slice (some ⟨g2, o2, none⟩) n c2] 24)) wb.heap.size (.slice (some ⟨g1, o1, none⟩) n c1) (.slice (some ⟨g2, o2, none⟩) n c2) u10 (rot xs k) (rot xs.reverse k) (mid xs k 0) from
        ⟨hbel.out.trans (bwz.mono (by omega)), hls.out.from (fresh_grown bwz) (hnr _), ownV_from (own_base ou1 (by omega)) (fresh_grown (bb.trans (bz.mono hzb))) (hnr _), ownV_from (own_base ou2 (by omega)) (fresh_grown bz) (hnr _), by simp [go_sem], by simp [go_sem], by simp, ls_below hls.out (by omega), by simp; omega⟩)
      clear ba ba' bb bz bwz ou1 ou2 hls hbel hnr
      go_wp2_with fail
      obtain ⟨W5, hW5⟩ : ∃ W5, wb.alloc (.cells #[.slice (some ⟨g1, o1, none⟩) n c1, .slice (some ⟨g2, o2, none⟩) n c2] 24) = W5 := ⟨_, rfl⟩
      obtain ⟨T, hT⟩ : ∃ T, wb.heap.size = T := ⟨_, rfl⟩
      obtain ⟨u1, hu1⟩ : ∃ u1, Value.slice (some ⟨g1, o1, none⟩) n c1 = u1 := ⟨_, rfl⟩
      obtain ⟨uu, hu2⟩ : ∃ uu, Value.slice (some ⟨g2, o2, none⟩) n c2 = uu := ⟨_, rfl⟩
      rw [hW5, hT] at HS5
      rw [hu1, hu2] at HS5
      clear hu1 hu2
      rw [hW5, hT]
      clear hW5 hT hzb
      go_loopw [9, 10, 13] (fun q av i wr => ∃ (d : Nat) (bf : Bool), d ≤ 2 ∧ i = .int .i64 (d : Int) ∧ q = .bool bf ∧ Hid (bf = true ↔ cm ∈ mid xs k d) ∧ Hid (FaS n₀ w6 wr T u1 uu av (rot xs k) (rot xs.reverse k) (mid xs k d))) (fun _ _ i _ => 2 - (intOf i).toNat)
      case atStart => exact ⟨0, bf, Nat.zero_le _, rfl, rfl, hbf, HS5⟩
      case round =>
        obtain ⟨d, bf, hd, rfl, rfl, hbf, hS⟩ := hrel
        by_cases hd2 : d < 2
        · have S := hS.out
          obtain ⟨x, hx⟩ : ∃ x, itm xs k d = x := ⟨_, rfl⟩
          have hux : ∃ u, wr.cell? ⟨T, d, none⟩ = some u ∧ ∀ W av ls, FaS n₀ w6 W T u1 uu av (rot xs k) (rot xs.reverse k) ls → OwnI W n₀ u x := by
            rcases (show d = 0 ∨ d = 1 by omega) with rfl | rfl
            · exact ⟨u1, S.c1, fun W av ls h => by rw [← hx]; exact h.o1⟩
            · exact ⟨uu, S.c2, fun W av ls h => by rw [← hx]; exact h.o2⟩
          obtain ⟨u, hu, HOX⟩ := hux
          obtain ⟨ug, uo, uc, rfl, _, _, _⟩ := sl_at (OwnI.sl (HOX _ _ _ S)) (n := n) (orb_len HN.out (by rw [← hx]; exact itm_orb hkn)) hp
          have HOXH := Lib.hid HOX
          have hu' := Lib.hid hu
          have hxo : Orb n xs x := by rw [← hx]; exact itm_orb hkn
          have hxl : x.length = n := orb_len HN.out hxo
          have hxv : Vs x := vs_orb HV.out hxo
          have HIT := Lib.hid hx
          have HXO := Lib.hid hxo
          have HXL := Lib.hid hxl
          have HXV := Lib.hid hxv
          have HBF := hbf
          have HML : Hid (∀ y ∈ mid xs k d, y.length = n) := Lib.hid (fun y hy => orb_len HN.out (mid_orb hkn d hy))
          have HVX := Lib.hid (iVS_any _ x (vs_ints hxv) wr (OwnI.sl (HOX _ _ _ S)) (by omega))
          clear HOX hxo hxl hxv hx hbf hS
          clear hu
          have hu := hu'.out
          obtain ⟨kb, hkb⟩ : ∃ kb, kaw b xs = kb := ⟨_, rfl⟩
          have HKB := Lib.hid hkb
          clear hkb
          go_wp2_with fail
          refine (HVX.out).mono ?_
          rintro e w7 ⟨r, rfl, hr, rfl⟩
          obtain rfl : r = true := hr.2 HXV.out
          clear hr
          have HLS := Lib.hid (aLess_any _ Q x cm n HXL.out HML0.out hp (by omega) wr (OwnI.sl (HOXH.out _ _ _ S)) (HLQ.out wr S.bel).2.1)
          go_wp2_with fail
          refine (HLS.out).mono ?_
          rintro e w7 ⟨r, rfl, hr, hm7⟩
          obtain rfl : r = false := by rw [Bool.eq_false_iff]; exact fun h => HMN.out.2 x (mem_allR.2 (by rw [HN.out]; exact HXO.out)) (hr.1 h)
          clear hr
          replace S := S.drewE hm7
          have HCX := Lib.hid (iCS_any _ x (vs_ints HXV.out) true (by simp [HXV.out]) w7 (OwnI.sl (HOXH.out _ _ _ S)) (by rw [HXL.out]; omega))
          rw [can_orb HN.out hp HXO.out, HCM.out] at HCX
          clear hm7
          go_wp2_with fail
          refine (HCX.out).mono ?_
          rintro e w8 ⟨uq, rfl, oq, b8⟩
          replace S := S.fresh b8
          have HSM := Lib.hid (aSame_any uq Q cm cm n HML0.out HML0.out hp (by omega) w8 (OwnI.sl oq) (HLQ.out w8 S.bel).2.1)
          clear oq b8
          go_wp2_with fail
          refine (HSM.out).mono ?_
          rintro e w9 ⟨r, rfl, hr, hm9⟩
          obtain rfl : r = true := hr.2 (by trivial)
          clear hr
          replace S := S.drewE hm9
          have HK1 := Lib.hid (iKW_any _ x (vs_ints HXV.out) b (by rw [altP_orb HN.out HV.out HXO.out]; exact HAL.out) w9 (OwnI.sl (HOXH.out _ _ _ S)) (by rw [HXL.out]; omega))
          rw [kaw_orb HN.out HAL.out HXO.out, HKB.out] at HK1
          clear hm9
          go_wp2_with fail
          refine (HK1.out).mono ?_
          rintro e w10 ⟨rfl, b10⟩
          replace S := S.fresh b10
          have HK2 := Lib.hid (iKW_any _ xs HI.out b HAL.out w10 (HLQ.out w10 S.bel).1 (by rw [HN.out]; omega))
          rw [HKB.out] at HK2
          clear b10
          go_wp2_with fail
          refine (HK2.out).mono ?_
          rintro e w11 ⟨rfl, b11⟩
          replace S := S.fresh b11
          clear b11
          have hkk : (kb != kb) = false := by simp
          cases bf
          · have HFS := Lib.hid (aSame_any _ Q x cm n HXL.out HML0.out hp (by omega) w11 (OwnI.sl (HOXH.out _ _ _ S)) (HLQ.out w11 S.bel).2.1)
            go_wp2_with fail
            refine (HFS.out).mono ?_
            rintro e w12 ⟨rf, rfl, hrf, hm12⟩
            replace S := S.drewE hm12
            have HB' := Lib.hid (show rf = true ↔ cm ∈ mid xs k (d + 1) from by
              show rf = true ↔ cm ∈ ins (mid xs k d) (itm xs k d)
              rw [ins_mem, HIT.out]
              constructor
              · intro h; exact .inr (hrf.1 h).symm
              · rintro (h | h)
                · have := HBF.out.2 h; cases this
                · exact hrf.2 h.symm)
            clear hm12 hrf
            have HAH := Lib.hid (aHas_any n u10 _ (mid xs k d) x n₀ hp (by omega) (by have := mid_len xs k d; omega) HML.out HXL.out _ S.lst (OwnI.sl (HOXH.out _ _ _ S)))
            go_wp2_with fail
            refine (HAH.out).mono ?_
            rintro e wz ⟨rh, rfl, hrh, hmz⟩
            replace S := S.drewE hmz
            clear hmz
            cases rh
            · have hnew : ¬ x ∈ mid xs k d := fun h => by have := hrh.2 h; cases this
              have HNEW := Lib.hid (ins_new hnew)
              obtain ⟨vs, hrow, hat⟩ := S.lst
              have HS := Lib.hid S
              have HROW := Lib.hid hrow
              have HAT := Lib.hid hat
              have hsz := S.sz
              have hll : (mid xs k d).length ≤ 2 * k + d := mid_len xs k d
              obtain ⟨N, hN⟩ : ∃ N, (mid xs k d).length = N := ⟨_, rfl⟩
              rw [hN] at hll hrow
              have HNN := Lib.hid hN
              have HRW := Lib.hid hrow
              clear S hrow hat hnew hrh hN
              go_wp2_with (at_builtin; refine wpList_append_own_at _ rfl _ _ 31 rfl n₀ 24 i0 (.slice none 0 0) 1 24 Try.underlying31 hi hz0 hz1 hz2 rfl (by decide) _ _ _ rfl (HRW.out.alloc _) ⟨wz.heap.size, 0, none⟩ 1 1 [.slice (some ⟨ug, uo, none⟩) n uc] rfl rfl (cell_one_new _ _ _) (by simp [Value.oneCell']) (by unfold maxLen; omega) (by omega) (by simp; omega) ?_; intro v' wnew hown' hgrow' _ hnb')
              have S' := HS.out.append (v := .slice (some ⟨ug, uo, none⟩) n uc) (x := x) (HOXH.out _ _ _ HS.out) HROW.out HAT.out (by rw [HNN.out]; exact hown') hgrow' hnb'
              have HS' := Lib.hid (show FaS n₀ w6 wnew T u1 uu v' (rot xs k) (rot xs.reverse k) (mid xs k (d + 1)) from by show FaS _ _ _ _ _ _ _ _ _ (ins (mid xs k d) (itm xs k d)); rw [HIT.out, HNEW.out]; exact S')
              clear S' hown' hgrow' hnb'
              go_roundw
              case rel => exact ⟨d + 1, rf, by omega, by go_num, rfl, HB', HS'⟩
              case measure => simp [intOf]; omega
            · have HOLD := Lib.hid (ins_old (hrh.1 (by trivial)))
              have HS' := Lib.hid (show FaS n₀ w6 wz T u1 uu u10 (rot xs k) (rot xs.reverse k) (mid xs k (d + 1)) from by show FaS _ _ _ _ _ _ _ _ _ (ins (mid xs k d) (itm xs k d)); rw [HIT.out, HOLD.out]; exact S)
              clear hrh S
              go_wp2_with fail
              go_roundw
              case rel => exact ⟨d + 1, rf, by omega, by go_num, rfl, HB', HS'⟩
              case measure => simp [intOf]; omega
          · have HB' := Lib.hid (show cm ∈ mid xs k (d + 1) from ins_mem.2 (.inl (HBF.out.1 (by trivial))))
            have HAH := Lib.hid (aHas_any n u10 _ (mid xs k d) x n₀ hp (by omega) (by have := mid_len xs k d; omega) HML.out HXL.out _ S.lst (OwnI.sl (HOXH.out _ _ _ S)))
            go_wp2_with fail
            refine (HAH.out).mono ?_
            rintro e wz ⟨rh, rfl, hrh, hmz⟩
            replace S := S.drewE hmz
            clear hmz
            cases rh
            · have hnew : ¬ x ∈ mid xs k d := fun h => by have := hrh.2 h; cases this
              have HNEW := Lib.hid (ins_new hnew)
              obtain ⟨vs, hrow, hat⟩ := S.lst
              have HS := Lib.hid S
              have HROW := Lib.hid hrow
              have HAT := Lib.hid hat
              have hsz := S.sz
              have hll : (mid xs k d).length ≤ 2 * k + d := mid_len xs k d
              obtain ⟨N, hN⟩ : ∃ N, (mid xs k d).length = N := ⟨_, rfl⟩
              rw [hN] at hll hrow
              have HNN := Lib.hid hN
              have HRW := Lib.hid hrow
              clear S hrow hat hnew hrh hN
              go_wp2_with (at_builtin; refine wpList_append_own_at _ rfl _ _ 31 rfl n₀ 24 i0 (.slice none 0 0) 1 24 Try.underlying31 hi hz0 hz1 hz2 rfl (by decide) _ _ _ rfl (HRW.out.alloc _) ⟨wz.heap.size, 0, none⟩ 1 1 [.slice (some ⟨ug, uo, none⟩) n uc] rfl rfl (cell_one_new _ _ _) (by simp [Value.oneCell']) (by unfold maxLen; omega) (by omega) (by simp; omega) ?_; intro v' wnew hown' hgrow' _ hnb')
              have S' := HS.out.append (v := .slice (some ⟨ug, uo, none⟩) n uc) (x := x) (HOXH.out _ _ _ HS.out) HROW.out HAT.out (by rw [HNN.out]; exact hown') hgrow' hnb'
              have HS' := Lib.hid (show FaS n₀ w6 wnew T u1 uu v' (rot xs k) (rot xs.reverse k) (mid xs k (d + 1)) from by show FaS _ _ _ _ _ _ _ _ _ (ins (mid xs k d) (itm xs k d)); rw [HIT.out, HNEW.out]; exact S')
              clear S' hown' hgrow' hnb'
              go_roundw
              case rel => exact ⟨d + 1, true, by omega, by go_num, rfl, (Lib.hid (iff_of_true rfl HB'.out)), HS'⟩
              case measure => simp [intOf]; omega
            · have HOLD := Lib.hid (ins_old (hrh.1 (by trivial)))
              have HS' := Lib.hid (show FaS n₀ w6 wz T u1 uu u10 (rot xs k) (rot xs.reverse k) (mid xs k (d + 1)) from by show FaS _ _ _ _ _ _ _ _ _ (ins (mid xs k d) (itm xs k d)); rw [HIT.out, HOLD.out]; exact S)
              clear hrh S
              go_wp2_with fail
              go_roundw
              case rel => exact ⟨d + 1, true, by omega, by go_num, rfl, (Lib.hid (iff_of_true rfl HB'.out)), HS'⟩
              case measure => simp [intOf]; omega
        · obtain rfl : d = 2 := by omega
          have HL2 := Lib.hid (show Ls wr n₀ u10 (uni xs (k + 1)) from hS.out.lst)
          have HB2 := Lib.hid hS.out.bel
          have HF2 := Lib.hid (show bf = true ↔ cm ∈ uni xs (k + 1) from hbf.out)
          clear hS hbf HS5
          go_wp2_with fail
          go_roundw
          case rel => exact ⟨k + 1, bf, by omega, by go_num, rfl, HF2, HL2, HB2⟩
          case measure => simp [intOf]; omega
    · obtain rfl : k = n := by omega
      obtain rfl : bf = true := hbf.out.2 (uni_orb.2 HMO.out)
      have HSS := Lib.hid (iSS_any _ xs HI.out true (by simp [HV.out]) wr (HLQ.out wr hbel.out).1 (by rw [HN.out]; omega))
      rw [show sy1 true xs = cn xs xs k by unfold sy1; rw [if_pos rfl, HN.out], show sy2 true xs = cn xs.reverse xs k by unfold sy2; rw [if_pos rfl, HN.out]] at HSS
      have ho := orbit HN.out hp
      have h1 := cn_bd xs xs k
      have h2 := cn_bd xs.reverse xs k
      obtain ⟨s1, e1⟩ : ∃ s1, cn xs xs k = s1 := ⟨_, rfl⟩
      obtain ⟨s2, e2⟩ : ∃ s2, cn xs.reverse xs k = s2 := ⟨_, rfl⟩
      obtain ⟨N, hN⟩ : ∃ N, (uni xs k).length = N := ⟨_, rfl⟩
      obtain ⟨A, cap, rfl, _⟩ := ls_cells hls.out hN (fun y hy => orb_len HN.out (uni_orb.1 hy))
      rw [e1, e2] at HSS ho
      rw [hN] at ho
      rw [e1] at h1
      rw [e2] at h2
      have c1 : IntKind.i64.wrap (s1 + s2) = s1 + s2 := IntWalk.i64_in _ (by omega)
      have c2 : IntKind.i64.wrap ((s1 + s2) * (N : Int)) = 2 * (k : Int) := by rw [ho]; exact IntWalk.i64_in _ (by omega)
      have c3 : IntKind.i64.wrap (2 * (k : Int)) = 2 * (k : Int) := IntWalk.i64_in _ (by omega)
      have HBW := Lib.hid (HB6.out.trans (hbel.out.mono hw0))
      have hwz : w.heap.size ≤ wr.heap.size := HBW.out.size
      clear ho h1 h2 e1 e2 hN hls hbel hbf
      go_wp2_with fail
      refine (HSS.out).mono ?_
      rintro e wl ⟨rfl, by1⟩
      have HBY := Lib.hid (HBW.out.trans (by1.mono hwz))
      clear by1
      go_wp2_with fail
      go_ret
      exact ⟨rfl, HBY.out⟩

set_option maxHeartbeats 1000000 in
theorem angles.walk (v : Value) (w : World) (hC : CodeW w v) : Calls Try.prog 3 #[v] w (RetT w) := by
  obtain ⟨a, sn, sc, hva⟩ := hC.slice
  by_cases hl : 3000 < sn
  · have HA := Lib.hid (a2Long_any a sn sc w)
    rw [show decide (3000 < sn) = true from decide_eq_true hl] at HA
    subst hva
    clear hl hC
    go_enter Try.func3, Try.ntmps3
    go_wp2_with fail
    refine (HA.out).mono ?_
    rintro e w' ⟨rfl, rfl⟩
    go_wp2_with fail
    go_ret
    exact ⟨rfl, Below.refl _ _⟩
  · exact angles.core v a sn sc w hva hC hl
end Go.Proofs.Ytnhobilmgefhnaa
