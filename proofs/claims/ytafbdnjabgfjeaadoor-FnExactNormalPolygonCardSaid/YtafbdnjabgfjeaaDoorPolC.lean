/- The directions of the sides of a polygon, by the model. -/
import Derived.Test.YtafbdnjabgfjeaaDoorPolB
import Derived.Test.YtafbdnjabgfjeaaDoorGsx
import Derived.Deep.AppendLies
import Derived.Deep.RegionHeld3
section
namespace Go.Proofs.YtafbdnjabgfjeaaDoor
open Go Go.RowKit OriM
namespace Pol
variable {β : Bool}

theorem infoW : (Tryd.prog.info? 104).map (fun i => (i.zero, i.size, i.bytes)) = some (some (p6v 0 0 0 0 0 0), 6, 48) := by kernel_rfl
theorem take_six {n k : Nat} {fs : List Int} (h6 : fs.length = n * 6) (hk : k < n) :
    fs.take (k * 6) ++ [nth fs (k * 6), nth fs (k * 6 + 1), nth fs (k * 6 + 2), nth fs (k * 6 + 3), nth fs (k * 6 + 4), nth fs (k * 6 + 5)] = fs.take ((k + 1) * 6) := by
  rw [show (k + 1) * 6 = k * 6 + 1 + 1 + 1 + 1 + 1 + 1 by omega, take_snoc (by omega), take_snoc (by omega), take_snoc (by omega), take_snoc (by omega), take_snoc (by omega), take_snoc (by omega)]
  simp [List.append_assoc]

/-- A slice of the call's own, of points without limits. -/
def RetOW (n : Nat) (fs : List Int) (w : World) (e : Ending) (w' : World) : Prop := ∃ v, e = .returned v ∧ w'.ownsRow w.heap.size 104 6 v n (fs.map (Value.int .i64)) ∧ Below w.heap.size w w'
theorem ownW_sl {w : World} {base n : Nat} {v : Value} {fs : List Int} (h : w.ownsRow base 104 6 v n (fs.map (Value.int .i64))) : SlF w w.heap.size v n fs := by
  have hl : fs.length = n * 6 := by have := h.1; simpa using this
  refine ⟨hl, ?_⟩
  rcases h.2 with ⟨rfl, h0⟩ | ⟨g, cap, cur, rfl, hb, hg, hn, hm, hs, ht⟩
  · exact ⟨none, 0, by rw [h0], by omega, fun h => by omega⟩
  · refine ⟨some ⟨g, 0, none⟩, cap, rfl, hn, fun _ => ⟨g, 0, rfl, (Array.getElem?_eq_some_iff.1 hg).1, fun k hk => ?_⟩⟩
    have := h.cells (g := g) rfl k (.int .i64 (nth fs k)) (by rw [List.getElem?_map, List.getElem?_eq_getElem hk, nth_of hk]; rfl)
    rw [Nat.zero_add]
    have hadd : (⟨g, 0, none⟩ : Addr).add k = ⟨g, k, none⟩ := by unfold Addr.add; split <;> simp_all
    rw [hadd] at this
    exact this

set_option maxHeartbeats 4000000 in
set_option maxRecDepth 100000 in
theorem wide_any (v : Value) (n : Nat) (fs : List Int) (w : World) (h : SlF w w.heap.size v n fs) (hT : LT β w) (hl : n ≤ 1048576) :
    Calls Tryd.prog 95 #[v] w (RetOW n fs w) := by
  obtain ⟨h6, A, c, rfl, hc, hcell⟩ := h
  have HC := Lib.hid hcell
  have H6 := Lib.hid h6
  have HW := Lib.hid (World.ownsRow_lit (base := w.heap.size) (e := 104) (size := 6) w #[] 0 (Nat.le_refl _) (by decide) rfl)
  have HB := Lib.hid ((Below.refl w.heap.size w).alloc (Nat.le_refl _) (.cells #[] 104))
  clear hcell h6
  obtain ⟨i0, hi, hz0, hz1, hz2⟩ := info_parts infoW
  go_enter Tryd.func95, Tryd.ntmps95
  go_wp2_with fail
  go_loopw [3, 4] (fun q i wr => ∃ k : Nat, k ≤ n ∧ i = .int .i64 k ∧ wr.ownsRow w.heap.size 104 6 q k ((fs.take (k * 6)).map (Value.int .i64)) ∧ Below w.heap.size w wr) (fun _ i _ => n - (intOf i).toNat)
  case atStart => exact ⟨0, Nat.zero_le _, rfl, HW.out, HB.out⟩
  case round =>
    obtain ⟨k, hk, rfl, hown, hbel⟩ := hrel
    by_cases hlt : k < n
    · obtain ⟨b, o, rfl, hb, hcs⟩ := HC.out (by omega)
      obtain ⟨a0, a1, a2, a3, a4, a5⟩ := six (hcs.below hbel hb) H6.out hlt
      have hsz := hbel.size
      have HF := Lib.hid (fun w (hT : LT β w) => sOf_any (nth fs (k * 6)) (nth fs (k * 6 + 1)) (nth fs (k * 6 + 2)) (nth fs (k * 6 + 3)) (nth fs (k * 6 + 4)) (nth fs (k * 6 + 5)) w hT)
      have HS := Lib.hid (take_six H6.out hlt)
      have j0 : (0 : Int) ≤ (k : Int) := by omega
      have j1 : (k : Int) < (n : Int) := by omega
      clear hcs
      go_wp2_with fail
      refine (HF.out _ ?_).mono ?_
      · exact LT.below (w := w) hT (by (repeat (first | with_reducible exact Below.refl _ _ | with_reducible assumption | with_reducible refine below_drewN ?_ _ | with_reducible refine Below.drew ?_ | with_reducible refine Below.alloc ?_ (by first | omega | (simp; done) | (simp; omega)) _ | with_reducible refine Below.setCell ?_ (by first | omega | (simp; done) | (simp; omega)) _ | with_reducible refine Below.trans ?_ (Below.mono (by assumption) (by first | omega | (simp; done) | (simp; omega)))))) (Nat.le_refl _)
      rintro e w1 ⟨rfl, hb1⟩
      have B1 := hbel.trans (hb1.mono hsz)
      have o1 := own_below hown hb1 (Nat.le_refl _)
      have s1 := B1.size
      clear hown
      go_wp2_with (at_builtin; refine wpList_append_own _ rfl _ _ 124 rfl w.heap.size 104 i0 (p6v 0 0 0 0 0 0) 6 48 Tryd.underlying124 hi hz0 hz1 hz2 rfl (by decide) _ _ _ rfl (o1.alloc _) ⟨w1.heap.size, 0, none⟩ 1 1 ([nth fs (k * 6), nth fs (k * 6 + 1), nth fs (k * 6 + 2), nth fs (k * 6 + 3), nth fs (k * 6 + 4), nth fs (k * 6 + 5)].map (Value.int .i64)) rfl rfl (World.news_of_block (cs := #[.int .i64 (nth fs (k * 6)), .int .i64 (nth fs (k * 6 + 1)), .int .i64 (nth fs (k * 6 + 2)), .int .i64 (nth fs (k * 6 + 3)), .int .i64 (nth fs (k * 6 + 4)), .int .i64 (nth fs (k * 6 + 5))]) (t := 104) (fr := (0, 0)) (heap_alloc_new w1 _)) (ints_one _) (by unfold maxLen; omega) (by omega) (by simp; omega) ?_; intro v' w2 hown1 hgrow1 _)
      have HB1 := (B1.alloc s1 (.cells #[.int .i64 (nth fs (k * 6)), .int .i64 (nth fs (k * 6 + 1)), .int .i64 (nth fs (k * 6 + 2)), .int .i64 (nth fs (k * 6 + 3)), .int .i64 (nth fs (k * 6 + 4)), .int .i64 (nth fs (k * 6 + 5))] 104)).grown hgrow1 (by simp; omega) (fun k hk => (own_row o1 k hk).1)
      clear hgrow1
      go_wp2_with fail
      go_roundw
      case rel =>
        refine ⟨k + 1, by omega, by go_num, ?_, HB1⟩
        rw [← HS.out, List.map_append]
        exact hown1
      case measure => simp [intOf]; omega
    · go_wp2_with fail
      go_ret
      obtain rfl : k = n := by omega
      rw [← H6.out, List.take_length] at hown
      exact ⟨_, rfl, hown, hbel⟩
end Pol
end Go.Proofs.YtafbdnjabgfjeaaDoor
end
section
namespace Go.Proofs.YtafbdnjabgfjeaaDoor
open Go Go.RowKit OriM
namespace Pol
variable {β : Bool}

theorem smd_at {a b k c d l a' b' k' c' d' l' : Int} (hx : vP a b k c d l = true) (hy : vP a' b' k' c' d' l' = true) : ∃ z0 z1 z2 z3 z4 z5 : Int,
    (∀ w, LT β w → Calls Tryd.prog 73 #[pt a' b' k' c' d' l', pt a b k c d l] w (RetB (pt z0 z1 z2 z3 z4 z5) w)) ∧
    (∀ w, LT β w → Calls Tryd.prog 72 #[pt z0 z1 z2 z3 z4 z5] w (RetB (.int .i64 (dirOf ((gP a' b' k' c' d' l').sub (gP a b k c d l)))) w)) := by
  obtain ⟨b1, m1⟩ := valid_bp hx
  obtain ⟨b2, m2⟩ := valid_bp hy
  have hD : Bd 17179869184 ((gP a' b' k' c' d' l').sub (gP a b k c d l)) := by unfold Bd P4.sub at *; simp only; omega
  have hM : M64 ((gP a' b' k' c' d' l').sub (gP a b k c d l)) := by unfold M64 P4.sub at *; simp only; omega
  have SM := fun w (hT : LT β w) => sMinus_g (bd_mono b2 (by decide)) (bd_mono b1 (by decide)) w hT
  have SD := fun w (hT : LT β w) => sDir_g hD hM w hT
  rw [← valid_gp hx] at SM
  rw [← valid_gp hy] at SM
  exact ⟨_, _, _, _, _, _, SM, SD⟩

/-- The directions, and whether each side has one. -/
def RetSd (n : Nat) (fs : List Int) (w : World) (e : Ending) (w' : World) : Prop := ∃ (v : Value) (r : Bool), e = .returned (.tuple #[v, .bool r]) ∧ (r = true ↔ ∀ k, k < n → 0 ≤ dAt n fs k) ∧ (r = true → OwnI w' w.heap.size v (tab (dAt n fs) n)) ∧ Below w.heap.size w w'

set_option maxHeartbeats 8000000 in
set_option maxRecDepth 100000 in
theorem sides_any (v : Value) (n : Nat) (fs : List Int) (w : World) (h : SlF w w.heap.size v n fs) (hv : ∀ k, k < n → vAt fs k = true) (hn : 0 < n) (hT : LT β w) (hl : n ≤ 1048576) :
    Calls Tryd.prog 96 #[v] w (RetSd n fs w) := by
  obtain ⟨h6, A, c, rfl, hc, hcell⟩ := h
  obtain ⟨b, o, rfl, hb, hcs⟩ := hcell hn
  have HC := Lib.hid hcs
  have H6 := Lib.hid h6
  have HV := Lib.hid hv
  have HW := Lib.hid (World.ownsRow_lit (base := w.heap.size) (e := 2) (size := 1) w #[] 0 (Nat.le_refl _) (by decide) rfl)
  have HB := Lib.hid ((Below.refl w.heap.size w).alloc (Nat.le_refl _) (.cells #[] 2))
  clear hcs hcell h6 hv
  obtain ⟨i0, hi, hz0, hz1, hz2⟩ := info_parts infoI64
  go_enter Tryd.func96, Tryd.ntmps96
  go_wp2_with fail
  go_loopw [4, 5] (fun q i wr => ∃ k : Nat, k ≤ n ∧ i = .int .i64 k ∧ OwnN wr w.heap.size q k (tab (dAt n fs) k) ∧ Hid (∀ j, j < k → 0 ≤ dAt n fs j) ∧ Below w.heap.size w wr) (fun _ i _ => n - (intOf i).toNat)
  case atStart => exact ⟨0, Nat.zero_le _, rfl, HW.out, Lib.hid (fun j hj => absurd hj (by omega)), HB.out⟩
  case round =>
    obtain ⟨k, hk, rfl, hown, hall, hbel⟩ := hrel
    have hsz := hbel.size
    have hbw : b < wr.heap.size := by omega
    by_cases hlt : k < n
    · obtain ⟨j, hj⟩ : ∃ j, (k + 1) % n = j := ⟨_, rfl⟩
      have hjn : j < n := by rw [← hj]; exact Nat.mod_lt _ hn
      have HD : Hid (dirOf ((gP (nth fs (j * 6)) (nth fs (j * 6 + 1)) (nth fs (j * 6 + 2)) (nth fs (j * 6 + 3)) (nth fs (j * 6 + 4)) (nth fs (j * 6 + 5))).sub (gP (nth fs (k * 6)) (nth fs (k * 6 + 1)) (nth fs (k * 6 + 2)) (nth fs (k * 6 + 3)) (nth fs (k * 6 + 4)) (nth fs (k * 6 + 5)))) = dAt n fs k) := Lib.hid (by rw [← hj]; rfl)
      obtain ⟨z0, z1, z2, z3, z4, z5, hF1, hF2⟩ := smd_at (β := β) (HV.out k hlt) (HV.out j hjn)
      rw [HD.out] at hF2
      have HF1 := Lib.hid hF1
      have hdr := dAt_range n fs k
      have HTB := Lib.hid (tab_succ (dAt n fs) k)
      obtain ⟨D, hD⟩ : ∃ D, dAt n fs k = D := ⟨_, rfl⟩
      rw [hD] at hF2 hdr HTB
      have HE := Lib.hid hD
      have HF2 := Lib.hid hF2
      obtain ⟨a0, a1, a2, a3, a4, a5⟩ := six (HC.out.below hbel hb) H6.out hlt
      obtain ⟨d0, d1, d2, d3, d4, d5⟩ := six (HC.out.below hbel hb) H6.out hjn
      have e1 : IntKind.i64.wrap ((k : Int) + 1) = (k : Int) + 1 := wrap_in (by omega) (by omega)
      have e5 : Int.tmod ((k : Int) + 1) (n : Int) = (j : Int) := by rw [Int.tmod_eq_emod_of_nonneg (by omega), ← hj]; push_cast; rfl
      have e6 : IntKind.i64.wrap (j : Int) = (j : Int) := wrap_in (by omega) (by omega)
      have e7 : ¬ (n : Int) = 0 := by omega
      have e8 : ((n : Int) == 0) = false := by simp; omega
      have e9 : ¬ n = 0 := by omega
      have j0 : (0 : Int) ≤ (k : Int) := by omega
      have j1 : (k : Int) < (n : Int) := by omega
      have j2 : (0 : Int) ≤ (j : Int) := by omega
      have j3 : (j : Int) < (n : Int) := by omega
      clear hF1 hF2 HD hD hj
      go_wp2_with fail
      go_region_held3 (fun w' => w'.cell? ⟨b, o + j * 6, none⟩ = some (.int .i64 (nth fs (j * 6))) ∧ w'.cell? ⟨b, o + j * 6 + 1, none⟩ = some (.int .i64 (nth fs (j * 6 + 1))) ∧ w'.cell? ⟨b, o + j * 6 + 2, none⟩ = some (.int .i64 (nth fs (j * 6 + 2))) ∧ w'.cell? ⟨b, o + j * 6 + 3, none⟩ = some (.int .i64 (nth fs (j * 6 + 3))) ∧ w'.cell? ⟨b, o + j * 6 + 4, none⟩ = some (.int .i64 (nth fs (j * 6 + 4))) ∧ w'.cell? ⟨b, o + j * 6 + 5, none⟩ = some (.int .i64 (nth fs (j * 6 + 5))) ∧ w'.cell? ⟨b, o + k * 6, none⟩ = some (.int .i64 (nth fs (k * 6))) ∧ w'.cell? ⟨b, o + k * 6 + 1, none⟩ = some (.int .i64 (nth fs (k * 6 + 1))) ∧ w'.cell? ⟨b, o + k * 6 + 2, none⟩ = some (.int .i64 (nth fs (k * 6 + 2))) ∧ w'.cell? ⟨b, o + k * 6 + 3, none⟩ = some (.int .i64 (nth fs (k * 6 + 3))) ∧ w'.cell? ⟨b, o + k * 6 + 4, none⟩ = some (.int .i64 (nth fs (k * 6 + 4))) ∧ w'.cell? ⟨b, o + k * 6 + 5, none⟩ = some (.int .i64 (nth fs (k * 6 + 5)))) ((first | (go_simp; done) | (simp [*]; done)))
        ((first
        | (go_at_call 73; refine (HF1.out _ ?_).mono ?_; exact LT.below (w := w) hT (by (repeat (first | with_reducible exact Below.refl _ _ | with_reducible assumption | with_reducible refine below_drewN ?_ _ | with_reducible refine Below.drew ?_ | with_reducible refine Below.alloc ?_ (by first | omega | (simp; done) | (simp; omega)) _ | with_reducible refine Below.setCell ?_ (by first | omega | (simp; done) | (simp; omega)) _ | with_reducible refine Below.trans ?_ (Below.mono (by assumption) (by first | omega | (simp; done) | (simp; omega)))))) (Nat.le_refl _); rintro e w5 ⟨rfl, hb5⟩; (try replace hb5 := Below.undrew hb5); obtain ⟨hc5, hf5⟩ := bcell hb5; have hz5 := hb5.size; (try simp at hz5); have z5a : b < w5.heap.size := (by omega))
        | (go_at_call 72; refine (HF2.out _ ?_).mono ?_; exact LT.below (w := w) hT (by (repeat (first | with_reducible exact Below.refl _ _ | with_reducible assumption | with_reducible refine below_drewN ?_ _ | with_reducible refine Below.drew ?_ | with_reducible refine Below.alloc ?_ (by first | omega | (simp; done) | (simp; omega)) _ | with_reducible refine Below.setCell ?_ (by first | omega | (simp; done) | (simp; omega)) _ | with_reducible refine Below.trans ?_ (Below.mono (by assumption) (by first | omega | (simp; done) | (simp; omega)))))) (Nat.le_refl _); rintro e w6 ⟨rfl, hb6⟩; (try replace hb6 := Below.undrew hb6); obtain ⟨hc6, hf6⟩ := bcell hb6; have hz6 := hb6.size; (try simp at hz6); have z6a : b < w6.heap.size := (by omega))))
      all_goals
        have hw : Below wr.heap.size wr w6 := by (repeat (first | with_reducible exact Below.refl _ _ | with_reducible assumption | with_reducible refine below_drewN ?_ _ | with_reducible refine Below.drew ?_ | with_reducible refine Below.alloc ?_ (by first | omega | (simp; done) | (simp; omega)) _ | with_reducible refine Below.setCell ?_ (by first | omega | (simp; done) | (simp; omega)) _ | with_reducible refine Below.trans ?_ (Below.mono (by assumption) (by first | omega | (simp; done) | (simp; omega)))))
        have B6 := hbel.trans (hw.mono hsz)
        have o6 := own_below hown hw (Nat.le_refl _)
        have s6 := B6.size
        clear hown a0 a1 a2 a3 a4 a5 d0 d1 d2 d3 d4 d5
        by_cases hneg : D < 0
        · go_wp2_with fail
          go_ret2
          exact ⟨_, false, rfl, iff_of_false (by simp) (fun h => by have := h k hlt; rw [HE.out] at this; omega), (fun h => by cases h), B6⟩
        · go_wp2_with (at_builtin; refine wpList_append_own _ rfl _ _ 126 rfl w.heap.size 2 i0 (.int .i64 0) 1 8 Tryd.underlying126 hi hz0 hz1 hz2 rfl (by decide) _ _ _ rfl (o6.alloc _) ⟨w6.heap.size, 0, none⟩ 1 1 [.int .i64 D] rfl rfl (cell_one_new _ _ _) (by simp [Value.oneCell']) (by unfold maxLen; omega) (by omega) (by simp; omega) ?_; intro v' w1 hown1 hgrow1 _)
          have HB1 := (B6.alloc s6 (.cells #[.int .i64 D] 2)).grown hgrow1 (by simp; omega) (fun k hk => (own_row o6 k hk).1)
          clear hgrow1
          go_wp2_with fail
          go_roundw
          case rel =>
            refine ⟨k + 1, by omega, by go_num, ?_, Lib.hid (fun j hj => by
              rcases Nat.lt_or_ge j k with h | h
              · exact hall.out j h
              · obtain rfl : j = k := by omega
                rw [HE.out]; omega), HB1⟩
            unfold OwnN
            rw [HTB.out, List.map_append]
            exact hown1
          case measure => simp [intOf]; omega
    · obtain rfl : k = n := by omega
      go_wp2_with fail
      go_ret2
      refine ⟨_, true, rfl, iff_of_true rfl hall.out, fun _ => ?_, hbel⟩
      unfold OwnI
      rw [tab_len]
      exact hown
end Pol
end Go.Proofs.YtafbdnjabgfjeaaDoor
end
