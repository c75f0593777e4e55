/- Rotated lists of integers: by the program (slices.Grow, slices.Concat of two parts, rotatedTo). -/
import Derived.Test.YtnhobilmgefhnaaQe
import Derived.Test.YtnhobilmgefhnaaVa
import Derived.Deep.RegionHeld3
import Derived.Lib.AppendZeros
import Derived.IntWalk
namespace Go.Proofs.Ytnhobilmgefhnaa
open Go Go.RowKit

/-- The list that begins with element k. -/
def rot (xs : List Int) (k : Nat) : List Int := xs.drop k ++ xs.take k
theorem rot_len (xs : List Int) {k : Nat} (h : k ≤ xs.length) : (rot xs k).length = xs.length := by simp [rot]; omega
theorem cells_drop {w : World} {b o : Nat} {xs : List Int} (h : Cells w b o xs) (k : Nat) : Cells w b (o + k) (xs.drop k) := fun j hj => by
  rw [List.length_drop] at hj
  have := h (k + j) (by omega)
  rw [Nat.add_assoc, this, nth_of (by omega), nth_of (by rw [List.length_drop]; omega), List.getElem_drop]
theorem cells_take {w : World} {b o : Nat} {xs : List Int} (h : Cells w b o xs) (k : Nat) : Cells w b o (xs.take k) := fun j hj => by
  rw [List.length_take] at hj
  have := h j (by omega)
  rw [this, nth_of (by omega), nth_of (by rw [List.length_take]; omega), List.getElem_take]
theorem cells_below {w w' : World} {b o B : Nat} {fs : List Int} (h : Cells w b o fs) (hb : Below B w w') (hB : b < B) : Cells w' b o fs := fun k hk => (hb.cell (p := ⟨b, o + k, none⟩) hB).trans (h k hk)

set_option maxHeartbeats 2000000 in
theorem growI_any (m : Nat) (h0 : 0 < m) (hm : m ≤ 1048576) (w : World) :
    Calls Try.prog 83 #[.slice none 0 0, .int .i64 (m : Int)] w fun e w' => ∃ v, e = .returned v ∧ w'.ownsRow w.heap.size 2 1 v 0 [] ∧ Below w.heap.size w w' := by
  obtain ⟨i0, hi, hz0, hz1, hz2⟩ := info_parts infoI64
  have hcap0 := grownCap_ge w m 0 2
  have hcap1 := grownCap_le_maxLen w m 0 2 (by unfold maxLen; omega)
  have HR := fun ty => Lib.run_append_nil_zeros (P := Try.prog) w 24 3 ty 2 i0 (.int .i64 0) .i64 .i64 Try.underlying24 Try.underlying3 hi hz0 m h0 (by rw [hz1]; omega) (by omega) (by rw [hz2]; omega)
  have ej : IntKind.i64.wrap (m : Int) = m := IntWalk.i64_in _ (by omega)
  have ej0 : ¬ (m : Int) < 0 := by omega
  have ej1 : (0 : Int) < (m : Int) := by omega
  obtain ⟨cap, hcap⟩ : ∃ cap, grownCap w m 0 2 = cap := ⟨_, rfl⟩
  rw [hcap] at HR hcap0 hcap1
  clear hcap
  go_enter Try.func83, Try.ntmps83
  go_wp2_with (at_builtin; refine Lib.wpList_append_run _ rfl _ _ _ _ rfl _ _ rfl rfl _ _ (HR _) ?_)
  go_ret
  refine ⟨_, rfl, ⟨rfl, .inr ⟨w.heap.size, cap, _, rfl, Nat.le_refl _, heap_alloc_new w.drew _, Nat.zero_le _, hcap1, ?_, rfl⟩⟩, (((Below.refl _ w).drew).alloc (Nat.le_refl _) _)⟩
  simp only [Array.size_append, size_zeroCells, ← Nat.add_mul]
  have : (#[Value.int IntKind.i64 0] : Array Value).size = 1 := rfl
  rw [this]; omega

/-- The sizes added up; the lists joined. -/
def sz2I (n1 n2 : Nat) : Nat → Int
  | 0 => 0
  | 1 => n1
  | _ => (n1 : Int) + (n2 : Int)
def va2I (f1 f2 : List Int) : Nat → List Int
  | 0 => []
  | 1 => f1
  | _ => f1 ++ f2
set_option maxHeartbeats 8000000 in
set_option maxRecDepth 100000 in
theorem concatI_any (B b o1 o2 n1 n2 c1 c2 : Nat) (f1 f2 : List Int) (w : World) (hB : B < w.heap.size) (e0 : w.cell? ⟨B, 0, none⟩ = some (.slice (some ⟨b, o1, none⟩) n1 c1)) (e1 : w.cell? ⟨B, 1, none⟩ = some (.slice (some ⟨b, o2, none⟩) n2 c2))
    (hb : b < w.heap.size) (C1 : Cells w b o1 f1) (C2 : Cells w b o2 f2) (l1 : f1.length = n1) (l2 : f2.length = n2) (hp : 0 < n1 + n2) (hl : n1 + n2 ≤ 1048576) :
    Calls Try.prog 76 #[.slice (some ⟨B, 0, none⟩) 2 2] w (RetO (f1 ++ f2) w) := by
  obtain ⟨i0, hi, hz0, hz1, hz2⟩ := info_parts infoI64
  have K1 := Lib.hid C1
  have K2 := Lib.hid C2
  have L1 := Lib.hid l1
  have L2 := Lib.hid l2
  have HG := Lib.hid fun (w : World) => show Calls Try.prog 83 #[.slice none 0 0, .int .i64 ((n1 : Int) + (n2 : Int))] w _ from by have := growI_any (n1 + n2) hp hl w; rw [Int.natCast_add] at this; exact this
  have E0 := Lib.hid e0
  have E1 := Lib.hid e1
  clear C1 C2 l1 l2
  have s1 : IntKind.i64.wrap (0 + (n1 : Int)) = (n1 : Int) := by rw [Int.zero_add]; exact IntWalk.i64_in _ (by omega)
  have s1' : IntKind.i64.wrap (n1 : Int) = (n1 : Int) := IntWalk.i64_in _ (by omega)
  have s2 : IntKind.i64.wrap ((n1 : Int) + (n2 : Int)) = (n1 : Int) + (n2 : Int) := IntWalk.i64_in _ (by omega)
  have s3 : ¬ (n1 : Int) < 0 := by omega
  have s4 : ¬ (n1 : Int) + (n2 : Int) < 0 := by omega
  go_enter Try.func76, Try.ntmps76
  go_wp2_with fail
  go_loopw [3, 11] (fun q i wr => ∃ k : Nat, k ≤ 2 ∧ i = .int .i64 k ∧ q = .int .i64 (sz2I n1 n2 k) ∧ wr = w) (fun _ i _ => 2 - (intOf i).toNat)
  case atStart => exact ⟨0, Nat.zero_le _, rfl, rfl, rfl⟩
  case round =>
    obtain ⟨k, hk, rfl, rfl, hw⟩ := hrel
    replace hw := hw.symm
    subst hw
    have z0 : sz2I n1 n2 0 = 0 := rfl
    have z1 : sz2I n1 n2 1 = (n1 : Int) := rfl
    have z2 : sz2I n1 n2 2 = (n1 : Int) + (n2 : Int) := rfl
    rcases (show k = 0 ∨ k = 1 ∨ k = 2 by omega) with rfl | rfl | rfl
    · go_wp2_with fail
      go_roundw
      case rel => exact ⟨1, by omega, by go_num, by rw [z1], by first | rfl | trivial⟩
      case measure => simp [intOf]
    · go_wp2_with fail
      go_roundw
      case rel => exact ⟨2, by omega, by go_num, by rw [z2], by first | rfl | trivial⟩
      case measure => simp [intOf]
    · rw [z2]
      clear z0 z1 z2
      go_wp2_with fail
      refine (HG.out _).mono ?_
      rintro e w1 ⟨v, rfl, o1', b1⟩
      go_wp2_with fail
      go_loopw [6, 27] (fun q i wr => ∃ k : Nat, k ≤ 2 ∧ i = .int .i64 k ∧ OwnI wr w.heap.size q (va2I f1 f2 k) ∧ Below w.heap.size w wr) (fun _ i _ => 2 - (intOf i).toNat)
      case atStart => exact ⟨0, Nat.zero_le _, rfl, o1', b1⟩
      case round =>
        obtain ⟨k, hk, rfl, hown, hbel⟩ := hrel
        clear o1' b1
        have hsz := hbel.size
        have y0 := (hbel.cell (p := ⟨B, 0, none⟩) hB).trans E0.out
        have y1 := (hbel.cell (p := ⟨B, 1, none⟩) hB).trans E1.out
        have hBx : B < wr.heap.size := by omega
        rcases (show k = 0 ∨ k = 1 ∨ k = 2 by omega) with rfl | rfl | rfl
        · have hown0 : wr.ownsRow w.heap.size 2 1 u6 0 [] := hown
          clear hown
          go_wp2_with (at_builtin; refine wpList_append_own _ rfl _ _ 24 rfl w.heap.size 2 i0 (.int .i64 0) 1 8 Try.underlying24 hi hz0 hz1 hz2 rfl (by decide) _ _ _ rfl hown0 ⟨b, o1, none⟩ n1 c1 (f1.map (Value.int .i64)) rfl (by rw [List.length_map, L1.out, Nat.mul_one]) (sl_news (cells_below K1.out hbel hb)) (ints_one f1) (by unfold maxLen; omega) (by omega) (by omega) ?_; intro v' w1 hown1 hgrow1 _)
          go_wp2_with fail
          go_roundw
          case rel =>
            refine ⟨1, by omega, by go_num, ?_, hbel.grown hgrow1 hsz (fun k hk => (own_row hown0 k hk).1)⟩
            show World.ownsRow _ _ _ _ _ f1.length (f1.map (Value.int .i64))
            rw [Nat.zero_add, List.nil_append] at hown1
            rw [L1.out]
            exact hown1
          case measure => simp [intOf]
        · have hown0 : wr.ownsRow w.heap.size 2 1 u6 n1 (f1.map (Value.int .i64)) := by
            have h : OwnI wr w.heap.size u6 f1 := hown
            unfold OwnI at h
            rw [L1.out] at h
            exact h
          clear hown
          go_wp2_with (at_builtin; refine wpList_append_own _ rfl _ _ 24 rfl w.heap.size 2 i0 (.int .i64 0) 1 8 Try.underlying24 hi hz0 hz1 hz2 rfl (by decide) _ _ _ rfl hown0 ⟨b, o2, none⟩ n2 c2 (f2.map (Value.int .i64)) rfl (by rw [List.length_map, L2.out, Nat.mul_one]) (sl_news (cells_below K2.out hbel hb)) (ints_one f2) (by unfold maxLen; omega) (by omega) (by omega) ?_; intro v' w1 hown1 hgrow1 _)
          go_wp2_with fail
          go_roundw
          case rel =>
            refine ⟨2, by omega, by go_num, ?_, hbel.grown hgrow1 hsz (fun k hk => (own_row hown0 k hk).1)⟩
            show World.ownsRow _ _ _ _ _ (f1 ++ f2).length ((f1 ++ f2).map (Value.int .i64))
            rw [List.map_append, List.length_append, L1.out, L2.out]
            exact hown1
          case measure => simp [intOf]
        · go_wp2_with fail
          go_ret
          exact ⟨_, rfl, hown, hbel⟩

set_option maxHeartbeats 4000000 in
/-- Element k first: by the program. -/
theorem iRt_any (b o c n k : Nat) (xs : List Int) (w : World) (hb : b < w.heap.size) (hcs : Cells w b o xs) (hn : xs.length = n) (hc : n ≤ c) (hk : k < n) (hl : n ≤ 1048576) :
    Calls Try.prog 59 #[.slice (some ⟨b, o, none⟩) n c, .int .i64 (k : Int)] w (RetO (rot xs k) w) := by
  have L1 : (xs.drop k).length = n - k := by rw [List.length_drop, hn]
  have L2 : (xs.take k).length = k := by rw [List.length_take, hn]; omega
  have HK := Lib.hid fun (B : Nat) (W : World) (hw : Below w.heap.size w W) (hB : B < W.heap.size) e0 e1 => concatI_any B b (o + k) o (n - k) k (c - k) c (xs.drop k) (xs.take k) W hB e0 e1 (Nat.lt_of_lt_of_le hb hw.size) (cells_below (cells_drop hcs k) hw hb) (cells_below (cells_take hcs k) hw hb) L1 L2 (by omega) (by omega)
  have j0 : (0 : Int) ≤ (k : Int) := by omega
  have j1 : (k : Int) ≤ (n : Int) := by omega
  have j2 : (k : Int) ≤ (c : Int) := by omega
  have j3 : (n : Int) ≤ (c : Int) := by omega
  have j4 : k ≤ n := by omega
  have j5 : k ≤ c := by omega
  have j6 : ¬ c = k := by omega
  clear L1 L2 hcs hn
  go_enter Try.func59, Try.ntmps59
  go_wp2_with fail
  go_region_held3 (fun _ => True) (trivial)
    ((go_at_call 76; refine (HK.out _ _ ?_ ?_ ?_ ?_).mono ?_; exact (by (repeat (first | with_reducible exact Below.refl _ _ | with_reducible assumption | with_reducible refine below_drewN ?_ _ | with_reducible refine Below.drew ?_ | with_reducible refine Below.alloc ?_ (by first | omega | (simp; done) | (simp; omega)) _ | with_reducible refine Below.setCell ?_ (by first | omega | (simp; done) | (simp; omega)) _ | with_reducible refine Below.trans ?_ (Below.mono (by assumption) (by first | omega | (simp; done) | (simp; omega)))))); exact (by simp); exact (by simp [go_sem]); exact (by simp [go_sem]); rintro e w5 ⟨v, rfl, o5, b5⟩))
  all_goals
    go_wp2_with fail
    go_ret
    exact ⟨v, rfl, own_base o5 (by simp), (show Below w.heap.size w _ from by (repeat (first | with_reducible exact Below.refl _ _ | with_reducible assumption | with_reducible refine below_drewN ?_ _ | with_reducible refine Below.drew ?_ | with_reducible refine Below.alloc ?_ (by first | omega | (simp; done) | (simp; omega)) _ | with_reducible refine Below.setCell ?_ (by first | omega | (simp; done) | (simp; omega)) _ | with_reducible refine Below.trans ?_ (Below.mono (by assumption) (by first | omega | (simp; done) | (simp; omega)))))).trans (b5.mono (by simp))⟩
end Go.Proofs.Ytnhobilmgefhnaa
