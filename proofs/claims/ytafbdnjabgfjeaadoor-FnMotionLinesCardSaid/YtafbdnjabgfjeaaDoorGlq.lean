/- Searches of a direction: the model's sixteen rounds, the program's eight; two vectors compared. -/
import Derived.Test.YtafbdnjabgfjeaaDoorGs
import Derived.Deep.LoopGhost
import Derived.DeepKeys
namespace Go.Proofs.YtafbdnjabgfjeaaDoor
open Go Go.RowKit OriM
variable {β : Bool}
theorem sZero_true (k : Int) (w : World) : Calls Tryd.prog 128 #[num 0 0 k] w (RetB (.bool true) w) := by
  go_enter Tryd.func128, Tryd.ntmps128
  go_wp2
  go_ret
  exact ⟨rfl, by (repeat (first | with_reducible exact Below.refl _ _ | with_reducible assumption | with_reducible refine below_drewN ?_ _ | with_reducible refine Below.drew ?_ | with_reducible refine Below.alloc ?_ (by first | omega | (simp; done) | (simp; omega)) _ | with_reducible refine Below.setCell ?_ (by first | omega | (simp; done) | (simp; omega)) _ | with_reducible refine Below.trans ?_ (Below.mono (by assumption) (by first | omega | (simp; done) | (simp; omega)))))⟩
theorem sZero_false {a b : Int} (k : Int) (h : ¬ (a = 0 ∧ b = 0)) (w : World) : Calls Tryd.prog 128 #[num a b k] w (RetB (.bool false) w) := by
  by_cases ha : a = 0
  · subst ha
    have hb : (b == 0) = false := by rw [beq_eq_false_iff_ne]; exact fun e => h ⟨rfl, e⟩
    clear h
    go_enter Tryd.func128, Tryd.ntmps128
    go_wp2
    go_ret
    exact ⟨rfl, by (repeat (first | with_reducible exact Below.refl _ _ | with_reducible assumption | with_reducible refine below_drewN ?_ _ | with_reducible refine Below.drew ?_ | with_reducible refine Below.alloc ?_ (by first | omega | (simp; done) | (simp; omega)) _ | with_reducible refine Below.setCell ?_ (by first | omega | (simp; done) | (simp; omega)) _ | with_reducible refine Below.trans ?_ (Below.mono (by assumption) (by first | omega | (simp; done) | (simp; omega)))))⟩
  · have ha' : (a == 0) = false := by rw [beq_eq_false_iff_ne]; exact ha
    clear h ha
    go_enter Tryd.func128, Tryd.ntmps128
    go_wp2
    go_ret
    exact ⟨rfl, by (repeat (first | with_reducible exact Below.refl _ _ | with_reducible assumption | with_reducible refine below_drewN ?_ _ | with_reducible refine Below.drew ?_ | with_reducible refine Below.alloc ?_ (by first | omega | (simp; done) | (simp; omega)) _ | with_reducible refine Below.setCell ?_ (by first | omega | (simp; done) | (simp; omega)) _ | with_reducible refine Below.trans ?_ (Below.mono (by assumption) (by first | omega | (simp; done) | (simp; omega)))))⟩

/-- The first direction from d on that fits, of n. -/
def find16 (zz : Nat → Bool) (pp : Nat → Bool) : Nat → Nat → Int
  | 0, _ => -1
  | n + 1, d => if zz (d + 4) && pp d then (d : Int) else find16 zz pp n (d + 1)

def DirRel (w : World) (a b k c d l : Int) (zz pp : Nat → Bool) (gk : Nat) (s3 : Value) (W : World) : Prop := ∃ j : Nat, s3 = .int .i64 (j : Int) ∧ j + gk = 16 ∧ find16 zz pp 16 0 = find16 zz pp gk j ∧
  W.cell? ⟨w.heap.size, 0, none⟩ = some (.int .i64 a) ∧ W.cell? ⟨w.heap.size, 1, none⟩ = some (.int .i64 b) ∧ W.cell? ⟨w.heap.size, 2, none⟩ = some (.int .i64 k) ∧ W.cell? ⟨w.heap.size, 3, none⟩ = some (.int .i64 c) ∧ W.cell? ⟨w.heap.size, 4, none⟩ = some (.int .i64 d) ∧ W.cell? ⟨w.heap.size, 5, none⟩ = some (.int .i64 l) ∧
  w.heap.size < W.heap.size ∧ Below w.heap.size w W

set_option maxHeartbeats 4000000 in
set_option maxRecDepth 100000 in
theorem sDir_core (a b k c d l : Int) (zz pp : Nat → Bool) (fa fb fk sg : Nat → Int) (w : World) (hT : LT β w)
    (HD : Hid (∀ j : Nat, j < 20 → ∀ w, LT β w → Calls Tryd.prog 127 #[.int .i64 (j : Int), pt a b k c d l] w (RetB (num (fa j) (fb j) (fk j)) w)))
    (HZ : Hid (∀ j : Nat, j < 20 → ∀ w, Calls Tryd.prog 128 #[num (fa j) (fb j) (fk j)] w (RetB (.bool (zz j)) w)))
    (HS : Hid (∀ j : Nat, j < 16 → ∀ w, Calls Tryd.prog 125 #[num (fa j) (fb j) (fk j)] w (RetB (.int .i64 (sg j)) w))) (HP : Hid (∀ j, pp j = decide (0 < sg j))) :
    Calls Tryd.prog 72 #[pt a b k c d l] w (RetB (.int .i64 (find16 zz pp 16 0)) w) := by
  have hT' := Lib.hid hT
  obtain ⟨R, hR⟩ : ∃ R, R = find16 zz pp 16 0 := ⟨_, rfl⟩
  rw [← hR]
  have HR := Lib.hid hR
  clear hR hT
  go_enter Tryd.func72, Tryd.ntmps72
  go_wp2_with fail
  go_loopg [3] 16 (DirRel w a b k c d l zz pp)
  case atStart => exact ⟨0, rfl, rfl, rfl, by simp [go_sem], by simp [go_sem], by simp [go_sem], by simp [go_sem], by simp [go_sem], by simp [go_sem], by simp, by (repeat (first | with_reducible exact Below.refl _ _ | with_reducible assumption | with_reducible refine below_drewN ?_ _ | with_reducible refine Below.drew ?_ | with_reducible refine Below.alloc ?_ (by first | omega | (simp; done) | (simp; omega)) _ | with_reducible refine Below.setCell ?_ (by first | omega | (simp; done) | (simp; omega)) _ | with_reducible refine Below.trans ?_ (Below.mono (by assumption) (by first | omega | (simp; done) | (simp; omega)))))⟩
  case round =>
    obtain ⟨j, rfl, hj, hf, c0, c1, c2, c3, c4, c5, hz, hB⟩ := hrel
    have HF := Lib.hid hf
    have HB := Lib.hid hB
    clear hf hB
    by_cases hg : gk = 0
    · have hj16 : j = 16 := by omega
      have e : R = -1 := by rw [HR.out, HF.out, hg]; rfl
      have HE := Lib.hid e
      clear e
      subst hj16
      clear hg hj
      go_wp2_with fail
      go_ret
      exact ⟨by rw [HE.out]; rfl, HB.out⟩
    · obtain ⟨m, rfl⟩ : ∃ m, gk = m + 1 := ⟨gk - 1, by omega⟩
      have hj16 : (j : Int) < 16 := by omega
      have hjn : j < 16 := by omega
      have D1 := Lib.hid (fun w => HD.out (j + 4) (by omega) w)
      have Z1 := Lib.hid (HZ.out (j + 4) (by omega))
      have D2 := Lib.hid (fun w => HD.out j (by omega) w)
      have S2 := Lib.hid (HS.out j hjn)
      rw [show ((j + 4 : Nat) : Int) = (j : Int) + 4 by omega] at D1
      have step : R = if zz (j + 4) && pp j then (j : Int) else find16 zz pp m (j + 1) := by rw [HR.out, HF.out]; rfl
      have ST := Lib.hid step
      have PJ := Lib.hid (HP.out j)
      clear step
      clear hg
      generalize fa (j + 4) = A at *
      generalize fb (j + 4) = B at *
      generalize fk (j + 4) = K at *
      generalize fa j = A' at *
      generalize fb j = B' at *
      generalize fk j = K' at *
      by_cases hzz : zz (j + 4) = true
      · rw [hzz] at Z1
        by_cases hs : 0 < sg j
        · have HE := Lib.hid (show R = (j : Int) by rw [ST.out, hzz, PJ.out, decide_eq_true hs]; rfl)
          clear hzz
          generalize sg j = sj at *
          go_wp2_with fail
          refine (D1.out _ ?_).mono ?_
          · exact LT.below (w := w) hT'.out (by have hB := HB.out; (repeat (first | with_reducible exact Below.refl _ _ | with_reducible assumption | with_reducible refine below_drewN ?_ _ | with_reducible refine Below.drew ?_ | with_reducible refine Below.alloc ?_ (by first | omega | (simp; done) | (simp; omega)) _ | with_reducible refine Below.setCell ?_ (by first | omega | (simp; done) | (simp; omega)) _ | with_reducible refine Below.trans ?_ (Below.mono (by assumption) (by first | omega | (simp; done) | (simp; omega)))))) (Nat.le_refl _)
          rintro e w1 ⟨rfl, hb1⟩; obtain ⟨hc1, hf1⟩ := bcell hb1; have hz1 := hb1.size; have z1 : w.heap.size < w1.heap.size := (by omega)
          go_wp2_with fail
          refine (Z1.out _).mono ?_
          rintro e w2 ⟨rfl, hb2⟩; obtain ⟨hc2, hf2⟩ := bcell hb2; have hz2 := hb2.size; have z2 : w.heap.size < w2.heap.size := (by omega)
          go_wp2_with fail
          refine (D2.out _ ?_).mono ?_
          · exact LT.below (w := w) hT'.out (by have hB := HB.out; (repeat (first | with_reducible exact Below.refl _ _ | with_reducible assumption | with_reducible refine below_drewN ?_ _ | with_reducible refine Below.drew ?_ | with_reducible refine Below.alloc ?_ (by first | omega | (simp; done) | (simp; omega)) _ | with_reducible refine Below.setCell ?_ (by first | omega | (simp; done) | (simp; omega)) _ | with_reducible refine Below.trans ?_ (Below.mono (by assumption) (by first | omega | (simp; done) | (simp; omega)))))) (Nat.le_refl _)
          rintro e w3 ⟨rfl, hb3⟩; obtain ⟨hc3, hf3⟩ := bcell hb3; have hz3 := hb3.size; have z3 : w.heap.size < w3.heap.size := (by omega)
          go_wp2_with fail
          refine (S2.out _).mono ?_
          rintro e w4 ⟨rfl, hb4⟩; obtain ⟨hc4, hf4⟩ := bcell hb4; have hz4 := hb4.size; have z4 : w.heap.size < w4.heap.size := (by omega)
          go_wp2_with fail
          go_ret
          exact ⟨by rw [HE.out]; rfl, by have hB := HB.out; (repeat (first | with_reducible exact Below.refl _ _ | with_reducible assumption | with_reducible refine below_drewN ?_ _ | with_reducible refine Below.drew ?_ | with_reducible refine Below.alloc ?_ (by first | omega | (simp; done) | (simp; omega)) _ | with_reducible refine Below.setCell ?_ (by first | omega | (simp; done) | (simp; omega)) _ | with_reducible refine Below.trans ?_ (Below.mono (by assumption) (by first | omega | (simp; done) | (simp; omega)))))⟩
        · have HE := Lib.hid (show R = find16 zz pp m (j + 1) by rw [ST.out, hzz, PJ.out, decide_eq_false hs]; rfl)
          clear hzz
          generalize sg j = sj at *
          go_wp2_with fail
          refine (D1.out _ ?_).mono ?_
          · exact LT.below (w := w) hT'.out (by have hB := HB.out; (repeat (first | with_reducible exact Below.refl _ _ | with_reducible assumption | with_reducible refine below_drewN ?_ _ | with_reducible refine Below.drew ?_ | with_reducible refine Below.alloc ?_ (by first | omega | (simp; done) | (simp; omega)) _ | with_reducible refine Below.setCell ?_ (by first | omega | (simp; done) | (simp; omega)) _ | with_reducible refine Below.trans ?_ (Below.mono (by assumption) (by first | omega | (simp; done) | (simp; omega)))))) (Nat.le_refl _)
          rintro e w1 ⟨rfl, hb1⟩; obtain ⟨hc1, hf1⟩ := bcell hb1; have hz1 := hb1.size; have z1 : w.heap.size < w1.heap.size := (by omega)
          go_wp2_with fail
          refine (Z1.out _).mono ?_
          rintro e w2 ⟨rfl, hb2⟩; obtain ⟨hc2, hf2⟩ := bcell hb2; have hz2 := hb2.size; have z2 : w.heap.size < w2.heap.size := (by omega)
          go_wp2_with fail
          refine (D2.out _ ?_).mono ?_
          · exact LT.below (w := w) hT'.out (by have hB := HB.out; (repeat (first | with_reducible exact Below.refl _ _ | with_reducible assumption | with_reducible refine below_drewN ?_ _ | with_reducible refine Below.drew ?_ | with_reducible refine Below.alloc ?_ (by first | omega | (simp; done) | (simp; omega)) _ | with_reducible refine Below.setCell ?_ (by first | omega | (simp; done) | (simp; omega)) _ | with_reducible refine Below.trans ?_ (Below.mono (by assumption) (by first | omega | (simp; done) | (simp; omega)))))) (Nat.le_refl _)
          rintro e w3 ⟨rfl, hb3⟩; obtain ⟨hc3, hf3⟩ := bcell hb3; have hz3 := hb3.size; have z3 : w.heap.size < w3.heap.size := (by omega)
          go_wp2_with fail
          refine (S2.out _).mono ?_
          rintro e w4 ⟨rfl, hb4⟩; obtain ⟨hc4, hf4⟩ := bcell hb4; have hz4 := hb4.size; have z4 : w.heap.size < w4.heap.size := (by omega)
          go_wp2_with fail
          go_roundg m
          case measure => omega
          case rel => exact ⟨j + 1, by go_num, by omega, by rw [← HR.out, HE.out], by simp [go_sem, *], by simp [go_sem, *], by simp [go_sem, *], by simp [go_sem, *], by simp [go_sem, *], by simp [go_sem, *], by omega, by have hB := HB.out; (repeat (first | with_reducible exact Below.refl _ _ | with_reducible assumption | with_reducible refine below_drewN ?_ _ | with_reducible refine Below.drew ?_ | with_reducible refine Below.alloc ?_ (by first | omega | (simp; done) | (simp; omega)) _ | with_reducible refine Below.setCell ?_ (by first | omega | (simp; done) | (simp; omega)) _ | with_reducible refine Below.trans ?_ (Below.mono (by assumption) (by first | omega | (simp; done) | (simp; omega)))))⟩
      · have hzf := Bool.eq_false_iff.2 hzz
        rw [hzf] at Z1
        have HE := Lib.hid (show R = find16 zz pp m (j + 1) by rw [ST.out, hzf]; rfl)
        clear hzz hzf D2 S2
        go_wp2_with fail
        refine (D1.out _ ?_).mono ?_
        · exact LT.below (w := w) hT'.out (by have hB := HB.out; (repeat (first | with_reducible exact Below.refl _ _ | with_reducible assumption | with_reducible refine below_drewN ?_ _ | with_reducible refine Below.drew ?_ | with_reducible refine Below.alloc ?_ (by first | omega | (simp; done) | (simp; omega)) _ | with_reducible refine Below.setCell ?_ (by first | omega | (simp; done) | (simp; omega)) _ | with_reducible refine Below.trans ?_ (Below.mono (by assumption) (by first | omega | (simp; done) | (simp; omega)))))) (Nat.le_refl _)
        rintro e w1 ⟨rfl, hb1⟩; obtain ⟨hc1, hf1⟩ := bcell hb1; have hz1 := hb1.size; have z1 : w.heap.size < w1.heap.size := (by omega)
        go_wp2_with fail
        refine (Z1.out _).mono ?_
        rintro e w2 ⟨rfl, hb2⟩; obtain ⟨hc2, hf2⟩ := bcell hb2; have hz2 := hb2.size; have z2 : w.heap.size < w2.heap.size := (by omega)
        go_wp2_with fail
        go_roundg m
        case measure => omega
        case rel => exact ⟨j + 1, by go_num, by omega, by rw [← HR.out, HE.out], by simp [go_sem, *], by simp [go_sem, *], by simp [go_sem, *], by simp [go_sem, *], by simp [go_sem, *], by simp [go_sem, *], by omega, by have hB := HB.out; (repeat (first | with_reducible exact Below.refl _ _ | with_reducible assumption | with_reducible refine below_drewN ?_ _ | with_reducible refine Below.drew ?_ | with_reducible refine Below.alloc ?_ (by first | omega | (simp; done) | (simp; omega)) _ | with_reducible refine Below.setCell ?_ (by first | omega | (simp; done) | (simp; omega)) _ | with_reducible refine Below.trans ?_ (Below.mono (by assumption) (by first | omega | (simp; done) | (simp; omega)))))⟩

end Go.Proofs.YtafbdnjabgfjeaaDoor
