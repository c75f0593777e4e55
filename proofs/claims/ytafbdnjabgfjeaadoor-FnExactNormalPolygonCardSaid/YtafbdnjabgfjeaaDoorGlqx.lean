/- Searches of a direction: the model's sixteen rounds, the program's eight; two vectors compared. -/
import Derived.Test.YtafbdnjabgfjeaaDoorGsx
import Derived.Deep.LoopGhost
import Derived.DeepKeys
namespace Go.Proofs.YtafbdnjabgfjeaaDoor
open Go Go.RowKit OriM
variable {β : Bool}
theorem cellsVec : Tryd.prog.cellsOf 84 = 6 := by kernel_rfl
theorem cellsWide : Tryd.prog.cellsOf 82 = 3 := by kernel_rfl
theorem cellsNum2 : Tryd.prog.cellsOf 25 = 3 := by kernel_rfl
theorem cellsI642 : Tryd.prog.cellsOf 2 = 1 := by kernel_rfl
theorem knum {a b k : Int} (n : Nat) (h1 : (Lit.int .i64 a).wf = true) (h2 : (Lit.int .i64 b).wf = true) (h3 : (Lit.int .i64 k).wf = true) : Tryd.prog.keyLits (n + 2) 25 [.int .i64 a, .int .i64 b, .int .i64 k] = some [.int .i64 a, .int .i64 b, .int .i64 k] := by
  simp [Program.keyLits, Tryd.underlying25, Tryd.underlying2, cellsNum2, cellsI642, h1, h2, h3]
theorem kwide {a b k : Int} (n : Nat) (h1 : (Lit.int .i64 a).wf = true) (h2 : (Lit.int .i64 b).wf = true) (h3 : (Lit.int .i64 k).wf = true) : Tryd.prog.keyLits (n + 3) 82 [.int .i64 a, .int .i64 b, .int .i64 k] = some [.int .i64 a, .int .i64 b, .int .i64 k] := by
  unfold Program.keyLits
  simp only [Tryd.underlying82]
  simp [cellsWide, cellsNum2, knum n h1 h2 h3]
theorem kvec {a b k c d l : Int} (h1 : (Lit.int .i64 a).wf = true) (h2 : (Lit.int .i64 b).wf = true) (h3 : (Lit.int .i64 k).wf = true) (h4 : (Lit.int .i64 c).wf = true) (h5 : (Lit.int .i64 d).wf = true) (h6 : (Lit.int .i64 l).wf = true) :
    Tryd.prog.keyLits 4 84 [.int .i64 a, .int .i64 b, .int .i64 k, .int .i64 c, .int .i64 d, .int .i64 l] = some [.int .i64 a, .int .i64 b, .int .i64 k, .int .i64 c, .int .i64 d, .int .i64 l] := by
  unfold Program.keyLits
  simp only [Tryd.underlying84]
  simp [cellsVec, cellsWide, List.range_succ, kwide 0 h1 h2 h3, kwide 0 h4 h5 h6]
theorem ky : Tryd.prog.keyTypeAt 5 84 = true := by kernel_rfl
theorem kf (a b k c d l : Int) : (Value.agg #[.int .i64 a, .int .i64 b, .int .i64 k, .int .i64 c, .int .i64 d, .int .i64 l]).formed Tryd.prog 84 = true := by kernel_rfl
theorem veq_run {a b k c d l a' b' k' c' d' l' : Int} (h1 : (Lit.int .i64 a).wf = true) (h2 : (Lit.int .i64 b).wf = true) (h3 : (Lit.int .i64 k).wf = true) (h4 : (Lit.int .i64 c).wf = true) (h5 : (Lit.int .i64 d).wf = true) (h6 : (Lit.int .i64 l).wf = true)
    (g1 : (Lit.int .i64 a').wf = true) (g2 : (Lit.int .i64 b').wf = true) (g3 : (Lit.int .i64 k').wf = true) (g4 : (Lit.int .i64 c').wf = true) (g5 : (Lit.int .i64 d').wf = true) (g6 : (Lit.int .i64 l').wf = true) (w : World) :
    (Op.equalIn 10000 84 (.agg #[.int .i64 a, .int .i64 b, .int .i64 k, .int .i64 c, .int .i64 d, .int .i64 l]) (.agg #[.int .i64 a', .int .i64 b', .int .i64 k', .int .i64 c', .int .i64 d', .int .i64 l'])).run Tryd.prog w = .ok (eqB a b k a' b' k' && eqB c d l c' d' l') w := by
  have hd := run_equalIn_deep 9995 5 84 ky w 4 4 _ _ _ _ (kf a b k c d l) (kf a' b' k' c' d' l') (kvec h1 h2 h3 h4 h5 h6) (kvec g1 g2 g3 g4 g5 g6)
  generalize hN : 9995 + 5 = N at hd
  obtain rfl : 10000 = N := hN
  obtain ⟨r, hr, he⟩ := hd
  rw [hr]
  have : r = (eqB a b k a' b' k' && eqB c d l c' d' l') := by
    rw [Bool.eq_iff_iff, he]
    simp [eqB, and_assoc]
  rw [this]

theorem sZero_true (k : Int) (w : World) : Calls Tryd.prog 128 #[num 0 0 k] w (RetB (.bool true) w) := by
  go_enter Tryd.func128, Tryd.ntmps128
  go_wp2
  go_ret
  exact ⟨rfl, by (repeat (first | with_reducible exact Below.refl _ _ | with_reducible assumption | with_reducible refine below_drewN ?_ _ | with_reducible refine Below.drew ?_ | with_reducible refine Below.alloc ?_ (by first | omega | (simp; done) | (simp; omega)) _ | with_reducible refine Below.setCell ?_ (by first | omega | (simp; done) | (simp; omega)) _ | with_reducible refine Below.trans ?_ (Below.mono (by assumption) (by first | omega | (simp; done) | (simp; omega)))))⟩
theorem sZero_false {a b : Int} (k : Int) (h : ¬ (a = 0 ∧ b = 0)) (w : World) : Calls Tryd.prog 128 #[num a b k] w (RetB (.bool false) w) := by
  by_cases ha : a = 0
  · subst ha
    have hb : (b == 0) = false := by rw [beq_eq_false_iff_ne]; exact fun e => h ⟨rfl, e⟩
    clear h
    go_enter Tryd.func128, Tryd.ntmps128
    go_wp2
    go_ret
    exact ⟨rfl, by (repeat (first | with_reducible exact Below.refl _ _ | with_reducible assumption | with_reducible refine below_drewN ?_ _ | with_reducible refine Below.drew ?_ | with_reducible refine Below.alloc ?_ (by first | omega | (simp; done) | (simp; omega)) _ | with_reducible refine Below.setCell ?_ (by first | omega | (simp; done) | (simp; omega)) _ | with_reducible refine Below.trans ?_ (Below.mono (by assumption) (by first | omega | (simp; done) | (simp; omega)))))⟩
  · have ha' : (a == 0) = false := by rw [beq_eq_false_iff_ne]; exact ha
    clear h ha
    go_enter Tryd.func128, Tryd.ntmps128
    go_wp2
    go_ret
    exact ⟨rfl, by (repeat (first | with_reducible exact Below.refl _ _ | with_reducible assumption | with_reducible refine below_drewN ?_ _ | with_reducible refine Below.drew ?_ | with_reducible refine Below.alloc ?_ (by first | omega | (simp; done) | (simp; omega)) _ | with_reducible refine Below.setCell ?_ (by first | omega | (simp; done) | (simp; omega)) _ | with_reducible refine Below.trans ?_ (Below.mono (by assumption) (by first | omega | (simp; done) | (simp; omega)))))⟩

/-- The first direction from d on that fits, of n. -/
def find16 (zz : Nat → Bool) (pp : Nat → Bool) : Nat → Nat → Int
  | 0, _ => -1
  | n + 1, d => if zz (d + 4) && pp d then (d : Int) else find16 zz pp n (d + 1)

def DirRel (w : World) (a b k c d l : Int) (zz pp : Nat → Bool) (gk : Nat) (s3 : Value) (W : World) : Prop := ∃ j : Nat, s3 = .int .i64 (j : Int) ∧ j + gk = 16 ∧ find16 zz pp 16 0 = find16 zz pp gk j ∧
  W.cell? ⟨w.heap.size, 0, none⟩ = some (.int .i64 a) ∧ W.cell? ⟨w.heap.size, 1, none⟩ = some (.int .i64 b) ∧ W.cell? ⟨w.heap.size, 2, none⟩ = some (.int .i64 k) ∧ W.cell? ⟨w.heap.size, 3, none⟩ = some (.int .i64 c) ∧ W.cell? ⟨w.heap.size, 4, none⟩ = some (.int .i64 d) ∧ W.cell? ⟨w.heap.size, 5, none⟩ = some (.int .i64 l) ∧
  w.heap.size < W.heap.size ∧ Below w.heap.size w W

set_option maxHeartbeats 4000000 in
set_option maxRecDepth 100000 in
theorem sDir_core (a b k c d l : Int) (zz pp : Nat → Bool) (fa fb fk sg : Nat → Int) (w : World) (hT : LT β w)
    (HD : Hid (∀ j : Nat, j < 20 → ∀ w, LT β w → Calls Tryd.prog 127 #[.int .i64 (j : Int), pt a b k c d l] w (RetB (num (fa j) (fb j) (fk j)) w)))
    (HZ : Hid (∀ j : Nat, j < 20 → ∀ w, Calls Tryd.prog 128 #[num (fa j) (fb j) (fk j)] w (RetB (.bool (zz j)) w)))
    (HS : Hid (∀ j : Nat, j < 16 → ∀ w, Calls Tryd.prog 125 #[num (fa j) (fb j) (fk j)] w (RetB (.int .i64 (sg j)) w))) (HP : Hid (∀ j, pp j = decide (0 < sg j))) :
    Calls Tryd.prog 72 #[pt a b k c d l] w (RetB (.int .i64 (find16 zz pp 16 0)) w) := by
  have hT' := Lib.hid hT
  obtain ⟨R, hR⟩ : ∃ R, R = find16 zz pp 16 0 := ⟨_, rfl⟩
  rw [← hR]
  have HR := Lib.hid hR
  clear hR hT
  go_enter Tryd.func72, Tryd.ntmps72
  go_wp2_with fail
  go_loopg [3] 16 (DirRel w a b k c d l zz pp)
  case atStart => exact ⟨0, rfl, rfl, rfl, by simp [go_sem], by simp [go_sem], by simp [go_sem], by simp [go_sem], by simp [go_sem], by simp [go_sem], by simp, by (repeat (first | with_reducible exact Below.refl _ _ | with_reducible assumption | with_reducible refine below_drewN ?_ _ | with_reducible refine Below.drew ?_ | with_reducible refine Below.alloc ?_ (by first | omega | (simp; done) | (simp; omega)) _ | with_reducible refine Below.setCell ?_ (by first | omega | (simp; done) | (simp; omega)) _ | with_reducible refine Below.trans ?_ (Below.mono (by assumption) (by first | omega | (simp; done) | (simp; omega)))))⟩
  case round =>
    obtain ⟨j, rfl, hj, hf, c0, c1, c2, c3, c4, c5, hz, hB⟩ := hrel
    have HF := Lib.hid hf
    have HB := Lib.hid hB
    clear hf hB
    by_cases hg : gk = 0
    · have hj16 : j = 16 := by omega
      have e : R = -1 := by rw [HR.out, HF.out, hg]; rfl
      have HE := Lib.hid e
      clear e
      subst hj16
      clear hg hj
      go_wp2_with fail
      go_ret
      exact ⟨by rw [HE.out]; rfl, HB.out⟩
    · obtain ⟨m, rfl⟩ : ∃ m, gk = m + 1 := ⟨gk - 1, by omega⟩
      have hj16 : (j : Int) < 16 := by omega
      have hjn : j < 16 := by omega
      have D1 := Lib.hid (fun w => HD.out (j + 4) (by omega) w)
      have Z1 := Lib.hid (HZ.out (j + 4) (by omega))
      have D2 := Lib.hid (fun w => HD.out j (by omega) w)
      have S2 := Lib.hid (HS.out j hjn)
      rw [show ((j + 4 : Nat) : Int) = (j : Int) + 4 by omega] at D1
      have step : R = if zz (j + 4) && pp j then (j : Int) else find16 zz pp m (j + 1) := by rw [HR.out, HF.out]; rfl
      have ST := Lib.hid step
      have PJ := Lib.hid (HP.out j)
      clear step
      clear hg
      generalize fa (j + 4) = A at *
      generalize fb (j + 4) = B at *
      generalize fk (j + 4) = K at *
      generalize fa j = A' at *
      generalize fb j = B' at *
      generalize fk j = K' at *
      by_cases hzz : zz (j + 4) = true
      · rw [hzz] at Z1
        by_cases hs : 0 < sg j
        · have HE := Lib.hid (show R = (j : Int) by rw [ST.out, hzz, PJ.out, decide_eq_true hs]; rfl)
          clear hzz
          generalize sg j = sj at *
          go_wp2_with fail
          refine (D1.out _ ?_).mono ?_
          · exact LT.below (w := w) hT'.out (by have hB := HB.out; (repeat (first | with_reducible exact Below.refl _ _ | with_reducible assumption | with_reducible refine below_drewN ?_ _ | with_reducible refine Below.drew ?_ | with_reducible refine Below.alloc ?_ (by first | omega | (simp; done) | (simp; omega)) _ | with_reducible refine Below.setCell ?_ (by first | omega | (simp; done) | (simp; omega)) _ | with_reducible refine Below.trans ?_ (Below.mono (by assumption) (by first | omega | (simp; done) | (simp; omega)))))) (Nat.le_refl _)
          rintro e w1 ⟨rfl, hb1⟩; obtain ⟨hc1, hf1⟩ := bcell hb1; have hz1 := hb1.size; have z1 : w.heap.size < w1.heap.size := (by omega)
          go_wp2_with fail
          refine (Z1.out _).mono ?_
          rintro e w2 ⟨rfl, hb2⟩; obtain ⟨hc2, hf2⟩ := bcell hb2; have hz2 := hb2.size; have z2 : w.heap.size < w2.heap.size := (by omega)
          go_wp2_with fail
          refine (D2.out _ ?_).mono ?_
          · exact LT.below (w := w) hT'.out (by have hB := HB.out; (repeat (first | with_reducible exact Below.refl _ _ | with_reducible assumption | with_reducible refine below_drewN ?_ _ | with_reducible refine Below.drew ?_ | with_reducible refine Below.alloc ?_ (by first | omega | (simp; done) | (simp; omega)) _ | with_reducible refine Below.setCell ?_ (by first | omega | (simp; done) | (simp; omega)) _ | with_reducible refine Below.trans ?_ (Below.mono (by assumption) (by first | omega | (simp; done) | (simp; omega)))))) (Nat.le_refl _)
          rintro e w3 ⟨rfl, hb3⟩; obtain ⟨hc3, hf3⟩ := bcell hb3; have hz3 := hb3.size; have z3 : w.heap.size < w3.heap.size := (by omega)
          go_wp2_with fail
          refine (S2.out _).mono ?_
          rintro e w4 ⟨rfl, hb4⟩; obtain ⟨hc4, hf4⟩ := bcell hb4; have hz4 := hb4.size; have z4 : w.heap.size < w4.heap.size := (by omega)
          go_wp2_with fail
          go_ret
          exact ⟨by rw [HE.out]; rfl, by have hB := HB.out; (repeat (first | with_reducible exact Below.refl _ _ | with_reducible assumption | with_reducible refine below_drewN ?_ _ | with_reducible refine Below.drew ?_ | with_reducible refine Below.alloc ?_ (by first | omega | (simp; done) | (simp; omega)) _ | with_reducible refine Below.setCell ?_ (by first | omega | (simp; done) | (simp; omega)) _ | with_reducible refine Below.trans ?_ (Below.mono (by assumption) (by first | omega | (simp; done) | (simp; omega)))))⟩
        · have HE := Lib.hid (show R = find16 zz pp m (j + 1) by rw [ST.out, hzz, PJ.out, decide_eq_false hs]; rfl)
          clear hzz
          generalize sg j = sj at *
          go_wp2_with fail
          refine (D1.out _ ?_).mono ?_
          · exact LT.below (w := w) hT'.out (by have hB := HB.out; (repeat (first | with_reducible exact Below.refl _ _ | with_reducible assumption | with_reducible refine below_drewN ?_ _ | with_reducible refine Below.drew ?_ | with_reducible refine Below.alloc ?_ (by first | omega | (simp; done) | (simp; omega)) _ | with_reducible refine Below.setCell ?_ (by first | omega | (simp; done) | (simp; omega)) _ | with_reducible refine Below.trans ?_ (Below.mono (by assumption) (by first | omega | (simp; done) | (simp; omega)))))) (Nat.le_refl _)
          rintro e w1 ⟨rfl, hb1⟩; obtain ⟨hc1, hf1⟩ := bcell hb1; have hz1 := hb1.size; have z1 : w.heap.size < w1.heap.size := (by omega)
          go_wp2_with fail
          refine (Z1.out _).mono ?_
          rintro e w2 ⟨rfl, hb2⟩; obtain ⟨hc2, hf2⟩ := bcell hb2; have hz2 := hb2.size; have z2 : w.heap.size < w2.heap.size := (by omega)
          go_wp2_with fail
          refine (D2.out _ ?_).mono ?_
          · exact LT.below (w := w) hT'.out (by have hB := HB.out; (repeat (first | with_reducible exact Below.refl _ _ | with_reducible assumption | with_reducible refine below_drewN ?_ _ | with_reducible refine Below.drew ?_ | with_reducible refine Below.alloc ?_ (by first | omega | (simp; done) | (simp; omega)) _ | with_reducible refine Below.setCell ?_ (by first | omega | (simp; done) | (simp; omega)) _ | with_reducible refine Below.trans ?_ (Below.mono (by assumption) (by first | omega | (simp; done) | (simp; omega)))))) (Nat.le_refl _)
          rintro e w3 ⟨rfl, hb3⟩; obtain ⟨hc3, hf3⟩ := bcell hb3; have hz3 := hb3.size; have z3 : w.heap.size < w3.heap.size := (by omega)
          go_wp2_with fail
          refine (S2.out _).mono ?_
          rintro e w4 ⟨rfl, hb4⟩; obtain ⟨hc4, hf4⟩ := bcell hb4; have hz4 := hb4.size; have z4 : w.heap.size < w4.heap.size := (by omega)
          go_wp2_with fail
          go_roundg m
          case measure => omega
          case rel => exact ⟨j + 1, by go_num, by omega, by rw [← HR.out, HE.out], by simp [go_sem, *], by simp [go_sem, *], by simp [go_sem, *], by simp [go_sem, *], by simp [go_sem, *], by simp [go_sem, *], by omega, by have hB := HB.out; (repeat (first | with_reducible exact Below.refl _ _ | with_reducible assumption | with_reducible refine below_drewN ?_ _ | with_reducible refine Below.drew ?_ | with_reducible refine Below.alloc ?_ (by first | omega | (simp; done) | (simp; omega)) _ | with_reducible refine Below.setCell ?_ (by first | omega | (simp; done) | (simp; omega)) _ | with_reducible refine Below.trans ?_ (Below.mono (by assumption) (by first | omega | (simp; done) | (simp; omega)))))⟩
      · have hzf := Bool.eq_false_iff.2 hzz
        rw [hzf] at Z1
        have HE := Lib.hid (show R = find16 zz pp m (j + 1) by rw [ST.out, hzf]; rfl)
        clear hzz hzf D2 S2
        go_wp2_with fail
        refine (D1.out _ ?_).mono ?_
        · exact LT.below (w := w) hT'.out (by have hB := HB.out; (repeat (first | with_reducible exact Below.refl _ _ | with_reducible assumption | with_reducible refine below_drewN ?_ _ | with_reducible refine Below.drew ?_ | with_reducible refine Below.alloc ?_ (by first | omega | (simp; done) | (simp; omega)) _ | with_reducible refine Below.setCell ?_ (by first | omega | (simp; done) | (simp; omega)) _ | with_reducible refine Below.trans ?_ (Below.mono (by assumption) (by first | omega | (simp; done) | (simp; omega)))))) (Nat.le_refl _)
        rintro e w1 ⟨rfl, hb1⟩; obtain ⟨hc1, hf1⟩ := bcell hb1; have hz1 := hb1.size; have z1 : w.heap.size < w1.heap.size := (by omega)
        go_wp2_with fail
        refine (Z1.out _).mono ?_
        rintro e w2 ⟨rfl, hb2⟩; obtain ⟨hc2, hf2⟩ := bcell hb2; have hz2 := hb2.size; have z2 : w.heap.size < w2.heap.size := (by omega)
        go_wp2_with fail
        go_roundg m
        case measure => omega
        case rel => exact ⟨j + 1, by go_num, by omega, by rw [← HR.out, HE.out], by simp [go_sem, *], by simp [go_sem, *], by simp [go_sem, *], by simp [go_sem, *], by simp [go_sem, *], by simp [go_sem, *], by omega, by have hB := HB.out; (repeat (first | with_reducible exact Below.refl _ _ | with_reducible assumption | with_reducible refine below_drewN ?_ _ | with_reducible refine Below.drew ?_ | with_reducible refine Below.alloc ?_ (by first | omega | (simp; done) | (simp; omega)) _ | with_reducible refine Below.setCell ?_ (by first | omega | (simp; done) | (simp; omega)) _ | with_reducible refine Below.trans ?_ (Below.mono (by assumption) (by first | omega | (simp; done) | (simp; omega)))))⟩

/-- The first of n lines from d on that fits, either way. -/
def find8 (s1 s2 : Nat → Int) : Nat → Nat → Int
  | 0, _ => -1
  | n + 1, d => if s1 d = 0 then (if 0 < s2 d then (d : Int) else (d : Int) + 8) else find8 s1 s2 n (d + 1)

theorem wfield (A B K : Int) (w : World) : Sem.run Tryd.prog (Instr.field 82 (.agg #[.int .i64 A, .int .i64 B, .int .i64 K]) 0) w = .ok (.agg #[.int .i64 A, .int .i64 B, .int .i64 K]) w := by
  simp [Instr.field, asAgg, go_sem]

theorem dirTo_same (a b k c d l : Int) (w : World) (heq : ∀ w, (Op.equalIn 10000 84 (.agg #[.int .i64 a, .int .i64 b, .int .i64 k, .int .i64 c, .int .i64 d, .int .i64 l]) (.agg #[.int .i64 a, .int .i64 b, .int .i64 k, .int .i64 c, .int .i64 d, .int .i64 l])).run Tryd.prog w = .ok true w) :
    Calls Tryd.prog 79 #[pt a b k c d l, pt a b k c d l] w (RetB (.int .i64 (-1)) w) := by
  go_enter Tryd.func79, Tryd.ntmps79
  go_wp2_with fail
  go_ret
  exact ⟨rfl, by (repeat (first | with_reducible exact Below.refl _ _ | with_reducible assumption | with_reducible refine below_drewN ?_ _ | with_reducible refine Below.drew ?_ | with_reducible refine Below.alloc ?_ (by first | omega | (simp; done) | (simp; omega)) _ | with_reducible refine Below.setCell ?_ (by first | omega | (simp; done) | (simp; omega)) _ | with_reducible refine Below.trans ?_ (Below.mono (by assumption) (by first | omega | (simp; done) | (simp; omega)))))⟩

def Dir8Rel (w : World) (G : Nat) (a b k c d l R : Int) (s1 s2 : Nat → Int) (gk : Nat) (s14 : Value) (W : World) : Prop := ∃ j : Nat, s14 = .int .i64 (j : Int) ∧ j + gk = 8 ∧ R = find8 s1 s2 gk j ∧
  W.cell? ⟨G, 0, none⟩ = some (.int .i64 a) ∧ W.cell? ⟨G, 1, none⟩ = some (.int .i64 b) ∧ W.cell? ⟨G, 2, none⟩ = some (.int .i64 k) ∧ W.cell? ⟨G, 3, none⟩ = some (.int .i64 c) ∧ W.cell? ⟨G, 4, none⟩ = some (.int .i64 d) ∧ W.cell? ⟨G, 5, none⟩ = some (.int .i64 l) ∧
  G < W.heap.size ∧ w.heap.size < G ∧ Below w.heap.size w W

set_option maxHeartbeats 4000000 in
set_option maxRecDepth 100000 in
theorem dirTo_core (xa xb xk xc xd xl ya yb yk yc yd yl a b k c d l R : Int) (va vb vc vd fa fb fk pa pb pk s1 s2 : Nat → Int) (w : World) (hT : LT β w)
    (heq : ∀ w, (Op.equalIn 10000 84 (.agg #[.int .i64 xa, .int .i64 xb, .int .i64 xk, .int .i64 xc, .int .i64 xd, .int .i64 xl]) (.agg #[.int .i64 ya, .int .i64 yb, .int .i64 yk, .int .i64 yc, .int .i64 yd, .int .i64 yl])).run Tryd.prog w = .ok false w)
    (HM : Hid (∀ w, LT β w → Calls Tryd.prog 137 #[pt ya yb yk yc yd yl, pt xa xb xk xc xd xl] w (RetB (pt a b k c d l) w)))
    (HV : Hid (∀ j : Nat, j < 8 → ∀ w, LT β w → Calls Tryd.prog 118 #[.int .i64 (j : Int)] w (RetB (sv (va j) (vb j) (vc j) (vd j)) w)))
    (HC : Hid (∀ j : Nat, j < 8 → ∀ w, LT β w → Calls Tryd.prog 134 #[sv (va j) (vb j) (vc j) (vd j), pt a b k c d l] w (RetB (num (fa j) (fb j) (fk j)) w)))
    (HS1 : Hid (∀ j : Nat, j < 8 → ∀ w, Calls Tryd.prog 136 #[num (fa j) (fb j) (fk j)] w (RetB (.int .i64 (s1 j)) w)))
    (HD : Hid (∀ j : Nat, j < 8 → ∀ w, LT β w → Calls Tryd.prog 117 #[sv (va j) (vb j) (vc j) (vd j), pt a b k c d l] w (RetB (num (pa j) (pb j) (pk j)) w)))
    (HS2 : Hid (∀ j : Nat, j < 8 → ∀ w, Calls Tryd.prog 136 #[num (pa j) (pb j) (pk j)] w (RetB (.int .i64 (s2 j)) w))) (HR : Hid (R = find8 s1 s2 8 0)) :
    Calls Tryd.prog 79 #[pt xa xb xk xc xd xl, pt ya yb yk yc yd yl] w (RetB (.int .i64 R) w) := by
  have hT' := Lib.hid hT
  clear hT
  go_enter Tryd.func79, Tryd.ntmps79
  go_wp2_with fail
  refine (HM.out _ ?_).mono ?_
  · exact LT.below (w := w) hT'.out (by (repeat (first | with_reducible exact Below.refl _ _ | with_reducible assumption | with_reducible refine below_drewN ?_ _ | with_reducible refine Below.drew ?_ | with_reducible refine Below.alloc ?_ (by first | omega | (simp; done) | (simp; omega)) _ | with_reducible refine Below.setCell ?_ (by first | omega | (simp; done) | (simp; omega)) _ | with_reducible refine Below.trans ?_ (Below.mono (by assumption) (by first | omega | (simp; done) | (simp; omega)))))) (Nat.le_refl _)
  rintro e w1 ⟨rfl, hb1⟩; obtain ⟨hc1, hf1⟩ := bcell hb1; have hz1 := hb1.size; (try simp at hz1); have z1 : w.heap.size < w1.heap.size := (by omega)
  go_wp2_with fail
  go_loopg [14] 8 (Dir8Rel w w1.heap.size a b k c d l R s1 s2)
  case atStart => exact ⟨0, rfl, rfl, HR.out, by simp [go_sem], by simp [go_sem], by simp [go_sem], by simp [go_sem], by simp [go_sem], by simp [go_sem], by simp, z1, by (repeat (first | with_reducible exact Below.refl _ _ | with_reducible assumption | with_reducible refine below_drewN ?_ _ | with_reducible refine Below.drew ?_ | with_reducible refine Below.alloc ?_ (by first | omega | (simp; done) | (simp; omega)) _ | with_reducible refine Below.setCell ?_ (by first | omega | (simp; done) | (simp; omega)) _ | with_reducible refine Below.trans ?_ (Below.mono (by assumption) (by first | omega | (simp; done) | (simp; omega)))))⟩
  case round =>
    clear hc1 hf1 hb1 hz1 heq
    obtain ⟨j, rfl, hj, hf, c0, c1, c2, c3, c4, c5, hz, hGw, hB⟩ := hrel
    have HF := Lib.hid hf
    have HB := Lib.hid hB
    clear hf hB
    obtain ⟨G, hG⟩ : ∃ G, G = w1.heap.size := ⟨_, rfl⟩
    by_cases hg : gk = 0
    · have hj8 : j = 8 := by omega
      have HE := Lib.hid (show R = -1 by rw [HF.out, hg]; rfl)
      subst hj8
      clear hg hj
      go_wp2_with fail
      go_ret
      exact ⟨by rw [HE.out]; rfl, HB.out⟩
    · obtain ⟨m, rfl⟩ : ∃ m, gk = m + 1 := ⟨gk - 1, by omega⟩
      have hj8 : (j : Int) < 8 := by omega
      have hjn : j < 8 := by omega
      have V1 := Lib.hid (HV.out j hjn)
      have C1 := Lib.hid (HC.out j hjn)
      have G1 := Lib.hid (HS1.out j hjn)
      have D1 := Lib.hid (HD.out j hjn)
      have G2 := Lib.hid (HS2.out j hjn)
      have ST := Lib.hid (show R = if s1 j = 0 then (if 0 < s2 j then (j : Int) else (j : Int) + 8) else find8 s1 s2 m (j + 1) by rw [HF.out]; rfl)
      clear hg
      generalize va j = vA at *
      generalize vb j = vB at *
      generalize vc j = vC at *
      generalize vd j = vD at *
      generalize fa j = A at *
      generalize fb j = B at *
      generalize fk j = K at *
      generalize pa j = A' at *
      generalize pb j = B' at *
      generalize pk j = K' at *
      have hfr1 := wfield A B K
      have hfr2 := wfield A' B' K'
      by_cases hs1 : s1 j = 0
      · rw [hs1] at G1
        by_cases hs2 : 0 < s2 j
        · have HE := Lib.hid (show R = (j : Int) by rw [ST.out, if_pos hs1, if_pos hs2])
          clear hs1
          generalize s2 j = sj at *
          go_wp2_with fail
          refine (V1.out _ ?_).mono ?_
          · exact LT.below (w := w) hT'.out (by have hB := HB.out; (repeat (first | with_reducible exact Below.refl _ _ | with_reducible assumption | with_reducible refine below_drewN ?_ _ | with_reducible refine Below.drew ?_ | with_reducible refine Below.alloc ?_ (by first | omega | (simp; done) | (simp; omega)) _ | with_reducible refine Below.setCell ?_ (by first | omega | (simp; done) | (simp; omega)) _ | with_reducible refine Below.trans ?_ (Below.mono (by assumption) (by first | omega | (simp; done) | (simp; omega)))))) (Nat.le_refl _)
          rintro e w2 ⟨rfl, hb2⟩; obtain ⟨hc2, hf2⟩ := bcell hb2; have hz2 := hb2.size; have z2 : w1.heap.size < w2.heap.size := (by omega)
          go_wp2_with fail
          refine (C1.out _ ?_).mono ?_
          · exact LT.below (w := w) hT'.out (by have hB := HB.out; (repeat (first | with_reducible exact Below.refl _ _ | with_reducible assumption | with_reducible refine below_drewN ?_ _ | with_reducible refine Below.drew ?_ | with_reducible refine Below.alloc ?_ (by first | omega | (simp; done) | (simp; omega)) _ | with_reducible refine Below.setCell ?_ (by first | omega | (simp; done) | (simp; omega)) _ | with_reducible refine Below.trans ?_ (Below.mono (by assumption) (by first | omega | (simp; done) | (simp; omega)))))) (Nat.le_refl _)
          rintro e w3 ⟨rfl, hb3⟩; obtain ⟨hc3, hf3⟩ := bcell hb3; have hz3 := hb3.size; (try simp at hz3); have z3 : w1.heap.size < w3.heap.size := (by omega); have z3b : w2.heap.size < w3.heap.size := (by omega); have z3c : w1.heap.size < w2.heap.size + 1 := (by omega); have z3d : w1.heap.size ≤ w2.heap.size := (by omega)
          go_wp2_with fail
          refine (G1.out _).mono ?_
          rintro e w4 ⟨rfl, hb4⟩; obtain ⟨hc4, hf4⟩ := bcell hb4; have hz4 := hb4.size; have z4 : w1.heap.size < w4.heap.size := (by omega); have z4b : w2.heap.size < w4.heap.size := (by omega)
          go_wp2_with fail
          refine (D1.out _ ?_).mono ?_
          · exact LT.below (w := w) hT'.out (by have hB := HB.out; (repeat (first | with_reducible exact Below.refl _ _ | with_reducible assumption | with_reducible refine below_drewN ?_ _ | with_reducible refine Below.drew ?_ | with_reducible refine Below.alloc ?_ (by first | omega | (simp; done) | (simp; omega)) _ | with_reducible refine Below.setCell ?_ (by first | omega | (simp; done) | (simp; omega)) _ | with_reducible refine Below.trans ?_ (Below.mono (by assumption) (by first | omega | (simp; done) | (simp; omega)))))) (Nat.le_refl _)
          rintro e w5 ⟨rfl, hb5⟩; obtain ⟨hc5, hf5⟩ := bcell hb5; have hz5 := hb5.size; have z5 : w1.heap.size < w5.heap.size := (by omega)
          go_wp2_with fail
          refine (G2.out _).mono ?_
          rintro e w6 ⟨rfl, hb6⟩; obtain ⟨hc6, hf6⟩ := bcell hb6; have hz6 := hb6.size
          go_wp2_with fail
          go_ret
          exact ⟨by rw [HE.out]; rfl, by have hB := HB.out; (repeat (first | with_reducible exact Below.refl _ _ | with_reducible assumption | with_reducible refine below_drewN ?_ _ | with_reducible refine Below.drew ?_ | with_reducible refine Below.alloc ?_ (by first | omega | (simp; done) | (simp; omega)) _ | with_reducible refine Below.setCell ?_ (by first | omega | (simp; done) | (simp; omega)) _ | with_reducible refine Below.trans ?_ (Below.mono (by assumption) (by first | omega | (simp; done) | (simp; omega)))))⟩
        · have HE := Lib.hid (show R = (j : Int) + 8 by rw [ST.out, if_pos hs1, if_neg hs2])
          clear hs1
          generalize s2 j = sj at *
          go_wp2_with fail
          refine (V1.out _ ?_).mono ?_
          · exact LT.below (w := w) hT'.out (by have hB := HB.out; (repeat (first | with_reducible exact Below.refl _ _ | with_reducible assumption | with_reducible refine below_drewN ?_ _ | with_reducible refine Below.drew ?_ | with_reducible refine Below.alloc ?_ (by first | omega | (simp; done) | (simp; omega)) _ | with_reducible refine Below.setCell ?_ (by first | omega | (simp; done) | (simp; omega)) _ | with_reducible refine Below.trans ?_ (Below.mono (by assumption) (by first | omega | (simp; done) | (simp; omega)))))) (Nat.le_refl _)
          rintro e w2 ⟨rfl, hb2⟩; obtain ⟨hc2, hf2⟩ := bcell hb2; have hz2 := hb2.size; have z2 : w1.heap.size < w2.heap.size := (by omega)
          go_wp2_with fail
          refine (C1.out _ ?_).mono ?_
          · exact LT.below (w := w) hT'.out (by have hB := HB.out; (repeat (first | with_reducible exact Below.refl _ _ | with_reducible assumption | with_reducible refine below_drewN ?_ _ | with_reducible refine Below.drew ?_ | with_reducible refine Below.alloc ?_ (by first | omega | (simp; done) | (simp; omega)) _ | with_reducible refine Below.setCell ?_ (by first | omega | (simp; done) | (simp; omega)) _ | with_reducible refine Below.trans ?_ (Below.mono (by assumption) (by first | omega | (simp; done) | (simp; omega)))))) (Nat.le_refl _)
          rintro e w3 ⟨rfl, hb3⟩; obtain ⟨hc3, hf3⟩ := bcell hb3; have hz3 := hb3.size; (try simp at hz3); have z3 : w1.heap.size < w3.heap.size := (by omega); have z3b : w2.heap.size < w3.heap.size := (by omega); have z3c : w1.heap.size < w2.heap.size + 1 := (by omega); have z3d : w1.heap.size ≤ w2.heap.size := (by omega)
          go_wp2_with fail
          refine (G1.out _).mono ?_
          rintro e w4 ⟨rfl, hb4⟩; obtain ⟨hc4, hf4⟩ := bcell hb4; have hz4 := hb4.size; have z4 : w1.heap.size < w4.heap.size := (by omega); have z4b : w2.heap.size < w4.heap.size := (by omega)
          go_wp2_with fail
          refine (D1.out _ ?_).mono ?_
          · exact LT.below (w := w) hT'.out (by have hB := HB.out; (repeat (first | with_reducible exact Below.refl _ _ | with_reducible assumption | with_reducible refine below_drewN ?_ _ | with_reducible refine Below.drew ?_ | with_reducible refine Below.alloc ?_ (by first | omega | (simp; done) | (simp; omega)) _ | with_reducible refine Below.setCell ?_ (by first | omega | (simp; done) | (simp; omega)) _ | with_reducible refine Below.trans ?_ (Below.mono (by assumption) (by first | omega | (simp; done) | (simp; omega)))))) (Nat.le_refl _)
          rintro e w5 ⟨rfl, hb5⟩; obtain ⟨hc5, hf5⟩ := bcell hb5; have hz5 := hb5.size; have z5 : w1.heap.size < w5.heap.size := (by omega)
          go_wp2_with fail
          refine (G2.out _).mono ?_
          rintro e w6 ⟨rfl, hb6⟩; obtain ⟨hc6, hf6⟩ := bcell hb6; have hz6 := hb6.size
          go_wp2_with fail
          go_ret
          exact ⟨by rw [HE.out]; rfl, by have hB := HB.out; (repeat (first | with_reducible exact Below.refl _ _ | with_reducible assumption | with_reducible refine below_drewN ?_ _ | with_reducible refine Below.drew ?_ | with_reducible refine Below.alloc ?_ (by first | omega | (simp; done) | (simp; omega)) _ | with_reducible refine Below.setCell ?_ (by first | omega | (simp; done) | (simp; omega)) _ | with_reducible refine Below.trans ?_ (Below.mono (by assumption) (by first | omega | (simp; done) | (simp; omega)))))⟩
      · have HE := Lib.hid (show R = find8 s1 s2 m (j + 1) by rw [ST.out, if_neg hs1])
        have hs1' : (s1 j == 0) = false := by rw [beq_eq_false_iff_ne]; exact hs1
        clear hs1 D1 G2
        generalize s1 j = sj at *
        go_wp2_with fail
        refine (V1.out _ ?_).mono ?_
        · exact LT.below (w := w) hT'.out (by have hB := HB.out; (repeat (first | with_reducible exact Below.refl _ _ | with_reducible assumption | with_reducible refine below_drewN ?_ _ | with_reducible refine Below.drew ?_ | with_reducible refine Below.alloc ?_ (by first | omega | (simp; done) | (simp; omega)) _ | with_reducible refine Below.setCell ?_ (by first | omega | (simp; done) | (simp; omega)) _ | with_reducible refine Below.trans ?_ (Below.mono (by assumption) (by first | omega | (simp; done) | (simp; omega)))))) (Nat.le_refl _)
        rintro e w2 ⟨rfl, hb2⟩; obtain ⟨hc2, hf2⟩ := bcell hb2; have hz2 := hb2.size; have z2 : w1.heap.size < w2.heap.size := (by omega)
        go_wp2_with fail
        refine (C1.out _ ?_).mono ?_
        · exact LT.below (w := w) hT'.out (by have hB := HB.out; (repeat (first | with_reducible exact Below.refl _ _ | with_reducible assumption | with_reducible refine below_drewN ?_ _ | with_reducible refine Below.drew ?_ | with_reducible refine Below.alloc ?_ (by first | omega | (simp; done) | (simp; omega)) _ | with_reducible refine Below.setCell ?_ (by first | omega | (simp; done) | (simp; omega)) _ | with_reducible refine Below.trans ?_ (Below.mono (by assumption) (by first | omega | (simp; done) | (simp; omega)))))) (Nat.le_refl _)
        rintro e w3 ⟨rfl, hb3⟩; obtain ⟨hc3, hf3⟩ := bcell hb3; have hz3 := hb3.size; (try simp at hz3); have z3 : w1.heap.size < w3.heap.size := (by omega); have z3c : w1.heap.size < w2.heap.size + 1 := (by omega); have z3d : w1.heap.size ≤ w2.heap.size := (by omega)
        go_wp2_with fail
        refine (G1.out _).mono ?_
        rintro e w4 ⟨rfl, hb4⟩; obtain ⟨hc4, hf4⟩ := bcell hb4; have hz4 := hb4.size; have z4 : w1.heap.size < w4.heap.size := (by omega)
        go_wp2_with fail
        go_roundg m
        case measure => omega
        case rel => exact ⟨j + 1, by go_num, by omega, HE.out, by simp [go_sem, *], by simp [go_sem, *], by simp [go_sem, *], by simp [go_sem, *], by simp [go_sem, *], by simp [go_sem, *], by omega, hGw, by have hB := HB.out; (repeat (first | with_reducible exact Below.refl _ _ | with_reducible assumption | with_reducible refine below_drewN ?_ _ | with_reducible refine Below.drew ?_ | with_reducible refine Below.alloc ?_ (by first | omega | (simp; done) | (simp; omega)) _ | with_reducible refine Below.setCell ?_ (by first | omega | (simp; done) | (simp; omega)) _ | with_reducible refine Below.trans ?_ (Below.mono (by assumption) (by first | omega | (simp; done) | (simp; omega)))))⟩
end Go.Proofs.YtafbdnjabgfjeaaDoor
