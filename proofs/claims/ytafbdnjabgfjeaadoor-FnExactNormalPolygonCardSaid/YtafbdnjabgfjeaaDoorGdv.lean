/- The vectors of directions, out of the program's table. -/
import Derived.Test.YtafbdnjabgfjeaaDoorGl
import Derived.Deep.RegionHeld3
import Derived.Deep.DrawnRows
namespace Go.Proofs.YtafbdnjabgfjeaaDoor
open Go Go.RowKit OriM
attribute [local go_sem ↓] Go.wp_at_zero Go.wp_at_succ

/-- The vector of a direction, as a value. -/
abbrev dv (d : Nat) : Value := sv (xA d) (xB d) (yA d) (yB d)

theorem dirvec_0 (w : World) (hT : LT true w) : Calls Tryd.prog 118 #[.int .i64 0] w (RetB (sv 1 0 0 0) w) := by
  have t0 : w.cell? ⟨0, 0, none⟩ = some (.int .i64 1) := (hT.lv rfl).2 0 (by decide)
  have t1 : w.cell? ⟨0, 1, none⟩ = some (.int .i64 0) := (hT.lv rfl).2 1 (by decide)
  have t2 : w.cell? ⟨0, 2, none⟩ = some (.int .i64 0) := (hT.lv rfl).2 2 (by decide)
  have t3 : w.cell? ⟨0, 3, none⟩ = some (.int .i64 0) := (hT.lv rfl).2 3 (by decide)
  have t4 : w.cell? ⟨0, 4, none⟩ = some (.int .i64 0) := (hT.lv rfl).2 4 (by decide)
  have t5 : w.cell? ⟨0, 5, none⟩ = some (.int .i64 0) := (hT.lv rfl).2 5 (by decide)
  have zz0 : w.heap.size < w.heap.size + 1 + 1 := by omega
  have hg := (hT.lv rfl).1
  go_enter Tryd.func118, Tryd.ntmps118
  go_wp2_with fail
  all_goals exact bodyPost_ret (v := sv 1 0 0 0) (by simp [results, Tryd.results118, go_sem, *]) rfl ⟨rfl, by (repeat (first | with_reducible exact Below.refl _ _ | with_reducible assumption | with_reducible refine below_drewN ?_ _ | with_reducible refine Below.drew ?_ | with_reducible refine Below.alloc ?_ (by first | omega | (simp; done) | (simp; omega)) _ | with_reducible refine Below.setCell ?_ (by first | omega | (simp; done) | (simp; omega)) _ | with_reducible refine Below.trans ?_ (Below.mono (by assumption) (by first | omega | (simp; done) | (simp; omega)))))⟩

theorem dirvec_1 (w : World) (hT : LT true w) : Calls Tryd.prog 118 #[.int .i64 1] w (RetB (sv 1 0 (-1) 1) w) := by
  have t0 : w.cell? ⟨0, 6, none⟩ = some (.int .i64 1) := (hT.lv rfl).2 6 (by decide)
  have t1 : w.cell? ⟨0, 7, none⟩ = some (.int .i64 0) := (hT.lv rfl).2 7 (by decide)
  have t2 : w.cell? ⟨0, 8, none⟩ = some (.int .i64 0) := (hT.lv rfl).2 8 (by decide)
  have t3 : w.cell? ⟨0, 9, none⟩ = some (.int .i64 (-1)) := (hT.lv rfl).2 9 (by decide)
  have t4 : w.cell? ⟨0, 10, none⟩ = some (.int .i64 1) := (hT.lv rfl).2 10 (by decide)
  have t5 : w.cell? ⟨0, 11, none⟩ = some (.int .i64 0) := (hT.lv rfl).2 11 (by decide)
  have zz0 : w.heap.size < w.heap.size + 1 + 1 := by omega
  have hg := (hT.lv rfl).1
  go_enter Tryd.func118, Tryd.ntmps118
  go_wp2_with fail
  all_goals exact bodyPost_ret (v := sv 1 0 (-1) 1) (by simp [results, Tryd.results118, go_sem, *]) rfl ⟨rfl, by (repeat (first | with_reducible exact Below.refl _ _ | with_reducible assumption | with_reducible refine below_drewN ?_ _ | with_reducible refine Below.drew ?_ | with_reducible refine Below.alloc ?_ (by first | omega | (simp; done) | (simp; omega)) _ | with_reducible refine Below.setCell ?_ (by first | omega | (simp; done) | (simp; omega)) _ | with_reducible refine Below.trans ?_ (Below.mono (by assumption) (by first | omega | (simp; done) | (simp; omega)))))⟩

theorem dirvec_2 (w : World) (hT : LT true w) : Calls Tryd.prog 118 #[.int .i64 2] w (RetB (sv 1 0 1 0) w) := by
  have t0 : w.cell? ⟨0, 12, none⟩ = some (.int .i64 1) := (hT.lv rfl).2 12 (by decide)
  have t1 : w.cell? ⟨0, 13, none⟩ = some (.int .i64 0) := (hT.lv rfl).2 13 (by decide)
  have t2 : w.cell? ⟨0, 14, none⟩ = some (.int .i64 0) := (hT.lv rfl).2 14 (by decide)
  have t3 : w.cell? ⟨0, 15, none⟩ = some (.int .i64 1) := (hT.lv rfl).2 15 (by decide)
  have t4 : w.cell? ⟨0, 16, none⟩ = some (.int .i64 0) := (hT.lv rfl).2 16 (by decide)
  have t5 : w.cell? ⟨0, 17, none⟩ = some (.int .i64 0) := (hT.lv rfl).2 17 (by decide)
  have zz0 : w.heap.size < w.heap.size + 1 + 1 := by omega
  have hg := (hT.lv rfl).1
  go_enter Tryd.func118, Tryd.ntmps118
  go_wp2_with fail
  all_goals exact bodyPost_ret (v := sv 1 0 1 0) (by simp [results, Tryd.results118, go_sem, *]) rfl ⟨rfl, by (repeat (first | with_reducible exact Below.refl _ _ | with_reducible assumption | with_reducible refine below_drewN ?_ _ | with_reducible refine Below.drew ?_ | with_reducible refine Below.alloc ?_ (by first | omega | (simp; done) | (simp; omega)) _ | with_reducible refine Below.setCell ?_ (by first | omega | (simp; done) | (simp; omega)) _ | with_reducible refine Below.trans ?_ (Below.mono (by assumption) (by first | omega | (simp; done) | (simp; omega)))))⟩

theorem dirvec_3 (w : World) (hT : LT true w) : Calls Tryd.prog 118 #[.int .i64 3] w (RetB (sv (-1) 1 1 0) w) := by
  have t0 : w.cell? ⟨0, 18, none⟩ = some (.int .i64 (-1)) := (hT.lv rfl).2 18 (by decide)
  have t1 : w.cell? ⟨0, 19, none⟩ = some (.int .i64 1) := (hT.lv rfl).2 19 (by decide)
  have t2 : w.cell? ⟨0, 20, none⟩ = some (.int .i64 0) := (hT.lv rfl).2 20 (by decide)
  have t3 : w.cell? ⟨0, 21, none⟩ = some (.int .i64 1) := (hT.lv rfl).2 21 (by decide)
  have t4 : w.cell? ⟨0, 22, none⟩ = some (.int .i64 0) := (hT.lv rfl).2 22 (by decide)
  have t5 : w.cell? ⟨0, 23, none⟩ = some (.int .i64 0) := (hT.lv rfl).2 23 (by decide)
  have zz0 : w.heap.size < w.heap.size + 1 + 1 := by omega
  have hg := (hT.lv rfl).1
  go_enter Tryd.func118, Tryd.ntmps118
  go_wp2_with fail
  all_goals exact bodyPost_ret (v := sv (-1) 1 1 0) (by simp [results, Tryd.results118, go_sem, *]) rfl ⟨rfl, by (repeat (first | with_reducible exact Below.refl _ _ | with_reducible assumption | with_reducible refine below_drewN ?_ _ | with_reducible refine Below.drew ?_ | with_reducible refine Below.alloc ?_ (by first | omega | (simp; done) | (simp; omega)) _ | with_reducible refine Below.setCell ?_ (by first | omega | (simp; done) | (simp; omega)) _ | with_reducible refine Below.trans ?_ (Below.mono (by assumption) (by first | omega | (simp; done) | (simp; omega)))))⟩

theorem dirvec_4 (w : World) (hT : LT true w) : Calls Tryd.prog 118 #[.int .i64 4] w (RetB (sv 0 0 1 0) w) := by
  have t0 : w.cell? ⟨0, 24, none⟩ = some (.int .i64 0) := (hT.lv rfl).2 24 (by decide)
  have t1 : w.cell? ⟨0, 25, none⟩ = some (.int .i64 0) := (hT.lv rfl).2 25 (by decide)
  have t2 : w.cell? ⟨0, 26, none⟩ = some (.int .i64 0) := (hT.lv rfl).2 26 (by decide)
  have t3 : w.cell? ⟨0, 27, none⟩ = some (.int .i64 1) := (hT.lv rfl).2 27 (by decide)
  have t4 : w.cell? ⟨0, 28, none⟩ = some (.int .i64 0) := (hT.lv rfl).2 28 (by decide)
  have t5 : w.cell? ⟨0, 29, none⟩ = some (.int .i64 0) := (hT.lv rfl).2 29 (by decide)
  have zz0 : w.heap.size < w.heap.size + 1 + 1 := by omega
  have hg := (hT.lv rfl).1
  go_enter Tryd.func118, Tryd.ntmps118
  go_wp2_with fail
  all_goals exact bodyPost_ret (v := sv 0 0 1 0) (by simp [results, Tryd.results118, go_sem, *]) rfl ⟨rfl, by (repeat (first | with_reducible exact Below.refl _ _ | with_reducible assumption | with_reducible refine below_drewN ?_ _ | with_reducible refine Below.drew ?_ | with_reducible refine Below.alloc ?_ (by first | omega | (simp; done) | (simp; omega)) _ | with_reducible refine Below.setCell ?_ (by first | omega | (simp; done) | (simp; omega)) _ | with_reducible refine Below.trans ?_ (Below.mono (by assumption) (by first | omega | (simp; done) | (simp; omega)))))⟩

theorem dirvec_5 (w : World) (hT : LT true w) : Calls Tryd.prog 118 #[.int .i64 5] w (RetB (sv 1 (-1) 1 0) w) := by
  have t0 : w.cell? ⟨0, 30, none⟩ = some (.int .i64 1) := (hT.lv rfl).2 30 (by decide)
  have t1 : w.cell? ⟨0, 31, none⟩ = some (.int .i64 (-1)) := (hT.lv rfl).2 31 (by decide)
  have t2 : w.cell? ⟨0, 32, none⟩ = some (.int .i64 0) := (hT.lv rfl).2 32 (by decide)
  have t3 : w.cell? ⟨0, 33, none⟩ = some (.int .i64 1) := (hT.lv rfl).2 33 (by decide)
  have t4 : w.cell? ⟨0, 34, none⟩ = some (.int .i64 0) := (hT.lv rfl).2 34 (by decide)
  have t5 : w.cell? ⟨0, 35, none⟩ = some (.int .i64 0) := (hT.lv rfl).2 35 (by decide)
  have zz0 : w.heap.size < w.heap.size + 1 + 1 := by omega
  have hg := (hT.lv rfl).1
  go_enter Tryd.func118, Tryd.ntmps118
  go_wp2_with fail
  all_goals exact bodyPost_ret (v := sv 1 (-1) 1 0) (by simp [results, Tryd.results118, go_sem, *]) rfl ⟨rfl, by (repeat (first | with_reducible exact Below.refl _ _ | with_reducible assumption | with_reducible refine below_drewN ?_ _ | with_reducible refine Below.drew ?_ | with_reducible refine Below.alloc ?_ (by first | omega | (simp; done) | (simp; omega)) _ | with_reducible refine Below.setCell ?_ (by first | omega | (simp; done) | (simp; omega)) _ | with_reducible refine Below.trans ?_ (Below.mono (by assumption) (by first | omega | (simp; done) | (simp; omega)))))⟩

theorem dirvec_6 (w : World) (hT : LT true w) : Calls Tryd.prog 118 #[.int .i64 6] w (RetB (sv (-1) 0 1 0) w) := by
  have t0 : w.cell? ⟨0, 36, none⟩ = some (.int .i64 (-1)) := (hT.lv rfl).2 36 (by decide)
  have t1 : w.cell? ⟨0, 37, none⟩ = some (.int .i64 0) := (hT.lv rfl).2 37 (by decide)
  have t2 : w.cell? ⟨0, 38, none⟩ = some (.int .i64 0) := (hT.lv rfl).2 38 (by decide)
  have t3 : w.cell? ⟨0, 39, none⟩ = some (.int .i64 1) := (hT.lv rfl).2 39 (by decide)
  have t4 : w.cell? ⟨0, 40, none⟩ = some (.int .i64 0) := (hT.lv rfl).2 40 (by decide)
  have t5 : w.cell? ⟨0, 41, none⟩ = some (.int .i64 0) := (hT.lv rfl).2 41 (by decide)
  have zz0 : w.heap.size < w.heap.size + 1 + 1 := by omega
  have hg := (hT.lv rfl).1
  go_enter Tryd.func118, Tryd.ntmps118
  go_wp2_with fail
  all_goals exact bodyPost_ret (v := sv (-1) 0 1 0) (by simp [results, Tryd.results118, go_sem, *]) rfl ⟨rfl, by (repeat (first | with_reducible exact Below.refl _ _ | with_reducible assumption | with_reducible refine below_drewN ?_ _ | with_reducible refine Below.drew ?_ | with_reducible refine Below.alloc ?_ (by first | omega | (simp; done) | (simp; omega)) _ | with_reducible refine Below.setCell ?_ (by first | omega | (simp; done) | (simp; omega)) _ | with_reducible refine Below.trans ?_ (Below.mono (by assumption) (by first | omega | (simp; done) | (simp; omega)))))⟩

theorem dirvec_7 (w : World) (hT : LT true w) : Calls Tryd.prog 118 #[.int .i64 7] w (RetB (sv (-1) 0 (-1) 1) w) := by
  have t0 : w.cell? ⟨0, 42, none⟩ = some (.int .i64 (-1)) := (hT.lv rfl).2 42 (by decide)
  have t1 : w.cell? ⟨0, 43, none⟩ = some (.int .i64 0) := (hT.lv rfl).2 43 (by decide)
  have t2 : w.cell? ⟨0, 44, none⟩ = some (.int .i64 0) := (hT.lv rfl).2 44 (by decide)
  have t3 : w.cell? ⟨0, 45, none⟩ = some (.int .i64 (-1)) := (hT.lv rfl).2 45 (by decide)
  have t4 : w.cell? ⟨0, 46, none⟩ = some (.int .i64 1) := (hT.lv rfl).2 46 (by decide)
  have t5 : w.cell? ⟨0, 47, none⟩ = some (.int .i64 0) := (hT.lv rfl).2 47 (by decide)
  have zz0 : w.heap.size < w.heap.size + 1 + 1 := by omega
  have hg := (hT.lv rfl).1
  go_enter Tryd.func118, Tryd.ntmps118
  go_wp2_with fail
  all_goals exact bodyPost_ret (v := sv (-1) 0 (-1) 1) (by simp [results, Tryd.results118, go_sem, *]) rfl ⟨rfl, by (repeat (first | with_reducible exact Below.refl _ _ | with_reducible assumption | with_reducible refine below_drewN ?_ _ | with_reducible refine Below.drew ?_ | with_reducible refine Below.alloc ?_ (by first | omega | (simp; done) | (simp; omega)) _ | with_reducible refine Below.setCell ?_ (by first | omega | (simp; done) | (simp; omega)) _ | with_reducible refine Below.trans ?_ (Below.mono (by assumption) (by first | omega | (simp; done) | (simp; omega)))))⟩

theorem dirvec_8 (w : World) (hT : LT true w) : Calls Tryd.prog 118 #[.int .i64 8] w (RetB (sv (-1) 0 0 0) w) := by
  have t0 : w.cell? ⟨0, 0, none⟩ = some (.int .i64 1) := (hT.lv rfl).2 0 (by decide)
  have t1 : w.cell? ⟨0, 1, none⟩ = some (.int .i64 0) := (hT.lv rfl).2 1 (by decide)
  have t2 : w.cell? ⟨0, 2, none⟩ = some (.int .i64 0) := (hT.lv rfl).2 2 (by decide)
  have t3 : w.cell? ⟨0, 3, none⟩ = some (.int .i64 0) := (hT.lv rfl).2 3 (by decide)
  have t4 : w.cell? ⟨0, 4, none⟩ = some (.int .i64 0) := (hT.lv rfl).2 4 (by decide)
  have t5 : w.cell? ⟨0, 5, none⟩ = some (.int .i64 0) := (hT.lv rfl).2 5 (by decide)
  have N1 := Lib.hid (show ∀ w, Calls Tryd.prog 157 #[num 1 0 0] w (RetB (num (-1) 0 0) w) from fun w => gneg_any 1 0 0 w (by omega) (by omega) (by omega) (by omega))
  have N2 := Lib.hid (show ∀ w, Calls Tryd.prog 157 #[num 0 0 0] w (RetB (num 0 0 0) w) from fun w => gneg_any 0 0 0 w (by omega) (by omega) (by omega) (by omega))
  have zz0 : w.heap.size < w.heap.size + 1 + 1 := by omega
  have hg := (hT.lv rfl).1
  go_enter Tryd.func118, Tryd.ntmps118
  go_wp2_with fail
  have tok1 : True := trivial
  go_region_held3 (fun w' => w'.cell? ⟨w.heap.size + 1, 0, none⟩ = some (.int .i64 1) ∧ w'.cell? ⟨w.heap.size + 1, 1, none⟩ = some (.int .i64 0) ∧ w'.cell? ⟨w.heap.size + 1, 2, none⟩ = some (.int .i64 0) ∧ w'.cell? ⟨w.heap.size + 1, 3, none⟩ = some (.int .i64 0) ∧ w'.cell? ⟨w.heap.size + 1, 4, none⟩ = some (.int .i64 0) ∧ w'.cell? ⟨w.heap.size + 1, 5, none⟩ = some (.int .i64 0)) ((first | (go_simp; done) | (simp [*]; done)))
    ((first
    | (go_at_call 157; have _t := tok1; clear tok1; refine (N1.out _).mono ?_; rintro e w1 ⟨rfl, hb1⟩; (try replace hb1 := Below.undrew hb1); obtain ⟨hc1, hf1⟩ := bcell hb1; have hz1 := hb1.size; (try simp at hz1); (try have z1_0 : w.heap.size < w1.heap.size := (by omega)); (try have z1_1 : w.heap.size + 1 < w1.heap.size := (by omega)))
    | (go_at_call 157; refine (N2.out _).mono ?_; rintro e w2 ⟨rfl, hb2⟩; (try replace hb2 := Below.undrew hb2); obtain ⟨hc2, hf2⟩ := bcell hb2; have hz2 := hb2.size; (try simp at hz2); (try have z2_0 : w.heap.size < w2.heap.size := (by omega)); (try have z2_1 : w.heap.size + 1 < w2.heap.size := (by omega)))))
  all_goals go_wp2_with fail
  all_goals exact bodyPost_ret (v := sv (-1) 0 0 0) (by simp [results, Tryd.results118, go_sem, *]) rfl ⟨rfl, by (repeat (first | with_reducible exact Below.refl _ _ | with_reducible assumption | with_reducible refine below_drewN ?_ _ | with_reducible refine Below.drew ?_ | with_reducible refine Below.alloc ?_ (by first | omega | (simp; done) | (simp; omega)) _ | with_reducible refine Below.setCell ?_ (by first | omega | (simp; done) | (simp; omega)) _ | with_reducible refine Below.trans ?_ (Below.mono (by assumption) (by first | omega | (simp; done) | (simp; omega)))))⟩

theorem dirvec_9 (w : World) (hT : LT true w) : Calls Tryd.prog 118 #[.int .i64 9] w (RetB (sv (-1) 0 1 (-1)) w) := by
  have t0 : w.cell? ⟨0, 6, none⟩ = some (.int .i64 1) := (hT.lv rfl).2 6 (by decide)
  have t1 : w.cell? ⟨0, 7, none⟩ = some (.int .i64 0) := (hT.lv rfl).2 7 (by decide)
  have t2 : w.cell? ⟨0, 8, none⟩ = some (.int .i64 0) := (hT.lv rfl).2 8 (by decide)
  have t3 : w.cell? ⟨0, 9, none⟩ = some (.int .i64 (-1)) := (hT.lv rfl).2 9 (by decide)
  have t4 : w.cell? ⟨0, 10, none⟩ = some (.int .i64 1) := (hT.lv rfl).2 10 (by decide)
  have t5 : w.cell? ⟨0, 11, none⟩ = some (.int .i64 0) := (hT.lv rfl).2 11 (by decide)
  have N1 := Lib.hid (show ∀ w, Calls Tryd.prog 157 #[num 1 0 0] w (RetB (num (-1) 0 0) w) from fun w => gneg_any 1 0 0 w (by omega) (by omega) (by omega) (by omega))
  have N2 := Lib.hid (show ∀ w, Calls Tryd.prog 157 #[num (-1) 1 0] w (RetB (num 1 (-1) 0) w) from fun w => gneg_any (-1) 1 0 w (by omega) (by omega) (by omega) (by omega))
  have zz0 : w.heap.size < w.heap.size + 1 + 1 := by omega
  have hg := (hT.lv rfl).1
  go_enter Tryd.func118, Tryd.ntmps118
  go_wp2_with fail
  have tok1 : True := trivial
  go_region_held3 (fun w' => w'.cell? ⟨w.heap.size + 1, 0, none⟩ = some (.int .i64 1) ∧ w'.cell? ⟨w.heap.size + 1, 1, none⟩ = some (.int .i64 0) ∧ w'.cell? ⟨w.heap.size + 1, 2, none⟩ = some (.int .i64 0) ∧ w'.cell? ⟨w.heap.size + 1, 3, none⟩ = some (.int .i64 (-1)) ∧ w'.cell? ⟨w.heap.size + 1, 4, none⟩ = some (.int .i64 1) ∧ w'.cell? ⟨w.heap.size + 1, 5, none⟩ = some (.int .i64 0)) ((first | (go_simp; done) | (simp [*]; done)))
    ((first
    | (go_at_call 157; have _t := tok1; clear tok1; refine (N1.out _).mono ?_; rintro e w1 ⟨rfl, hb1⟩; (try replace hb1 := Below.undrew hb1); obtain ⟨hc1, hf1⟩ := bcell hb1; have hz1 := hb1.size; (try simp at hz1); (try have z1_0 : w.heap.size < w1.heap.size := (by omega)); (try have z1_1 : w.heap.size + 1 < w1.heap.size := (by omega)))
    | (go_at_call 157; refine (N2.out _).mono ?_; rintro e w2 ⟨rfl, hb2⟩; (try replace hb2 := Below.undrew hb2); obtain ⟨hc2, hf2⟩ := bcell hb2; have hz2 := hb2.size; (try simp at hz2); (try have z2_0 : w.heap.size < w2.heap.size := (by omega)); (try have z2_1 : w.heap.size + 1 < w2.heap.size := (by omega)))))
  all_goals go_wp2_with fail
  all_goals exact bodyPost_ret (v := sv (-1) 0 1 (-1)) (by simp [results, Tryd.results118, go_sem, *]) rfl ⟨rfl, by (repeat (first | with_reducible exact Below.refl _ _ | with_reducible assumption | with_reducible refine below_drewN ?_ _ | with_reducible refine Below.drew ?_ | with_reducible refine Below.alloc ?_ (by first | omega | (simp; done) | (simp; omega)) _ | with_reducible refine Below.setCell ?_ (by first | omega | (simp; done) | (simp; omega)) _ | with_reducible refine Below.trans ?_ (Below.mono (by assumption) (by first | omega | (simp; done) | (simp; omega)))))⟩

theorem dirvec_10 (w : World) (hT : LT true w) : Calls Tryd.prog 118 #[.int .i64 10] w (RetB (sv (-1) 0 (-1) 0) w) := by
  have t0 : w.cell? ⟨0, 12, none⟩ = some (.int .i64 1) := (hT.lv rfl).2 12 (by decide)
  have t1 : w.cell? ⟨0, 13, none⟩ = some (.int .i64 0) := (hT.lv rfl).2 13 (by decide)
  have t2 : w.cell? ⟨0, 14, none⟩ = some (.int .i64 0) := (hT.lv rfl).2 14 (by decide)
  have t3 : w.cell? ⟨0, 15, none⟩ = some (.int .i64 1) := (hT.lv rfl).2 15 (by decide)
  have t4 : w.cell? ⟨0, 16, none⟩ = some (.int .i64 0) := (hT.lv rfl).2 16 (by decide)
  have t5 : w.cell? ⟨0, 17, none⟩ = some (.int .i64 0) := (hT.lv rfl).2 17 (by decide)
  have N1 := Lib.hid (show ∀ w, Calls Tryd.prog 157 #[num 1 0 0] w (RetB (num (-1) 0 0) w) from fun w => gneg_any 1 0 0 w (by omega) (by omega) (by omega) (by omega))
  have N2 := Lib.hid (show ∀ w, Calls Tryd.prog 157 #[num 1 0 0] w (RetB (num (-1) 0 0) w) from fun w => gneg_any 1 0 0 w (by omega) (by omega) (by omega) (by omega))
  have zz0 : w.heap.size < w.heap.size + 1 + 1 := by omega
  have hg := (hT.lv rfl).1
  go_enter Tryd.func118, Tryd.ntmps118
  go_wp2_with fail
  have tok1 : True := trivial
  go_region_held3 (fun w' => w'.cell? ⟨w.heap.size + 1, 0, none⟩ = some (.int .i64 1) ∧ w'.cell? ⟨w.heap.size + 1, 1, none⟩ = some (.int .i64 0) ∧ w'.cell? ⟨w.heap.size + 1, 2, none⟩ = some (.int .i64 0) ∧ w'.cell? ⟨w.heap.size + 1, 3, none⟩ = some (.int .i64 1) ∧ w'.cell? ⟨w.heap.size + 1, 4, none⟩ = some (.int .i64 0) ∧ w'.cell? ⟨w.heap.size + 1, 5, none⟩ = some (.int .i64 0)) ((first | (go_simp; done) | (simp [*]; done)))
    ((first
    | (go_at_call 157; have _t := tok1; clear tok1; refine (N1.out _).mono ?_; rintro e w1 ⟨rfl, hb1⟩; (try replace hb1 := Below.undrew hb1); obtain ⟨hc1, hf1⟩ := bcell hb1; have hz1 := hb1.size; (try simp at hz1); (try have z1_0 : w.heap.size < w1.heap.size := (by omega)); (try have z1_1 : w.heap.size + 1 < w1.heap.size := (by omega)))
    | (go_at_call 157; refine (N2.out _).mono ?_; rintro e w2 ⟨rfl, hb2⟩; (try replace hb2 := Below.undrew hb2); obtain ⟨hc2, hf2⟩ := bcell hb2; have hz2 := hb2.size; (try simp at hz2); (try have z2_0 : w.heap.size < w2.heap.size := (by omega)); (try have z2_1 : w.heap.size + 1 < w2.heap.size := (by omega)))))
  all_goals go_wp2_with fail
  all_goals exact bodyPost_ret (v := sv (-1) 0 (-1) 0) (by simp [results, Tryd.results118, go_sem, *]) rfl ⟨rfl, by (repeat (first | with_reducible exact Below.refl _ _ | with_reducible assumption | with_reducible refine below_drewN ?_ _ | with_reducible refine Below.drew ?_ | with_reducible refine Below.alloc ?_ (by first | omega | (simp; done) | (simp; omega)) _ | with_reducible refine Below.setCell ?_ (by first | omega | (simp; done) | (simp; omega)) _ | with_reducible refine Below.trans ?_ (Below.mono (by assumption) (by first | omega | (simp; done) | (simp; omega)))))⟩

theorem dirvec_11 (w : World) (hT : LT true w) : Calls Tryd.prog 118 #[.int .i64 11] w (RetB (sv 1 (-1) (-1) 0) w) := by
  have t0 : w.cell? ⟨0, 18, none⟩ = some (.int .i64 (-1)) := (hT.lv rfl).2 18 (by decide)
  have t1 : w.cell? ⟨0, 19, none⟩ = some (.int .i64 1) := (hT.lv rfl).2 19 (by decide)
  have t2 : w.cell? ⟨0, 20, none⟩ = some (.int .i64 0) := (hT.lv rfl).2 20 (by decide)
  have t3 : w.cell? ⟨0, 21, none⟩ = some (.int .i64 1) := (hT.lv rfl).2 21 (by decide)
  have t4 : w.cell? ⟨0, 22, none⟩ = some (.int .i64 0) := (hT.lv rfl).2 22 (by decide)
  have t5 : w.cell? ⟨0, 23, none⟩ = some (.int .i64 0) := (hT.lv rfl).2 23 (by decide)
  have N1 := Lib.hid (show ∀ w, Calls Tryd.prog 157 #[num (-1) 1 0] w (RetB (num 1 (-1) 0) w) from fun w => gneg_any (-1) 1 0 w (by omega) (by omega) (by omega) (by omega))
  have N2 := Lib.hid (show ∀ w, Calls Tryd.prog 157 #[num 1 0 0] w (RetB (num (-1) 0 0) w) from fun w => gneg_any 1 0 0 w (by omega) (by omega) (by omega) (by omega))
  have zz0 : w.heap.size < w.heap.size + 1 + 1 := by omega
  have hg := (hT.lv rfl).1
  go_enter Tryd.func118, Tryd.ntmps118
  go_wp2_with fail
  have tok1 : True := trivial
  go_region_held3 (fun w' => w'.cell? ⟨w.heap.size + 1, 0, none⟩ = some (.int .i64 (-1)) ∧ w'.cell? ⟨w.heap.size + 1, 1, none⟩ = some (.int .i64 1) ∧ w'.cell? ⟨w.heap.size + 1, 2, none⟩ = some (.int .i64 0) ∧ w'.cell? ⟨w.heap.size + 1, 3, none⟩ = some (.int .i64 1) ∧ w'.cell? ⟨w.heap.size + 1, 4, none⟩ = some (.int .i64 0) ∧ w'.cell? ⟨w.heap.size + 1, 5, none⟩ = some (.int .i64 0)) ((first | (go_simp; done) | (simp [*]; done)))
    ((first
    | (go_at_call 157; have _t := tok1; clear tok1; refine (N1.out _).mono ?_; rintro e w1 ⟨rfl, hb1⟩; (try replace hb1 := Below.undrew hb1); obtain ⟨hc1, hf1⟩ := bcell hb1; have hz1 := hb1.size; (try simp at hz1); (try have z1_0 : w.heap.size < w1.heap.size := (by omega)); (try have z1_1 : w.heap.size + 1 < w1.heap.size := (by omega)))
    | (go_at_call 157; refine (N2.out _).mono ?_; rintro e w2 ⟨rfl, hb2⟩; (try replace hb2 := Below.undrew hb2); obtain ⟨hc2, hf2⟩ := bcell hb2; have hz2 := hb2.size; (try simp at hz2); (try have z2_0 : w.heap.size < w2.heap.size := (by omega)); (try have z2_1 : w.heap.size + 1 < w2.heap.size := (by omega)))))
  all_goals go_wp2_with fail
  all_goals exact bodyPost_ret (v := sv 1 (-1) (-1) 0) (by simp [results, Tryd.results118, go_sem, *]) rfl ⟨rfl, by (repeat (first | with_reducible exact Below.refl _ _ | with_reducible assumption | with_reducible refine below_drewN ?_ _ | with_reducible refine Below.drew ?_ | with_reducible refine Below.alloc ?_ (by first | omega | (simp; done) | (simp; omega)) _ | with_reducible refine Below.setCell ?_ (by first | omega | (simp; done) | (simp; omega)) _ | with_reducible refine Below.trans ?_ (Below.mono (by assumption) (by first | omega | (simp; done) | (simp; omega)))))⟩

theorem dirvec_12 (w : World) (hT : LT true w) : Calls Tryd.prog 118 #[.int .i64 12] w (RetB (sv 0 0 (-1) 0) w) := by
  have t0 : w.cell? ⟨0, 24, none⟩ = some (.int .i64 0) := (hT.lv rfl).2 24 (by decide)
  have t1 : w.cell? ⟨0, 25, none⟩ = some (.int .i64 0) := (hT.lv rfl).2 25 (by decide)
  have t2 : w.cell? ⟨0, 26, none⟩ = some (.int .i64 0) := (hT.lv rfl).2 26 (by decide)
  have t3 : w.cell? ⟨0, 27, none⟩ = some (.int .i64 1) := (hT.lv rfl).2 27 (by decide)
  have t4 : w.cell? ⟨0, 28, none⟩ = some (.int .i64 0) := (hT.lv rfl).2 28 (by decide)
  have t5 : w.cell? ⟨0, 29, none⟩ = some (.int .i64 0) := (hT.lv rfl).2 29 (by decide)
  have N1 := Lib.hid (show ∀ w, Calls Tryd.prog 157 #[num 0 0 0] w (RetB (num 0 0 0) w) from fun w => gneg_any 0 0 0 w (by omega) (by omega) (by omega) (by omega))
  have N2 := Lib.hid (show ∀ w, Calls Tryd.prog 157 #[num 1 0 0] w (RetB (num (-1) 0 0) w) from fun w => gneg_any 1 0 0 w (by omega) (by omega) (by omega) (by omega))
  have zz0 : w.heap.size < w.heap.size + 1 + 1 := by omega
  have hg := (hT.lv rfl).1
  go_enter Tryd.func118, Tryd.ntmps118
  go_wp2_with fail
  have tok1 : True := trivial
  go_region_held3 (fun w' => w'.cell? ⟨w.heap.size + 1, 0, none⟩ = some (.int .i64 0) ∧ w'.cell? ⟨w.heap.size + 1, 1, none⟩ = some (.int .i64 0) ∧ w'.cell? ⟨w.heap.size + 1, 2, none⟩ = some (.int .i64 0) ∧ w'.cell? ⟨w.heap.size + 1, 3, none⟩ = some (.int .i64 1) ∧ w'.cell? ⟨w.heap.size + 1, 4, none⟩ = some (.int .i64 0) ∧ w'.cell? ⟨w.heap.size + 1, 5, none⟩ = some (.int .i64 0)) ((first | (go_simp; done) | (simp [*]; done)))
    ((first
    | (go_at_call 157; have _t := tok1; clear tok1; refine (N1.out _).mono ?_; rintro e w1 ⟨rfl, hb1⟩; (try replace hb1 := Below.undrew hb1); obtain ⟨hc1, hf1⟩ := bcell hb1; have hz1 := hb1.size; (try simp at hz1); (try have z1_0 : w.heap.size < w1.heap.size := (by omega)); (try have z1_1 : w.heap.size + 1 < w1.heap.size := (by omega)))
    | (go_at_call 157; refine (N2.out _).mono ?_; rintro e w2 ⟨rfl, hb2⟩; (try replace hb2 := Below.undrew hb2); obtain ⟨hc2, hf2⟩ := bcell hb2; have hz2 := hb2.size; (try simp at hz2); (try have z2_0 : w.heap.size < w2.heap.size := (by omega)); (try have z2_1 : w.heap.size + 1 < w2.heap.size := (by omega)))))
  all_goals go_wp2_with fail
  all_goals exact bodyPost_ret (v := sv 0 0 (-1) 0) (by simp [results, Tryd.results118, go_sem, *]) rfl ⟨rfl, by (repeat (first | with_reducible exact Below.refl _ _ | with_reducible assumption | with_reducible refine below_drewN ?_ _ | with_reducible refine Below.drew ?_ | with_reducible refine Below.alloc ?_ (by first | omega | (simp; done) | (simp; omega)) _ | with_reducible refine Below.setCell ?_ (by first | omega | (simp; done) | (simp; omega)) _ | with_reducible refine Below.trans ?_ (Below.mono (by assumption) (by first | omega | (simp; done) | (simp; omega)))))⟩

theorem dirvec_13 (w : World) (hT : LT true w) : Calls Tryd.prog 118 #[.int .i64 13] w (RetB (sv (-1) 1 (-1) 0) w) := by
  have t0 : w.cell? ⟨0, 30, none⟩ = some (.int .i64 1) := (hT.lv rfl).2 30 (by decide)
  have t1 : w.cell? ⟨0, 31, none⟩ = some (.int .i64 (-1)) := (hT.lv rfl).2 31 (by decide)
  have t2 : w.cell? ⟨0, 32, none⟩ = some (.int .i64 0) := (hT.lv rfl).2 32 (by decide)
  have t3 : w.cell? ⟨0, 33, none⟩ = some (.int .i64 1) := (hT.lv rfl).2 33 (by decide)
  have t4 : w.cell? ⟨0, 34, none⟩ = some (.int .i64 0) := (hT.lv rfl).2 34 (by decide)
  have t5 : w.cell? ⟨0, 35, none⟩ = some (.int .i64 0) := (hT.lv rfl).2 35 (by decide)
  have N1 := Lib.hid (show ∀ w, Calls Tryd.prog 157 #[num 1 (-1) 0] w (RetB (num (-1) 1 0) w) from fun w => gneg_any 1 (-1) 0 w (by omega) (by omega) (by omega) (by omega))
  have N2 := Lib.hid (show ∀ w, Calls Tryd.prog 157 #[num 1 0 0] w (RetB (num (-1) 0 0) w) from fun w => gneg_any 1 0 0 w (by omega) (by omega) (by omega) (by omega))
  have zz0 : w.heap.size < w.heap.size + 1 + 1 := by omega
  have hg := (hT.lv rfl).1
  go_enter Tryd.func118, Tryd.ntmps118
  go_wp2_with fail
  have tok1 : True := trivial
  go_region_held3 (fun w' => w'.cell? ⟨w.heap.size + 1, 0, none⟩ = some (.int .i64 1) ∧ w'.cell? ⟨w.heap.size + 1, 1, none⟩ = some (.int .i64 (-1)) ∧ w'.cell? ⟨w.heap.size + 1, 2, none⟩ = some (.int .i64 0) ∧ w'.cell? ⟨w.heap.size + 1, 3, none⟩ = some (.int .i64 1) ∧ w'.cell? ⟨w.heap.size + 1, 4, none⟩ = some (.int .i64 0) ∧ w'.cell? ⟨w.heap.size + 1, 5, none⟩ = some (.int .i64 0)) ((first | (go_simp; done) | (simp [*]; done)))
    ((first
    | (go_at_call 157; have _t := tok1; clear tok1; refine (N1.out _).mono ?_; rintro e w1 ⟨rfl, hb1⟩; (try replace hb1 := Below.undrew hb1); obtain ⟨hc1, hf1⟩ := bcell hb1; have hz1 := hb1.size; (try simp at hz1); (try have z1_0 : w.heap.size < w1.heap.size := (by omega)); (try have z1_1 : w.heap.size + 1 < w1.heap.size := (by omega)))
    | (go_at_call 157; refine (N2.out _).mono ?_; rintro e w2 ⟨rfl, hb2⟩; (try replace hb2 := Below.undrew hb2); obtain ⟨hc2, hf2⟩ := bcell hb2; have hz2 := hb2.size; (try simp at hz2); (try have z2_0 : w.heap.size < w2.heap.size := (by omega)); (try have z2_1 : w.heap.size + 1 < w2.heap.size := (by omega)))))
  all_goals go_wp2_with fail
  all_goals exact bodyPost_ret (v := sv (-1) 1 (-1) 0) (by simp [results, Tryd.results118, go_sem, *]) rfl ⟨rfl, by (repeat (first | with_reducible exact Below.refl _ _ | with_reducible assumption | with_reducible refine below_drewN ?_ _ | with_reducible refine Below.drew ?_ | with_reducible refine Below.alloc ?_ (by first | omega | (simp; done) | (simp; omega)) _ | with_reducible refine Below.setCell ?_ (by first | omega | (simp; done) | (simp; omega)) _ | with_reducible refine Below.trans ?_ (Below.mono (by assumption) (by first | omega | (simp; done) | (simp; omega)))))⟩

theorem dirvec_14 (w : World) (hT : LT true w) : Calls Tryd.prog 118 #[.int .i64 14] w (RetB (sv 1 0 (-1) 0) w) := by
  have t0 : w.cell? ⟨0, 36, none⟩ = some (.int .i64 (-1)) := (hT.lv rfl).2 36 (by decide)
  have t1 : w.cell? ⟨0, 37, none⟩ = some (.int .i64 0) := (hT.lv rfl).2 37 (by decide)
  have t2 : w.cell? ⟨0, 38, none⟩ = some (.int .i64 0) := (hT.lv rfl).2 38 (by decide)
  have t3 : w.cell? ⟨0, 39, none⟩ = some (.int .i64 1) := (hT.lv rfl).2 39 (by decide)
  have t4 : w.cell? ⟨0, 40, none⟩ = some (.int .i64 0) := (hT.lv rfl).2 40 (by decide)
  have t5 : w.cell? ⟨0, 41, none⟩ = some (.int .i64 0) := (hT.lv rfl).2 41 (by decide)
  have N1 := Lib.hid (show ∀ w, Calls Tryd.prog 157 #[num (-1) 0 0] w (RetB (num 1 0 0) w) from fun w => gneg_any (-1) 0 0 w (by omega) (by omega) (by omega) (by omega))
  have N2 := Lib.hid (show ∀ w, Calls Tryd.prog 157 #[num 1 0 0] w (RetB (num (-1) 0 0) w) from fun w => gneg_any 1 0 0 w (by omega) (by omega) (by omega) (by omega))
  have zz0 : w.heap.size < w.heap.size + 1 + 1 := by omega
  have hg := (hT.lv rfl).1
  go_enter Tryd.func118, Tryd.ntmps118
  go_wp2_with fail
  have tok1 : True := trivial
  go_region_held3 (fun w' => w'.cell? ⟨w.heap.size + 1, 0, none⟩ = some (.int .i64 (-1)) ∧ w'.cell? ⟨w.heap.size + 1, 1, none⟩ = some (.int .i64 0) ∧ w'.cell? ⟨w.heap.size + 1, 2, none⟩ = some (.int .i64 0) ∧ w'.cell? ⟨w.heap.size + 1, 3, none⟩ = some (.int .i64 1) ∧ w'.cell? ⟨w.heap.size + 1, 4, none⟩ = some (.int .i64 0) ∧ w'.cell? ⟨w.heap.size + 1, 5, none⟩ = some (.int .i64 0)) ((first | (go_simp; done) | (simp [*]; done)))
    ((first
    | (go_at_call 157; have _t := tok1; clear tok1; refine (N1.out _).mono ?_; rintro e w1 ⟨rfl, hb1⟩; (try replace hb1 := Below.undrew hb1); obtain ⟨hc1, hf1⟩ := bcell hb1; have hz1 := hb1.size; (try simp at hz1); (try have z1_0 : w.heap.size < w1.heap.size := (by omega)); (try have z1_1 : w.heap.size + 1 < w1.heap.size := (by omega)))
    | (go_at_call 157; refine (N2.out _).mono ?_; rintro e w2 ⟨rfl, hb2⟩; (try replace hb2 := Below.undrew hb2); obtain ⟨hc2, hf2⟩ := bcell hb2; have hz2 := hb2.size; (try simp at hz2); (try have z2_0 : w.heap.size < w2.heap.size := (by omega)); (try have z2_1 : w.heap.size + 1 < w2.heap.size := (by omega)))))
  all_goals go_wp2_with fail
  all_goals exact bodyPost_ret (v := sv 1 0 (-1) 0) (by simp [results, Tryd.results118, go_sem, *]) rfl ⟨rfl, by (repeat (first | with_reducible exact Below.refl _ _ | with_reducible assumption | with_reducible refine below_drewN ?_ _ | with_reducible refine Below.drew ?_ | with_reducible refine Below.alloc ?_ (by first | omega | (simp; done) | (simp; omega)) _ | with_reducible refine Below.setCell ?_ (by first | omega | (simp; done) | (simp; omega)) _ | with_reducible refine Below.trans ?_ (Below.mono (by assumption) (by first | omega | (simp; done) | (simp; omega)))))⟩

theorem dirvec_15 (w : World) (hT : LT true w) : Calls Tryd.prog 118 #[.int .i64 15] w (RetB (sv 1 0 1 (-1)) w) := by
  have t0 : w.cell? ⟨0, 42, none⟩ = some (.int .i64 (-1)) := (hT.lv rfl).2 42 (by decide)
  have t1 : w.cell? ⟨0, 43, none⟩ = some (.int .i64 0) := (hT.lv rfl).2 43 (by decide)
  have t2 : w.cell? ⟨0, 44, none⟩ = some (.int .i64 0) := (hT.lv rfl).2 44 (by decide)
  have t3 : w.cell? ⟨0, 45, none⟩ = some (.int .i64 (-1)) := (hT.lv rfl).2 45 (by decide)
  have t4 : w.cell? ⟨0, 46, none⟩ = some (.int .i64 1) := (hT.lv rfl).2 46 (by decide)
  have t5 : w.cell? ⟨0, 47, none⟩ = some (.int .i64 0) := (hT.lv rfl).2 47 (by decide)
  have N1 := Lib.hid (show ∀ w, Calls Tryd.prog 157 #[num (-1) 0 0] w (RetB (num 1 0 0) w) from fun w => gneg_any (-1) 0 0 w (by omega) (by omega) (by omega) (by omega))
  have N2 := Lib.hid (show ∀ w, Calls Tryd.prog 157 #[num (-1) 1 0] w (RetB (num 1 (-1) 0) w) from fun w => gneg_any (-1) 1 0 w (by omega) (by omega) (by omega) (by omega))
  have zz0 : w.heap.size < w.heap.size + 1 + 1 := by omega
  have hg := (hT.lv rfl).1
  go_enter Tryd.func118, Tryd.ntmps118
  go_wp2_with fail
  have tok1 : True := trivial
  go_region_held3 (fun w' => w'.cell? ⟨w.heap.size + 1, 0, none⟩ = some (.int .i64 (-1)) ∧ w'.cell? ⟨w.heap.size + 1, 1, none⟩ = some (.int .i64 0) ∧ w'.cell? ⟨w.heap.size + 1, 2, none⟩ = some (.int .i64 0) ∧ w'.cell? ⟨w.heap.size + 1, 3, none⟩ = some (.int .i64 (-1)) ∧ w'.cell? ⟨w.heap.size + 1, 4, none⟩ = some (.int .i64 1) ∧ w'.cell? ⟨w.heap.size + 1, 5, none⟩ = some (.int .i64 0)) ((first | (go_simp; done) | (simp [*]; done)))
    ((first
    | (go_at_call 157; have _t := tok1; clear tok1; refine (N1.out _).mono ?_; rintro e w1 ⟨rfl, hb1⟩; (try replace hb1 := Below.undrew hb1); obtain ⟨hc1, hf1⟩ := bcell hb1; have hz1 := hb1.size; (try simp at hz1); (try have z1_0 : w.heap.size < w1.heap.size := (by omega)); (try have z1_1 : w.heap.size + 1 < w1.heap.size := (by omega)))
    | (go_at_call 157; refine (N2.out _).mono ?_; rintro e w2 ⟨rfl, hb2⟩; (try replace hb2 := Below.undrew hb2); obtain ⟨hc2, hf2⟩ := bcell hb2; have hz2 := hb2.size; (try simp at hz2); (try have z2_0 : w.heap.size < w2.heap.size := (by omega)); (try have z2_1 : w.heap.size + 1 < w2.heap.size := (by omega)))))
  all_goals go_wp2_with fail
  all_goals exact bodyPost_ret (v := sv 1 0 1 (-1)) (by simp [results, Tryd.results118, go_sem, *]) rfl ⟨rfl, by (repeat (first | with_reducible exact Below.refl _ _ | with_reducible assumption | with_reducible refine below_drewN ?_ _ | with_reducible refine Below.drew ?_ | with_reducible refine Below.alloc ?_ (by first | omega | (simp; done) | (simp; omega)) _ | with_reducible refine Below.setCell ?_ (by first | omega | (simp; done) | (simp; omega)) _ | with_reducible refine Below.trans ?_ (Below.mono (by assumption) (by first | omega | (simp; done) | (simp; omega)))))⟩

theorem dirvec_16 (w : World) (hT : LT true w) : Calls Tryd.prog 118 #[.int .i64 16] w (RetB (sv 1 0 0 0) w) := by
  have t0 : w.cell? ⟨0, 0, none⟩ = some (.int .i64 1) := (hT.lv rfl).2 0 (by decide)
  have t1 : w.cell? ⟨0, 1, none⟩ = some (.int .i64 0) := (hT.lv rfl).2 1 (by decide)
  have t2 : w.cell? ⟨0, 2, none⟩ = some (.int .i64 0) := (hT.lv rfl).2 2 (by decide)
  have t3 : w.cell? ⟨0, 3, none⟩ = some (.int .i64 0) := (hT.lv rfl).2 3 (by decide)
  have t4 : w.cell? ⟨0, 4, none⟩ = some (.int .i64 0) := (hT.lv rfl).2 4 (by decide)
  have t5 : w.cell? ⟨0, 5, none⟩ = some (.int .i64 0) := (hT.lv rfl).2 5 (by decide)
  have zz0 : w.heap.size < w.heap.size + 1 + 1 := by omega
  have hg := (hT.lv rfl).1
  go_enter Tryd.func118, Tryd.ntmps118
  go_wp2_with fail
  all_goals exact bodyPost_ret (v := sv 1 0 0 0) (by simp [results, Tryd.results118, go_sem, *]) rfl ⟨rfl, by (repeat (first | with_reducible exact Below.refl _ _ | with_reducible assumption | with_reducible refine below_drewN ?_ _ | with_reducible refine Below.drew ?_ | with_reducible refine Below.alloc ?_ (by first | omega | (simp; done) | (simp; omega)) _ | with_reducible refine Below.setCell ?_ (by first | omega | (simp; done) | (simp; omega)) _ | with_reducible refine Below.trans ?_ (Below.mono (by assumption) (by first | omega | (simp; done) | (simp; omega)))))⟩

theorem dirvec_17 (w : World) (hT : LT true w) : Calls Tryd.prog 118 #[.int .i64 17] w (RetB (sv 1 0 (-1) 1) w) := by
  have t0 : w.cell? ⟨0, 6, none⟩ = some (.int .i64 1) := (hT.lv rfl).2 6 (by decide)
  have t1 : w.cell? ⟨0, 7, none⟩ = some (.int .i64 0) := (hT.lv rfl).2 7 (by decide)
  have t2 : w.cell? ⟨0, 8, none⟩ = some (.int .i64 0) := (hT.lv rfl).2 8 (by decide)
  have t3 : w.cell? ⟨0, 9, none⟩ = some (.int .i64 (-1)) := (hT.lv rfl).2 9 (by decide)
  have t4 : w.cell? ⟨0, 10, none⟩ = some (.int .i64 1) := (hT.lv rfl).2 10 (by decide)
  have t5 : w.cell? ⟨0, 11, none⟩ = some (.int .i64 0) := (hT.lv rfl).2 11 (by decide)
  have zz0 : w.heap.size < w.heap.size + 1 + 1 := by omega
  have hg := (hT.lv rfl).1
  go_enter Tryd.func118, Tryd.ntmps118
  go_wp2_with fail
  all_goals exact bodyPost_ret (v := sv 1 0 (-1) 1) (by simp [results, Tryd.results118, go_sem, *]) rfl ⟨rfl, by (repeat (first | with_reducible exact Below.refl _ _ | with_reducible assumption | with_reducible refine below_drewN ?_ _ | with_reducible refine Below.drew ?_ | with_reducible refine Below.alloc ?_ (by first | omega | (simp; done) | (simp; omega)) _ | with_reducible refine Below.setCell ?_ (by first | omega | (simp; done) | (simp; omega)) _ | with_reducible refine Below.trans ?_ (Below.mono (by assumption) (by first | omega | (simp; done) | (simp; omega)))))⟩

theorem dirvec_18 (w : World) (hT : LT true w) : Calls Tryd.prog 118 #[.int .i64 18] w (RetB (sv 1 0 1 0) w) := by
  have t0 : w.cell? ⟨0, 12, none⟩ = some (.int .i64 1) := (hT.lv rfl).2 12 (by decide)
  have t1 : w.cell? ⟨0, 13, none⟩ = some (.int .i64 0) := (hT.lv rfl).2 13 (by decide)
  have t2 : w.cell? ⟨0, 14, none⟩ = some (.int .i64 0) := (hT.lv rfl).2 14 (by decide)
  have t3 : w.cell? ⟨0, 15, none⟩ = some (.int .i64 1) := (hT.lv rfl).2 15 (by decide)
  have t4 : w.cell? ⟨0, 16, none⟩ = some (.int .i64 0) := (hT.lv rfl).2 16 (by decide)
  have t5 : w.cell? ⟨0, 17, none⟩ = some (.int .i64 0) := (hT.lv rfl).2 17 (by decide)
  have zz0 : w.heap.size < w.heap.size + 1 + 1 := by omega
  have hg := (hT.lv rfl).1
  go_enter Tryd.func118, Tryd.ntmps118
  go_wp2_with fail
  all_goals exact bodyPost_ret (v := sv 1 0 1 0) (by simp [results, Tryd.results118, go_sem, *]) rfl ⟨rfl, by (repeat (first | with_reducible exact Below.refl _ _ | with_reducible assumption | with_reducible refine below_drewN ?_ _ | with_reducible refine Below.drew ?_ | with_reducible refine Below.alloc ?_ (by first | omega | (simp; done) | (simp; omega)) _ | with_reducible refine Below.setCell ?_ (by first | omega | (simp; done) | (simp; omega)) _ | with_reducible refine Below.trans ?_ (Below.mono (by assumption) (by first | omega | (simp; done) | (simp; omega)))))⟩

theorem dirvec_19 (w : World) (hT : LT true w) : Calls Tryd.prog 118 #[.int .i64 19] w (RetB (sv (-1) 1 1 0) w) := by
  have t0 : w.cell? ⟨0, 18, none⟩ = some (.int .i64 (-1)) := (hT.lv rfl).2 18 (by decide)
  have t1 : w.cell? ⟨0, 19, none⟩ = some (.int .i64 1) := (hT.lv rfl).2 19 (by decide)
  have t2 : w.cell? ⟨0, 20, none⟩ = some (.int .i64 0) := (hT.lv rfl).2 20 (by decide)
  have t3 : w.cell? ⟨0, 21, none⟩ = some (.int .i64 1) := (hT.lv rfl).2 21 (by decide)
  have t4 : w.cell? ⟨0, 22, none⟩ = some (.int .i64 0) := (hT.lv rfl).2 22 (by decide)
  have t5 : w.cell? ⟨0, 23, none⟩ = some (.int .i64 0) := (hT.lv rfl).2 23 (by decide)
  have zz0 : w.heap.size < w.heap.size + 1 + 1 := by omega
  have hg := (hT.lv rfl).1
  go_enter Tryd.func118, Tryd.ntmps118
  go_wp2_with fail
  all_goals exact bodyPost_ret (v := sv (-1) 1 1 0) (by simp [results, Tryd.results118, go_sem, *]) rfl ⟨rfl, by (repeat (first | with_reducible exact Below.refl _ _ | with_reducible assumption | with_reducible refine below_drewN ?_ _ | with_reducible refine Below.drew ?_ | with_reducible refine Below.alloc ?_ (by first | omega | (simp; done) | (simp; omega)) _ | with_reducible refine Below.setCell ?_ (by first | omega | (simp; done) | (simp; omega)) _ | with_reducible refine Below.trans ?_ (Below.mono (by assumption) (by first | omega | (simp; done) | (simp; omega)))))⟩

theorem dirvec_20 (w : World) (hT : LT true w) : Calls Tryd.prog 118 #[.int .i64 20] w (RetB (sv 0 0 1 0) w) := by
  have t0 : w.cell? ⟨0, 24, none⟩ = some (.int .i64 0) := (hT.lv rfl).2 24 (by decide)
  have t1 : w.cell? ⟨0, 25, none⟩ = some (.int .i64 0) := (hT.lv rfl).2 25 (by decide)
  have t2 : w.cell? ⟨0, 26, none⟩ = some (.int .i64 0) := (hT.lv rfl).2 26 (by decide)
  have t3 : w.cell? ⟨0, 27, none⟩ = some (.int .i64 1) := (hT.lv rfl).2 27 (by decide)
  have t4 : w.cell? ⟨0, 28, none⟩ = some (.int .i64 0) := (hT.lv rfl).2 28 (by decide)
  have t5 : w.cell? ⟨0, 29, none⟩ = some (.int .i64 0) := (hT.lv rfl).2 29 (by decide)
  have zz0 : w.heap.size < w.heap.size + 1 + 1 := by omega
  have hg := (hT.lv rfl).1
  go_enter Tryd.func118, Tryd.ntmps118
  go_wp2_with fail
  all_goals exact bodyPost_ret (v := sv 0 0 1 0) (by simp [results, Tryd.results118, go_sem, *]) rfl ⟨rfl, by (repeat (first | with_reducible exact Below.refl _ _ | with_reducible assumption | with_reducible refine below_drewN ?_ _ | with_reducible refine Below.drew ?_ | with_reducible refine Below.alloc ?_ (by first | omega | (simp; done) | (simp; omega)) _ | with_reducible refine Below.setCell ?_ (by first | omega | (simp; done) | (simp; omega)) _ | with_reducible refine Below.trans ?_ (Below.mono (by assumption) (by first | omega | (simp; done) | (simp; omega)))))⟩

theorem dirvec_21 (w : World) (hT : LT true w) : Calls Tryd.prog 118 #[.int .i64 21] w (RetB (sv 1 (-1) 1 0) w) := by
  have t0 : w.cell? ⟨0, 30, none⟩ = some (.int .i64 1) := (hT.lv rfl).2 30 (by decide)
  have t1 : w.cell? ⟨0, 31, none⟩ = some (.int .i64 (-1)) := (hT.lv rfl).2 31 (by decide)
  have t2 : w.cell? ⟨0, 32, none⟩ = some (.int .i64 0) := (hT.lv rfl).2 32 (by decide)
  have t3 : w.cell? ⟨0, 33, none⟩ = some (.int .i64 1) := (hT.lv rfl).2 33 (by decide)
  have t4 : w.cell? ⟨0, 34, none⟩ = some (.int .i64 0) := (hT.lv rfl).2 34 (by decide)
  have t5 : w.cell? ⟨0, 35, none⟩ = some (.int .i64 0) := (hT.lv rfl).2 35 (by decide)
  have zz0 : w.heap.size < w.heap.size + 1 + 1 := by omega
  have hg := (hT.lv rfl).1
  go_enter Tryd.func118, Tryd.ntmps118
  go_wp2_with fail
  all_goals exact bodyPost_ret (v := sv 1 (-1) 1 0) (by simp [results, Tryd.results118, go_sem, *]) rfl ⟨rfl, by (repeat (first | with_reducible exact Below.refl _ _ | with_reducible assumption | with_reducible refine below_drewN ?_ _ | with_reducible refine Below.drew ?_ | with_reducible refine Below.alloc ?_ (by first | omega | (simp; done) | (simp; omega)) _ | with_reducible refine Below.setCell ?_ (by first | omega | (simp; done) | (simp; omega)) _ | with_reducible refine Below.trans ?_ (Below.mono (by assumption) (by first | omega | (simp; done) | (simp; omega)))))⟩

theorem dirvec_22 (w : World) (hT : LT true w) : Calls Tryd.prog 118 #[.int .i64 22] w (RetB (sv (-1) 0 1 0) w) := by
  have t0 : w.cell? ⟨0, 36, none⟩ = some (.int .i64 (-1)) := (hT.lv rfl).2 36 (by decide)
  have t1 : w.cell? ⟨0, 37, none⟩ = some (.int .i64 0) := (hT.lv rfl).2 37 (by decide)
  have t2 : w.cell? ⟨0, 38, none⟩ = some (.int .i64 0) := (hT.lv rfl).2 38 (by decide)
  have t3 : w.cell? ⟨0, 39, none⟩ = some (.int .i64 1) := (hT.lv rfl).2 39 (by decide)
  have t4 : w.cell? ⟨0, 40, none⟩ = some (.int .i64 0) := (hT.lv rfl).2 40 (by decide)
  have t5 : w.cell? ⟨0, 41, none⟩ = some (.int .i64 0) := (hT.lv rfl).2 41 (by decide)
  have zz0 : w.heap.size < w.heap.size + 1 + 1 := by omega
  have hg := (hT.lv rfl).1
  go_enter Tryd.func118, Tryd.ntmps118
  go_wp2_with fail
  all_goals exact bodyPost_ret (v := sv (-1) 0 1 0) (by simp [results, Tryd.results118, go_sem, *]) rfl ⟨rfl, by (repeat (first | with_reducible exact Below.refl _ _ | with_reducible assumption | with_reducible refine below_drewN ?_ _ | with_reducible refine Below.drew ?_ | with_reducible refine Below.alloc ?_ (by first | omega | (simp; done) | (simp; omega)) _ | with_reducible refine Below.setCell ?_ (by first | omega | (simp; done) | (simp; omega)) _ | with_reducible refine Below.trans ?_ (Below.mono (by assumption) (by first | omega | (simp; done) | (simp; omega)))))⟩

theorem dirvec_23 (w : World) (hT : LT true w) : Calls Tryd.prog 118 #[.int .i64 23] w (RetB (sv (-1) 0 (-1) 1) w) := by
  have t0 : w.cell? ⟨0, 42, none⟩ = some (.int .i64 (-1)) := (hT.lv rfl).2 42 (by decide)
  have t1 : w.cell? ⟨0, 43, none⟩ = some (.int .i64 0) := (hT.lv rfl).2 43 (by decide)
  have t2 : w.cell? ⟨0, 44, none⟩ = some (.int .i64 0) := (hT.lv rfl).2 44 (by decide)
  have t3 : w.cell? ⟨0, 45, none⟩ = some (.int .i64 (-1)) := (hT.lv rfl).2 45 (by decide)
  have t4 : w.cell? ⟨0, 46, none⟩ = some (.int .i64 1) := (hT.lv rfl).2 46 (by decide)
  have t5 : w.cell? ⟨0, 47, none⟩ = some (.int .i64 0) := (hT.lv rfl).2 47 (by decide)
  have zz0 : w.heap.size < w.heap.size + 1 + 1 := by omega
  have hg := (hT.lv rfl).1
  go_enter Tryd.func118, Tryd.ntmps118
  go_wp2_with fail
  all_goals exact bodyPost_ret (v := sv (-1) 0 (-1) 1) (by simp [results, Tryd.results118, go_sem, *]) rfl ⟨rfl, by (repeat (first | with_reducible exact Below.refl _ _ | with_reducible assumption | with_reducible refine below_drewN ?_ _ | with_reducible refine Below.drew ?_ | with_reducible refine Below.alloc ?_ (by first | omega | (simp; done) | (simp; omega)) _ | with_reducible refine Below.setCell ?_ (by first | omega | (simp; done) | (simp; omega)) _ | with_reducible refine Below.trans ?_ (Below.mono (by assumption) (by first | omega | (simp; done) | (simp; omega)))))⟩

theorem dirvec_24 (w : World) (hT : LT true w) : Calls Tryd.prog 118 #[.int .i64 24] w (RetB (sv (-1) 0 0 0) w) := by
  have t0 : w.cell? ⟨0, 0, none⟩ = some (.int .i64 1) := (hT.lv rfl).2 0 (by decide)
  have t1 : w.cell? ⟨0, 1, none⟩ = some (.int .i64 0) := (hT.lv rfl).2 1 (by decide)
  have t2 : w.cell? ⟨0, 2, none⟩ = some (.int .i64 0) := (hT.lv rfl).2 2 (by decide)
  have t3 : w.cell? ⟨0, 3, none⟩ = some (.int .i64 0) := (hT.lv rfl).2 3 (by decide)
  have t4 : w.cell? ⟨0, 4, none⟩ = some (.int .i64 0) := (hT.lv rfl).2 4 (by decide)
  have t5 : w.cell? ⟨0, 5, none⟩ = some (.int .i64 0) := (hT.lv rfl).2 5 (by decide)
  have N1 := Lib.hid (show ∀ w, Calls Tryd.prog 157 #[num 1 0 0] w (RetB (num (-1) 0 0) w) from fun w => gneg_any 1 0 0 w (by omega) (by omega) (by omega) (by omega))
  have N2 := Lib.hid (show ∀ w, Calls Tryd.prog 157 #[num 0 0 0] w (RetB (num 0 0 0) w) from fun w => gneg_any 0 0 0 w (by omega) (by omega) (by omega) (by omega))
  have zz0 : w.heap.size < w.heap.size + 1 + 1 := by omega
  have hg := (hT.lv rfl).1
  go_enter Tryd.func118, Tryd.ntmps118
  go_wp2_with fail
  have tok1 : True := trivial
  go_region_held3 (fun w' => w'.cell? ⟨w.heap.size + 1, 0, none⟩ = some (.int .i64 1) ∧ w'.cell? ⟨w.heap.size + 1, 1, none⟩ = some (.int .i64 0) ∧ w'.cell? ⟨w.heap.size + 1, 2, none⟩ = some (.int .i64 0) ∧ w'.cell? ⟨w.heap.size + 1, 3, none⟩ = some (.int .i64 0) ∧ w'.cell? ⟨w.heap.size + 1, 4, none⟩ = some (.int .i64 0) ∧ w'.cell? ⟨w.heap.size + 1, 5, none⟩ = some (.int .i64 0)) ((first | (go_simp; done) | (simp [*]; done)))
    ((first
    | (go_at_call 157; have _t := tok1; clear tok1; refine (N1.out _).mono ?_; rintro e w1 ⟨rfl, hb1⟩; (try replace hb1 := Below.undrew hb1); obtain ⟨hc1, hf1⟩ := bcell hb1; have hz1 := hb1.size; (try simp at hz1); (try have z1_0 : w.heap.size < w1.heap.size := (by omega)); (try have z1_1 : w.heap.size + 1 < w1.heap.size := (by omega)))
    | (go_at_call 157; refine (N2.out _).mono ?_; rintro e w2 ⟨rfl, hb2⟩; (try replace hb2 := Below.undrew hb2); obtain ⟨hc2, hf2⟩ := bcell hb2; have hz2 := hb2.size; (try simp at hz2); (try have z2_0 : w.heap.size < w2.heap.size := (by omega)); (try have z2_1 : w.heap.size + 1 < w2.heap.size := (by omega)))))
  all_goals go_wp2_with fail
  all_goals exact bodyPost_ret (v := sv (-1) 0 0 0) (by simp [results, Tryd.results118, go_sem, *]) rfl ⟨rfl, by (repeat (first | with_reducible exact Below.refl _ _ | with_reducible assumption | with_reducible refine below_drewN ?_ _ | with_reducible refine Below.drew ?_ | with_reducible refine Below.alloc ?_ (by first | omega | (simp; done) | (simp; omega)) _ | with_reducible refine Below.setCell ?_ (by first | omega | (simp; done) | (simp; omega)) _ | with_reducible refine Below.trans ?_ (Below.mono (by assumption) (by first | omega | (simp; done) | (simp; omega)))))⟩

theorem dirvec_25 (w : World) (hT : LT true w) : Calls Tryd.prog 118 #[.int .i64 25] w (RetB (sv (-1) 0 1 (-1)) w) := by
  have t0 : w.cell? ⟨0, 6, none⟩ = some (.int .i64 1) := (hT.lv rfl).2 6 (by decide)
  have t1 : w.cell? ⟨0, 7, none⟩ = some (.int .i64 0) := (hT.lv rfl).2 7 (by decide)
  have t2 : w.cell? ⟨0, 8, none⟩ = some (.int .i64 0) := (hT.lv rfl).2 8 (by decide)
  have t3 : w.cell? ⟨0, 9, none⟩ = some (.int .i64 (-1)) := (hT.lv rfl).2 9 (by decide)
  have t4 : w.cell? ⟨0, 10, none⟩ = some (.int .i64 1) := (hT.lv rfl).2 10 (by decide)
  have t5 : w.cell? ⟨0, 11, none⟩ = some (.int .i64 0) := (hT.lv rfl).2 11 (by decide)
  have N1 := Lib.hid (show ∀ w, Calls Tryd.prog 157 #[num 1 0 0] w (RetB (num (-1) 0 0) w) from fun w => gneg_any 1 0 0 w (by omega) (by omega) (by omega) (by omega))
  have N2 := Lib.hid (show ∀ w, Calls Tryd.prog 157 #[num (-1) 1 0] w (RetB (num 1 (-1) 0) w) from fun w => gneg_any (-1) 1 0 w (by omega) (by omega) (by omega) (by omega))
  have zz0 : w.heap.size < w.heap.size + 1 + 1 := by omega
  have hg := (hT.lv rfl).1
  go_enter Tryd.func118, Tryd.ntmps118
  go_wp2_with fail
  have tok1 : True := trivial
  go_region_held3 (fun w' => w'.cell? ⟨w.heap.size + 1, 0, none⟩ = some (.int .i64 1) ∧ w'.cell? ⟨w.heap.size + 1, 1, none⟩ = some (.int .i64 0) ∧ w'.cell? ⟨w.heap.size + 1, 2, none⟩ = some (.int .i64 0) ∧ w'.cell? ⟨w.heap.size + 1, 3, none⟩ = some (.int .i64 (-1)) ∧ w'.cell? ⟨w.heap.size + 1, 4, none⟩ = some (.int .i64 1) ∧ w'.cell? ⟨w.heap.size + 1, 5, none⟩ = some (.int .i64 0)) ((first | (go_simp; done) | (simp [*]; done)))
    ((first
    | (go_at_call 157; have _t := tok1; clear tok1; refine (N1.out _).mono ?_; rintro e w1 ⟨rfl, hb1⟩; (try replace hb1 := Below.undrew hb1); obtain ⟨hc1, hf1⟩ := bcell hb1; have hz1 := hb1.size; (try simp at hz1); (try have z1_0 : w.heap.size < w1.heap.size := (by omega)); (try have z1_1 : w.heap.size + 1 < w1.heap.size := (by omega)))
    | (go_at_call 157; refine (N2.out _).mono ?_; rintro e w2 ⟨rfl, hb2⟩; (try replace hb2 := Below.undrew hb2); obtain ⟨hc2, hf2⟩ := bcell hb2; have hz2 := hb2.size; (try simp at hz2); (try have z2_0 : w.heap.size < w2.heap.size := (by omega)); (try have z2_1 : w.heap.size + 1 < w2.heap.size := (by omega)))))
  all_goals go_wp2_with fail
  all_goals exact bodyPost_ret (v := sv (-1) 0 1 (-1)) (by simp [results, Tryd.results118, go_sem, *]) rfl ⟨rfl, by (repeat (first | with_reducible exact Below.refl _ _ | with_reducible assumption | with_reducible refine below_drewN ?_ _ | with_reducible refine Below.drew ?_ | with_reducible refine Below.alloc ?_ (by first | omega | (simp; done) | (simp; omega)) _ | with_reducible refine Below.setCell ?_ (by first | omega | (simp; done) | (simp; omega)) _ | with_reducible refine Below.trans ?_ (Below.mono (by assumption) (by first | omega | (simp; done) | (simp; omega)))))⟩

theorem dirvec_26 (w : World) (hT : LT true w) : Calls Tryd.prog 118 #[.int .i64 26] w (RetB (sv (-1) 0 (-1) 0) w) := by
  have t0 : w.cell? ⟨0, 12, none⟩ = some (.int .i64 1) := (hT.lv rfl).2 12 (by decide)
  have t1 : w.cell? ⟨0, 13, none⟩ = some (.int .i64 0) := (hT.lv rfl).2 13 (by decide)
  have t2 : w.cell? ⟨0, 14, none⟩ = some (.int .i64 0) := (hT.lv rfl).2 14 (by decide)
  have t3 : w.cell? ⟨0, 15, none⟩ = some (.int .i64 1) := (hT.lv rfl).2 15 (by decide)
  have t4 : w.cell? ⟨0, 16, none⟩ = some (.int .i64 0) := (hT.lv rfl).2 16 (by decide)
  have t5 : w.cell? ⟨0, 17, none⟩ = some (.int .i64 0) := (hT.lv rfl).2 17 (by decide)
  have N1 := Lib.hid (show ∀ w, Calls Tryd.prog 157 #[num 1 0 0] w (RetB (num (-1) 0 0) w) from fun w => gneg_any 1 0 0 w (by omega) (by omega) (by omega) (by omega))
  have N2 := Lib.hid (show ∀ w, Calls Tryd.prog 157 #[num 1 0 0] w (RetB (num (-1) 0 0) w) from fun w => gneg_any 1 0 0 w (by omega) (by omega) (by omega) (by omega))
  have zz0 : w.heap.size < w.heap.size + 1 + 1 := by omega
  have hg := (hT.lv rfl).1
  go_enter Tryd.func118, Tryd.ntmps118
  go_wp2_with fail
  have tok1 : True := trivial
  go_region_held3 (fun w' => w'.cell? ⟨w.heap.size + 1, 0, none⟩ = some (.int .i64 1) ∧ w'.cell? ⟨w.heap.size + 1, 1, none⟩ = some (.int .i64 0) ∧ w'.cell? ⟨w.heap.size + 1, 2, none⟩ = some (.int .i64 0) ∧ w'.cell? ⟨w.heap.size + 1, 3, none⟩ = some (.int .i64 1) ∧ w'.cell? ⟨w.heap.size + 1, 4, none⟩ = some (.int .i64 0) ∧ w'.cell? ⟨w.heap.size + 1, 5, none⟩ = some (.int .i64 0)) ((first | (go_simp; done) | (simp [*]; done)))
    ((first
    | (go_at_call 157; have _t := tok1; clear tok1; refine (N1.out _).mono ?_; rintro e w1 ⟨rfl, hb1⟩; (try replace hb1 := Below.undrew hb1); obtain ⟨hc1, hf1⟩ := bcell hb1; have hz1 := hb1.size; (try simp at hz1); (try have z1_0 : w.heap.size < w1.heap.size := (by omega)); (try have z1_1 : w.heap.size + 1 < w1.heap.size := (by omega)))
    | (go_at_call 157; refine (N2.out _).mono ?_; rintro e w2 ⟨rfl, hb2⟩; (try replace hb2 := Below.undrew hb2); obtain ⟨hc2, hf2⟩ := bcell hb2; have hz2 := hb2.size; (try simp at hz2); (try have z2_0 : w.heap.size < w2.heap.size := (by omega)); (try have z2_1 : w.heap.size + 1 < w2.heap.size := (by omega)))))
  all_goals go_wp2_with fail
  all_goals exact bodyPost_ret (v := sv (-1) 0 (-1) 0) (by simp [results, Tryd.results118, go_sem, *]) rfl ⟨rfl, by (repeat (first | with_reducible exact Below.refl _ _ | with_reducible assumption | with_reducible refine below_drewN ?_ _ | with_reducible refine Below.drew ?_ | with_reducible refine Below.alloc ?_ (by first | omega | (simp; done) | (simp; omega)) _ | with_reducible refine Below.setCell ?_ (by first | omega | (simp; done) | (simp; omega)) _ | with_reducible refine Below.trans ?_ (Below.mono (by assumption) (by first | omega | (simp; done) | (simp; omega)))))⟩

theorem dirvec_27 (w : World) (hT : LT true w) : Calls Tryd.prog 118 #[.int .i64 27] w (RetB (sv 1 (-1) (-1) 0) w) := by
  have t0 : w.cell? ⟨0, 18, none⟩ = some (.int .i64 (-1)) := (hT.lv rfl).2 18 (by decide)
  have t1 : w.cell? ⟨0, 19, none⟩ = some (.int .i64 1) := (hT.lv rfl).2 19 (by decide)
  have t2 : w.cell? ⟨0, 20, none⟩ = some (.int .i64 0) := (hT.lv rfl).2 20 (by decide)
  have t3 : w.cell? ⟨0, 21, none⟩ = some (.int .i64 1) := (hT.lv rfl).2 21 (by decide)
  have t4 : w.cell? ⟨0, 22, none⟩ = some (.int .i64 0) := (hT.lv rfl).2 22 (by decide)
  have t5 : w.cell? ⟨0, 23, none⟩ = some (.int .i64 0) := (hT.lv rfl).2 23 (by decide)
  have N1 := Lib.hid (show ∀ w, Calls Tryd.prog 157 #[num (-1) 1 0] w (RetB (num 1 (-1) 0) w) from fun w => gneg_any (-1) 1 0 w (by omega) (by omega) (by omega) (by omega))
  have N2 := Lib.hid (show ∀ w, Calls Tryd.prog 157 #[num 1 0 0] w (RetB (num (-1) 0 0) w) from fun w => gneg_any 1 0 0 w (by omega) (by omega) (by omega) (by omega))
  have zz0 : w.heap.size < w.heap.size + 1 + 1 := by omega
  have hg := (hT.lv rfl).1
  go_enter Tryd.func118, Tryd.ntmps118
  go_wp2_with fail
  have tok1 : True := trivial
  go_region_held3 (fun w' => w'.cell? ⟨w.heap.size + 1, 0, none⟩ = some (.int .i64 (-1)) ∧ w'.cell? ⟨w.heap.size + 1, 1, none⟩ = some (.int .i64 1) ∧ w'.cell? ⟨w.heap.size + 1, 2, none⟩ = some (.int .i64 0) ∧ w'.cell? ⟨w.heap.size + 1, 3, none⟩ = some (.int .i64 1) ∧ w'.cell? ⟨w.heap.size + 1, 4, none⟩ = some (.int .i64 0) ∧ w'.cell? ⟨w.heap.size + 1, 5, none⟩ = some (.int .i64 0)) ((first | (go_simp; done) | (simp [*]; done)))
    ((first
    | (go_at_call 157; have _t := tok1; clear tok1; refine (N1.out _).mono ?_; rintro e w1 ⟨rfl, hb1⟩; (try replace hb1 := Below.undrew hb1); obtain ⟨hc1, hf1⟩ := bcell hb1; have hz1 := hb1.size; (try simp at hz1); (try have z1_0 : w.heap.size < w1.heap.size := (by omega)); (try have z1_1 : w.heap.size + 1 < w1.heap.size := (by omega)))
    | (go_at_call 157; refine (N2.out _).mono ?_; rintro e w2 ⟨rfl, hb2⟩; (try replace hb2 := Below.undrew hb2); obtain ⟨hc2, hf2⟩ := bcell hb2; have hz2 := hb2.size; (try simp at hz2); (try have z2_0 : w.heap.size < w2.heap.size := (by omega)); (try have z2_1 : w.heap.size + 1 < w2.heap.size := (by omega)))))
  all_goals go_wp2_with fail
  all_goals exact bodyPost_ret (v := sv 1 (-1) (-1) 0) (by simp [results, Tryd.results118, go_sem, *]) rfl ⟨rfl, by (repeat (first | with_reducible exact Below.refl _ _ | with_reducible assumption | with_reducible refine below_drewN ?_ _ | with_reducible refine Below.drew ?_ | with_reducible refine Below.alloc ?_ (by first | omega | (simp; done) | (simp; omega)) _ | with_reducible refine Below.setCell ?_ (by first | omega | (simp; done) | (simp; omega)) _ | with_reducible refine Below.trans ?_ (Below.mono (by assumption) (by first | omega | (simp; done) | (simp; omega)))))⟩

theorem lt28 {d : Nat} (h : d < 28) : d = 0 ∨ d = 1 ∨ d = 2 ∨ d = 3 ∨ d = 4 ∨ d = 5 ∨ d = 6 ∨ d = 7 ∨ d = 8 ∨ d = 9 ∨ d = 10 ∨ d = 11 ∨ d = 12 ∨ d = 13 ∨ d = 14 ∨ d = 15 ∨ d = 16 ∨ d = 17 ∨ d = 18 ∨ d = 19 ∨ d = 20 ∨ d = 21 ∨ d = 22 ∨ d = 23 ∨ d = 24 ∨ d = 25 ∨ d = 26 ∨ d = 27 := by omega
theorem dirvec_any (d : Nat) (hd : d < 28) (w : World) (hT : LT true w) : Calls Tryd.prog 118 #[.int .i64 d] w (RetB (dv (d % 16)) w) := by
  rcases lt28 hd with rfl | rfl | rfl | rfl | rfl | rfl | rfl | rfl | rfl | rfl | rfl | rfl | rfl | rfl | rfl | rfl | rfl | rfl | rfl | rfl | rfl | rfl | rfl | rfl | rfl | rfl | rfl | rfl
  · exact dirvec_0 w hT
  · exact dirvec_1 w hT
  · exact dirvec_2 w hT
  · exact dirvec_3 w hT
  · exact dirvec_4 w hT
  · exact dirvec_5 w hT
  · exact dirvec_6 w hT
  · exact dirvec_7 w hT
  · exact dirvec_8 w hT
  · exact dirvec_9 w hT
  · exact dirvec_10 w hT
  · exact dirvec_11 w hT
  · exact dirvec_12 w hT
  · exact dirvec_13 w hT
  · exact dirvec_14 w hT
  · exact dirvec_15 w hT
  · exact dirvec_16 w hT
  · exact dirvec_17 w hT
  · exact dirvec_18 w hT
  · exact dirvec_19 w hT
  · exact dirvec_20 w hT
  · exact dirvec_21 w hT
  · exact dirvec_22 w hT
  · exact dirvec_23 w hT
  · exact dirvec_24 w hT
  · exact dirvec_25 w hT
  · exact dirvec_26 w hT
  · exact dirvec_27 w hT
end Go.Proofs.YtafbdnjabgfjeaaDoor
