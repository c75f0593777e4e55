/- The model's vectors of directions. -/
import Derived.Test.YtafbdnjabgfjeaaDoorGyt
import Derived.Deep.RegionHeld3
import Derived.Deep.DeepCutAuto
import Derived.Deep.DrawnRows
namespace Go.Proofs.YtafbdnjabgfjeaaDoor
open Go Go.RowKit OriM
variable {β : Bool}
attribute [local go_sem ↓] Go.wp_at_zero Go.wp_at_succ
set_option maxHeartbeats 1000000 in
theorem svec_0 (w : World) : Calls Tryd.prog 130 #[.int .i64 0] w (RetB (sv 1 0 0 0) w) := by
  have HM := Lib.hid (fun w => smod_nat 0 w)
  go_enter Tryd.func130, Tryd.ntmps130
  go_wp2_with fail
  refine (HM.out _).mono ?_
  rintro e w1 ⟨rfl, rfl⟩
  go_wp2_with fail
  exact bodyPost_ret (v := sv 1 0 0 0) (by simp [results, Tryd.results130, go_sem, *]) rfl ⟨rfl, by (repeat (first | with_reducible exact Below.refl _ _ | with_reducible assumption | with_reducible refine below_drewN ?_ _ | with_reducible refine Below.drew ?_ | with_reducible refine Below.alloc ?_ (by first | omega | (simp; done) | (simp; omega)) _ | with_reducible refine Below.setCell ?_ (by first | omega | (simp; done) | (simp; omega)) _ | with_reducible refine Below.trans ?_ (Below.mono (by assumption) (by first | omega | (simp; done) | (simp; omega)))))⟩

set_option maxHeartbeats 1000000 in
theorem svec_1 (w : World) : Calls Tryd.prog 130 #[.int .i64 1] w (RetB (sv 1 0 (-1) 1) w) := by
  have HM := Lib.hid (fun w => smod_nat 1 w)
  go_enter Tryd.func130, Tryd.ntmps130
  go_wp2_with fail
  refine (HM.out _).mono ?_
  rintro e w1 ⟨rfl, rfl⟩
  go_wp2_with fail
  exact bodyPost_ret (v := sv 1 0 (-1) 1) (by simp [results, Tryd.results130, go_sem, *]) rfl ⟨rfl, by (repeat (first | with_reducible exact Below.refl _ _ | with_reducible assumption | with_reducible refine below_drewN ?_ _ | with_reducible refine Below.drew ?_ | with_reducible refine Below.alloc ?_ (by first | omega | (simp; done) | (simp; omega)) _ | with_reducible refine Below.setCell ?_ (by first | omega | (simp; done) | (simp; omega)) _ | with_reducible refine Below.trans ?_ (Below.mono (by assumption) (by first | omega | (simp; done) | (simp; omega)))))⟩

set_option maxHeartbeats 1000000 in
theorem svec_2 (w : World) : Calls Tryd.prog 130 #[.int .i64 2] w (RetB (sv 1 0 1 0) w) := by
  have HM := Lib.hid (fun w => smod_nat 2 w)
  go_enter Tryd.func130, Tryd.ntmps130
  go_wp2_with fail
  refine (HM.out _).mono ?_
  rintro e w1 ⟨rfl, rfl⟩
  go_wp2_with fail
  exact bodyPost_ret (v := sv 1 0 1 0) (by simp [results, Tryd.results130, go_sem, *]) rfl ⟨rfl, by (repeat (first | with_reducible exact Below.refl _ _ | with_reducible assumption | with_reducible refine below_drewN ?_ _ | with_reducible refine Below.drew ?_ | with_reducible refine Below.alloc ?_ (by first | omega | (simp; done) | (simp; omega)) _ | with_reducible refine Below.setCell ?_ (by first | omega | (simp; done) | (simp; omega)) _ | with_reducible refine Below.trans ?_ (Below.mono (by assumption) (by first | omega | (simp; done) | (simp; omega)))))⟩

set_option maxHeartbeats 1000000 in
theorem svec_3 (w : World) : Calls Tryd.prog 130 #[.int .i64 3] w (RetB (sv (-1) 1 1 0) w) := by
  have HM := Lib.hid (fun w => smod_nat 3 w)
  go_enter Tryd.func130, Tryd.ntmps130
  go_wp2_with fail
  refine (HM.out _).mono ?_
  rintro e w1 ⟨rfl, rfl⟩
  go_wp2_with fail
  exact bodyPost_ret (v := sv (-1) 1 1 0) (by simp [results, Tryd.results130, go_sem, *]) rfl ⟨rfl, by (repeat (first | with_reducible exact Below.refl _ _ | with_reducible assumption | with_reducible refine below_drewN ?_ _ | with_reducible refine Below.drew ?_ | with_reducible refine Below.alloc ?_ (by first | omega | (simp; done) | (simp; omega)) _ | with_reducible refine Below.setCell ?_ (by first | omega | (simp; done) | (simp; omega)) _ | with_reducible refine Below.trans ?_ (Below.mono (by assumption) (by first | omega | (simp; done) | (simp; omega)))))⟩

set_option maxHeartbeats 1000000 in
theorem svec_4 (w : World) : Calls Tryd.prog 130 #[.int .i64 4] w (RetB (sv 0 0 1 0) w) := by
  have HM := Lib.hid (fun w => smod_nat 4 w)
  go_enter Tryd.func130, Tryd.ntmps130
  go_wp2_with fail
  refine (HM.out _).mono ?_
  rintro e w1 ⟨rfl, rfl⟩
  go_wp2_with fail
  exact bodyPost_ret (v := sv 0 0 1 0) (by simp [results, Tryd.results130, go_sem, *]) rfl ⟨rfl, by (repeat (first | with_reducible exact Below.refl _ _ | with_reducible assumption | with_reducible refine below_drewN ?_ _ | with_reducible refine Below.drew ?_ | with_reducible refine Below.alloc ?_ (by first | omega | (simp; done) | (simp; omega)) _ | with_reducible refine Below.setCell ?_ (by first | omega | (simp; done) | (simp; omega)) _ | with_reducible refine Below.trans ?_ (Below.mono (by assumption) (by first | omega | (simp; done) | (simp; omega)))))⟩

set_option maxHeartbeats 1000000 in
theorem svec_5 (w : World) : Calls Tryd.prog 130 #[.int .i64 5] w (RetB (sv 1 (-1) 1 0) w) := by
  have HM := Lib.hid (fun w => smod_nat 5 w)
  go_enter Tryd.func130, Tryd.ntmps130
  go_wp2_with fail
  refine (HM.out _).mono ?_
  rintro e w1 ⟨rfl, rfl⟩
  go_wp2_with fail
  exact bodyPost_ret (v := sv 1 (-1) 1 0) (by simp [results, Tryd.results130, go_sem, *]) rfl ⟨rfl, by (repeat (first | with_reducible exact Below.refl _ _ | with_reducible assumption | with_reducible refine below_drewN ?_ _ | with_reducible refine Below.drew ?_ | with_reducible refine Below.alloc ?_ (by first | omega | (simp; done) | (simp; omega)) _ | with_reducible refine Below.setCell ?_ (by first | omega | (simp; done) | (simp; omega)) _ | with_reducible refine Below.trans ?_ (Below.mono (by assumption) (by first | omega | (simp; done) | (simp; omega)))))⟩

set_option maxHeartbeats 1000000 in
theorem svec_6 (w : World) : Calls Tryd.prog 130 #[.int .i64 6] w (RetB (sv (-1) 0 1 0) w) := by
  have HM := Lib.hid (fun w => smod_nat 6 w)
  go_enter Tryd.func130, Tryd.ntmps130
  go_wp2_with fail
  refine (HM.out _).mono ?_
  rintro e w1 ⟨rfl, rfl⟩
  go_wp2_with fail
  exact bodyPost_ret (v := sv (-1) 0 1 0) (by simp [results, Tryd.results130, go_sem, *]) rfl ⟨rfl, by (repeat (first | with_reducible exact Below.refl _ _ | with_reducible assumption | with_reducible refine below_drewN ?_ _ | with_reducible refine Below.drew ?_ | with_reducible refine Below.alloc ?_ (by first | omega | (simp; done) | (simp; omega)) _ | with_reducible refine Below.setCell ?_ (by first | omega | (simp; done) | (simp; omega)) _ | with_reducible refine Below.trans ?_ (Below.mono (by assumption) (by first | omega | (simp; done) | (simp; omega)))))⟩

set_option maxHeartbeats 1000000 in
theorem svec_7 (w : World) : Calls Tryd.prog 130 #[.int .i64 7] w (RetB (sv (-1) 0 (-1) 1) w) := by
  have HM := Lib.hid (fun w => smod_nat 7 w)
  go_enter Tryd.func130, Tryd.ntmps130
  go_wp2_with fail
  refine (HM.out _).mono ?_
  rintro e w1 ⟨rfl, rfl⟩
  go_wp2_with fail
  exact bodyPost_ret (v := sv (-1) 0 (-1) 1) (by simp [results, Tryd.results130, go_sem, *]) rfl ⟨rfl, by (repeat (first | with_reducible exact Below.refl _ _ | with_reducible assumption | with_reducible refine below_drewN ?_ _ | with_reducible refine Below.drew ?_ | with_reducible refine Below.alloc ?_ (by first | omega | (simp; done) | (simp; omega)) _ | with_reducible refine Below.setCell ?_ (by first | omega | (simp; done) | (simp; omega)) _ | with_reducible refine Below.trans ?_ (Below.mono (by assumption) (by first | omega | (simp; done) | (simp; omega)))))⟩

set_option maxHeartbeats 1000000 in
theorem svec_8 (w : World) : Calls Tryd.prog 130 #[.int .i64 8] w (RetB (sv (-1) 0 0 0) w) := by
  have HM := Lib.hid (fun w => smod_nat 8 w)
  go_enter Tryd.func130, Tryd.ntmps130
  go_wp2_with fail
  refine (HM.out _).mono ?_
  rintro e w1 ⟨rfl, rfl⟩
  go_wp2_with fail
  exact bodyPost_ret (v := sv (-1) 0 0 0) (by simp [results, Tryd.results130, go_sem, *]) rfl ⟨rfl, by (repeat (first | with_reducible exact Below.refl _ _ | with_reducible assumption | with_reducible refine below_drewN ?_ _ | with_reducible refine Below.drew ?_ | with_reducible refine Below.alloc ?_ (by first | omega | (simp; done) | (simp; omega)) _ | with_reducible refine Below.setCell ?_ (by first | omega | (simp; done) | (simp; omega)) _ | with_reducible refine Below.trans ?_ (Below.mono (by assumption) (by first | omega | (simp; done) | (simp; omega)))))⟩

set_option maxHeartbeats 1000000 in
theorem svec_9 (w : World) : Calls Tryd.prog 130 #[.int .i64 9] w (RetB (sv (-1) 0 1 (-1)) w) := by
  have HM := Lib.hid (fun w => smod_nat 9 w)
  go_enter Tryd.func130, Tryd.ntmps130
  go_wp2_with fail
  refine (HM.out _).mono ?_
  rintro e w1 ⟨rfl, rfl⟩
  go_wp2_with fail
  exact bodyPost_ret (v := sv (-1) 0 1 (-1)) (by simp [results, Tryd.results130, go_sem, *]) rfl ⟨rfl, by (repeat (first | with_reducible exact Below.refl _ _ | with_reducible assumption | with_reducible refine below_drewN ?_ _ | with_reducible refine Below.drew ?_ | with_reducible refine Below.alloc ?_ (by first | omega | (simp; done) | (simp; omega)) _ | with_reducible refine Below.setCell ?_ (by first | omega | (simp; done) | (simp; omega)) _ | with_reducible refine Below.trans ?_ (Below.mono (by assumption) (by first | omega | (simp; done) | (simp; omega)))))⟩

end Go.Proofs.YtafbdnjabgfjeaaDoor
