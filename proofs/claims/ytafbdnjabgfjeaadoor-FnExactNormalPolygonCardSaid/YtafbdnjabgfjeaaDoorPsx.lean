/- Valid polygons by the model. -/
import Derived.Test.YtafbdnjabgfjeaaDoorPolC
import Derived.Test.YtafbdnjabgfjeaaDoorGyt
namespace Go.Proofs.YtafbdnjabgfjeaaDoor
open Go Go.RowKit OriM
namespace Pol
variable {β : Bool}

theorem sBf_at {fs : List Int} {i j : Nat} (hi : vAt fs i = true) (hj : vAt fs j = true) (w : World) (hT : LT β w) :
    Calls Tryd.prog 142 #[ptV fs i, ptV fs j] w (RetB (.int .i64 (cpAt fs i j)) w) := by
  unfold cpAt cpV
  unfold vAt at hi hj
  rw [hi, hj, Bool.true_and, if_pos rfl]
  unfold vP at hi hj
  rw [Bool.and_eq_true] at hi hj
  have z := cmpV_zero hi.1 hj.1
  by_cases he : eqB (nth fs (i * 6)) (nth fs (i * 6 + 1)) (nth fs (i * 6 + 2)) (nth fs (j * 6)) (nth fs (j * 6 + 1)) (nth fs (j * 6 + 2)) = true
  · rw [if_pos he]
    refine sBf_y _ _ _ _ _ _ _ _ _ _ _ _ _ w hT (Lib.hid fun w _ => ?_) (Lib.hid fun w _ => sCmp_any hi.2 hj.2 w)
    have := sCmp_any hi.1 hj.1 w
    rwa [z.2 he] at this
  · rw [if_neg he]
    refine sBf_x _ _ _ _ _ _ _ _ _ _ _ _ _ w hT ?_ (Lib.hid fun w _ => sCmp_any hi.1 hj.1 w)
    rw [beq_eq_false_iff_ne]; exact fun e => he (z.1 e)

set_option maxHeartbeats 8000000 in
set_option maxRecDepth 100000 in
theorem sPo_any (v : Value) (n : Nat) (fs : List Int) (w : World) (h : SlF w w.heap.size v n fs) (hT : LT β w) (hl : n ≤ 1048576) :
    Calls Tryd.prog 86 #[v] w (RetQb (MP n fs) w) := by
  obtain ⟨h6, A, c, rfl, hc, hcell⟩ := h
  by_cases h3 : n < 3
  · clear hcell
    go_enter Tryd.func86, Tryd.ntmps86
    go_wp2_with fail
    go_ret
    exact ⟨false, rfl, iff_of_false (by simp) (fun h => by have := h.1; omega), Below.refl _ _⟩
  by_cases h16 : 16 < n
  · clear hcell
    have h3' : ¬ (n : Int) < 3 := by omega
    have h16' : (16 : Int) < (n : Int) := by omega
    go_enter Tryd.func86, Tryd.ntmps86
    go_wp2_with fail
    go_ret
    exact ⟨false, rfl, iff_of_false (by simp) (fun h => by have := h.2.1; omega), Below.refl _ _⟩
  have h3' : ¬ (n : Int) < 3 := by omega
  have h16' : ¬ (16 : Int) < (n : Int) := by omega
  have h3n : 3 ≤ n := by omega
  have h16n : n ≤ 16 := by omega
  have HSl := Lib.hid (show SlF w w.heap.size (.slice A n c) n fs from ⟨h6, A, c, rfl, hc, hcell⟩)
  obtain ⟨b, o, rfl, hb, hcs⟩ := hcell (by omega)
  have HC := Lib.hid hcs
  have H6 := Lib.hid h6
  clear hcs hcell h6 h3 h16
  go_enter Tryd.func86, Tryd.ntmps86
  go_wp2_with fail
  go_loopw [4] (fun i wr => ∃ k : Nat, k ≤ n ∧ i = .int .i64 k ∧ Hid (∀ j, j < k → vAt fs j = true ∧ (0 < j → cpAt fs 0 j < 0)) ∧ Below w.heap.size w wr) (fun i _ => n - (intOf i).toNat)
  case atStart => exact ⟨0, Nat.zero_le _, rfl, Lib.hid (fun j hj => absurd hj (by omega)), Below.refl _ _⟩
  case round =>
    obtain ⟨k, hk, rfl, hall, hbel⟩ := hrel
    have hsz := hbel.size
    have hbw : b < wr.heap.size := by omega
    by_cases hlt : k < n
    · obtain ⟨a0, a1, a2, a3, a4, a5⟩ := six (HC.out.below hbel hb) H6.out hlt
      have HP := Lib.hid (fun w (hT : LT β w) => sLP_any (nth fs (k * 6)) (nth fs (k * 6 + 1)) (nth fs (k * 6 + 2)) (nth fs (k * 6 + 3)) (nth fs (k * 6 + 4)) (nth fs (k * 6 + 5)) w hT)
      have j0 : (0 : Int) ≤ (k : Int) := by omega
      have j1 : (k : Int) < (n : Int) := by omega
      cases hv : vAt fs k
      · have HN := Lib.hid hv
        unfold vAt at hv
        rw [hv] at HP
        clear hv
        go_wp2_with fail
        refine wp_region_held_drew (S := fun w' => w'.cell? ⟨b, o + k * 6, none⟩ = some (.int .i64 (nth fs (k * 6))) ∧ w'.cell? ⟨b, o + k * 6 + 1, none⟩ = some (.int .i64 (nth fs (k * 6 + 1))) ∧ w'.cell? ⟨b, o + k * 6 + 2, none⟩ = some (.int .i64 (nth fs (k * 6 + 2))) ∧ w'.cell? ⟨b, o + k * 6 + 3, none⟩ = some (.int .i64 (nth fs (k * 6 + 3))) ∧ w'.cell? ⟨b, o + k * 6 + 4, none⟩ = some (.int .i64 (nth fs (k * 6 + 4))) ∧ w'.cell? ⟨b, o + k * 6 + 5, none⟩ = some (.int .i64 (nth fs (k * 6 + 5)))) (by kernel_rfl) ?_ (fun hHeld0 => ?_)
        · (try dsimp only); (first | (go_simp; done) | (simp [*]; done))
        refine wpAnyH_take (i := 0) (oi := ({ dst := some 23, op := Op.move (Operand.tmp 0), type := 60, pos := "l03_polygons.go:33", after := #[], guard := none } : Oper)) (v := ?_) rfl (by kernel_rfl) (by kernel_rfl) (by kernel_rfl) (fun _ _ _ h => h) (Or.inl ⟨by rfl, ?_⟩) (by assumption) ?_
        rotate_left
        · intro w' hSw; (try dsimp only at hSw); go_simp; (try with_reducible rfl)
        try simp only [Act.put, List.setIfInBounds_toArray, List.set_cons_zero, List.set_cons_succ]
        refine wpAnyH_take (i := 1) (oi := ({ dst := some 24, op := Op.move (Operand.tmp 4), type := 3, pos := "l03_polygons.go:33", after := #[], guard := none } : Oper)) (v := ?_) rfl (by kernel_rfl) (by kernel_rfl) (by kernel_rfl) (fun _ _ _ h => h) (Or.inl ⟨by rfl, ?_⟩) (by assumption) ?_
        rotate_left
        · intro w' hSw; (try dsimp only at hSw); go_simp; (try with_reducible rfl)
        try simp only [Act.put, List.setIfInBounds_toArray, List.set_cons_zero, List.set_cons_succ]
        refine wpAnyH_take (i := 2) (oi := ({ dst := some 25, op := Op.indexAddr 60 (Operand.tmp 23) (Operand.tmp 24), type := 0, pos := "l03_polygons.go:33", after := #[{ on := 0, ground := Ground.data }, { on := 1, ground := Ground.data }], guard := none } : Oper)) (v := ?_) rfl (by kernel_rfl) (by kernel_rfl) (by kernel_rfl) (fun _ _ _ h => h) (Or.inl ⟨by rfl, ?_⟩) (by assumption) ?_
        rotate_left
        · intro w' hSw; (try dsimp only at hSw); go_simp; (try with_reducible rfl)
        try simp only [Act.put, List.setIfInBounds_toArray, List.set_cons_zero, List.set_cons_succ]
        refine wpAnyH_take (i := 3) (oi := ({ dst := some 26, op := Op.load 33 (Operand.tmp 25), type := 33, pos := "l03_polygons.go:33", after := #[{ on := 2, ground := Ground.data }], guard := none } : Oper)) (v := ?_) rfl (by kernel_rfl) (by kernel_rfl) (by kernel_rfl) (fun _ _ _ h => h) (Or.inl ⟨by rfl, ?_⟩) (by assumption) ?_
        rotate_left
        · intro w' hSw; (try dsimp only at hSw); go_simp; (try with_reducible rfl)
        try simp only [Act.put, List.setIfInBounds_toArray, List.set_cons_zero, List.set_cons_succ]
        refine wpAnyH_ready (rs := [4]) (by kernel_rfl) (by simp) ?_
        refine AllReadyH.cons (o := ({ dst := some 27, op := Op.call { callee := Callee.value (Operand.func 53), args := #[Operand.tmp 26], argTypes := #[33] }, type := 4, pos := "l03_polygons.go:33", after := #[{ on := 3, ground := Ground.data }], guard := none } : Oper)) rfl (fun K hK => ?_) AllReadyH.nil
        go_simp
        go_at_call 53
        refine (HP.out _ ?_).mono ?_
        · exact LT.below (w := w) hT (by (repeat (first | with_reducible exact Below.refl _ _ | with_reducible assumption | with_reducible refine below_drewN ?_ _ | with_reducible refine Below.drew ?_ | with_reducible refine Below.alloc ?_ (by first | omega | (simp; done) | (simp; omega)) _ | with_reducible refine Below.setCell ?_ (by first | omega | (simp; done) | (simp; omega)) _ | with_reducible refine Below.trans ?_ (Below.mono (by assumption) (by first | omega | (simp; done) | (simp; omega)))))) (Nat.le_refl _)
        rintro e w5 ⟨rfl, hb5⟩
        (try replace hb5 := Below.undrew hb5); obtain ⟨hc5, hf5⟩ := bcell hb5; have hz5 := hb5.size; (try simp at hz5); have z5a : b < w5.heap.size := (by omega)
        go_wp2_with fail
        refine hK.out _ _ ?_ (fun hHeld5 => ?_)
        · (try dsimp only); (first | (go_simp; done) | (simp [*]; done))
        clear hK K
        try simp only [Act.put, List.setIfInBounds_toArray, List.set_cons_zero, List.set_cons_succ]
        refine wpAnyH_take (i := 5) (oi := ({ dst := some 28, op := Op.unOp UnOp.not 4 (Operand.tmp 27), type := 4, pos := "l03_polygons.go:33", after := #[{ on := 4, ground := Ground.data }], guard := none } : Oper)) (v := ?_) rfl (by kernel_rfl) (by kernel_rfl) (by kernel_rfl) (fun _ _ _ h => h) (Or.inl ⟨by rfl, ?_⟩) (by assumption) ?_
        rotate_left
        · intro w' hSw; (try dsimp only at hSw); go_simp; (try with_reducible rfl)
        try simp only [Act.put, List.setIfInBounds_toArray, List.set_cons_zero, List.set_cons_succ]
        refine wpAnyH_take (i := 6) (oi := ({ dst := some 29, op := Op.move (Operand.tmp 28), type := 4, pos := "l03_polygons.go:33", after := #[{ on := 5, ground := Ground.data }, { on := 4, ground := Ground.chain }], guard := none } : Oper)) (v := ?_) rfl (by kernel_rfl) (by kernel_rfl) (by kernel_rfl) (fun _ _ _ h => h) (Or.inl ⟨by rfl, ?_⟩) (by assumption) ?_
        rotate_left
        · intro w' hSw; (try dsimp only at hSw); go_simp; (try with_reducible rfl)
        try simp only [Act.put, List.setIfInBounds_toArray, List.set_cons_zero, List.set_cons_succ]
        refine wpAnyH_take (i := 7) (oi := ({ dst := some 30, op := Op.move (Operand.tmp 4), type := 3, pos := "l03_polygons.go:33", after := #[{ on := 6, ground := Ground.guard }], guard := some (6, false) } : Oper)) (v := undef) rfl (by kernel_rfl) (by kernel_rfl) (by kernel_rfl) (fun _ _ _ h => h) (Or.inr ⟨by rfl, rfl⟩) (by assumption) ?_
        try simp only [Act.put, List.setIfInBounds_toArray, List.set_cons_zero, List.set_cons_succ]
        refine wpAnyH_take (i := 8) (oi := ({ dst := some 31, op := Op.binOp BinOp.gtr 3 (Operand.tmp 30) (Operand.const (Value.int IntKind.i64 0)) 3, type := 4, pos := "l03_polygons.go:33", after := #[{ on := 7, ground := Ground.data }, { on := 6, ground := Ground.guard }], guard := some (6, false) } : Oper)) (v := undef) rfl (by kernel_rfl) (by kernel_rfl) (by kernel_rfl) (fun _ _ _ h => h) (Or.inr ⟨by rfl, rfl⟩) (by assumption) ?_
        try simp only [Act.put, List.setIfInBounds_toArray, List.set_cons_zero, List.set_cons_succ]
        refine wpAnyH_take (i := 9) (oi := ({ dst := some 32, op := Op.move (Operand.tmp 31), type := 4, pos := "l03_polygons.go:33", after := #[{ on := 8, ground := Ground.data }, { on := 6, ground := Ground.chain }, { on := 6, ground := Ground.guard }], guard := some (6, false) } : Oper)) (v := undef) rfl (by kernel_rfl) (by kernel_rfl) (by kernel_rfl) (fun _ _ _ h => h) (Or.inr ⟨by rfl, rfl⟩) (by assumption) ?_
        try simp only [Act.put, List.setIfInBounds_toArray, List.set_cons_zero, List.set_cons_succ]
        refine wpAnyH_take (i := 10) (oi := ({ dst := some 33, op := Op.move (Operand.tmp 0), type := 60, pos := "l03_polygons.go:33", after := #[{ on := 9, ground := Ground.guard }], guard := some (9, true) } : Oper)) (v := undef) rfl (by kernel_rfl) (by kernel_rfl) (by kernel_rfl) (fun _ _ _ h => h) (Or.inr ⟨by rfl, rfl⟩) (by assumption) ?_
        try simp only [Act.put, List.setIfInBounds_toArray, List.set_cons_zero, List.set_cons_succ]
        refine wpAnyH_take (i := 11) (oi := ({ dst := some 34, op := Op.indexAddr 60 (Operand.tmp 33) (Operand.const (Value.int IntKind.i64 0)), type := 0, pos := "l03_polygons.go:33", after := #[{ on := 10, ground := Ground.data }, { on := 9, ground := Ground.guard }], guard := some (9, true) } : Oper)) (v := undef) rfl (by kernel_rfl) (by kernel_rfl) (by kernel_rfl) (fun _ _ _ h => h) (Or.inr ⟨by rfl, rfl⟩) (by assumption) ?_
        try simp only [Act.put, List.setIfInBounds_toArray, List.set_cons_zero, List.set_cons_succ]
        refine wpAnyH_take (i := 12) (oi := ({ dst := some 35, op := Op.load 33 (Operand.tmp 34), type := 33, pos := "l03_polygons.go:33", after := #[{ on := 11, ground := Ground.data }, { on := 9, ground := Ground.guard }], guard := some (9, true) } : Oper)) (v := undef) rfl (by kernel_rfl) (by kernel_rfl) (by kernel_rfl) (fun _ _ _ h => h) (Or.inr ⟨by rfl, rfl⟩) (by assumption) ?_
        try simp only [Act.put, List.setIfInBounds_toArray, List.set_cons_zero, List.set_cons_succ]
        refine wpAnyH_take (i := 13) (oi := ({ dst := some 36, op := Op.move (Operand.tmp 0), type := 60, pos := "l03_polygons.go:33", after := #[{ on := 9, ground := Ground.guard }], guard := some (9, true) } : Oper)) (v := undef) rfl (by kernel_rfl) (by kernel_rfl) (by kernel_rfl) (fun _ _ _ h => h) (Or.inr ⟨by rfl, rfl⟩) (by assumption) ?_
        try simp only [Act.put, List.setIfInBounds_toArray, List.set_cons_zero, List.set_cons_succ]
        refine wpAnyH_take (i := 14) (oi := ({ dst := some 37, op := Op.move (Operand.tmp 4), type := 3, pos := "l03_polygons.go:33", after := #[{ on := 9, ground := Ground.guard }], guard := some (9, true) } : Oper)) (v := undef) rfl (by kernel_rfl) (by kernel_rfl) (by kernel_rfl) (fun _ _ _ h => h) (Or.inr ⟨by rfl, rfl⟩) (by assumption) ?_
        try simp only [Act.put, List.setIfInBounds_toArray, List.set_cons_zero, List.set_cons_succ]
        refine wpAnyH_take (i := 15) (oi := ({ dst := some 38, op := Op.indexAddr 60 (Operand.tmp 36) (Operand.tmp 37), type := 0, pos := "l03_polygons.go:33", after := #[{ on := 13, ground := Ground.data }, { on := 14, ground := Ground.data }, { on := 9, ground := Ground.guard }], guard := some (9, true) } : Oper)) (v := undef) rfl (by kernel_rfl) (by kernel_rfl) (by kernel_rfl) (fun _ _ _ h => h) (Or.inr ⟨by rfl, rfl⟩) (by assumption) ?_
        try simp only [Act.put, List.setIfInBounds_toArray, List.set_cons_zero, List.set_cons_succ]
        refine wpAnyH_take (i := 16) (oi := ({ dst := some 39, op := Op.load 33 (Operand.tmp 38), type := 33, pos := "l03_polygons.go:33", after := #[{ on := 15, ground := Ground.data }, { on := 9, ground := Ground.guard }], guard := some (9, true) } : Oper)) (v := undef) rfl (by kernel_rfl) (by kernel_rfl) (by kernel_rfl) (fun _ _ _ h => h) (Or.inr ⟨by rfl, rfl⟩) (by assumption) ?_
        try simp only [Act.put, List.setIfInBounds_toArray, List.set_cons_zero, List.set_cons_succ]
        refine wpAnyH_take (i := 17) (oi := ({ dst := some 40, op := Op.call { callee := Callee.value (Operand.func 142), args := #[Operand.tmp 35, Operand.tmp 39], argTypes := #[33, 33] }, type := 2, pos := "l03_polygons.go:33", after := #[{ on := 12, ground := Ground.data }, { on := 16, ground := Ground.data }, { on := 9, ground := Ground.chain }, { on := 9, ground := Ground.guard }], guard := some (9, true) } : Oper)) (v := undef) rfl (by kernel_rfl) (by kernel_rfl) (by kernel_rfl) (fun _ _ _ h => h) (Or.inr ⟨by rfl, rfl⟩) (by assumption) ?_
        try simp only [Act.put, List.setIfInBounds_toArray, List.set_cons_zero, List.set_cons_succ]
        refine wpAnyH_take (i := 18) (oi := ({ dst := some 41, op := Op.binOp BinOp.geq 2 (Operand.tmp 40) (Operand.const (Value.int IntKind.i64 0)) 2, type := 4, pos := "l03_polygons.go:33", after := #[{ on := 17, ground := Ground.data }, { on := 9, ground := Ground.guard }], guard := some (9, true) } : Oper)) (v := undef) rfl (by kernel_rfl) (by kernel_rfl) (by kernel_rfl) (fun _ _ _ h => h) (Or.inr ⟨by rfl, rfl⟩) (by assumption) ?_
        try simp only [Act.put, List.setIfInBounds_toArray, List.set_cons_zero, List.set_cons_succ]
        refine wpAnyH_take (i := 19) (oi := ({ dst := some 42, op := Op.pick (Operand.tmp 32) (Operand.tmp 41) (Operand.const (Value.bool false)), type := 4, pos := "l03_polygons.go:33", after := #[{ on := 9, ground := Ground.data }, { on := 18, ground := Ground.data }, { on := 6, ground := Ground.guard }], guard := some (6, false) } : Oper)) (v := undef) rfl (by kernel_rfl) (by kernel_rfl) (by kernel_rfl) (fun _ _ _ h => h) (Or.inr ⟨by rfl, rfl⟩) (by assumption) ?_
        try simp only [Act.put, List.setIfInBounds_toArray, List.set_cons_zero, List.set_cons_succ]
        refine wpAnyH_take (i := 20) (oi := ({ dst := some 43, op := Op.pick (Operand.tmp 29) (Operand.const (Value.bool true)) (Operand.tmp 42), type := 4, pos := "l03_polygons.go:33", after := #[{ on := 6, ground := Ground.data }, { on := 19, ground := Ground.data }], guard := none } : Oper)) (v := ?_) rfl (by kernel_rfl) (by kernel_rfl) (by kernel_rfl) (fun _ _ _ h => h) (Or.inl ⟨by rfl, ?_⟩) (by assumption) ?_
        rotate_left
        · intro w' hSw; (try dsimp only at hSw); go_simp; (try with_reducible rfl)
        try simp only [Act.put, List.setIfInBounds_toArray, List.set_cons_zero, List.set_cons_succ]
        refine wpAnyH_done (by kernel_rfl) ?_ _
        have hw : Below wr.heap.size wr w5 := by (repeat (first | with_reducible exact Below.refl _ _ | with_reducible assumption | with_reducible refine below_drewN ?_ _ | with_reducible refine Below.drew ?_ | with_reducible refine Below.alloc ?_ (by first | omega | (simp; done) | (simp; omega)) _ | with_reducible refine Below.setCell ?_ (by first | omega | (simp; done) | (simp; omega)) _ | with_reducible refine Below.trans ?_ (Below.mono (by assumption) (by first | omega | (simp; done) | (simp; omega)))))
        go_wp2_with fail
        go_ret
        exact ⟨false, rfl, iff_of_false (by simp) (fun h => by have := (h.2.2.1 k hlt).1; rw [HN.out] at this; cases this), hbel.trans (hw.mono hsz)⟩
      · have HN := Lib.hid hv
        unfold vAt at hv
        rw [hv] at HP
        clear hv
        rcases Nat.eq_zero_or_pos k with hk0 | hk0
        · subst hk0
          go_wp2_with fail
          simp only [Nat.zero_mul, Nat.add_zero, Nat.zero_add] at a0 a1 a2 a3 a4 a5 HP
          refine wp_region_held_drew (S := fun w' => w'.cell? ⟨b, o, none⟩ = some (.int .i64 (nth fs (0))) ∧ w'.cell? ⟨b, o + 1, none⟩ = some (.int .i64 (nth fs (1))) ∧ w'.cell? ⟨b, o + 2, none⟩ = some (.int .i64 (nth fs (2))) ∧ w'.cell? ⟨b, o + 3, none⟩ = some (.int .i64 (nth fs (3))) ∧ w'.cell? ⟨b, o + 4, none⟩ = some (.int .i64 (nth fs (4))) ∧ w'.cell? ⟨b, o + 5, none⟩ = some (.int .i64 (nth fs (5)))) (by kernel_rfl) ?_ (fun hHeld0 => ?_)
          · (try dsimp only); (first | (go_simp; done) | (simp [*]; done))
          refine wpAnyH_take (i := 0) (oi := ({ dst := some 23, op := Op.move (Operand.tmp 0), type := 60, pos := "l03_polygons.go:33", after := #[], guard := none } : Oper)) (v := ?_) rfl (by kernel_rfl) (by kernel_rfl) (by kernel_rfl) (fun _ _ _ h => h) (Or.inl ⟨by rfl, ?_⟩) (by assumption) ?_
          rotate_left
          · intro w' hSw; (try dsimp only at hSw); go_simp; (try with_reducible rfl)
          try simp only [Act.put, List.setIfInBounds_toArray, List.set_cons_zero, List.set_cons_succ]
          refine wpAnyH_take (i := 1) (oi := ({ dst := some 24, op := Op.move (Operand.tmp 4), type := 3, pos := "l03_polygons.go:33", after := #[], guard := none } : Oper)) (v := ?_) rfl (by kernel_rfl) (by kernel_rfl) (by kernel_rfl) (fun _ _ _ h => h) (Or.inl ⟨by rfl, ?_⟩) (by assumption) ?_
          rotate_left
          · intro w' hSw; (try dsimp only at hSw); go_simp; (try with_reducible rfl)
          try simp only [Act.put, List.setIfInBounds_toArray, List.set_cons_zero, List.set_cons_succ]
          refine wpAnyH_take (i := 2) (oi := ({ dst := some 25, op := Op.indexAddr 60 (Operand.tmp 23) (Operand.tmp 24), type := 0, pos := "l03_polygons.go:33", after := #[{ on := 0, ground := Ground.data }, { on := 1, ground := Ground.data }], guard := none } : Oper)) (v := ?_) rfl (by kernel_rfl) (by kernel_rfl) (by kernel_rfl) (fun _ _ _ h => h) (Or.inl ⟨by rfl, ?_⟩) (by assumption) ?_
          rotate_left
          · intro w' hSw; (try dsimp only at hSw); go_simp; (try with_reducible rfl)
          try simp only [Act.put, List.setIfInBounds_toArray, List.set_cons_zero, List.set_cons_succ]
          refine wpAnyH_take (i := 3) (oi := ({ dst := some 26, op := Op.load 33 (Operand.tmp 25), type := 33, pos := "l03_polygons.go:33", after := #[{ on := 2, ground := Ground.data }], guard := none } : Oper)) (v := ?_) rfl (by kernel_rfl) (by kernel_rfl) (by kernel_rfl) (fun _ _ _ h => h) (Or.inl ⟨by rfl, ?_⟩) (by assumption) ?_
          rotate_left
          · intro w' hSw; (try dsimp only at hSw); go_simp; (try with_reducible rfl)
          try simp only [Act.put, List.setIfInBounds_toArray, List.set_cons_zero, List.set_cons_succ]
          refine wpAnyH_ready (rs := [4]) (by kernel_rfl) (by simp) ?_
          refine AllReadyH.cons (o := ({ dst := some 27, op := Op.call { callee := Callee.value (Operand.func 53), args := #[Operand.tmp 26], argTypes := #[33] }, type := 4, pos := "l03_polygons.go:33", after := #[{ on := 3, ground := Ground.data }], guard := none } : Oper)) rfl (fun K hK => ?_) AllReadyH.nil
          go_simp
          go_at_call 53
          refine (HP.out _ ?_).mono ?_
          · exact LT.below (w := w) hT (by (repeat (first | with_reducible exact Below.refl _ _ | with_reducible assumption | with_reducible refine below_drewN ?_ _ | with_reducible refine Below.drew ?_ | with_reducible refine Below.alloc ?_ (by first | omega | (simp; done) | (simp; omega)) _ | with_reducible refine Below.setCell ?_ (by first | omega | (simp; done) | (simp; omega)) _ | with_reducible refine Below.trans ?_ (Below.mono (by assumption) (by first | omega | (simp; done) | (simp; omega)))))) (Nat.le_refl _)
          rintro e w5 ⟨rfl, hb5⟩
          (try replace hb5 := Below.undrew hb5); obtain ⟨hc5, hf5⟩ := bcell hb5; have hz5 := hb5.size; (try simp at hz5); have z5a : b < w5.heap.size := (by omega)
          go_wp2_with fail
          refine hK.out _ _ ?_ (fun hHeld5 => ?_)
          · (try dsimp only); (first | (go_simp; done) | (simp [*]; done))
          clear hK K
          try simp only [Act.put, List.setIfInBounds_toArray, List.set_cons_zero, List.set_cons_succ]
          refine wpAnyH_take (i := 5) (oi := ({ dst := some 28, op := Op.unOp UnOp.not 4 (Operand.tmp 27), type := 4, pos := "l03_polygons.go:33", after := #[{ on := 4, ground := Ground.data }], guard := none } : Oper)) (v := ?_) rfl (by kernel_rfl) (by kernel_rfl) (by kernel_rfl) (fun _ _ _ h => h) (Or.inl ⟨by rfl, ?_⟩) (by assumption) ?_
          rotate_left
          · intro w' hSw; (try dsimp only at hSw); go_simp; (try with_reducible rfl)
          try simp only [Act.put, List.setIfInBounds_toArray, List.set_cons_zero, List.set_cons_succ]
          refine wpAnyH_take (i := 6) (oi := ({ dst := some 29, op := Op.move (Operand.tmp 28), type := 4, pos := "l03_polygons.go:33", after := #[{ on := 5, ground := Ground.data }, { on := 4, ground := Ground.chain }], guard := none } : Oper)) (v := ?_) rfl (by kernel_rfl) (by kernel_rfl) (by kernel_rfl) (fun _ _ _ h => h) (Or.inl ⟨by rfl, ?_⟩) (by assumption) ?_
          rotate_left
          · intro w' hSw; (try dsimp only at hSw); go_simp; (try with_reducible rfl)
          try simp only [Act.put, List.setIfInBounds_toArray, List.set_cons_zero, List.set_cons_succ]
          refine wpAnyH_take (i := 7) (oi := ({ dst := some 30, op := Op.move (Operand.tmp 4), type := 3, pos := "l03_polygons.go:33", after := #[{ on := 6, ground := Ground.guard }], guard := some (6, false) } : Oper)) (v := ?_) rfl (by kernel_rfl) (by kernel_rfl) (by kernel_rfl) (fun _ _ _ h => h) (Or.inl ⟨by rfl, ?_⟩) (by assumption) ?_
          rotate_left
          · intro w' hSw; (try dsimp only at hSw); go_simp; (try with_reducible rfl)
          try simp only [Act.put, List.setIfInBounds_toArray, List.set_cons_zero, List.set_cons_succ]
          refine wpAnyH_take (i := 8) (oi := ({ dst := some 31, op := Op.binOp BinOp.gtr 3 (Operand.tmp 30) (Operand.const (Value.int IntKind.i64 0)) 3, type := 4, pos := "l03_polygons.go:33", after := #[{ on := 7, ground := Ground.data }, { on := 6, ground := Ground.guard }], guard := some (6, false) } : Oper)) (v := ?_) rfl (by kernel_rfl) (by kernel_rfl) (by kernel_rfl) (fun _ _ _ h => h) (Or.inl ⟨by rfl, ?_⟩) (by assumption) ?_
          rotate_left
          · intro w' hSw; (try dsimp only at hSw); go_simp; (try with_reducible rfl)
          try simp only [Act.put, List.setIfInBounds_toArray, List.set_cons_zero, List.set_cons_succ]
          refine wpAnyH_take (i := 9) (oi := ({ dst := some 32, op := Op.move (Operand.tmp 31), type := 4, pos := "l03_polygons.go:33", after := #[{ on := 8, ground := Ground.data }, { on := 6, ground := Ground.chain }, { on := 6, ground := Ground.guard }], guard := some (6, false) } : Oper)) (v := ?_) rfl (by kernel_rfl) (by kernel_rfl) (by kernel_rfl) (fun _ _ _ h => h) (Or.inl ⟨by rfl, ?_⟩) (by assumption) ?_
          rotate_left
          · intro w' hSw; (try dsimp only at hSw); go_simp; (try with_reducible rfl)
          try simp only [Act.put, List.setIfInBounds_toArray, List.set_cons_zero, List.set_cons_succ]
          refine wpAnyH_take (i := 10) (oi := ({ dst := some 33, op := Op.move (Operand.tmp 0), type := 60, pos := "l03_polygons.go:33", after := #[{ on := 9, ground := Ground.guard }], guard := some (9, true) } : Oper)) (v := undef) rfl (by kernel_rfl) (by kernel_rfl) (by kernel_rfl) (fun _ _ _ h => h) (Or.inr ⟨by rfl, rfl⟩) (by assumption) ?_
          try simp only [Act.put, List.setIfInBounds_toArray, List.set_cons_zero, List.set_cons_succ]
          refine wpAnyH_take (i := 11) (oi := ({ dst := some 34, op := Op.indexAddr 60 (Operand.tmp 33) (Operand.const (Value.int IntKind.i64 0)), type := 0, pos := "l03_polygons.go:33", after := #[{ on := 10, ground := Ground.data }, { on := 9, ground := Ground.guard }], guard := some (9, true) } : Oper)) (v := undef) rfl (by kernel_rfl) (by kernel_rfl) (by kernel_rfl) (fun _ _ _ h => h) (Or.inr ⟨by rfl, rfl⟩) (by assumption) ?_
          try simp only [Act.put, List.setIfInBounds_toArray, List.set_cons_zero, List.set_cons_succ]
          refine wpAnyH_take (i := 12) (oi := ({ dst := some 35, op := Op.load 33 (Operand.tmp 34), type := 33, pos := "l03_polygons.go:33", after := #[{ on := 11, ground := Ground.data }, { on := 9, ground := Ground.guard }], guard := some (9, true) } : Oper)) (v := undef) rfl (by kernel_rfl) (by kernel_rfl) (by kernel_rfl) (fun _ _ _ h => h) (Or.inr ⟨by rfl, rfl⟩) (by assumption) ?_
          try simp only [Act.put, List.setIfInBounds_toArray, List.set_cons_zero, List.set_cons_succ]
          refine wpAnyH_take (i := 13) (oi := ({ dst := some 36, op := Op.move (Operand.tmp 0), type := 60, pos := "l03_polygons.go:33", after := #[{ on := 9, ground := Ground.guard }], guard := some (9, true) } : Oper)) (v := undef) rfl (by kernel_rfl) (by kernel_rfl) (by kernel_rfl) (fun _ _ _ h => h) (Or.inr ⟨by rfl, rfl⟩) (by assumption) ?_
          try simp only [Act.put, List.setIfInBounds_toArray, List.set_cons_zero, List.set_cons_succ]
          refine wpAnyH_take (i := 14) (oi := ({ dst := some 37, op := Op.move (Operand.tmp 4), type := 3, pos := "l03_polygons.go:33", after := #[{ on := 9, ground := Ground.guard }], guard := some (9, true) } : Oper)) (v := undef) rfl (by kernel_rfl) (by kernel_rfl) (by kernel_rfl) (fun _ _ _ h => h) (Or.inr ⟨by rfl, rfl⟩) (by assumption) ?_
          try simp only [Act.put, List.setIfInBounds_toArray, List.set_cons_zero, List.set_cons_succ]
          refine wpAnyH_take (i := 15) (oi := ({ dst := some 38, op := Op.indexAddr 60 (Operand.tmp 36) (Operand.tmp 37), type := 0, pos := "l03_polygons.go:33", after := #[{ on := 13, ground := Ground.data }, { on := 14, ground := Ground.data }, { on := 9, ground := Ground.guard }], guard := some (9, true) } : Oper)) (v := undef) rfl (by kernel_rfl) (by kernel_rfl) (by kernel_rfl) (fun _ _ _ h => h) (Or.inr ⟨by rfl, rfl⟩) (by assumption) ?_
          try simp only [Act.put, List.setIfInBounds_toArray, List.set_cons_zero, List.set_cons_succ]
          refine wpAnyH_take (i := 16) (oi := ({ dst := some 39, op := Op.load 33 (Operand.tmp 38), type := 33, pos := "l03_polygons.go:33", after := #[{ on := 15, ground := Ground.data }, { on := 9, ground := Ground.guard }], guard := some (9, true) } : Oper)) (v := undef) rfl (by kernel_rfl) (by kernel_rfl) (by kernel_rfl) (fun _ _ _ h => h) (Or.inr ⟨by rfl, rfl⟩) (by assumption) ?_
          try simp only [Act.put, List.setIfInBounds_toArray, List.set_cons_zero, List.set_cons_succ]
          refine wpAnyH_take (i := 17) (oi := ({ dst := some 40, op := Op.call { callee := Callee.value (Operand.func 142), args := #[Operand.tmp 35, Operand.tmp 39], argTypes := #[33, 33] }, type := 2, pos := "l03_polygons.go:33", after := #[{ on := 12, ground := Ground.data }, { on := 16, ground := Ground.data }, { on := 9, ground := Ground.chain }, { on := 9, ground := Ground.guard }], guard := some (9, true) } : Oper)) (v := undef) rfl (by kernel_rfl) (by kernel_rfl) (by kernel_rfl) (fun _ _ _ h => h) (Or.inr ⟨by rfl, rfl⟩) (by assumption) ?_
          try simp only [Act.put, List.setIfInBounds_toArray, List.set_cons_zero, List.set_cons_succ]
          refine wpAnyH_take (i := 18) (oi := ({ dst := some 41, op := Op.binOp BinOp.geq 2 (Operand.tmp 40) (Operand.const (Value.int IntKind.i64 0)) 2, type := 4, pos := "l03_polygons.go:33", after := #[{ on := 17, ground := Ground.data }, { on := 9, ground := Ground.guard }], guard := some (9, true) } : Oper)) (v := undef) rfl (by kernel_rfl) (by kernel_rfl) (by kernel_rfl) (fun _ _ _ h => h) (Or.inr ⟨by rfl, rfl⟩) (by assumption) ?_
          try simp only [Act.put, List.setIfInBounds_toArray, List.set_cons_zero, List.set_cons_succ]
          refine wpAnyH_take (i := 19) (oi := ({ dst := some 42, op := Op.pick (Operand.tmp 32) (Operand.tmp 41) (Operand.const (Value.bool false)), type := 4, pos := "l03_polygons.go:33", after := #[{ on := 9, ground := Ground.data }, { on := 18, ground := Ground.data }, { on := 6, ground := Ground.guard }], guard := some (6, false) } : Oper)) (v := ?_) rfl (by kernel_rfl) (by kernel_rfl) (by kernel_rfl) (fun _ _ _ h => h) (Or.inl ⟨by rfl, ?_⟩) (by assumption) ?_
          rotate_left
          · intro w' hSw; (try dsimp only at hSw); go_simp; (try with_reducible rfl)
          try simp only [Act.put, List.setIfInBounds_toArray, List.set_cons_zero, List.set_cons_succ]
          refine wpAnyH_take (i := 20) (oi := ({ dst := some 43, op := Op.pick (Operand.tmp 29) (Operand.const (Value.bool true)) (Operand.tmp 42), type := 4, pos := "l03_polygons.go:33", after := #[{ on := 6, ground := Ground.data }, { on := 19, ground := Ground.data }], guard := none } : Oper)) (v := ?_) rfl (by kernel_rfl) (by kernel_rfl) (by kernel_rfl) (fun _ _ _ h => h) (Or.inl ⟨by rfl, ?_⟩) (by assumption) ?_
          rotate_left
          · intro w' hSw; (try dsimp only at hSw); go_simp; (try with_reducible rfl)
          try simp only [Act.put, List.setIfInBounds_toArray, List.set_cons_zero, List.set_cons_succ]
          refine wpAnyH_done (by kernel_rfl) ?_ _
          have hw : Below wr.heap.size wr w5 := by (repeat (first | with_reducible exact Below.refl _ _ | with_reducible assumption | with_reducible refine below_drewN ?_ _ | with_reducible refine Below.drew ?_ | with_reducible refine Below.alloc ?_ (by first | omega | (simp; done) | (simp; omega)) _ | with_reducible refine Below.setCell ?_ (by first | omega | (simp; done) | (simp; omega)) _ | with_reducible refine Below.trans ?_ (Below.mono (by assumption) (by first | omega | (simp; done) | (simp; omega)))))
          go_wp2_with fail
          go_roundw
          case rel => exact ⟨1, by omega, by go_num, Lib.hid (fun j hj => by
            obtain rfl : j = 0 := by omega
            exact ⟨HN.out, fun h => by omega⟩), hbel.trans (hw.mono hsz)⟩
          case measure => simp [intOf]; omega
        · have hv0 := (hall.out 0 hk0).1
          have HB := Lib.hid (fun w (hT : LT β w) => sBf_at hv0 HN.out w hT)
          obtain ⟨D, hD⟩ : ∃ D, cpAt fs 0 k = D := ⟨_, rfl⟩
          rw [hD] at HB
          have HE := Lib.hid hD
          clear hD hv0
          obtain ⟨d0, d1, d2, d3, d4, d5⟩ := six (HC.out.below hbel hb) H6.out (show 0 < n by omega)
          simp only [Nat.zero_mul, Nat.zero_add, Nat.add_zero] at d0 d1 d2 d3 d4 d5
          have hB0 : ptV fs 0 = p6v (nth fs 0) (nth fs 1) (nth fs 2) (nth fs 3) (nth fs 4) (nth fs 5) := rfl
          rw [hB0] at HB
          clear hB0
          have hk1 : (0 : Int) < (k : Int) := by omega
          have j2 : (0 : Int) < (n : Int) := by omega
          have j3 : 0 < n := by omega
          have j4 : ¬ n = 0 := by omega
          go_wp2_with fail
          go_region_held3 (fun w' => w'.cell? ⟨b, o, none⟩ = some (.int .i64 (nth fs 0)) ∧ w'.cell? ⟨b, o + 1, none⟩ = some (.int .i64 (nth fs 1)) ∧ w'.cell? ⟨b, o + 2, none⟩ = some (.int .i64 (nth fs 2)) ∧ w'.cell? ⟨b, o + 3, none⟩ = some (.int .i64 (nth fs 3)) ∧ w'.cell? ⟨b, o + 4, none⟩ = some (.int .i64 (nth fs 4)) ∧ w'.cell? ⟨b, o + 5, none⟩ = some (.int .i64 (nth fs 5)) ∧ w'.cell? ⟨b, o + k * 6, none⟩ = some (.int .i64 (nth fs (k * 6))) ∧ w'.cell? ⟨b, o + k * 6 + 1, none⟩ = some (.int .i64 (nth fs (k * 6 + 1))) ∧ w'.cell? ⟨b, o + k * 6 + 2, none⟩ = some (.int .i64 (nth fs (k * 6 + 2))) ∧ w'.cell? ⟨b, o + k * 6 + 3, none⟩ = some (.int .i64 (nth fs (k * 6 + 3))) ∧ w'.cell? ⟨b, o + k * 6 + 4, none⟩ = some (.int .i64 (nth fs (k * 6 + 4))) ∧ w'.cell? ⟨b, o + k * 6 + 5, none⟩ = some (.int .i64 (nth fs (k * 6 + 5)))) ((first | (go_simp; done) | (simp [*]; done)))
            ((first
            | (go_at_call 53; refine (HP.out _ ?_).mono ?_; exact LT.below (w := w) hT (by (repeat (first | with_reducible exact Below.refl _ _ | with_reducible assumption | with_reducible refine below_drewN ?_ _ | with_reducible refine Below.drew ?_ | with_reducible refine Below.alloc ?_ (by first | omega | (simp; done) | (simp; omega)) _ | with_reducible refine Below.setCell ?_ (by first | omega | (simp; done) | (simp; omega)) _ | with_reducible refine Below.trans ?_ (Below.mono (by assumption) (by first | omega | (simp; done) | (simp; omega)))))) (Nat.le_refl _); rintro e w5 ⟨rfl, hb5⟩; (try replace hb5 := Below.undrew hb5); obtain ⟨hc5, hf5⟩ := bcell hb5; have hz5 := hb5.size; (try simp at hz5); have z5a : b < w5.heap.size := (by omega))
            | (go_at_call 142; refine (HB.out _ ?_).mono ?_; exact LT.below (w := w) hT (by (repeat (first | with_reducible exact Below.refl _ _ | with_reducible assumption | with_reducible refine below_drewN ?_ _ | with_reducible refine Below.drew ?_ | with_reducible refine Below.alloc ?_ (by first | omega | (simp; done) | (simp; omega)) _ | with_reducible refine Below.setCell ?_ (by first | omega | (simp; done) | (simp; omega)) _ | with_reducible refine Below.trans ?_ (Below.mono (by assumption) (by first | omega | (simp; done) | (simp; omega)))))) (Nat.le_refl _); rintro e w6 ⟨rfl, hb6⟩; (try replace hb6 := Below.undrew hb6); obtain ⟨hc6, hf6⟩ := bcell hb6; have hz6 := hb6.size; (try simp at hz6); have z6a : b < w6.heap.size := (by omega))))
          all_goals
            have hw : Below wr.heap.size wr w6 := by (repeat (first | with_reducible exact Below.refl _ _ | with_reducible assumption | with_reducible refine below_drewN ?_ _ | with_reducible refine Below.drew ?_ | with_reducible refine Below.alloc ?_ (by first | omega | (simp; done) | (simp; omega)) _ | with_reducible refine Below.setCell ?_ (by first | omega | (simp; done) | (simp; omega)) _ | with_reducible refine Below.trans ?_ (Below.mono (by assumption) (by first | omega | (simp; done) | (simp; omega)))))
            have B6 := hbel.trans (hw.mono hsz)
            clear a0 a1 a2 a3 a4 a5 d0 d1 d2 d3 d4 d5
            by_cases hneg : 0 ≤ D
            · go_wp2_with fail
              go_ret
              exact ⟨false, rfl, iff_of_false (by simp) (fun h => by have := (h.2.2.1 k hlt).2 hk0; rw [HE.out] at this; omega), B6⟩
            · go_wp2_with fail
              go_roundw
              case rel => exact ⟨k + 1, by omega, by go_num, Lib.hid (fun j hj => by
                rcases Nat.lt_or_ge j k with h | h
                · exact hall.out j h
                · obtain rfl : j = k := by omega
                  exact ⟨HN.out, fun _ => by rw [HE.out]; omega⟩), B6⟩
              case measure => simp [intOf]; omega
    · obtain rfl : k = n := by omega
      have HFi := Lib.hid hall.out
      clear hall
      go_wp2_with fail
      refine (wide_any _ _ fs _ ((HSl.out.below hbel (Nat.le_refl _)).mono hsz) (LT.below hT hbel (Nat.le_refl _)) (by omega)).mono ?_
      rintro e w1 ⟨v1, rfl, o1, b1⟩
      have B1 := hbel.trans (b1.mono hsz)
      have O1 := Lib.hid o1
      clear o1
      go_wp2_with fail
      refine (sides_any v1 k fs _ (ownW_sl O1.out) (fun j hj => (HFi.out j hj).1) (by omega) (LT.below hT B1 (Nat.le_refl _)) (by omega)).mono ?_
      rintro e w2 ⟨v2, r, rfl, hr, ho, b2⟩
      have B2 := B1.trans (b2.mono B1.size)
      cases r
      case false =>
        have HN := Lib.hid (show ¬ ∀ j, j < k → 0 ≤ dAt k fs j from fun h => by have := hr.2 h; cases this)
        clear hr ho
        go_wp2_with fail
        go_ret
        exact ⟨false, rfl, iff_of_false (by simp) (fun h => HN.out h.2.2.2.1), B2⟩
      have HD := Lib.hid (hr.1 rfl)
      have ht1 : (tab (dAt k fs) k).length = k := tab_len _ _
      obtain ⟨A2, c2, rfl, hc2, hs2⟩ := OwnI.sl (ho rfl)
      obtain ⟨g, off, rfl, hg, C2⟩ := hs2 (by rw [ht1]; omega)
      rw [ht1] at hc2 ⊢
      have K2 := Lib.hid C2
      clear hr ho hs2 C2 O1
      go_wp2_with fail
      go_loopw [7, 8] (fun q i wx => ∃ m : Nat, m ≤ k ∧ i = .int .i64 m ∧ q = .int .i64 (trS k fs m) ∧ Hid (∀ j, j < m → 1 ≤ trn k fs j ∧ trn k fs j ≤ 7) ∧ Below w2.heap.size w2 wx) (fun _ i _ => k - (intOf i).toNat)
      case atStart => exact ⟨0, Nat.zero_le _, rfl, rfl, Lib.hid (fun j hj => absurd hj (by omega)), Below.refl _ _⟩
      case round =>
        obtain ⟨m, hm, rfl, rfl, hall, hbx⟩ := hrel
        have hsx := hbx.size
        have BX := B2.trans (hbx.mono B2.size)
        by_cases hlt : m < k
        · obtain ⟨j, hj⟩ : ∃ j, (m + 1) % k = j := ⟨_, rfl⟩
          have hjn : j < k := by rw [← hj]; exact Nat.mod_lt _ (by omega)
          have hx1 : wr.cell? ⟨g, off + m, none⟩ = some (.int .i64 (dAt k fs m)) := by rw [K2.out.below hbx hg m (by rw [ht1]; exact hlt), tab_nth hlt]
          have hx2 : wr.cell? ⟨g, off + j, none⟩ = some (.int .i64 (dAt k fs j)) := by rw [K2.out.below hbx hg j (by rw [ht1]; exact hjn), tab_nth hjn]
          have r1 := HD.out m hlt
          have r2 := HD.out j hjn
          have r3 := dAt_range k fs m
          have r4 := dAt_range k fs j
          have r5 := trS_range k fs m
          have r6 := trn_range k fs m
          have HT : Hid ((dAt k fs j - dAt k fs m) % 16 = trn k fs m) := Lib.hid (by unfold trn; rw [hj]; omega)
          have HSu : Hid (trS k fs m + trn k fs m = trS k fs (m + 1)) := Lib.hid rfl
          have e5 : Int.tmod ((m : Int) + 1) (k : Int) = (j : Int) := by rw [Int.tmod_eq_emod_of_nonneg (by omega), ← hj]; push_cast; rfl
          obtain ⟨D, hD⟩ : ∃ D, dAt k fs m = D := ⟨_, rfl⟩
          obtain ⟨E, hE⟩ : ∃ E, dAt k fs j = E := ⟨_, rfl⟩
          obtain ⟨t, ht⟩ : ∃ t, trn k fs m = t := ⟨_, rfl⟩
          obtain ⟨S, hS⟩ : ∃ S, trS k fs m = S := ⟨_, rfl⟩
          have HTT := Lib.hid ht
          rw [hD] at hx1 r1 r3 HT
          rw [hE] at hx2 r2 r4 HT
          rw [ht] at HT HSu r6
          rw [hS] at HSu r5 ⊢
          have HMo := Lib.hid fun w => HT.out ▸ (smod_int (E - D) w).mono fun _ _ h => h.toB
          clear hD hE ht hS hj
          have HIn := Lib.hid fun w => (l00In_any t 1 7 w).mono fun _ _ h => h.toB
          have e1 : IntKind.i64.wrap ((m : Int) + 1) = (m : Int) + 1 := wrap_in (by omega) (by omega)
          have e2 : IntKind.i64.wrap (E - D) = E - D := wrap_in (by omega) (by omega)
          have e4 : IntKind.i64.wrap (S + t) = S + t := wrap_in (by omega) (by omega)
          have e6 : IntKind.i64.wrap (j : Int) = (j : Int) := wrap_in (by omega) (by omega)
          have e7 : ¬ (k : Int) = 0 := by omega
          have e8 : ((k : Int) == 0) = false := by simp; omega
          have e9 : ¬ k = 0 := by omega
          have j0 : (0 : Int) ≤ (m : Int) := by omega
          have j1 : (m : Int) < (k : Int) := by omega
          have j2 : (0 : Int) ≤ (j : Int) := by omega
          have j3 : (j : Int) < (k : Int) := by omega
          have hgx : g < wr.heap.size := by omega
          go_wp2_with fail
          go_region_held3 (fun w' => w'.cell? ⟨g, off + m, none⟩ = some (.int .i64 D) ∧ w'.cell? ⟨g, off + j, none⟩ = some (.int .i64 E)) ((first | (go_simp; done) | (simp [*]; done)))
            ((go_at_call 143; refine (HMo.out _).mono ?_; rintro e w5 ⟨rfl, hb5⟩; (try replace hb5 := Below.undrew hb5); obtain ⟨hc5, hf5⟩ := bcell hb5; have hz5 := hb5.size; (try simp at hz5); have z5a : g < w5.heap.size := (by omega)))
          all_goals
            have hw : Below wr.heap.size wr w5 := by (repeat (first | with_reducible exact Below.refl _ _ | with_reducible assumption | with_reducible refine below_drewN ?_ _ | with_reducible refine Below.drew ?_ | with_reducible refine Below.alloc ?_ (by first | omega | (simp; done) | (simp; omega)) _ | with_reducible refine Below.setCell ?_ (by first | omega | (simp; done) | (simp; omega)) _ | with_reducible refine Below.trans ?_ (Below.mono (by assumption) (by first | omega | (simp; done) | (simp; omega)))))
            have B5 := hbx.trans (hw.mono hsx)
            have BY := B2.trans (B5.mono B2.size)
            clear hx1 hx2
            cases hin : inB t 1 7
            · rw [hin] at HIn
              have HN := Lib.hid hin
              clear hin
              go_wp2_with fail
              refine (HIn.out _).mono ?_
              rintro e w6 ⟨rfl, hb6⟩
              go_wp2_with fail
              go_ret
              refine ⟨false, rfl, iff_of_false (by simp) (fun h => ?_), ?_⟩
              · have h1 := h.2.2.2.2.1 m hlt
                rw [HTT.out] at h1
                have := HN.out
                simp [inB] at this
                omega
              · exact BY.trans ((show Below w5.heap.size w5 w6 by (repeat (first | with_reducible exact Below.refl _ _ | with_reducible assumption | with_reducible refine below_drewN ?_ _ | with_reducible refine Below.drew ?_ | with_reducible refine Below.alloc ?_ (by first | omega | (simp; done) | (simp; omega)) _ | with_reducible refine Below.setCell ?_ (by first | omega | (simp; done) | (simp; omega)) _ | with_reducible refine Below.trans ?_ (Below.mono (by assumption) (by first | omega | (simp; done) | (simp; omega)))))).mono BY.size)
            · rw [hin] at HIn
              have HN := Lib.hid hin
              clear hin
              go_wp2_with fail
              refine (HIn.out _).mono ?_
              rintro e w6 ⟨rfl, hb6⟩
              have B6 := B5.trans ((show Below w5.heap.size w5 w6 by (repeat (first | with_reducible exact Below.refl _ _ | with_reducible assumption | with_reducible refine below_drewN ?_ _ | with_reducible refine Below.drew ?_ | with_reducible refine Below.alloc ?_ (by first | omega | (simp; done) | (simp; omega)) _ | with_reducible refine Below.setCell ?_ (by first | omega | (simp; done) | (simp; omega)) _ | with_reducible refine Below.trans ?_ (Below.mono (by assumption) (by first | omega | (simp; done) | (simp; omega)))))).mono B5.size)
              go_wp2_with fail
              go_roundw
              case rel => exact ⟨m + 1, by omega, by go_num, by rw [HSu.out], Lib.hid (fun i hi => by
                rcases Nat.lt_or_ge i m with h | h
                · exact hall.out i h
                · obtain rfl : i = m := by omega
                  have h1 := HTT.out
                  have h2 := HN.out
                  simp [inB] at h2
                  rw [h1]; omega), B6⟩
              case measure => simp [intOf]; omega
        · obtain rfl : m = k := by omega
          go_wp2_with fail
          go_ret
          refine ⟨trS m fs m == 16, rfl, ?_, BX⟩
          rw [beq_iff_eq]
          exact ⟨fun h => ⟨h3n, h16n, HFi.out, HD.out, hall.out, h⟩, fun h => h.2.2.2.2.2⟩
end Pol
end Go.Proofs.YtafbdnjabgfjeaaDoor
