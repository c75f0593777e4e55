/- FnExactReflection: for every argument the program answers as its model does, every field. Conditions: the library's table of trailing zeros is as its text lays it (the card ties it). -/
import Derived.Test.YthhjkiiggokfkaaDoorCards
import Derived.Test.YthhjkiiggokfkaaDoorTie
import Derived.WalkKit
import Derived.ProofKit
import Derived.OpenShut
import Derived.WalkSmall
import Derived.Carry
import Derived.Lib.SmallJoins
import Derived.Deep.DeepHandedRow
import Derived.Lib.LaidTab
import Derived.Test.YthhjkiiggokfkaaDoorWd
import Derived.Test.YthhjkiiggokfkaaDoorGc
import Derived.Test.YthhjkiiggokfkaaDoorOz
import Derived.Test.YthhjkiiggokfkaaDoorOc
import Derived.Test.YthhjkiiggokfkaaDoorGdv
import Derived.Test.YthhjkiiggokfkaaDoorGi
import Derived.Test.YthhjkiiggokfkaaDoorGe
import Derived.Test.YthhjkiiggokfkaaDoorOt
import Derived.Test.YthhjkiiggokfkaaDoorOe
import Derived.Test.YthhjkiiggokfkaaDoorGlq
import Derived.Test.YthhjkiiggokfkaaDoorGl
import Derived.Deep.RegionHeld3
import Derived.Deep.DeepCutAuto
import Derived.Deep.DrawnRows
import Derived.Test.YthhjkiiggokfkaaDoorOp
import Derived.Test.YthhjkiiggokfkaaDoorOg
import Derived.Test.YthhjkiiggokfkaaDoorOnr
import Derived.Test.YthhjkiiggokfkaaDoorOw
import Derived.Test.YthhjkiiggokfkaaDoorOzf
import Derived.ChangeVars
section
namespace Go.Proofs.YthhjkiiggokfkaaDoor
open Go Go.ChangeShapes Go.WideShapes Go.ChangeAt Go.RowKit

theorem own : ownKnob Tryd.prog.godebug = none := by kernel_rfl

section
variable {H : Type} {enc : TypeId × Value → H} {P : Program}

/-- Every argument reads as it did. -/
theorem args_stay (hl : laidOutB P = true) {W W' : World} {sp : Nat → Bool} (hb : Below W.heap.size W W') :
    ∀ (ts : List TypeId) (vs : List Value) (ds : List (DataW H)) (ps : List MemPlace), (ts.all fun t => P.readableRec t && decide (t < P.types.size)) = true →
      DataW.TrodAll enc P W 0 (fun _ => true) true ts vs ds ps → (∀ x ∈ ps, x.block < W.heap.size) → (∀ x ∈ ps, sp x.block = true) → DataW.TrodAll enc P W' 0 sp true ts vs ds ps
  | [], vs, ds, ps, _, h, _, _ => by
    obtain ⟨rfl, rfl, rfl⟩ := trodAll_nil h
    exact trodAll_mk0
  | t :: ts, vs, ds, ps, hr, h, hlt, hsp => by
    obtain ⟨v, vs', d, ds', p, q, rfl, rfl, rfl, h0, r0⟩ := trodAll_cons h
    simp only [List.all_cons, Bool.and_eq_true, decide_eq_true_eq] at hr
    refine trodAll_cons_mk ?_ ?_
    · exact WideElems.Trod_stays hl hr.1.1 hr.1.2 h0 (fun x hx => hb.same (hlt x (List.mem_append_left _ hx))) (fun x hx => hsp x (List.mem_append_left _ hx))
    · exact args_stay hl hb ts vs' ds' q hr.2 r0 (fun x hx => hlt x (List.mem_append_right _ hx)) (fun x hx => hsp x (List.mem_append_right _ hx))

/-- Every listed variable reads as it did. -/
theorem vars_stay (hl : laidOutB P = true) {W W' : World} {sp : Nat → Bool} (hb : Below W.heap.size W W') :
    ∀ (ns : List String) (gs : List (DataW H)) (ps : List MemPlace),
      (ns.all fun n => match P.globalNamed n with | some g => (match P.globals[g]? with | some x => P.readableRec x.type && decide (x.type < P.types.size) | none => false) | none => false) = true →
      DataW.TrodVars enc P W (fun _ => true) ns gs ps → (∀ x ∈ ps, x.block < W.heap.size) → (∀ x ∈ ps, sp x.block = true) → DataW.TrodVars enc P W' sp ns gs ps
  | [], [], ps, _, h, _, _ => h
  | [], _ :: _, _, _, h, _, _ => h.elim
  | _ :: _, [], _, _, h, _, _ => h.elim
  | n :: ns, d :: ds, ps, hr, h, hlt, hsp => by
    obtain ⟨g, t, cs, fuel, p, q, hg, ht, hv, hd, hrest, rfl⟩ := h
    simp only [List.all_cons, Bool.and_eq_true, hg] at hr
    obtain ⟨hr0, hr⟩ := hr
    obtain ⟨x, hx, rfl⟩ := Option.map_eq_some_iff.1 ht
    simp only [hx, Bool.and_eq_true, decide_eq_true_eq] at hr0
    have hgB : g < W.heap.size := by
      have hv' := hv
      unfold World.var? at hv'
      simp only [hg] at hv'
      rcases Nat.lt_or_ge g W.heap.size with h' | h'
      · exact h'
      · simp [Array.getElem?_eq_none h'] at hv'
    have hst : DataW.Trod enc P W' 0 sp true x.type (.agg cs) d p := by
      refine WideElems.Trod_stays hl hr0.1 hr0.2 (v := .agg cs) ⟨fuel, ?_⟩ (fun y hy => hb.same (hlt y ?_)) (fun y hy => hsp y ?_)
      · simpa [Value.cells] using hd
      · exact List.mem_append_left _ (List.mem_append_right _ hy)
      · exact List.mem_append_left _ (List.mem_append_right _ hy)
    obtain ⟨fuel', hf'⟩ := hst
    refine ⟨g, x.type, cs, fuel', p, q, hg, ht, var?_below hb hg hgB hv, by simpa [Value.cells] using hf', ?_, rfl⟩
    exact vars_stay hl hb ns ds q hr hrest (fun y hy => hlt y (List.mem_append_right _ hy)) (fun y hy => hsp y (List.mem_append_right _ hy))

/-- THE POST OF A LAW: it answered true and nothing old has turned. -/
theorem law_post {fn : Func} {s : ChangeSpec} {apart fresh handsOn : Bool} {W W' : World} {args : Array Value} {ds gs : List (DataW H)} {before : List MemPlace} {tb : TypeId}
    (hl : laidOutB P = true) (hps : (fn.params.toList.all fun t => P.readableRec t && decide (t < P.types.size)) = true)
    (hvs : (s.vars.all fun n => match P.globalNamed n with | some g => (match P.globals[g]? with | some x => P.readableRec x.type && decide (x.type < P.types.size) | none => false) | none => false) = true)
    (hres : fn.resultTypes = #[tb]) (htb : P.underlying tb = some .bool)
    (hW : DataW.Whole enc P fn.params.toList s.vars apart W args.toList ds gs before)
    (hspec : s.fn H (ds ++ gs) = { results := [.lit (.bool true)], args := ds, vars := gs }) (hb : Below W.heap.size W W') :
    s.post enc P fn apart fresh handsOn false W args (.bool true) W' := by
  have hW' := hW
  obtain ⟨p, q, hA, hV, rfl, hfz, hnd⟩ := hW
  have hlt := hW'.lt
  refine ⟨ds, gs, p ++ q, [], p, q, hW', ?_, ?_, ?_, World.keptBut_mono (fun x hx => ⟨hx, ?_⟩) (hb.frame (· ∈ p ++ q)), fun h => by cases h⟩
  · rw [hspec, hres]
    exact trodAll_mk1 (shut_bool htb true)
  · rw [hspec]
    exact args_stay hl hb _ _ _ _ hps hA (fun x hx => hlt x (List.mem_append_left _ hx)) (fun x hx => by simpa using hlt x (List.mem_append_left _ hx))
  · rw [hspec]
    exact vars_stay hl hb _ _ _ hvs hV (fun x hx => hlt x (List.mem_append_right _ hx)) (fun x hx => by simpa using hlt x (List.mem_append_right _ hx))
  · exact Or.inr (List.mem_append.1 hx)
end
end Go.Proofs.YthhjkiiggokfkaaDoor
end
section
namespace Go.Proofs.YthhjkiiggokfkaaDoor
open Go Go.ChangeShapes Go.WideShapes Go.ChangeAt Go.RowKit Go.Joins

theorem laidOut : laidOutB Tryd.prog = true := by kernel_rfl
theorem cellsLawsNum : Tryd.prog.cellsOf 33 = 3 := by kernel_rfl
theorem gTz : Tryd.prog.globalNamed "math/bits.deBruijn64tab" = some 1 := by kernel_rfl
theorem gTzType : (Tryd.prog.globals[1]?).map (·.type) = some 201 := by kernel_rfl
theorem cells64 : Tryd.prog.cellsOf 201 = 64 := by kernel_rfl
theorem cellsU8 : Tryd.prog.cellsOf 5 = 1 := by kernel_rfl

/-- A list of numbers read as the table. -/
theorem tz_of_tab {W : World} (h : Lib.TabIs Tryd.prog W "math/bits.deBruijn64tab" .u8 (Lib.deBruijn64tab.map (fun n : Nat => (n : Int)))) : TzTab W := by
  have hc : ∀ j, j < 64 → W.cell? ⟨1, j, none⟩ = some (.int .u8 (Lib.deBruijn64tab.getD j 0)) := fun j hj => by
    have := h.cell gTz j (by simpa [Lib.deBruijn64tab] using hj)
    rw [this]
    congr 2
    simp only [List.getD_eq_getElem?_getD, List.getElem?_map]
    cases Lib.deBruijn64tab[j]? <;> rfl
  refine ⟨?_, hc⟩
  exact World.block_lt_of_cell? W _ (hc 0 (by decide))

variable {H : Type} {enc : TypeId × Value → H}

set_option maxRecDepth 100000 in
/-- An argument that is a number. -/
theorem open_num {W : World} {base : Nat} {v : Value} {d : DataW H} {p : List MemPlace} (hv : Value.okWide Tryd.prog W .any base 33 v)
    (h : DataW.Trod enc Tryd.prog W 0 (fun _ => true) true 33 v d p) : ∃ a b k : Int, v = num a b k ∧ I3 a b k := by
  obtain ⟨c0, c1, c2, y0, y1, y2, m, rfl, rfl, rfl, h0, h1, h2⟩ := open_agg3 Tryd.underlying33 (by kernel_rfl) cellsLawsNum hv h
  obtain ⟨a, e0, _, wa⟩ := DataW.trod_int Tryd.underlying2 h0
  obtain ⟨b, e1, _, wb⟩ := DataW.trod_int Tryd.underlying2 h1
  obtain ⟨k, e2, _, wk⟩ := DataW.trod_int Tryd.underlying2 h2
  simp at e0 e1 e2
  subst e0 e1 e2
  have ba := bounds_i64 wa
  have bb := bounds_i64 wb
  exact ⟨a, b, k, rfl, ⟨ba.1, ba.2, bb.1, bb.2⟩⟩

/-- A world for the witness: the settled one, the table holding what its initialiser lays. -/
noncomputable def laidWorld (os : Os) : World :=
  { World.holding Tryd.prog os ⟨#[], #[], []⟩ with heap := (World.holding Tryd.prog os ⟨#[], #[], []⟩).heap.modify 1 fun
      | .cells _ t frozen => .cells (Lib.deBruijn64tab.map fun n : Nat => Value.int .u8 (n : Int)).toArray t frozen
      | o => o }
end Go.Proofs.YthhjkiiggokfkaaDoor
end
section
namespace Go.Proofs.YthhjkiiggokfkaaDoor
open Go Go.ChangeShapes Go.WideShapes Go.ChangeAt Go.RowKit Go.Joins OriM

theorem array6 {α : Type} {cs : Array α} (h : cs.size = 6) : ∃ c0 c1 c2 c3 c4 c5, cs = #[c0, c1, c2, c3, c4, c5] := by
  obtain ⟨l⟩ := cs
  match l, h with
  | [c0, c1, c2, c3, c4, c5], _ => exact ⟨c0, c1, c2, c3, c4, c5, rfl⟩

variable {H : Type} {enc : TypeId × Value → H}

/-- A reading of three cells as a number. -/
theorem num_cells {T : TypeId} {P : Program} {w : World} {base : Nat} {sp : Nat → Bool} {held : Bool} {fuel : Nat} {t0 : TypeId} {f0 f1 f2 : Field} {cs : List Value} {x : DataW H × List MemPlace}
    (ht : P.underlying T = some (.struct #[f0, f1, f2])) (hi : P.underlying t0 = some (.int .i64)) (h0 : f0.type = t0 ∧ f0.offset = 0) (h1 : f1.type = t0 ∧ f1.offset = 1) (h2 : f2.type = t0 ∧ f2.offset = 2) (hc : P.cellsOf t0 = 1) (hC : P.cellsOf T = 3)
    (h : DataW.trod enc P w base sp held fuel T cs = some x) : ∃ a b k : Int, cs = [.int .i64 a, .int .i64 b, .int .i64 k] ∧ x.1 = .agg [.lit (.int .i64 a), .lit (.int .i64 b), .lit (.int .i64 k)] ∧ I3 a b k := by
  obtain ⟨y0, y1, y2, n, rfl, hl, g0, g1, g2⟩ := Go.Deep.trod_struct3 ht h
  obtain ⟨e0, o0⟩ := h0
  obtain ⟨e1, o1⟩ := h1
  obtain ⟨e2, o2⟩ := h2
  rw [e0, o0, hc] at g0
  rw [e1, o1, hc] at g1
  rw [e2, o2, hc] at g2
  obtain ⟨a, c0, x0, wa⟩ := DataW.trod_int hi g0
  obtain ⟨b, c1, x1, wb⟩ := DataW.trod_int hi g1
  obtain ⟨k, c2, x2, _⟩ := DataW.trod_int hi g2
  rw [hC] at hl
  match cs, hl with
  | [z0, z1, z2], _ =>
    simp at c0 c1 c2
    subst c0 c1 c2
    have ba := bounds_i64 wa
    have bb := bounds_i64 wb
    exact ⟨a, b, k, rfl, by rw [x0, x1, x2], ⟨ba.1, ba.2, bb.1, bb.2⟩⟩

theorem cellsLawsPoint : Tryd.prog.cellsOf 35 = 6 := by kernel_rfl
theorem cellsLawsLine : Tryd.prog.cellsOf 57 = 4 := by kernel_rfl
theorem cellsI64 : Tryd.prog.cellsOf 2 = 1 := by kernel_rfl

set_option maxRecDepth 100000 in
/-- An argument that is a point. -/
theorem open_pt {W : World} {base : Nat} {v : Value} {d : DataW H} {p : List MemPlace} (hv : Value.okWide Tryd.prog W .any base 35 v)
    (h : DataW.Trod enc Tryd.prog W 0 (fun _ => true) true 35 v d p) : ∃ a b k c d l : Int, v = pt a b k c d l ∧ I6 a b k c d l := by
  obtain ⟨cs, rfl, hsz⟩ := okWide_struct Tryd.underlying35 hv
  obtain ⟨z0, z1, z2, z3, z4, z5, rfl⟩ := array6 (hsz.trans cellsLawsPoint)
  obtain ⟨fuel, hf⟩ := h
  obtain ⟨y0, y1, n, hx, _, g0, g1⟩ := trod_struct2 Tryd.underlying35 hf
  simp only [cellsLawsNum, Value.cells] at g0 g1
  obtain ⟨a, b, k, e0, _, i0⟩ := num_cells Tryd.underlying33 Tryd.underlying2 ⟨rfl, rfl⟩ ⟨rfl, rfl⟩ ⟨rfl, rfl⟩ cellsI64 cellsLawsNum g0
  obtain ⟨a', b', k', e1, _, i1⟩ := num_cells Tryd.underlying33 Tryd.underlying2 ⟨rfl, rfl⟩ ⟨rfl, rfl⟩ ⟨rfl, rfl⟩ cellsI64 cellsLawsNum g1
  simp at e0 e1
  obtain ⟨rfl, rfl, rfl⟩ := e0
  obtain ⟨rfl, rfl, rfl⟩ := e1
  exact ⟨a, b, k, a', b', k', rfl, ⟨i0, i1⟩⟩

set_option maxRecDepth 100000 in
/-- An argument that is a line. -/
theorem open_ln {W : World} {base : Nat} {v : Value} {d : DataW H} {p : List MemPlace} (hv : Value.okWide Tryd.prog W .any base 57 v)
    (h : DataW.Trod enc Tryd.prog W 0 (fun _ => true) true 57 v d p) : ∃ d a b k : Int, v = lnv d a b k ∧ I3 a b k ∧ -9223372036854775808 ≤ d ∧ d ≤ 9223372036854775807 := by
  obtain ⟨cs, rfl, hsz⟩ := okWide_struct Tryd.underlying57 hv
  obtain ⟨z0, z1, z2, z3, rfl⟩ := array4 (hsz.trans cellsLawsLine)
  obtain ⟨fuel, hf⟩ := h
  obtain ⟨y0, y1, n, hx, _, g0, g1⟩ := trod_struct2 Tryd.underlying57 hf
  simp only [cellsLawsNum, cellsI64, Value.cells] at g0 g1
  obtain ⟨d, e0, _, wd⟩ := DataW.trod_int Tryd.underlying2 g0
  obtain ⟨a', b', k', e1, _, i1⟩ := num_cells Tryd.underlying33 Tryd.underlying2 ⟨rfl, rfl⟩ ⟨rfl, rfl⟩ ⟨rfl, rfl⟩ cellsI64 cellsLawsNum g1
  simp at e0 e1
  subst e0
  obtain ⟨rfl, rfl, rfl⟩ := e1
  have bd := bounds_i64 wd
  exact ⟨d, a', b', k', rfl, i1, bd.1, bd.2⟩

/-- An array's reading, element for element. -/
theorem arr_of_trod {P : Program} {w : World} {base : Nat} {sp : Nat → Bool} {held : Bool} {fuel : Nat} {t e : TypeId} {n : Nat} {cs : List Value} {ds : List (DataW H)} {p : List MemPlace}
    (ht : P.underlying t = some (.array n e)) (h : DataW.trod enc P w base sp held fuel t cs = some (.agg ds, p)) :
    ∃ f, ∀ i, i < n → ∃ y q, ds[i]? = some y ∧ DataW.trod enc P w base sp held f e ((cs.drop (i * P.cellsOf e)).take (P.cellsOf e)) = some (y, q) := by
  cases fuel with
  | zero => simp [DataW.trod] at h
  | succ fuel =>
    simp only [DataW.trod, ht] at h
    split at h
    · obtain ⟨xs, hm, hx⟩ := Option.map_eq_some_iff.1 h
      have hxs : xs.map (·.1) = ds := by
        have := congrArg Prod.fst hx
        simpa using this
      refine ⟨fuel, fun i hi => ?_⟩
      obtain ⟨b, hb, hf⟩ := Lib.mapM_at hm i i (by simp [hi])
      exact ⟨b.1, b.2, by rw [← hxs]; simp [hb], hf⟩
    · cases h

theorem gLv : Tryd.prog.globalNamed "loop.example/g00857/impl.lineVectors" = some 0 := by kernel_rfl
theorem gLvType : (Tryd.prog.globals[0]?).map (·.type) = some 194 := by kernel_rfl
theorem cells26 : Tryd.prog.cellsOf 193 = 6 := by kernel_rfl
theorem cellsNum : Tryd.prog.cellsOf 37 = 3 := by kernel_rfl

/-- The datum of the table, as the rows have it. -/
def lvNum (a b : Int) : DataW H := .agg [.lit (.int .i64 a), .lit (.int .i64 b), .lit (.int .i64 0)]
def lvData : DataW H := .agg [.agg [lvNum 1 0, lvNum 0 0], .agg [lvNum 1 0, lvNum (-1) 1], .agg [lvNum 1 0, lvNum 1 0], .agg [lvNum (-1) 1, lvNum 1 0], .agg [lvNum 0 0, lvNum 1 0], .agg [lvNum 1 (-1), lvNum 1 0], .agg [lvNum (-1) 0, lvNum 1 0], .agg [lvNum (-1) 0, lvNum (-1) 1]]

theorem lv_row {i : Nat} (hi : i < 8) : ∃ ys : List (DataW H), (match (lvData : DataW H) with | .agg l => l[i]? | _ => none) = some (.agg ys) ∧ ys[0]? = some (lvNum (xA i) (xB i)) ∧ ys[1]? = some (lvNum (yA i) (yB i)) := by
  rcases lt8 hi with rfl | rfl | rfl | rfl | rfl | rfl | rfl | rfl <;> exact ⟨_, rfl, rfl, rfl⟩

set_option maxRecDepth 100000 in
theorem lv_cells {W : World} {held : Bool} {fuel : Nat} {cs : List Value} {p : List MemPlace} (h : DataW.trod enc Tryd.prog W 0 (fun _ => true) held fuel 194 cs = some (lvData, p)) (n : Nat) (hn : n < 48) : cs[n]? = some (.int .i64 (lvCell n)) := by
  obtain ⟨f, hf⟩ := arr_of_trod Tryd.underlying194 (ds := match (lvData : DataW H) with | .agg l => l | _ => []) h
  obtain ⟨y, q, hy, hr⟩ := hf (n / 6) (by omega)
  obtain ⟨ys, e0, e1, e2⟩ := lv_row (H := H) (i := n / 6) (by omega)
  have : y = .agg ys := Option.some.inj (hy.symm.trans e0)
  subst this
  rw [cells26] at hr
  obtain ⟨f2, hf2⟩ := arr_of_trod Tryd.underlying193 hr
  obtain ⟨y0, q0, h0, r0⟩ := hf2 0 (by decide)
  obtain ⟨y1, q1, h1, r1⟩ := hf2 1 (by decide)
  rw [cellsNum] at r0 r1
  obtain rfl := Option.some.inj (h0.symm.trans e1)
  obtain rfl := Option.some.inj (h1.symm.trans e2)
  obtain ⟨a, b, k, c0, d0, _⟩ := num_cells Tryd.underlying37 Tryd.underlying2 ⟨rfl, rfl⟩ ⟨rfl, rfl⟩ ⟨rfl, rfl⟩ cellsI64 cellsNum r0
  obtain ⟨a', b', k', c1, d1, _⟩ := num_cells Tryd.underlying37 Tryd.underlying2 ⟨rfl, rfl⟩ ⟨rfl, rfl⟩ ⟨rfl, rfl⟩ cellsI64 cellsNum r1
  simp [lvNum] at d0 d1
  obtain ⟨rfl, rfl, rfl⟩ := d0
  obtain ⟨rfl, rfl, rfl⟩ := d1
  have key : ∀ j, j < 3 → (cs[n / 6 * 6 + j]? = [Value.int .i64 (xA (n / 6)), .int .i64 (xB (n / 6)), .int .i64 0][j]?) ∧ (cs[n / 6 * 6 + 3 + j]? = [Value.int .i64 (yA (n / 6)), .int .i64 (yB (n / 6)), .int .i64 0][j]?) := by
    intro j hj
    constructor
    · rw [← c0]; simp [List.getElem?_drop, hj, show j < 6 by omega]
    · rw [← c1]; simp [List.getElem?_drop, hj, show 3 + j < 6 by omega, Nat.add_assoc]
  have e : n = n / 6 * 6 + n % 6 := by omega
  unfold lvCell
  have h6 : n % 6 < 6 := by omega
  rcases (show n % 6 = 0 ∨ n % 6 = 1 ∨ n % 6 = 2 ∨ n % 6 = 3 ∨ n % 6 = 4 ∨ n % 6 = 5 by omega) with g | g | g | g | g | g
  · have := (key 0 (by decide)).1; rw [show n / 6 * 6 + 0 = n by omega] at this; rw [this]; simp [g]
  · have := (key 1 (by decide)).1; rw [show n / 6 * 6 + 1 = n by omega] at this; rw [this]; simp [g]
  · have := (key 2 (by decide)).1; rw [show n / 6 * 6 + 2 = n by omega] at this; rw [this]; simp [g]
  · have := (key 0 (by decide)).2; rw [show n / 6 * 6 + 3 + 0 = n by omega] at this; rw [this]; simp [g]
  · have := (key 1 (by decide)).2; rw [show n / 6 * 6 + 3 + 1 = n by omega] at this; rw [this]; simp [g]
  · have := (key 2 (by decide)).2; rw [show n / 6 * 6 + 3 + 2 = n by omega] at this; rw [this]; simp [g]

/-- Both tables, out of a row's list. -/
theorem lt_of_laid {W : World} (h : laidMet Tryd.prog [("math/bits.deBruijn64tab", Lib.tabData .u8 (Lib.deBruijn64tab.map (fun n : Nat => (n : Int)))), ("loop.example/g00857/impl.lineVectors", lvData)] W) : LT true W := by
  refine ⟨tz_of_tab (Lib.tabIs_of_head gTz gTzType Tryd.underlying201 Tryd.underlying5 cellsU8 cells64 h), fun _ => ?_⟩
  obtain ⟨ps, ⟨_, _, _, _, _, _, _, _, _, _, ⟨g', t', cs, fuel, p, q, hg', ht', hvar, hd, _, _⟩, _⟩, _⟩ := h
  obtain rfl := Option.some.inj (gLv.symm.trans hg')
  obtain rfl := Option.some.inj (gLvType.symm.trans ht')
  have hc : ∀ n, n < 48 → W.cell? ⟨0, n, none⟩ = some (.int .i64 (lvCell n)) := fun n hn => by
    have := World.var?_cell hg' hvar n
    rw [this]
    simpa using lv_cells hd n hn
  exact ⟨World.block_lt_of_cell? W _ (hc 0 (by decide)), hc⟩

/-- A world for the witness: both variables holding what their initialisers lay. -/
noncomputable def laidWorld2 (os : Os) : World :=
  { laidWorld os with heap := (laidWorld os).heap.modify 0 fun
      | .cells _ t frozen => .cells ((List.range 48).map fun n => Value.int .i64 (lvCell n)).toArray t frozen
      | o => o }
end Go.Proofs.YthhjkiiggokfkaaDoor
end
section
namespace Go.Proofs.YthhjkiiggokfkaaDoor
open Go Go.ChangeShapes Go.WideShapes Go.ChangeAt Go.RowKit Go.Joins OriM
variable {H : Type} {enc : TypeId × Value → H}

theorem array8 {α : Type} {cs : Array α} (h : cs.size = 8) : ∃ c0 c1 c2 c3 c4 c5 c6 c7, cs = #[c0, c1, c2, c3, c4, c5, c6, c7] := by
  obtain ⟨l⟩ := cs
  match l, h with
  | [c0, c1, c2, c3, c4, c5, c6, c7], _ => exact ⟨c0, c1, c2, c3, c4, c5, c6, c7, rfl⟩
theorem cellsLawsMotion : Tryd.prog.cellsOf 46 = 8 := by kernel_rfl
theorem cellsBool : Tryd.prog.cellsOf 4 = 1 := by kernel_rfl

set_option maxRecDepth 100000 in
/-- An argument that is a motion. -/
theorem open_mot {W : World} {base : Nat} {v : Value} {d : DataW H} {p : List MemPlace} (hv : Value.okWide Tryd.prog W .any base 46 v)
    (h : DataW.Trod enc Tryd.prog W 0 (fun _ => true) true 46 v d p) : ∃ (t : Int) (f : Bool) (a b k c d l : Int), v = mot t f a b k c d l ∧ I6 a b k c d l := by
  obtain ⟨cs, rfl, hsz⟩ := okWide_struct Tryd.underlying46 hv
  obtain ⟨z0, z1, z2, z3, z4, z5, z6, z7, rfl⟩ := array8 (hsz.trans cellsLawsMotion)
  obtain ⟨fuel, hf⟩ := h
  obtain ⟨y0, y1, y2, y3, n, hx, _, g0, g1, g2, g3⟩ := trod_struct4 Tryd.underlying46 hf
  simp only [cellsLawsNum, cellsI64, cellsBool, Value.cells] at g0 g1 g2 g3
  obtain ⟨t, e0, _, _⟩ := DataW.trod_int Tryd.underlying2 g0
  obtain ⟨f, e1, _⟩ := DataW.trod_bool Tryd.underlying4 g1
  obtain ⟨a, b, k, e2, _, i2⟩ := num_cells Tryd.underlying33 Tryd.underlying2 ⟨rfl, rfl⟩ ⟨rfl, rfl⟩ ⟨rfl, rfl⟩ cellsI64 cellsLawsNum g2
  obtain ⟨a', b', k', e3, _, i3⟩ := num_cells Tryd.underlying33 Tryd.underlying2 ⟨rfl, rfl⟩ ⟨rfl, rfl⟩ ⟨rfl, rfl⟩ cellsI64 cellsLawsNum g3
  simp at e0 e1 e2 e3
  subst e0 e1
  obtain ⟨rfl, rfl, rfl⟩ := e2
  obtain ⟨rfl, rfl, rfl⟩ := e3
  exact ⟨t, f, a, b, k, a', b', k', rfl, ⟨i2, i3⟩⟩
end Go.Proofs.YthhjkiiggokfkaaDoor
end
section
namespace Go.Proofs.YthhjkiiggokfkaaDoor
open Go Go.RowKit OriM
variable {β : Bool}

/-- The cosine of j eighths of a turn: uc + ud * r / 2. -/
def uc : Nat → Int
  | 0 => 1 | 4 => -1 | _ => 0
def ud : Nat → Int
  | 1 => 1 | 3 => -1 | 5 => -1 | 7 => 1 | _ => 0
def ul : Nat → Nat
  | 1 => 1 | 3 => 1 | 5 => 1 | 7 => 1 | _ => 0
def us (j : Nat) : Nat := (j + 6) % 8
def uA (j : Nat) (A B : Int) : Int := A * uc j + B * ud j
def uB (j : Nat) (A B : Int) : Int := B * uc j + A / 2 * ud j
/-- The unit vector times a number. -/
def uP (j : Nat) (A B : Int) : P4 := ⟨uA j A B, uB j A B, uA (us j) A B, uB (us j) A B⟩
abbrev unitV (j : Nat) : Value := .agg #[.int .i64 (uc j), .int .i64 (ud j), .int .i64 (ul j), .int .i64 (uc (us j)), .int .i64 (ud (us j)), .int .i64 (ul (us j))]
def upI (t : Nat) (f : Bool) : Nat := if f then (t + 6) % 8 else (t + 2) % 8
theorem us_lt (j : Nat) : us j < 8 := by unfold us; omega
theorem upI_lt (t : Nat) (f : Bool) : upI t f < 8 := by unfold upI; split <;> omega

theorem small_u {j : Nat} (hj : j < 8) : Small (uc j) (ud j) := by
  unfold Small
  rcases lt8 hj with rfl | rfl | rfl | rfl | rfl | rfl | rfl | rfl <;> decide
theorem ul_le {j : Nat} (hj : j < 8) : ul j ≤ 1 := by
  rcases lt8 hj with rfl | rfl | rfl | rfl | rfl | rfl | rfl | rfl <;> decide
theorem u_mul {j : Nat} (hj : j < 8) {A : Int} (B : Int) (hA : A % 2 = 0) : A * uc j + 2 * B * ud j = uA j A B * 2 ^ ul j ∧ A * ud j + B * uc j = uB j A B * 2 ^ ul j := by
  unfold uA uB
  rcases lt8 hj with rfl | rfl | rfl | rfl | rfl | rfl | rfl | rfl <;> simp [uc, ud, ul] <;> omega
theorem u_bd {j : Nat} (hj : j < 8) {A B M : Int} (h : Bd2 M A B) : Bd2 M (uA j A B) (uB j A B) := by
  unfold Bd2 uA uB at *
  rcases lt8 hj with rfl | rfl | rfl | rfl | rfl | rfl | rfl | rfl <;> simp [uc, ud] <;> omega
theorem uP_bd {j : Nat} (hj : j < 8) {A B M : Int} (h : Bd2 M A B) : Bd M (uP j A B) := by
  obtain ⟨h1, h2, h3, h4⟩ := u_bd hj h
  obtain ⟨g1, g2, g3, g4⟩ := u_bd (us_lt j) h
  exact ⟨h1, h2, h3, h4, g1, g2, g3, g4⟩

theorem wtimes_u {j : Nat} (hj : j < 8) {A B : Int} (hA : A % 2 = 0) (h : Bd2 1125899906842624 A B) (w : World) (hT : LT β w) :
    Calls Tryd.prog 70 #[num (uc j) (ud j) (ul j : Nat), gv A B] w (RetB (gv (uA j A B) (uB j A B)) w) := by
  have k := gK_le A B
  have l := ul_le hj
  obtain ⟨e1, e2⟩ := u_mul hj B hA
  have g := gr_half (ul j) (gr_times' (uc j) (ud j) (gr_self A B)) e1 e2
  exact wtimes_core _ _ _ _ _ _ _ _ _ _ _ _ w hT (Lib.hid fun w _ => gtimes_val' (g_bound h) (small_u hj) (by omega) (by omega) (by omega) (by omega) w)
    (Lib.hid fun w hT => glow_any (by omega) (by omega) (by rw [show ((ul j : Int) + (gK A B : Int)).toNat = gK A B + ul j by omega]; exact g) w hT.tz)
theorem vtimes_u {j : Nat} (hj : j < 8) {A B : Int} (hA : A % 2 = 0) (h : Bd2 1125899906842624 A B) (w : World) (hT : LT β w) :
    Calls Tryd.prog 140 #[unitV j, gv A B] w (RetB (gp (uP j A B)) w) :=
  vtimes_core _ _ _ _ _ _ _ _ _ _ _ _ _ _ _ w hT (Lib.hid fun w hT => wtimes_u hj hA h w hT) (Lib.hid fun w hT => wtimes_u (us_lt j) hA h w hT)

/-! ### The unit vectors -/
theorem gvh {c : Int} (hc : c = 1 ∨ c = -1) : gv 0 (c * 32768) = num 0 c 1 := by
  have h : Gr 0 c 1 0 (c * 32768) := ⟨by simp, by rcases hc with rfl | rfl <;> decide⟩
  obtain ⟨h1, h2, h3⟩ := gr_of_canon h (by unfold Canon; rcases hc with rfl | rfl <;> omega)
  unfold gv; rw [← h1, ← h2, ← h3]; rfl
theorem wtimes_h {c : Int} (hc : c = 1 ∨ c = -1) (w : World) (hT : LT β w) :
    Calls Tryd.prog 70 #[num c 0 0, num 0 1 1] w (RetB (num 0 c 1) w) := by
  rw [← gvh hc]
  have g : Gr (c * 0 + 2 * 0 * 1) (c * 1 + 0 * 0) 1 0 (c * 32768) := ⟨by simp, by rcases hc with rfl | rfl <;> decide⟩
  exact wtimes_core _ _ _ _ _ _ _ _ _ _ _ _ w hT (Lib.hid fun w _ => gtimes_val (by rcases hc with rfl | rfl <;> (unfold Bd2; decide)) (by unfold Small; decide) (by omega) (by omega) (by omega) (by omega) w)
    (Lib.hid fun w hT => glow_any (by omega) (by omega) g w hT.tz)
theorem vtimes_h {c d : Int} (hc : c = 1 ∨ c = -1) (hd : d = 1 ∨ d = -1) (w : World) (hT : LT β w) :
    Calls Tryd.prog 140 #[sv c 0 d 0, num 0 1 1] w (RetB (.agg #[.int .i64 0, .int .i64 c, .int .i64 1, .int .i64 0, .int .i64 d, .int .i64 1]) w) :=
  vtimes_core _ _ _ _ _ _ _ _ _ _ _ _ _ _ _ w hT (Lib.hid fun w hT => wtimes_h hc w hT) (Lib.hid fun w hT => wtimes_h hd w hT)
theorem unit_any {j : Nat} (hj : j < 8) (w : World) (hT : LT true w) : Calls Tryd.prog 138 #[.int .i64 (2 * j : Nat)] w (RetB (unitV j) w) := by
  rcases lt8 hj with rfl | rfl | rfl | rfl | rfl | rfl | rfl | rfl
  · exact unit_0 _ _ _ _ _ _ w hT (Lib.hid fun w hT => dirvec_0 w hT)
  · exact unit_2 _ _ _ _ _ _ _ _ _ _ _ _ w hT (Lib.hid fun w hT => dirvec_2 w hT) (Lib.hid fun w hT => vtimes_h (.inl rfl) (.inl rfl) w hT)
  · exact unit_4 _ _ _ _ _ _ w hT (Lib.hid fun w hT => dirvec_4 w hT)
  · exact unit_6 _ _ _ _ _ _ _ _ _ _ _ _ w hT (Lib.hid fun w hT => dirvec_6 w hT) (Lib.hid fun w hT => vtimes_h (.inr rfl) (.inl rfl) w hT)
  · exact unit_8 _ _ _ _ _ _ w hT (Lib.hid fun w hT => dirvec_8 w hT)
  · exact unit_10 _ _ _ _ _ _ _ _ _ _ _ _ w hT (Lib.hid fun w hT => dirvec_10 w hT) (Lib.hid fun w hT => vtimes_h (.inr rfl) (.inr rfl) w hT)
  · exact unit_12 _ _ _ _ _ _ w hT (Lib.hid fun w hT => dirvec_12 w hT)
  · exact unit_14 _ _ _ _ _ _ _ _ _ _ _ _ w hT (Lib.hid fun w hT => dirvec_14 w hT) (Lib.hid fun w hT => vtimes_h (.inl rfl) (.inr rfl) w hT)

/-! ### Places -/
/-- A matrix as a value. -/
noncomputable def matV (i u : Nat) (s : P4) : Value := .agg #[.int .i64 (uc i), .int .i64 (ud i), .int .i64 (ul i), .int .i64 (uc (us i)), .int .i64 (ud (us i)), .int .i64 (ul (us i)),
  .int .i64 (uc u), .int .i64 (ud u), .int .i64 (ul u), .int .i64 (uc (us u)), .int .i64 (ud (us u)), .int .i64 (ul (us u)),
  .int .i64 (gA s.a s.b), .int .i64 (gB s.a s.b), .int .i64 (gK s.a s.b), .int .i64 (gA s.c s.d), .int .i64 (gB s.c s.d), .int .i64 (gK s.c s.d)]
def Ev (p : P4) : Prop := p.a % 2 = 0 ∧ p.c % 2 = 0
/-- Where a motion moves p: the program's way. -/
def mP (i u : Nat) (s p : P4) : P4 := ((uP i p.a p.b).add (uP u p.c p.d)).add s
theorem add_bd {p q : P4} {M N : Int} (h : Bd M p) (g : Bd N q) : Bd (M + N) (p.add q) := by
  unfold Bd P4.add at *; simp only; omega
theorem place_g {i u : Nat} (hi : i < 8) (hu : u < 8) {s p : P4} (hs : Bd 8589934592 s) (hp : Bd 1099511627776 p) (he : Ev p) (w : World) (hT : LT β w) :
    Calls Tryd.prog 79 #[matV i u s, gp p] w (RetB (gp (mP i u s p)) w) := by
  obtain ⟨hx, hy⟩ := bd_half hp
  have b1 := uP_bd hi hx
  have b2 := uP_bd hu hy
  have b3 := add_bd b1 b2
  exact place_core _ _ _ _ _ _ _ _ _ _ _ _ _ _ _ _ _ _ _ _ _ _ _ _ _ _ _ _ _ _ _ _ _ _ _ _ _ _ _ _ _ _ _ _ _ _ _ _ w hT
    (Lib.hid fun w hT => vtimes_u hi he.1 (bd2_mono hx (by decide)) w hT) (Lib.hid fun w hT => vtimes_u hu he.2 (bd2_mono hy (by decide)) w hT)
    (Lib.hid fun w hT => vplus_g (bd_mono b1 (by decide)) (bd_mono b2 (by decide)) w hT) (Lib.hid fun w hT => vplus_g (bd_mono b3 (by decide)) (bd_mono hs (by decide)) w hT)
end Go.Proofs.YthhjkiiggokfkaaDoor
end
section
namespace Go.Proofs.YthhjkiiggokfkaaDoor
open Go Go.RowKit OriM
variable {β : Bool}

/-- Both ways of turning a point. -/
theorem turn_eq {t : Nat} (ht : t < 8) (f : Bool) (p : P4) (he : Ev p) : tR t (rotN (t / 2) (flP f p)) = (uP t p.a p.b).add (uP (upI t f) p.c p.d) := by
  obtain ⟨a, b, c, d⟩ := p
  obtain ⟨h1, h2⟩ := he
  simp only at h1 h2
  cases f <;> rcases lt8 ht with rfl | rfl | rfl | rfl | rfl | rfl | rfl | rfl <;> simp [tR, rotN, rot, flP, halfP', uP, uA, uB, uc, ud, us, upI, P4.add] <;> omega

theorem sturn_g {t : Nat} (ht : t < 8) (f : Bool) {p : P4} (hb : Bd 1099511627776 p) (he : Ev p) (w : World) (hT : LT β w) :
    Calls Tryd.prog 142 #[.int .i64 (t : Int), .bool f, gp p] w (RetB (gp ((uP t p.a p.b).add (uP (upI t f) p.c p.d))) w) := by
  rw [← turn_eq ht f p he]
  have e : (t : Int).tdiv 2 = ((t / 2 : Nat) : Int) := by
    rw [Int.tdiv_eq_ediv_of_nonneg (by omega)]; omega
  have o : (t : Int).tmod 2 = 0 ∨ (t : Int).tmod 2 = 1 := by
    rw [Int.tmod_eq_emod_of_nonneg (by omega)]; omega
  cases f
  · exact sTurn_no t (t / 2) p.a p.b p.c p.d w hT e (by omega) o hb he.1 he.2
  · exact sTurn_yes t (t / 2) p.a p.b p.c p.d w hT e (by omega) o hb he.1 he.2
theorem splus_g {p q : P4} (h : Bd 70368744177664 p) (h' : Bd 70368744177664 q) (w : World) (hT : LT β w) :
    Calls Tryd.prog 169 #[gp p, gp q] w (RetB (gp (p.add q)) w) := by
  obtain ⟨hx, hy⟩ := bd_half h
  obtain ⟨hx', hy'⟩ := bd_half h'
  exact sPlus_core _ _ _ _ _ _ _ _ _ _ _ _ _ _ _ _ _ _ w hT (Lib.hid fun w _ => gAdd_any (bd2_mono hx (by decide)) (bd2_mono hx' (by decide)) w) (Lib.hid fun w _ => gAdd_any (bd2_mono hy (by decide)) (bd2_mono hy' (by decide)) w)
/-- A motion on the grid, as a value. -/
abbrev motG (t : Int) (f : Bool) (s : P4) : Value := mot t f (gA s.a s.b) (gB s.a s.b) (gK s.a s.b) (gA s.c s.d) (gB s.c s.d) (gK s.c s.d)
theorem smove_g {t : Nat} (ht : t < 8) (f : Bool) {s p : P4} (hs : Bd 8589934592 s) (hb : Bd 1099511627776 p) (he : Ev p) (w : World) (hT : LT β w) :
    Calls Tryd.prog 135 #[motG t f s, gp p] w (RetB (gp (mP t (upI t f) s p)) w) := by
  obtain ⟨hx, hy⟩ := bd_half hb
  have b3 := add_bd (uP_bd ht hx) (uP_bd (upI_lt t f) hy)
  exact sMove_core _ _ _ _ _ _ _ _ _ _ _ _ _ _ _ _ _ _ _ _ _ _ _ _ _ _ w hT (Lib.hid fun w hT => sturn_g ht f hb he w hT) (Lib.hid fun w hT => splus_g (bd_mono b3 (by decide)) (bd_mono hs (by decide)) w hT)
theorem matrix_g {t : Nat} (ht : t < 8) (f : Bool) (s : P4) (w : World) (hT : LT true w) :
    Calls Tryd.prog 78 #[motG t f s] w (RetB (matV t (upI t f) s) w) := by
  have d1 : dirV t f 0 = ((2 * t : Nat) : Int) := by cases f <;> simp [dirV] <;> omega
  have d2 : dirV t f 4 = ((2 * upI t f : Nat) : Int) := by cases f <;> simp [dirV, upI] <;> omega
  have D1 := fun w (hT : LT true w) => dir_any (t := (t : Int)) f (gA s.a s.b) (gB s.a s.b) (gK s.a s.b) (gA s.c s.d) (gB s.c s.d) (gK s.c s.d) (e := 0) (by omega) (by omega) (by omega) (by omega) w hT
  have D2 := fun w (hT : LT true w) => dir_any (t := (t : Int)) f (gA s.a s.b) (gB s.a s.b) (gK s.a s.b) (gA s.c s.d) (gB s.c s.d) (gK s.c s.d) (e := 4) (by omega) (by omega) (by omega) (by omega) w hT
  rw [d1] at D1
  rw [d2] at D2
  exact matrixOf_core _ _ _ _ _ _ _ _ _ _ _ _ _ _ _ _ _ _ _ _ _ _ w hT (Lib.hid D1) (Lib.hid fun w hT => unit_any ht w hT) (Lib.hid D2) (Lib.hid fun w hT => unit_any (upI_lt t f) w hT)
    (Lib.hid fun w hT => shift_any _ _ _ _ _ _ _ _ w hT) (Lib.hid fun w hT => vectorOf_g s w hT)
theorem sNumQ_g {p : P4} (h : Bd 70368744177664 p) (w : World) (hT : LT β w) : Calls Tryd.prog 100 #[gp p] w (RetB (pointV p) w) := by
  obtain ⟨hx, hy⟩ := bd_half h
  exact sNum_any (gr_self p.a p.b) (g_bound (bd2_mono hx (by decide))) (by have := gK_le p.a p.b; omega) (gr_self p.c p.d) (g_bound (bd2_mono hy (by decide))) (by have := gK_le p.c p.d; omega) w hT
theorem mot_g {t : Int} {f : Bool} {a b k c d l : Int} (h : vP a b k c d l = true) : mot t f a b k c d l = motG t f (gP a b k c d l) := by
  unfold vP at h; rw [Bool.and_eq_true] at h
  obtain ⟨h1, h2, h3⟩ := valid_g h.1
  obtain ⟨g1, g2, g3⟩ := valid_g h.2
  unfold motG mot gP
  simp only
  rw [← h1, ← h2, ← h3, ← g1, ← g2, ← g3]

end Go.Proofs.YthhjkiiggokfkaaDoor
end
section
namespace Go.Proofs.YthhjkiiggokfkaaDoor
namespace Com
open Go Go.RowKit OriM
variable {β : Bool}

theorem dot_m64 {d : Nat} (hd : d < 16) {p : P4} (h : M64 p) : dotA d p % 64 = 0 ∧ dotB d p % 64 = 0 := by
  obtain ⟨h1, h2, h3, h4⟩ := h
  rcases lt16 hd with rfl | rfl | rfl | rfl | rfl | rfl | rfl | rfl | rfl | rfl | rfl | rfl | rfl | rfl | rfl | rfl <;> simp [dotA, dotB, xA, xB, yA, yB] <;> omega

/-- LineAt of a valid point: both sides. -/
theorem find8_dir (p : P4) : ∀ n d, d + n ≤ 8 → find8 (fun j => Q.sgn2 (crossA j p) (crossB j p)) (fun j => sgD j p) n d = dirFrom p n d
  | 0, _, _ => rfl
  | n + 1, d, h => by
    unfold find8 dirFrom
    rw [find8_dir p n (d + 1) (by omega)]
    have e : (Q.sgn2 (crossA d p) (crossB d p) = 0) ↔ Along d p := by
      rw [sgn2_zero', (cross_dot (by omega) p).1, (cross_dot (by omega) p).2]; rfl
    by_cases ha : Along d p
    · rw [if_pos (e.2 ha), if_pos ha]
    · rw [if_neg (fun hc => ha (e.1 hc)), if_neg ha]

theorem wf_of {x : Int} (h : -1152921504606846976 ≤ x ∧ x ≤ 1152921504606846976) : (Lit.int .i64 x).wf = true := WalkArith.wf_i64 (by omega)
theorem gk_wf (A B : Int) : (Lit.int .i64 (gK A B : Int)).wf = true := wf_of (by have := gK_le A B; omega)

theorem iDirTo_g {p q : P4} (hp : Bd 8589934592 p) (hq : Bd 8589934592 q) (mp : M64 p) (mq : M64 q) (w : World) (hT : LT true w) :
    Calls Tryd.prog 96 #[gp p, gp q] w (RetB (.int .i64 (dirOf (q.sub p))) w) := by
  obtain ⟨p1, p2⟩ := bd_half hp
  obtain ⟨q1, q2⟩ := bd_half hq
  have bp1 := g_bound p1
  have bp2 := g_bound p2
  have bq1 := g_bound q1
  have bq2 := g_bound q2
  have hv := fun w => veq_run (wf_of (x := gA p.a p.b) (by omega)) (wf_of (x := gB p.a p.b) (by omega)) (gk_wf p.a p.b) (wf_of (x := gA p.c p.d) (by omega)) (wf_of (x := gB p.c p.d) (by omega)) (gk_wf p.c p.d)
    (wf_of (x := gA q.a q.b) (by omega)) (wf_of (x := gB q.a q.b) (by omega)) (gk_wf q.a q.b) (wf_of (x := gA q.c q.d) (by omega)) (wf_of (x := gB q.c q.d) (by omega)) (gk_wf q.c q.d) w
  by_cases he : p = q
  · subst he
    have hz : dirOf (p.sub p) = -1 := by unfold dirOf; rw [if_pos]; unfold zero P4.sub; simp
    rw [hz]
    simp only [eqB, beq_self_eq_true, Bool.and_self] at hv
    exact dirTo_same _ _ _ _ _ _ w hv
  · have hne : ∀ w, (Op.equalIn 10000 104 (.agg #[.int .i64 (gA p.a p.b), .int .i64 (gB p.a p.b), .int .i64 (gK p.a p.b), .int .i64 (gA p.c p.d), .int .i64 (gB p.c p.d), .int .i64 (gK p.c p.d)]) (.agg #[.int .i64 (gA q.a q.b), .int .i64 (gB q.a q.b), .int .i64 (gK q.a q.b), .int .i64 (gA q.c q.d), .int .i64 (gB q.c q.d), .int .i64 (gK q.c q.d)])).run Tryd.prog w = .ok false w := by
      intro w
      rw [hv w]
      congr 1
      rw [Bool.eq_false_iff]
      intro hc
      simp only [eqB, Bool.and_eq_true, beq_iff_eq] at hc
      obtain ⟨⟨a1, a2, a3⟩, a4, a5, a6⟩ := hc
      obtain ⟨e1, e2⟩ := g_inj ⟨a1, a2, by omega⟩
      obtain ⟨e3, e4⟩ := g_inj ⟨a4, a5, by omega⟩
      apply he
      cases p; cases q; simp_all
    have hD : Bd 17179869184 (q.sub p) := by unfold Bd P4.sub at *; simp only; omega
    have hM : M64 (q.sub p) := by unfold M64 P4.sub at *; simp only; omega
    have hnz : ¬ zero (q.sub p) := by
      intro hc
      unfold zero P4.sub at hc
      simp only at hc
      apply he
      cases p; cases q; simp only [P4.mk.injEq]; simp only at hc; omega
    refine dirTo_core _ _ _ _ _ _ _ _ _ _ _ _ _ _ _ _ _ _ _ xA xB yA yB _ _ _ _ _ _ (fun j => Q.sgn2 (crossA j (q.sub p)) (crossB j (q.sub p))) (fun j => sgD j (q.sub p)) w hT hne (Lib.hid fun w hT => vminus_g (bd_mono hq (by decide)) (bd_mono hp (by decide)) w hT)
      (Lib.hid fun j hj w hT => ?_) (Lib.hid fun j hj w hT => vcross_g (by omega) (bd_mono hD (by decide)) w hT) (Lib.hid fun j hj w => ?_) (Lib.hid fun j hj w hT => vdot_g (by omega) (bd_mono hD (by decide)) w hT) (Lib.hid fun j hj w => ?_) (Lib.hid ?_)
    · have := dirvec_any j (by omega) w hT
      rwa [Nat.mod_eq_of_lt (show j < 16 by omega)] at this
    · have m := dot_m64 (d := j + 4) (by omega) hM
      have b := dot_bd (d := j + 4) (by omega) hD
      rw [← (cross_dot hj _).1, ← (cross_dot hj _).2] at m b
      exact sign_g m.1 m.2 (bd2_mono b (by decide)) w
    · have m := dot_m64 (d := j) (by omega) hM
      exact sign_g m.1 m.2 (bd2_mono (dot_bd (by omega) hD) (by decide)) w
    · rw [find8_dir _ 8 0 (by omega)]
      unfold dirOf; rw [if_neg hnz]

/-! ### Unit vectors on the grid -/
theorem unit_gp {j : Nat} (hj : j < 8) : gp (uP j 65536 0) = unitV j := by
  rcases lt8 hj with rfl | rfl | rfl | rfl | rfl | rfl | rfl | rfl <;> rfl
theorem uP_zero (j : Nat) : uP j 0 0 = ⟨0, 0, 0, 0⟩ := by simp [uP, uA, uB]
theorem uP_unit_bd {j : Nat} (hj : j < 8) : Bd 65536 (uP j 65536 0) := by
  rcases lt8 hj with rfl | rfl | rfl | rfl | rfl | rfl | rfl | rfl <;> (unfold Bd; decide)
theorem uP_unit_m64 {j : Nat} (hj : j < 8) : M64 (uP j 65536 0) := by
  rcases lt8 hj with rfl | rfl | rfl | rfl | rfl | rfl | rfl | rfl <;> (unfold M64; decide)
theorem dir_unit {j : Nat} (hj : j < 8) : dirOf ((uP j 65536 0).sub ⟨0, 0, 0, 0⟩) = ((2 * j : Nat) : Int) := by
  rcases lt8 hj with rfl | rfl | rfl | rfl | rfl | rfl | rfl | rfl <;> decide
theorem zero_gp : gp ⟨0, 0, 0, 0⟩ = Value.agg #[.int .i64 0, .int .i64 0, .int .i64 0, .int .i64 0, .int .i64 0, .int .i64 0] := rfl
theorem dirTo_unit {j : Nat} (hj : j < 8) (w : World) (hT : LT true w) :
    Calls Tryd.prog 96 #[gp ⟨0, 0, 0, 0⟩, unitV j] w (RetB (.int .i64 ((2 * j : Nat) : Int)) w) := by
  have h := iDirTo_g (p := ⟨0, 0, 0, 0⟩) (q := uP j 65536 0) (by unfold Bd; decide) (bd_mono (uP_unit_bd hj) (by decide)) (by unfold M64; decide) (uP_unit_m64 hj) w hT
  rw [dir_unit hj, unit_gp hj] at h
  exact h

/-! ### Matrices compared -/
theorem cellsMx : Tryd.prog.cellsOf 122 = 18 := by kernel_rfl
theorem kyM : Tryd.prog.keyTypeAt 6 122 = true := by kernel_rfl
/-- Six integers of 64 bits. -/
def W6 (a b k c d l : Int) : Prop := (Lit.int .i64 a).wf = true ∧ (Lit.int .i64 b).wf = true ∧ (Lit.int .i64 k).wf = true ∧ (Lit.int .i64 c).wf = true ∧ (Lit.int .i64 d).wf = true ∧ (Lit.int .i64 l).wf = true
def e6b (a b k c d l a' b' k' c' d' l' : Int) : Bool := eqB a b k a' b' k' && eqB c d l c' d' l'
theorem kvec6 {a b k c d l : Int} (h : W6 a b k c d l) : Tryd.prog.keyLits 4 104 [.int .i64 a, .int .i64 b, .int .i64 k, .int .i64 c, .int .i64 d, .int .i64 l] = some [.int .i64 a, .int .i64 b, .int .i64 k, .int .i64 c, .int .i64 d, .int .i64 l] :=
  kvec h.1 h.2.1 h.2.2.1 h.2.2.2.1 h.2.2.2.2.1 h.2.2.2.2.2
theorem kmat {pa pb pk pc pd pl qa qb qk qc qd ql ra rb rk rc rd rl : Int} (h1 : W6 pa pb pk pc pd pl) (h2 : W6 qa qb qk qc qd ql) (h3 : W6 ra rb rk rc rd rl) : Tryd.prog.keyLits 5 122 [.int .i64 pa, .int .i64 pb, .int .i64 pk, .int .i64 pc, .int .i64 pd, .int .i64 pl, .int .i64 qa, .int .i64 qb, .int .i64 qk, .int .i64 qc, .int .i64 qd, .int .i64 ql, .int .i64 ra, .int .i64 rb, .int .i64 rk, .int .i64 rc, .int .i64 rd, .int .i64 rl] = some [.int .i64 pa, .int .i64 pb, .int .i64 pk, .int .i64 pc, .int .i64 pd, .int .i64 pl, .int .i64 qa, .int .i64 qb, .int .i64 qk, .int .i64 qc, .int .i64 qd, .int .i64 ql, .int .i64 ra, .int .i64 rb, .int .i64 rk, .int .i64 rc, .int .i64 rd, .int .i64 rl] := by
  unfold Program.keyLits
  simp only [Tryd.underlying122]
  simp [cellsMx, cellsVec, kvec6 h1, kvec6 h2, kvec6 h3]
theorem kfM (pa pb pk pc pd pl qa qb qk qc qd ql ra rb rk rc rd rl : Int) : (Value.agg #[.int .i64 pa, .int .i64 pb, .int .i64 pk, .int .i64 pc, .int .i64 pd, .int .i64 pl, .int .i64 qa, .int .i64 qb, .int .i64 qk, .int .i64 qc, .int .i64 qd, .int .i64 ql, .int .i64 ra, .int .i64 rb, .int .i64 rk, .int .i64 rc, .int .i64 rd, .int .i64 rl]).formed Tryd.prog 122 = true := by kernel_rfl
set_option maxRecDepth 100000 in
theorem meq_run {pa pb pk pc pd pl qa qb qk qc qd ql ra rb rk rc rd rl xa xb xk xc xd xl ya yb yk yc yd yl za zb zk zc zd zl : Int} (h1 : W6 pa pb pk pc pd pl) (h2 : W6 qa qb qk qc qd ql) (h3 : W6 ra rb rk rc rd rl) (g1 : W6 xa xb xk xc xd xl) (g2 : W6 ya yb yk yc yd yl) (g3 : W6 za zb zk zc zd zl) (w : World) :
    (Op.equalIn 10000 122 (.agg #[.int .i64 pa, .int .i64 pb, .int .i64 pk, .int .i64 pc, .int .i64 pd, .int .i64 pl, .int .i64 qa, .int .i64 qb, .int .i64 qk, .int .i64 qc, .int .i64 qd, .int .i64 ql, .int .i64 ra, .int .i64 rb, .int .i64 rk, .int .i64 rc, .int .i64 rd, .int .i64 rl]) (.agg #[.int .i64 xa, .int .i64 xb, .int .i64 xk, .int .i64 xc, .int .i64 xd, .int .i64 xl, .int .i64 ya, .int .i64 yb, .int .i64 yk, .int .i64 yc, .int .i64 yd, .int .i64 yl, .int .i64 za, .int .i64 zb, .int .i64 zk, .int .i64 zc, .int .i64 zd, .int .i64 zl])).run Tryd.prog w = .ok (e6b pa pb pk pc pd pl xa xb xk xc xd xl && e6b qa qb qk qc qd ql ya yb yk yc yd yl && e6b ra rb rk rc rd rl za zb zk zc zd zl) w := by
  have hd := run_equalIn_deep 9994 6 122 kyM w 5 5 _ _ _ _ (kfM pa pb pk pc pd pl qa qb qk qc qd ql ra rb rk rc rd rl) (kfM xa xb xk xc xd xl ya yb yk yc yd yl za zb zk zc zd zl) (kmat h1 h2 h3) (kmat g1 g2 g3)
  generalize hN : 9994 + 6 = N at hd
  obtain rfl : 10000 = N := hN
  obtain ⟨r, hr, he⟩ := hd
  rw [hr]
  have : r = (e6b pa pb pk pc pd pl xa xb xk xc xd xl && e6b qa qb qk qc qd ql ya yb yk yc yd yl && e6b ra rb rk rc rd rl za zb zk zc zd zl) := by
    rw [Bool.eq_iff_iff, he]
    simp [e6b, eqB, and_assoc]
  rw [this]
theorem w6_unit {j : Nat} (hj : j < 8) : W6 (uc j) (ud j) (ul j : Nat) (uc (us j)) (ud (us j)) (ul (us j) : Nat) := by
  rcases lt8 hj with rfl | rfl | rfl | rfl | rfl | rfl | rfl | rfl <;> (unfold W6; decide)
theorem w6_gp {p : P4} (hp : Bd 70368744177664 p) : W6 (gA p.a p.b) (gB p.a p.b) (gK p.a p.b) (gA p.c p.d) (gB p.c p.d) (gK p.c p.d) := by
  obtain ⟨p1, p2⟩ := bd_half hp
  have b1 := g_bound p1
  have b2 := g_bound p2
  exact ⟨wf_of (by omega), wf_of (by omega), gk_wf _ _, wf_of (by omega), wf_of (by omega), gk_wf _ _⟩
theorem e6b_units {t : Nat} (ht : t < 8) (f : Bool) : e6b (uc (upI t false)) (ud (upI t false)) (ul (upI t false) : Nat) (uc (us (upI t false))) (ud (us (upI t false))) (ul (us (upI t false)) : Nat) (uc (upI t f)) (ud (upI t f)) (ul (upI t f) : Nat) (uc (us (upI t f))) (ud (us (upI t f))) (ul (us (upI t f)) : Nat) = !f := by
  cases f <;> rcases lt8 ht with rfl | rfl | rfl | rfl | rfl | rfl | rfl | rfl <;> decide
theorem e6b_same (a b k c d l : Int) : e6b a b k c d l a b k c d l = true := by simp [e6b, eqB]
theorem mx_cmp {t : Nat} (ht : t < 8) (f : Bool) {s : P4} (hs : Bd 70368744177664 s) (w : World) :
    (Op.equalIn 10000 122 (matV t (upI t false) s) (matV t (upI t f) s)).run Tryd.prog w = .ok (!f) w := by
  have h := meq_run (w6_unit ht) (w6_unit (upI_lt t false)) (w6_gp hs) (w6_unit ht) (w6_unit (upI_lt t f)) (w6_gp hs) w
  rw [e6b_same, e6b_same, e6b_units ht f, Bool.true_and, Bool.and_true] at h
  exact h
end Com
end Go.Proofs.YthhjkiiggokfkaaDoor
end
section
namespace Go.Proofs.YthhjkiiggokfkaaDoor
namespace Com
open Go Go.RowKit OriM
variable {β : Bool}

/-! ### Linear parts -/
def lin (i u : Nat) (p : P4) : P4 := (uP i p.a p.b).add (uP u p.c p.d)
theorem mP_lin (i u : Nat) (s p : P4) : mP i u s p = (lin i u p).add s := rfl
theorem uA_add {j : Nat} (hj : j < 8) (A B A' B' : Int) : uA j (A + A') (B + B') = uA j A B + uA j A' B' := by
  unfold uA
  rcases lt8 hj with rfl | rfl | rfl | rfl | rfl | rfl | rfl | rfl <;> simp [uc, ud] <;> omega
theorem uB_add {j : Nat} (hj : j < 8) (A B A' B' : Int) (h : A % 2 = 0) : uB j (A + A') (B + B') = uB j A B + uB j A' B' := by
  unfold uB
  rcases lt8 hj with rfl | rfl | rfl | rfl | rfl | rfl | rfl | rfl <;> simp [uc, ud] <;> omega
theorem lin_add {i u : Nat} (hi : i < 8) (hu : u < 8) {p : P4} (q : P4) (he : Ev p) : lin i u (p.add q) = (lin i u p).add (lin i u q) := by
  obtain ⟨a, b, c, d⟩ := p
  obtain ⟨a', b', c', d'⟩ := q
  obtain ⟨h1, h2⟩ := he
  simp only at h1 h2
  simp only [lin, uP, P4.add, uA_add hi, uA_add hu, uA_add (us_lt i), uA_add (us_lt u), uB_add hi _ _ _ _ h1, uB_add hu _ _ _ _ h2, uB_add (us_lt i) _ _ _ _ h1, uB_add (us_lt u) _ _ _ _ h2, P4.mk.injEq]
  omega
def pE : P4 := ⟨65536, 0, 0, 0⟩
def pN : P4 := ⟨0, 0, 65536, 0⟩
def p0 : P4 := ⟨0, 0, 0, 0⟩
theorem lin_E (i u : Nat) : lin i u pE = uP i 65536 0 := by simp [lin, pE, uP_zero, P4.add]
theorem lin_N (i u : Nat) : lin i u pN = uP u 65536 0 := by simp [lin, pN, uP_zero, P4.add]
theorem lin_0 (i u : Nat) : lin i u p0 = p0 := by simp [lin, p0, uP_zero, P4.add]
theorem add_sub (p q r : P4) : ((p.add q).add r).sub (q.add r) = p := by
  simp only [P4.add, P4.sub]; cases p; simp only [P4.mk.injEq]; omega
theorem zero_add' (p : P4) : p0.add p = p := by simp [p0, P4.add]
theorem ev_unit {j : Nat} (hj : j < 8) : Ev (uP j 65536 0) := by
  rcases lt8 hj with rfl | rfl | rfl | rfl | rfl | rfl | rfl | rfl <;> (unfold Ev; decide)
theorem ev_add {p q : P4} (h : Ev p) (g : Ev q) : Ev (p.add q) := by unfold Ev P4.add at *; simp only; omega
/-- The turn of a composed motion. -/
def cmp (t : Nat) (f : Bool) (j : Nat) : Nat := if f then (t + 8 - j) % 8 else (t + j) % 8
theorem cmp_lt (t : Nat) (f : Bool) (j : Nat) : cmp t f j < 8 := by unfold cmp; split <;> omega
theorem lin_unit {t : Nat} (ht : t < 8) (f : Bool) {j : Nat} (hj : j < 8) : lin t (upI t f) (uP j 65536 0) = uP (cmp t f j) 65536 0 := by
  cases f <;> rcases lt8 ht with rfl | rfl | rfl | rfl | rfl | rfl | rfl | rfl <;> rcases lt8 hj with rfl | rfl | rfl | rfl | rfl | rfl | rfl | rfl <;> rfl
theorem up_cmp {t e : Nat} (ht : t < 8) (he : e < 8) (f g : Bool) : cmp e g (upI t f) = upI (cmp e g t) (f != g) := by
  cases f <;> cases g <;> rcases lt8 ht with rfl | rfl | rfl | rfl | rfl | rfl | rfl | rfl <;> rcases lt8 he with rfl | rfl | rfl | rfl | rfl | rfl | rfl | rfl <;> rfl

/-- The second motion behind the first: its place of the origin, and of the units. -/
theorem both_unit {t e : Nat} (he : e < 8) (f g : Bool) {s : P4} (n : P4) (j : Nat) (hj : j < 8) (q : P4) (hq : lin t (upI t f) q = uP j 65536 0) :
    (mP e (upI e g) n (mP t (upI t f) s q)).sub (mP e (upI e g) n s) = uP (cmp e g j) 65536 0 := by
  rw [mP_lin, mP_lin, mP_lin, hq, lin_add he (upI_lt e g) s (ev_unit hj), lin_unit he g hj, add_sub]
theorem mP_zero (t u : Nat) (s : P4) : mP t u s p0 = s := by rw [mP_lin, lin_0, zero_add']
theorem lin_bd {i u : Nat} (hi : i < 8) (hu : u < 8) {p : P4} {M : Int} (h : Bd M p) : Bd (M + M) (lin i u p) := by
  obtain ⟨hx, hy⟩ := bd_half h
  exact add_bd (uP_bd hi hx) (uP_bd hu hy)

/-! ### The program's answer -/
theorem p0_gp : gp p0 = Value.agg #[.int .i64 0, .int .i64 0, .int .i64 0, .int .i64 0, .int .i64 0, .int .i64 0] := rfl
theorem pE_gp : gp pE = Value.agg #[.int .i64 1, .int .i64 0, .int .i64 0, .int .i64 0, .int .i64 0, .int .i64 0] := rfl
theorem pN_gp : gp pN = Value.agg #[.int .i64 0, .int .i64 0, .int .i64 0, .int .i64 1, .int .i64 0, .int .i64 0] := rfl
theorem ev_m64 {p : P4} (h : M64 p) : Ev p := by obtain ⟨h1, _, h3, _⟩ := h; exact ⟨by omega, by omega⟩
theorem tdiv2 (j : Nat) : ((2 * j : Nat) : Int).tdiv 2 = (j : Int) := by rw [Int.tdiv_eq_ediv_of_nonneg (by omega)]; omega

end Com
end Go.Proofs.YthhjkiiggokfkaaDoor
end
section
namespace Go.Proofs.YthhjkiiggokfkaaDoor
open Go Go.RowKit OriM
variable {β : Bool}
attribute [local go_sem ↓] Go.wp_at_zero Go.wp_at_succ

set_option maxHeartbeats 1000000 in
theorem eqMot_core (t ma mb mk mc md ml : Int) (f : Bool) (w : World) (hT : LT β w)
    (H1 : Hid (∀ w, LT β w → Calls Tryd.prog 26 #[Value.agg #[Value.int IntKind.i64 ma, Value.int IntKind.i64 mb, Value.int IntKind.i64 mk], Value.agg #[Value.int IntKind.i64 ma, Value.int IntKind.i64 mb, Value.int IntKind.i64 mk]] w (RetB (Value.bool true) w)))
    (H2 : Hid (∀ w, LT β w → Calls Tryd.prog 26 #[Value.agg #[Value.int IntKind.i64 mc, Value.int IntKind.i64 md, Value.int IntKind.i64 ml], Value.agg #[Value.int IntKind.i64 mc, Value.int IntKind.i64 md, Value.int IntKind.i64 ml]] w (RetB (Value.bool true) w)))
    : Calls Tryd.prog 30 #[Value.agg #[Value.int IntKind.i64 t, Value.bool f, Value.int IntKind.i64 ma, Value.int IntKind.i64 mb, Value.int IntKind.i64 mk, Value.int IntKind.i64 mc, Value.int IntKind.i64 md, Value.int IntKind.i64 ml], Value.agg #[Value.int IntKind.i64 t, Value.bool f, Value.int IntKind.i64 ma, Value.int IntKind.i64 mb, Value.int IntKind.i64 mk, Value.int IntKind.i64 mc, Value.int IntKind.i64 md, Value.int IntKind.i64 ml]] w (RetB (Value.bool true) w) := by
  go_enter Tryd.func30, Tryd.ntmps30
  go_wp2_with fail
  refine (H1.out _ ?_).mono ?_
  · exact LT.below (w := w) hT (by (repeat (first | with_reducible exact Below.refl _ _ | with_reducible assumption | with_reducible refine below_drewN ?_ _ | with_reducible refine Below.drew ?_ | with_reducible refine Below.alloc ?_ (by first | omega | (simp; done) | (simp; omega)) _ | with_reducible refine Below.setCell ?_ (by first | omega | (simp; done) | (simp; omega)) _ | with_reducible refine Below.trans ?_ (Below.mono (by assumption) (by first | omega | (simp; done) | (simp; omega)))))) (Nat.le_refl _)
  rintro e w1 ⟨rfl, hb1⟩; (try replace hb1 := Below.undrew hb1); obtain ⟨hc1, hf1⟩ := bcell hb1; have hz1 := hb1.size; (try simp at hz1); (have zz_1_0 : w.heap.size < w.heap.size + 1 + 1 := (by omega)); (try have z1_0 : w.heap.size < w1.heap.size := (by omega)); (try have z1_1 : w.heap.size + 1 < w1.heap.size := (by omega))
  go_wp2_with fail
  refine (H2.out _ ?_).mono ?_
  · exact LT.below (w := w) hT (by (repeat (first | with_reducible exact Below.refl _ _ | with_reducible assumption | with_reducible refine below_drewN ?_ _ | with_reducible refine Below.drew ?_ | with_reducible refine Below.alloc ?_ (by first | omega | (simp; done) | (simp; omega)) _ | with_reducible refine Below.setCell ?_ (by first | omega | (simp; done) | (simp; omega)) _ | with_reducible refine Below.trans ?_ (Below.mono (by assumption) (by first | omega | (simp; done) | (simp; omega)))))) (Nat.le_refl _)
  rintro e w2 ⟨rfl, hb2⟩; (try replace hb2 := Below.undrew hb2); obtain ⟨hc2, hf2⟩ := bcell hb2; have hz2 := hb2.size; (try simp at hz2); (try have z2_0 : w.heap.size < w2.heap.size := (by omega)); (try have z2_1 : w.heap.size + 1 < w2.heap.size := (by omega))
  go_wp2_with fail
  go_ret
  exact ⟨rfl, by (repeat (first | with_reducible exact Below.refl _ _ | with_reducible assumption | with_reducible refine below_drewN ?_ _ | with_reducible refine Below.drew ?_ | with_reducible refine Below.alloc ?_ (by first | omega | (simp; done) | (simp; omega)) _ | with_reducible refine Below.setCell ?_ (by first | omega | (simp; done) | (simp; omega)) _ | with_reducible refine Below.trans ?_ (Below.mono (by assumption) (by first | omega | (simp; done) | (simp; omega)))))⟩

set_option maxHeartbeats 1000000 in
theorem sNumM_ok (t ma mb mk mc md ml pa pb pk pc pd pl : Int) (f : Bool) (w : World) (hT : LT β w)
    (H1 : Hid (∀ w, LT β w → Calls Tryd.prog 100 #[Value.agg #[Value.int IntKind.i64 ma, Value.int IntKind.i64 mb, Value.int IntKind.i64 mk, Value.int IntKind.i64 mc, Value.int IntKind.i64 md, Value.int IntKind.i64 ml]] w (RetB (Value.tuple #[Value.agg #[Value.int IntKind.i64 pa, Value.int IntKind.i64 pb, Value.int IntKind.i64 pk, Value.int IntKind.i64 pc, Value.int IntKind.i64 pd, Value.int IntKind.i64 pl], Value.bool true]) w)))
    : Calls Tryd.prog 73 #[Value.agg #[Value.int IntKind.i64 t, Value.bool f, Value.int IntKind.i64 ma, Value.int IntKind.i64 mb, Value.int IntKind.i64 mk, Value.int IntKind.i64 mc, Value.int IntKind.i64 md, Value.int IntKind.i64 ml]] w (RetB (Value.tuple #[Value.agg #[Value.int IntKind.i64 t, Value.bool f, Value.int IntKind.i64 pa, Value.int IntKind.i64 pb, Value.int IntKind.i64 pk, Value.int IntKind.i64 pc, Value.int IntKind.i64 pd, Value.int IntKind.i64 pl], Value.bool true]) w) := by
  go_enter Tryd.func73, Tryd.ntmps73
  go_wp2_with fail
  refine (H1.out _ ?_).mono ?_
  · exact LT.below (w := w) hT (by (repeat (first | with_reducible exact Below.refl _ _ | with_reducible assumption | with_reducible refine below_drewN ?_ _ | with_reducible refine Below.drew ?_ | with_reducible refine Below.alloc ?_ (by first | omega | (simp; done) | (simp; omega)) _ | with_reducible refine Below.setCell ?_ (by first | omega | (simp; done) | (simp; omega)) _ | with_reducible refine Below.trans ?_ (Below.mono (by assumption) (by first | omega | (simp; done) | (simp; omega)))))) (Nat.le_refl _)
  rintro e w1 ⟨rfl, hb1⟩; (try replace hb1 := Below.undrew hb1); obtain ⟨hc1, hf1⟩ := bcell hb1; have hz1 := hb1.size; (try simp at hz1); (have zz_1_0 : w.heap.size < w.heap.size + 1 + 1 := (by omega)); (try have z1_0 : w.heap.size < w1.heap.size := (by omega)); (try have z1_1 : w.heap.size + 1 < w1.heap.size := (by omega))
  go_wp2_with fail
  exact bodyPost_ret (v := Value.tuple #[Value.agg #[Value.int IntKind.i64 t, Value.bool f, Value.int IntKind.i64 pa, Value.int IntKind.i64 pb, Value.int IntKind.i64 pk, Value.int IntKind.i64 pc, Value.int IntKind.i64 pd, Value.int IntKind.i64 pl], Value.bool true]) (by simp [results, Tryd.results73, go_sem, *]) rfl ⟨rfl, by (repeat (first | with_reducible exact Below.refl _ _ | with_reducible assumption | with_reducible refine below_drewN ?_ _ | with_reducible refine Below.drew ?_ | with_reducible refine Below.alloc ?_ (by first | omega | (simp; done) | (simp; omega)) _ | with_reducible refine Below.setCell ?_ (by first | omega | (simp; done) | (simp; omega)) _ | with_reducible refine Below.trans ?_ (Below.mono (by assumption) (by first | omega | (simp; done) | (simp; omega)))))⟩

set_option maxHeartbeats 1000000 in
theorem sNumM_no (t ma mb mk mc md ml pa pb pk pc pd pl : Int) (f : Bool) (w : World) (hT : LT β w)
    (H1 : Hid (∀ w, LT β w → Calls Tryd.prog 100 #[Value.agg #[Value.int IntKind.i64 ma, Value.int IntKind.i64 mb, Value.int IntKind.i64 mk, Value.int IntKind.i64 mc, Value.int IntKind.i64 md, Value.int IntKind.i64 ml]] w (RetB (Value.tuple #[Value.agg #[Value.int IntKind.i64 pa, Value.int IntKind.i64 pb, Value.int IntKind.i64 pk, Value.int IntKind.i64 pc, Value.int IntKind.i64 pd, Value.int IntKind.i64 pl], Value.bool false]) w)))
    : Calls Tryd.prog 73 #[Value.agg #[Value.int IntKind.i64 t, Value.bool f, Value.int IntKind.i64 ma, Value.int IntKind.i64 mb, Value.int IntKind.i64 mk, Value.int IntKind.i64 mc, Value.int IntKind.i64 md, Value.int IntKind.i64 ml]] w (RetB (Value.tuple #[Value.agg #[Value.int IntKind.i64 0, Value.bool false, Value.int IntKind.i64 0, Value.int IntKind.i64 0, Value.int IntKind.i64 0, Value.int IntKind.i64 0, Value.int IntKind.i64 0, Value.int IntKind.i64 0], Value.bool false]) w) := by
  go_enter Tryd.func73, Tryd.ntmps73
  go_wp2_with fail
  refine (H1.out _ ?_).mono ?_
  · exact LT.below (w := w) hT (by (repeat (first | with_reducible exact Below.refl _ _ | with_reducible assumption | with_reducible refine below_drewN ?_ _ | with_reducible refine Below.drew ?_ | with_reducible refine Below.alloc ?_ (by first | omega | (simp; done) | (simp; omega)) _ | with_reducible refine Below.setCell ?_ (by first | omega | (simp; done) | (simp; omega)) _ | with_reducible refine Below.trans ?_ (Below.mono (by assumption) (by first | omega | (simp; done) | (simp; omega)))))) (Nat.le_refl _)
  rintro e w1 ⟨rfl, hb1⟩; (try replace hb1 := Below.undrew hb1); obtain ⟨hc1, hf1⟩ := bcell hb1; have hz1 := hb1.size; (try simp at hz1); (have zz_1_0 : w.heap.size < w.heap.size + 1 + 1 := (by omega)); (try have z1_0 : w.heap.size < w1.heap.size := (by omega)); (try have z1_1 : w.heap.size + 1 < w1.heap.size := (by omega))
  go_wp2_with fail
  exact bodyPost_ret (v := Value.tuple #[Value.agg #[Value.int IntKind.i64 0, Value.bool false, Value.int IntKind.i64 0, Value.int IntKind.i64 0, Value.int IntKind.i64 0, Value.int IntKind.i64 0, Value.int IntKind.i64 0, Value.int IntKind.i64 0], Value.bool false]) (by simp [results, Tryd.results73, go_sem, *]) rfl ⟨rfl, by (repeat (first | with_reducible exact Below.refl _ _ | with_reducible assumption | with_reducible refine below_drewN ?_ _ | with_reducible refine Below.drew ?_ | with_reducible refine Below.alloc ?_ (by first | omega | (simp; done) | (simp; omega)) _ | with_reducible refine Below.setCell ?_ (by first | omega | (simp; done) | (simp; omega)) _ | with_reducible refine Below.trans ?_ (Below.mono (by assumption) (by first | omega | (simp; done) | (simp; omega)))))⟩
end Go.Proofs.YthhjkiiggokfkaaDoor
end
section
namespace Go.Proofs.YthhjkiiggokfkaaDoor
namespace Com
open Go Go.RowKit OriM
variable {β : Bool}

/-- A motion, or none. -/
noncomputable def motOr (t : Nat) (f : Bool) (s : P4) : Value := if pOk s then .tuple #[motG t f s, .bool true] else .tuple #[mot 0 false 0 0 0 0 0 0, .bool false]
theorem imotion_g {t : Nat} (ht : t < 8) (f : Bool) {s : P4} (hs : Bd 70368744177664 s) (w : World) (hT : LT true w) :
    Calls Tryd.prog 81 #[matV t (upI t f) s] w (RetB (motOr t f s) w) := by
  have PT := fun w (hT : LT true w) => point_g hs w hT
  unfold pointV at PT
  unfold motOr
  by_cases ho : pOk s = true
  · rw [ho, if_pos rfl] at PT
    rw [if_pos ho]
    have h := motion_yes (β := true) _ _ _ _ _ _ _ _ _ _ _ _ _ _ _ _ _ _ _ _ _ _ _ _ _ _ _ _ _ _ _ _ _ _ _ _ _ _ _ _ _ _ _ _ (!f) w hT (tdiv2 t) (wrap_in (by omega) (by omega)) (Lib.hid PT) (Lib.hid fun w hT => dirTo_unit ht w hT)
      (Lib.hid fun w hT => matrix_g ht false s w hT) (Lib.hid fun w => mx_cmp ht f hs w)
    rw [Bool.not_not] at h
    exact h
  · rw [Bool.eq_false_iff.2 ho, if_neg (by decide)] at PT
    rw [if_neg ho]
    exact motion_no _ _ _ _ _ _ _ _ _ _ _ _ _ _ _ _ _ _ _ _ _ _ _ _ w hT (Lib.hid PT)

/-- The model's number of a motion. -/
theorem snumM_g (t : Nat) (f : Bool) {s : P4} (hs : Bd 70368744177664 s) (w : World) (hT : LT β w) :
    Calls Tryd.prog 73 #[motG t f s] w (RetB (motOr t f s) w) := by
  have PT := fun w (hT : LT β w) => sNumQ_g hs w hT
  unfold pointV at PT
  unfold motOr
  by_cases ho : pOk s = true
  · rw [ho, if_pos rfl] at PT
    rw [if_pos ho]
    exact sNumM_ok _ _ _ _ _ _ _ _ _ _ _ _ _ _ w hT (Lib.hid PT)
  · rw [Bool.eq_false_iff.2 ho, if_neg (by decide)] at PT
    rw [if_neg ho]
    exact sNumM_no _ _ _ _ _ _ _ _ _ _ _ _ _ _ w hT (Lib.hid PT)
theorem motOr_mot (t : Nat) (f : Bool) (s : P4) : ∃ (d za zb zk zc zd zl : Int) (o v : Bool), motOr t f s = .tuple #[mot d o za zb zk zc zd zl, .bool v] := by
  unfold motOr
  split
  · exact ⟨_, _, _, _, _, _, _, _, _, rfl⟩
  · exact ⟨_, _, _, _, _, _, _, _, _, rfl⟩
theorem eqMot_any (t : Int) (f : Bool) (a b k c d l : Int) (w : World) (hT : LT β w) : Calls Tryd.prog 30 #[mot t f a b k c d l, mot t f a b k c d l] w (RetB (.bool true) w) :=
  eqMot_core _ _ _ _ _ _ _ _ w hT (Lib.hid fun w _ => eqN_any a b k w) (Lib.hid fun w _ => eqN_any c d l w)
end Com
end Go.Proofs.YthhjkiiggokfkaaDoor
end
section
namespace Go.Proofs.YthhjkiiggokfkaaDoor
namespace Rfl
open Go Go.RowKit OriM Com
variable {β : Bool}

theorem quot_neg {c d s : Int} {t : Nat} {A B T1 T2 : Int} (h : OriM.Quot c d s t A B T1 T2) : OriM.Quot c d s t (-A) (-B) (-T1) (-T2) := by
  obtain ⟨h1, h2⟩ := h
  unfold OriM.Quot
  generalize (2 : Int) ^ t = p at *
  constructor <;> grind
theorem refl_E {n : Nat} (hn : n < 8) {A B T1 T2 S1 S2 : Int} (q0 : OriM.Quot (sqA (n + 4)) (sqB (n + 4)) 1 (sqT (n + 4)) A B T1 T2) (q1 : OriM.Quot (sqA (n + 4)) (sqB (n + 4)) 1 (sqT (n + 4)) (dotA (n + 4) pE - A) (dotB (n + 4) pE - B) S1 S2) :
    (pE.sub (mulP (n + 4) (S1 + S1) (S2 + S2))).sub (p0.sub (mulP (n + 4) (-T1 + -T1) (-T2 + -T2))) = uP n 65536 0 := by
  rcases lt8 hn with rfl | rfl | rfl | rfl | rfl | rfl | rfl | rfl
  · have e1 : sqA 4 = 1 := by decide
    have e2 : sqB 4 = 0 := by decide
    have e3 : sqT 4 = 0 := by decide
    simp only [Nat.reduceAdd, e1, e2, e3] at q0 q1
    obtain ⟨a1, a2⟩ := q0
    obtain ⟨b1, b2⟩ := q1
    simp [dotA, dotB, pE, xA, xB, yA, yB] at a1 a2 b1 b2
    simp [mulP, mA, mB, xA, xB, yA, yB, pE, p0, uP, uA, uB, uc, ud, us, P4.sub]
    omega
  · have e1 : sqA 5 = 4 := by decide
    have e2 : sqB 5 = -2 := by decide
    have e3 : sqT 5 = 3 := by decide
    simp only [Nat.reduceAdd, e1, e2, e3] at q0 q1
    obtain ⟨a1, a2⟩ := q0
    obtain ⟨b1, b2⟩ := q1
    simp [dotA, dotB, pE, xA, xB, yA, yB] at a1 a2 b1 b2
    simp [mulP, mA, mB, xA, xB, yA, yB, pE, p0, uP, uA, uB, uc, ud, us, P4.sub]
    omega
  · have e1 : sqA 6 = 2 := by decide
    have e2 : sqB 6 = 0 := by decide
    have e3 : sqT 6 = 2 := by decide
    simp only [Nat.reduceAdd, e1, e2, e3] at q0 q1
    obtain ⟨a1, a2⟩ := q0
    obtain ⟨b1, b2⟩ := q1
    simp [dotA, dotB, pE, xA, xB, yA, yB] at a1 a2 b1 b2
    simp [mulP, mA, mB, xA, xB, yA, yB, pE, p0, uP, uA, uB, uc, ud, us, P4.sub]
    omega
  · have e1 : sqA 7 = 4 := by decide
    have e2 : sqB 7 = -2 := by decide
    have e3 : sqT 7 = 3 := by decide
    simp only [Nat.reduceAdd, e1, e2, e3] at q0 q1
    obtain ⟨a1, a2⟩ := q0
    obtain ⟨b1, b2⟩ := q1
    simp [dotA, dotB, pE, xA, xB, yA, yB] at a1 a2 b1 b2
    simp [mulP, mA, mB, xA, xB, yA, yB, pE, p0, uP, uA, uB, uc, ud, us, P4.sub]
    omega
  · have e1 : sqA 8 = 1 := by decide
    have e2 : sqB 8 = 0 := by decide
    have e3 : sqT 8 = 0 := by decide
    simp only [Nat.reduceAdd, e1, e2, e3] at q0 q1
    obtain ⟨a1, a2⟩ := q0
    obtain ⟨b1, b2⟩ := q1
    simp [dotA, dotB, pE, xA, xB, yA, yB] at a1 a2 b1 b2
    simp [mulP, mA, mB, xA, xB, yA, yB, pE, p0, uP, uA, uB, uc, ud, us, P4.sub]
    omega
  · have e1 : sqA 9 = 4 := by decide
    have e2 : sqB 9 = -2 := by decide
    have e3 : sqT 9 = 3 := by decide
    simp only [Nat.reduceAdd, e1, e2, e3] at q0 q1
    obtain ⟨a1, a2⟩ := q0
    obtain ⟨b1, b2⟩ := q1
    simp [dotA, dotB, pE, xA, xB, yA, yB] at a1 a2 b1 b2
    simp [mulP, mA, mB, xA, xB, yA, yB, pE, p0, uP, uA, uB, uc, ud, us, P4.sub]
    omega
  · have e1 : sqA 10 = 2 := by decide
    have e2 : sqB 10 = 0 := by decide
    have e3 : sqT 10 = 2 := by decide
    simp only [Nat.reduceAdd, e1, e2, e3] at q0 q1
    obtain ⟨a1, a2⟩ := q0
    obtain ⟨b1, b2⟩ := q1
    simp [dotA, dotB, pE, xA, xB, yA, yB] at a1 a2 b1 b2
    simp [mulP, mA, mB, xA, xB, yA, yB, pE, p0, uP, uA, uB, uc, ud, us, P4.sub]
    omega
  · have e1 : sqA 11 = 4 := by decide
    have e2 : sqB 11 = -2 := by decide
    have e3 : sqT 11 = 3 := by decide
    simp only [Nat.reduceAdd, e1, e2, e3] at q0 q1
    obtain ⟨a1, a2⟩ := q0
    obtain ⟨b1, b2⟩ := q1
    simp [dotA, dotB, pE, xA, xB, yA, yB] at a1 a2 b1 b2
    simp [mulP, mA, mB, xA, xB, yA, yB, pE, p0, uP, uA, uB, uc, ud, us, P4.sub]
    omega
theorem refl_N {n : Nat} (hn : n < 8) {A B T1 T2 S1 S2 : Int} (q0 : OriM.Quot (sqA (n + 4)) (sqB (n + 4)) 1 (sqT (n + 4)) A B T1 T2) (q1 : OriM.Quot (sqA (n + 4)) (sqB (n + 4)) 1 (sqT (n + 4)) (dotA (n + 4) pN - A) (dotB (n + 4) pN - B) S1 S2) :
    (pN.sub (mulP (n + 4) (S1 + S1) (S2 + S2))).sub (p0.sub (mulP (n + 4) (-T1 + -T1) (-T2 + -T2))) = uP (upI n true) 65536 0 := by
  rcases lt8 hn with rfl | rfl | rfl | rfl | rfl | rfl | rfl | rfl
  · have e1 : sqA 4 = 1 := by decide
    have e2 : sqB 4 = 0 := by decide
    have e3 : sqT 4 = 0 := by decide
    simp only [Nat.reduceAdd, e1, e2, e3] at q0 q1
    obtain ⟨a1, a2⟩ := q0
    obtain ⟨b1, b2⟩ := q1
    simp [dotA, dotB, pN, xA, xB, yA, yB] at a1 a2 b1 b2
    simp [mulP, mA, mB, xA, xB, yA, yB, pN, p0, uP, uA, uB, uc, ud, us, upI, P4.sub]
    omega
  · have e1 : sqA 5 = 4 := by decide
    have e2 : sqB 5 = -2 := by decide
    have e3 : sqT 5 = 3 := by decide
    simp only [Nat.reduceAdd, e1, e2, e3] at q0 q1
    obtain ⟨a1, a2⟩ := q0
    obtain ⟨b1, b2⟩ := q1
    simp [dotA, dotB, pN, xA, xB, yA, yB] at a1 a2 b1 b2
    simp [mulP, mA, mB, xA, xB, yA, yB, pN, p0, uP, uA, uB, uc, ud, us, upI, P4.sub]
    omega
  · have e1 : sqA 6 = 2 := by decide
    have e2 : sqB 6 = 0 := by decide
    have e3 : sqT 6 = 2 := by decide
    simp only [Nat.reduceAdd, e1, e2, e3] at q0 q1
    obtain ⟨a1, a2⟩ := q0
    obtain ⟨b1, b2⟩ := q1
    simp [dotA, dotB, pN, xA, xB, yA, yB] at a1 a2 b1 b2
    simp [mulP, mA, mB, xA, xB, yA, yB, pN, p0, uP, uA, uB, uc, ud, us, upI, P4.sub]
    omega
  · have e1 : sqA 7 = 4 := by decide
    have e2 : sqB 7 = -2 := by decide
    have e3 : sqT 7 = 3 := by decide
    simp only [Nat.reduceAdd, e1, e2, e3] at q0 q1
    obtain ⟨a1, a2⟩ := q0
    obtain ⟨b1, b2⟩ := q1
    simp [dotA, dotB, pN, xA, xB, yA, yB] at a1 a2 b1 b2
    simp [mulP, mA, mB, xA, xB, yA, yB, pN, p0, uP, uA, uB, uc, ud, us, upI, P4.sub]
    omega
  · have e1 : sqA 8 = 1 := by decide
    have e2 : sqB 8 = 0 := by decide
    have e3 : sqT 8 = 0 := by decide
    simp only [Nat.reduceAdd, e1, e2, e3] at q0 q1
    obtain ⟨a1, a2⟩ := q0
    obtain ⟨b1, b2⟩ := q1
    simp [dotA, dotB, pN, xA, xB, yA, yB] at a1 a2 b1 b2
    simp [mulP, mA, mB, xA, xB, yA, yB, pN, p0, uP, uA, uB, uc, ud, us, upI, P4.sub]
    omega
  · have e1 : sqA 9 = 4 := by decide
    have e2 : sqB 9 = -2 := by decide
    have e3 : sqT 9 = 3 := by decide
    simp only [Nat.reduceAdd, e1, e2, e3] at q0 q1
    obtain ⟨a1, a2⟩ := q0
    obtain ⟨b1, b2⟩ := q1
    simp [dotA, dotB, pN, xA, xB, yA, yB] at a1 a2 b1 b2
    simp [mulP, mA, mB, xA, xB, yA, yB, pN, p0, uP, uA, uB, uc, ud, us, upI, P4.sub]
    omega
  · have e1 : sqA 10 = 2 := by decide
    have e2 : sqB 10 = 0 := by decide
    have e3 : sqT 10 = 2 := by decide
    simp only [Nat.reduceAdd, e1, e2, e3] at q0 q1
    obtain ⟨a1, a2⟩ := q0
    obtain ⟨b1, b2⟩ := q1
    simp [dotA, dotB, pN, xA, xB, yA, yB] at a1 a2 b1 b2
    simp [mulP, mA, mB, xA, xB, yA, yB, pN, p0, uP, uA, uB, uc, ud, us, upI, P4.sub]
    omega
  · have e1 : sqA 11 = 4 := by decide
    have e2 : sqB 11 = -2 := by decide
    have e3 : sqT 11 = 3 := by decide
    simp only [Nat.reduceAdd, e1, e2, e3] at q0 q1
    obtain ⟨a1, a2⟩ := q0
    obtain ⟨b1, b2⟩ := q1
    simp [dotA, dotB, pN, xA, xB, yA, yB] at a1 a2 b1 b2
    simp [mulP, mA, mB, xA, xB, yA, yB, pN, p0, uP, uA, uB, uc, ud, us, upI, P4.sub]
    omega

theorem refl_foot {n : Nat} (hn : n < 8) {T1 T2 : Int} (h1 : T1 % 8 = 0) (h2 : T2 % 8 = 0) : (mulP (n + 4) T1 T2).sub (lin n (upI n true) (mulP (n + 4) T1 T2)) = p0.sub (mulP (n + 4) (-T1 + -T1) (-T2 + -T2)) := by
  rcases lt8 hn with rfl | rfl | rfl | rfl | rfl | rfl | rfl | rfl <;> simp [mulP, mA, mB, xA, xB, yA, yB, lin, p0, uP, uA, uB, uc, ud, us, upI, P4.sub, P4.add] <;> omega
theorem foot_ev {n : Nat} (hn : n < 8) {T1 T2 : Int} (h1 : T1 % 8 = 0) : Ev (mulP (n + 4) T1 T2) := by
  unfold Ev
  rcases lt8 hn with rfl | rfl | rfl | rfl | rfl | rfl | rfl | rfl <;> simp [mulP, mA, xA, xB, yA, yB] <;> omega
theorem dot_p0 (d : Nat) : dotA d p0 = 0 ∧ dotB d p0 = 0 := by simp [dotA, dotB, p0]
theorem dot_units {n : Nat} (hn : n < 8) : (dotA (n + 4) pE % 64 = 0 ∧ dotB (n + 4) pE % 64 = 0) ∧ (dotA (n + 4) pN % 64 = 0 ∧ dotB (n + 4) pN % 64 = 0) := by
  rcases lt8 hn with rfl | rfl | rfl | rfl | rfl | rfl | rfl | rfl <;> decide

theorem mxReflect_g {n : Nat} (hn : n < 8) {A B T1 T2 : Int} (hA : Bd2 8589934592 A B) (mA : A % 64 = 0) (mB : B % 64 = 0) (q : OriM.Quot (sqA (n + 4)) (sqB (n + 4)) 1 (sqT (n + 4)) A B T1 T2) (w : World) (hT : LT true w) :
    Calls Tryd.prog 80 #[.func (.func 89) #[gl n A B] #[]] w (RetB (matV n (upI n true) (p0.sub (mulP (n + 4) (-T1 + -T1) (-T2 + -T2)))) w) := by
  obtain ⟨⟨e1, e2⟩, f1, f2⟩ := dot_units hn
  obtain ⟨S1, S2, qE, _, _⟩ := quot_ex (A := dotA (n + 4) pE - A) (B := dotB (n + 4) pE - B) 8 (sq_unit (n + 4) (by omega)) (by omega) (by omega)
  obtain ⟨V1, V2, qN, _, _⟩ := quot_ex (A := dotA (n + 4) pN - A) (B := dotB (n + 4) pN - B) 8 (sq_unit (n + 4) (by omega)) (by omega) (by omega)
  have q0 : OriM.Quot (sqA (n + 4)) (sqB (n + 4)) 1 (sqT (n + 4)) (dotA (n + 4) p0 - A) (dotB (n + 4) p0 - B) (-T1) (-T2) := by
    rw [(dot_p0 _).1, (dot_p0 _).2, Int.zero_sub, Int.zero_sub]; exact quot_neg q
  have HE := refl_E hn q qE
  have HN := refl_N hn q qN
  have bE : Bd 65536 pE := by unfold Bd; decide
  have bN : Bd 65536 pN := by unfold Bd; decide
  have b0 : Bd 65536 p0 := by unfold Bd; decide
  have bR : ∀ (p : P4) (R1 R2 : Int), Bd 65536 p → OriM.Quot (sqA (n + 4)) (sqB (n + 4)) 1 (sqT (n + 4)) (dotA (n + 4) p - A) (dotB (n + 4) p - B) R1 R2 → Bd 70368744177664 (p.sub (mulP (n + 4) (R1 + R1) (R2 + R2))) := by
    intro p R1 R2 hp hq
    have bd := dot_bd (d := n + 4) (by omega) hp
    have bh : Bd2 42949672960 (dotA (n + 4) p - A) (dotB (n + 4) p - B) := by unfold Bd2 at *; omega
    have bT := sq_bd (by omega) bh hq
    have b2 : Bd2 85899345920 (R1 + R1) (R2 + R2) := by unfold Bd2 at *; omega
    have bm := mulP_bd (d := n + 4) (by omega) b2
    unfold Bd P4.sub at *; simp only; omega
  have L : ∀ (p : P4) (R1 R2 : Int), Bd 65536 p → OriM.Quot (sqA (n + 4)) (sqB (n + 4)) 1 (sqT (n + 4)) (dotA (n + 4) p - A) (dotB (n + 4) p - B) R1 R2 → ∀ w', Below w.heap.size w w' → Calls Tryd.prog 89 #[gl n A B, gp p] w' (RetB (gp (p.sub (mulP (n + 4) (R1 + R1) (R2 + R2)))) w') :=
    fun p R1 R2 hp hq w' hb => ireflect_g hn hA (bd_mono hp (by decide)) hq w' (LT.below hT hb (Nat.le_refl _))
  have ME := fun w (hT : LT true w) => vminus_g (bR pE _ _ bE qE) (bR p0 _ _ b0 q0) w hT
  have MN := fun w (hT : LT true w) => vminus_g (bR pN _ _ bN qN) (bR p0 _ _ b0 q0) w hT
  rw [HE, unit_gp hn] at ME
  rw [HN, unit_gp (upI_lt _ _)] at MN
  exact mxBy_reflect _ _ _ _ _ _ _ _ _ _ _ _ _ _ _ _ _ _ _ _ _ _ _ _ _ _ _ _ _ _ _ _ _ _ w (Lib.hid (L p0 _ _ b0 q0)) (Lib.hid fun w' hb => unit_any (j := 0) (by decide) w' (LT.below hT hb (Nat.le_refl _))) (Lib.hid (L pE _ _ bE qE)) (Lib.hid fun w' hb => ME w' (LT.below hT hb (Nat.le_refl _)))
    (Lib.hid fun w' hb => unit_any (j := 2) (by decide) w' (LT.below hT hb (Nat.le_refl _))) (Lib.hid (L pN _ _ bN qN)) (Lib.hid fun w' hb => MN w' (LT.below hT hb (Nat.le_refl _)))

theorem srefl_g {n : Nat} (hn : n < 8) {A B T1 T2 : Int} (hA : Bd2 8589934592 A B) (q : OriM.Quot (sqA (n + 4)) (sqB (n + 4)) 1 (sqT (n + 4)) A B T1 T2) (h1 : T1 % 8 = 0) (h2 : T2 % 8 = 0) (w : World) (hT : LT β w) :
    Calls Tryd.prog 85 #[gl n A B] w (RetB (motG n true (p0.sub (mulP (n + 4) (-T1 + -T1) (-T2 + -T2)))) w) := by
  rw [← refl_foot hn h1 h2]
  have bT := quot_bd (sq_unit (n + 4) (by omega)) hA q
  have bF : Bd 1099511627776 (mulP (n + 4) T1 T2) := bd_mono (mulP_bd (by omega) bT) (by decide)
  have bL := lin_bd hn (upI_lt n true) bF
  have TU := fun w (hT : LT β w) => sturn_g hn true bF (foot_ev hn h1) w hT
  exact l04Rf_core _ _ _ _ _ _ _ _ _ _ _ _ _ _ _ _ _ _ _ _ _ _ w hT (by omega) (by omega) (Lib.hid fun w hT => sfoot_g hn hA q w hT) (Lib.hid TU) (Lib.hid fun w hT => sMinus_g (bd_mono bF (by decide)) (bd_mono bL (by decide)) w hT)

theorem rf_both {e x y z : Int} (hl : I3 x y z) : ∃ (r za zb zk zc zd zl : Int) (o v : Bool),
    (∀ w, LT true w → Calls Tryd.prog 33 #[lnv e x y z] w (RetB (.tuple #[mot r o za zb zk zc zd zl, .bool v]) w)) ∧
    (∀ w, LT true w → Calls Tryd.prog 35 #[lnv e x y z] w (RetB (.tuple #[mot r o za zb zk zc zd zl, .bool v]) w)) := by
  by_cases hL : vL e x y z = true
  · have HL := hL
    obtain ⟨n, rfl, hn, hx⟩ := vL_split' hL
    obtain ⟨hA, m1, m2⟩ := valid_bd hx
    obtain ⟨T1, T2, q, h1, h2⟩ := quot_ex (A := up16 x z.toNat) (B := up16 y z.toNat) 8 (sq_unit (n + 4) (by omega)) (by omega) (by omega)
    have bT := quot_bd (sq_unit (n + 4) (by omega)) hA q
    have bO : Bd 70368744177664 (p0.sub (mulP (n + 4) (-T1 + -T1) (-T2 + -T2))) := by
      rw [← refl_foot hn h1 h2]
      have bF := mulP_bd (d := n + 4) (by omega) bT
      have bL := lin_bd hn (upI_lt n true) bF
      unfold Bd P4.sub at *; simp only; omega
    have SR := fun w (hT : LT true w) => srefl_g hn hA q h1 h2 w hT
    have SN := fun w (hT : LT true w) => snumM_g n true bO w hT
    have DL := fun w (hT : LT true w) => dlineOf_g n (up16 x z.toNat) (up16 y z.toNat) w hT
    have MB := fun w (hT : LT true w) => mxReflect_g hn hA m1 m2 q w hT
    have IM := fun w (hT : LT true w) => imotion_g hn true bO w hT
    obtain ⟨r, za, zb, zk, zc, zd, zl, o, v, hr⟩ := motOr_mot n true (p0.sub (mulP (n + 4) (-T1 + -T1) (-T2 + -T2)))
    rw [hr] at SN IM
    rw [← valid_gl hx] at SR DL MB
    exact ⟨r, za, zb, zk, zc, zd, zl, o, v, fun w hT => sRf_ok _ _ _ _ _ _ _ _ _ _ _ _ _ _ _ _ _ _ _ _ _ w hT (Lib.hid fun w hT => HL ▸ sLL_any _ x y z w hT) (Lib.hid fun w hT => sLineOf_any _ _ _ _ w hT) (Lib.hid SR) (Lib.hid SN),
      fun w hT => iRf_ok _ _ _ _ _ _ _ _ _ _ _ _ _ _ _ w hT (Lib.hid fun w hT => HL ▸ iVL_any hl w hT) (Lib.hid DL) (Lib.hid MB) (Lib.hid IM)⟩
  · have hf := Bool.eq_false_iff.2 hL
    exact ⟨0, 0, 0, 0, 0, 0, 0, false, false, fun w hT => sRf_no _ _ _ _ w hT (Lib.hid fun w hT => hf ▸ sLL_any e x y z w hT), fun w hT => iRf_no _ _ _ _ w hT (Lib.hid fun w hT => hf ▸ iVL_any hl w hT)⟩
end Rfl
theorem exactReflection.walk {e x y z : Int} (hl : I3 x y z) (w : World) (hT : LT true w) : Calls Tryd.prog 9 #[lnv e x y z] w (RetB (.bool true) w) := by
  obtain ⟨r, za, zb, zk, zc, zd, zl, o, v, S, I⟩ := Rfl.rf_both (e := e) hl
  exact exactReflection.core _ _ _ _ _ _ _ _ _ _ _ _ _ w hT (Lib.hid fun w hT => toLn_any e x y z w hT) (Lib.hid S) (Lib.hid fun w hT => toLn_any e x y z w hT) (Lib.hid I) (Lib.hid fun w hT => Com.eqMot_any _ _ _ _ _ _ _ _ w hT)
end Go.Proofs.YthhjkiiggokfkaaDoor
end
section
namespace Go.Proofs.YthhjkiiggokfkaaDoor.exactReflection
open Go Go.ChangeShapes Go.WideShapes Go.ChangeAt Go.RowKit


set_option maxRecDepth 100000 in
theorem contract (H : Type) (enc : TypeId × Value → H) (W : World) (base : Nat) (args : Array Value) (ds gs : List (DataW H)) (before : List MemPlace)
    (hval : ∀ (j : Nat) t v, Tryd.f9.params[j]? = some t → args[j]? = some v → Value.okWide Tryd.prog W .any base t v)
    (hW : DataW.Whole enc Tryd.prog Tryd.f9.params.toList Rows.fnExactReflectionSpec.vars false W args.toList ds gs before) (hL : laidMetH Tryd.prog Rows.fnExactReflectionRow.laid W) :
    Calls Tryd.prog 9 args W fun e W' => ∃ v, e = .returned v ∧ Rows.fnExactReflectionSpec.post enc Tryd.prog Tryd.f9 false true false false W args v W' := by
  have hW' := hW
  obtain ⟨p, q, hA0, hV, rfl, hfz, hnd⟩ := hW
  have hA : DataW.TrodAll enc Tryd.prog W 0 (fun _ => true) true Tryd.f9.params.toList args.toList ds p := hA0
  rw [Tryd.params9] at hA hval
  obtain ⟨v0, vs0, d0, ds0, p0, q0, hargs, rfl, rfl, h0, r0⟩ := trodAll_cons hA
  obtain ⟨rfl, rfl, rfl⟩ := trodAll_nil r0
  obtain rfl : args = #[v0] := by cases args; simp_all
  obtain ⟨gg0, tt0, cc0, ff0, dd0, pp0, rfl, _, _, _, _, rfl⟩ := trodVars_one hV
  obtain ⟨xe0, xa0, xb0, xk0, rfl, hI0, hd0⟩ := open_ln (hval 0 57 v0 rfl rfl) h0
  refine (walk hI0 W (lt_of_laid hL)).mono fun e W' ⟨he, hb⟩ => ⟨_, he, ?_⟩
  exact law_post laidOut (by kernel_rfl) (by kernel_rfl) (by kernel_rfl) Tryd.underlying4 hW' rfl hb

noncomputable def wargs : Array Value := #[lnv 0 0 0 0]
theorem laid_met (os : Os) : laidMet Tryd.prog Rows.fnExactReflectionRow.laid ((laidWorld2 os).forCall (fun _ _ => 0) ⟨#[], wargs, []⟩).memory :=
  laidMet_of_run' 8 (by kernel_rfl) (by kernel_rfl)
theorem reads (os : Os) {H : Type} (enc : TypeId × Value → H) : ∃ places, DataW.whole enc Tryd.prog ((laidWorld2 os).forCall (fun _ _ => 0) ⟨#[], wargs, []⟩).memory Tryd.f9.params.toList Rows.fnExactReflectionSpec.vars false wargs.toList 8 = some ([.agg [.lit (.int .i64 0), .agg [.lit (.int .i64 0), .lit (.int .i64 0), .lit (.int .i64 0)]]], [lvData], places) :=
  ⟨(MemPlace.row ⟨0, 0, none⟩ 48), by kernel_rfl⟩

set_option maxRecDepth 100000 in
theorem lifted (os : Os) (started : os.Started) (H : Type) (enc : TypeId × Value → H) (F : Stop.Interp) :
    ReturnsInHanded {} Tryd.checked os 9 .any ((OpenSpec.ofChange Rows.fnExactReflectionSpec).preRow enc Tryd.prog Tryd.f9 Rows.fnExactReflectionRow.domain false Rows.fnExactReflectionRow.laid) (((OpenSpec.ofChange Rows.fnExactReflectionSpec).at F).post enc Tryd.prog Tryd.f9 false true false false) := by
  obtain ⟨places, hx⟩ := reads os enc
  refine returnsInHanded_of_row (C := Tryd.checked) (s := OpenSpec.ofChange Rows.fnExactReflectionSpec) own started (by kernel_rfl) Tryd.func9
    (witness_row_at (enc := enc) (C := Tryd.checked) false (laidWorld2 os) wargs rfl (by kernel_rfl) (by kernel_rfl) (by kernel_rfl)
      (OpenSpec.preRow_of_cond 8 hx (by kernel_rfl) (fun k hk => by cases hk) (by kernel_rfl) (laid_met os))) ?_
  intro W base args ds gs before hval hW _ _ _ hL _ _
  exact contract H enc W base args ds gs before hval hW hL

theorem said : Rows.FnExactReflectionSaid :=
  OpenClaim.holds_of_cond 9 Tryd.f9 rfl rfl rfl rfl rfl rfl rfl ⟨rfl, rfl, rfl, rfl, rfl⟩ rfl rfl rfl rfl rfl (by kernel_rfl) Tryd.func9 (by kernel_rfl)
    (of_decide_eq_true (by kernel_rfl)) (by unfold Func.isWrapper; first | (rw [if_pos (by decide +kernel)]; kernel_rfl) | (rw [if_neg (by decide +kernel)]; exact ⟨rfl, rfl⟩))
    (fun os started H enc _ F => by rw [OpenClaim.pre_eq_preRow]; exact lifted os started H enc F)

theorem plain (f : FuncId) (fn : Func) (hf : Tryd.pinned.checked.prog.funcNamed "loop.example/g00857/laws.FnExactReflection" = some f) (hfn : Tryd.pinned.checked.prog.funcs[f]? = some fn) :
    false = Tryd.pinned.checked.prog.looks [] ∧ ∀ (j : Nat) t, fn.params[j]? = some t → Tryd.pinned.checked.prog.wantsStandIn t = false := by
  obtain rfl : f = 9 := Option.some.inj ((show Tryd.prog.funcNamed "loop.example/g00857/laws.FnExactReflection" = some 9 by kernel_rfl).symm.trans hf) |>.symm
  obtain rfl : fn = Tryd.f9 := (Option.some.inj (Tryd.func9.symm.trans hfn)).symm
  refine ⟨by kernel_rfl, fun j t ht => ?_⟩
  have hall : (Tryd.f9.params.all fun t => !(Tryd.prog.wantsStandIn t)) = true := by kernel_rfl
  have h := Array.all_eq_true'.1 hall t (Array.mem_of_getElem? ht)
  have h2 : Tryd.prog.wantsStandIn t = false := by simpa using h
  exact h2

theorem card : Rows.FnExactReflectionCardSaid :=
  Claim7.holds_tied_plain_at .later [] _ _ _ _ said (fun _ h => by cases h) (by kernel_rfl) (fun _ h => by cases h) fnExactReflection_row_tie rfl ⟨rfl, rfl⟩ (by kernel_rfl) rfl plain (by kernel_rfl)
end Go.Proofs.YthhjkiiggokfkaaDoor.exactReflection
end
