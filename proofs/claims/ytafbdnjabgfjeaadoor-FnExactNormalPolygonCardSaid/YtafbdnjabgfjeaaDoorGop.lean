/- Opening points and lines among the arguments of the laws; the table of the vectors out of the row's list; a world for the witness that holds both tables. -/
import Derived.Test.YtafbdnjabgfjeaaDoorOpen
import Derived.Test.YtafbdnjabgfjeaaDoorGc
namespace Go.Proofs.YtafbdnjabgfjeaaDoor
open Go Go.ChangeShapes Go.WideShapes Go.ChangeAt Go.RowKit Go.Joins OriM

theorem array6 {α : Type} {cs : Array α} (h : cs.size = 6) : ∃ c0 c1 c2 c3 c4 c5, cs = #[c0, c1, c2, c3, c4, c5] := by
  obtain ⟨l⟩ := cs
  match l, h with
  | [c0, c1, c2, c3, c4, c5], _ => exact ⟨c0, c1, c2, c3, c4, c5, rfl⟩

variable {H : Type} {enc : TypeId × Value → H}

/-- A reading of three cells as a number. -/
theorem num_cells {T : TypeId} {P : Program} {w : World} {base : Nat} {sp : Nat → Bool} {held : Bool} {fuel : Nat} {t0 : TypeId} {f0 f1 f2 : Field} {cs : List Value} {x : DataW H × List MemPlace}
    (ht : P.underlying T = some (.struct #[f0, f1, f2])) (hi : P.underlying t0 = some (.int .i64)) (h0 : f0.type = t0 ∧ f0.offset = 0) (h1 : f1.type = t0 ∧ f1.offset = 1) (h2 : f2.type = t0 ∧ f2.offset = 2) (hc : P.cellsOf t0 = 1) (hC : P.cellsOf T = 3)
    (h : DataW.trod enc P w base sp held fuel T cs = some x) : ∃ a b k : Int, cs = [.int .i64 a, .int .i64 b, .int .i64 k] ∧ x.1 = .agg [.lit (.int .i64 a), .lit (.int .i64 b), .lit (.int .i64 k)] ∧ I3 a b k := by
  obtain ⟨y0, y1, y2, n, rfl, hl, g0, g1, g2⟩ := Go.Deep.trod_struct3 ht h
  obtain ⟨e0, o0⟩ := h0
  obtain ⟨e1, o1⟩ := h1
  obtain ⟨e2, o2⟩ := h2
  rw [e0, o0, hc] at g0
  rw [e1, o1, hc] at g1
  rw [e2, o2, hc] at g2
  obtain ⟨a, c0, x0, wa⟩ := DataW.trod_int hi g0
  obtain ⟨b, c1, x1, wb⟩ := DataW.trod_int hi g1
  obtain ⟨k, c2, x2, _⟩ := DataW.trod_int hi g2
  rw [hC] at hl
  match cs, hl with
  | [z0, z1, z2], _ =>
    simp at c0 c1 c2
    subst c0 c1 c2
    have ba := bounds_i64 wa
    have bb := bounds_i64 wb
    exact ⟨a, b, k, rfl, by rw [x0, x1, x2], ⟨ba.1, ba.2, bb.1, bb.2⟩⟩

theorem cellsLawsPoint : Tryd.prog.cellsOf 69 = 6 := by kernel_rfl
theorem cellsI64 : Tryd.prog.cellsOf 2 = 1 := by kernel_rfl

set_option maxRecDepth 100000 in
/-- An argument that is a point. -/
theorem open_pt {W : World} {base : Nat} {v : Value} {d : DataW H} {p : List MemPlace} (hv : Value.okWide Tryd.prog W .any base 69 v)
    (h : DataW.Trod enc Tryd.prog W 0 (fun _ => true) true 69 v d p) : ∃ a b k c d l : Int, v = pt a b k c d l ∧ I6 a b k c d l := by
  obtain ⟨cs, rfl, hsz⟩ := okWide_struct Tryd.underlying69 hv
  obtain ⟨z0, z1, z2, z3, z4, z5, rfl⟩ := array6 (hsz.trans cellsLawsPoint)
  obtain ⟨fuel, hf⟩ := h
  obtain ⟨y0, y1, n, hx, _, g0, g1⟩ := trod_struct2 Tryd.underlying69 hf
  simp only [cellsLawsNum, Value.cells] at g0 g1
  obtain ⟨a, b, k, e0, _, i0⟩ := num_cells Tryd.underlying67 Tryd.underlying2 ⟨rfl, rfl⟩ ⟨rfl, rfl⟩ ⟨rfl, rfl⟩ cellsI64 cellsLawsNum g0
  obtain ⟨a', b', k', e1, _, i1⟩ := num_cells Tryd.underlying67 Tryd.underlying2 ⟨rfl, rfl⟩ ⟨rfl, rfl⟩ ⟨rfl, rfl⟩ cellsI64 cellsLawsNum g1
  simp at e0 e1
  obtain ⟨rfl, rfl, rfl⟩ := e0
  obtain ⟨rfl, rfl, rfl⟩ := e1
  exact ⟨a, b, k, a', b', k', rfl, ⟨i0, i1⟩⟩

/-- An array's reading, element for element. -/
theorem arr_of_trod {P : Program} {w : World} {base : Nat} {sp : Nat → Bool} {held : Bool} {fuel : Nat} {t e : TypeId} {n : Nat} {cs : List Value} {ds : List (DataW H)} {p : List MemPlace}
    (ht : P.underlying t = some (.array n e)) (h : DataW.trod enc P w base sp held fuel t cs = some (.agg ds, p)) :
    ∃ f, ∀ i, i < n → ∃ y q, ds[i]? = some y ∧ DataW.trod enc P w base sp held f e ((cs.drop (i * P.cellsOf e)).take (P.cellsOf e)) = some (y, q) := by
  cases fuel with
  | zero => simp [DataW.trod] at h
  | succ fuel =>
    simp only [DataW.trod, ht] at h
    split at h
    · obtain ⟨xs, hm, hx⟩ := Option.map_eq_some_iff.1 h
      have hxs : xs.map (·.1) = ds := by
        have := congrArg Prod.fst hx
        simpa using this
      refine ⟨fuel, fun i hi => ?_⟩
      obtain ⟨b, hb, hf⟩ := Lib.mapM_at hm i i (by simp [hi])
      exact ⟨b.1, b.2, by rw [← hxs]; simp [hb], hf⟩
    · cases h

theorem gLv : Tryd.prog.globalNamed "loop.example/g00857/impl.lineVectors" = some 0 := by kernel_rfl
theorem gLvType : (Tryd.prog.globals[0]?).map (·.type) = some 174 := by kernel_rfl
theorem cells26 : Tryd.prog.cellsOf 173 = 6 := by kernel_rfl
theorem cellsNum : Tryd.prog.cellsOf 25 = 3 := by kernel_rfl

/-- The datum of the table, as the rows have it. -/
def lvNum (a b : Int) : DataW H := .agg [.lit (.int .i64 a), .lit (.int .i64 b), .lit (.int .i64 0)]
def lvData : DataW H := .agg [.agg [lvNum 1 0, lvNum 0 0], .agg [lvNum 1 0, lvNum (-1) 1], .agg [lvNum 1 0, lvNum 1 0], .agg [lvNum (-1) 1, lvNum 1 0], .agg [lvNum 0 0, lvNum 1 0], .agg [lvNum 1 (-1), lvNum 1 0], .agg [lvNum (-1) 0, lvNum 1 0], .agg [lvNum (-1) 0, lvNum (-1) 1]]

theorem lv_row {i : Nat} (hi : i < 8) : ∃ ys : List (DataW H), (match (lvData : DataW H) with | .agg l => l[i]? | _ => none) = some (.agg ys) ∧ ys[0]? = some (lvNum (xA i) (xB i)) ∧ ys[1]? = some (lvNum (yA i) (yB i)) := by
  rcases lt8 hi with rfl | rfl | rfl | rfl | rfl | rfl | rfl | rfl <;> exact ⟨_, rfl, rfl, rfl⟩

set_option maxRecDepth 100000 in
theorem lv_cells {W : World} {held : Bool} {fuel : Nat} {cs : List Value} {p : List MemPlace} (h : DataW.trod enc Tryd.prog W 0 (fun _ => true) held fuel 174 cs = some (lvData, p)) (n : Nat) (hn : n < 48) : cs[n]? = some (.int .i64 (lvCell n)) := by
  obtain ⟨f, hf⟩ := arr_of_trod Tryd.underlying174 (ds := match (lvData : DataW H) with | .agg l => l | _ => []) h
  obtain ⟨y, q, hy, hr⟩ := hf (n / 6) (by omega)
  obtain ⟨ys, e0, e1, e2⟩ := lv_row (H := H) (i := n / 6) (by omega)
  have : y = .agg ys := Option.some.inj (hy.symm.trans e0)
  subst this
  rw [cells26] at hr
  obtain ⟨f2, hf2⟩ := arr_of_trod Tryd.underlying173 hr
  obtain ⟨y0, q0, h0, r0⟩ := hf2 0 (by decide)
  obtain ⟨y1, q1, h1, r1⟩ := hf2 1 (by decide)
  rw [cellsNum] at r0 r1
  obtain rfl := Option.some.inj (h0.symm.trans e1)
  obtain rfl := Option.some.inj (h1.symm.trans e2)
  obtain ⟨a, b, k, c0, d0, _⟩ := num_cells Tryd.underlying25 Tryd.underlying2 ⟨rfl, rfl⟩ ⟨rfl, rfl⟩ ⟨rfl, rfl⟩ cellsI64 cellsNum r0
  obtain ⟨a', b', k', c1, d1, _⟩ := num_cells Tryd.underlying25 Tryd.underlying2 ⟨rfl, rfl⟩ ⟨rfl, rfl⟩ ⟨rfl, rfl⟩ cellsI64 cellsNum r1
  simp [lvNum] at d0 d1
  obtain ⟨rfl, rfl, rfl⟩ := d0
  obtain ⟨rfl, rfl, rfl⟩ := d1
  have key : ∀ j, j < 3 → (cs[n / 6 * 6 + j]? = [Value.int .i64 (xA (n / 6)), .int .i64 (xB (n / 6)), .int .i64 0][j]?) ∧ (cs[n / 6 * 6 + 3 + j]? = [Value.int .i64 (yA (n / 6)), .int .i64 (yB (n / 6)), .int .i64 0][j]?) := by
    intro j hj
    constructor
    · rw [← c0]; simp [List.getElem?_drop, hj, show j < 6 by omega]
    · rw [← c1]; simp [List.getElem?_drop, hj, show 3 + j < 6 by omega, Nat.add_assoc]
  have e : n = n / 6 * 6 + n % 6 := by omega
  unfold lvCell
  have h6 : n % 6 < 6 := by omega
  rcases (show n % 6 = 0 ∨ n % 6 = 1 ∨ n % 6 = 2 ∨ n % 6 = 3 ∨ n % 6 = 4 ∨ n % 6 = 5 by omega) with g | g | g | g | g | g
  · have := (key 0 (by decide)).1; rw [show n / 6 * 6 + 0 = n by omega] at this; rw [this]; simp [g]
  · have := (key 1 (by decide)).1; rw [show n / 6 * 6 + 1 = n by omega] at this; rw [this]; simp [g]
  · have := (key 2 (by decide)).1; rw [show n / 6 * 6 + 2 = n by omega] at this; rw [this]; simp [g]
  · have := (key 0 (by decide)).2; rw [show n / 6 * 6 + 3 + 0 = n by omega] at this; rw [this]; simp [g]
  · have := (key 1 (by decide)).2; rw [show n / 6 * 6 + 3 + 1 = n by omega] at this; rw [this]; simp [g]
  · have := (key 2 (by decide)).2; rw [show n / 6 * 6 + 3 + 2 = n by omega] at this; rw [this]; simp [g]

/-- Both tables, out of a row's list. -/
theorem lt_of_laid {W : World} (h : laidMet Tryd.prog [("math/bits.deBruijn64tab", Lib.tabData .u8 (Lib.deBruijn64tab.map (fun n : Nat => (n : Int)))), ("loop.example/g00857/impl.lineVectors", lvData)] W) : LT true W := by
  refine ⟨tz_of_tab (Lib.tabIs_of_head gTz gTzType Tryd.underlying193 Tryd.underlying5 cellsU8 cells64 h), fun _ => ?_⟩
  obtain ⟨ps, ⟨_, _, _, _, _, _, _, _, _, _, ⟨g', t', cs, fuel, p, q, hg', ht', hvar, hd, _, _⟩, _⟩, _⟩ := h
  obtain rfl := Option.some.inj (gLv.symm.trans hg')
  obtain rfl := Option.some.inj (gLvType.symm.trans ht')
  have hc : ∀ n, n < 48 → W.cell? ⟨0, n, none⟩ = some (.int .i64 (lvCell n)) := fun n hn => by
    have := World.var?_cell hg' hvar n
    rw [this]
    simpa using lv_cells hd n hn
  exact ⟨World.block_lt_of_cell? W _ (hc 0 (by decide)), hc⟩

/-- A world for the witness: both variables holding what their initialisers lay. -/
noncomputable def laidWorld2 (os : Os) : World :=
  { laidWorld os with heap := (laidWorld os).heap.modify 0 fun
      | .cells _ t frozen => .cells ((List.range 48).map fun n => Value.int .i64 (lvCell n)).toArray t frozen
      | o => o }
end Go.Proofs.YtafbdnjabgfjeaaDoor
