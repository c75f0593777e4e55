/- Opening the arguments of the laws of texts; the tables out of the rows' lists; a world for the witness. (array6, num_cells, open_pt, open_ln, open_mot are those of XGop and XOop, without their imports.) -/
import Derived.Test.YthelgcikobhonaaDoorOpen
import Derived.Test.YthelgcikobhonaaDoorTb
import Derived.Lib.LaidU8
import Derived.Deep.Strs
namespace Go.Proofs.YthelgcikobhonaaDoor
open Go Go.ChangeShapes Go.WideShapes Go.ChangeAt Go.RowKit Go.Joins OriM

abbrev pt (a b k c d l : Int) : Value := .agg #[.int .i64 a, .int .i64 b, .int .i64 k, .int .i64 c, .int .i64 d, .int .i64 l]
abbrev lnv (d a b k : Int) : Value := .agg #[.int .i64 d, .int .i64 a, .int .i64 b, .int .i64 k]
abbrev mot (t : Int) (f : Bool) (a b k c d l : Int) : Value := .agg #[.int .i64 t, .bool f, .int .i64 a, .int .i64 b, .int .i64 k, .int .i64 c, .int .i64 d, .int .i64 l]
/-- Six numbers that come in as int64. -/
structure I6 (a b k c d l : Int) : Prop where
  x : I3 a b k
  y : I3 c d l
theorem array4 {α : Type} {cs : Array α} (h : cs.size = 4) : ∃ c0 c1 c2 c3, cs = #[c0, c1, c2, c3] := by
  obtain ⟨l⟩ := cs
  match l, h with
  | [c0, c1, c2, c3], _ => exact ⟨c0, c1, c2, c3, rfl⟩
theorem array6 {α : Type} {cs : Array α} (h : cs.size = 6) : ∃ c0 c1 c2 c3 c4 c5, cs = #[c0, c1, c2, c3, c4, c5] := by
  obtain ⟨l⟩ := cs
  match l, h with
  | [c0, c1, c2, c3, c4, c5], _ => exact ⟨c0, c1, c2, c3, c4, c5, rfl⟩

theorem array8 {α : Type} {cs : Array α} (h : cs.size = 8) : ∃ c0 c1 c2 c3 c4 c5 c6 c7, cs = #[c0, c1, c2, c3, c4, c5, c6, c7] := by
  obtain ⟨l⟩ := cs
  match l, h with
  | [c0, c1, c2, c3, c4, c5, c6, c7], _ => exact ⟨c0, c1, c2, c3, c4, c5, c6, c7, rfl⟩
variable {H : Type} {enc : TypeId × Value → H}

/-- A reading of three cells as a number. -/
theorem num_cells {T : TypeId} {P : Program} {w : World} {base : Nat} {sp : Nat → Bool} {held : Bool} {fuel : Nat} {t0 : TypeId} {f0 f1 f2 : Field} {cs : List Value} {x : DataW H × List MemPlace}
    (ht : P.underlying T = some (.struct #[f0, f1, f2])) (hi : P.underlying t0 = some (.int .i64)) (h0 : f0.type = t0 ∧ f0.offset = 0) (h1 : f1.type = t0 ∧ f1.offset = 1) (h2 : f2.type = t0 ∧ f2.offset = 2) (hc : P.cellsOf t0 = 1) (hC : P.cellsOf T = 3)
    (h : DataW.trod enc P w base sp held fuel T cs = some x) : ∃ a b k : Int, cs = [.int .i64 a, .int .i64 b, .int .i64 k] ∧ x.1 = .agg [.lit (.int .i64 a), .lit (.int .i64 b), .lit (.int .i64 k)] ∧ I3 a b k := by
  obtain ⟨y0, y1, y2, n, rfl, hl, g0, g1, g2⟩ := Go.Deep.trod_struct3 ht h
  obtain ⟨e0, o0⟩ := h0
  obtain ⟨e1, o1⟩ := h1
  obtain ⟨e2, o2⟩ := h2
  rw [e0, o0, hc] at g0
  rw [e1, o1, hc] at g1
  rw [e2, o2, hc] at g2
  obtain ⟨a, c0, x0, wa⟩ := DataW.trod_int hi g0
  obtain ⟨b, c1, x1, wb⟩ := DataW.trod_int hi g1
  obtain ⟨k, c2, x2, _⟩ := DataW.trod_int hi g2
  rw [hC] at hl
  match cs, hl with
  | [z0, z1, z2], _ =>
    simp at c0 c1 c2
    subst c0 c1 c2
    have ba := bounds_i64 wa
    have bb := bounds_i64 wb
    exact ⟨a, b, k, rfl, by rw [x0, x1, x2], ⟨ba.1, ba.2, bb.1, bb.2⟩⟩

theorem cellsLawsPoint : Tryd.prog.cellsOf 29 = 6 := by kernel_rfl
theorem cellsLawsLine : Tryd.prog.cellsOf 36 = 4 := by kernel_rfl
theorem cellsI64 : Tryd.prog.cellsOf 2 = 1 := by kernel_rfl

set_option maxRecDepth 100000 in
/-- An argument that is a point. -/
theorem open_pt {W : World} {base : Nat} {v : Value} {d : DataW H} {p : List MemPlace} (hv : Value.okWide Tryd.prog W .any base 29 v)
    (h : DataW.Trod enc Tryd.prog W 0 (fun _ => true) true 29 v d p) : ∃ a b k c d l : Int, v = pt a b k c d l ∧ I6 a b k c d l := by
  obtain ⟨cs, rfl, hsz⟩ := okWide_struct Tryd.underlying29 hv
  obtain ⟨z0, z1, z2, z3, z4, z5, rfl⟩ := array6 (hsz.trans cellsLawsPoint)
  obtain ⟨fuel, hf⟩ := h
  obtain ⟨y0, y1, n, hx, _, g0, g1⟩ := trod_struct2 Tryd.underlying29 hf
  simp only [cellsLawsNum, Value.cells] at g0 g1
  obtain ⟨a, b, k, e0, _, i0⟩ := num_cells Tryd.underlying23 Tryd.underlying2 ⟨rfl, rfl⟩ ⟨rfl, rfl⟩ ⟨rfl, rfl⟩ cellsI64 cellsLawsNum g0
  obtain ⟨a', b', k', e1, _, i1⟩ := num_cells Tryd.underlying23 Tryd.underlying2 ⟨rfl, rfl⟩ ⟨rfl, rfl⟩ ⟨rfl, rfl⟩ cellsI64 cellsLawsNum g1
  simp at e0 e1
  obtain ⟨rfl, rfl, rfl⟩ := e0
  obtain ⟨rfl, rfl, rfl⟩ := e1
  exact ⟨a, b, k, a', b', k', rfl, ⟨i0, i1⟩⟩

set_option maxRecDepth 100000 in
/-- An argument that is a line. -/
theorem open_ln {W : World} {base : Nat} {v : Value} {d : DataW H} {p : List MemPlace} (hv : Value.okWide Tryd.prog W .any base 36 v)
    (h : DataW.Trod enc Tryd.prog W 0 (fun _ => true) true 36 v d p) : ∃ d a b k : Int, v = lnv d a b k ∧ I3 a b k ∧ -9223372036854775808 ≤ d ∧ d ≤ 9223372036854775807 := by
  obtain ⟨cs, rfl, hsz⟩ := okWide_struct Tryd.underlying36 hv
  obtain ⟨z0, z1, z2, z3, rfl⟩ := array4 (hsz.trans cellsLawsLine)
  obtain ⟨fuel, hf⟩ := h
  obtain ⟨y0, y1, n, hx, _, g0, g1⟩ := trod_struct2 Tryd.underlying36 hf
  simp only [cellsLawsNum, cellsI64, Value.cells] at g0 g1
  obtain ⟨d, e0, _, wd⟩ := DataW.trod_int Tryd.underlying2 g0
  obtain ⟨a', b', k', e1, _, i1⟩ := num_cells Tryd.underlying23 Tryd.underlying2 ⟨rfl, rfl⟩ ⟨rfl, rfl⟩ ⟨rfl, rfl⟩ cellsI64 cellsLawsNum g1
  simp at e0 e1
  subst e0
  obtain ⟨rfl, rfl, rfl⟩ := e1
  have bd := bounds_i64 wd
  exact ⟨d, a', b', k', rfl, i1, bd.1, bd.2⟩

theorem cellsLawsMotion : Tryd.prog.cellsOf 43 = 8 := by kernel_rfl
theorem cellsBool : Tryd.prog.cellsOf 4 = 1 := by kernel_rfl

set_option maxRecDepth 100000 in
/-- An argument that is a motion. -/
theorem open_mot {W : World} {base : Nat} {v : Value} {d : DataW H} {p : List MemPlace} (hv : Value.okWide Tryd.prog W .any base 43 v)
    (h : DataW.Trod enc Tryd.prog W 0 (fun _ => true) true 43 v d p) : ∃ (t : Int) (f : Bool) (a b k c d l : Int), v = mot t f a b k c d l ∧ I6 a b k c d l := by
  obtain ⟨cs, rfl, hsz⟩ := okWide_struct Tryd.underlying43 hv
  obtain ⟨z0, z1, z2, z3, z4, z5, z6, z7, rfl⟩ := array8 (hsz.trans cellsLawsMotion)
  obtain ⟨fuel, hf⟩ := h
  obtain ⟨y0, y1, y2, y3, n, hx, _, g0, g1, g2, g3⟩ := trod_struct4 Tryd.underlying43 hf
  simp only [cellsLawsNum, cellsI64, cellsBool, Value.cells] at g0 g1 g2 g3
  obtain ⟨t, e0, _, _⟩ := DataW.trod_int Tryd.underlying2 g0
  obtain ⟨f, e1, _⟩ := DataW.trod_bool Tryd.underlying4 g1
  obtain ⟨a, b, k, e2, _, i2⟩ := num_cells Tryd.underlying23 Tryd.underlying2 ⟨rfl, rfl⟩ ⟨rfl, rfl⟩ ⟨rfl, rfl⟩ cellsI64 cellsLawsNum g2
  obtain ⟨a', b', k', e3, _, i3⟩ := num_cells Tryd.underlying23 Tryd.underlying2 ⟨rfl, rfl⟩ ⟨rfl, rfl⟩ ⟨rfl, rfl⟩ cellsI64 cellsLawsNum g3
  simp at e0 e1 e2 e3
  subst e0 e1
  obtain ⟨rfl, rfl, rfl⟩ := e2
  obtain ⟨rfl, rfl, rfl⟩ := e3
  exact ⟨t, f, a, b, k, a', b', k', rfl, ⟨i2, i3⟩⟩

/-- A table, wherever it stands on the row's list. -/
theorem tab_at {P : Program} {W : World} {name : String} {k : IntKind} {zs : List Int} {l : List (String × DataW Unit)} {g : Nat} {t e : TypeId} {n : Nat}
    (hg : P.globalNamed name = some g) (hty : (P.globals[g]?).map (·.type) = some t) (ht : P.underlying t = some (.array n e)) (he : P.underlying e = some (.int k)) (hce : P.cellsOf e = 1) (hct : P.cellsOf t = n)
    (h : laidMet P l W) (hm : (name, Lib.tabData k zs) ∈ l) : Lib.TabIs P W name k zs := by
  obtain ⟨g', t', cs, fuel, p, hg', ht', hvar, hd⟩ := Lib.laidMet.reads h hm
  obtain rfl := Option.some.inj (hg.symm.trans hg')
  obtain rfl := Option.some.inj (hty.symm.trans ht')
  unfold Lib.TabIs
  rw [hvar, ← Lib.cells_of_tab ht he hce hct hd]
theorem gPowType : (Tryd.prog.globals[1]?).map (·.type) = some 75 := by kernel_rfl
theorem cells20 : Tryd.prog.cellsOf 75 = 20 := by kernel_rfl
theorem cellsU64 : Tryd.prog.cellsOf 64 = 1 := by kernel_rfl
theorem tt_of_laid {W : World} (h : laidMet Tryd.prog [("math/bits.deBruijn32tab", Lib.tabData .u8 (Lib.deBruijn32tab.map (fun n : Nat => (n : Int)))), ("math/bits.deBruijn64tab", Lib.tabData .u8 (Lib.deBruijn64tab.map (fun n : Nat => (n : Int)))), ("internal/strconv.uint64pow10", Lib.tabData .u64 Lib.pow10Tab)] W) : TT W :=
  ⟨tz_of_tab (tab_at gTz gTzType Tryd.underlying72 Tryd.underlying5 cellsU8 cells64 h (.tail _ (.head _))),
    tab_at gPow gPowType Tryd.underlying75 Tryd.underlying64 cellsU64 cells20 h (.tail _ (.tail _ (.head _)))⟩

/-- A world for the witness: the three tables holding what their initialisers lay. -/
noncomputable def laidWorld3 (os : Os) : World :=
  { laidWorld os with heap := ((laidWorld os).heap.modify 2 fun
      | .cells _ t frozen => .cells (Lib.deBruijn32tab.map fun n : Nat => Value.int .u8 (n : Int)).toArray t frozen
      | o => o).modify 1 fun
      | .cells _ t frozen => .cells (Lib.pow10Tab.map fun n : Int => Value.int .u64 n).toArray t frozen
      | o => o }
end Go.Proofs.YthelgcikobhonaaDoor
