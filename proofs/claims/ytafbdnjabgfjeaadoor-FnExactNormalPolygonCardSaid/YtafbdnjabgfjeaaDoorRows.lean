/-
  NARROWER THAN 'FOR EVERY INPUT', by the rows' own cells (each row's printed sentence says how): FnMotionLines: laid · FnMeet: laid · FnReflect: laid · FnExactValidPolygon: laid · FnExactNormalPolygon: laid · FnExactInPolygon: laid · FnExactAreaOf: laid.
  DERIVED. THE GIVEN ROWS OF THIS SEAT. 7 by the template 'for every input the law returns true; each argument reads behind the call as it read before'; 0 by the template 'total and deterministic' (their statements: YtafbdnjabgfjeaaDoorTotals.lean).
  GIVEN WITH THE SEED: the statements are not yours to turn. If you find one false, say at which input.
  Laid BY PROGRAM, IN A SANDBOX (cutbox-rows.mjs): the forced cells as the released guide's own fill.sh prints them over the translation 693ce60bb5fdb898… (all of the seat's roots in one cut). By AI agents, Wed Nov 11 2026. No macro, syntax, notation, axiom, sorry.
-/
import Derived.Test.YtafbdnjabgfjeaaDoorChecked
import GoSem.Claim
import GoSem.ClaimJoined
import GoSem.ClaimMapViews
import Derived.JoinedTies
import Derived.KernelRfl
namespace Go.Proofs.YtafbdnjabgfjeaaDoor
/- THE CELL 'sum', in the pinned program and in every row, IS THE sha256 OF THE DUMP (.gsa) THAT YtafbdnjabgfjeaaDoorProg.lean LOADS. Nothing in Lean hashes anything: it is a label: what it is worth is what the hold of that sum in a sandbox is worth. -/
noncomputable def Tryd.pinned : Pinned := { name := "ytafbdnjabgfjeaadoor", sum := "693ce60bb5fdb898b22b4944c9c01b0bf02a6a683cefa9734396b99d6c1d6776", checked := Tryd.checked }
namespace Rows
def none {H : Type} : Left H := { results := [], args := [] }

/- WHAT THE LISTED PACKAGE-LEVEL VARIABLES READ AS WHEN THE CALL BEGINS. Each datum BY PROGRAM (the guide's laid-datum.mjs) off the statement by which the dump's own 'gosem.cut.vars' lays the variable. In a bare row this is a premise. The card (YtafbdnjabgfjeaaDoorCards.lean) ties it to the program's text. -/
def laid_math_bits_deBruijn64tab {H : Type} : DataW H := .agg [.lit (.int .u8 0), .lit (.int .u8 1), .lit (.int .u8 56), .lit (.int .u8 2), .lit (.int .u8 57), .lit (.int .u8 49), .lit (.int .u8 28), .lit (.int .u8 3), .lit (.int .u8 61), .lit (.int .u8 58), .lit (.int .u8 42), .lit (.int .u8 50), .lit (.int .u8 38), .lit (.int .u8 29), .lit (.int .u8 17), .lit (.int .u8 4), .lit (.int .u8 62), .lit (.int .u8 47), .lit (.int .u8 59), .lit (.int .u8 36), .lit (.int .u8 45), .lit (.int .u8 43), .lit (.int .u8 51), .lit (.int .u8 22), .lit (.int .u8 53), .lit (.int .u8 39), .lit (.int .u8 33), .lit (.int .u8 30), .lit (.int .u8 24), .lit (.int .u8 18), .lit (.int .u8 12), .lit (.int .u8 5), .lit (.int .u8 63), .lit (.int .u8 55), .lit (.int .u8 48), .lit (.int .u8 27), .lit (.int .u8 60), .lit (.int .u8 41), .lit (.int .u8 37), .lit (.int .u8 16), .lit (.int .u8 46), .lit (.int .u8 35), .lit (.int .u8 44), .lit (.int .u8 21), .lit (.int .u8 52), .lit (.int .u8 32), .lit (.int .u8 23), .lit (.int .u8 11), .lit (.int .u8 54), .lit (.int .u8 26), .lit (.int .u8 40), .lit (.int .u8 15), .lit (.int .u8 34), .lit (.int .u8 20), .lit (.int .u8 31), .lit (.int .u8 10), .lit (.int .u8 25), .lit (.int .u8 14), .lit (.int .u8 19), .lit (.int .u8 9), .lit (.int .u8 13), .lit (.int .u8 8), .lit (.int .u8 7), .lit (.int .u8 6)]
def laid_loop_example_g00857_impl_lineVectors {H : Type} : DataW H := .agg [.agg [.agg [.lit (.int .i64 1), .lit (.int .i64 0), .lit (.int .i64 0)], .agg [.lit (.int .i64 0), .lit (.int .i64 0), .lit (.int .i64 0)]], .agg [.agg [.lit (.int .i64 1), .lit (.int .i64 0), .lit (.int .i64 0)], .agg [.lit (.int .i64 (-1)), .lit (.int .i64 1), .lit (.int .i64 0)]], .agg [.agg [.lit (.int .i64 1), .lit (.int .i64 0), .lit (.int .i64 0)], .agg [.lit (.int .i64 1), .lit (.int .i64 0), .lit (.int .i64 0)]], .agg [.agg [.lit (.int .i64 (-1)), .lit (.int .i64 1), .lit (.int .i64 0)], .agg [.lit (.int .i64 1), .lit (.int .i64 0), .lit (.int .i64 0)]], .agg [.agg [.lit (.int .i64 0), .lit (.int .i64 0), .lit (.int .i64 0)], .agg [.lit (.int .i64 1), .lit (.int .i64 0), .lit (.int .i64 0)]], .agg [.agg [.lit (.int .i64 1), .lit (.int .i64 (-1)), .lit (.int .i64 0)], .agg [.lit (.int .i64 1), .lit (.int .i64 0), .lit (.int .i64 0)]], .agg [.agg [.lit (.int .i64 (-1)), .lit (.int .i64 0), .lit (.int .i64 0)], .agg [.lit (.int .i64 1), .lit (.int .i64 0), .lit (.int .i64 0)]], .agg [.agg [.lit (.int .i64 (-1)), .lit (.int .i64 0), .lit (.int .i64 0)], .agg [.lit (.int .i64 (-1)), .lit (.int .i64 1), .lit (.int .i64 0)]]]

/-- 'laws.FnMotionLines': WHATEVER THE INPUT: true; the input reads as it did. -/
def fnMotionLinesSpec : ChangeSpec := { name := "fnMotionLines", vars := ["loop.example/g00857/impl.lineVectors"], fn := fun _ => fun
  | [d1, d2, g1] => { results := [.lit (.bool true)], args := [d1, d2], vars := [g1] }
  | _ => none }
def fnMotionLinesRow : OpenClaim := { program := "ytafbdnjabgfjeaadoor", sum := "693ce60bb5fdb898b22b4944c9c01b0bf02a6a683cefa9734396b99d6c1d6776", func := "loop.example/g00857/laws.FnMotionLines", spec := "fnMotionLines", named := ["math/bits.deBruijn64tab", "loop.example/g00857/impl.lineVectors"], apart := false, laid := [("math/bits.deBruijn64tab", laid_math_bits_deBruijn64tab), ("loop.example/g00857/impl.lineVectors", laid_loop_example_g00857_impl_lineVectors)] }
def FnMotionLinesSaid : Prop := fnMotionLinesRow.holds Tryd.pinned (OpenSpec.ofChange fnMotionLinesSpec)

/-- ITS FALSE NEIGHBOUR: 'it returns false'. Refute it at one input. -/
def fnMotionLinesWrong : ChangeSpec := { name := "fnMotionLines", vars := ["loop.example/g00857/impl.lineVectors"], fn := fun _ => fun
  | [d1, d2, g1] => { results := [.lit (.bool false)], args := [d1, d2], vars := [g1] }
  | _ => none }
def FnMotionLinesWrongFalsely : Prop := fnMotionLinesRow.holds Tryd.pinned (OpenSpec.ofChange fnMotionLinesWrong)

/-- 'laws.FnMeet': WHATEVER THE INPUT: true; the input reads as it did. -/
def fnMeetSpec : ChangeSpec := { name := "fnMeet", vars := ["loop.example/g00857/impl.lineVectors"], fn := fun _ => fun
  | [d, g1] => { results := [.lit (.bool true)], args := [d], vars := [g1] }
  | _ => none }
def fnMeetRow : OpenClaim := { program := "ytafbdnjabgfjeaadoor", sum := "693ce60bb5fdb898b22b4944c9c01b0bf02a6a683cefa9734396b99d6c1d6776", func := "loop.example/g00857/laws.FnMeet", spec := "fnMeet", named := ["math/bits.deBruijn64tab", "loop.example/g00857/impl.lineVectors"], apart := false, laid := [("math/bits.deBruijn64tab", laid_math_bits_deBruijn64tab), ("loop.example/g00857/impl.lineVectors", laid_loop_example_g00857_impl_lineVectors)] }
def FnMeetSaid : Prop := fnMeetRow.holds Tryd.pinned (OpenSpec.ofChange fnMeetSpec)

/-- ITS FALSE NEIGHBOUR: 'it returns false'. Refute it at one input. -/
def fnMeetWrong : ChangeSpec := { name := "fnMeet", vars := ["loop.example/g00857/impl.lineVectors"], fn := fun _ => fun
  | [d, g1] => { results := [.lit (.bool false)], args := [d], vars := [g1] }
  | _ => none }
def FnMeetWrongFalsely : Prop := fnMeetRow.holds Tryd.pinned (OpenSpec.ofChange fnMeetWrong)

/-- 'laws.FnReflect': WHATEVER THE INPUT: true; the input reads as it did. -/
def fnReflectSpec : ChangeSpec := { name := "fnReflect", vars := ["loop.example/g00857/impl.lineVectors"], fn := fun _ => fun
  | [d, g1] => { results := [.lit (.bool true)], args := [d], vars := [g1] }
  | _ => none }
def fnReflectRow : OpenClaim := { program := "ytafbdnjabgfjeaadoor", sum := "693ce60bb5fdb898b22b4944c9c01b0bf02a6a683cefa9734396b99d6c1d6776", func := "loop.example/g00857/laws.FnReflect", spec := "fnReflect", named := ["math/bits.deBruijn64tab", "loop.example/g00857/impl.lineVectors"], apart := false, laid := [("math/bits.deBruijn64tab", laid_math_bits_deBruijn64tab), ("loop.example/g00857/impl.lineVectors", laid_loop_example_g00857_impl_lineVectors)] }
def FnReflectSaid : Prop := fnReflectRow.holds Tryd.pinned (OpenSpec.ofChange fnReflectSpec)

/-- ITS FALSE NEIGHBOUR: 'it returns false'. Refute it at one input. -/
def fnReflectWrong : ChangeSpec := { name := "fnReflect", vars := ["loop.example/g00857/impl.lineVectors"], fn := fun _ => fun
  | [d, g1] => { results := [.lit (.bool false)], args := [d], vars := [g1] }
  | _ => none }
def FnReflectWrongFalsely : Prop := fnReflectRow.holds Tryd.pinned (OpenSpec.ofChange fnReflectWrong)

/-- 'laws.FnExactValidPolygon': WHATEVER THE INPUT: true; the input reads as it did. -/
def fnExactValidPolygonSpec : ChangeSpec := { name := "fnExactValidPolygon", vars := ["loop.example/g00857/impl.lineVectors"], fn := fun _ => fun
  | [d, g1] => { results := [.lit (.bool true)], args := [d], vars := [g1] }
  | _ => none }
def fnExactValidPolygonRow : OpenClaim := { program := "ytafbdnjabgfjeaadoor", sum := "693ce60bb5fdb898b22b4944c9c01b0bf02a6a683cefa9734396b99d6c1d6776", func := "loop.example/g00857/laws.FnExactValidPolygon", spec := "fnExactValidPolygon", unfollowed := true, recurses := true, named := ["math/bits.deBruijn64tab", "loop.example/g00857/impl.lineVectors"], apart := false, laid := [("math/bits.deBruijn64tab", laid_math_bits_deBruijn64tab), ("loop.example/g00857/impl.lineVectors", laid_loop_example_g00857_impl_lineVectors)] }
def FnExactValidPolygonSaid : Prop := fnExactValidPolygonRow.holds Tryd.pinned (OpenSpec.ofChange fnExactValidPolygonSpec)

/-- ITS FALSE NEIGHBOUR: 'it returns false'. Refute it at one input. -/
def fnExactValidPolygonWrong : ChangeSpec := { name := "fnExactValidPolygon", vars := ["loop.example/g00857/impl.lineVectors"], fn := fun _ => fun
  | [d, g1] => { results := [.lit (.bool false)], args := [d], vars := [g1] }
  | _ => none }
def FnExactValidPolygonWrongFalsely : Prop := fnExactValidPolygonRow.holds Tryd.pinned (OpenSpec.ofChange fnExactValidPolygonWrong)

/-- 'laws.FnExactNormalPolygon': WHATEVER THE INPUT: true; the input reads as it did. -/
def fnExactNormalPolygonSpec : ChangeSpec := { name := "fnExactNormalPolygon", vars := ["loop.example/g00857/impl.lineVectors"], fn := fun _ => fun
  | [d, g1] => { results := [.lit (.bool true)], args := [d], vars := [g1] }
  | _ => none }
def fnExactNormalPolygonRow : OpenClaim := { program := "ytafbdnjabgfjeaadoor", sum := "693ce60bb5fdb898b22b4944c9c01b0bf02a6a683cefa9734396b99d6c1d6776", func := "loop.example/g00857/laws.FnExactNormalPolygon", spec := "fnExactNormalPolygon", unfollowed := true, recurses := true, named := ["math/bits.deBruijn64tab", "loop.example/g00857/impl.lineVectors"], apart := false, laid := [("math/bits.deBruijn64tab", laid_math_bits_deBruijn64tab), ("loop.example/g00857/impl.lineVectors", laid_loop_example_g00857_impl_lineVectors)] }
def FnExactNormalPolygonSaid : Prop := fnExactNormalPolygonRow.holds Tryd.pinned (OpenSpec.ofChange fnExactNormalPolygonSpec)

/-- ITS FALSE NEIGHBOUR: 'it returns false'. Refute it at one input. -/
def fnExactNormalPolygonWrong : ChangeSpec := { name := "fnExactNormalPolygon", vars := ["loop.example/g00857/impl.lineVectors"], fn := fun _ => fun
  | [d, g1] => { results := [.lit (.bool false)], args := [d], vars := [g1] }
  | _ => none }
def FnExactNormalPolygonWrongFalsely : Prop := fnExactNormalPolygonRow.holds Tryd.pinned (OpenSpec.ofChange fnExactNormalPolygonWrong)

/-- 'laws.FnExactInPolygon': WHATEVER THE INPUT: true; the input reads as it did. -/
def fnExactInPolygonSpec : ChangeSpec := { name := "fnExactInPolygon", vars := ["loop.example/g00857/impl.lineVectors"], fn := fun _ => fun
  | [d1, d2, g1] => { results := [.lit (.bool true)], args := [d1, d2], vars := [g1] }
  | _ => none }
def fnExactInPolygonRow : OpenClaim := { program := "ytafbdnjabgfjeaadoor", sum := "693ce60bb5fdb898b22b4944c9c01b0bf02a6a683cefa9734396b99d6c1d6776", func := "loop.example/g00857/laws.FnExactInPolygon", spec := "fnExactInPolygon", unfollowed := true, recurses := true, named := ["math/bits.deBruijn64tab", "loop.example/g00857/impl.lineVectors"], apart := false, laid := [("math/bits.deBruijn64tab", laid_math_bits_deBruijn64tab), ("loop.example/g00857/impl.lineVectors", laid_loop_example_g00857_impl_lineVectors)] }
def FnExactInPolygonSaid : Prop := fnExactInPolygonRow.holds Tryd.pinned (OpenSpec.ofChange fnExactInPolygonSpec)

/-- ITS FALSE NEIGHBOUR: 'it returns false'. Refute it at one input. -/
def fnExactInPolygonWrong : ChangeSpec := { name := "fnExactInPolygon", vars := ["loop.example/g00857/impl.lineVectors"], fn := fun _ => fun
  | [d1, d2, g1] => { results := [.lit (.bool false)], args := [d1, d2], vars := [g1] }
  | _ => none }
def FnExactInPolygonWrongFalsely : Prop := fnExactInPolygonRow.holds Tryd.pinned (OpenSpec.ofChange fnExactInPolygonWrong)

/-- 'laws.FnExactAreaOf': WHATEVER THE INPUT: true; the input reads as it did. -/
def fnExactAreaOfSpec : ChangeSpec := { name := "fnExactAreaOf", vars := ["loop.example/g00857/impl.lineVectors"], fn := fun _ => fun
  | [d, g1] => { results := [.lit (.bool true)], args := [d], vars := [g1] }
  | _ => none }
def fnExactAreaOfRow : OpenClaim := { program := "ytafbdnjabgfjeaadoor", sum := "693ce60bb5fdb898b22b4944c9c01b0bf02a6a683cefa9734396b99d6c1d6776", func := "loop.example/g00857/laws.FnExactAreaOf", spec := "fnExactAreaOf", unfollowed := true, recurses := true, named := ["math/bits.deBruijn64tab", "loop.example/g00857/impl.lineVectors"], apart := false, laid := [("math/bits.deBruijn64tab", laid_math_bits_deBruijn64tab), ("loop.example/g00857/impl.lineVectors", laid_loop_example_g00857_impl_lineVectors)] }
def FnExactAreaOfSaid : Prop := fnExactAreaOfRow.holds Tryd.pinned (OpenSpec.ofChange fnExactAreaOfSpec)

/-- ITS FALSE NEIGHBOUR: 'it returns false'. Refute it at one input. -/
def fnExactAreaOfWrong : ChangeSpec := { name := "fnExactAreaOf", vars := ["loop.example/g00857/impl.lineVectors"], fn := fun _ => fun
  | [d, g1] => { results := [.lit (.bool false)], args := [d], vars := [g1] }
  | _ => none }
def FnExactAreaOfWrongFalsely : Prop := fnExactAreaOfRow.holds Tryd.pinned (OpenSpec.ofChange fnExactAreaOfWrong)

/- THE SECOND FORM. 'bulk': how many values and letters a reading holds, each counted each time it is reached (what is shared counts as often as it is met; a slice's spare places count too). A statement '..UptoSaid' is the law's where the arguments, and the package variables that the reading takes, are together of bulk at most 1048576: NARROWER than '..Said'. Prove '..Said' where nothing that the law and all that it calls make is longer than what came in: it says more and counts as full. Else prove '..UptoSaid'. A law counts once. -/
mutual
def uptoBulk {H : Type} : DataW H → Nat
  | .lit (.string bytes) => bytes.length + 1
  | .lit _ => 1
  | .nil => 1
  | .ptr d => uptoBulk d + 1
  | .slice elems spare => uptoBulkAll elems + uptoBulkAll spare + 1
  | .agg parts => uptoBulkAll parts + 1
  | .iface _ d => uptoBulk d + 1
  | .map entries => uptoBulkEntries entries + 1
  | .held _ => 1
def uptoBulkAll {H : Type} : List (DataW H) → Nat
  | [] => 0
  | d :: r => uptoBulk d + uptoBulkAll r
def uptoBulkEntries {H : Type} : List (Lit × DataW H) → Nat
  | [] => 0
  | x :: r => uptoBulkEntry x + uptoBulkEntries r
def uptoBulkEntry {H : Type} : Lit × DataW H → Nat
  | (.string bytes, d) => bytes.length + uptoBulk d + 1
  | (_, d) => uptoBulk d + 1
 end
def uptoSmall : (H : Type) → List (DataW H) → Bool := fun _ ds => decide (uptoBulkAll ds ≤ 1048576)
def OpenSpec.upto (s : _root_.Go.ChangeSpec) : _root_.Go.OpenSpec := { _root_.Go.OpenSpec.ofChange s with cond := some uptoSmall }

/-- 'laws.FnMotionLines', WHERE WHAT IT READS IS OF BULK AT MOST 1048576: true; the input reads as it did. -/
def fnMotionLinesUptoRow : OpenClaim := { program := "ytafbdnjabgfjeaadoor", sum := "693ce60bb5fdb898b22b4944c9c01b0bf02a6a683cefa9734396b99d6c1d6776", func := "loop.example/g00857/laws.FnMotionLines", spec := "fnMotionLines", named := ["math/bits.deBruijn64tab", "loop.example/g00857/impl.lineVectors"], apart := false, laid := [("math/bits.deBruijn64tab", laid_math_bits_deBruijn64tab), ("loop.example/g00857/impl.lineVectors", laid_loop_example_g00857_impl_lineVectors)], narrowed := true }
def FnMotionLinesUptoSaid : Prop := fnMotionLinesUptoRow.holds Tryd.pinned (OpenSpec.upto fnMotionLinesSpec)

/-- 'laws.FnMeet', WHERE WHAT IT READS IS OF BULK AT MOST 1048576: true; the input reads as it did. -/
def fnMeetUptoRow : OpenClaim := { program := "ytafbdnjabgfjeaadoor", sum := "693ce60bb5fdb898b22b4944c9c01b0bf02a6a683cefa9734396b99d6c1d6776", func := "loop.example/g00857/laws.FnMeet", spec := "fnMeet", named := ["math/bits.deBruijn64tab", "loop.example/g00857/impl.lineVectors"], apart := false, laid := [("math/bits.deBruijn64tab", laid_math_bits_deBruijn64tab), ("loop.example/g00857/impl.lineVectors", laid_loop_example_g00857_impl_lineVectors)], narrowed := true }
def FnMeetUptoSaid : Prop := fnMeetUptoRow.holds Tryd.pinned (OpenSpec.upto fnMeetSpec)

/-- 'laws.FnReflect', WHERE WHAT IT READS IS OF BULK AT MOST 1048576: true; the input reads as it did. -/
def fnReflectUptoRow : OpenClaim := { program := "ytafbdnjabgfjeaadoor", sum := "693ce60bb5fdb898b22b4944c9c01b0bf02a6a683cefa9734396b99d6c1d6776", func := "loop.example/g00857/laws.FnReflect", spec := "fnReflect", named := ["math/bits.deBruijn64tab", "loop.example/g00857/impl.lineVectors"], apart := false, laid := [("math/bits.deBruijn64tab", laid_math_bits_deBruijn64tab), ("loop.example/g00857/impl.lineVectors", laid_loop_example_g00857_impl_lineVectors)], narrowed := true }
def FnReflectUptoSaid : Prop := fnReflectUptoRow.holds Tryd.pinned (OpenSpec.upto fnReflectSpec)

/-- 'laws.FnExactValidPolygon', WHERE WHAT IT READS IS OF BULK AT MOST 1048576: true; the input reads as it did. -/
def fnExactValidPolygonUptoRow : OpenClaim := { program := "ytafbdnjabgfjeaadoor", sum := "693ce60bb5fdb898b22b4944c9c01b0bf02a6a683cefa9734396b99d6c1d6776", func := "loop.example/g00857/laws.FnExactValidPolygon", spec := "fnExactValidPolygon", unfollowed := true, recurses := true, named := ["math/bits.deBruijn64tab", "loop.example/g00857/impl.lineVectors"], apart := false, laid := [("math/bits.deBruijn64tab", laid_math_bits_deBruijn64tab), ("loop.example/g00857/impl.lineVectors", laid_loop_example_g00857_impl_lineVectors)], narrowed := true }
def FnExactValidPolygonUptoSaid : Prop := fnExactValidPolygonUptoRow.holds Tryd.pinned (OpenSpec.upto fnExactValidPolygonSpec)

/-- 'laws.FnExactNormalPolygon', WHERE WHAT IT READS IS OF BULK AT MOST 1048576: true; the input reads as it did. -/
def fnExactNormalPolygonUptoRow : OpenClaim := { program := "ytafbdnjabgfjeaadoor", sum := "693ce60bb5fdb898b22b4944c9c01b0bf02a6a683cefa9734396b99d6c1d6776", func := "loop.example/g00857/laws.FnExactNormalPolygon", spec := "fnExactNormalPolygon", unfollowed := true, recurses := true, named := ["math/bits.deBruijn64tab", "loop.example/g00857/impl.lineVectors"], apart := false, laid := [("math/bits.deBruijn64tab", laid_math_bits_deBruijn64tab), ("loop.example/g00857/impl.lineVectors", laid_loop_example_g00857_impl_lineVectors)], narrowed := true }
def FnExactNormalPolygonUptoSaid : Prop := fnExactNormalPolygonUptoRow.holds Tryd.pinned (OpenSpec.upto fnExactNormalPolygonSpec)

/-- 'laws.FnExactInPolygon', WHERE WHAT IT READS IS OF BULK AT MOST 1048576: true; the input reads as it did. -/
def fnExactInPolygonUptoRow : OpenClaim := { program := "ytafbdnjabgfjeaadoor", sum := "693ce60bb5fdb898b22b4944c9c01b0bf02a6a683cefa9734396b99d6c1d6776", func := "loop.example/g00857/laws.FnExactInPolygon", spec := "fnExactInPolygon", unfollowed := true, recurses := true, named := ["math/bits.deBruijn64tab", "loop.example/g00857/impl.lineVectors"], apart := false, laid := [("math/bits.deBruijn64tab", laid_math_bits_deBruijn64tab), ("loop.example/g00857/impl.lineVectors", laid_loop_example_g00857_impl_lineVectors)], narrowed := true }
def FnExactInPolygonUptoSaid : Prop := fnExactInPolygonUptoRow.holds Tryd.pinned (OpenSpec.upto fnExactInPolygonSpec)

/-- 'laws.FnExactAreaOf', WHERE WHAT IT READS IS OF BULK AT MOST 1048576: true; the input reads as it did. -/
def fnExactAreaOfUptoRow : OpenClaim := { program := "ytafbdnjabgfjeaadoor", sum := "693ce60bb5fdb898b22b4944c9c01b0bf02a6a683cefa9734396b99d6c1d6776", func := "loop.example/g00857/laws.FnExactAreaOf", spec := "fnExactAreaOf", unfollowed := true, recurses := true, named := ["math/bits.deBruijn64tab", "loop.example/g00857/impl.lineVectors"], apart := false, laid := [("math/bits.deBruijn64tab", laid_math_bits_deBruijn64tab), ("loop.example/g00857/impl.lineVectors", laid_loop_example_g00857_impl_lineVectors)], narrowed := true }
def FnExactAreaOfUptoSaid : Prop := fnExactAreaOfUptoRow.holds Tryd.pinned (OpenSpec.upto fnExactAreaOfSpec)

end Rows
end Go.Proofs.YtafbdnjabgfjeaaDoor
