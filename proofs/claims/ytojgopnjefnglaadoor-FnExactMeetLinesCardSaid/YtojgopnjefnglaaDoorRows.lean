/-
  NARROWER THAN 'FOR EVERY INPUT', by the rows' own cells (each row's printed sentence says how): FnExactValidPoint: laid · FnExactValidLine: laid · FnExactComparePoints: laid · FnExactDirVector: laid · FnExactDirectionOf: laid · FnExactLineAt: laid · FnExactLineThrough: laid · FnExactSideOf: laid · FnExactMeetLines: laid · FnExactReflectPoint: laid · FnExactReflectLine: laid · FnExactMidPoint: laid.
  DERIVED. THE GIVEN ROWS OF THIS SEAT. 12 by the template 'for every input the law returns true; each argument reads behind the call as it read before'; 0 by the template 'total and deterministic' (their statements: YtojgopnjefnglaaDoorTotals.lean).
  GIVEN WITH THE SEED: the statements are not yours to turn. If you find one false, say at which input.
  Laid BY PROGRAM, IN A SANDBOX (cutbox-rows.mjs): the forced cells as the released guide's own fill.sh prints them over the translation 94123534688c4ca8… (all of the seat's roots in one cut). By AI agents, Wed Nov 11 2026. No macro, syntax, notation, axiom, sorry.
-/
import Derived.Test.YtojgopnjefnglaaDoorChecked
import GoSem.Claim
import GoSem.ClaimJoined
import GoSem.ClaimMapViews
import Derived.JoinedTies
import Derived.KernelRfl
namespace Go.Proofs.YtojgopnjefnglaaDoor
/- THE CELL 'sum', in the pinned program and in every row, IS THE sha256 OF THE DUMP (.gsa) THAT YtojgopnjefnglaaDoorProg.lean LOADS. Nothing in Lean hashes anything: it is a label: what it is worth is what the hold of that sum in a sandbox is worth. -/
noncomputable def Tryd.pinned : Pinned := { name := "ytojgopnjefnglaadoor", sum := "94123534688c4ca87f6d3f80d33f68a98d3e98ef3933de7f511b291e574456f0", checked := Tryd.checked }
namespace Rows
def none {H : Type} : Left H := { results := [], args := [] }

/- WHAT THE LISTED PACKAGE-LEVEL VARIABLES READ AS WHEN THE CALL BEGINS. Each datum BY PROGRAM (the guide's laid-datum.mjs) off the statement by which the dump's own 'gosem.cut.vars' lays the variable. In a bare row this is a premise. The card (YtojgopnjefnglaaDoorCards.lean) ties it to the program's text. -/
def laid_math_bits_deBruijn64tab {H : Type} : DataW H := .agg [.lit (.int .u8 0), .lit (.int .u8 1), .lit (.int .u8 56), .lit (.int .u8 2), .lit (.int .u8 57), .lit (.int .u8 49), .lit (.int .u8 28), .lit (.int .u8 3), .lit (.int .u8 61), .lit (.int .u8 58), .lit (.int .u8 42), .lit (.int .u8 50), .lit (.int .u8 38), .lit (.int .u8 29), .lit (.int .u8 17), .lit (.int .u8 4), .lit (.int .u8 62), .lit (.int .u8 47), .lit (.int .u8 59), .lit (.int .u8 36), .lit (.int .u8 45), .lit (.int .u8 43), .lit (.int .u8 51), .lit (.int .u8 22), .lit (.int .u8 53), .lit (.int .u8 39), .lit (.int .u8 33), .lit (.int .u8 30), .lit (.int .u8 24), .lit (.int .u8 18), .lit (.int .u8 12), .lit (.int .u8 5), .lit (.int .u8 63), .lit (.int .u8 55), .lit (.int .u8 48), .lit (.int .u8 27), .lit (.int .u8 60), .lit (.int .u8 41), .lit (.int .u8 37), .lit (.int .u8 16), .lit (.int .u8 46), .lit (.int .u8 35), .lit (.int .u8 44), .lit (.int .u8 21), .lit (.int .u8 52), .lit (.int .u8 32), .lit (.int .u8 23), .lit (.int .u8 11), .lit (.int .u8 54), .lit (.int .u8 26), .lit (.int .u8 40), .lit (.int .u8 15), .lit (.int .u8 34), .lit (.int .u8 20), .lit (.int .u8 31), .lit (.int .u8 10), .lit (.int .u8 25), .lit (.int .u8 14), .lit (.int .u8 19), .lit (.int .u8 9), .lit (.int .u8 13), .lit (.int .u8 8), .lit (.int .u8 7), .lit (.int .u8 6)]
def laid_loop_example_g00857_impl_lineVectors {H : Type} : DataW H := .agg [.agg [.agg [.lit (.int .i64 1), .lit (.int .i64 0), .lit (.int .i64 0)], .agg [.lit (.int .i64 0), .lit (.int .i64 0), .lit (.int .i64 0)]], .agg [.agg [.lit (.int .i64 1), .lit (.int .i64 0), .lit (.int .i64 0)], .agg [.lit (.int .i64 (-1)), .lit (.int .i64 1), .lit (.int .i64 0)]], .agg [.agg [.lit (.int .i64 1), .lit (.int .i64 0), .lit (.int .i64 0)], .agg [.lit (.int .i64 1), .lit (.int .i64 0), .lit (.int .i64 0)]], .agg [.agg [.lit (.int .i64 (-1)), .lit (.int .i64 1), .lit (.int .i64 0)], .agg [.lit (.int .i64 1), .lit (.int .i64 0), .lit (.int .i64 0)]], .agg [.agg [.lit (.int .i64 0), .lit (.int .i64 0), .lit (.int .i64 0)], .agg [.lit (.int .i64 1), .lit (.int .i64 0), .lit (.int .i64 0)]], .agg [.agg [.lit (.int .i64 1), .lit (.int .i64 (-1)), .lit (.int .i64 0)], .agg [.lit (.int .i64 1), .lit (.int .i64 0), .lit (.int .i64 0)]], .agg [.agg [.lit (.int .i64 (-1)), .lit (.int .i64 0), .lit (.int .i64 0)], .agg [.lit (.int .i64 1), .lit (.int .i64 0), .lit (.int .i64 0)]], .agg [.agg [.lit (.int .i64 (-1)), .lit (.int .i64 0), .lit (.int .i64 0)], .agg [.lit (.int .i64 (-1)), .lit (.int .i64 1), .lit (.int .i64 0)]]]

/-- 'laws.FnExactValidPoint': WHATEVER THE INPUT: true; the input reads as it did. -/
def fnExactValidPointSpec : ChangeSpec := { name := "fnExactValidPoint", fn := fun _ => fun
  | [d] => { results := [.lit (.bool true)], args := [d] }
  | _ => none }
def fnExactValidPointRow : OpenClaim := { program := "ytojgopnjefnglaadoor", sum := "94123534688c4ca87f6d3f80d33f68a98d3e98ef3933de7f511b291e574456f0", func := "loop.example/g00857/laws.FnExactValidPoint", spec := "fnExactValidPoint", named := ["math/bits.deBruijn64tab"], apart := false, laid := [("math/bits.deBruijn64tab", laid_math_bits_deBruijn64tab)] }
def FnExactValidPointSaid : Prop := fnExactValidPointRow.holds Tryd.pinned (OpenSpec.ofChange fnExactValidPointSpec)

/-- ITS FALSE NEIGHBOUR: 'it returns false'. Refute it at one input. -/
def fnExactValidPointWrong : ChangeSpec := { name := "fnExactValidPoint", fn := fun _ => fun
  | [d] => { results := [.lit (.bool false)], args := [d] }
  | _ => none }
def FnExactValidPointWrongFalsely : Prop := fnExactValidPointRow.holds Tryd.pinned (OpenSpec.ofChange fnExactValidPointWrong)

/-- 'laws.FnExactValidLine': WHATEVER THE INPUT: true; the input reads as it did. -/
def fnExactValidLineSpec : ChangeSpec := { name := "fnExactValidLine", fn := fun _ => fun
  | [d] => { results := [.lit (.bool true)], args := [d] }
  | _ => none }
def fnExactValidLineRow : OpenClaim := { program := "ytojgopnjefnglaadoor", sum := "94123534688c4ca87f6d3f80d33f68a98d3e98ef3933de7f511b291e574456f0", func := "loop.example/g00857/laws.FnExactValidLine", spec := "fnExactValidLine", named := ["math/bits.deBruijn64tab"], apart := false, laid := [("math/bits.deBruijn64tab", laid_math_bits_deBruijn64tab)] }
def FnExactValidLineSaid : Prop := fnExactValidLineRow.holds Tryd.pinned (OpenSpec.ofChange fnExactValidLineSpec)

/-- ITS FALSE NEIGHBOUR: 'it returns false'. Refute it at one input. -/
def fnExactValidLineWrong : ChangeSpec := { name := "fnExactValidLine", fn := fun _ => fun
  | [d] => { results := [.lit (.bool false)], args := [d] }
  | _ => none }
def FnExactValidLineWrongFalsely : Prop := fnExactValidLineRow.holds Tryd.pinned (OpenSpec.ofChange fnExactValidLineWrong)

/-- 'laws.FnExactComparePoints': WHATEVER THE INPUT: true; the input reads as it did. -/
def fnExactComparePointsSpec : ChangeSpec := { name := "fnExactComparePoints", fn := fun _ => fun
  | [d1, d2] => { results := [.lit (.bool true)], args := [d1, d2] }
  | _ => none }
def fnExactComparePointsRow : OpenClaim := { program := "ytojgopnjefnglaadoor", sum := "94123534688c4ca87f6d3f80d33f68a98d3e98ef3933de7f511b291e574456f0", func := "loop.example/g00857/laws.FnExactComparePoints", spec := "fnExactComparePoints", named := ["math/bits.deBruijn64tab"], apart := false, laid := [("math/bits.deBruijn64tab", laid_math_bits_deBruijn64tab)] }
def FnExactComparePointsSaid : Prop := fnExactComparePointsRow.holds Tryd.pinned (OpenSpec.ofChange fnExactComparePointsSpec)

/-- ITS FALSE NEIGHBOUR: 'it returns false'. Refute it at one input. -/
def fnExactComparePointsWrong : ChangeSpec := { name := "fnExactComparePoints", fn := fun _ => fun
  | [d1, d2] => { results := [.lit (.bool false)], args := [d1, d2] }
  | _ => none }
def FnExactComparePointsWrongFalsely : Prop := fnExactComparePointsRow.holds Tryd.pinned (OpenSpec.ofChange fnExactComparePointsWrong)

/-- 'laws.FnExactDirVector': WHATEVER THE INPUT: true; the input reads as it did. -/
def fnExactDirVectorSpec : ChangeSpec := { name := "fnExactDirVector", vars := ["loop.example/g00857/impl.lineVectors"], fn := fun _ => fun
  | [d, g1] => { results := [.lit (.bool true)], args := [d], vars := [g1] }
  | _ => none }
def fnExactDirVectorRow : OpenClaim := { program := "ytojgopnjefnglaadoor", sum := "94123534688c4ca87f6d3f80d33f68a98d3e98ef3933de7f511b291e574456f0", func := "loop.example/g00857/laws.FnExactDirVector", spec := "fnExactDirVector", named := ["loop.example/g00857/impl.lineVectors", "math/bits.deBruijn64tab"], apart := false, laid := [("math/bits.deBruijn64tab", laid_math_bits_deBruijn64tab), ("loop.example/g00857/impl.lineVectors", laid_loop_example_g00857_impl_lineVectors)] }
def FnExactDirVectorSaid : Prop := fnExactDirVectorRow.holds Tryd.pinned (OpenSpec.ofChange fnExactDirVectorSpec)

/-- ITS FALSE NEIGHBOUR: 'it returns false'. Refute it at one input. -/
def fnExactDirVectorWrong : ChangeSpec := { name := "fnExactDirVector", vars := ["loop.example/g00857/impl.lineVectors"], fn := fun _ => fun
  | [d, g1] => { results := [.lit (.bool false)], args := [d], vars := [g1] }
  | _ => none }
def FnExactDirVectorWrongFalsely : Prop := fnExactDirVectorRow.holds Tryd.pinned (OpenSpec.ofChange fnExactDirVectorWrong)

/-- 'laws.FnExactDirectionOf': WHATEVER THE INPUT: true; the input reads as it did. -/
def fnExactDirectionOfSpec : ChangeSpec := { name := "fnExactDirectionOf", vars := ["loop.example/g00857/impl.lineVectors"], fn := fun _ => fun
  | [d1, d2, g1] => { results := [.lit (.bool true)], args := [d1, d2], vars := [g1] }
  | _ => none }
def fnExactDirectionOfRow : OpenClaim := { program := "ytojgopnjefnglaadoor", sum := "94123534688c4ca87f6d3f80d33f68a98d3e98ef3933de7f511b291e574456f0", func := "loop.example/g00857/laws.FnExactDirectionOf", spec := "fnExactDirectionOf", named := ["math/bits.deBruijn64tab", "loop.example/g00857/impl.lineVectors"], apart := false, laid := [("math/bits.deBruijn64tab", laid_math_bits_deBruijn64tab), ("loop.example/g00857/impl.lineVectors", laid_loop_example_g00857_impl_lineVectors)] }
def FnExactDirectionOfSaid : Prop := fnExactDirectionOfRow.holds Tryd.pinned (OpenSpec.ofChange fnExactDirectionOfSpec)

/-- ITS FALSE NEIGHBOUR: 'it returns false'. Refute it at one input. -/
def fnExactDirectionOfWrong : ChangeSpec := { name := "fnExactDirectionOf", vars := ["loop.example/g00857/impl.lineVectors"], fn := fun _ => fun
  | [d1, d2, g1] => { results := [.lit (.bool false)], args := [d1, d2], vars := [g1] }
  | _ => none }
def FnExactDirectionOfWrongFalsely : Prop := fnExactDirectionOfRow.holds Tryd.pinned (OpenSpec.ofChange fnExactDirectionOfWrong)

/-- 'laws.FnExactLineAt': WHATEVER THE INPUT: true; the input reads as it did. -/
def fnExactLineAtSpec : ChangeSpec := { name := "fnExactLineAt", vars := ["loop.example/g00857/impl.lineVectors"], fn := fun _ => fun
  | [d1, d2, g1] => { results := [.lit (.bool true)], args := [d1, d2], vars := [g1] }
  | _ => none }
def fnExactLineAtRow : OpenClaim := { program := "ytojgopnjefnglaadoor", sum := "94123534688c4ca87f6d3f80d33f68a98d3e98ef3933de7f511b291e574456f0", func := "loop.example/g00857/laws.FnExactLineAt", spec := "fnExactLineAt", named := ["math/bits.deBruijn64tab", "loop.example/g00857/impl.lineVectors"], apart := false, laid := [("math/bits.deBruijn64tab", laid_math_bits_deBruijn64tab), ("loop.example/g00857/impl.lineVectors", laid_loop_example_g00857_impl_lineVectors)] }
def FnExactLineAtSaid : Prop := fnExactLineAtRow.holds Tryd.pinned (OpenSpec.ofChange fnExactLineAtSpec)

/-- ITS FALSE NEIGHBOUR: 'it returns false'. Refute it at one input. -/
def fnExactLineAtWrong : ChangeSpec := { name := "fnExactLineAt", vars := ["loop.example/g00857/impl.lineVectors"], fn := fun _ => fun
  | [d1, d2, g1] => { results := [.lit (.bool false)], args := [d1, d2], vars := [g1] }
  | _ => none }
def FnExactLineAtWrongFalsely : Prop := fnExactLineAtRow.holds Tryd.pinned (OpenSpec.ofChange fnExactLineAtWrong)

/-- 'laws.FnExactLineThrough': WHATEVER THE INPUT: true; the input reads as it did. -/
def fnExactLineThroughSpec : ChangeSpec := { name := "fnExactLineThrough", vars := ["loop.example/g00857/impl.lineVectors"], fn := fun _ => fun
  | [d1, d2, g1] => { results := [.lit (.bool true)], args := [d1, d2], vars := [g1] }
  | _ => none }
def fnExactLineThroughRow : OpenClaim := { program := "ytojgopnjefnglaadoor", sum := "94123534688c4ca87f6d3f80d33f68a98d3e98ef3933de7f511b291e574456f0", func := "loop.example/g00857/laws.FnExactLineThrough", spec := "fnExactLineThrough", named := ["math/bits.deBruijn64tab", "loop.example/g00857/impl.lineVectors"], apart := false, laid := [("math/bits.deBruijn64tab", laid_math_bits_deBruijn64tab), ("loop.example/g00857/impl.lineVectors", laid_loop_example_g00857_impl_lineVectors)] }
def FnExactLineThroughSaid : Prop := fnExactLineThroughRow.holds Tryd.pinned (OpenSpec.ofChange fnExactLineThroughSpec)

/-- ITS FALSE NEIGHBOUR: 'it returns false'. Refute it at one input. -/
def fnExactLineThroughWrong : ChangeSpec := { name := "fnExactLineThrough", vars := ["loop.example/g00857/impl.lineVectors"], fn := fun _ => fun
  | [d1, d2, g1] => { results := [.lit (.bool false)], args := [d1, d2], vars := [g1] }
  | _ => none }
def FnExactLineThroughWrongFalsely : Prop := fnExactLineThroughRow.holds Tryd.pinned (OpenSpec.ofChange fnExactLineThroughWrong)

/-- 'laws.FnExactSideOf': WHATEVER THE INPUT: true; the input reads as it did. -/
def fnExactSideOfSpec : ChangeSpec := { name := "fnExactSideOf", vars := ["loop.example/g00857/impl.lineVectors"], fn := fun _ => fun
  | [d1, d2, g1] => { results := [.lit (.bool true)], args := [d1, d2], vars := [g1] }
  | _ => none }
def fnExactSideOfRow : OpenClaim := { program := "ytojgopnjefnglaadoor", sum := "94123534688c4ca87f6d3f80d33f68a98d3e98ef3933de7f511b291e574456f0", func := "loop.example/g00857/laws.FnExactSideOf", spec := "fnExactSideOf", named := ["math/bits.deBruijn64tab", "loop.example/g00857/impl.lineVectors"], apart := false, laid := [("math/bits.deBruijn64tab", laid_math_bits_deBruijn64tab), ("loop.example/g00857/impl.lineVectors", laid_loop_example_g00857_impl_lineVectors)] }
def FnExactSideOfSaid : Prop := fnExactSideOfRow.holds Tryd.pinned (OpenSpec.ofChange fnExactSideOfSpec)

/-- ITS FALSE NEIGHBOUR: 'it returns false'. Refute it at one input. -/
def fnExactSideOfWrong : ChangeSpec := { name := "fnExactSideOf", vars := ["loop.example/g00857/impl.lineVectors"], fn := fun _ => fun
  | [d1, d2, g1] => { results := [.lit (.bool false)], args := [d1, d2], vars := [g1] }
  | _ => none }
def FnExactSideOfWrongFalsely : Prop := fnExactSideOfRow.holds Tryd.pinned (OpenSpec.ofChange fnExactSideOfWrong)

/-- 'laws.FnExactMeetLines': WHATEVER THE INPUT: true; the input reads as it did. -/
def fnExactMeetLinesSpec : ChangeSpec := { name := "fnExactMeetLines", vars := ["loop.example/g00857/impl.lineVectors"], fn := fun _ => fun
  | [d1, d2, g1] => { results := [.lit (.bool true)], args := [d1, d2], vars := [g1] }
  | _ => none }
def fnExactMeetLinesRow : OpenClaim := { program := "ytojgopnjefnglaadoor", sum := "94123534688c4ca87f6d3f80d33f68a98d3e98ef3933de7f511b291e574456f0", func := "loop.example/g00857/laws.FnExactMeetLines", spec := "fnExactMeetLines", named := ["math/bits.deBruijn64tab", "loop.example/g00857/impl.lineVectors"], apart := false, laid := [("math/bits.deBruijn64tab", laid_math_bits_deBruijn64tab), ("loop.example/g00857/impl.lineVectors", laid_loop_example_g00857_impl_lineVectors)] }
def FnExactMeetLinesSaid : Prop := fnExactMeetLinesRow.holds Tryd.pinned (OpenSpec.ofChange fnExactMeetLinesSpec)

/-- ITS FALSE NEIGHBOUR: 'it returns false'. Refute it at one input. -/
def fnExactMeetLinesWrong : ChangeSpec := { name := "fnExactMeetLines", vars := ["loop.example/g00857/impl.lineVectors"], fn := fun _ => fun
  | [d1, d2, g1] => { results := [.lit (.bool false)], args := [d1, d2], vars := [g1] }
  | _ => none }
def FnExactMeetLinesWrongFalsely : Prop := fnExactMeetLinesRow.holds Tryd.pinned (OpenSpec.ofChange fnExactMeetLinesWrong)

/-- 'laws.FnExactReflectPoint': WHATEVER THE INPUT: true; the input reads as it did. -/
def fnExactReflectPointSpec : ChangeSpec := { name := "fnExactReflectPoint", vars := ["loop.example/g00857/impl.lineVectors"], fn := fun _ => fun
  | [d1, d2, g1] => { results := [.lit (.bool true)], args := [d1, d2], vars := [g1] }
  | _ => none }
def fnExactReflectPointRow : OpenClaim := { program := "ytojgopnjefnglaadoor", sum := "94123534688c4ca87f6d3f80d33f68a98d3e98ef3933de7f511b291e574456f0", func := "loop.example/g00857/laws.FnExactReflectPoint", spec := "fnExactReflectPoint", named := ["math/bits.deBruijn64tab", "loop.example/g00857/impl.lineVectors"], apart := false, laid := [("math/bits.deBruijn64tab", laid_math_bits_deBruijn64tab), ("loop.example/g00857/impl.lineVectors", laid_loop_example_g00857_impl_lineVectors)] }
def FnExactReflectPointSaid : Prop := fnExactReflectPointRow.holds Tryd.pinned (OpenSpec.ofChange fnExactReflectPointSpec)

/-- ITS FALSE NEIGHBOUR: 'it returns false'. Refute it at one input. -/
def fnExactReflectPointWrong : ChangeSpec := { name := "fnExactReflectPoint", vars := ["loop.example/g00857/impl.lineVectors"], fn := fun _ => fun
  | [d1, d2, g1] => { results := [.lit (.bool false)], args := [d1, d2], vars := [g1] }
  | _ => none }
def FnExactReflectPointWrongFalsely : Prop := fnExactReflectPointRow.holds Tryd.pinned (OpenSpec.ofChange fnExactReflectPointWrong)

/-- 'laws.FnExactReflectLine': WHATEVER THE INPUT: true; the input reads as it did. -/
def fnExactReflectLineSpec : ChangeSpec := { name := "fnExactReflectLine", vars := ["loop.example/g00857/impl.lineVectors"], fn := fun _ => fun
  | [d1, d2, g1] => { results := [.lit (.bool true)], args := [d1, d2], vars := [g1] }
  | _ => none }
def fnExactReflectLineRow : OpenClaim := { program := "ytojgopnjefnglaadoor", sum := "94123534688c4ca87f6d3f80d33f68a98d3e98ef3933de7f511b291e574456f0", func := "loop.example/g00857/laws.FnExactReflectLine", spec := "fnExactReflectLine", named := ["math/bits.deBruijn64tab", "loop.example/g00857/impl.lineVectors"], apart := false, laid := [("math/bits.deBruijn64tab", laid_math_bits_deBruijn64tab), ("loop.example/g00857/impl.lineVectors", laid_loop_example_g00857_impl_lineVectors)] }
def FnExactReflectLineSaid : Prop := fnExactReflectLineRow.holds Tryd.pinned (OpenSpec.ofChange fnExactReflectLineSpec)

/-- ITS FALSE NEIGHBOUR: 'it returns false'. Refute it at one input. -/
def fnExactReflectLineWrong : ChangeSpec := { name := "fnExactReflectLine", vars := ["loop.example/g00857/impl.lineVectors"], fn := fun _ => fun
  | [d1, d2, g1] => { results := [.lit (.bool false)], args := [d1, d2], vars := [g1] }
  | _ => none }
def FnExactReflectLineWrongFalsely : Prop := fnExactReflectLineRow.holds Tryd.pinned (OpenSpec.ofChange fnExactReflectLineWrong)

/-- 'laws.FnExactMidPoint': WHATEVER THE INPUT: true; the input reads as it did. -/
def fnExactMidPointSpec : ChangeSpec := { name := "fnExactMidPoint", fn := fun _ => fun
  | [d1, d2] => { results := [.lit (.bool true)], args := [d1, d2] }
  | _ => none }
def fnExactMidPointRow : OpenClaim := { program := "ytojgopnjefnglaadoor", sum := "94123534688c4ca87f6d3f80d33f68a98d3e98ef3933de7f511b291e574456f0", func := "loop.example/g00857/laws.FnExactMidPoint", spec := "fnExactMidPoint", named := ["math/bits.deBruijn64tab"], apart := false, laid := [("math/bits.deBruijn64tab", laid_math_bits_deBruijn64tab)] }
def FnExactMidPointSaid : Prop := fnExactMidPointRow.holds Tryd.pinned (OpenSpec.ofChange fnExactMidPointSpec)

/-- ITS FALSE NEIGHBOUR: 'it returns false'. Refute it at one input. -/
def fnExactMidPointWrong : ChangeSpec := { name := "fnExactMidPoint", fn := fun _ => fun
  | [d1, d2] => { results := [.lit (.bool false)], args := [d1, d2] }
  | _ => none }
def FnExactMidPointWrongFalsely : Prop := fnExactMidPointRow.holds Tryd.pinned (OpenSpec.ofChange fnExactMidPointWrong)

/- THE SECOND FORM. 'bulk': how many values and letters a reading holds, each counted each time it is reached (what is shared counts as often as it is met; a slice's spare places count too). A statement '..UptoSaid' is the law's where the arguments, and the package variables that the reading takes, are together of bulk at most 1048576: NARROWER than '..Said'. Prove '..Said' where nothing that the law and all that it calls make is longer than what came in: it says more and counts as full. Else prove '..UptoSaid'. A law counts once. -/
mutual
def uptoBulk {H : Type} : DataW H → Nat
  | .lit (.string bytes) => bytes.length + 1
  | .lit _ => 1
  | .nil => 1
  | .ptr d => uptoBulk d + 1
  | .slice elems spare => uptoBulkAll elems + uptoBulkAll spare + 1
  | .agg parts => uptoBulkAll parts + 1
  | .iface _ d => uptoBulk d + 1
  | .map entries => uptoBulkEntries entries + 1
  | .held _ => 1
def uptoBulkAll {H : Type} : List (DataW H) → Nat
  | [] => 0
  | d :: r => uptoBulk d + uptoBulkAll r
def uptoBulkEntries {H : Type} : List (Lit × DataW H) → Nat
  | [] => 0
  | x :: r => uptoBulkEntry x + uptoBulkEntries r
def uptoBulkEntry {H : Type} : Lit × DataW H → Nat
  | (.string bytes, d) => bytes.length + uptoBulk d + 1
  | (_, d) => uptoBulk d + 1
 end
def uptoSmall : (H : Type) → List (DataW H) → Bool := fun _ ds => decide (uptoBulkAll ds ≤ 1048576)
def OpenSpec.upto (s : _root_.Go.ChangeSpec) : _root_.Go.OpenSpec := { _root_.Go.OpenSpec.ofChange s with cond := some uptoSmall }

/-- 'laws.FnExactValidPoint', WHERE WHAT IT READS IS OF BULK AT MOST 1048576: true; the input reads as it did. -/
def fnExactValidPointUptoRow : OpenClaim := { program := "ytojgopnjefnglaadoor", sum := "94123534688c4ca87f6d3f80d33f68a98d3e98ef3933de7f511b291e574456f0", func := "loop.example/g00857/laws.FnExactValidPoint", spec := "fnExactValidPoint", named := ["math/bits.deBruijn64tab"], apart := false, laid := [("math/bits.deBruijn64tab", laid_math_bits_deBruijn64tab)], narrowed := true }
def FnExactValidPointUptoSaid : Prop := fnExactValidPointUptoRow.holds Tryd.pinned (OpenSpec.upto fnExactValidPointSpec)

/-- 'laws.FnExactValidLine', WHERE WHAT IT READS IS OF BULK AT MOST 1048576: true; the input reads as it did. -/
def fnExactValidLineUptoRow : OpenClaim := { program := "ytojgopnjefnglaadoor", sum := "94123534688c4ca87f6d3f80d33f68a98d3e98ef3933de7f511b291e574456f0", func := "loop.example/g00857/laws.FnExactValidLine", spec := "fnExactValidLine", named := ["math/bits.deBruijn64tab"], apart := false, laid := [("math/bits.deBruijn64tab", laid_math_bits_deBruijn64tab)], narrowed := true }
def FnExactValidLineUptoSaid : Prop := fnExactValidLineUptoRow.holds Tryd.pinned (OpenSpec.upto fnExactValidLineSpec)

/-- 'laws.FnExactComparePoints', WHERE WHAT IT READS IS OF BULK AT MOST 1048576: true; the input reads as it did. -/
def fnExactComparePointsUptoRow : OpenClaim := { program := "ytojgopnjefnglaadoor", sum := "94123534688c4ca87f6d3f80d33f68a98d3e98ef3933de7f511b291e574456f0", func := "loop.example/g00857/laws.FnExactComparePoints", spec := "fnExactComparePoints", named := ["math/bits.deBruijn64tab"], apart := false, laid := [("math/bits.deBruijn64tab", laid_math_bits_deBruijn64tab)], narrowed := true }
def FnExactComparePointsUptoSaid : Prop := fnExactComparePointsUptoRow.holds Tryd.pinned (OpenSpec.upto fnExactComparePointsSpec)

/-- 'laws.FnExactDirVector', WHERE WHAT IT READS IS OF BULK AT MOST 1048576: true; the input reads as it did. -/
def fnExactDirVectorUptoRow : OpenClaim := { program := "ytojgopnjefnglaadoor", sum := "94123534688c4ca87f6d3f80d33f68a98d3e98ef3933de7f511b291e574456f0", func := "loop.example/g00857/laws.FnExactDirVector", spec := "fnExactDirVector", named := ["loop.example/g00857/impl.lineVectors", "math/bits.deBruijn64tab"], apart := false, laid := [("math/bits.deBruijn64tab", laid_math_bits_deBruijn64tab), ("loop.example/g00857/impl.lineVectors", laid_loop_example_g00857_impl_lineVectors)], narrowed := true }
def FnExactDirVectorUptoSaid : Prop := fnExactDirVectorUptoRow.holds Tryd.pinned (OpenSpec.upto fnExactDirVectorSpec)

/-- 'laws.FnExactDirectionOf', WHERE WHAT IT READS IS OF BULK AT MOST 1048576: true; the input reads as it did. -/
def fnExactDirectionOfUptoRow : OpenClaim := { program := "ytojgopnjefnglaadoor", sum := "94123534688c4ca87f6d3f80d33f68a98d3e98ef3933de7f511b291e574456f0", func := "loop.example/g00857/laws.FnExactDirectionOf", spec := "fnExactDirectionOf", named := ["math/bits.deBruijn64tab", "loop.example/g00857/impl.lineVectors"], apart := false, laid := [("math/bits.deBruijn64tab", laid_math_bits_deBruijn64tab), ("loop.example/g00857/impl.lineVectors", laid_loop_example_g00857_impl_lineVectors)], narrowed := true }
def FnExactDirectionOfUptoSaid : Prop := fnExactDirectionOfUptoRow.holds Tryd.pinned (OpenSpec.upto fnExactDirectionOfSpec)

/-- 'laws.FnExactLineAt', WHERE WHAT IT READS IS OF BULK AT MOST 1048576: true; the input reads as it did. -/
def fnExactLineAtUptoRow : OpenClaim := { program := "ytojgopnjefnglaadoor", sum := "94123534688c4ca87f6d3f80d33f68a98d3e98ef3933de7f511b291e574456f0", func := "loop.example/g00857/laws.FnExactLineAt", spec := "fnExactLineAt", named := ["math/bits.deBruijn64tab", "loop.example/g00857/impl.lineVectors"], apart := false, laid := [("math/bits.deBruijn64tab", laid_math_bits_deBruijn64tab), ("loop.example/g00857/impl.lineVectors", laid_loop_example_g00857_impl_lineVectors)], narrowed := true }
def FnExactLineAtUptoSaid : Prop := fnExactLineAtUptoRow.holds Tryd.pinned (OpenSpec.upto fnExactLineAtSpec)

/-- 'laws.FnExactLineThrough', WHERE WHAT IT READS IS OF BULK AT MOST 1048576: true; the input reads as it did. -/
def fnExactLineThroughUptoRow : OpenClaim := { program := "ytojgopnjefnglaadoor", sum := "94123534688c4ca87f6d3f80d33f68a98d3e98ef3933de7f511b291e574456f0", func := "loop.example/g00857/laws.FnExactLineThrough", spec := "fnExactLineThrough", named := ["math/bits.deBruijn64tab", "loop.example/g00857/impl.lineVectors"], apart := false, laid := [("math/bits.deBruijn64tab", laid_math_bits_deBruijn64tab), ("loop.example/g00857/impl.lineVectors", laid_loop_example_g00857_impl_lineVectors)], narrowed := true }
def FnExactLineThroughUptoSaid : Prop := fnExactLineThroughUptoRow.holds Tryd.pinned (OpenSpec.upto fnExactLineThroughSpec)

/-- 'laws.FnExactSideOf', WHERE WHAT IT READS IS OF BULK AT MOST 1048576: true; the input reads as it did. -/
def fnExactSideOfUptoRow : OpenClaim := { program := "ytojgopnjefnglaadoor", sum := "94123534688c4ca87f6d3f80d33f68a98d3e98ef3933de7f511b291e574456f0", func := "loop.example/g00857/laws.FnExactSideOf", spec := "fnExactSideOf", named := ["math/bits.deBruijn64tab", "loop.example/g00857/impl.lineVectors"], apart := false, laid := [("math/bits.deBruijn64tab", laid_math_bits_deBruijn64tab), ("loop.example/g00857/impl.lineVectors", laid_loop_example_g00857_impl_lineVectors)], narrowed := true }
def FnExactSideOfUptoSaid : Prop := fnExactSideOfUptoRow.holds Tryd.pinned (OpenSpec.upto fnExactSideOfSpec)

/-- 'laws.FnExactMeetLines', WHERE WHAT IT READS IS OF BULK AT MOST 1048576: true; the input reads as it did. -/
def fnExactMeetLinesUptoRow : OpenClaim := { program := "ytojgopnjefnglaadoor", sum := "94123534688c4ca87f6d3f80d33f68a98d3e98ef3933de7f511b291e574456f0", func := "loop.example/g00857/laws.FnExactMeetLines", spec := "fnExactMeetLines", named := ["math/bits.deBruijn64tab", "loop.example/g00857/impl.lineVectors"], apart := false, laid := [("math/bits.deBruijn64tab", laid_math_bits_deBruijn64tab), ("loop.example/g00857/impl.lineVectors", laid_loop_example_g00857_impl_lineVectors)], narrowed := true }
def FnExactMeetLinesUptoSaid : Prop := fnExactMeetLinesUptoRow.holds Tryd.pinned (OpenSpec.upto fnExactMeetLinesSpec)

/-- 'laws.FnExactReflectPoint', WHERE WHAT IT READS IS OF BULK AT MOST 1048576: true; the input reads as it did. -/
def fnExactReflectPointUptoRow : OpenClaim := { program := "ytojgopnjefnglaadoor", sum := "94123534688c4ca87f6d3f80d33f68a98d3e98ef3933de7f511b291e574456f0", func := "loop.example/g00857/laws.FnExactReflectPoint", spec := "fnExactReflectPoint", named := ["math/bits.deBruijn64tab", "loop.example/g00857/impl.lineVectors"], apart := false, laid := [("math/bits.deBruijn64tab", laid_math_bits_deBruijn64tab), ("loop.example/g00857/impl.lineVectors", laid_loop_example_g00857_impl_lineVectors)], narrowed := true }
def FnExactReflectPointUptoSaid : Prop := fnExactReflectPointUptoRow.holds Tryd.pinned (OpenSpec.upto fnExactReflectPointSpec)

/-- 'laws.FnExactReflectLine', WHERE WHAT IT READS IS OF BULK AT MOST 1048576: true; the input reads as it did. -/
def fnExactReflectLineUptoRow : OpenClaim := { program := "ytojgopnjefnglaadoor", sum := "94123534688c4ca87f6d3f80d33f68a98d3e98ef3933de7f511b291e574456f0", func := "loop.example/g00857/laws.FnExactReflectLine", spec := "fnExactReflectLine", named := ["math/bits.deBruijn64tab", "loop.example/g00857/impl.lineVectors"], apart := false, laid := [("math/bits.deBruijn64tab", laid_math_bits_deBruijn64tab), ("loop.example/g00857/impl.lineVectors", laid_loop_example_g00857_impl_lineVectors)], narrowed := true }
def FnExactReflectLineUptoSaid : Prop := fnExactReflectLineUptoRow.holds Tryd.pinned (OpenSpec.upto fnExactReflectLineSpec)

/-- 'laws.FnExactMidPoint', WHERE WHAT IT READS IS OF BULK AT MOST 1048576: true; the input reads as it did. -/
def fnExactMidPointUptoRow : OpenClaim := { program := "ytojgopnjefnglaadoor", sum := "94123534688c4ca87f6d3f80d33f68a98d3e98ef3933de7f511b291e574456f0", func := "loop.example/g00857/laws.FnExactMidPoint", spec := "fnExactMidPoint", named := ["math/bits.deBruijn64tab"], apart := false, laid := [("math/bits.deBruijn64tab", laid_math_bits_deBruijn64tab)], narrowed := true }
def FnExactMidPointUptoSaid : Prop := fnExactMidPointUptoRow.holds Tryd.pinned (OpenSpec.upto fnExactMidPointSpec)

end Rows
end Go.Proofs.YtojgopnjefnglaaDoor
