/-
  NARROWER THAN 'FOR EVERY INPUT', by the rows' own cells (each row's printed sentence says how): FnNums: laid · FnNumSigns: laid · FnDivide: laid · FnExactCodeName: laid · FnExactValidNum: laid · FnExactMakeNum: laid · FnExactAddNum: laid · FnExactSubNum: laid · FnExactMulNum: laid · FnExactDivNum: laid · FnExactSignNum: laid · FnExactCompareNum: laid · FnExactFloorNum: laid · FnExactNumText: laid · FnExactReadNum: laid.
  DERIVED. THE GIVEN ROWS OF THIS SEAT. 15 by the template 'for every input the law returns true; each argument reads behind the call as it read before'; 0 by the template 'total and deterministic' (their statements: YtffcdnokkdifdaaDoorTotals.lean).
  GIVEN WITH THE SEED: the statements are not yours to turn. If you find one false, say at which input.
  Laid BY PROGRAM, IN A SANDBOX (cutbox-rows.mjs): the forced cells as the released guide's own fill.sh prints them over the translation 0cd618c1d6cefb48… (all of the seat's roots in one cut). By AI agents, Wed Nov 11 2026. No macro, syntax, notation, axiom, sorry.
-/
import Derived.Test.YtffcdnokkdifdaaDoorChecked
import GoSem.PinnedTables
import GoSem.Claim
import GoSem.ClaimJoined
import GoSem.ClaimMapViews
import Derived.JoinedTies
import Derived.KernelRfl
namespace Go.Proofs.YtffcdnokkdifdaaDoor
/- THE CELL 'sum', in the pinned program and in every row, IS THE sha256 OF THE DUMP (.gsa) THAT YtffcdnokkdifdaaDoorProg.lean LOADS. Nothing in Lean hashes anything: it is a label: what it is worth is what the hold of that sum in a sandbox is worth. -/
noncomputable def Tryd.pinned : Pinned := { name := "ytffcdnokkdifdaadoor", sum := "0cd618c1d6cefb48ff32d87d252964f84f664f0e5d4a4bf0203f8500df4ad226", checked := Tryd.checked }
namespace Rows
def none {H : Type} : Left H := { results := [], args := [] }

/- WHAT THE LISTED PACKAGE-LEVEL VARIABLES READ AS WHEN THE CALL BEGINS. Each datum BY PROGRAM (the guide's laid-datum.mjs) off the statement by which the dump's own 'gosem.cut.vars' lays the variable. In a bare row this is a premise. The card (YtffcdnokkdifdaaDoorCards.lean) ties it to the program's text. -/
def laid_math_bits_deBruijn32tab {H : Type} : DataW H := .agg [.lit (.int .u8 0), .lit (.int .u8 1), .lit (.int .u8 28), .lit (.int .u8 2), .lit (.int .u8 29), .lit (.int .u8 14), .lit (.int .u8 24), .lit (.int .u8 3), .lit (.int .u8 30), .lit (.int .u8 22), .lit (.int .u8 20), .lit (.int .u8 15), .lit (.int .u8 25), .lit (.int .u8 17), .lit (.int .u8 4), .lit (.int .u8 8), .lit (.int .u8 31), .lit (.int .u8 27), .lit (.int .u8 13), .lit (.int .u8 23), .lit (.int .u8 21), .lit (.int .u8 19), .lit (.int .u8 16), .lit (.int .u8 7), .lit (.int .u8 26), .lit (.int .u8 12), .lit (.int .u8 18), .lit (.int .u8 6), .lit (.int .u8 11), .lit (.int .u8 5), .lit (.int .u8 10), .lit (.int .u8 9)]
def laid_math_bits_deBruijn64tab {H : Type} : DataW H := .agg [.lit (.int .u8 0), .lit (.int .u8 1), .lit (.int .u8 56), .lit (.int .u8 2), .lit (.int .u8 57), .lit (.int .u8 49), .lit (.int .u8 28), .lit (.int .u8 3), .lit (.int .u8 61), .lit (.int .u8 58), .lit (.int .u8 42), .lit (.int .u8 50), .lit (.int .u8 38), .lit (.int .u8 29), .lit (.int .u8 17), .lit (.int .u8 4), .lit (.int .u8 62), .lit (.int .u8 47), .lit (.int .u8 59), .lit (.int .u8 36), .lit (.int .u8 45), .lit (.int .u8 43), .lit (.int .u8 51), .lit (.int .u8 22), .lit (.int .u8 53), .lit (.int .u8 39), .lit (.int .u8 33), .lit (.int .u8 30), .lit (.int .u8 24), .lit (.int .u8 18), .lit (.int .u8 12), .lit (.int .u8 5), .lit (.int .u8 63), .lit (.int .u8 55), .lit (.int .u8 48), .lit (.int .u8 27), .lit (.int .u8 60), .lit (.int .u8 41), .lit (.int .u8 37), .lit (.int .u8 16), .lit (.int .u8 46), .lit (.int .u8 35), .lit (.int .u8 44), .lit (.int .u8 21), .lit (.int .u8 52), .lit (.int .u8 32), .lit (.int .u8 23), .lit (.int .u8 11), .lit (.int .u8 54), .lit (.int .u8 26), .lit (.int .u8 40), .lit (.int .u8 15), .lit (.int .u8 34), .lit (.int .u8 20), .lit (.int .u8 31), .lit (.int .u8 10), .lit (.int .u8 25), .lit (.int .u8 14), .lit (.int .u8 19), .lit (.int .u8 9), .lit (.int .u8 13), .lit (.int .u8 8), .lit (.int .u8 7), .lit (.int .u8 6)]
def laid_internal_strconv_uint64pow10 {H : Type} : DataW H := .agg [.lit (.int .u64 1), .lit (.int .u64 10), .lit (.int .u64 100), .lit (.int .u64 1000), .lit (.int .u64 10000), .lit (.int .u64 100000), .lit (.int .u64 1000000), .lit (.int .u64 10000000), .lit (.int .u64 100000000), .lit (.int .u64 1000000000), .lit (.int .u64 10000000000), .lit (.int .u64 100000000000), .lit (.int .u64 1000000000000), .lit (.int .u64 10000000000000), .lit (.int .u64 100000000000000), .lit (.int .u64 1000000000000000), .lit (.int .u64 10000000000000000), .lit (.int .u64 100000000000000000), .lit (.int .u64 1000000000000000000), .lit (.int .u64 10000000000000000000)]
def laid_unicode_utf8_acceptRanges {H : Type} : DataW H := .agg [.agg [.lit (.int .u8 128), .lit (.int .u8 191)], .agg [.lit (.int .u8 160), .lit (.int .u8 191)], .agg [.lit (.int .u8 128), .lit (.int .u8 159)], .agg [.lit (.int .u8 144), .lit (.int .u8 191)], .agg [.lit (.int .u8 128), .lit (.int .u8 143)], .agg [.lit (.int .u8 0), .lit (.int .u8 0)], .agg [.lit (.int .u8 0), .lit (.int .u8 0)], .agg [.lit (.int .u8 0), .lit (.int .u8 0)], .agg [.lit (.int .u8 0), .lit (.int .u8 0)], .agg [.lit (.int .u8 0), .lit (.int .u8 0)], .agg [.lit (.int .u8 0), .lit (.int .u8 0)], .agg [.lit (.int .u8 0), .lit (.int .u8 0)], .agg [.lit (.int .u8 0), .lit (.int .u8 0)], .agg [.lit (.int .u8 0), .lit (.int .u8 0)], .agg [.lit (.int .u8 0), .lit (.int .u8 0)], .agg [.lit (.int .u8 0), .lit (.int .u8 0)]]
def laid_strconv_ErrRange {H : Type} : DataW H := .iface "*errors.errorString" (.ptr (.agg [.lit (.string [118, 97, 108, 117, 101, 32, 111, 117, 116, 32, 111, 102, 32, 114, 97, 110, 103, 101])]))
def laid_strconv_ErrSyntax {H : Type} : DataW H := .iface "*errors.errorString" (.ptr (.agg [.lit (.string [105, 110, 118, 97, 108, 105, 100, 32, 115, 121, 110, 116, 97, 120])]))
/-- One of Go's own tables, pinned by name: the form's constant. -/
def laid_unicode_utf8_first : DataW Unit := Go.Pinned.utf8First
def laid_loop_example_g00857_impl_codeNames {H : Type} : DataW H := .agg [.lit (.string [111, 107]), .lit (.string [105, 110, 118, 97, 108, 105, 100]), .lit (.string [114, 97, 110, 103, 101]), .lit (.string [110, 111, 116, 45, 102, 111, 117, 110, 100]), .lit (.string [101, 120, 105, 115, 116, 115]), .lit (.string [102, 117, 108, 108]), .lit (.string [115, 116, 97, 116, 101]), .lit (.string [103, 101, 111, 109, 101, 116, 114, 121]), .lit (.string [110, 111, 116, 45, 102, 108, 97, 116]), .lit (.string [98, 108, 111, 99, 107, 101, 100]), .lit (.string [98, 117, 100, 103, 101, 116]), .lit (.string [115, 121, 110, 116, 97, 120]), .lit (.string [111, 114, 100, 101, 114])]

/-- 'laws.FnNums': WHATEVER THE INPUT: true; the input reads as it did. -/
def fnNumsSpec : ChangeSpec := { name := "fnNums", fn := fun _ => fun
  | [d] => { results := [.lit (.bool true)], args := [d] }
  | _ => none }
def fnNumsRow : OpenClaim := { program := "ytffcdnokkdifdaadoor", sum := "0cd618c1d6cefb48ff32d87d252964f84f664f0e5d4a4bf0203f8500df4ad226", func := "loop.example/g00857/laws.FnNums", spec := "fnNums", inPlace := ["internal/bytealg.IndexByteString", "internal/bytealg.IndexString"], named := ["math/bits.deBruijn64tab", "internal/strconv.uint64pow10", "math/bits.deBruijn32tab", "internal/bytealg.MaxLen", "strconv.ErrSyntax", "strconv.ErrRange", "unicode/utf8.first", "unicode/utf8.acceptRanges"], apart := false, laid := [("math/bits.deBruijn32tab", laid_math_bits_deBruijn32tab), ("math/bits.deBruijn64tab", laid_math_bits_deBruijn64tab), ("internal/strconv.uint64pow10", laid_internal_strconv_uint64pow10), ("unicode/utf8.acceptRanges", laid_unicode_utf8_acceptRanges), ("strconv.ErrRange", laid_strconv_ErrRange), ("strconv.ErrSyntax", laid_strconv_ErrSyntax), ("unicode/utf8.first", laid_unicode_utf8_first)] }
def FnNumsSaid : Prop := fnNumsRow.holds Tryd.pinned (OpenSpec.ofChange fnNumsSpec)

/-- ITS FALSE NEIGHBOUR: 'it returns false'. Refute it at one input. -/
def fnNumsWrong : ChangeSpec := { name := "fnNums", fn := fun _ => fun
  | [d] => { results := [.lit (.bool false)], args := [d] }
  | _ => none }
def FnNumsWrongFalsely : Prop := fnNumsRow.holds Tryd.pinned (OpenSpec.ofChange fnNumsWrong)

/-- 'laws.FnNumSigns': WHATEVER THE INPUT: true; the input reads as it did. -/
def fnNumSignsSpec : ChangeSpec := { name := "fnNumSigns", fn := fun _ => fun
  | [d] => { results := [.lit (.bool true)], args := [d] }
  | _ => none }
def fnNumSignsRow : OpenClaim := { program := "ytffcdnokkdifdaadoor", sum := "0cd618c1d6cefb48ff32d87d252964f84f664f0e5d4a4bf0203f8500df4ad226", func := "loop.example/g00857/laws.FnNumSigns", spec := "fnNumSigns", named := ["math/bits.deBruijn64tab"], apart := false, laid := [("math/bits.deBruijn64tab", laid_math_bits_deBruijn64tab)] }
def FnNumSignsSaid : Prop := fnNumSignsRow.holds Tryd.pinned (OpenSpec.ofChange fnNumSignsSpec)

/-- ITS FALSE NEIGHBOUR: 'it returns false'. Refute it at one input. -/
def fnNumSignsWrong : ChangeSpec := { name := "fnNumSigns", fn := fun _ => fun
  | [d] => { results := [.lit (.bool false)], args := [d] }
  | _ => none }
def FnNumSignsWrongFalsely : Prop := fnNumSignsRow.holds Tryd.pinned (OpenSpec.ofChange fnNumSignsWrong)

/-- 'laws.FnDivide': WHATEVER THE INPUT: true; the input reads as it did. -/
def fnDivideSpec : ChangeSpec := { name := "fnDivide", fn := fun _ => fun
  | [d] => { results := [.lit (.bool true)], args := [d] }
  | _ => none }
def fnDivideRow : OpenClaim := { program := "ytffcdnokkdifdaadoor", sum := "0cd618c1d6cefb48ff32d87d252964f84f664f0e5d4a4bf0203f8500df4ad226", func := "loop.example/g00857/laws.FnDivide", spec := "fnDivide", named := ["math/bits.deBruijn64tab"], apart := false, laid := [("math/bits.deBruijn64tab", laid_math_bits_deBruijn64tab)] }
def FnDivideSaid : Prop := fnDivideRow.holds Tryd.pinned (OpenSpec.ofChange fnDivideSpec)

/-- ITS FALSE NEIGHBOUR: 'it returns false'. Refute it at one input. -/
def fnDivideWrong : ChangeSpec := { name := "fnDivide", fn := fun _ => fun
  | [d] => { results := [.lit (.bool false)], args := [d] }
  | _ => none }
def FnDivideWrongFalsely : Prop := fnDivideRow.holds Tryd.pinned (OpenSpec.ofChange fnDivideWrong)

/-- 'laws.FnExactCodeName': WHATEVER THE INPUT: true; the input reads as it did. -/
def fnExactCodeNameSpec : ChangeSpec := { name := "fnExactCodeName", vars := ["loop.example/g00857/impl.codeNames"], fn := fun _ => fun
  | [d, g1] => { results := [.lit (.bool true)], args := [d], vars := [g1] }
  | _ => none }
def fnExactCodeNameRow : OpenClaim := { program := "ytffcdnokkdifdaadoor", sum := "0cd618c1d6cefb48ff32d87d252964f84f664f0e5d4a4bf0203f8500df4ad226", func := "loop.example/g00857/laws.FnExactCodeName", spec := "fnExactCodeName", named := ["loop.example/g00857/impl.codeNames"], apart := false, laid := [("loop.example/g00857/impl.codeNames", laid_loop_example_g00857_impl_codeNames)] }
def FnExactCodeNameSaid : Prop := fnExactCodeNameRow.holds Tryd.pinned (OpenSpec.ofChange fnExactCodeNameSpec)

/-- ITS FALSE NEIGHBOUR: 'it returns false'. Refute it at one input. -/
def fnExactCodeNameWrong : ChangeSpec := { name := "fnExactCodeName", vars := ["loop.example/g00857/impl.codeNames"], fn := fun _ => fun
  | [d, g1] => { results := [.lit (.bool false)], args := [d], vars := [g1] }
  | _ => none }
def FnExactCodeNameWrongFalsely : Prop := fnExactCodeNameRow.holds Tryd.pinned (OpenSpec.ofChange fnExactCodeNameWrong)

/-- 'laws.FnExactValidNum': WHATEVER THE INPUT: true; the input reads as it did. -/
def fnExactValidNumSpec : ChangeSpec := { name := "fnExactValidNum", fn := fun _ => fun
  | [d] => { results := [.lit (.bool true)], args := [d] }
  | _ => none }
def fnExactValidNumRow : OpenClaim := { program := "ytffcdnokkdifdaadoor", sum := "0cd618c1d6cefb48ff32d87d252964f84f664f0e5d4a4bf0203f8500df4ad226", func := "loop.example/g00857/laws.FnExactValidNum", spec := "fnExactValidNum", named := ["math/bits.deBruijn64tab"], apart := false, laid := [("math/bits.deBruijn64tab", laid_math_bits_deBruijn64tab)] }
def FnExactValidNumSaid : Prop := fnExactValidNumRow.holds Tryd.pinned (OpenSpec.ofChange fnExactValidNumSpec)

/-- ITS FALSE NEIGHBOUR: 'it returns false'. Refute it at one input. -/
def fnExactValidNumWrong : ChangeSpec := { name := "fnExactValidNum", fn := fun _ => fun
  | [d] => { results := [.lit (.bool false)], args := [d] }
  | _ => none }
def FnExactValidNumWrongFalsely : Prop := fnExactValidNumRow.holds Tryd.pinned (OpenSpec.ofChange fnExactValidNumWrong)

/-- 'laws.FnExactMakeNum': WHATEVER THE INPUT: true; the input reads as it did. -/
def fnExactMakeNumSpec : ChangeSpec := { name := "fnExactMakeNum", fn := fun _ => fun
  | [d1, d2, d3] => { results := [.lit (.bool true)], args := [d1, d2, d3] }
  | _ => none }
def fnExactMakeNumRow : OpenClaim := { program := "ytffcdnokkdifdaadoor", sum := "0cd618c1d6cefb48ff32d87d252964f84f664f0e5d4a4bf0203f8500df4ad226", func := "loop.example/g00857/laws.FnExactMakeNum", spec := "fnExactMakeNum", named := ["math/bits.deBruijn64tab"], apart := false, laid := [("math/bits.deBruijn64tab", laid_math_bits_deBruijn64tab)] }
def FnExactMakeNumSaid : Prop := fnExactMakeNumRow.holds Tryd.pinned (OpenSpec.ofChange fnExactMakeNumSpec)

/-- ITS FALSE NEIGHBOUR: 'it returns false'. Refute it at one input. -/
def fnExactMakeNumWrong : ChangeSpec := { name := "fnExactMakeNum", fn := fun _ => fun
  | [d1, d2, d3] => { results := [.lit (.bool false)], args := [d1, d2, d3] }
  | _ => none }
def FnExactMakeNumWrongFalsely : Prop := fnExactMakeNumRow.holds Tryd.pinned (OpenSpec.ofChange fnExactMakeNumWrong)

/-- 'laws.FnExactAddNum': WHATEVER THE INPUT: true; the input reads as it did. -/
def fnExactAddNumSpec : ChangeSpec := { name := "fnExactAddNum", fn := fun _ => fun
  | [d1, d2] => { results := [.lit (.bool true)], args := [d1, d2] }
  | _ => none }
def fnExactAddNumRow : OpenClaim := { program := "ytffcdnokkdifdaadoor", sum := "0cd618c1d6cefb48ff32d87d252964f84f664f0e5d4a4bf0203f8500df4ad226", func := "loop.example/g00857/laws.FnExactAddNum", spec := "fnExactAddNum", named := ["math/bits.deBruijn64tab"], apart := false, laid := [("math/bits.deBruijn64tab", laid_math_bits_deBruijn64tab)] }
def FnExactAddNumSaid : Prop := fnExactAddNumRow.holds Tryd.pinned (OpenSpec.ofChange fnExactAddNumSpec)

/-- ITS FALSE NEIGHBOUR: 'it returns false'. Refute it at one input. -/
def fnExactAddNumWrong : ChangeSpec := { name := "fnExactAddNum", fn := fun _ => fun
  | [d1, d2] => { results := [.lit (.bool false)], args := [d1, d2] }
  | _ => none }
def FnExactAddNumWrongFalsely : Prop := fnExactAddNumRow.holds Tryd.pinned (OpenSpec.ofChange fnExactAddNumWrong)

/-- 'laws.FnExactSubNum': WHATEVER THE INPUT: true; the input reads as it did. -/
def fnExactSubNumSpec : ChangeSpec := { name := "fnExactSubNum", fn := fun _ => fun
  | [d1, d2] => { results := [.lit (.bool true)], args := [d1, d2] }
  | _ => none }
def fnExactSubNumRow : OpenClaim := { program := "ytffcdnokkdifdaadoor", sum := "0cd618c1d6cefb48ff32d87d252964f84f664f0e5d4a4bf0203f8500df4ad226", func := "loop.example/g00857/laws.FnExactSubNum", spec := "fnExactSubNum", named := ["math/bits.deBruijn64tab"], apart := false, laid := [("math/bits.deBruijn64tab", laid_math_bits_deBruijn64tab)] }
def FnExactSubNumSaid : Prop := fnExactSubNumRow.holds Tryd.pinned (OpenSpec.ofChange fnExactSubNumSpec)

/-- ITS FALSE NEIGHBOUR: 'it returns false'. Refute it at one input. -/
def fnExactSubNumWrong : ChangeSpec := { name := "fnExactSubNum", fn := fun _ => fun
  | [d1, d2] => { results := [.lit (.bool false)], args := [d1, d2] }
  | _ => none }
def FnExactSubNumWrongFalsely : Prop := fnExactSubNumRow.holds Tryd.pinned (OpenSpec.ofChange fnExactSubNumWrong)

/-- 'laws.FnExactMulNum': WHATEVER THE INPUT: true; the input reads as it did. -/
def fnExactMulNumSpec : ChangeSpec := { name := "fnExactMulNum", fn := fun _ => fun
  | [d1, d2] => { results := [.lit (.bool true)], args := [d1, d2] }
  | _ => none }
def fnExactMulNumRow : OpenClaim := { program := "ytffcdnokkdifdaadoor", sum := "0cd618c1d6cefb48ff32d87d252964f84f664f0e5d4a4bf0203f8500df4ad226", func := "loop.example/g00857/laws.FnExactMulNum", spec := "fnExactMulNum", named := ["math/bits.deBruijn64tab"], apart := false, laid := [("math/bits.deBruijn64tab", laid_math_bits_deBruijn64tab)] }
def FnExactMulNumSaid : Prop := fnExactMulNumRow.holds Tryd.pinned (OpenSpec.ofChange fnExactMulNumSpec)

/-- ITS FALSE NEIGHBOUR: 'it returns false'. Refute it at one input. -/
def fnExactMulNumWrong : ChangeSpec := { name := "fnExactMulNum", fn := fun _ => fun
  | [d1, d2] => { results := [.lit (.bool false)], args := [d1, d2] }
  | _ => none }
def FnExactMulNumWrongFalsely : Prop := fnExactMulNumRow.holds Tryd.pinned (OpenSpec.ofChange fnExactMulNumWrong)

/-- 'laws.FnExactDivNum': WHATEVER THE INPUT: true; the input reads as it did. -/
def fnExactDivNumSpec : ChangeSpec := { name := "fnExactDivNum", fn := fun _ => fun
  | [d1, d2] => { results := [.lit (.bool true)], args := [d1, d2] }
  | _ => none }
def fnExactDivNumRow : OpenClaim := { program := "ytffcdnokkdifdaadoor", sum := "0cd618c1d6cefb48ff32d87d252964f84f664f0e5d4a4bf0203f8500df4ad226", func := "loop.example/g00857/laws.FnExactDivNum", spec := "fnExactDivNum", named := ["math/bits.deBruijn64tab"], apart := false, laid := [("math/bits.deBruijn64tab", laid_math_bits_deBruijn64tab)] }
def FnExactDivNumSaid : Prop := fnExactDivNumRow.holds Tryd.pinned (OpenSpec.ofChange fnExactDivNumSpec)

/-- ITS FALSE NEIGHBOUR: 'it returns false'. Refute it at one input. -/
def fnExactDivNumWrong : ChangeSpec := { name := "fnExactDivNum", fn := fun _ => fun
  | [d1, d2] => { results := [.lit (.bool false)], args := [d1, d2] }
  | _ => none }
def FnExactDivNumWrongFalsely : Prop := fnExactDivNumRow.holds Tryd.pinned (OpenSpec.ofChange fnExactDivNumWrong)

/-- 'laws.FnExactSignNum': WHATEVER THE INPUT: true; the input reads as it did. -/
def fnExactSignNumSpec : ChangeSpec := { name := "fnExactSignNum", fn := fun _ => fun
  | [d] => { results := [.lit (.bool true)], args := [d] }
  | _ => none }
def fnExactSignNumRow : OpenClaim := { program := "ytffcdnokkdifdaadoor", sum := "0cd618c1d6cefb48ff32d87d252964f84f664f0e5d4a4bf0203f8500df4ad226", func := "loop.example/g00857/laws.FnExactSignNum", spec := "fnExactSignNum", named := ["math/bits.deBruijn64tab"], apart := false, laid := [("math/bits.deBruijn64tab", laid_math_bits_deBruijn64tab)] }
def FnExactSignNumSaid : Prop := fnExactSignNumRow.holds Tryd.pinned (OpenSpec.ofChange fnExactSignNumSpec)

/-- ITS FALSE NEIGHBOUR: 'it returns false'. Refute it at one input. -/
def fnExactSignNumWrong : ChangeSpec := { name := "fnExactSignNum", fn := fun _ => fun
  | [d] => { results := [.lit (.bool false)], args := [d] }
  | _ => none }
def FnExactSignNumWrongFalsely : Prop := fnExactSignNumRow.holds Tryd.pinned (OpenSpec.ofChange fnExactSignNumWrong)

/-- 'laws.FnExactCompareNum': WHATEVER THE INPUT: true; the input reads as it did. -/
def fnExactCompareNumSpec : ChangeSpec := { name := "fnExactCompareNum", fn := fun _ => fun
  | [d1, d2] => { results := [.lit (.bool true)], args := [d1, d2] }
  | _ => none }
def fnExactCompareNumRow : OpenClaim := { program := "ytffcdnokkdifdaadoor", sum := "0cd618c1d6cefb48ff32d87d252964f84f664f0e5d4a4bf0203f8500df4ad226", func := "loop.example/g00857/laws.FnExactCompareNum", spec := "fnExactCompareNum", named := ["math/bits.deBruijn64tab"], apart := false, laid := [("math/bits.deBruijn64tab", laid_math_bits_deBruijn64tab)] }
def FnExactCompareNumSaid : Prop := fnExactCompareNumRow.holds Tryd.pinned (OpenSpec.ofChange fnExactCompareNumSpec)

/-- ITS FALSE NEIGHBOUR: 'it returns false'. Refute it at one input. -/
def fnExactCompareNumWrong : ChangeSpec := { name := "fnExactCompareNum", fn := fun _ => fun
  | [d1, d2] => { results := [.lit (.bool false)], args := [d1, d2] }
  | _ => none }
def FnExactCompareNumWrongFalsely : Prop := fnExactCompareNumRow.holds Tryd.pinned (OpenSpec.ofChange fnExactCompareNumWrong)

/-- 'laws.FnExactFloorNum': WHATEVER THE INPUT: true; the input reads as it did. -/
def fnExactFloorNumSpec : ChangeSpec := { name := "fnExactFloorNum", fn := fun _ => fun
  | [d] => { results := [.lit (.bool true)], args := [d] }
  | _ => none }
def fnExactFloorNumRow : OpenClaim := { program := "ytffcdnokkdifdaadoor", sum := "0cd618c1d6cefb48ff32d87d252964f84f664f0e5d4a4bf0203f8500df4ad226", func := "loop.example/g00857/laws.FnExactFloorNum", spec := "fnExactFloorNum", named := ["math/bits.deBruijn64tab"], apart := false, laid := [("math/bits.deBruijn64tab", laid_math_bits_deBruijn64tab)] }
def FnExactFloorNumSaid : Prop := fnExactFloorNumRow.holds Tryd.pinned (OpenSpec.ofChange fnExactFloorNumSpec)

/-- ITS FALSE NEIGHBOUR: 'it returns false'. Refute it at one input. -/
def fnExactFloorNumWrong : ChangeSpec := { name := "fnExactFloorNum", fn := fun _ => fun
  | [d] => { results := [.lit (.bool false)], args := [d] }
  | _ => none }
def FnExactFloorNumWrongFalsely : Prop := fnExactFloorNumRow.holds Tryd.pinned (OpenSpec.ofChange fnExactFloorNumWrong)

/-- 'laws.FnExactNumText': WHATEVER THE INPUT: true; the input reads as it did. -/
def fnExactNumTextSpec : ChangeSpec := { name := "fnExactNumText", fn := fun _ => fun
  | [d] => { results := [.lit (.bool true)], args := [d] }
  | _ => none }
def fnExactNumTextRow : OpenClaim := { program := "ytffcdnokkdifdaadoor", sum := "0cd618c1d6cefb48ff32d87d252964f84f664f0e5d4a4bf0203f8500df4ad226", func := "loop.example/g00857/laws.FnExactNumText", spec := "fnExactNumText", recurses := true, named := ["math/bits.deBruijn64tab", "internal/strconv.uint64pow10", "math/bits.deBruijn32tab"], apart := false, laid := [("math/bits.deBruijn32tab", laid_math_bits_deBruijn32tab), ("math/bits.deBruijn64tab", laid_math_bits_deBruijn64tab), ("internal/strconv.uint64pow10", laid_internal_strconv_uint64pow10)] }
def FnExactNumTextSaid : Prop := fnExactNumTextRow.holds Tryd.pinned (OpenSpec.ofChange fnExactNumTextSpec)

/-- ITS FALSE NEIGHBOUR: 'it returns false'. Refute it at one input. -/
def fnExactNumTextWrong : ChangeSpec := { name := "fnExactNumText", fn := fun _ => fun
  | [d] => { results := [.lit (.bool false)], args := [d] }
  | _ => none }
def FnExactNumTextWrongFalsely : Prop := fnExactNumTextRow.holds Tryd.pinned (OpenSpec.ofChange fnExactNumTextWrong)

/-- 'laws.FnExactReadNum': WHATEVER THE INPUT: true; the input reads as it did. -/
def fnExactReadNumSpec : ChangeSpec := { name := "fnExactReadNum", fn := fun _ => fun
  | [d] => { results := [.lit (.bool true)], args := [d] }
  | _ => none }
def fnExactReadNumRow : OpenClaim := { program := "ytffcdnokkdifdaadoor", sum := "0cd618c1d6cefb48ff32d87d252964f84f664f0e5d4a4bf0203f8500df4ad226", func := "loop.example/g00857/laws.FnExactReadNum", spec := "fnExactReadNum", inPlace := ["internal/bytealg.IndexByteString", "internal/bytealg.IndexString"], recurses := true, named := ["internal/bytealg.MaxLen", "strconv.ErrSyntax", "strconv.ErrRange", "internal/strconv.uint64pow10", "math/bits.deBruijn32tab", "math/bits.deBruijn64tab", "unicode/utf8.first", "unicode/utf8.acceptRanges"], apart := false, laid := [("math/bits.deBruijn32tab", laid_math_bits_deBruijn32tab), ("math/bits.deBruijn64tab", laid_math_bits_deBruijn64tab), ("internal/strconv.uint64pow10", laid_internal_strconv_uint64pow10), ("unicode/utf8.acceptRanges", laid_unicode_utf8_acceptRanges), ("strconv.ErrRange", laid_strconv_ErrRange), ("strconv.ErrSyntax", laid_strconv_ErrSyntax), ("unicode/utf8.first", laid_unicode_utf8_first)] }
def FnExactReadNumSaid : Prop := fnExactReadNumRow.holds Tryd.pinned (OpenSpec.ofChange fnExactReadNumSpec)

/-- ITS FALSE NEIGHBOUR: 'it returns false'. Refute it at one input. -/
def fnExactReadNumWrong : ChangeSpec := { name := "fnExactReadNum", fn := fun _ => fun
  | [d] => { results := [.lit (.bool false)], args := [d] }
  | _ => none }
def FnExactReadNumWrongFalsely : Prop := fnExactReadNumRow.holds Tryd.pinned (OpenSpec.ofChange fnExactReadNumWrong)

/- THE SECOND FORM. 'bulk': how many values and letters a reading holds, each counted each time it is reached (what is shared counts as often as it is met; a slice's spare places count too). A statement '..UptoSaid' is the law's where the arguments, and the package variables that the reading takes, are together of bulk at most 1048576: NARROWER than '..Said'. Prove '..Said' where nothing that the law and all that it calls make is longer than what came in: it says more and counts as full. Else prove '..UptoSaid'. A law counts once. -/
mutual
def uptoBulk {H : Type} : DataW H → Nat
  | .lit (.string bytes) => bytes.length + 1
  | .lit _ => 1
  | .nil => 1
  | .ptr d => uptoBulk d + 1
  | .slice elems spare => uptoBulkAll elems + uptoBulkAll spare + 1
  | .agg parts => uptoBulkAll parts + 1
  | .iface _ d => uptoBulk d + 1
  | .map entries => uptoBulkEntries entries + 1
  | .held _ => 1
def uptoBulkAll {H : Type} : List (DataW H) → Nat
  | [] => 0
  | d :: r => uptoBulk d + uptoBulkAll r
def uptoBulkEntries {H : Type} : List (Lit × DataW H) → Nat
  | [] => 0
  | x :: r => uptoBulkEntry x + uptoBulkEntries r
def uptoBulkEntry {H : Type} : Lit × DataW H → Nat
  | (.string bytes, d) => bytes.length + uptoBulk d + 1
  | (_, d) => uptoBulk d + 1
 end
def uptoSmall : (H : Type) → List (DataW H) → Bool := fun _ ds => decide (uptoBulkAll ds ≤ 1048576)
def OpenSpec.upto (s : _root_.Go.ChangeSpec) : _root_.Go.OpenSpec := { _root_.Go.OpenSpec.ofChange s with cond := some uptoSmall }

/-- 'laws.FnNums', WHERE WHAT IT READS IS OF BULK AT MOST 1048576: true; the input reads as it did. -/
def fnNumsUptoRow : OpenClaim := { program := "ytffcdnokkdifdaadoor", sum := "0cd618c1d6cefb48ff32d87d252964f84f664f0e5d4a4bf0203f8500df4ad226", func := "loop.example/g00857/laws.FnNums", spec := "fnNums", inPlace := ["internal/bytealg.IndexByteString", "internal/bytealg.IndexString"], named := ["math/bits.deBruijn64tab", "internal/strconv.uint64pow10", "math/bits.deBruijn32tab", "internal/bytealg.MaxLen", "strconv.ErrSyntax", "strconv.ErrRange", "unicode/utf8.first", "unicode/utf8.acceptRanges"], apart := false, laid := [("math/bits.deBruijn32tab", laid_math_bits_deBruijn32tab), ("math/bits.deBruijn64tab", laid_math_bits_deBruijn64tab), ("internal/strconv.uint64pow10", laid_internal_strconv_uint64pow10), ("unicode/utf8.acceptRanges", laid_unicode_utf8_acceptRanges), ("strconv.ErrRange", laid_strconv_ErrRange), ("strconv.ErrSyntax", laid_strconv_ErrSyntax), ("unicode/utf8.first", laid_unicode_utf8_first)], narrowed := true }
def FnNumsUptoSaid : Prop := fnNumsUptoRow.holds Tryd.pinned (OpenSpec.upto fnNumsSpec)

/-- 'laws.FnNumSigns', WHERE WHAT IT READS IS OF BULK AT MOST 1048576: true; the input reads as it did. -/
def fnNumSignsUptoRow : OpenClaim := { program := "ytffcdnokkdifdaadoor", sum := "0cd618c1d6cefb48ff32d87d252964f84f664f0e5d4a4bf0203f8500df4ad226", func := "loop.example/g00857/laws.FnNumSigns", spec := "fnNumSigns", named := ["math/bits.deBruijn64tab"], apart := false, laid := [("math/bits.deBruijn64tab", laid_math_bits_deBruijn64tab)], narrowed := true }
def FnNumSignsUptoSaid : Prop := fnNumSignsUptoRow.holds Tryd.pinned (OpenSpec.upto fnNumSignsSpec)

/-- 'laws.FnDivide', WHERE WHAT IT READS IS OF BULK AT MOST 1048576: true; the input reads as it did. -/
def fnDivideUptoRow : OpenClaim := { program := "ytffcdnokkdifdaadoor", sum := "0cd618c1d6cefb48ff32d87d252964f84f664f0e5d4a4bf0203f8500df4ad226", func := "loop.example/g00857/laws.FnDivide", spec := "fnDivide", named := ["math/bits.deBruijn64tab"], apart := false, laid := [("math/bits.deBruijn64tab", laid_math_bits_deBruijn64tab)], narrowed := true }
def FnDivideUptoSaid : Prop := fnDivideUptoRow.holds Tryd.pinned (OpenSpec.upto fnDivideSpec)

/-- 'laws.FnExactCodeName', WHERE WHAT IT READS IS OF BULK AT MOST 1048576: true; the input reads as it did. -/
def fnExactCodeNameUptoRow : OpenClaim := { program := "ytffcdnokkdifdaadoor", sum := "0cd618c1d6cefb48ff32d87d252964f84f664f0e5d4a4bf0203f8500df4ad226", func := "loop.example/g00857/laws.FnExactCodeName", spec := "fnExactCodeName", named := ["loop.example/g00857/impl.codeNames"], apart := false, laid := [("loop.example/g00857/impl.codeNames", laid_loop_example_g00857_impl_codeNames)], narrowed := true }
def FnExactCodeNameUptoSaid : Prop := fnExactCodeNameUptoRow.holds Tryd.pinned (OpenSpec.upto fnExactCodeNameSpec)

/-- 'laws.FnExactValidNum', WHERE WHAT IT READS IS OF BULK AT MOST 1048576: true; the input reads as it did. -/
def fnExactValidNumUptoRow : OpenClaim := { program := "ytffcdnokkdifdaadoor", sum := "0cd618c1d6cefb48ff32d87d252964f84f664f0e5d4a4bf0203f8500df4ad226", func := "loop.example/g00857/laws.FnExactValidNum", spec := "fnExactValidNum", named := ["math/bits.deBruijn64tab"], apart := false, laid := [("math/bits.deBruijn64tab", laid_math_bits_deBruijn64tab)], narrowed := true }
def FnExactValidNumUptoSaid : Prop := fnExactValidNumUptoRow.holds Tryd.pinned (OpenSpec.upto fnExactValidNumSpec)

/-- 'laws.FnExactMakeNum', WHERE WHAT IT READS IS OF BULK AT MOST 1048576: true; the input reads as it did. -/
def fnExactMakeNumUptoRow : OpenClaim := { program := "ytffcdnokkdifdaadoor", sum := "0cd618c1d6cefb48ff32d87d252964f84f664f0e5d4a4bf0203f8500df4ad226", func := "loop.example/g00857/laws.FnExactMakeNum", spec := "fnExactMakeNum", named := ["math/bits.deBruijn64tab"], apart := false, laid := [("math/bits.deBruijn64tab", laid_math_bits_deBruijn64tab)], narrowed := true }
def FnExactMakeNumUptoSaid : Prop := fnExactMakeNumUptoRow.holds Tryd.pinned (OpenSpec.upto fnExactMakeNumSpec)

/-- 'laws.FnExactAddNum', WHERE WHAT IT READS IS OF BULK AT MOST 1048576: true; the input reads as it did. -/
def fnExactAddNumUptoRow : OpenClaim := { program := "ytffcdnokkdifdaadoor", sum := "0cd618c1d6cefb48ff32d87d252964f84f664f0e5d4a4bf0203f8500df4ad226", func := "loop.example/g00857/laws.FnExactAddNum", spec := "fnExactAddNum", named := ["math/bits.deBruijn64tab"], apart := false, laid := [("math/bits.deBruijn64tab", laid_math_bits_deBruijn64tab)], narrowed := true }
def FnExactAddNumUptoSaid : Prop := fnExactAddNumUptoRow.holds Tryd.pinned (OpenSpec.upto fnExactAddNumSpec)

/-- 'laws.FnExactSubNum', WHERE WHAT IT READS IS OF BULK AT MOST 1048576: true; the input reads as it did. -/
def fnExactSubNumUptoRow : OpenClaim := { program := "ytffcdnokkdifdaadoor", sum := "0cd618c1d6cefb48ff32d87d252964f84f664f0e5d4a4bf0203f8500df4ad226", func := "loop.example/g00857/laws.FnExactSubNum", spec := "fnExactSubNum", named := ["math/bits.deBruijn64tab"], apart := false, laid := [("math/bits.deBruijn64tab", laid_math_bits_deBruijn64tab)], narrowed := true }
def FnExactSubNumUptoSaid : Prop := fnExactSubNumUptoRow.holds Tryd.pinned (OpenSpec.upto fnExactSubNumSpec)

/-- 'laws.FnExactMulNum', WHERE WHAT IT READS IS OF BULK AT MOST 1048576: true; the input reads as it did. -/
def fnExactMulNumUptoRow : OpenClaim := { program := "ytffcdnokkdifdaadoor", sum := "0cd618c1d6cefb48ff32d87d252964f84f664f0e5d4a4bf0203f8500df4ad226", func := "loop.example/g00857/laws.FnExactMulNum", spec := "fnExactMulNum", named := ["math/bits.deBruijn64tab"], apart := false, laid := [("math/bits.deBruijn64tab", laid_math_bits_deBruijn64tab)], narrowed := true }
def FnExactMulNumUptoSaid : Prop := fnExactMulNumUptoRow.holds Tryd.pinned (OpenSpec.upto fnExactMulNumSpec)

/-- 'laws.FnExactDivNum', WHERE WHAT IT READS IS OF BULK AT MOST 1048576: true; the input reads as it did. -/
def fnExactDivNumUptoRow : OpenClaim := { program := "ytffcdnokkdifdaadoor", sum := "0cd618c1d6cefb48ff32d87d252964f84f664f0e5d4a4bf0203f8500df4ad226", func := "loop.example/g00857/laws.FnExactDivNum", spec := "fnExactDivNum", named := ["math/bits.deBruijn64tab"], apart := false, laid := [("math/bits.deBruijn64tab", laid_math_bits_deBruijn64tab)], narrowed := true }
def FnExactDivNumUptoSaid : Prop := fnExactDivNumUptoRow.holds Tryd.pinned (OpenSpec.upto fnExactDivNumSpec)

/-- 'laws.FnExactSignNum', WHERE WHAT IT READS IS OF BULK AT MOST 1048576: true; the input reads as it did. -/
def fnExactSignNumUptoRow : OpenClaim := { program := "ytffcdnokkdifdaadoor", sum := "0cd618c1d6cefb48ff32d87d252964f84f664f0e5d4a4bf0203f8500df4ad226", func := "loop.example/g00857/laws.FnExactSignNum", spec := "fnExactSignNum", named := ["math/bits.deBruijn64tab"], apart := false, laid := [("math/bits.deBruijn64tab", laid_math_bits_deBruijn64tab)], narrowed := true }
def FnExactSignNumUptoSaid : Prop := fnExactSignNumUptoRow.holds Tryd.pinned (OpenSpec.upto fnExactSignNumSpec)

/-- 'laws.FnExactCompareNum', WHERE WHAT IT READS IS OF BULK AT MOST 1048576: true; the input reads as it did. -/
def fnExactCompareNumUptoRow : OpenClaim := { program := "ytffcdnokkdifdaadoor", sum := "0cd618c1d6cefb48ff32d87d252964f84f664f0e5d4a4bf0203f8500df4ad226", func := "loop.example/g00857/laws.FnExactCompareNum", spec := "fnExactCompareNum", named := ["math/bits.deBruijn64tab"], apart := false, laid := [("math/bits.deBruijn64tab", laid_math_bits_deBruijn64tab)], narrowed := true }
def FnExactCompareNumUptoSaid : Prop := fnExactCompareNumUptoRow.holds Tryd.pinned (OpenSpec.upto fnExactCompareNumSpec)

/-- 'laws.FnExactFloorNum', WHERE WHAT IT READS IS OF BULK AT MOST 1048576: true; the input reads as it did. -/
def fnExactFloorNumUptoRow : OpenClaim := { program := "ytffcdnokkdifdaadoor", sum := "0cd618c1d6cefb48ff32d87d252964f84f664f0e5d4a4bf0203f8500df4ad226", func := "loop.example/g00857/laws.FnExactFloorNum", spec := "fnExactFloorNum", named := ["math/bits.deBruijn64tab"], apart := false, laid := [("math/bits.deBruijn64tab", laid_math_bits_deBruijn64tab)], narrowed := true }
def FnExactFloorNumUptoSaid : Prop := fnExactFloorNumUptoRow.holds Tryd.pinned (OpenSpec.upto fnExactFloorNumSpec)

/-- 'laws.FnExactNumText', WHERE WHAT IT READS IS OF BULK AT MOST 1048576: true; the input reads as it did. -/
def fnExactNumTextUptoRow : OpenClaim := { program := "ytffcdnokkdifdaadoor", sum := "0cd618c1d6cefb48ff32d87d252964f84f664f0e5d4a4bf0203f8500df4ad226", func := "loop.example/g00857/laws.FnExactNumText", spec := "fnExactNumText", recurses := true, named := ["math/bits.deBruijn64tab", "internal/strconv.uint64pow10", "math/bits.deBruijn32tab"], apart := false, laid := [("math/bits.deBruijn32tab", laid_math_bits_deBruijn32tab), ("math/bits.deBruijn64tab", laid_math_bits_deBruijn64tab), ("internal/strconv.uint64pow10", laid_internal_strconv_uint64pow10)], narrowed := true }
def FnExactNumTextUptoSaid : Prop := fnExactNumTextUptoRow.holds Tryd.pinned (OpenSpec.upto fnExactNumTextSpec)

/-- 'laws.FnExactReadNum', WHERE WHAT IT READS IS OF BULK AT MOST 1048576: true; the input reads as it did. -/
def fnExactReadNumUptoRow : OpenClaim := { program := "ytffcdnokkdifdaadoor", sum := "0cd618c1d6cefb48ff32d87d252964f84f664f0e5d4a4bf0203f8500df4ad226", func := "loop.example/g00857/laws.FnExactReadNum", spec := "fnExactReadNum", inPlace := ["internal/bytealg.IndexByteString", "internal/bytealg.IndexString"], recurses := true, named := ["internal/bytealg.MaxLen", "strconv.ErrSyntax", "strconv.ErrRange", "internal/strconv.uint64pow10", "math/bits.deBruijn32tab", "math/bits.deBruijn64tab", "unicode/utf8.first", "unicode/utf8.acceptRanges"], apart := false, laid := [("math/bits.deBruijn32tab", laid_math_bits_deBruijn32tab), ("math/bits.deBruijn64tab", laid_math_bits_deBruijn64tab), ("internal/strconv.uint64pow10", laid_internal_strconv_uint64pow10), ("unicode/utf8.acceptRanges", laid_unicode_utf8_acceptRanges), ("strconv.ErrRange", laid_strconv_ErrRange), ("strconv.ErrSyntax", laid_strconv_ErrSyntax), ("unicode/utf8.first", laid_unicode_utf8_first)], narrowed := true }
def FnExactReadNumUptoSaid : Prop := fnExactReadNumUptoRow.holds Tryd.pinned (OpenSpec.upto fnExactReadNumSpec)

end Rows
end Go.Proofs.YtffcdnokkdifdaaDoor
