/- Opening the arguments of laws on slices of integers. -/
import Derived.Test.YthhjkiiggokfkaaFramP
import Derived.Test.YthhjkiiggokfkaaQl
namespace Go.Proofs.Ythhjkiiggokfkaa
open Go Go.ChangeShapes Go.WideShapes Go.ChangeAt Go.RowKit Go.Joins
variable {H : Type} {enc : TypeId × Value → H}

theorem laidOut : laidOutB Try.prog = true := by kernel_rfl
theorem cellsI64 : Try.prog.cellsOf 2 = 1 := by kernel_rfl

theorem i64_wf {q : Int} (h : (Lit.int .i64 q).wf = true) : I64 q := bounds_i64 h

end Go.Proofs.Ythhjkiiggokfkaa
