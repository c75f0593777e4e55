/-
  No cell of these rows narrows 'for every input' (looked for: loops, veiled, ifaces, maps, wideKeys, modest, calm, conditions, laid).
  DERIVED. THE GIVEN ROWS OF THIS SEAT. 4 by the template 'for every input the law returns true; each argument reads behind the call as it read before'; 0 by the template 'total and deterministic' (their statements: YtnhobilmgefhnaaTotals.lean).
  GIVEN WITH THE SEED: the statements are not yours to turn. If you find one false, say at which input.
  Laid BY PROGRAM, IN A SANDBOX (cutbox-rows.mjs): the forced cells as the released guide's own fill.sh prints them over the translation 3dbaae79b61129dc… (all of the seat's roots in one cut). By AI agents, Wed Nov 11 2026. No macro, syntax, notation, axiom, sorry.
-/
import Derived.Test.YtnhobilmgefhnaaChecked
import GoSem.Claim
import GoSem.ClaimJoined
import GoSem.ClaimMapViews
import Derived.JoinedTies
import Derived.KernelRfl
namespace Go.Proofs.Ytnhobilmgefhnaa
/- THE CELL 'sum', in the pinned program and in every row, IS THE sha256 OF THE DUMP (.gsa) THAT YtnhobilmgefhnaaProg.lean LOADS. Nothing in Lean hashes anything: it is a label: what it is worth is what the hold of that sum in a sandbox is worth. -/
noncomputable def Try.pinned : Pinned := { name := "ytnhobilmgefhnaa", sum := "3dbaae79b61129dcdde1a1cbbe7041e57d7d2bb86e76e485088589357439b012", checked := Try.checked }
namespace Rows
def none {H : Type} : Left H := { results := [], args := [] }

/-- 'laws.FnAngles': WHATEVER THE INPUT: true; the input reads as it did. -/
def fnAnglesSpec : ChangeSpec := { name := "fnAngles", fn := fun _ => fun
  | [d] => { results := [.lit (.bool true)], args := [d] }
  | _ => none }
def fnAnglesRow : OpenClaim := { program := "ytnhobilmgefhnaa", sum := "3dbaae79b61129dcdde1a1cbbe7041e57d7d2bb86e76e485088589357439b012", func := "loop.example/g00857/laws.FnAngles", spec := "fnAngles", unfollowed := true, recurses := true, apart := false }
def FnAnglesSaid : Prop := fnAnglesRow.holds Try.pinned (OpenSpec.ofChange fnAnglesSpec)

/-- ITS FALSE NEIGHBOUR: 'it returns false'. Refute it at one input. -/
def fnAnglesWrong : ChangeSpec := { name := "fnAngles", fn := fun _ => fun
  | [d] => { results := [.lit (.bool false)], args := [d] }
  | _ => none }
def FnAnglesWrongFalsely : Prop := fnAnglesRow.holds Try.pinned (OpenSpec.ofChange fnAnglesWrong)

/-- 'laws.FnLittleRuns': WHATEVER THE INPUT: true; the input reads as it did. -/
def fnLittleRunsSpec : ChangeSpec := { name := "fnLittleRuns", fn := fun _ => fun
  | [d] => { results := [.lit (.bool true)], args := [d] }
  | _ => none }
def fnLittleRunsRow : OpenClaim := { program := "ytnhobilmgefhnaa", sum := "3dbaae79b61129dcdde1a1cbbe7041e57d7d2bb86e76e485088589357439b012", func := "loop.example/g00857/laws.FnLittleRuns", spec := "fnLittleRuns", unfollowed := true, recurses := true, apart := false }
def FnLittleRunsSaid : Prop := fnLittleRunsRow.holds Try.pinned (OpenSpec.ofChange fnLittleRunsSpec)

/-- ITS FALSE NEIGHBOUR: 'it returns false'. Refute it at one input. -/
def fnLittleRunsWrong : ChangeSpec := { name := "fnLittleRuns", fn := fun _ => fun
  | [d] => { results := [.lit (.bool false)], args := [d] }
  | _ => none }
def FnLittleRunsWrongFalsely : Prop := fnLittleRunsRow.holds Try.pinned (OpenSpec.ofChange fnLittleRunsWrong)

/-- 'laws.FnExactCrimpSectors': WHATEVER THE INPUT: true; the input reads as it did. -/
def fnExactCrimpSectorsSpec : ChangeSpec := { name := "fnExactCrimpSectors", fn := fun _ => fun
  | [d1, d2] => { results := [.lit (.bool true)], args := [d1, d2] }
  | _ => none }
def fnExactCrimpSectorsRow : OpenClaim := { program := "ytnhobilmgefhnaa", sum := "3dbaae79b61129dcdde1a1cbbe7041e57d7d2bb86e76e485088589357439b012", func := "loop.example/g00857/laws.FnExactCrimpSectors", spec := "fnExactCrimpSectors", inPlace := ["slices.overlaps[int64]"], unfollowed := true, recurses := true, apart := false }
def FnExactCrimpSectorsSaid : Prop := fnExactCrimpSectorsRow.holds Try.pinned (OpenSpec.ofChange fnExactCrimpSectorsSpec)

/-- ITS FALSE NEIGHBOUR: 'it returns false'. Refute it at one input. -/
def fnExactCrimpSectorsWrong : ChangeSpec := { name := "fnExactCrimpSectors", fn := fun _ => fun
  | [d1, d2] => { results := [.lit (.bool false)], args := [d1, d2] }
  | _ => none }
def FnExactCrimpSectorsWrongFalsely : Prop := fnExactCrimpSectorsRow.holds Try.pinned (OpenSpec.ofChange fnExactCrimpSectorsWrong)

/-- 'laws.FnExactFoldsAround': WHATEVER THE INPUT: true; the input reads as it did. -/
def fnExactFoldsAroundSpec : ChangeSpec := { name := "fnExactFoldsAround", fn := fun _ => fun
  | [d1, d2] => { results := [.lit (.bool true)], args := [d1, d2] }
  | _ => none }
def fnExactFoldsAroundRow : OpenClaim := { program := "ytnhobilmgefhnaa", sum := "3dbaae79b61129dcdde1a1cbbe7041e57d7d2bb86e76e485088589357439b012", func := "loop.example/g00857/laws.FnExactFoldsAround", spec := "fnExactFoldsAround", inPlace := ["slices.overlaps[int64]"], unfollowed := true, recurses := true, apart := false }
def FnExactFoldsAroundSaid : Prop := fnExactFoldsAroundRow.holds Try.pinned (OpenSpec.ofChange fnExactFoldsAroundSpec)

/-- ITS FALSE NEIGHBOUR: 'it returns false'. Refute it at one input. -/
def fnExactFoldsAroundWrong : ChangeSpec := { name := "fnExactFoldsAround", fn := fun _ => fun
  | [d1, d2] => { results := [.lit (.bool false)], args := [d1, d2] }
  | _ => none }
def FnExactFoldsAroundWrongFalsely : Prop := fnExactFoldsAroundRow.holds Try.pinned (OpenSpec.ofChange fnExactFoldsAroundWrong)

/- THE SECOND FORM. 'bulk': how many values and letters a reading holds, each counted each time it is reached (what is shared counts as often as it is met; a slice's spare places count too). A statement '..UptoSaid' is the law's where the arguments, and the package variables that the reading takes, are together of bulk at most 1048576: NARROWER than '..Said'. Prove '..Said' where nothing that the law and all that it calls make is longer than what came in: it says more and counts as full. Else prove '..UptoSaid'. A law counts once. -/
mutual
def uptoBulk {H : Type} : DataW H → Nat
  | .lit (.string bytes) => bytes.length + 1
  | .lit _ => 1
  | .nil => 1
  | .ptr d => uptoBulk d + 1
  | .slice elems spare => uptoBulkAll elems + uptoBulkAll spare + 1
  | .agg parts => uptoBulkAll parts + 1
  | .iface _ d => uptoBulk d + 1
  | .map entries => uptoBulkEntries entries + 1
  | .held _ => 1
def uptoBulkAll {H : Type} : List (DataW H) → Nat
  | [] => 0
  | d :: r => uptoBulk d + uptoBulkAll r
def uptoBulkEntries {H : Type} : List (Lit × DataW H) → Nat
  | [] => 0
  | x :: r => uptoBulkEntry x + uptoBulkEntries r
def uptoBulkEntry {H : Type} : Lit × DataW H → Nat
  | (.string bytes, d) => bytes.length + uptoBulk d + 1
  | (_, d) => uptoBulk d + 1
 end
def uptoSmall : (H : Type) → List (DataW H) → Bool := fun _ ds => decide (uptoBulkAll ds ≤ 1048576)
def OpenSpec.upto (s : _root_.Go.ChangeSpec) : _root_.Go.OpenSpec := { _root_.Go.OpenSpec.ofChange s with cond := some uptoSmall }

/-- 'laws.FnAngles', WHERE WHAT IT READS IS OF BULK AT MOST 1048576: true; the input reads as it did. -/
def fnAnglesUptoRow : OpenClaim := { program := "ytnhobilmgefhnaa", sum := "3dbaae79b61129dcdde1a1cbbe7041e57d7d2bb86e76e485088589357439b012", func := "loop.example/g00857/laws.FnAngles", spec := "fnAngles", unfollowed := true, recurses := true, apart := false, narrowed := true }
def FnAnglesUptoSaid : Prop := fnAnglesUptoRow.holds Try.pinned (OpenSpec.upto fnAnglesSpec)

/-- 'laws.FnLittleRuns', WHERE WHAT IT READS IS OF BULK AT MOST 1048576: true; the input reads as it did. -/
def fnLittleRunsUptoRow : OpenClaim := { program := "ytnhobilmgefhnaa", sum := "3dbaae79b61129dcdde1a1cbbe7041e57d7d2bb86e76e485088589357439b012", func := "loop.example/g00857/laws.FnLittleRuns", spec := "fnLittleRuns", unfollowed := true, recurses := true, apart := false, narrowed := true }
def FnLittleRunsUptoSaid : Prop := fnLittleRunsUptoRow.holds Try.pinned (OpenSpec.upto fnLittleRunsSpec)

/-- 'laws.FnExactCrimpSectors', WHERE WHAT IT READS IS OF BULK AT MOST 1048576: true; the input reads as it did. -/
def fnExactCrimpSectorsUptoRow : OpenClaim := { program := "ytnhobilmgefhnaa", sum := "3dbaae79b61129dcdde1a1cbbe7041e57d7d2bb86e76e485088589357439b012", func := "loop.example/g00857/laws.FnExactCrimpSectors", spec := "fnExactCrimpSectors", inPlace := ["slices.overlaps[int64]"], unfollowed := true, recurses := true, apart := false, narrowed := true }
def FnExactCrimpSectorsUptoSaid : Prop := fnExactCrimpSectorsUptoRow.holds Try.pinned (OpenSpec.upto fnExactCrimpSectorsSpec)

/-- 'laws.FnExactFoldsAround', WHERE WHAT IT READS IS OF BULK AT MOST 1048576: true; the input reads as it did. -/
def fnExactFoldsAroundUptoRow : OpenClaim := { program := "ytnhobilmgefhnaa", sum := "3dbaae79b61129dcdde1a1cbbe7041e57d7d2bb86e76e485088589357439b012", func := "loop.example/g00857/laws.FnExactFoldsAround", spec := "fnExactFoldsAround", inPlace := ["slices.overlaps[int64]"], unfollowed := true, recurses := true, apart := false, narrowed := true }
def FnExactFoldsAroundUptoSaid : Prop := fnExactFoldsAroundUptoRow.holds Try.pinned (OpenSpec.upto fnExactFoldsAroundSpec)

end Rows
end Go.Proofs.Ytnhobilmgefhnaa
