/-
  No cell of these rows narrows 'for every input' (looked for: loops, veiled, ifaces, maps, wideKeys, modest, calm, conditions, laid).
  DERIVED. THE GIVEN ROWS OF THIS SEAT. 9 by the template 'for every input the law returns true; each argument reads behind the call as it read before'; 0 by the template 'total and deterministic' (their statements: YtlmfbcffmalkkaaTotals.lean).
  GIVEN WITH THE SEED: the statements are not yours to turn. If you find one false, say at which input.
  Laid BY PROGRAM, IN A SANDBOX (cutbox-rows.mjs): the forced cells as the released guide's own fill.sh prints them over the translation 0f90f282e63209c6… (all of the seat's roots in one cut). By AI agents, Wed Nov 11 2026. No macro, syntax, notation, axiom, sorry.
-/
import Derived.Test.YtlmfbcffmalkkaaChecked
import GoSem.Claim
import GoSem.ClaimJoined
import GoSem.ClaimMapViews
import Derived.JoinedTies
import Derived.KernelRfl
namespace Go.Proofs.Ytlmfbcffmalkkaa
/- THE CELL 'sum', in the pinned program and in every row, IS THE sha256 OF THE DUMP (.gsa) THAT YtlmfbcffmalkkaaProg.lean LOADS. Nothing in Lean hashes anything: it is a label: what it is worth is what the hold of that sum in a sandbox is worth. -/
noncomputable def Try.pinned : Pinned := { name := "ytlmfbcffmalkkaa", sum := "0f90f282e63209c6f570478149b7fbbe2def4c9e66b86d20a71f258c76b0b2b3", checked := Try.checked }
namespace Rows
def none {H : Type} : Left H := { results := [], args := [] }

/-- 'laws.FnExactValidSectors': WHATEVER THE INPUT: true; the input reads as it did. -/
def fnExactValidSectorsSpec : ChangeSpec := { name := "fnExactValidSectors", fn := fun _ => fun
  | [d] => { results := [.lit (.bool true)], args := [d] }
  | _ => none }
def fnExactValidSectorsRow : OpenClaim := { program := "ytlmfbcffmalkkaa", sum := "0f90f282e63209c6f570478149b7fbbe2def4c9e66b86d20a71f258c76b0b2b3", func := "loop.example/g00857/laws.FnExactValidSectors", spec := "fnExactValidSectors", apart := false }
def FnExactValidSectorsSaid : Prop := fnExactValidSectorsRow.holds Try.pinned (OpenSpec.ofChange fnExactValidSectorsSpec)

/-- ITS FALSE NEIGHBOUR: 'it returns false'. Refute it at one input. -/
def fnExactValidSectorsWrong : ChangeSpec := { name := "fnExactValidSectors", fn := fun _ => fun
  | [d] => { results := [.lit (.bool false)], args := [d] }
  | _ => none }
def FnExactValidSectorsWrongFalsely : Prop := fnExactValidSectorsRow.holds Try.pinned (OpenSpec.ofChange fnExactValidSectorsWrong)

/-- 'laws.FnExactSectorsOf': WHATEVER THE INPUT: true; the input reads as it did. -/
def fnExactSectorsOfSpec : ChangeSpec := { name := "fnExactSectorsOf", fn := fun _ => fun
  | [d] => { results := [.lit (.bool true)], args := [d] }
  | _ => none }
def fnExactSectorsOfRow : OpenClaim := { program := "ytlmfbcffmalkkaa", sum := "0f90f282e63209c6f570478149b7fbbe2def4c9e66b86d20a71f258c76b0b2b3", func := "loop.example/g00857/laws.FnExactSectorsOf", spec := "fnExactSectorsOf", unfollowed := true, recurses := true, apart := false }
def FnExactSectorsOfSaid : Prop := fnExactSectorsOfRow.holds Try.pinned (OpenSpec.ofChange fnExactSectorsOfSpec)

/-- ITS FALSE NEIGHBOUR: 'it returns false'. Refute it at one input. -/
def fnExactSectorsOfWrong : ChangeSpec := { name := "fnExactSectorsOf", fn := fun _ => fun
  | [d] => { results := [.lit (.bool false)], args := [d] }
  | _ => none }
def FnExactSectorsOfWrongFalsely : Prop := fnExactSectorsOfRow.holds Try.pinned (OpenSpec.ofChange fnExactSectorsOfWrong)

/-- 'laws.FnExactDirectionsOf': WHATEVER THE INPUT: true; the input reads as it did. -/
def fnExactDirectionsOfSpec : ChangeSpec := { name := "fnExactDirectionsOf", fn := fun _ => fun
  | [d1, d2] => { results := [.lit (.bool true)], args := [d1, d2] }
  | _ => none }
def fnExactDirectionsOfRow : OpenClaim := { program := "ytlmfbcffmalkkaa", sum := "0f90f282e63209c6f570478149b7fbbe2def4c9e66b86d20a71f258c76b0b2b3", func := "loop.example/g00857/laws.FnExactDirectionsOf", spec := "fnExactDirectionsOf", apart := false }
def FnExactDirectionsOfSaid : Prop := fnExactDirectionsOfRow.holds Try.pinned (OpenSpec.ofChange fnExactDirectionsOfSpec)

/-- ITS FALSE NEIGHBOUR: 'it returns false'. Refute it at one input. -/
def fnExactDirectionsOfWrong : ChangeSpec := { name := "fnExactDirectionsOf", fn := fun _ => fun
  | [d1, d2] => { results := [.lit (.bool false)], args := [d1, d2] }
  | _ => none }
def FnExactDirectionsOfWrongFalsely : Prop := fnExactDirectionsOfRow.holds Try.pinned (OpenSpec.ofChange fnExactDirectionsOfWrong)

/-- 'laws.FnExactAlternatingSum': WHATEVER THE INPUT: true; the input reads as it did. -/
def fnExactAlternatingSumSpec : ChangeSpec := { name := "fnExactAlternatingSum", fn := fun _ => fun
  | [d] => { results := [.lit (.bool true)], args := [d] }
  | _ => none }
def fnExactAlternatingSumRow : OpenClaim := { program := "ytlmfbcffmalkkaa", sum := "0f90f282e63209c6f570478149b7fbbe2def4c9e66b86d20a71f258c76b0b2b3", func := "loop.example/g00857/laws.FnExactAlternatingSum", spec := "fnExactAlternatingSum", unfollowed := true, recurses := true, apart := false }
def FnExactAlternatingSumSaid : Prop := fnExactAlternatingSumRow.holds Try.pinned (OpenSpec.ofChange fnExactAlternatingSumSpec)

/-- ITS FALSE NEIGHBOUR: 'it returns false'. Refute it at one input. -/
def fnExactAlternatingSumWrong : ChangeSpec := { name := "fnExactAlternatingSum", fn := fun _ => fun
  | [d] => { results := [.lit (.bool false)], args := [d] }
  | _ => none }
def FnExactAlternatingSumWrongFalsely : Prop := fnExactAlternatingSumRow.holds Try.pinned (OpenSpec.ofChange fnExactAlternatingSumWrong)

/-- 'laws.FnExactIsKawasaki': WHATEVER THE INPUT: true; the input reads as it did. -/
def fnExactIsKawasakiSpec : ChangeSpec := { name := "fnExactIsKawasaki", fn := fun _ => fun
  | [d] => { results := [.lit (.bool true)], args := [d] }
  | _ => none }
def fnExactIsKawasakiRow : OpenClaim := { program := "ytlmfbcffmalkkaa", sum := "0f90f282e63209c6f570478149b7fbbe2def4c9e66b86d20a71f258c76b0b2b3", func := "loop.example/g00857/laws.FnExactIsKawasaki", spec := "fnExactIsKawasaki", unfollowed := true, recurses := true, apart := false }
def FnExactIsKawasakiSaid : Prop := fnExactIsKawasakiRow.holds Try.pinned (OpenSpec.ofChange fnExactIsKawasakiSpec)

/-- ITS FALSE NEIGHBOUR: 'it returns false'. Refute it at one input. -/
def fnExactIsKawasakiWrong : ChangeSpec := { name := "fnExactIsKawasaki", fn := fun _ => fun
  | [d] => { results := [.lit (.bool false)], args := [d] }
  | _ => none }
def FnExactIsKawasakiWrongFalsely : Prop := fnExactIsKawasakiRow.holds Try.pinned (OpenSpec.ofChange fnExactIsKawasakiWrong)

/-- 'laws.FnExactMirrorSectors': WHATEVER THE INPUT: true; the input reads as it did. -/
def fnExactMirrorSectorsSpec : ChangeSpec := { name := "fnExactMirrorSectors", fn := fun _ => fun
  | [d] => { results := [.lit (.bool true)], args := [d] }
  | _ => none }
def fnExactMirrorSectorsRow : OpenClaim := { program := "ytlmfbcffmalkkaa", sum := "0f90f282e63209c6f570478149b7fbbe2def4c9e66b86d20a71f258c76b0b2b3", func := "loop.example/g00857/laws.FnExactMirrorSectors", spec := "fnExactMirrorSectors", apart := false }
def FnExactMirrorSectorsSaid : Prop := fnExactMirrorSectorsRow.holds Try.pinned (OpenSpec.ofChange fnExactMirrorSectorsSpec)

/-- ITS FALSE NEIGHBOUR: 'it returns false'. Refute it at one input. -/
def fnExactMirrorSectorsWrong : ChangeSpec := { name := "fnExactMirrorSectors", fn := fun _ => fun
  | [d] => { results := [.lit (.bool false)], args := [d] }
  | _ => none }
def FnExactMirrorSectorsWrongFalsely : Prop := fnExactMirrorSectorsRow.holds Try.pinned (OpenSpec.ofChange fnExactMirrorSectorsWrong)

/-- 'laws.FnExactSquarePaper': WHATEVER THE INPUT: true; the input reads as it did. -/
def fnExactSquarePaperSpec : ChangeSpec := { name := "fnExactSquarePaper", fn := fun _ => fun
  | [d] => { results := [.lit (.bool true)], args := [d] }
  | _ => none }
def fnExactSquarePaperRow : OpenClaim := { program := "ytlmfbcffmalkkaa", sum := "0f90f282e63209c6f570478149b7fbbe2def4c9e66b86d20a71f258c76b0b2b3", func := "loop.example/g00857/laws.FnExactSquarePaper", spec := "fnExactSquarePaper", apart := false }
def FnExactSquarePaperSaid : Prop := fnExactSquarePaperRow.holds Try.pinned (OpenSpec.ofChange fnExactSquarePaperSpec)

/-- ITS FALSE NEIGHBOUR: 'it returns false'. Refute it at one input. -/
def fnExactSquarePaperWrong : ChangeSpec := { name := "fnExactSquarePaper", fn := fun _ => fun
  | [d] => { results := [.lit (.bool false)], args := [d] }
  | _ => none }
def FnExactSquarePaperWrongFalsely : Prop := fnExactSquarePaperRow.holds Try.pinned (OpenSpec.ofChange fnExactSquarePaperWrong)

/-- 'laws.FnExactSamePolygon': WHATEVER THE INPUT: true; the input reads as it did. -/
def fnExactSamePolygonSpec : ChangeSpec := { name := "fnExactSamePolygon", fn := fun _ => fun
  | [d1, d2] => { results := [.lit (.bool true)], args := [d1, d2] }
  | _ => none }
def fnExactSamePolygonRow : OpenClaim := { program := "ytlmfbcffmalkkaa", sum := "0f90f282e63209c6f570478149b7fbbe2def4c9e66b86d20a71f258c76b0b2b3", func := "loop.example/g00857/laws.FnExactSamePolygon", spec := "fnExactSamePolygon", apart := false }
def FnExactSamePolygonSaid : Prop := fnExactSamePolygonRow.holds Try.pinned (OpenSpec.ofChange fnExactSamePolygonSpec)

/-- ITS FALSE NEIGHBOUR: 'it returns false'. Refute it at one input. -/
def fnExactSamePolygonWrong : ChangeSpec := { name := "fnExactSamePolygon", fn := fun _ => fun
  | [d1, d2] => { results := [.lit (.bool false)], args := [d1, d2] }
  | _ => none }
def FnExactSamePolygonWrongFalsely : Prop := fnExactSamePolygonRow.holds Try.pinned (OpenSpec.ofChange fnExactSamePolygonWrong)

/-- 'laws.FnExactRotateSectors': WHATEVER THE INPUT: true; the input reads as it did. -/
def fnExactRotateSectorsSpec : ChangeSpec := { name := "fnExactRotateSectors", fn := fun _ => fun
  | [d1, d2] => { results := [.lit (.bool true)], args := [d1, d2] }
  | _ => none }
def fnExactRotateSectorsRow : OpenClaim := { program := "ytlmfbcffmalkkaa", sum := "0f90f282e63209c6f570478149b7fbbe2def4c9e66b86d20a71f258c76b0b2b3", func := "loop.example/g00857/laws.FnExactRotateSectors", spec := "fnExactRotateSectors", unfollowed := true, recurses := true, apart := false }
def FnExactRotateSectorsSaid : Prop := fnExactRotateSectorsRow.holds Try.pinned (OpenSpec.ofChange fnExactRotateSectorsSpec)

/-- ITS FALSE NEIGHBOUR: 'it returns false'. Refute it at one input. -/
def fnExactRotateSectorsWrong : ChangeSpec := { name := "fnExactRotateSectors", fn := fun _ => fun
  | [d1, d2] => { results := [.lit (.bool false)], args := [d1, d2] }
  | _ => none }
def FnExactRotateSectorsWrongFalsely : Prop := fnExactRotateSectorsRow.holds Try.pinned (OpenSpec.ofChange fnExactRotateSectorsWrong)

/- THE SECOND FORM. 'bulk': how many values and letters a reading holds, each counted each time it is reached (what is shared counts as often as it is met; a slice's spare places count too). A statement '..UptoSaid' is the law's where the arguments, and the package variables that the reading takes, are together of bulk at most 1048576: NARROWER than '..Said'. Prove '..Said' where nothing that the law and all that it calls make is longer than what came in: it says more and counts as full. Else prove '..UptoSaid'. A law counts once. -/
mutual
def uptoBulk {H : Type} : DataW H → Nat
  | .lit (.string bytes) => bytes.length + 1
  | .lit _ => 1
  | .nil => 1
  | .ptr d => uptoBulk d + 1
  | .slice elems spare => uptoBulkAll elems + uptoBulkAll spare + 1
  | .agg parts => uptoBulkAll parts + 1
  | .iface _ d => uptoBulk d + 1
  | .map entries => uptoBulkEntries entries + 1
  | .held _ => 1
def uptoBulkAll {H : Type} : List (DataW H) → Nat
  | [] => 0
  | d :: r => uptoBulk d + uptoBulkAll r
def uptoBulkEntries {H : Type} : List (Lit × DataW H) → Nat
  | [] => 0
  | x :: r => uptoBulkEntry x + uptoBulkEntries r
def uptoBulkEntry {H : Type} : Lit × DataW H → Nat
  | (.string bytes, d) => bytes.length + uptoBulk d + 1
  | (_, d) => uptoBulk d + 1
 end
def uptoSmall : (H : Type) → List (DataW H) → Bool := fun _ ds => decide (uptoBulkAll ds ≤ 1048576)
def OpenSpec.upto (s : _root_.Go.ChangeSpec) : _root_.Go.OpenSpec := { _root_.Go.OpenSpec.ofChange s with cond := some uptoSmall }

/-- 'laws.FnExactValidSectors', WHERE WHAT IT READS IS OF BULK AT MOST 1048576: true; the input reads as it did. -/
def fnExactValidSectorsUptoRow : OpenClaim := { program := "ytlmfbcffmalkkaa", sum := "0f90f282e63209c6f570478149b7fbbe2def4c9e66b86d20a71f258c76b0b2b3", func := "loop.example/g00857/laws.FnExactValidSectors", spec := "fnExactValidSectors", apart := false, narrowed := true }
def FnExactValidSectorsUptoSaid : Prop := fnExactValidSectorsUptoRow.holds Try.pinned (OpenSpec.upto fnExactValidSectorsSpec)

/-- 'laws.FnExactSectorsOf', WHERE WHAT IT READS IS OF BULK AT MOST 1048576: true; the input reads as it did. -/
def fnExactSectorsOfUptoRow : OpenClaim := { program := "ytlmfbcffmalkkaa", sum := "0f90f282e63209c6f570478149b7fbbe2def4c9e66b86d20a71f258c76b0b2b3", func := "loop.example/g00857/laws.FnExactSectorsOf", spec := "fnExactSectorsOf", unfollowed := true, recurses := true, apart := false, narrowed := true }
def FnExactSectorsOfUptoSaid : Prop := fnExactSectorsOfUptoRow.holds Try.pinned (OpenSpec.upto fnExactSectorsOfSpec)

/-- 'laws.FnExactDirectionsOf', WHERE WHAT IT READS IS OF BULK AT MOST 1048576: true; the input reads as it did. -/
def fnExactDirectionsOfUptoRow : OpenClaim := { program := "ytlmfbcffmalkkaa", sum := "0f90f282e63209c6f570478149b7fbbe2def4c9e66b86d20a71f258c76b0b2b3", func := "loop.example/g00857/laws.FnExactDirectionsOf", spec := "fnExactDirectionsOf", apart := false, narrowed := true }
def FnExactDirectionsOfUptoSaid : Prop := fnExactDirectionsOfUptoRow.holds Try.pinned (OpenSpec.upto fnExactDirectionsOfSpec)

/-- 'laws.FnExactAlternatingSum', WHERE WHAT IT READS IS OF BULK AT MOST 1048576: true; the input reads as it did. -/
def fnExactAlternatingSumUptoRow : OpenClaim := { program := "ytlmfbcffmalkkaa", sum := "0f90f282e63209c6f570478149b7fbbe2def4c9e66b86d20a71f258c76b0b2b3", func := "loop.example/g00857/laws.FnExactAlternatingSum", spec := "fnExactAlternatingSum", unfollowed := true, recurses := true, apart := false, narrowed := true }
def FnExactAlternatingSumUptoSaid : Prop := fnExactAlternatingSumUptoRow.holds Try.pinned (OpenSpec.upto fnExactAlternatingSumSpec)

/-- 'laws.FnExactIsKawasaki', WHERE WHAT IT READS IS OF BULK AT MOST 1048576: true; the input reads as it did. -/
def fnExactIsKawasakiUptoRow : OpenClaim := { program := "ytlmfbcffmalkkaa", sum := "0f90f282e63209c6f570478149b7fbbe2def4c9e66b86d20a71f258c76b0b2b3", func := "loop.example/g00857/laws.FnExactIsKawasaki", spec := "fnExactIsKawasaki", unfollowed := true, recurses := true, apart := false, narrowed := true }
def FnExactIsKawasakiUptoSaid : Prop := fnExactIsKawasakiUptoRow.holds Try.pinned (OpenSpec.upto fnExactIsKawasakiSpec)

/-- 'laws.FnExactMirrorSectors', WHERE WHAT IT READS IS OF BULK AT MOST 1048576: true; the input reads as it did. -/
def fnExactMirrorSectorsUptoRow : OpenClaim := { program := "ytlmfbcffmalkkaa", sum := "0f90f282e63209c6f570478149b7fbbe2def4c9e66b86d20a71f258c76b0b2b3", func := "loop.example/g00857/laws.FnExactMirrorSectors", spec := "fnExactMirrorSectors", apart := false, narrowed := true }
def FnExactMirrorSectorsUptoSaid : Prop := fnExactMirrorSectorsUptoRow.holds Try.pinned (OpenSpec.upto fnExactMirrorSectorsSpec)

/-- 'laws.FnExactSquarePaper', WHERE WHAT IT READS IS OF BULK AT MOST 1048576: true; the input reads as it did. -/
def fnExactSquarePaperUptoRow : OpenClaim := { program := "ytlmfbcffmalkkaa", sum := "0f90f282e63209c6f570478149b7fbbe2def4c9e66b86d20a71f258c76b0b2b3", func := "loop.example/g00857/laws.FnExactSquarePaper", spec := "fnExactSquarePaper", apart := false, narrowed := true }
def FnExactSquarePaperUptoSaid : Prop := fnExactSquarePaperUptoRow.holds Try.pinned (OpenSpec.upto fnExactSquarePaperSpec)

/-- 'laws.FnExactSamePolygon', WHERE WHAT IT READS IS OF BULK AT MOST 1048576: true; the input reads as it did. -/
def fnExactSamePolygonUptoRow : OpenClaim := { program := "ytlmfbcffmalkkaa", sum := "0f90f282e63209c6f570478149b7fbbe2def4c9e66b86d20a71f258c76b0b2b3", func := "loop.example/g00857/laws.FnExactSamePolygon", spec := "fnExactSamePolygon", apart := false, narrowed := true }
def FnExactSamePolygonUptoSaid : Prop := fnExactSamePolygonUptoRow.holds Try.pinned (OpenSpec.upto fnExactSamePolygonSpec)

/-- 'laws.FnExactRotateSectors', WHERE WHAT IT READS IS OF BULK AT MOST 1048576: true; the input reads as it did. -/
def fnExactRotateSectorsUptoRow : OpenClaim := { program := "ytlmfbcffmalkkaa", sum := "0f90f282e63209c6f570478149b7fbbe2def4c9e66b86d20a71f258c76b0b2b3", func := "loop.example/g00857/laws.FnExactRotateSectors", spec := "fnExactRotateSectors", unfollowed := true, recurses := true, apart := false, narrowed := true }
def FnExactRotateSectorsUptoSaid : Prop := fnExactRotateSectorsUptoRow.holds Try.pinned (OpenSpec.upto fnExactRotateSectorsSpec)

end Rows
end Go.Proofs.Ytlmfbcffmalkkaa
