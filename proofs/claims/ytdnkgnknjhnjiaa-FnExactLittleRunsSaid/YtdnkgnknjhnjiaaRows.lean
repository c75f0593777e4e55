/-
  No cell of these rows narrows 'for every input' (looked for: loops, veiled, ifaces, maps, wideKeys, modest, calm, conditions, laid).
  DERIVED. THE GIVEN ROWS OF THIS SEAT. 12 by the template 'for every input the law returns true; each argument reads behind the call as it read before'; 0 by the template 'total and deterministic' (their statements: YtdnkgnknjhnjiaaTotals.lean).
  GIVEN WITH THE SEED: the statements are not yours to turn. If you find one false, say at which input.
  Laid BY PROGRAM, IN A SANDBOX (cutbox-rows.mjs): the forced cells as the released guide's own fill.sh prints them over the translation aa191529143148e1… (all of the seat's roots in one cut). By AI agents, Wed Nov 11 2026. No macro, syntax, notation, axiom, sorry.
-/
import Derived.Test.YtdnkgnknjhnjiaaChecked
import GoSem.Claim
import GoSem.ClaimJoined
import GoSem.ClaimMapViews
import Derived.JoinedTies
import Derived.KernelRfl
namespace Go.Proofs.Ytdnkgnknjhnjiaa
/- THE CELL 'sum', in the pinned program and in every row, IS THE sha256 OF THE DUMP (.gsa) THAT YtdnkgnknjhnjiaaProg.lean LOADS. Nothing in Lean hashes anything: it is a label: what it is worth is what the hold of that sum in a sandbox is worth. -/
noncomputable def Try.pinned : Pinned := { name := "ytdnkgnknjhnjiaa", sum := "aa191529143148e1d0aeaa7abb2f028df7805ddce020468d58d49edc5d55f547", checked := Try.checked }
namespace Rows
def none {H : Type} : Left H := { results := [], args := [] }

/-- 'laws.FnExactValidSectors': WHATEVER THE INPUT: true; the input reads as it did. -/
def fnExactValidSectorsSpec : ChangeSpec := { name := "fnExactValidSectors", fn := fun _ => fun
  | [d] => { results := [.lit (.bool true)], args := [d] }
  | _ => none }
def fnExactValidSectorsRow : OpenClaim := { program := "ytdnkgnknjhnjiaa", sum := "aa191529143148e1d0aeaa7abb2f028df7805ddce020468d58d49edc5d55f547", func := "loop.example/g00857/laws.FnExactValidSectors", spec := "fnExactValidSectors", apart := false }
def FnExactValidSectorsSaid : Prop := fnExactValidSectorsRow.holds Try.pinned (OpenSpec.ofChange fnExactValidSectorsSpec)

/-- ITS FALSE NEIGHBOUR: 'it returns false'. Refute it at one input. -/
def fnExactValidSectorsWrong : ChangeSpec := { name := "fnExactValidSectors", fn := fun _ => fun
  | [d] => { results := [.lit (.bool false)], args := [d] }
  | _ => none }
def FnExactValidSectorsWrongFalsely : Prop := fnExactValidSectorsRow.holds Try.pinned (OpenSpec.ofChange fnExactValidSectorsWrong)

/-- 'laws.FnExactDirectionsOf': WHATEVER THE INPUT: true; the input reads as it did. -/
def fnExactDirectionsOfSpec : ChangeSpec := { name := "fnExactDirectionsOf", fn := fun _ => fun
  | [d1, d2] => { results := [.lit (.bool true)], args := [d1, d2] }
  | _ => none }
def fnExactDirectionsOfRow : OpenClaim := { program := "ytdnkgnknjhnjiaa", sum := "aa191529143148e1d0aeaa7abb2f028df7805ddce020468d58d49edc5d55f547", func := "loop.example/g00857/laws.FnExactDirectionsOf", spec := "fnExactDirectionsOf", apart := false }
def FnExactDirectionsOfSaid : Prop := fnExactDirectionsOfRow.holds Try.pinned (OpenSpec.ofChange fnExactDirectionsOfSpec)

/-- ITS FALSE NEIGHBOUR: 'it returns false'. Refute it at one input. -/
def fnExactDirectionsOfWrong : ChangeSpec := { name := "fnExactDirectionsOf", fn := fun _ => fun
  | [d1, d2] => { results := [.lit (.bool false)], args := [d1, d2] }
  | _ => none }
def FnExactDirectionsOfWrongFalsely : Prop := fnExactDirectionsOfRow.holds Try.pinned (OpenSpec.ofChange fnExactDirectionsOfWrong)

/-- 'laws.FnExactAlternatingSum': WHATEVER THE INPUT: true; the input reads as it did. -/
def fnExactAlternatingSumSpec : ChangeSpec := { name := "fnExactAlternatingSum", fn := fun _ => fun
  | [d] => { results := [.lit (.bool true)], args := [d] }
  | _ => none }
def fnExactAlternatingSumRow : OpenClaim := { program := "ytdnkgnknjhnjiaa", sum := "aa191529143148e1d0aeaa7abb2f028df7805ddce020468d58d49edc5d55f547", func := "loop.example/g00857/laws.FnExactAlternatingSum", spec := "fnExactAlternatingSum", unfollowed := true, recurses := true, apart := false }
def FnExactAlternatingSumSaid : Prop := fnExactAlternatingSumRow.holds Try.pinned (OpenSpec.ofChange fnExactAlternatingSumSpec)

/-- ITS FALSE NEIGHBOUR: 'it returns false'. Refute it at one input. -/
def fnExactAlternatingSumWrong : ChangeSpec := { name := "fnExactAlternatingSum", fn := fun _ => fun
  | [d] => { results := [.lit (.bool false)], args := [d] }
  | _ => none }
def FnExactAlternatingSumWrongFalsely : Prop := fnExactAlternatingSumRow.holds Try.pinned (OpenSpec.ofChange fnExactAlternatingSumWrong)

/-- 'laws.FnExactIsKawasaki': WHATEVER THE INPUT: true; the input reads as it did. -/
def fnExactIsKawasakiSpec : ChangeSpec := { name := "fnExactIsKawasaki", fn := fun _ => fun
  | [d] => { results := [.lit (.bool true)], args := [d] }
  | _ => none }
def fnExactIsKawasakiRow : OpenClaim := { program := "ytdnkgnknjhnjiaa", sum := "aa191529143148e1d0aeaa7abb2f028df7805ddce020468d58d49edc5d55f547", func := "loop.example/g00857/laws.FnExactIsKawasaki", spec := "fnExactIsKawasaki", unfollowed := true, recurses := true, apart := false }
def FnExactIsKawasakiSaid : Prop := fnExactIsKawasakiRow.holds Try.pinned (OpenSpec.ofChange fnExactIsKawasakiSpec)

/-- ITS FALSE NEIGHBOUR: 'it returns false'. Refute it at one input. -/
def fnExactIsKawasakiWrong : ChangeSpec := { name := "fnExactIsKawasaki", fn := fun _ => fun
  | [d] => { results := [.lit (.bool false)], args := [d] }
  | _ => none }
def FnExactIsKawasakiWrongFalsely : Prop := fnExactIsKawasakiRow.holds Try.pinned (OpenSpec.ofChange fnExactIsKawasakiWrong)

/-- 'laws.FnExactRotateSectors': WHATEVER THE INPUT: true; the input reads as it did. -/
def fnExactRotateSectorsSpec : ChangeSpec := { name := "fnExactRotateSectors", fn := fun _ => fun
  | [d1, d2] => { results := [.lit (.bool true)], args := [d1, d2] }
  | _ => none }
def fnExactRotateSectorsRow : OpenClaim := { program := "ytdnkgnknjhnjiaa", sum := "aa191529143148e1d0aeaa7abb2f028df7805ddce020468d58d49edc5d55f547", func := "loop.example/g00857/laws.FnExactRotateSectors", spec := "fnExactRotateSectors", unfollowed := true, recurses := true, apart := false }
def FnExactRotateSectorsSaid : Prop := fnExactRotateSectorsRow.holds Try.pinned (OpenSpec.ofChange fnExactRotateSectorsSpec)

/-- ITS FALSE NEIGHBOUR: 'it returns false'. Refute it at one input. -/
def fnExactRotateSectorsWrong : ChangeSpec := { name := "fnExactRotateSectors", fn := fun _ => fun
  | [d1, d2] => { results := [.lit (.bool false)], args := [d1, d2] }
  | _ => none }
def FnExactRotateSectorsWrongFalsely : Prop := fnExactRotateSectorsRow.holds Try.pinned (OpenSpec.ofChange fnExactRotateSectorsWrong)

/-- 'laws.FnExactMirrorSectors': WHATEVER THE INPUT: true; the input reads as it did. -/
def fnExactMirrorSectorsSpec : ChangeSpec := { name := "fnExactMirrorSectors", fn := fun _ => fun
  | [d] => { results := [.lit (.bool true)], args := [d] }
  | _ => none }
def fnExactMirrorSectorsRow : OpenClaim := { program := "ytdnkgnknjhnjiaa", sum := "aa191529143148e1d0aeaa7abb2f028df7805ddce020468d58d49edc5d55f547", func := "loop.example/g00857/laws.FnExactMirrorSectors", spec := "fnExactMirrorSectors", apart := false }
def FnExactMirrorSectorsSaid : Prop := fnExactMirrorSectorsRow.holds Try.pinned (OpenSpec.ofChange fnExactMirrorSectorsSpec)

/-- ITS FALSE NEIGHBOUR: 'it returns false'. Refute it at one input. -/
def fnExactMirrorSectorsWrong : ChangeSpec := { name := "fnExactMirrorSectors", fn := fun _ => fun
  | [d] => { results := [.lit (.bool false)], args := [d] }
  | _ => none }
def FnExactMirrorSectorsWrongFalsely : Prop := fnExactMirrorSectorsRow.holds Try.pinned (OpenSpec.ofChange fnExactMirrorSectorsWrong)

/-- 'laws.FnExactCanonicalSectors': WHATEVER THE INPUT: true; the input reads as it did. -/
def fnExactCanonicalSectorsSpec : ChangeSpec := { name := "fnExactCanonicalSectors", fn := fun _ => fun
  | [d] => { results := [.lit (.bool true)], args := [d] }
  | _ => none }
def fnExactCanonicalSectorsRow : OpenClaim := { program := "ytdnkgnknjhnjiaa", sum := "aa191529143148e1d0aeaa7abb2f028df7805ddce020468d58d49edc5d55f547", func := "loop.example/g00857/laws.FnExactCanonicalSectors", spec := "fnExactCanonicalSectors", unfollowed := true, recurses := true, apart := false }
def FnExactCanonicalSectorsSaid : Prop := fnExactCanonicalSectorsRow.holds Try.pinned (OpenSpec.ofChange fnExactCanonicalSectorsSpec)

/-- ITS FALSE NEIGHBOUR: 'it returns false'. Refute it at one input. -/
def fnExactCanonicalSectorsWrong : ChangeSpec := { name := "fnExactCanonicalSectors", fn := fun _ => fun
  | [d] => { results := [.lit (.bool false)], args := [d] }
  | _ => none }
def FnExactCanonicalSectorsWrongFalsely : Prop := fnExactCanonicalSectorsRow.holds Try.pinned (OpenSpec.ofChange fnExactCanonicalSectorsWrong)

/-- 'laws.FnExactSectorSymmetries': WHATEVER THE INPUT: true; the input reads as it did. -/
def fnExactSectorSymmetriesSpec : ChangeSpec := { name := "fnExactSectorSymmetries", fn := fun _ => fun
  | [d] => { results := [.lit (.bool true)], args := [d] }
  | _ => none }
def fnExactSectorSymmetriesRow : OpenClaim := { program := "ytdnkgnknjhnjiaa", sum := "aa191529143148e1d0aeaa7abb2f028df7805ddce020468d58d49edc5d55f547", func := "loop.example/g00857/laws.FnExactSectorSymmetries", spec := "fnExactSectorSymmetries", unfollowed := true, recurses := true, apart := false }
def FnExactSectorSymmetriesSaid : Prop := fnExactSectorSymmetriesRow.holds Try.pinned (OpenSpec.ofChange fnExactSectorSymmetriesSpec)

/-- ITS FALSE NEIGHBOUR: 'it returns false'. Refute it at one input. -/
def fnExactSectorSymmetriesWrong : ChangeSpec := { name := "fnExactSectorSymmetries", fn := fun _ => fun
  | [d] => { results := [.lit (.bool false)], args := [d] }
  | _ => none }
def FnExactSectorSymmetriesWrongFalsely : Prop := fnExactSectorSymmetriesRow.holds Try.pinned (OpenSpec.ofChange fnExactSectorSymmetriesWrong)

/-- 'laws.FnExactLittleRuns': WHATEVER THE INPUT: true; the input reads as it did. -/
def fnExactLittleRunsSpec : ChangeSpec := { name := "fnExactLittleRuns", fn := fun _ => fun
  | [d] => { results := [.lit (.bool true)], args := [d] }
  | _ => none }
def fnExactLittleRunsRow : OpenClaim := { program := "ytdnkgnknjhnjiaa", sum := "aa191529143148e1d0aeaa7abb2f028df7805ddce020468d58d49edc5d55f547", func := "loop.example/g00857/laws.FnExactLittleRuns", spec := "fnExactLittleRuns", unfollowed := true, recurses := true, apart := false }
def FnExactLittleRunsSaid : Prop := fnExactLittleRunsRow.holds Try.pinned (OpenSpec.ofChange fnExactLittleRunsSpec)

/-- ITS FALSE NEIGHBOUR: 'it returns false'. Refute it at one input. -/
def fnExactLittleRunsWrong : ChangeSpec := { name := "fnExactLittleRuns", fn := fun _ => fun
  | [d] => { results := [.lit (.bool false)], args := [d] }
  | _ => none }
def FnExactLittleRunsWrongFalsely : Prop := fnExactLittleRunsRow.holds Try.pinned (OpenSpec.ofChange fnExactLittleRunsWrong)

/-- 'laws.FnExactValidCone': WHATEVER THE INPUT: true; the input reads as it did. -/
def fnExactValidConeSpec : ChangeSpec := { name := "fnExactValidCone", fn := fun _ => fun
  | [d] => { results := [.lit (.bool true)], args := [d] }
  | _ => none }
def fnExactValidConeRow : OpenClaim := { program := "ytdnkgnknjhnjiaa", sum := "aa191529143148e1d0aeaa7abb2f028df7805ddce020468d58d49edc5d55f547", func := "loop.example/g00857/laws.FnExactValidCone", spec := "fnExactValidCone", unfollowed := true, recurses := true, apart := false }
def FnExactValidConeSaid : Prop := fnExactValidConeRow.holds Try.pinned (OpenSpec.ofChange fnExactValidConeSpec)

/-- ITS FALSE NEIGHBOUR: 'it returns false'. Refute it at one input. -/
def fnExactValidConeWrong : ChangeSpec := { name := "fnExactValidCone", fn := fun _ => fun
  | [d] => { results := [.lit (.bool false)], args := [d] }
  | _ => none }
def FnExactValidConeWrongFalsely : Prop := fnExactValidConeRow.holds Try.pinned (OpenSpec.ofChange fnExactValidConeWrong)

/-- 'laws.FnExactSectorPlaces': WHATEVER THE INPUT: true; the input reads as it did. -/
def fnExactSectorPlacesSpec : ChangeSpec := { name := "fnExactSectorPlaces", fn := fun _ => fun
  | [d] => { results := [.lit (.bool true)], args := [d] }
  | _ => none }
def fnExactSectorPlacesRow : OpenClaim := { program := "ytdnkgnknjhnjiaa", sum := "aa191529143148e1d0aeaa7abb2f028df7805ddce020468d58d49edc5d55f547", func := "loop.example/g00857/laws.FnExactSectorPlaces", spec := "fnExactSectorPlaces", unfollowed := true, recurses := true, apart := false }
def FnExactSectorPlacesSaid : Prop := fnExactSectorPlacesRow.holds Try.pinned (OpenSpec.ofChange fnExactSectorPlacesSpec)

/-- ITS FALSE NEIGHBOUR: 'it returns false'. Refute it at one input. -/
def fnExactSectorPlacesWrong : ChangeSpec := { name := "fnExactSectorPlaces", fn := fun _ => fun
  | [d] => { results := [.lit (.bool false)], args := [d] }
  | _ => none }
def FnExactSectorPlacesWrongFalsely : Prop := fnExactSectorPlacesRow.holds Try.pinned (OpenSpec.ofChange fnExactSectorPlacesWrong)

/-- 'laws.FnExactCrimpSectors': WHATEVER THE INPUT: true; the input reads as it did. -/
def fnExactCrimpSectorsSpec : ChangeSpec := { name := "fnExactCrimpSectors", fn := fun _ => fun
  | [d1, d2] => { results := [.lit (.bool true)], args := [d1, d2] }
  | _ => none }
def fnExactCrimpSectorsRow : OpenClaim := { program := "ytdnkgnknjhnjiaa", sum := "aa191529143148e1d0aeaa7abb2f028df7805ddce020468d58d49edc5d55f547", func := "loop.example/g00857/laws.FnExactCrimpSectors", spec := "fnExactCrimpSectors", inPlace := ["slices.overlaps[int64]"], unfollowed := true, recurses := true, apart := false }
def FnExactCrimpSectorsSaid : Prop := fnExactCrimpSectorsRow.holds Try.pinned (OpenSpec.ofChange fnExactCrimpSectorsSpec)

/-- ITS FALSE NEIGHBOUR: 'it returns false'. Refute it at one input. -/
def fnExactCrimpSectorsWrong : ChangeSpec := { name := "fnExactCrimpSectors", fn := fun _ => fun
  | [d1, d2] => { results := [.lit (.bool false)], args := [d1, d2] }
  | _ => none }
def FnExactCrimpSectorsWrongFalsely : Prop := fnExactCrimpSectorsRow.holds Try.pinned (OpenSpec.ofChange fnExactCrimpSectorsWrong)

/- THE SECOND FORM. 'bulk': how many values and letters a reading holds, each counted each time it is reached (what is shared counts as often as it is met; a slice's spare places count too). A statement '..UptoSaid' is the law's where the arguments, and the package variables that the reading takes, are together of bulk at most 1048576: NARROWER than '..Said'. Prove '..Said' where nothing that the law and all that it calls make is longer than what came in: it says more and counts as full. Else prove '..UptoSaid'. A law counts once. -/
mutual
def uptoBulk {H : Type} : DataW H → Nat
  | .lit (.string bytes) => bytes.length + 1
  | .lit _ => 1
  | .nil => 1
  | .ptr d => uptoBulk d + 1
  | .slice elems spare => uptoBulkAll elems + uptoBulkAll spare + 1
  | .agg parts => uptoBulkAll parts + 1
  | .iface _ d => uptoBulk d + 1
  | .map entries => uptoBulkEntries entries + 1
  | .held _ => 1
def uptoBulkAll {H : Type} : List (DataW H) → Nat
  | [] => 0
  | d :: r => uptoBulk d + uptoBulkAll r
def uptoBulkEntries {H : Type} : List (Lit × DataW H) → Nat
  | [] => 0
  | x :: r => uptoBulkEntry x + uptoBulkEntries r
def uptoBulkEntry {H : Type} : Lit × DataW H → Nat
  | (.string bytes, d) => bytes.length + uptoBulk d + 1
  | (_, d) => uptoBulk d + 1
 end
def uptoSmall : (H : Type) → List (DataW H) → Bool := fun _ ds => decide (uptoBulkAll ds ≤ 1048576)
def OpenSpec.upto (s : _root_.Go.ChangeSpec) : _root_.Go.OpenSpec := { _root_.Go.OpenSpec.ofChange s with cond := some uptoSmall }

/-- 'laws.FnExactValidSectors', WHERE WHAT IT READS IS OF BULK AT MOST 1048576: true; the input reads as it did. -/
def fnExactValidSectorsUptoRow : OpenClaim := { program := "ytdnkgnknjhnjiaa", sum := "aa191529143148e1d0aeaa7abb2f028df7805ddce020468d58d49edc5d55f547", func := "loop.example/g00857/laws.FnExactValidSectors", spec := "fnExactValidSectors", apart := false, narrowed := true }
def FnExactValidSectorsUptoSaid : Prop := fnExactValidSectorsUptoRow.holds Try.pinned (OpenSpec.upto fnExactValidSectorsSpec)

/-- 'laws.FnExactDirectionsOf', WHERE WHAT IT READS IS OF BULK AT MOST 1048576: true; the input reads as it did. -/
def fnExactDirectionsOfUptoRow : OpenClaim := { program := "ytdnkgnknjhnjiaa", sum := "aa191529143148e1d0aeaa7abb2f028df7805ddce020468d58d49edc5d55f547", func := "loop.example/g00857/laws.FnExactDirectionsOf", spec := "fnExactDirectionsOf", apart := false, narrowed := true }
def FnExactDirectionsOfUptoSaid : Prop := fnExactDirectionsOfUptoRow.holds Try.pinned (OpenSpec.upto fnExactDirectionsOfSpec)

/-- 'laws.FnExactAlternatingSum', WHERE WHAT IT READS IS OF BULK AT MOST 1048576: true; the input reads as it did. -/
def fnExactAlternatingSumUptoRow : OpenClaim := { program := "ytdnkgnknjhnjiaa", sum := "aa191529143148e1d0aeaa7abb2f028df7805ddce020468d58d49edc5d55f547", func := "loop.example/g00857/laws.FnExactAlternatingSum", spec := "fnExactAlternatingSum", unfollowed := true, recurses := true, apart := false, narrowed := true }
def FnExactAlternatingSumUptoSaid : Prop := fnExactAlternatingSumUptoRow.holds Try.pinned (OpenSpec.upto fnExactAlternatingSumSpec)

/-- 'laws.FnExactIsKawasaki', WHERE WHAT IT READS IS OF BULK AT MOST 1048576: true; the input reads as it did. -/
def fnExactIsKawasakiUptoRow : OpenClaim := { program := "ytdnkgnknjhnjiaa", sum := "aa191529143148e1d0aeaa7abb2f028df7805ddce020468d58d49edc5d55f547", func := "loop.example/g00857/laws.FnExactIsKawasaki", spec := "fnExactIsKawasaki", unfollowed := true, recurses := true, apart := false, narrowed := true }
def FnExactIsKawasakiUptoSaid : Prop := fnExactIsKawasakiUptoRow.holds Try.pinned (OpenSpec.upto fnExactIsKawasakiSpec)

/-- 'laws.FnExactRotateSectors', WHERE WHAT IT READS IS OF BULK AT MOST 1048576: true; the input reads as it did. -/
def fnExactRotateSectorsUptoRow : OpenClaim := { program := "ytdnkgnknjhnjiaa", sum := "aa191529143148e1d0aeaa7abb2f028df7805ddce020468d58d49edc5d55f547", func := "loop.example/g00857/laws.FnExactRotateSectors", spec := "fnExactRotateSectors", unfollowed := true, recurses := true, apart := false, narrowed := true }
def FnExactRotateSectorsUptoSaid : Prop := fnExactRotateSectorsUptoRow.holds Try.pinned (OpenSpec.upto fnExactRotateSectorsSpec)

/-- 'laws.FnExactMirrorSectors', WHERE WHAT IT READS IS OF BULK AT MOST 1048576: true; the input reads as it did. -/
def fnExactMirrorSectorsUptoRow : OpenClaim := { program := "ytdnkgnknjhnjiaa", sum := "aa191529143148e1d0aeaa7abb2f028df7805ddce020468d58d49edc5d55f547", func := "loop.example/g00857/laws.FnExactMirrorSectors", spec := "fnExactMirrorSectors", apart := false, narrowed := true }
def FnExactMirrorSectorsUptoSaid : Prop := fnExactMirrorSectorsUptoRow.holds Try.pinned (OpenSpec.upto fnExactMirrorSectorsSpec)

/-- 'laws.FnExactCanonicalSectors', WHERE WHAT IT READS IS OF BULK AT MOST 1048576: true; the input reads as it did. -/
def fnExactCanonicalSectorsUptoRow : OpenClaim := { program := "ytdnkgnknjhnjiaa", sum := "aa191529143148e1d0aeaa7abb2f028df7805ddce020468d58d49edc5d55f547", func := "loop.example/g00857/laws.FnExactCanonicalSectors", spec := "fnExactCanonicalSectors", unfollowed := true, recurses := true, apart := false, narrowed := true }
def FnExactCanonicalSectorsUptoSaid : Prop := fnExactCanonicalSectorsUptoRow.holds Try.pinned (OpenSpec.upto fnExactCanonicalSectorsSpec)

/-- 'laws.FnExactSectorSymmetries', WHERE WHAT IT READS IS OF BULK AT MOST 1048576: true; the input reads as it did. -/
def fnExactSectorSymmetriesUptoRow : OpenClaim := { program := "ytdnkgnknjhnjiaa", sum := "aa191529143148e1d0aeaa7abb2f028df7805ddce020468d58d49edc5d55f547", func := "loop.example/g00857/laws.FnExactSectorSymmetries", spec := "fnExactSectorSymmetries", unfollowed := true, recurses := true, apart := false, narrowed := true }
def FnExactSectorSymmetriesUptoSaid : Prop := fnExactSectorSymmetriesUptoRow.holds Try.pinned (OpenSpec.upto fnExactSectorSymmetriesSpec)

/-- 'laws.FnExactLittleRuns', WHERE WHAT IT READS IS OF BULK AT MOST 1048576: true; the input reads as it did. -/
def fnExactLittleRunsUptoRow : OpenClaim := { program := "ytdnkgnknjhnjiaa", sum := "aa191529143148e1d0aeaa7abb2f028df7805ddce020468d58d49edc5d55f547", func := "loop.example/g00857/laws.FnExactLittleRuns", spec := "fnExactLittleRuns", unfollowed := true, recurses := true, apart := false, narrowed := true }
def FnExactLittleRunsUptoSaid : Prop := fnExactLittleRunsUptoRow.holds Try.pinned (OpenSpec.upto fnExactLittleRunsSpec)

/-- 'laws.FnExactValidCone', WHERE WHAT IT READS IS OF BULK AT MOST 1048576: true; the input reads as it did. -/
def fnExactValidConeUptoRow : OpenClaim := { program := "ytdnkgnknjhnjiaa", sum := "aa191529143148e1d0aeaa7abb2f028df7805ddce020468d58d49edc5d55f547", func := "loop.example/g00857/laws.FnExactValidCone", spec := "fnExactValidCone", unfollowed := true, recurses := true, apart := false, narrowed := true }
def FnExactValidConeUptoSaid : Prop := fnExactValidConeUptoRow.holds Try.pinned (OpenSpec.upto fnExactValidConeSpec)

/-- 'laws.FnExactSectorPlaces', WHERE WHAT IT READS IS OF BULK AT MOST 1048576: true; the input reads as it did. -/
def fnExactSectorPlacesUptoRow : OpenClaim := { program := "ytdnkgnknjhnjiaa", sum := "aa191529143148e1d0aeaa7abb2f028df7805ddce020468d58d49edc5d55f547", func := "loop.example/g00857/laws.FnExactSectorPlaces", spec := "fnExactSectorPlaces", unfollowed := true, recurses := true, apart := false, narrowed := true }
def FnExactSectorPlacesUptoSaid : Prop := fnExactSectorPlacesUptoRow.holds Try.pinned (OpenSpec.upto fnExactSectorPlacesSpec)

/-- 'laws.FnExactCrimpSectors', WHERE WHAT IT READS IS OF BULK AT MOST 1048576: true; the input reads as it did. -/
def fnExactCrimpSectorsUptoRow : OpenClaim := { program := "ytdnkgnknjhnjiaa", sum := "aa191529143148e1d0aeaa7abb2f028df7805ddce020468d58d49edc5d55f547", func := "loop.example/g00857/laws.FnExactCrimpSectors", spec := "fnExactCrimpSectors", inPlace := ["slices.overlaps[int64]"], unfollowed := true, recurses := true, apart := false, narrowed := true }
def FnExactCrimpSectorsUptoSaid : Prop := fnExactCrimpSectorsUptoRow.holds Try.pinned (OpenSpec.upto fnExactCrimpSectorsSpec)

end Rows
end Go.Proofs.Ytdnkgnknjhnjiaa
