/-
  DERIVED. GIVEN WITH THE SEED: THE CARDS: each row of YtafbdnjabgfjeaaGreatDoorRows.lean that lists a variable, with what it lists TIED to the program's text (the seventh form; the later family's looks); each row that meets fmt, with fmt's text TOLD by the authors' own Lean function (tested against real Go, not proved from fmt's source: count such statements apart). THE CARD IS WHAT COUNTS. Prove the row's statement (the work); the ties are given (YtafbdnjabgfjeaaGreatDoorTie.lean); close each card by the builder's one call (the guide's Derived/Test/ToyasCard.lean, 'card_holds'). Laid BY PROGRAM, IN A SANDBOX (cutbox-door.mjs). By AI agents, Wed Nov 11 2026. No macro, syntax, notation, axiom, sorry.
-/
import Derived.Test.YtafbdnjabgfjeaaGreatDoorRows
import GoSem.ClaimSeven
namespace Go.Proofs.YtafbdnjabgfjeaaGreatDoor
namespace Rows

/-- THE TIED CARD OF 'laws.FnReflections'. -/
def fnReflectionsCard : Claim7 := { stood := { row := fnReflectionsRow, standIns := [], harness := (true, "7f7c026a60e251a60e7614f78d0993b00b6815bf9134d7a4a2508b2591e992b5"), looks := false }, kinds := [], alts := [], laidByText := true, laidKinds := [.data, .data], laidTests := true, laidLooks := .later }
def FnReflectionsCardSaid : Prop := Claim7.holds Tryz.pinned (.plain (OpenSpec.ofChange fnReflectionsSpec)) fnReflectionsCard

/-- THE TIED CARD OF 'laws.FnExactMovePolygon'. -/
def fnExactMovePolygonCard : Claim7 := { stood := { row := fnExactMovePolygonRow, standIns := [], harness := (true, "7f7c026a60e251a60e7614f78d0993b00b6815bf9134d7a4a2508b2591e992b5"), looks := false }, kinds := [], alts := [], laidByText := true, laidKinds := [.data, .data], laidTests := true, laidLooks := .later }
def FnExactMovePolygonCardSaid : Prop := Claim7.holds Tryz.pinned (.plain (OpenSpec.ofChange fnExactMovePolygonSpec)) fnExactMovePolygonCard

/-- THE SECOND FORM's CARD OF 'laws.FnReflections'. -/
def fnReflectionsUptoCard : Claim7 := { stood := { row := fnReflectionsUptoRow, standIns := [], harness := (true, "7f7c026a60e251a60e7614f78d0993b00b6815bf9134d7a4a2508b2591e992b5"), looks := false }, kinds := [], alts := [], laidByText := true, laidKinds := [.data, .data], laidTests := true, laidLooks := .later }
def FnReflectionsUptoCardSaid : Prop := Claim7.holds Tryz.pinned (.plain (OpenSpec.upto fnReflectionsSpec)) fnReflectionsUptoCard

/-- THE SECOND FORM's CARD OF 'laws.FnExactMovePolygon'. -/
def fnExactMovePolygonUptoCard : Claim7 := { stood := { row := fnExactMovePolygonUptoRow, standIns := [], harness := (true, "7f7c026a60e251a60e7614f78d0993b00b6815bf9134d7a4a2508b2591e992b5"), looks := false }, kinds := [], alts := [], laidByText := true, laidKinds := [.data, .data], laidTests := true, laidLooks := .later }
def FnExactMovePolygonUptoCardSaid : Prop := Claim7.holds Tryz.pinned (.plain (OpenSpec.upto fnExactMovePolygonSpec)) fnExactMovePolygonUptoCard
end Rows
end Go.Proofs.YtafbdnjabgfjeaaGreatDoor
