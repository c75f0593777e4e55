/-
  DERIVED. GIVEN WITH THE SEED: THE CARDS: each row of YtojgopnjefnglaaDoorRows.lean that lists a variable, with what it lists TIED to the program's text (the seventh form; the later family's looks); each row that meets fmt, with fmt's text TOLD by the authors' own Lean function (tested against real Go, not proved from fmt's source: count such statements apart). THE CARD IS WHAT COUNTS. Prove the row's statement (the work); the ties are given (YtojgopnjefnglaaDoorTie.lean); close each card by the builder's one call (the guide's Derived/Test/ToyasCard.lean, 'card_holds'). Laid BY PROGRAM, IN A SANDBOX (cutbox-door.mjs). By AI agents, Wed Nov 11 2026. No macro, syntax, notation, axiom, sorry.
-/
import Derived.Test.YtojgopnjefnglaaDoorRows
import GoSem.ClaimSeven
namespace Go.Proofs.YtojgopnjefnglaaDoor
namespace Rows

/-- THE TIED CARD OF 'laws.FnExactValidPoint'. -/
def fnExactValidPointCard : Claim7 := { stood := { row := fnExactValidPointRow, standIns := [], harness := (true, "e796af8db43a0d9db2820df0a653e584287af5bb4e79a52aea97d89aed178e29"), looks := false }, kinds := [], alts := [], laidByText := true, laidKinds := [.data], laidTests := true, laidLooks := .later }
def FnExactValidPointCardSaid : Prop := Claim7.holds Tryd.pinned (.plain (OpenSpec.ofChange fnExactValidPointSpec)) fnExactValidPointCard

/-- THE TIED CARD OF 'laws.FnExactValidLine'. -/
def fnExactValidLineCard : Claim7 := { stood := { row := fnExactValidLineRow, standIns := [], harness := (true, "e796af8db43a0d9db2820df0a653e584287af5bb4e79a52aea97d89aed178e29"), looks := false }, kinds := [], alts := [], laidByText := true, laidKinds := [.data], laidTests := true, laidLooks := .later }
def FnExactValidLineCardSaid : Prop := Claim7.holds Tryd.pinned (.plain (OpenSpec.ofChange fnExactValidLineSpec)) fnExactValidLineCard

/-- THE TIED CARD OF 'laws.FnExactComparePoints'. -/
def fnExactComparePointsCard : Claim7 := { stood := { row := fnExactComparePointsRow, standIns := [], harness := (true, "e796af8db43a0d9db2820df0a653e584287af5bb4e79a52aea97d89aed178e29"), looks := false }, kinds := [], alts := [], laidByText := true, laidKinds := [.data], laidTests := true, laidLooks := .later }
def FnExactComparePointsCardSaid : Prop := Claim7.holds Tryd.pinned (.plain (OpenSpec.ofChange fnExactComparePointsSpec)) fnExactComparePointsCard

/-- THE TIED CARD OF 'laws.FnExactDirVector'. -/
def fnExactDirVectorCard : Claim7 := { stood := { row := fnExactDirVectorRow, standIns := [], harness := (true, "e796af8db43a0d9db2820df0a653e584287af5bb4e79a52aea97d89aed178e29"), looks := false }, kinds := [], alts := [], laidByText := true, laidKinds := [.data, .data], laidTests := true, laidLooks := .later }
def FnExactDirVectorCardSaid : Prop := Claim7.holds Tryd.pinned (.plain (OpenSpec.ofChange fnExactDirVectorSpec)) fnExactDirVectorCard

/-- THE TIED CARD OF 'laws.FnExactDirectionOf'. -/
def fnExactDirectionOfCard : Claim7 := { stood := { row := fnExactDirectionOfRow, standIns := [], harness := (true, "e796af8db43a0d9db2820df0a653e584287af5bb4e79a52aea97d89aed178e29"), looks := false }, kinds := [], alts := [], laidByText := true, laidKinds := [.data, .data], laidTests := true, laidLooks := .later }
def FnExactDirectionOfCardSaid : Prop := Claim7.holds Tryd.pinned (.plain (OpenSpec.ofChange fnExactDirectionOfSpec)) fnExactDirectionOfCard

/-- THE TIED CARD OF 'laws.FnExactLineAt'. -/
def fnExactLineAtCard : Claim7 := { stood := { row := fnExactLineAtRow, standIns := [], harness := (true, "e796af8db43a0d9db2820df0a653e584287af5bb4e79a52aea97d89aed178e29"), looks := false }, kinds := [], alts := [], laidByText := true, laidKinds := [.data, .data], laidTests := true, laidLooks := .later }
def FnExactLineAtCardSaid : Prop := Claim7.holds Tryd.pinned (.plain (OpenSpec.ofChange fnExactLineAtSpec)) fnExactLineAtCard

/-- THE TIED CARD OF 'laws.FnExactLineThrough'. -/
def fnExactLineThroughCard : Claim7 := { stood := { row := fnExactLineThroughRow, standIns := [], harness := (true, "e796af8db43a0d9db2820df0a653e584287af5bb4e79a52aea97d89aed178e29"), looks := false }, kinds := [], alts := [], laidByText := true, laidKinds := [.data, .data], laidTests := true, laidLooks := .later }
def FnExactLineThroughCardSaid : Prop := Claim7.holds Tryd.pinned (.plain (OpenSpec.ofChange fnExactLineThroughSpec)) fnExactLineThroughCard

/-- THE TIED CARD OF 'laws.FnExactSideOf'. -/
def fnExactSideOfCard : Claim7 := { stood := { row := fnExactSideOfRow, standIns := [], harness := (true, "e796af8db43a0d9db2820df0a653e584287af5bb4e79a52aea97d89aed178e29"), looks := false }, kinds := [], alts := [], laidByText := true, laidKinds := [.data, .data], laidTests := true, laidLooks := .later }
def FnExactSideOfCardSaid : Prop := Claim7.holds Tryd.pinned (.plain (OpenSpec.ofChange fnExactSideOfSpec)) fnExactSideOfCard

/-- THE TIED CARD OF 'laws.FnExactMeetLines'. -/
def fnExactMeetLinesCard : Claim7 := { stood := { row := fnExactMeetLinesRow, standIns := [], harness := (true, "e796af8db43a0d9db2820df0a653e584287af5bb4e79a52aea97d89aed178e29"), looks := false }, kinds := [], alts := [], laidByText := true, laidKinds := [.data, .data], laidTests := true, laidLooks := .later }
def FnExactMeetLinesCardSaid : Prop := Claim7.holds Tryd.pinned (.plain (OpenSpec.ofChange fnExactMeetLinesSpec)) fnExactMeetLinesCard

/-- THE TIED CARD OF 'laws.FnExactReflectPoint'. -/
def fnExactReflectPointCard : Claim7 := { stood := { row := fnExactReflectPointRow, standIns := [], harness := (true, "e796af8db43a0d9db2820df0a653e584287af5bb4e79a52aea97d89aed178e29"), looks := false }, kinds := [], alts := [], laidByText := true, laidKinds := [.data, .data], laidTests := true, laidLooks := .later }
def FnExactReflectPointCardSaid : Prop := Claim7.holds Tryd.pinned (.plain (OpenSpec.ofChange fnExactReflectPointSpec)) fnExactReflectPointCard

/-- THE TIED CARD OF 'laws.FnExactReflectLine'. -/
def fnExactReflectLineCard : Claim7 := { stood := { row := fnExactReflectLineRow, standIns := [], harness := (true, "e796af8db43a0d9db2820df0a653e584287af5bb4e79a52aea97d89aed178e29"), looks := false }, kinds := [], alts := [], laidByText := true, laidKinds := [.data, .data], laidTests := true, laidLooks := .later }
def FnExactReflectLineCardSaid : Prop := Claim7.holds Tryd.pinned (.plain (OpenSpec.ofChange fnExactReflectLineSpec)) fnExactReflectLineCard

/-- THE TIED CARD OF 'laws.FnExactMidPoint'. -/
def fnExactMidPointCard : Claim7 := { stood := { row := fnExactMidPointRow, standIns := [], harness := (true, "e796af8db43a0d9db2820df0a653e584287af5bb4e79a52aea97d89aed178e29"), looks := false }, kinds := [], alts := [], laidByText := true, laidKinds := [.data], laidTests := true, laidLooks := .later }
def FnExactMidPointCardSaid : Prop := Claim7.holds Tryd.pinned (.plain (OpenSpec.ofChange fnExactMidPointSpec)) fnExactMidPointCard

/-- THE SECOND FORM's CARD OF 'laws.FnExactValidPoint'. -/
def fnExactValidPointUptoCard : Claim7 := { stood := { row := fnExactValidPointUptoRow, standIns := [], harness := (true, "e796af8db43a0d9db2820df0a653e584287af5bb4e79a52aea97d89aed178e29"), looks := false }, kinds := [], alts := [], laidByText := true, laidKinds := [.data], laidTests := true, laidLooks := .later }
def FnExactValidPointUptoCardSaid : Prop := Claim7.holds Tryd.pinned (.plain (OpenSpec.upto fnExactValidPointSpec)) fnExactValidPointUptoCard

/-- THE SECOND FORM's CARD OF 'laws.FnExactValidLine'. -/
def fnExactValidLineUptoCard : Claim7 := { stood := { row := fnExactValidLineUptoRow, standIns := [], harness := (true, "e796af8db43a0d9db2820df0a653e584287af5bb4e79a52aea97d89aed178e29"), looks := false }, kinds := [], alts := [], laidByText := true, laidKinds := [.data], laidTests := true, laidLooks := .later }
def FnExactValidLineUptoCardSaid : Prop := Claim7.holds Tryd.pinned (.plain (OpenSpec.upto fnExactValidLineSpec)) fnExactValidLineUptoCard

/-- THE SECOND FORM's CARD OF 'laws.FnExactComparePoints'. -/
def fnExactComparePointsUptoCard : Claim7 := { stood := { row := fnExactComparePointsUptoRow, standIns := [], harness := (true, "e796af8db43a0d9db2820df0a653e584287af5bb4e79a52aea97d89aed178e29"), looks := false }, kinds := [], alts := [], laidByText := true, laidKinds := [.data], laidTests := true, laidLooks := .later }
def FnExactComparePointsUptoCardSaid : Prop := Claim7.holds Tryd.pinned (.plain (OpenSpec.upto fnExactComparePointsSpec)) fnExactComparePointsUptoCard

/-- THE SECOND FORM's CARD OF 'laws.FnExactDirVector'. -/
def fnExactDirVectorUptoCard : Claim7 := { stood := { row := fnExactDirVectorUptoRow, standIns := [], harness := (true, "e796af8db43a0d9db2820df0a653e584287af5bb4e79a52aea97d89aed178e29"), looks := false }, kinds := [], alts := [], laidByText := true, laidKinds := [.data, .data], laidTests := true, laidLooks := .later }
def FnExactDirVectorUptoCardSaid : Prop := Claim7.holds Tryd.pinned (.plain (OpenSpec.upto fnExactDirVectorSpec)) fnExactDirVectorUptoCard

/-- THE SECOND FORM's CARD OF 'laws.FnExactDirectionOf'. -/
def fnExactDirectionOfUptoCard : Claim7 := { stood := { row := fnExactDirectionOfUptoRow, standIns := [], harness := (true, "e796af8db43a0d9db2820df0a653e584287af5bb4e79a52aea97d89aed178e29"), looks := false }, kinds := [], alts := [], laidByText := true, laidKinds := [.data, .data], laidTests := true, laidLooks := .later }
def FnExactDirectionOfUptoCardSaid : Prop := Claim7.holds Tryd.pinned (.plain (OpenSpec.upto fnExactDirectionOfSpec)) fnExactDirectionOfUptoCard

/-- THE SECOND FORM's CARD OF 'laws.FnExactLineAt'. -/
def fnExactLineAtUptoCard : Claim7 := { stood := { row := fnExactLineAtUptoRow, standIns := [], harness := (true, "e796af8db43a0d9db2820df0a653e584287af5bb4e79a52aea97d89aed178e29"), looks := false }, kinds := [], alts := [], laidByText := true, laidKinds := [.data, .data], laidTests := true, laidLooks := .later }
def FnExactLineAtUptoCardSaid : Prop := Claim7.holds Tryd.pinned (.plain (OpenSpec.upto fnExactLineAtSpec)) fnExactLineAtUptoCard

/-- THE SECOND FORM's CARD OF 'laws.FnExactLineThrough'. -/
def fnExactLineThroughUptoCard : Claim7 := { stood := { row := fnExactLineThroughUptoRow, standIns := [], harness := (true, "e796af8db43a0d9db2820df0a653e584287af5bb4e79a52aea97d89aed178e29"), looks := false }, kinds := [], alts := [], laidByText := true, laidKinds := [.data, .data], laidTests := true, laidLooks := .later }
def FnExactLineThroughUptoCardSaid : Prop := Claim7.holds Tryd.pinned (.plain (OpenSpec.upto fnExactLineThroughSpec)) fnExactLineThroughUptoCard

/-- THE SECOND FORM's CARD OF 'laws.FnExactSideOf'. -/
def fnExactSideOfUptoCard : Claim7 := { stood := { row := fnExactSideOfUptoRow, standIns := [], harness := (true, "e796af8db43a0d9db2820df0a653e584287af5bb4e79a52aea97d89aed178e29"), looks := false }, kinds := [], alts := [], laidByText := true, laidKinds := [.data, .data], laidTests := true, laidLooks := .later }
def FnExactSideOfUptoCardSaid : Prop := Claim7.holds Tryd.pinned (.plain (OpenSpec.upto fnExactSideOfSpec)) fnExactSideOfUptoCard

/-- THE SECOND FORM's CARD OF 'laws.FnExactMeetLines'. -/
def fnExactMeetLinesUptoCard : Claim7 := { stood := { row := fnExactMeetLinesUptoRow, standIns := [], harness := (true, "e796af8db43a0d9db2820df0a653e584287af5bb4e79a52aea97d89aed178e29"), looks := false }, kinds := [], alts := [], laidByText := true, laidKinds := [.data, .data], laidTests := true, laidLooks := .later }
def FnExactMeetLinesUptoCardSaid : Prop := Claim7.holds Tryd.pinned (.plain (OpenSpec.upto fnExactMeetLinesSpec)) fnExactMeetLinesUptoCard

/-- THE SECOND FORM's CARD OF 'laws.FnExactReflectPoint'. -/
def fnExactReflectPointUptoCard : Claim7 := { stood := { row := fnExactReflectPointUptoRow, standIns := [], harness := (true, "e796af8db43a0d9db2820df0a653e584287af5bb4e79a52aea97d89aed178e29"), looks := false }, kinds := [], alts := [], laidByText := true, laidKinds := [.data, .data], laidTests := true, laidLooks := .later }
def FnExactReflectPointUptoCardSaid : Prop := Claim7.holds Tryd.pinned (.plain (OpenSpec.upto fnExactReflectPointSpec)) fnExactReflectPointUptoCard

/-- THE SECOND FORM's CARD OF 'laws.FnExactReflectLine'. -/
def fnExactReflectLineUptoCard : Claim7 := { stood := { row := fnExactReflectLineUptoRow, standIns := [], harness := (true, "e796af8db43a0d9db2820df0a653e584287af5bb4e79a52aea97d89aed178e29"), looks := false }, kinds := [], alts := [], laidByText := true, laidKinds := [.data, .data], laidTests := true, laidLooks := .later }
def FnExactReflectLineUptoCardSaid : Prop := Claim7.holds Tryd.pinned (.plain (OpenSpec.upto fnExactReflectLineSpec)) fnExactReflectLineUptoCard

/-- THE SECOND FORM's CARD OF 'laws.FnExactMidPoint'. -/
def fnExactMidPointUptoCard : Claim7 := { stood := { row := fnExactMidPointUptoRow, standIns := [], harness := (true, "e796af8db43a0d9db2820df0a653e584287af5bb4e79a52aea97d89aed178e29"), looks := false }, kinds := [], alts := [], laidByText := true, laidKinds := [.data], laidTests := true, laidLooks := .later }
def FnExactMidPointUptoCardSaid : Prop := Claim7.holds Tryd.pinned (.plain (OpenSpec.upto fnExactMidPointSpec)) fnExactMidPointUptoCard
end Rows
end Go.Proofs.YtojgopnjefnglaaDoor
