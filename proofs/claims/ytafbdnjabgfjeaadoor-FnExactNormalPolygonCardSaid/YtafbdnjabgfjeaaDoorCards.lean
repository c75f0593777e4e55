/-
  DERIVED. GIVEN WITH THE SEED: THE CARDS: each row of YtafbdnjabgfjeaaDoorRows.lean that lists a variable, with what it lists TIED to the program's text (the seventh form; the later family's looks); each row that meets fmt, with fmt's text TOLD by the authors' own Lean function (tested against real Go, not proved from fmt's source: count such statements apart). THE CARD IS WHAT COUNTS. Prove the row's statement (the work); the ties are given (YtafbdnjabgfjeaaDoorTie.lean); close each card by the builder's one call (the guide's Derived/Test/ToyasCard.lean, 'card_holds'). Laid BY PROGRAM, IN A SANDBOX (cutbox-door.mjs). By AI agents, Wed Nov 11 2026. No macro, syntax, notation, axiom, sorry.
-/
import Derived.Test.YtafbdnjabgfjeaaDoorRows
import GoSem.ClaimSeven
namespace Go.Proofs.YtafbdnjabgfjeaaDoor
namespace Rows

/-- THE TIED CARD OF 'laws.FnMotionLines'. -/
def fnMotionLinesCard : Claim7 := { stood := { row := fnMotionLinesRow, standIns := [], harness := (true, "14001d1d90227413bb88d4c26c4db6665c1ea6c5af62f891621278be88a6cf84"), looks := false }, kinds := [], alts := [], laidByText := true, laidKinds := [.data, .data], laidTests := true, laidLooks := .later }
def FnMotionLinesCardSaid : Prop := Claim7.holds Tryd.pinned (.plain (OpenSpec.ofChange fnMotionLinesSpec)) fnMotionLinesCard

/-- THE TIED CARD OF 'laws.FnMeet'. -/
def fnMeetCard : Claim7 := { stood := { row := fnMeetRow, standIns := [], harness := (true, "14001d1d90227413bb88d4c26c4db6665c1ea6c5af62f891621278be88a6cf84"), looks := false }, kinds := [], alts := [], laidByText := true, laidKinds := [.data, .data], laidTests := true, laidLooks := .later }
def FnMeetCardSaid : Prop := Claim7.holds Tryd.pinned (.plain (OpenSpec.ofChange fnMeetSpec)) fnMeetCard

/-- THE TIED CARD OF 'laws.FnReflect'. -/
def fnReflectCard : Claim7 := { stood := { row := fnReflectRow, standIns := [], harness := (true, "14001d1d90227413bb88d4c26c4db6665c1ea6c5af62f891621278be88a6cf84"), looks := false }, kinds := [], alts := [], laidByText := true, laidKinds := [.data, .data], laidTests := true, laidLooks := .later }
def FnReflectCardSaid : Prop := Claim7.holds Tryd.pinned (.plain (OpenSpec.ofChange fnReflectSpec)) fnReflectCard

/-- THE TIED CARD OF 'laws.FnExactValidPolygon'. -/
def fnExactValidPolygonCard : Claim7 := { stood := { row := fnExactValidPolygonRow, standIns := [], harness := (true, "14001d1d90227413bb88d4c26c4db6665c1ea6c5af62f891621278be88a6cf84"), looks := false }, kinds := [], alts := [], laidByText := true, laidKinds := [.data, .data], laidTests := true, laidLooks := .later }
def FnExactValidPolygonCardSaid : Prop := Claim7.holds Tryd.pinned (.plain (OpenSpec.ofChange fnExactValidPolygonSpec)) fnExactValidPolygonCard

/-- THE TIED CARD OF 'laws.FnExactNormalPolygon'. -/
def fnExactNormalPolygonCard : Claim7 := { stood := { row := fnExactNormalPolygonRow, standIns := [], harness := (true, "14001d1d90227413bb88d4c26c4db6665c1ea6c5af62f891621278be88a6cf84"), looks := false }, kinds := [], alts := [], laidByText := true, laidKinds := [.data, .data], laidTests := true, laidLooks := .later }
def FnExactNormalPolygonCardSaid : Prop := Claim7.holds Tryd.pinned (.plain (OpenSpec.ofChange fnExactNormalPolygonSpec)) fnExactNormalPolygonCard

/-- THE TIED CARD OF 'laws.FnExactInPolygon'. -/
def fnExactInPolygonCard : Claim7 := { stood := { row := fnExactInPolygonRow, standIns := [], harness := (true, "14001d1d90227413bb88d4c26c4db6665c1ea6c5af62f891621278be88a6cf84"), looks := false }, kinds := [], alts := [], laidByText := true, laidKinds := [.data, .data], laidTests := true, laidLooks := .later }
def FnExactInPolygonCardSaid : Prop := Claim7.holds Tryd.pinned (.plain (OpenSpec.ofChange fnExactInPolygonSpec)) fnExactInPolygonCard

/-- THE TIED CARD OF 'laws.FnExactAreaOf'. -/
def fnExactAreaOfCard : Claim7 := { stood := { row := fnExactAreaOfRow, standIns := [], harness := (true, "14001d1d90227413bb88d4c26c4db6665c1ea6c5af62f891621278be88a6cf84"), looks := false }, kinds := [], alts := [], laidByText := true, laidKinds := [.data, .data], laidTests := true, laidLooks := .later }
def FnExactAreaOfCardSaid : Prop := Claim7.holds Tryd.pinned (.plain (OpenSpec.ofChange fnExactAreaOfSpec)) fnExactAreaOfCard

/-- THE SECOND FORM's CARD OF 'laws.FnMotionLines'. -/
def fnMotionLinesUptoCard : Claim7 := { stood := { row := fnMotionLinesUptoRow, standIns := [], harness := (true, "14001d1d90227413bb88d4c26c4db6665c1ea6c5af62f891621278be88a6cf84"), looks := false }, kinds := [], alts := [], laidByText := true, laidKinds := [.data, .data], laidTests := true, laidLooks := .later }
def FnMotionLinesUptoCardSaid : Prop := Claim7.holds Tryd.pinned (.plain (OpenSpec.upto fnMotionLinesSpec)) fnMotionLinesUptoCard

/-- THE SECOND FORM's CARD OF 'laws.FnMeet'. -/
def fnMeetUptoCard : Claim7 := { stood := { row := fnMeetUptoRow, standIns := [], harness := (true, "14001d1d90227413bb88d4c26c4db6665c1ea6c5af62f891621278be88a6cf84"), looks := false }, kinds := [], alts := [], laidByText := true, laidKinds := [.data, .data], laidTests := true, laidLooks := .later }
def FnMeetUptoCardSaid : Prop := Claim7.holds Tryd.pinned (.plain (OpenSpec.upto fnMeetSpec)) fnMeetUptoCard

/-- THE SECOND FORM's CARD OF 'laws.FnReflect'. -/
def fnReflectUptoCard : Claim7 := { stood := { row := fnReflectUptoRow, standIns := [], harness := (true, "14001d1d90227413bb88d4c26c4db6665c1ea6c5af62f891621278be88a6cf84"), looks := false }, kinds := [], alts := [], laidByText := true, laidKinds := [.data, .data], laidTests := true, laidLooks := .later }
def FnReflectUptoCardSaid : Prop := Claim7.holds Tryd.pinned (.plain (OpenSpec.upto fnReflectSpec)) fnReflectUptoCard

/-- THE SECOND FORM's CARD OF 'laws.FnExactValidPolygon'. -/
def fnExactValidPolygonUptoCard : Claim7 := { stood := { row := fnExactValidPolygonUptoRow, standIns := [], harness := (true, "14001d1d90227413bb88d4c26c4db6665c1ea6c5af62f891621278be88a6cf84"), looks := false }, kinds := [], alts := [], laidByText := true, laidKinds := [.data, .data], laidTests := true, laidLooks := .later }
def FnExactValidPolygonUptoCardSaid : Prop := Claim7.holds Tryd.pinned (.plain (OpenSpec.upto fnExactValidPolygonSpec)) fnExactValidPolygonUptoCard

/-- THE SECOND FORM's CARD OF 'laws.FnExactNormalPolygon'. -/
def fnExactNormalPolygonUptoCard : Claim7 := { stood := { row := fnExactNormalPolygonUptoRow, standIns := [], harness := (true, "14001d1d90227413bb88d4c26c4db6665c1ea6c5af62f891621278be88a6cf84"), looks := false }, kinds := [], alts := [], laidByText := true, laidKinds := [.data, .data], laidTests := true, laidLooks := .later }
def FnExactNormalPolygonUptoCardSaid : Prop := Claim7.holds Tryd.pinned (.plain (OpenSpec.upto fnExactNormalPolygonSpec)) fnExactNormalPolygonUptoCard

/-- THE SECOND FORM's CARD OF 'laws.FnExactInPolygon'. -/
def fnExactInPolygonUptoCard : Claim7 := { stood := { row := fnExactInPolygonUptoRow, standIns := [], harness := (true, "14001d1d90227413bb88d4c26c4db6665c1ea6c5af62f891621278be88a6cf84"), looks := false }, kinds := [], alts := [], laidByText := true, laidKinds := [.data, .data], laidTests := true, laidLooks := .later }
def FnExactInPolygonUptoCardSaid : Prop := Claim7.holds Tryd.pinned (.plain (OpenSpec.upto fnExactInPolygonSpec)) fnExactInPolygonUptoCard

/-- THE SECOND FORM's CARD OF 'laws.FnExactAreaOf'. -/
def fnExactAreaOfUptoCard : Claim7 := { stood := { row := fnExactAreaOfUptoRow, standIns := [], harness := (true, "14001d1d90227413bb88d4c26c4db6665c1ea6c5af62f891621278be88a6cf84"), looks := false }, kinds := [], alts := [], laidByText := true, laidKinds := [.data, .data], laidTests := true, laidLooks := .later }
def FnExactAreaOfUptoCardSaid : Prop := Claim7.holds Tryd.pinned (.plain (OpenSpec.upto fnExactAreaOfSpec)) fnExactAreaOfUptoCard
end Rows
end Go.Proofs.YtafbdnjabgfjeaaDoor
