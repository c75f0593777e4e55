/-
  DERIVED. GIVEN WITH THE SEED: THE CARDS: each row of YtgfplfbfjkkalaaDoorRows.lean that lists a variable, with what it lists TIED to the program's text (the seventh form; the later family's looks); each row that meets fmt, with fmt's text TOLD by the authors' own Lean function (tested against real Go, not proved from fmt's source: count such statements apart). THE CARD IS WHAT COUNTS. Prove the row's statement (the work); the ties are given (YtgfplfbfjkkalaaDoorTie.lean); close each card by the builder's one call (the guide's Derived/Test/ToyasCard.lean, 'card_holds'). Laid BY PROGRAM, IN A SANDBOX (cutbox-door.mjs). By AI agents, Wed Nov 11 2026. No macro, syntax, notation, axiom, sorry.
-/
import Derived.Test.YtgfplfbfjkkalaaDoorRows
import GoSem.ClaimSeven
namespace Go.Proofs.YtgfplfbfjkkalaaDoor
namespace Rows

/-- THE TIED CARD OF 'laws.FnMotions'. -/
def fnMotionsCard : Claim7 := { stood := { row := fnMotionsRow, standIns := [], harness := (true, "dab5da53ff237c3ab42ba378fa0fd3f5734e694aec1789e81cfa7ed2f35246ce"), looks := false }, kinds := [], alts := [], laidByText := true, laidKinds := [.data, .data], laidTests := true, laidLooks := .later }
def FnMotionsCardSaid : Prop := Claim7.holds Tryd.pinned (.plain (OpenSpec.ofChange fnMotionsSpec)) fnMotionsCard

/-- THE TIED CARD OF 'laws.FnMotionLines'. -/
def fnMotionLinesCard : Claim7 := { stood := { row := fnMotionLinesRow, standIns := [], harness := (true, "dab5da53ff237c3ab42ba378fa0fd3f5734e694aec1789e81cfa7ed2f35246ce"), looks := false }, kinds := [], alts := [], laidByText := true, laidKinds := [.data, .data], laidTests := true, laidLooks := .later }
def FnMotionLinesCardSaid : Prop := Claim7.holds Tryd.pinned (.plain (OpenSpec.ofChange fnMotionLinesSpec)) fnMotionLinesCard

/-- THE SECOND FORM's CARD OF 'laws.FnMotions'. -/
def fnMotionsUptoCard : Claim7 := { stood := { row := fnMotionsUptoRow, standIns := [], harness := (true, "dab5da53ff237c3ab42ba378fa0fd3f5734e694aec1789e81cfa7ed2f35246ce"), looks := false }, kinds := [], alts := [], laidByText := true, laidKinds := [.data, .data], laidTests := true, laidLooks := .later }
def FnMotionsUptoCardSaid : Prop := Claim7.holds Tryd.pinned (.plain (OpenSpec.upto fnMotionsSpec)) fnMotionsUptoCard

/-- THE SECOND FORM's CARD OF 'laws.FnMotionLines'. -/
def fnMotionLinesUptoCard : Claim7 := { stood := { row := fnMotionLinesUptoRow, standIns := [], harness := (true, "dab5da53ff237c3ab42ba378fa0fd3f5734e694aec1789e81cfa7ed2f35246ce"), looks := false }, kinds := [], alts := [], laidByText := true, laidKinds := [.data, .data], laidTests := true, laidLooks := .later }
def FnMotionLinesUptoCardSaid : Prop := Claim7.holds Tryd.pinned (.plain (OpenSpec.upto fnMotionLinesSpec)) fnMotionLinesUptoCard
end Rows
end Go.Proofs.YtgfplfbfjkkalaaDoor
