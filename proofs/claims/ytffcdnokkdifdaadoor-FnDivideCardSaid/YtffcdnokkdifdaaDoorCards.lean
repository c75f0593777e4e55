/-
  DERIVED. GIVEN WITH THE SEED: THE CARDS: each row of YtffcdnokkdifdaaDoorRows.lean that lists a variable, with what it lists TIED to the program's text (the seventh form; the later family's looks); each row that meets fmt, with fmt's text TOLD by the authors' own Lean function (tested against real Go, not proved from fmt's source: count such statements apart). THE CARD IS WHAT COUNTS. Prove the row's statement (the work); the ties are given (YtffcdnokkdifdaaDoorTie.lean); close each card by the builder's one call (the guide's Derived/Test/ToyasCard.lean, 'card_holds'). Laid BY PROGRAM, IN A SANDBOX (cutbox-door.mjs). By AI agents, Wed Nov 11 2026. No macro, syntax, notation, axiom, sorry.
-/
import Derived.Test.YtffcdnokkdifdaaDoorRows
import GoSem.ClaimSeven
namespace Go.Proofs.YtffcdnokkdifdaaDoor
namespace Rows

/-- THE TIED CARD OF 'laws.FnNums'. -/
def fnNumsCard : Claim7 := { stood := { row := fnNumsRow, standIns := [], harness := (true, "be2efc5f2212c94700505ed907e169d09e5d2a8483377d00200659cd881ea7ce"), looks := true }, kinds := [], alts := [], laidByText := true, laidKinds := [.data, .data, .data, .data, .sentinel, .sentinel, .pinned], laidTests := true, laidLooks := .later }
def FnNumsCardSaid : Prop := Claim7.holds Tryd.pinned (.plain (OpenSpec.ofChange fnNumsSpec)) fnNumsCard

/-- THE TIED CARD OF 'laws.FnNumSigns'. -/
def fnNumSignsCard : Claim7 := { stood := { row := fnNumSignsRow, standIns := [], harness := (true, "be2efc5f2212c94700505ed907e169d09e5d2a8483377d00200659cd881ea7ce"), looks := true }, kinds := [], alts := [], laidByText := true, laidKinds := [.data], laidTests := true, laidLooks := .later }
def FnNumSignsCardSaid : Prop := Claim7.holds Tryd.pinned (.plain (OpenSpec.ofChange fnNumSignsSpec)) fnNumSignsCard

/-- THE TIED CARD OF 'laws.FnDivide'. -/
def fnDivideCard : Claim7 := { stood := { row := fnDivideRow, standIns := [], harness := (true, "be2efc5f2212c94700505ed907e169d09e5d2a8483377d00200659cd881ea7ce"), looks := true }, kinds := [], alts := [], laidByText := true, laidKinds := [.data], laidTests := true, laidLooks := .later }
def FnDivideCardSaid : Prop := Claim7.holds Tryd.pinned (.plain (OpenSpec.ofChange fnDivideSpec)) fnDivideCard

/-- THE TIED CARD OF 'laws.FnExactCodeName'. -/
def fnExactCodeNameCard : Claim7 := { stood := { row := fnExactCodeNameRow, standIns := [], harness := (true, "be2efc5f2212c94700505ed907e169d09e5d2a8483377d00200659cd881ea7ce"), looks := true }, kinds := [], alts := [], laidByText := true, laidKinds := [.data], laidTests := true, laidLooks := .later }
def FnExactCodeNameCardSaid : Prop := Claim7.holds Tryd.pinned (.plain (OpenSpec.ofChange fnExactCodeNameSpec)) fnExactCodeNameCard

/-- THE TIED CARD OF 'laws.FnExactValidNum'. -/
def fnExactValidNumCard : Claim7 := { stood := { row := fnExactValidNumRow, standIns := [], harness := (true, "be2efc5f2212c94700505ed907e169d09e5d2a8483377d00200659cd881ea7ce"), looks := true }, kinds := [], alts := [], laidByText := true, laidKinds := [.data], laidTests := true, laidLooks := .later }
def FnExactValidNumCardSaid : Prop := Claim7.holds Tryd.pinned (.plain (OpenSpec.ofChange fnExactValidNumSpec)) fnExactValidNumCard

/-- THE TIED CARD OF 'laws.FnExactMakeNum'. -/
def fnExactMakeNumCard : Claim7 := { stood := { row := fnExactMakeNumRow, standIns := [], harness := (true, "be2efc5f2212c94700505ed907e169d09e5d2a8483377d00200659cd881ea7ce"), looks := true }, kinds := [], alts := [], laidByText := true, laidKinds := [.data], laidTests := true, laidLooks := .later }
def FnExactMakeNumCardSaid : Prop := Claim7.holds Tryd.pinned (.plain (OpenSpec.ofChange fnExactMakeNumSpec)) fnExactMakeNumCard

/-- THE TIED CARD OF 'laws.FnExactAddNum'. -/
def fnExactAddNumCard : Claim7 := { stood := { row := fnExactAddNumRow, standIns := [], harness := (true, "be2efc5f2212c94700505ed907e169d09e5d2a8483377d00200659cd881ea7ce"), looks := true }, kinds := [], alts := [], laidByText := true, laidKinds := [.data], laidTests := true, laidLooks := .later }
def FnExactAddNumCardSaid : Prop := Claim7.holds Tryd.pinned (.plain (OpenSpec.ofChange fnExactAddNumSpec)) fnExactAddNumCard

/-- THE TIED CARD OF 'laws.FnExactSubNum'. -/
def fnExactSubNumCard : Claim7 := { stood := { row := fnExactSubNumRow, standIns := [], harness := (true, "be2efc5f2212c94700505ed907e169d09e5d2a8483377d00200659cd881ea7ce"), looks := true }, kinds := [], alts := [], laidByText := true, laidKinds := [.data], laidTests := true, laidLooks := .later }
def FnExactSubNumCardSaid : Prop := Claim7.holds Tryd.pinned (.plain (OpenSpec.ofChange fnExactSubNumSpec)) fnExactSubNumCard

/-- THE TIED CARD OF 'laws.FnExactMulNum'. -/
def fnExactMulNumCard : Claim7 := { stood := { row := fnExactMulNumRow, standIns := [], harness := (true, "be2efc5f2212c94700505ed907e169d09e5d2a8483377d00200659cd881ea7ce"), looks := true }, kinds := [], alts := [], laidByText := true, laidKinds := [.data], laidTests := true, laidLooks := .later }
def FnExactMulNumCardSaid : Prop := Claim7.holds Tryd.pinned (.plain (OpenSpec.ofChange fnExactMulNumSpec)) fnExactMulNumCard

/-- THE TIED CARD OF 'laws.FnExactDivNum'. -/
def fnExactDivNumCard : Claim7 := { stood := { row := fnExactDivNumRow, standIns := [], harness := (true, "be2efc5f2212c94700505ed907e169d09e5d2a8483377d00200659cd881ea7ce"), looks := true }, kinds := [], alts := [], laidByText := true, laidKinds := [.data], laidTests := true, laidLooks := .later }
def FnExactDivNumCardSaid : Prop := Claim7.holds Tryd.pinned (.plain (OpenSpec.ofChange fnExactDivNumSpec)) fnExactDivNumCard

/-- THE TIED CARD OF 'laws.FnExactSignNum'. -/
def fnExactSignNumCard : Claim7 := { stood := { row := fnExactSignNumRow, standIns := [], harness := (true, "be2efc5f2212c94700505ed907e169d09e5d2a8483377d00200659cd881ea7ce"), looks := true }, kinds := [], alts := [], laidByText := true, laidKinds := [.data], laidTests := true, laidLooks := .later }
def FnExactSignNumCardSaid : Prop := Claim7.holds Tryd.pinned (.plain (OpenSpec.ofChange fnExactSignNumSpec)) fnExactSignNumCard

/-- THE TIED CARD OF 'laws.FnExactCompareNum'. -/
def fnExactCompareNumCard : Claim7 := { stood := { row := fnExactCompareNumRow, standIns := [], harness := (true, "be2efc5f2212c94700505ed907e169d09e5d2a8483377d00200659cd881ea7ce"), looks := true }, kinds := [], alts := [], laidByText := true, laidKinds := [.data], laidTests := true, laidLooks := .later }
def FnExactCompareNumCardSaid : Prop := Claim7.holds Tryd.pinned (.plain (OpenSpec.ofChange fnExactCompareNumSpec)) fnExactCompareNumCard

/-- THE TIED CARD OF 'laws.FnExactFloorNum'. -/
def fnExactFloorNumCard : Claim7 := { stood := { row := fnExactFloorNumRow, standIns := [], harness := (true, "be2efc5f2212c94700505ed907e169d09e5d2a8483377d00200659cd881ea7ce"), looks := true }, kinds := [], alts := [], laidByText := true, laidKinds := [.data], laidTests := true, laidLooks := .later }
def FnExactFloorNumCardSaid : Prop := Claim7.holds Tryd.pinned (.plain (OpenSpec.ofChange fnExactFloorNumSpec)) fnExactFloorNumCard

/-- THE TIED CARD OF 'laws.FnExactNumText'. -/
def fnExactNumTextCard : Claim7 := { stood := { row := fnExactNumTextRow, standIns := [], harness := (true, "be2efc5f2212c94700505ed907e169d09e5d2a8483377d00200659cd881ea7ce"), looks := true }, kinds := [], alts := [], laidByText := true, laidKinds := [.data, .data, .data], laidTests := true, laidLooks := .later }
def FnExactNumTextCardSaid : Prop := Claim7.holds Tryd.pinned (.plain (OpenSpec.ofChange fnExactNumTextSpec)) fnExactNumTextCard

/-- THE TIED CARD OF 'laws.FnExactReadNum'. -/
def fnExactReadNumCard : Claim7 := { stood := { row := fnExactReadNumRow, standIns := [], harness := (true, "be2efc5f2212c94700505ed907e169d09e5d2a8483377d00200659cd881ea7ce"), looks := true }, kinds := [], alts := [], laidByText := true, laidKinds := [.data, .data, .data, .data, .sentinel, .sentinel, .pinned], laidTests := true, laidLooks := .later }
def FnExactReadNumCardSaid : Prop := Claim7.holds Tryd.pinned (.plain (OpenSpec.ofChange fnExactReadNumSpec)) fnExactReadNumCard

/-- THE SECOND FORM's CARD OF 'laws.FnNums'. -/
def fnNumsUptoCard : Claim7 := { stood := { row := fnNumsUptoRow, standIns := [], harness := (true, "be2efc5f2212c94700505ed907e169d09e5d2a8483377d00200659cd881ea7ce"), looks := true }, kinds := [], alts := [], laidByText := true, laidKinds := [.data, .data, .data, .data, .sentinel, .sentinel, .pinned], laidTests := true, laidLooks := .later }
def FnNumsUptoCardSaid : Prop := Claim7.holds Tryd.pinned (.plain (OpenSpec.upto fnNumsSpec)) fnNumsUptoCard

/-- THE SECOND FORM's CARD OF 'laws.FnNumSigns'. -/
def fnNumSignsUptoCard : Claim7 := { stood := { row := fnNumSignsUptoRow, standIns := [], harness := (true, "be2efc5f2212c94700505ed907e169d09e5d2a8483377d00200659cd881ea7ce"), looks := true }, kinds := [], alts := [], laidByText := true, laidKinds := [.data], laidTests := true, laidLooks := .later }
def FnNumSignsUptoCardSaid : Prop := Claim7.holds Tryd.pinned (.plain (OpenSpec.upto fnNumSignsSpec)) fnNumSignsUptoCard

/-- THE SECOND FORM's CARD OF 'laws.FnDivide'. -/
def fnDivideUptoCard : Claim7 := { stood := { row := fnDivideUptoRow, standIns := [], harness := (true, "be2efc5f2212c94700505ed907e169d09e5d2a8483377d00200659cd881ea7ce"), looks := true }, kinds := [], alts := [], laidByText := true, laidKinds := [.data], laidTests := true, laidLooks := .later }
def FnDivideUptoCardSaid : Prop := Claim7.holds Tryd.pinned (.plain (OpenSpec.upto fnDivideSpec)) fnDivideUptoCard

/-- THE SECOND FORM's CARD OF 'laws.FnExactCodeName'. -/
def fnExactCodeNameUptoCard : Claim7 := { stood := { row := fnExactCodeNameUptoRow, standIns := [], harness := (true, "be2efc5f2212c94700505ed907e169d09e5d2a8483377d00200659cd881ea7ce"), looks := true }, kinds := [], alts := [], laidByText := true, laidKinds := [.data], laidTests := true, laidLooks := .later }
def FnExactCodeNameUptoCardSaid : Prop := Claim7.holds Tryd.pinned (.plain (OpenSpec.upto fnExactCodeNameSpec)) fnExactCodeNameUptoCard

/-- THE SECOND FORM's CARD OF 'laws.FnExactValidNum'. -/
def fnExactValidNumUptoCard : Claim7 := { stood := { row := fnExactValidNumUptoRow, standIns := [], harness := (true, "be2efc5f2212c94700505ed907e169d09e5d2a8483377d00200659cd881ea7ce"), looks := true }, kinds := [], alts := [], laidByText := true, laidKinds := [.data], laidTests := true, laidLooks := .later }
def FnExactValidNumUptoCardSaid : Prop := Claim7.holds Tryd.pinned (.plain (OpenSpec.upto fnExactValidNumSpec)) fnExactValidNumUptoCard

/-- THE SECOND FORM's CARD OF 'laws.FnExactMakeNum'. -/
def fnExactMakeNumUptoCard : Claim7 := { stood := { row := fnExactMakeNumUptoRow, standIns := [], harness := (true, "be2efc5f2212c94700505ed907e169d09e5d2a8483377d00200659cd881ea7ce"), looks := true }, kinds := [], alts := [], laidByText := true, laidKinds := [.data], laidTests := true, laidLooks := .later }
def FnExactMakeNumUptoCardSaid : Prop := Claim7.holds Tryd.pinned (.plain (OpenSpec.upto fnExactMakeNumSpec)) fnExactMakeNumUptoCard

/-- THE SECOND FORM's CARD OF 'laws.FnExactAddNum'. -/
def fnExactAddNumUptoCard : Claim7 := { stood := { row := fnExactAddNumUptoRow, standIns := [], harness := (true, "be2efc5f2212c94700505ed907e169d09e5d2a8483377d00200659cd881ea7ce"), looks := true }, kinds := [], alts := [], laidByText := true, laidKinds := [.data], laidTests := true, laidLooks := .later }
def FnExactAddNumUptoCardSaid : Prop := Claim7.holds Tryd.pinned (.plain (OpenSpec.upto fnExactAddNumSpec)) fnExactAddNumUptoCard

/-- THE SECOND FORM's CARD OF 'laws.FnExactSubNum'. -/
def fnExactSubNumUptoCard : Claim7 := { stood := { row := fnExactSubNumUptoRow, standIns := [], harness := (true, "be2efc5f2212c94700505ed907e169d09e5d2a8483377d00200659cd881ea7ce"), looks := true }, kinds := [], alts := [], laidByText := true, laidKinds := [.data], laidTests := true, laidLooks := .later }
def FnExactSubNumUptoCardSaid : Prop := Claim7.holds Tryd.pinned (.plain (OpenSpec.upto fnExactSubNumSpec)) fnExactSubNumUptoCard

/-- THE SECOND FORM's CARD OF 'laws.FnExactMulNum'. -/
def fnExactMulNumUptoCard : Claim7 := { stood := { row := fnExactMulNumUptoRow, standIns := [], harness := (true, "be2efc5f2212c94700505ed907e169d09e5d2a8483377d00200659cd881ea7ce"), looks := true }, kinds := [], alts := [], laidByText := true, laidKinds := [.data], laidTests := true, laidLooks := .later }
def FnExactMulNumUptoCardSaid : Prop := Claim7.holds Tryd.pinned (.plain (OpenSpec.upto fnExactMulNumSpec)) fnExactMulNumUptoCard

/-- THE SECOND FORM's CARD OF 'laws.FnExactDivNum'. -/
def fnExactDivNumUptoCard : Claim7 := { stood := { row := fnExactDivNumUptoRow, standIns := [], harness := (true, "be2efc5f2212c94700505ed907e169d09e5d2a8483377d00200659cd881ea7ce"), looks := true }, kinds := [], alts := [], laidByText := true, laidKinds := [.data], laidTests := true, laidLooks := .later }
def FnExactDivNumUptoCardSaid : Prop := Claim7.holds Tryd.pinned (.plain (OpenSpec.upto fnExactDivNumSpec)) fnExactDivNumUptoCard

/-- THE SECOND FORM's CARD OF 'laws.FnExactSignNum'. -/
def fnExactSignNumUptoCard : Claim7 := { stood := { row := fnExactSignNumUptoRow, standIns := [], harness := (true, "be2efc5f2212c94700505ed907e169d09e5d2a8483377d00200659cd881ea7ce"), looks := true }, kinds := [], alts := [], laidByText := true, laidKinds := [.data], laidTests := true, laidLooks := .later }
def FnExactSignNumUptoCardSaid : Prop := Claim7.holds Tryd.pinned (.plain (OpenSpec.upto fnExactSignNumSpec)) fnExactSignNumUptoCard

/-- THE SECOND FORM's CARD OF 'laws.FnExactCompareNum'. -/
def fnExactCompareNumUptoCard : Claim7 := { stood := { row := fnExactCompareNumUptoRow, standIns := [], harness := (true, "be2efc5f2212c94700505ed907e169d09e5d2a8483377d00200659cd881ea7ce"), looks := true }, kinds := [], alts := [], laidByText := true, laidKinds := [.data], laidTests := true, laidLooks := .later }
def FnExactCompareNumUptoCardSaid : Prop := Claim7.holds Tryd.pinned (.plain (OpenSpec.upto fnExactCompareNumSpec)) fnExactCompareNumUptoCard

/-- THE SECOND FORM's CARD OF 'laws.FnExactFloorNum'. -/
def fnExactFloorNumUptoCard : Claim7 := { stood := { row := fnExactFloorNumUptoRow, standIns := [], harness := (true, "be2efc5f2212c94700505ed907e169d09e5d2a8483377d00200659cd881ea7ce"), looks := true }, kinds := [], alts := [], laidByText := true, laidKinds := [.data], laidTests := true, laidLooks := .later }
def FnExactFloorNumUptoCardSaid : Prop := Claim7.holds Tryd.pinned (.plain (OpenSpec.upto fnExactFloorNumSpec)) fnExactFloorNumUptoCard

/-- THE SECOND FORM's CARD OF 'laws.FnExactNumText'. -/
def fnExactNumTextUptoCard : Claim7 := { stood := { row := fnExactNumTextUptoRow, standIns := [], harness := (true, "be2efc5f2212c94700505ed907e169d09e5d2a8483377d00200659cd881ea7ce"), looks := true }, kinds := [], alts := [], laidByText := true, laidKinds := [.data, .data, .data], laidTests := true, laidLooks := .later }
def FnExactNumTextUptoCardSaid : Prop := Claim7.holds Tryd.pinned (.plain (OpenSpec.upto fnExactNumTextSpec)) fnExactNumTextUptoCard

/-- THE SECOND FORM's CARD OF 'laws.FnExactReadNum'. -/
def fnExactReadNumUptoCard : Claim7 := { stood := { row := fnExactReadNumUptoRow, standIns := [], harness := (true, "be2efc5f2212c94700505ed907e169d09e5d2a8483377d00200659cd881ea7ce"), looks := true }, kinds := [], alts := [], laidByText := true, laidKinds := [.data, .data, .data, .data, .sentinel, .sentinel, .pinned], laidTests := true, laidLooks := .later }
def FnExactReadNumUptoCardSaid : Prop := Claim7.holds Tryd.pinned (.plain (OpenSpec.upto fnExactReadNumSpec)) fnExactReadNumUptoCard
end Rows
end Go.Proofs.YtffcdnokkdifdaaDoor
