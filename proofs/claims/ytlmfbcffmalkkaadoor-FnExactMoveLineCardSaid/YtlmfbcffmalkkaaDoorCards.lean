/-
  DERIVED. GIVEN WITH THE SEED: THE CARDS: each row of YtlmfbcffmalkkaaDoorRows.lean that lists a variable, with what it lists TIED to the program's text (the seventh form; the later family's looks); each row that meets fmt, with fmt's text TOLD by the authors' own Lean function (tested against real Go, not proved from fmt's source: count such statements apart). THE CARD IS WHAT COUNTS. Prove the row's statement (the work); the ties are given (YtlmfbcffmalkkaaDoorTie.lean); close each card by the builder's one call (the guide's Derived/Test/ToyasCard.lean, 'card_holds'). Laid BY PROGRAM, IN A SANDBOX (cutbox-door.mjs). By AI agents, Wed Nov 11 2026. No macro, syntax, notation, axiom, sorry.
-/
import Derived.Test.YtlmfbcffmalkkaaDoorRows
import GoSem.ClaimSeven
namespace Go.Proofs.YtlmfbcffmalkkaaDoor
namespace Rows

/-- THE TIED CARD OF 'laws.FnExactValidMotion'. -/
def fnExactValidMotionCard : Claim7 := { stood := { row := fnExactValidMotionRow, standIns := [], harness := (true, "e233bde7d6847b19254eff6520305746e3987894374712b8401c188fdded12dc"), looks := false }, kinds := [], alts := [], laidByText := true, laidKinds := [.data], laidTests := true, laidLooks := .later }
def FnExactValidMotionCardSaid : Prop := Claim7.holds Tryd.pinned (.plain (OpenSpec.ofChange fnExactValidMotionSpec)) fnExactValidMotionCard

/-- THE TIED CARD OF 'laws.FnExactMoveDirection'. -/
def fnExactMoveDirectionCard : Claim7 := { stood := { row := fnExactMoveDirectionRow, standIns := [], harness := (true, "e233bde7d6847b19254eff6520305746e3987894374712b8401c188fdded12dc"), looks := false }, kinds := [], alts := [], laidByText := true, laidKinds := [.data], laidTests := true, laidLooks := .later }
def FnExactMoveDirectionCardSaid : Prop := Claim7.holds Tryd.pinned (.plain (OpenSpec.ofChange fnExactMoveDirectionSpec)) fnExactMoveDirectionCard

/-- THE TIED CARD OF 'laws.FnExactMovePoint'. -/
def fnExactMovePointCard : Claim7 := { stood := { row := fnExactMovePointRow, standIns := [], harness := (true, "e233bde7d6847b19254eff6520305746e3987894374712b8401c188fdded12dc"), looks := false }, kinds := [], alts := [], laidByText := true, laidKinds := [.data, .data], laidTests := true, laidLooks := .later }
def FnExactMovePointCardSaid : Prop := Claim7.holds Tryd.pinned (.plain (OpenSpec.ofChange fnExactMovePointSpec)) fnExactMovePointCard

/-- THE TIED CARD OF 'laws.FnExactMoveLine'. -/
def fnExactMoveLineCard : Claim7 := { stood := { row := fnExactMoveLineRow, standIns := [], harness := (true, "e233bde7d6847b19254eff6520305746e3987894374712b8401c188fdded12dc"), looks := false }, kinds := [], alts := [], laidByText := true, laidKinds := [.data, .data], laidTests := true, laidLooks := .later }
def FnExactMoveLineCardSaid : Prop := Claim7.holds Tryd.pinned (.plain (OpenSpec.ofChange fnExactMoveLineSpec)) fnExactMoveLineCard

/-- THE SECOND FORM's CARD OF 'laws.FnExactValidMotion'. -/
def fnExactValidMotionUptoCard : Claim7 := { stood := { row := fnExactValidMotionUptoRow, standIns := [], harness := (true, "e233bde7d6847b19254eff6520305746e3987894374712b8401c188fdded12dc"), looks := false }, kinds := [], alts := [], laidByText := true, laidKinds := [.data], laidTests := true, laidLooks := .later }
def FnExactValidMotionUptoCardSaid : Prop := Claim7.holds Tryd.pinned (.plain (OpenSpec.upto fnExactValidMotionSpec)) fnExactValidMotionUptoCard

/-- THE SECOND FORM's CARD OF 'laws.FnExactMoveDirection'. -/
def fnExactMoveDirectionUptoCard : Claim7 := { stood := { row := fnExactMoveDirectionUptoRow, standIns := [], harness := (true, "e233bde7d6847b19254eff6520305746e3987894374712b8401c188fdded12dc"), looks := false }, kinds := [], alts := [], laidByText := true, laidKinds := [.data], laidTests := true, laidLooks := .later }
def FnExactMoveDirectionUptoCardSaid : Prop := Claim7.holds Tryd.pinned (.plain (OpenSpec.upto fnExactMoveDirectionSpec)) fnExactMoveDirectionUptoCard

/-- THE SECOND FORM's CARD OF 'laws.FnExactMovePoint'. -/
def fnExactMovePointUptoCard : Claim7 := { stood := { row := fnExactMovePointUptoRow, standIns := [], harness := (true, "e233bde7d6847b19254eff6520305746e3987894374712b8401c188fdded12dc"), looks := false }, kinds := [], alts := [], laidByText := true, laidKinds := [.data, .data], laidTests := true, laidLooks := .later }
def FnExactMovePointUptoCardSaid : Prop := Claim7.holds Tryd.pinned (.plain (OpenSpec.upto fnExactMovePointSpec)) fnExactMovePointUptoCard

/-- THE SECOND FORM's CARD OF 'laws.FnExactMoveLine'. -/
def fnExactMoveLineUptoCard : Claim7 := { stood := { row := fnExactMoveLineUptoRow, standIns := [], harness := (true, "e233bde7d6847b19254eff6520305746e3987894374712b8401c188fdded12dc"), looks := false }, kinds := [], alts := [], laidByText := true, laidKinds := [.data, .data], laidTests := true, laidLooks := .later }
def FnExactMoveLineUptoCardSaid : Prop := Claim7.holds Tryd.pinned (.plain (OpenSpec.upto fnExactMoveLineSpec)) fnExactMoveLineUptoCard
end Rows
end Go.Proofs.YtlmfbcffmalkkaaDoor
