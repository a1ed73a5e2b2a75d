/-
  DERIVED. GIVEN WITH THE SEED: THE CARDS: each row of YtcgomhcglnbalaaDoorRows.lean that lists a variable, with what it lists TIED to the program's text (the seventh form; the later family's looks); each row that meets fmt, with fmt's text TOLD by the authors' own Lean function (tested against real Go, not proved from fmt's source: count such statements apart). THE CARD IS WHAT COUNTS. Prove the row's statement (the work); the ties are given (YtcgomhcglnbalaaDoorTie.lean); close each card by the builder's one call (the guide's Derived/Test/ToyasCard.lean, 'card_holds'). Laid BY PROGRAM, IN A SANDBOX (cutbox-door.mjs). By AI agents, Wed Nov 11 2026. No macro, syntax, notation, axiom, sorry.
-/
import Derived.Test.YtcgomhcglnbalaaDoorRows
import GoSem.ClaimSeven
namespace Go.Proofs.YtcgomhcglnbalaaDoor
namespace Rows

/-- THE TIED CARD OF 'padlocklaw.ExprCols'. -/
def exprColsCard : Claim7 := { stood := { row := exprColsRow, standIns := [], harness := (true, "652c74cccf0f769464ac10d5383c1beb083d6598ca7d4e7ea292582854e6f50b"), looks := false }, kinds := [], alts := [], laidByText := true, laidKinds := [.data, .data, .data, .data, .data, .data], laidTests := true, laidLooks := .later }
def ExprColsCardSaid : Prop := Claim7.holds Tryd.pinned (.plain (OpenSpec.ofChange exprColsSpec)) exprColsCard

/-- THE TIED CARD OF 'padlockkeep.ColsBad'. -/
def colsBadCard : Claim7 := { stood := { row := colsBadRow, standIns := [], harness := (true, "652c74cccf0f769464ac10d5383c1beb083d6598ca7d4e7ea292582854e6f50b"), looks := false }, kinds := [], alts := [], laidByText := true, laidKinds := [.data, .data, .data, .data, .data, .data], laidTests := true, laidLooks := .later }
def ColsBadCardSaid : Prop := Claim7.holds Tryd.pinned (.plain (OpenSpec.ofChange colsBadSpec)) colsBadCard

/-- THE TIED CARD OF 'padlocklaw.ExprRows'. -/
def exprRowsCard : Claim7 := { stood := { row := exprRowsRow, standIns := [], harness := (true, "652c74cccf0f769464ac10d5383c1beb083d6598ca7d4e7ea292582854e6f50b"), looks := false }, kinds := [], alts := [], laidByText := true, laidKinds := [.data, .data, .data, .data, .data, .data], laidTests := true, laidLooks := .later }
def ExprRowsCardSaid : Prop := Claim7.holds Tryd.pinned (.plain (OpenSpec.ofChange exprRowsSpec)) exprRowsCard

/-- THE TIED CARD OF 'padlockkeep.RowNull'. -/
def rowNullCard : Claim7 := { stood := { row := rowNullRow, standIns := [], harness := (true, "652c74cccf0f769464ac10d5383c1beb083d6598ca7d4e7ea292582854e6f50b"), looks := false }, kinds := [], alts := [], laidByText := true, laidKinds := [.data, .data, .data, .data, .data, .data], laidTests := true, laidLooks := .later }
def RowNullCardSaid : Prop := Claim7.holds Tryd.pinned (.plain (OpenSpec.ofChange rowNullSpec)) rowNullCard

/-- THE SECOND FORM's CARD OF 'padlocklaw.ExprCols'. -/
def exprColsUptoCard : Claim7 := { stood := { row := exprColsUptoRow, standIns := [], harness := (true, "652c74cccf0f769464ac10d5383c1beb083d6598ca7d4e7ea292582854e6f50b"), looks := false }, kinds := [], alts := [], laidByText := true, laidKinds := [.data, .data, .data, .data, .data, .data], laidTests := true, laidLooks := .later }
def ExprColsUptoCardSaid : Prop := Claim7.holds Tryd.pinned (.plain (OpenSpec.upto exprColsSpec)) exprColsUptoCard

/-- THE SECOND FORM's CARD OF 'padlockkeep.ColsBad'. -/
def colsBadUptoCard : Claim7 := { stood := { row := colsBadUptoRow, standIns := [], harness := (true, "652c74cccf0f769464ac10d5383c1beb083d6598ca7d4e7ea292582854e6f50b"), looks := false }, kinds := [], alts := [], laidByText := true, laidKinds := [.data, .data, .data, .data, .data, .data], laidTests := true, laidLooks := .later }
def ColsBadUptoCardSaid : Prop := Claim7.holds Tryd.pinned (.plain (OpenSpec.upto colsBadSpec)) colsBadUptoCard

/-- THE SECOND FORM's CARD OF 'padlocklaw.ExprRows'. -/
def exprRowsUptoCard : Claim7 := { stood := { row := exprRowsUptoRow, standIns := [], harness := (true, "652c74cccf0f769464ac10d5383c1beb083d6598ca7d4e7ea292582854e6f50b"), looks := false }, kinds := [], alts := [], laidByText := true, laidKinds := [.data, .data, .data, .data, .data, .data], laidTests := true, laidLooks := .later }
def ExprRowsUptoCardSaid : Prop := Claim7.holds Tryd.pinned (.plain (OpenSpec.upto exprRowsSpec)) exprRowsUptoCard

/-- THE SECOND FORM's CARD OF 'padlockkeep.RowNull'. -/
def rowNullUptoCard : Claim7 := { stood := { row := rowNullUptoRow, standIns := [], harness := (true, "652c74cccf0f769464ac10d5383c1beb083d6598ca7d4e7ea292582854e6f50b"), looks := false }, kinds := [], alts := [], laidByText := true, laidKinds := [.data, .data, .data, .data, .data, .data], laidTests := true, laidLooks := .later }
def RowNullUptoCardSaid : Prop := Claim7.holds Tryd.pinned (.plain (OpenSpec.upto rowNullSpec)) rowNullUptoCard
end Rows
end Go.Proofs.YtcgomhcglnbalaaDoor
