/-
  DERIVED. GIVEN WITH THE SEED: THE CARDS: each row of YtfbmnkkpbcdjfaaDoorRows.lean that lists a variable, with what it lists TIED to the program's text (the seventh form; the later family's looks); each row that meets fmt, with fmt's text TOLD by the authors' own Lean function (tested against real Go, not proved from fmt's source: count such statements apart). THE CARD IS WHAT COUNTS. Prove the row's statement (the work); the ties are given (YtfbmnkkpbcdjfaaDoorTie.lean); close each card by the builder's one call (the guide's Derived/Test/ToyasCard.lean, 'card_holds'). Laid BY PROGRAM, IN A SANDBOX (cutbox-door.mjs). By AI agents, Wed Nov 11 2026. No macro, syntax, notation, axiom, sorry.
-/
import Derived.Test.YtfbmnkkpbcdjfaaDoorRows
import GoSem.ClaimSeven
namespace Go.Proofs.YtfbmnkkpbcdjfaaDoor
namespace Rows

/-- THE TIED CARD OF 'padlocklaw.ExprKinds'. -/
def exprKindsCard : Claim7 := { stood := { row := exprKindsRow, standIns := [], harness := (true, "3c19e83de5868e904e139b044dbd981949505c13f90995a5f4b63f201f73a62b"), looks := false }, kinds := [], alts := [], laidByText := true, laidKinds := [.data, .data, .data, .data, .data, .data], laidTests := true, laidLooks := .later }
def ExprKindsCardSaid : Prop := Claim7.holds Tryd.pinned (.plain (OpenSpec.ofChange exprKindsSpec)) exprKindsCard

/-- THE TIED CARD OF 'padlockkeep.KindTold'. -/
def kindToldCard : Claim7 := { stood := { row := kindToldRow, standIns := [], harness := (true, "3c19e83de5868e904e139b044dbd981949505c13f90995a5f4b63f201f73a62b"), looks := false }, kinds := [], alts := [], laidByText := true, laidKinds := [.data, .data, .data, .data, .data, .data], laidTests := true, laidLooks := .later }
def KindToldCardSaid : Prop := Claim7.holds Tryd.pinned (.plain (OpenSpec.ofChange kindToldSpec)) kindToldCard

/-- THE TIED CARD OF 'padlockkeep.EvalNot'. -/
def evalNotCard : Claim7 := { stood := { row := evalNotRow, standIns := [], harness := (true, "3c19e83de5868e904e139b044dbd981949505c13f90995a5f4b63f201f73a62b"), looks := false }, kinds := [], alts := [], laidByText := true, laidKinds := [.data, .data, .data, .data, .data, .data], laidTests := true, laidLooks := .later }
def EvalNotCardSaid : Prop := Claim7.holds Tryd.pinned (.plain (OpenSpec.ofChange evalNotSpec)) evalNotCard

/-- THE TIED CARD OF 'padlockkeep.EvalColumn'. -/
def evalColumnCard : Claim7 := { stood := { row := evalColumnRow, standIns := [], harness := (true, "3c19e83de5868e904e139b044dbd981949505c13f90995a5f4b63f201f73a62b"), looks := false }, kinds := [], alts := [], laidByText := true, laidKinds := [.data, .data, .data, .data, .data, .data], laidTests := true, laidLooks := .later }
def EvalColumnCardSaid : Prop := Claim7.holds Tryd.pinned (.plain (OpenSpec.ofChange evalColumnSpec)) evalColumnCard

/-- THE SECOND FORM's CARD OF 'padlocklaw.ExprKinds'. -/
def exprKindsUptoCard : Claim7 := { stood := { row := exprKindsUptoRow, standIns := [], harness := (true, "3c19e83de5868e904e139b044dbd981949505c13f90995a5f4b63f201f73a62b"), looks := false }, kinds := [], alts := [], laidByText := true, laidKinds := [.data, .data, .data, .data, .data, .data], laidTests := true, laidLooks := .later }
def ExprKindsUptoCardSaid : Prop := Claim7.holds Tryd.pinned (.plain (OpenSpec.upto exprKindsSpec)) exprKindsUptoCard

/-- THE SECOND FORM's CARD OF 'padlockkeep.KindTold'. -/
def kindToldUptoCard : Claim7 := { stood := { row := kindToldUptoRow, standIns := [], harness := (true, "3c19e83de5868e904e139b044dbd981949505c13f90995a5f4b63f201f73a62b"), looks := false }, kinds := [], alts := [], laidByText := true, laidKinds := [.data, .data, .data, .data, .data, .data], laidTests := true, laidLooks := .later }
def KindToldUptoCardSaid : Prop := Claim7.holds Tryd.pinned (.plain (OpenSpec.upto kindToldSpec)) kindToldUptoCard

/-- THE SECOND FORM's CARD OF 'padlockkeep.EvalNot'. -/
def evalNotUptoCard : Claim7 := { stood := { row := evalNotUptoRow, standIns := [], harness := (true, "3c19e83de5868e904e139b044dbd981949505c13f90995a5f4b63f201f73a62b"), looks := false }, kinds := [], alts := [], laidByText := true, laidKinds := [.data, .data, .data, .data, .data, .data], laidTests := true, laidLooks := .later }
def EvalNotUptoCardSaid : Prop := Claim7.holds Tryd.pinned (.plain (OpenSpec.upto evalNotSpec)) evalNotUptoCard

/-- THE SECOND FORM's CARD OF 'padlockkeep.EvalColumn'. -/
def evalColumnUptoCard : Claim7 := { stood := { row := evalColumnUptoRow, standIns := [], harness := (true, "3c19e83de5868e904e139b044dbd981949505c13f90995a5f4b63f201f73a62b"), looks := false }, kinds := [], alts := [], laidByText := true, laidKinds := [.data, .data, .data, .data, .data, .data], laidTests := true, laidLooks := .later }
def EvalColumnUptoCardSaid : Prop := Claim7.holds Tryd.pinned (.plain (OpenSpec.upto evalColumnSpec)) evalColumnUptoCard
end Rows
end Go.Proofs.YtfbmnkkpbcdjfaaDoor
