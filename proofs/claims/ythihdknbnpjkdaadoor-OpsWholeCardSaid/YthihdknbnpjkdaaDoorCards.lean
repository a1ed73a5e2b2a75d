/-
  DERIVED. GIVEN WITH THE SEED: THE CARDS: each row of YthihdknbnpjkdaaDoorRows.lean that lists a variable, with what it lists TIED to the program's text (the seventh form; the later family's looks); each row that meets fmt, with fmt's text TOLD by the authors' own Lean function (tested against real Go, not proved from fmt's source: count such statements apart). THE CARD IS WHAT COUNTS. Prove the row's statement (the work); the ties are given (YthihdknbnpjkdaaDoorTie.lean); close each card by the builder's one call (the guide's Derived/Test/ToyasCard.lean, 'card_holds'). Laid BY PROGRAM, IN A SANDBOX (cutbox-door.mjs). By AI agents, Wed Nov 11 2026. No macro, syntax, notation, axiom, sorry.
-/
import Derived.Test.YthihdknbnpjkdaaDoorRows
import GoSem.ClaimSeven
namespace Go.Proofs.YthihdknbnpjkdaaDoor
namespace Rows

/-- THE TIED CARD OF 'padlocklaw.ParseNames'. -/
def parseNamesCard : Claim7 := { stood := { row := parseNamesRow, standIns := [], harness := (true, "26b5f738f85676649918fa1461cf958b907d6dfc85326887f57e868e011e15e3"), looks := false }, kinds := [], alts := [], laidByText := true, laidKinds := [.data, .data], laidTests := true, laidLooks := .later }
def ParseNamesCardSaid : Prop := Claim7.holds Tryd.pinned (.plain (OpenSpec.ofChange parseNamesSpec)) parseNamesCard

/-- THE TIED CARD OF 'padlocklaw.ParseExpressions'. -/
def parseExpressionsCard : Claim7 := { stood := { row := parseExpressionsRow, standIns := [], harness := (true, "26b5f738f85676649918fa1461cf958b907d6dfc85326887f57e868e011e15e3"), looks := false }, kinds := [], alts := [], laidByText := true, laidKinds := [.data, .data, .data], laidTests := true, laidLooks := .later }
def ParseExpressionsCardSaid : Prop := Claim7.holds Tryd.pinned (.plain (OpenSpec.ofChange parseExpressionsSpec)) parseExpressionsCard

/-- THE TIED CARD OF 'padlockkeep.NameKept'. -/
def nameKeptCard : Claim7 := { stood := { row := nameKeptRow, standIns := [], harness := (true, "26b5f738f85676649918fa1461cf958b907d6dfc85326887f57e868e011e15e3"), looks := false }, kinds := [], alts := [], laidByText := true, laidKinds := [.data, .data], laidTests := true, laidLooks := .later }
def NameKeptCardSaid : Prop := Claim7.holds Tryd.pinned (.plain (OpenSpec.ofChange nameKeptSpec)) nameKeptCard

/-- THE TIED CARD OF 'padlockkeep.OpsWhole'. -/
def opsWholeCard : Claim7 := { stood := { row := opsWholeRow, standIns := [], harness := (true, "26b5f738f85676649918fa1461cf958b907d6dfc85326887f57e868e011e15e3"), looks := false }, kinds := [], alts := [], laidByText := true, laidKinds := [.data, .data, .data], laidTests := true, laidLooks := .later }
def OpsWholeCardSaid : Prop := Claim7.holds Tryd.pinned (.plain (OpenSpec.ofChange opsWholeSpec)) opsWholeCard

/-- THE SECOND FORM's CARD OF 'padlocklaw.ParseNames'. -/
def parseNamesUptoCard : Claim7 := { stood := { row := parseNamesUptoRow, standIns := [], harness := (true, "26b5f738f85676649918fa1461cf958b907d6dfc85326887f57e868e011e15e3"), looks := false }, kinds := [], alts := [], laidByText := true, laidKinds := [.data, .data], laidTests := true, laidLooks := .later }
def ParseNamesUptoCardSaid : Prop := Claim7.holds Tryd.pinned (.plain (OpenSpec.upto parseNamesSpec)) parseNamesUptoCard

/-- THE SECOND FORM's CARD OF 'padlocklaw.ParseExpressions'. -/
def parseExpressionsUptoCard : Claim7 := { stood := { row := parseExpressionsUptoRow, standIns := [], harness := (true, "26b5f738f85676649918fa1461cf958b907d6dfc85326887f57e868e011e15e3"), looks := false }, kinds := [], alts := [], laidByText := true, laidKinds := [.data, .data, .data], laidTests := true, laidLooks := .later }
def ParseExpressionsUptoCardSaid : Prop := Claim7.holds Tryd.pinned (.plain (OpenSpec.upto parseExpressionsSpec)) parseExpressionsUptoCard

/-- THE SECOND FORM's CARD OF 'padlockkeep.NameKept'. -/
def nameKeptUptoCard : Claim7 := { stood := { row := nameKeptUptoRow, standIns := [], harness := (true, "26b5f738f85676649918fa1461cf958b907d6dfc85326887f57e868e011e15e3"), looks := false }, kinds := [], alts := [], laidByText := true, laidKinds := [.data, .data], laidTests := true, laidLooks := .later }
def NameKeptUptoCardSaid : Prop := Claim7.holds Tryd.pinned (.plain (OpenSpec.upto nameKeptSpec)) nameKeptUptoCard

/-- THE SECOND FORM's CARD OF 'padlockkeep.OpsWhole'. -/
def opsWholeUptoCard : Claim7 := { stood := { row := opsWholeUptoRow, standIns := [], harness := (true, "26b5f738f85676649918fa1461cf958b907d6dfc85326887f57e868e011e15e3"), looks := false }, kinds := [], alts := [], laidByText := true, laidKinds := [.data, .data, .data], laidTests := true, laidLooks := .later }
def OpsWholeUptoCardSaid : Prop := Claim7.holds Tryd.pinned (.plain (OpenSpec.upto opsWholeSpec)) opsWholeUptoCard
end Rows
end Go.Proofs.YthihdknbnpjkdaaDoor
