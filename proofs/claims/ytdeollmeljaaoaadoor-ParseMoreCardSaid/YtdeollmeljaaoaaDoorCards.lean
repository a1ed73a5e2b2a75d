/-
  DERIVED. GIVEN WITH THE SEED: THE CARDS: each row of YtdeollmeljaaoaaDoorRows.lean that lists a variable, with what it lists TIED to the program's text (the seventh form; the later family's looks); each row that meets fmt, with fmt's text TOLD by the authors' own Lean function (tested against real Go, not proved from fmt's source: count such statements apart). THE CARD IS WHAT COUNTS. Prove the row's statement (the work); the ties are given (YtdeollmeljaaoaaDoorTie.lean); close each card by the builder's one call (the guide's Derived/Test/ToyasCard.lean, 'card_holds'). Laid BY PROGRAM, IN A SANDBOX (cutbox-door.mjs). By AI agents, Wed Nov 11 2026. No macro, syntax, notation, axiom, sorry.
-/
import Derived.Test.YtdeollmeljaaoaaDoorRows
import GoSem.ClaimSeven
namespace Go.Proofs.YtdeollmeljaaoaaDoor
namespace Rows

/-- THE TIED CARD OF 'padlockkeep.ParseBack'. -/
def parseBackCard : Claim7 := { stood := { row := parseBackRow, standIns := [], harness := (true, "fcb8bdadbe0267cdcbf0fd55202741c1ed9f777685c7722ecc62d7da0acf26aa"), looks := true }, kinds := [], alts := [], laidByText := true, laidKinds := [.data, .data, .data, .data, .data, .data, .data], laidTests := true, laidLooks := .later }
def ParseBackCardSaid : Prop := Claim7.holds Tryd.pinned (.plain (OpenSpec.ofChange parseBackSpec)) parseBackCard

/-- THE TIED CARD OF 'padlockkeep.ParseFixed'. -/
def parseFixedCard : Claim7 := { stood := { row := parseFixedRow, standIns := [], harness := (true, "fcb8bdadbe0267cdcbf0fd55202741c1ed9f777685c7722ecc62d7da0acf26aa"), looks := true }, kinds := [], alts := [], laidByText := true, laidKinds := [.data, .data, .data, .data, .data, .data, .data], laidTests := true, laidLooks := .later }
def ParseFixedCardSaid : Prop := Claim7.holds Tryd.pinned (.plain (OpenSpec.ofChange parseFixedSpec)) parseFixedCard

/-- THE TIED CARD OF 'padlockkeep.ParseTorn'. -/
def parseTornCard : Claim7 := { stood := { row := parseTornRow, standIns := [], harness := (true, "fcb8bdadbe0267cdcbf0fd55202741c1ed9f777685c7722ecc62d7da0acf26aa"), looks := true }, kinds := [], alts := [], laidByText := true, laidKinds := [.data, .data, .data, .data, .data, .data, .data], laidTests := true, laidLooks := .later }
def ParseTornCardSaid : Prop := Claim7.holds Tryd.pinned (.plain (OpenSpec.ofChange parseTornSpec)) parseTornCard

/-- THE TIED CARD OF 'padlockkeep.ParseTurns'. -/
def parseTurnsCard : Claim7 := { stood := { row := parseTurnsRow, standIns := [], harness := (true, "fcb8bdadbe0267cdcbf0fd55202741c1ed9f777685c7722ecc62d7da0acf26aa"), looks := true }, kinds := [], alts := [], laidByText := true, laidKinds := [.data, .data, .data, .data, .data, .data, .data], laidTests := true, laidLooks := .later }
def ParseTurnsCardSaid : Prop := Claim7.holds Tryd.pinned (.plain (OpenSpec.ofChange parseTurnsSpec)) parseTurnsCard

/-- THE TIED CARD OF 'padlockkeep.ParseMinus'. -/
def parseMinusCard : Claim7 := { stood := { row := parseMinusRow, standIns := [], harness := (true, "fcb8bdadbe0267cdcbf0fd55202741c1ed9f777685c7722ecc62d7da0acf26aa"), looks := true }, kinds := [], alts := [], laidByText := true, laidKinds := [.data, .data, .data, .data, .data, .data], laidTests := true, laidLooks := .later }
def ParseMinusCardSaid : Prop := Claim7.holds Tryd.pinned (.plain (OpenSpec.ofChange parseMinusSpec)) parseMinusCard

/-- THE TIED CARD OF 'padlockkeep.ParseMore'. -/
def parseMoreCard : Claim7 := { stood := { row := parseMoreRow, standIns := [], harness := (true, "fcb8bdadbe0267cdcbf0fd55202741c1ed9f777685c7722ecc62d7da0acf26aa"), looks := true }, kinds := [], alts := [], laidByText := true, laidKinds := [.data, .data, .data, .data, .data, .data, .data], laidTests := true, laidLooks := .later }
def ParseMoreCardSaid : Prop := Claim7.holds Tryd.pinned (.plain (OpenSpec.ofChange parseMoreSpec)) parseMoreCard

/-- THE SECOND FORM's CARD OF 'padlockkeep.ParseBack'. -/
def parseBackUptoCard : Claim7 := { stood := { row := parseBackUptoRow, standIns := [], harness := (true, "fcb8bdadbe0267cdcbf0fd55202741c1ed9f777685c7722ecc62d7da0acf26aa"), looks := true }, kinds := [], alts := [], laidByText := true, laidKinds := [.data, .data, .data, .data, .data, .data, .data], laidTests := true, laidLooks := .later }
def ParseBackUptoCardSaid : Prop := Claim7.holds Tryd.pinned (.plain (OpenSpec.upto parseBackSpec)) parseBackUptoCard

/-- THE SECOND FORM's CARD OF 'padlockkeep.ParseFixed'. -/
def parseFixedUptoCard : Claim7 := { stood := { row := parseFixedUptoRow, standIns := [], harness := (true, "fcb8bdadbe0267cdcbf0fd55202741c1ed9f777685c7722ecc62d7da0acf26aa"), looks := true }, kinds := [], alts := [], laidByText := true, laidKinds := [.data, .data, .data, .data, .data, .data, .data], laidTests := true, laidLooks := .later }
def ParseFixedUptoCardSaid : Prop := Claim7.holds Tryd.pinned (.plain (OpenSpec.upto parseFixedSpec)) parseFixedUptoCard

/-- THE SECOND FORM's CARD OF 'padlockkeep.ParseTorn'. -/
def parseTornUptoCard : Claim7 := { stood := { row := parseTornUptoRow, standIns := [], harness := (true, "fcb8bdadbe0267cdcbf0fd55202741c1ed9f777685c7722ecc62d7da0acf26aa"), looks := true }, kinds := [], alts := [], laidByText := true, laidKinds := [.data, .data, .data, .data, .data, .data, .data], laidTests := true, laidLooks := .later }
def ParseTornUptoCardSaid : Prop := Claim7.holds Tryd.pinned (.plain (OpenSpec.upto parseTornSpec)) parseTornUptoCard

/-- THE SECOND FORM's CARD OF 'padlockkeep.ParseTurns'. -/
def parseTurnsUptoCard : Claim7 := { stood := { row := parseTurnsUptoRow, standIns := [], harness := (true, "fcb8bdadbe0267cdcbf0fd55202741c1ed9f777685c7722ecc62d7da0acf26aa"), looks := true }, kinds := [], alts := [], laidByText := true, laidKinds := [.data, .data, .data, .data, .data, .data, .data], laidTests := true, laidLooks := .later }
def ParseTurnsUptoCardSaid : Prop := Claim7.holds Tryd.pinned (.plain (OpenSpec.upto parseTurnsSpec)) parseTurnsUptoCard

/-- THE SECOND FORM's CARD OF 'padlockkeep.ParseMinus'. -/
def parseMinusUptoCard : Claim7 := { stood := { row := parseMinusUptoRow, standIns := [], harness := (true, "fcb8bdadbe0267cdcbf0fd55202741c1ed9f777685c7722ecc62d7da0acf26aa"), looks := true }, kinds := [], alts := [], laidByText := true, laidKinds := [.data, .data, .data, .data, .data, .data], laidTests := true, laidLooks := .later }
def ParseMinusUptoCardSaid : Prop := Claim7.holds Tryd.pinned (.plain (OpenSpec.upto parseMinusSpec)) parseMinusUptoCard

/-- THE SECOND FORM's CARD OF 'padlockkeep.ParseMore'. -/
def parseMoreUptoCard : Claim7 := { stood := { row := parseMoreUptoRow, standIns := [], harness := (true, "fcb8bdadbe0267cdcbf0fd55202741c1ed9f777685c7722ecc62d7da0acf26aa"), looks := true }, kinds := [], alts := [], laidByText := true, laidKinds := [.data, .data, .data, .data, .data, .data, .data], laidTests := true, laidLooks := .later }
def ParseMoreUptoCardSaid : Prop := Claim7.holds Tryd.pinned (.plain (OpenSpec.upto parseMoreSpec)) parseMoreUptoCard
end Rows
end Go.Proofs.YtdeollmeljaaoaaDoor
