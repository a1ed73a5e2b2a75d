/-
  DERIVED. GIVEN WITH THE SEED: THE CARDS: each row of YtnheepkmaibofaaDoorRows.lean that lists a variable, with what it lists TIED to the program's text (the seventh form; the later family's looks); each row that meets fmt, with fmt's text TOLD by the authors' own Lean function (tested against real Go, not proved from fmt's source: count such statements apart). THE CARD IS WHAT COUNTS. Prove the row's statement (the work); the ties are given (YtnheepkmaibofaaDoorTie.lean); close each card by the builder's one call (the guide's Derived/Test/ToyasCard.lean, 'card_holds'). Laid BY PROGRAM, IN A SANDBOX (cutbox-door.mjs). By AI agents, Wed Nov 11 2026. No macro, syntax, notation, axiom, sorry.
-/
import Derived.Test.YtnheepkmaibofaaDoorRows
import GoSem.ClaimSeven
namespace Go.Proofs.YtnheepkmaibofaaDoor
namespace Rows

/-- THE TIED CARD OF 'padlocklaw.ParseChecks'. -/
def parseChecksCard : Claim7 := { stood := { row := parseChecksRow, standIns := [], harness := (true, "e9fcc1b42dd7f1166ed758fea7075cb8f4da2a05ca6545131e43b2a67a62d9c9"), looks := true }, kinds := [], alts := [], laidByText := true, laidKinds := [.data, .data, .data, .data, .data, .data], laidTests := true, laidLooks := .later }
def ParseChecksCardSaid : Prop := Claim7.holds Tryd.pinned (.plain (OpenSpec.ofChange parseChecksSpec)) parseChecksCard

/-- THE TIED CARD OF 'padlocklaw.ParseShows'. -/
def parseShowsCard : Claim7 := { stood := { row := parseShowsRow, standIns := [], harness := (true, "e9fcc1b42dd7f1166ed758fea7075cb8f4da2a05ca6545131e43b2a67a62d9c9"), looks := true }, kinds := [], alts := [], laidByText := true, laidKinds := [.data, .data, .data, .data, .data, .data], laidTests := true, laidLooks := .later }
def ParseShowsCardSaid : Prop := Claim7.holds Tryd.pinned (.plain (OpenSpec.ofChange parseShowsSpec)) parseShowsCard

/-- THE TIED CARD OF 'padlockkeep.ParseMinus'. -/
def parseMinusCard : Claim7 := { stood := { row := parseMinusRow, standIns := [], harness := (true, "e9fcc1b42dd7f1166ed758fea7075cb8f4da2a05ca6545131e43b2a67a62d9c9"), looks := true }, kinds := [], alts := [], laidByText := true, laidKinds := [.data, .data, .data, .data, .data, .data], laidTests := true, laidLooks := .later }
def ParseMinusCardSaid : Prop := Claim7.holds Tryd.pinned (.plain (OpenSpec.ofChange parseMinusSpec)) parseMinusCard

/-- THE SECOND FORM's CARD OF 'padlocklaw.ParseChecks'. -/
def parseChecksUptoCard : Claim7 := { stood := { row := parseChecksUptoRow, standIns := [], harness := (true, "e9fcc1b42dd7f1166ed758fea7075cb8f4da2a05ca6545131e43b2a67a62d9c9"), looks := true }, kinds := [], alts := [], laidByText := true, laidKinds := [.data, .data, .data, .data, .data, .data], laidTests := true, laidLooks := .later }
def ParseChecksUptoCardSaid : Prop := Claim7.holds Tryd.pinned (.plain (OpenSpec.upto parseChecksSpec)) parseChecksUptoCard

/-- THE SECOND FORM's CARD OF 'padlocklaw.ParseShows'. -/
def parseShowsUptoCard : Claim7 := { stood := { row := parseShowsUptoRow, standIns := [], harness := (true, "e9fcc1b42dd7f1166ed758fea7075cb8f4da2a05ca6545131e43b2a67a62d9c9"), looks := true }, kinds := [], alts := [], laidByText := true, laidKinds := [.data, .data, .data, .data, .data, .data], laidTests := true, laidLooks := .later }
def ParseShowsUptoCardSaid : Prop := Claim7.holds Tryd.pinned (.plain (OpenSpec.upto parseShowsSpec)) parseShowsUptoCard

/-- THE SECOND FORM's CARD OF 'padlockkeep.ParseMinus'. -/
def parseMinusUptoCard : Claim7 := { stood := { row := parseMinusUptoRow, standIns := [], harness := (true, "e9fcc1b42dd7f1166ed758fea7075cb8f4da2a05ca6545131e43b2a67a62d9c9"), looks := true }, kinds := [], alts := [], laidByText := true, laidKinds := [.data, .data, .data, .data, .data, .data], laidTests := true, laidLooks := .later }
def ParseMinusUptoCardSaid : Prop := Claim7.holds Tryd.pinned (.plain (OpenSpec.upto parseMinusSpec)) parseMinusUptoCard
end Rows
end Go.Proofs.YtnheepkmaibofaaDoor
