/-
  DERIVED. GIVEN WITH THE SEED: THE CARDS: each row of YtlggmdeoninkmaaDoorRows.lean that lists a variable, with what it lists TIED to the program's text (the seventh form; the later family's looks); each row that meets fmt, with fmt's text TOLD by the authors' own Lean function (tested against real Go, not proved from fmt's source: count such statements apart). THE CARD IS WHAT COUNTS. Prove the row's statement (the work); the ties are given (YtlggmdeoninkmaaDoorTie.lean); close each card by the builder's one call (the guide's Derived/Test/ToyasCard.lean, 'card_holds'). Laid BY PROGRAM, IN A SANDBOX (cutbox-door.mjs). By AI agents, Wed Nov 11 2026. No macro, syntax, notation, axiom, sorry.
-/
import Derived.Test.YtlggmdeoninkmaaDoorRows
import GoSem.ClaimSeven
namespace Go.Proofs.YtlggmdeoninkmaaDoor
namespace Rows

/-- THE TIED CARD OF 'padlockkeep.AskFull'. -/
def askFullCard : Claim7 := { stood := { row := askFullRow, standIns := [], harness := (true, "71cb367efae687f93b78fddf41d4ba67ebdc97fcb9b771ed4b8da440168d04b2"), looks := false }, kinds := [], alts := [], laidByText := true, laidKinds := [.data, .data], laidTests := true, laidLooks := .later }
def AskFullCardSaid : Prop := Claim7.holds Tryd.pinned (.plain (OpenSpec.ofChange askFullSpec)) askFullCard

/-- THE TIED CARD OF 'padlockkeep.AskMore'. -/
def askMoreCard : Claim7 := { stood := { row := askMoreRow, standIns := [], harness := (true, "71cb367efae687f93b78fddf41d4ba67ebdc97fcb9b771ed4b8da440168d04b2"), looks := false }, kinds := [], alts := [], laidByText := true, laidKinds := [.data, .data], laidTests := true, laidLooks := .later }
def AskMoreCardSaid : Prop := Claim7.holds Tryd.pinned (.plain (OpenSpec.ofChange askMoreSpec)) askMoreCard

/-- THE TIED CARD OF 'padlockkeep.AskAll'. -/
def askAllCard : Claim7 := { stood := { row := askAllRow, standIns := [], harness := (true, "71cb367efae687f93b78fddf41d4ba67ebdc97fcb9b771ed4b8da440168d04b2"), looks := false }, kinds := [], alts := [], laidByText := true, laidKinds := [.data, .data], laidTests := true, laidLooks := .later }
def AskAllCardSaid : Prop := Claim7.holds Tryd.pinned (.plain (OpenSpec.ofChange askAllSpec)) askAllCard

/-- THE TIED CARD OF 'padlockkeep.LeaveTurns'. -/
def leaveTurnsCard : Claim7 := { stood := { row := leaveTurnsRow, standIns := [], harness := (true, "71cb367efae687f93b78fddf41d4ba67ebdc97fcb9b771ed4b8da440168d04b2"), looks := false }, kinds := [], alts := [], laidByText := true, laidKinds := [.data, .data], laidTests := true, laidLooks := .later }
def LeaveTurnsCardSaid : Prop := Claim7.holds Tryd.pinned (.plain (OpenSpec.ofChange leaveTurnsSpec)) leaveTurnsCard

/-- THE SECOND FORM's CARD OF 'padlockkeep.AskFull'. -/
def askFullUptoCard : Claim7 := { stood := { row := askFullUptoRow, standIns := [], harness := (true, "71cb367efae687f93b78fddf41d4ba67ebdc97fcb9b771ed4b8da440168d04b2"), looks := false }, kinds := [], alts := [], laidByText := true, laidKinds := [.data, .data], laidTests := true, laidLooks := .later }
def AskFullUptoCardSaid : Prop := Claim7.holds Tryd.pinned (.plain (OpenSpec.upto askFullSpec)) askFullUptoCard

/-- THE SECOND FORM's CARD OF 'padlockkeep.AskMore'. -/
def askMoreUptoCard : Claim7 := { stood := { row := askMoreUptoRow, standIns := [], harness := (true, "71cb367efae687f93b78fddf41d4ba67ebdc97fcb9b771ed4b8da440168d04b2"), looks := false }, kinds := [], alts := [], laidByText := true, laidKinds := [.data, .data], laidTests := true, laidLooks := .later }
def AskMoreUptoCardSaid : Prop := Claim7.holds Tryd.pinned (.plain (OpenSpec.upto askMoreSpec)) askMoreUptoCard

/-- THE SECOND FORM's CARD OF 'padlockkeep.AskAll'. -/
def askAllUptoCard : Claim7 := { stood := { row := askAllUptoRow, standIns := [], harness := (true, "71cb367efae687f93b78fddf41d4ba67ebdc97fcb9b771ed4b8da440168d04b2"), looks := false }, kinds := [], alts := [], laidByText := true, laidKinds := [.data, .data], laidTests := true, laidLooks := .later }
def AskAllUptoCardSaid : Prop := Claim7.holds Tryd.pinned (.plain (OpenSpec.upto askAllSpec)) askAllUptoCard

/-- THE SECOND FORM's CARD OF 'padlockkeep.LeaveTurns'. -/
def leaveTurnsUptoCard : Claim7 := { stood := { row := leaveTurnsUptoRow, standIns := [], harness := (true, "71cb367efae687f93b78fddf41d4ba67ebdc97fcb9b771ed4b8da440168d04b2"), looks := false }, kinds := [], alts := [], laidByText := true, laidKinds := [.data, .data], laidTests := true, laidLooks := .later }
def LeaveTurnsUptoCardSaid : Prop := Claim7.holds Tryd.pinned (.plain (OpenSpec.upto leaveTurnsSpec)) leaveTurnsUptoCard
end Rows
end Go.Proofs.YtlggmdeoninkmaaDoor
