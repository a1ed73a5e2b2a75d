/-
  DERIVED. GIVEN WITH THE SEED: THE CARDS: each row of YtoiaedjglhcidaaDoorRows.lean that lists a variable, with what it lists TIED to the program's text (the seventh form; the later family's looks); each row that meets fmt, with fmt's text TOLD by the authors' own Lean function (tested against real Go, not proved from fmt's source: count such statements apart). THE CARD IS WHAT COUNTS. Prove the row's statement (the work); the ties are given (YtoiaedjglhcidaaDoorTie.lean); close each card by the builder's one call (the guide's Derived/Test/ToyasCard.lean, 'card_holds'). Laid BY PROGRAM, IN A SANDBOX (cutbox-door.mjs). By AI agents, Wed Nov 11 2026. No macro, syntax, notation, axiom, sorry.
-/
import Derived.Test.YtoiaedjglhcidaaDoorRows
import GoSem.ClaimSeven
namespace Go.Proofs.YtoiaedjglhcidaaDoor
namespace Rows

/-- THE TIED CARD OF 'padlockkeep.LocksSafe'. -/
def locksSafeCard : Claim7 := { stood := { row := locksSafeRow, standIns := [], harness := (true, "8f293141105406313091e5ae2c78b6ef2fcdb9ea6aa4231403384f5e793f50f5"), looks := false }, kinds := [], alts := [], laidByText := true, laidKinds := [.data, .data], laidTests := true, laidLooks := .later }
def LocksSafeCardSaid : Prop := Claim7.holds Tryd.pinned (.plain (OpenSpec.ofChange locksSafeSpec)) locksSafeCard

/-- THE TIED CARD OF 'padlockkeep.AskGets'. -/
def askGetsCard : Claim7 := { stood := { row := askGetsRow, standIns := [], harness := (true, "8f293141105406313091e5ae2c78b6ef2fcdb9ea6aa4231403384f5e793f50f5"), looks := false }, kinds := [], alts := [], laidByText := true, laidKinds := [.data, .data], laidTests := true, laidLooks := .later }
def AskGetsCardSaid : Prop := Claim7.holds Tryd.pinned (.plain (OpenSpec.ofChange askGetsSpec)) askGetsCard

/-- THE TIED CARD OF 'padlockkeep.LeaveFrees'. -/
def leaveFreesCard : Claim7 := { stood := { row := leaveFreesRow, standIns := [], harness := (true, "8f293141105406313091e5ae2c78b6ef2fcdb9ea6aa4231403384f5e793f50f5"), looks := false }, kinds := [], alts := [], laidByText := true, laidKinds := [.data, .data], laidTests := true, laidLooks := .later }
def LeaveFreesCardSaid : Prop := Claim7.holds Tryd.pinned (.plain (OpenSpec.ofChange leaveFreesSpec)) leaveFreesCard

/-- THE TIED CARD OF 'padlockkeep.AllLeave'. -/
def allLeaveCard : Claim7 := { stood := { row := allLeaveRow, standIns := [], harness := (true, "8f293141105406313091e5ae2c78b6ef2fcdb9ea6aa4231403384f5e793f50f5"), looks := false }, kinds := [], alts := [], laidByText := true, laidKinds := [.data, .data], laidTests := true, laidLooks := .later }
def AllLeaveCardSaid : Prop := Claim7.holds Tryd.pinned (.plain (OpenSpec.ofChange allLeaveSpec)) allLeaveCard

/-- THE TIED CARD OF 'padlockkeep.AskAgain'. -/
def askAgainCard : Claim7 := { stood := { row := askAgainRow, standIns := [], harness := (true, "8f293141105406313091e5ae2c78b6ef2fcdb9ea6aa4231403384f5e793f50f5"), looks := false }, kinds := [], alts := [], laidByText := true, laidKinds := [.data, .data], laidTests := true, laidLooks := .later }
def AskAgainCardSaid : Prop := Claim7.holds Tryd.pinned (.plain (OpenSpec.ofChange askAgainSpec)) askAgainCard

/-- THE SECOND FORM's CARD OF 'padlockkeep.LocksSafe'. -/
def locksSafeUptoCard : Claim7 := { stood := { row := locksSafeUptoRow, standIns := [], harness := (true, "8f293141105406313091e5ae2c78b6ef2fcdb9ea6aa4231403384f5e793f50f5"), looks := false }, kinds := [], alts := [], laidByText := true, laidKinds := [.data, .data], laidTests := true, laidLooks := .later }
def LocksSafeUptoCardSaid : Prop := Claim7.holds Tryd.pinned (.plain (OpenSpec.upto locksSafeSpec)) locksSafeUptoCard

/-- THE SECOND FORM's CARD OF 'padlockkeep.AskGets'. -/
def askGetsUptoCard : Claim7 := { stood := { row := askGetsUptoRow, standIns := [], harness := (true, "8f293141105406313091e5ae2c78b6ef2fcdb9ea6aa4231403384f5e793f50f5"), looks := false }, kinds := [], alts := [], laidByText := true, laidKinds := [.data, .data], laidTests := true, laidLooks := .later }
def AskGetsUptoCardSaid : Prop := Claim7.holds Tryd.pinned (.plain (OpenSpec.upto askGetsSpec)) askGetsUptoCard

/-- THE SECOND FORM's CARD OF 'padlockkeep.LeaveFrees'. -/
def leaveFreesUptoCard : Claim7 := { stood := { row := leaveFreesUptoRow, standIns := [], harness := (true, "8f293141105406313091e5ae2c78b6ef2fcdb9ea6aa4231403384f5e793f50f5"), looks := false }, kinds := [], alts := [], laidByText := true, laidKinds := [.data, .data], laidTests := true, laidLooks := .later }
def LeaveFreesUptoCardSaid : Prop := Claim7.holds Tryd.pinned (.plain (OpenSpec.upto leaveFreesSpec)) leaveFreesUptoCard

/-- THE SECOND FORM's CARD OF 'padlockkeep.AllLeave'. -/
def allLeaveUptoCard : Claim7 := { stood := { row := allLeaveUptoRow, standIns := [], harness := (true, "8f293141105406313091e5ae2c78b6ef2fcdb9ea6aa4231403384f5e793f50f5"), looks := false }, kinds := [], alts := [], laidByText := true, laidKinds := [.data, .data], laidTests := true, laidLooks := .later }
def AllLeaveUptoCardSaid : Prop := Claim7.holds Tryd.pinned (.plain (OpenSpec.upto allLeaveSpec)) allLeaveUptoCard

/-- THE SECOND FORM's CARD OF 'padlockkeep.AskAgain'. -/
def askAgainUptoCard : Claim7 := { stood := { row := askAgainUptoRow, standIns := [], harness := (true, "8f293141105406313091e5ae2c78b6ef2fcdb9ea6aa4231403384f5e793f50f5"), looks := false }, kinds := [], alts := [], laidByText := true, laidKinds := [.data, .data], laidTests := true, laidLooks := .later }
def AskAgainUptoCardSaid : Prop := Claim7.holds Tryd.pinned (.plain (OpenSpec.upto askAgainSpec)) askAgainUptoCard
end Rows
end Go.Proofs.YtoiaedjglhcidaaDoor
