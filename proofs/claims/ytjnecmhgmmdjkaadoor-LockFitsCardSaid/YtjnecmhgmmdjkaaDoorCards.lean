/-
  DERIVED. GIVEN WITH THE SEED: THE CARDS: each row of YtjnecmhgmmdjkaaDoorRows.lean that lists a variable, with what it lists TIED to the program's text (the seventh form; the later family's looks); each row that meets fmt, with fmt's text TOLD by the authors' own Lean function (tested against real Go, not proved from fmt's source: count such statements apart). THE CARD IS WHAT COUNTS. Prove the row's statement (the work); the ties are given (YtjnecmhgmmdjkaaDoorTie.lean); close each card by the builder's one call (the guide's Derived/Test/ToyasCard.lean, 'card_holds'). Laid BY PROGRAM, IN A SANDBOX (cutbox-door.mjs). By AI agents, Wed Nov 11 2026. No macro, syntax, notation, axiom, sorry.
-/
import Derived.Test.YtjnecmhgmmdjkaaDoorRows
import GoSem.ClaimSeven
namespace Go.Proofs.YtjnecmhgmmdjkaaDoor
namespace Rows

/-- THE TIED CARD OF 'padlocklaw.LockFits'. -/
def lockFitsCard : Claim7 := { stood := { row := lockFitsRow, standIns := [], harness := (true, "70ee4f04238ff2a9aa2b976cec21c4d9b603b80fe4ea8282ca4370cf6347731d"), looks := false }, kinds := [], alts := [], laidByText := true, laidKinds := [.data], laidTests := true, laidLooks := .later }
def LockFitsCardSaid : Prop := Claim7.holds Tryd.pinned (.plain (OpenSpec.ofChange lockFitsSpec)) lockFitsCard

/-- THE TIED CARD OF 'padlocklaw.LockJoins'. -/
def lockJoinsCard : Claim7 := { stood := { row := lockJoinsRow, standIns := [], harness := (true, "70ee4f04238ff2a9aa2b976cec21c4d9b603b80fe4ea8282ca4370cf6347731d"), looks := false }, kinds := [], alts := [], laidByText := true, laidKinds := [.data], laidTests := true, laidLooks := .later }
def LockJoinsCardSaid : Prop := Claim7.holds Tryd.pinned (.plain (OpenSpec.ofChange lockJoinsSpec)) lockJoinsCard

/-- THE TIED CARD OF 'padlocklaw.LockChecks'. -/
def lockChecksCard : Claim7 := { stood := { row := lockChecksRow, standIns := [], harness := (true, "70ee4f04238ff2a9aa2b976cec21c4d9b603b80fe4ea8282ca4370cf6347731d"), looks := false }, kinds := [], alts := [], laidByText := true, laidKinds := [.data, .data], laidTests := true, laidLooks := .later }
def LockChecksCardSaid : Prop := Claim7.holds Tryd.pinned (.plain (OpenSpec.ofChange lockChecksSpec)) lockChecksCard

/-- THE TIED CARD OF 'padlocklaw.LockAsks'. -/
def lockAsksCard : Claim7 := { stood := { row := lockAsksRow, standIns := [], harness := (true, "70ee4f04238ff2a9aa2b976cec21c4d9b603b80fe4ea8282ca4370cf6347731d"), looks := false }, kinds := [], alts := [], laidByText := true, laidKinds := [.data, .data], laidTests := true, laidLooks := .later }
def LockAsksCardSaid : Prop := Claim7.holds Tryd.pinned (.plain (OpenSpec.ofChange lockAsksSpec)) lockAsksCard

/-- THE TIED CARD OF 'padlocklaw.LockWaits'. -/
def lockWaitsCard : Claim7 := { stood := { row := lockWaitsRow, standIns := [], harness := (true, "70ee4f04238ff2a9aa2b976cec21c4d9b603b80fe4ea8282ca4370cf6347731d"), looks := false }, kinds := [], alts := [], laidByText := true, laidKinds := [.data, .data], laidTests := true, laidLooks := .later }
def LockWaitsCardSaid : Prop := Claim7.holds Tryd.pinned (.plain (OpenSpec.ofChange lockWaitsSpec)) lockWaitsCard

/-- THE TIED CARD OF 'padlocklaw.LockLeaves'. -/
def lockLeavesCard : Claim7 := { stood := { row := lockLeavesRow, standIns := [], harness := (true, "70ee4f04238ff2a9aa2b976cec21c4d9b603b80fe4ea8282ca4370cf6347731d"), looks := false }, kinds := [], alts := [], laidByText := true, laidKinds := [.data, .data], laidTests := true, laidLooks := .later }
def LockLeavesCardSaid : Prop := Claim7.holds Tryd.pinned (.plain (OpenSpec.ofChange lockLeavesSpec)) lockLeavesCard

/-- THE TIED CARD OF 'padlocklaw.LockVictims'. -/
def lockVictimsCard : Claim7 := { stood := { row := lockVictimsRow, standIns := [], harness := (true, "70ee4f04238ff2a9aa2b976cec21c4d9b603b80fe4ea8282ca4370cf6347731d"), looks := false }, kinds := [], alts := [], laidByText := true, laidKinds := [.data, .data], laidTests := true, laidLooks := .later }
def LockVictimsCardSaid : Prop := Claim7.holds Tryd.pinned (.plain (OpenSpec.ofChange lockVictimsSpec)) lockVictimsCard

/-- THE TIED CARD OF 'padlockkeep.ModesEven'. -/
def modesEvenCard : Claim7 := { stood := { row := modesEvenRow, standIns := [], harness := (true, "70ee4f04238ff2a9aa2b976cec21c4d9b603b80fe4ea8282ca4370cf6347731d"), looks := false }, kinds := [], alts := [], laidByText := true, laidKinds := [.data], laidTests := true, laidLooks := .later }
def ModesEvenCardSaid : Prop := Claim7.holds Tryd.pinned (.plain (OpenSpec.ofChange modesEvenSpec)) modesEvenCard

/-- THE TIED CARD OF 'padlockkeep.ModesJoin'. -/
def modesJoinCard : Claim7 := { stood := { row := modesJoinRow, standIns := [], harness := (true, "70ee4f04238ff2a9aa2b976cec21c4d9b603b80fe4ea8282ca4370cf6347731d"), looks := false }, kinds := [], alts := [], laidByText := true, laidKinds := [.data, .data], laidTests := true, laidLooks := .later }
def ModesJoinCardSaid : Prop := Claim7.holds Tryd.pinned (.plain (OpenSpec.ofChange modesJoinSpec)) modesJoinCard

/-- THE TIED CARD OF 'padlockkeep.LocksSafe'. -/
def locksSafeCard : Claim7 := { stood := { row := locksSafeRow, standIns := [], harness := (true, "70ee4f04238ff2a9aa2b976cec21c4d9b603b80fe4ea8282ca4370cf6347731d"), looks := false }, kinds := [], alts := [], laidByText := true, laidKinds := [.data, .data], laidTests := true, laidLooks := .later }
def LocksSafeCardSaid : Prop := Claim7.holds Tryd.pinned (.plain (OpenSpec.ofChange locksSafeSpec)) locksSafeCard

/-- THE TIED CARD OF 'padlockkeep.AskGets'. -/
def askGetsCard : Claim7 := { stood := { row := askGetsRow, standIns := [], harness := (true, "70ee4f04238ff2a9aa2b976cec21c4d9b603b80fe4ea8282ca4370cf6347731d"), looks := false }, kinds := [], alts := [], laidByText := true, laidKinds := [.data, .data], laidTests := true, laidLooks := .later }
def AskGetsCardSaid : Prop := Claim7.holds Tryd.pinned (.plain (OpenSpec.ofChange askGetsSpec)) askGetsCard

/-- THE TIED CARD OF 'padlockkeep.LeaveFrees'. -/
def leaveFreesCard : Claim7 := { stood := { row := leaveFreesRow, standIns := [], harness := (true, "70ee4f04238ff2a9aa2b976cec21c4d9b603b80fe4ea8282ca4370cf6347731d"), looks := false }, kinds := [], alts := [], laidByText := true, laidKinds := [.data, .data], laidTests := true, laidLooks := .later }
def LeaveFreesCardSaid : Prop := Claim7.holds Tryd.pinned (.plain (OpenSpec.ofChange leaveFreesSpec)) leaveFreesCard

/-- THE TIED CARD OF 'padlockkeep.AllLeave'. -/
def allLeaveCard : Claim7 := { stood := { row := allLeaveRow, standIns := [], harness := (true, "70ee4f04238ff2a9aa2b976cec21c4d9b603b80fe4ea8282ca4370cf6347731d"), looks := false }, kinds := [], alts := [], laidByText := true, laidKinds := [.data, .data], laidTests := true, laidLooks := .later }
def AllLeaveCardSaid : Prop := Claim7.holds Tryd.pinned (.plain (OpenSpec.ofChange allLeaveSpec)) allLeaveCard

/-- THE TIED CARD OF 'padlockkeep.VictimsEnd'. -/
def victimsEndCard : Claim7 := { stood := { row := victimsEndRow, standIns := [], harness := (true, "70ee4f04238ff2a9aa2b976cec21c4d9b603b80fe4ea8282ca4370cf6347731d"), looks := false }, kinds := [], alts := [], laidByText := true, laidKinds := [.data, .data], laidTests := true, laidLooks := .later }
def VictimsEndCardSaid : Prop := Claim7.holds Tryd.pinned (.plain (OpenSpec.ofChange victimsEndSpec)) victimsEndCard

/-- THE TIED CARD OF 'padlockkeep.WaitsSomebody'. -/
def waitsSomebodyCard : Claim7 := { stood := { row := waitsSomebodyRow, standIns := [], harness := (true, "70ee4f04238ff2a9aa2b976cec21c4d9b603b80fe4ea8282ca4370cf6347731d"), looks := false }, kinds := [], alts := [], laidByText := true, laidKinds := [.data, .data], laidTests := true, laidLooks := .later }
def WaitsSomebodyCardSaid : Prop := Claim7.holds Tryd.pinned (.plain (OpenSpec.ofChange waitsSomebodySpec)) waitsSomebodyCard

/-- THE TIED CARD OF 'padlockkeep.AskAgain'. -/
def askAgainCard : Claim7 := { stood := { row := askAgainRow, standIns := [], harness := (true, "70ee4f04238ff2a9aa2b976cec21c4d9b603b80fe4ea8282ca4370cf6347731d"), looks := false }, kinds := [], alts := [], laidByText := true, laidKinds := [.data, .data], laidTests := true, laidLooks := .later }
def AskAgainCardSaid : Prop := Claim7.holds Tryd.pinned (.plain (OpenSpec.ofChange askAgainSpec)) askAgainCard

/-- THE TIED CARD OF 'padlockkeep.AskAll'. -/
def askAllCard : Claim7 := { stood := { row := askAllRow, standIns := [], harness := (true, "70ee4f04238ff2a9aa2b976cec21c4d9b603b80fe4ea8282ca4370cf6347731d"), looks := false }, kinds := [], alts := [], laidByText := true, laidKinds := [.data, .data], laidTests := true, laidLooks := .later }
def AskAllCardSaid : Prop := Claim7.holds Tryd.pinned (.plain (OpenSpec.ofChange askAllSpec)) askAllCard

/-- THE TIED CARD OF 'padlockkeep.LeaveTurns'. -/
def leaveTurnsCard : Claim7 := { stood := { row := leaveTurnsRow, standIns := [], harness := (true, "70ee4f04238ff2a9aa2b976cec21c4d9b603b80fe4ea8282ca4370cf6347731d"), looks := false }, kinds := [], alts := [], laidByText := true, laidKinds := [.data, .data], laidTests := true, laidLooks := .later }
def LeaveTurnsCardSaid : Prop := Claim7.holds Tryd.pinned (.plain (OpenSpec.ofChange leaveTurnsSpec)) leaveTurnsCard

/-- THE TIED CARD OF 'padlockkeep.AskMore'. -/
def askMoreCard : Claim7 := { stood := { row := askMoreRow, standIns := [], harness := (true, "70ee4f04238ff2a9aa2b976cec21c4d9b603b80fe4ea8282ca4370cf6347731d"), looks := false }, kinds := [], alts := [], laidByText := true, laidKinds := [.data, .data], laidTests := true, laidLooks := .later }
def AskMoreCardSaid : Prop := Claim7.holds Tryd.pinned (.plain (OpenSpec.ofChange askMoreSpec)) askMoreCard

/-- THE TIED CARD OF 'padlockkeep.AskFull'. -/
def askFullCard : Claim7 := { stood := { row := askFullRow, standIns := [], harness := (true, "70ee4f04238ff2a9aa2b976cec21c4d9b603b80fe4ea8282ca4370cf6347731d"), looks := false }, kinds := [], alts := [], laidByText := true, laidKinds := [.data, .data], laidTests := true, laidLooks := .later }
def AskFullCardSaid : Prop := Claim7.holds Tryd.pinned (.plain (OpenSpec.ofChange askFullSpec)) askFullCard

/-- THE SECOND FORM's CARD OF 'padlocklaw.LockFits'. -/
def lockFitsUptoCard : Claim7 := { stood := { row := lockFitsUptoRow, standIns := [], harness := (true, "70ee4f04238ff2a9aa2b976cec21c4d9b603b80fe4ea8282ca4370cf6347731d"), looks := false }, kinds := [], alts := [], laidByText := true, laidKinds := [.data], laidTests := true, laidLooks := .later }
def LockFitsUptoCardSaid : Prop := Claim7.holds Tryd.pinned (.plain (OpenSpec.upto lockFitsSpec)) lockFitsUptoCard

/-- THE SECOND FORM's CARD OF 'padlocklaw.LockJoins'. -/
def lockJoinsUptoCard : Claim7 := { stood := { row := lockJoinsUptoRow, standIns := [], harness := (true, "70ee4f04238ff2a9aa2b976cec21c4d9b603b80fe4ea8282ca4370cf6347731d"), looks := false }, kinds := [], alts := [], laidByText := true, laidKinds := [.data], laidTests := true, laidLooks := .later }
def LockJoinsUptoCardSaid : Prop := Claim7.holds Tryd.pinned (.plain (OpenSpec.upto lockJoinsSpec)) lockJoinsUptoCard

/-- THE SECOND FORM's CARD OF 'padlocklaw.LockChecks'. -/
def lockChecksUptoCard : Claim7 := { stood := { row := lockChecksUptoRow, standIns := [], harness := (true, "70ee4f04238ff2a9aa2b976cec21c4d9b603b80fe4ea8282ca4370cf6347731d"), looks := false }, kinds := [], alts := [], laidByText := true, laidKinds := [.data, .data], laidTests := true, laidLooks := .later }
def LockChecksUptoCardSaid : Prop := Claim7.holds Tryd.pinned (.plain (OpenSpec.upto lockChecksSpec)) lockChecksUptoCard

/-- THE SECOND FORM's CARD OF 'padlocklaw.LockAsks'. -/
def lockAsksUptoCard : Claim7 := { stood := { row := lockAsksUptoRow, standIns := [], harness := (true, "70ee4f04238ff2a9aa2b976cec21c4d9b603b80fe4ea8282ca4370cf6347731d"), looks := false }, kinds := [], alts := [], laidByText := true, laidKinds := [.data, .data], laidTests := true, laidLooks := .later }
def LockAsksUptoCardSaid : Prop := Claim7.holds Tryd.pinned (.plain (OpenSpec.upto lockAsksSpec)) lockAsksUptoCard

/-- THE SECOND FORM's CARD OF 'padlocklaw.LockWaits'. -/
def lockWaitsUptoCard : Claim7 := { stood := { row := lockWaitsUptoRow, standIns := [], harness := (true, "70ee4f04238ff2a9aa2b976cec21c4d9b603b80fe4ea8282ca4370cf6347731d"), looks := false }, kinds := [], alts := [], laidByText := true, laidKinds := [.data, .data], laidTests := true, laidLooks := .later }
def LockWaitsUptoCardSaid : Prop := Claim7.holds Tryd.pinned (.plain (OpenSpec.upto lockWaitsSpec)) lockWaitsUptoCard

/-- THE SECOND FORM's CARD OF 'padlocklaw.LockLeaves'. -/
def lockLeavesUptoCard : Claim7 := { stood := { row := lockLeavesUptoRow, standIns := [], harness := (true, "70ee4f04238ff2a9aa2b976cec21c4d9b603b80fe4ea8282ca4370cf6347731d"), looks := false }, kinds := [], alts := [], laidByText := true, laidKinds := [.data, .data], laidTests := true, laidLooks := .later }
def LockLeavesUptoCardSaid : Prop := Claim7.holds Tryd.pinned (.plain (OpenSpec.upto lockLeavesSpec)) lockLeavesUptoCard

/-- THE SECOND FORM's CARD OF 'padlocklaw.LockVictims'. -/
def lockVictimsUptoCard : Claim7 := { stood := { row := lockVictimsUptoRow, standIns := [], harness := (true, "70ee4f04238ff2a9aa2b976cec21c4d9b603b80fe4ea8282ca4370cf6347731d"), looks := false }, kinds := [], alts := [], laidByText := true, laidKinds := [.data, .data], laidTests := true, laidLooks := .later }
def LockVictimsUptoCardSaid : Prop := Claim7.holds Tryd.pinned (.plain (OpenSpec.upto lockVictimsSpec)) lockVictimsUptoCard

/-- THE SECOND FORM's CARD OF 'padlockkeep.ModesEven'. -/
def modesEvenUptoCard : Claim7 := { stood := { row := modesEvenUptoRow, standIns := [], harness := (true, "70ee4f04238ff2a9aa2b976cec21c4d9b603b80fe4ea8282ca4370cf6347731d"), looks := false }, kinds := [], alts := [], laidByText := true, laidKinds := [.data], laidTests := true, laidLooks := .later }
def ModesEvenUptoCardSaid : Prop := Claim7.holds Tryd.pinned (.plain (OpenSpec.upto modesEvenSpec)) modesEvenUptoCard

/-- THE SECOND FORM's CARD OF 'padlockkeep.ModesJoin'. -/
def modesJoinUptoCard : Claim7 := { stood := { row := modesJoinUptoRow, standIns := [], harness := (true, "70ee4f04238ff2a9aa2b976cec21c4d9b603b80fe4ea8282ca4370cf6347731d"), looks := false }, kinds := [], alts := [], laidByText := true, laidKinds := [.data, .data], laidTests := true, laidLooks := .later }
def ModesJoinUptoCardSaid : Prop := Claim7.holds Tryd.pinned (.plain (OpenSpec.upto modesJoinSpec)) modesJoinUptoCard

/-- THE SECOND FORM's CARD OF 'padlockkeep.LocksSafe'. -/
def locksSafeUptoCard : Claim7 := { stood := { row := locksSafeUptoRow, standIns := [], harness := (true, "70ee4f04238ff2a9aa2b976cec21c4d9b603b80fe4ea8282ca4370cf6347731d"), looks := false }, kinds := [], alts := [], laidByText := true, laidKinds := [.data, .data], laidTests := true, laidLooks := .later }
def LocksSafeUptoCardSaid : Prop := Claim7.holds Tryd.pinned (.plain (OpenSpec.upto locksSafeSpec)) locksSafeUptoCard

/-- THE SECOND FORM's CARD OF 'padlockkeep.AskGets'. -/
def askGetsUptoCard : Claim7 := { stood := { row := askGetsUptoRow, standIns := [], harness := (true, "70ee4f04238ff2a9aa2b976cec21c4d9b603b80fe4ea8282ca4370cf6347731d"), looks := false }, kinds := [], alts := [], laidByText := true, laidKinds := [.data, .data], laidTests := true, laidLooks := .later }
def AskGetsUptoCardSaid : Prop := Claim7.holds Tryd.pinned (.plain (OpenSpec.upto askGetsSpec)) askGetsUptoCard

/-- THE SECOND FORM's CARD OF 'padlockkeep.LeaveFrees'. -/
def leaveFreesUptoCard : Claim7 := { stood := { row := leaveFreesUptoRow, standIns := [], harness := (true, "70ee4f04238ff2a9aa2b976cec21c4d9b603b80fe4ea8282ca4370cf6347731d"), looks := false }, kinds := [], alts := [], laidByText := true, laidKinds := [.data, .data], laidTests := true, laidLooks := .later }
def LeaveFreesUptoCardSaid : Prop := Claim7.holds Tryd.pinned (.plain (OpenSpec.upto leaveFreesSpec)) leaveFreesUptoCard

/-- THE SECOND FORM's CARD OF 'padlockkeep.AllLeave'. -/
def allLeaveUptoCard : Claim7 := { stood := { row := allLeaveUptoRow, standIns := [], harness := (true, "70ee4f04238ff2a9aa2b976cec21c4d9b603b80fe4ea8282ca4370cf6347731d"), looks := false }, kinds := [], alts := [], laidByText := true, laidKinds := [.data, .data], laidTests := true, laidLooks := .later }
def AllLeaveUptoCardSaid : Prop := Claim7.holds Tryd.pinned (.plain (OpenSpec.upto allLeaveSpec)) allLeaveUptoCard

/-- THE SECOND FORM's CARD OF 'padlockkeep.VictimsEnd'. -/
def victimsEndUptoCard : Claim7 := { stood := { row := victimsEndUptoRow, standIns := [], harness := (true, "70ee4f04238ff2a9aa2b976cec21c4d9b603b80fe4ea8282ca4370cf6347731d"), looks := false }, kinds := [], alts := [], laidByText := true, laidKinds := [.data, .data], laidTests := true, laidLooks := .later }
def VictimsEndUptoCardSaid : Prop := Claim7.holds Tryd.pinned (.plain (OpenSpec.upto victimsEndSpec)) victimsEndUptoCard

/-- THE SECOND FORM's CARD OF 'padlockkeep.WaitsSomebody'. -/
def waitsSomebodyUptoCard : Claim7 := { stood := { row := waitsSomebodyUptoRow, standIns := [], harness := (true, "70ee4f04238ff2a9aa2b976cec21c4d9b603b80fe4ea8282ca4370cf6347731d"), looks := false }, kinds := [], alts := [], laidByText := true, laidKinds := [.data, .data], laidTests := true, laidLooks := .later }
def WaitsSomebodyUptoCardSaid : Prop := Claim7.holds Tryd.pinned (.plain (OpenSpec.upto waitsSomebodySpec)) waitsSomebodyUptoCard

/-- THE SECOND FORM's CARD OF 'padlockkeep.AskAgain'. -/
def askAgainUptoCard : Claim7 := { stood := { row := askAgainUptoRow, standIns := [], harness := (true, "70ee4f04238ff2a9aa2b976cec21c4d9b603b80fe4ea8282ca4370cf6347731d"), looks := false }, kinds := [], alts := [], laidByText := true, laidKinds := [.data, .data], laidTests := true, laidLooks := .later }
def AskAgainUptoCardSaid : Prop := Claim7.holds Tryd.pinned (.plain (OpenSpec.upto askAgainSpec)) askAgainUptoCard

/-- THE SECOND FORM's CARD OF 'padlockkeep.AskAll'. -/
def askAllUptoCard : Claim7 := { stood := { row := askAllUptoRow, standIns := [], harness := (true, "70ee4f04238ff2a9aa2b976cec21c4d9b603b80fe4ea8282ca4370cf6347731d"), looks := false }, kinds := [], alts := [], laidByText := true, laidKinds := [.data, .data], laidTests := true, laidLooks := .later }
def AskAllUptoCardSaid : Prop := Claim7.holds Tryd.pinned (.plain (OpenSpec.upto askAllSpec)) askAllUptoCard

/-- THE SECOND FORM's CARD OF 'padlockkeep.LeaveTurns'. -/
def leaveTurnsUptoCard : Claim7 := { stood := { row := leaveTurnsUptoRow, standIns := [], harness := (true, "70ee4f04238ff2a9aa2b976cec21c4d9b603b80fe4ea8282ca4370cf6347731d"), looks := false }, kinds := [], alts := [], laidByText := true, laidKinds := [.data, .data], laidTests := true, laidLooks := .later }
def LeaveTurnsUptoCardSaid : Prop := Claim7.holds Tryd.pinned (.plain (OpenSpec.upto leaveTurnsSpec)) leaveTurnsUptoCard

/-- THE SECOND FORM's CARD OF 'padlockkeep.AskMore'. -/
def askMoreUptoCard : Claim7 := { stood := { row := askMoreUptoRow, standIns := [], harness := (true, "70ee4f04238ff2a9aa2b976cec21c4d9b603b80fe4ea8282ca4370cf6347731d"), looks := false }, kinds := [], alts := [], laidByText := true, laidKinds := [.data, .data], laidTests := true, laidLooks := .later }
def AskMoreUptoCardSaid : Prop := Claim7.holds Tryd.pinned (.plain (OpenSpec.upto askMoreSpec)) askMoreUptoCard

/-- THE SECOND FORM's CARD OF 'padlockkeep.AskFull'. -/
def askFullUptoCard : Claim7 := { stood := { row := askFullUptoRow, standIns := [], harness := (true, "70ee4f04238ff2a9aa2b976cec21c4d9b603b80fe4ea8282ca4370cf6347731d"), looks := false }, kinds := [], alts := [], laidByText := true, laidKinds := [.data, .data], laidTests := true, laidLooks := .later }
def AskFullUptoCardSaid : Prop := Claim7.holds Tryd.pinned (.plain (OpenSpec.upto askFullSpec)) askFullUptoCard
end Rows
end Go.Proofs.YtjnecmhgmmdjkaaDoor
