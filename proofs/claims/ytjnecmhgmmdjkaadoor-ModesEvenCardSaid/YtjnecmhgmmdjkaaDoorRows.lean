/-
  NARROWER THAN 'FOR EVERY INPUT', by the rows' own cells (each row's printed sentence says how): LockFits: laid · LockJoins: laid · LockChecks: laid · LockAsks: laid · LockWaits: laid · LockLeaves: laid · LockVictims: laid · ModesEven: laid · ModesJoin: laid · LocksSafe: laid · AskGets: laid · LeaveFrees: laid · AllLeave: laid · VictimsEnd: laid · WaitsSomebody: laid · AskAgain: laid · AskAll: laid · LeaveTurns: laid · AskMore: laid · AskFull: laid.
  DERIVED. THE GIVEN ROWS OF THIS SEAT. 20 by the template 'for every input the law returns true; each argument reads behind the call as it read before'; 0 by the template 'total and deterministic' (their statements: YtjnecmhgmmdjkaaDoorTotals.lean).
  GIVEN WITH THE SEED: the statements are not yours to turn. If you find one false, say at which input.
  Laid BY PROGRAM, IN A SANDBOX (cutbox-rows.mjs): the forced cells as the released guide's own fill.sh prints them over the translation f9f122ed039fbcd7… (all of the seat's roots in one cut). By AI agents, Wed Nov 11 2026. No macro, syntax, notation, axiom, sorry.
-/
import Derived.Test.YtjnecmhgmmdjkaaDoorChecked
import GoSem.Claim
import GoSem.ClaimJoined
import GoSem.ClaimMapViews
import Derived.JoinedTies
import Derived.KernelRfl
namespace Go.Proofs.YtjnecmhgmmdjkaaDoor
/- THE CELL 'sum', in the pinned program and in every row, IS THE sha256 OF THE DUMP (.gsa) THAT YtjnecmhgmmdjkaaDoorProg.lean LOADS. Nothing in Lean hashes anything: it is a label: what it is worth is what the hold of that sum in a sandbox is worth. -/
noncomputable def Tryd.pinned : Pinned := { name := "ytjnecmhgmmdjkaadoor", sum := "f9f122ed039fbcd73e987332a9234c06dfb980642b4cd67559e20402989aac66", checked := Tryd.checked }
namespace Rows
def none {H : Type} : Left H := { results := [], args := [] }

/- WHAT THE LISTED PACKAGE-LEVEL VARIABLES READ AS WHEN THE CALL BEGINS. Each datum BY PROGRAM (the guide's laid-datum.mjs) off the statement by which the dump's own 'gosem.cut.vars' lays the variable. In a bare row this is a premise. The card (YtjnecmhgmmdjkaaDoorCards.lean) ties it to the program's text. -/
def laid_padlock_lock_together {H : Type} : DataW H := .agg [.agg [.lit (.bool false), .lit (.bool false), .lit (.bool false), .lit (.bool false), .lit (.bool false), .lit (.bool false)], .agg [.lit (.bool false), .lit (.bool true), .lit (.bool true), .lit (.bool true), .lit (.bool true), .lit (.bool false)], .agg [.lit (.bool false), .lit (.bool true), .lit (.bool true), .lit (.bool false), .lit (.bool false), .lit (.bool false)], .agg [.lit (.bool false), .lit (.bool true), .lit (.bool false), .lit (.bool true), .lit (.bool false), .lit (.bool false)], .agg [.lit (.bool false), .lit (.bool true), .lit (.bool false), .lit (.bool false), .lit (.bool false), .lit (.bool false)], .agg [.lit (.bool false), .lit (.bool false), .lit (.bool false), .lit (.bool false), .lit (.bool false), .lit (.bool false)]]
def laid_padlock_lock_joined {H : Type} : DataW H := .agg [.agg [.lit (.int .i64 0), .lit (.int .i64 1), .lit (.int .i64 2), .lit (.int .i64 3), .lit (.int .i64 4), .lit (.int .i64 5)], .agg [.lit (.int .i64 0), .lit (.int .i64 1), .lit (.int .i64 2), .lit (.int .i64 3), .lit (.int .i64 4), .lit (.int .i64 5)], .agg [.lit (.int .i64 0), .lit (.int .i64 2), .lit (.int .i64 2), .lit (.int .i64 4), .lit (.int .i64 4), .lit (.int .i64 5)], .agg [.lit (.int .i64 0), .lit (.int .i64 3), .lit (.int .i64 4), .lit (.int .i64 3), .lit (.int .i64 4), .lit (.int .i64 5)], .agg [.lit (.int .i64 0), .lit (.int .i64 4), .lit (.int .i64 4), .lit (.int .i64 4), .lit (.int .i64 4), .lit (.int .i64 5)], .agg [.lit (.int .i64 0), .lit (.int .i64 5), .lit (.int .i64 5), .lit (.int .i64 5), .lit (.int .i64 5), .lit (.int .i64 5)]]

/-- 'padlocklaw.LockFits': WHATEVER THE INPUT: true; the input reads as it did. -/
def lockFitsSpec : ChangeSpec := { name := "lockFits", fn := fun _ => fun
  | [d1, d2] => { results := [.lit (.bool true)], args := [d1, d2] }
  | _ => none }
def lockFitsRow : OpenClaim := { program := "ytjnecmhgmmdjkaadoor", sum := "f9f122ed039fbcd73e987332a9234c06dfb980642b4cd67559e20402989aac66", func := "padlock/padlocklaw.LockFits", spec := "lockFits", named := ["padlock/lock.together"], apart := false, laid := [("padlock/lock.together", laid_padlock_lock_together)] }
def LockFitsSaid : Prop := lockFitsRow.holds Tryd.pinned (OpenSpec.ofChange lockFitsSpec)

/-- ITS FALSE NEIGHBOUR: 'it returns false'. Refute it at one input. -/
def lockFitsWrong : ChangeSpec := { name := "lockFits", fn := fun _ => fun
  | [d1, d2] => { results := [.lit (.bool false)], args := [d1, d2] }
  | _ => none }
def LockFitsWrongFalsely : Prop := lockFitsRow.holds Tryd.pinned (OpenSpec.ofChange lockFitsWrong)

/-- 'padlocklaw.LockJoins': WHATEVER THE INPUT: true; the input reads as it did. -/
def lockJoinsSpec : ChangeSpec := { name := "lockJoins", fn := fun _ => fun
  | [d1, d2] => { results := [.lit (.bool true)], args := [d1, d2] }
  | _ => none }
def lockJoinsRow : OpenClaim := { program := "ytjnecmhgmmdjkaadoor", sum := "f9f122ed039fbcd73e987332a9234c06dfb980642b4cd67559e20402989aac66", func := "padlock/padlocklaw.LockJoins", spec := "lockJoins", named := ["padlock/lock.joined"], apart := false, laid := [("padlock/lock.joined", laid_padlock_lock_joined)] }
def LockJoinsSaid : Prop := lockJoinsRow.holds Tryd.pinned (OpenSpec.ofChange lockJoinsSpec)

/-- ITS FALSE NEIGHBOUR: 'it returns false'. Refute it at one input. -/
def lockJoinsWrong : ChangeSpec := { name := "lockJoins", fn := fun _ => fun
  | [d1, d2] => { results := [.lit (.bool false)], args := [d1, d2] }
  | _ => none }
def LockJoinsWrongFalsely : Prop := lockJoinsRow.holds Tryd.pinned (OpenSpec.ofChange lockJoinsWrong)

/-- 'padlocklaw.LockChecks': WHATEVER THE INPUT: true; the input reads as it did. -/
def lockChecksSpec : ChangeSpec := { name := "lockChecks", fn := fun _ => fun
  | [d] => { results := [.lit (.bool true)], args := [d] }
  | _ => none }
def lockChecksRow : OpenClaim := { program := "ytjnecmhgmmdjkaadoor", sum := "f9f122ed039fbcd73e987332a9234c06dfb980642b4cd67559e20402989aac66", func := "padlock/padlocklaw.LockChecks", spec := "lockChecks", unfollowed := true, recurses := true, named := ["padlock/lock.together", "padlock/lock.joined"], apart := false, laid := [("padlock/lock.together", laid_padlock_lock_together), ("padlock/lock.joined", laid_padlock_lock_joined)] }
def LockChecksSaid : Prop := lockChecksRow.holds Tryd.pinned (OpenSpec.ofChange lockChecksSpec)

/-- ITS FALSE NEIGHBOUR: 'it returns false'. Refute it at one input. -/
def lockChecksWrong : ChangeSpec := { name := "lockChecks", fn := fun _ => fun
  | [d] => { results := [.lit (.bool false)], args := [d] }
  | _ => none }
def LockChecksWrongFalsely : Prop := lockChecksRow.holds Tryd.pinned (OpenSpec.ofChange lockChecksWrong)

/-- 'padlocklaw.LockAsks': WHATEVER THE INPUT: true; the input reads as it did. -/
def lockAsksSpec : ChangeSpec := { name := "lockAsks", fn := fun _ => fun
  | [d1, d2] => { results := [.lit (.bool true)], args := [d1, d2] }
  | _ => none }
def lockAsksRow : OpenClaim := { program := "ytjnecmhgmmdjkaadoor", sum := "f9f122ed039fbcd73e987332a9234c06dfb980642b4cd67559e20402989aac66", func := "padlock/padlocklaw.LockAsks", spec := "lockAsks", unfollowed := true, recurses := true, named := ["padlock/lock.joined", "padlock/lock.together"], apart := false, laid := [("padlock/lock.together", laid_padlock_lock_together), ("padlock/lock.joined", laid_padlock_lock_joined)] }
def LockAsksSaid : Prop := lockAsksRow.holds Tryd.pinned (OpenSpec.ofChange lockAsksSpec)

/-- ITS FALSE NEIGHBOUR: 'it returns false'. Refute it at one input. -/
def lockAsksWrong : ChangeSpec := { name := "lockAsks", fn := fun _ => fun
  | [d1, d2] => { results := [.lit (.bool false)], args := [d1, d2] }
  | _ => none }
def LockAsksWrongFalsely : Prop := lockAsksRow.holds Tryd.pinned (OpenSpec.ofChange lockAsksWrong)

/-- 'padlocklaw.LockWaits': WHATEVER THE INPUT: true; the input reads as it did. -/
def lockWaitsSpec : ChangeSpec := { name := "lockWaits", fn := fun _ => fun
  | [d] => { results := [.lit (.bool true)], args := [d] }
  | _ => none }
def lockWaitsRow : OpenClaim := { program := "ytjnecmhgmmdjkaadoor", sum := "f9f122ed039fbcd73e987332a9234c06dfb980642b4cd67559e20402989aac66", func := "padlock/padlocklaw.LockWaits", spec := "lockWaits", unfollowed := true, recurses := true, named := ["padlock/lock.together", "padlock/lock.joined"], apart := false, laid := [("padlock/lock.together", laid_padlock_lock_together), ("padlock/lock.joined", laid_padlock_lock_joined)] }
def LockWaitsSaid : Prop := lockWaitsRow.holds Tryd.pinned (OpenSpec.ofChange lockWaitsSpec)

/-- ITS FALSE NEIGHBOUR: 'it returns false'. Refute it at one input. -/
def lockWaitsWrong : ChangeSpec := { name := "lockWaits", fn := fun _ => fun
  | [d] => { results := [.lit (.bool false)], args := [d] }
  | _ => none }
def LockWaitsWrongFalsely : Prop := lockWaitsRow.holds Tryd.pinned (OpenSpec.ofChange lockWaitsWrong)

/-- 'padlocklaw.LockLeaves': WHATEVER THE INPUT: true; the input reads as it did. -/
def lockLeavesSpec : ChangeSpec := { name := "lockLeaves", fn := fun _ => fun
  | [d1, d2] => { results := [.lit (.bool true)], args := [d1, d2] }
  | _ => none }
def lockLeavesRow : OpenClaim := { program := "ytjnecmhgmmdjkaadoor", sum := "f9f122ed039fbcd73e987332a9234c06dfb980642b4cd67559e20402989aac66", func := "padlock/padlocklaw.LockLeaves", spec := "lockLeaves", unfollowed := true, recurses := true, named := ["padlock/lock.together", "padlock/lock.joined"], apart := false, laid := [("padlock/lock.together", laid_padlock_lock_together), ("padlock/lock.joined", laid_padlock_lock_joined)] }
def LockLeavesSaid : Prop := lockLeavesRow.holds Tryd.pinned (OpenSpec.ofChange lockLeavesSpec)

/-- ITS FALSE NEIGHBOUR: 'it returns false'. Refute it at one input. -/
def lockLeavesWrong : ChangeSpec := { name := "lockLeaves", fn := fun _ => fun
  | [d1, d2] => { results := [.lit (.bool false)], args := [d1, d2] }
  | _ => none }
def LockLeavesWrongFalsely : Prop := lockLeavesRow.holds Tryd.pinned (OpenSpec.ofChange lockLeavesWrong)

/-- 'padlocklaw.LockVictims': WHATEVER THE INPUT: true; the input reads as it did. -/
def lockVictimsSpec : ChangeSpec := { name := "lockVictims", fn := fun _ => fun
  | [d] => { results := [.lit (.bool true)], args := [d] }
  | _ => none }
def lockVictimsRow : OpenClaim := { program := "ytjnecmhgmmdjkaadoor", sum := "f9f122ed039fbcd73e987332a9234c06dfb980642b4cd67559e20402989aac66", func := "padlock/padlocklaw.LockVictims", spec := "lockVictims", unfollowed := true, recurses := true, named := ["padlock/lock.together", "padlock/lock.joined"], apart := false, laid := [("padlock/lock.together", laid_padlock_lock_together), ("padlock/lock.joined", laid_padlock_lock_joined)] }
def LockVictimsSaid : Prop := lockVictimsRow.holds Tryd.pinned (OpenSpec.ofChange lockVictimsSpec)

/-- ITS FALSE NEIGHBOUR: 'it returns false'. Refute it at one input. -/
def lockVictimsWrong : ChangeSpec := { name := "lockVictims", fn := fun _ => fun
  | [d] => { results := [.lit (.bool false)], args := [d] }
  | _ => none }
def LockVictimsWrongFalsely : Prop := lockVictimsRow.holds Tryd.pinned (OpenSpec.ofChange lockVictimsWrong)

/-- 'padlockkeep.ModesEven': WHATEVER THE INPUT: true; the input reads as it did. -/
def modesEvenSpec : ChangeSpec := { name := "modesEven", fn := fun _ => fun
  | [d1, d2] => { results := [.lit (.bool true)], args := [d1, d2] }
  | _ => none }
def modesEvenRow : OpenClaim := { program := "ytjnecmhgmmdjkaadoor", sum := "f9f122ed039fbcd73e987332a9234c06dfb980642b4cd67559e20402989aac66", func := "padlock/padlockkeep.ModesEven", spec := "modesEven", named := ["padlock/lock.together"], apart := false, laid := [("padlock/lock.together", laid_padlock_lock_together)] }
def ModesEvenSaid : Prop := modesEvenRow.holds Tryd.pinned (OpenSpec.ofChange modesEvenSpec)

/-- ITS FALSE NEIGHBOUR: 'it returns false'. Refute it at one input. -/
def modesEvenWrong : ChangeSpec := { name := "modesEven", fn := fun _ => fun
  | [d1, d2] => { results := [.lit (.bool false)], args := [d1, d2] }
  | _ => none }
def ModesEvenWrongFalsely : Prop := modesEvenRow.holds Tryd.pinned (OpenSpec.ofChange modesEvenWrong)

/-- 'padlockkeep.ModesJoin': WHATEVER THE INPUT: true; the input reads as it did. -/
def modesJoinSpec : ChangeSpec := { name := "modesJoin", fn := fun _ => fun
  | [d1, d2, d3] => { results := [.lit (.bool true)], args := [d1, d2, d3] }
  | _ => none }
def modesJoinRow : OpenClaim := { program := "ytjnecmhgmmdjkaadoor", sum := "f9f122ed039fbcd73e987332a9234c06dfb980642b4cd67559e20402989aac66", func := "padlock/padlockkeep.ModesJoin", spec := "modesJoin", named := ["padlock/lock.joined", "padlock/lock.together"], apart := false, laid := [("padlock/lock.together", laid_padlock_lock_together), ("padlock/lock.joined", laid_padlock_lock_joined)] }
def ModesJoinSaid : Prop := modesJoinRow.holds Tryd.pinned (OpenSpec.ofChange modesJoinSpec)

/-- ITS FALSE NEIGHBOUR: 'it returns false'. Refute it at one input. -/
def modesJoinWrong : ChangeSpec := { name := "modesJoin", fn := fun _ => fun
  | [d1, d2, d3] => { results := [.lit (.bool false)], args := [d1, d2, d3] }
  | _ => none }
def ModesJoinWrongFalsely : Prop := modesJoinRow.holds Tryd.pinned (OpenSpec.ofChange modesJoinWrong)

/-- 'padlockkeep.LocksSafe': WHATEVER THE INPUT: true; the input reads as it did. -/
def locksSafeSpec : ChangeSpec := { name := "locksSafe", fn := fun _ => fun
  | [d] => { results := [.lit (.bool true)], args := [d] }
  | _ => none }
def locksSafeRow : OpenClaim := { program := "ytjnecmhgmmdjkaadoor", sum := "f9f122ed039fbcd73e987332a9234c06dfb980642b4cd67559e20402989aac66", func := "padlock/padlockkeep.LocksSafe", spec := "locksSafe", unfollowed := true, recurses := true, named := ["padlock/lock.together", "padlock/lock.joined"], apart := false, laid := [("padlock/lock.together", laid_padlock_lock_together), ("padlock/lock.joined", laid_padlock_lock_joined)] }
def LocksSafeSaid : Prop := locksSafeRow.holds Tryd.pinned (OpenSpec.ofChange locksSafeSpec)

/-- ITS FALSE NEIGHBOUR: 'it returns false'. Refute it at one input. -/
def locksSafeWrong : ChangeSpec := { name := "locksSafe", fn := fun _ => fun
  | [d] => { results := [.lit (.bool false)], args := [d] }
  | _ => none }
def LocksSafeWrongFalsely : Prop := locksSafeRow.holds Tryd.pinned (OpenSpec.ofChange locksSafeWrong)

/-- 'padlockkeep.AskGets': WHATEVER THE INPUT: true; the input reads as it did. -/
def askGetsSpec : ChangeSpec := { name := "askGets", fn := fun _ => fun
  | [d1, d2] => { results := [.lit (.bool true)], args := [d1, d2] }
  | _ => none }
def askGetsRow : OpenClaim := { program := "ytjnecmhgmmdjkaadoor", sum := "f9f122ed039fbcd73e987332a9234c06dfb980642b4cd67559e20402989aac66", func := "padlock/padlockkeep.AskGets", spec := "askGets", unfollowed := true, recurses := true, named := ["padlock/lock.together", "padlock/lock.joined"], apart := false, laid := [("padlock/lock.together", laid_padlock_lock_together), ("padlock/lock.joined", laid_padlock_lock_joined)] }
def AskGetsSaid : Prop := askGetsRow.holds Tryd.pinned (OpenSpec.ofChange askGetsSpec)

/-- ITS FALSE NEIGHBOUR: 'it returns false'. Refute it at one input. -/
def askGetsWrong : ChangeSpec := { name := "askGets", fn := fun _ => fun
  | [d1, d2] => { results := [.lit (.bool false)], args := [d1, d2] }
  | _ => none }
def AskGetsWrongFalsely : Prop := askGetsRow.holds Tryd.pinned (OpenSpec.ofChange askGetsWrong)

/-- 'padlockkeep.LeaveFrees': WHATEVER THE INPUT: true; the input reads as it did. -/
def leaveFreesSpec : ChangeSpec := { name := "leaveFrees", fn := fun _ => fun
  | [d1, d2] => { results := [.lit (.bool true)], args := [d1, d2] }
  | _ => none }
def leaveFreesRow : OpenClaim := { program := "ytjnecmhgmmdjkaadoor", sum := "f9f122ed039fbcd73e987332a9234c06dfb980642b4cd67559e20402989aac66", func := "padlock/padlockkeep.LeaveFrees", spec := "leaveFrees", unfollowed := true, recurses := true, named := ["padlock/lock.together", "padlock/lock.joined"], apart := false, laid := [("padlock/lock.together", laid_padlock_lock_together), ("padlock/lock.joined", laid_padlock_lock_joined)] }
def LeaveFreesSaid : Prop := leaveFreesRow.holds Tryd.pinned (OpenSpec.ofChange leaveFreesSpec)

/-- ITS FALSE NEIGHBOUR: 'it returns false'. Refute it at one input. -/
def leaveFreesWrong : ChangeSpec := { name := "leaveFrees", fn := fun _ => fun
  | [d1, d2] => { results := [.lit (.bool false)], args := [d1, d2] }
  | _ => none }
def LeaveFreesWrongFalsely : Prop := leaveFreesRow.holds Tryd.pinned (OpenSpec.ofChange leaveFreesWrong)

/-- 'padlockkeep.AllLeave': WHATEVER THE INPUT: true; the input reads as it did. -/
def allLeaveSpec : ChangeSpec := { name := "allLeave", fn := fun _ => fun
  | [d] => { results := [.lit (.bool true)], args := [d] }
  | _ => none }
def allLeaveRow : OpenClaim := { program := "ytjnecmhgmmdjkaadoor", sum := "f9f122ed039fbcd73e987332a9234c06dfb980642b4cd67559e20402989aac66", func := "padlock/padlockkeep.AllLeave", spec := "allLeave", unfollowed := true, recurses := true, named := ["padlock/lock.together", "padlock/lock.joined"], apart := false, laid := [("padlock/lock.together", laid_padlock_lock_together), ("padlock/lock.joined", laid_padlock_lock_joined)] }
def AllLeaveSaid : Prop := allLeaveRow.holds Tryd.pinned (OpenSpec.ofChange allLeaveSpec)

/-- ITS FALSE NEIGHBOUR: 'it returns false'. Refute it at one input. -/
def allLeaveWrong : ChangeSpec := { name := "allLeave", fn := fun _ => fun
  | [d] => { results := [.lit (.bool false)], args := [d] }
  | _ => none }
def AllLeaveWrongFalsely : Prop := allLeaveRow.holds Tryd.pinned (OpenSpec.ofChange allLeaveWrong)

/-- 'padlockkeep.VictimsEnd': WHATEVER THE INPUT: true; the input reads as it did. -/
def victimsEndSpec : ChangeSpec := { name := "victimsEnd", fn := fun _ => fun
  | [d] => { results := [.lit (.bool true)], args := [d] }
  | _ => none }
def victimsEndRow : OpenClaim := { program := "ytjnecmhgmmdjkaadoor", sum := "f9f122ed039fbcd73e987332a9234c06dfb980642b4cd67559e20402989aac66", func := "padlock/padlockkeep.VictimsEnd", spec := "victimsEnd", unfollowed := true, recurses := true, named := ["padlock/lock.together", "padlock/lock.joined"], apart := false, laid := [("padlock/lock.together", laid_padlock_lock_together), ("padlock/lock.joined", laid_padlock_lock_joined)] }
def VictimsEndSaid : Prop := victimsEndRow.holds Tryd.pinned (OpenSpec.ofChange victimsEndSpec)

/-- ITS FALSE NEIGHBOUR: 'it returns false'. Refute it at one input. -/
def victimsEndWrong : ChangeSpec := { name := "victimsEnd", fn := fun _ => fun
  | [d] => { results := [.lit (.bool false)], args := [d] }
  | _ => none }
def VictimsEndWrongFalsely : Prop := victimsEndRow.holds Tryd.pinned (OpenSpec.ofChange victimsEndWrong)

/-- 'padlockkeep.WaitsSomebody': WHATEVER THE INPUT: true; the input reads as it did. -/
def waitsSomebodySpec : ChangeSpec := { name := "waitsSomebody", fn := fun _ => fun
  | [d] => { results := [.lit (.bool true)], args := [d] }
  | _ => none }
def waitsSomebodyRow : OpenClaim := { program := "ytjnecmhgmmdjkaadoor", sum := "f9f122ed039fbcd73e987332a9234c06dfb980642b4cd67559e20402989aac66", func := "padlock/padlockkeep.WaitsSomebody", spec := "waitsSomebody", unfollowed := true, recurses := true, named := ["padlock/lock.together", "padlock/lock.joined"], apart := false, laid := [("padlock/lock.together", laid_padlock_lock_together), ("padlock/lock.joined", laid_padlock_lock_joined)] }
def WaitsSomebodySaid : Prop := waitsSomebodyRow.holds Tryd.pinned (OpenSpec.ofChange waitsSomebodySpec)

/-- ITS FALSE NEIGHBOUR: 'it returns false'. Refute it at one input. -/
def waitsSomebodyWrong : ChangeSpec := { name := "waitsSomebody", fn := fun _ => fun
  | [d] => { results := [.lit (.bool false)], args := [d] }
  | _ => none }
def WaitsSomebodyWrongFalsely : Prop := waitsSomebodyRow.holds Tryd.pinned (OpenSpec.ofChange waitsSomebodyWrong)

/-- 'padlockkeep.AskAgain': WHATEVER THE INPUT: true; the input reads as it did. -/
def askAgainSpec : ChangeSpec := { name := "askAgain", fn := fun _ => fun
  | [d1, d2] => { results := [.lit (.bool true)], args := [d1, d2] }
  | _ => none }
def askAgainRow : OpenClaim := { program := "ytjnecmhgmmdjkaadoor", sum := "f9f122ed039fbcd73e987332a9234c06dfb980642b4cd67559e20402989aac66", func := "padlock/padlockkeep.AskAgain", spec := "askAgain", unfollowed := true, recurses := true, named := ["padlock/lock.together", "padlock/lock.joined"], apart := false, laid := [("padlock/lock.together", laid_padlock_lock_together), ("padlock/lock.joined", laid_padlock_lock_joined)] }
def AskAgainSaid : Prop := askAgainRow.holds Tryd.pinned (OpenSpec.ofChange askAgainSpec)

/-- ITS FALSE NEIGHBOUR: 'it returns false'. Refute it at one input. -/
def askAgainWrong : ChangeSpec := { name := "askAgain", fn := fun _ => fun
  | [d1, d2] => { results := [.lit (.bool false)], args := [d1, d2] }
  | _ => none }
def AskAgainWrongFalsely : Prop := askAgainRow.holds Tryd.pinned (OpenSpec.ofChange askAgainWrong)

/-- 'padlockkeep.AskAll': WHATEVER THE INPUT: true; the input reads as it did. -/
def askAllSpec : ChangeSpec := { name := "askAll", fn := fun _ => fun
  | [d] => { results := [.lit (.bool true)], args := [d] }
  | _ => none }
def askAllRow : OpenClaim := { program := "ytjnecmhgmmdjkaadoor", sum := "f9f122ed039fbcd73e987332a9234c06dfb980642b4cd67559e20402989aac66", func := "padlock/padlockkeep.AskAll", spec := "askAll", unfollowed := true, recurses := true, named := ["padlock/lock.joined", "padlock/lock.together"], apart := false, laid := [("padlock/lock.together", laid_padlock_lock_together), ("padlock/lock.joined", laid_padlock_lock_joined)] }
def AskAllSaid : Prop := askAllRow.holds Tryd.pinned (OpenSpec.ofChange askAllSpec)

/-- ITS FALSE NEIGHBOUR: 'it returns false'. Refute it at one input. -/
def askAllWrong : ChangeSpec := { name := "askAll", fn := fun _ => fun
  | [d] => { results := [.lit (.bool false)], args := [d] }
  | _ => none }
def AskAllWrongFalsely : Prop := askAllRow.holds Tryd.pinned (OpenSpec.ofChange askAllWrong)

/-- 'padlockkeep.LeaveTurns': WHATEVER THE INPUT: true; the input reads as it did. -/
def leaveTurnsSpec : ChangeSpec := { name := "leaveTurns", fn := fun _ => fun
  | [d] => { results := [.lit (.bool true)], args := [d] }
  | _ => none }
def leaveTurnsRow : OpenClaim := { program := "ytjnecmhgmmdjkaadoor", sum := "f9f122ed039fbcd73e987332a9234c06dfb980642b4cd67559e20402989aac66", func := "padlock/padlockkeep.LeaveTurns", spec := "leaveTurns", unfollowed := true, recurses := true, named := ["padlock/lock.joined", "padlock/lock.together"], apart := false, laid := [("padlock/lock.together", laid_padlock_lock_together), ("padlock/lock.joined", laid_padlock_lock_joined)] }
def LeaveTurnsSaid : Prop := leaveTurnsRow.holds Tryd.pinned (OpenSpec.ofChange leaveTurnsSpec)

/-- ITS FALSE NEIGHBOUR: 'it returns false'. Refute it at one input. -/
def leaveTurnsWrong : ChangeSpec := { name := "leaveTurns", fn := fun _ => fun
  | [d] => { results := [.lit (.bool false)], args := [d] }
  | _ => none }
def LeaveTurnsWrongFalsely : Prop := leaveTurnsRow.holds Tryd.pinned (OpenSpec.ofChange leaveTurnsWrong)

/-- 'padlockkeep.AskMore': WHATEVER THE INPUT: true; the input reads as it did. -/
def askMoreSpec : ChangeSpec := { name := "askMore", fn := fun _ => fun
  | [d1, d2, d3] => { results := [.lit (.bool true)], args := [d1, d2, d3] }
  | _ => none }
def askMoreRow : OpenClaim := { program := "ytjnecmhgmmdjkaadoor", sum := "f9f122ed039fbcd73e987332a9234c06dfb980642b4cd67559e20402989aac66", func := "padlock/padlockkeep.AskMore", spec := "askMore", unfollowed := true, recurses := true, named := ["padlock/lock.joined", "padlock/lock.together"], apart := false, laid := [("padlock/lock.together", laid_padlock_lock_together), ("padlock/lock.joined", laid_padlock_lock_joined)] }
def AskMoreSaid : Prop := askMoreRow.holds Tryd.pinned (OpenSpec.ofChange askMoreSpec)

/-- ITS FALSE NEIGHBOUR: 'it returns false'. Refute it at one input. -/
def askMoreWrong : ChangeSpec := { name := "askMore", fn := fun _ => fun
  | [d1, d2, d3] => { results := [.lit (.bool false)], args := [d1, d2, d3] }
  | _ => none }
def AskMoreWrongFalsely : Prop := askMoreRow.holds Tryd.pinned (OpenSpec.ofChange askMoreWrong)

/-- 'padlockkeep.AskFull': WHATEVER THE INPUT: true; the input reads as it did. -/
def askFullSpec : ChangeSpec := { name := "askFull", fn := fun _ => fun
  | [d] => { results := [.lit (.bool true)], args := [d] }
  | _ => none }
def askFullRow : OpenClaim := { program := "ytjnecmhgmmdjkaadoor", sum := "f9f122ed039fbcd73e987332a9234c06dfb980642b4cd67559e20402989aac66", func := "padlock/padlockkeep.AskFull", spec := "askFull", unfollowed := true, recurses := true, named := ["padlock/lock.joined", "padlock/lock.together"], apart := false, laid := [("padlock/lock.together", laid_padlock_lock_together), ("padlock/lock.joined", laid_padlock_lock_joined)] }
def AskFullSaid : Prop := askFullRow.holds Tryd.pinned (OpenSpec.ofChange askFullSpec)

/-- ITS FALSE NEIGHBOUR: 'it returns false'. Refute it at one input. -/
def askFullWrong : ChangeSpec := { name := "askFull", fn := fun _ => fun
  | [d] => { results := [.lit (.bool false)], args := [d] }
  | _ => none }
def AskFullWrongFalsely : Prop := askFullRow.holds Tryd.pinned (OpenSpec.ofChange askFullWrong)

/- THE SECOND FORM. 'bulk': how many values and letters a reading holds, each counted each time it is reached (what is shared counts as often as it is met; a slice's spare places count too). A statement '..UptoSaid' is the law's where the arguments, and the package variables that the reading takes, are together of bulk at most 1048576: NARROWER than '..Said'. Prove '..Said' where nothing that the law and all that it calls make is longer than what came in: it says more and counts as full. Else prove '..UptoSaid'. A law counts once. -/
mutual
def uptoBulk {H : Type} : DataW H → Nat
  | .lit (.string bytes) => bytes.length + 1
  | .lit _ => 1
  | .nil => 1
  | .ptr d => uptoBulk d + 1
  | .slice elems spare => uptoBulkAll elems + uptoBulkAll spare + 1
  | .agg parts => uptoBulkAll parts + 1
  | .iface _ d => uptoBulk d + 1
  | .map entries => uptoBulkEntries entries + 1
  | .held _ => 1
def uptoBulkAll {H : Type} : List (DataW H) → Nat
  | [] => 0
  | d :: r => uptoBulk d + uptoBulkAll r
def uptoBulkEntries {H : Type} : List (Lit × DataW H) → Nat
  | [] => 0
  | x :: r => uptoBulkEntry x + uptoBulkEntries r
def uptoBulkEntry {H : Type} : Lit × DataW H → Nat
  | (.string bytes, d) => bytes.length + uptoBulk d + 1
  | (_, d) => uptoBulk d + 1
 end
def uptoSmall : (H : Type) → List (DataW H) → Bool := fun _ ds => decide (uptoBulkAll ds ≤ 1048576)
def OpenSpec.upto (s : _root_.Go.ChangeSpec) : _root_.Go.OpenSpec := { _root_.Go.OpenSpec.ofChange s with cond := some uptoSmall }

/-- 'padlocklaw.LockFits', WHERE WHAT IT READS IS OF BULK AT MOST 1048576: true; the input reads as it did. -/
def lockFitsUptoRow : OpenClaim := { program := "ytjnecmhgmmdjkaadoor", sum := "f9f122ed039fbcd73e987332a9234c06dfb980642b4cd67559e20402989aac66", func := "padlock/padlocklaw.LockFits", spec := "lockFits", named := ["padlock/lock.together"], apart := false, laid := [("padlock/lock.together", laid_padlock_lock_together)], narrowed := true }
def LockFitsUptoSaid : Prop := lockFitsUptoRow.holds Tryd.pinned (OpenSpec.upto lockFitsSpec)

/-- 'padlocklaw.LockJoins', WHERE WHAT IT READS IS OF BULK AT MOST 1048576: true; the input reads as it did. -/
def lockJoinsUptoRow : OpenClaim := { program := "ytjnecmhgmmdjkaadoor", sum := "f9f122ed039fbcd73e987332a9234c06dfb980642b4cd67559e20402989aac66", func := "padlock/padlocklaw.LockJoins", spec := "lockJoins", named := ["padlock/lock.joined"], apart := false, laid := [("padlock/lock.joined", laid_padlock_lock_joined)], narrowed := true }
def LockJoinsUptoSaid : Prop := lockJoinsUptoRow.holds Tryd.pinned (OpenSpec.upto lockJoinsSpec)

/-- 'padlocklaw.LockChecks', WHERE WHAT IT READS IS OF BULK AT MOST 1048576: true; the input reads as it did. -/
def lockChecksUptoRow : OpenClaim := { program := "ytjnecmhgmmdjkaadoor", sum := "f9f122ed039fbcd73e987332a9234c06dfb980642b4cd67559e20402989aac66", func := "padlock/padlocklaw.LockChecks", spec := "lockChecks", unfollowed := true, recurses := true, named := ["padlock/lock.together", "padlock/lock.joined"], apart := false, laid := [("padlock/lock.together", laid_padlock_lock_together), ("padlock/lock.joined", laid_padlock_lock_joined)], narrowed := true }
def LockChecksUptoSaid : Prop := lockChecksUptoRow.holds Tryd.pinned (OpenSpec.upto lockChecksSpec)

/-- 'padlocklaw.LockAsks', WHERE WHAT IT READS IS OF BULK AT MOST 1048576: true; the input reads as it did. -/
def lockAsksUptoRow : OpenClaim := { program := "ytjnecmhgmmdjkaadoor", sum := "f9f122ed039fbcd73e987332a9234c06dfb980642b4cd67559e20402989aac66", func := "padlock/padlocklaw.LockAsks", spec := "lockAsks", unfollowed := true, recurses := true, named := ["padlock/lock.joined", "padlock/lock.together"], apart := false, laid := [("padlock/lock.together", laid_padlock_lock_together), ("padlock/lock.joined", laid_padlock_lock_joined)], narrowed := true }
def LockAsksUptoSaid : Prop := lockAsksUptoRow.holds Tryd.pinned (OpenSpec.upto lockAsksSpec)

/-- 'padlocklaw.LockWaits', WHERE WHAT IT READS IS OF BULK AT MOST 1048576: true; the input reads as it did. -/
def lockWaitsUptoRow : OpenClaim := { program := "ytjnecmhgmmdjkaadoor", sum := "f9f122ed039fbcd73e987332a9234c06dfb980642b4cd67559e20402989aac66", func := "padlock/padlocklaw.LockWaits", spec := "lockWaits", unfollowed := true, recurses := true, named := ["padlock/lock.together", "padlock/lock.joined"], apart := false, laid := [("padlock/lock.together", laid_padlock_lock_together), ("padlock/lock.joined", laid_padlock_lock_joined)], narrowed := true }
def LockWaitsUptoSaid : Prop := lockWaitsUptoRow.holds Tryd.pinned (OpenSpec.upto lockWaitsSpec)

/-- 'padlocklaw.LockLeaves', WHERE WHAT IT READS IS OF BULK AT MOST 1048576: true; the input reads as it did. -/
def lockLeavesUptoRow : OpenClaim := { program := "ytjnecmhgmmdjkaadoor", sum := "f9f122ed039fbcd73e987332a9234c06dfb980642b4cd67559e20402989aac66", func := "padlock/padlocklaw.LockLeaves", spec := "lockLeaves", unfollowed := true, recurses := true, named := ["padlock/lock.together", "padlock/lock.joined"], apart := false, laid := [("padlock/lock.together", laid_padlock_lock_together), ("padlock/lock.joined", laid_padlock_lock_joined)], narrowed := true }
def LockLeavesUptoSaid : Prop := lockLeavesUptoRow.holds Tryd.pinned (OpenSpec.upto lockLeavesSpec)

/-- 'padlocklaw.LockVictims', WHERE WHAT IT READS IS OF BULK AT MOST 1048576: true; the input reads as it did. -/
def lockVictimsUptoRow : OpenClaim := { program := "ytjnecmhgmmdjkaadoor", sum := "f9f122ed039fbcd73e987332a9234c06dfb980642b4cd67559e20402989aac66", func := "padlock/padlocklaw.LockVictims", spec := "lockVictims", unfollowed := true, recurses := true, named := ["padlock/lock.together", "padlock/lock.joined"], apart := false, laid := [("padlock/lock.together", laid_padlock_lock_together), ("padlock/lock.joined", laid_padlock_lock_joined)], narrowed := true }
def LockVictimsUptoSaid : Prop := lockVictimsUptoRow.holds Tryd.pinned (OpenSpec.upto lockVictimsSpec)

/-- 'padlockkeep.ModesEven', WHERE WHAT IT READS IS OF BULK AT MOST 1048576: true; the input reads as it did. -/
def modesEvenUptoRow : OpenClaim := { program := "ytjnecmhgmmdjkaadoor", sum := "f9f122ed039fbcd73e987332a9234c06dfb980642b4cd67559e20402989aac66", func := "padlock/padlockkeep.ModesEven", spec := "modesEven", named := ["padlock/lock.together"], apart := false, laid := [("padlock/lock.together", laid_padlock_lock_together)], narrowed := true }
def ModesEvenUptoSaid : Prop := modesEvenUptoRow.holds Tryd.pinned (OpenSpec.upto modesEvenSpec)

/-- 'padlockkeep.ModesJoin', WHERE WHAT IT READS IS OF BULK AT MOST 1048576: true; the input reads as it did. -/
def modesJoinUptoRow : OpenClaim := { program := "ytjnecmhgmmdjkaadoor", sum := "f9f122ed039fbcd73e987332a9234c06dfb980642b4cd67559e20402989aac66", func := "padlock/padlockkeep.ModesJoin", spec := "modesJoin", named := ["padlock/lock.joined", "padlock/lock.together"], apart := false, laid := [("padlock/lock.together", laid_padlock_lock_together), ("padlock/lock.joined", laid_padlock_lock_joined)], narrowed := true }
def ModesJoinUptoSaid : Prop := modesJoinUptoRow.holds Tryd.pinned (OpenSpec.upto modesJoinSpec)

/-- 'padlockkeep.LocksSafe', WHERE WHAT IT READS IS OF BULK AT MOST 1048576: true; the input reads as it did. -/
def locksSafeUptoRow : OpenClaim := { program := "ytjnecmhgmmdjkaadoor", sum := "f9f122ed039fbcd73e987332a9234c06dfb980642b4cd67559e20402989aac66", func := "padlock/padlockkeep.LocksSafe", spec := "locksSafe", unfollowed := true, recurses := true, named := ["padlock/lock.together", "padlock/lock.joined"], apart := false, laid := [("padlock/lock.together", laid_padlock_lock_together), ("padlock/lock.joined", laid_padlock_lock_joined)], narrowed := true }
def LocksSafeUptoSaid : Prop := locksSafeUptoRow.holds Tryd.pinned (OpenSpec.upto locksSafeSpec)

/-- 'padlockkeep.AskGets', WHERE WHAT IT READS IS OF BULK AT MOST 1048576: true; the input reads as it did. -/
def askGetsUptoRow : OpenClaim := { program := "ytjnecmhgmmdjkaadoor", sum := "f9f122ed039fbcd73e987332a9234c06dfb980642b4cd67559e20402989aac66", func := "padlock/padlockkeep.AskGets", spec := "askGets", unfollowed := true, recurses := true, named := ["padlock/lock.together", "padlock/lock.joined"], apart := false, laid := [("padlock/lock.together", laid_padlock_lock_together), ("padlock/lock.joined", laid_padlock_lock_joined)], narrowed := true }
def AskGetsUptoSaid : Prop := askGetsUptoRow.holds Tryd.pinned (OpenSpec.upto askGetsSpec)

/-- 'padlockkeep.LeaveFrees', WHERE WHAT IT READS IS OF BULK AT MOST 1048576: true; the input reads as it did. -/
def leaveFreesUptoRow : OpenClaim := { program := "ytjnecmhgmmdjkaadoor", sum := "f9f122ed039fbcd73e987332a9234c06dfb980642b4cd67559e20402989aac66", func := "padlock/padlockkeep.LeaveFrees", spec := "leaveFrees", unfollowed := true, recurses := true, named := ["padlock/lock.together", "padlock/lock.joined"], apart := false, laid := [("padlock/lock.together", laid_padlock_lock_together), ("padlock/lock.joined", laid_padlock_lock_joined)], narrowed := true }
def LeaveFreesUptoSaid : Prop := leaveFreesUptoRow.holds Tryd.pinned (OpenSpec.upto leaveFreesSpec)

/-- 'padlockkeep.AllLeave', WHERE WHAT IT READS IS OF BULK AT MOST 1048576: true; the input reads as it did. -/
def allLeaveUptoRow : OpenClaim := { program := "ytjnecmhgmmdjkaadoor", sum := "f9f122ed039fbcd73e987332a9234c06dfb980642b4cd67559e20402989aac66", func := "padlock/padlockkeep.AllLeave", spec := "allLeave", unfollowed := true, recurses := true, named := ["padlock/lock.together", "padlock/lock.joined"], apart := false, laid := [("padlock/lock.together", laid_padlock_lock_together), ("padlock/lock.joined", laid_padlock_lock_joined)], narrowed := true }
def AllLeaveUptoSaid : Prop := allLeaveUptoRow.holds Tryd.pinned (OpenSpec.upto allLeaveSpec)

/-- 'padlockkeep.VictimsEnd', WHERE WHAT IT READS IS OF BULK AT MOST 1048576: true; the input reads as it did. -/
def victimsEndUptoRow : OpenClaim := { program := "ytjnecmhgmmdjkaadoor", sum := "f9f122ed039fbcd73e987332a9234c06dfb980642b4cd67559e20402989aac66", func := "padlock/padlockkeep.VictimsEnd", spec := "victimsEnd", unfollowed := true, recurses := true, named := ["padlock/lock.together", "padlock/lock.joined"], apart := false, laid := [("padlock/lock.together", laid_padlock_lock_together), ("padlock/lock.joined", laid_padlock_lock_joined)], narrowed := true }
def VictimsEndUptoSaid : Prop := victimsEndUptoRow.holds Tryd.pinned (OpenSpec.upto victimsEndSpec)

/-- 'padlockkeep.WaitsSomebody', WHERE WHAT IT READS IS OF BULK AT MOST 1048576: true; the input reads as it did. -/
def waitsSomebodyUptoRow : OpenClaim := { program := "ytjnecmhgmmdjkaadoor", sum := "f9f122ed039fbcd73e987332a9234c06dfb980642b4cd67559e20402989aac66", func := "padlock/padlockkeep.WaitsSomebody", spec := "waitsSomebody", unfollowed := true, recurses := true, named := ["padlock/lock.together", "padlock/lock.joined"], apart := false, laid := [("padlock/lock.together", laid_padlock_lock_together), ("padlock/lock.joined", laid_padlock_lock_joined)], narrowed := true }
def WaitsSomebodyUptoSaid : Prop := waitsSomebodyUptoRow.holds Tryd.pinned (OpenSpec.upto waitsSomebodySpec)

/-- 'padlockkeep.AskAgain', WHERE WHAT IT READS IS OF BULK AT MOST 1048576: true; the input reads as it did. -/
def askAgainUptoRow : OpenClaim := { program := "ytjnecmhgmmdjkaadoor", sum := "f9f122ed039fbcd73e987332a9234c06dfb980642b4cd67559e20402989aac66", func := "padlock/padlockkeep.AskAgain", spec := "askAgain", unfollowed := true, recurses := true, named := ["padlock/lock.together", "padlock/lock.joined"], apart := false, laid := [("padlock/lock.together", laid_padlock_lock_together), ("padlock/lock.joined", laid_padlock_lock_joined)], narrowed := true }
def AskAgainUptoSaid : Prop := askAgainUptoRow.holds Tryd.pinned (OpenSpec.upto askAgainSpec)

/-- 'padlockkeep.AskAll', WHERE WHAT IT READS IS OF BULK AT MOST 1048576: true; the input reads as it did. -/
def askAllUptoRow : OpenClaim := { program := "ytjnecmhgmmdjkaadoor", sum := "f9f122ed039fbcd73e987332a9234c06dfb980642b4cd67559e20402989aac66", func := "padlock/padlockkeep.AskAll", spec := "askAll", unfollowed := true, recurses := true, named := ["padlock/lock.joined", "padlock/lock.together"], apart := false, laid := [("padlock/lock.together", laid_padlock_lock_together), ("padlock/lock.joined", laid_padlock_lock_joined)], narrowed := true }
def AskAllUptoSaid : Prop := askAllUptoRow.holds Tryd.pinned (OpenSpec.upto askAllSpec)

/-- 'padlockkeep.LeaveTurns', WHERE WHAT IT READS IS OF BULK AT MOST 1048576: true; the input reads as it did. -/
def leaveTurnsUptoRow : OpenClaim := { program := "ytjnecmhgmmdjkaadoor", sum := "f9f122ed039fbcd73e987332a9234c06dfb980642b4cd67559e20402989aac66", func := "padlock/padlockkeep.LeaveTurns", spec := "leaveTurns", unfollowed := true, recurses := true, named := ["padlock/lock.joined", "padlock/lock.together"], apart := false, laid := [("padlock/lock.together", laid_padlock_lock_together), ("padlock/lock.joined", laid_padlock_lock_joined)], narrowed := true }
def LeaveTurnsUptoSaid : Prop := leaveTurnsUptoRow.holds Tryd.pinned (OpenSpec.upto leaveTurnsSpec)

/-- 'padlockkeep.AskMore', WHERE WHAT IT READS IS OF BULK AT MOST 1048576: true; the input reads as it did. -/
def askMoreUptoRow : OpenClaim := { program := "ytjnecmhgmmdjkaadoor", sum := "f9f122ed039fbcd73e987332a9234c06dfb980642b4cd67559e20402989aac66", func := "padlock/padlockkeep.AskMore", spec := "askMore", unfollowed := true, recurses := true, named := ["padlock/lock.joined", "padlock/lock.together"], apart := false, laid := [("padlock/lock.together", laid_padlock_lock_together), ("padlock/lock.joined", laid_padlock_lock_joined)], narrowed := true }
def AskMoreUptoSaid : Prop := askMoreUptoRow.holds Tryd.pinned (OpenSpec.upto askMoreSpec)

/-- 'padlockkeep.AskFull', WHERE WHAT IT READS IS OF BULK AT MOST 1048576: true; the input reads as it did. -/
def askFullUptoRow : OpenClaim := { program := "ytjnecmhgmmdjkaadoor", sum := "f9f122ed039fbcd73e987332a9234c06dfb980642b4cd67559e20402989aac66", func := "padlock/padlockkeep.AskFull", spec := "askFull", unfollowed := true, recurses := true, named := ["padlock/lock.joined", "padlock/lock.together"], apart := false, laid := [("padlock/lock.together", laid_padlock_lock_together), ("padlock/lock.joined", laid_padlock_lock_joined)], narrowed := true }
def AskFullUptoSaid : Prop := askFullUptoRow.holds Tryd.pinned (OpenSpec.upto askFullSpec)

end Rows
end Go.Proofs.YtjnecmhgmmdjkaaDoor
