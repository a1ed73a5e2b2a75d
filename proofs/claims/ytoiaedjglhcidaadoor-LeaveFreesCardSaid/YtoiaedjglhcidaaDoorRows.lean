/-
  NARROWER THAN 'FOR EVERY INPUT', by the rows' own cells (each row's printed sentence says how): LocksSafe: laid · AskGets: laid · LeaveFrees: laid · AllLeave: laid · AskAgain: laid.
  DERIVED. THE GIVEN ROWS OF THIS SEAT. 5 by the template 'for every input the law returns true; each argument reads behind the call as it read before'; 0 by the template 'total and deterministic' (their statements: YtoiaedjglhcidaaDoorTotals.lean).
  GIVEN WITH THE SEED: the statements are not yours to turn. If you find one false, say at which input.
  Laid BY PROGRAM, IN A SANDBOX (cutbox-rows.mjs): the forced cells as the released guide's own fill.sh prints them over the translation 2525d0c3ca8329f0… (all of the seat's roots in one cut). By AI agents, Wed Nov 11 2026. No macro, syntax, notation, axiom, sorry.
-/
import Derived.Test.YtoiaedjglhcidaaDoorChecked
import GoSem.Claim
import GoSem.ClaimJoined
import GoSem.ClaimMapViews
import Derived.JoinedTies
import Derived.KernelRfl
namespace Go.Proofs.YtoiaedjglhcidaaDoor
/- THE CELL 'sum', in the pinned program and in every row, IS THE sha256 OF THE DUMP (.gsa) THAT YtoiaedjglhcidaaDoorProg.lean LOADS. Nothing in Lean hashes anything: it is a label: what it is worth is what the hold of that sum in a sandbox is worth. -/
noncomputable def Tryd.pinned : Pinned := { name := "ytoiaedjglhcidaadoor", sum := "2525d0c3ca8329f0d8636e0b312357bdd5121e4d32c968022651405edd2d59ee", checked := Tryd.checked }
namespace Rows
def none {H : Type} : Left H := { results := [], args := [] }

/- WHAT THE LISTED PACKAGE-LEVEL VARIABLES READ AS WHEN THE CALL BEGINS. Each datum BY PROGRAM (the guide's laid-datum.mjs) off the statement by which the dump's own 'gosem.cut.vars' lays the variable. In a bare row this is a premise. The card (YtoiaedjglhcidaaDoorCards.lean) ties it to the program's text. -/
def laid_padlock_lock_together {H : Type} : DataW H := .agg [.agg [.lit (.bool false), .lit (.bool false), .lit (.bool false), .lit (.bool false), .lit (.bool false), .lit (.bool false)], .agg [.lit (.bool false), .lit (.bool true), .lit (.bool true), .lit (.bool true), .lit (.bool true), .lit (.bool false)], .agg [.lit (.bool false), .lit (.bool true), .lit (.bool true), .lit (.bool false), .lit (.bool false), .lit (.bool false)], .agg [.lit (.bool false), .lit (.bool true), .lit (.bool false), .lit (.bool true), .lit (.bool false), .lit (.bool false)], .agg [.lit (.bool false), .lit (.bool true), .lit (.bool false), .lit (.bool false), .lit (.bool false), .lit (.bool false)], .agg [.lit (.bool false), .lit (.bool false), .lit (.bool false), .lit (.bool false), .lit (.bool false), .lit (.bool false)]]
def laid_padlock_lock_joined {H : Type} : DataW H := .agg [.agg [.lit (.int .i64 0), .lit (.int .i64 1), .lit (.int .i64 2), .lit (.int .i64 3), .lit (.int .i64 4), .lit (.int .i64 5)], .agg [.lit (.int .i64 0), .lit (.int .i64 1), .lit (.int .i64 2), .lit (.int .i64 3), .lit (.int .i64 4), .lit (.int .i64 5)], .agg [.lit (.int .i64 0), .lit (.int .i64 2), .lit (.int .i64 2), .lit (.int .i64 4), .lit (.int .i64 4), .lit (.int .i64 5)], .agg [.lit (.int .i64 0), .lit (.int .i64 3), .lit (.int .i64 4), .lit (.int .i64 3), .lit (.int .i64 4), .lit (.int .i64 5)], .agg [.lit (.int .i64 0), .lit (.int .i64 4), .lit (.int .i64 4), .lit (.int .i64 4), .lit (.int .i64 4), .lit (.int .i64 5)], .agg [.lit (.int .i64 0), .lit (.int .i64 5), .lit (.int .i64 5), .lit (.int .i64 5), .lit (.int .i64 5), .lit (.int .i64 5)]]

/-- 'padlockkeep.LocksSafe': WHATEVER THE INPUT: true; the input reads as it did. -/
def locksSafeSpec : ChangeSpec := { name := "locksSafe", fn := fun _ => fun
  | [d] => { results := [.lit (.bool true)], args := [d] }
  | _ => none }
def locksSafeRow : OpenClaim := { program := "ytoiaedjglhcidaadoor", sum := "2525d0c3ca8329f0d8636e0b312357bdd5121e4d32c968022651405edd2d59ee", func := "padlock/padlockkeep.LocksSafe", spec := "locksSafe", unfollowed := true, recurses := true, named := ["padlock/lock.together", "padlock/lock.joined"], apart := false, laid := [("padlock/lock.together", laid_padlock_lock_together), ("padlock/lock.joined", laid_padlock_lock_joined)] }
def LocksSafeSaid : Prop := locksSafeRow.holds Tryd.pinned (OpenSpec.ofChange locksSafeSpec)

/-- ITS FALSE NEIGHBOUR: 'it returns false'. Refute it at one input. -/
def locksSafeWrong : ChangeSpec := { name := "locksSafe", fn := fun _ => fun
  | [d] => { results := [.lit (.bool false)], args := [d] }
  | _ => none }
def LocksSafeWrongFalsely : Prop := locksSafeRow.holds Tryd.pinned (OpenSpec.ofChange locksSafeWrong)

/-- 'padlockkeep.AskGets': WHATEVER THE INPUT: true; the input reads as it did. -/
def askGetsSpec : ChangeSpec := { name := "askGets", fn := fun _ => fun
  | [d1, d2] => { results := [.lit (.bool true)], args := [d1, d2] }
  | _ => none }
def askGetsRow : OpenClaim := { program := "ytoiaedjglhcidaadoor", sum := "2525d0c3ca8329f0d8636e0b312357bdd5121e4d32c968022651405edd2d59ee", func := "padlock/padlockkeep.AskGets", spec := "askGets", unfollowed := true, recurses := true, named := ["padlock/lock.together", "padlock/lock.joined"], apart := false, laid := [("padlock/lock.together", laid_padlock_lock_together), ("padlock/lock.joined", laid_padlock_lock_joined)] }
def AskGetsSaid : Prop := askGetsRow.holds Tryd.pinned (OpenSpec.ofChange askGetsSpec)

/-- ITS FALSE NEIGHBOUR: 'it returns false'. Refute it at one input. -/
def askGetsWrong : ChangeSpec := { name := "askGets", fn := fun _ => fun
  | [d1, d2] => { results := [.lit (.bool false)], args := [d1, d2] }
  | _ => none }
def AskGetsWrongFalsely : Prop := askGetsRow.holds Tryd.pinned (OpenSpec.ofChange askGetsWrong)

/-- 'padlockkeep.LeaveFrees': WHATEVER THE INPUT: true; the input reads as it did. -/
def leaveFreesSpec : ChangeSpec := { name := "leaveFrees", fn := fun _ => fun
  | [d1, d2] => { results := [.lit (.bool true)], args := [d1, d2] }
  | _ => none }
def leaveFreesRow : OpenClaim := { program := "ytoiaedjglhcidaadoor", sum := "2525d0c3ca8329f0d8636e0b312357bdd5121e4d32c968022651405edd2d59ee", func := "padlock/padlockkeep.LeaveFrees", spec := "leaveFrees", unfollowed := true, recurses := true, named := ["padlock/lock.together", "padlock/lock.joined"], apart := false, laid := [("padlock/lock.together", laid_padlock_lock_together), ("padlock/lock.joined", laid_padlock_lock_joined)] }
def LeaveFreesSaid : Prop := leaveFreesRow.holds Tryd.pinned (OpenSpec.ofChange leaveFreesSpec)

/-- ITS FALSE NEIGHBOUR: 'it returns false'. Refute it at one input. -/
def leaveFreesWrong : ChangeSpec := { name := "leaveFrees", fn := fun _ => fun
  | [d1, d2] => { results := [.lit (.bool false)], args := [d1, d2] }
  | _ => none }
def LeaveFreesWrongFalsely : Prop := leaveFreesRow.holds Tryd.pinned (OpenSpec.ofChange leaveFreesWrong)

/-- 'padlockkeep.AllLeave': WHATEVER THE INPUT: true; the input reads as it did. -/
def allLeaveSpec : ChangeSpec := { name := "allLeave", fn := fun _ => fun
  | [d] => { results := [.lit (.bool true)], args := [d] }
  | _ => none }
def allLeaveRow : OpenClaim := { program := "ytoiaedjglhcidaadoor", sum := "2525d0c3ca8329f0d8636e0b312357bdd5121e4d32c968022651405edd2d59ee", func := "padlock/padlockkeep.AllLeave", spec := "allLeave", unfollowed := true, recurses := true, named := ["padlock/lock.together", "padlock/lock.joined"], apart := false, laid := [("padlock/lock.together", laid_padlock_lock_together), ("padlock/lock.joined", laid_padlock_lock_joined)] }
def AllLeaveSaid : Prop := allLeaveRow.holds Tryd.pinned (OpenSpec.ofChange allLeaveSpec)

/-- ITS FALSE NEIGHBOUR: 'it returns false'. Refute it at one input. -/
def allLeaveWrong : ChangeSpec := { name := "allLeave", fn := fun _ => fun
  | [d] => { results := [.lit (.bool false)], args := [d] }
  | _ => none }
def AllLeaveWrongFalsely : Prop := allLeaveRow.holds Tryd.pinned (OpenSpec.ofChange allLeaveWrong)

/-- 'padlockkeep.AskAgain': WHATEVER THE INPUT: true; the input reads as it did. -/
def askAgainSpec : ChangeSpec := { name := "askAgain", fn := fun _ => fun
  | [d1, d2] => { results := [.lit (.bool true)], args := [d1, d2] }
  | _ => none }
def askAgainRow : OpenClaim := { program := "ytoiaedjglhcidaadoor", sum := "2525d0c3ca8329f0d8636e0b312357bdd5121e4d32c968022651405edd2d59ee", func := "padlock/padlockkeep.AskAgain", spec := "askAgain", unfollowed := true, recurses := true, named := ["padlock/lock.together", "padlock/lock.joined"], apart := false, laid := [("padlock/lock.together", laid_padlock_lock_together), ("padlock/lock.joined", laid_padlock_lock_joined)] }
def AskAgainSaid : Prop := askAgainRow.holds Tryd.pinned (OpenSpec.ofChange askAgainSpec)

/-- ITS FALSE NEIGHBOUR: 'it returns false'. Refute it at one input. -/
def askAgainWrong : ChangeSpec := { name := "askAgain", fn := fun _ => fun
  | [d1, d2] => { results := [.lit (.bool false)], args := [d1, d2] }
  | _ => none }
def AskAgainWrongFalsely : Prop := askAgainRow.holds Tryd.pinned (OpenSpec.ofChange askAgainWrong)

/- THE SECOND FORM. 'bulk': how many values and letters a reading holds, each counted each time it is reached (what is shared counts as often as it is met; a slice's spare places count too). A statement '..UptoSaid' is the law's where the arguments, and the package variables that the reading takes, are together of bulk at most 1048576: NARROWER than '..Said'. Prove '..Said' where nothing that the law and all that it calls make is longer than what came in: it says more and counts as full. Else prove '..UptoSaid'. A law counts once. -/
mutual
def uptoBulk {H : Type} : DataW H → Nat
  | .lit (.string bytes) => bytes.length + 1
  | .lit _ => 1
  | .nil => 1
  | .ptr d => uptoBulk d + 1
  | .slice elems spare => uptoBulkAll elems + uptoBulkAll spare + 1
  | .agg parts => uptoBulkAll parts + 1
  | .iface _ d => uptoBulk d + 1
  | .map entries => uptoBulkEntries entries + 1
  | .held _ => 1
def uptoBulkAll {H : Type} : List (DataW H) → Nat
  | [] => 0
  | d :: r => uptoBulk d + uptoBulkAll r
def uptoBulkEntries {H : Type} : List (Lit × DataW H) → Nat
  | [] => 0
  | x :: r => uptoBulkEntry x + uptoBulkEntries r
def uptoBulkEntry {H : Type} : Lit × DataW H → Nat
  | (.string bytes, d) => bytes.length + uptoBulk d + 1
  | (_, d) => uptoBulk d + 1
 end
def uptoSmall : (H : Type) → List (DataW H) → Bool := fun _ ds => decide (uptoBulkAll ds ≤ 1048576)
def OpenSpec.upto (s : _root_.Go.ChangeSpec) : _root_.Go.OpenSpec := { _root_.Go.OpenSpec.ofChange s with cond := some uptoSmall }

/-- 'padlockkeep.LocksSafe', WHERE WHAT IT READS IS OF BULK AT MOST 1048576: true; the input reads as it did. -/
def locksSafeUptoRow : OpenClaim := { program := "ytoiaedjglhcidaadoor", sum := "2525d0c3ca8329f0d8636e0b312357bdd5121e4d32c968022651405edd2d59ee", func := "padlock/padlockkeep.LocksSafe", spec := "locksSafe", unfollowed := true, recurses := true, named := ["padlock/lock.together", "padlock/lock.joined"], apart := false, laid := [("padlock/lock.together", laid_padlock_lock_together), ("padlock/lock.joined", laid_padlock_lock_joined)], narrowed := true }
def LocksSafeUptoSaid : Prop := locksSafeUptoRow.holds Tryd.pinned (OpenSpec.upto locksSafeSpec)

/-- 'padlockkeep.AskGets', WHERE WHAT IT READS IS OF BULK AT MOST 1048576: true; the input reads as it did. -/
def askGetsUptoRow : OpenClaim := { program := "ytoiaedjglhcidaadoor", sum := "2525d0c3ca8329f0d8636e0b312357bdd5121e4d32c968022651405edd2d59ee", func := "padlock/padlockkeep.AskGets", spec := "askGets", unfollowed := true, recurses := true, named := ["padlock/lock.together", "padlock/lock.joined"], apart := false, laid := [("padlock/lock.together", laid_padlock_lock_together), ("padlock/lock.joined", laid_padlock_lock_joined)], narrowed := true }
def AskGetsUptoSaid : Prop := askGetsUptoRow.holds Tryd.pinned (OpenSpec.upto askGetsSpec)

/-- 'padlockkeep.LeaveFrees', WHERE WHAT IT READS IS OF BULK AT MOST 1048576: true; the input reads as it did. -/
def leaveFreesUptoRow : OpenClaim := { program := "ytoiaedjglhcidaadoor", sum := "2525d0c3ca8329f0d8636e0b312357bdd5121e4d32c968022651405edd2d59ee", func := "padlock/padlockkeep.LeaveFrees", spec := "leaveFrees", unfollowed := true, recurses := true, named := ["padlock/lock.together", "padlock/lock.joined"], apart := false, laid := [("padlock/lock.together", laid_padlock_lock_together), ("padlock/lock.joined", laid_padlock_lock_joined)], narrowed := true }
def LeaveFreesUptoSaid : Prop := leaveFreesUptoRow.holds Tryd.pinned (OpenSpec.upto leaveFreesSpec)

/-- 'padlockkeep.AllLeave', WHERE WHAT IT READS IS OF BULK AT MOST 1048576: true; the input reads as it did. -/
def allLeaveUptoRow : OpenClaim := { program := "ytoiaedjglhcidaadoor", sum := "2525d0c3ca8329f0d8636e0b312357bdd5121e4d32c968022651405edd2d59ee", func := "padlock/padlockkeep.AllLeave", spec := "allLeave", unfollowed := true, recurses := true, named := ["padlock/lock.together", "padlock/lock.joined"], apart := false, laid := [("padlock/lock.together", laid_padlock_lock_together), ("padlock/lock.joined", laid_padlock_lock_joined)], narrowed := true }
def AllLeaveUptoSaid : Prop := allLeaveUptoRow.holds Tryd.pinned (OpenSpec.upto allLeaveSpec)

/-- 'padlockkeep.AskAgain', WHERE WHAT IT READS IS OF BULK AT MOST 1048576: true; the input reads as it did. -/
def askAgainUptoRow : OpenClaim := { program := "ytoiaedjglhcidaadoor", sum := "2525d0c3ca8329f0d8636e0b312357bdd5121e4d32c968022651405edd2d59ee", func := "padlock/padlockkeep.AskAgain", spec := "askAgain", unfollowed := true, recurses := true, named := ["padlock/lock.together", "padlock/lock.joined"], apart := false, laid := [("padlock/lock.together", laid_padlock_lock_together), ("padlock/lock.joined", laid_padlock_lock_joined)], narrowed := true }
def AskAgainUptoSaid : Prop := askAgainUptoRow.holds Tryd.pinned (OpenSpec.upto askAgainSpec)

end Rows
end Go.Proofs.YtoiaedjglhcidaaDoor
