/-
  NARROWER THAN 'FOR EVERY INPUT', by the rows' own cells (each row's printed sentence says how): LockAsks: laid · LockWaits: laid · LockLeaves: laid.
  DERIVED. THE GIVEN ROWS OF THIS SEAT. 3 by the template 'for every input the law returns true; each argument reads behind the call as it read before'; 0 by the template 'total and deterministic' (their statements: YtpddlckkncmlmaaDoorTotals.lean).
  GIVEN WITH THE SEED: the statements are not yours to turn. If you find one false, say at which input.
  Laid BY PROGRAM, IN A SANDBOX (cutbox-rows.mjs): the forced cells as the released guide's own fill.sh prints them over the translation 0149ee0606b67d3b… (all of the seat's roots in one cut). By AI agents, Wed Nov 11 2026. No macro, syntax, notation, axiom, sorry.
-/
import Derived.Test.YtpddlckkncmlmaaDoorChecked
import GoSem.Claim
import GoSem.ClaimJoined
import GoSem.ClaimMapViews
import Derived.JoinedTies
import Derived.KernelRfl
namespace Go.Proofs.YtpddlckkncmlmaaDoor
/- THE CELL 'sum', in the pinned program and in every row, IS THE sha256 OF THE DUMP (.gsa) THAT YtpddlckkncmlmaaDoorProg.lean LOADS. Nothing in Lean hashes anything: it is a label: what it is worth is what the hold of that sum in a sandbox is worth. -/
noncomputable def Tryd.pinned : Pinned := { name := "ytpddlckkncmlmaadoor", sum := "0149ee0606b67d3b6dc05829e32403479569295d470996ddfa52838a51524098", checked := Tryd.checked }
namespace Rows
def none {H : Type} : Left H := { results := [], args := [] }

/- WHAT THE LISTED PACKAGE-LEVEL VARIABLES READ AS WHEN THE CALL BEGINS. Each datum BY PROGRAM (the guide's laid-datum.mjs) off the statement by which the dump's own 'gosem.cut.vars' lays the variable. In a bare row this is a premise. The card (YtpddlckkncmlmaaDoorCards.lean) ties it to the program's text. -/
def laid_padlock_lock_together {H : Type} : DataW H := .agg [.agg [.lit (.bool false), .lit (.bool false), .lit (.bool false), .lit (.bool false), .lit (.bool false), .lit (.bool false)], .agg [.lit (.bool false), .lit (.bool true), .lit (.bool true), .lit (.bool true), .lit (.bool true), .lit (.bool false)], .agg [.lit (.bool false), .lit (.bool true), .lit (.bool true), .lit (.bool false), .lit (.bool false), .lit (.bool false)], .agg [.lit (.bool false), .lit (.bool true), .lit (.bool false), .lit (.bool true), .lit (.bool false), .lit (.bool false)], .agg [.lit (.bool false), .lit (.bool true), .lit (.bool false), .lit (.bool false), .lit (.bool false), .lit (.bool false)], .agg [.lit (.bool false), .lit (.bool false), .lit (.bool false), .lit (.bool false), .lit (.bool false), .lit (.bool false)]]
def laid_padlock_lock_joined {H : Type} : DataW H := .agg [.agg [.lit (.int .i64 0), .lit (.int .i64 1), .lit (.int .i64 2), .lit (.int .i64 3), .lit (.int .i64 4), .lit (.int .i64 5)], .agg [.lit (.int .i64 0), .lit (.int .i64 1), .lit (.int .i64 2), .lit (.int .i64 3), .lit (.int .i64 4), .lit (.int .i64 5)], .agg [.lit (.int .i64 0), .lit (.int .i64 2), .lit (.int .i64 2), .lit (.int .i64 4), .lit (.int .i64 4), .lit (.int .i64 5)], .agg [.lit (.int .i64 0), .lit (.int .i64 3), .lit (.int .i64 4), .lit (.int .i64 3), .lit (.int .i64 4), .lit (.int .i64 5)], .agg [.lit (.int .i64 0), .lit (.int .i64 4), .lit (.int .i64 4), .lit (.int .i64 4), .lit (.int .i64 4), .lit (.int .i64 5)], .agg [.lit (.int .i64 0), .lit (.int .i64 5), .lit (.int .i64 5), .lit (.int .i64 5), .lit (.int .i64 5), .lit (.int .i64 5)]]

/-- 'padlocklaw.LockAsks': WHATEVER THE INPUT: true; the input reads as it did. -/
def lockAsksSpec : ChangeSpec := { name := "lockAsks", fn := fun _ => fun
  | [d1, d2] => { results := [.lit (.bool true)], args := [d1, d2] }
  | _ => none }
def lockAsksRow : OpenClaim := { program := "ytpddlckkncmlmaadoor", sum := "0149ee0606b67d3b6dc05829e32403479569295d470996ddfa52838a51524098", func := "padlock/padlocklaw.LockAsks", spec := "lockAsks", unfollowed := true, recurses := true, named := ["padlock/lock.joined", "padlock/lock.together"], apart := false, laid := [("padlock/lock.together", laid_padlock_lock_together), ("padlock/lock.joined", laid_padlock_lock_joined)] }
def LockAsksSaid : Prop := lockAsksRow.holds Tryd.pinned (OpenSpec.ofChange lockAsksSpec)

/-- ITS FALSE NEIGHBOUR: 'it returns false'. Refute it at one input. -/
def lockAsksWrong : ChangeSpec := { name := "lockAsks", fn := fun _ => fun
  | [d1, d2] => { results := [.lit (.bool false)], args := [d1, d2] }
  | _ => none }
def LockAsksWrongFalsely : Prop := lockAsksRow.holds Tryd.pinned (OpenSpec.ofChange lockAsksWrong)

/-- 'padlocklaw.LockWaits': WHATEVER THE INPUT: true; the input reads as it did. -/
def lockWaitsSpec : ChangeSpec := { name := "lockWaits", fn := fun _ => fun
  | [d] => { results := [.lit (.bool true)], args := [d] }
  | _ => none }
def lockWaitsRow : OpenClaim := { program := "ytpddlckkncmlmaadoor", sum := "0149ee0606b67d3b6dc05829e32403479569295d470996ddfa52838a51524098", func := "padlock/padlocklaw.LockWaits", spec := "lockWaits", unfollowed := true, recurses := true, named := ["padlock/lock.together", "padlock/lock.joined"], apart := false, laid := [("padlock/lock.together", laid_padlock_lock_together), ("padlock/lock.joined", laid_padlock_lock_joined)] }
def LockWaitsSaid : Prop := lockWaitsRow.holds Tryd.pinned (OpenSpec.ofChange lockWaitsSpec)

/-- ITS FALSE NEIGHBOUR: 'it returns false'. Refute it at one input. -/
def lockWaitsWrong : ChangeSpec := { name := "lockWaits", fn := fun _ => fun
  | [d] => { results := [.lit (.bool false)], args := [d] }
  | _ => none }
def LockWaitsWrongFalsely : Prop := lockWaitsRow.holds Tryd.pinned (OpenSpec.ofChange lockWaitsWrong)

/-- 'padlocklaw.LockLeaves': WHATEVER THE INPUT: true; the input reads as it did. -/
def lockLeavesSpec : ChangeSpec := { name := "lockLeaves", fn := fun _ => fun
  | [d1, d2] => { results := [.lit (.bool true)], args := [d1, d2] }
  | _ => none }
def lockLeavesRow : OpenClaim := { program := "ytpddlckkncmlmaadoor", sum := "0149ee0606b67d3b6dc05829e32403479569295d470996ddfa52838a51524098", func := "padlock/padlocklaw.LockLeaves", spec := "lockLeaves", unfollowed := true, recurses := true, named := ["padlock/lock.together", "padlock/lock.joined"], apart := false, laid := [("padlock/lock.together", laid_padlock_lock_together), ("padlock/lock.joined", laid_padlock_lock_joined)] }
def LockLeavesSaid : Prop := lockLeavesRow.holds Tryd.pinned (OpenSpec.ofChange lockLeavesSpec)

/-- ITS FALSE NEIGHBOUR: 'it returns false'. Refute it at one input. -/
def lockLeavesWrong : ChangeSpec := { name := "lockLeaves", fn := fun _ => fun
  | [d1, d2] => { results := [.lit (.bool false)], args := [d1, d2] }
  | _ => none }
def LockLeavesWrongFalsely : Prop := lockLeavesRow.holds Tryd.pinned (OpenSpec.ofChange lockLeavesWrong)

/- THE SECOND FORM. 'bulk': how many values and letters a reading holds, each counted each time it is reached (what is shared counts as often as it is met; a slice's spare places count too). A statement '..UptoSaid' is the law's where the arguments, and the package variables that the reading takes, are together of bulk at most 1048576: NARROWER than '..Said'. Prove '..Said' where nothing that the law and all that it calls make is longer than what came in: it says more and counts as full. Else prove '..UptoSaid'. A law counts once. -/
mutual
def uptoBulk {H : Type} : DataW H → Nat
  | .lit (.string bytes) => bytes.length + 1
  | .lit _ => 1
  | .nil => 1
  | .ptr d => uptoBulk d + 1
  | .slice elems spare => uptoBulkAll elems + uptoBulkAll spare + 1
  | .agg parts => uptoBulkAll parts + 1
  | .iface _ d => uptoBulk d + 1
  | .map entries => uptoBulkEntries entries + 1
  | .held _ => 1
def uptoBulkAll {H : Type} : List (DataW H) → Nat
  | [] => 0
  | d :: r => uptoBulk d + uptoBulkAll r
def uptoBulkEntries {H : Type} : List (Lit × DataW H) → Nat
  | [] => 0
  | x :: r => uptoBulkEntry x + uptoBulkEntries r
def uptoBulkEntry {H : Type} : Lit × DataW H → Nat
  | (.string bytes, d) => bytes.length + uptoBulk d + 1
  | (_, d) => uptoBulk d + 1
 end
def uptoSmall : (H : Type) → List (DataW H) → Bool := fun _ ds => decide (uptoBulkAll ds ≤ 1048576)
def OpenSpec.upto (s : _root_.Go.ChangeSpec) : _root_.Go.OpenSpec := { _root_.Go.OpenSpec.ofChange s with cond := some uptoSmall }

/-- 'padlocklaw.LockAsks', WHERE WHAT IT READS IS OF BULK AT MOST 1048576: true; the input reads as it did. -/
def lockAsksUptoRow : OpenClaim := { program := "ytpddlckkncmlmaadoor", sum := "0149ee0606b67d3b6dc05829e32403479569295d470996ddfa52838a51524098", func := "padlock/padlocklaw.LockAsks", spec := "lockAsks", unfollowed := true, recurses := true, named := ["padlock/lock.joined", "padlock/lock.together"], apart := false, laid := [("padlock/lock.together", laid_padlock_lock_together), ("padlock/lock.joined", laid_padlock_lock_joined)], narrowed := true }
def LockAsksUptoSaid : Prop := lockAsksUptoRow.holds Tryd.pinned (OpenSpec.upto lockAsksSpec)

/-- 'padlocklaw.LockWaits', WHERE WHAT IT READS IS OF BULK AT MOST 1048576: true; the input reads as it did. -/
def lockWaitsUptoRow : OpenClaim := { program := "ytpddlckkncmlmaadoor", sum := "0149ee0606b67d3b6dc05829e32403479569295d470996ddfa52838a51524098", func := "padlock/padlocklaw.LockWaits", spec := "lockWaits", unfollowed := true, recurses := true, named := ["padlock/lock.together", "padlock/lock.joined"], apart := false, laid := [("padlock/lock.together", laid_padlock_lock_together), ("padlock/lock.joined", laid_padlock_lock_joined)], narrowed := true }
def LockWaitsUptoSaid : Prop := lockWaitsUptoRow.holds Tryd.pinned (OpenSpec.upto lockWaitsSpec)

/-- 'padlocklaw.LockLeaves', WHERE WHAT IT READS IS OF BULK AT MOST 1048576: true; the input reads as it did. -/
def lockLeavesUptoRow : OpenClaim := { program := "ytpddlckkncmlmaadoor", sum := "0149ee0606b67d3b6dc05829e32403479569295d470996ddfa52838a51524098", func := "padlock/padlocklaw.LockLeaves", spec := "lockLeaves", unfollowed := true, recurses := true, named := ["padlock/lock.together", "padlock/lock.joined"], apart := false, laid := [("padlock/lock.together", laid_padlock_lock_together), ("padlock/lock.joined", laid_padlock_lock_joined)], narrowed := true }
def LockLeavesUptoSaid : Prop := lockLeavesUptoRow.holds Tryd.pinned (OpenSpec.upto lockLeavesSpec)

end Rows
end Go.Proofs.YtpddlckkncmlmaaDoor
