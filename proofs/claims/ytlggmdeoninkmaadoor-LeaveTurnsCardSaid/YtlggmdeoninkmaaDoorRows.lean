/-
  NARROWER THAN 'FOR EVERY INPUT', by the rows' own cells (each row's printed sentence says how): AskFull: laid · AskMore: laid · AskAll: laid · LeaveTurns: laid.
  DERIVED. THE GIVEN ROWS OF THIS SEAT. 4 by the template 'for every input the law returns true; each argument reads behind the call as it read before'; 0 by the template 'total and deterministic' (their statements: YtlggmdeoninkmaaDoorTotals.lean).
  GIVEN WITH THE SEED: the statements are not yours to turn. If you find one false, say at which input.
  Laid BY PROGRAM, IN A SANDBOX (cutbox-rows.mjs): the forced cells as the released guide's own fill.sh prints them over the translation 8be6d8925e6f6a6e… (all of the seat's roots in one cut). By AI agents, Wed Nov 11 2026. No macro, syntax, notation, axiom, sorry.
-/
import Derived.Test.YtlggmdeoninkmaaDoorChecked
import GoSem.Claim
import GoSem.ClaimJoined
import GoSem.ClaimMapViews
import Derived.JoinedTies
import Derived.KernelRfl
namespace Go.Proofs.YtlggmdeoninkmaaDoor
/- THE CELL 'sum', in the pinned program and in every row, IS THE sha256 OF THE DUMP (.gsa) THAT YtlggmdeoninkmaaDoorProg.lean LOADS. Nothing in Lean hashes anything: it is a label: what it is worth is what the hold of that sum in a sandbox is worth. -/
noncomputable def Tryd.pinned : Pinned := { name := "ytlggmdeoninkmaadoor", sum := "8be6d8925e6f6a6e73e4da4759c4c5e3f8abed57959cdc4d9de7cac971876a97", checked := Tryd.checked }
namespace Rows
def none {H : Type} : Left H := { results := [], args := [] }

/- WHAT THE LISTED PACKAGE-LEVEL VARIABLES READ AS WHEN THE CALL BEGINS. Each datum BY PROGRAM (the guide's laid-datum.mjs) off the statement by which the dump's own 'gosem.cut.vars' lays the variable. In a bare row this is a premise. The card (YtlggmdeoninkmaaDoorCards.lean) ties it to the program's text. -/
def laid_padlock_lock_together {H : Type} : DataW H := .agg [.agg [.lit (.bool false), .lit (.bool false), .lit (.bool false), .lit (.bool false), .lit (.bool false), .lit (.bool false)], .agg [.lit (.bool false), .lit (.bool true), .lit (.bool true), .lit (.bool true), .lit (.bool true), .lit (.bool false)], .agg [.lit (.bool false), .lit (.bool true), .lit (.bool true), .lit (.bool false), .lit (.bool false), .lit (.bool false)], .agg [.lit (.bool false), .lit (.bool true), .lit (.bool false), .lit (.bool true), .lit (.bool false), .lit (.bool false)], .agg [.lit (.bool false), .lit (.bool true), .lit (.bool false), .lit (.bool false), .lit (.bool false), .lit (.bool false)], .agg [.lit (.bool false), .lit (.bool false), .lit (.bool false), .lit (.bool false), .lit (.bool false), .lit (.bool false)]]
def laid_padlock_lock_joined {H : Type} : DataW H := .agg [.agg [.lit (.int .i64 0), .lit (.int .i64 1), .lit (.int .i64 2), .lit (.int .i64 3), .lit (.int .i64 4), .lit (.int .i64 5)], .agg [.lit (.int .i64 0), .lit (.int .i64 1), .lit (.int .i64 2), .lit (.int .i64 3), .lit (.int .i64 4), .lit (.int .i64 5)], .agg [.lit (.int .i64 0), .lit (.int .i64 2), .lit (.int .i64 2), .lit (.int .i64 4), .lit (.int .i64 4), .lit (.int .i64 5)], .agg [.lit (.int .i64 0), .lit (.int .i64 3), .lit (.int .i64 4), .lit (.int .i64 3), .lit (.int .i64 4), .lit (.int .i64 5)], .agg [.lit (.int .i64 0), .lit (.int .i64 4), .lit (.int .i64 4), .lit (.int .i64 4), .lit (.int .i64 4), .lit (.int .i64 5)], .agg [.lit (.int .i64 0), .lit (.int .i64 5), .lit (.int .i64 5), .lit (.int .i64 5), .lit (.int .i64 5), .lit (.int .i64 5)]]

/-- 'padlockkeep.AskFull': WHATEVER THE INPUT: true; the input reads as it did. -/
def askFullSpec : ChangeSpec := { name := "askFull", fn := fun _ => fun
  | [d] => { results := [.lit (.bool true)], args := [d] }
  | _ => none }
def askFullRow : OpenClaim := { program := "ytlggmdeoninkmaadoor", sum := "8be6d8925e6f6a6e73e4da4759c4c5e3f8abed57959cdc4d9de7cac971876a97", func := "padlock/padlockkeep.AskFull", spec := "askFull", unfollowed := true, recurses := true, named := ["padlock/lock.joined", "padlock/lock.together"], apart := false, laid := [("padlock/lock.together", laid_padlock_lock_together), ("padlock/lock.joined", laid_padlock_lock_joined)] }
def AskFullSaid : Prop := askFullRow.holds Tryd.pinned (OpenSpec.ofChange askFullSpec)

/-- ITS FALSE NEIGHBOUR: 'it returns false'. Refute it at one input. -/
def askFullWrong : ChangeSpec := { name := "askFull", fn := fun _ => fun
  | [d] => { results := [.lit (.bool false)], args := [d] }
  | _ => none }
def AskFullWrongFalsely : Prop := askFullRow.holds Tryd.pinned (OpenSpec.ofChange askFullWrong)

/-- 'padlockkeep.AskMore': WHATEVER THE INPUT: true; the input reads as it did. -/
def askMoreSpec : ChangeSpec := { name := "askMore", fn := fun _ => fun
  | [d1, d2, d3] => { results := [.lit (.bool true)], args := [d1, d2, d3] }
  | _ => none }
def askMoreRow : OpenClaim := { program := "ytlggmdeoninkmaadoor", sum := "8be6d8925e6f6a6e73e4da4759c4c5e3f8abed57959cdc4d9de7cac971876a97", func := "padlock/padlockkeep.AskMore", spec := "askMore", unfollowed := true, recurses := true, named := ["padlock/lock.joined", "padlock/lock.together"], apart := false, laid := [("padlock/lock.together", laid_padlock_lock_together), ("padlock/lock.joined", laid_padlock_lock_joined)] }
def AskMoreSaid : Prop := askMoreRow.holds Tryd.pinned (OpenSpec.ofChange askMoreSpec)

/-- ITS FALSE NEIGHBOUR: 'it returns false'. Refute it at one input. -/
def askMoreWrong : ChangeSpec := { name := "askMore", fn := fun _ => fun
  | [d1, d2, d3] => { results := [.lit (.bool false)], args := [d1, d2, d3] }
  | _ => none }
def AskMoreWrongFalsely : Prop := askMoreRow.holds Tryd.pinned (OpenSpec.ofChange askMoreWrong)

/-- 'padlockkeep.AskAll': WHATEVER THE INPUT: true; the input reads as it did. -/
def askAllSpec : ChangeSpec := { name := "askAll", fn := fun _ => fun
  | [d] => { results := [.lit (.bool true)], args := [d] }
  | _ => none }
def askAllRow : OpenClaim := { program := "ytlggmdeoninkmaadoor", sum := "8be6d8925e6f6a6e73e4da4759c4c5e3f8abed57959cdc4d9de7cac971876a97", func := "padlock/padlockkeep.AskAll", spec := "askAll", unfollowed := true, recurses := true, named := ["padlock/lock.joined", "padlock/lock.together"], apart := false, laid := [("padlock/lock.together", laid_padlock_lock_together), ("padlock/lock.joined", laid_padlock_lock_joined)] }
def AskAllSaid : Prop := askAllRow.holds Tryd.pinned (OpenSpec.ofChange askAllSpec)

/-- ITS FALSE NEIGHBOUR: 'it returns false'. Refute it at one input. -/
def askAllWrong : ChangeSpec := { name := "askAll", fn := fun _ => fun
  | [d] => { results := [.lit (.bool false)], args := [d] }
  | _ => none }
def AskAllWrongFalsely : Prop := askAllRow.holds Tryd.pinned (OpenSpec.ofChange askAllWrong)

/-- 'padlockkeep.LeaveTurns': WHATEVER THE INPUT: true; the input reads as it did. -/
def leaveTurnsSpec : ChangeSpec := { name := "leaveTurns", fn := fun _ => fun
  | [d] => { results := [.lit (.bool true)], args := [d] }
  | _ => none }
def leaveTurnsRow : OpenClaim := { program := "ytlggmdeoninkmaadoor", sum := "8be6d8925e6f6a6e73e4da4759c4c5e3f8abed57959cdc4d9de7cac971876a97", func := "padlock/padlockkeep.LeaveTurns", spec := "leaveTurns", unfollowed := true, recurses := true, named := ["padlock/lock.joined", "padlock/lock.together"], apart := false, laid := [("padlock/lock.together", laid_padlock_lock_together), ("padlock/lock.joined", laid_padlock_lock_joined)] }
def LeaveTurnsSaid : Prop := leaveTurnsRow.holds Tryd.pinned (OpenSpec.ofChange leaveTurnsSpec)

/-- ITS FALSE NEIGHBOUR: 'it returns false'. Refute it at one input. -/
def leaveTurnsWrong : ChangeSpec := { name := "leaveTurns", fn := fun _ => fun
  | [d] => { results := [.lit (.bool false)], args := [d] }
  | _ => none }
def LeaveTurnsWrongFalsely : Prop := leaveTurnsRow.holds Tryd.pinned (OpenSpec.ofChange leaveTurnsWrong)

/- THE SECOND FORM. 'bulk': how many values and letters a reading holds, each counted each time it is reached (what is shared counts as often as it is met; a slice's spare places count too). A statement '..UptoSaid' is the law's where the arguments, and the package variables that the reading takes, are together of bulk at most 1048576: NARROWER than '..Said'. Prove '..Said' where nothing that the law and all that it calls make is longer than what came in: it says more and counts as full. Else prove '..UptoSaid'. A law counts once. -/
mutual
def uptoBulk {H : Type} : DataW H → Nat
  | .lit (.string bytes) => bytes.length + 1
  | .lit _ => 1
  | .nil => 1
  | .ptr d => uptoBulk d + 1
  | .slice elems spare => uptoBulkAll elems + uptoBulkAll spare + 1
  | .agg parts => uptoBulkAll parts + 1
  | .iface _ d => uptoBulk d + 1
  | .map entries => uptoBulkEntries entries + 1
  | .held _ => 1
def uptoBulkAll {H : Type} : List (DataW H) → Nat
  | [] => 0
  | d :: r => uptoBulk d + uptoBulkAll r
def uptoBulkEntries {H : Type} : List (Lit × DataW H) → Nat
  | [] => 0
  | x :: r => uptoBulkEntry x + uptoBulkEntries r
def uptoBulkEntry {H : Type} : Lit × DataW H → Nat
  | (.string bytes, d) => bytes.length + uptoBulk d + 1
  | (_, d) => uptoBulk d + 1
 end
def uptoSmall : (H : Type) → List (DataW H) → Bool := fun _ ds => decide (uptoBulkAll ds ≤ 1048576)
def OpenSpec.upto (s : _root_.Go.ChangeSpec) : _root_.Go.OpenSpec := { _root_.Go.OpenSpec.ofChange s with cond := some uptoSmall }

/-- 'padlockkeep.AskFull', WHERE WHAT IT READS IS OF BULK AT MOST 1048576: true; the input reads as it did. -/
def askFullUptoRow : OpenClaim := { program := "ytlggmdeoninkmaadoor", sum := "8be6d8925e6f6a6e73e4da4759c4c5e3f8abed57959cdc4d9de7cac971876a97", func := "padlock/padlockkeep.AskFull", spec := "askFull", unfollowed := true, recurses := true, named := ["padlock/lock.joined", "padlock/lock.together"], apart := false, laid := [("padlock/lock.together", laid_padlock_lock_together), ("padlock/lock.joined", laid_padlock_lock_joined)], narrowed := true }
def AskFullUptoSaid : Prop := askFullUptoRow.holds Tryd.pinned (OpenSpec.upto askFullSpec)

/-- 'padlockkeep.AskMore', WHERE WHAT IT READS IS OF BULK AT MOST 1048576: true; the input reads as it did. -/
def askMoreUptoRow : OpenClaim := { program := "ytlggmdeoninkmaadoor", sum := "8be6d8925e6f6a6e73e4da4759c4c5e3f8abed57959cdc4d9de7cac971876a97", func := "padlock/padlockkeep.AskMore", spec := "askMore", unfollowed := true, recurses := true, named := ["padlock/lock.joined", "padlock/lock.together"], apart := false, laid := [("padlock/lock.together", laid_padlock_lock_together), ("padlock/lock.joined", laid_padlock_lock_joined)], narrowed := true }
def AskMoreUptoSaid : Prop := askMoreUptoRow.holds Tryd.pinned (OpenSpec.upto askMoreSpec)

/-- 'padlockkeep.AskAll', WHERE WHAT IT READS IS OF BULK AT MOST 1048576: true; the input reads as it did. -/
def askAllUptoRow : OpenClaim := { program := "ytlggmdeoninkmaadoor", sum := "8be6d8925e6f6a6e73e4da4759c4c5e3f8abed57959cdc4d9de7cac971876a97", func := "padlock/padlockkeep.AskAll", spec := "askAll", unfollowed := true, recurses := true, named := ["padlock/lock.joined", "padlock/lock.together"], apart := false, laid := [("padlock/lock.together", laid_padlock_lock_together), ("padlock/lock.joined", laid_padlock_lock_joined)], narrowed := true }
def AskAllUptoSaid : Prop := askAllUptoRow.holds Tryd.pinned (OpenSpec.upto askAllSpec)

/-- 'padlockkeep.LeaveTurns', WHERE WHAT IT READS IS OF BULK AT MOST 1048576: true; the input reads as it did. -/
def leaveTurnsUptoRow : OpenClaim := { program := "ytlggmdeoninkmaadoor", sum := "8be6d8925e6f6a6e73e4da4759c4c5e3f8abed57959cdc4d9de7cac971876a97", func := "padlock/padlockkeep.LeaveTurns", spec := "leaveTurns", unfollowed := true, recurses := true, named := ["padlock/lock.joined", "padlock/lock.together"], apart := false, laid := [("padlock/lock.together", laid_padlock_lock_together), ("padlock/lock.joined", laid_padlock_lock_joined)], narrowed := true }
def LeaveTurnsUptoSaid : Prop := leaveTurnsUptoRow.holds Tryd.pinned (OpenSpec.upto leaveTurnsSpec)

end Rows
end Go.Proofs.YtlggmdeoninkmaaDoor
