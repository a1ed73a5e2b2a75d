/-
  NARROWER THAN 'FOR EVERY INPUT', by the rows' own cells (each row's printed sentence says how): LockVictims: laid · VictimsEnd: laid · WaitsSomebody: laid.
  DERIVED. THE GIVEN ROWS OF THIS SEAT. 3 by the template 'for every input the law returns true; each argument reads behind the call as it read before'; 0 by the template 'total and deterministic' (their statements: YtpddlckkncmlmabDoorTotals.lean).
  GIVEN WITH THE SEED: the statements are not yours to turn. If you find one false, say at which input.
  Laid BY PROGRAM, IN A SANDBOX (cutbox-rows.mjs): the forced cells as the released guide's own fill.sh prints them over the translation 9ffe921054a35425… (all of the seat's roots in one cut). By AI agents, Wed Nov 11 2026. No macro, syntax, notation, axiom, sorry.
-/
import Derived.Test.YtpddlckkncmlmabDoorChecked
import GoSem.Claim
import GoSem.ClaimJoined
import GoSem.ClaimMapViews
import Derived.JoinedTies
import Derived.KernelRfl
namespace Go.Proofs.YtpddlckkncmlmabDoor
/- THE CELL 'sum', in the pinned program and in every row, IS THE sha256 OF THE DUMP (.gsa) THAT YtpddlckkncmlmabDoorProg.lean LOADS. Nothing in Lean hashes anything: it is a label: what it is worth is what the hold of that sum in a sandbox is worth. -/
noncomputable def Tryd.pinned : Pinned := { name := "ytpddlckkncmlmabdoor", sum := "9ffe921054a35425d4f55be8e3413ba33939a28f52a09350c5a329bdefc839be", checked := Tryd.checked }
namespace Rows
def none {H : Type} : Left H := { results := [], args := [] }

/- WHAT THE LISTED PACKAGE-LEVEL VARIABLES READ AS WHEN THE CALL BEGINS. Each datum BY PROGRAM (the guide's laid-datum.mjs) off the statement by which the dump's own 'gosem.cut.vars' lays the variable. In a bare row this is a premise. The card (YtpddlckkncmlmabDoorCards.lean) ties it to the program's text. -/
def laid_padlock_lock_together {H : Type} : DataW H := .agg [.agg [.lit (.bool false), .lit (.bool false), .lit (.bool false), .lit (.bool false), .lit (.bool false), .lit (.bool false)], .agg [.lit (.bool false), .lit (.bool true), .lit (.bool true), .lit (.bool true), .lit (.bool true), .lit (.bool false)], .agg [.lit (.bool false), .lit (.bool true), .lit (.bool true), .lit (.bool false), .lit (.bool false), .lit (.bool false)], .agg [.lit (.bool false), .lit (.bool true), .lit (.bool false), .lit (.bool true), .lit (.bool false), .lit (.bool false)], .agg [.lit (.bool false), .lit (.bool true), .lit (.bool false), .lit (.bool false), .lit (.bool false), .lit (.bool false)], .agg [.lit (.bool false), .lit (.bool false), .lit (.bool false), .lit (.bool false), .lit (.bool false), .lit (.bool false)]]
def laid_padlock_lock_joined {H : Type} : DataW H := .agg [.agg [.lit (.int .i64 0), .lit (.int .i64 1), .lit (.int .i64 2), .lit (.int .i64 3), .lit (.int .i64 4), .lit (.int .i64 5)], .agg [.lit (.int .i64 0), .lit (.int .i64 1), .lit (.int .i64 2), .lit (.int .i64 3), .lit (.int .i64 4), .lit (.int .i64 5)], .agg [.lit (.int .i64 0), .lit (.int .i64 2), .lit (.int .i64 2), .lit (.int .i64 4), .lit (.int .i64 4), .lit (.int .i64 5)], .agg [.lit (.int .i64 0), .lit (.int .i64 3), .lit (.int .i64 4), .lit (.int .i64 3), .lit (.int .i64 4), .lit (.int .i64 5)], .agg [.lit (.int .i64 0), .lit (.int .i64 4), .lit (.int .i64 4), .lit (.int .i64 4), .lit (.int .i64 4), .lit (.int .i64 5)], .agg [.lit (.int .i64 0), .lit (.int .i64 5), .lit (.int .i64 5), .lit (.int .i64 5), .lit (.int .i64 5), .lit (.int .i64 5)]]

/-- 'padlocklaw.LockVictims': WHATEVER THE INPUT: true; the input reads as it did. -/
def lockVictimsSpec : ChangeSpec := { name := "lockVictims", fn := fun _ => fun
  | [d] => { results := [.lit (.bool true)], args := [d] }
  | _ => none }
def lockVictimsRow : OpenClaim := { program := "ytpddlckkncmlmabdoor", sum := "9ffe921054a35425d4f55be8e3413ba33939a28f52a09350c5a329bdefc839be", func := "padlock/padlocklaw.LockVictims", spec := "lockVictims", unfollowed := true, recurses := true, named := ["padlock/lock.together", "padlock/lock.joined"], apart := false, laid := [("padlock/lock.together", laid_padlock_lock_together), ("padlock/lock.joined", laid_padlock_lock_joined)] }
def LockVictimsSaid : Prop := lockVictimsRow.holds Tryd.pinned (OpenSpec.ofChange lockVictimsSpec)

/-- ITS FALSE NEIGHBOUR: 'it returns false'. Refute it at one input. -/
def lockVictimsWrong : ChangeSpec := { name := "lockVictims", fn := fun _ => fun
  | [d] => { results := [.lit (.bool false)], args := [d] }
  | _ => none }
def LockVictimsWrongFalsely : Prop := lockVictimsRow.holds Tryd.pinned (OpenSpec.ofChange lockVictimsWrong)

/-- 'padlockkeep.VictimsEnd': WHATEVER THE INPUT: true; the input reads as it did. -/
def victimsEndSpec : ChangeSpec := { name := "victimsEnd", fn := fun _ => fun
  | [d] => { results := [.lit (.bool true)], args := [d] }
  | _ => none }
def victimsEndRow : OpenClaim := { program := "ytpddlckkncmlmabdoor", sum := "9ffe921054a35425d4f55be8e3413ba33939a28f52a09350c5a329bdefc839be", func := "padlock/padlockkeep.VictimsEnd", spec := "victimsEnd", unfollowed := true, recurses := true, named := ["padlock/lock.together", "padlock/lock.joined"], apart := false, laid := [("padlock/lock.together", laid_padlock_lock_together), ("padlock/lock.joined", laid_padlock_lock_joined)] }
def VictimsEndSaid : Prop := victimsEndRow.holds Tryd.pinned (OpenSpec.ofChange victimsEndSpec)

/-- ITS FALSE NEIGHBOUR: 'it returns false'. Refute it at one input. -/
def victimsEndWrong : ChangeSpec := { name := "victimsEnd", fn := fun _ => fun
  | [d] => { results := [.lit (.bool false)], args := [d] }
  | _ => none }
def VictimsEndWrongFalsely : Prop := victimsEndRow.holds Tryd.pinned (OpenSpec.ofChange victimsEndWrong)

/-- 'padlockkeep.WaitsSomebody': WHATEVER THE INPUT: true; the input reads as it did. -/
def waitsSomebodySpec : ChangeSpec := { name := "waitsSomebody", fn := fun _ => fun
  | [d] => { results := [.lit (.bool true)], args := [d] }
  | _ => none }
def waitsSomebodyRow : OpenClaim := { program := "ytpddlckkncmlmabdoor", sum := "9ffe921054a35425d4f55be8e3413ba33939a28f52a09350c5a329bdefc839be", func := "padlock/padlockkeep.WaitsSomebody", spec := "waitsSomebody", unfollowed := true, recurses := true, named := ["padlock/lock.together", "padlock/lock.joined"], apart := false, laid := [("padlock/lock.together", laid_padlock_lock_together), ("padlock/lock.joined", laid_padlock_lock_joined)] }
def WaitsSomebodySaid : Prop := waitsSomebodyRow.holds Tryd.pinned (OpenSpec.ofChange waitsSomebodySpec)

/-- ITS FALSE NEIGHBOUR: 'it returns false'. Refute it at one input. -/
def waitsSomebodyWrong : ChangeSpec := { name := "waitsSomebody", fn := fun _ => fun
  | [d] => { results := [.lit (.bool false)], args := [d] }
  | _ => none }
def WaitsSomebodyWrongFalsely : Prop := waitsSomebodyRow.holds Tryd.pinned (OpenSpec.ofChange waitsSomebodyWrong)

/- THE SECOND FORM. 'bulk': how many values and letters a reading holds, each counted each time it is reached (what is shared counts as often as it is met; a slice's spare places count too). A statement '..UptoSaid' is the law's where the arguments, and the package variables that the reading takes, are together of bulk at most 1048576: NARROWER than '..Said'. Prove '..Said' where nothing that the law and all that it calls make is longer than what came in: it says more and counts as full. Else prove '..UptoSaid'. A law counts once. -/
mutual
def uptoBulk {H : Type} : DataW H → Nat
  | .lit (.string bytes) => bytes.length + 1
  | .lit _ => 1
  | .nil => 1
  | .ptr d => uptoBulk d + 1
  | .slice elems spare => uptoBulkAll elems + uptoBulkAll spare + 1
  | .agg parts => uptoBulkAll parts + 1
  | .iface _ d => uptoBulk d + 1
  | .map entries => uptoBulkEntries entries + 1
  | .held _ => 1
def uptoBulkAll {H : Type} : List (DataW H) → Nat
  | [] => 0
  | d :: r => uptoBulk d + uptoBulkAll r
def uptoBulkEntries {H : Type} : List (Lit × DataW H) → Nat
  | [] => 0
  | x :: r => uptoBulkEntry x + uptoBulkEntries r
def uptoBulkEntry {H : Type} : Lit × DataW H → Nat
  | (.string bytes, d) => bytes.length + uptoBulk d + 1
  | (_, d) => uptoBulk d + 1
 end
def uptoSmall : (H : Type) → List (DataW H) → Bool := fun _ ds => decide (uptoBulkAll ds ≤ 1048576)
def OpenSpec.upto (s : _root_.Go.ChangeSpec) : _root_.Go.OpenSpec := { _root_.Go.OpenSpec.ofChange s with cond := some uptoSmall }

/-- 'padlocklaw.LockVictims', WHERE WHAT IT READS IS OF BULK AT MOST 1048576: true; the input reads as it did. -/
def lockVictimsUptoRow : OpenClaim := { program := "ytpddlckkncmlmabdoor", sum := "9ffe921054a35425d4f55be8e3413ba33939a28f52a09350c5a329bdefc839be", func := "padlock/padlocklaw.LockVictims", spec := "lockVictims", unfollowed := true, recurses := true, named := ["padlock/lock.together", "padlock/lock.joined"], apart := false, laid := [("padlock/lock.together", laid_padlock_lock_together), ("padlock/lock.joined", laid_padlock_lock_joined)], narrowed := true }
def LockVictimsUptoSaid : Prop := lockVictimsUptoRow.holds Tryd.pinned (OpenSpec.upto lockVictimsSpec)

/-- 'padlockkeep.VictimsEnd', WHERE WHAT IT READS IS OF BULK AT MOST 1048576: true; the input reads as it did. -/
def victimsEndUptoRow : OpenClaim := { program := "ytpddlckkncmlmabdoor", sum := "9ffe921054a35425d4f55be8e3413ba33939a28f52a09350c5a329bdefc839be", func := "padlock/padlockkeep.VictimsEnd", spec := "victimsEnd", unfollowed := true, recurses := true, named := ["padlock/lock.together", "padlock/lock.joined"], apart := false, laid := [("padlock/lock.together", laid_padlock_lock_together), ("padlock/lock.joined", laid_padlock_lock_joined)], narrowed := true }
def VictimsEndUptoSaid : Prop := victimsEndUptoRow.holds Tryd.pinned (OpenSpec.upto victimsEndSpec)

/-- 'padlockkeep.WaitsSomebody', WHERE WHAT IT READS IS OF BULK AT MOST 1048576: true; the input reads as it did. -/
def waitsSomebodyUptoRow : OpenClaim := { program := "ytpddlckkncmlmabdoor", sum := "9ffe921054a35425d4f55be8e3413ba33939a28f52a09350c5a329bdefc839be", func := "padlock/padlockkeep.WaitsSomebody", spec := "waitsSomebody", unfollowed := true, recurses := true, named := ["padlock/lock.together", "padlock/lock.joined"], apart := false, laid := [("padlock/lock.together", laid_padlock_lock_together), ("padlock/lock.joined", laid_padlock_lock_joined)], narrowed := true }
def WaitsSomebodyUptoSaid : Prop := waitsSomebodyUptoRow.holds Tryd.pinned (OpenSpec.upto waitsSomebodySpec)

end Rows
end Go.Proofs.YtpddlckkncmlmabDoor
