/-
  DERIVED. GIVEN WITH THE SEED: THE CARDS: each row of YtpddlckkncmlmaaDoorRows.lean that lists a variable, with what it lists TIED to the program's text (the seventh form; the later family's looks); each row that meets fmt, with fmt's text TOLD by the authors' own Lean function (tested against real Go, not proved from fmt's source: count such statements apart). THE CARD IS WHAT COUNTS. Prove the row's statement (the work); the ties are given (YtpddlckkncmlmaaDoorTie.lean); close each card by the builder's one call (the guide's Derived/Test/ToyasCard.lean, 'card_holds'). Laid BY PROGRAM, IN A SANDBOX (cutbox-door.mjs). By AI agents, Wed Nov 11 2026. No macro, syntax, notation, axiom, sorry.
-/
import Derived.Test.YtpddlckkncmlmaaDoorRows
import GoSem.ClaimSeven
namespace Go.Proofs.YtpddlckkncmlmaaDoor
namespace Rows

/-- THE TIED CARD OF 'padlocklaw.LockAsks'. -/
def lockAsksCard : Claim7 := { stood := { row := lockAsksRow, standIns := [], harness := (true, "91b31b4d941ef9a8449702afed47163db1d3ad1c5af03c322024c4ff9c5201de"), looks := false }, kinds := [], alts := [], laidByText := true, laidKinds := [.data, .data], laidTests := true, laidLooks := .later }
def LockAsksCardSaid : Prop := Claim7.holds Tryd.pinned (.plain (OpenSpec.ofChange lockAsksSpec)) lockAsksCard

/-- THE TIED CARD OF 'padlocklaw.LockWaits'. -/
def lockWaitsCard : Claim7 := { stood := { row := lockWaitsRow, standIns := [], harness := (true, "91b31b4d941ef9a8449702afed47163db1d3ad1c5af03c322024c4ff9c5201de"), looks := false }, kinds := [], alts := [], laidByText := true, laidKinds := [.data, .data], laidTests := true, laidLooks := .later }
def LockWaitsCardSaid : Prop := Claim7.holds Tryd.pinned (.plain (OpenSpec.ofChange lockWaitsSpec)) lockWaitsCard

/-- THE TIED CARD OF 'padlocklaw.LockLeaves'. -/
def lockLeavesCard : Claim7 := { stood := { row := lockLeavesRow, standIns := [], harness := (true, "91b31b4d941ef9a8449702afed47163db1d3ad1c5af03c322024c4ff9c5201de"), looks := false }, kinds := [], alts := [], laidByText := true, laidKinds := [.data, .data], laidTests := true, laidLooks := .later }
def LockLeavesCardSaid : Prop := Claim7.holds Tryd.pinned (.plain (OpenSpec.ofChange lockLeavesSpec)) lockLeavesCard

/-- THE SECOND FORM's CARD OF 'padlocklaw.LockAsks'. -/
def lockAsksUptoCard : Claim7 := { stood := { row := lockAsksUptoRow, standIns := [], harness := (true, "91b31b4d941ef9a8449702afed47163db1d3ad1c5af03c322024c4ff9c5201de"), looks := false }, kinds := [], alts := [], laidByText := true, laidKinds := [.data, .data], laidTests := true, laidLooks := .later }
def LockAsksUptoCardSaid : Prop := Claim7.holds Tryd.pinned (.plain (OpenSpec.upto lockAsksSpec)) lockAsksUptoCard

/-- THE SECOND FORM's CARD OF 'padlocklaw.LockWaits'. -/
def lockWaitsUptoCard : Claim7 := { stood := { row := lockWaitsUptoRow, standIns := [], harness := (true, "91b31b4d941ef9a8449702afed47163db1d3ad1c5af03c322024c4ff9c5201de"), looks := false }, kinds := [], alts := [], laidByText := true, laidKinds := [.data, .data], laidTests := true, laidLooks := .later }
def LockWaitsUptoCardSaid : Prop := Claim7.holds Tryd.pinned (.plain (OpenSpec.upto lockWaitsSpec)) lockWaitsUptoCard

/-- THE SECOND FORM's CARD OF 'padlocklaw.LockLeaves'. -/
def lockLeavesUptoCard : Claim7 := { stood := { row := lockLeavesUptoRow, standIns := [], harness := (true, "91b31b4d941ef9a8449702afed47163db1d3ad1c5af03c322024c4ff9c5201de"), looks := false }, kinds := [], alts := [], laidByText := true, laidKinds := [.data, .data], laidTests := true, laidLooks := .later }
def LockLeavesUptoCardSaid : Prop := Claim7.holds Tryd.pinned (.plain (OpenSpec.upto lockLeavesSpec)) lockLeavesUptoCard
end Rows
end Go.Proofs.YtpddlckkncmlmaaDoor
