/-
  DERIVED. GIVEN WITH THE SEED: THE CARDS: each row of YtoiaedjglhcidabDoorRows.lean that lists a variable, with what it lists TIED to the program's text (the seventh form; the later family's looks); each row that meets fmt, with fmt's text TOLD by the authors' own Lean function (tested against real Go, not proved from fmt's source: count such statements apart). THE CARD IS WHAT COUNTS. Prove the row's statement (the work); the ties are given (YtoiaedjglhcidabDoorTie.lean); close each card by the builder's one call (the guide's Derived/Test/ToyasCard.lean, 'card_holds'). Laid BY PROGRAM, IN A SANDBOX (cutbox-door.mjs). By AI agents, Wed Nov 11 2026. No macro, syntax, notation, axiom, sorry.
-/
import Derived.Test.YtoiaedjglhcidabDoorRows
import GoSem.ClaimSeven
namespace Go.Proofs.YtoiaedjglhcidabDoor
namespace Rows

/-- THE TIED CARD OF 'padlocklaw.LockChecks'. -/
def lockChecksCard : Claim7 := { stood := { row := lockChecksRow, standIns := [], harness := (true, "ac60f87e3e67cdeadfee73e0ba1b7609d87a94ff9b89cc8629b5844f3bb805d4"), looks := false }, kinds := [], alts := [], laidByText := true, laidKinds := [.data, .data], laidTests := true, laidLooks := .later }
def LockChecksCardSaid : Prop := Claim7.holds Tryd.pinned (.plain (OpenSpec.ofChange lockChecksSpec)) lockChecksCard

/-- THE TIED CARD OF 'padlocklaw.LockAsks'. -/
def lockAsksCard : Claim7 := { stood := { row := lockAsksRow, standIns := [], harness := (true, "ac60f87e3e67cdeadfee73e0ba1b7609d87a94ff9b89cc8629b5844f3bb805d4"), looks := false }, kinds := [], alts := [], laidByText := true, laidKinds := [.data, .data], laidTests := true, laidLooks := .later }
def LockAsksCardSaid : Prop := Claim7.holds Tryd.pinned (.plain (OpenSpec.ofChange lockAsksSpec)) lockAsksCard

/-- THE TIED CARD OF 'padlocklaw.LockLeaves'. -/
def lockLeavesCard : Claim7 := { stood := { row := lockLeavesRow, standIns := [], harness := (true, "ac60f87e3e67cdeadfee73e0ba1b7609d87a94ff9b89cc8629b5844f3bb805d4"), looks := false }, kinds := [], alts := [], laidByText := true, laidKinds := [.data, .data], laidTests := true, laidLooks := .later }
def LockLeavesCardSaid : Prop := Claim7.holds Tryd.pinned (.plain (OpenSpec.ofChange lockLeavesSpec)) lockLeavesCard

/-- THE TIED CARD OF 'padlocklaw.LockWaits'. -/
def lockWaitsCard : Claim7 := { stood := { row := lockWaitsRow, standIns := [], harness := (true, "ac60f87e3e67cdeadfee73e0ba1b7609d87a94ff9b89cc8629b5844f3bb805d4"), looks := false }, kinds := [], alts := [], laidByText := true, laidKinds := [.data, .data], laidTests := true, laidLooks := .later }
def LockWaitsCardSaid : Prop := Claim7.holds Tryd.pinned (.plain (OpenSpec.ofChange lockWaitsSpec)) lockWaitsCard

/-- THE SECOND FORM's CARD OF 'padlocklaw.LockChecks'. -/
def lockChecksUptoCard : Claim7 := { stood := { row := lockChecksUptoRow, standIns := [], harness := (true, "ac60f87e3e67cdeadfee73e0ba1b7609d87a94ff9b89cc8629b5844f3bb805d4"), looks := false }, kinds := [], alts := [], laidByText := true, laidKinds := [.data, .data], laidTests := true, laidLooks := .later }
def LockChecksUptoCardSaid : Prop := Claim7.holds Tryd.pinned (.plain (OpenSpec.upto lockChecksSpec)) lockChecksUptoCard

/-- THE SECOND FORM's CARD OF 'padlocklaw.LockAsks'. -/
def lockAsksUptoCard : Claim7 := { stood := { row := lockAsksUptoRow, standIns := [], harness := (true, "ac60f87e3e67cdeadfee73e0ba1b7609d87a94ff9b89cc8629b5844f3bb805d4"), looks := false }, kinds := [], alts := [], laidByText := true, laidKinds := [.data, .data], laidTests := true, laidLooks := .later }
def LockAsksUptoCardSaid : Prop := Claim7.holds Tryd.pinned (.plain (OpenSpec.upto lockAsksSpec)) lockAsksUptoCard

/-- THE SECOND FORM's CARD OF 'padlocklaw.LockLeaves'. -/
def lockLeavesUptoCard : Claim7 := { stood := { row := lockLeavesUptoRow, standIns := [], harness := (true, "ac60f87e3e67cdeadfee73e0ba1b7609d87a94ff9b89cc8629b5844f3bb805d4"), looks := false }, kinds := [], alts := [], laidByText := true, laidKinds := [.data, .data], laidTests := true, laidLooks := .later }
def LockLeavesUptoCardSaid : Prop := Claim7.holds Tryd.pinned (.plain (OpenSpec.upto lockLeavesSpec)) lockLeavesUptoCard

/-- THE SECOND FORM's CARD OF 'padlocklaw.LockWaits'. -/
def lockWaitsUptoCard : Claim7 := { stood := { row := lockWaitsUptoRow, standIns := [], harness := (true, "ac60f87e3e67cdeadfee73e0ba1b7609d87a94ff9b89cc8629b5844f3bb805d4"), looks := false }, kinds := [], alts := [], laidByText := true, laidKinds := [.data, .data], laidTests := true, laidLooks := .later }
def LockWaitsUptoCardSaid : Prop := Claim7.holds Tryd.pinned (.plain (OpenSpec.upto lockWaitsSpec)) lockWaitsUptoCard
end Rows
end Go.Proofs.YtoiaedjglhcidabDoor
