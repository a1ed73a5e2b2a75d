/-
  DERIVED. GIVEN WITH THE SEED: THE CARDS: each row of YtmfkdpfcpdmkdaaGreatDoorRows.lean that lists a variable, with what it lists TIED to the program's text (the seventh form; the later family's looks); each row that meets fmt, with fmt's text TOLD by the authors' own Lean function (tested against real Go, not proved from fmt's source: count such statements apart). THE CARD IS WHAT COUNTS. Prove the row's statement (the work); the ties are given (YtmfkdpfcpdmkdaaGreatDoorTie.lean); close each card by the builder's one call (the guide's Derived/Test/ToyasCard.lean, 'card_holds'). Laid BY PROGRAM, IN A SANDBOX (cutbox-door.mjs). By AI agents, Wed Nov 11 2026. No macro, syntax, notation, axiom, sorry.
-/
import Derived.Test.YtmfkdpfcpdmkdaaGreatDoorRows
import GoSem.ClaimSeven
namespace Go.Proofs.YtmfkdpfcpdmkdaaGreatDoor
namespace Rows

/-- THE TIED CARD OF 'padlocklaw.ExprBounds'. -/
def exprBoundsCard : Claim7 := { stood := { row := exprBoundsRow, standIns := [], harness := (true, "3d82aa12c3c8aaa7e8b66d8dc9fb46bea523462e3e7954d90cd9712215150fc4"), looks := false }, kinds := [], alts := [], laidByText := true, laidKinds := [.data, .data, .data, .data, .data, .data], laidTests := true, laidLooks := .later }
def ExprBoundsCardSaid : Prop := Claim7.holds Tryz.pinned (.plain (OpenSpec.ofChange exprBoundsSpec)) exprBoundsCard

/-- THE SECOND FORM's CARD OF 'padlocklaw.ExprBounds'. -/
def exprBoundsUptoCard : Claim7 := { stood := { row := exprBoundsUptoRow, standIns := [], harness := (true, "3d82aa12c3c8aaa7e8b66d8dc9fb46bea523462e3e7954d90cd9712215150fc4"), looks := false }, kinds := [], alts := [], laidByText := true, laidKinds := [.data, .data, .data, .data, .data, .data], laidTests := true, laidLooks := .later }
def ExprBoundsUptoCardSaid : Prop := Claim7.holds Tryz.pinned (.plain (OpenSpec.upto exprBoundsSpec)) exprBoundsUptoCard
end Rows
end Go.Proofs.YtmfkdpfcpdmkdaaGreatDoor
