/-
  DERIVED. GIVEN WITH THE SEED: THE CARDS: each row of YtjnfhhmhbeobbaaDoorRows.lean that lists a variable, with what it lists TIED to the program's text (the seventh form; the later family's looks); each row that meets fmt, with fmt's text TOLD by the authors' own Lean function (tested against real Go, not proved from fmt's source: count such statements apart). THE CARD IS WHAT COUNTS. Prove the row's statement (the work); the ties are given (YtjnfhhmhbeobbaaDoorTie.lean); close each card by the builder's one call (the guide's Derived/Test/ToyasCard.lean, 'card_holds'). Laid BY PROGRAM, IN A SANDBOX (cutbox-door.mjs). By AI agents, Wed Nov 11 2026. No macro, syntax, notation, axiom, sorry.
-/
import Derived.Test.YtjnfhhmhbeobbaaDoorRows
import GoSem.ClaimSeven
namespace Go.Proofs.YtjnfhhmhbeobbaaDoor
namespace Rows

/-- THE TIED CARD OF 'padlockkeep.KindTold'. -/
def kindToldCard : Claim7 := { stood := { row := kindToldRow, standIns := [], harness := (true, "3ab418677373123f16895dd9944870cf65ab870ce67ddd8becb1ef359f97746b"), looks := false }, kinds := [], alts := [], laidByText := true, laidKinds := [.data, .data, .data, .data, .data, .data], laidTests := true, laidLooks := .later }
def KindToldCardSaid : Prop := Claim7.holds Tryd.pinned (.plain (OpenSpec.ofChange kindToldSpec)) kindToldCard

/-- THE TIED CARD OF 'padlockkeep.EvalNot'. -/
def evalNotCard : Claim7 := { stood := { row := evalNotRow, standIns := [], harness := (true, "3ab418677373123f16895dd9944870cf65ab870ce67ddd8becb1ef359f97746b"), looks := false }, kinds := [], alts := [], laidByText := true, laidKinds := [.data, .data, .data, .data, .data, .data], laidTests := true, laidLooks := .later }
def EvalNotCardSaid : Prop := Claim7.holds Tryd.pinned (.plain (OpenSpec.ofChange evalNotSpec)) evalNotCard

/-- THE SECOND FORM's CARD OF 'padlockkeep.KindTold'. -/
def kindToldUptoCard : Claim7 := { stood := { row := kindToldUptoRow, standIns := [], harness := (true, "3ab418677373123f16895dd9944870cf65ab870ce67ddd8becb1ef359f97746b"), looks := false }, kinds := [], alts := [], laidByText := true, laidKinds := [.data, .data, .data, .data, .data, .data], laidTests := true, laidLooks := .later }
def KindToldUptoCardSaid : Prop := Claim7.holds Tryd.pinned (.plain (OpenSpec.upto kindToldSpec)) kindToldUptoCard

/-- THE SECOND FORM's CARD OF 'padlockkeep.EvalNot'. -/
def evalNotUptoCard : Claim7 := { stood := { row := evalNotUptoRow, standIns := [], harness := (true, "3ab418677373123f16895dd9944870cf65ab870ce67ddd8becb1ef359f97746b"), looks := false }, kinds := [], alts := [], laidByText := true, laidKinds := [.data, .data, .data, .data, .data, .data], laidTests := true, laidLooks := .later }
def EvalNotUptoCardSaid : Prop := Claim7.holds Tryd.pinned (.plain (OpenSpec.upto evalNotSpec)) evalNotUptoCard
end Rows
end Go.Proofs.YtjnfhhmhbeobbaaDoor
