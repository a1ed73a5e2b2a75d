/-
  DERIVED. GIVEN WITH THE SEED: THE CARDS: each row of YtpddlckkncmlmabDoorRows.lean that lists a variable, with what it lists TIED to the program's text (the seventh form; the later family's looks); each row that meets fmt, with fmt's text TOLD by the authors' own Lean function (tested against real Go, not proved from fmt's source: count such statements apart). THE CARD IS WHAT COUNTS. Prove the row's statement (the work); the ties are given (YtpddlckkncmlmabDoorTie.lean); close each card by the builder's one call (the guide's Derived/Test/ToyasCard.lean, 'card_holds'). Laid BY PROGRAM, IN A SANDBOX (cutbox-door.mjs). By AI agents, Wed Nov 11 2026. No macro, syntax, notation, axiom, sorry.
-/
import Derived.Test.YtpddlckkncmlmabDoorRows
import GoSem.ClaimSeven
namespace Go.Proofs.YtpddlckkncmlmabDoor
namespace Rows

/-- THE TIED CARD OF 'padlocklaw.LockVictims'. -/
def lockVictimsCard : Claim7 := { stood := { row := lockVictimsRow, standIns := [], harness := (true, "9c71b994367bc0ba56f7291e7163f8401ba05009547fee35b024f80713cedbd5"), looks := false }, kinds := [], alts := [], laidByText := true, laidKinds := [.data, .data], laidTests := true, laidLooks := .later }
def LockVictimsCardSaid : Prop := Claim7.holds Tryd.pinned (.plain (OpenSpec.ofChange lockVictimsSpec)) lockVictimsCard

/-- THE TIED CARD OF 'padlockkeep.VictimsEnd'. -/
def victimsEndCard : Claim7 := { stood := { row := victimsEndRow, standIns := [], harness := (true, "9c71b994367bc0ba56f7291e7163f8401ba05009547fee35b024f80713cedbd5"), looks := false }, kinds := [], alts := [], laidByText := true, laidKinds := [.data, .data], laidTests := true, laidLooks := .later }
def VictimsEndCardSaid : Prop := Claim7.holds Tryd.pinned (.plain (OpenSpec.ofChange victimsEndSpec)) victimsEndCard

/-- THE TIED CARD OF 'padlockkeep.WaitsSomebody'. -/
def waitsSomebodyCard : Claim7 := { stood := { row := waitsSomebodyRow, standIns := [], harness := (true, "9c71b994367bc0ba56f7291e7163f8401ba05009547fee35b024f80713cedbd5"), looks := false }, kinds := [], alts := [], laidByText := true, laidKinds := [.data, .data], laidTests := true, laidLooks := .later }
def WaitsSomebodyCardSaid : Prop := Claim7.holds Tryd.pinned (.plain (OpenSpec.ofChange waitsSomebodySpec)) waitsSomebodyCard

/-- THE SECOND FORM's CARD OF 'padlocklaw.LockVictims'. -/
def lockVictimsUptoCard : Claim7 := { stood := { row := lockVictimsUptoRow, standIns := [], harness := (true, "9c71b994367bc0ba56f7291e7163f8401ba05009547fee35b024f80713cedbd5"), looks := false }, kinds := [], alts := [], laidByText := true, laidKinds := [.data, .data], laidTests := true, laidLooks := .later }
def LockVictimsUptoCardSaid : Prop := Claim7.holds Tryd.pinned (.plain (OpenSpec.upto lockVictimsSpec)) lockVictimsUptoCard

/-- THE SECOND FORM's CARD OF 'padlockkeep.VictimsEnd'. -/
def victimsEndUptoCard : Claim7 := { stood := { row := victimsEndUptoRow, standIns := [], harness := (true, "9c71b994367bc0ba56f7291e7163f8401ba05009547fee35b024f80713cedbd5"), looks := false }, kinds := [], alts := [], laidByText := true, laidKinds := [.data, .data], laidTests := true, laidLooks := .later }
def VictimsEndUptoCardSaid : Prop := Claim7.holds Tryd.pinned (.plain (OpenSpec.upto victimsEndSpec)) victimsEndUptoCard

/-- THE SECOND FORM's CARD OF 'padlockkeep.WaitsSomebody'. -/
def waitsSomebodyUptoCard : Claim7 := { stood := { row := waitsSomebodyUptoRow, standIns := [], harness := (true, "9c71b994367bc0ba56f7291e7163f8401ba05009547fee35b024f80713cedbd5"), looks := false }, kinds := [], alts := [], laidByText := true, laidKinds := [.data, .data], laidTests := true, laidLooks := .later }
def WaitsSomebodyUptoCardSaid : Prop := Claim7.holds Tryd.pinned (.plain (OpenSpec.upto waitsSomebodySpec)) waitsSomebodyUptoCard
end Rows
end Go.Proofs.YtpddlckkncmlmabDoor
