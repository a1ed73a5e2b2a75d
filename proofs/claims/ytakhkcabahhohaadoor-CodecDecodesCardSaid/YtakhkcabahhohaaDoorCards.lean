/-
  DERIVED. GIVEN WITH THE SEED: THE CARDS: each row of YtakhkcabahhohaaDoorRows.lean that lists a variable, with what it lists TIED to the program's text (the seventh form; the later family's looks); each row that meets fmt, with fmt's text TOLD by the authors' own Lean function (tested against real Go, not proved from fmt's source: count such statements apart). THE CARD IS WHAT COUNTS. Prove the row's statement (the work); the ties are given (YtakhkcabahhohaaDoorTie.lean); close each card by the builder's one call (the guide's Derived/Test/ToyasCard.lean, 'card_holds'). Laid BY PROGRAM, IN A SANDBOX (cutbox-door.mjs). By AI agents, Wed Nov 11 2026. No macro, syntax, notation, axiom, sorry.
-/
import Derived.Test.YtakhkcabahhohaaDoorRows
import GoSem.ClaimSeven
namespace Go.Proofs.YtakhkcabahhohaaDoor
namespace Rows

/-- THE TIED CARD OF 'padlocklaw.CodecDecodes'. -/
def codecDecodesCard : Claim7 := { stood := { row := codecDecodesRow, standIns := [], harness := (true, "57f3db37046be7be39f79350c4ddf85caff730e6697cb8b54b3fb2738261014c"), looks := false }, kinds := [], alts := [], laidByText := true, laidKinds := [.data], laidTests := true, laidLooks := .later }
def CodecDecodesCardSaid : Prop := Claim7.holds Tryd.pinned (.plain (OpenSpec.ofChange codecDecodesSpec)) codecDecodesCard

/-- THE TIED CARD OF 'padlockkeep.KeyBack'. -/
def keyBackCard : Claim7 := { stood := { row := keyBackRow, standIns := [], harness := (true, "57f3db37046be7be39f79350c4ddf85caff730e6697cb8b54b3fb2738261014c"), looks := false }, kinds := [], alts := [], laidByText := true, laidKinds := [.data], laidTests := true, laidLooks := .later }
def KeyBackCardSaid : Prop := Claim7.holds Tryd.pinned (.plain (OpenSpec.ofChange keyBackSpec)) keyBackCard

/-- THE TIED CARD OF 'padlockkeep.KeyFixed'. -/
def keyFixedCard : Claim7 := { stood := { row := keyFixedRow, standIns := [], harness := (true, "57f3db37046be7be39f79350c4ddf85caff730e6697cb8b54b3fb2738261014c"), looks := false }, kinds := [], alts := [], laidByText := true, laidKinds := [.data], laidTests := true, laidLooks := .later }
def KeyFixedCardSaid : Prop := Claim7.holds Tryd.pinned (.plain (OpenSpec.ofChange keyFixedSpec)) keyFixedCard

/-- THE TIED CARD OF 'padlockkeep.KeyOrder'. -/
def keyOrderCard : Claim7 := { stood := { row := keyOrderRow, standIns := [], harness := (true, "57f3db37046be7be39f79350c4ddf85caff730e6697cb8b54b3fb2738261014c"), looks := false }, kinds := [], alts := [], laidByText := true, laidKinds := [.data], laidTests := true, laidLooks := .later }
def KeyOrderCardSaid : Prop := Claim7.holds Tryd.pinned (.plain (OpenSpec.ofChange keyOrderSpec)) keyOrderCard

/-- THE TIED CARD OF 'padlockkeep.KeyTorn'. -/
def keyTornCard : Claim7 := { stood := { row := keyTornRow, standIns := [], harness := (true, "57f3db37046be7be39f79350c4ddf85caff730e6697cb8b54b3fb2738261014c"), looks := false }, kinds := [], alts := [], laidByText := true, laidKinds := [.data], laidTests := true, laidLooks := .later }
def KeyTornCardSaid : Prop := Claim7.holds Tryd.pinned (.plain (OpenSpec.ofChange keyTornSpec)) keyTornCard

/-- THE SECOND FORM's CARD OF 'padlocklaw.CodecDecodes'. -/
def codecDecodesUptoCard : Claim7 := { stood := { row := codecDecodesUptoRow, standIns := [], harness := (true, "57f3db37046be7be39f79350c4ddf85caff730e6697cb8b54b3fb2738261014c"), looks := false }, kinds := [], alts := [], laidByText := true, laidKinds := [.data], laidTests := true, laidLooks := .later }
def CodecDecodesUptoCardSaid : Prop := Claim7.holds Tryd.pinned (.plain (OpenSpec.upto codecDecodesSpec)) codecDecodesUptoCard

/-- THE SECOND FORM's CARD OF 'padlockkeep.KeyBack'. -/
def keyBackUptoCard : Claim7 := { stood := { row := keyBackUptoRow, standIns := [], harness := (true, "57f3db37046be7be39f79350c4ddf85caff730e6697cb8b54b3fb2738261014c"), looks := false }, kinds := [], alts := [], laidByText := true, laidKinds := [.data], laidTests := true, laidLooks := .later }
def KeyBackUptoCardSaid : Prop := Claim7.holds Tryd.pinned (.plain (OpenSpec.upto keyBackSpec)) keyBackUptoCard

/-- THE SECOND FORM's CARD OF 'padlockkeep.KeyFixed'. -/
def keyFixedUptoCard : Claim7 := { stood := { row := keyFixedUptoRow, standIns := [], harness := (true, "57f3db37046be7be39f79350c4ddf85caff730e6697cb8b54b3fb2738261014c"), looks := false }, kinds := [], alts := [], laidByText := true, laidKinds := [.data], laidTests := true, laidLooks := .later }
def KeyFixedUptoCardSaid : Prop := Claim7.holds Tryd.pinned (.plain (OpenSpec.upto keyFixedSpec)) keyFixedUptoCard

/-- THE SECOND FORM's CARD OF 'padlockkeep.KeyOrder'. -/
def keyOrderUptoCard : Claim7 := { stood := { row := keyOrderUptoRow, standIns := [], harness := (true, "57f3db37046be7be39f79350c4ddf85caff730e6697cb8b54b3fb2738261014c"), looks := false }, kinds := [], alts := [], laidByText := true, laidKinds := [.data], laidTests := true, laidLooks := .later }
def KeyOrderUptoCardSaid : Prop := Claim7.holds Tryd.pinned (.plain (OpenSpec.upto keyOrderSpec)) keyOrderUptoCard

/-- THE SECOND FORM's CARD OF 'padlockkeep.KeyTorn'. -/
def keyTornUptoCard : Claim7 := { stood := { row := keyTornUptoRow, standIns := [], harness := (true, "57f3db37046be7be39f79350c4ddf85caff730e6697cb8b54b3fb2738261014c"), looks := false }, kinds := [], alts := [], laidByText := true, laidKinds := [.data], laidTests := true, laidLooks := .later }
def KeyTornUptoCardSaid : Prop := Claim7.holds Tryd.pinned (.plain (OpenSpec.upto keyTornSpec)) keyTornUptoCard
end Rows
end Go.Proofs.YtakhkcabahhohaaDoor
