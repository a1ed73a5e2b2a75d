/-
  NARROWER THAN 'FOR EVERY INPUT', by the rows' own cells (each row's printed sentence says how): CodecDecodes: laid · KeyBack: laid · KeyFixed: laid · KeyOrder: laid · KeyTorn: laid.
  DERIVED. THE GIVEN ROWS OF THIS SEAT. 5 by the template 'for every input the law returns true; each argument reads behind the call as it read before'; 0 by the template 'total and deterministic' (their statements: YtakhkcabahhohaaDoorTotals.lean).
  GIVEN WITH THE SEED: the statements are not yours to turn. If you find one false, say at which input.
  Laid BY PROGRAM, IN A SANDBOX (cutbox-rows.mjs): the forced cells as the released guide's own fill.sh prints them over the translation 82e5085b21084a53… (all of the seat's roots in one cut). By AI agents, Wed Nov 11 2026. No macro, syntax, notation, axiom, sorry.
-/
import Derived.Test.YtakhkcabahhohaaDoorChecked
import GoSem.Claim
import GoSem.ClaimJoined
import GoSem.ClaimMapViews
import Derived.JoinedTies
import Derived.KernelRfl
namespace Go.Proofs.YtakhkcabahhohaaDoor
/- THE CELL 'sum', in the pinned program and in every row, IS THE sha256 OF THE DUMP (.gsa) THAT YtakhkcabahhohaaDoorProg.lean LOADS. Nothing in Lean hashes anything: it is a label: what it is worth is what the hold of that sum in a sandbox is worth. -/
noncomputable def Tryd.pinned : Pinned := { name := "ytakhkcabahhohaadoor", sum := "82e5085b21084a53dd71fb489ef38213915af2d8484ed0553ac155e2448a43f0", checked := Tryd.checked }
namespace Rows
def none {H : Type} : Left H := { results := [], args := [] }

/- WHAT THE LISTED PACKAGE-LEVEL VARIABLES READ AS WHEN THE CALL BEGINS. Each datum BY PROGRAM (the guide's laid-datum.mjs) off the statement by which the dump's own 'gosem.cut.vars' lays the variable. In a bare row this is a premise. The card (YtakhkcabahhohaaDoorCards.lean) ties it to the program's text. -/
def laid_padlock_codec_least {H : Type} : DataW H := .agg [.lit (.int .i64 0), .lit (.int .i64 1), .lit (.int .i64 8), .lit (.int .i64 2)]

/-- 'padlocklaw.CodecDecodes': WHATEVER THE INPUT: true; the input reads as it did. -/
def codecDecodesSpec : ChangeSpec := { name := "codecDecodes", fn := fun _ => fun
  | [d] => { results := [.lit (.bool true)], args := [d] }
  | _ => none }
def codecDecodesRow : OpenClaim := { program := "ytakhkcabahhohaadoor", sum := "82e5085b21084a53dd71fb489ef38213915af2d8484ed0553ac155e2448a43f0", func := "padlock/padlocklaw.CodecDecodes", spec := "codecDecodes", named := ["padlock/codec.least"], apart := false, laid := [("padlock/codec.least", laid_padlock_codec_least)] }
def CodecDecodesSaid : Prop := codecDecodesRow.holds Tryd.pinned (OpenSpec.ofChange codecDecodesSpec)

/-- ITS FALSE NEIGHBOUR: 'it returns false'. Refute it at one input. -/
def codecDecodesWrong : ChangeSpec := { name := "codecDecodes", fn := fun _ => fun
  | [d] => { results := [.lit (.bool false)], args := [d] }
  | _ => none }
def CodecDecodesWrongFalsely : Prop := codecDecodesRow.holds Tryd.pinned (OpenSpec.ofChange codecDecodesWrong)

/-- 'padlockkeep.KeyBack': WHATEVER THE INPUT: true; the input reads as it did. -/
def keyBackSpec : ChangeSpec := { name := "keyBack", fn := fun _ => fun
  | [d] => { results := [.lit (.bool true)], args := [d] }
  | _ => none }
def keyBackRow : OpenClaim := { program := "ytakhkcabahhohaadoor", sum := "82e5085b21084a53dd71fb489ef38213915af2d8484ed0553ac155e2448a43f0", func := "padlock/padlockkeep.KeyBack", spec := "keyBack", named := ["padlock/codec.least"], apart := false, laid := [("padlock/codec.least", laid_padlock_codec_least)] }
def KeyBackSaid : Prop := keyBackRow.holds Tryd.pinned (OpenSpec.ofChange keyBackSpec)

/-- ITS FALSE NEIGHBOUR: 'it returns false'. Refute it at one input. -/
def keyBackWrong : ChangeSpec := { name := "keyBack", fn := fun _ => fun
  | [d] => { results := [.lit (.bool false)], args := [d] }
  | _ => none }
def KeyBackWrongFalsely : Prop := keyBackRow.holds Tryd.pinned (OpenSpec.ofChange keyBackWrong)

/-- 'padlockkeep.KeyFixed': WHATEVER THE INPUT: true; the input reads as it did. -/
def keyFixedSpec : ChangeSpec := { name := "keyFixed", fn := fun _ => fun
  | [d] => { results := [.lit (.bool true)], args := [d] }
  | _ => none }
def keyFixedRow : OpenClaim := { program := "ytakhkcabahhohaadoor", sum := "82e5085b21084a53dd71fb489ef38213915af2d8484ed0553ac155e2448a43f0", func := "padlock/padlockkeep.KeyFixed", spec := "keyFixed", named := ["padlock/codec.least"], apart := false, laid := [("padlock/codec.least", laid_padlock_codec_least)] }
def KeyFixedSaid : Prop := keyFixedRow.holds Tryd.pinned (OpenSpec.ofChange keyFixedSpec)

/-- ITS FALSE NEIGHBOUR: 'it returns false'. Refute it at one input. -/
def keyFixedWrong : ChangeSpec := { name := "keyFixed", fn := fun _ => fun
  | [d] => { results := [.lit (.bool false)], args := [d] }
  | _ => none }
def KeyFixedWrongFalsely : Prop := keyFixedRow.holds Tryd.pinned (OpenSpec.ofChange keyFixedWrong)

/-- 'padlockkeep.KeyOrder': WHATEVER THE INPUT: true; the input reads as it did. -/
def keyOrderSpec : ChangeSpec := { name := "keyOrder", fn := fun _ => fun
  | [d1, d2] => { results := [.lit (.bool true)], args := [d1, d2] }
  | _ => none }
def keyOrderRow : OpenClaim := { program := "ytakhkcabahhohaadoor", sum := "82e5085b21084a53dd71fb489ef38213915af2d8484ed0553ac155e2448a43f0", func := "padlock/padlockkeep.KeyOrder", spec := "keyOrder", named := ["padlock/codec.least"], apart := false, laid := [("padlock/codec.least", laid_padlock_codec_least)] }
def KeyOrderSaid : Prop := keyOrderRow.holds Tryd.pinned (OpenSpec.ofChange keyOrderSpec)

/-- ITS FALSE NEIGHBOUR: 'it returns false'. Refute it at one input. -/
def keyOrderWrong : ChangeSpec := { name := "keyOrder", fn := fun _ => fun
  | [d1, d2] => { results := [.lit (.bool false)], args := [d1, d2] }
  | _ => none }
def KeyOrderWrongFalsely : Prop := keyOrderRow.holds Tryd.pinned (OpenSpec.ofChange keyOrderWrong)

/-- 'padlockkeep.KeyTorn': WHATEVER THE INPUT: true; the input reads as it did. -/
def keyTornSpec : ChangeSpec := { name := "keyTorn", fn := fun _ => fun
  | [d1, d2] => { results := [.lit (.bool true)], args := [d1, d2] }
  | _ => none }
def keyTornRow : OpenClaim := { program := "ytakhkcabahhohaadoor", sum := "82e5085b21084a53dd71fb489ef38213915af2d8484ed0553ac155e2448a43f0", func := "padlock/padlockkeep.KeyTorn", spec := "keyTorn", named := ["padlock/codec.least"], apart := false, laid := [("padlock/codec.least", laid_padlock_codec_least)] }
def KeyTornSaid : Prop := keyTornRow.holds Tryd.pinned (OpenSpec.ofChange keyTornSpec)

/-- ITS FALSE NEIGHBOUR: 'it returns false'. Refute it at one input. -/
def keyTornWrong : ChangeSpec := { name := "keyTorn", fn := fun _ => fun
  | [d1, d2] => { results := [.lit (.bool false)], args := [d1, d2] }
  | _ => none }
def KeyTornWrongFalsely : Prop := keyTornRow.holds Tryd.pinned (OpenSpec.ofChange keyTornWrong)

/- THE SECOND FORM. 'bulk': how many values and letters a reading holds, each counted each time it is reached (what is shared counts as often as it is met; a slice's spare places count too). A statement '..UptoSaid' is the law's where the arguments, and the package variables that the reading takes, are together of bulk at most 1048576: NARROWER than '..Said'. Prove '..Said' where nothing that the law and all that it calls make is longer than what came in: it says more and counts as full. Else prove '..UptoSaid'. A law counts once. -/
mutual
def uptoBulk {H : Type} : DataW H → Nat
  | .lit (.string bytes) => bytes.length + 1
  | .lit _ => 1
  | .nil => 1
  | .ptr d => uptoBulk d + 1
  | .slice elems spare => uptoBulkAll elems + uptoBulkAll spare + 1
  | .agg parts => uptoBulkAll parts + 1
  | .iface _ d => uptoBulk d + 1
  | .map entries => uptoBulkEntries entries + 1
  | .held _ => 1
def uptoBulkAll {H : Type} : List (DataW H) → Nat
  | [] => 0
  | d :: r => uptoBulk d + uptoBulkAll r
def uptoBulkEntries {H : Type} : List (Lit × DataW H) → Nat
  | [] => 0
  | x :: r => uptoBulkEntry x + uptoBulkEntries r
def uptoBulkEntry {H : Type} : Lit × DataW H → Nat
  | (.string bytes, d) => bytes.length + uptoBulk d + 1
  | (_, d) => uptoBulk d + 1
 end
def uptoSmall : (H : Type) → List (DataW H) → Bool := fun _ ds => decide (uptoBulkAll ds ≤ 1048576)
def OpenSpec.upto (s : _root_.Go.ChangeSpec) : _root_.Go.OpenSpec := { _root_.Go.OpenSpec.ofChange s with cond := some uptoSmall }

/-- 'padlocklaw.CodecDecodes', WHERE WHAT IT READS IS OF BULK AT MOST 1048576: true; the input reads as it did. -/
def codecDecodesUptoRow : OpenClaim := { program := "ytakhkcabahhohaadoor", sum := "82e5085b21084a53dd71fb489ef38213915af2d8484ed0553ac155e2448a43f0", func := "padlock/padlocklaw.CodecDecodes", spec := "codecDecodes", named := ["padlock/codec.least"], apart := false, laid := [("padlock/codec.least", laid_padlock_codec_least)], narrowed := true }
def CodecDecodesUptoSaid : Prop := codecDecodesUptoRow.holds Tryd.pinned (OpenSpec.upto codecDecodesSpec)

/-- 'padlockkeep.KeyBack', WHERE WHAT IT READS IS OF BULK AT MOST 1048576: true; the input reads as it did. -/
def keyBackUptoRow : OpenClaim := { program := "ytakhkcabahhohaadoor", sum := "82e5085b21084a53dd71fb489ef38213915af2d8484ed0553ac155e2448a43f0", func := "padlock/padlockkeep.KeyBack", spec := "keyBack", named := ["padlock/codec.least"], apart := false, laid := [("padlock/codec.least", laid_padlock_codec_least)], narrowed := true }
def KeyBackUptoSaid : Prop := keyBackUptoRow.holds Tryd.pinned (OpenSpec.upto keyBackSpec)

/-- 'padlockkeep.KeyFixed', WHERE WHAT IT READS IS OF BULK AT MOST 1048576: true; the input reads as it did. -/
def keyFixedUptoRow : OpenClaim := { program := "ytakhkcabahhohaadoor", sum := "82e5085b21084a53dd71fb489ef38213915af2d8484ed0553ac155e2448a43f0", func := "padlock/padlockkeep.KeyFixed", spec := "keyFixed", named := ["padlock/codec.least"], apart := false, laid := [("padlock/codec.least", laid_padlock_codec_least)], narrowed := true }
def KeyFixedUptoSaid : Prop := keyFixedUptoRow.holds Tryd.pinned (OpenSpec.upto keyFixedSpec)

/-- 'padlockkeep.KeyOrder', WHERE WHAT IT READS IS OF BULK AT MOST 1048576: true; the input reads as it did. -/
def keyOrderUptoRow : OpenClaim := { program := "ytakhkcabahhohaadoor", sum := "82e5085b21084a53dd71fb489ef38213915af2d8484ed0553ac155e2448a43f0", func := "padlock/padlockkeep.KeyOrder", spec := "keyOrder", named := ["padlock/codec.least"], apart := false, laid := [("padlock/codec.least", laid_padlock_codec_least)], narrowed := true }
def KeyOrderUptoSaid : Prop := keyOrderUptoRow.holds Tryd.pinned (OpenSpec.upto keyOrderSpec)

/-- 'padlockkeep.KeyTorn', WHERE WHAT IT READS IS OF BULK AT MOST 1048576: true; the input reads as it did. -/
def keyTornUptoRow : OpenClaim := { program := "ytakhkcabahhohaadoor", sum := "82e5085b21084a53dd71fb489ef38213915af2d8484ed0553ac155e2448a43f0", func := "padlock/padlockkeep.KeyTorn", spec := "keyTorn", named := ["padlock/codec.least"], apart := false, laid := [("padlock/codec.least", laid_padlock_codec_least)], narrowed := true }
def KeyTornUptoSaid : Prop := keyTornUptoRow.holds Tryd.pinned (OpenSpec.upto keyTornSpec)

end Rows
end Go.Proofs.YtakhkcabahhohaaDoor
