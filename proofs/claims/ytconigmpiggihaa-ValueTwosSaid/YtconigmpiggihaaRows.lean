/-
  No cell of these rows narrows 'for every input' (looked for: loops, veiled, ifaces, maps, wideKeys, modest, calm, conditions, laid).
  DERIVED. THE GIVEN ROWS OF THIS SEAT. 12 by the template 'for every input the law returns true; each argument reads behind the call as it read before'; 0 by the template 'total and deterministic' (their statements: YtconigmpiggihaaTotals.lean).
  GIVEN WITH THE SEED: the statements are not yours to turn. If you find one false, say at which input.
  Laid BY PROGRAM, IN A SANDBOX (cutbox-rows.mjs): the forced cells as the released guide's own fill.sh prints them over the translation 712dd988dac3780b… (all of the seat's roots in one cut). By AI agents, Wed Nov 11 2026. No macro, syntax, notation, axiom, sorry.
-/
import Derived.Test.YtconigmpiggihaaChecked
import GoSem.Claim
import GoSem.ClaimJoined
import GoSem.ClaimMapViews
import Derived.JoinedTies
import Derived.KernelRfl
namespace Go.Proofs.Ytconigmpiggihaa
/- THE CELL 'sum', in the pinned program and in every row, IS THE sha256 OF THE DUMP (.gsa) THAT YtconigmpiggihaaProg.lean LOADS. Nothing in Lean hashes anything: it is a label: what it is worth is what the hold of that sum in a sandbox is worth. -/
noncomputable def Try.pinned : Pinned := { name := "ytconigmpiggihaa", sum := "712dd988dac3780bf625b399d7c73766290b3ef246bc576eff3eaa1ad0d6df55", checked := Try.checked }
namespace Rows
def none {H : Type} : Left H := { results := [], args := [] }

/-- 'padlocklaw.ValueChecks': WHATEVER THE INPUT: true; the input reads as it did. -/
def valueChecksSpec : ChangeSpec := { name := "valueChecks", fn := fun _ => fun
  | [d] => { results := [.lit (.bool true)], args := [d] }
  | _ => none }
def valueChecksRow : OpenClaim := { program := "ytconigmpiggihaa", sum := "712dd988dac3780bf625b399d7c73766290b3ef246bc576eff3eaa1ad0d6df55", func := "padlock/padlocklaw.ValueChecks", spec := "valueChecks", apart := false }
def ValueChecksSaid : Prop := valueChecksRow.holds Try.pinned (OpenSpec.ofChange valueChecksSpec)

/-- ITS FALSE NEIGHBOUR: 'it returns false'. Refute it at one input. -/
def valueChecksWrong : ChangeSpec := { name := "valueChecks", fn := fun _ => fun
  | [d] => { results := [.lit (.bool false)], args := [d] }
  | _ => none }
def ValueChecksWrongFalsely : Prop := valueChecksRow.holds Try.pinned (OpenSpec.ofChange valueChecksWrong)

/-- 'padlocklaw.ValueCompares': WHATEVER THE INPUT: true; the input reads as it did. -/
def valueComparesSpec : ChangeSpec := { name := "valueCompares", fn := fun _ => fun
  | [d1, d2] => { results := [.lit (.bool true)], args := [d1, d2] }
  | _ => none }
def valueComparesRow : OpenClaim := { program := "ytconigmpiggihaa", sum := "712dd988dac3780bf625b399d7c73766290b3ef246bc576eff3eaa1ad0d6df55", func := "padlock/padlocklaw.ValueCompares", spec := "valueCompares", apart := false }
def ValueComparesSaid : Prop := valueComparesRow.holds Try.pinned (OpenSpec.ofChange valueComparesSpec)

/-- ITS FALSE NEIGHBOUR: 'it returns false'. Refute it at one input. -/
def valueComparesWrong : ChangeSpec := { name := "valueCompares", fn := fun _ => fun
  | [d1, d2] => { results := [.lit (.bool false)], args := [d1, d2] }
  | _ => none }
def ValueComparesWrongFalsely : Prop := valueComparesRow.holds Try.pinned (OpenSpec.ofChange valueComparesWrong)

/-- 'padlocklaw.ValueTwos': WHATEVER THE INPUT: true; the input reads as it did. -/
def valueTwosSpec : ChangeSpec := { name := "valueTwos", fn := fun _ => fun
  | [d1, d2, d3] => { results := [.lit (.bool true)], args := [d1, d2, d3] }
  | _ => none }
def valueTwosRow : OpenClaim := { program := "ytconigmpiggihaa", sum := "712dd988dac3780bf625b399d7c73766290b3ef246bc576eff3eaa1ad0d6df55", func := "padlock/padlocklaw.ValueTwos", spec := "valueTwos", apart := false }
def ValueTwosSaid : Prop := valueTwosRow.holds Try.pinned (OpenSpec.ofChange valueTwosSpec)

/-- ITS FALSE NEIGHBOUR: 'it returns false'. Refute it at one input. -/
def valueTwosWrong : ChangeSpec := { name := "valueTwos", fn := fun _ => fun
  | [d1, d2, d3] => { results := [.lit (.bool false)], args := [d1, d2, d3] }
  | _ => none }
def ValueTwosWrongFalsely : Prop := valueTwosRow.holds Try.pinned (OpenSpec.ofChange valueTwosWrong)

/-- 'padlocklaw.ValueOnes': WHATEVER THE INPUT: true; the input reads as it did. -/
def valueOnesSpec : ChangeSpec := { name := "valueOnes", fn := fun _ => fun
  | [d1, d2] => { results := [.lit (.bool true)], args := [d1, d2] }
  | _ => none }
def valueOnesRow : OpenClaim := { program := "ytconigmpiggihaa", sum := "712dd988dac3780bf625b399d7c73766290b3ef246bc576eff3eaa1ad0d6df55", func := "padlock/padlocklaw.ValueOnes", spec := "valueOnes", apart := false }
def ValueOnesSaid : Prop := valueOnesRow.holds Try.pinned (OpenSpec.ofChange valueOnesSpec)

/-- ITS FALSE NEIGHBOUR: 'it returns false'. Refute it at one input. -/
def valueOnesWrong : ChangeSpec := { name := "valueOnes", fn := fun _ => fun
  | [d1, d2] => { results := [.lit (.bool false)], args := [d1, d2] }
  | _ => none }
def ValueOnesWrongFalsely : Prop := valueOnesRow.holds Try.pinned (OpenSpec.ofChange valueOnesWrong)

/-- 'padlockkeep.ValueOrder': WHATEVER THE INPUT: true; the input reads as it did. -/
def valueOrderSpec : ChangeSpec := { name := "valueOrder", fn := fun _ => fun
  | [d1, d2, d3] => { results := [.lit (.bool true)], args := [d1, d2, d3] }
  | _ => none }
def valueOrderRow : OpenClaim := { program := "ytconigmpiggihaa", sum := "712dd988dac3780bf625b399d7c73766290b3ef246bc576eff3eaa1ad0d6df55", func := "padlock/padlockkeep.ValueOrder", spec := "valueOrder", apart := false }
def ValueOrderSaid : Prop := valueOrderRow.holds Try.pinned (OpenSpec.ofChange valueOrderSpec)

/-- ITS FALSE NEIGHBOUR: 'it returns false'. Refute it at one input. -/
def valueOrderWrong : ChangeSpec := { name := "valueOrder", fn := fun _ => fun
  | [d1, d2, d3] => { results := [.lit (.bool false)], args := [d1, d2, d3] }
  | _ => none }
def ValueOrderWrongFalsely : Prop := valueOrderRow.holds Try.pinned (OpenSpec.ofChange valueOrderWrong)

/-- 'padlockkeep.LogicTable': WHATEVER THE INPUT: true; the input reads as it did. -/
def logicTableSpec : ChangeSpec := { name := "logicTable", fn := fun _ => fun
  | [d1, d2] => { results := [.lit (.bool true)], args := [d1, d2] }
  | _ => none }
def logicTableRow : OpenClaim := { program := "ytconigmpiggihaa", sum := "712dd988dac3780bf625b399d7c73766290b3ef246bc576eff3eaa1ad0d6df55", func := "padlock/padlockkeep.LogicTable", spec := "logicTable", apart := false }
def LogicTableSaid : Prop := logicTableRow.holds Try.pinned (OpenSpec.ofChange logicTableSpec)

/-- ITS FALSE NEIGHBOUR: 'it returns false'. Refute it at one input. -/
def logicTableWrong : ChangeSpec := { name := "logicTable", fn := fun _ => fun
  | [d1, d2] => { results := [.lit (.bool false)], args := [d1, d2] }
  | _ => none }
def LogicTableWrongFalsely : Prop := logicTableRow.holds Try.pinned (OpenSpec.ofChange logicTableWrong)

/-- 'padlockkeep.LogicNull': WHATEVER THE INPUT: true; the input reads as it did. -/
def logicNullSpec : ChangeSpec := { name := "logicNull", fn := fun _ => fun
  | [d] => { results := [.lit (.bool true)], args := [d] }
  | _ => none }
def logicNullRow : OpenClaim := { program := "ytconigmpiggihaa", sum := "712dd988dac3780bf625b399d7c73766290b3ef246bc576eff3eaa1ad0d6df55", func := "padlock/padlockkeep.LogicNull", spec := "logicNull", apart := false }
def LogicNullSaid : Prop := logicNullRow.holds Try.pinned (OpenSpec.ofChange logicNullSpec)

/-- ITS FALSE NEIGHBOUR: 'it returns false'. Refute it at one input. -/
def logicNullWrong : ChangeSpec := { name := "logicNull", fn := fun _ => fun
  | [d] => { results := [.lit (.bool false)], args := [d] }
  | _ => none }
def LogicNullWrongFalsely : Prop := logicNullRow.holds Try.pinned (OpenSpec.ofChange logicNullWrong)

/-- 'padlockkeep.ArithBack': WHATEVER THE INPUT: true; the input reads as it did. -/
def arithBackSpec : ChangeSpec := { name := "arithBack", fn := fun _ => fun
  | [d1, d2] => { results := [.lit (.bool true)], args := [d1, d2] }
  | _ => none }
def arithBackRow : OpenClaim := { program := "ytconigmpiggihaa", sum := "712dd988dac3780bf625b399d7c73766290b3ef246bc576eff3eaa1ad0d6df55", func := "padlock/padlockkeep.ArithBack", spec := "arithBack", apart := false }
def ArithBackSaid : Prop := arithBackRow.holds Try.pinned (OpenSpec.ofChange arithBackSpec)

/-- ITS FALSE NEIGHBOUR: 'it returns false'. Refute it at one input. -/
def arithBackWrong : ChangeSpec := { name := "arithBack", fn := fun _ => fun
  | [d1, d2] => { results := [.lit (.bool false)], args := [d1, d2] }
  | _ => none }
def ArithBackWrongFalsely : Prop := arithBackRow.holds Try.pinned (OpenSpec.ofChange arithBackWrong)

/-- 'padlockkeep.ArithTimes': WHATEVER THE INPUT: true; the input reads as it did. -/
def arithTimesSpec : ChangeSpec := { name := "arithTimes", fn := fun _ => fun
  | [d1, d2, d3] => { results := [.lit (.bool true)], args := [d1, d2, d3] }
  | _ => none }
def arithTimesRow : OpenClaim := { program := "ytconigmpiggihaa", sum := "712dd988dac3780bf625b399d7c73766290b3ef246bc576eff3eaa1ad0d6df55", func := "padlock/padlockkeep.ArithTimes", spec := "arithTimes", apart := false }
def ArithTimesSaid : Prop := arithTimesRow.holds Try.pinned (OpenSpec.ofChange arithTimesSpec)

/-- ITS FALSE NEIGHBOUR: 'it returns false'. Refute it at one input. -/
def arithTimesWrong : ChangeSpec := { name := "arithTimes", fn := fun _ => fun
  | [d1, d2, d3] => { results := [.lit (.bool false)], args := [d1, d2, d3] }
  | _ => none }
def ArithTimesWrongFalsely : Prop := arithTimesRow.holds Try.pinned (OpenSpec.ofChange arithTimesWrong)

/-- 'padlockkeep.TwoTypes': WHATEVER THE INPUT: true; the input reads as it did. -/
def twoTypesSpec : ChangeSpec := { name := "twoTypes", fn := fun _ => fun
  | [d1, d2, d3] => { results := [.lit (.bool true)], args := [d1, d2, d3] }
  | _ => none }
def twoTypesRow : OpenClaim := { program := "ytconigmpiggihaa", sum := "712dd988dac3780bf625b399d7c73766290b3ef246bc576eff3eaa1ad0d6df55", func := "padlock/padlockkeep.TwoTypes", spec := "twoTypes", apart := false }
def TwoTypesSaid : Prop := twoTypesRow.holds Try.pinned (OpenSpec.ofChange twoTypesSpec)

/-- ITS FALSE NEIGHBOUR: 'it returns false'. Refute it at one input. -/
def twoTypesWrong : ChangeSpec := { name := "twoTypes", fn := fun _ => fun
  | [d1, d2, d3] => { results := [.lit (.bool false)], args := [d1, d2, d3] }
  | _ => none }
def TwoTypesWrongFalsely : Prop := twoTypesRow.holds Try.pinned (OpenSpec.ofChange twoTypesWrong)

/-- 'padlockkeep.LessSame': WHATEVER THE INPUT: true; the input reads as it did. -/
def lessSameSpec : ChangeSpec := { name := "lessSame", fn := fun _ => fun
  | [d1, d2] => { results := [.lit (.bool true)], args := [d1, d2] }
  | _ => none }
def lessSameRow : OpenClaim := { program := "ytconigmpiggihaa", sum := "712dd988dac3780bf625b399d7c73766290b3ef246bc576eff3eaa1ad0d6df55", func := "padlock/padlockkeep.LessSame", spec := "lessSame", apart := false }
def LessSameSaid : Prop := lessSameRow.holds Try.pinned (OpenSpec.ofChange lessSameSpec)

/-- ITS FALSE NEIGHBOUR: 'it returns false'. Refute it at one input. -/
def lessSameWrong : ChangeSpec := { name := "lessSame", fn := fun _ => fun
  | [d1, d2] => { results := [.lit (.bool false)], args := [d1, d2] }
  | _ => none }
def LessSameWrongFalsely : Prop := lessSameRow.holds Try.pinned (OpenSpec.ofChange lessSameWrong)

/-- 'padlockkeep.ValueNulls': WHATEVER THE INPUT: true; the input reads as it did. -/
def valueNullsSpec : ChangeSpec := { name := "valueNulls", fn := fun _ => fun
  | [d1, d2] => { results := [.lit (.bool true)], args := [d1, d2] }
  | _ => none }
def valueNullsRow : OpenClaim := { program := "ytconigmpiggihaa", sum := "712dd988dac3780bf625b399d7c73766290b3ef246bc576eff3eaa1ad0d6df55", func := "padlock/padlockkeep.ValueNulls", spec := "valueNulls", apart := false }
def ValueNullsSaid : Prop := valueNullsRow.holds Try.pinned (OpenSpec.ofChange valueNullsSpec)

/-- ITS FALSE NEIGHBOUR: 'it returns false'. Refute it at one input. -/
def valueNullsWrong : ChangeSpec := { name := "valueNulls", fn := fun _ => fun
  | [d1, d2] => { results := [.lit (.bool false)], args := [d1, d2] }
  | _ => none }
def ValueNullsWrongFalsely : Prop := valueNullsRow.holds Try.pinned (OpenSpec.ofChange valueNullsWrong)

/- THE SECOND FORM. 'bulk': how many values and letters a reading holds, each counted each time it is reached (what is shared counts as often as it is met; a slice's spare places count too). A statement '..UptoSaid' is the law's where the arguments, and the package variables that the reading takes, are together of bulk at most 1048576: NARROWER than '..Said'. Prove '..Said' where nothing that the law and all that it calls make is longer than what came in: it says more and counts as full. Else prove '..UptoSaid'. A law counts once. -/
mutual
def uptoBulk {H : Type} : DataW H → Nat
  | .lit (.string bytes) => bytes.length + 1
  | .lit _ => 1
  | .nil => 1
  | .ptr d => uptoBulk d + 1
  | .slice elems spare => uptoBulkAll elems + uptoBulkAll spare + 1
  | .agg parts => uptoBulkAll parts + 1
  | .iface _ d => uptoBulk d + 1
  | .map entries => uptoBulkEntries entries + 1
  | .held _ => 1
def uptoBulkAll {H : Type} : List (DataW H) → Nat
  | [] => 0
  | d :: r => uptoBulk d + uptoBulkAll r
def uptoBulkEntries {H : Type} : List (Lit × DataW H) → Nat
  | [] => 0
  | x :: r => uptoBulkEntry x + uptoBulkEntries r
def uptoBulkEntry {H : Type} : Lit × DataW H → Nat
  | (.string bytes, d) => bytes.length + uptoBulk d + 1
  | (_, d) => uptoBulk d + 1
 end
def uptoSmall : (H : Type) → List (DataW H) → Bool := fun _ ds => decide (uptoBulkAll ds ≤ 1048576)
def OpenSpec.upto (s : _root_.Go.ChangeSpec) : _root_.Go.OpenSpec := { _root_.Go.OpenSpec.ofChange s with cond := some uptoSmall }

/-- 'padlocklaw.ValueChecks', WHERE WHAT IT READS IS OF BULK AT MOST 1048576: true; the input reads as it did. -/
def valueChecksUptoRow : OpenClaim := { program := "ytconigmpiggihaa", sum := "712dd988dac3780bf625b399d7c73766290b3ef246bc576eff3eaa1ad0d6df55", func := "padlock/padlocklaw.ValueChecks", spec := "valueChecks", apart := false, narrowed := true }
def ValueChecksUptoSaid : Prop := valueChecksUptoRow.holds Try.pinned (OpenSpec.upto valueChecksSpec)

/-- 'padlocklaw.ValueCompares', WHERE WHAT IT READS IS OF BULK AT MOST 1048576: true; the input reads as it did. -/
def valueComparesUptoRow : OpenClaim := { program := "ytconigmpiggihaa", sum := "712dd988dac3780bf625b399d7c73766290b3ef246bc576eff3eaa1ad0d6df55", func := "padlock/padlocklaw.ValueCompares", spec := "valueCompares", apart := false, narrowed := true }
def ValueComparesUptoSaid : Prop := valueComparesUptoRow.holds Try.pinned (OpenSpec.upto valueComparesSpec)

/-- 'padlocklaw.ValueTwos', WHERE WHAT IT READS IS OF BULK AT MOST 1048576: true; the input reads as it did. -/
def valueTwosUptoRow : OpenClaim := { program := "ytconigmpiggihaa", sum := "712dd988dac3780bf625b399d7c73766290b3ef246bc576eff3eaa1ad0d6df55", func := "padlock/padlocklaw.ValueTwos", spec := "valueTwos", apart := false, narrowed := true }
def ValueTwosUptoSaid : Prop := valueTwosUptoRow.holds Try.pinned (OpenSpec.upto valueTwosSpec)

/-- 'padlocklaw.ValueOnes', WHERE WHAT IT READS IS OF BULK AT MOST 1048576: true; the input reads as it did. -/
def valueOnesUptoRow : OpenClaim := { program := "ytconigmpiggihaa", sum := "712dd988dac3780bf625b399d7c73766290b3ef246bc576eff3eaa1ad0d6df55", func := "padlock/padlocklaw.ValueOnes", spec := "valueOnes", apart := false, narrowed := true }
def ValueOnesUptoSaid : Prop := valueOnesUptoRow.holds Try.pinned (OpenSpec.upto valueOnesSpec)

/-- 'padlockkeep.ValueOrder', WHERE WHAT IT READS IS OF BULK AT MOST 1048576: true; the input reads as it did. -/
def valueOrderUptoRow : OpenClaim := { program := "ytconigmpiggihaa", sum := "712dd988dac3780bf625b399d7c73766290b3ef246bc576eff3eaa1ad0d6df55", func := "padlock/padlockkeep.ValueOrder", spec := "valueOrder", apart := false, narrowed := true }
def ValueOrderUptoSaid : Prop := valueOrderUptoRow.holds Try.pinned (OpenSpec.upto valueOrderSpec)

/-- 'padlockkeep.LogicTable', WHERE WHAT IT READS IS OF BULK AT MOST 1048576: true; the input reads as it did. -/
def logicTableUptoRow : OpenClaim := { program := "ytconigmpiggihaa", sum := "712dd988dac3780bf625b399d7c73766290b3ef246bc576eff3eaa1ad0d6df55", func := "padlock/padlockkeep.LogicTable", spec := "logicTable", apart := false, narrowed := true }
def LogicTableUptoSaid : Prop := logicTableUptoRow.holds Try.pinned (OpenSpec.upto logicTableSpec)

/-- 'padlockkeep.LogicNull', WHERE WHAT IT READS IS OF BULK AT MOST 1048576: true; the input reads as it did. -/
def logicNullUptoRow : OpenClaim := { program := "ytconigmpiggihaa", sum := "712dd988dac3780bf625b399d7c73766290b3ef246bc576eff3eaa1ad0d6df55", func := "padlock/padlockkeep.LogicNull", spec := "logicNull", apart := false, narrowed := true }
def LogicNullUptoSaid : Prop := logicNullUptoRow.holds Try.pinned (OpenSpec.upto logicNullSpec)

/-- 'padlockkeep.ArithBack', WHERE WHAT IT READS IS OF BULK AT MOST 1048576: true; the input reads as it did. -/
def arithBackUptoRow : OpenClaim := { program := "ytconigmpiggihaa", sum := "712dd988dac3780bf625b399d7c73766290b3ef246bc576eff3eaa1ad0d6df55", func := "padlock/padlockkeep.ArithBack", spec := "arithBack", apart := false, narrowed := true }
def ArithBackUptoSaid : Prop := arithBackUptoRow.holds Try.pinned (OpenSpec.upto arithBackSpec)

/-- 'padlockkeep.ArithTimes', WHERE WHAT IT READS IS OF BULK AT MOST 1048576: true; the input reads as it did. -/
def arithTimesUptoRow : OpenClaim := { program := "ytconigmpiggihaa", sum := "712dd988dac3780bf625b399d7c73766290b3ef246bc576eff3eaa1ad0d6df55", func := "padlock/padlockkeep.ArithTimes", spec := "arithTimes", apart := false, narrowed := true }
def ArithTimesUptoSaid : Prop := arithTimesUptoRow.holds Try.pinned (OpenSpec.upto arithTimesSpec)

/-- 'padlockkeep.TwoTypes', WHERE WHAT IT READS IS OF BULK AT MOST 1048576: true; the input reads as it did. -/
def twoTypesUptoRow : OpenClaim := { program := "ytconigmpiggihaa", sum := "712dd988dac3780bf625b399d7c73766290b3ef246bc576eff3eaa1ad0d6df55", func := "padlock/padlockkeep.TwoTypes", spec := "twoTypes", apart := false, narrowed := true }
def TwoTypesUptoSaid : Prop := twoTypesUptoRow.holds Try.pinned (OpenSpec.upto twoTypesSpec)

/-- 'padlockkeep.LessSame', WHERE WHAT IT READS IS OF BULK AT MOST 1048576: true; the input reads as it did. -/
def lessSameUptoRow : OpenClaim := { program := "ytconigmpiggihaa", sum := "712dd988dac3780bf625b399d7c73766290b3ef246bc576eff3eaa1ad0d6df55", func := "padlock/padlockkeep.LessSame", spec := "lessSame", apart := false, narrowed := true }
def LessSameUptoSaid : Prop := lessSameUptoRow.holds Try.pinned (OpenSpec.upto lessSameSpec)

/-- 'padlockkeep.ValueNulls', WHERE WHAT IT READS IS OF BULK AT MOST 1048576: true; the input reads as it did. -/
def valueNullsUptoRow : OpenClaim := { program := "ytconigmpiggihaa", sum := "712dd988dac3780bf625b399d7c73766290b3ef246bc576eff3eaa1ad0d6df55", func := "padlock/padlockkeep.ValueNulls", spec := "valueNulls", apart := false, narrowed := true }
def ValueNullsUptoSaid : Prop := valueNullsUptoRow.holds Try.pinned (OpenSpec.upto valueNullsSpec)

end Rows
end Go.Proofs.Ytconigmpiggihaa
