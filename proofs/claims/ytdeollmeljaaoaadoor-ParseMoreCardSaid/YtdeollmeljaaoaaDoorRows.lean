/-
  NARROWER THAN 'FOR EVERY INPUT', by the rows' own cells (each row's printed sentence says how): ParseBack: loops, laid · ParseFixed: laid · ParseTorn: loops, laid · ParseTurns: laid · ParseMinus: laid · ParseMore: loops, laid.
  DERIVED. THE GIVEN ROWS OF THIS SEAT. 6 by the template 'for every input the law returns true; each argument reads behind the call as it read before'; 0 by the template 'total and deterministic' (their statements: YtdeollmeljaaoaaDoorTotals.lean).
  GIVEN WITH THE SEED: the statements are not yours to turn. If you find one false, say at which input.
  Laid BY PROGRAM, IN A SANDBOX (cutbox-rows.mjs): the forced cells as the released guide's own fill.sh prints them over the translation d4939fb7c5d40e7e… (all of the seat's roots in one cut). By AI agents, Wed Nov 11 2026. No macro, syntax, notation, axiom, sorry.
-/
import Derived.Test.YtdeollmeljaaoaaDoorChecked
import GoSem.Claim
import GoSem.ClaimJoined
import GoSem.ClaimMapViews
import Derived.JoinedTies
import Derived.KernelRfl
namespace Go.Proofs.YtdeollmeljaaoaaDoor
/- THE CELL 'sum', in the pinned program and in every row, IS THE sha256 OF THE DUMP (.gsa) THAT YtdeollmeljaaoaaDoorProg.lean LOADS. Nothing in Lean hashes anything: it is a label: what it is worth is what the hold of that sum in a sandbox is worth. -/
noncomputable def Tryd.pinned : Pinned := { name := "ytdeollmeljaaoaadoor", sum := "d4939fb7c5d40e7e22097284a54458195d05245ed640f9c61ab3127876bcbf8e", checked := Tryd.checked }
namespace Rows
def none {H : Type} : Left H := { results := [], args := [] }

/- WHAT THE LISTED PACKAGE-LEVEL VARIABLES READ AS WHEN THE CALL BEGINS. Each datum BY PROGRAM (the guide's laid-datum.mjs) off the statement by which the dump's own 'gosem.cut.vars' lays the variable. In a bare row this is a premise. The card (YtdeollmeljaaoaaDoorCards.lean) ties it to the program's text. -/
def laid_padlock_lex_marks {H : Type} : DataW H := .agg [.lit (.string [60, 61]), .lit (.string [62, 61]), .lit (.string [60, 62]), .lit (.string [40]), .lit (.string [41]), .lit (.string [44]), .lit (.string [42]), .lit (.string [43]), .lit (.string [45]), .lit (.string [61]), .lit (.string [60]), .lit (.string [62])]
def laid_padlock_parse_worksOn {H : Type} : DataW H := .agg [.lit (.int .i64 0), .lit (.int .i64 0), .lit (.int .i64 0), .lit (.int .i64 2), .lit (.int .i64 2), .lit (.int .i64 1), .lit (.int .i64 2), .lit (.int .i64 2), .lit (.int .i64 2), .lit (.int .i64 2), .lit (.int .i64 2), .lit (.int .i64 1)]
def laid_padlock_parse_signs {H : Type} : DataW H := .agg [.lit (.string []), .lit (.string []), .lit (.string []), .lit (.string [65, 78, 68]), .lit (.string [79, 82]), .lit (.string []), .lit (.string [61]), .lit (.string [60]), .lit (.string [43]), .lit (.string [45]), .lit (.string [42])]
def laid_padlock_parse_comparisons {H : Type} : DataW H := .agg [.agg [.lit (.string [61]), .lit (.int .i64 6), .lit (.bool false), .lit (.bool false)], .agg [.lit (.string [60, 62]), .lit (.int .i64 6), .lit (.bool false), .lit (.bool true)], .agg [.lit (.string [60]), .lit (.int .i64 7), .lit (.bool false), .lit (.bool false)], .agg [.lit (.string [62, 61]), .lit (.int .i64 7), .lit (.bool false), .lit (.bool true)], .agg [.lit (.string [62]), .lit (.int .i64 7), .lit (.bool true), .lit (.bool false)], .agg [.lit (.string [60, 61]), .lit (.int .i64 7), .lit (.bool true), .lit (.bool true)]]
def laid_padlock_parse_constants {H : Type} : DataW H := .agg [.agg [.lit (.string [78, 85, 76, 76]), .agg [.lit (.int .i64 0), .lit (.int .i64 0), .lit (.string [])]], .agg [.lit (.string [70, 65, 76, 83, 69]), .agg [.lit (.int .i64 1), .lit (.int .i64 0), .lit (.string [])]], .agg [.lit (.string [84, 82, 85, 69]), .agg [.lit (.int .i64 1), .lit (.int .i64 1), .lit (.string [])]]]
def laid_padlock_parse_kept {H : Type} : DataW H := .agg [.lit (.string [67, 82, 69, 65, 84, 69]), .lit (.string [84, 65, 66, 76, 69]), .lit (.string [68, 82, 79, 80]), .lit (.string [73, 78, 83, 69, 82, 84]), .lit (.string [73, 78, 84, 79]), .lit (.string [86, 65, 76, 85, 69, 83]), .lit (.string [83, 69, 76, 69, 67, 84]), .lit (.string [67, 79, 85, 78, 84]), .lit (.string [70, 82, 79, 77]), .lit (.string [87, 72, 69, 82, 69]), .lit (.string [79, 82, 68, 69, 82]), .lit (.string [66, 89]), .lit (.string [68, 69, 83, 67]), .lit (.string [76, 73, 77, 73, 84]), .lit (.string [85, 80, 68, 65, 84, 69]), .lit (.string [83, 69, 84]), .lit (.string [68, 69, 76, 69, 84, 69]), .lit (.string [66, 69, 71, 73, 78]), .lit (.string [67, 79, 77, 77, 73, 84]), .lit (.string [82, 79, 76, 76, 66, 65, 67, 75]), .lit (.string [65, 78, 68]), .lit (.string [79, 82]), .lit (.string [78, 79, 84]), .lit (.string [73, 83]), .lit (.string [78, 85, 76, 76]), .lit (.string [84, 82, 85, 69]), .lit (.string [70, 65, 76, 83, 69]), .lit (.string [73, 78, 84]), .lit (.string [84, 69, 88, 84]), .lit (.string [66, 79, 79, 76])]
def laid_padlock_parse_kinds {H : Type} : DataW H := .agg [.lit (.string []), .lit (.string [66, 79, 79, 76]), .lit (.string [73, 78, 84]), .lit (.string [84, 69, 88, 84])]

/-- 'padlockkeep.ParseBack': WHATEVER THE INPUT: true; the input reads as it did. -/
def parseBackSpec : ChangeSpec := { name := "parseBack", fn := fun _ => fun
  | [d] => { results := [.lit (.bool true)], args := [d] }
  | _ => none }
def parseBackRow : OpenClaim := { program := "ytdeollmeljaaoaadoor", sum := "d4939fb7c5d40e7e22097284a54458195d05245ed640f9c61ab3127876bcbf8e", func := "padlock/padlockkeep.ParseBack", spec := "parseBack", unfollowed := true, recurses := true, named := ["padlock/lex.marks", "padlock/parse.kept", "padlock/parse.worksOn", "padlock/parse.kinds", "padlock/parse.constants", "padlock/parse.signs", "padlock/parse.comparisons"], loops := true, apart := false, laid := [("padlock/lex.marks", laid_padlock_lex_marks), ("padlock/parse.worksOn", laid_padlock_parse_worksOn), ("padlock/parse.signs", laid_padlock_parse_signs), ("padlock/parse.comparisons", laid_padlock_parse_comparisons), ("padlock/parse.constants", laid_padlock_parse_constants), ("padlock/parse.kept", laid_padlock_parse_kept), ("padlock/parse.kinds", laid_padlock_parse_kinds)] }
def ParseBackSaid : Prop := parseBackRow.holds Tryd.pinned (OpenSpec.ofChange parseBackSpec)

/-- ITS FALSE NEIGHBOUR: 'it returns false'. Refute it at one input. -/
def parseBackWrong : ChangeSpec := { name := "parseBack", fn := fun _ => fun
  | [d] => { results := [.lit (.bool false)], args := [d] }
  | _ => none }
def ParseBackWrongFalsely : Prop := parseBackRow.holds Tryd.pinned (OpenSpec.ofChange parseBackWrong)

/-- 'padlockkeep.ParseFixed': WHATEVER THE INPUT: true; the input reads as it did. -/
def parseFixedSpec : ChangeSpec := { name := "parseFixed", fn := fun _ => fun
  | [d] => { results := [.lit (.bool true)], args := [d] }
  | _ => none }
def parseFixedRow : OpenClaim := { program := "ytdeollmeljaaoaadoor", sum := "d4939fb7c5d40e7e22097284a54458195d05245ed640f9c61ab3127876bcbf8e", func := "padlock/padlockkeep.ParseFixed", spec := "parseFixed", unfollowed := true, recurses := true, named := ["padlock/lex.marks", "padlock/parse.kept", "padlock/parse.kinds", "padlock/parse.constants", "padlock/parse.comparisons", "padlock/parse.signs", "padlock/parse.worksOn"], apart := false, laid := [("padlock/lex.marks", laid_padlock_lex_marks), ("padlock/parse.worksOn", laid_padlock_parse_worksOn), ("padlock/parse.signs", laid_padlock_parse_signs), ("padlock/parse.comparisons", laid_padlock_parse_comparisons), ("padlock/parse.constants", laid_padlock_parse_constants), ("padlock/parse.kept", laid_padlock_parse_kept), ("padlock/parse.kinds", laid_padlock_parse_kinds)] }
def ParseFixedSaid : Prop := parseFixedRow.holds Tryd.pinned (OpenSpec.ofChange parseFixedSpec)

/-- ITS FALSE NEIGHBOUR: 'it returns false'. Refute it at one input. -/
def parseFixedWrong : ChangeSpec := { name := "parseFixed", fn := fun _ => fun
  | [d] => { results := [.lit (.bool false)], args := [d] }
  | _ => none }
def ParseFixedWrongFalsely : Prop := parseFixedRow.holds Tryd.pinned (OpenSpec.ofChange parseFixedWrong)

/-- 'padlockkeep.ParseTorn': WHATEVER THE INPUT: true; the input reads as it did. -/
def parseTornSpec : ChangeSpec := { name := "parseTorn", fn := fun _ => fun
  | [d1, d2] => { results := [.lit (.bool true)], args := [d1, d2] }
  | _ => none }
def parseTornRow : OpenClaim := { program := "ytdeollmeljaaoaadoor", sum := "d4939fb7c5d40e7e22097284a54458195d05245ed640f9c61ab3127876bcbf8e", func := "padlock/padlockkeep.ParseTorn", spec := "parseTorn", unfollowed := true, recurses := true, named := ["padlock/lex.marks", "padlock/parse.kept", "padlock/parse.worksOn", "padlock/parse.kinds", "padlock/parse.constants", "padlock/parse.signs", "padlock/parse.comparisons"], loops := true, apart := false, laid := [("padlock/lex.marks", laid_padlock_lex_marks), ("padlock/parse.worksOn", laid_padlock_parse_worksOn), ("padlock/parse.signs", laid_padlock_parse_signs), ("padlock/parse.comparisons", laid_padlock_parse_comparisons), ("padlock/parse.constants", laid_padlock_parse_constants), ("padlock/parse.kept", laid_padlock_parse_kept), ("padlock/parse.kinds", laid_padlock_parse_kinds)] }
def ParseTornSaid : Prop := parseTornRow.holds Tryd.pinned (OpenSpec.ofChange parseTornSpec)

/-- ITS FALSE NEIGHBOUR: 'it returns false'. Refute it at one input. -/
def parseTornWrong : ChangeSpec := { name := "parseTorn", fn := fun _ => fun
  | [d1, d2] => { results := [.lit (.bool false)], args := [d1, d2] }
  | _ => none }
def ParseTornWrongFalsely : Prop := parseTornRow.holds Tryd.pinned (OpenSpec.ofChange parseTornWrong)

/-- 'padlockkeep.ParseTurns': WHATEVER THE INPUT: true; the input reads as it did. -/
def parseTurnsSpec : ChangeSpec := { name := "parseTurns", fn := fun _ => fun
  | [d1, d2] => { results := [.lit (.bool true)], args := [d1, d2] }
  | _ => none }
def parseTurnsRow : OpenClaim := { program := "ytdeollmeljaaoaadoor", sum := "d4939fb7c5d40e7e22097284a54458195d05245ed640f9c61ab3127876bcbf8e", func := "padlock/padlockkeep.ParseTurns", spec := "parseTurns", unfollowed := true, recurses := true, named := ["padlock/lex.marks", "padlock/parse.kept", "padlock/parse.kinds", "padlock/parse.constants", "padlock/parse.comparisons", "padlock/parse.signs", "padlock/parse.worksOn"], apart := false, laid := [("padlock/lex.marks", laid_padlock_lex_marks), ("padlock/parse.worksOn", laid_padlock_parse_worksOn), ("padlock/parse.signs", laid_padlock_parse_signs), ("padlock/parse.comparisons", laid_padlock_parse_comparisons), ("padlock/parse.constants", laid_padlock_parse_constants), ("padlock/parse.kept", laid_padlock_parse_kept), ("padlock/parse.kinds", laid_padlock_parse_kinds)] }
def ParseTurnsSaid : Prop := parseTurnsRow.holds Tryd.pinned (OpenSpec.ofChange parseTurnsSpec)

/-- ITS FALSE NEIGHBOUR: 'it returns false'. Refute it at one input. -/
def parseTurnsWrong : ChangeSpec := { name := "parseTurns", fn := fun _ => fun
  | [d1, d2] => { results := [.lit (.bool false)], args := [d1, d2] }
  | _ => none }
def ParseTurnsWrongFalsely : Prop := parseTurnsRow.holds Tryd.pinned (OpenSpec.ofChange parseTurnsWrong)

/-- 'padlockkeep.ParseMinus': WHATEVER THE INPUT: true; the input reads as it did. -/
def parseMinusSpec : ChangeSpec := { name := "parseMinus", fn := fun _ => fun
  | [d] => { results := [.lit (.bool true)], args := [d] }
  | _ => none }
def parseMinusRow : OpenClaim := { program := "ytdeollmeljaaoaadoor", sum := "d4939fb7c5d40e7e22097284a54458195d05245ed640f9c61ab3127876bcbf8e", func := "padlock/padlockkeep.ParseMinus", spec := "parseMinus", unfollowed := true, recurses := true, named := ["padlock/lex.marks", "padlock/parse.kept", "padlock/parse.kinds", "padlock/parse.constants", "padlock/parse.comparisons", "padlock/parse.signs"], apart := false, laid := [("padlock/lex.marks", laid_padlock_lex_marks), ("padlock/parse.signs", laid_padlock_parse_signs), ("padlock/parse.comparisons", laid_padlock_parse_comparisons), ("padlock/parse.constants", laid_padlock_parse_constants), ("padlock/parse.kept", laid_padlock_parse_kept), ("padlock/parse.kinds", laid_padlock_parse_kinds)] }
def ParseMinusSaid : Prop := parseMinusRow.holds Tryd.pinned (OpenSpec.ofChange parseMinusSpec)

/-- ITS FALSE NEIGHBOUR: 'it returns false'. Refute it at one input. -/
def parseMinusWrong : ChangeSpec := { name := "parseMinus", fn := fun _ => fun
  | [d] => { results := [.lit (.bool false)], args := [d] }
  | _ => none }
def ParseMinusWrongFalsely : Prop := parseMinusRow.holds Tryd.pinned (OpenSpec.ofChange parseMinusWrong)

/-- 'padlockkeep.ParseMore': WHATEVER THE INPUT: true; the input reads as it did. -/
def parseMoreSpec : ChangeSpec := { name := "parseMore", fn := fun _ => fun
  | [d] => { results := [.lit (.bool true)], args := [d] }
  | _ => none }
def parseMoreRow : OpenClaim := { program := "ytdeollmeljaaoaadoor", sum := "d4939fb7c5d40e7e22097284a54458195d05245ed640f9c61ab3127876bcbf8e", func := "padlock/padlockkeep.ParseMore", spec := "parseMore", unfollowed := true, recurses := true, named := ["padlock/lex.marks", "padlock/parse.kept", "padlock/parse.worksOn", "padlock/parse.kinds", "padlock/parse.constants", "padlock/parse.signs", "padlock/parse.comparisons"], loops := true, apart := false, laid := [("padlock/lex.marks", laid_padlock_lex_marks), ("padlock/parse.worksOn", laid_padlock_parse_worksOn), ("padlock/parse.signs", laid_padlock_parse_signs), ("padlock/parse.comparisons", laid_padlock_parse_comparisons), ("padlock/parse.constants", laid_padlock_parse_constants), ("padlock/parse.kept", laid_padlock_parse_kept), ("padlock/parse.kinds", laid_padlock_parse_kinds)] }
def ParseMoreSaid : Prop := parseMoreRow.holds Tryd.pinned (OpenSpec.ofChange parseMoreSpec)

/-- ITS FALSE NEIGHBOUR: 'it returns false'. Refute it at one input. -/
def parseMoreWrong : ChangeSpec := { name := "parseMore", fn := fun _ => fun
  | [d] => { results := [.lit (.bool false)], args := [d] }
  | _ => none }
def ParseMoreWrongFalsely : Prop := parseMoreRow.holds Tryd.pinned (OpenSpec.ofChange parseMoreWrong)

/- THE SECOND FORM. 'bulk': how many values and letters a reading holds, each counted each time it is reached (what is shared counts as often as it is met; a slice's spare places count too). A statement '..UptoSaid' is the law's where the arguments, and the package variables that the reading takes, are together of bulk at most 1048576: NARROWER than '..Said'. Prove '..Said' where nothing that the law and all that it calls make is longer than what came in: it says more and counts as full. Else prove '..UptoSaid'. A law counts once. -/
mutual
def uptoBulk {H : Type} : DataW H → Nat
  | .lit (.string bytes) => bytes.length + 1
  | .lit _ => 1
  | .nil => 1
  | .ptr d => uptoBulk d + 1
  | .slice elems spare => uptoBulkAll elems + uptoBulkAll spare + 1
  | .agg parts => uptoBulkAll parts + 1
  | .iface _ d => uptoBulk d + 1
  | .map entries => uptoBulkEntries entries + 1
  | .held _ => 1
def uptoBulkAll {H : Type} : List (DataW H) → Nat
  | [] => 0
  | d :: r => uptoBulk d + uptoBulkAll r
def uptoBulkEntries {H : Type} : List (Lit × DataW H) → Nat
  | [] => 0
  | x :: r => uptoBulkEntry x + uptoBulkEntries r
def uptoBulkEntry {H : Type} : Lit × DataW H → Nat
  | (.string bytes, d) => bytes.length + uptoBulk d + 1
  | (_, d) => uptoBulk d + 1
 end
def uptoSmall : (H : Type) → List (DataW H) → Bool := fun _ ds => decide (uptoBulkAll ds ≤ 1048576)
def OpenSpec.upto (s : _root_.Go.ChangeSpec) : _root_.Go.OpenSpec := { _root_.Go.OpenSpec.ofChange s with cond := some uptoSmall }

/-- 'padlockkeep.ParseBack', WHERE WHAT IT READS IS OF BULK AT MOST 1048576: true; the input reads as it did. -/
def parseBackUptoRow : OpenClaim := { program := "ytdeollmeljaaoaadoor", sum := "d4939fb7c5d40e7e22097284a54458195d05245ed640f9c61ab3127876bcbf8e", func := "padlock/padlockkeep.ParseBack", spec := "parseBack", unfollowed := true, recurses := true, named := ["padlock/lex.marks", "padlock/parse.kept", "padlock/parse.worksOn", "padlock/parse.kinds", "padlock/parse.constants", "padlock/parse.signs", "padlock/parse.comparisons"], loops := true, apart := false, laid := [("padlock/lex.marks", laid_padlock_lex_marks), ("padlock/parse.worksOn", laid_padlock_parse_worksOn), ("padlock/parse.signs", laid_padlock_parse_signs), ("padlock/parse.comparisons", laid_padlock_parse_comparisons), ("padlock/parse.constants", laid_padlock_parse_constants), ("padlock/parse.kept", laid_padlock_parse_kept), ("padlock/parse.kinds", laid_padlock_parse_kinds)], narrowed := true }
def ParseBackUptoSaid : Prop := parseBackUptoRow.holds Tryd.pinned (OpenSpec.upto parseBackSpec)

/-- 'padlockkeep.ParseFixed', WHERE WHAT IT READS IS OF BULK AT MOST 1048576: true; the input reads as it did. -/
def parseFixedUptoRow : OpenClaim := { program := "ytdeollmeljaaoaadoor", sum := "d4939fb7c5d40e7e22097284a54458195d05245ed640f9c61ab3127876bcbf8e", func := "padlock/padlockkeep.ParseFixed", spec := "parseFixed", unfollowed := true, recurses := true, named := ["padlock/lex.marks", "padlock/parse.kept", "padlock/parse.kinds", "padlock/parse.constants", "padlock/parse.comparisons", "padlock/parse.signs", "padlock/parse.worksOn"], apart := false, laid := [("padlock/lex.marks", laid_padlock_lex_marks), ("padlock/parse.worksOn", laid_padlock_parse_worksOn), ("padlock/parse.signs", laid_padlock_parse_signs), ("padlock/parse.comparisons", laid_padlock_parse_comparisons), ("padlock/parse.constants", laid_padlock_parse_constants), ("padlock/parse.kept", laid_padlock_parse_kept), ("padlock/parse.kinds", laid_padlock_parse_kinds)], narrowed := true }
def ParseFixedUptoSaid : Prop := parseFixedUptoRow.holds Tryd.pinned (OpenSpec.upto parseFixedSpec)

/-- 'padlockkeep.ParseTorn', WHERE WHAT IT READS IS OF BULK AT MOST 1048576: true; the input reads as it did. -/
def parseTornUptoRow : OpenClaim := { program := "ytdeollmeljaaoaadoor", sum := "d4939fb7c5d40e7e22097284a54458195d05245ed640f9c61ab3127876bcbf8e", func := "padlock/padlockkeep.ParseTorn", spec := "parseTorn", unfollowed := true, recurses := true, named := ["padlock/lex.marks", "padlock/parse.kept", "padlock/parse.worksOn", "padlock/parse.kinds", "padlock/parse.constants", "padlock/parse.signs", "padlock/parse.comparisons"], loops := true, apart := false, laid := [("padlock/lex.marks", laid_padlock_lex_marks), ("padlock/parse.worksOn", laid_padlock_parse_worksOn), ("padlock/parse.signs", laid_padlock_parse_signs), ("padlock/parse.comparisons", laid_padlock_parse_comparisons), ("padlock/parse.constants", laid_padlock_parse_constants), ("padlock/parse.kept", laid_padlock_parse_kept), ("padlock/parse.kinds", laid_padlock_parse_kinds)], narrowed := true }
def ParseTornUptoSaid : Prop := parseTornUptoRow.holds Tryd.pinned (OpenSpec.upto parseTornSpec)

/-- 'padlockkeep.ParseTurns', WHERE WHAT IT READS IS OF BULK AT MOST 1048576: true; the input reads as it did. -/
def parseTurnsUptoRow : OpenClaim := { program := "ytdeollmeljaaoaadoor", sum := "d4939fb7c5d40e7e22097284a54458195d05245ed640f9c61ab3127876bcbf8e", func := "padlock/padlockkeep.ParseTurns", spec := "parseTurns", unfollowed := true, recurses := true, named := ["padlock/lex.marks", "padlock/parse.kept", "padlock/parse.kinds", "padlock/parse.constants", "padlock/parse.comparisons", "padlock/parse.signs", "padlock/parse.worksOn"], apart := false, laid := [("padlock/lex.marks", laid_padlock_lex_marks), ("padlock/parse.worksOn", laid_padlock_parse_worksOn), ("padlock/parse.signs", laid_padlock_parse_signs), ("padlock/parse.comparisons", laid_padlock_parse_comparisons), ("padlock/parse.constants", laid_padlock_parse_constants), ("padlock/parse.kept", laid_padlock_parse_kept), ("padlock/parse.kinds", laid_padlock_parse_kinds)], narrowed := true }
def ParseTurnsUptoSaid : Prop := parseTurnsUptoRow.holds Tryd.pinned (OpenSpec.upto parseTurnsSpec)

/-- 'padlockkeep.ParseMinus', WHERE WHAT IT READS IS OF BULK AT MOST 1048576: true; the input reads as it did. -/
def parseMinusUptoRow : OpenClaim := { program := "ytdeollmeljaaoaadoor", sum := "d4939fb7c5d40e7e22097284a54458195d05245ed640f9c61ab3127876bcbf8e", func := "padlock/padlockkeep.ParseMinus", spec := "parseMinus", unfollowed := true, recurses := true, named := ["padlock/lex.marks", "padlock/parse.kept", "padlock/parse.kinds", "padlock/parse.constants", "padlock/parse.comparisons", "padlock/parse.signs"], apart := false, laid := [("padlock/lex.marks", laid_padlock_lex_marks), ("padlock/parse.signs", laid_padlock_parse_signs), ("padlock/parse.comparisons", laid_padlock_parse_comparisons), ("padlock/parse.constants", laid_padlock_parse_constants), ("padlock/parse.kept", laid_padlock_parse_kept), ("padlock/parse.kinds", laid_padlock_parse_kinds)], narrowed := true }
def ParseMinusUptoSaid : Prop := parseMinusUptoRow.holds Tryd.pinned (OpenSpec.upto parseMinusSpec)

/-- 'padlockkeep.ParseMore', WHERE WHAT IT READS IS OF BULK AT MOST 1048576: true; the input reads as it did. -/
def parseMoreUptoRow : OpenClaim := { program := "ytdeollmeljaaoaadoor", sum := "d4939fb7c5d40e7e22097284a54458195d05245ed640f9c61ab3127876bcbf8e", func := "padlock/padlockkeep.ParseMore", spec := "parseMore", unfollowed := true, recurses := true, named := ["padlock/lex.marks", "padlock/parse.kept", "padlock/parse.worksOn", "padlock/parse.kinds", "padlock/parse.constants", "padlock/parse.signs", "padlock/parse.comparisons"], loops := true, apart := false, laid := [("padlock/lex.marks", laid_padlock_lex_marks), ("padlock/parse.worksOn", laid_padlock_parse_worksOn), ("padlock/parse.signs", laid_padlock_parse_signs), ("padlock/parse.comparisons", laid_padlock_parse_comparisons), ("padlock/parse.constants", laid_padlock_parse_constants), ("padlock/parse.kept", laid_padlock_parse_kept), ("padlock/parse.kinds", laid_padlock_parse_kinds)], narrowed := true }
def ParseMoreUptoSaid : Prop := parseMoreUptoRow.holds Tryd.pinned (OpenSpec.upto parseMoreSpec)

end Rows
end Go.Proofs.YtdeollmeljaaoaaDoor
