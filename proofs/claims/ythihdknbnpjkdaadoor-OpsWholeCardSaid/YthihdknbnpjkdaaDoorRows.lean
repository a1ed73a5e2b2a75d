/-
  NARROWER THAN 'FOR EVERY INPUT', by the rows' own cells (each row's printed sentence says how): ParseNames: laid · ParseExpressions: laid · NameKept: laid · OpsWhole: loops, laid.
  DERIVED. THE GIVEN ROWS OF THIS SEAT. 4 by the template 'for every input the law returns true; each argument reads behind the call as it read before'; 0 by the template 'total and deterministic' (their statements: YthihdknbnpjkdaaDoorTotals.lean).
  GIVEN WITH THE SEED: the statements are not yours to turn. If you find one false, say at which input.
  Laid BY PROGRAM, IN A SANDBOX (cutbox-rows.mjs): the forced cells as the released guide's own fill.sh prints them over the translation 2beb34ae21c7ed9e… (all of the seat's roots in one cut). By AI agents, Wed Nov 11 2026. No macro, syntax, notation, axiom, sorry.
-/
import Derived.Test.YthihdknbnpjkdaaDoorChecked
import GoSem.Claim
import GoSem.ClaimJoined
import GoSem.ClaimMapViews
import Derived.JoinedTies
import Derived.KernelRfl
namespace Go.Proofs.YthihdknbnpjkdaaDoor
/- THE CELL 'sum', in the pinned program and in every row, IS THE sha256 OF THE DUMP (.gsa) THAT YthihdknbnpjkdaaDoorProg.lean LOADS. Nothing in Lean hashes anything: it is a label: what it is worth is what the hold of that sum in a sandbox is worth. -/
noncomputable def Tryd.pinned : Pinned := { name := "ythihdknbnpjkdaadoor", sum := "2beb34ae21c7ed9ef586fea3594dd7b8ffd04c00ef1d3f6be563f8c8ea5953d1", checked := Tryd.checked }
namespace Rows
def none {H : Type} : Left H := { results := [], args := [] }

/- WHAT THE LISTED PACKAGE-LEVEL VARIABLES READ AS WHEN THE CALL BEGINS. Each datum BY PROGRAM (the guide's laid-datum.mjs) off the statement by which the dump's own 'gosem.cut.vars' lays the variable. In a bare row this is a premise. The card (YthihdknbnpjkdaaDoorCards.lean) ties it to the program's text. -/
def laid_padlock_lex_marks {H : Type} : DataW H := .agg [.lit (.string [60, 61]), .lit (.string [62, 61]), .lit (.string [60, 62]), .lit (.string [40]), .lit (.string [41]), .lit (.string [44]), .lit (.string [42]), .lit (.string [43]), .lit (.string [45]), .lit (.string [61]), .lit (.string [60]), .lit (.string [62])]
def laid_padlock_parse_kept {H : Type} : DataW H := .agg [.lit (.string [67, 82, 69, 65, 84, 69]), .lit (.string [84, 65, 66, 76, 69]), .lit (.string [68, 82, 79, 80]), .lit (.string [73, 78, 83, 69, 82, 84]), .lit (.string [73, 78, 84, 79]), .lit (.string [86, 65, 76, 85, 69, 83]), .lit (.string [83, 69, 76, 69, 67, 84]), .lit (.string [67, 79, 85, 78, 84]), .lit (.string [70, 82, 79, 77]), .lit (.string [87, 72, 69, 82, 69]), .lit (.string [79, 82, 68, 69, 82]), .lit (.string [66, 89]), .lit (.string [68, 69, 83, 67]), .lit (.string [76, 73, 77, 73, 84]), .lit (.string [85, 80, 68, 65, 84, 69]), .lit (.string [83, 69, 84]), .lit (.string [68, 69, 76, 69, 84, 69]), .lit (.string [66, 69, 71, 73, 78]), .lit (.string [67, 79, 77, 77, 73, 84]), .lit (.string [82, 79, 76, 76, 66, 65, 67, 75]), .lit (.string [65, 78, 68]), .lit (.string [79, 82]), .lit (.string [78, 79, 84]), .lit (.string [73, 83]), .lit (.string [78, 85, 76, 76]), .lit (.string [84, 82, 85, 69]), .lit (.string [70, 65, 76, 83, 69]), .lit (.string [73, 78, 84]), .lit (.string [84, 69, 88, 84]), .lit (.string [66, 79, 79, 76])]
def laid_padlock_parse_worksOn {H : Type} : DataW H := .agg [.lit (.int .i64 0), .lit (.int .i64 0), .lit (.int .i64 0), .lit (.int .i64 2), .lit (.int .i64 2), .lit (.int .i64 1), .lit (.int .i64 2), .lit (.int .i64 2), .lit (.int .i64 2), .lit (.int .i64 2), .lit (.int .i64 2), .lit (.int .i64 1)]

/-- 'padlocklaw.ParseNames': WHATEVER THE INPUT: true; the input reads as it did. -/
def parseNamesSpec : ChangeSpec := { name := "parseNames", fn := fun _ => fun
  | [d] => { results := [.lit (.bool true)], args := [d] }
  | _ => none }
def parseNamesRow : OpenClaim := { program := "ythihdknbnpjkdaadoor", sum := "2beb34ae21c7ed9ef586fea3594dd7b8ffd04c00ef1d3f6be563f8c8ea5953d1", func := "padlock/padlocklaw.ParseNames", spec := "parseNames", unfollowed := true, recurses := true, named := ["padlock/lex.marks", "padlock/parse.kept"], apart := false, laid := [("padlock/lex.marks", laid_padlock_lex_marks), ("padlock/parse.kept", laid_padlock_parse_kept)] }
def ParseNamesSaid : Prop := parseNamesRow.holds Tryd.pinned (OpenSpec.ofChange parseNamesSpec)

/-- ITS FALSE NEIGHBOUR: 'it returns false'. Refute it at one input. -/
def parseNamesWrong : ChangeSpec := { name := "parseNames", fn := fun _ => fun
  | [d] => { results := [.lit (.bool false)], args := [d] }
  | _ => none }
def ParseNamesWrongFalsely : Prop := parseNamesRow.holds Tryd.pinned (OpenSpec.ofChange parseNamesWrong)

/-- 'padlocklaw.ParseExpressions': WHATEVER THE INPUT: true; the input reads as it did. -/
def parseExpressionsSpec : ChangeSpec := { name := "parseExpressions", fn := fun _ => fun
  | [d] => { results := [.lit (.bool true)], args := [d] }
  | _ => none }
def parseExpressionsRow : OpenClaim := { program := "ythihdknbnpjkdaadoor", sum := "2beb34ae21c7ed9ef586fea3594dd7b8ffd04c00ef1d3f6be563f8c8ea5953d1", func := "padlock/padlocklaw.ParseExpressions", spec := "parseExpressions", unfollowed := true, recurses := true, named := ["padlock/parse.worksOn", "padlock/lex.marks", "padlock/parse.kept"], apart := false, laid := [("padlock/lex.marks", laid_padlock_lex_marks), ("padlock/parse.worksOn", laid_padlock_parse_worksOn), ("padlock/parse.kept", laid_padlock_parse_kept)] }
def ParseExpressionsSaid : Prop := parseExpressionsRow.holds Tryd.pinned (OpenSpec.ofChange parseExpressionsSpec)

/-- ITS FALSE NEIGHBOUR: 'it returns false'. Refute it at one input. -/
def parseExpressionsWrong : ChangeSpec := { name := "parseExpressions", fn := fun _ => fun
  | [d] => { results := [.lit (.bool false)], args := [d] }
  | _ => none }
def ParseExpressionsWrongFalsely : Prop := parseExpressionsRow.holds Tryd.pinned (OpenSpec.ofChange parseExpressionsWrong)

/-- 'padlockkeep.NameKept': WHATEVER THE INPUT: true; the input reads as it did. -/
def nameKeptSpec : ChangeSpec := { name := "nameKept", fn := fun _ => fun
  | [d1, d2] => { results := [.lit (.bool true)], args := [d1, d2] }
  | _ => none }
def nameKeptRow : OpenClaim := { program := "ythihdknbnpjkdaadoor", sum := "2beb34ae21c7ed9ef586fea3594dd7b8ffd04c00ef1d3f6be563f8c8ea5953d1", func := "padlock/padlockkeep.NameKept", spec := "nameKept", unfollowed := true, recurses := true, named := ["padlock/lex.marks", "padlock/parse.kept"], apart := false, laid := [("padlock/lex.marks", laid_padlock_lex_marks), ("padlock/parse.kept", laid_padlock_parse_kept)] }
def NameKeptSaid : Prop := nameKeptRow.holds Tryd.pinned (OpenSpec.ofChange nameKeptSpec)

/-- ITS FALSE NEIGHBOUR: 'it returns false'. Refute it at one input. -/
def nameKeptWrong : ChangeSpec := { name := "nameKept", fn := fun _ => fun
  | [d1, d2] => { results := [.lit (.bool false)], args := [d1, d2] }
  | _ => none }
def NameKeptWrongFalsely : Prop := nameKeptRow.holds Tryd.pinned (OpenSpec.ofChange nameKeptWrong)

/-- 'padlockkeep.OpsWhole': WHATEVER THE INPUT: true; the input reads as it did. -/
def opsWholeSpec : ChangeSpec := { name := "opsWhole", fn := fun _ => fun
  | [d1, d2] => { results := [.lit (.bool true)], args := [d1, d2] }
  | _ => none }
def opsWholeRow : OpenClaim := { program := "ythihdknbnpjkdaadoor", sum := "2beb34ae21c7ed9ef586fea3594dd7b8ffd04c00ef1d3f6be563f8c8ea5953d1", func := "padlock/padlockkeep.OpsWhole", spec := "opsWhole", unfollowed := true, recurses := true, named := ["padlock/parse.worksOn", "padlock/lex.marks", "padlock/parse.kept"], loops := true, apart := false, laid := [("padlock/lex.marks", laid_padlock_lex_marks), ("padlock/parse.worksOn", laid_padlock_parse_worksOn), ("padlock/parse.kept", laid_padlock_parse_kept)] }
def OpsWholeSaid : Prop := opsWholeRow.holds Tryd.pinned (OpenSpec.ofChange opsWholeSpec)

/-- ITS FALSE NEIGHBOUR: 'it returns false'. Refute it at one input. -/
def opsWholeWrong : ChangeSpec := { name := "opsWhole", fn := fun _ => fun
  | [d1, d2] => { results := [.lit (.bool false)], args := [d1, d2] }
  | _ => none }
def OpsWholeWrongFalsely : Prop := opsWholeRow.holds Tryd.pinned (OpenSpec.ofChange opsWholeWrong)

/- THE SECOND FORM. 'bulk': how many values and letters a reading holds, each counted each time it is reached (what is shared counts as often as it is met; a slice's spare places count too). A statement '..UptoSaid' is the law's where the arguments, and the package variables that the reading takes, are together of bulk at most 1048576: NARROWER than '..Said'. Prove '..Said' where nothing that the law and all that it calls make is longer than what came in: it says more and counts as full. Else prove '..UptoSaid'. A law counts once. -/
mutual
def uptoBulk {H : Type} : DataW H → Nat
  | .lit (.string bytes) => bytes.length + 1
  | .lit _ => 1
  | .nil => 1
  | .ptr d => uptoBulk d + 1
  | .slice elems spare => uptoBulkAll elems + uptoBulkAll spare + 1
  | .agg parts => uptoBulkAll parts + 1
  | .iface _ d => uptoBulk d + 1
  | .map entries => uptoBulkEntries entries + 1
  | .held _ => 1
def uptoBulkAll {H : Type} : List (DataW H) → Nat
  | [] => 0
  | d :: r => uptoBulk d + uptoBulkAll r
def uptoBulkEntries {H : Type} : List (Lit × DataW H) → Nat
  | [] => 0
  | x :: r => uptoBulkEntry x + uptoBulkEntries r
def uptoBulkEntry {H : Type} : Lit × DataW H → Nat
  | (.string bytes, d) => bytes.length + uptoBulk d + 1
  | (_, d) => uptoBulk d + 1
 end
def uptoSmall : (H : Type) → List (DataW H) → Bool := fun _ ds => decide (uptoBulkAll ds ≤ 1048576)
def OpenSpec.upto (s : _root_.Go.ChangeSpec) : _root_.Go.OpenSpec := { _root_.Go.OpenSpec.ofChange s with cond := some uptoSmall }

/-- 'padlocklaw.ParseNames', WHERE WHAT IT READS IS OF BULK AT MOST 1048576: true; the input reads as it did. -/
def parseNamesUptoRow : OpenClaim := { program := "ythihdknbnpjkdaadoor", sum := "2beb34ae21c7ed9ef586fea3594dd7b8ffd04c00ef1d3f6be563f8c8ea5953d1", func := "padlock/padlocklaw.ParseNames", spec := "parseNames", unfollowed := true, recurses := true, named := ["padlock/lex.marks", "padlock/parse.kept"], apart := false, laid := [("padlock/lex.marks", laid_padlock_lex_marks), ("padlock/parse.kept", laid_padlock_parse_kept)], narrowed := true }
def ParseNamesUptoSaid : Prop := parseNamesUptoRow.holds Tryd.pinned (OpenSpec.upto parseNamesSpec)

/-- 'padlocklaw.ParseExpressions', WHERE WHAT IT READS IS OF BULK AT MOST 1048576: true; the input reads as it did. -/
def parseExpressionsUptoRow : OpenClaim := { program := "ythihdknbnpjkdaadoor", sum := "2beb34ae21c7ed9ef586fea3594dd7b8ffd04c00ef1d3f6be563f8c8ea5953d1", func := "padlock/padlocklaw.ParseExpressions", spec := "parseExpressions", unfollowed := true, recurses := true, named := ["padlock/parse.worksOn", "padlock/lex.marks", "padlock/parse.kept"], apart := false, laid := [("padlock/lex.marks", laid_padlock_lex_marks), ("padlock/parse.worksOn", laid_padlock_parse_worksOn), ("padlock/parse.kept", laid_padlock_parse_kept)], narrowed := true }
def ParseExpressionsUptoSaid : Prop := parseExpressionsUptoRow.holds Tryd.pinned (OpenSpec.upto parseExpressionsSpec)

/-- 'padlockkeep.NameKept', WHERE WHAT IT READS IS OF BULK AT MOST 1048576: true; the input reads as it did. -/
def nameKeptUptoRow : OpenClaim := { program := "ythihdknbnpjkdaadoor", sum := "2beb34ae21c7ed9ef586fea3594dd7b8ffd04c00ef1d3f6be563f8c8ea5953d1", func := "padlock/padlockkeep.NameKept", spec := "nameKept", unfollowed := true, recurses := true, named := ["padlock/lex.marks", "padlock/parse.kept"], apart := false, laid := [("padlock/lex.marks", laid_padlock_lex_marks), ("padlock/parse.kept", laid_padlock_parse_kept)], narrowed := true }
def NameKeptUptoSaid : Prop := nameKeptUptoRow.holds Tryd.pinned (OpenSpec.upto nameKeptSpec)

/-- 'padlockkeep.OpsWhole', WHERE WHAT IT READS IS OF BULK AT MOST 1048576: true; the input reads as it did. -/
def opsWholeUptoRow : OpenClaim := { program := "ythihdknbnpjkdaadoor", sum := "2beb34ae21c7ed9ef586fea3594dd7b8ffd04c00ef1d3f6be563f8c8ea5953d1", func := "padlock/padlockkeep.OpsWhole", spec := "opsWhole", unfollowed := true, recurses := true, named := ["padlock/parse.worksOn", "padlock/lex.marks", "padlock/parse.kept"], loops := true, apart := false, laid := [("padlock/lex.marks", laid_padlock_lex_marks), ("padlock/parse.worksOn", laid_padlock_parse_worksOn), ("padlock/parse.kept", laid_padlock_parse_kept)], narrowed := true }
def OpsWholeUptoSaid : Prop := opsWholeUptoRow.holds Tryd.pinned (OpenSpec.upto opsWholeSpec)

end Rows
end Go.Proofs.YthihdknbnpjkdaaDoor
