/- The variables that the rows of stage 10 list: a world in which they lie so. -/
import Derived.Test.YtbjdgkidnmklkaaGreatDoorBf
import Derived.Test.YtbjdgkidnmklkaaGreatDoorTie
import Derived.Test.YtbjdgkidnmklkaaGreatDoorCards
import Derived.ChangeSame
import Derived.ChangeVars
import Derived.JoinedOf
import Derived.SevenTiedAt
import Derived.Stop.LaidErr
import Derived.LaidSub
import Derived.Shelf.Vars
namespace Go.Proofs.YtbjdgkidnmklkaaGreatDoor
open Go.ChangeShapes Go.WideShapes Go.ChangeAt Go.RowKit
set_option linter.unusedVariables false
set_option linter.unusedSimpArgs false
set_option maxRecDepth 100000
abbrev LZ : List (String × DataW Unit) := [("math/bits.deBruijn32tab", Rows.laid_math_bits_deBruijn32tab), ("math/bits.deBruijn64tab", Rows.laid_math_bits_deBruijn64tab), ("internal/strconv.uint64pow10", Rows.laid_internal_strconv_uint64pow10), ("unicode/utf8.acceptRanges", Rows.laid_unicode_utf8_acceptRanges), ("strconv.ErrRange", Rows.laid_strconv_ErrRange), ("strconv.ErrSyntax", Rows.laid_strconv_ErrSyntax), ("padlock/lex.marks", Rows.laid_padlock_lex_marks), ("padlock/lock.together", Rows.laid_padlock_lock_together), ("padlock/lock.joined", Rows.laid_padlock_lock_joined), ("padlock/parse.worksOn", Rows.laid_padlock_parse_worksOn), ("padlock/parse.signs", Rows.laid_padlock_parse_signs), ("padlock/parse.comparisons", Rows.laid_padlock_parse_comparisons), ("padlock/parse.constants", Rows.laid_padlock_parse_constants), ("padlock/parse.kept", Rows.laid_padlock_parse_kept), ("padlock/parse.kinds", Rows.laid_padlock_parse_kinds), ("padlock/need.onList", Rows.laid_padlock_need_onList), ("padlock/need.onTable", Rows.laid_padlock_need_onTable), ("padlock/need.onKeys", Rows.laid_padlock_need_onKeys), ("unicode/utf8.first", Rows.laid_unicode_utf8_first)]
abbrev laidZ : World → Prop := laidMet Tryz.prog LZ
theorem Z_of {W : World} (h : laidZ W) : True := trivial
def layZ (cs : Array Value) : Obj → Obj
  | .cells _ t fr => .cells cs t fr
  | o => o
/-- The cells that a datum of numbers and texts lies as. -/
def cellsD : Nat → DataW Unit → List Value
  | 0, _ => []
  | n + 1, .lit (.int k x) => [.int k x]
  | n + 1, .lit (.bool b) => [.bool b]
  | n + 1, .lit (.string l) => [.string ⟨l.toArray⟩]
  | n + 1, .agg xs => xs.flatMap (cellsD n)
  | _, _ => []
noncomputable def lowN : Nat := (World.holding Tryz.prog default ⟨#[], #[], []⟩).heap.size
def textOf : DataW Unit → ByteArray
  | .iface _ (.ptr (.agg [.lit (.string l)])) => ⟨l.toArray⟩
  | _ => ⟨#[]⟩
noncomputable def tabledZ (os : Os) : World :=
  let w0 := World.holding Tryz.prog os ⟨#[.cells #[.string (textOf Rows.laid_strconv_ErrRange)] 428, .cells #[.string (textOf Rows.laid_strconv_ErrSyntax)] 428], #[], []⟩
  { w0 with heap := (((((((((((((((((((w0.heap).modify 18 (layZ (cellsD 6 Rows.laid_math_bits_deBruijn32tab).toArray)).modify 19 (layZ (cellsD 6 Rows.laid_math_bits_deBruijn64tab).toArray)).modify 17 (layZ (cellsD 6 Rows.laid_internal_strconv_uint64pow10).toArray)).modify 15 (layZ (cellsD 6 Rows.laid_unicode_utf8_acceptRanges).toArray)).modify 13 (layZ #[.iface 426 (.pointer (some ⟨lowN, 0, none⟩))])).modify 12 (layZ #[.iface 426 (.pointer (some ⟨lowN + 1, 0, none⟩))])).modify 3 (layZ (cellsD 6 Rows.laid_padlock_lex_marks).toArray)).modify 10 (layZ (cellsD 6 Rows.laid_padlock_lock_together).toArray)).modify 2 (layZ (cellsD 6 Rows.laid_padlock_lock_joined).toArray)).modify 5 (layZ (cellsD 6 Rows.laid_padlock_parse_worksOn).toArray)).modify 9 (layZ (cellsD 6 Rows.laid_padlock_parse_signs).toArray)).modify 16 (layZ (cellsD 6 Rows.laid_padlock_parse_comparisons).toArray)).modify 7 (layZ (cellsD 6 Rows.laid_padlock_parse_constants).toArray)).modify 4 (layZ (cellsD 6 Rows.laid_padlock_parse_kept).toArray)).modify 6 (layZ (cellsD 6 Rows.laid_padlock_parse_kinds).toArray)).modify 0 (layZ (cellsD 6 Rows.laid_padlock_need_onList).toArray)).modify 8 (layZ (cellsD 6 Rows.laid_padlock_need_onTable).toArray)).modify 1 (layZ (cellsD 6 Rows.laid_padlock_need_onKeys).toArray)).modify 14 (layZ (cellsD 6 Rows.laid_unicode_utf8_first).toArray) }
theorem tabledZ_run (os : Os) (args : Array Value) : (DataW.laidRun Tryz.prog ((tabledZ os).forCall (fun _ _ => 0) ⟨#[], args, []⟩).memory 8 (LZ.map (·.1))).map (·.1) = some LZ := by kernel_rfl
end Go.Proofs.YtbjdgkidnmklkaaGreatDoor
