/-
  DERIVED. GIVEN WITH THE SEED: THE PROGRAM's TIES (one call each: nine closed facts by the kernel) AND EACH ROW's TIE, after the 31st guide's Derived/Test/Toyas{Tie, Card}.lean. No idea stands in it: it is a product of the set-up. Laid BY PROGRAM, IN A SANDBOX (cutbox-door.mjs). By AI agents, Wed Nov 11 2026. No macro, syntax, notation, axiom, sorry.
-/
import Derived.Test.YtmfkdpfcpdmkdaaGreatDoorRows
import Derived.LaidByTextLater
import Derived.SevenTiedAt
import Derived.LaidSub
import Derived.LaidOnce
namespace Go.Proofs.YtmfkdpfcpdmkdaaGreatDoor
open Go
set_option maxRecDepth 100000
theorem seatTie1 : Tryz.prog.laidByTextLater [("padlock/lex.marks", Rows.laid_padlock_lex_marks), ("padlock/parse.worksOn", Rows.laid_padlock_parse_worksOn), ("padlock/parse.signs", Rows.laid_padlock_parse_signs), ("padlock/parse.constants", Rows.laid_padlock_parse_constants), ("padlock/parse.kept", Rows.laid_padlock_parse_kept), ("padlock/parse.kinds", Rows.laid_padlock_parse_kinds)] [.data, .data, .data, .data, .data, .data] true :=
  Program.laidByTextLater_by_one 45 8 31 (by kernel_rfl) (by kernel_rfl) (by kernel_rfl) (by kernel_rfl) (by kernel_rfl) (by kernel_rfl) (fun _ _ => by kernel_rfl)
theorem noOwnUnsafe : Tryz.pinned.checked.prog.headLifts.contains "ownunsafe" = false := by kernel_rfl
theorem tie : Tryz.prog.laidByTextLater [("padlock/lex.marks", Rows.laid_padlock_lex_marks), ("padlock/parse.worksOn", Rows.laid_padlock_parse_worksOn), ("padlock/parse.signs", Rows.laid_padlock_parse_signs), ("padlock/parse.constants", Rows.laid_padlock_parse_constants), ("padlock/parse.kept", Rows.laid_padlock_parse_kept), ("padlock/parse.kinds", Rows.laid_padlock_parse_kinds)] [.data, .data, .data, .data, .data, .data] true :=
  Program.laidByTextLater.sub seatTie1 ["padlock/lex.marks", "padlock/parse.worksOn", "padlock/parse.signs", "padlock/parse.constants", "padlock/parse.kept", "padlock/parse.kinds"] (by kernel_rfl) (by kernel_rfl)
theorem exprBounds_row_tie : Rows.exprBoundsRow.laidByTextAt .later Tryz.pinned [.data, .data, .data, .data, .data, .data] true :=
  OpenClaim.laidByTextAt_later rfl rfl tie noOwnUnsafe
theorem exprBoundsUpto_row_tie : Rows.exprBoundsUptoRow.laidByTextAt .later Tryz.pinned [.data, .data, .data, .data, .data, .data] true :=
  OpenClaim.laidByTextAt_later rfl rfl tie noOwnUnsafe
end Go.Proofs.YtmfkdpfcpdmkdaaGreatDoor
