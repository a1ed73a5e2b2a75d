/- TopRefused: the row's closed facts, one by one (the kernel's memory). -/
import Derived.Test.YtbjdgkidnmklkaaGreatDoorEh
namespace Go.Proofs.YtbjdgkidnmklkaaGreatDoor.lTopRefused
open Go.ChangeShapes Go.WideShapes Go.ChangeAt Go.RowKit Go.Joins
set_option linter.unusedVariables false
set_option linter.unusedSimpArgs false
set_option maxHeartbeats 2000000
set_option maxRecDepth 100000
theorem j1 : (Rows.topRefusedRow.inPlace == Tryz.pinned.checked.prog.inPlace 3) = true := by kernel_rfl
theorem j2 : (Rows.topRefusedRow.unfollowed == Tryz.pinned.checked.prog.unfollowed 3) = true := by kernel_rfl
theorem j3 : (Rows.topRefusedRow.recurses == Tryz.pinned.checked.prog.recurses 3) = true := by kernel_rfl
theorem j4 : (Rows.topRefusedRow.named == Tryz.pinned.checked.prog.varsNamed 3) = true := by kernel_rfl
end Go.Proofs.YtbjdgkidnmklkaaGreatDoor.lTopRefused
