/- TopRefused: the card's closed facts, one by one (the kernel's memory). -/
import Derived.Test.YtbjdgkidnmklkaaGreatDoorEj
import Derived.Test.YtbjdgkidnmklkaaGreatDoorCards
namespace Go.Proofs.YtbjdgkidnmklkaaGreatDoor.lTopRefused
open Go.ChangeShapes Go.WideShapes Go.ChangeAt Go.RowKit Go.Joins
set_option linter.unusedVariables false
set_option linter.unusedSimpArgs false
set_option maxHeartbeats 2000000
set_option maxRecDepth 100000
theorem k1 : true = Tryz.pinned.checked.prog.looks [] := by kernel_rfl
theorem k2 : false = Rows.topRefusedRow.goesBy Tryz.pinned.checked.prog := by kernel_rfl
theorem k3 : Tryz.pinned.checked.prog.mainIs = some (Rows.topRefusedCard.stood.harness.1, Rows.topRefusedCard.stood.harness.2.toList) := by kernel_rfl
theorem k4 : Tryz.pinned.checked.prog.wantsStandIn 3 = false := by kernel_rfl
theorem k5 : Rows.topRefusedRow.wfByText (OpenSpec.ofChange Rows.topRefusedSpec) = true := by kernel_rfl
theorem k6 : Tryz.prog.funcNamed "padlock/padlocktop.TopRefused" = some 3 := by kernel_rfl
end Go.Proofs.YtbjdgkidnmklkaaGreatDoor.lTopRefused
