/- The world in which the variables of stage 10 lie: its rows. -/
import Derived.Test.YtbjdgkidnmklkaaGreatDoorEa
namespace Go.Proofs.YtbjdgkidnmklkaaGreatDoor
open Go.ChangeShapes Go.WideShapes Go.ChangeAt Go.RowKit
set_option linter.unusedVariables false
set_option linter.unusedSimpArgs false
set_option maxRecDepth 100000
theorem tabledZ_rows (os : Os) (args : Array Value) : (DataW.laidRun Tryz.prog ((tabledZ os).forCall (fun _ _ => 0) ⟨#[], args, []⟩).memory 8 (LZ.map (·.1))).map (fun x => decide x.2.Nodup && laidRowsB Tryz.prog ((tabledZ os).forCall (fun _ _ => 0) ⟨#[], args, []⟩).memory x.2) = some true := by kernel_rfl
theorem tabledZ_laidZ (os : Os) (args : Array Value) : laidZ ((tabledZ os).forCall (fun _ _ => 0) ⟨#[], args, []⟩).memory :=
  laidMet_of_run' 8 (tabledZ_run os args) (tabledZ_rows os args)
end Go.Proofs.YtbjdgkidnmklkaaGreatDoor
