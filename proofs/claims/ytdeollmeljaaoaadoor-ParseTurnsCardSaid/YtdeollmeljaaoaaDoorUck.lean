import Derived.Test.YtdeollmeljaaoaaDoorUbk
import Derived.Test.YtdeollmeljaaoaaDoorSgk
/- Names: the document. -/
namespace Go.Proofs.YtdeollmeljaaoaaDoor
open Go.ChangeShapes Go.WideShapes Go.ChangeAt Go.RowKit
set_option linter.unusedVariables false
set_option linter.unusedSimpArgs false
set_option maxHeartbeats 1000000
theorem kpv_at {k : Nat} (hk : k < 30) : (kpL.map fun m => Value.string ⟨m.toArray⟩)[k]? = some (.string ⟨(kpL.getD k []).toArray⟩) := by
  have h : k < kpL.length := hk
  rw [List.getElem?_map, List.getElem?_eq_getElem h, Option.map_some, List.getD, List.getElem?_eq_getElem h]
  rfl
end Go.Proofs.YtdeollmeljaaoaaDoor
