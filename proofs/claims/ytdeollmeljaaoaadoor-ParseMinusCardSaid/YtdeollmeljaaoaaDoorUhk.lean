import Derived.Test.YtdeollmeljaaoaaDoorSck
import Derived.Test.YtdeollmeljaaoaaDoorUfk
import Derived.Test.YtdeollmeljaaoaaDoorUbk
import Derived.Test.YtdeollmeljaaoaaDoorUdk
/- Ops: what they lack, by the program. -/
namespace Go.Proofs.YtdeollmeljaaoaaDoor
open Go.ChangeShapes Go.WideShapes Go.ChangeAt Go.RowKit
set_option linter.unusedVariables false
set_option linter.unusedSimpArgs false
set_option maxHeartbeats 2000000
theorem len_o {w : World} {n : Nat} {v : Value} {l : List Oq} (h : Rd w 5 n v (ocs l)) : n = l.length := by have := h.1; rw [ocs_length] at this; omega
end Go.Proofs.YtdeollmeljaaoaaDoor
