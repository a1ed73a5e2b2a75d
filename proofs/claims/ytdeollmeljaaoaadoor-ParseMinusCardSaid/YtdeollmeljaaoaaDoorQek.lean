import Derived.Test.YtdeollmeljaaoaaDoorQck
import Derived.Test.YtdeollmeljaaoaaDoorQbk
/- Words and marks as tokens; columns shown: the program. -/
namespace Go.Proofs.YtdeollmeljaaoaaDoor
open Go.ChangeShapes Go.WideShapes Go.ChangeAt Go.RowKit
set_option linter.unusedVariables false
set_option linter.unusedSimpArgs false
set_option maxHeartbeats 2000000
def nby : ByteArray := ⟨#[]⟩
theorem st_at {l : List ByteArray} {k : Nat} (h : k < l.length) : (l.map Value.string)[k]? = some (.string (l.getD k nby)) := by
  rw [List.getElem?_map, List.getElem?_eq_getElem h, Option.map_some, List.getD, List.getElem?_eq_getElem h]
  rfl
theorem clone_any (w : World) (s : ByteArray) (hs : s.size ≤ 281474976710656) : Calls Tryd.prog 61 #[.string s] w fun e w' => e = .returned (.string s) ∧ Below w.heap.size w w' := by
  go_enter Tryd.func61, Tryd.ntmps61
  go_wp2_with fail
  refine (Tryd.stringslite_Clone s w hs).mono ?_
  rintro e w1 ⟨rfl, hb⟩
  go_wp2_with fail
  go_ret
  exact ⟨rfl, hb⟩
end Go.Proofs.YtdeollmeljaaoaaDoor
