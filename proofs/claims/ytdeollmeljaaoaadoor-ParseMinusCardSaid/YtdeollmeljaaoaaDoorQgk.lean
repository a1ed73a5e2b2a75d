import Derived.Test.YtdeollmeljaaoaaDoorQek
import Derived.Test.YtdeollmeljaaoaaDoorQzk
import Derived.Deep.RegionWith
import Derived.Deep.RegionHeld3
/- Columns shown as tokens: the program. -/
namespace Go.Proofs.YtdeollmeljaaoaaDoor
open Go.ChangeShapes Go.WideShapes Go.ChangeAt Go.RowKit
set_option linter.unusedVariables false
set_option linter.unusedSimpArgs false
set_option maxHeartbeats 2000000
/-- What a list of words and marks is shown as, made anew. -/
def ToksIs (L : List Tk) (w : World) (e : Ending) (w' : World) : Prop := ∃ v', e = .returned v' ∧ w'.ownsRow w.heap.size 45 3 v' L.length (tkc L) ∧ Below w.heap.size w w'
theorem ToksIs.from {L : List Tk} {w w1 : World} {e : Ending} {w' : World} (h : ToksIs L w1 e w') (hb : Below w.heap.size w w1) : ToksIs L w e w' := by
  obtain ⟨v, h1, h2, h3⟩ := h
  exact ⟨v, h1, own_mono h2 hb.size, into hb h3⟩
end Go.Proofs.YtdeollmeljaaoaaDoor
