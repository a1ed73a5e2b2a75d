import Derived.Test.YtdeollmeljaaoaaDoorQgk
import Derived.Deep.RegionHeld3
import Derived.Deep.RegionWith
import Derived.Deep.RegionLaw
/- A Create shown as tokens: the region that draws its order. -/
namespace Go.Proofs.YtdeollmeljaaoaaDoor
open Go.ChangeShapes Go.WideShapes Go.ChangeAt Go.RowKit
set_option linter.unusedVariables false
set_option linter.unusedSimpArgs false
set_option maxHeartbeats 4000000
set_option maxRecDepth 1000000
abbrev sCREATE : ByteArray := ⟨#[67, 82, 69, 65, 84, 69]⟩
abbrev sTABLE : ByteArray := ⟨#[84, 65, 66, 76, 69]⟩
abbrev sOpen : ByteArray := ⟨#[40]⟩
abbrev sClose : ByteArray := ⟨#[41]⟩
/-- A region by its number. -/
def regionOf (n : Nat) : Code → Option Code
  | .region i o d => if i = n then some (.region i o d) else none
  | .seq a b => (regionOf n a).or (regionOf n b)
  | .block _ c => regionOf n c
  | .loop c => regionOf n c
  | .scope c => regionOf n c
  | .cond _ a b => (regionOf n a).or (regionOf n b)
  | _ => none
/-- What is asked at a normal end alone. -/
def NQ (Q : Exit → Act → World → Prop) : Exit → Act → World → Prop
  | .normal, a, w => Q .normal a w
  | _, _, _ => False
theorem nq_to {Q : Exit → Act → World → Prop} : ∀ e a w, NQ Q e a w → Q e a w := by
  intro e a w h
  cases e <;> first | exact h | exact h.elim
theorem cell_al {W : World} {a : Addr} {v : Value} (o : Obj) (h : W.cell? a = some v) : (W.alloc o).cell? a = some v := (World.cell?_of_block (Below.heap_alloc W _ _ (lt_cell h))).trans h
theorem cell_dr {W : World} {a : Addr} {v : Value} (h : W.cell? a = some v) : W.drew.cell? a = some v := by simpa using h
end Go.Proofs.YtdeollmeljaaoaaDoor
/- A Create that makes columns, and columns alone: what they lack, by the program. -/
namespace Go.Proofs.YtdeollmeljaaoaaDoor
open Go.ChangeShapes Go.WideShapes Go.ChangeAt Go.RowKit
set_option linter.unusedVariables false
set_option linter.unusedSimpArgs false
set_option maxHeartbeats 4000000
set_option maxRecDepth 1000000
end Go.Proofs.YtdeollmeljaaoaaDoor
