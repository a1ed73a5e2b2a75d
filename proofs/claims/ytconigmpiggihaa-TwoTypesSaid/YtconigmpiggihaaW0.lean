/- Facts on blocks behind calls: two more. -/
import Derived.Test.YtconigmpiggihaaW5
namespace Go.Proofs.Ytconigmpiggihaa
open Go.ChangeShapes Go.WideShapes Go.ChangeAt Go.RowKit
set_option linter.unusedVariables false
set_option linter.unusedSimpArgs false
/-- Behind a call that was made when a value of three cells and one block more had been laid. -/
theorem behind1x {w w1 : World} {x y z : Value} {t : TypeId} {o : Obj} (hb : Below ((w.alloc (.cells #[x, y, z] t)).alloc o).heap.size ((w.alloc (.cells #[x, y, z] t)).alloc o) w1) :
    w.heap.size < w1.heap.size ∧ Below w.heap.size w w1 ∧ Slot w1 w.heap.size x y z := by
  have hz := hb.size
  simp only [World.size_alloc] at hz
  have h1 : Below w.heap.size w ((w.alloc (.cells #[x, y, z] t)).alloc o) := ((Below.refl _ _).alloc (Nat.le_refl _) _).alloc (by simp) _
  refine ⟨by omega, into h1 hb, ⟨by omega, has3 (t := t) ?_ hb⟩⟩
  rw [old1 _ _ _ _ (by omega), new0]
/-- .. when a value of three cells had been laid, and then one cell of an older block written. -/
theorem behind1s {w w1 : World} {x y z u : Value} {t : TypeId} {p : Addr} (hp : p.block < w.heap.size) (hb : Below ((w.alloc (.cells #[x, y, z] t)).setCell p u).heap.size ((w.alloc (.cells #[x, y, z] t)).setCell p u) w1) :
    w.heap.size < w1.heap.size ∧ Slot w1 w.heap.size x y z := by
  have hz := hb.size
  simp only [World.size_alloc, World.size_setCell] at hz
  refine ⟨by omega, ⟨by omega, has3 (t := t) ?_ hb⟩⟩
  rw [Below.heap_setCell _ _ _ _ (by omega), new0]
end Go.Proofs.Ytconigmpiggihaa
