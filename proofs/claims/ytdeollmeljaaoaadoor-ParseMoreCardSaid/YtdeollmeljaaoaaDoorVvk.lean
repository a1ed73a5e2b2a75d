import Derived.Test.YtdeollmeljaaoaaDoorUek
import Derived.Test.YtdeollmeljaaoaaDoorSak
import Derived.StillTailTactics
import Derived.Deep.RegionWith
set_option linter.unusedVariables false
set_option linter.unusedSimpArgs false
set_option maxHeartbeats 1000000
set_option maxRecDepth 100000
open Go.ChangeAt Go.ChangeShapes Go.RowKit Go.WideShapes
namespace Go.Proofs.YtdeollmeljaaoaaDoor.vv
theorem rt {k n e : Int} {t : ByteArray} {b : V × Int} (h : b = (⟨k, n, t⟩, e)) :
  Ending.returned (.tuple #[.agg #[.int .i64 k, .int .i64 n, .string t], .int .i64 e]) = .returned (.tuple #[.agg #[.int .i64 b.1.k, .int .i64 b.1.n, .string b.1.t], .int .i64 b.2]) := by rw [h]
def Slot (w : World) (B : Nat) (x y z : Value) : Prop :=
 B < w.heap.size ∧ w.cell? ⟨B, 0, none⟩ = some x ∧ w.cell? ⟨B, 1, none⟩ = some y ∧ w.cell? ⟨B, 2, none⟩ = some z ∧ w.frozen? ⟨B, 0, none⟩ = false ∧ w.frozen? ⟨B, 1, none⟩ = false ∧ w.frozen? ⟨B, 2, none⟩ = false
theorem Slot.below {w w' : World} {B : Nat} {x y z : Value} (h : Slot w B x y z) (hb : Below w.heap.size w w') : Slot w' B x y z := by
 obtain ⟨h0, h1, h2, h3, h4, h5, h6⟩ := h
 exact ⟨Nat.lt_of_lt_of_le h0 hb.size, (hb.cell h0).trans h1, (hb.cell h0).trans h2, (hb.cell h0).trans h3, (hb.frozen h0).trans h4, (hb.frozen h0).trans h5, (hb.frozen h0).trans h6⟩
theorem r2 {a : Int} {x : Bool} {p : Int × Bool} (h : p = (a, x)) : Ending.returned (.tuple #[.int .i64 a, .bool x]) = .returned (.tuple #[.int .i64 p.1, .bool p.2]) := by rw [h]
end Go.Proofs.YtdeollmeljaaoaaDoor.vv
