import Derived.Test.YtnheepkmaibofaaDoorUek
import Derived.Test.YtnheepkmaibofaaDoorSak
import Derived.StillTailTactics
import Derived.Deep.RegionWith
/- value.One and value.Two: the program (stage 1's texts). -/
namespace Go.Proofs.YtnheepkmaibofaaDoor.vv
open Go.ChangeShapes Go.WideShapes Go.ChangeAt Go.RowKit
set_option linter.unusedVariables false
set_option linter.unusedSimpArgs false
set_option maxHeartbeats 400000
set_option maxRecDepth 100000
end Go.Proofs.YtnheepkmaibofaaDoor.vv
namespace Go.Proofs.YtnheepkmaibofaaDoor.vv
open Go.ChangeShapes Go.WideShapes Go.ChangeAt Go.RowKit
set_option linter.unusedVariables false
set_option linter.unusedSimpArgs false
set_option maxHeartbeats 400000
set_option maxRecDepth 100000
end Go.Proofs.YtnheepkmaibofaaDoor.vv
namespace Go.Proofs.YtnheepkmaibofaaDoor.vv
open Go.ChangeShapes Go.WideShapes Go.ChangeAt Go.RowKit
set_option linter.unusedVariables false
set_option linter.unusedSimpArgs false
set_option maxHeartbeats 400000
set_option maxRecDepth 100000
theorem rt {k n e : Int} {t : ByteArray} {b : V × Int} (h : b = (⟨k, n, t⟩, e)) :
    Ending.returned (.tuple #[.agg #[.int .i64 k, .int .i64 n, .string t], .int .i64 e]) = .returned (.tuple #[.agg #[.int .i64 b.1.k, .int .i64 b.1.n, .string b.1.t], .int .i64 b.2]) := by rw [h]
/-- Behind a call that was made when a box and a result of three cells had been laid. -/
theorem behind2 {w w1 : World} {o : Obj} {x y z : Value} {t : TypeId} (hb : Below ((w.alloc o).alloc (.cells #[x, y, z] t)).heap.size ((w.alloc o).alloc (.cells #[x, y, z] t)) w1) :
    w.heap.size < w1.heap.size ∧ w.heap.size + 1 < w1.heap.size ∧ Below w.heap.size w w1 ∧ w1.cell? ⟨w.heap.size + 1, 0, none⟩ = some x ∧ w1.cell? ⟨w.heap.size + 1, 1, none⟩ = some y ∧ w1.cell? ⟨w.heap.size + 1, 2, none⟩ = some z ∧
    w1.frozen? ⟨w.heap.size + 1, 0, none⟩ = false ∧ w1.frozen? ⟨w.heap.size + 1, 1, none⟩ = false ∧ w1.frozen? ⟨w.heap.size + 1, 2, none⟩ = false := by
  have hz := hb.size
  simp only [World.size_alloc] at hz
  exact ⟨by omega, by omega, into (by go_grown) hb, has3 (new1 _ _ _) hb⟩
/-- Block B holds three cells that may be written. -/
def Slot (w : World) (B : Nat) (x y z : Value) : Prop :=
  B < w.heap.size ∧ w.cell? ⟨B, 0, none⟩ = some x ∧ w.cell? ⟨B, 1, none⟩ = some y ∧ w.cell? ⟨B, 2, none⟩ = some z ∧ w.frozen? ⟨B, 0, none⟩ = false ∧ w.frozen? ⟨B, 1, none⟩ = false ∧ w.frozen? ⟨B, 2, none⟩ = false
theorem Slot.below {w w' : World} {B : Nat} {x y z : Value} (h : Slot w B x y z) (hb : Below w.heap.size w w') : Slot w' B x y z := by
  obtain ⟨h0, h1, h2, h3, h4, h5, h6⟩ := h
  exact ⟨Nat.lt_of_lt_of_le h0 hb.size, (hb.cell h0).trans h1, (hb.cell h0).trans h2, (hb.cell h0).trans h3, (hb.frozen h0).trans h4, (hb.frozen h0).trans h5, (hb.frozen h0).trans h6⟩
theorem Slot.alloc {w : World} {B : Nat} {x y z : Value} (h : Slot w B x y z) (o : Obj) : Slot (w.alloc o) B x y z := h.below ((Below.refl _ _).alloc (Nat.le_refl _) _)
/-- Behind a call that was made when a value of three cells had just been laid. -/
theorem behind1 {w w1 : World} {x y z : Value} {t : TypeId} (hb : Below (w.alloc (.cells #[x, y, z] t)).heap.size (w.alloc (.cells #[x, y, z] t)) w1) :
    w.heap.size < w1.heap.size ∧ Below w.heap.size w w1 ∧ Slot w1 w.heap.size x y z := by
  have hz := hb.size
  simp only [World.size_alloc] at hz
  exact ⟨by omega, into (by go_grown) hb, by omega, has3 (new0 _ _) hb⟩
theorem old1 (w : World) (o p : Obj) (i : Nat) (h : i < w.heap.size + 1) : ((w.alloc o).alloc p).heap[i]? = (w.alloc o).heap[i]? := Below.heap_alloc _ _ _ (by simpa using h)
/-- .. when two values of three cells had been laid. -/
theorem behind1b {w w1 : World} {x y z x' y' z' : Value} {t t' : TypeId} (hb : Below ((w.alloc (.cells #[x, y, z] t)).alloc (.cells #[x', y', z'] t')).heap.size ((w.alloc (.cells #[x, y, z] t)).alloc (.cells #[x', y', z'] t')) w1) :
    w.heap.size < w1.heap.size ∧ Below w.heap.size w w1 ∧ Slot w1 w.heap.size x y z ∧ Slot w1 (w.heap.size + 1) x' y' z' := by
  have hz := hb.size
  simp only [World.size_alloc] at hz
  refine ⟨by omega, into (by go_grown) hb, ⟨by omega, has3 (t := t) ?_ hb⟩, ⟨by omega, has3 (new1 _ _ _) hb⟩⟩
  rw [old1 _ _ _ _ (by omega), new0]
/-- .. when three values of three cells had been laid. -/
theorem behind1c {w w1 : World} {x y z x' y' z' x'' y'' z'' : Value} {t t' t'' : TypeId}
    (hb : Below (((w.alloc (.cells #[x, y, z] t)).alloc (.cells #[x', y', z'] t')).alloc (.cells #[x'', y'', z''] t'')).heap.size (((w.alloc (.cells #[x, y, z] t)).alloc (.cells #[x', y', z'] t')).alloc (.cells #[x'', y'', z''] t'')) w1) :
    w.heap.size < w1.heap.size ∧ Below w.heap.size w w1 ∧ Slot w1 w.heap.size x y z ∧ Slot w1 (w.heap.size + 1) x' y' z' ∧ Slot w1 (w.heap.size + 1 + 1) x'' y'' z'' := by
  have hz := hb.size
  simp only [World.size_alloc] at hz
  refine ⟨by omega, into (by go_grown) hb, ⟨by omega, has3 (t := t) ?_ hb⟩, ⟨by omega, has3 (t := t') ?_ hb⟩, ⟨by omega, has3 (new2 _ _ _ _) hb⟩⟩
  · rw [old1 _ _ _ _ (by simp; omega), old1 _ _ _ _ (by omega), new0]
  · rw [old1 _ _ _ _ (by simp), new1]
theorem belowN {B : Nat} {a w : World} (h : Below B a w) (n : Nat) : Below B a (w.drewN n) := ⟨h.os, h.tape, h.output, h.size, h.block⟩
end Go.Proofs.YtnheepkmaibofaaDoor.vv
namespace Go.Proofs.YtnheepkmaibofaaDoor.vv
open Go.ChangeShapes Go.WideShapes Go.ChangeAt Go.RowKit
set_option linter.unusedVariables false
set_option linter.unusedSimpArgs false
set_option maxHeartbeats 400000
set_option maxRecDepth 100000
end Go.Proofs.YtnheepkmaibofaaDoor.vv
namespace Go.Proofs.YtnheepkmaibofaaDoor.vv
open Go.ChangeShapes Go.WideShapes Go.ChangeAt Go.RowKit
set_option linter.unusedVariables false
set_option linter.unusedSimpArgs false
set_option maxHeartbeats 400000
set_option maxRecDepth 100000
theorem r2 {a : Int} {x : Bool} {p : Int × Bool} (h : p = (a, x)) : Ending.returned (.tuple #[.int .i64 a, .bool x]) = .returned (.tuple #[.int .i64 p.1, .bool p.2]) := by rw [h]
theorem below_drawn {w : World} (n : Nat) : Below w.heap.size w (w.drewN n) := ⟨rfl, rfl, rfl, Nat.le_refl _, fun _ _ => rfl⟩
end Go.Proofs.YtnheepkmaibofaaDoor.vv
namespace Go.Proofs.YtnheepkmaibofaaDoor.vv
open Go.ChangeShapes Go.WideShapes Go.ChangeAt Go.RowKit
set_option linter.unusedVariables false
set_option linter.unusedSimpArgs false
set_option maxHeartbeats 1000000
theorem new3 (w : World) (o p q r : Obj) : ((((w.alloc o).alloc p).alloc q).alloc r).heap[w.heap.size + 2]? = some q := by
  rw [← new2 w o p q]
  exact Below.heap_alloc _ _ _ (by simp)
theorem ri2 {a b c d : Int} (h : a = b) (g : c = d) : Ending.returned (.tuple #[.int .i64 a, .int .i64 c]) = .returned (.tuple #[.int .i64 b, .int .i64 d]) := by rw [h, g]
end Go.Proofs.YtnheepkmaibofaaDoor.vv
namespace Go.Proofs.YtnheepkmaibofaaDoor.vv
open Go.ChangeShapes Go.WideShapes Go.ChangeAt Go.RowKit
set_option linter.unusedVariables false
set_option linter.unusedSimpArgs false
set_option maxHeartbeats 400000
set_option maxRecDepth 100000
end Go.Proofs.YtnheepkmaibofaaDoor.vv
