/- Locks: the program's two tables, read. -/
import Derived.Test.YtpddlckkncmlmaaDoorJa
import Derived.Test.YtpddlckkncmlmaaDoorBg
import Derived.Deep.LoopGhost
namespace Go.Proofs.YtpddlckkncmlmaaDoor
open Go.ChangeShapes Go.WideShapes Go.ChangeAt Go.RowKit
set_option linter.unusedVariables false
set_option linter.unusedSimpArgs false
set_option maxHeartbeats 1000000
theorem rt2b {a a' : Bool} {b b' : Int} (h : a = a') (g : b = b') : Ending.returned (.tuple #[.bool a, .int .i64 b]) = .returned (.tuple #[.bool a', .int .i64 b']) := by rw [h, g]
theorem rt2i {a a' : Int} {b b' : Int} (h : a = a') (g : b = b') : Ending.returned (.tuple #[.int .i64 a, .int .i64 b]) = .returned (.tuple #[.int .i64 a', .int .i64 b']) := by rw [h, g]
/-- The tables' cells. -/
def Tog (w : World) : Prop := ∀ i, i < 36 → w.cell? ⟨1, i, none⟩ = some (.bool (togL.getD i false))
def Jnd (w : World) : Prop := ∀ i, i < 36 → w.cell? ⟨0, i, none⟩ = some (.int .i64 (joiL.getD i 0))
theorem Tog.below {w w' : World} (h : Tog w) (hb : Below w.heap.size w w') : Tog w' := fun i hi => (hb.cell (lt_cell (h i hi))).trans (h i hi)
theorem Jnd.below {w w' : World} (h : Jnd w) (hb : Below w.heap.size w w') : Jnd w' := fun i hi => (hb.cell (lt_cell (h i hi))).trans (h i hi)
theorem Tog.at {w : World} (h : Tog w) {a b : Int} (ha : 1 ≤ a ∧ a ≤ 5) (hb : 1 ≤ b ∧ b ≤ 5) : w.cell? ⟨1, a.toNat * 6 + b.toNat, none⟩ = some (.bool (tog a b)) := h _ (by omega)
theorem Jnd.at {w : World} (h : Jnd w) {a b : Int} (ha : 0 ≤ a ∧ a ≤ 5) (hb : 1 ≤ b ∧ b ≤ 5) : w.cell? ⟨0, a.toNat * 6 + b.toNat, none⟩ = some (.int .i64 (joi a b)) := h _ (by omega)
theorem isMode_any (w : World) (m : Int) : Calls Tryd.prog 54 #[.int .i64 m] w fun e w' => e = .returned (.bool (isM m)) ∧ w = w' := by
  by_cases h : 1 ≤ m
  all_goals (
    go_enter Tryd.func54, Tryd.ntmps54
    go_wp2
    go_ret
    refine ⟨rb ?_, rfl⟩
    simp [isM, h]
    try omega)
end Go.Proofs.YtpddlckkncmlmaaDoor
