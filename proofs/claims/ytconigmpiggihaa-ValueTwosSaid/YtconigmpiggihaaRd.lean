import Derived.Deep.RegionWith
import Derived.Test.YtconigmpiggihaaR4
import Derived.Test.YtconigmpiggihaaPo
import Derived.Test.YtconigmpiggihaaPa
namespace Go.Proofs.Ytconigmpiggihaa
open Go.ChangeShapes Go.WideShapes Go.ChangeAt Go.RowKit
set_option linter.unusedVariables false
set_option linter.unusedSimpArgs false
set_option maxHeartbeats 1000000
set_option maxRecDepth 100000
theorem yesx_any (b : Bool) (w : World) :
    Calls Try.prog 35 #[.bool b] w fun e w' => e = .returned (.agg #[.int .i64 1, .int .i64 (if b then 1 else 0), .string ⟨#[]⟩]) ∧ w' = w.alloc (.cells #[.int .i64 1, .int .i64 (if b then 1 else 0), .string ⟨#[]⟩] 23) := by
  cases b
  all_goals (
    go_enter Try.func35, Try.ntmps35
    go_wp2
    go_returns
    exact ⟨rfl, rfl⟩)
theorem yesb_no (w : World) :
    Calls Try.prog 35 #[.bool false] w fun e w' => e = .returned (.agg #[.int .i64 1, .int .i64 0, .string ⟨#[]⟩]) ∧ Below w.heap.size w w' :=
  (yesx_any false w).mono fun _ _ ⟨h, g⟩ => ⟨h, by subst g; exact (Below.refl _ _).alloc (Nat.le_refl _) _⟩
theorem yesb_yes (w : World) :
    Calls Try.prog 35 #[.bool true] w fun e w' => e = .returned (.agg #[.int .i64 1, .int .i64 1, .string ⟨#[]⟩]) ∧ Below w.heap.size w w' :=
  (yesx_any true w).mono fun _ _ ⟨h, g⟩ => ⟨h, by subst g; exact (Below.refl _ _).alloc (Nat.le_refl _) _⟩
theorem slot_drew {w w' : World} {B : Nat} {x y z : Value} (h : Slot w B x y z) (hb : Below w.drew.heap.size w.drew w') : Slot w' B x y z := Slot.below (w := w.drew) h hb
theorem into_drew {W w0 w1 : World} (h : Below W.heap.size W w0) (hb : Below w0.drew.heap.size w0.drew w1) : Below W.heap.size W w1 := into h.drew hb
theorem yesx_no (w : World) :
    Calls Try.prog 35 #[.bool false] w fun e w' => e = .returned (.agg #[.int .i64 1, .int .i64 0, .string ⟨#[]⟩]) ∧ w' = w.alloc (.cells #[.int .i64 1, .int .i64 0, .string ⟨#[]⟩] 23) := yesx_any false w
theorem yesx_yes (w : World) :
    Calls Try.prog 35 #[.bool true] w fun e w' => e = .returned (.agg #[.int .i64 1, .int .i64 1, .string ⟨#[]⟩]) ∧ w' = w.alloc (.cells #[.int .i64 1, .int .i64 1, .string ⟨#[]⟩] 23) := yesx_any true w
end Go.Proofs.Ytconigmpiggihaa
