import Derived.Test.YtakhkcabahhohaaCw
namespace Go.Proofs.Ytakhkcabahhohaa
open Go.ChangeShapes Go.WideShapes Go.ChangeAt Go.RowKit
set_option linter.unusedVariables false
set_option linter.unusedSimpArgs false
set_option maxHeartbeats 1000000
theorem vs_any (m : Nat) (v : Value) (l : List V) (w : World) (hm : m * 32 ≤ 140737488355328) (hr : Rd w 3 m v (vc l)) :
    Calls Try.prog 6 #[v] w fun e w' => ∃ v', e = .returned v' ∧ w'.ownsRow w.heap.size 33 3 v' m (vc l) ∧ Below w.heap.size w w' := by
  have HR := Lib.hid hr
  have hml := hr.len
  clear hr
  go_enter Try.func6, Try.ntmps6
  go_wp2_with (at_builtin; refine apg w m rfl _ _ 22 33 _ 3 32 Try.underlying22 Try.info33 rfl (by omega) rfl (World.ownsRow_nil _ _ _ _) (Nat.le_refl _) (by omega) (by omega) (vc_one _) HR.out rfl rfl ?_; intro v1 w1 hown1 hb1 _)
  go_ret
  exact ⟨_, rfl, by simpa using hown1, hb1⟩
end Go.Proofs.Ytakhkcabahhohaa
