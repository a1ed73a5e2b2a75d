import Derived.Test.YtakhkcabahhohaaDoorCw
namespace Go.Proofs.YtakhkcabahhohaaDoor
open Go.ChangeShapes Go.WideShapes Go.ChangeAt Go.RowKit
set_option linter.unusedVariables false
set_option linter.unusedSimpArgs false
set_option maxHeartbeats 1000000
theorem oc_any (m : Nat) (v : Value) (l : List UInt8) (w : World) (hm : m ≤ 140737488355328) (hr : Rd w 1 m v (bc l)) :
    Calls Tryd.prog 9 #[v] w fun e w' => ∃ v', e = .returned v' ∧ w'.ownsRow w.heap.size 5 1 v' m (bc l) ∧ Below w.heap.size w w' := by
  have HR := Lib.hid hr
  have hml := hr.len
  clear hr
  go_enter Tryd.func9, Tryd.ntmps9
  go_wp2_with (at_builtin; refine apg w m rfl _ _ 22 5 _ 1 1 Tryd.underlying22 Tryd.info5 rfl (by omega) rfl (World.ownsRow_nil _ _ _ _) (Nat.le_refl _) (by omega) (by omega) (bc_one _) HR.out rfl rfl ?_; intro v1 w1 hown1 hb1 _)
  go_ret
  exact ⟨_, rfl, by simpa using hown1, hb1⟩
end Go.Proofs.YtakhkcabahhohaaDoor
