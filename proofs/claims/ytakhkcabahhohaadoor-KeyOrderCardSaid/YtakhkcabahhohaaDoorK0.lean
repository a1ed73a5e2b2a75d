import Derived.Test.YtakhkcabahhohaaDoorW1
import Derived.Test.YtakhkcabahhohaaDoorPn
import Derived.Test.YtakhkcabahhohaaDoorPm
namespace Go.Proofs.YtakhkcabahhohaaDoor
open Go.ChangeShapes Go.WideShapes Go.ChangeAt Go.RowKit
set_option linter.unusedVariables false
set_option linter.unusedSimpArgs false
set_option maxHeartbeats 400000
/-- A number from 0 to m - 1. -/
def pck (n m : Int) : Int := (if n < 0 then -(n + 1) else n) % m
theorem pck_any (n m : Int) (w : World) (wn : Rng n) (h1 : 1 ≤ m) (h2 : m ≤ 4611686018427387904) :
    Calls Tryd.prog 15 #[.int .i64 n, .int .i64 m] w fun e w' => e = .returned (.int .i64 (pck n m)) ∧ w = w' := by
  have hm0 : (m == 0) = false := by simp; omega
  have hm1 : (m == -1) = false := by simp; omega
  by_cases h : n < 0
  · go_enter Tryd.func15, Tryd.ntmps15
    go_wp2
    go_ret
    refine ⟨ri ?_, rfl⟩
    unfold Rng at wn
    show (wrap64 (-wrap64 (n + 1))).tmod m = pck n m
    have e1 : wrap64 (-wrap64 (n + 1)) = -(n + 1) := by unfold wrap64; omega
    rw [e1, Int.tmod_eq_emod_of_nonneg (by omega)]
    simp [pck, h]
  · have h' : 0 ≤ n := by omega
    go_enter Tryd.func15, Tryd.ntmps15
    go_wp2
    go_ret
    refine ⟨ri ?_, rfl⟩
    show n % m = pck n m
    rw [pck, if_neg (by omega)]
theorem pckb_any (n m : Int) (w : World) (wn : Rng n) (h1 : 1 ≤ m) (h2 : m ≤ 4611686018427387904) :
    Calls Tryd.prog 15 #[.int .i64 n, .int .i64 m] w fun e w' => e = .returned (.int .i64 (pck n m)) ∧ Below w.heap.size w w' :=
  (pck_any n m w wn h1 h2).mono fun _ _ ⟨h, g⟩ => ⟨h, by subst g; exact Below.refl _ _⟩
theorem pck_in (n m : Int) (h : 1 ≤ m) : 0 ≤ pck n m ∧ pck n m < m := by
  unfold pck
  exact ⟨Int.emod_nonneg _ (by omega), Int.emod_lt_of_pos _ (by omega)⟩
end Go.Proofs.YtakhkcabahhohaaDoor
