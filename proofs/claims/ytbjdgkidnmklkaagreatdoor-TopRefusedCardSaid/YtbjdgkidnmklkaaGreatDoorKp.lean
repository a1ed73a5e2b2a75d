/- A raw number, picked: from 0 to so many. -/
import Derived.Test.YtbjdgkidnmklkaaGreatDoorB1
namespace Go.Proofs.YtbjdgkidnmklkaaGreatDoor
open Go.ChangeShapes Go.WideShapes Go.ChangeAt Go.RowKit
set_option linter.unusedVariables false
set_option linter.unusedSimpArgs false
set_option maxHeartbeats 400000
/-- A number from 0 to m - 1. -/
def pck (n m : Int) : Int := (if n < 0 then -(n + 1) else n) % m
def Rn (n : Int) : Prop := -9223372036854775808 ≤ n ∧ n ≤ 9223372036854775807
theorem rn_of {n : Int} (h : (Lit.int .i64 n).wf = true) : Rn n := by
  simp [Lit.wf, IntKind.min, IntKind.max, IntKind.signed, IntKind.bits] at h
  exact ⟨by omega, by omega⟩
theorem pck_any (n m : Int) (w : World) (wn : Rn n) (h1 : 1 ≤ m) (h2 : m ≤ 4611686018427387904) :
    Calls Tryz.prog 6 #[.int .i64 n, .int .i64 m] w fun e w' => e = .returned (.int .i64 (pck n m)) ∧ w = w' := by
  have hm0 : (m == 0) = false := by simp; omega
  have hm1 : (m == -1) = false := by simp; omega
  by_cases h : n < 0
  · go_enter Tryz.func6, Tryz.ntmps6
    go_wp2
    go_ret
    refine ⟨ri ?_, rfl⟩
    unfold Rn at wn
    show (wrap64 (-wrap64 (n + 1))).tmod m = pck n m
    have e1 : wrap64 (-wrap64 (n + 1)) = -(n + 1) := by unfold wrap64; omega
    rw [e1, Int.tmod_eq_emod_of_nonneg (by omega)]
    simp [pck, h]
  · have h' : 0 ≤ n := by omega
    go_enter Tryz.func6, Tryz.ntmps6
    go_wp2
    go_ret
    refine ⟨ri ?_, rfl⟩
    show n % m = pck n m
    rw [pck, if_neg (by omega)]
theorem pck_in (n m : Int) (h : 1 ≤ m) : 0 ≤ pck n m ∧ pck n m < m := by
  unfold pck
  exact ⟨Int.emod_nonneg _ (by omega), Int.emod_lt_of_pos _ (by omega)⟩
end Go.Proofs.YtbjdgkidnmklkaaGreatDoor
