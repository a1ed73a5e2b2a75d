import Derived.Test.YtakhkcabahhohaaDoorW1
import Derived.StillTailTactics
import Derived.Deep.RegionWith
namespace Go.Proofs.YtakhkcabahhohaaDoor
open Go.ChangeShapes Go.WideShapes Go.ChangeAt Go.RowKit
set_option linter.unusedVariables false
set_option linter.unusedSimpArgs false
set_option maxHeartbeats 400000
theorem cmpi_any (a b : Int) (w : World) :
    Calls Tryd.prog 31 #[.int .i64 a, .int .i64 b] w fun e w' => e = .returned (.int .i64 (sgn a b)) ∧ w' = w := by
  go_enter Tryd.func31, Tryd.ntmps31
  go_wp2
  all_goals (go_ret; refine ⟨ri ?_, rfl⟩; simp_all [sgn]; try omega)
theorem cmps_any (a b : ByteArray) (w : World) :
    Calls Tryd.prog 32 #[.string a, .string b] w fun e w' => e = .returned (.int .i64 (sgs a b)) ∧ w' = w := by
  go_enter Tryd.func32, Tryd.ntmps32
  go_wp2
  all_goals (go_ret; refine ⟨ri ?_, rfl⟩; simp_all [sgs]; try omega)
theorem or3_any (g : Nat) (a b c : Int) (w : World) (h0 : w.cell? ⟨g, 0, none⟩ = some (.int .i64 a)) (h1 : w.cell? ⟨g, 1, none⟩ = some (.int .i64 b)) (h2 : w.cell? ⟨g, 2, none⟩ = some (.int .i64 c)) :
    Calls Tryd.prog 30 #[.slice (some ⟨g, 0, none⟩) 3 3] w fun e w' => e = .returned (.int .i64 (or3 a b c)) ∧ w' = w := by
  by_cases ha : a = 0
  · by_cases hb : b = 0
    · by_cases hd : c = 0
      all_goals (
        go_enter Tryd.func30, Tryd.ntmps30
        go_wp2
        go_rounds 4
        go_ret
        exact ⟨ri (by simp_all [or3]), rfl⟩)
    · go_enter Tryd.func30, Tryd.ntmps30
      go_wp2
      go_rounds 4
      go_ret
      exact ⟨ri (by simp_all [or3]), rfl⟩
  · go_enter Tryd.func30, Tryd.ntmps30
    go_wp2
    go_rounds 4
    go_ret
    exact ⟨ri (by simp_all [or3]), rfl⟩
theorem ord_any (k n k' n' : Int) (s s' : ByteArray) (w : World) :
    Calls Tryd.prog 23 #[.agg #[.int .i64 k, .int .i64 n, .string s], .agg #[.int .i64 k', .int .i64 n', .string s']] w fun e w' => e = .returned (.int .i64 (ord ⟨k, n, s⟩ ⟨k', n', s'⟩)) ∧ Below w.heap.size w w' := by
  go_enter Tryd.func23, Tryd.ntmps23
  go_wp2_with fail
  generalize hW : (w.alloc (.cells #[.int .i64 k, .int .i64 n, .string s] 35)).alloc (.cells #[.int .i64 k', .int .i64 n', .string s'] 35) = W
  have c0 : W.cell? ⟨w.heap.size, 0, none⟩ = some (.int .i64 k) := by subst hW; go_simp
  have c1 : W.cell? ⟨w.heap.size, 1, none⟩ = some (.int .i64 n) := by subst hW; go_simp
  have c2 : W.cell? ⟨w.heap.size, 2, none⟩ = some (.string s) := by subst hW; go_simp
  have d0 : W.cell? ⟨w.heap.size + 1, 0, none⟩ = some (.int .i64 k') := by subst hW; go_simp
  have d1 : W.cell? ⟨w.heap.size + 1, 1, none⟩ = some (.int .i64 n') := by subst hW; go_simp
  have d2 : W.cell? ⟨w.heap.size + 1, 2, none⟩ = some (.string s') := by subst hW; go_simp
  have hB : Below w.heap.size w W := by subst hW; go_grown
  clear hW
  refine wp_region_still_tail 15 (by kernel_rfl) (by kernel_rfl) ?_
  simp only [List.take_succ_cons, List.take_zero, List.drop_succ_cons, List.drop_zero]
  change wpStill _ _ W.drew _ _ _
  still_step
  still_step
  still_step
  still_step
  still_call (cmpi_any _ _ _)
  still_step
  still_step
  still_step
  still_step
  still_call (cmpi_any _ _ _)
  still_step
  still_step
  still_step
  still_step
  still_call (cmps_any _ _ _)
  refine wpStill_nil ?_
  change wpList _ _ _ _ _ W.drew
  have hB1 : Below w.heap.size w W.drew := hB.drew
  generalize W.drew = w2 at *
  have hz2 := hB1.size
  go_wp2_with (refine (or3_any _ (sgn k k') (sgn n n') (sgs s s') _ (by go_simp) (by go_simp) (by go_simp)).mono ?_; rintro e w' ⟨rfl, rfl⟩)
  go_ret
  exact ⟨ri (by simp [ord]), by go_grown⟩
end Go.Proofs.YtakhkcabahhohaaDoor
