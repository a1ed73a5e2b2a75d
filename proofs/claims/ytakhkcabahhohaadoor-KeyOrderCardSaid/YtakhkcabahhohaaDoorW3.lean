import Derived.Test.YtakhkcabahhohaaDoorW1
namespace Go.Proofs.YtakhkcabahhohaaDoor
open Go.ChangeShapes Go.WideShapes Go.ChangeAt Go.RowKit
set_option linter.unusedVariables false
set_option linter.unusedSimpArgs false
set_option maxHeartbeats 400000
theorem chk2_any (k n k' n' : Int) (s s' : ByteArray) (w : World) :
    Calls Tryd.prog 22 #[.agg #[.int .i64 k, .int .i64 n, .string s, .int .i64 k', .int .i64 n', .string s']] w fun e w' => e = .returned (.int .i64 (chk2 ⟨k, n, s⟩ ⟨k', n', s'⟩)) ∧ Below w.heap.size w w' := by
  have i0 : ∀ w, (Instr.index 52 (.agg #[.int .i64 k, .int .i64 n, .string s, .int .i64 k', .int .i64 n', .string s']) (.int .i64 0)).run Tryd.prog w = .ok (.agg #[.int .i64 k, .int .i64 n, .string s]) w := fun _ => by kernel_rfl
  have i1 : ∀ w, (Instr.index 52 (.agg #[.int .i64 k, .int .i64 n, .string s, .int .i64 k', .int .i64 n', .string s']) (.int .i64 1)).run Tryd.prog w = .ok (.agg #[.int .i64 k', .int .i64 n', .string s']) w := fun _ => by kernel_rfl
  go_enter Tryd.func22, Tryd.ntmps22
  go_wp2_with fail
  refine wp_loop_rounds 3 ?_
  rw [rounds_succ]
  go_wp2_with fail
  refine (chk_any _ _ _ _).mono ?_
  rintro e w1 ⟨rfl, hb⟩
  have hz : w.heap.size + 2 ≤ w1.heap.size := by have := hb.size; simp at this; omega
  have hB : Below w.heap.size w w1 := into (by go_grown) hb
  clear hb
  go_wp2_with fail
  · go_ret
    refine ⟨ri ?_, hB⟩
    simp_all [chk2]
  · rw [rounds_succ]
    go_wp2_with fail
    refine (chk_any _ _ _ _).mono ?_
    rintro e w2 ⟨rfl, hb⟩
    have hB : Below w.heap.size w w2 := into (by go_grown) hb
    clear hb
    go_wp2_with fail
    · go_ret
      refine ⟨ri ?_, hB⟩
      simp_all [chk2]
    · rw [rounds_succ]
      go_wp2_with fail
      go_ret
      refine ⟨ri ?_, hB⟩
      simp_all [chk2]
end Go.Proofs.YtakhkcabahhohaaDoor
