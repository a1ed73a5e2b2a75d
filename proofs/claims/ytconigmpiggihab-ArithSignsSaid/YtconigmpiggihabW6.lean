import Derived.Test.YtconigmpiggihabW4
import Derived.Test.YtconigmpiggihabW5
namespace Go.Proofs.Ytconigmpiggihab
open Go.ChangeShapes Go.WideShapes Go.ChangeAt Go.RowKit
set_option linter.unusedVariables false
set_option linter.unusedSimpArgs false
set_option maxHeartbeats 400000
theorem hold_any (d k n k' n' : Int) (s s' : ByteArray) (w : World) :
    Calls Try.prog 11 #[.int .i64 d, .agg #[.int .i64 k, .int .i64 n, .string s, .int .i64 k', .int .i64 n', .string s']] w fun e w' => e = .returned (.tuple #[.agg #[.int .i64 (hold d ⟨k, n, s⟩ ⟨k', n', s'⟩).1.k, .int .i64 (hold d ⟨k, n, s⟩ ⟨k', n', s'⟩).1.n, .string (hold d ⟨k, n, s⟩ ⟨k', n', s'⟩).1.t], .int .i64 (hold d ⟨k, n, s⟩ ⟨k', n', s'⟩).2]) ∧ Below w.heap.size w w' := by
  go_enter Try.func11, Try.ntmps11
  go_wp2_with fail
  refine (unk_any _ _ _ _ _ _ _).mono ?_
  rintro e w1 ⟨rfl, hb⟩
  have hk := kept hb
  obtain ⟨hz, hz1, hB, x0, x1, x2, y0, y1, y2⟩ := behind2 hb
  have S1 : Slot w1 (w.heap.size + 1) _ _ _ := ⟨hz1, x0, x1, x2, y0, y1, y2⟩
  obtain ⟨hc, hf⟩ := hk
  go_wp2_with fail
  · refine bodyPost_ret (by simp [results, Try.results11, go_sem, x0, x1, x2]; try rfl) rfl ?_
    refine ⟨rt ?_, by go_grown⟩
    simp_all [hold, nul]
  · refine bodyPost_ret (by simp [results, Try.results11, go_sem, x0, x1, x2]; try rfl) rfl ?_
    refine ⟨rt ?_, by go_grown⟩
    simp_all [hold, nul]
  · refine (ord_any _ _ _ _ _ _ _).mono ?_
    rintro e w2 ⟨rfl, hb2⟩
    have hB2 : Below w.heap.size w w2 := into hB hb2
    have S2 := S1.below hb2
    clear hb2
    go_wp2_with fail
    all_goals
      refine (tru_any _ _).mono ?_
      rintro e w3 ⟨rfl, hb3⟩
      have hB3 : Below w.heap.size w w3 := into hB2 hb3
      obtain ⟨r, r0, r1, r2, s0, s1, s2⟩ := S2.below hb3
      clear hb3
      go_wp2_with fail
      refine bodyPost_ret (by simp [results, Try.results11, go_sem, r0, r1, r2]; try rfl) rfl ?_
      refine ⟨rt ?_, by go_grown⟩
      simp_all [hold]
end Go.Proofs.Ytconigmpiggihab
