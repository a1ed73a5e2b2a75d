import Derived.Test.YtconigmpiggihaaW5
namespace Go.Proofs.Ytconigmpiggihaa
open Go.ChangeShapes Go.WideShapes Go.ChangeAt Go.RowKit
set_option linter.unusedVariables false
set_option linter.unusedSimpArgs false
set_option maxHeartbeats 400000
theorem turn_any (k n : Int) (s : ByteArray) (w : World) :
    Calls Try.prog 38 #[.agg #[.int .i64 k, .int .i64 n, .string s]] w fun e w' => e = .returned (.tuple #[.agg #[.int .i64 (turn ⟨k, n, s⟩).1.k, .int .i64 (turn ⟨k, n, s⟩).1.n, .string (turn ⟨k, n, s⟩).1.t], .int .i64 (turn ⟨k, n, s⟩).2]) ∧ Below w.heap.size w w' := by
  go_enter Try.func38, Try.ntmps38
  go_wp2_with fail
  · go_returns
    refine ⟨rt ?_, by go_grown⟩
    simp_all [turn, nul]
  · refine (tru_any _ _).mono ?_
    rintro e w1 ⟨rfl, hb⟩
    obtain ⟨hz, hz1, hB, x0, x1, x2, y0, y1, y2⟩ := behind2 hb
    go_wp2_with fail
    refine bodyPost_ret (by simp [results, Try.results38, go_sem, x0, x1, x2]; try rfl) rfl ?_
    refine ⟨rt ?_, by go_grown⟩
    simp_all [turn, nul]
  · go_returns
    refine ⟨rt ?_, by go_grown⟩
    simp_all [turn, nul]
theorem one_any (d k n : Int) (s : ByteArray) (w : World) :
    Calls Try.prog 21 #[.int .i64 d, .agg #[.int .i64 k, .int .i64 n, .string s]] w fun e w' => e = .returned (.tuple #[.agg #[.int .i64 (one d ⟨k, n, s⟩).1.k, .int .i64 (one d ⟨k, n, s⟩).1.n, .string (one d ⟨k, n, s⟩).1.t], .int .i64 (one d ⟨k, n, s⟩).2]) ∧ Below w.heap.size w w' := by
  go_enter Try.func21, Try.ntmps21
  go_wp2_with fail
  refine (chk_any _ _ _ _).mono ?_
  rintro e w1 ⟨rfl, hb⟩
  have hk := kept hb
  obtain ⟨hz, hz1, hB, x0, x1, x2, y0, y1, y2⟩ := behind2 hb
  have S1 : Slot w1 (w.heap.size + 1) _ _ _ := ⟨hz1, x0, x1, x2, y0, y1, y2⟩
  obtain ⟨hc, hf⟩ := hk
  clear hb
  go_wp2_with fail
  · refine bodyPost_ret (by simp [results, Try.results21, go_sem, x0, x1, x2]; try rfl) rfl ?_
    refine ⟨rt ?_, by go_grown⟩
    simp_all [one, nul]
  · refine (tru_any _ _).mono ?_
    rintro e w2 ⟨rfl, hb2⟩
    have hB2 : Below w.heap.size w w2 := into hB hb2
    obtain ⟨p, p0, p1, p2, q0, q1, q2⟩ := S1.below hb2
    clear hb2
    go_wp2_with fail
    refine bodyPost_ret (by simp [results, Try.results21, go_sem, p0, p1, p2]; try rfl) rfl ?_
    refine ⟨rt ?_, by go_grown⟩
    simp_all [one]
  · refine (turn_any _ _ _ _).mono ?_
    rintro e w2 ⟨rfl, hb2⟩
    have hB2 : Below w.heap.size w w2 := into hB hb2
    obtain ⟨p, p0, p1, p2, q0, q1, q2⟩ := S1.below hb2
    clear hb2
    go_wp2_with fail
    refine bodyPost_ret (by simp [results, Try.results21, go_sem, p0, p1, p2]; try rfl) rfl ?_
    refine ⟨rt ?_, by go_grown⟩
    simp_all [one]
  · refine bodyPost_ret (by simp [results, Try.results21, go_sem, x0, x1, x2]; try rfl) rfl ?_
    refine ⟨rt ?_, by go_grown⟩
    simp_all [one, nul]
end Go.Proofs.Ytconigmpiggihaa
