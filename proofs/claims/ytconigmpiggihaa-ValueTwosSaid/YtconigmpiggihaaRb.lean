import Derived.Deep.RegionWith
import Derived.Test.YtconigmpiggihaaR4
import Derived.Test.YtconigmpiggihaaPo
import Derived.Test.YtconigmpiggihaaPa
namespace Go.Proofs.Ytconigmpiggihaa
open Go.ChangeShapes Go.WideShapes Go.ChangeAt Go.RowKit
set_option linter.unusedVariables false
set_option linter.unusedSimpArgs false
set_option maxHeartbeats 1000000
set_option maxRecDepth 100000
theorem rtE (d : Int) (k n k' n' : Int) (s s' : ByteArray) (w : World) (hc : ¬ chk2 ⟨k, n, s⟩ ⟨k', n', s'⟩ = 0) :
    Calls Try.prog 20 #[.int .i64 d, .agg #[.int .i64 k, .int .i64 n, .string s], .agg #[.int .i64 k', .int .i64 n', .string s']] w fun e w' => e = .returned (.tuple #[.agg #[.int .i64 (two d ⟨k, n, s⟩ ⟨k', n', s'⟩).1.k, .int .i64 (two d ⟨k, n, s⟩ ⟨k', n', s'⟩).1.n, .string (two d ⟨k, n, s⟩ ⟨k', n', s'⟩).1.t], .int .i64 (two d ⟨k, n, s⟩ ⟨k', n', s'⟩).2]) ∧ Below w.heap.size w w' := by
  go_enter Try.func20, Try.ntmps20
  go_wp2_with fail
  refine (both_any _ _ _ _ _ _ _).mono ?_
  rintro e w1 ⟨rfl, hb⟩
  obtain ⟨hz1, hB1, S_x, S_y, S_r⟩ := behind1c hb
  clear hb
  obtain ⟨u_x, x0, x1, x2, -⟩ := id S_x
  obtain ⟨u_y, y0, y1, y2, -⟩ := id S_y
  obtain ⟨u_r, r0, r1, r2, q0, q1, q2⟩ := id S_r
  clear S_x S_y
  go_wp2_with fail
  · refine bodyPost_ret (by simp [results, Try.results20, go_sem, r0, r1, r2]; try rfl) rfl ?_
    refine ⟨rt ?_, by first | (go_grown; done) | (go_grown; exact belowN hB1 _)⟩
    simp [two, hc, nul]
theorem rtB (d : Int) (k n k' n' : Int) (s s' : ByteArray) (w : World) (hc : chk2 ⟨k, n, s⟩ ⟨k', n', s'⟩ = 0) (hd : ¬ d = 3 ∧ ¬ d = 4 ∧ ¬ d = 6 ∧ ¬ d = 7 ∧ ¬ d = 8 ∧ ¬ d = 9 ∧ ¬ d = 10) :
    Calls Try.prog 20 #[.int .i64 d, .agg #[.int .i64 k, .int .i64 n, .string s], .agg #[.int .i64 k', .int .i64 n', .string s']] w fun e w' => e = .returned (.tuple #[.agg #[.int .i64 (two d ⟨k, n, s⟩ ⟨k', n', s'⟩).1.k, .int .i64 (two d ⟨k, n, s⟩ ⟨k', n', s'⟩).1.n, .string (two d ⟨k, n, s⟩ ⟨k', n', s'⟩).1.t], .int .i64 (two d ⟨k, n, s⟩ ⟨k', n', s'⟩).2]) ∧ Below w.heap.size w w' := by
  have hq : d < 3 ∨ 10 < d ∨ d = 5 := by omega
  have ht : two d ⟨k, n, s⟩ ⟨k', n', s'⟩ = (nul, 2) := by
    obtain ⟨h1, h2, h3, h4, h5, h6, h7⟩ := hd
    simp [two, hc, h1, h2, h3, h4, h5, h6, h7]
  rw [ht]
  clear ht hd
  rcases hq with hq | hq | rfl
  · go_enter Try.func20, Try.ntmps20
    go_wp2_with fail
    refine (both_any _ _ _ _ _ _ _).mono ?_
    rintro e w1 ⟨rfl, hb⟩
    obtain ⟨hz1, hB1, S_x, S_y, S_r⟩ := behind1c hb
    clear hb
    obtain ⟨u_x, x0, x1, x2, -⟩ := id S_x
    obtain ⟨u_y, y0, y1, y2, -⟩ := id S_y
    obtain ⟨u_r, r0, r1, r2, q0, q1, q2⟩ := id S_r
    clear S_x S_y
    have hq0 : (decide (3 ≤ d)) = false := by simp; omega
    go_wp2_with (go_at_call 27; refine (in_any _ _ _ _).mono ?_; rintro e we ⟨rfl, rfl⟩)
    all_goals (
      refine bodyPost_ret (by simp [results, Try.results20, go_sem, r0, r1, r2]; try rfl) rfl ?_
      exact ⟨rt rfl, by go_grown⟩)
  · go_enter Try.func20, Try.ntmps20
    go_wp2_with fail
    refine (both_any _ _ _ _ _ _ _).mono ?_
    rintro e w1 ⟨rfl, hb⟩
    obtain ⟨hz1, hB1, S_x, S_y, S_r⟩ := behind1c hb
    clear hb
    obtain ⟨u_x, x0, x1, x2, -⟩ := id S_x
    obtain ⟨u_y, y0, y1, y2, -⟩ := id S_y
    obtain ⟨u_r, r0, r1, r2, q0, q1, q2⟩ := id S_r
    clear S_x S_y
    have hq0 : (decide (d ≤ 10)) = false := by simp; omega
    go_wp2_with (go_at_call 27; refine (in_any _ _ _ _).mono ?_; rintro e we ⟨rfl, rfl⟩)
    all_goals (
      refine bodyPost_ret (by simp [results, Try.results20, go_sem, r0, r1, r2]; try rfl) rfl ?_
      exact ⟨rt rfl, by go_grown⟩)
  · go_enter Try.func20, Try.ntmps20
    go_wp2_with fail
    refine (both_any _ _ _ _ _ _ _).mono ?_
    rintro e w1 ⟨rfl, hb⟩
    obtain ⟨hz1, hB1, S_x, S_y, S_r⟩ := behind1c hb
    clear hb
    obtain ⟨u_x, x0, x1, x2, -⟩ := id S_x
    obtain ⟨u_y, y0, y1, y2, -⟩ := id S_y
    obtain ⟨u_r, r0, r1, r2, q0, q1, q2⟩ := id S_r
    clear S_x S_y
    go_wp2_with (go_at_call 27; refine (in_any _ _ _ _).mono ?_; rintro e we ⟨rfl, rfl⟩)
    all_goals (
      refine bodyPost_ret (by simp [results, Try.results20, go_sem, r0, r1, r2]; try rfl) rfl ?_
      exact ⟨rt rfl, by go_grown⟩)
end Go.Proofs.Ytconigmpiggihaa
