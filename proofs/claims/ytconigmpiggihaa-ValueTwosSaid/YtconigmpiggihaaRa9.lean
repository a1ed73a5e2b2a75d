import Derived.Deep.RegionWith
import Derived.Test.YtconigmpiggihaaR4
import Derived.Test.YtconigmpiggihaaPo
import Derived.Test.YtconigmpiggihaaPa
namespace Go.Proofs.Ytconigmpiggihaa
open Go.ChangeShapes Go.WideShapes Go.ChangeAt Go.RowKit
set_option linter.unusedVariables false
set_option linter.unusedSimpArgs false
set_option maxHeartbeats 1000000
set_option maxRecDepth 100000
theorem rt9 (k n k' n' : Int) (s s' : ByteArray) (w : World) (hc : chk2 ⟨k, n, s⟩ ⟨k', n', s'⟩ = 0) (HH : Hid ((cpt 9 n n').2 = (!lvs 9 n n') ∧ (cpt 9 n n').1 = wrap64 (n - n'))) :
    Calls Try.prog 20 #[.int .i64 9, .agg #[.int .i64 k, .int .i64 n, .string s], .agg #[.int .i64 k', .int .i64 n', .string s']] w fun e w' => e = .returned (.tuple #[.agg #[.int .i64 (two 9 ⟨k, n, s⟩ ⟨k', n', s'⟩).1.k, .int .i64 (two 9 ⟨k, n, s⟩ ⟨k', n', s'⟩).1.n, .string (two 9 ⟨k, n, s⟩ ⟨k', n', s'⟩).1.t], .int .i64 (two 9 ⟨k, n, s⟩ ⟨k', n', s'⟩).2]) ∧ Below w.heap.size w w' := by
  go_enter Try.func20, Try.ntmps20
  go_wp2_with fail
  refine (both_any _ _ _ _ _ _ _).mono ?_
  rintro e w1 ⟨rfl, hb⟩
  obtain ⟨hz1, hB1, S_x, S_y, S_r⟩ := behind1c hb
  clear hb
  obtain ⟨u_x, x0, x1, x2, -⟩ := id S_x
  obtain ⟨u_y, y0, y1, y2, -⟩ := id S_y
  obtain ⟨u_r, r0, r1, r2, q0, q1, q2⟩ := id S_r
  go_wp2_with (go_at_call 27; refine (in_any _ _ _ _).mono ?_; rintro e we ⟨rfl, rfl⟩)
  all_goals (try (
    refine bodyPost_ret (by simp [results, Try.results20, go_sem, r0, r1, r2]; try rfl) rfl ?_
    refine ⟨rt ?_, by first | (go_grown; done) | (go_grown; exact belowN hB1 _)⟩
    simp_all [two, reck, known, unk, nul]))
  all_goals (
    go_quiet (fail)
    go_wp2_with fail
    go_quiet (fail)
    go_wp2_with fail)
  all_goals (try (
    refine bodyPost_ret (by simp [results, Try.results20, go_sem, r0, r1, r2]; try rfl) rfl ?_
    refine ⟨rt ?_, by first | (go_grown; done) | (go_grown; exact belowN hB1 _)⟩
    simp_all [two, reck, known, unk, nul]))
  all_goals (
    refine (lvs_any 9 _ _ _).mono ?_
    rintro e w2 ⟨rfl, hb2⟩
    have hB2 : Below w.heap.size w w2 := into (by first | exact belowN hB1 _ | exact belowN (belowN hB1 _) _) hb2
    obtain ⟨v_r, t0, t1, t2, p0, p1, p2⟩ := Slot.below (w := w1.drewN _) S_r hb2
    obtain ⟨v_x, a0, a1, a2, -⟩ := Slot.below (w := w1.drewN _) S_x hb2
    obtain ⟨v_y, b0, b1, b2, -⟩ := Slot.below (w := w1.drewN _) S_y hb2
    clear hb2 S_r S_x S_y
    go_wp2_with fail)
  all_goals (
    refine bodyPost_ret (by simp [results, Try.results20, go_sem, t0, t1, t2]; try rfl) rfl ?_
    refine ⟨rt ?_, by go_grown⟩
    obtain ⟨h1, h2⟩ := HH.out
    simp_all [two, reck, known, unk, nul])
end Go.Proofs.Ytconigmpiggihaa
