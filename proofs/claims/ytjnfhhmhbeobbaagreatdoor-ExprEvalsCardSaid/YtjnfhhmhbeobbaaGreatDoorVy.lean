/- TwoOf: the document, op by op (stage 1's texts). -/
import Derived.Test.YtjnfhhmhbeobbaaGreatDoorVx
import Derived.Deep.RegionWith
namespace Go.Proofs.YtjnfhhmhbeobbaaGreatDoor.vv
open Go.ChangeShapes Go.WideShapes Go.ChangeAt Go.RowKit
set_option linter.unusedVariables false
set_option linter.unusedSimpArgs false
set_option maxHeartbeats 1000000
set_option maxRecDepth 100000
theorem rt8 (k n k' n' : Int) (s s' : ByteArray) (w : World) (hc : chk2 ⟨k, n, s⟩ ⟨k', n', s'⟩ = 0) (HH : Hid ((cpt 8 n n').2 = (!lvs 8 n n') ∧ (cpt 8 n n').1 = wrap64 (n + n'))) :
    Calls Tryz.prog 45 #[.int .i64 8, .agg #[.int .i64 k, .int .i64 n, .string s], .agg #[.int .i64 k', .int .i64 n', .string s']] w fun e w' => e = .returned (.tuple #[.agg #[.int .i64 (two 8 ⟨k, n, s⟩ ⟨k', n', s'⟩).1.k, .int .i64 (two 8 ⟨k, n, s⟩ ⟨k', n', s'⟩).1.n, .string (two 8 ⟨k, n, s⟩ ⟨k', n', s'⟩).1.t], .int .i64 (two 8 ⟨k, n, s⟩ ⟨k', n', s'⟩).2]) ∧ Below w.heap.size w w' := by
  go_enter Tryz.func45, Tryz.ntmps45
  go_wp2_with fail
  refine (both_any _ _ _ _ _ _ _).mono ?_
  rintro e w1 ⟨rfl, hb⟩
  obtain ⟨hz1, hB1, S_x, S_y, S_r⟩ := behind1c hb
  clear hb
  obtain ⟨u_x, x0, x1, x2, -⟩ := id S_x
  obtain ⟨u_y, y0, y1, y2, -⟩ := id S_y
  obtain ⟨u_r, r0, r1, r2, q0, q1, q2⟩ := id S_r
  go_wp2_with (go_at_call 55; refine (in_any _ _ _ _).mono ?_; rintro e we ⟨rfl, rfl⟩)
  all_goals (try (
    refine bodyPost_ret (by simp [results, Tryz.results45, go_sem, r0, r1, r2]; try rfl) rfl ?_
    refine ⟨rt ?_, by first | (go_grown; done) | (go_grown; exact belowN hB1 _)⟩
    simp_all [two, reck, known, unk, nul]))
  all_goals (
    go_quiet (fail)
    go_wp2_with fail
    go_quiet (fail)
    go_wp2_with fail)
  all_goals (try (
    refine bodyPost_ret (by simp [results, Tryz.results45, go_sem, r0, r1, r2]; try rfl) rfl ?_
    refine ⟨rt ?_, by first | (go_grown; done) | (go_grown; exact belowN hB1 _)⟩
    simp_all [two, reck, known, unk, nul]))
  all_goals (
    refine (lvs_any 8 _ _ _).mono ?_
    rintro e w2 ⟨rfl, hb2⟩
    have hB2 : Below w.heap.size w w2 := into (by first | exact belowN hB1 _ | exact belowN (belowN hB1 _) _) hb2
    obtain ⟨v_r, t0, t1, t2, p0, p1, p2⟩ := Slot.below (w := w1.drewN _) S_r hb2
    obtain ⟨v_x, a0, a1, a2, -⟩ := Slot.below (w := w1.drewN _) S_x hb2
    obtain ⟨v_y, b0, b1, b2, -⟩ := Slot.below (w := w1.drewN _) S_y hb2
    clear hb2 S_r S_x S_y
    go_wp2_with fail)
  all_goals (
    refine bodyPost_ret (by simp [results, Tryz.results45, go_sem, t0, t1, t2]; try rfl) rfl ?_
    refine ⟨rt ?_, by go_grown⟩
    obtain ⟨h1, h2⟩ := HH.out
    simp_all [two, reck, known, unk, nul])
end Go.Proofs.YtjnfhhmhbeobbaaGreatDoor.vv
namespace Go.Proofs.YtjnfhhmhbeobbaaGreatDoor.vv
open Go.ChangeShapes Go.WideShapes Go.ChangeAt Go.RowKit
set_option linter.unusedVariables false
set_option linter.unusedSimpArgs false
set_option maxHeartbeats 1000000
set_option maxRecDepth 100000
theorem rt9 (k n k' n' : Int) (s s' : ByteArray) (w : World) (hc : chk2 ⟨k, n, s⟩ ⟨k', n', s'⟩ = 0) (HH : Hid ((cpt 9 n n').2 = (!lvs 9 n n') ∧ (cpt 9 n n').1 = wrap64 (n - n'))) :
    Calls Tryz.prog 45 #[.int .i64 9, .agg #[.int .i64 k, .int .i64 n, .string s], .agg #[.int .i64 k', .int .i64 n', .string s']] w fun e w' => e = .returned (.tuple #[.agg #[.int .i64 (two 9 ⟨k, n, s⟩ ⟨k', n', s'⟩).1.k, .int .i64 (two 9 ⟨k, n, s⟩ ⟨k', n', s'⟩).1.n, .string (two 9 ⟨k, n, s⟩ ⟨k', n', s'⟩).1.t], .int .i64 (two 9 ⟨k, n, s⟩ ⟨k', n', s'⟩).2]) ∧ Below w.heap.size w w' := by
  go_enter Tryz.func45, Tryz.ntmps45
  go_wp2_with fail
  refine (both_any _ _ _ _ _ _ _).mono ?_
  rintro e w1 ⟨rfl, hb⟩
  obtain ⟨hz1, hB1, S_x, S_y, S_r⟩ := behind1c hb
  clear hb
  obtain ⟨u_x, x0, x1, x2, -⟩ := id S_x
  obtain ⟨u_y, y0, y1, y2, -⟩ := id S_y
  obtain ⟨u_r, r0, r1, r2, q0, q1, q2⟩ := id S_r
  go_wp2_with (go_at_call 55; refine (in_any _ _ _ _).mono ?_; rintro e we ⟨rfl, rfl⟩)
  all_goals (try (
    refine bodyPost_ret (by simp [results, Tryz.results45, go_sem, r0, r1, r2]; try rfl) rfl ?_
    refine ⟨rt ?_, by first | (go_grown; done) | (go_grown; exact belowN hB1 _)⟩
    simp_all [two, reck, known, unk, nul]))
  all_goals (
    go_quiet (fail)
    go_wp2_with fail
    go_quiet (fail)
    go_wp2_with fail)
  all_goals (try (
    refine bodyPost_ret (by simp [results, Tryz.results45, go_sem, r0, r1, r2]; try rfl) rfl ?_
    refine ⟨rt ?_, by first | (go_grown; done) | (go_grown; exact belowN hB1 _)⟩
    simp_all [two, reck, known, unk, nul]))
  all_goals (
    refine (lvs_any 9 _ _ _).mono ?_
    rintro e w2 ⟨rfl, hb2⟩
    have hB2 : Below w.heap.size w w2 := into (by first | exact belowN hB1 _ | exact belowN (belowN hB1 _) _) hb2
    obtain ⟨v_r, t0, t1, t2, p0, p1, p2⟩ := Slot.below (w := w1.drewN _) S_r hb2
    obtain ⟨v_x, a0, a1, a2, -⟩ := Slot.below (w := w1.drewN _) S_x hb2
    obtain ⟨v_y, b0, b1, b2, -⟩ := Slot.below (w := w1.drewN _) S_y hb2
    clear hb2 S_r S_x S_y
    go_wp2_with fail)
  all_goals (
    refine bodyPost_ret (by simp [results, Tryz.results45, go_sem, t0, t1, t2]; try rfl) rfl ?_
    refine ⟨rt ?_, by go_grown⟩
    obtain ⟨h1, h2⟩ := HH.out
    simp_all [two, reck, known, unk, nul])
end Go.Proofs.YtjnfhhmhbeobbaaGreatDoor.vv
namespace Go.Proofs.YtjnfhhmhbeobbaaGreatDoor.vv
open Go.ChangeShapes Go.WideShapes Go.ChangeAt Go.RowKit
set_option linter.unusedVariables false
set_option linter.unusedSimpArgs false
set_option maxHeartbeats 1000000
set_option maxRecDepth 100000
theorem rt10 (k n k' n' : Int) (s s' : ByteArray) (w : World) (hc : chk2 ⟨k, n, s⟩ ⟨k', n', s'⟩ = 0) (HH : Hid ((cpt 10 n n').2 = (!lvs 10 n n') ∧ (cpt 10 n n').1 = wrap64 (n * n'))) :
    Calls Tryz.prog 45 #[.int .i64 10, .agg #[.int .i64 k, .int .i64 n, .string s], .agg #[.int .i64 k', .int .i64 n', .string s']] w fun e w' => e = .returned (.tuple #[.agg #[.int .i64 (two 10 ⟨k, n, s⟩ ⟨k', n', s'⟩).1.k, .int .i64 (two 10 ⟨k, n, s⟩ ⟨k', n', s'⟩).1.n, .string (two 10 ⟨k, n, s⟩ ⟨k', n', s'⟩).1.t], .int .i64 (two 10 ⟨k, n, s⟩ ⟨k', n', s'⟩).2]) ∧ Below w.heap.size w w' := by
  go_enter Tryz.func45, Tryz.ntmps45
  go_wp2_with fail
  refine (both_any _ _ _ _ _ _ _).mono ?_
  rintro e w1 ⟨rfl, hb⟩
  obtain ⟨hz1, hB1, S_x, S_y, S_r⟩ := behind1c hb
  clear hb
  obtain ⟨u_x, x0, x1, x2, -⟩ := id S_x
  obtain ⟨u_y, y0, y1, y2, -⟩ := id S_y
  obtain ⟨u_r, r0, r1, r2, q0, q1, q2⟩ := id S_r
  go_wp2_with (go_at_call 55; refine (in_any _ _ _ _).mono ?_; rintro e we ⟨rfl, rfl⟩)
  all_goals (try (
    refine bodyPost_ret (by simp [results, Tryz.results45, go_sem, r0, r1, r2]; try rfl) rfl ?_
    refine ⟨rt ?_, by first | (go_grown; done) | (go_grown; exact belowN hB1 _)⟩
    simp_all [two, reck, known, unk, nul]))
  all_goals (
    go_quiet (fail)
    go_wp2_with fail
    go_quiet (fail)
    go_wp2_with fail)
  all_goals (try (
    refine bodyPost_ret (by simp [results, Tryz.results45, go_sem, r0, r1, r2]; try rfl) rfl ?_
    refine ⟨rt ?_, by first | (go_grown; done) | (go_grown; exact belowN hB1 _)⟩
    simp_all [two, reck, known, unk, nul]))
  all_goals (
    refine (lvs_any 10 _ _ _).mono ?_
    rintro e w2 ⟨rfl, hb2⟩
    have hB2 : Below w.heap.size w w2 := into (by first | exact belowN hB1 _ | exact belowN (belowN hB1 _) _) hb2
    obtain ⟨v_r, t0, t1, t2, p0, p1, p2⟩ := Slot.below (w := w1.drewN _) S_r hb2
    obtain ⟨v_x, a0, a1, a2, -⟩ := Slot.below (w := w1.drewN _) S_x hb2
    obtain ⟨v_y, b0, b1, b2, -⟩ := Slot.below (w := w1.drewN _) S_y hb2
    clear hb2 S_r S_x S_y
    go_wp2_with fail)
  all_goals (
    refine bodyPost_ret (by simp [results, Tryz.results45, go_sem, t0, t1, t2]; try rfl) rfl ?_
    refine ⟨rt ?_, by go_grown⟩
    obtain ⟨h1, h2⟩ := HH.out
    simp_all [two, reck, known, unk, nul])
end Go.Proofs.YtjnfhhmhbeobbaaGreatDoor.vv
namespace Go.Proofs.YtjnfhhmhbeobbaaGreatDoor.vv
open Go.ChangeShapes Go.WideShapes Go.ChangeAt Go.RowKit
set_option linter.unusedVariables false
set_option linter.unusedSimpArgs false
set_option maxHeartbeats 1000000
set_option maxRecDepth 100000
theorem rtE (d : Int) (k n k' n' : Int) (s s' : ByteArray) (w : World) (hc : ¬ chk2 ⟨k, n, s⟩ ⟨k', n', s'⟩ = 0) :
    Calls Tryz.prog 45 #[.int .i64 d, .agg #[.int .i64 k, .int .i64 n, .string s], .agg #[.int .i64 k', .int .i64 n', .string s']] w fun e w' => e = .returned (.tuple #[.agg #[.int .i64 (two d ⟨k, n, s⟩ ⟨k', n', s'⟩).1.k, .int .i64 (two d ⟨k, n, s⟩ ⟨k', n', s'⟩).1.n, .string (two d ⟨k, n, s⟩ ⟨k', n', s'⟩).1.t], .int .i64 (two d ⟨k, n, s⟩ ⟨k', n', s'⟩).2]) ∧ Below w.heap.size w w' := by
  go_enter Tryz.func45, Tryz.ntmps45
  go_wp2_with fail
  refine (both_any _ _ _ _ _ _ _).mono ?_
  rintro e w1 ⟨rfl, hb⟩
  obtain ⟨hz1, hB1, S_x, S_y, S_r⟩ := behind1c hb
  clear hb
  obtain ⟨u_x, x0, x1, x2, -⟩ := id S_x
  obtain ⟨u_y, y0, y1, y2, -⟩ := id S_y
  obtain ⟨u_r, r0, r1, r2, q0, q1, q2⟩ := id S_r
  clear S_x S_y
  go_wp2_with fail
  · refine bodyPost_ret (by simp [results, Tryz.results45, go_sem, r0, r1, r2]; try rfl) rfl ?_
    refine ⟨rt ?_, by first | (go_grown; done) | (go_grown; exact belowN hB1 _)⟩
    simp [two, hc, nul]
theorem rtB (d : Int) (k n k' n' : Int) (s s' : ByteArray) (w : World) (hc : chk2 ⟨k, n, s⟩ ⟨k', n', s'⟩ = 0) (hd : ¬ d = 3 ∧ ¬ d = 4 ∧ ¬ d = 6 ∧ ¬ d = 7 ∧ ¬ d = 8 ∧ ¬ d = 9 ∧ ¬ d = 10) :
    Calls Tryz.prog 45 #[.int .i64 d, .agg #[.int .i64 k, .int .i64 n, .string s], .agg #[.int .i64 k', .int .i64 n', .string s']] w fun e w' => e = .returned (.tuple #[.agg #[.int .i64 (two d ⟨k, n, s⟩ ⟨k', n', s'⟩).1.k, .int .i64 (two d ⟨k, n, s⟩ ⟨k', n', s'⟩).1.n, .string (two d ⟨k, n, s⟩ ⟨k', n', s'⟩).1.t], .int .i64 (two d ⟨k, n, s⟩ ⟨k', n', s'⟩).2]) ∧ Below w.heap.size w w' := by
  have hq : d < 3 ∨ 10 < d ∨ d = 5 := by omega
  have ht : two d ⟨k, n, s⟩ ⟨k', n', s'⟩ = (nul, 2) := by
    obtain ⟨h1, h2, h3, h4, h5, h6, h7⟩ := hd
    simp [two, hc, h1, h2, h3, h4, h5, h6, h7]
  rw [ht]
  clear ht hd
  rcases hq with hq | hq | rfl
  · go_enter Tryz.func45, Tryz.ntmps45
    go_wp2_with fail
    refine (both_any _ _ _ _ _ _ _).mono ?_
    rintro e w1 ⟨rfl, hb⟩
    obtain ⟨hz1, hB1, S_x, S_y, S_r⟩ := behind1c hb
    clear hb
    obtain ⟨u_x, x0, x1, x2, -⟩ := id S_x
    obtain ⟨u_y, y0, y1, y2, -⟩ := id S_y
    obtain ⟨u_r, r0, r1, r2, q0, q1, q2⟩ := id S_r
    clear S_x S_y
    have hq0 : (decide (3 ≤ d)) = false := by simp; omega
    go_wp2_with (go_at_call 55; refine (in_any _ _ _ _).mono ?_; rintro e we ⟨rfl, rfl⟩)
    all_goals (
      refine bodyPost_ret (by simp [results, Tryz.results45, go_sem, r0, r1, r2]; try rfl) rfl ?_
      exact ⟨rt rfl, by go_grown⟩)
  · go_enter Tryz.func45, Tryz.ntmps45
    go_wp2_with fail
    refine (both_any _ _ _ _ _ _ _).mono ?_
    rintro e w1 ⟨rfl, hb⟩
    obtain ⟨hz1, hB1, S_x, S_y, S_r⟩ := behind1c hb
    clear hb
    obtain ⟨u_x, x0, x1, x2, -⟩ := id S_x
    obtain ⟨u_y, y0, y1, y2, -⟩ := id S_y
    obtain ⟨u_r, r0, r1, r2, q0, q1, q2⟩ := id S_r
    clear S_x S_y
    have hq0 : (decide (d ≤ 10)) = false := by simp; omega
    go_wp2_with (go_at_call 55; refine (in_any _ _ _ _).mono ?_; rintro e we ⟨rfl, rfl⟩)
    all_goals (
      refine bodyPost_ret (by simp [results, Tryz.results45, go_sem, r0, r1, r2]; try rfl) rfl ?_
      exact ⟨rt rfl, by go_grown⟩)
  · go_enter Tryz.func45, Tryz.ntmps45
    go_wp2_with fail
    refine (both_any _ _ _ _ _ _ _).mono ?_
    rintro e w1 ⟨rfl, hb⟩
    obtain ⟨hz1, hB1, S_x, S_y, S_r⟩ := behind1c hb
    clear hb
    obtain ⟨u_x, x0, x1, x2, -⟩ := id S_x
    obtain ⟨u_y, y0, y1, y2, -⟩ := id S_y
    obtain ⟨u_r, r0, r1, r2, q0, q1, q2⟩ := id S_r
    clear S_x S_y
    go_wp2_with (go_at_call 55; refine (in_any _ _ _ _).mono ?_; rintro e we ⟨rfl, rfl⟩)
    all_goals (
      refine bodyPost_ret (by simp [results, Tryz.results45, go_sem, r0, r1, r2]; try rfl) rfl ?_
      exact ⟨rt rfl, by go_grown⟩)
end Go.Proofs.YtjnfhhmhbeobbaaGreatDoor.vv
namespace Go.Proofs.YtjnfhhmhbeobbaaGreatDoor.vv
open Go.ChangeShapes Go.WideShapes Go.ChangeAt Go.RowKit
set_option linter.unusedVariables false
set_option linter.unusedSimpArgs false
set_option maxHeartbeats 1000000
set_option maxRecDepth 100000
theorem rt6 (k n k' n' : Int) (s s' : ByteArray) (w : World) (hc : chk2 ⟨k, n, s⟩ ⟨k', n', s'⟩ = 0) :
    Calls Tryz.prog 45 #[.int .i64 6, .agg #[.int .i64 k, .int .i64 n, .string s], .agg #[.int .i64 k', .int .i64 n', .string s']] w fun e w' => e = .returned (.tuple #[.agg #[.int .i64 (two 6 ⟨k, n, s⟩ ⟨k', n', s'⟩).1.k, .int .i64 (two 6 ⟨k, n, s⟩ ⟨k', n', s'⟩).1.n, .string (two 6 ⟨k, n, s⟩ ⟨k', n', s'⟩).1.t], .int .i64 (two 6 ⟨k, n, s⟩ ⟨k', n', s'⟩).2]) ∧ Below w.heap.size w w' := by
  have HZ := Lib.hid (ord_zero ⟨k, n, s⟩ ⟨k', n', s'⟩)
  have HO := Lib.hid (ord_ahd hc)
  go_enter Tryz.func45, Tryz.ntmps45
  go_wp2_with fail
  refine (both_any _ _ _ _ _ _ _).mono ?_
  rintro e w1 ⟨rfl, hb⟩
  obtain ⟨hz1, hB1, S_x, S_y, S_r⟩ := behind1c hb
  clear hb
  obtain ⟨u_x, x0, x1, x2, -⟩ := id S_x
  obtain ⟨u_y, y0, y1, y2, -⟩ := id S_y
  obtain ⟨u_r, r0, r1, r2, q0, q1, q2⟩ := id S_r
  clear S_x S_y
  go_wp2_with (go_at_call 55; refine (in_any _ _ _ _).mono ?_; rintro e we ⟨rfl, rfl⟩)
  all_goals (try (
    refine bodyPost_ret (by simp [results, Tryz.results45, go_sem, r0, r1, r2]; try rfl) rfl ?_
    refine ⟨rt ?_, by first | (go_grown; done) | (go_grown; exact belowN hB1 _)⟩
    simp_all [two, hold, unk, nul]))
  all_goals (
    try (refine (ahd_any _ _ _ _ _ _ _).mono ?_
         rintro e w2 ⟨rfl, hb2⟩
         have hB2 : Below w.heap.size w w2 := into hB1 hb2
         replace S_r := S_r.below hb2
         clear hb2
         go_wp2_with fail))
  all_goals (
    refine (yes_any _ _).mono ?_
    rintro e w3 ⟨rfl, hb3⟩
    have hB3 : Below w.heap.size w w3 := into (by assumption) hb3
    obtain ⟨v_r, t0, t1, t2, p0, p1, p2⟩ := S_r.below hb3
    clear hb3
    go_wp2_with fail
    refine bodyPost_ret (by simp [results, Tryz.results45, go_sem, t0, t1, t2]; try rfl) rfl ?_
    refine ⟨rt ?_, by go_grown⟩
    have hz := HZ.out
    have ho := HO.out
    clear ho HO
    by_cases g : ord ⟨k, n, s⟩ ⟨k', n', s'⟩ = 0
    · have g1 := hz.1 g
      simp_all [two, hold, unk]
    · have g1 : ¬ (k = k' ∧ n = n' ∧ s.toList = s'.toList) := fun q => g (hz.2 q)
      clear hz
      first
        | (simp_all [two, hold, unk]
           done)
        | (simp_all [two, hold, unk]
           rw [beq_eq_false_iff_ne.2 g]))
end Go.Proofs.YtjnfhhmhbeobbaaGreatDoor.vv
namespace Go.Proofs.YtjnfhhmhbeobbaaGreatDoor.vv
open Go.ChangeShapes Go.WideShapes Go.ChangeAt Go.RowKit
set_option linter.unusedVariables false
set_option linter.unusedSimpArgs false
set_option maxHeartbeats 1000000
set_option maxRecDepth 100000
theorem rt7 (k n k' n' : Int) (s s' : ByteArray) (w : World) (hc : chk2 ⟨k, n, s⟩ ⟨k', n', s'⟩ = 0) :
    Calls Tryz.prog 45 #[.int .i64 7, .agg #[.int .i64 k, .int .i64 n, .string s], .agg #[.int .i64 k', .int .i64 n', .string s']] w fun e w' => e = .returned (.tuple #[.agg #[.int .i64 (two 7 ⟨k, n, s⟩ ⟨k', n', s'⟩).1.k, .int .i64 (two 7 ⟨k, n, s⟩ ⟨k', n', s'⟩).1.n, .string (two 7 ⟨k, n, s⟩ ⟨k', n', s'⟩).1.t], .int .i64 (two 7 ⟨k, n, s⟩ ⟨k', n', s'⟩).2]) ∧ Below w.heap.size w w' := by
  have HZ := Lib.hid (ord_zero ⟨k, n, s⟩ ⟨k', n', s'⟩)
  have HO := Lib.hid (ord_ahd hc)
  go_enter Tryz.func45, Tryz.ntmps45
  go_wp2_with fail
  refine (both_any _ _ _ _ _ _ _).mono ?_
  rintro e w1 ⟨rfl, hb⟩
  obtain ⟨hz1, hB1, S_x, S_y, S_r⟩ := behind1c hb
  clear hb
  obtain ⟨u_x, x0, x1, x2, -⟩ := id S_x
  obtain ⟨u_y, y0, y1, y2, -⟩ := id S_y
  obtain ⟨u_r, r0, r1, r2, q0, q1, q2⟩ := id S_r
  clear S_x S_y
  go_wp2_with (go_at_call 55; refine (in_any _ _ _ _).mono ?_; rintro e we ⟨rfl, rfl⟩)
  all_goals (try (
    refine bodyPost_ret (by simp [results, Tryz.results45, go_sem, r0, r1, r2]; try rfl) rfl ?_
    refine ⟨rt ?_, by first | (go_grown; done) | (go_grown; exact belowN hB1 _)⟩
    simp_all [two, hold, unk, nul]))
  all_goals (
    try (refine (ahd_any _ _ _ _ _ _ _).mono ?_
         rintro e w2 ⟨rfl, hb2⟩
         have hB2 : Below w.heap.size w w2 := into hB1 hb2
         replace S_r := S_r.below hb2
         clear hb2
         go_wp2_with fail))
  all_goals (
    refine (yes_any _ _).mono ?_
    rintro e w3 ⟨rfl, hb3⟩
    have hB3 : Below w.heap.size w w3 := into (by assumption) hb3
    obtain ⟨v_r, t0, t1, t2, p0, p1, p2⟩ := S_r.below hb3
    clear hb3
    go_wp2_with fail
    refine bodyPost_ret (by simp [results, Tryz.results45, go_sem, t0, t1, t2]; try rfl) rfl ?_
    refine ⟨rt ?_, by go_grown⟩
    have hz := HZ.out
    have ho := HO.out
    first
      | (simp_all [two, hold, unk]
         done)
      | (rcases ha : ahd ⟨k, n, s⟩ ⟨k', n', s'⟩ with _ | _ <;> rcases hb : ahd ⟨k', n', s'⟩ ⟨k, n, s⟩ with _ | _ <;> simp_all [two, hold, unk]))
end Go.Proofs.YtjnfhhmhbeobbaaGreatDoor.vv
namespace Go.Proofs.YtjnfhhmhbeobbaaGreatDoor.vv
open Go.ChangeShapes Go.WideShapes Go.ChangeAt Go.RowKit
set_option linter.unusedVariables false
set_option linter.unusedSimpArgs false
set_option maxHeartbeats 1000000
set_option maxRecDepth 100000
theorem yesx_any (b : Bool) (w : World) :
    Calls Tryz.prog 57 #[.bool b] w fun e w' => e = .returned (.agg #[.int .i64 1, .int .i64 (if b then 1 else 0), .string ⟨#[]⟩]) ∧ w' = w.alloc (.cells #[.int .i64 1, .int .i64 (if b then 1 else 0), .string ⟨#[]⟩] 26) := by
  cases b
  all_goals (
    go_enter Tryz.func57, Tryz.ntmps57
    go_wp2
    go_returns
    exact ⟨rfl, rfl⟩)
theorem yesb_no (w : World) :
    Calls Tryz.prog 57 #[.bool false] w fun e w' => e = .returned (.agg #[.int .i64 1, .int .i64 0, .string ⟨#[]⟩]) ∧ Below w.heap.size w w' :=
  (yesx_any false w).mono fun _ _ ⟨h, g⟩ => ⟨h, by subst g; exact (Below.refl _ _).alloc (Nat.le_refl _) _⟩
theorem yesb_yes (w : World) :
    Calls Tryz.prog 57 #[.bool true] w fun e w' => e = .returned (.agg #[.int .i64 1, .int .i64 1, .string ⟨#[]⟩]) ∧ Below w.heap.size w w' :=
  (yesx_any true w).mono fun _ _ ⟨h, g⟩ => ⟨h, by subst g; exact (Below.refl _ _).alloc (Nat.le_refl _) _⟩
theorem slot_drew {w w' : World} {B : Nat} {x y z : Value} (h : Slot w B x y z) (hb : Below w.drew.heap.size w.drew w') : Slot w' B x y z := Slot.below (w := w.drew) h hb
theorem into_drew {W w0 w1 : World} (h : Below W.heap.size W w0) (hb : Below w0.drew.heap.size w0.drew w1) : Below W.heap.size W w1 := into h.drew hb
theorem yesx_no (w : World) :
    Calls Tryz.prog 57 #[.bool false] w fun e w' => e = .returned (.agg #[.int .i64 1, .int .i64 0, .string ⟨#[]⟩]) ∧ w' = w.alloc (.cells #[.int .i64 1, .int .i64 0, .string ⟨#[]⟩] 26) := yesx_any false w
theorem yesx_yes (w : World) :
    Calls Tryz.prog 57 #[.bool true] w fun e w' => e = .returned (.agg #[.int .i64 1, .int .i64 1, .string ⟨#[]⟩]) ∧ w' = w.alloc (.cells #[.int .i64 1, .int .i64 1, .string ⟨#[]⟩] 26) := yesx_any true w
end Go.Proofs.YtjnfhhmhbeobbaaGreatDoor.vv
namespace Go.Proofs.YtjnfhhmhbeobbaaGreatDoor.vv
open Go.ChangeShapes Go.WideShapes Go.ChangeAt Go.RowKit
set_option linter.unusedVariables false
set_option linter.unusedSimpArgs false
set_option maxHeartbeats 1000000
set_option maxRecDepth 100000
theorem rt3x (k n k' n' : Int) (s s' : ByteArray) (w : World) (hc : chk2 ⟨k, n, s⟩ ⟨k', n', s'⟩ = 0) (h0 : ¬ k = 0) (h1 : ¬ k = 1) :
    Calls Tryz.prog 45 #[.int .i64 3, .agg #[.int .i64 k, .int .i64 n, .string s], .agg #[.int .i64 k', .int .i64 n', .string s']] w fun e w' => e = .returned (.tuple #[.agg #[.int .i64 (two 3 ⟨k, n, s⟩ ⟨k', n', s'⟩).1.k, .int .i64 (two 3 ⟨k, n, s⟩ ⟨k', n', s'⟩).1.n, .string (two 3 ⟨k, n, s⟩ ⟨k', n', s'⟩).1.t], .int .i64 (two 3 ⟨k, n, s⟩ ⟨k', n', s'⟩).2]) ∧ Below w.heap.size w w' := by
  go_enter Tryz.func45, Tryz.ntmps45
  go_wp2_with fail
  refine (both_any _ _ _ _ _ _ _).mono ?_
  rintro e w1 ⟨rfl, hb⟩
  obtain ⟨hz1, hB1, S_x, S_y, S_r⟩ := behind1c hb
  clear hb
  obtain ⟨u_x, x0, x1, x2, -⟩ := id S_x
  obtain ⟨u_y, y0, y1, y2, -⟩ := id S_y
  obtain ⟨u_r, r0, r1, r2, q0, q1, q2⟩ := id S_r
  clear S_x S_y
  go_wp2_with (go_at_call 55; refine (in_any _ _ _ _).mono ?_; rintro e we ⟨rfl, rfl⟩)
  all_goals (
    refine bodyPost_ret (by simp [results, Tryz.results45, go_sem, r0, r1, r2]; try rfl) rfl ?_
    refine ⟨rt ?_, by first | (go_grown; done) | (go_grown; exact belowN hB1 _)⟩
    simp_all [two, join, known, nul])
theorem rt3y (k n k' n' : Int) (s s' : ByteArray) (w : World) (hc : chk2 ⟨k, n, s⟩ ⟨k', n', s'⟩ = 0) (h0 : ¬ k' = 0) (h1 : ¬ k' = 1) :
    Calls Tryz.prog 45 #[.int .i64 3, .agg #[.int .i64 k, .int .i64 n, .string s], .agg #[.int .i64 k', .int .i64 n', .string s']] w fun e w' => e = .returned (.tuple #[.agg #[.int .i64 (two 3 ⟨k, n, s⟩ ⟨k', n', s'⟩).1.k, .int .i64 (two 3 ⟨k, n, s⟩ ⟨k', n', s'⟩).1.n, .string (two 3 ⟨k, n, s⟩ ⟨k', n', s'⟩).1.t], .int .i64 (two 3 ⟨k, n, s⟩ ⟨k', n', s'⟩).2]) ∧ Below w.heap.size w w' := by
  go_enter Tryz.func45, Tryz.ntmps45
  go_wp2_with fail
  refine (both_any _ _ _ _ _ _ _).mono ?_
  rintro e w1 ⟨rfl, hb⟩
  obtain ⟨hz1, hB1, S_x, S_y, S_r⟩ := behind1c hb
  clear hb
  obtain ⟨u_x, x0, x1, x2, -⟩ := id S_x
  obtain ⟨u_y, y0, y1, y2, -⟩ := id S_y
  obtain ⟨u_r, r0, r1, r2, q0, q1, q2⟩ := id S_r
  clear S_x S_y
  go_wp2_with (go_at_call 55; refine (in_any _ _ _ _).mono ?_; rintro e we ⟨rfl, rfl⟩)
  all_goals (
    refine bodyPost_ret (by simp [results, Tryz.results45, go_sem, r0, r1, r2]; try rfl) rfl ?_
    refine ⟨rt ?_, by first | (go_grown; done) | (go_grown; exact belowN hB1 _)⟩
    simp_all [two, join, known, nul])
theorem rt4x (k n k' n' : Int) (s s' : ByteArray) (w : World) (hc : chk2 ⟨k, n, s⟩ ⟨k', n', s'⟩ = 0) (h0 : ¬ k = 0) (h1 : ¬ k = 1) :
    Calls Tryz.prog 45 #[.int .i64 4, .agg #[.int .i64 k, .int .i64 n, .string s], .agg #[.int .i64 k', .int .i64 n', .string s']] w fun e w' => e = .returned (.tuple #[.agg #[.int .i64 (two 4 ⟨k, n, s⟩ ⟨k', n', s'⟩).1.k, .int .i64 (two 4 ⟨k, n, s⟩ ⟨k', n', s'⟩).1.n, .string (two 4 ⟨k, n, s⟩ ⟨k', n', s'⟩).1.t], .int .i64 (two 4 ⟨k, n, s⟩ ⟨k', n', s'⟩).2]) ∧ Below w.heap.size w w' := by
  go_enter Tryz.func45, Tryz.ntmps45
  go_wp2_with fail
  refine (both_any _ _ _ _ _ _ _).mono ?_
  rintro e w1 ⟨rfl, hb⟩
  obtain ⟨hz1, hB1, S_x, S_y, S_r⟩ := behind1c hb
  clear hb
  obtain ⟨u_x, x0, x1, x2, -⟩ := id S_x
  obtain ⟨u_y, y0, y1, y2, -⟩ := id S_y
  obtain ⟨u_r, r0, r1, r2, q0, q1, q2⟩ := id S_r
  clear S_x S_y
  go_wp2_with (go_at_call 55; refine (in_any _ _ _ _).mono ?_; rintro e we ⟨rfl, rfl⟩)
  all_goals (
    refine bodyPost_ret (by simp [results, Tryz.results45, go_sem, r0, r1, r2]; try rfl) rfl ?_
    refine ⟨rt ?_, by first | (go_grown; done) | (go_grown; exact belowN hB1 _)⟩
    simp_all [two, join, known, nul])
theorem rt4y (k n k' n' : Int) (s s' : ByteArray) (w : World) (hc : chk2 ⟨k, n, s⟩ ⟨k', n', s'⟩ = 0) (h0 : ¬ k' = 0) (h1 : ¬ k' = 1) :
    Calls Tryz.prog 45 #[.int .i64 4, .agg #[.int .i64 k, .int .i64 n, .string s], .agg #[.int .i64 k', .int .i64 n', .string s']] w fun e w' => e = .returned (.tuple #[.agg #[.int .i64 (two 4 ⟨k, n, s⟩ ⟨k', n', s'⟩).1.k, .int .i64 (two 4 ⟨k, n, s⟩ ⟨k', n', s'⟩).1.n, .string (two 4 ⟨k, n, s⟩ ⟨k', n', s'⟩).1.t], .int .i64 (two 4 ⟨k, n, s⟩ ⟨k', n', s'⟩).2]) ∧ Below w.heap.size w w' := by
  go_enter Tryz.func45, Tryz.ntmps45
  go_wp2_with fail
  refine (both_any _ _ _ _ _ _ _).mono ?_
  rintro e w1 ⟨rfl, hb⟩
  obtain ⟨hz1, hB1, S_x, S_y, S_r⟩ := behind1c hb
  clear hb
  obtain ⟨u_x, x0, x1, x2, -⟩ := id S_x
  obtain ⟨u_y, y0, y1, y2, -⟩ := id S_y
  obtain ⟨u_r, r0, r1, r2, q0, q1, q2⟩ := id S_r
  clear S_x S_y
  go_wp2_with (go_at_call 55; refine (in_any _ _ _ _).mono ?_; rintro e we ⟨rfl, rfl⟩)
  all_goals (
    refine bodyPost_ret (by simp [results, Tryz.results45, go_sem, r0, r1, r2]; try rfl) rfl ?_
    refine ⟨rt ?_, by first | (go_grown; done) | (go_grown; exact belowN hB1 _)⟩
    simp_all [two, join, known, nul])
end Go.Proofs.YtjnfhhmhbeobbaaGreatDoor.vv
