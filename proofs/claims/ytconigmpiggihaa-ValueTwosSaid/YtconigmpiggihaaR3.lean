import Derived.Test.YtconigmpiggihaaR1
import Derived.Test.YtconigmpiggihaaW5
import Derived.Test.YtconigmpiggihaaPm
namespace Go.Proofs.Ytconigmpiggihaa
open Go.ChangeShapes Go.WideShapes Go.ChangeAt Go.RowKit
set_option linter.unusedVariables false
set_option linter.unusedSimpArgs false
set_option maxHeartbeats 400000
theorem ahd_any (k n k' n' : Int) (s s' : ByteArray) (w : World) :
    Calls Try.prog 31 #[.agg #[.int .i64 k, .int .i64 n, .string s], .agg #[.int .i64 k', .int .i64 n', .string s']] w fun e w' => e = .returned (.bool (ahd ⟨k, n, s⟩ ⟨k', n', s'⟩)) ∧ Below w.heap.size w w' := by
  by_cases h : k = k'
  · subst h
    by_cases h3 : k = 3
    · subst h3
      go_enter Try.func31, Try.ntmps31
      go_wp2
      all_goals (go_ret; refine ⟨rb ?_, by go_grown⟩; simp_all [ahd])
    · go_enter Try.func31, Try.ntmps31
      go_wp2
      all_goals (go_ret; refine ⟨rb ?_, by go_grown⟩; simp_all [ahd])
  · go_enter Try.func31, Try.ntmps31
    go_wp2
    all_goals (go_ret; refine ⟨rb ?_, by go_grown⟩; simp_all [ahd])
theorem yes_any (b : Bool) (w : World) :
    Calls Try.prog 35 #[.bool b] w fun e w' => e = .returned (.agg #[.int .i64 (tru b).k, .int .i64 (tru b).n, .string (tru b).t]) ∧ Below w.heap.size w w' := by
  cases b
  all_goals (
    go_enter Try.func35, Try.ntmps35
    go_wp2
    go_returns
    exact ⟨rfl, by go_grown⟩)
theorem ri2' {a b c d : Int} (h : a = b) (g : c = d) : Ending.returned (.tuple #[.int .i64 a, .int .i64 c]) = .returned (.tuple #[.int .i64 b, .int .i64 d]) := by rw [h, g]
theorem rcmp_any (k n k' n' : Int) (s s' : ByteArray) (w : World) :
    Calls Try.prog 18 #[.agg #[.int .i64 k, .int .i64 n, .string s], .agg #[.int .i64 k', .int .i64 n', .string s']] w fun e w' => e = .returned (.tuple #[.int .i64 (cmp2 ⟨k, n, s⟩ ⟨k', n', s'⟩), .int .i64 (chk2 ⟨k, n, s⟩ ⟨k', n', s'⟩)]) ∧ Below w.heap.size w w' := by
  go_enter Try.func18, Try.ntmps18
  go_wp2_with fail
  refine (both_any _ _ _ _ _ _ _).mono ?_
  rintro e w1 ⟨rfl, hb⟩
  have hz := hb.size
  simp only [World.size_alloc] at hz
  have hz0 : w.heap.size < w1.heap.size := by omega
  have hz1 : w.heap.size + 1 < w1.heap.size := by omega
  have hB : Below w.heap.size w w1 := into (by go_grown) hb
  obtain ⟨hc, hf⟩ := kept hb
  clear hb
  go_wp2_with fail
  · go_ret2
    refine ⟨ri2' ?_ rfl, hB⟩
    simp_all [cmp2]
  · have hn : chk2 ⟨k, n, s⟩ ⟨k', n', s'⟩ = 0 := by simp_all
    have HO := Lib.hid (ord_ahd hn)
    have HN := Lib.hid hn
    clear hn
    refine (ahd_any _ _ _ _ _ _ _).mono ?_
    rintro e w2 ⟨rfl, hb2⟩
    have hB2 : Below w.heap.size w w2 := into hB hb2
    obtain ⟨hc2, hf2⟩ := kept hb2
    clear hb2
    go_wp2_with fail
    · go_ret2
      refine ⟨ri2' ?_ HN.out.symm, hB2⟩
      have ho := HO.out
      have hn := HN.out
      simp_all [cmp2]
    · refine (ahd_any _ _ _ _ _ _ _).mono ?_
      rintro e w3 ⟨rfl, hb3⟩
      have hB3 : Below w.heap.size w w3 := into hB2 hb3
      clear hb3
      go_wp2_with fail
      all_goals
        go_ret2
        refine ⟨ri2' ?_ HN.out.symm, hB3⟩
        have ho := HO.out
        have hn := HN.out
        simp_all [cmp2]
theorem rone_any (d k n : Int) (s : ByteArray) (w : World) :
    Calls Try.prog 22 #[.int .i64 d, .agg #[.int .i64 k, .int .i64 n, .string s]] w fun e w' => e = .returned (.tuple #[.agg #[.int .i64 (one d ⟨k, n, s⟩).1.k, .int .i64 (one d ⟨k, n, s⟩).1.n, .string (one d ⟨k, n, s⟩).1.t], .int .i64 (one d ⟨k, n, s⟩).2]) ∧ Below w.heap.size w w' := by
  go_enter Try.func22, Try.ntmps22
  go_wp2_with fail
  refine (vf_any _ _ _ _).mono ?_
  rintro e w1 ⟨rfl, hb⟩
  have hk := kept hb
  obtain ⟨hz, hz1, hB, x0, x1, x2, y0, y1, y2⟩ := behind2 hb
  have S1 : Slot w1 (w.heap.size + 1) _ _ _ := ⟨hz1, x0, x1, x2, y0, y1, y2⟩
  obtain ⟨hc, hf⟩ := hk
  clear hb
  go_wp2_with fail
  · refine bodyPost_ret (by simp [results, Try.results22, go_sem, x0, x1, x2]; try rfl) rfl ?_
    refine ⟨rt ?_, by go_grown⟩
    simp_all [one, nul]
  · refine (yes_any _ _).mono ?_
    rintro e w2 ⟨rfl, hb2⟩
    have hB2 : Below w.heap.size w w2 := into hB hb2
    obtain ⟨p, p0, p1, p2, q0, q1, q2⟩ := S1.below hb2
    clear hb2
    go_wp2_with fail
    refine bodyPost_ret (by simp [results, Try.results22, go_sem, p0, p1, p2]; try rfl) rfl ?_
    refine ⟨rt ?_, by go_grown⟩
    simp_all [one]
  · refine bodyPost_ret (by simp [results, Try.results22, go_sem, x0, x1, x2]; try rfl) rfl ?_
    refine ⟨rt ?_, by go_grown⟩
    simp_all [one, nul]
  · refine bodyPost_ret (by simp [results, Try.results22, go_sem, x0, x1, x2]; try rfl) rfl ?_
    refine ⟨rt ?_, by go_grown⟩
    have hn : chk k n s = 0 := by simp_all
    have hk : k = 0 := by simp_all
    subst hk
    obtain ⟨_, _, g1, g2, _, _⟩ := chk0 hn
    simp_all [one, nul, turn]
  · refine bodyPost_ret (by simp [results, Try.results22, go_sem, x0, x1, x2]; try rfl) rfl ?_
    refine ⟨rt ?_, by go_grown⟩
    simp_all [one, nul, turn]
  · refine (yes_any _ _).mono ?_
    rintro e w2 ⟨rfl, hb2⟩
    have hB2 : Below w.heap.size w w2 := into hB hb2
    obtain ⟨p, p0, p1, p2, q0, q1, q2⟩ := S1.below hb2
    clear hb2
    go_wp2_with fail
    refine bodyPost_ret (by simp [results, Try.results22, go_sem, p0, p1, p2]; try rfl) rfl ?_
    refine ⟨rt ?_, by go_grown⟩
    simp_all [one, turn]
end Go.Proofs.Ytconigmpiggihaa
