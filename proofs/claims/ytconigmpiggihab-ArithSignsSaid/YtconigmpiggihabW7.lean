import Derived.Test.YtconigmpiggihabW5
namespace Go.Proofs.Ytconigmpiggihab
open Go.ChangeShapes Go.WideShapes Go.ChangeAt Go.RowKit
set_option linter.unusedVariables false
set_option linter.unusedSimpArgs false
set_option maxHeartbeats 400000
theorem r2 {a : Int} {x : Bool} {p : Int × Bool} (h : p = (a, x)) : Ending.returned (.tuple #[.int .i64 a, .bool x]) = .returned (.tuple #[.int .i64 p.1, .bool p.2]) := by rw [h]
theorem below_drawn {w : World} (n : Nat) : Below w.heap.size w (w.drewN n) := ⟨rfl, rfl, rfl, Nat.le_refl _, fun _ _ => rfl⟩
theorem tms_any (a b : Int) (w : World) :
    Calls Try.prog 23 #[.int .i64 a, .int .i64 b] w fun e w' => e = .returned (.tuple #[.int .i64 (tms a b).1, .bool (tms a b).2]) ∧ Below w.heap.size w w' := by
  by_cases h0 : a = 0
  · subst h0
    go_enter Try.func23, Try.ntmps23
    go_wp2
    go_ret2
    exact ⟨r2 rfl, by go_grown⟩
  · by_cases h1 : a = -1
    · subst h1
      go_enter Try.func23, Try.ntmps23
      go_wp2
      go_ret2
      exact ⟨r2 rfl, by go_grown⟩
    · have h2 : (a == 0) = false := by simp [h0]
      have h3 : (a == -1) = false := by simp [h1]
      go_enter Try.func23, Try.ntmps23
      go_wp2
      go_quiet (fail)
      go_wp2
      go_ret2
      refine ⟨r2 ?_, below_drawn _⟩
      simp [tms, h0, h1]
theorem cpt_any (k a b : Int) (w : World) :
    Calls Try.prog 18 #[.int .i64 k, .int .i64 a, .int .i64 b] w fun e w' => e = .returned (.tuple #[.int .i64 (cpt k a b).1, .bool (cpt k a b).2]) ∧ Below w.heap.size w w' := by
  by_cases h0 : k = 8
  · subst h0
    go_enter Try.func18, Try.ntmps18
    go_wp2
    all_goals (go_ret2; refine ⟨r2 ?_, by go_grown⟩; simp_all [cpt])
  · by_cases h1 : k = 9
    · subst h1
      go_enter Try.func18, Try.ntmps18
      go_wp2
      all_goals (go_ret2; refine ⟨r2 ?_, by go_grown⟩; simp_all [cpt])
    · go_enter Try.func18, Try.ntmps18
      go_wp2_with fail
      refine (tms_any _ _ _).mono ?_
      rintro e w1 ⟨rfl, hb⟩
      go_wp2_with fail
      go_ret2
      refine ⟨r2 ?_, hb⟩
      simp [cpt, h0, h1]
theorem reck_any (d k n k' n' : Int) (s s' : ByteArray) (w : World) :
    Calls Try.prog 12 #[.int .i64 d, .agg #[.int .i64 k, .int .i64 n, .string s, .int .i64 k', .int .i64 n', .string s']] w fun e w' => e = .returned (.tuple #[.agg #[.int .i64 (reck d ⟨k, n, s⟩ ⟨k', n', s'⟩).1.k, .int .i64 (reck d ⟨k, n, s⟩ ⟨k', n', s'⟩).1.n, .string (reck d ⟨k, n, s⟩ ⟨k', n', s'⟩).1.t], .int .i64 (reck d ⟨k, n, s⟩ ⟨k', n', s'⟩).2]) ∧ Below w.heap.size w w' := by
  go_enter Try.func12, Try.ntmps12
  go_wp2_with fail
  refine (known_any _ _ _ _ _ _ _ _).mono ?_
  rintro e w1 ⟨rfl, hb⟩
  have hk := kept hb
  obtain ⟨hz, hz1, hB, x0, x1, x2, y0, y1, y2⟩ := behind2 hb
  have S1 : Slot w1 (w.heap.size + 1) _ _ _ := ⟨hz1, x0, x1, x2, y0, y1, y2⟩
  obtain ⟨hc, hf⟩ := hk
  go_wp2_with fail
  · refine bodyPost_ret (by simp [results, Try.results12, go_sem, x0, x1, x2]; try rfl) rfl ?_
    refine ⟨rt ?_, by go_grown⟩
    simp_all [reck, nul]
  · refine (unk_any _ _ _ _ _ _ _).mono ?_
    rintro e w2 ⟨rfl, hb2⟩
    have hB2 : Below w.heap.size w w2 := into hB hb2
    obtain ⟨p, p0, p1, p2, q0, q1, q2⟩ := S1.below hb2
    have S2 : Slot w2 (w.heap.size + 1) _ _ _ := ⟨p, p0, p1, p2, q0, q1, q2⟩
    obtain ⟨hc2, hf2⟩ := kept hb2
    clear hb2
    go_wp2_with fail
    · refine bodyPost_ret (by simp [results, Try.results12, go_sem, p0, p1, p2]; try rfl) rfl ?_
      refine ⟨rt ?_, by go_grown⟩
      simp_all [reck, nul]
    · refine (cpt_any _ _ _ _).mono ?_
      rintro e w3 ⟨rfl, hb3⟩
      have hB3 : Below w.heap.size w w3 := into hB2 hb3
      obtain ⟨r, r0, r1, r2, s0, s1, s2⟩ := S2.below hb3
      clear hb3
      go_wp2_with fail
      all_goals
        refine bodyPost_ret (by simp [results, Try.results12, go_sem, r0, r1, r2]; try rfl) rfl ?_
        refine ⟨rt ?_, by go_grown⟩
        simp_all [reck, nul]
end Go.Proofs.Ytconigmpiggihab
