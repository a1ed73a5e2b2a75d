import Derived.Test.YtconigmpiggihabW3
import Derived.Test.YtconigmpiggihabW6
import Derived.Test.YtconigmpiggihabW7
namespace Go.Proofs.Ytconigmpiggihab
open Go.ChangeShapes Go.WideShapes Go.ChangeAt Go.RowKit
set_option linter.unusedVariables false
set_option linter.unusedSimpArgs false
set_option maxHeartbeats 1000000
theorem new3 (w : World) (o p q r : Obj) : ((((w.alloc o).alloc p).alloc q).alloc r).heap[w.heap.size + 2]? = some q := by
  rw [← new2 w o p q]
  exact Below.heap_alloc _ _ _ (by simp)
theorem ri2 {a b c d : Int} (h : a = b) (g : c = d) : Ending.returned (.tuple #[.int .i64 a, .int .i64 c]) = .returned (.tuple #[.int .i64 b, .int .i64 d]) := by rw [h, g]
theorem two_any (d k n k' n' : Int) (s s' : ByteArray) (w : World) :
    Calls Try.prog 6 #[.int .i64 d, .agg #[.int .i64 k, .int .i64 n, .string s], .agg #[.int .i64 k', .int .i64 n', .string s']] w fun e w' => e = .returned (.tuple #[.agg #[.int .i64 (two d ⟨k, n, s⟩ ⟨k', n', s'⟩).1.k, .int .i64 (two d ⟨k, n, s⟩ ⟨k', n', s'⟩).1.n, .string (two d ⟨k, n, s⟩ ⟨k', n', s'⟩).1.t], .int .i64 (two d ⟨k, n, s⟩ ⟨k', n', s'⟩).2]) ∧ Below w.heap.size w w' := by
  go_enter Try.func6, Try.ntmps6
  go_wp2_with fail
  refine (chk2_any _ _ _ _ _ _ _).mono ?_
  rintro e w1 ⟨rfl, hb⟩
  obtain ⟨x0, x1, x2, y0, y1, y2⟩ := has3 (new3 _ _ _ _ _) hb
  have hz := hb.size
  simp only [World.size_alloc] at hz
  have hz2 : w.heap.size + 2 < w1.heap.size := by omega
  have hB : Below w.heap.size w w1 := into (by go_grown) hb
  have S1 : Slot w1 (w.heap.size + 2) _ _ _ := ⟨hz2, x0, x1, x2, y0, y1, y2⟩
  obtain ⟨hc, hf⟩ := kept hb
  clear hb
  go_wp2_with fail
  · refine bodyPost_ret (by simp [results, Try.results6, go_sem, x0, x1, x2]; try rfl) rfl ?_
    refine ⟨rt ?_, by go_grown⟩
    simp_all [two, nul]
  · refine (join_any _ _ _ _ _ _ _ _).mono ?_
    rintro e w2 ⟨rfl, hb2⟩
    have hB2 : Below w.heap.size w w2 := into hB hb2
    obtain ⟨p, p0, p1, p2, q0, q1, q2⟩ := S1.below hb2
    clear hb2
    go_wp2_with fail
    refine bodyPost_ret (by simp [results, Try.results6, go_sem, p0, p1, p2]; try rfl) rfl ?_
    refine ⟨rt ?_, by go_grown⟩
    simp_all [two]
  · refine (join_any _ _ _ _ _ _ _ _).mono ?_
    rintro e w2 ⟨rfl, hb2⟩
    have hB2 : Below w.heap.size w w2 := into hB hb2
    obtain ⟨p, p0, p1, p2, q0, q1, q2⟩ := S1.below hb2
    clear hb2
    go_wp2_with fail
    refine bodyPost_ret (by simp [results, Try.results6, go_sem, p0, p1, p2]; try rfl) rfl ?_
    refine ⟨rt ?_, by go_grown⟩
    simp_all [two]
  · refine (hold_any _ _ _ _ _ _ _ _).mono ?_
    rintro e w2 ⟨rfl, hb2⟩
    have hB2 : Below w.heap.size w w2 := into hB hb2
    obtain ⟨p, p0, p1, p2, q0, q1, q2⟩ := S1.below hb2
    clear hb2
    go_wp2_with fail
    refine bodyPost_ret (by simp [results, Try.results6, go_sem, p0, p1, p2]; try rfl) rfl ?_
    refine ⟨rt ?_, by go_grown⟩
    simp_all [two]
  · refine (hold_any _ _ _ _ _ _ _ _).mono ?_
    rintro e w2 ⟨rfl, hb2⟩
    have hB2 : Below w.heap.size w w2 := into hB hb2
    obtain ⟨p, p0, p1, p2, q0, q1, q2⟩ := S1.below hb2
    clear hb2
    go_wp2_with fail
    refine bodyPost_ret (by simp [results, Try.results6, go_sem, p0, p1, p2]; try rfl) rfl ?_
    refine ⟨rt ?_, by go_grown⟩
    simp_all [two]
  · refine (reck_any _ _ _ _ _ _ _ _).mono ?_
    rintro e w2 ⟨rfl, hb2⟩
    have hB2 : Below w.heap.size w w2 := into hB hb2
    obtain ⟨p, p0, p1, p2, q0, q1, q2⟩ := S1.below hb2
    clear hb2
    go_wp2_with fail
    refine bodyPost_ret (by simp [results, Try.results6, go_sem, p0, p1, p2]; try rfl) rfl ?_
    refine ⟨rt ?_, by go_grown⟩
    simp_all [two]
  · refine (reck_any _ _ _ _ _ _ _ _).mono ?_
    rintro e w2 ⟨rfl, hb2⟩
    have hB2 : Below w.heap.size w w2 := into hB hb2
    obtain ⟨p, p0, p1, p2, q0, q1, q2⟩ := S1.below hb2
    clear hb2
    go_wp2_with fail
    refine bodyPost_ret (by simp [results, Try.results6, go_sem, p0, p1, p2]; try rfl) rfl ?_
    refine ⟨rt ?_, by go_grown⟩
    simp_all [two]
  · refine (reck_any _ _ _ _ _ _ _ _).mono ?_
    rintro e w2 ⟨rfl, hb2⟩
    have hB2 : Below w.heap.size w w2 := into hB hb2
    obtain ⟨p, p0, p1, p2, q0, q1, q2⟩ := S1.below hb2
    clear hb2
    go_wp2_with fail
    refine bodyPost_ret (by simp [results, Try.results6, go_sem, p0, p1, p2]; try rfl) rfl ?_
    refine ⟨rt ?_, by go_grown⟩
    simp_all [two]
  · refine bodyPost_ret (by simp [results, Try.results6, go_sem, x0, x1, x2]; try rfl) rfl ?_
    refine ⟨rt ?_, by go_grown⟩
    simp_all [two, nul]
end Go.Proofs.Ytconigmpiggihab
