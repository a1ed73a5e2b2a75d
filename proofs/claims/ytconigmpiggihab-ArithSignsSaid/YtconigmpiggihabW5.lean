import Derived.Test.YtconigmpiggihabW1
namespace Go.Proofs.Ytconigmpiggihab
open Go.ChangeShapes Go.WideShapes Go.ChangeAt Go.RowKit
set_option linter.unusedVariables false
set_option linter.unusedSimpArgs false
set_option maxHeartbeats 400000
theorem tru_any (b : Bool) (w : World) :
    Calls Try.prog 16 #[.bool b] w fun e w' => e = .returned (.agg #[.int .i64 (tru b).k, .int .i64 (tru b).n, .string (tru b).t]) ∧ Below w.heap.size w w' := by
  cases b
  all_goals (
    go_enter Try.func16, Try.ntmps16
    go_wp2
    go_returns
    exact ⟨rfl, by go_grown⟩)
theorem idx0 (a b c a' b' c' : Value) (w : World) : (Instr.index 31 (.agg #[a, b, c, a', b', c']) (.int .i64 0)).run Try.prog w = .ok (.agg #[a, b, c]) w := by kernel_rfl
theorem idx1 (a b c a' b' c' : Value) (w : World) : (Instr.index 31 (.agg #[a, b, c, a', b', c']) (.int .i64 1)).run Try.prog w = .ok (.agg #[a', b', c']) w := by kernel_rfl
attribute [local go_sem] idx0 idx1
theorem known_any (k n k' n' : Int) (s s' : ByteArray) (d : Int) (w : World) :
    Calls Try.prog 14 #[.agg #[.int .i64 k, .int .i64 n, .string s, .int .i64 k', .int .i64 n', .string s'], .int .i64 d] w fun e w' => e = .returned (.bool (known k k' d)) ∧ Below w.heap.size w w' := by
  go_enter Try.func14, Try.ntmps14
  go_wp2
  go_rounds 3
  all_goals (go_ret; refine ⟨rb ?_, by go_grown⟩; simp_all [known])
theorem unk_any (k n k' n' : Int) (s s' : ByteArray) (w : World) :
    Calls Try.prog 15 #[.agg #[.int .i64 k, .int .i64 n, .string s, .int .i64 k', .int .i64 n', .string s']] w fun e w' => e = .returned (.bool (unk k k')) ∧ Below w.heap.size w w' := by
  go_enter Try.func15, Try.ntmps15
  go_wp2
  go_rounds 3
  all_goals (go_ret; refine ⟨rb ?_, by go_grown⟩; simp_all [unk])
theorem rt {k n e : Int} {t : ByteArray} {b : V × Int} (h : b = (⟨k, n, t⟩, e)) :
    Ending.returned (.tuple #[.agg #[.int .i64 k, .int .i64 n, .string t], .int .i64 e]) = .returned (.tuple #[.agg #[.int .i64 b.1.k, .int .i64 b.1.n, .string b.1.t], .int .i64 b.2]) := by rw [h]
/-- Behind a call that was made when a box and a result of three cells had been laid. -/
theorem behind2 {w w1 : World} {o : Obj} {x y z : Value} {t : TypeId} (hb : Below ((w.alloc o).alloc (.cells #[x, y, z] t)).heap.size ((w.alloc o).alloc (.cells #[x, y, z] t)) w1) :
    w.heap.size < w1.heap.size ∧ w.heap.size + 1 < w1.heap.size ∧ Below w.heap.size w w1 ∧ w1.cell? ⟨w.heap.size + 1, 0, none⟩ = some x ∧ w1.cell? ⟨w.heap.size + 1, 1, none⟩ = some y ∧ w1.cell? ⟨w.heap.size + 1, 2, none⟩ = some z ∧
    w1.frozen? ⟨w.heap.size + 1, 0, none⟩ = false ∧ w1.frozen? ⟨w.heap.size + 1, 1, none⟩ = false ∧ w1.frozen? ⟨w.heap.size + 1, 2, none⟩ = false := by
  have hz := hb.size
  simp only [World.size_alloc] at hz
  exact ⟨by omega, by omega, into (by go_grown) hb, has3 (new1 _ _ _) hb⟩
/-- Block B holds three cells that may be written. -/
def Slot (w : World) (B : Nat) (x y z : Value) : Prop :=
  B < w.heap.size ∧ w.cell? ⟨B, 0, none⟩ = some x ∧ w.cell? ⟨B, 1, none⟩ = some y ∧ w.cell? ⟨B, 2, none⟩ = some z ∧ w.frozen? ⟨B, 0, none⟩ = false ∧ w.frozen? ⟨B, 1, none⟩ = false ∧ w.frozen? ⟨B, 2, none⟩ = false
theorem Slot.below {w w' : World} {B : Nat} {x y z : Value} (h : Slot w B x y z) (hb : Below w.heap.size w w') : Slot w' B x y z := by
  obtain ⟨h0, h1, h2, h3, h4, h5, h6⟩ := h
  exact ⟨Nat.lt_of_lt_of_le h0 hb.size, (hb.cell h0).trans h1, (hb.cell h0).trans h2, (hb.cell h0).trans h3, (hb.frozen h0).trans h4, (hb.frozen h0).trans h5, (hb.frozen h0).trans h6⟩
theorem Slot.alloc {w : World} {B : Nat} {x y z : Value} (h : Slot w B x y z) (o : Obj) : Slot (w.alloc o) B x y z := h.below ((Below.refl _ _).alloc (Nat.le_refl _) _)
/-- Behind a call that was made when a value of three cells had just been laid. -/
theorem behind1 {w w1 : World} {x y z : Value} {t : TypeId} (hb : Below (w.alloc (.cells #[x, y, z] t)).heap.size (w.alloc (.cells #[x, y, z] t)) w1) :
    w.heap.size < w1.heap.size ∧ Below w.heap.size w w1 ∧ Slot w1 w.heap.size x y z := by
  have hz := hb.size
  simp only [World.size_alloc] at hz
  exact ⟨by omega, into (by go_grown) hb, by omega, has3 (new0 _ _) hb⟩
theorem old1 (w : World) (o p : Obj) (i : Nat) (h : i < w.heap.size + 1) : ((w.alloc o).alloc p).heap[i]? = (w.alloc o).heap[i]? := Below.heap_alloc _ _ _ (by simpa using h)
/-- .. when two values of three cells had been laid. -/
theorem behind1b {w w1 : World} {x y z x' y' z' : Value} {t t' : TypeId} (hb : Below ((w.alloc (.cells #[x, y, z] t)).alloc (.cells #[x', y', z'] t')).heap.size ((w.alloc (.cells #[x, y, z] t)).alloc (.cells #[x', y', z'] t')) w1) :
    w.heap.size < w1.heap.size ∧ Below w.heap.size w w1 ∧ Slot w1 w.heap.size x y z ∧ Slot w1 (w.heap.size + 1) x' y' z' := by
  have hz := hb.size
  simp only [World.size_alloc] at hz
  refine ⟨by omega, into (by go_grown) hb, ⟨by omega, has3 (t := t) ?_ hb⟩, ⟨by omega, has3 (new1 _ _ _) hb⟩⟩
  rw [old1 _ _ _ _ (by omega), new0]
/-- .. when three values of three cells had been laid. -/
theorem behind1c {w w1 : World} {x y z x' y' z' x'' y'' z'' : Value} {t t' t'' : TypeId}
    (hb : Below (((w.alloc (.cells #[x, y, z] t)).alloc (.cells #[x', y', z'] t')).alloc (.cells #[x'', y'', z''] t'')).heap.size (((w.alloc (.cells #[x, y, z] t)).alloc (.cells #[x', y', z'] t')).alloc (.cells #[x'', y'', z''] t'')) w1) :
    w.heap.size < w1.heap.size ∧ Below w.heap.size w w1 ∧ Slot w1 w.heap.size x y z ∧ Slot w1 (w.heap.size + 1) x' y' z' ∧ Slot w1 (w.heap.size + 1 + 1) x'' y'' z'' := by
  have hz := hb.size
  simp only [World.size_alloc] at hz
  refine ⟨by omega, into (by go_grown) hb, ⟨by omega, has3 (t := t) ?_ hb⟩, ⟨by omega, has3 (t := t') ?_ hb⟩, ⟨by omega, has3 (new2 _ _ _ _) hb⟩⟩
  · rw [old1 _ _ _ _ (by simp; omega), old1 _ _ _ _ (by omega), new0]
  · rw [old1 _ _ _ _ (by simp), new1]
theorem belowN {B : Nat} {a w : World} (h : Below B a w) (n : Nat) : Below B a (w.drewN n) := ⟨h.os, h.tape, h.output, h.size, h.block⟩
theorem join_any (k n k' n' : Int) (s s' : ByteArray) (d : Int) (w : World) :
    Calls Try.prog 10 #[.agg #[.int .i64 k, .int .i64 n, .string s, .int .i64 k', .int .i64 n', .string s'], .int .i64 d] w fun e w' => e = .returned (.tuple #[.agg #[.int .i64 (join ⟨k, n, s⟩ ⟨k', n', s'⟩ d).1.k, .int .i64 (join ⟨k, n, s⟩ ⟨k', n', s'⟩ d).1.n, .string (join ⟨k, n, s⟩ ⟨k', n', s'⟩ d).1.t], .int .i64 (join ⟨k, n, s⟩ ⟨k', n', s'⟩ d).2]) ∧ Below w.heap.size w w' := by
  go_enter Try.func10, Try.ntmps10
  go_wp2_with fail
  refine (known_any _ _ _ _ _ _ _ _).mono ?_
  rintro e w1 ⟨rfl, hb⟩
  have hk := kept hb
  have hz0 := hb.size
  simp only [World.size_alloc] at hz0
  obtain ⟨hz, hz1, hB, x0, x1, x2, y0, y1, y2⟩ := behind2 hb
  have S1 : Slot w1 (w.heap.size + 1) _ _ _ := ⟨hz1, x0, x1, x2, y0, y1, y2⟩
  obtain ⟨hc, hf⟩ := hk
  go_wp2_with fail
  · refine bodyPost_ret (by simp [results, Try.results10, go_sem, x0, x1, x2]; try rfl) rfl ?_
    refine ⟨rt ?_, by go_grown⟩
    simp_all [join, nul]
  refine wp_loop_rounds 3 ?_
  rw [rounds_succ]
  go_wp2_with fail
  · refine bodyPost_ret (by simp [results, Try.results10, go_sem, x0, x1, x2, hz, hz1]; try rfl) rfl ?_
    refine ⟨rt ?_, by go_grown⟩
    simp_all [join]
  all_goals
    rw [rounds_succ]
    go_wp2_with fail
    · refine bodyPost_ret (by simp [results, Try.results10, go_sem, x0, x1, x2, hz, hz1]; try rfl) rfl ?_
      refine ⟨rt ?_, by go_grown⟩
      simp_all [join]
    all_goals
      rw [rounds_succ]
      go_wp2_with fail
      refine (unk_any _ _ _ _ _ _ _).mono ?_
      rintro e w2 ⟨rfl, hb2⟩
      have hB2 : Below w.heap.size w w2 := into (by go_grown) hb2
      have S2 := ((S1.alloc _).alloc _).below hb2
      obtain ⟨p, p0, p1, p2, q0, q1, q2⟩ := S2
      have S2 : Slot w2 (w.heap.size + 1) _ _ _ := ⟨p, p0, p1, p2, q0, q1, q2⟩
      clear hb2
      go_wp2_with fail
      try (
        refine bodyPost_ret (by simp [results, Try.results10, go_sem, p0, p1, p2]; try rfl) rfl ?_
        refine ⟨rt ?_, by go_grown⟩
        simp_all [join, nul])
      · refine (tru_any _ _).mono ?_
        rintro e w3 ⟨rfl, hb3⟩
        have hB3 : Below w.heap.size w w3 := into (by go_grown) hb3
        have S3 := S2.below hb3
        obtain ⟨r, r0, r1, r2, s0, s1, s2⟩ := S3
        clear hb3
        go_wp2_with fail
        refine bodyPost_ret (by simp [results, Try.results10, go_sem, r0, r1, r2]; try rfl) rfl ?_
        refine ⟨rt ?_, by go_grown⟩
        simp_all [join]
end Go.Proofs.Ytconigmpiggihab
