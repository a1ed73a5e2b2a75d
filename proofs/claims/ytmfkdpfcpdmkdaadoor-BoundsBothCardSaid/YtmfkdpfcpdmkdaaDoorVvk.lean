import Derived.Test.YtmfkdpfcpdmkdaaDoorUek
import Derived.Test.YtmfkdpfcpdmkdaaDoorSak
import Derived.StillTailTactics
import Derived.Deep.RegionWith
/- value.One and value.Two: the program (stage 1's texts). -/
namespace Go.Proofs.YtmfkdpfcpdmkdaaDoor.vv
open Go.ChangeShapes Go.WideShapes Go.ChangeAt Go.RowKit
set_option linter.unusedVariables false
set_option linter.unusedSimpArgs false
set_option maxHeartbeats 400000
set_option maxRecDepth 100000
theorem chk2_any (k n k' n' : Int) (s s' : ByteArray) (w : World) :
    Calls Tryd.prog 50 #[.agg #[.int .i64 k, .int .i64 n, .string s, .int .i64 k', .int .i64 n', .string s']] w fun e w' => e = .returned (.int .i64 (chk2 ⟨k, n, s⟩ ⟨k', n', s'⟩)) ∧ Below w.heap.size w w' := by
  have i0 : ∀ w, (Instr.index 93 (.agg #[.int .i64 k, .int .i64 n, .string s, .int .i64 k', .int .i64 n', .string s']) (.int .i64 0)).run Tryd.prog w = .ok (.agg #[.int .i64 k, .int .i64 n, .string s]) w := fun _ => by kernel_rfl
  have i1 : ∀ w, (Instr.index 93 (.agg #[.int .i64 k, .int .i64 n, .string s, .int .i64 k', .int .i64 n', .string s']) (.int .i64 1)).run Tryd.prog w = .ok (.agg #[.int .i64 k', .int .i64 n', .string s']) w := fun _ => by kernel_rfl
  go_enter Tryd.func50, Tryd.ntmps50
  go_wp2_with fail
  refine wp_loop_rounds 3 ?_
  rw [rounds_succ]
  go_wp2_with fail
  refine (chk_any _ _ _ _).mono ?_
  rintro e w1 ⟨rfl, hb⟩
  have hz : w.heap.size + 2 ≤ w1.heap.size := by have := hb.size; simp at this; omega
  have hB : Below w.heap.size w w1 := into (by go_grown) hb
  clear hb
  go_wp2_with fail
  · go_ret
    refine ⟨ri ?_, hB⟩
    simp_all [chk2]
  · rw [rounds_succ]
    go_wp2_with fail
    refine (chk_any _ _ _ _).mono ?_
    rintro e w2 ⟨rfl, hb⟩
    have hB : Below w.heap.size w w2 := into (by go_grown) hb
    clear hb
    go_wp2_with fail
    · go_ret
      refine ⟨ri ?_, hB⟩
      simp_all [chk2]
    · rw [rounds_succ]
      go_wp2_with fail
      go_ret
      refine ⟨ri ?_, hB⟩
      simp_all [chk2]
end Go.Proofs.YtmfkdpfcpdmkdaaDoor.vv
namespace Go.Proofs.YtmfkdpfcpdmkdaaDoor.vv
open Go.ChangeShapes Go.WideShapes Go.ChangeAt Go.RowKit
set_option linter.unusedVariables false
set_option linter.unusedSimpArgs false
set_option maxHeartbeats 400000
set_option maxRecDepth 100000
theorem cmpi_any (a b : Int) (w : World) :
    Calls Tryd.prog 88 #[.int .i64 a, .int .i64 b] w fun e w' => e = .returned (.int .i64 (sgn a b)) ∧ w' = w := by
  go_enter Tryd.func88, Tryd.ntmps88
  go_wp2
  all_goals (go_ret; refine ⟨ri ?_, rfl⟩; simp_all [sgn]; try omega)
theorem cmps_any (a b : ByteArray) (w : World) :
    Calls Tryd.prog 89 #[.string a, .string b] w fun e w' => e = .returned (.int .i64 (sgs a b)) ∧ w' = w := by
  go_enter Tryd.func89, Tryd.ntmps89
  go_wp2
  all_goals (go_ret; refine ⟨ri ?_, rfl⟩; simp_all [sgs]; try omega)
theorem or3_any (g : Nat) (a b c : Int) (w : World) (h0 : w.cell? ⟨g, 0, none⟩ = some (.int .i64 a)) (h1 : w.cell? ⟨g, 1, none⟩ = some (.int .i64 b)) (h2 : w.cell? ⟨g, 2, none⟩ = some (.int .i64 c)) :
    Calls Tryd.prog 87 #[.slice (some ⟨g, 0, none⟩) 3 3] w fun e w' => e = .returned (.int .i64 (or3 a b c)) ∧ w' = w := by
  by_cases ha : a = 0
  · by_cases hb : b = 0
    · by_cases hd : c = 0
      all_goals (
        go_enter Tryd.func87, Tryd.ntmps87
        go_wp2
        go_rounds 4
        go_ret
        exact ⟨ri (by simp_all [or3]), rfl⟩)
    · go_enter Tryd.func87, Tryd.ntmps87
      go_wp2
      go_rounds 4
      go_ret
      exact ⟨ri (by simp_all [or3]), rfl⟩
  · go_enter Tryd.func87, Tryd.ntmps87
    go_wp2
    go_rounds 4
    go_ret
    exact ⟨ri (by simp_all [or3]), rfl⟩
theorem ord_any (k n k' n' : Int) (s s' : ByteArray) (w : World) :
    Calls Tryd.prog 67 #[.agg #[.int .i64 k, .int .i64 n, .string s], .agg #[.int .i64 k', .int .i64 n', .string s']] w fun e w' => e = .returned (.int .i64 (ord ⟨k, n, s⟩ ⟨k', n', s'⟩)) ∧ Below w.heap.size w w' := by
  go_enter Tryd.func67, Tryd.ntmps67
  go_wp2_with fail
  generalize hW : (w.alloc (.cells #[.int .i64 k, .int .i64 n, .string s] 36)).alloc (.cells #[.int .i64 k', .int .i64 n', .string s'] 36) = W
  have c0 : W.cell? ⟨w.heap.size, 0, none⟩ = some (.int .i64 k) := by subst hW; go_simp
  have c1 : W.cell? ⟨w.heap.size, 1, none⟩ = some (.int .i64 n) := by subst hW; go_simp
  have c2 : W.cell? ⟨w.heap.size, 2, none⟩ = some (.string s) := by subst hW; go_simp
  have d0 : W.cell? ⟨w.heap.size + 1, 0, none⟩ = some (.int .i64 k') := by subst hW; go_simp
  have d1 : W.cell? ⟨w.heap.size + 1, 1, none⟩ = some (.int .i64 n') := by subst hW; go_simp
  have d2 : W.cell? ⟨w.heap.size + 1, 2, none⟩ = some (.string s') := by subst hW; go_simp
  have hB : Below w.heap.size w W := by subst hW; go_grown
  clear hW
  refine wp_region_still_tail 15 (by kernel_rfl) (by kernel_rfl) ?_
  simp only [List.take_succ_cons, List.take_zero, List.drop_succ_cons, List.drop_zero]
  change wpStill _ _ W.drew _ _ _
  still_step
  still_step
  still_step
  still_step
  still_call (cmpi_any _ _ _)
  still_step
  still_step
  still_step
  still_step
  still_call (cmpi_any _ _ _)
  still_step
  still_step
  still_step
  still_step
  still_call (cmps_any _ _ _)
  refine wpStill_nil ?_
  change wpList _ _ _ _ _ W.drew
  have hB1 : Below w.heap.size w W.drew := hB.drew
  generalize W.drew = w2 at *
  have hz2 := hB1.size
  go_wp2_with (refine (or3_any _ (sgn k k') (sgn n n') (sgs s s') _ (by go_simp) (by go_simp) (by go_simp)).mono ?_; rintro e w' ⟨rfl, rfl⟩)
  go_ret
  exact ⟨ri (by simp [ord]), by go_grown⟩
end Go.Proofs.YtmfkdpfcpdmkdaaDoor.vv
namespace Go.Proofs.YtmfkdpfcpdmkdaaDoor.vv
open Go.ChangeShapes Go.WideShapes Go.ChangeAt Go.RowKit
set_option linter.unusedVariables false
set_option linter.unusedSimpArgs false
set_option maxHeartbeats 400000
set_option maxRecDepth 100000
theorem tru_any (b : Bool) (w : World) :
    Calls Tryd.prog 48 #[.bool b] w fun e w' => e = .returned (.agg #[.int .i64 (tru b).k, .int .i64 (tru b).n, .string (tru b).t]) ∧ Below w.heap.size w w' := by
  cases b
  all_goals (
    go_enter Tryd.func48, Tryd.ntmps48
    go_wp2
    go_returns
    exact ⟨rfl, by go_grown⟩)
theorem idx0 (a b c a' b' c' : Value) (w : World) : (Instr.index 93 (.agg #[a, b, c, a', b', c']) (.int .i64 0)).run Tryd.prog w = .ok (.agg #[a, b, c]) w := by kernel_rfl
theorem idx1 (a b c a' b' c' : Value) (w : World) : (Instr.index 93 (.agg #[a, b, c, a', b', c']) (.int .i64 1)).run Tryd.prog w = .ok (.agg #[a', b', c']) w := by kernel_rfl
attribute [local go_sem] idx0 idx1
theorem known_any (k n k' n' : Int) (s s' : ByteArray) (d : Int) (w : World) :
    Calls Tryd.prog 65 #[.agg #[.int .i64 k, .int .i64 n, .string s, .int .i64 k', .int .i64 n', .string s'], .int .i64 d] w fun e w' => e = .returned (.bool (known k k' d)) ∧ Below w.heap.size w w' := by
  go_enter Tryd.func65, Tryd.ntmps65
  go_wp2
  go_rounds 3
  all_goals (go_ret; refine ⟨rb ?_, by go_grown⟩; simp_all [known])
theorem unk_any (k n k' n' : Int) (s s' : ByteArray) (w : World) :
    Calls Tryd.prog 66 #[.agg #[.int .i64 k, .int .i64 n, .string s, .int .i64 k', .int .i64 n', .string s']] w fun e w' => e = .returned (.bool (unk k k')) ∧ Below w.heap.size w w' := by
  go_enter Tryd.func66, Tryd.ntmps66
  go_wp2
  go_rounds 3
  all_goals (go_ret; refine ⟨rb ?_, by go_grown⟩; simp_all [unk])
theorem rt {k n e : Int} {t : ByteArray} {b : V × Int} (h : b = (⟨k, n, t⟩, e)) :
    Ending.returned (.tuple #[.agg #[.int .i64 k, .int .i64 n, .string t], .int .i64 e]) = .returned (.tuple #[.agg #[.int .i64 b.1.k, .int .i64 b.1.n, .string b.1.t], .int .i64 b.2]) := by rw [h]
/-- Behind a call that was made when a box and a result of three cells had been laid. -/
theorem behind2 {w w1 : World} {o : Obj} {x y z : Value} {t : TypeId} (hb : Below ((w.alloc o).alloc (.cells #[x, y, z] t)).heap.size ((w.alloc o).alloc (.cells #[x, y, z] t)) w1) :
    w.heap.size < w1.heap.size ∧ w.heap.size + 1 < w1.heap.size ∧ Below w.heap.size w w1 ∧ w1.cell? ⟨w.heap.size + 1, 0, none⟩ = some x ∧ w1.cell? ⟨w.heap.size + 1, 1, none⟩ = some y ∧ w1.cell? ⟨w.heap.size + 1, 2, none⟩ = some z ∧
    w1.frozen? ⟨w.heap.size + 1, 0, none⟩ = false ∧ w1.frozen? ⟨w.heap.size + 1, 1, none⟩ = false ∧ w1.frozen? ⟨w.heap.size + 1, 2, none⟩ = false := by
  have hz := hb.size
  simp only [World.size_alloc] at hz
  exact ⟨by omega, by omega, into (by go_grown) hb, has3 (new1 _ _ _) hb⟩
/-- Block B holds three cells that may be written. -/
def Slot (w : World) (B : Nat) (x y z : Value) : Prop :=
  B < w.heap.size ∧ w.cell? ⟨B, 0, none⟩ = some x ∧ w.cell? ⟨B, 1, none⟩ = some y ∧ w.cell? ⟨B, 2, none⟩ = some z ∧ w.frozen? ⟨B, 0, none⟩ = false ∧ w.frozen? ⟨B, 1, none⟩ = false ∧ w.frozen? ⟨B, 2, none⟩ = false
theorem Slot.below {w w' : World} {B : Nat} {x y z : Value} (h : Slot w B x y z) (hb : Below w.heap.size w w') : Slot w' B x y z := by
  obtain ⟨h0, h1, h2, h3, h4, h5, h6⟩ := h
  exact ⟨Nat.lt_of_lt_of_le h0 hb.size, (hb.cell h0).trans h1, (hb.cell h0).trans h2, (hb.cell h0).trans h3, (hb.frozen h0).trans h4, (hb.frozen h0).trans h5, (hb.frozen h0).trans h6⟩
theorem Slot.alloc {w : World} {B : Nat} {x y z : Value} (h : Slot w B x y z) (o : Obj) : Slot (w.alloc o) B x y z := h.below ((Below.refl _ _).alloc (Nat.le_refl _) _)
/-- Behind a call that was made when a value of three cells had just been laid. -/
theorem behind1 {w w1 : World} {x y z : Value} {t : TypeId} (hb : Below (w.alloc (.cells #[x, y, z] t)).heap.size (w.alloc (.cells #[x, y, z] t)) w1) :
    w.heap.size < w1.heap.size ∧ Below w.heap.size w w1 ∧ Slot w1 w.heap.size x y z := by
  have hz := hb.size
  simp only [World.size_alloc] at hz
  exact ⟨by omega, into (by go_grown) hb, by omega, has3 (new0 _ _) hb⟩
theorem old1 (w : World) (o p : Obj) (i : Nat) (h : i < w.heap.size + 1) : ((w.alloc o).alloc p).heap[i]? = (w.alloc o).heap[i]? := Below.heap_alloc _ _ _ (by simpa using h)
/-- .. when two values of three cells had been laid. -/
theorem behind1b {w w1 : World} {x y z x' y' z' : Value} {t t' : TypeId} (hb : Below ((w.alloc (.cells #[x, y, z] t)).alloc (.cells #[x', y', z'] t')).heap.size ((w.alloc (.cells #[x, y, z] t)).alloc (.cells #[x', y', z'] t')) w1) :
    w.heap.size < w1.heap.size ∧ Below w.heap.size w w1 ∧ Slot w1 w.heap.size x y z ∧ Slot w1 (w.heap.size + 1) x' y' z' := by
  have hz := hb.size
  simp only [World.size_alloc] at hz
  refine ⟨by omega, into (by go_grown) hb, ⟨by omega, has3 (t := t) ?_ hb⟩, ⟨by omega, has3 (new1 _ _ _) hb⟩⟩
  rw [old1 _ _ _ _ (by omega), new0]
/-- .. when three values of three cells had been laid. -/
theorem behind1c {w w1 : World} {x y z x' y' z' x'' y'' z'' : Value} {t t' t'' : TypeId}
    (hb : Below (((w.alloc (.cells #[x, y, z] t)).alloc (.cells #[x', y', z'] t')).alloc (.cells #[x'', y'', z''] t'')).heap.size (((w.alloc (.cells #[x, y, z] t)).alloc (.cells #[x', y', z'] t')).alloc (.cells #[x'', y'', z''] t'')) w1) :
    w.heap.size < w1.heap.size ∧ Below w.heap.size w w1 ∧ Slot w1 w.heap.size x y z ∧ Slot w1 (w.heap.size + 1) x' y' z' ∧ Slot w1 (w.heap.size + 1 + 1) x'' y'' z'' := by
  have hz := hb.size
  simp only [World.size_alloc] at hz
  refine ⟨by omega, into (by go_grown) hb, ⟨by omega, has3 (t := t) ?_ hb⟩, ⟨by omega, has3 (t := t') ?_ hb⟩, ⟨by omega, has3 (new2 _ _ _ _) hb⟩⟩
  · rw [old1 _ _ _ _ (by simp; omega), old1 _ _ _ _ (by omega), new0]
  · rw [old1 _ _ _ _ (by simp), new1]
theorem belowN {B : Nat} {a w : World} (h : Below B a w) (n : Nat) : Below B a (w.drewN n) := ⟨h.os, h.tape, h.output, h.size, h.block⟩
theorem join_any (k n k' n' : Int) (s s' : ByteArray) (d : Int) (w : World) :
    Calls Tryd.prog 51 #[.agg #[.int .i64 k, .int .i64 n, .string s, .int .i64 k', .int .i64 n', .string s'], .int .i64 d] w fun e w' => e = .returned (.tuple #[.agg #[.int .i64 (join ⟨k, n, s⟩ ⟨k', n', s'⟩ d).1.k, .int .i64 (join ⟨k, n, s⟩ ⟨k', n', s'⟩ d).1.n, .string (join ⟨k, n, s⟩ ⟨k', n', s'⟩ d).1.t], .int .i64 (join ⟨k, n, s⟩ ⟨k', n', s'⟩ d).2]) ∧ Below w.heap.size w w' := by
  go_enter Tryd.func51, Tryd.ntmps51
  go_wp2_with fail
  refine (known_any _ _ _ _ _ _ _ _).mono ?_
  rintro e w1 ⟨rfl, hb⟩
  have hk := kept hb
  have hz0 := hb.size
  simp only [World.size_alloc] at hz0
  obtain ⟨hz, hz1, hB, x0, x1, x2, y0, y1, y2⟩ := behind2 hb
  have S1 : Slot w1 (w.heap.size + 1) _ _ _ := ⟨hz1, x0, x1, x2, y0, y1, y2⟩
  obtain ⟨hc, hf⟩ := hk
  go_wp2_with fail
  · refine bodyPost_ret (by simp [results, Tryd.results51, go_sem, x0, x1, x2]; try rfl) rfl ?_
    refine ⟨rt ?_, by go_grown⟩
    simp_all [join, nul]
  refine wp_loop_rounds 3 ?_
  rw [rounds_succ]
  go_wp2_with fail
  · refine bodyPost_ret (by simp [results, Tryd.results51, go_sem, x0, x1, x2, hz, hz1]; try rfl) rfl ?_
    refine ⟨rt ?_, by go_grown⟩
    simp_all [join]
  all_goals
    rw [rounds_succ]
    go_wp2_with fail
    · refine bodyPost_ret (by simp [results, Tryd.results51, go_sem, x0, x1, x2, hz, hz1]; try rfl) rfl ?_
      refine ⟨rt ?_, by go_grown⟩
      simp_all [join]
    all_goals
      rw [rounds_succ]
      go_wp2_with fail
      refine (unk_any _ _ _ _ _ _ _).mono ?_
      rintro e w2 ⟨rfl, hb2⟩
      have hB2 : Below w.heap.size w w2 := into (by go_grown) hb2
      have S2 := ((S1.alloc _).alloc _).below hb2
      obtain ⟨p, p0, p1, p2, q0, q1, q2⟩ := S2
      have S2 : Slot w2 (w.heap.size + 1) _ _ _ := ⟨p, p0, p1, p2, q0, q1, q2⟩
      clear hb2
      go_wp2_with fail
      try (
        refine bodyPost_ret (by simp [results, Tryd.results51, go_sem, p0, p1, p2]; try rfl) rfl ?_
        refine ⟨rt ?_, by go_grown⟩
        simp_all [join, nul])
      · refine (tru_any _ _).mono ?_
        rintro e w3 ⟨rfl, hb3⟩
        have hB3 : Below w.heap.size w w3 := into (by go_grown) hb3
        have S3 := S2.below hb3
        obtain ⟨r, r0, r1, r2, s0, s1, s2⟩ := S3
        clear hb3
        go_wp2_with fail
        refine bodyPost_ret (by simp [results, Tryd.results51, go_sem, r0, r1, r2]; try rfl) rfl ?_
        refine ⟨rt ?_, by go_grown⟩
        simp_all [join]
end Go.Proofs.YtmfkdpfcpdmkdaaDoor.vv
namespace Go.Proofs.YtmfkdpfcpdmkdaaDoor.vv
open Go.ChangeShapes Go.WideShapes Go.ChangeAt Go.RowKit
set_option linter.unusedVariables false
set_option linter.unusedSimpArgs false
set_option maxHeartbeats 400000
set_option maxRecDepth 100000
theorem hold_any (d k n k' n' : Int) (s s' : ByteArray) (w : World) :
    Calls Tryd.prog 52 #[.int .i64 d, .agg #[.int .i64 k, .int .i64 n, .string s, .int .i64 k', .int .i64 n', .string s']] w fun e w' => e = .returned (.tuple #[.agg #[.int .i64 (hold d ⟨k, n, s⟩ ⟨k', n', s'⟩).1.k, .int .i64 (hold d ⟨k, n, s⟩ ⟨k', n', s'⟩).1.n, .string (hold d ⟨k, n, s⟩ ⟨k', n', s'⟩).1.t], .int .i64 (hold d ⟨k, n, s⟩ ⟨k', n', s'⟩).2]) ∧ Below w.heap.size w w' := by
  go_enter Tryd.func52, Tryd.ntmps52
  go_wp2_with fail
  refine (unk_any _ _ _ _ _ _ _).mono ?_
  rintro e w1 ⟨rfl, hb⟩
  have hk := kept hb
  obtain ⟨hz, hz1, hB, x0, x1, x2, y0, y1, y2⟩ := behind2 hb
  have S1 : Slot w1 (w.heap.size + 1) _ _ _ := ⟨hz1, x0, x1, x2, y0, y1, y2⟩
  obtain ⟨hc, hf⟩ := hk
  go_wp2_with fail
  · refine bodyPost_ret (by simp [results, Tryd.results52, go_sem, x0, x1, x2]; try rfl) rfl ?_
    refine ⟨rt ?_, by go_grown⟩
    simp_all [hold, nul]
  · refine bodyPost_ret (by simp [results, Tryd.results52, go_sem, x0, x1, x2]; try rfl) rfl ?_
    refine ⟨rt ?_, by go_grown⟩
    simp_all [hold, nul]
  · refine (ord_any _ _ _ _ _ _ _).mono ?_
    rintro e w2 ⟨rfl, hb2⟩
    have hB2 : Below w.heap.size w w2 := into hB hb2
    have S2 := S1.below hb2
    clear hb2
    go_wp2_with fail
    all_goals
      refine (tru_any _ _).mono ?_
      rintro e w3 ⟨rfl, hb3⟩
      have hB3 : Below w.heap.size w w3 := into hB2 hb3
      obtain ⟨r, r0, r1, r2, s0, s1, s2⟩ := S2.below hb3
      clear hb3
      go_wp2_with fail
      refine bodyPost_ret (by simp [results, Tryd.results52, go_sem, r0, r1, r2]; try rfl) rfl ?_
      refine ⟨rt ?_, by go_grown⟩
      simp_all [hold]
end Go.Proofs.YtmfkdpfcpdmkdaaDoor.vv
namespace Go.Proofs.YtmfkdpfcpdmkdaaDoor.vv
open Go.ChangeShapes Go.WideShapes Go.ChangeAt Go.RowKit
set_option linter.unusedVariables false
set_option linter.unusedSimpArgs false
set_option maxHeartbeats 400000
set_option maxRecDepth 100000
theorem r2 {a : Int} {x : Bool} {p : Int × Bool} (h : p = (a, x)) : Ending.returned (.tuple #[.int .i64 a, .bool x]) = .returned (.tuple #[.int .i64 p.1, .bool p.2]) := by rw [h]
theorem below_drawn {w : World} (n : Nat) : Below w.heap.size w (w.drewN n) := ⟨rfl, rfl, rfl, Nat.le_refl _, fun _ _ => rfl⟩
theorem tms_any (a b : Int) (w : World) :
    Calls Tryd.prog 90 #[.int .i64 a, .int .i64 b] w fun e w' => e = .returned (.tuple #[.int .i64 (tms a b).1, .bool (tms a b).2]) ∧ Below w.heap.size w w' := by
  by_cases h0 : a = 0
  · subst h0
    go_enter Tryd.func90, Tryd.ntmps90
    go_wp2
    go_ret2
    exact ⟨r2 rfl, by go_grown⟩
  · by_cases h1 : a = -1
    · subst h1
      go_enter Tryd.func90, Tryd.ntmps90
      go_wp2
      go_ret2
      exact ⟨r2 rfl, by go_grown⟩
    · have h2 : (a == 0) = false := by simp [h0]
      have h3 : (a == -1) = false := by simp [h1]
      go_enter Tryd.func90, Tryd.ntmps90
      go_wp2
      go_quiet (fail)
      go_wp2
      go_ret2
      refine ⟨r2 ?_, below_drawn _⟩
      simp [tms, h0, h1]
theorem cpt_any (k a b : Int) (w : World) :
    Calls Tryd.prog 68 #[.int .i64 k, .int .i64 a, .int .i64 b] w fun e w' => e = .returned (.tuple #[.int .i64 (cpt k a b).1, .bool (cpt k a b).2]) ∧ Below w.heap.size w w' := by
  by_cases h0 : k = 8
  · subst h0
    go_enter Tryd.func68, Tryd.ntmps68
    go_wp2
    all_goals (go_ret2; refine ⟨r2 ?_, by go_grown⟩; simp_all [cpt])
  · by_cases h1 : k = 9
    · subst h1
      go_enter Tryd.func68, Tryd.ntmps68
      go_wp2
      all_goals (go_ret2; refine ⟨r2 ?_, by go_grown⟩; simp_all [cpt])
    · go_enter Tryd.func68, Tryd.ntmps68
      go_wp2_with fail
      refine (tms_any _ _ _).mono ?_
      rintro e w1 ⟨rfl, hb⟩
      go_wp2_with fail
      go_ret2
      refine ⟨r2 ?_, hb⟩
      simp [cpt, h0, h1]
theorem reck_any (d k n k' n' : Int) (s s' : ByteArray) (w : World) :
    Calls Tryd.prog 53 #[.int .i64 d, .agg #[.int .i64 k, .int .i64 n, .string s, .int .i64 k', .int .i64 n', .string s']] w fun e w' => e = .returned (.tuple #[.agg #[.int .i64 (reck d ⟨k, n, s⟩ ⟨k', n', s'⟩).1.k, .int .i64 (reck d ⟨k, n, s⟩ ⟨k', n', s'⟩).1.n, .string (reck d ⟨k, n, s⟩ ⟨k', n', s'⟩).1.t], .int .i64 (reck d ⟨k, n, s⟩ ⟨k', n', s'⟩).2]) ∧ Below w.heap.size w w' := by
  go_enter Tryd.func53, Tryd.ntmps53
  go_wp2_with fail
  refine (known_any _ _ _ _ _ _ _ _).mono ?_
  rintro e w1 ⟨rfl, hb⟩
  have hk := kept hb
  obtain ⟨hz, hz1, hB, x0, x1, x2, y0, y1, y2⟩ := behind2 hb
  have S1 : Slot w1 (w.heap.size + 1) _ _ _ := ⟨hz1, x0, x1, x2, y0, y1, y2⟩
  obtain ⟨hc, hf⟩ := hk
  go_wp2_with fail
  · refine bodyPost_ret (by simp [results, Tryd.results53, go_sem, x0, x1, x2]; try rfl) rfl ?_
    refine ⟨rt ?_, by go_grown⟩
    simp_all [reck, nul]
  · refine (unk_any _ _ _ _ _ _ _).mono ?_
    rintro e w2 ⟨rfl, hb2⟩
    have hB2 : Below w.heap.size w w2 := into hB hb2
    obtain ⟨p, p0, p1, p2, q0, q1, q2⟩ := S1.below hb2
    have S2 : Slot w2 (w.heap.size + 1) _ _ _ := ⟨p, p0, p1, p2, q0, q1, q2⟩
    obtain ⟨hc2, hf2⟩ := kept hb2
    clear hb2
    go_wp2_with fail
    · refine bodyPost_ret (by simp [results, Tryd.results53, go_sem, p0, p1, p2]; try rfl) rfl ?_
      refine ⟨rt ?_, by go_grown⟩
      simp_all [reck, nul]
    · refine (cpt_any _ _ _ _).mono ?_
      rintro e w3 ⟨rfl, hb3⟩
      have hB3 : Below w.heap.size w w3 := into hB2 hb3
      obtain ⟨r, r0, r1, r2, s0, s1, s2⟩ := S2.below hb3
      clear hb3
      go_wp2_with fail
      all_goals
        refine bodyPost_ret (by simp [results, Tryd.results53, go_sem, r0, r1, r2]; try rfl) rfl ?_
        refine ⟨rt ?_, by go_grown⟩
        simp_all [reck, nul]
end Go.Proofs.YtmfkdpfcpdmkdaaDoor.vv
namespace Go.Proofs.YtmfkdpfcpdmkdaaDoor.vv
open Go.ChangeShapes Go.WideShapes Go.ChangeAt Go.RowKit
set_option linter.unusedVariables false
set_option linter.unusedSimpArgs false
set_option maxHeartbeats 1000000
theorem new3 (w : World) (o p q r : Obj) : ((((w.alloc o).alloc p).alloc q).alloc r).heap[w.heap.size + 2]? = some q := by
  rw [← new2 w o p q]
  exact Below.heap_alloc _ _ _ (by simp)
theorem ri2 {a b c d : Int} (h : a = b) (g : c = d) : Ending.returned (.tuple #[.int .i64 a, .int .i64 c]) = .returned (.tuple #[.int .i64 b, .int .i64 d]) := by rw [h, g]
theorem two_any (d k n k' n' : Int) (s s' : ByteArray) (w : World) :
    Calls Tryd.prog 33 #[.int .i64 d, .agg #[.int .i64 k, .int .i64 n, .string s], .agg #[.int .i64 k', .int .i64 n', .string s']] w fun e w' => e = .returned (.tuple #[.agg #[.int .i64 (two d ⟨k, n, s⟩ ⟨k', n', s'⟩).1.k, .int .i64 (two d ⟨k, n, s⟩ ⟨k', n', s'⟩).1.n, .string (two d ⟨k, n, s⟩ ⟨k', n', s'⟩).1.t], .int .i64 (two d ⟨k, n, s⟩ ⟨k', n', s'⟩).2]) ∧ Below w.heap.size w w' := by
  go_enter Tryd.func33, Tryd.ntmps33
  go_wp2_with fail
  refine (chk2_any _ _ _ _ _ _ _).mono ?_
  rintro e w1 ⟨rfl, hb⟩
  obtain ⟨x0, x1, x2, y0, y1, y2⟩ := has3 (new3 _ _ _ _ _) hb
  have hz := hb.size
  simp only [World.size_alloc] at hz
  have hz2 : w.heap.size + 2 < w1.heap.size := by omega
  have hB : Below w.heap.size w w1 := into (by go_grown) hb
  have S1 : Slot w1 (w.heap.size + 2) _ _ _ := ⟨hz2, x0, x1, x2, y0, y1, y2⟩
  obtain ⟨hc, hf⟩ := kept hb
  clear hb
  go_wp2_with fail
  · refine bodyPost_ret (by simp [results, Tryd.results33, go_sem, x0, x1, x2]; try rfl) rfl ?_
    refine ⟨rt ?_, by go_grown⟩
    simp_all [two, nul]
  · refine (join_any _ _ _ _ _ _ _ _).mono ?_
    rintro e w2 ⟨rfl, hb2⟩
    have hB2 : Below w.heap.size w w2 := into hB hb2
    obtain ⟨p, p0, p1, p2, q0, q1, q2⟩ := S1.below hb2
    clear hb2
    go_wp2_with fail
    refine bodyPost_ret (by simp [results, Tryd.results33, go_sem, p0, p1, p2]; try rfl) rfl ?_
    refine ⟨rt ?_, by go_grown⟩
    simp_all [two]
  · refine (join_any _ _ _ _ _ _ _ _).mono ?_
    rintro e w2 ⟨rfl, hb2⟩
    have hB2 : Below w.heap.size w w2 := into hB hb2
    obtain ⟨p, p0, p1, p2, q0, q1, q2⟩ := S1.below hb2
    clear hb2
    go_wp2_with fail
    refine bodyPost_ret (by simp [results, Tryd.results33, go_sem, p0, p1, p2]; try rfl) rfl ?_
    refine ⟨rt ?_, by go_grown⟩
    simp_all [two]
  · refine (hold_any _ _ _ _ _ _ _ _).mono ?_
    rintro e w2 ⟨rfl, hb2⟩
    have hB2 : Below w.heap.size w w2 := into hB hb2
    obtain ⟨p, p0, p1, p2, q0, q1, q2⟩ := S1.below hb2
    clear hb2
    go_wp2_with fail
    refine bodyPost_ret (by simp [results, Tryd.results33, go_sem, p0, p1, p2]; try rfl) rfl ?_
    refine ⟨rt ?_, by go_grown⟩
    simp_all [two]
  · refine (hold_any _ _ _ _ _ _ _ _).mono ?_
    rintro e w2 ⟨rfl, hb2⟩
    have hB2 : Below w.heap.size w w2 := into hB hb2
    obtain ⟨p, p0, p1, p2, q0, q1, q2⟩ := S1.below hb2
    clear hb2
    go_wp2_with fail
    refine bodyPost_ret (by simp [results, Tryd.results33, go_sem, p0, p1, p2]; try rfl) rfl ?_
    refine ⟨rt ?_, by go_grown⟩
    simp_all [two]
  · refine (reck_any _ _ _ _ _ _ _ _).mono ?_
    rintro e w2 ⟨rfl, hb2⟩
    have hB2 : Below w.heap.size w w2 := into hB hb2
    obtain ⟨p, p0, p1, p2, q0, q1, q2⟩ := S1.below hb2
    clear hb2
    go_wp2_with fail
    refine bodyPost_ret (by simp [results, Tryd.results33, go_sem, p0, p1, p2]; try rfl) rfl ?_
    refine ⟨rt ?_, by go_grown⟩
    simp_all [two]
  · refine (reck_any _ _ _ _ _ _ _ _).mono ?_
    rintro e w2 ⟨rfl, hb2⟩
    have hB2 : Below w.heap.size w w2 := into hB hb2
    obtain ⟨p, p0, p1, p2, q0, q1, q2⟩ := S1.below hb2
    clear hb2
    go_wp2_with fail
    refine bodyPost_ret (by simp [results, Tryd.results33, go_sem, p0, p1, p2]; try rfl) rfl ?_
    refine ⟨rt ?_, by go_grown⟩
    simp_all [two]
  · refine (reck_any _ _ _ _ _ _ _ _).mono ?_
    rintro e w2 ⟨rfl, hb2⟩
    have hB2 : Below w.heap.size w w2 := into hB hb2
    obtain ⟨p, p0, p1, p2, q0, q1, q2⟩ := S1.below hb2
    clear hb2
    go_wp2_with fail
    refine bodyPost_ret (by simp [results, Tryd.results33, go_sem, p0, p1, p2]; try rfl) rfl ?_
    refine ⟨rt ?_, by go_grown⟩
    simp_all [two]
  · refine bodyPost_ret (by simp [results, Tryd.results33, go_sem, x0, x1, x2]; try rfl) rfl ?_
    refine ⟨rt ?_, by go_grown⟩
    simp_all [two, nul]
end Go.Proofs.YtmfkdpfcpdmkdaaDoor.vv
namespace Go.Proofs.YtmfkdpfcpdmkdaaDoor.vv
open Go.ChangeShapes Go.WideShapes Go.ChangeAt Go.RowKit
set_option linter.unusedVariables false
set_option linter.unusedSimpArgs false
set_option maxHeartbeats 400000
set_option maxRecDepth 100000
theorem turn_any (k n : Int) (s : ByteArray) (w : World) :
    Calls Tryd.prog 49 #[.agg #[.int .i64 k, .int .i64 n, .string s]] w fun e w' => e = .returned (.tuple #[.agg #[.int .i64 (turn ⟨k, n, s⟩).1.k, .int .i64 (turn ⟨k, n, s⟩).1.n, .string (turn ⟨k, n, s⟩).1.t], .int .i64 (turn ⟨k, n, s⟩).2]) ∧ Below w.heap.size w w' := by
  go_enter Tryd.func49, Tryd.ntmps49
  go_wp2_with fail
  · go_returns
    refine ⟨rt ?_, by go_grown⟩
    simp_all [turn, nul]
  · refine (tru_any _ _).mono ?_
    rintro e w1 ⟨rfl, hb⟩
    obtain ⟨hz, hz1, hB, x0, x1, x2, y0, y1, y2⟩ := behind2 hb
    go_wp2_with fail
    refine bodyPost_ret (by simp [results, Tryd.results49, go_sem, x0, x1, x2]; try rfl) rfl ?_
    refine ⟨rt ?_, by go_grown⟩
    simp_all [turn, nul]
  · go_returns
    refine ⟨rt ?_, by go_grown⟩
    simp_all [turn, nul]
theorem one_any (d k n : Int) (s : ByteArray) (w : World) :
    Calls Tryd.prog 32 #[.int .i64 d, .agg #[.int .i64 k, .int .i64 n, .string s]] w fun e w' => e = .returned (.tuple #[.agg #[.int .i64 (one d ⟨k, n, s⟩).1.k, .int .i64 (one d ⟨k, n, s⟩).1.n, .string (one d ⟨k, n, s⟩).1.t], .int .i64 (one d ⟨k, n, s⟩).2]) ∧ Below w.heap.size w w' := by
  go_enter Tryd.func32, Tryd.ntmps32
  go_wp2_with fail
  refine (chk_any _ _ _ _).mono ?_
  rintro e w1 ⟨rfl, hb⟩
  have hk := kept hb
  obtain ⟨hz, hz1, hB, x0, x1, x2, y0, y1, y2⟩ := behind2 hb
  have S1 : Slot w1 (w.heap.size + 1) _ _ _ := ⟨hz1, x0, x1, x2, y0, y1, y2⟩
  obtain ⟨hc, hf⟩ := hk
  clear hb
  go_wp2_with fail
  · refine bodyPost_ret (by simp [results, Tryd.results32, go_sem, x0, x1, x2]; try rfl) rfl ?_
    refine ⟨rt ?_, by go_grown⟩
    simp_all [one, nul]
  · refine (tru_any _ _).mono ?_
    rintro e w2 ⟨rfl, hb2⟩
    have hB2 : Below w.heap.size w w2 := into hB hb2
    obtain ⟨p, p0, p1, p2, q0, q1, q2⟩ := S1.below hb2
    clear hb2
    go_wp2_with fail
    refine bodyPost_ret (by simp [results, Tryd.results32, go_sem, p0, p1, p2]; try rfl) rfl ?_
    refine ⟨rt ?_, by go_grown⟩
    simp_all [one]
  · refine (turn_any _ _ _ _).mono ?_
    rintro e w2 ⟨rfl, hb2⟩
    have hB2 : Below w.heap.size w w2 := into hB hb2
    obtain ⟨p, p0, p1, p2, q0, q1, q2⟩ := S1.below hb2
    clear hb2
    go_wp2_with fail
    refine bodyPost_ret (by simp [results, Tryd.results32, go_sem, p0, p1, p2]; try rfl) rfl ?_
    refine ⟨rt ?_, by go_grown⟩
    simp_all [one]
  · refine bodyPost_ret (by simp [results, Tryd.results32, go_sem, x0, x1, x2]; try rfl) rfl ?_
    refine ⟨rt ?_, by go_grown⟩
    simp_all [one, nul]
end Go.Proofs.YtmfkdpfcpdmkdaaDoor.vv
