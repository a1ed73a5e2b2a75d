import Derived.Test.YtdeollmeljaaoaaDoorAuk
import Derived.Test.YtdeollmeljaaoaaDoorAvk
import Derived.Test.YtdeollmeljaaoaaDoorAwk
import Derived.Test.YtdeollmeljaaoaaDoorAbk
import Derived.Defers
import Derived.Recover
/- A statement read, whole; the closure that catches a reader's fault. -/
namespace Go.Proofs.YtdeollmeljaaoaaDoor.rd
open Go.ChangeShapes Go.WideShapes Go.ChangeAt Go.RowKit Go.Proofs.YtdeollmeljaaoaaDoor.cs
set_option linter.unusedVariables false
set_option linter.unusedSimpArgs false
set_option maxHeartbeats 4000000
set_option maxRecDepth 100000
theorem sentence_any {w : World} {B : Nat} {a : Option Addr} {n c : Nat} {L : List Tk} (h : Rs w B a n c L 0) :
    Calls Tryd.prog 30 #[.pointer (some ⟨B, 0, none⟩)] w (Sy w B (stmtF L n)) := by
  by_cases m0 : mayB L 0 sCREATE = true
  · exact stmt_CREATE h m0
  have m0 : mayB L 0 sCREATE = false := by simpa using m0
  by_cases m1 : mayB L 0 sDROP = true
  · exact stmt_DROP h m0 m1
  have m1 : mayB L 0 sDROP = false := by simpa using m1
  by_cases m2 : mayB L 0 sINSERT = true
  · exact stmt_INSERT h m0 m1 m2
  have m2 : mayB L 0 sINSERT = false := by simpa using m2
  by_cases m3 : mayB L 0 sSELECT = true
  · exact stmt_SELECT h m0 m1 m2 m3
  have m3 : mayB L 0 sSELECT = false := by simpa using m3
  by_cases m4 : mayB L 0 sUPDATE = true
  · exact stmt_UPDATE h m0 m1 m2 m3 m4
  have m4 : mayB L 0 sUPDATE = false := by simpa using m4
  by_cases m5 : mayB L 0 sDELETE = true
  · exact stmt_DELETE h m0 m1 m2 m3 m4 m5
  have m5 : mayB L 0 sDELETE = false := by simpa using m5
  by_cases m6 : mayB L 0 sBEGIN = true
  · exact stmt_BEGIN h m0 m1 m2 m3 m4 m5 m6
  have m6 : mayB L 0 sBEGIN = false := by simpa using m6
  by_cases m7 : mayB L 0 sCOMMIT = true
  · exact stmt_COMMIT h m0 m1 m2 m3 m4 m5 m6 m7
  have m7 : mayB L 0 sCOMMIT = false := by simpa using m7
  by_cases m8 : mayB L 0 sROLLBACK = true
  · exact stmt_ROLLBACK h m0 m1 m2 m3 m4 m5 m6 m7 m8
  · exact stmt_none h m0 m1 m2 m3 m4 m5 m6 m7 (by simpa using m8)
/-- The closure, where nothing is wrong. -/
theorem catch_idle (x y z : Addr) (w : World) :
    CallsD Tryd.prog 29 #[.pointer (some x), .pointer (some y), .pointer (some z)] .returning w fun e u' w' => e = .returned (.tuple #[]) ∧ u' = .returning ∧ w' = w := by
  refine callsD_of_wpS Tryd.func29 rfl fun c₀ cs hu => ?_
  apply wpS_seq
  apply wpS_region
  simp [wpOpsS, go_sem, recoverD, hu, Tryd.ntmps29, Exit.thenS]
  apply wpS_seq
  apply wpS_region
  simp [wpOpsS, go_sem, Exit.thenS]
  refine wpS_cond (t := false) (by simp [Act.eval, Array.replicate]) ?_
  simp only [Bool.false_eq_true, if_false]
  refine wpS_of_wp (wp_skip ?_)
  cases c₀
  simp_all [bodyPostS, results, Tryd.results29]
/-- The closure, where a reader has died of a fault. -/
theorem bx2 {w : World} {B : Nat} {x y : Value} {T : TypeId} (h : w.heap[B]? = some (.cells #[x, y] T (0, 0))) : w.cell? ⟨B, 0, none⟩ = some x ∧ w.cell? ⟨B, 1, none⟩ = some y := by
  refine ⟨?_, ?_⟩ <;> (simp only [World.cell?]; rw [h]; rfl)
theorem bx1f {w : World} {B : Nat} {x : Value} {T : TypeId} (h : w.heap[B]? = some (.cells #[x] T (0, 0))) : w.frozen? ⟨B, 0, none⟩ = false := by
  simp only [World.frozen?]; rw [h]; rfl
theorem far12 {w : World} {R k i : Nat} {v y0 y1 y2 y3 y4 y5 y6 y7 y8 y9 y10 y11 : Value} (hk : k ≠ R) (h : w.cell? ⟨k, i, none⟩ = some v) : (World.setCell (World.setCell (World.setCell (World.setCell (World.setCell (World.setCell (World.setCell (World.setCell (World.setCell (World.setCell (World.setCell (World.setCell w ⟨R, 0, none⟩ y0) ⟨R, 1, none⟩ y1) ⟨R, 2, none⟩ y2) ⟨R, 3, none⟩ y3) ⟨R, 4, none⟩ y4) ⟨R, 5, none⟩ y5) ⟨R, 6, none⟩ y6) ⟨R, 7, none⟩ y7) ⟨R, 8, none⟩ y8) ⟨R, 9, none⟩ y9) ⟨R, 10, none⟩ y10) ⟨R, 11, none⟩ y11).cell? ⟨k, i, none⟩ = some v := by
  unfold World.cell? at h ⊢
  rw [set12_far _ _ _ _ _ _ _ _ _ _ _ _ k hk]
  exact h
theorem set12_same {w : World} {R : Nat} {x0 x1 x2 x3 x4 x5 x6 x7 x8 x9 x10 x11 : Value} {T : TypeId} (h : w.heap[R]? = some (.cells #[x0, x1, x2, x3, x4, x5, x6, x7, x8, x9, x10, x11] T (0, 0))) (y0 y1 y2 y3 y4 y5 y6 y7 y8 y9 y10 y11 : Value) : (World.setCell (World.setCell (World.setCell (World.setCell (World.setCell (World.setCell (World.setCell (World.setCell (World.setCell (World.setCell (World.setCell (World.setCell w ⟨R, 0, none⟩ y0) ⟨R, 1, none⟩ y1) ⟨R, 2, none⟩ y2) ⟨R, 3, none⟩ y3) ⟨R, 4, none⟩ y4) ⟨R, 5, none⟩ y5) ⟨R, 6, none⟩ y6) ⟨R, 7, none⟩ y7) ⟨R, 8, none⟩ y8) ⟨R, 9, none⟩ y9) ⟨R, 10, none⟩ y10) ⟨R, 11, none⟩ y11).heap[R]? = some (.cells #[y0, y1, y2, y3, y4, y5, y6, y7, y8, y9, y10, y11] T (0, 0)) := by
  have h0 := Lib.heap_setCell_same (i := 0) h y0
  have h1 := Lib.heap_setCell_same (i := 1) h0 y1
  have h2 := Lib.heap_setCell_same (i := 2) h1 y2
  have h3 := Lib.heap_setCell_same (i := 3) h2 y3
  have h4 := Lib.heap_setCell_same (i := 4) h3 y4
  have h5 := Lib.heap_setCell_same (i := 5) h4 y5
  have h6 := Lib.heap_setCell_same (i := 6) h5 y6
  have h7 := Lib.heap_setCell_same (i := 7) h6 y7
  have h8 := Lib.heap_setCell_same (i := 8) h7 y8
  have h9 := Lib.heap_setCell_same (i := 9) h8 y9
  have h10 := Lib.heap_setCell_same (i := 10) h9 y10
  have h11 := Lib.heap_setCell_same (i := 11) h10 y11
  simpa using h11
theorem below12 {A R : Nat} {w0 w : World} (hb : Below A w0 w) (hA : A ≤ R) (y0 y1 y2 y3 y4 y5 y6 y7 y8 y9 y10 y11 : Value) : Below A w0 (World.setCell (World.setCell (World.setCell (World.setCell (World.setCell (World.setCell (World.setCell (World.setCell (World.setCell (World.setCell (World.setCell (World.setCell w ⟨R, 0, none⟩ y0) ⟨R, 1, none⟩ y1) ⟨R, 2, none⟩ y2) ⟨R, 3, none⟩ y3) ⟨R, 4, none⟩ y4) ⟨R, 5, none⟩ y5) ⟨R, 6, none⟩ y6) ⟨R, 7, none⟩ y7) ⟨R, 8, none⟩ y8) ⟨R, 9, none⟩ y9) ⟨R, 10, none⟩ y10) ⟨R, 11, none⟩ y11) :=
  ((((((((((((hb.setCell (p := ⟨R, 0, none⟩) hA y0).setCell (p := ⟨R, 1, none⟩) hA y1).setCell (p := ⟨R, 2, none⟩) hA y2).setCell (p := ⟨R, 3, none⟩) hA y3).setCell (p := ⟨R, 4, none⟩) hA y4).setCell (p := ⟨R, 5, none⟩) hA y5).setCell (p := ⟨R, 6, none⟩) hA y6).setCell (p := ⟨R, 7, none⟩) hA y7).setCell (p := ⟨R, 8, none⟩) hA y8).setCell (p := ⟨R, 9, none⟩) hA y9).setCell (p := ⟨R, 10, none⟩) hA y10).setCell (p := ⟨R, 11, none⟩) hA y11)
theorem fault_end {w W : World} {R : Nat} {p q : Int} (hb : Below R w W) (hR : W.heap[R]? = some (.cells z12 33 (0, 0))) (hP : W.heap[R + 1]? = some (.cells #[.int .i64 0] 3 (0, 0))) (hQ : W.heap[R + 2]? = some (.cells #[.int .i64 0] 36 (0, 0))) :
    Below R w (((World.setCell (World.setCell (World.setCell (World.setCell (World.setCell (World.setCell (World.setCell (World.setCell (World.setCell (World.setCell (World.setCell (World.setCell W ⟨R, 0, none⟩ (.int .i64 0)) ⟨R, 1, none⟩ (.string ⟨#[]⟩)) ⟨R, 2, none⟩ (.slice none 0 0)) ⟨R, 3, none⟩ (.slice none 0 0)) ⟨R, 4, none⟩ (.slice none 0 0)) ⟨R, 5, none⟩ (.bool false)) ⟨R, 6, none⟩ (.slice none 0 0)) ⟨R, 7, none⟩ (.string ⟨#[]⟩)) ⟨R, 8, none⟩ (.bool false)) ⟨R, 9, none⟩ (.int .i64 0)) ⟨R, 10, none⟩ (.string ⟨#[]⟩)) ⟨R, 11, none⟩ (.slice none 0 0)).setCell ⟨R + 1, 0, none⟩ (.int .i64 p)).setCell ⟨R + 2, 0, none⟩ (.int .i64 q)).drew ∧ (((World.setCell (World.setCell (World.setCell (World.setCell (World.setCell (World.setCell (World.setCell (World.setCell (World.setCell (World.setCell (World.setCell (World.setCell W ⟨R, 0, none⟩ (.int .i64 0)) ⟨R, 1, none⟩ (.string ⟨#[]⟩)) ⟨R, 2, none⟩ (.slice none 0 0)) ⟨R, 3, none⟩ (.slice none 0 0)) ⟨R, 4, none⟩ (.slice none 0 0)) ⟨R, 5, none⟩ (.bool false)) ⟨R, 6, none⟩ (.slice none 0 0)) ⟨R, 7, none⟩ (.string ⟨#[]⟩)) ⟨R, 8, none⟩ (.bool false)) ⟨R, 9, none⟩ (.int .i64 0)) ⟨R, 10, none⟩ (.string ⟨#[]⟩)) ⟨R, 11, none⟩ (.slice none 0 0)).setCell ⟨R + 1, 0, none⟩ (.int .i64 p)).setCell ⟨R + 2, 0, none⟩ (.int .i64 q)).drew.heap[R]? = some (.cells z12 33 (0, 0)) ∧ (((World.setCell (World.setCell (World.setCell (World.setCell (World.setCell (World.setCell (World.setCell (World.setCell (World.setCell (World.setCell (World.setCell (World.setCell W ⟨R, 0, none⟩ (.int .i64 0)) ⟨R, 1, none⟩ (.string ⟨#[]⟩)) ⟨R, 2, none⟩ (.slice none 0 0)) ⟨R, 3, none⟩ (.slice none 0 0)) ⟨R, 4, none⟩ (.slice none 0 0)) ⟨R, 5, none⟩ (.bool false)) ⟨R, 6, none⟩ (.slice none 0 0)) ⟨R, 7, none⟩ (.string ⟨#[]⟩)) ⟨R, 8, none⟩ (.bool false)) ⟨R, 9, none⟩ (.int .i64 0)) ⟨R, 10, none⟩ (.string ⟨#[]⟩)) ⟨R, 11, none⟩ (.slice none 0 0)).setCell ⟨R + 1, 0, none⟩ (.int .i64 p)).setCell ⟨R + 2, 0, none⟩ (.int .i64 q)).drew.heap[R + 1]? = some (.cells #[.int .i64 p] 3 (0, 0)) ∧ (((World.setCell (World.setCell (World.setCell (World.setCell (World.setCell (World.setCell (World.setCell (World.setCell (World.setCell (World.setCell (World.setCell (World.setCell W ⟨R, 0, none⟩ (.int .i64 0)) ⟨R, 1, none⟩ (.string ⟨#[]⟩)) ⟨R, 2, none⟩ (.slice none 0 0)) ⟨R, 3, none⟩ (.slice none 0 0)) ⟨R, 4, none⟩ (.slice none 0 0)) ⟨R, 5, none⟩ (.bool false)) ⟨R, 6, none⟩ (.slice none 0 0)) ⟨R, 7, none⟩ (.string ⟨#[]⟩)) ⟨R, 8, none⟩ (.bool false)) ⟨R, 9, none⟩ (.int .i64 0)) ⟨R, 10, none⟩ (.string ⟨#[]⟩)) ⟨R, 11, none⟩ (.slice none 0 0)).setCell ⟨R + 1, 0, none⟩ (.int .i64 p)).setCell ⟨R + 2, 0, none⟩ (.int .i64 q)).drew.heap[R + 2]? = some (.cells #[.int .i64 q] 36 (0, 0)) := by
  have h1 := below12 hb (Nat.le_refl R) (.int .i64 0) (.string ⟨#[]⟩) (.slice none 0 0) (.slice none 0 0) (.slice none 0 0) (.bool false) (.slice none 0 0) (.string ⟨#[]⟩) (.bool false) (.int .i64 0) (.string ⟨#[]⟩) (.slice none 0 0)
  have h2 := set12_same hR (.int .i64 0) (.string ⟨#[]⟩) (.slice none 0 0) (.slice none 0 0) (.slice none 0 0) (.bool false) (.slice none 0 0) (.string ⟨#[]⟩) (.bool false) (.int .i64 0) (.string ⟨#[]⟩) (.slice none 0 0)
  have h3 : ∀ k, k ≠ R → (World.setCell (World.setCell (World.setCell (World.setCell (World.setCell (World.setCell (World.setCell (World.setCell (World.setCell (World.setCell (World.setCell (World.setCell W ⟨R, 0, none⟩ (.int .i64 0)) ⟨R, 1, none⟩ (.string ⟨#[]⟩)) ⟨R, 2, none⟩ (.slice none 0 0)) ⟨R, 3, none⟩ (.slice none 0 0)) ⟨R, 4, none⟩ (.slice none 0 0)) ⟨R, 5, none⟩ (.bool false)) ⟨R, 6, none⟩ (.slice none 0 0)) ⟨R, 7, none⟩ (.string ⟨#[]⟩)) ⟨R, 8, none⟩ (.bool false)) ⟨R, 9, none⟩ (.int .i64 0)) ⟨R, 10, none⟩ (.string ⟨#[]⟩)) ⟨R, 11, none⟩ (.slice none 0 0)).heap[k]? = W.heap[k]? := fun k hk => set12_far _ _ _ _ _ _ _ _ _ _ _ _ k hk
  obtain ⟨X, hX⟩ : ∃ X, X = (World.setCell (World.setCell (World.setCell (World.setCell (World.setCell (World.setCell (World.setCell (World.setCell (World.setCell (World.setCell (World.setCell (World.setCell W ⟨R, 0, none⟩ (.int .i64 0)) ⟨R, 1, none⟩ (.string ⟨#[]⟩)) ⟨R, 2, none⟩ (.slice none 0 0)) ⟨R, 3, none⟩ (.slice none 0 0)) ⟨R, 4, none⟩ (.slice none 0 0)) ⟨R, 5, none⟩ (.bool false)) ⟨R, 6, none⟩ (.slice none 0 0)) ⟨R, 7, none⟩ (.string ⟨#[]⟩)) ⟨R, 8, none⟩ (.bool false)) ⟨R, 9, none⟩ (.int .i64 0)) ⟨R, 10, none⟩ (.string ⟨#[]⟩)) ⟨R, 11, none⟩ (.slice none 0 0)) := ⟨_, rfl⟩
  rw [← hX] at h1 h2 h3 ⊢
  have p1 := (h3 (R + 1) (by omega)).trans hP
  have q1 := (h3 (R + 2) (by omega)).trans hQ
  have e1 : (X.setCell ⟨R + 1, 0, none⟩ (.int .i64 p)).heap[R + 1]? = some (.cells #[.int .i64 p] 3 (0, 0)) := by simpa using Lib.heap_setCell_same (i := 0) p1 (.int .i64 p)
  have e2 : (X.setCell ⟨R + 1, 0, none⟩ (.int .i64 p)).heap[R + 2]? = some (.cells #[.int .i64 0] 36 (0, 0)) := (Below.heap_setCell _ _ _ _ (by simp)).trans q1
  have e3 : ((X.setCell ⟨R + 1, 0, none⟩ (.int .i64 p)).setCell ⟨R + 2, 0, none⟩ (.int .i64 q)).heap[R + 2]? = some (.cells #[.int .i64 q] 36 (0, 0)) := by simpa using Lib.heap_setCell_same (i := 0) e2 (.int .i64 q)
  refine ⟨((h1.setCell (p := ⟨R + 1, 0, none⟩) (by simp) _).setCell (p := ⟨R + 2, 0, none⟩) (by simp) _).drew, ?_, ?_, e3⟩
  · exact (Below.heap_setCell _ _ _ _ (by simp)).trans ((Below.heap_setCell _ _ _ _ (by simp)).trans h2)
  · exact (Below.heap_setCell _ _ _ _ (by simp)).trans e1
theorem ta_fault (p q : Int) (t : TypeId) (w : World) : (Instr.typeAssert (.iface 69 (.agg #[.int .i64 p, .int .i64 q])) t 69 false).run Tryd.prog w = .ok (.agg #[.int .i64 p, .int .i64 q]) w := by kernel_rfl
theorem catch_fault (R : Nat) (p q : Int) (older : List PanicEntry) (w : World) (hR : w.heap[R]? = some (.cells z12 33 (0, 0))) (hP : w.heap[R + 1]? = some (.cells #[.int .i64 0] 3 (0, 0))) (hQ : w.heap[R + 2]? = some (.cells #[.int .i64 0] 36 (0, 0))) :
    CallsD Tryd.prog 29 #[.pointer (some ⟨R, 0, none⟩), .pointer (some ⟨R + 1, 0, none⟩), .pointer (some ⟨R + 2, 0, none⟩)] (.panicking ({ v := .iface 69 (.agg #[.int .i64 p, .int .i64 q]), recovered := false } :: older)) w fun e u' w' => e = .returned (.tuple #[]) ∧ u' = .panicking ({ v := .iface 69 (.agg #[.int .i64 p, .int .i64 q]), recovered := true } :: older) ∧ Below R w w' ∧ w'.heap[R]? = some (.cells z12 33 (0, 0)) ∧ w'.heap[R + 1]? = some (.cells #[.int .i64 p] 3 (0, 0)) ∧ w'.heap[R + 2]? = some (.cells #[.int .i64 q] 36 (0, 0)) := by
  refine callsD_of_wpS Tryd.func29 rfl fun c₀ cs hu => ?_
  apply wpS_seq
  apply wpS_region
  simp [wpOpsS, go_sem, recoverD, hu, Tryd.ntmps29, Exit.thenS]
  apply wpS_seq
  apply wpS_region
  simp [wpOpsS, go_sem, Exit.thenS]
  refine wpS_cond (t := true) (by simp [Act.eval, Array.replicate]) ?_
  simp only [if_true]
  refine wpS_of_wp ?_
  refine Code.wp_mono (Q := fun e a' w' => e = Exit.normal ∧ a'.defers = [] ∧ Below R w w' ∧ w'.heap[R]? = some (.cells z12 33 (0, 0)) ∧ w'.heap[R + 1]? = some (.cells #[.int .i64 p] 3 (0, 0)) ∧ w'.heap[R + 2]? = some (.cells #[.int .i64 q] 36 (0, 0))) ?_ ?_
  · rintro e a' w' ⟨rfl, h0, h1, h2, h3, h4⟩
    cases c₀
    simp_all [bodyPostS, results, Tryd.results29]
  · simp only [List.size_toArray, List.length_cons, List.length_nil, Nat.reduceAdd, Nat.reduceSub, Array.replicate_succ, Array.replicate_zero, List.push_toArray, List.append_toArray, List.nil_append, List.cons_append, List.setIfInBounds_toArray, List.set_cons_zero, List.set_cons_succ]
    have HTA := ta_fault p q
    go_wp2_with fail
    refine code_nm (fun W hW => ?_)
    have hb : Below w.heap.size w W := by rw [hW]; exact (Below.refl _ _).alloc (Nat.le_refl _) _
    have hf : W.heap[w.heap.size]? = some (.cells #[.int .i64 p, .int .i64 q] 69 (0, 0)) := by rw [hW]; exact new0 _ _
    have hlR := blk_lt hR
    have hlP := blk_lt hP
    have hlQ := blk_lt hQ
    have hR' := (hb.block _ hlR).trans hR
    have hP' := (hb.block _ hlP).trans hP
    have hQ' := (hb.block _ hlQ).trans hQ
    obtain ⟨y0, y1, y2, y3, y4, y5, y6, y7, y8, y9, y10, y11, g0, g1, g2, g3, g4, g5, g6, g7, g8, g9, g10, g11⟩ := box12 hR'
    obtain ⟨z0, z1⟩ := bx2 hf
    have u0 := bx1 hP'
    have u1 := bx1f hP'
    have v0 := bx1 hQ'
    have v1 := bx1f hQ'
    have HF : Hid (w.heap.size ≠ R) := by show _ ≠ _; omega
    have HF1 : Hid (R + 1 ≠ w.heap.size) := by show _ ≠ _; omega
    have HB := Lib.hid (hb.mono (show R ≤ w.heap.size by omega))
    have HR' := Lib.hid hR'
    have HP' := Lib.hid hP'
    have HQ' := Lib.hid hQ'
    clear hW hb hf hR hP hQ hR' hP' hQ'
    refine wpT_begin (S := (fun wx => wx.cell? ⟨w.heap.size, 0, none⟩ = some (.int .i64 p) ∧ wx.cell? ⟨w.heap.size, 1, none⟩ = some (.int .i64 q))) [7] (by kernel_rfl) ?_ (fun hHeld => ?_)
    · (try dsimp only)
      (first | (with_reducible exact ⟨cell_dr z0, cell_dr z1⟩) | (with_reducible exact ⟨far12 HF.out (cell_dr z0), far12 HF.out (cell_dr z1)⟩) | (with_reducible exact ⟨cell_dr (far12 HF.out z0), cell_dr (far12 HF.out z1)⟩) | (with_reducible exact ⟨(World.cell?_setCell_far _ _ _ _ HF1.out).trans (far12 HF.out (cell_dr z0)), (World.cell?_setCell_far _ _ _ _ HF1.out).trans (far12 HF.out (cell_dr z1))⟩) | (with_reducible exact ⟨cell_dr ((World.cell?_setCell_far _ _ _ _ HF1.out).trans (far12 HF.out z0)), cell_dr ((World.cell?_setCell_far _ _ _ _ HF1.out).trans (far12 HF.out z1))⟩))
    refine wpAnyT_pure (i := 0) (oi := _) (v := ?_) rfl (by kernel_rfl) (by kernel_rfl) (by kernel_rfl) (by kernel_rfl) (fun _ _ _ h => h) (Or.inl ⟨by rfl, ?_⟩) (fun _ => by assumption) ?_
    rotate_left
    · (intro w hSw; go_simp)
      all_goals (with_reducible rfl)
    (try simp only [List.getElem_toArray, List.getElem_cons_zero, List.getElem_cons_succ, Act.put, List.setIfInBounds_toArray, List.set_cons_zero, List.set_cons_succ])
    refine wpAnyT_pure (i := 1) (oi := _) (v := ?_) rfl (by kernel_rfl) (by kernel_rfl) (by kernel_rfl) (by kernel_rfl) (fun _ _ _ h => h) (Or.inl ⟨by rfl, ?_⟩) (fun _ => by assumption) ?_
    rotate_left
    · (intro w hSw; go_simp)
      all_goals (with_reducible rfl)
    (try simp only [List.getElem_toArray, List.getElem_cons_zero, List.getElem_cons_succ, Act.put, List.setIfInBounds_toArray, List.set_cons_zero, List.set_cons_succ])
    refine wpAnyT_take (i := 2) (oi := _) (v := ?_) rfl (by kernel_rfl) (by kernel_rfl) (by kernel_rfl) (by kernel_rfl) (fun _ _ _ h => h) (Or.inl ⟨by rfl, ?_⟩) (by assumption) ?_
    rotate_left
    · (intro w hSw; (try dsimp only at hSw); go_simp)
      all_goals (with_reducible rfl)
    (try simp only [List.getElem_toArray, List.getElem_cons_zero, List.getElem_cons_succ, Act.put, List.setIfInBounds_toArray, List.set_cons_zero, List.set_cons_succ])
    refine wpAnyT_pure (i := 3) (oi := _) (v := ?_) rfl (by kernel_rfl) (by kernel_rfl) (by kernel_rfl) (by kernel_rfl) (fun _ _ _ h => h) (Or.inl ⟨by rfl, ?_⟩) (fun _ => by assumption) ?_
    rotate_left
    · (intro w hSw; go_simp)
      all_goals (with_reducible rfl)
    (try simp only [List.getElem_toArray, List.getElem_cons_zero, List.getElem_cons_succ, Act.put, List.setIfInBounds_toArray, List.set_cons_zero, List.set_cons_succ])
    refine wpAnyT_take (i := 4) (oi := _) (v := ?_) rfl (by kernel_rfl) (by kernel_rfl) (by kernel_rfl) (by kernel_rfl) (fun _ _ _ h => h) (Or.inl ⟨by rfl, ?_⟩) (by assumption) ?_
    rotate_left
    · (intro w hSw; (try dsimp only at hSw); go_simp)
      all_goals (with_reducible rfl)
    (try simp only [List.getElem_toArray, List.getElem_cons_zero, List.getElem_cons_succ, Act.put, List.setIfInBounds_toArray, List.set_cons_zero, List.set_cons_succ])
    refine wpAnyT_ready (rs := [5]) (by kernel_rfl) (by simp) ?_
    refine AllReadyT.cons rfl (fun K hK => ?_) AllReadyT.nil
    go_simp
    refine hK.out _ _ (fun _ => ?_) (fun hHeld0 => ?_)
    · (try dsimp only)
      (first | (with_reducible exact ⟨cell_dr z0, cell_dr z1⟩) | (with_reducible exact ⟨far12 HF.out (cell_dr z0), far12 HF.out (cell_dr z1)⟩) | (with_reducible exact ⟨cell_dr (far12 HF.out z0), cell_dr (far12 HF.out z1)⟩) | (with_reducible exact ⟨(World.cell?_setCell_far _ _ _ _ HF1.out).trans (far12 HF.out (cell_dr z0)), (World.cell?_setCell_far _ _ _ _ HF1.out).trans (far12 HF.out (cell_dr z1))⟩) | (with_reducible exact ⟨cell_dr ((World.cell?_setCell_far _ _ _ _ HF1.out).trans (far12 HF.out z0)), cell_dr ((World.cell?_setCell_far _ _ _ _ HF1.out).trans (far12 HF.out z1))⟩))
    have hHeld := hHeld0 (by kernel_rfl)
    clear hK K hHeld0
    (try simp only [List.getElem_toArray, List.getElem_cons_zero, List.getElem_cons_succ, Act.put, List.setIfInBounds_toArray, List.set_cons_zero, List.set_cons_succ])
    refine wpAnyT_ready (rs := [6]) (by kernel_rfl) (by simp) ?_
    refine AllReadyT.cons rfl (fun K hK => ?_) AllReadyT.nil
    go_simp
    refine hK.out _ _ (fun _ => ?_) (fun hHeld0 => ?_)
    · (try dsimp only)
      (first | (with_reducible exact ⟨cell_dr z0, cell_dr z1⟩) | (with_reducible exact ⟨far12 HF.out (cell_dr z0), far12 HF.out (cell_dr z1)⟩) | (with_reducible exact ⟨cell_dr (far12 HF.out z0), cell_dr (far12 HF.out z1)⟩) | (with_reducible exact ⟨(World.cell?_setCell_far _ _ _ _ HF1.out).trans (far12 HF.out (cell_dr z0)), (World.cell?_setCell_far _ _ _ _ HF1.out).trans (far12 HF.out (cell_dr z1))⟩) | (with_reducible exact ⟨cell_dr ((World.cell?_setCell_far _ _ _ _ HF1.out).trans (far12 HF.out z0)), cell_dr ((World.cell?_setCell_far _ _ _ _ HF1.out).trans (far12 HF.out z1))⟩))
    have hHeld := hHeld0 (by kernel_rfl)
    clear hK K hHeld0
    (try simp only [List.getElem_toArray, List.getElem_cons_zero, List.getElem_cons_succ, Act.put, List.setIfInBounds_toArray, List.set_cons_zero, List.set_cons_succ])
    refine wpAnyT_ready (rs := [7]) (by kernel_rfl) (by simp) ?_
    refine AllReadyT.cons rfl (fun K hK => ?_) AllReadyT.nil
    go_simp
    refine hK.out _ _ (noneB_off (by kernel_rfl)) (fun _ => ?_)
    clear hK K
    (try simp only [List.getElem_toArray, List.getElem_cons_zero, List.getElem_cons_succ, Act.put, List.setIfInBounds_toArray, List.set_cons_zero, List.set_cons_succ])
    refine wpAnyT_done (by kernel_rfl) ?_ _
    have hfe := fault_end (p := p) (q := q) HB.out HR'.out HP'.out HQ'.out
    exact ⟨rfl, rfl, hfe⟩
end Go.Proofs.YtdeollmeljaaoaaDoor.rd
