/- Leaving: the program. -/
import Derived.Test.YtpddlckkncmlmaaDoorMj
import Derived.Test.YtpddlckkncmlmaaDoorMm
import Derived.Test.YtpddlckkncmlmaaDoorMn
namespace Go.Proofs.YtpddlckkncmlmaaDoor
open Go.ChangeShapes Go.WideShapes Go.ChangeAt Go.RowKit
set_option linter.unusedVariables false
set_option linter.unusedSimpArgs false
set_option maxHeartbeats 8000000
set_option maxRecDepth 100000
/-- The two boxes of a call that leaves: the locks, what it answers. -/
structure Bx2 (W : World) (P : Nat) (hv qv : Value) : Prop where
  a : W.heap[P]? = some (.cells #[hv, qv] 24 (0, 0))
  c : W.heap[P + 1]? = some (.cells #[.slice none 0 0, .slice none 0 0] 24 (0, 0))
theorem Bx2.lt {W : World} {P : Nat} {hv qv : Value} (h : Bx2 W P hv qv) : P + 1 < W.heap.size := (Array.getElem?_eq_some_iff.1 h.c).1
theorem Bx2.below {W W' : World} {P : Nat} {hv qv : Value} (h : Bx2 W P hv qv) (hb : Below W.heap.size W W') : Bx2 W' P hv qv := by
  have := h.lt
  exact ⟨(hb.block _ (by omega)).trans h.a, (hb.block _ (by omega)).trans h.c⟩
theorem Bx2.grown {W W' : World} {P : Nat} {hv qv : Value} {row : Option Nat} (h : Bx2 W P hv qv) (hg : W.grownBy W' row) (hr : ∀ k, row = some k → P + 2 ≤ k) : Bx2 W' P hv qv := by
  have := h.lt
  have hne : ∀ k, k ≤ P + 1 → some k ≠ row := fun k hk e => by have := hr k e.symm; omega
  exact ⟨(hg.block _ (by omega) (hne _ (by omega))).trans h.a, (hg.block _ (by omega) (hne _ (by omega))).trans h.c⟩
theorem Bx2.cells {W : World} {P : Nat} {hv qv : Value} (h : Bx2 W P hv qv) :
    (W.cell? ⟨P, 0, none⟩ = some hv ∧ W.cell? ⟨P, 1, none⟩ = some qv ∧ W.frozen? ⟨P, 0, none⟩ = false ∧ W.frozen? ⟨P, 1, none⟩ = false) ∧
    (W.cell? ⟨P + 1, 0, none⟩ = some (.slice none 0 0) ∧ W.cell? ⟨P + 1, 1, none⟩ = some (.slice none 0 0) ∧ W.frozen? ⟨P + 1, 0, none⟩ = false ∧ W.frozen? ⟨P + 1, 1, none⟩ = false) :=
  ⟨box2 h.a, box2 h.c⟩
theorem Bx2.set0 {W : World} {P : Nat} {hv qv : Value} (h : Bx2 W P hv qv) (v : Value) : Bx2 (W.setCell ⟨P, 0, none⟩ v) P v qv :=
  ⟨by rw [Lib.heap_setCell_same h.a]; rfl, heap_far h.c (by omega) _⟩
theorem Bx2.set1 {W : World} {P : Nat} {hv qv : Value} (h : Bx2 W P hv qv) (v : Value) : Bx2 (W.setCell ⟨P, 1, none⟩ v) P hv v :=
  ⟨by rw [Lib.heap_setCell_same h.a]; rfl, heap_far h.c (by omega) _⟩
theorem two_new (w : World) (o p : Obj) : ((w.alloc o).alloc p).heap[w.heap.size]? = some o ∧ ((w.alloc o).alloc p).heap[w.heap.size + 1]? = some p :=
  ⟨(Below.heap_alloc _ _ _ (by simp)).trans (new0 w o), new1 w o p⟩
theorem two_below (w : World) (o p : Obj) : Below w.heap.size w ((w.alloc o).alloc p) := ((Below.refl _ _).alloc (Nat.le_refl _) _).alloc (by simp) _
def ic' (l : List Int) : List Value := l.map fun n => .int .i64 n
def LeaveIs (H Q : List Lk) (t : Int) (w : World) (e : Ending) (w' : World) : Prop :=
  ∃ hv qv wv, e = .returned (.tuple #[.agg #[hv, qv], wv, .int .i64 (leaveL H Q t).2.2.2]) ∧ Rd w' 3 (leaveL H Q t).1.length hv (lkc (leaveL H Q t).1) ∧ Rd w' 3 (leaveL H Q t).2.1.length qv (lkc (leaveL H Q t).2.1) ∧ Rd w' 1 (leaveL H Q t).2.2.1.length wv (ic (leaveL H Q t).2.2.1) ∧ Below w.heap.size w w'
/-- Refused. -/
theorem leave_bad (w : World) (hT : Tog w) (hJ : Jnd w) (nh n : Nat) (hv qv : Value) (held l : List Lk) (t : Int) (hrh : Rd w 3 nh hv (lkc held)) (hr : Rd w 3 n qv (lkc l)) (h1 : nh ≤ 1000000000000000) (h2 : n ≤ 1000000000000000) (hbad : lksF held l ≠ 0 ∨ (t < 1 ∨ 1048576 < t)) :
    Calls Tryd.prog 13 #[.agg #[hv, qv], .int .i64 t] w (LeaveIs held l t w) := by
  obtain ⟨_, ah, ch, rfl, _⟩ := id hrh
  obtain ⟨_, aq, cq, rfl, _⟩ := id hr
  obtain ⟨W0, hW0⟩ : ∃ W0 : World, W0 = (w.alloc (.cells #[.slice ah nh ch, .slice aq n cq] 24)).alloc (.cells #[.slice none 0 0, .slice none 0 0] 24) := ⟨_, rfl⟩
  have hb0 : Below w.heap.size w W0 := by rw [hW0]; exact two_below _ _ _
  have hbx : Bx2 W0 w.heap.size (.slice ah nh ch) (.slice aq n cq) := by
    rw [hW0]
    obtain ⟨g1, g2⟩ := two_new w (.cells #[.slice ah nh ch, .slice aq n cq] 24) (.cells #[.slice none 0 0, .slice none 0 0] 24)
    exact ⟨g1, g2⟩
  have HR := Lib.hid (check_any W0 (hT.below hb0) (hJ.below hb0) nh n _ _ held l (hrh.below hb0) (hr.below hb0) h1 h2)
  have HI := Lib.hid (fun W => isTxn_any W t)
  obtain ⟨⟨a0, a1, -, -⟩, -⟩ := hbx.cells
  obtain ⟨c, hc⟩ : ∃ c, c = lksF held l := ⟨_, rfl⟩
  rw [← hc] at HR hbad
  obtain ⟨q, hq⟩ : ∃ q, q = (decide (1 ≤ t) && decide (t ≤ 1048576)) := ⟨_, rfl⟩
  rw [← hq] at HI
  have hA : c ≠ 0 → leaveL held l t = ([], [], [], 11) := fun h => by unfold leaveL; rw [if_pos (by rw [← hc]; exact h)]
  have hA2 : c = 0 → q = false → leaveL held l t = ([], [], [], 3) := fun h h3 => by
    unfold leaveL
    rw [if_neg (by rw [← hc]; simp [h]), if_pos]
    rw [hq] at h3
    simp at h3
    omega
  have hq2 : c = 0 → q = false := fun h => by
    rcases hbad with h3 | h3
    · exact absurd h h3
    · rw [hq]; simp; omega
  have HBX := Lib.hid hbx
  have HB0 := Lib.hid hb0
  have HW0 := Lib.hid hW0
  have HA := Lib.hid (And.intro hA (And.intro hA2 hq2))
  clear hT hJ hrh hr hA hA2 hq2 hbx hb0 hW0 hc hq hbad
  by_cases hc0 : c = 0
  · have hqf := HA.out.2.2 hc0
    have HAA := Lib.hid (HA.out.2.1 hc0 hqf)
    subst hc0 hqf
    clear HA
    go_enter Tryd.func13, Tryd.ntmps13
    go_wp2_with fail
    rw [← HW0.out]
    refine HR.out.mono ?_
    rintro e w1 ⟨rfl, hb1⟩
    obtain ⟨-, ⟨c0, c1, f0, f1⟩⟩ := (HBX.out.below hb1).cells
    obtain ⟨z0, z1⟩ := box2_set (x := .slice none 0 0) (y := .slice none 0 0) c0 c1
    have HB1 := Lib.hid (into HB0.out hb1)
    clear hb1 a0 a1
    go_wp2_with (go_at_call 30; ((with_reducible refine (HI.out _).mono ?_); rintro e w' ⟨rfl, rfl⟩))
    refine bodyPost_ret (by simp [results, Tryd.results13, go_sem, z0, z1]; try rfl) rfl ?_
    unfold LeaveIs
    rw [HAA.out]
    exact ⟨_, _, _, rfl, Rd.nil _ _, Rd.nil _ _, Rd.nil _ _, (HB1.out.setCell (by show w.heap.size ≤ w.heap.size + 1; omega) _).setCell (by show w.heap.size ≤ w.heap.size + 1; omega) _⟩
  · have HAA := Lib.hid (HA.out.1 hc0)
    have hc1 : (c == 0) = false := by simpa using hc0
    clear HA
    go_enter Tryd.func13, Tryd.ntmps13
    go_wp2_with fail
    rw [← HW0.out]
    refine HR.out.mono ?_
    rintro e w1 ⟨rfl, hb1⟩
    obtain ⟨-, ⟨c0, c1, f0, f1⟩⟩ := (HBX.out.below hb1).cells
    obtain ⟨z0, z1⟩ := box2_set (x := .slice none 0 0) (y := .slice none 0 0) c0 c1
    have HB1 := Lib.hid (into HB0.out hb1)
    clear hb1 a0 a1
    go_wp2_with fail
    refine bodyPost_ret (by simp [results, Tryd.results13, go_sem, z0, z1]; try rfl) rfl ?_
    unfold LeaveIs
    rw [HAA.out]
    exact ⟨_, _, _, rfl, Rd.nil _ _, Rd.nil _ _, Rd.nil _ _, (HB1.out.setCell (by show w.heap.size ≤ w.heap.size + 1; omega) _).setCell (by show w.heap.size ≤ w.heap.size + 1; omega) _⟩
end Go.Proofs.YtpddlckkncmlmaaDoor
