/- Asking: the program. -/
import Derived.Test.YtpddlckkncmlmaaDoorMi
namespace Go.Proofs.YtpddlckkncmlmaaDoor
open Go.ChangeShapes Go.WideShapes Go.ChangeAt Go.RowKit
set_option linter.unusedVariables false
set_option linter.unusedSimpArgs false
set_option maxHeartbeats 8000000
set_option maxRecDepth 100000
/-- The three boxes of a call that asks: the locks, the lock, what it answers. -/
structure Bxs (W : World) (P : Nat) (hv qv : Value) (x : Lk) : Prop where
  a : W.heap[P]? = some (.cells #[hv, qv] 24 (0, 0))
  b : W.heap[P + 1]? = some (.cells #[.int .i64 x.t, .string x.th, .int .i64 x.m] 26 (0, 0))
  c : W.heap[P + 2]? = some (.cells #[.slice none 0 0, .slice none 0 0] 24 (0, 0))
theorem Bxs.lt {W : World} {P : Nat} {hv qv : Value} {x : Lk} (h : Bxs W P hv qv x) : P + 2 < W.heap.size := (Array.getElem?_eq_some_iff.1 h.c).1
theorem Bxs.below {W W' : World} {P : Nat} {hv qv : Value} {x : Lk} (h : Bxs W P hv qv x) (hb : Below W.heap.size W W') : Bxs W' P hv qv x := by
  have := h.lt
  exact ⟨(hb.block _ (by omega)).trans h.a, (hb.block _ (by omega)).trans h.b, (hb.block _ (by omega)).trans h.c⟩
theorem Bxs.grown {W W' : World} {P : Nat} {hv qv : Value} {x : Lk} {row : Option Nat} (h : Bxs W P hv qv x) (hg : W.grownBy W' row) (hr : ∀ k, row = some k → P + 3 ≤ k) : Bxs W' P hv qv x := by
  have := h.lt
  have hne : ∀ k, k ≤ P + 2 → some k ≠ row := fun k hk e => by have := hr k e.symm; omega
  exact ⟨(hg.block _ (by omega) (hne _ (by omega))).trans h.a, (hg.block _ (by omega) (hne _ (by omega))).trans h.b, (hg.block _ (by omega) (hne _ (by omega))).trans h.c⟩
theorem box2 {W : World} {B : Nat} {x y : Value} {t : TypeId} (h : W.heap[B]? = some (.cells #[x, y] t (0, 0))) : W.cell? ⟨B, 0, none⟩ = some x ∧ W.cell? ⟨B, 1, none⟩ = some y ∧ W.frozen? ⟨B, 0, none⟩ = false ∧ W.frozen? ⟨B, 1, none⟩ = false := by
  refine ⟨?_, ?_, ?_, ?_⟩ <;> simp [World.cell?, World.frozen?, h]
theorem Bxs.cells {W : World} {P : Nat} {hv qv : Value} {x : Lk} (h : Bxs W P hv qv x) :
    (W.cell? ⟨P, 0, none⟩ = some hv ∧ W.cell? ⟨P, 1, none⟩ = some qv ∧ W.frozen? ⟨P, 0, none⟩ = false ∧ W.frozen? ⟨P, 1, none⟩ = false) ∧
    (W.cell? ⟨P + 1, 0, none⟩ = some (.int .i64 x.t) ∧ W.cell? ⟨P + 1, 1, none⟩ = some (.string x.th) ∧ W.cell? ⟨P + 1, 2, none⟩ = some (.int .i64 x.m) ∧ W.frozen? ⟨P + 1, 0, none⟩ = false ∧ W.frozen? ⟨P + 1, 1, none⟩ = false ∧ W.frozen? ⟨P + 1, 2, none⟩ = false) ∧
    (W.cell? ⟨P + 2, 0, none⟩ = some (.slice none 0 0) ∧ W.cell? ⟨P + 2, 1, none⟩ = some (.slice none 0 0) ∧ W.frozen? ⟨P + 2, 0, none⟩ = false ∧ W.frozen? ⟨P + 2, 1, none⟩ = false) :=
  ⟨box2 h.a, has3 h.b (Below.refl _ _), box2 h.c⟩
theorem heap_far {W : World} {B P j : Nat} {o : Obj} (h : W.heap[B]? = some o) (hne : B ≠ P) (v : Value) : (W.setCell ⟨P, j, none⟩ v).heap[B]? = some o := (Below.heap_setCell _ _ _ _ hne).trans h
theorem Bxs.set0 {W : World} {P : Nat} {hv qv : Value} {x : Lk} (h : Bxs W P hv qv x) (v : Value) : Bxs (W.setCell ⟨P, 0, none⟩ v) P v qv x :=
  ⟨by rw [Lib.heap_setCell_same h.a]; rfl, heap_far h.b (by omega) _, heap_far h.c (by omega) _⟩
theorem Bxs.set1 {W : World} {P : Nat} {hv qv : Value} {x : Lk} (h : Bxs W P hv qv x) (v : Value) : Bxs (W.setCell ⟨P, 1, none⟩ v) P hv v x :=
  ⟨by rw [Lib.heap_setCell_same h.a]; rfl, heap_far h.b (by omega) _, heap_far h.c (by omega) _⟩
theorem Bxs.setT {W : World} {P : Nat} {hv qv : Value} {x : Lk} (h : Bxs W P hv qv x) (v : ByteArray) : Bxs (W.setCell ⟨P + 1, 1, none⟩ (.string v)) P hv qv ⟨x.t, v, x.m⟩ :=
  ⟨heap_far h.a (by omega) _, by rw [Lib.heap_setCell_same h.b]; rfl, heap_far h.c (by omega) _⟩
theorem Bxs.setM {W : World} {P : Nat} {hv qv : Value} {x : Lk} (h : Bxs W P hv qv x) (v : Int) : Bxs (W.setCell ⟨P + 1, 2, none⟩ (.int .i64 v)) P hv qv ⟨x.t, x.th, v⟩ :=
  ⟨heap_far h.a (by omega) _, by rw [Lib.heap_setCell_same h.b]; rfl, heap_far h.c (by omega) _⟩
theorem three_new (w : World) (o p q : Obj) : (((w.alloc o).alloc p).alloc q).heap[w.heap.size]? = some o ∧ (((w.alloc o).alloc p).alloc q).heap[w.heap.size + 1]? = some p ∧ (((w.alloc o).alloc p).alloc q).heap[w.heap.size + 2]? = some q :=
  ⟨(Below.heap_alloc _ _ _ (by simp; omega)).trans ((Below.heap_alloc _ _ _ (by simp)).trans (new0 w o)), (Below.heap_alloc _ _ _ (by simp)).trans (new1 w o p), new2 w o p q⟩
theorem three_below (w : World) (o p q : Obj) : Below w.heap.size w (((w.alloc o).alloc p).alloc q) := (((Below.refl _ _).alloc (Nat.le_refl _) _).alloc (by simp) _).alloc (by simp; omega) _
def AskIs (H Q : List Lk) (x : Lk) (w : World) (e : Ending) (w' : World) : Prop :=
  ∃ hv qv, e = .returned (.tuple #[.agg #[hv, qv], .bool (askL H Q x).2.2.1, .int .i64 (askL H Q x).2.2.2]) ∧ Rd w' 3 (askL H Q x).1.length hv (lkc (askL H Q x).1) ∧ Rd w' 3 (askL H Q x).2.1.length qv (lkc (askL H Q x).2.1) ∧ Below w.heap.size w w'
/-- Refused. -/
theorem ask_bad (w : World) (hT : Tog w) (hJ : Jnd w) (nh n : Nat) (hv qv : Value) (held l : List Lk) (x : Lk) (hrh : Rd w 3 nh hv (lkc held)) (hr : Rd w 3 n qv (lkc l)) (h1 : nh ≤ 1000000000000000) (h2 : n ≤ 1000000000000000) (hbad : refL held l x ≠ 0) :
    Calls Tryd.prog 7 #[.agg #[hv, qv], lkv x] w (AskIs held l x w) := by
  obtain ⟨_, ah, ch, rfl, _⟩ := id hrh
  obtain ⟨_, aq, cq, rfl, _⟩ := id hr
  have hA : askL held l x = ([], [], false, refL held l x) := by unfold askL; rw [if_pos hbad]
  obtain ⟨xt, xth, xm⟩ := x
  obtain ⟨W0, hW0⟩ : ∃ W0 : World, W0 = ((w.alloc (.cells #[.slice ah nh ch, .slice aq n cq] 24)).alloc (.cells #[.int .i64 xt, .string xth, .int .i64 xm] 26)).alloc (.cells #[.slice none 0 0, .slice none 0 0] 24) := ⟨_, rfl⟩
  have hb0 : Below w.heap.size w W0 := by rw [hW0]; exact three_below _ _ _ _
  have hbx : Bxs W0 w.heap.size (.slice ah nh ch) (.slice aq n cq) ⟨xt, xth, xm⟩ := by
    rw [hW0]
    obtain ⟨g1, g2, g3⟩ := three_new w (.cells #[.slice ah nh ch, .slice aq n cq] 24) (.cells #[.int .i64 xt, .string xth, .int .i64 xm] 26) (.cells #[.slice none 0 0, .slice none 0 0] 24)
    exact ⟨g1, g2, g3⟩
  have HR := Lib.hid (refusal_any W0 (hT.below hb0) (hJ.below hb0) nh n _ _ held l ⟨xt, xth, xm⟩ (hrh.below hb0) (hr.below hb0) h1 h2)
  obtain ⟨⟨a0, a1, -, -⟩, ⟨b0, b1, b2, -, -, -⟩, -⟩ := hbx.cells
  obtain ⟨r, hrr⟩ : ∃ r, r = refL held l ⟨xt, xth, xm⟩ := ⟨_, rfl⟩
  rw [← hrr] at HR hA hbad
  have hb' : (r == 0) = false := by simpa using hbad
  have HA := Lib.hid hA
  have HBX := Lib.hid hbx
  have HB0 := Lib.hid hb0
  have HW0 := Lib.hid hW0
  clear hT hJ hrh hr hA hbx hb0 hW0 hrr
  go_enter Tryd.func7, Tryd.ntmps7
  go_wp2_with fail
  rw [← HW0.out]
  refine HR.out.mono ?_
  rintro e w1 ⟨rfl, hb1⟩
  obtain ⟨-, -, ⟨c0, c1, f0, f1⟩⟩ := (HBX.out.below hb1).cells
  obtain ⟨z0, z1⟩ := box2_set (x := .slice none 0 0) (y := .slice none 0 0) c0 c1
  have HB1 := Lib.hid (into HB0.out hb1)
  clear hb1 a0 a1 b0 b1 b2
  go_wp2_with fail
  refine bodyPost_ret (by simp [results, Tryd.results7, go_sem, z0, z1]; try rfl) rfl ?_
  unfold AskIs
  rw [HA.out]
  exact ⟨_, _, rfl, Rd.nil _ _, Rd.nil _ _, (HB1.out.setCell (by show w.heap.size ≤ w.heap.size + 2; omega) _).setCell (by show w.heap.size ≤ w.heap.size + 2; omega) _⟩
end Go.Proofs.YtpddlckkncmlmaaDoor
