/- A variable's box that holds locks. -/
import Derived.Test.YtpddlckkncmlmabDoorMs
namespace Go.Proofs.YtpddlckkncmlmabDoor
open Go.ChangeShapes Go.WideShapes Go.ChangeAt Go.RowKit
set_option linter.unusedVariables false
set_option linter.unusedSimpArgs false
set_option maxHeartbeats 4000000
theorem lkc_plain : ∀ (l : List Lk), ∀ u ∈ lkc l, ∀ a n c, u ≠ .slice a n c
  | [], u, hu => by simp [lkc] at hu
  | v :: l, u, hu => by
    simp only [lkc, List.mem_cons] at hu
    rcases hu with rfl | rfl | rfl | hu
    · intro a n c h; cases h
    · intro a n c h; cases h
    · intro a n c h; cases h
    · exact lkc_plain l u hu
/-- Locks that lie elsewhere stay when such a box is written. -/
theorem rd_set {W : World} {P n n1 c1 n2 c2 : Nat} {x1 x2 : Option Addr} {T : TypeId} {v : Value} {L : List Lk} (h : Rd W 3 n v (lkc L)) (hb : W.heap[P]? = some (.cells #[.slice x1 n1 c1, .slice x2 n2 c2] T (0, 0))) (j : Nat) (u : Value) : Rd (W.setCell ⟨P, j, none⟩ u) 3 n v (lkc L) := by
  obtain ⟨h1, ao, cap, h2, h3, h4, h5, h6⟩ := h
  refine ⟨h1, ao, cap, h2, h3, h4, h5, fun a ha i y hy => ?_⟩
  have hc := h6 a ha i y hy
  refine (World.cell?_setCell_far _ _ _ _ (fun e => ?_)).trans hc
  have hpl := lkc_plain L y (List.mem_of_getElem? hy)
  have e2 : (a.add i).block = P := e.symm
  have hsp := World.cell?_spot hc
  rw [show a.add i = ⟨P, (a.add i).off, none⟩ by rw [← e2, ← hsp]] at hc
  generalize (a.add i).off = o at hc
  simp only [World.cell?, hb] at hc
  match o with
  | 0 => simp at hc; exact hpl _ _ _ hc.symm
  | 1 => simp at hc; exact hpl _ _ _ hc.symm
  | k + 2 => simp at hc
structure LB (W : World) (P : Nat) (x1 : Option Addr) (n1 c1 : Nat) (x2 : Option Addr) (n2 c2 : Nat) (H Q : List Lk) : Prop where
  b : W.heap[P]? = some (.cells #[.slice x1 n1 c1, .slice x2 n2 c2] 24 (0, 0))
  h : Rd W 3 n1 (.slice x1 n1 c1) (lkc H)
  q : Rd W 3 n2 (.slice x2 n2 c2) (lkc Q)
theorem LB.lt {W : World} {P : Nat} {x1 : Option Addr} {n1 c1 : Nat} {x2 : Option Addr} {n2 c2 : Nat} {H Q : List Lk} (h : LB W P x1 n1 c1 x2 n2 c2 H Q) : P < W.heap.size := (Array.getElem?_eq_some_iff.1 h.b).1
theorem LB.below {W W' : World} {P : Nat} {x1 : Option Addr} {n1 c1 : Nat} {x2 : Option Addr} {n2 c2 : Nat} {H Q : List Lk} (h : LB W P x1 n1 c1 x2 n2 c2 H Q) (hb : Below W.heap.size W W') : LB W' P x1 n1 c1 x2 n2 c2 H Q :=
  ⟨(hb.block _ h.lt).trans h.b, h.h.below hb, h.q.below hb⟩
theorem LB.new (W : World) {x1 : Option Addr} {n1 c1 : Nat} {x2 : Option Addr} {n2 c2 : Nat} {H Q : List Lk} (h : Rd W 3 n1 (.slice x1 n1 c1) (lkc H)) (q : Rd W 3 n2 (.slice x2 n2 c2) (lkc Q)) : LB (W.alloc (.cells #[.slice x1 n1 c1, .slice x2 n2 c2] 24)) W.heap.size x1 n1 c1 x2 n2 c2 H Q :=
  ⟨new0 _ _, h.below ((Below.refl _ _).alloc (Nat.le_refl _) _), q.below ((Below.refl _ _).alloc (Nat.le_refl _) _)⟩
/-- A box that is written anew with others. -/
theorem LB.put {W : World} {P : Nat} {x1 : Option Addr} {n1 c1 : Nat} {x2 : Option Addr} {n2 c2 : Nat} {H Q : List Lk} (h : LB W P x1 n1 c1 x2 n2 c2 H Q) {y1 : Option Addr} {m1 d1 : Nat} {y2 : Option Addr} {m2 d2 : Nat} {H' Q' : List Lk} (h1 : Rd W 3 m1 (.slice y1 m1 d1) (lkc H')) (h2 : Rd W 3 m2 (.slice y2 m2 d2) (lkc Q')) :
    LB ((W.setCell ⟨P, 0, none⟩ (.slice y1 m1 d1)).setCell ⟨P, 1, none⟩ (.slice y2 m2 d2)) P y1 m1 d1 y2 m2 d2 H' Q' := by
  have b1 : (W.setCell ⟨P, 0, none⟩ (.slice y1 m1 d1)).heap[P]? = some (.cells #[.slice y1 m1 d1, .slice x2 n2 c2] 24 (0, 0)) := by rw [Lib.heap_setCell_same h.b]; rfl
  exact ⟨by rw [Lib.heap_setCell_same b1]; rfl, rd_set (rd_set h1 h.b 0 _) b1 1 _, rd_set (rd_set h2 h.b 0 _) b1 1 _⟩
/-- Other locks stay, too. -/
theorem LB.keep {W : World} {P : Nat} {x1 : Option Addr} {n1 c1 : Nat} {x2 : Option Addr} {n2 c2 : Nat} {H Q : List Lk} (h : LB W P x1 n1 c1 x2 n2 c2 H Q) {y1 : Option Addr} {m1 d1 : Nat} {y2 : Option Addr} {m2 d2 : Nat} {n : Nat} {v : Value} {L : List Lk} (h1 : Rd W 3 n v (lkc L)) :
    Rd ((W.setCell ⟨P, 0, none⟩ (.slice y1 m1 d1)).setCell ⟨P, 1, none⟩ (.slice y2 m2 d2)) 3 n v (lkc L) := by
  have b1 : (W.setCell ⟨P, 0, none⟩ (.slice y1 m1 d1)).heap[P]? = some (.cells #[.slice y1 m1 d1, .slice x2 n2 c2] 24 (0, 0)) := by rw [Lib.heap_setCell_same h.b]; rfl
  exact rd_set (rd_set h1 h.b 0 _) b1 1 _
theorem put_below {W w : World} {P : Nat} (h : Below W.heap.size W w) (hP : W.heap.size ≤ P) (u v : Value) : Below W.heap.size W ((w.setCell ⟨P, 0, none⟩ u).setCell ⟨P, 1, none⟩ v) := (h.setCell (p := ⟨P, 0, none⟩) hP u).setCell (p := ⟨P, 1, none⟩) hP v
end Go.Proofs.YtpddlckkncmlmabDoor
