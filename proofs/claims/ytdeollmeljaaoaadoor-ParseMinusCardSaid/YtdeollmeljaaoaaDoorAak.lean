import Derived.Test.YtdeollmeljaaoaaDoorB0k
import Derived.Test.YtdeollmeljaaoaaDoorQck
import Derived.Lib.BufferMore
import Derived.Test.YtdeollmeljaaoaaDoorCmk
import Derived.Test.YtdeollmeljaaoaaDoorCbk
import Derived.Deep.RegionHeld3
import Derived.Deep.RegionWith
import Derived.Deep.RegionLaw
import Derived.Test.YtdeollmeljaaoaaDoorCpk
/- Boxes of twelve cells; worlds named. -/
namespace Go.Proofs.YtdeollmeljaaoaaDoor.cs
open Go.ChangeShapes Go.WideShapes Go.ChangeAt Go.RowKit
set_option linter.unusedVariables false
set_option linter.unusedSimpArgs false
set_option maxHeartbeats 8000000
set_option maxRecDepth 1000000
theorem toks_of {w : World} {n : Nat} {v : Value} {l : List Tk} (h : Rd w 3 n v (tkc l)) (hn : 0 < n) :
    l.length = n ∧ ∃ b o cap, v = .slice (some ⟨b, o, none⟩) n cap ∧ n ≤ cap ∧ cap ≤ maxLen ∧ b < w.heap.size ∧
      ∀ k, k < n → w.cell? ⟨b, o + k * 3, none⟩ = some (.int .i64 (l.getD k tk0).k) ∧ w.cell? ⟨b, o + k * 3 + 1, none⟩ = some (.string ⟨(l.getD k tk0).t.toArray⟩) ∧ w.cell? ⟨b, o + k * 3 + 2, none⟩ = some (.int .i64 (l.getD k tk0).n) := by
  have hl : l.length = n := by have := h.1; rw [tkc_length] at this; omega
  obtain ⟨b, o, cap, h1, h2, h3, h4, h5⟩ := h.pos hn (by omega)
  refine ⟨hl, b, o, cap, h1, h2, h3, h4, fun k hk => ?_⟩
  obtain ⟨g1, g2, g3⟩ := tkc_at (l := l) (k := k) (by omega)
  exact ⟨h5 _ _ g1, h5 _ _ g2, h5 _ _ g3⟩
theorem len_t {w : World} {n : Nat} {v : Value} {l : List Tk} (h : Rd w 3 n v (tkc l)) : n = l.length := by have := h.1; rw [tkc_length] at this; omega
theorem box12 {w : World} {B : Nat} {x0 x1 x2 x3 x4 x5 x6 x7 x8 x9 x10 x11 : Value} {T : TypeId} (h : w.heap[B]? = some (.cells #[x0, x1, x2, x3, x4, x5, x6, x7, x8, x9, x10, x11] T (0, 0))) :
    w.cell? ⟨B, 0, none⟩ = some x0 ∧ w.cell? ⟨B, 1, none⟩ = some x1 ∧ w.cell? ⟨B, 2, none⟩ = some x2 ∧ w.cell? ⟨B, 3, none⟩ = some x3 ∧ w.cell? ⟨B, 4, none⟩ = some x4 ∧ w.cell? ⟨B, 5, none⟩ = some x5 ∧ w.cell? ⟨B, 6, none⟩ = some x6 ∧ w.cell? ⟨B, 7, none⟩ = some x7 ∧ w.cell? ⟨B, 8, none⟩ = some x8 ∧ w.cell? ⟨B, 9, none⟩ = some x9 ∧ w.cell? ⟨B, 10, none⟩ = some x10 ∧ w.cell? ⟨B, 11, none⟩ = some x11 ∧ w.frozen? ⟨B, 0, none⟩ = false ∧ w.frozen? ⟨B, 1, none⟩ = false ∧ w.frozen? ⟨B, 2, none⟩ = false ∧ w.frozen? ⟨B, 3, none⟩ = false ∧ w.frozen? ⟨B, 4, none⟩ = false ∧ w.frozen? ⟨B, 5, none⟩ = false ∧ w.frozen? ⟨B, 6, none⟩ = false ∧ w.frozen? ⟨B, 7, none⟩ = false ∧ w.frozen? ⟨B, 8, none⟩ = false ∧ w.frozen? ⟨B, 9, none⟩ = false ∧ w.frozen? ⟨B, 10, none⟩ = false ∧ w.frozen? ⟨B, 11, none⟩ = false := by
  refine ⟨?_, ?_, ?_, ?_, ?_, ?_, ?_, ?_, ?_, ?_, ?_, ?_, ?_, ?_, ?_, ?_, ?_, ?_, ?_, ?_, ?_, ?_, ?_, ?_⟩ <;> (simp only [World.cell?, World.frozen?]; rw [h]; rfl)
theorem st12 {w0 w : World} {A B : Nat} {x0 x1 x2 x3 x4 x5 x6 x7 x8 x9 x10 x11 : Value} {T : TypeId} (hb : Below A w0 w) (hA : A ≤ B) (h : w.heap[B]? = some (.cells #[x0, x1, x2, x3, x4, x5, x6, x7, x8, x9, x10, x11] T (0, 0))) (y0 y1 y2 y3 y4 y5 y6 y7 y8 y9 y10 y11 : Value) :
    Below A w0 (World.setCell (World.setCell (World.setCell (World.setCell (World.setCell (World.setCell (World.setCell (World.setCell (World.setCell (World.setCell (World.setCell (World.setCell w ⟨B, 0, none⟩ y0) ⟨B, 1, none⟩ y1) ⟨B, 2, none⟩ y2) ⟨B, 3, none⟩ y3) ⟨B, 4, none⟩ y4) ⟨B, 5, none⟩ y5) ⟨B, 6, none⟩ y6) ⟨B, 7, none⟩ y7) ⟨B, 8, none⟩ y8) ⟨B, 9, none⟩ y9) ⟨B, 10, none⟩ y10) ⟨B, 11, none⟩ y11) ∧ (World.setCell (World.setCell (World.setCell (World.setCell (World.setCell (World.setCell (World.setCell (World.setCell (World.setCell (World.setCell (World.setCell (World.setCell w ⟨B, 0, none⟩ y0) ⟨B, 1, none⟩ y1) ⟨B, 2, none⟩ y2) ⟨B, 3, none⟩ y3) ⟨B, 4, none⟩ y4) ⟨B, 5, none⟩ y5) ⟨B, 6, none⟩ y6) ⟨B, 7, none⟩ y7) ⟨B, 8, none⟩ y8) ⟨B, 9, none⟩ y9) ⟨B, 10, none⟩ y10) ⟨B, 11, none⟩ y11).cell? ⟨B, 0, none⟩ = some y0 ∧ (World.setCell (World.setCell (World.setCell (World.setCell (World.setCell (World.setCell (World.setCell (World.setCell (World.setCell (World.setCell (World.setCell (World.setCell w ⟨B, 0, none⟩ y0) ⟨B, 1, none⟩ y1) ⟨B, 2, none⟩ y2) ⟨B, 3, none⟩ y3) ⟨B, 4, none⟩ y4) ⟨B, 5, none⟩ y5) ⟨B, 6, none⟩ y6) ⟨B, 7, none⟩ y7) ⟨B, 8, none⟩ y8) ⟨B, 9, none⟩ y9) ⟨B, 10, none⟩ y10) ⟨B, 11, none⟩ y11).cell? ⟨B, 1, none⟩ = some y1 ∧ (World.setCell (World.setCell (World.setCell (World.setCell (World.setCell (World.setCell (World.setCell (World.setCell (World.setCell (World.setCell (World.setCell (World.setCell w ⟨B, 0, none⟩ y0) ⟨B, 1, none⟩ y1) ⟨B, 2, none⟩ y2) ⟨B, 3, none⟩ y3) ⟨B, 4, none⟩ y4) ⟨B, 5, none⟩ y5) ⟨B, 6, none⟩ y6) ⟨B, 7, none⟩ y7) ⟨B, 8, none⟩ y8) ⟨B, 9, none⟩ y9) ⟨B, 10, none⟩ y10) ⟨B, 11, none⟩ y11).cell? ⟨B, 2, none⟩ = some y2 ∧ (World.setCell (World.setCell (World.setCell (World.setCell (World.setCell (World.setCell (World.setCell (World.setCell (World.setCell (World.setCell (World.setCell (World.setCell w ⟨B, 0, none⟩ y0) ⟨B, 1, none⟩ y1) ⟨B, 2, none⟩ y2) ⟨B, 3, none⟩ y3) ⟨B, 4, none⟩ y4) ⟨B, 5, none⟩ y5) ⟨B, 6, none⟩ y6) ⟨B, 7, none⟩ y7) ⟨B, 8, none⟩ y8) ⟨B, 9, none⟩ y9) ⟨B, 10, none⟩ y10) ⟨B, 11, none⟩ y11).cell? ⟨B, 3, none⟩ = some y3 ∧ (World.setCell (World.setCell (World.setCell (World.setCell (World.setCell (World.setCell (World.setCell (World.setCell (World.setCell (World.setCell (World.setCell (World.setCell w ⟨B, 0, none⟩ y0) ⟨B, 1, none⟩ y1) ⟨B, 2, none⟩ y2) ⟨B, 3, none⟩ y3) ⟨B, 4, none⟩ y4) ⟨B, 5, none⟩ y5) ⟨B, 6, none⟩ y6) ⟨B, 7, none⟩ y7) ⟨B, 8, none⟩ y8) ⟨B, 9, none⟩ y9) ⟨B, 10, none⟩ y10) ⟨B, 11, none⟩ y11).cell? ⟨B, 4, none⟩ = some y4 ∧ (World.setCell (World.setCell (World.setCell (World.setCell (World.setCell (World.setCell (World.setCell (World.setCell (World.setCell (World.setCell (World.setCell (World.setCell w ⟨B, 0, none⟩ y0) ⟨B, 1, none⟩ y1) ⟨B, 2, none⟩ y2) ⟨B, 3, none⟩ y3) ⟨B, 4, none⟩ y4) ⟨B, 5, none⟩ y5) ⟨B, 6, none⟩ y6) ⟨B, 7, none⟩ y7) ⟨B, 8, none⟩ y8) ⟨B, 9, none⟩ y9) ⟨B, 10, none⟩ y10) ⟨B, 11, none⟩ y11).cell? ⟨B, 5, none⟩ = some y5 ∧ (World.setCell (World.setCell (World.setCell (World.setCell (World.setCell (World.setCell (World.setCell (World.setCell (World.setCell (World.setCell (World.setCell (World.setCell w ⟨B, 0, none⟩ y0) ⟨B, 1, none⟩ y1) ⟨B, 2, none⟩ y2) ⟨B, 3, none⟩ y3) ⟨B, 4, none⟩ y4) ⟨B, 5, none⟩ y5) ⟨B, 6, none⟩ y6) ⟨B, 7, none⟩ y7) ⟨B, 8, none⟩ y8) ⟨B, 9, none⟩ y9) ⟨B, 10, none⟩ y10) ⟨B, 11, none⟩ y11).cell? ⟨B, 6, none⟩ = some y6 ∧ (World.setCell (World.setCell (World.setCell (World.setCell (World.setCell (World.setCell (World.setCell (World.setCell (World.setCell (World.setCell (World.setCell (World.setCell w ⟨B, 0, none⟩ y0) ⟨B, 1, none⟩ y1) ⟨B, 2, none⟩ y2) ⟨B, 3, none⟩ y3) ⟨B, 4, none⟩ y4) ⟨B, 5, none⟩ y5) ⟨B, 6, none⟩ y6) ⟨B, 7, none⟩ y7) ⟨B, 8, none⟩ y8) ⟨B, 9, none⟩ y9) ⟨B, 10, none⟩ y10) ⟨B, 11, none⟩ y11).cell? ⟨B, 7, none⟩ = some y7 ∧ (World.setCell (World.setCell (World.setCell (World.setCell (World.setCell (World.setCell (World.setCell (World.setCell (World.setCell (World.setCell (World.setCell (World.setCell w ⟨B, 0, none⟩ y0) ⟨B, 1, none⟩ y1) ⟨B, 2, none⟩ y2) ⟨B, 3, none⟩ y3) ⟨B, 4, none⟩ y4) ⟨B, 5, none⟩ y5) ⟨B, 6, none⟩ y6) ⟨B, 7, none⟩ y7) ⟨B, 8, none⟩ y8) ⟨B, 9, none⟩ y9) ⟨B, 10, none⟩ y10) ⟨B, 11, none⟩ y11).cell? ⟨B, 8, none⟩ = some y8 ∧ (World.setCell (World.setCell (World.setCell (World.setCell (World.setCell (World.setCell (World.setCell (World.setCell (World.setCell (World.setCell (World.setCell (World.setCell w ⟨B, 0, none⟩ y0) ⟨B, 1, none⟩ y1) ⟨B, 2, none⟩ y2) ⟨B, 3, none⟩ y3) ⟨B, 4, none⟩ y4) ⟨B, 5, none⟩ y5) ⟨B, 6, none⟩ y6) ⟨B, 7, none⟩ y7) ⟨B, 8, none⟩ y8) ⟨B, 9, none⟩ y9) ⟨B, 10, none⟩ y10) ⟨B, 11, none⟩ y11).cell? ⟨B, 9, none⟩ = some y9 ∧ (World.setCell (World.setCell (World.setCell (World.setCell (World.setCell (World.setCell (World.setCell (World.setCell (World.setCell (World.setCell (World.setCell (World.setCell w ⟨B, 0, none⟩ y0) ⟨B, 1, none⟩ y1) ⟨B, 2, none⟩ y2) ⟨B, 3, none⟩ y3) ⟨B, 4, none⟩ y4) ⟨B, 5, none⟩ y5) ⟨B, 6, none⟩ y6) ⟨B, 7, none⟩ y7) ⟨B, 8, none⟩ y8) ⟨B, 9, none⟩ y9) ⟨B, 10, none⟩ y10) ⟨B, 11, none⟩ y11).cell? ⟨B, 10, none⟩ = some y10 ∧ (World.setCell (World.setCell (World.setCell (World.setCell (World.setCell (World.setCell (World.setCell (World.setCell (World.setCell (World.setCell (World.setCell (World.setCell w ⟨B, 0, none⟩ y0) ⟨B, 1, none⟩ y1) ⟨B, 2, none⟩ y2) ⟨B, 3, none⟩ y3) ⟨B, 4, none⟩ y4) ⟨B, 5, none⟩ y5) ⟨B, 6, none⟩ y6) ⟨B, 7, none⟩ y7) ⟨B, 8, none⟩ y8) ⟨B, 9, none⟩ y9) ⟨B, 10, none⟩ y10) ⟨B, 11, none⟩ y11).cell? ⟨B, 11, none⟩ = some y11 := by
  have h0 := Lib.heap_setCell_same (i := 0) h y0
  have h1 := Lib.heap_setCell_same (i := 1) h0 y1
  have h2 := Lib.heap_setCell_same (i := 2) h1 y2
  have h3 := Lib.heap_setCell_same (i := 3) h2 y3
  have h4 := Lib.heap_setCell_same (i := 4) h3 y4
  have h5 := Lib.heap_setCell_same (i := 5) h4 y5
  have h6 := Lib.heap_setCell_same (i := 6) h5 y6
  have h7 := Lib.heap_setCell_same (i := 7) h6 y7
  have h8 := Lib.heap_setCell_same (i := 8) h7 y8
  have h9 := Lib.heap_setCell_same (i := 9) h8 y9
  have h10 := Lib.heap_setCell_same (i := 10) h9 y10
  have h11 := Lib.heap_setCell_same (i := 11) h10 y11
  have b0 := hb.setCell (p := ⟨B, 0, none⟩) hA y0
  have b1 := b0.setCell (p := ⟨B, 1, none⟩) hA y1
  have b2 := b1.setCell (p := ⟨B, 2, none⟩) hA y2
  have b3 := b2.setCell (p := ⟨B, 3, none⟩) hA y3
  have b4 := b3.setCell (p := ⟨B, 4, none⟩) hA y4
  have b5 := b4.setCell (p := ⟨B, 5, none⟩) hA y5
  have b6 := b5.setCell (p := ⟨B, 6, none⟩) hA y6
  have b7 := b6.setCell (p := ⟨B, 7, none⟩) hA y7
  have b8 := b7.setCell (p := ⟨B, 8, none⟩) hA y8
  have b9 := b8.setCell (p := ⟨B, 9, none⟩) hA y9
  have b10 := b9.setCell (p := ⟨B, 10, none⟩) hA y10
  have b11 := b10.setCell (p := ⟨B, 11, none⟩) hA y11
  have h12 : (World.setCell (World.setCell (World.setCell (World.setCell (World.setCell (World.setCell (World.setCell (World.setCell (World.setCell (World.setCell (World.setCell (World.setCell w ⟨B, 0, none⟩ y0) ⟨B, 1, none⟩ y1) ⟨B, 2, none⟩ y2) ⟨B, 3, none⟩ y3) ⟨B, 4, none⟩ y4) ⟨B, 5, none⟩ y5) ⟨B, 6, none⟩ y6) ⟨B, 7, none⟩ y7) ⟨B, 8, none⟩ y8) ⟨B, 9, none⟩ y9) ⟨B, 10, none⟩ y10) ⟨B, 11, none⟩ y11).heap[B]? = some (.cells #[y0, y1, y2, y3, y4, y5, y6, y7, y8, y9, y10, y11] T (0, 0)) := by simpa using h11
  refine ⟨b11, ?_, ?_, ?_, ?_, ?_, ?_, ?_, ?_, ?_, ?_, ?_, ?_⟩ <;> (simp only [World.cell?]; rw [h12]; rfl)
theorem Rd.blk {w : World} {s n : Nat} {v : Value} {xs : List Value} (h : Rd w s n v xs) (hs : 0 < s) : ∀ a cap, v = .slice (some a) n cap → 0 < n → a.block < w.heap.size := by
  intro a cap hv hn
  obtain ⟨b, o, cap', h1, _, _, h4, _⟩ := h.pos hn hs
  rw [hv] at h1
  simp only [Value.slice.injEq, Option.some.injEq] at h1
  rw [h1.1]
  exact h4
theorem code_nm {c : Code} {Q : Exit → Act → World → Prop} {a : Act} {w : World} (h : ∀ W, W = w → Code.wp Tryd.prog c Q a W) : Code.wp Tryd.prog c Q a w := h w rfl
theorem calls_nm {p : Program} {f : FuncId} {a : Array Value} {w : World} {Q : Ending → World → Prop} (h : ∀ W, W = w → Calls p f a W Q) : Calls p f a w Q := h w rfl
end Go.Proofs.YtdeollmeljaaoaaDoor.cs
/- A reader of tokens: what it looks at, what it eats. -/
namespace Go.Proofs.YtdeollmeljaaoaaDoor.rd
open Go.ChangeShapes Go.WideShapes Go.ChangeAt Go.RowKit Go.Proofs.YtdeollmeljaaoaaDoor.cs
set_option linter.unusedVariables false
set_option linter.unusedSimpArgs false
set_option maxHeartbeats 4000000
set_option maxRecDepth 100000
theorem st_ne {a b : ByteArray} (h : ¬ a = b) : (a.toList == b.toList) = false := by
  rw [ByteArray.toList_eq, ByteArray.toList_eq, beq_eq_false_iff_ne]
  intro e
  obtain ⟨a⟩ := a
  obtain ⟨b⟩ := b
  exact h (congrArg ByteArray.mk (Array.toList_inj.1 e))
theorem heap_lt {w : World} {B : Nat} {o : Obj} (h : w.heap[B]? = some o) : B < w.heap.size := (Array.getElem?_eq_some_iff.1 h).1
theorem bx3 {w : World} {B : Nat} {x y z : Value} {T : TypeId} (h : w.heap[B]? = some (.cells #[x, y, z] T (0, 0))) :
    w.cell? ⟨B, 0, none⟩ = some x ∧ w.cell? ⟨B, 1, none⟩ = some y ∧ w.cell? ⟨B, 2, none⟩ = some z ∧ w.frozen? ⟨B, 0, none⟩ = false ∧ w.frozen? ⟨B, 1, none⟩ = false ∧ w.frozen? ⟨B, 2, none⟩ = false := by
  refine ⟨?_, ?_, ?_, ?_, ?_, ?_⟩ <;> (simp only [World.cell?, World.frozen?]; rw [h]; rfl)
/-- A struct of three cells stored into a box of the call's own. -/
theorem st3 {w0 w : World} {A R : Nat} {x y z : Value} {T : TypeId} (hb : Below A w0 w) (hA : A ≤ R) (h : w.heap[R]? = some (.cells #[x, y, z] T (0, 0))) (a b c : Value) :
    Below A w0 (((w.setCell ⟨R, 0, none⟩ a).setCell ⟨R, 1, none⟩ b).setCell ⟨R, 2, none⟩ c) ∧ (((w.setCell ⟨R, 0, none⟩ a).setCell ⟨R, 1, none⟩ b).setCell ⟨R, 2, none⟩ c).cell? ⟨R, 0, none⟩ = some a ∧ (((w.setCell ⟨R, 0, none⟩ a).setCell ⟨R, 1, none⟩ b).setCell ⟨R, 2, none⟩ c).cell? ⟨R, 1, none⟩ = some b ∧ (((w.setCell ⟨R, 0, none⟩ a).setCell ⟨R, 1, none⟩ b).setCell ⟨R, 2, none⟩ c).cell? ⟨R, 2, none⟩ = some c := by
  have h0 := Lib.heap_setCell_same (i := 0) h a
  have h1 := Lib.heap_setCell_same (i := 1) h0 b
  have h2 := Lib.heap_setCell_same (i := 2) h1 c
  have b2 := ((hb.setCell (p := ⟨R, 0, none⟩) hA a).setCell (p := ⟨R, 1, none⟩) hA b).setCell (p := ⟨R, 2, none⟩) hA c
  have h3 : (((w.setCell ⟨R, 0, none⟩ a).setCell ⟨R, 1, none⟩ b).setCell ⟨R, 2, none⟩ c).heap[R]? = some (.cells #[a, b, c] T (0, 0)) := by simpa using h2
  refine ⟨b2, ?_, ?_, ?_⟩ <;> (simp only [World.cell?]; rw [h3]; rfl)
/-- All but one box stands. -/
structure But (B : Nat) (w w' : World) : Prop where
  os : w'.os = w.os
  tape : w'.tape = w.tape
  output : w'.output = w.output
  size : w.heap.size ≤ w'.heap.size
  block : ∀ k, k < w.heap.size → k ≠ B → w'.heap[k]? = w.heap[k]?
theorem But.of {B : Nat} {w w' : World} (h : Below w.heap.size w w') : But B w w' := ⟨h.os, h.tape, h.output, h.size, fun k hk _ => h.block k hk⟩
theorem But.trans {B : Nat} {a b c : World} (h : But B a b) (g : But B b c) : But B a c :=
  ⟨g.os.trans h.os, g.tape.trans h.tape, g.output.trans h.output, Nat.le_trans h.size g.size, fun k hk hn => (g.block k (Nat.lt_of_lt_of_le hk h.size) hn).trans (h.block k hk hn)⟩
theorem But.below {A B : Nat} {w0 w w' : World} (h : But B w w') (hb : Below A w0 w) (hA : A ≤ B) (hs : A ≤ w.heap.size) : Below A w0 w' :=
  ⟨h.os.trans hb.os, h.tape.trans hb.tape, h.output.trans hb.output, Nat.le_trans hb.size h.size, fun k hk => (h.block k (by omega) (by omega)).trans (hb.block k hk)⟩
theorem But.set (w : World) (B i : Nat) (v : Value) : But B w (w.setCell ⟨B, i, none⟩ v) := by
  have h := (Below.refl 0 w).setCell (p := ⟨B, i, none⟩) (Nat.zero_le _) v
  exact ⟨h.os, h.tape, h.output, h.size, fun k hk hn => Below.heap_setCell _ _ _ _ hn⟩
theorem rd_but {B : Nat} {w w' : World} {s n : Nat} {v : Value} {xs : List Value} (h : Rd w s n v xs) (hb : But B w w') (hP : ∀ a cap, v = .slice (some a) n cap → 0 < n → a.block ≠ B) (hs : 0 < s) : Rd w' s n v xs := by
  obtain ⟨h1, ao, cap, h2, h3, h4, h5, h6⟩ := h
  refine ⟨h1, ao, cap, h2, h3, h4, h5, fun a ha j u hu => ?_⟩
  have hn : 0 < n := by
    rcases Nat.eq_zero_or_pos n with h0 | h0
    · subst h0
      have := (List.getElem?_eq_some_iff.1 hu).1
      omega
    · exact h0
  subst ha
  have hne := hP a cap h2 hn
  have h8 := h6 a rfl j u hu
  have he : (a.add j).block = a.block := by
    obtain ⟨b, o, s⟩ := a
    simp only [Addr.add]
    split <;> rfl
  have hl : (a.add j).block < w.heap.size := by
    unfold World.cell? at h8
    split at h8
    · rename_i hh
      exact heap_lt hh
    all_goals first | exact absurd h8 (by simp) | (rename_i hh; exact heap_lt hh)
  unfold World.cell? at h8 ⊢
  rw [hb.block _ hl (by rw [he]; exact hne)]
  exact h8
/-- A reader in its box: the tokens L, the place k, the ops that it is at. -/
structure Rdr (w : World) (B : Nat) (a : Option Addr) (n c : Nat) (L : List Tk) (k : Nat) (ov : Value) : Prop where
  box : w.heap[B]? = some (.cells #[.slice a n c, .int .i64 (k : Int), ov] 71 (0, 0))
  row : Rd w 3 n (.slice a n c) (tkc L)
  le : k ≤ n
  sm : n ≤ 100
  ne : ∀ x, a = some x → 0 < n → x.block ≠ B
theorem Rdr.below {w w' : World} {B : Nat} {a : Option Addr} {n c : Nat} {L : List Tk} {k : Nat} {ov : Value} (h : Rdr w B a n c L k ov) (hb : Below w.heap.size w w') : Rdr w' B a n c L k ov :=
  ⟨(hb.block B (heap_lt h.box)).trans h.box, h.row.below hb, h.le, h.sm, h.ne⟩
theorem Rdr.cells {w : World} {B : Nat} {a : Option Addr} {n c : Nat} {L : List Tk} {k : Nat} {ov : Value} (h : Rdr w B a n c L k ov) :
    w.cell? ⟨B, 0, none⟩ = some (.slice a n c) ∧ w.cell? ⟨B, 1, none⟩ = some (.int .i64 (k : Int)) ∧ w.cell? ⟨B, 2, none⟩ = some ov ∧ w.frozen? ⟨B, 0, none⟩ = false ∧ w.frozen? ⟨B, 1, none⟩ = false ∧ w.frozen? ⟨B, 2, none⟩ = false := bx3 h.box
/-- A token as a value. -/
abbrev tokV (t : Tk) : Value := .agg #[.int .i64 t.k, .string ⟨t.t.toArray⟩, .int .i64 t.n]
theorem now_any (w : World) (B : Nat) (a : Option Addr) (n c : Nat) (L : List Tk) (k : Nat) (ov : Value) (h : Rdr w B a n c L k ov) :
    Calls Tryd.prog 72 #[.pointer (some ⟨B, 0, none⟩)] w fun e w' => e = .returned (tokV (L.getD k tk0)) ∧ Below w.heap.size w w' := by
  obtain ⟨x0, x1, x2, f0, f1, f2⟩ := h.cells
  have hlt : B < w.heap.size := heap_lt h.box
  have hml := len_t h.row
  have hle := h.le
  have hsm := h.sm
  by_cases hk : k = n
  · have e : L.getD k tk0 = tk0 := by simp [List.getD, List.getElem?_eq_none (show L.length ≤ k by omega)]
    rw [e]
    clear h hml hle
    subst hk
    go_enter Tryd.func72, Tryd.ntmps72
    go_wp2_with fail
    go_quiet (fail)
    go_wp2_with fail
    obtain ⟨hb3, r0, r1, r2⟩ := st3 (w0 := w) (w := (w.alloc (.cells #[.int .i64 0, .string ⟨#[]⟩, .int .i64 0] 45)).drewN (nq)) (R := w.heap.size) (((Below.refl _ _).alloc (Nat.le_refl _) _).trans ((below_drewN _ _).mono (by simp))) (Nat.le_refl _) (((below_drewN (w.alloc (.cells #[.int .i64 0, .string ⟨#[]⟩, .int .i64 0] 45)) _).block w.heap.size (by simp)).trans (new0 _ _)) (.int .i64 0) (.string ⟨#[]⟩) (.int .i64 0)
    refine bodyPost_ret (v := tokV tk0) (by simp [results, Tryd.results72, go_sem, r0, r1, r2, tk0]; try rfl) rfl ?_
    exact ⟨rfl, hb3⟩
  · obtain ⟨_, b, o, cap, he, _, _, hbw, hcell⟩ := toks_of h.row (by omega)
    simp only [Value.slice.injEq, true_and] at he
    obtain ⟨rfl, rfl⟩ := he
    obtain ⟨g0, g1, g2⟩ := hcell k (by omega)
    obtain ⟨u, hu⟩ : ∃ u, u = L.getD k tk0 := ⟨_, rfl⟩
    rw [← hu] at g0 g1 g2 ⊢
    clear hcell hu h hml
    obtain ⟨uk, ut, un⟩ := u
    simp only [tokV] at g0 g1 g2 ⊢
    obtain ⟨us, hus⟩ : ∃ us : ByteArray, us = ⟨ut.toArray⟩ := ⟨_, rfl⟩
    rw [← hus] at g1 ⊢
    clear hus
    go_enter Tryd.func72, Tryd.ntmps72
    go_wp2_with fail
    go_quiet (fail)
    go_wp2_with fail
    go_region
    go_wp2_with fail
    obtain ⟨hb3, r0, r1, r2⟩ := st3 (w0 := w) (w := (w.alloc (.cells #[.int .i64 0, .string ⟨#[]⟩, .int .i64 0] 45)).drewN (nq + 1)) (R := w.heap.size) (((Below.refl _ _).alloc (Nat.le_refl _) _).trans ((below_drewN _ _).mono (by simp))) (Nat.le_refl _) (((below_drewN (w.alloc (.cells #[.int .i64 0, .string ⟨#[]⟩, .int .i64 0] 45)) _).block w.heap.size (by simp)).trans (new0 _ _)) (.int .i64 uk) (.string us) (.int .i64 un)
    refine bodyPost_ret (v := .agg #[.int .i64 uk, .string us, .int .i64 un]) (by simp [results, Tryd.results72, go_sem, r0, r1, r2]; try rfl) rfl ?_
    exact ⟨rfl, hb3⟩
def mayB (L : List Tk) (k : Nat) (s : ByteArray) : Bool := ((L.getD k tk0).k == 1 || (L.getD k tk0).k == 4) && decide ((⟨(L.getD k tk0).t.toArray⟩ : ByteArray) = s)
theorem may_lt {L : List Tk} {k : Nat} {s : ByteArray} (h : mayB L k s = true) : k < L.length := by
  by_cases hk : k < L.length
  · exact hk
  · exfalso
    unfold mayB at h
    rw [show L.getD k tk0 = tk0 by simp [List.getD, List.getElem?_eq_none (show L.length ≤ k by omega)]] at h
    simp [tk0] at h
/-- A reader that goes on: its place is another. -/
theorem Rdr.step {w : World} {B : Nat} {a : Option Addr} {n c : Nat} {L : List Tk} {k : Nat} {ov : Value} (h : Rdr w B a n c L k ov) (k' : Nat) (hk : k' ≤ n) : Rdr (w.setCell ⟨B, 1, none⟩ (.int .i64 (k' : Int))) B a n c L k' ov :=
  ⟨by simpa using Lib.heap_setCell_same (i := 1) h.box (.int .i64 (k' : Int)), rd_but h.row (But.set _ _ _ _) (fun x cap e hn => h.ne x (by cases e; rfl) hn) (by omega), hk, h.sm, h.ne⟩
theorem may_any (w : World) (B : Nat) (a : Option Addr) (n c : Nat) (L : List Tk) (k : Nat) (ov : Value) (h : Rdr w B a n c L k ov) (s : ByteArray) :
    Calls Tryd.prog 50 #[.pointer (some ⟨B, 0, none⟩), .string s] w fun e w' => e = .returned (.bool (mayB L k s)) ∧ Rdr w' B a n c L (if mayB L k s then k + 1 else k) ov ∧ But B w w' := by
  have HN := Lib.hid (now_any w B a n c L k ov h)
  have hml := len_t h.row
  have HR : Hid (∀ w1, Below w.heap.size w w1 → Rdr w1 B a n c L k ov) := fun w1 hb => h.below hb
  have HST : Hid (mayB L k s = true → ∀ w1, Below w.heap.size w w1 → Rdr (w1.setCell ⟨B, 1, none⟩ (.int .i64 ((k : Int) + 1))) B a n c L (k + 1) ov) := fun hm w1 hb => by
    have := (h.below hb).step (k + 1) (by have := may_lt hm; omega)
    rwa [show ((k + 1 : Nat) : Int) = (k : Int) + 1 by omega] at this
  have hle := h.le
  have hsm := h.sm
  have hlt := heap_lt h.box
  clear hml
  obtain ⟨m, hm⟩ : ∃ m, m = mayB L k s := ⟨_, rfl⟩
  rw [← hm] at HST ⊢
  unfold mayB at hm
  obtain ⟨u, hu⟩ : ∃ u, u = L.getD k tk0 := ⟨_, rfl⟩
  rw [← hu] at HN hm
  clear hu h
  obtain ⟨uk, ut, un⟩ := u
  simp only [tokV] at HN hm
  obtain ⟨us, hus⟩ : ∃ us : ByteArray, us = ⟨ut.toArray⟩ := ⟨_, rfl⟩
  rw [← hus] at HN hm
  clear hus
  have HM := Lib.hid hm
  clear hm
  go_enter Tryd.func50, Tryd.ntmps50
  go_wp2_with fail
  refine HN.out.mono ?_
  rintro e w1 ⟨rfl, hb1⟩
  obtain ⟨x0, x1, x2, f0, f1, f2⟩ := (HR.out w1 hb1).cells
  have hl1 := hb1.size
  have hB1 : B < w1.heap.size := by omega
  have hne : ¬ B = w1.heap.size := by omega
  have hbw : Below w1.heap.size w1 (w1.alloc (.cells #[.int .i64 uk, .string us, .int .i64 un] 45)) := (Below.refl _ _).alloc (Nat.le_refl _) _
  have HB2 : Hid (Below w.heap.size w (w1.alloc (.cells #[.int .i64 uk, .string us, .int .i64 un] 45))) := hb1.trans (hbw.mono hl1)
  have x1' : (w1.alloc (.cells #[.int .i64 uk, .string us, .int .i64 un] 45)).cell? ⟨B, 1, none⟩ = some (.int .i64 (k : Int)) := (hbw.cell (p := ⟨B, 1, none⟩) hB1).trans x1
  have HB1 := Lib.hid hb1
  clear hb1 hbw
  by_cases kk : uk = 1 ∨ uk = 4
  · by_cases hs : us = s
    · subst hs
      obtain rfl : m = true := by rw [HM.out]; rcases kk with rfl | rfl <;> simp
      have HS := (HST.out rfl _ HB1.out).below ((Below.refl _ _).alloc (Nat.le_refl _) (.cells #[.int .i64 uk, .string us, .int .i64 un] 45))
      rcases kk with rfl | rfl
      all_goals
        go_wp2_with fail
        go_returns
        exact ⟨rfl, HS, ((But.of HB1.out).trans (But.set _ _ _ _)).trans (But.of ((Below.refl _ _).alloc (Nat.le_refl _) _))⟩
    · obtain rfl : m = false := by rw [HM.out]; simp [hs]
      have hse : (us.toList == s.toList) = false := st_ne hs
      have HS := HR.out _ HB2.out
      rcases kk with rfl | rfl
      all_goals
        go_wp2_with fail
        go_returns
        exact ⟨rfl, HS, But.of HB2.out⟩
  · obtain ⟨q1, q4⟩ : ¬ uk = 1 ∧ ¬ uk = 4 := by omega
    obtain rfl : m = false := by rw [HM.out]; simp [q1, q4]
    have HS := HR.out _ HB2.out
    have q1n : (uk != 1) = true := by simpa using q1
    have q4n : (uk != 4) = true := by simpa using q4
    go_wp2_with fail
    go_returns
    exact ⟨rfl, HS, But.of HB2.out⟩
end Go.Proofs.YtdeollmeljaaoaaDoor.rd
