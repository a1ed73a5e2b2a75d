import Derived.Test.YtnheepkmaibofaaDoorCzk
import Derived.Test.YtnheepkmaibofaaDoorQok
import Derived.Test.YtnheepkmaibofaaDoorClk
/- A law's own copy of a statement. -/
namespace Go.Proofs.YtnheepkmaibofaaDoor.cs
open Go.ChangeShapes Go.WideShapes Go.ChangeAt Go.RowKit
set_option linter.unusedVariables false
set_option linter.unusedSimpArgs false
set_option maxHeartbeats 8000000
set_option maxRecDepth 1000000
theorem Tryd.info9 : (Tryd.prog.info? 9).map (fun i => (i.zero, i.size, i.bytes)) = some (some (.string ⟨#[]⟩), 1, 16) := by kernel_rfl
theorem str_one (l : List ByteArray) : ∀ u ∈ l.map Value.string, u.oneCell' = true := by
  intro u hu
  obtain ⟨b, _, rfl⟩ := List.mem_map.1 hu
  rfl
theorem box12 {w : World} {B : Nat} {x0 x1 x2 x3 x4 x5 x6 x7 x8 x9 x10 x11 : Value} {T : TypeId} (h : w.heap[B]? = some (.cells #[x0, x1, x2, x3, x4, x5, x6, x7, x8, x9, x10, x11] T (0, 0))) :
    w.cell? ⟨B, 0, none⟩ = some x0 ∧ w.cell? ⟨B, 1, none⟩ = some x1 ∧ w.cell? ⟨B, 2, none⟩ = some x2 ∧ w.cell? ⟨B, 3, none⟩ = some x3 ∧ w.cell? ⟨B, 4, none⟩ = some x4 ∧ w.cell? ⟨B, 5, none⟩ = some x5 ∧ w.cell? ⟨B, 6, none⟩ = some x6 ∧ w.cell? ⟨B, 7, none⟩ = some x7 ∧ w.cell? ⟨B, 8, none⟩ = some x8 ∧ w.cell? ⟨B, 9, none⟩ = some x9 ∧ w.cell? ⟨B, 10, none⟩ = some x10 ∧ w.cell? ⟨B, 11, none⟩ = some x11 ∧ w.frozen? ⟨B, 0, none⟩ = false ∧ w.frozen? ⟨B, 1, none⟩ = false ∧ w.frozen? ⟨B, 2, none⟩ = false ∧ w.frozen? ⟨B, 3, none⟩ = false ∧ w.frozen? ⟨B, 4, none⟩ = false ∧ w.frozen? ⟨B, 5, none⟩ = false ∧ w.frozen? ⟨B, 6, none⟩ = false ∧ w.frozen? ⟨B, 7, none⟩ = false ∧ w.frozen? ⟨B, 8, none⟩ = false ∧ w.frozen? ⟨B, 9, none⟩ = false ∧ w.frozen? ⟨B, 10, none⟩ = false ∧ w.frozen? ⟨B, 11, none⟩ = false := by
  refine ⟨?_, ?_, ?_, ?_, ?_, ?_, ?_, ?_, ?_, ?_, ?_, ?_, ?_, ?_, ?_, ?_, ?_, ?_, ?_, ?_, ?_, ?_, ?_, ?_⟩ <;> (simp only [World.cell?, World.frozen?]; rw [h]; rfl)
theorem st12 {w0 w : World} {A B : Nat} {x0 x1 x2 x3 x4 x5 x6 x7 x8 x9 x10 x11 : Value} {T : TypeId} (hb : Below A w0 w) (hA : A ≤ B) (h : w.heap[B]? = some (.cells #[x0, x1, x2, x3, x4, x5, x6, x7, x8, x9, x10, x11] T (0, 0))) (y0 y1 y2 y3 y4 y5 y6 y7 y8 y9 y10 y11 : Value) :
    Below A w0 (World.setCell (World.setCell (World.setCell (World.setCell (World.setCell (World.setCell (World.setCell (World.setCell (World.setCell (World.setCell (World.setCell (World.setCell w ⟨B, 0, none⟩ y0) ⟨B, 1, none⟩ y1) ⟨B, 2, none⟩ y2) ⟨B, 3, none⟩ y3) ⟨B, 4, none⟩ y4) ⟨B, 5, none⟩ y5) ⟨B, 6, none⟩ y6) ⟨B, 7, none⟩ y7) ⟨B, 8, none⟩ y8) ⟨B, 9, none⟩ y9) ⟨B, 10, none⟩ y10) ⟨B, 11, none⟩ y11) ∧ (World.setCell (World.setCell (World.setCell (World.setCell (World.setCell (World.setCell (World.setCell (World.setCell (World.setCell (World.setCell (World.setCell (World.setCell w ⟨B, 0, none⟩ y0) ⟨B, 1, none⟩ y1) ⟨B, 2, none⟩ y2) ⟨B, 3, none⟩ y3) ⟨B, 4, none⟩ y4) ⟨B, 5, none⟩ y5) ⟨B, 6, none⟩ y6) ⟨B, 7, none⟩ y7) ⟨B, 8, none⟩ y8) ⟨B, 9, none⟩ y9) ⟨B, 10, none⟩ y10) ⟨B, 11, none⟩ y11).cell? ⟨B, 0, none⟩ = some y0 ∧ (World.setCell (World.setCell (World.setCell (World.setCell (World.setCell (World.setCell (World.setCell (World.setCell (World.setCell (World.setCell (World.setCell (World.setCell w ⟨B, 0, none⟩ y0) ⟨B, 1, none⟩ y1) ⟨B, 2, none⟩ y2) ⟨B, 3, none⟩ y3) ⟨B, 4, none⟩ y4) ⟨B, 5, none⟩ y5) ⟨B, 6, none⟩ y6) ⟨B, 7, none⟩ y7) ⟨B, 8, none⟩ y8) ⟨B, 9, none⟩ y9) ⟨B, 10, none⟩ y10) ⟨B, 11, none⟩ y11).cell? ⟨B, 1, none⟩ = some y1 ∧ (World.setCell (World.setCell (World.setCell (World.setCell (World.setCell (World.setCell (World.setCell (World.setCell (World.setCell (World.setCell (World.setCell (World.setCell w ⟨B, 0, none⟩ y0) ⟨B, 1, none⟩ y1) ⟨B, 2, none⟩ y2) ⟨B, 3, none⟩ y3) ⟨B, 4, none⟩ y4) ⟨B, 5, none⟩ y5) ⟨B, 6, none⟩ y6) ⟨B, 7, none⟩ y7) ⟨B, 8, none⟩ y8) ⟨B, 9, none⟩ y9) ⟨B, 10, none⟩ y10) ⟨B, 11, none⟩ y11).cell? ⟨B, 2, none⟩ = some y2 ∧ (World.setCell (World.setCell (World.setCell (World.setCell (World.setCell (World.setCell (World.setCell (World.setCell (World.setCell (World.setCell (World.setCell (World.setCell w ⟨B, 0, none⟩ y0) ⟨B, 1, none⟩ y1) ⟨B, 2, none⟩ y2) ⟨B, 3, none⟩ y3) ⟨B, 4, none⟩ y4) ⟨B, 5, none⟩ y5) ⟨B, 6, none⟩ y6) ⟨B, 7, none⟩ y7) ⟨B, 8, none⟩ y8) ⟨B, 9, none⟩ y9) ⟨B, 10, none⟩ y10) ⟨B, 11, none⟩ y11).cell? ⟨B, 3, none⟩ = some y3 ∧ (World.setCell (World.setCell (World.setCell (World.setCell (World.setCell (World.setCell (World.setCell (World.setCell (World.setCell (World.setCell (World.setCell (World.setCell w ⟨B, 0, none⟩ y0) ⟨B, 1, none⟩ y1) ⟨B, 2, none⟩ y2) ⟨B, 3, none⟩ y3) ⟨B, 4, none⟩ y4) ⟨B, 5, none⟩ y5) ⟨B, 6, none⟩ y6) ⟨B, 7, none⟩ y7) ⟨B, 8, none⟩ y8) ⟨B, 9, none⟩ y9) ⟨B, 10, none⟩ y10) ⟨B, 11, none⟩ y11).cell? ⟨B, 4, none⟩ = some y4 ∧ (World.setCell (World.setCell (World.setCell (World.setCell (World.setCell (World.setCell (World.setCell (World.setCell (World.setCell (World.setCell (World.setCell (World.setCell w ⟨B, 0, none⟩ y0) ⟨B, 1, none⟩ y1) ⟨B, 2, none⟩ y2) ⟨B, 3, none⟩ y3) ⟨B, 4, none⟩ y4) ⟨B, 5, none⟩ y5) ⟨B, 6, none⟩ y6) ⟨B, 7, none⟩ y7) ⟨B, 8, none⟩ y8) ⟨B, 9, none⟩ y9) ⟨B, 10, none⟩ y10) ⟨B, 11, none⟩ y11).cell? ⟨B, 5, none⟩ = some y5 ∧ (World.setCell (World.setCell (World.setCell (World.setCell (World.setCell (World.setCell (World.setCell (World.setCell (World.setCell (World.setCell (World.setCell (World.setCell w ⟨B, 0, none⟩ y0) ⟨B, 1, none⟩ y1) ⟨B, 2, none⟩ y2) ⟨B, 3, none⟩ y3) ⟨B, 4, none⟩ y4) ⟨B, 5, none⟩ y5) ⟨B, 6, none⟩ y6) ⟨B, 7, none⟩ y7) ⟨B, 8, none⟩ y8) ⟨B, 9, none⟩ y9) ⟨B, 10, none⟩ y10) ⟨B, 11, none⟩ y11).cell? ⟨B, 6, none⟩ = some y6 ∧ (World.setCell (World.setCell (World.setCell (World.setCell (World.setCell (World.setCell (World.setCell (World.setCell (World.setCell (World.setCell (World.setCell (World.setCell w ⟨B, 0, none⟩ y0) ⟨B, 1, none⟩ y1) ⟨B, 2, none⟩ y2) ⟨B, 3, none⟩ y3) ⟨B, 4, none⟩ y4) ⟨B, 5, none⟩ y5) ⟨B, 6, none⟩ y6) ⟨B, 7, none⟩ y7) ⟨B, 8, none⟩ y8) ⟨B, 9, none⟩ y9) ⟨B, 10, none⟩ y10) ⟨B, 11, none⟩ y11).cell? ⟨B, 7, none⟩ = some y7 ∧ (World.setCell (World.setCell (World.setCell (World.setCell (World.setCell (World.setCell (World.setCell (World.setCell (World.setCell (World.setCell (World.setCell (World.setCell w ⟨B, 0, none⟩ y0) ⟨B, 1, none⟩ y1) ⟨B, 2, none⟩ y2) ⟨B, 3, none⟩ y3) ⟨B, 4, none⟩ y4) ⟨B, 5, none⟩ y5) ⟨B, 6, none⟩ y6) ⟨B, 7, none⟩ y7) ⟨B, 8, none⟩ y8) ⟨B, 9, none⟩ y9) ⟨B, 10, none⟩ y10) ⟨B, 11, none⟩ y11).cell? ⟨B, 8, none⟩ = some y8 ∧ (World.setCell (World.setCell (World.setCell (World.setCell (World.setCell (World.setCell (World.setCell (World.setCell (World.setCell (World.setCell (World.setCell (World.setCell w ⟨B, 0, none⟩ y0) ⟨B, 1, none⟩ y1) ⟨B, 2, none⟩ y2) ⟨B, 3, none⟩ y3) ⟨B, 4, none⟩ y4) ⟨B, 5, none⟩ y5) ⟨B, 6, none⟩ y6) ⟨B, 7, none⟩ y7) ⟨B, 8, none⟩ y8) ⟨B, 9, none⟩ y9) ⟨B, 10, none⟩ y10) ⟨B, 11, none⟩ y11).cell? ⟨B, 9, none⟩ = some y9 ∧ (World.setCell (World.setCell (World.setCell (World.setCell (World.setCell (World.setCell (World.setCell (World.setCell (World.setCell (World.setCell (World.setCell (World.setCell w ⟨B, 0, none⟩ y0) ⟨B, 1, none⟩ y1) ⟨B, 2, none⟩ y2) ⟨B, 3, none⟩ y3) ⟨B, 4, none⟩ y4) ⟨B, 5, none⟩ y5) ⟨B, 6, none⟩ y6) ⟨B, 7, none⟩ y7) ⟨B, 8, none⟩ y8) ⟨B, 9, none⟩ y9) ⟨B, 10, none⟩ y10) ⟨B, 11, none⟩ y11).cell? ⟨B, 10, none⟩ = some y10 ∧ (World.setCell (World.setCell (World.setCell (World.setCell (World.setCell (World.setCell (World.setCell (World.setCell (World.setCell (World.setCell (World.setCell (World.setCell w ⟨B, 0, none⟩ y0) ⟨B, 1, none⟩ y1) ⟨B, 2, none⟩ y2) ⟨B, 3, none⟩ y3) ⟨B, 4, none⟩ y4) ⟨B, 5, none⟩ y5) ⟨B, 6, none⟩ y6) ⟨B, 7, none⟩ y7) ⟨B, 8, none⟩ y8) ⟨B, 9, none⟩ y9) ⟨B, 10, none⟩ y10) ⟨B, 11, none⟩ y11).cell? ⟨B, 11, none⟩ = some y11 := by
  have h0 := Lib.heap_setCell_same (i := 0) h y0
  have h1 := Lib.heap_setCell_same (i := 1) h0 y1
  have h2 := Lib.heap_setCell_same (i := 2) h1 y2
  have h3 := Lib.heap_setCell_same (i := 3) h2 y3
  have h4 := Lib.heap_setCell_same (i := 4) h3 y4
  have h5 := Lib.heap_setCell_same (i := 5) h4 y5
  have h6 := Lib.heap_setCell_same (i := 6) h5 y6
  have h7 := Lib.heap_setCell_same (i := 7) h6 y7
  have h8 := Lib.heap_setCell_same (i := 8) h7 y8
  have h9 := Lib.heap_setCell_same (i := 9) h8 y9
  have h10 := Lib.heap_setCell_same (i := 10) h9 y10
  have h11 := Lib.heap_setCell_same (i := 11) h10 y11
  have b0 := hb.setCell (p := ⟨B, 0, none⟩) hA y0
  have b1 := b0.setCell (p := ⟨B, 1, none⟩) hA y1
  have b2 := b1.setCell (p := ⟨B, 2, none⟩) hA y2
  have b3 := b2.setCell (p := ⟨B, 3, none⟩) hA y3
  have b4 := b3.setCell (p := ⟨B, 4, none⟩) hA y4
  have b5 := b4.setCell (p := ⟨B, 5, none⟩) hA y5
  have b6 := b5.setCell (p := ⟨B, 6, none⟩) hA y6
  have b7 := b6.setCell (p := ⟨B, 7, none⟩) hA y7
  have b8 := b7.setCell (p := ⟨B, 8, none⟩) hA y8
  have b9 := b8.setCell (p := ⟨B, 9, none⟩) hA y9
  have b10 := b9.setCell (p := ⟨B, 10, none⟩) hA y10
  have b11 := b10.setCell (p := ⟨B, 11, none⟩) hA y11
  have h12 : (World.setCell (World.setCell (World.setCell (World.setCell (World.setCell (World.setCell (World.setCell (World.setCell (World.setCell (World.setCell (World.setCell (World.setCell w ⟨B, 0, none⟩ y0) ⟨B, 1, none⟩ y1) ⟨B, 2, none⟩ y2) ⟨B, 3, none⟩ y3) ⟨B, 4, none⟩ y4) ⟨B, 5, none⟩ y5) ⟨B, 6, none⟩ y6) ⟨B, 7, none⟩ y7) ⟨B, 8, none⟩ y8) ⟨B, 9, none⟩ y9) ⟨B, 10, none⟩ y10) ⟨B, 11, none⟩ y11).heap[B]? = some (.cells #[y0, y1, y2, y3, y4, y5, y6, y7, y8, y9, y10, y11] T (0, 0)) := by simpa using h11
  refine ⟨b11, ?_, ?_, ?_, ?_, ?_, ?_, ?_, ?_, ?_, ?_, ?_, ?_⟩ <;> (simp only [World.cell?]; rw [h12]; rfl)
/-- A box of a statement with another slice in it. -/
theorem put_cell {A P : Nat} {w0 w : World} {cs : Array Value} {T : TypeId} (hb : Below A w0 w) (hA : A ≤ P) (h : w.heap[P]? = some (.cells cs T (0, 0))) (i : Nat) (v : Value) : Below A w0 (w.setCell ⟨P, i, none⟩ v) ∧ (w.setCell ⟨P, i, none⟩ v).heap[P]? = some (.cells (cs.setIfInBounds i v) T (0, 0)) :=
  ⟨hb.setCell (p := ⟨P, i, none⟩) hA v, Lib.heap_setCell_same h v⟩
theorem Rd.put {w : World} {P i s n : Nat} {v x : Value} {xs : List Value} (h : Rd w s n v xs) (hP : ∀ a cap, v = .slice (some a) n cap → 0 < n → a.block ≠ P) (hs : 0 < s) : Rd (w.setCell ⟨P, i, none⟩ x) s n v xs := by
  obtain ⟨h1, ao, cap, h2, h3, h4, h5, h6⟩ := h
  refine ⟨h1, ao, cap, h2, h3, h4, h5, fun a ha j u hu => ?_⟩
  have hn : 0 < n := by
    rcases Nat.eq_zero_or_pos n with h0 | h0
    · subst h0
      have := (List.getElem?_eq_some_iff.1 hu).1
      omega
    · exact h0
  subst ha
  have hne := hP a cap h2 hn
  have h8 := h6 a rfl j u hu
  unfold World.cell? at h8 ⊢
  have hb : (a.add j).block = a.block := by
    obtain ⟨b, o, s⟩ := a
    simp only [Addr.add]
    split <;> rfl
  rw [hb] at h8 ⊢
  rw [Below.heap_setCell _ _ _ _ (fun e => hne (by simpa using e))]
  exact h8
theorem Rd.blk {w : World} {s n : Nat} {v : Value} {xs : List Value} (h : Rd w s n v xs) (hs : 0 < s) : ∀ a cap, v = .slice (some a) n cap → 0 < n → a.block < w.heap.size := by
  intro a cap hv hn
  obtain ⟨b, o, cap', h1, _, _, h4, _⟩ := h.pos hn hs
  rw [hv] at h1
  simp only [Value.slice.injEq, Option.some.injEq] at h1
  rw [h1.1]
  exact h4
theorem own_blk {w : World} {B e s n : Nat} {v : Value} {xs : List Value} (h : w.ownsRow B e s v n xs) : ∀ a cap, v = .slice (some a) n cap → 0 < n → B ≤ a.block := by
  intro a cap hv hn
  exact (h.lt a.block (by rw [hv]; rfl)).1
theorem Rd.put12 {w : World} {B s n : Nat} {v : Value} {xs : List Value} (h : Rd w s n v xs) (hP : ∀ a cap, v = .slice (some a) n cap → 0 < n → a.block ≠ B) (hs : 0 < s) (y0 y1 y2 y3 y4 y5 y6 y7 y8 y9 y10 y11 : Value) : Rd (World.setCell (World.setCell (World.setCell (World.setCell (World.setCell (World.setCell (World.setCell (World.setCell (World.setCell (World.setCell (World.setCell (World.setCell w ⟨B, 0, none⟩ y0) ⟨B, 1, none⟩ y1) ⟨B, 2, none⟩ y2) ⟨B, 3, none⟩ y3) ⟨B, 4, none⟩ y4) ⟨B, 5, none⟩ y5) ⟨B, 6, none⟩ y6) ⟨B, 7, none⟩ y7) ⟨B, 8, none⟩ y8) ⟨B, 9, none⟩ y9) ⟨B, 10, none⟩ y10) ⟨B, 11, none⟩ y11) s n v xs :=
  Rd.put (Rd.put (Rd.put (Rd.put (Rd.put (Rd.put (Rd.put (Rd.put (Rd.put (Rd.put (Rd.put (Rd.put (h) hP hs) hP hs) hP hs) hP hs) hP hs) hP hs) hP hs) hP hs) hP hs) hP hs) hP hs) hP hs
theorem wpl_nm {ops : Array Oper} {rest : List Oper} {Q : Exit → Act → World → Prop} {a : Act} {w : World} (h : ∀ W, W = w → wpList Tryd.prog ops Q rest a W) : wpList Tryd.prog ops Q rest a w := h w rfl
theorem code_nm {c : Code} {Q : Exit → Act → World → Prop} {a : Act} {w : World} (h : ∀ W, W = w → Code.wp Tryd.prog c Q a W) : Code.wp Tryd.prog c Q a w := h w rfl
theorem calls_nm {p : Program} {f : FuncId} {a : Array Value} {w : World} {Q : Ending → World → Prop} (h : ∀ W, W = w → Calls p f a W Q) : Calls p f a w Q := h w rfl
theorem put_step {w0 w : World} {P : Nat} {cs : Array Value} {T : TypeId} {o : Obj} (hb : Below P w0 w) (hp : w.heap[P]? = some (.cells cs T (0, 0))) (hr : w.heap[P + 1]? = some o) (i : Nat) (v : Value) {W : World} (hW : W = w.setCell ⟨P, i, none⟩ v) :
    Below P w0 W ∧ W.heap[P]? = some (.cells (cs.setIfInBounds i v) T (0, 0)) ∧ W.heap[P + 1]? = some o ∧ W.heap.size = w.heap.size := by
  subst hW
  refine ⟨hb.setCell (p := ⟨P, i, none⟩) (Nat.le_refl _) v, Lib.heap_setCell_same hp v, ?_, by simp⟩
  rw [Below.heap_setCell _ _ _ _ (by simp)]
  exact hr
theorem stmt_any (w : World) (s : Sq) (p : Ps) (hr : StR w s p) (hz : SqIn s) :
    Calls Tryd.prog 7 #[stV s p] w fun e w' => ∃ p' : Ps, e = .returned (stV s p') ∧ StR w' s p' ∧ Below w.heap.size w w' := by
  obtain ⟨l2, l3, l4, l6, l11⟩ := hr.lens
  obtain ⟨z2, z3, z4, z6, z11, zt, zo, ze⟩ := hz
  rw [← l2] at z2
  rw [← l3] at z3
  rw [← l4] at z4
  rw [← l6] at z6
  rw [← l11] at z11
  have H2 : Hid (∀ W, Below w.heap.size w W → Calls Tryd.prog 21 #[.slice p.a2 p.n2 p.c2] W fun e w' => ∃ v', e = .returned v' ∧ w'.ownsRow W.heap.size 73 2 v' p.n2 (ccs s.cols) ∧ Below W.heap.size W w') := fun W hW => kcols_any p.n2 _ s.cols W z2 (hr.r2.below hW)
  have H3 : Hid (∀ W, Below w.heap.size w W → Calls Tryd.prog 22 #[.slice p.a3 p.n3 p.c3] W fun e w' => ∃ v', e = .returned v' ∧ w'.ownsRow W.heap.size 44 3 v' p.n3 (vc s.row) ∧ Below W.heap.size W w') := fun W hW => kvals_any p.n3 _ s.row W z3 (hr.r3.below hW)
  have H4 : Hid (∀ W, Below w.heap.size w W → Rd W 1 p.n4 (.slice p.a4 p.n4 p.c4) (s.names.map Value.string)) := fun W hW => hr.r4.below hW
  have H6 : Hid (∀ W, Below w.heap.size w W → Calls Tryd.prog 23 #[.slice p.a6 p.n6 p.c6] W fun e w' => ∃ v', e = .returned v' ∧ w'.ownsRow W.heap.size 46 5 v' p.n6 (ocs s.wh) ∧ Below W.heap.size W w') := fun W hW => ops_any p.n6 _ s.wh W z6 (hr.r6.below hW)
  have H11 : Hid (∀ W, Below w.heap.size w W → Calls Tryd.prog 23 #[.slice p.a11 p.n11 p.c11] W fun e w' => ∃ v', e = .returned v' ∧ w'.ownsRow W.heap.size 46 5 v' p.n11 (ocs s.to) ∧ Below W.heap.size W w') := fun W hW => ops_any p.n11 _ s.to W z11 (hr.r11.below hW)
  clear hr l2 l3 l4 l6 l11 zt zo ze
  obtain ⟨k, t, cols, row, names, cnt, wh, ord, dn, lim, st, to⟩ := s
  obtain ⟨a2, n2, c2, a3, n3, c3, a4, n4, c4, a6, n6, c6, a11, n11, c11⟩ := p
  simp only at H2 H3 H4 H6 H11 z2 z3 z4 z6 z11
  clear z2 z3 z6 z11
  have HW1 : Hid (∀ (z : Array Value) W1, W1 = ((w.alloc (.cells #[.int .i64 k, .string t, .slice a2 n2 c2, .slice a3 n3 c3, .slice a4 n4 c4, .bool cnt, .slice a6 n6 c6, .string ord, .bool dn, .int .i64 lim, .string st, .slice a11 n11 c11] 27)).alloc (.cells z 27)) → Below w.heap.size w W1 ∧ W1.heap.size = w.heap.size + 2 ∧ W1.heap[w.heap.size]? = some (.cells #[.int .i64 k, .string t, .slice a2 n2 c2, .slice a3 n3 c3, .slice a4 n4 c4, .bool cnt, .slice a6 n6 c6, .string ord, .bool dn, .int .i64 lim, .string st, .slice a11 n11 c11] 27 (0, 0)) ∧ W1.heap[w.heap.size + 1]? = some (.cells z 27 (0, 0))) := fun z W1 h => by
    subst h
    refine ⟨((Below.refl _ _).alloc (Nat.le_refl _) _).alloc (by simp) _, by simp, ?_, new1 _ _ _⟩
    exact (Below.heap_alloc _ _ _ (by simp)).trans (new0 _ _)
  go_enter Tryd.func7, Tryd.ntmps7
  go_wp2_with fail
  refine calls_nm (fun W1 hW1 => ?_)
  obtain ⟨hB1, hz1, hp1, hr1⟩ := HW1.out _ W1 hW1
  refine (H2.out W1 hB1).mono ?_
  rintro e2 w2 ⟨v2, rfl, hown2, hb2⟩
  obtain ⟨s2, q2, rfl⟩ := own_shape hown2
  have hp2 := (hb2.block w.heap.size (by omega)).trans hp1
  have hr2 := (hb2.block (w.heap.size + 1) (by omega)).trans hr1
  obtain ⟨x0, x1, x2, x3, x4, x5, x6, x7, x8, x9, x10, x11, f0, f1, f2, f3, f4, f5, f6, f7, f8, f9, f10, f11⟩ := box12 hp2
  have HB2 := Lib.hid (into hB1 hb2)
  have HP2 := Lib.hid hp2
  have HR2 := Lib.hid hr2
  have hs2 := hb2.size
  have HO2 := Lib.hid (Rd.own hown2)
  have HK2 : Hid (∀ a cap, Value.slice s2 n2 q2 = .slice (some a) n2 cap → 0 < n2 → w.heap.size + 2 ≤ a.block) := (fun a cap e h => by have := own_blk hown2 a cap e h; omega)
  clear hown2 hb2 hp2 hr2 hp1 hr1 hB1 hW1 
  go_wp2_with fail
  refine calls_nm (fun W3 hW3 => ?_)
  obtain ⟨hB3, hp3, hr3, hz3⟩ := put_step HB2.out HP2.out HR2.out 2 _ hW3
  have hp3 : W3.heap[w.heap.size]? = some (.cells #[.int .i64 k, .string t, .slice s2 n2 q2, .slice a3 n3 c3, .slice a4 n4 c4, .bool cnt, .slice a6 n6 c6, .string ord, .bool dn, .int .i64 lim, .string st, .slice a11 n11 c11] 27 (0, 0)) := (by simpa using hp3)
  have hrd2_3 : Rd W3 2 n2 (.slice s2 n2 q2) (ccs cols) := (by rw [hW3]; exact Rd.put HO2.out (fun a cap e h => by have := HK2.out a cap e h; omega) (by omega))
  clear x0 x1 x2 x3 x4 x5 x6 x7 x8 x9 x10 x11 f0 f1 f2 f3 f4 f5 f6 f7 f8 f9 f10 f11
  refine (H3.out W3 hB3).mono ?_
  rintro e4 w4 ⟨v4, rfl, hown4, hb4⟩
  obtain ⟨s3, q3, rfl⟩ := own_shape hown4
  have hp4 := (hb4.block w.heap.size (by omega)).trans hp3
  have hr4 := (hb4.block (w.heap.size + 1) (by omega)).trans hr3
  obtain ⟨x0, x1, x2, x3, x4, x5, x6, x7, x8, x9, x10, x11, f0, f1, f2, f3, f4, f5, f6, f7, f8, f9, f10, f11⟩ := box12 hp4
  have HB4 := Lib.hid (into hB3 hb4)
  have HP4 := Lib.hid hp4
  have HR4 := Lib.hid hr4
  have hs4 := hb4.size
  have HO4 := Lib.hid (Rd.own hown4)
  have HK3 : Hid (∀ a cap, Value.slice s3 n3 q3 = .slice (some a) n3 cap → 0 < n3 → w.heap.size + 2 ≤ a.block) := (fun a cap e h => by have := own_blk hown4 a cap e h; omega)
  have hrd2_4 := hrd2_3.below hb4
  have HD2_4 := Lib.hid hrd2_4
  clear hown4 hb4 hp4 hr4 hp3 hr3 hB3 hW3 hrd2_4 hrd2_3
  go_wp2_with (at_builtin; go_loud (refine wpl_nm (fun W5 hW5 => ?_); obtain ⟨hB5, hp5, hr5, hz5⟩ := put_step HB4.out HP4.out HR4.out 3 _ hW5; have hp5 : W5.heap[w.heap.size]? = some (.cells #[.int .i64 k, .string t, .slice s2 n2 q2, .slice s3 n3 q3, .slice a4 n4 c4, .bool cnt, .slice a6 n6 c6, .string ord, .bool dn, .int .i64 lim, .string st, .slice a11 n11 c11] 27 (0, 0)) := (by simpa using hp5); have hrd2_5 : Rd W5 2 n2 (.slice s2 n2 q2) (ccs cols) := (by rw [hW5]; exact Rd.put HD2_4.out (fun a cap e h => by have := HK2.out a cap e h; omega) (by omega)); have hrd3_5 : Rd W5 3 n3 (.slice s3 n3 q3) (vc row) := (by rw [hW5]; exact Rd.put HO4.out (fun a cap e h => by have := HK3.out a cap e h; omega) (by omega)); clear x0 x1 x2 x3 x4 x5 x6 x7 x8 x9 x10 x11 f0 f1 f2 f3 f4 f5 f6 f7 f8 f9 f10 f11; have HN5 := Lib.hid (H4.out W5 hB5); refine apg W5 n4 rfl _ _ 24 9 _ 1 16 Tryd.underlying24 Tryd.info9 rfl (by omega) rfl (World.ownsRow_nil W5 W5.heap.size _ _) (Nat.le_refl _) (by omega) (by unfold maxLen; omega) (str_one _) HN5.out rfl rfl ?_; intro v6 w6 hown6 hb6 _; have hown6 : w6.ownsRow W5.heap.size 9 1 v6 n4 (names.map Value.string) := (by simpa using hown6); obtain ⟨s4, q4, rfl⟩ := own_shape hown6; have hp6 := (hb6.block w.heap.size (by omega)).trans hp5; have hr6 := (hb6.block (w.heap.size + 1) (by omega)).trans hr5; obtain ⟨x0, x1, x2, x3, x4, x5, x6, x7, x8, x9, x10, x11, f0, f1, f2, f3, f4, f5, f6, f7, f8, f9, f10, f11⟩ := box12 hp6; have HB6 := Lib.hid (into hB5 hb6); have HP6 := Lib.hid hp6; have HR6 := Lib.hid hr6; have hs6 := hb6.size; have HO6 := Lib.hid (Rd.own hown6); have HK4 : Hid (∀ a cap, Value.slice s4 n4 q4 = .slice (some a) n4 cap → 0 < n4 → w.heap.size + 2 ≤ a.block) := (fun a cap e h => by have := own_blk hown6 a cap e h; omega); have hrd2_6 := hrd2_5.below hb6; have HD2_6 := Lib.hid hrd2_6; have hrd3_6 := hrd3_5.below hb6; have HD3_6 := Lib.hid hrd3_6; clear hown6 hb6 hp6 hr6 hp5 hr5 hB5 hW5 hrd2_6 hrd2_5 hrd3_6 hrd3_5))
  refine calls_nm (fun W7 hW7 => ?_)
  obtain ⟨hB7, hp7, hr7, hz7⟩ := put_step HB6.out HP6.out HR6.out 4 _ hW7
  have hp7 : W7.heap[w.heap.size]? = some (.cells #[.int .i64 k, .string t, .slice s2 n2 q2, .slice s3 n3 q3, .slice s4 n4 q4, .bool cnt, .slice a6 n6 c6, .string ord, .bool dn, .int .i64 lim, .string st, .slice a11 n11 c11] 27 (0, 0)) := (by simpa using hp7)
  have hrd2_7 : Rd W7 2 n2 (.slice s2 n2 q2) (ccs cols) := (by rw [hW7]; exact Rd.put HD2_6.out (fun a cap e h => by have := HK2.out a cap e h; omega) (by omega))
  have hrd3_7 : Rd W7 3 n3 (.slice s3 n3 q3) (vc row) := (by rw [hW7]; exact Rd.put HD3_6.out (fun a cap e h => by have := HK3.out a cap e h; omega) (by omega))
  have hrd4_7 : Rd W7 1 n4 (.slice s4 n4 q4) (names.map Value.string) := (by rw [hW7]; exact Rd.put HO6.out (fun a cap e h => by have := HK4.out a cap e h; omega) (by omega))
  clear x0 x1 x2 x3 x4 x5 x6 x7 x8 x9 x10 x11 f0 f1 f2 f3 f4 f5 f6 f7 f8 f9 f10 f11
  refine (H6.out W7 hB7).mono ?_
  rintro e8 w8 ⟨v8, rfl, hown8, hb8⟩
  obtain ⟨s6, q6, rfl⟩ := own_shape hown8
  have hp8 := (hb8.block w.heap.size (by omega)).trans hp7
  have hr8 := (hb8.block (w.heap.size + 1) (by omega)).trans hr7
  obtain ⟨x0, x1, x2, x3, x4, x5, x6, x7, x8, x9, x10, x11, f0, f1, f2, f3, f4, f5, f6, f7, f8, f9, f10, f11⟩ := box12 hp8
  have HB8 := Lib.hid (into hB7 hb8)
  have HP8 := Lib.hid hp8
  have HR8 := Lib.hid hr8
  have hs8 := hb8.size
  have HO8 := Lib.hid (Rd.own hown8)
  have HK6 : Hid (∀ a cap, Value.slice s6 n6 q6 = .slice (some a) n6 cap → 0 < n6 → w.heap.size + 2 ≤ a.block) := (fun a cap e h => by have := own_blk hown8 a cap e h; omega)
  have hrd2_8 := hrd2_7.below hb8
  have HD2_8 := Lib.hid hrd2_8
  have hrd3_8 := hrd3_7.below hb8
  have HD3_8 := Lib.hid hrd3_8
  have hrd4_8 := hrd4_7.below hb8
  have HD4_8 := Lib.hid hrd4_8
  clear hown8 hb8 hp8 hr8 hp7 hr7 hB7 hW7 hrd2_8 hrd2_7 hrd3_8 hrd3_7 hrd4_8 hrd4_7
  go_wp2_with fail
  refine calls_nm (fun W9 hW9 => ?_)
  obtain ⟨hB9, hp9, hr9, hz9⟩ := put_step HB8.out HP8.out HR8.out 6 _ hW9
  have hp9 : W9.heap[w.heap.size]? = some (.cells #[.int .i64 k, .string t, .slice s2 n2 q2, .slice s3 n3 q3, .slice s4 n4 q4, .bool cnt, .slice s6 n6 q6, .string ord, .bool dn, .int .i64 lim, .string st, .slice a11 n11 c11] 27 (0, 0)) := (by simpa using hp9)
  have hrd2_9 : Rd W9 2 n2 (.slice s2 n2 q2) (ccs cols) := (by rw [hW9]; exact Rd.put HD2_8.out (fun a cap e h => by have := HK2.out a cap e h; omega) (by omega))
  have hrd3_9 : Rd W9 3 n3 (.slice s3 n3 q3) (vc row) := (by rw [hW9]; exact Rd.put HD3_8.out (fun a cap e h => by have := HK3.out a cap e h; omega) (by omega))
  have hrd4_9 : Rd W9 1 n4 (.slice s4 n4 q4) (names.map Value.string) := (by rw [hW9]; exact Rd.put HD4_8.out (fun a cap e h => by have := HK4.out a cap e h; omega) (by omega))
  have hrd6_9 : Rd W9 5 n6 (.slice s6 n6 q6) (ocs wh) := (by rw [hW9]; exact Rd.put HO8.out (fun a cap e h => by have := HK6.out a cap e h; omega) (by omega))
  clear x0 x1 x2 x3 x4 x5 x6 x7 x8 x9 x10 x11 f0 f1 f2 f3 f4 f5 f6 f7 f8 f9 f10 f11
  refine (H11.out W9 hB9).mono ?_
  rintro e10 w10 ⟨v10, rfl, hown10, hb10⟩
  obtain ⟨s11, q11, rfl⟩ := own_shape hown10
  have hp10 := (hb10.block w.heap.size (by omega)).trans hp9
  have hr10 := (hb10.block (w.heap.size + 1) (by omega)).trans hr9
  obtain ⟨x0, x1, x2, x3, x4, x5, x6, x7, x8, x9, x10, x11, f0, f1, f2, f3, f4, f5, f6, f7, f8, f9, f10, f11⟩ := box12 hp10
  have HB10 := Lib.hid (into hB9 hb10)
  have HP10 := Lib.hid hp10
  have HR10 := Lib.hid hr10
  have hs10 := hb10.size
  have HO10 := Lib.hid (Rd.own hown10)
  have HK11 : Hid (∀ a cap, Value.slice s11 n11 q11 = .slice (some a) n11 cap → 0 < n11 → w.heap.size + 2 ≤ a.block) := (fun a cap e h => by have := own_blk hown10 a cap e h; omega)
  have hrd2_10 := hrd2_9.below hb10
  have HD2_10 := Lib.hid hrd2_10
  have hrd3_10 := hrd3_9.below hb10
  have HD3_10 := Lib.hid hrd3_10
  have hrd4_10 := hrd4_9.below hb10
  have HD4_10 := Lib.hid hrd4_10
  have hrd6_10 := hrd6_9.below hb10
  have HD6_10 := Lib.hid hrd6_10
  clear hown10 hb10 hp10 hr10 hp9 hr9 hB9 hW9 hrd2_10 hrd2_9 hrd3_10 hrd3_9 hrd4_10 hrd4_9 hrd6_10 hrd6_9
  go_upto_region 6 with (fail)
  refine code_nm (fun W11 hW11 => ?_)
  obtain ⟨hB11, hp11, hr11, hz11⟩ := put_step HB10.out HP10.out HR10.out 11 _ hW11
  have hp11 : W11.heap[w.heap.size]? = some (.cells #[.int .i64 k, .string t, .slice s2 n2 q2, .slice s3 n3 q3, .slice s4 n4 q4, .bool cnt, .slice s6 n6 q6, .string ord, .bool dn, .int .i64 lim, .string st, .slice s11 n11 q11] 27 (0, 0)) := (by simpa using hp11)
  have hrd2_11 : Rd W11 2 n2 (.slice s2 n2 q2) (ccs cols) := (by rw [hW11]; exact Rd.put HD2_10.out (fun a cap e h => by have := HK2.out a cap e h; omega) (by omega))
  have hrd3_11 : Rd W11 3 n3 (.slice s3 n3 q3) (vc row) := (by rw [hW11]; exact Rd.put HD3_10.out (fun a cap e h => by have := HK3.out a cap e h; omega) (by omega))
  have hrd4_11 : Rd W11 1 n4 (.slice s4 n4 q4) (names.map Value.string) := (by rw [hW11]; exact Rd.put HD4_10.out (fun a cap e h => by have := HK4.out a cap e h; omega) (by omega))
  have hrd6_11 : Rd W11 5 n6 (.slice s6 n6 q6) (ocs wh) := (by rw [hW11]; exact Rd.put HD6_10.out (fun a cap e h => by have := HK6.out a cap e h; omega) (by omega))
  have hrd11_11 : Rd W11 5 n11 (.slice s11 n11 q11) (ocs to) := (by rw [hW11]; exact Rd.put HO10.out (fun a cap e h => by have := HK11.out a cap e h; omega) (by omega))
  clear x0 x1 x2 x3 x4 x5 x6 x7 x8 x9 x10 x11 f0 f1 f2 f3 f4 f5 f6 f7 f8 f9 f10 f11
  obtain ⟨x0, x1, x2, x3, x4, x5, x6, x7, x8, x9, x10, x11, f0, f1, f2, f3, f4, f5, f6, f7, f8, f9, f10, f11⟩ := box12 hp11
  obtain ⟨y0, y1, y2, y3, y4, y5, y6, y7, y8, y9, y10, y11, g0, g1, g2, g3, g4, g5, g6, g7, g8, g9, g10, g11⟩ := box12 hr11
  have HB11 := Lib.hid hB11
  have HR11 := Lib.hid hr11
  have HD2 := Lib.hid hrd2_11
  have HD3 := Lib.hid hrd3_11
  have HD4 := Lib.hid hrd4_11
  have HD6 := Lib.hid hrd6_11
  have HD11 := Lib.hid hrd11_11
  clear hB11 hp11 hr11 hW11 hrd2_11 hrd3_11 hrd4_11 hrd6_11 hrd11_11
  go_wp2_with fail
  obtain ⟨hb12, v0, v1, v2, v3, v4, v5, v6, v7, v8, v9, v10, v11⟩ := st12 HB11.out (Nat.le_succ _) HR11.out (.int .i64 k) (.string t) (.slice s2 n2 q2) (.slice s3 n3 q3) (.slice s4 n4 q4) (.bool cnt) (.slice s6 n6 q6) (.string ord) (.bool dn) (.int .i64 lim) (.string st) (.slice s11 n11 q11)
  clear x0 x1 x2 x3 x4 x5 x6 x7 x8 x9 x10 x11 f0 f1 f2 f3 f4 f5 f6 f7 f8 f9 f10 f11
  clear y0 y1 y2 y3 y4 y5 y6 y7 y8 y9 y10 y11 g0 g1 g2 g3 g4 g5 g6 g7 g8 g9 g10 g11
  have hres := And.intro (Rd.put12 (B := w.heap.size + 1) HD2.out (fun a cap e h => by have := HK2.out a cap e h; omega) (by omega) (.int .i64 k) (.string t) (.slice s2 n2 q2) (.slice s3 n3 q3) (.slice s4 n4 q4) (.bool cnt) (.slice s6 n6 q6) (.string ord) (.bool dn) (.int .i64 lim) (.string st) (.slice s11 n11 q11)) (And.intro (Rd.put12 (B := w.heap.size + 1) HD3.out (fun a cap e h => by have := HK3.out a cap e h; omega) (by omega) (.int .i64 k) (.string t) (.slice s2 n2 q2) (.slice s3 n3 q3) (.slice s4 n4 q4) (.bool cnt) (.slice s6 n6 q6) (.string ord) (.bool dn) (.int .i64 lim) (.string st) (.slice s11 n11 q11)) (And.intro (Rd.put12 (B := w.heap.size + 1) HD4.out (fun a cap e h => by have := HK4.out a cap e h; omega) (by omega) (.int .i64 k) (.string t) (.slice s2 n2 q2) (.slice s3 n3 q3) (.slice s4 n4 q4) (.bool cnt) (.slice s6 n6 q6) (.string ord) (.bool dn) (.int .i64 lim) (.string st) (.slice s11 n11 q11)) (And.intro (Rd.put12 (B := w.heap.size + 1) HD6.out (fun a cap e h => by have := HK6.out a cap e h; omega) (by omega) (.int .i64 k) (.string t) (.slice s2 n2 q2) (.slice s3 n3 q3) (.slice s4 n4 q4) (.bool cnt) (.slice s6 n6 q6) (.string ord) (.bool dn) (.int .i64 lim) (.string st) (.slice s11 n11 q11)) (Rd.put12 (B := w.heap.size + 1) HD11.out (fun a cap e h => by have := HK11.out a cap e h; omega) (by omega) (.int .i64 k) (.string t) (.slice s2 n2 q2) (.slice s3 n3 q3) (.slice s4 n4 q4) (.bool cnt) (.slice s6 n6 q6) (.string ord) (.bool dn) (.int .i64 lim) (.string st) (.slice s11 n11 q11)))))
  refine bodyPost_ret (v := .agg #[.int .i64 k, .string t, .slice s2 n2 q2, .slice s3 n3 q3, .slice s4 n4 q4, .bool cnt, .slice s6 n6 q6, .string ord, .bool dn, .int .i64 lim, .string st, .slice s11 n11 q11]) (by simp [results, Tryd.results7, go_sem, v0, v1, v2, v3, v4, v5, v6, v7, v8, v9, v10, v11]; try rfl) rfl ?_
  exact ⟨⟨s2, n2, q2, s3, n3, q3, s4, n4, q4, s6, n6, q6, s11, n11, q11⟩, rfl, ⟨hres.1, hres.2.1, hres.2.2.1, hres.2.2.2.1, hres.2.2.2.2⟩, hb12⟩
end Go.Proofs.YtnheepkmaibofaaDoor.cs
/- Two readings of the same, compared. -/
namespace Go.Proofs.YtnheepkmaibofaaDoor.cs
open Go.ChangeShapes Go.WideShapes Go.ChangeAt Go.RowKit
set_option linter.unusedVariables false
set_option linter.unusedSimpArgs false
set_option maxHeartbeats 4000000
set_option maxRecDepth 100000
theorem toks_of {w : World} {n : Nat} {v : Value} {l : List Tk} (h : Rd w 3 n v (tkc l)) (hn : 0 < n) :
    l.length = n ∧ ∃ b o cap, v = .slice (some ⟨b, o, none⟩) n cap ∧ n ≤ cap ∧ cap ≤ maxLen ∧ b < w.heap.size ∧
      ∀ k, k < n → w.cell? ⟨b, o + k * 3, none⟩ = some (.int .i64 (l.getD k tk0).k) ∧ w.cell? ⟨b, o + k * 3 + 1, none⟩ = some (.string ⟨(l.getD k tk0).t.toArray⟩) ∧ w.cell? ⟨b, o + k * 3 + 2, none⟩ = some (.int .i64 (l.getD k tk0).n) := by
  have hl : l.length = n := by have := h.1; rw [tkc_length] at this; omega
  obtain ⟨b, o, cap, h1, h2, h3, h4, h5⟩ := h.pos hn (by omega)
  refine ⟨hl, b, o, cap, h1, h2, h3, h4, fun k hk => ?_⟩
  obtain ⟨g1, g2, g3⟩ := tkc_at (l := l) (k := k) (by omega)
  exact ⟨h5 _ _ g1, h5 _ _ g2, h5 _ _ g3⟩
theorem len_t {w : World} {n : Nat} {v : Value} {l : List Tk} (h : Rd w 3 n v (tkc l)) : n = l.length := by have := h.1; rw [tkc_length] at this; omega
theorem stk_law (m : Nat) (v v' : Value) (l : List Tk) (w : World) (hr : Rd w 3 m v (tkc l)) (hr' : Rd w 3 m v' (tkc l)) :
    Calls Tryd.prog 11 #[v, v'] w fun e w' => e = .returned (.bool true) ∧ Below w.heap.size w w' := by
  have hml := len_t hr
  subst hml
  have hmax := hr.len
  unfold maxLen at hmax
  by_cases h0 : l.length = 0
  · have hl0 : l = [] := List.eq_nil_of_length_eq_zero h0
    subst hl0
    obtain ⟨_, ao, cap, rfl, _⟩ := hr.zero
    obtain ⟨_, ao', cap', rfl, _⟩ := hr'.zero
    go_enter Tryd.func11, Tryd.ntmps11
    go_wp2
    go_rounds 1
    go_ret
    exact ⟨rfl, Below.refl _ _⟩
  · obtain ⟨_, b, o, cap, rfl, _, _, hbw, hcell⟩ := toks_of hr (by omega)
    obtain ⟨_, b', o', cap', rfl, _, _, hbw', hcell'⟩ := toks_of hr' (by omega)
    obtain ⟨n, hn⟩ : ∃ n, n = l.length := ⟨_, rfl⟩
    rw [← hn] at h0 hcell hcell' hmax ⊢
    have HC := Lib.hid hcell
    have HC' := Lib.hid hcell'
    clear hcell hcell' hr hr' hn
    go_enter Tryd.func11, Tryd.ntmps11
    go_wp2
    go_loopw [5] (fun i wr => ∃ k : Nat, k ≤ n ∧ i = .int .i64 (k : Int) ∧ Below w.heap.size w wr) (fun i _ => n - (intOf i).toNat)
    case atStart => exact ⟨0, by omega, rfl, Below.refl _ _⟩
    case round =>
      obtain ⟨k, hk, rfl, hb⟩ := hrel
      by_cases hlt : k < n
      · obtain ⟨g0, g1, g2⟩ := HC.out k hlt
        obtain ⟨g0', g1', g2'⟩ := HC'.out k hlt
        have c0 := (hb.cell (p := ⟨b, o + k * 3, none⟩) hbw).trans g0
        have c1 := (hb.cell (p := ⟨b, o + k * 3 + 1, none⟩) hbw).trans g1
        have c2 := (hb.cell (p := ⟨b, o + k * 3 + 2, none⟩) hbw).trans g2
        have c0' := (hb.cell (p := ⟨b', o' + k * 3, none⟩) hbw').trans g0'
        have c1' := (hb.cell (p := ⟨b', o' + k * 3 + 1, none⟩) hbw').trans g1'
        have c2' := (hb.cell (p := ⟨b', o' + k * 3 + 2, none⟩) hbw').trans g2'
        obtain ⟨u, hu⟩ : ∃ u, u = l.getD k tk0 := ⟨_, rfl⟩
        rw [← hu] at c0 c1 c2 c0' c1' c2'
        clear g0 g1 g2 g0' g1' g2' hu
        obtain ⟨uk, ut, un⟩ := u
        simp only at c0 c1 c2 c0' c1' c2'
        obtain ⟨us, hus⟩ : ∃ us : ByteArray, us = ⟨ut.toArray⟩ := ⟨_, rfl⟩
        rw [← hus] at c1 c1'
        clear hus
        go_wp2_with fail
        go_quiet (fail)
        go_wp2_with fail
        go_roundw
        case rel => exact ⟨k + 1, by omega, by go_num, hb.trans ((below_drewN _ _).mono hb.size)⟩
        case measure => simp [intOf]; omega
      · obtain rfl : k = n := by omega
        go_wp2_with fail
        go_ret
        exact ⟨rfl, hb⟩
theorem sc_any (m : Nat) (v v' : Value) (l : List Cq) (w : World) (hr : Rd w 2 m v (ccs l)) (hr' : Rd w 2 m v' (ccs l)) :
    Calls Tryd.prog 28 #[v, v'] w fun e w' => e = .returned (.bool true) ∧ Below w.heap.size w w' := by
  have hml := len_c hr
  subst hml
  have hmax := hr.len
  unfold maxLen at hmax
  by_cases h0 : l.length = 0
  · have hl0 : l = [] := List.eq_nil_of_length_eq_zero h0
    subst hl0
    obtain ⟨_, ao, cap, rfl, _⟩ := hr.zero
    obtain ⟨_, ao', cap', rfl, _⟩ := hr'.zero
    go_enter Tryd.func28, Tryd.ntmps28
    go_wp2
    go_rounds 1
    go_ret
    exact ⟨rfl, Below.refl _ _⟩
  · obtain ⟨b, o, cap, rfl, _, _, hbw, hcell⟩ := cols_of hr (by omega)
    obtain ⟨b', o', cap', rfl, _, _, hbw', hcell'⟩ := cols_of hr' (by omega)
    obtain ⟨n, hn⟩ : ∃ n, n = l.length := ⟨_, rfl⟩
    rw [← hn] at h0 hcell hcell' hmax ⊢
    have HC := Lib.hid hcell
    have HC' := Lib.hid hcell'
    clear hcell hcell' hr hr' hn
    go_enter Tryd.func28, Tryd.ntmps28
    go_wp2
    go_loopw [5] (fun i wr => ∃ k : Nat, k ≤ n ∧ i = .int .i64 (k : Int) ∧ Below w.heap.size w wr) (fun i _ => n - (intOf i).toNat)
    case atStart => exact ⟨0, by omega, rfl, Below.refl _ _⟩
    case round =>
      obtain ⟨k, hk, rfl, hb⟩ := hrel
      by_cases hlt : k < n
      · obtain ⟨g0, g1⟩ := HC.out k hlt
        obtain ⟨g0', g1'⟩ := HC'.out k hlt
        have c0 := (hb.cell (p := ⟨b, o + k * 2, none⟩) hbw).trans g0
        have c1 := (hb.cell (p := ⟨b, o + k * 2 + 1, none⟩) hbw).trans g1
        have c0' := (hb.cell (p := ⟨b', o' + k * 2, none⟩) hbw').trans g0'
        have c1' := (hb.cell (p := ⟨b', o' + k * 2 + 1, none⟩) hbw').trans g1'
        obtain ⟨u, hu⟩ : ∃ u, u = l.getD k ncq := ⟨_, rfl⟩
        rw [← hu] at c0 c1 c0' c1'
        clear g0 g1 g0' g1' hu
        obtain ⟨ut, uk⟩ := u
        simp only at c0 c1 c0' c1'
        go_wp2_with fail
        go_quiet (fail)
        go_wp2_with fail
        go_roundw
        case rel => exact ⟨k + 1, by omega, by go_num, hb.trans ((below_drewN _ _).mono hb.size)⟩
        case measure => simp [intOf]; omega
      · obtain rfl : k = n := by omega
        go_wp2_with fail
        go_ret
        exact ⟨rfl, hb⟩
theorem sv_any (m : Nat) (v v' : Value) (l : List V) (w : World) (hr : Rd w 3 m v (vc l)) (hr' : Rd w 3 m v' (vc l)) :
    Calls Tryd.prog 29 #[v, v'] w fun e w' => e = .returned (.bool true) ∧ Below w.heap.size w w' := by
  have hml := len_v hr
  subst hml
  have hmax := hr.len
  unfold maxLen at hmax
  by_cases h0 : l.length = 0
  · have hl0 : l = [] := List.eq_nil_of_length_eq_zero h0
    subst hl0
    obtain ⟨_, ao, cap, rfl, _⟩ := hr.zero
    obtain ⟨_, ao', cap', rfl, _⟩ := hr'.zero
    go_enter Tryd.func29, Tryd.ntmps29
    go_wp2
    go_rounds 1
    go_ret
    exact ⟨rfl, Below.refl _ _⟩
  · obtain ⟨_, b, o, cap, rfl, _, _, hbw, hcell⟩ := vals_of hr (by omega)
    obtain ⟨_, b', o', cap', rfl, _, _, hbw', hcell'⟩ := vals_of hr' (by omega)
    obtain ⟨n, hn⟩ : ∃ n, n = l.length := ⟨_, rfl⟩
    rw [← hn] at h0 hcell hcell' hmax ⊢
    have HC := Lib.hid hcell
    have HC' := Lib.hid hcell'
    clear hcell hcell' hr hr' hn
    go_enter Tryd.func29, Tryd.ntmps29
    go_wp2
    go_loopw [5] (fun i wr => ∃ k : Nat, k ≤ n ∧ i = .int .i64 (k : Int) ∧ Below w.heap.size w wr) (fun i _ => n - (intOf i).toNat)
    case atStart => exact ⟨0, by omega, rfl, Below.refl _ _⟩
    case round =>
      obtain ⟨k, hk, rfl, hb⟩ := hrel
      by_cases hlt : k < n
      · obtain ⟨g0, g1, g2⟩ := HC.out k hlt
        obtain ⟨g0', g1', g2'⟩ := HC'.out k hlt
        have c0 := (hb.cell (p := ⟨b, o + k * 3, none⟩) hbw).trans g0
        have c1 := (hb.cell (p := ⟨b, o + k * 3 + 1, none⟩) hbw).trans g1
        have c2 := (hb.cell (p := ⟨b, o + k * 3 + 2, none⟩) hbw).trans g2
        have c0' := (hb.cell (p := ⟨b', o' + k * 3, none⟩) hbw').trans g0'
        have c1' := (hb.cell (p := ⟨b', o' + k * 3 + 1, none⟩) hbw').trans g1'
        have c2' := (hb.cell (p := ⟨b', o' + k * 3 + 2, none⟩) hbw').trans g2'
        obtain ⟨u, hu⟩ : ∃ u, u = l.getD k nul := ⟨_, rfl⟩
        rw [← hu] at c0 c1 c2 c0' c1' c2'
        clear g0 g1 g2 g0' g1' g2' hu
        obtain ⟨uk, un, ut⟩ := u
        simp only at c0 c1 c2 c0' c1' c2'
        go_wp2_with fail
        go_quiet (fail)
        go_wp2_with fail
        go_roundw
        case rel => exact ⟨k + 1, by omega, by go_num, hb.trans ((below_drewN _ _).mono hb.size)⟩
        case measure => simp [intOf]; omega
      · obtain rfl : k = n := by omega
        go_wp2_with fail
        go_ret
        exact ⟨rfl, hb⟩
theorem so_any (m : Nat) (v v' : Value) (l : List Oq) (w : World) (hr : Rd w 5 m v (ocs l)) (hr' : Rd w 5 m v' (ocs l)) :
    Calls Tryd.prog 30 #[v, v'] w fun e w' => e = .returned (.bool true) ∧ Below w.heap.size w w' := by
  have hml := len_o hr
  subst hml
  have hmax := hr.len
  unfold maxLen at hmax
  by_cases h0 : l.length = 0
  · have hl0 : l = [] := List.eq_nil_of_length_eq_zero h0
    subst hl0
    obtain ⟨_, ao, cap, rfl, _⟩ := hr.zero
    obtain ⟨_, ao', cap', rfl, _⟩ := hr'.zero
    go_enter Tryd.func30, Tryd.ntmps30
    go_wp2
    go_rounds 1
    go_ret
    exact ⟨rfl, Below.refl _ _⟩
  · obtain ⟨b, o, cap, rfl, _, _, hbw, hcell⟩ := ops_of hr (by omega)
    obtain ⟨b', o', cap', rfl, _, _, hbw', hcell'⟩ := ops_of hr' (by omega)
    obtain ⟨n, hn⟩ : ∃ n, n = l.length := ⟨_, rfl⟩
    rw [← hn] at h0 hcell hcell' hmax ⊢
    have HC := Lib.hid hcell
    have HC' := Lib.hid hcell'
    clear hcell hcell' hr hr' hn
    go_enter Tryd.func30, Tryd.ntmps30
    go_wp2
    go_loopw [5] (fun i wr => ∃ k : Nat, k ≤ n ∧ i = .int .i64 (k : Int) ∧ Below w.heap.size w wr) (fun i _ => n - (intOf i).toNat)
    case atStart => exact ⟨0, by omega, rfl, Below.refl _ _⟩
    case round =>
      obtain ⟨k, hk, rfl, hb⟩ := hrel
      by_cases hlt : k < n
      · obtain ⟨g0, g1, g2, g3, g4⟩ := HC.out k hlt
        obtain ⟨g0', g1', g2', g3', g4'⟩ := HC'.out k hlt
        have c0 := (hb.cell (p := ⟨b, o + k * 5, none⟩) hbw).trans g0
        have c1 := (hb.cell (p := ⟨b, o + k * 5 + 1, none⟩) hbw).trans g1
        have c2 := (hb.cell (p := ⟨b, o + k * 5 + 2, none⟩) hbw).trans g2
        have c3 := (hb.cell (p := ⟨b, o + k * 5 + 3, none⟩) hbw).trans g3
        have c4 := (hb.cell (p := ⟨b, o + k * 5 + 4, none⟩) hbw).trans g4
        have c0' := (hb.cell (p := ⟨b', o' + k * 5, none⟩) hbw').trans g0'
        have c1' := (hb.cell (p := ⟨b', o' + k * 5 + 1, none⟩) hbw').trans g1'
        have c2' := (hb.cell (p := ⟨b', o' + k * 5 + 2, none⟩) hbw').trans g2'
        have c3' := (hb.cell (p := ⟨b', o' + k * 5 + 3, none⟩) hbw').trans g3'
        have c4' := (hb.cell (p := ⟨b', o' + k * 5 + 4, none⟩) hbw').trans g4'
        obtain ⟨u, hu⟩ : ∃ u, u = l.getD k noq := ⟨_, rfl⟩
        rw [← hu] at c0 c1 c2 c3 c4 c0' c1' c2' c3' c4'
        clear g0 g1 g2 g3 g4 g0' g1' g2' g3' g4' hu
        obtain ⟨uk, ⟨vk, vn, vt⟩, ut⟩ := u
        simp only at c0 c1 c2 c3 c4 c0' c1' c2' c3' c4'
        go_wp2_with fail
        go_quiet (fail)
        go_wp2_with fail
        go_roundw
        case rel => exact ⟨k + 1, by omega, by go_num, hb.trans ((below_drewN _ _).mono hb.size)⟩
        case measure => simp [intOf]; omega
      · obtain rfl : k = n := by omega
        go_wp2_with fail
        go_ret
        exact ⟨rfl, hb⟩
theorem sst_any (w : World) (s : Sq) (p p' : Ps) (hr : StR w s p) (hr' : StR w s p') :
    Calls Tryd.prog 12 #[stV s p, stV s p'] w fun e w' => e = .returned (.bool true) ∧ Below w.heap.size w w' := by
  obtain ⟨l2, l3, l4, l6, l11⟩ := hr.lens
  obtain ⟨j2, j3, j4, j6, j11⟩ := hr'.lens
  obtain ⟨r2, r3, r4, r6, r11⟩ := hr
  obtain ⟨q2, q3, q4, q6, q11⟩ := hr'
  obtain ⟨k, t, cols, row, names, cnt, wh, ord, dn, lim, st, to⟩ := s
  obtain ⟨a2, n2, c2, a3, n3, c3, a4, n4, c4, a6, n6, c6, a11, n11, c11⟩ := p
  obtain ⟨b2, m2, d2, b3, m3, d3, b4, m4, d4, b6, m6, d6, b11, m11, d11⟩ := p'
  simp only at l2 l3 l4 l6 l11 j2 j3 j4 j6 j11 r2 r3 r4 r6 r11 q2 q3 q4 q6 q11
  obtain rfl : m2 = n2 := by omega
  obtain rfl : m3 = n3 := by omega
  obtain rfl : m4 = n4 := by omega
  obtain rfl : m6 = n6 := by omega
  obtain rfl : m11 = n11 := by omega
  have H2 : Hid (∀ W, Below w.heap.size w W → Calls Tryd.prog 28 #[.slice a2 m2 c2, .slice b2 m2 d2] W fun e w' => e = .returned (.bool true) ∧ Below W.heap.size W w') := fun W hW => sc_any m2 _ _ cols W (r2.below hW) (q2.below hW)
  have H3 : Hid (∀ W, Below w.heap.size w W → Calls Tryd.prog 29 #[.slice a3 m3 c3, .slice b3 m3 d3] W fun e w' => e = .returned (.bool true) ∧ Below W.heap.size W w') := fun W hW => sv_any m3 _ _ row W (r3.below hW) (q3.below hW)
  have H6 : Hid (∀ W, Below w.heap.size w W → Calls Tryd.prog 30 #[.slice a6 m6 c6, .slice b6 m6 d6] W fun e w' => e = .returned (.bool true) ∧ Below W.heap.size W w') := fun W hW => so_any m6 _ _ wh W (r6.below hW) (q6.below hW)
  have H11 : Hid (∀ W, Below w.heap.size w W → Calls Tryd.prog 30 #[.slice a11 m11 c11, .slice b11 m11 d11] W fun e w' => e = .returned (.bool true) ∧ Below W.heap.size W w') := fun W hW => so_any m11 _ _ to W (r11.below hW) (q11.below hW)
  have HN : Hid (0 < m4 → ∃ b o b' o', a4 = some ⟨b, o, none⟩ ∧ b4 = some ⟨b', o', none⟩ ∧ b < w.heap.size ∧ b' < w.heap.size ∧ ∀ k, k < m4 → w.cell? ⟨b, o + k, none⟩ = some (.string (names.getD k nby)) ∧ w.cell? ⟨b', o' + k, none⟩ = some (.string (names.getD k nby))) := fun h => by
    obtain ⟨b, o, cap, h1, _, _, hbw, hcell0⟩ := r4.pos h (by omega)
    obtain ⟨b', o', cap', h1', _, _, hbw', hcell0'⟩ := q4.pos h (by omega)
    simp only [Value.slice.injEq, true_and] at h1 h1'
    exact ⟨b, o, b', o', h1.1, h1'.1, hbw, hbw', fun k hk => ⟨hcell0 k _ (st_at (by omega)), hcell0' k _ (st_at (by omega))⟩⟩
  have hmax := r4.len
  unfold maxLen at hmax
  clear r2 r3 r4 r6 r11 q2 q3 q4 q6 q11 l2 l3 l4 l6 l11 j2 j3 j4 j6 j11
  have HW0 : Hid (∀ W0, W0 = ((w.alloc (.cells #[.int .i64 k, .string t, .slice a2 m2 c2, .slice a3 m3 c3, .slice a4 m4 c4, .bool cnt, .slice a6 m6 c6, .string ord, .bool dn, .int .i64 lim, .string st, .slice a11 m11 c11] 27)).alloc (.cells #[.int .i64 k, .string t, .slice b2 m2 d2, .slice b3 m3 d3, .slice b4 m4 d4, .bool cnt, .slice b6 m6 d6, .string ord, .bool dn, .int .i64 lim, .string st, .slice b11 m11 d11] 27)) → Below w.heap.size w W0 ∧ W0.heap.size = w.heap.size + 2 ∧ W0.heap[w.heap.size]? = some (.cells #[.int .i64 k, .string t, .slice a2 m2 c2, .slice a3 m3 c3, .slice a4 m4 c4, .bool cnt, .slice a6 m6 c6, .string ord, .bool dn, .int .i64 lim, .string st, .slice a11 m11 c11] 27 (0, 0)) ∧ W0.heap[w.heap.size + 1]? = some (.cells #[.int .i64 k, .string t, .slice b2 m2 d2, .slice b3 m3 d3, .slice b4 m4 d4, .bool cnt, .slice b6 m6 d6, .string ord, .bool dn, .int .i64 lim, .string st, .slice b11 m11 d11] 27 (0, 0))) := fun W0 h => by
    subst h
    refine ⟨((Below.refl _ _).alloc (Nat.le_refl _) _).alloc (by simp) _, by simp, ?_, new1 _ _ _⟩
    exact (Below.heap_alloc _ _ _ (by simp)).trans (new0 _ _)
  go_enter Tryd.func12, Tryd.ntmps12
  go_wp2_with fail
  refine calls_nm (fun W0 hW0 => ?_)
  obtain ⟨hB0, hs0, hp0, hr0⟩ := HW0.out _ hW0
  clear hW0
  refine (H2.out _ hB0).mono ?_
  rintro e1 w1 ⟨rfl, hb1⟩
  have hp1 := (hb1.block w.heap.size (by omega)).trans hp0
  have hr1 := (hb1.block (w.heap.size + 1) (by omega)).trans hr0
  have hs1 := hb1.size
  have hB1 := into hB0 hb1
  obtain ⟨x0, x1, x2, x3, x4, x5, x6, x7, x8, x9, x10, x11, f0, f1, f2, f3, f4, f5, f6, f7, f8, f9, f10, f11⟩ := box12 hp1
  obtain ⟨y0, y1, y2, y3, y4, y5, y6, y7, y8, y9, y10, y11, g0, g1, g2, g3, g4, g5, g6, g7, g8, g9, g10, g11⟩ := box12 hr1
  clear hb1 hp0 hr0 hB0
  have HP1 := Lib.hid hp1
  have HR1 := Lib.hid hr1
  have HB1 := Lib.hid hB1
  clear hp1 hr1 hB1
  go_wp2_with fail
  have hp1 := HP1.out
  have hr1 := HR1.out
  have hB1 := HB1.out
  clear x0 x1 x2 x3 x4 x5 x6 x7 x8 x9 x10 x11 y0 y1 y2 y3 y4 y5 y6 y7 y8 y9 y10 y11 f0 f1 f2 f3 f4 f5 f6 f7 f8 f9 f10 f11 g0 g1 g2 g3 g4 g5 g6 g7 g8 g9 g10 g11
  refine (H3.out _ hB1).mono ?_
  rintro e2 w2 ⟨rfl, hb2⟩
  have hp2 := (hb2.block w.heap.size (by omega)).trans hp1
  have hr2 := (hb2.block (w.heap.size + 1) (by omega)).trans hr1
  have hs2 := hb2.size
  have hB2 := into hB1 hb2
  obtain ⟨x0, x1, x2, x3, x4, x5, x6, x7, x8, x9, x10, x11, f0, f1, f2, f3, f4, f5, f6, f7, f8, f9, f10, f11⟩ := box12 hp2
  obtain ⟨y0, y1, y2, y3, y4, y5, y6, y7, y8, y9, y10, y11, g0, g1, g2, g3, g4, g5, g6, g7, g8, g9, g10, g11⟩ := box12 hr2
  clear hb2 hp1 hr1 hB1
  have HP2 := Lib.hid hp2
  have HR2 := Lib.hid hr2
  have HB2 := Lib.hid hB2
  clear hp2 hr2 hB2
  go_wp2_with fail
  have hp2 := HP2.out
  have hr2 := HR2.out
  have hB2 := HB2.out
  clear x0 x1 x2 x3 x4 x5 x6 x7 x8 x9 x10 x11 y0 y1 y2 y3 y4 y5 y6 y7 y8 y9 y10 y11 f0 f1 f2 f3 f4 f5 f6 f7 f8 f9 f10 f11 g0 g1 g2 g3 g4 g5 g6 g7 g8 g9 g10 g11
  refine (H6.out _ hB2).mono ?_
  rintro e3 w3 ⟨rfl, hb3⟩
  have hp3 := (hb3.block w.heap.size (by omega)).trans hp2
  have hr3 := (hb3.block (w.heap.size + 1) (by omega)).trans hr2
  have hs3 := hb3.size
  have hB3 := into hB2 hb3
  obtain ⟨x0, x1, x2, x3, x4, x5, x6, x7, x8, x9, x10, x11, f0, f1, f2, f3, f4, f5, f6, f7, f8, f9, f10, f11⟩ := box12 hp3
  obtain ⟨y0, y1, y2, y3, y4, y5, y6, y7, y8, y9, y10, y11, g0, g1, g2, g3, g4, g5, g6, g7, g8, g9, g10, g11⟩ := box12 hr3
  clear hb3 hp2 hr2 hB2
  have HP3 := Lib.hid hp3
  have HR3 := Lib.hid hr3
  have HB3 := Lib.hid hB3
  clear hp3 hr3 hB3
  go_wp2_with fail
  have hp3 := HP3.out
  have hr3 := HR3.out
  have hB3 := HB3.out
  clear x0 x1 x2 x3 x4 x5 x6 x7 x8 x9 x10 x11 y0 y1 y2 y3 y4 y5 y6 y7 y8 y9 y10 y11 f0 f1 f2 f3 f4 f5 f6 f7 f8 f9 f10 f11 g0 g1 g2 g3 g4 g5 g6 g7 g8 g9 g10 g11
  refine (H11.out _ hB3).mono ?_
  rintro e4 w4 ⟨rfl, hb4⟩
  have hp4 := (hb4.block w.heap.size (by omega)).trans hp3
  have hr4 := (hb4.block (w.heap.size + 1) (by omega)).trans hr3
  have hs4 := hb4.size
  have hB4 := into hB3 hb4
  obtain ⟨x0, x1, x2, x3, x4, x5, x6, x7, x8, x9, x10, x11, f0, f1, f2, f3, f4, f5, f6, f7, f8, f9, f10, f11⟩ := box12 hp4
  obtain ⟨y0, y1, y2, y3, y4, y5, y6, y7, y8, y9, y10, y11, g0, g1, g2, g3, g4, g5, g6, g7, g8, g9, g10, g11⟩ := box12 hr4
  clear hb4 hp3 hr3 hB3
  have HP4 := Lib.hid hp4
  have HR4 := Lib.hid hr4
  have HB4 := Lib.hid hB4
  clear hp4 hr4 hB4
  by_cases h0 : m4 = 0
  · subst h0
    go_wp2_with fail
    go_rounds 1
    go_ret
    exact ⟨rfl, HB4.out⟩
  · obtain ⟨b, o, b', o', rfl, rfl, hbw, hbw', hcell⟩ := HN.out (by omega)
    have HC := Lib.hid hcell
    clear hcell
    go_wp2_with fail
    clear x0 x1 x2 x3 x4 x5 x6 x7 x8 x9 x10 x11 y0 y1 y2 y3 y4 y5 y6 y7 y8 y9 y10 y11 f0 f1 f2 f3 f4 f5 f6 f7 f8 f9 f10 f11 g0 g1 g2 g3 g4 g5 g6 g7 g8 g9 g10 g11
    go_loopw [5] (fun i wr => ∃ k : Nat, k ≤ m4 ∧ i = .int .i64 (k : Int) ∧ Below w4.heap.size w4 wr) (fun i _ => m4 - (intOf i).toNat)
    case atStart => exact ⟨0, by omega, rfl, Below.refl _ _⟩
    case round =>
      obtain ⟨k, hk, rfl, hb⟩ := hrel
      have x4 : wr.cell? ⟨w.heap.size, 4, none⟩ = some (.slice (some ⟨b, o, none⟩) m4 c4) := (box12 ((hb.block w.heap.size (by omega)).trans HP4.out)).2.2.2.2.1
      have y4 : wr.cell? ⟨w.heap.size + 1, 4, none⟩ = some (.slice (some ⟨b', o', none⟩) m4 d4) := (box12 ((hb.block (w.heap.size + 1) (by omega)).trans HR4.out)).2.2.2.2.1
      by_cases hlt : k < m4
      · obtain ⟨g0, g1⟩ := HC.out k hlt
        have hbb := into HB4.out hb
        have c1 := (hbb.cell (p := ⟨b, o + k, none⟩) hbw).trans g0
        have c2 := (hbb.cell (p := ⟨b', o' + k, none⟩) hbw').trans g1
        obtain ⟨u, hu⟩ : ∃ u, u = names.getD k nby := ⟨_, rfl⟩
        rw [← hu] at c1 c2
        clear g0 g1 hu hbb
        go_wp2_with fail
        go_quiet (fail)
        go_wp2_with fail
        go_roundw
        case rel => exact ⟨k + 1, by omega, by go_num, hb.trans ((below_drewN _ _).mono hb.size)⟩
        case measure => simp [intOf]; omega
      · obtain rfl : k = m4 := by omega
        go_wp2_with fail
        go_ret
        exact ⟨rfl, into HB4.out hb⟩
theorem put_new {w1 W2 : World} {x0 x1 x2 x3 x4 x5 x6 x7 x8 x9 x10 x11 y0 y1 y2 y3 y4 y5 y6 y7 y8 y9 y10 y11 : Value} {T : TypeId} (h : W2 = (World.setCell (World.setCell (World.setCell (World.setCell (World.setCell (World.setCell (World.setCell (World.setCell (World.setCell (World.setCell (World.setCell (World.setCell (w1.alloc (.cells #[x0, x1, x2, x3, x4, x5, x6, x7, x8, x9, x10, x11] T)) ⟨w1.heap.size, 0, none⟩ y0) ⟨w1.heap.size, 1, none⟩ y1) ⟨w1.heap.size, 2, none⟩ y2) ⟨w1.heap.size, 3, none⟩ y3) ⟨w1.heap.size, 4, none⟩ y4) ⟨w1.heap.size, 5, none⟩ y5) ⟨w1.heap.size, 6, none⟩ y6) ⟨w1.heap.size, 7, none⟩ y7) ⟨w1.heap.size, 8, none⟩ y8) ⟨w1.heap.size, 9, none⟩ y9) ⟨w1.heap.size, 10, none⟩ y10) ⟨w1.heap.size, 11, none⟩ y11)) :
    Below w1.heap.size w1 W2 ∧ W2.heap[w1.heap.size]? = some (.cells #[y0, y1, y2, y3, y4, y5, y6, y7, y8, y9, y10, y11] T (0, 0)) := by
  have hn : (w1.alloc (.cells #[x0, x1, x2, x3, x4, x5, x6, x7, x8, x9, x10, x11] T)).heap[w1.heap.size]? = some (.cells #[x0, x1, x2, x3, x4, x5, x6, x7, x8, x9, x10, x11] T (0, 0)) := new0 _ _
  have hb : Below w1.heap.size w1 (w1.alloc (.cells #[x0, x1, x2, x3, x4, x5, x6, x7, x8, x9, x10, x11] T)) := (Below.refl _ _).alloc (Nat.le_refl _) _
  have h0 := Lib.heap_setCell_same (i := 0) hn y0
  have h1 := Lib.heap_setCell_same (i := 1) h0 y1
  have h2 := Lib.heap_setCell_same (i := 2) h1 y2
  have h3 := Lib.heap_setCell_same (i := 3) h2 y3
  have h4 := Lib.heap_setCell_same (i := 4) h3 y4
  have h5 := Lib.heap_setCell_same (i := 5) h4 y5
  have h6 := Lib.heap_setCell_same (i := 6) h5 y6
  have h7 := Lib.heap_setCell_same (i := 7) h6 y7
  have h8 := Lib.heap_setCell_same (i := 8) h7 y8
  have h9 := Lib.heap_setCell_same (i := 9) h8 y9
  have h10 := Lib.heap_setCell_same (i := 10) h9 y10
  have h11 := Lib.heap_setCell_same (i := 11) h10 y11
  have b0 := hb.setCell (p := ⟨w1.heap.size, 0, none⟩) (Nat.le_refl _) y0
  have b1 := b0.setCell (p := ⟨w1.heap.size, 1, none⟩) (Nat.le_refl _) y1
  have b2 := b1.setCell (p := ⟨w1.heap.size, 2, none⟩) (Nat.le_refl _) y2
  have b3 := b2.setCell (p := ⟨w1.heap.size, 3, none⟩) (Nat.le_refl _) y3
  have b4 := b3.setCell (p := ⟨w1.heap.size, 4, none⟩) (Nat.le_refl _) y4
  have b5 := b4.setCell (p := ⟨w1.heap.size, 5, none⟩) (Nat.le_refl _) y5
  have b6 := b5.setCell (p := ⟨w1.heap.size, 6, none⟩) (Nat.le_refl _) y6
  have b7 := b6.setCell (p := ⟨w1.heap.size, 7, none⟩) (Nat.le_refl _) y7
  have b8 := b7.setCell (p := ⟨w1.heap.size, 8, none⟩) (Nat.le_refl _) y8
  have b9 := b8.setCell (p := ⟨w1.heap.size, 9, none⟩) (Nat.le_refl _) y9
  have b10 := b9.setCell (p := ⟨w1.heap.size, 10, none⟩) (Nat.le_refl _) y10
  have b11 := b10.setCell (p := ⟨w1.heap.size, 11, none⟩) (Nat.le_refl _) y11
  subst h
  exact ⟨b11, by simpa using h11⟩
end Go.Proofs.YtnheepkmaibofaaDoor.cs
