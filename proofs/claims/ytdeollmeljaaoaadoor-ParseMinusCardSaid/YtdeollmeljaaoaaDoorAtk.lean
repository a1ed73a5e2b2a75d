import Derived.Test.YtdeollmeljaaoaaDoorAsk
/- A statement's end: what is left behind, what is handed back. -/
namespace Go.Proofs.YtdeollmeljaaoaaDoor.rd
open Go.ChangeShapes Go.WideShapes Go.ChangeAt Go.RowKit Go.Proofs.YtdeollmeljaaoaaDoor.cs
set_option linter.unusedVariables false
set_option linter.unusedSimpArgs false
set_option maxHeartbeats 8000000
set_option maxRecDepth 100000
def endS (n : Nat) (x : Nat × Sq) : F ⊕ Sq := if x.2.k = 0 ∨ x.1 < n then .inl (fl n x.1 6) else .inr x.2
theorem k_create {L : List Tk} {n k : Nat} {s : Sq} {x : Nat × Sq} (h : createF L n k s = .inr x) : x.2.k ≠ 0 := by
  obtain ⟨_, _, h⟩ := bd_ok h
  obtain ⟨_, _, h⟩ := bd_ok h
  obtain ⟨_, _, h⟩ := bd_ok h
  obtain ⟨_, _, h⟩ := bd_ok h
  obtain ⟨_, _, h⟩ := bd_ok h
  cases h
  show (1 : Int) ≠ 0
  omega
theorem k_insert {L : List Tk} {n k : Nat} {s : Sq} {x : Nat × Sq} (h : insertF L n k s = .inr x) : x.2.k ≠ 0 := by
  obtain ⟨_, _, h⟩ := bd_ok h
  obtain ⟨_, _, h⟩ := bd_ok h
  obtain ⟨_, _, h⟩ := bd_ok h
  obtain ⟨_, _, h⟩ := bd_ok h
  obtain ⟨_, _, h⟩ := bd_ok h
  cases h
  show (3 : Int) ≠ 0
  omega
theorem k_choose {L : List Tk} {n k : Nat} {s : Sq} {x : Nat × Sq} (h : chooseF L n k s = .inr x) : x.2.k ≠ 0 := by
  obtain ⟨_, _, h⟩ := bd_ok h
  obtain ⟨_, _, h⟩ := bd_ok h
  obtain ⟨_, _, h⟩ := bd_ok h
  obtain ⟨_, _, h⟩ := bd_ok h
  obtain ⟨_, _, h⟩ := bd_ok h
  obtain ⟨_, _, h⟩ := bd_ok h
  cases h
  show (4 : Int) ≠ 0
  omega
theorem k_update {L : List Tk} {n k : Nat} {s : Sq} {x : Nat × Sq} (h : updateF L n k s = .inr x) : x.2.k ≠ 0 := by
  obtain ⟨_, _, h⟩ := bd_ok h
  obtain ⟨_, _, h⟩ := bd_ok h
  obtain ⟨_, _, h⟩ := bd_ok h
  obtain ⟨_, _, h⟩ := bd_ok h
  obtain ⟨_, _, h⟩ := bd_ok h
  obtain ⟨_, _, h⟩ := bd_ok h
  cases h
  show (5 : Int) ≠ 0
  omega
abbrev p0 : Ps := ⟨none, 0, 0, none, 0, 0, none, 0, 0, none, 0, 0, none, 0, 0⟩
abbrev z12 : Array Value := #[.int .i64 0, .string ⟨#[]⟩, .slice none 0 0, .slice none 0 0, .slice none 0 0, .bool false, .slice none 0 0, .string ⟨#[]⟩, .bool false, .int .i64 0, .string ⟨#[]⟩, .slice none 0 0]
/-- What reads a statement: it dies of a fault, or hands the statement back. -/
def Sy (w : World) (B : Nat) (r : F ⊕ Sq) (e : Ending) (w' : World) : Prop :=
  But B w w' ∧ match r with
    | .inl f => e = flt f.1 f.2
    | .inr s => ∃ p, e = .returned (stV s p) ∧ StO w' w.heap.size s p
section
variable {B S E : Nat} {a : Option Addr} {n c : Nat} {L : List Tk}
theorem ssmay {w : World} {k : Nat} {s : Sq} {p : Ps} (h : Ss w B S E a n c L k s p) (t : ByteArray) :
    Calls Tryd.prog 50 #[.pointer (some ⟨B, 0, none⟩), .string t] w fun e w' => e = .returned (.bool (mayB L k t)) ∧ But B w w' ∧ Ss w' B S E a n c L (if mayB L k t then k + 1 else k) s p := by
  refine (smay h.rs t).mono ?_
  rintro e w' ⟨rfl, h1, h2⟩
  exact ⟨rfl, h1, h.go h1 h2⟩
/-- What the statement begins with: its two boxes. -/
theorem ss_begin {w W : World} (h : Rs w B a n c L 0) (hW : W = (w.alloc (.cells z12 33)).alloc (.cells (stC sq0 p0) 33)) :
    Ss W B (w.heap.size + 1) (w.heap.size + 2) a n c L 0 sq0 p0 ∧ Below w.heap.size w W ∧ W.heap[w.heap.size]? = some (.cells z12 33 (0, 0)) := by
  have hb : Below w.heap.size w W := by rw [hW]; exact ((Below.refl _ _).alloc (Nat.le_refl _) _).alloc (by simp) _
  have hlB := h.lt
  have ht : ∀ x, a = some x → 0 < n → x.block < w.heap.size := fun x e hn => by
    obtain ⟨⟨ov, hr⟩, _⟩ := h
    subst e
    exact Rd.blk hr.row (by omega) x c rfl hn
  have ho := h.off
  refine ⟨⟨h.later hb, by rw [hW]; exact new1 _ _ _, ⟨World.ownsRow_nil _ _ _ _, World.ownsRow_nil _ _ _ _, World.ownsRow_nil _ _ _ _, World.ownsRow_nil _ _ _ _, World.ownsRow_nil _ _ _ _⟩, by omega, fun x e hn => by have := ht x e hn; omega, ?_, by omega, by omega, by rw [hW]; simp⟩, hb, by rw [hW]; exact (Below.heap_alloc _ _ _ (by simp)).trans (new0 _ _)⟩
  exact ⟨by have := ho.m; omega, by have := ho.k; omega, by have := ho.d; omega, by have := ho.s; omega, by have := ho.c; omega, by have := ho.x; omega⟩
theorem st_but {w W w' : World} (h : Below w.heap.size w W) (hN : ButS B (w.heap.size + 1) (w.heap.size + 2) W w') : But B w w' :=
  ⟨hN.os.trans h.os, hN.tape.trans h.tape, hN.output.trans h.output, Nat.le_trans h.size hN.size, fun k hk hn => (hN.block k (Nat.lt_of_lt_of_le hk h.size) hn (by omega) (.inl (by omega))).trans (h.block k hk)⟩
theorem but_tail {w w1 w2 : World} (h : But B w w1) (hb : Below w.heap.size w1 w2) : But B w w2 :=
  ⟨hb.os.trans h.os, hb.tape.trans h.tape, hb.output.trans h.output, Nat.le_trans h.size hb.size, fun k hk hn => (hb.block k hk).trans (h.block k hk hn)⟩
theorem StO.tail {w1 w2 : World} {R : Nat} {s : Sq} {p : Ps} (h : StO w1 (R + 2) s p) (hb : ∀ k, k ≠ R → k < w1.heap.size → w2.heap[k]? = w1.heap[k]?) : StO w2 R s p := by
  have h1 : StO w2 (R + 2) s p := h.far fun k hk hl => hb k (by omega) hl
  exact ⟨own_mono h1.o2 (by omega), own_mono h1.o3 (by omega), own_mono h1.o4 (by omega), own_mono h1.o6 (by omega), own_mono h1.o11 (by omega)⟩
theorem set12_far {w : World} {R : Nat} (y0 y1 y2 y3 y4 y5 y6 y7 y8 y9 y10 y11 : Value) (k : Nat) (hk : k ≠ R) : (World.setCell (World.setCell (World.setCell (World.setCell (World.setCell (World.setCell (World.setCell (World.setCell (World.setCell (World.setCell (World.setCell (World.setCell w ⟨R, 0, none⟩ y0) ⟨R, 1, none⟩ y1) ⟨R, 2, none⟩ y2) ⟨R, 3, none⟩ y3) ⟨R, 4, none⟩ y4) ⟨R, 5, none⟩ y5) ⟨R, 6, none⟩ y6) ⟨R, 7, none⟩ y7) ⟨R, 8, none⟩ y8) ⟨R, 9, none⟩ y9) ⟨R, 10, none⟩ y10) ⟨R, 11, none⟩ y11).heap[k]? = w.heap[k]? := by
  iterate 12 rw [Below.heap_setCell _ _ _ _ hk]
end
end Go.Proofs.YtdeollmeljaaoaaDoor.rd
