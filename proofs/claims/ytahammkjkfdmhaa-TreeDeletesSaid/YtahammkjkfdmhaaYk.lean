/- A key taken out: the program and the document. -/
import Derived.Test.YtahammkjkfdmhaaTg
import Derived.Test.YtahammkjkfdmhaaXy
namespace Go.Proofs.Ytahammkjkfdmhaa
open Go.ChangeShapes Go.WideShapes Go.ChangeAt Go.RowKit
set_option linter.unusedVariables false
set_option linter.unusedSimpArgs false
set_option maxHeartbeats 1000000
set_option maxRecDepth 100000
theorem bel_al (w : World) (o : Obj) : Below w.heap.size w (w.alloc o) := (Below.refl _ _).alloc (Nat.le_refl _) _
theorem gen_new {P : World → Prop} {W : World} {a b : Value} {T : TypeId}
    (h : ∀ W9 : World, W9.heap[W.heap.size]? = some (.cells #[a, b] T (0, 0)) → W.heap.size < W9.heap.size → (∀ c, c < W.heap.size → W9.heap[c]? = W.heap[c]?) → (∀ n w0, n ≤ W.heap.size → Below n w0 W → Below n w0 W9) → P W9) : P (W.alloc (.cells #[a, b] T (0, 0))) :=
  h _ (new0 W _) (by simp) (fun c hc => Below.heap_alloc _ _ _ hc) fun n w0 hn hb => hb.alloc hn _
theorem gen_two {P : World → Prop} {W : World} {Bx : Nat} {a b u v : Value} {T : TypeId} (hbx : W.heap[Bx]? = some (.cells #[u, v] T (0, 0)))
    (h : ∀ W9 : World, W9.heap[Bx]? = some (.cells #[a, b] T (0, 0)) → W9.heap.size = W.heap.size → (∀ c, c ≠ Bx → W9.heap[c]? = W.heap[c]?) → (∀ n w0, n ≤ Bx → Below n w0 W → Below n w0 W9) → P W9) : P ((W.setCell ⟨Bx, 0, none⟩ a).setCell ⟨Bx, 1, none⟩ b) := by
  refine h _ ?_ (by simp) (fun c hc => by rw [Below.heap_setCell _ _ _ _ hc, Below.heap_setCell _ _ _ _ hc]) fun n w0 hn hb => (hb.setCell (p := ⟨Bx, 0, none⟩) hn _).setCell (p := ⟨Bx, 1, none⟩) hn _
  have h1 : (W.setCell ⟨Bx, 0, none⟩ a).heap[Bx]? = some (.cells #[a, v] T (0, 0)) := by rw [Lib.heap_setCell_same hbx]; rfl
  rw [Lib.heap_setCell_same h1]
  rfl
theorem alloc_of {w0 W : World} {n : Nat} {o : Obj} (h : Below n w0 (W.alloc o)) : (W.alloc o).heap[W.heap.size]? = some o := new0 W o
theorem al_of {w0 W : World} {n : Nat} {o : Obj} (h : Below n w0 (W.alloc o)) : Below W.heap.size W (W.alloc o) := (Below.refl _ _).alloc (Nat.le_refl _) _
theorem DeleteIs.r {G : Tr} {w : World} {e : Ending} {w' : World} (h : DeleteIs G w e w') : TreeR G 0 w e w' := by
  obtain ⟨P, cap, h1, h2, h3⟩ := h
  exact ⟨_, _, _, h1, h2.rt, h3⟩
theorem find_of {T : Tr} {k : Key} {h : Nat} {t : Tb h} (he : entT h t = entsTr T) (h0 : tkT T k = 0) : findT T k = ((lookE k (entT h t)).getD 0, if (lookE k (entT h t)).isSome then 0 else 8) := by
  unfold findT
  rw [if_pos h0, he]
theorem del_both {T : Tr} (k : Key) (hs : Small T) (hcp : Cpy T) : ∃ (G : Tr) (c : Int),
    (∀ (w : World) (ok ok1 : Nat → Prop) (tv kv : Value), (∀ b, ok b → b < w.heap.size) → RT w ok tv T → RB w ok1 kv k → Calls Try.prog 10 #[tv, kv] w (TreeR G c w)) ∧
    (∀ (w : World) (ok ok1 : Nat → Prop) (tv kv : Value), (∀ b, ok b → b < w.heap.size) → RT w ok tv T → RB w ok1 kv k → Calls Try.prog 11 #[tv, kv] w (TreeR G c w)) := by
  by_cases h0 : tkT T k = 0
  · have hb : T.pages.length ≤ 4000 ∧ Pass T := by
      by_cases hb : T.pages.length ≤ 4000 ∧ Pass T
      · exact hb
      · rw [tkT_bad hb] at h0; omega
    have hy : okK k := by
      by_cases hy : okK k
      · exact hy
      · rw [tkT_size hb hy] at h0; omega
    obtain ⟨h, t, hr, he⟩ := ents_of hb.2
    rcases hq : lookE k (entT h t) with _ | v
    · refine ⟨noTr, 8, fun w ok ok1 tv kv h1 h2 h3 => ?_, fun w ok ok1 tv kv h1 h2 h3 => ?_⟩
      · obtain ⟨ao, n, cap, rfl⟩ := rt_shape h2
        refine (delete_no w ao n cap T.root kv 0 8 (fun W hW => ?_) (by omega)).mono fun e w' q => q.r
        have := find_any W ok ok1 (fun b hb' => by have := h1 b hb'; have := hW.size; omega) _ kv T k (h2.below hW) (h3.below hW) hs
        rw [find_of he h0, hq] at this
        exact this
      · refine (deletedFrom_any w ok h1 tv kv T k h t h2 h3.1 hs.2 hcp h0 hr hb.1).mono fun e w' q => ?_
        rcases q with ⟨⟨v, e1⟩, -⟩ | ⟨-, q⟩
        · rw [hq] at e1; cases e1
        · exact q.r
    · refine ⟨⟨takeP h T.pages t k, T.root⟩, 0, fun w ok ok1 tv kv h1 h2 h3 => ?_, fun w ok ok1 tv kv h1 h2 h3 => ?_⟩
      · exact (delete_ok w ok ok1 h1 tv kv T h t k v h2 h3 hs hb.1 hr hy hq).mono fun e w' q => q.r
      · refine (deletedFrom_any w ok h1 tv kv T k h t h2 h3.1 hs.2 hcp h0 hr hb.1).mono fun e w' q => ?_
        rcases q with ⟨-, q⟩ | ⟨e1, -⟩
        · exact q
        · rw [hq] at e1; cases e1
  · refine ⟨noTr, tkT T k, fun w ok ok1 tv kv h1 h2 h3 => ?_, fun w ok ok1 tv kv h1 h2 h3 => ?_⟩
    · obtain ⟨ao, n, cap, rfl⟩ := rt_shape h2
      refine (delete_no w ao n cap T.root kv 0 (tkT T k) (fun W hW => ?_) h0).mono fun e w' q => q.r
      have := find_any W ok ok1 (fun b hb' => by have := h1 b hb'; have := hW.size; omega) _ kv T k (h2.below hW) (h3.below hW) hs
      have hf : findT T k = (0, tkT T k) := by unfold findT; rw [if_neg h0]
      rw [hf] at this
      exact this
    · exact (deletedFrom_no w ok h1 tv kv T k h2 h3.1 hs.2 h0).mono fun e w' q => q.r
end Go.Proofs.Ytahammkjkfdmhaa
/- A drawing region, begun in whatever world meets the state. -/
namespace Go.Proofs.Ytahammkjkfdmhaa
open Go
set_option linter.unusedVariables false
theorem wpT_begin2 {P : Program} {ops : Array Oper} {Q : Exit → Act → World → Prop} {S : World → Prop} (L : List Nat) {id : Nat} {a : Act} {w : World} (hm : P.follows .mixedOrders = true) (hS : S w.drew)
    (h : ∀ W : World, S W → wpAnyT P .any ops Q S L ops.size (Array.replicate ops.size false) a W) : (Code.region id ops true).wp P Q a w := wpT_begin L hm hS (h _)
end Go.Proofs.Ytahammkjkfdmhaa
