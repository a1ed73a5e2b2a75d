import Derived.Test.YtdeollmeljaaoaaDoorBck
/- Rows of tokens put together in regions that draw their order; what Parse hands back, boxed. -/
namespace Go.Proofs.YtdeollmeljaaoaaDoor.rd
open Go.ChangeShapes Go.WideShapes Go.ChangeAt Go.RowKit Go.Joins
open Go.Proofs.YtdeollmeljaaoaaDoor.cs
set_option linter.unusedVariables false
set_option linter.unusedSimpArgs false
set_option maxHeartbeats 400000
set_option maxRecDepth 100000
theorem k_nm {p : Act → World → Prop} {a : Act} {w : World} (h : ∀ W, W = w → p a W) : p a w := h w rfl
theorem al_below {w W : World} {o : Obj} (h : W = w.alloc o) : Below w.heap.size w W := by rw [h]; exact (Below.refl _ _).alloc (Nat.le_refl _) _
theorem al_new {w W : World} {cs : Array Value} {T : TypeId} (h : W = w.alloc (.cells cs T)) : W.heap[w.heap.size]? = some (.cells cs T (0, 0)) := by rw [h]; exact new0 _ _
theorem rd_blk {w : World} {b n s : Nat} {xs : List Value} {T : TypeId} (h : w.heap[b]? = some (.cells xs.toArray T (0, 0))) (hl : xs.length = n * s) (hn : n ≤ 1000) : Rd w s n (.slice (some ⟨b, 0, none⟩) n n) xs := by
  refine ⟨hl, _, _, rfl, Nat.le_refl _, by unfold maxLen; omega, fun h => (by cases h), fun x hx j u hu => ?_⟩
  obtain rfl := Option.some.inj hx
  rw [Addr.add_lit]
  simp only [World.cell?]
  rw [h]
  simpa using hu
section
variable {ops : Array Oper} {o : Oper} {a : Act} {K : Act → World → Prop} {Q : Exit → Act → World → Prop} {E : Prop} {w : World}
/-- 'append(l, m...)' of tokens in a region. -/
theorem stap (B n m : Nat) (v u : Value) (L M : List Tk) (hgd : o.guard = none) (s x : Operand) (ho : o.op = .call { callee := .builtin .append, args := #[s, x], argTypes := #[35, 35] })
    (hown : w.ownsRow B 45 3 v n (tkc L)) (hr : Rd w 3 m u (tkc M)) (hm : 0 < m) (hB : B ≤ w.heap.size) (hn : n ≤ 1000) (hm1 : m ≤ 1000) (hs : a.eval s = v) (hx : a.eval x = u)
    (h : ∀ g cap w', w'.ownsRow B 45 3 (.slice (some ⟨g, 0, none⟩) (n + m) cap) (n + m) (tkc (L ++ M)) → Below B w w' → w.grownBy w' v.ownBlock → K (a.put o.dst (.slice (some ⟨g, 0, none⟩) (n + m) cap)) w') :
    if Region.wanted o (yielded ops a.tmps) = true then Oper.wp Tryd.prog o a w K Q else E := by
  obtain ⟨i0, hi, hz0, hz1, hz2⟩ := info_parts (Tryd.info45)
  obtain ⟨hl, ao, cap, rfl, h2, h3, h4, h5⟩ := hr
  cases ao with
  | none => have := (h4 rfl).1; omega
  | some ad =>
    refine step_append_lies w hgd s x _ ho B 45 i0 _ 3 32 Tryd.underlying35 hi hz0 hz1 hz2 rfl (by omega) v n (tkc L) hs hown ad m cap (tkc M) hx hl (h5 ad rfl) (tkc_one _) hm (by unfold maxLen; omega) (by omega) hB _ rfl ?_
    intro g c w' h1 h2 h3 h4
    exact h g c w' (by rw [tkc_app]; exact h1) ((Below.refl B w).grown h2 hB (own_ge hown)) h2
theorem stap0 (B m : Nat) (u : Value) (M : List Tk) (hgd : o.guard = none) (s x : Operand) (ho : o.op = .call { callee := .builtin .append, args := #[s, x], argTypes := #[35, 35] })
    (hr : Rd w 3 m u (tkc M)) (hm : 0 < m) (hB : B ≤ w.heap.size) (hm1 : m ≤ 1000) (hs : a.eval s = .slice none 0 0) (hx : a.eval x = u)
    (h : ∀ g cap w', w'.ownsRow B 45 3 (.slice (some ⟨g, 0, none⟩) m cap) m (tkc M) → Below w.heap.size w w' → K (a.put o.dst (.slice (some ⟨g, 0, none⟩) m cap)) w') :
    if Region.wanted o (yielded ops a.tmps) = true then Oper.wp Tryd.prog o a w K Q else E := by
  refine stap B 0 m (.slice none 0 0) u [] M hgd s x ho (World.ownsRow_nil _ _ _ _) hr hm hB (by omega) hm1 hs hx fun g cap w' h1 h2 h3 => ?_
  rw [Nat.zero_add] at h1 ⊢
  exact h g cap w' h1 ((Below.refl _ w).grown h3 (Nat.le_refl _) (fun k hk => by cases hk))
end
theorem tok_z {x : Int} (hx : x < 4611686018427387904) (L : List Tk) (h : ∀ t ∈ L, t.t.length ≤ 10 ∧ t.n ≤ 4611686018427387904) : ∀ k, (L.getD k tk0).t.length ≤ maxLen ∧ (L.getD k tk0).n ≤ 9223372036854775807 := by
  intro k
  unfold maxLen
  rcases Nat.lt_or_ge k L.length with hk | hk
  · have := h (L.getD k tk0) (by simp [List.getD, hk])
    exact ⟨by omega, by omega⟩
  · rw [show L.getD k tk0 = tk0 by simp [List.getD, hk]]
    exact ⟨by show (0 : Nat) ≤ _; omega, by show (0 : Int) ≤ _; omega⟩
theorem head_sz : ∀ t ∈ headT, t.t.length ≤ 10 ∧ t.n ≤ 4611686018427387904 := by decide
/-- The number and the minus. -/
def Tri (x : Int) (X : Nat) (w0 w : World) : Prop :=
  w.cell? ⟨X, 0, none⟩ = some (.int .i64 2) ∧ w.cell? ⟨X, 1, none⟩ = some (.string ⟨#[]⟩) ∧ w.cell? ⟨X, 2, none⟩ = some (.int .i64 x) ∧
  w.cell? ⟨X + 1, 0, none⟩ = some (.int .i64 4) ∧ w.cell? ⟨X + 1, 1, none⟩ = some (.string ⟨#[45]⟩) ∧ w.cell? ⟨X + 1, 2, none⟩ = some (.int .i64 0) ∧ Below w0.heap.size w0 w
theorem Tri.step {x : Int} {X : Nat} {w0 w w' : World} (h : Tri x X w0 w0) (h' : Tri x X w0 w) (hb : Below w0.heap.size w w') : Tri x X w0 w' := by
  obtain ⟨a0, a1, a2, a3, a4, a5, -⟩ := h
  have hb0 := h'.2.2.2.2.2.2.trans hb
  exact ⟨(hb0.cell (lt_cell a0)).trans a0, (hb0.cell (lt_cell a1)).trans a1, (hb0.cell (lt_cell a2)).trans a2, (hb0.cell (lt_cell a3)).trans a3, (hb0.cell (lt_cell a4)).trans a4, (hb0.cell (lt_cell a5)).trans a5, hb0⟩
theorem Tri.self {x : Int} {X : Nat} {w0 w : World} (h : Tri x X w0 w) : Tri x X w w := ⟨h.1, h.2.1, h.2.2.1, h.2.2.2.1, h.2.2.2.2.1, h.2.2.2.2.2.1, Below.refl _ _⟩
theorem Tri.go {x : Int} {X : Nat} {w0 w w' : World} (h : Tri x X w0 w0) (h' : Tri x X w0 w) (hb : Below w.heap.size w w') : Tri x X w0 w' := h.step h' (hb.mono h'.2.2.2.2.2.2.size)
/-- A box that is not the row's stands when the row grows. -/
theorem box_row {w w' : World} {A : Nat} {cs : Array Value} {T : TypeId} {B n : Nat} {v : Value} {xs : List Value} (h : w.heap[A]? = some (.cells cs T (0, 0))) (hT : T ≠ 45) (hown : w.ownsRow B 45 3 v n xs) (hg : w.grownBy w' v.ownBlock) : w'.heap[A]? = some (.cells cs T (0, 0)) := by
  refine (hg.block A (blk_lt h) fun e => ?_).trans h
  obtain ⟨cur, sp, hc⟩ := own_tyk hown e.symm
  rw [h] at hc
  injection hc with hc
  injection hc with _ hc _
  exact hT hc
/-- The twelve cells stored. -/
theorem st12b {w W : World} {B : Nat} {x0 x1 x2 x3 x4 x5 x6 x7 x8 x9 x10 x11 : Value} {T : TypeId} (h : w.heap[B]? = some (.cells #[x0, x1, x2, x3, x4, x5, x6, x7, x8, x9, x10, x11] T (0, 0))) (y0 y1 y2 y3 y4 y5 y6 y7 y8 y9 y10 y11 : Value)
    (hW : W = (World.setCell (World.setCell (World.setCell (World.setCell (World.setCell (World.setCell (World.setCell (World.setCell (World.setCell (World.setCell (World.setCell (World.setCell w ⟨B, 0, none⟩ y0) ⟨B, 1, none⟩ y1) ⟨B, 2, none⟩ y2) ⟨B, 3, none⟩ y3) ⟨B, 4, none⟩ y4) ⟨B, 5, none⟩ y5) ⟨B, 6, none⟩ y6) ⟨B, 7, none⟩ y7) ⟨B, 8, none⟩ y8) ⟨B, 9, none⟩ y9) ⟨B, 10, none⟩ y10) ⟨B, 11, none⟩ y11)) :
    Below B w W ∧ W.heap[B]? = some (.cells #[y0, y1, y2, y3, y4, y5, y6, y7, y8, y9, y10, y11] T (0, 0)) ∧ ∀ k, k ≠ B → W.heap[k]? = w.heap[k]? := by
  have h0 := Lib.heap_setCell_same (i := 0) h y0
  have h1 := Lib.heap_setCell_same (i := 1) h0 y1
  have h2 := Lib.heap_setCell_same (i := 2) h1 y2
  have h3 := Lib.heap_setCell_same (i := 3) h2 y3
  have h4 := Lib.heap_setCell_same (i := 4) h3 y4
  have h5 := Lib.heap_setCell_same (i := 5) h4 y5
  have h6 := Lib.heap_setCell_same (i := 6) h5 y6
  have h7 := Lib.heap_setCell_same (i := 7) h6 y7
  have h8 := Lib.heap_setCell_same (i := 8) h7 y8
  have h9 := Lib.heap_setCell_same (i := 9) h8 y9
  have h10 := Lib.heap_setCell_same (i := 10) h9 y10
  have h11 := Lib.heap_setCell_same (i := 11) h10 y11
  refine ⟨?_, by rw [hW]; simpa using h11, fun k hk => ?_⟩
  · rw [hW]
    exact ((((((((((((Below.refl B w).setCell (p := ⟨B, 0, none⟩) (Nat.le_refl _) _).setCell (p := ⟨B, 1, none⟩) (Nat.le_refl _) _).setCell (p := ⟨B, 2, none⟩) (Nat.le_refl _) _).setCell (p := ⟨B, 3, none⟩) (Nat.le_refl _) _).setCell (p := ⟨B, 4, none⟩) (Nat.le_refl _) _).setCell (p := ⟨B, 5, none⟩) (Nat.le_refl _) _).setCell (p := ⟨B, 6, none⟩) (Nat.le_refl _) _).setCell (p := ⟨B, 7, none⟩) (Nat.le_refl _) _).setCell (p := ⟨B, 8, none⟩) (Nat.le_refl _) _).setCell (p := ⟨B, 9, none⟩) (Nat.le_refl _) _).setCell (p := ⟨B, 10, none⟩) (Nat.le_refl _) _).setCell (p := ⟨B, 11, none⟩) (Nat.le_refl _) _
  · rw [hW]
    iterate 12 rw [Below.heap_setCell _ _ _ _ hk]
theorem wpT_begin2 {P : Program} {ops : Array Oper} {Q : Exit → Act → World → Prop} {S : World → Prop} (L : List Nat) {id : Nat} {a : Act} {w : World} (hm : P.follows .mixedOrders = true) (hS : S w.drew)
    (h : ∀ W : World, S W → wpAnyT P .any ops Q S L ops.size (Array.replicate ops.size false) a W) : (Code.region id ops true).wp P Q a w := wpT_begin L hm hS (h _)
/-- Rows of a statement lie in no box of a statement. -/
theorem StO.box {w w' : World} {E A : Nat} {s : Sq} {p : Ps} {cs : Array Value} (h : StO w E s p) (hA : w.heap[A]? = some (.cells cs 33 (0, 0))) (hk : ∀ k, k ≠ A → w'.heap[k]? = w.heap[k]?) : StO w' E s p := by
  have go : ∀ {e z n : Nat} {v : Value} {xs : List Value}, e ≠ 33 → w.ownsRow E e z v n xs → w'.ownsRow E e z v n xs := fun {e z n v xs} he ho => own_far ho fun g hg => hk g fun eg => by
    obtain ⟨cur, sp, hc⟩ := own_tyk ho hg
    rw [eg, hA] at hc
    injection hc with hc
    injection hc with _ hc _
    exact he hc.symm
  exact ⟨go (by decide) h.o2, go (by decide) h.o3, go (by decide) h.o4, go (by decide) h.o6, go (by decide) h.o11⟩
/-- A statement that lies boxed, above what was there at w0. -/
def Got (w0 : World) (s : Sq) (v : Value) (w : World) : Prop :=
  ∃ A p, v = .pointer (some ⟨A, 0, none⟩) ∧ w.heap[A]? = some (.cells (stC s p) 33 (0, 0)) ∧ StR w s p ∧ Below w0.heap.size w0 w
end Go.Proofs.YtdeollmeljaaoaaDoor.rd
