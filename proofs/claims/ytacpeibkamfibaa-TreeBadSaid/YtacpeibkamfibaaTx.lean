/- The first entry above a key. -/
import Derived.Test.YtacpeibkamfibaaTw
import Derived.Test.YtacpeibkamfibaaHg
namespace Go.Proofs.Ytacpeibkamfibaa
open Go.ChangeShapes Go.WideShapes Go.ChangeAt Go.RowKit Go.Shelf
set_option linter.unusedVariables false
set_option linter.unusedSimpArgs false
set_option maxHeartbeats 8000000
set_option maxRecDepth 100000
attribute [local go_sem] Oper.semAt_some
/-- An owned row under a step that touches no cells. -/
theorem own_kept {A B : World} {row : Option Nat} {b e s n : Nat} {v : Value} {xs : List Value} (h : A.ownsRow b e s v n xs) (hg : A.grownBy B row) (hr : ∀ r, row = some r → ∃ o : Obj, A.heap[r]? = some o ∧ o.isCells = false) : B.ownsRow b e s v n xs := by
  rcases Nat.eq_zero_or_pos n with h0 | h0
  · exact own_far h fun g hgb => by
      obtain ⟨h1, h2⟩ := h
      rcases h2 with ⟨hv, _⟩ | ⟨g', cap, cur, hv, hb, hg', hnc, hcm, _⟩
      · rw [hv] at hgb; simp [Value.ownBlock] at hgb
      · rw [hv] at hgb
        cases hgb
        exact grownBy_keeps_cells hg hr hg' rfl
  · exact own_far h fun g hgb => by
      obtain ⟨h1, h2⟩ := h
      rcases h2 with ⟨hv, _⟩ | ⟨g', cap, cur, hv, hb, hg', hnc, hcm, _⟩
      · rw [hv] at hgb; simp [Value.ownBlock] at hgb
      · rw [hv] at hgb
        cases hgb
        exact grownBy_keeps_cells hg hr hg' rfl
theorem KpE.obj {n₀ : Nat} {w : World} (hn : n₀ ≤ w.heap.size) (W : World) (l : Nat) (o o' : Obj) (hl : w.heap.size ≤ l) (ho : W.heap[l]? = some o) (hc : o.isCells = false) (hw : o.isWalk = false) : KpE n₀ W (W.putObj l o') :=
  ⟨belowK_b (w := w) hn W l o o' hl ho hc hw, fun b C T sp _ hb => (grownBy_keeps_cells (grownBy_putObj' W l o') (fun r e => by cases e; exact ⟨_, ho, hc⟩) hb rfl).trans hb⟩
theorem new_a2 (w : World) (o o2 : Obj) : ((w.alloc o).alloc o2).heap[w.heap.size]? = some o := (Below.heap_alloc _ _ _ (by simp)).trans (new0 w o)
theorem new_b2 (w : World) (o o2 : Obj) : ((w.alloc o).alloc o2).heap[w.heap.size + 1]? = some o2 := by have := new0 (w.alloc o) o2; rwa [World.size_alloc] at this
/-- The first entry above the key. -/
def firstE (k : Key) (E : List (Key × Int)) : Option (Key × Int) := E.find? fun e => decide (e.1 ≠ k)
theorem first_at {k : Key} {E : List (Key × Int)} {pre : List EntX} {e : Key × Int} (h1 : ∀ x ∈ pre, x.2.1 = k) (h2 : pre.map (·.2) = E.take pre.length) (h3 : E[pre.length]? = some e) (h4 : e.1 ≠ k) : firstE k E = some e := by
  unfold firstE
  have e1 : E = E.take pre.length ++ e :: E.drop (pre.length + 1) := by
    obtain ⟨hlt, he⟩ := List.getElem?_eq_some_iff.1 h3
    conv => lhs; rw [← List.take_append_drop pre.length E, List.drop_eq_getElem_cons hlt, he]
  have e2 : (E.take pre.length).find? (fun e => decide (e.1 ≠ k)) = none := by
    rw [List.find?_eq_none, ← h2]
    intro x hx
    obtain ⟨y, hy, rfl⟩ := List.mem_map.1 hx
    simpa using h1 y hy
  rw [e1, List.find?_append, e2, Option.none_or, List.find?_cons_of_pos (by simpa using h4)]
theorem first_none {k : Key} {E : List (Key × Int)} {pre : List EntX} (h1 : ∀ x ∈ pre, x.2.1 = k) (h2 : pre.map (·.2) = E) : firstE k E = none := by
  unfold firstE
  rw [List.find?_eq_none, ← h2]
  intro x hx
  obtain ⟨y, hy, rfl⟩ := List.mem_map.1 hx
  simpa using h1 y hy
theorem own_ty {w : World} {B e s n g : Nat} {v : Value} {xs : List Value} (h : w.ownsRow B e s v n xs) (hg : v.ownBlock = some g) : ∃ cur sp, w.heap[g]? = some (.cells cur e sp) := by
  obtain ⟨h1, h2⟩ := h
  rcases h2 with ⟨hv, _⟩ | ⟨g', cap, cur, hv, hb, hg', hnc, hcm, _⟩
  · rw [hv] at hg; simp [Value.ownBlock] at hg
  · rw [hv] at hg
    cases hg
    exact ⟨_, _, hg'⟩
def AboveIs (n₀ : Nat) (r : Option (Key × Int)) (e : Ending) (w' : World) : Prop :=
  (∀ en, r = some en → ∃ x, e = .returned (.tuple #[.agg #[x, .int .i64 en.2], .int .i64 0]) ∧ w'.ownsRow n₀ 5 1 x en.1.length (bc en.1)) ∧ (r = none → e = .returned (.tuple #[.agg #[.slice none 0 0, .int .i64 0], .int .i64 8]))
theorem above_in (w : World) (ok ok' : Nat → Prop) (hok : ∀ b, ok b → b < w.heap.size) (ao : Option Addr) (N cap : Nat) (ak : Option Addr) (nk ck : Nat) (T : Tr) (h : Nat) (t : Tb h) (k : Key)
    (ht : RT w ok (.agg #[.slice ao N cap, .int .i64 T.root]) T) (hr : Reps T h t) (hk : RB w ok' (.slice ak nk ck) k) (hN : T.pages.length ≤ 4000) (hs : Small T) (hkl : k.length ≤ 100) (E : List (Key × Int)) (hE : E = (entT h t).filter fun e => !kl e.1 k) :
    CallsIn Fence.wide 5 Try.prog 22 #[.agg #[.slice ao N cap, .int .i64 T.root], .slice ak nk ck] w fun e w' => AboveIs w.heap.size (firstE k E) e w' ∧ Below w.heap.size w w' := by
  have hc := fun (W : World) (hB : Below w.heap.size w W) => check_any W ok (fun b hb' => by have := hok b hb'; have := hB.size; omega) _ T (ht.below hB) hs.1 hs.2
  unfold ChkIs at hc
  rw [chkT_yes hN (reps_pass hr)] at hc
  have HCH := Lib.hid hc
  have hnk : nk = k.length := by have := hk.sh; obtain ⟨a, c, e⟩ := this; simp only [Value.slice.injEq] at e; exact e.2.1
  have hnk1 : (nk : Int) ≤ 100 := by omega
  have HT := Lib.hid (And.intro ht (And.intro hr (And.intro hk (And.intro hN (And.intro hE hnk)))))
  clear hc ht hr hk hN hE hs hkl hnk
  refine callsIn_of_wp_marks Try.func22 rfl trivial ?_ rfl
  simp only [Try.ntmps22, List.size_toArray, List.length_cons, List.length_nil, Nat.reduceAdd, Nat.reduceSub, Array.replicate_succ, Array.replicate_zero, List.push_toArray, List.append_toArray, List.nil_append, List.cons_append]
  have hf1 : Fence.wide.fn 33 := trivial
  have hf2 : Fence.wide.fn 36 := trivial
  gi_wp2_with fail
  obtain ⟨W0, hW0⟩ : ∃ W0 : World, W0 = (((w.alloc (.cells #[.slice ao N cap, .int .i64 T.root] 24)).alloc (.cells #[.slice ak nk ck] 25)).alloc (.cells #[.slice none 0 0, .int .i64 0] 36)).alloc (.cells #[.int .i64 0] 28) := ⟨_, rfl⟩
  rw [← hW0]
  have hb0 : Below w.heap.size w W0 := by rw [hW0]; go_grown
  have hx0 : W0.cell? ⟨w.heap.size, 0, none⟩ = some (.slice ao N cap) := by rw [hW0]; go_simp
  have hx1 : W0.cell? ⟨w.heap.size, 1, none⟩ = some (.int .i64 T.root) := by rw [hW0]; go_simp
  have hx2 : W0.cell? ⟨w.heap.size + 1, 0, none⟩ = some (.slice ak nk ck) := by rw [hW0]; go_simp
  have hx3 : W0.heap[w.heap.size + 1 + 1]? = some (Obj.cells #[.slice none 0 0, .int .i64 0] 36 (0, 0)) := by
    have q := new0 ((w.alloc (.cells #[.slice ao N cap, .int .i64 T.root] 24)).alloc (.cells #[.slice ak nk ck] 25)) (Obj.cells #[.slice none 0 0, .int .i64 0] 36 (0, 0))
    rw [World.size_alloc, World.size_alloc] at q
    rw [hW0]
    exact (Below.heap_alloc _ _ _ (by simp)).trans q
  have hx4 : W0.heap[w.heap.size + 1 + 1 + 1]? = some (Obj.cells #[.int .i64 0] 28 (0, 0)) := by
    have q := new0 (((w.alloc (.cells #[.slice ao N cap, .int .i64 T.root] 24)).alloc (.cells #[.slice ak nk ck] 25)).alloc (Obj.cells #[.slice none 0 0, .int .i64 0] 36 (0, 0))) (Obj.cells #[.int .i64 0] 28 (0, 0))
    rw [World.size_alloc, World.size_alloc, World.size_alloc] at q
    rw [hW0]
    exact q
  have hz0 : W0.heap.size = w.heap.size + 4 := by rw [hW0]; simp
  clear hW0
  refine (callsIn_wide.2 (HCH.out W0 hb0)).mono ?_
  rintro e w1 ⟨rfl, hb1⟩
  have y0 := cell_of_below hb1 hx0
  have y1 := cell_of_below hb1 hx1
  have y2 := cell_of_below hb1 hx2
  have y3 := (hb1.block _ (Array.getElem?_eq_some_iff.1 hx3).1).trans hx3
  have y4 := (hb1.block _ (Array.getElem?_eq_some_iff.1 hx4).1).trans hx4
  have hbw := hb0.trans (hb1.mono hb0.size)
  have hz1 := hb1.size
  have HB1 := Lib.hid hbw
  clear hx0 hx1 hx2 hx3 hx4 hb0 hb1 hbw
  gi_wp2_with (gi_at_call 36; refine (entries_in _ _ _ _ _ _ _ _ _).mono ?_; rintro e w' ⟨rfl, rfl⟩)
  obtain ⟨W2, hW2⟩ : ∃ W2 : World, W2 = (w1.alloc (.cells #[.slice ao N cap, .int .i64 T.root] 24)).alloc (.cells #[.slice ak nk ck] 25) := ⟨_, rfl⟩
  rw [← hW2]
  have hb2 : Below w1.heap.size w1 W2 := by rw [hW2]; go_grown
  have hbt : W2.heap[w1.heap.size]? = some (.cells #[.slice ao N cap, .int .i64 T.root] 24 (0, 0)) := by rw [hW2]; exact new_a2 w1 _ _
  have hbk : W2.heap[w1.heap.size + 1]? = some (.cells #[.slice ak nk ck] 25 (0, 0)) := by rw [hW2]; exact new_b2 w1 _ _
  have x2 := cell_of_below hb2 y2
  have x3 := (hb2.block _ (Array.getElem?_eq_some_iff.1 y3).1).trans y3
  have x4 := (hb2.block _ (Array.getElem?_eq_some_iff.1 y4).1).trans y4
  have hbw2 : Below w.heap.size w W2 := into HB1.out hb2
  have hz2 := hb2.size
  obtain ⟨Bt, hBt⟩ : ∃ x, x = w1.heap.size := ⟨_, rfl⟩
  obtain ⟨Bk, hBk⟩ : ∃ x, x = w1.heap.size + 1 := ⟨_, rfl⟩
  rw [← hBk] at hbk ⊢
  rw [← hBt] at hbt ⊢
  obtain ⟨a1, a2, a3, a4, a5, a6⟩ := HT.out
  have HW2 := Lib.hid hbw2
  clear hW2 hb2 y0 y1 y2 y3 y4 hBt hBk
  refine rf_law (α := EntX) rfl (by omega) (gf := 61) (lb := #[.pointer (some ⟨Bt, 0, none⟩), .pointer (some ⟨Bk, 0, none⟩)]) rfl trivial (enters_of Try.func61 (by kernel_rfl) rfl) (encs := encE)
    (ents_hands 4 Bt Bk (by omega) w W2 ok ok' hok ao N cap ak nk ck T h t k a1 a2 a3 a4 E a5 hbw2 hbt hbk) (fun h g => h.trans g) (fun W l o o' hl ho hc hw => KpE.obj (w := W2) hbw2.size W l o o' hl ho hc hw) (Below.refl _ _) (fun _ => rfl)
    (fun pre W => ((∀ x ∈ pre, x.2.1 = k) ∧ pre.map (·.2) = E.take pre.length ∧ W.cell? ⟨w.heap.size + 1, 0, none⟩ = some (.slice ak nk ck) ∧ W.heap[w.heap.size + 1 + 1]? = some (Obj.cells #[.slice none 0 0, .int .i64 0] 36 (0, 0)) ∧ W.heap[w.heap.size + 1 + 1 + 1]? = some (Obj.cells #[.int .i64 0] 28 (0, 0)) ∧ w.heap.size + 4 ≤ W.heap.size) ∧ Below w.heap.size w W)
    (fun c pre W => (c = .ret ∧ ∃ x en, firstE k E = some en ∧ W.cell? ⟨w.heap.size + 1 + 1, 0, none⟩ = some x ∧ W.cell? ⟨w.heap.size + 1 + 1, 1, none⟩ = some (.int .i64 en.2) ∧ W.cell? ⟨w.heap.size + 1 + 1 + 1, 0, none⟩ = some (.int .i64 0) ∧ W.ownsRow w.heap.size 5 1 x en.1.length (bc en.1)) ∧ Below w.heap.size w W)
    (OwnFrom.and (Own.from (fun s A B row hs hg hr => ⟨hs.1, hs.2.1, cell_kept hs.2.2.1 hg hr, (grownBy_keeps_cells hg hr hs.2.2.2.1 rfl).trans hs.2.2.2.1, (grownBy_keeps_cells hg hr hs.2.2.2.2.1 rfl).trans hs.2.2.2.2.1, Nat.le_trans hs.2.2.2.2.2 hg.size⟩) _) (ownFrom_below (Nat.le_refl _) hbw2.size))
    (fun c => OwnFrom.and (Own.from (fun s A B row hs hg hr => ⟨hs.1, by obtain ⟨x, en, q1, q2, q3, q4, q5⟩ := hs.2; exact ⟨x, en, q1, cell_kept q2 hg hr, cell_kept q3 hg hr, cell_kept q4 hg hr, own_kept q5 hg hr⟩⟩) _) (ownFrom_below (Nat.le_refl _) hbw2.size))
    ⟨⟨by simp, by simp, x2, x3, x4, by omega⟩, hbw2⟩
    (fun pre x a' W => ∃ Bx, w.heap.size + 4 ≤ Bx ∧ Bx < W.heap.size ∧ W.cell? ⟨Bx, 0, none⟩ = some x.1 ∧ W.cell? ⟨Bx, 1, none⟩ = some (.int .i64 x.2.2) ∧ E[pre.length]? = some x.2 ∧ W.ownsRow w.heap.size 5 1 x.1 x.2.1.length (bc x.2.1) ∧ a' = { tmps := #[Value.agg #[Value.slice ao N cap, Value.int IntKind.i64 T.root], Value.slice ak nk ck, Value.pointer (some ⟨w.heap.size, 0, none⟩), Value.pointer (some ⟨w.heap.size + 1, 0, none⟩), Value.pointer (some ⟨w.heap.size + 1 + 1, 0, none⟩), Value.pointer (some ⟨w.heap.size + 1 + 1 + 1, 0, none⟩), Value.pointer (some ⟨Bx, 0, none⟩), Value.bool false, Value.agg #[Value.slice ao N cap, Value.int IntKind.i64 T.root], Value.int IntKind.i64 0, Value.bool false, undef, Value.bool (decide ((100 : Int) < (nk : Int))), Value.slice ak nk ck, Value.int IntKind.i64 (nk : Int), Value.bool (decide ((100 : Int) < (nk : Int))), undef, Value.agg #[Value.slice ao N cap, Value.int IntKind.i64 T.root], Value.slice ak nk ck, Value.func (Fn.func 61) #[] #[Value.pointer (some ⟨Bt, 0, none⟩), Value.pointer (some ⟨Bk, 0, none⟩)], Value.agg #[x.1, Value.int IntKind.i64 x.2.2], undef, undef, undef, undef, undef, undef, undef], defers := [] })
    ?ax ?assign ?body ?done ?stop
  case ax =>
    rintro pre x a' s A B row ⟨Bx, h1, h2, h3, h4, h5, h6, h7⟩ hg hr
    exact ⟨Bx, h1, by have := hg.size; omega, cell_kept h3 hg (fun r e => (hr r e).2), cell_kept h4 hg (fun r e => (hr r e).2), h5, own_kept h6 hg (fun r e => (hr r e).2), h7⟩
  case assign =>
    rintro l pre x W K ⟨⟨q1, q2, q3, q4, q5, q6⟩, hB⟩ ⟨hG1, hG2⟩ hK
    clear a1 a2 a3 a4 a5 a6
    obtain ⟨xv, xk, xr⟩ := x
    simp only at hG1 hG2
    have HO := Lib.hid hG2
    obtain ⟨xn, hxn⟩ : ∃ n, n = xk.length := ⟨_, rfl⟩
    rw [← hxn] at hG2
    obtain ⟨_, xa, xc, rfl, -⟩ := Rd.own hG2
    clear hG2
    have HXN := Lib.hid hxn
    clear hxn
    unfold encE
    gi_wp2_with fail
    exact hK _ _ ((KeepsOthers.alloc _ _).from _) (KpE.of_below ((Below.refl _ W).alloc (Nat.le_refl _) _) hB.size) ⟨⟨q1, q2, cell_al _ q3, (Below.heap_alloc _ _ _ (Array.getElem?_eq_some_iff.1 q4).1).trans q4, (Below.heap_alloc _ _ _ (Array.getElem?_eq_some_iff.1 q5).1).trans q5, by simp; omega⟩, hB.alloc hB.size _⟩
      ⟨W.heap.size, q6, by simp, by simp, by simp, hG1, own_below HO.out ((Below.refl _ W).alloc (Nat.le_refl _) _), rfl⟩
  case body =>
    rintro l pre x a' W hl hlW ⟨⟨q1, q2, q3, q4, q5, q6⟩, hB⟩ ⟨Bx, b1, b2, b3, b4, b5, b6, rfl⟩
    obtain ⟨xv, xk, xr⟩ := x
    simp only at b3 b4 b5 b6
    obtain ⟨-, -, a3, -, -, a6'⟩ := HT.out
    clear a1 a2 a4 a5 a6
    obtain ⟨xn, hxn⟩ : ∃ n, n = xk.length := ⟨_, rfl⟩
    have heq' := fun (ha : Rd W 1 xk.length xv (bc xk)) => eql_any W xv (.slice ak nk ck) xk k ha (a3.below hB).1
    have heq := heq' (Rd.own b6)
    have b6' := b6
    rw [← hxn] at b6'
    obtain ⟨_, xa, xc, rfl, -⟩ := Rd.own b6'
    have HO := Lib.hid b6
    have HXN := Lib.hid hxn
    clear b6 b6' hxn a3 a6' heq'
    have hf6 : Fence.wide.fn 42 := trivial
    have hf5 : (Fence.wide.inRound l).fn 42 := trivial
    obtain ⟨u0, u1, f0, f1⟩ := box2 q4
    have u2 := box1 q5
    have f2 : W.frozen? ⟨w.heap.size + 1 + 1 + 1, 0, none⟩ = false := by simp [World.frozen?, q5]
    by_cases hkx : xk = k
    · have hd : decide (xk = k) = true := by simpa using hkx
      rw [hd] at heq
      have HQ := Lib.hid heq
      have HKX := Lib.hid hkx
      clear heq hd hkx
      gi_wp2_with (gi_at_call 42; refine (CallsIn.inRound _ (callsIn_wide.2 HQ.out)).mono ?_; rintro e w' ⟨rfl, rfl⟩)
      refine ⟨keeps_below (Below.refl _ _), KpE.refl _ _, ⟨⟨fun y hy => ?_, ?_, q3, q4, q5, q6⟩, hB⟩⟩
      · rcases List.mem_append.1 hy with h1 | h1
        · exact q1 y h1
        · rw [List.mem_singleton.1 h1]; exact HKX.out
      · rw [List.map_append, q2, List.length_append, List.length_singleton, List.take_add_one, b5]
        rfl
    · have hd : decide (xk = k) = false := by simpa using hkx
      rw [hd] at heq
      have HQ := Lib.hid heq
      have HKX := Lib.hid hkx
      clear heq hd hkx
      gi_wp2_with (gi_at_call 42; refine (CallsIn.inRound _ (callsIn_wide.2 HQ.out)).mono ?_; rintro e w' ⟨rfl, rfl⟩)
      have hfar : ∀ b, b ≠ w.heap.size + 1 + 1 → b ≠ w.heap.size + 1 + 1 + 1 → (((W.setCell ⟨w.heap.size + 1 + 1, 0, none⟩ (.slice xa xn xc)).setCell ⟨w.heap.size + 1 + 1, 1, none⟩ (.int .i64 xr)).setCell ⟨w.heap.size + 1 + 1 + 1, 0, none⟩ (.int .i64 0)).heap[b]? = W.heap[b]? := fun b h1 h2 => by
        rw [Below.heap_setCell _ _ _ _ h2, Below.heap_setCell _ _ _ _ h1, Below.heap_setCell _ _ _ _ h1]
      refine ⟨(((KeepsOthers.setCell _ _ _).from _).trans ((KeepsOthers.setCell _ _ _).from _)).trans ((KeepsOthers.setCell _ _ _).from _), ⟨rfl, .slice xa xn xc, (xk, xr), ?_, ?_, ?_, ?_, own_far HO.out fun b hb => hfar b ?_ ?_⟩, ?_⟩
      · exact first_at q1 q2 b5 HKX.out
      · exact set_far (by simp) ((World.cell?_setCell_other _ _ _ _ (by simp)).trans (World.cell?_setCell_same _ _ _ u0))
      · exact set_far (by simp) (World.cell?_setCell_same _ _ _ ((World.cell?_setCell_other _ _ _ _ (by simp)).trans u1))
      · exact World.cell?_setCell_same _ _ _ (set_far (by simp) (set_far (by simp) u2))
      · intro e
        rw [e] at hb
        obtain ⟨cur, sp, hc⟩ := own_ty HO.out hb
        rw [q4] at hc
        simp at hc
      · intro e
        rw [e] at hb
        obtain ⟨cur, sp, hc⟩ := own_ty HO.out hb
        rw [q5] at hc
        simp at hc
      · exact ((hB.setCell (p := ⟨w.heap.size + 1 + 1, 0, none⟩) (by show w.heap.size ≤ w.heap.size + 1 + 1; omega) _).setCell (p := ⟨w.heap.size + 1 + 1, 1, none⟩) (by show w.heap.size ≤ w.heap.size + 1 + 1; omega) _).setCell (p := ⟨w.heap.size + 1 + 1 + 1, 0, none⟩) (by show w.heap.size ≤ w.heap.size + 1 + 1 + 1; omega) _
  case done =>
    clear a1 a2 a3 a4 a5 a6
    rintro D xs W hD hS ⟨⟨q1, q2, q3, q4, q5, q6⟩, hB⟩ hK
    obtain ⟨u0, u1, f0, f1⟩ := box2 q4
    have u2 := box1 q5
    have f2 : W.frozen? ⟨w.heap.size + 1 + 1 + 1, 0, none⟩ = false := by simp [World.frozen?, q5]
    gi_wp2_with fail
    have hK' := ((((KeepsOthers.setCell W ⟨w.heap.size + 1 + 1, 0, none⟩ (.slice none 0 0)).from 0).trans ((KeepsOthers.setCell _ ⟨w.heap.size + 1 + 1, 1, none⟩ (.int .i64 0)).from 0)).trans ((KeepsOthers.setCell _ ⟨w.heap.size + 1 + 1 + 1, 0, none⟩ (.int .i64 8)).from 0)).same D _ (by omega) hK rfl
    refine ⟨by simp, .inl ⟨_, _, rfl, run_takeDeferred hK', ?_⟩⟩
    have hg := fun {a : Addr} {v : Value} (hc : (((W.setCell ⟨w.heap.size + 1 + 1, 0, none⟩ (.slice none 0 0)).setCell ⟨w.heap.size + 1 + 1, 1, none⟩ (.int .i64 0)).setCell ⟨w.heap.size + 1 + 1 + 1, 0, none⟩ (.int .i64 8)).cell? a = some v) => cell_kept hc (grownBy_putObj' _ D (.deferred none)) (fun r e => by cases e; exact ⟨_, hK', rfl⟩)
    have c0 := hg (set_far (by simp) ((World.cell?_setCell_other _ _ _ _ (by simp)).trans (World.cell?_setCell_same _ _ _ u0)))
    have c1 := hg (set_far (by simp) (World.cell?_setCell_same _ _ _ ((World.cell?_setCell_other _ _ _ _ (by simp)).trans u1)))
    have c2 := hg (World.cell?_setCell_same _ _ _ (set_far (by simp) (set_far (by simp) u2)))
    have hn := first_none q1 hS
    refine ⟨.tuple #[.agg #[.slice none 0 0, .int .i64 0], .int .i64 8], ?_, ⟨⟨fun en he => (by rw [hn] at he; cases he), fun _ => rfl⟩, (((hB.setCell (p := ⟨w.heap.size + 1 + 1, 0, none⟩) (by show w.heap.size ≤ w.heap.size + 1 + 1; omega) _).setCell (p := ⟨w.heap.size + 1 + 1, 1, none⟩) (by show w.heap.size ≤ w.heap.size + 1 + 1; omega) _).setCell (p := ⟨w.heap.size + 1 + 1 + 1, 0, none⟩) (by show w.heap.size ≤ w.heap.size + 1 + 1 + 1; omega) _).trans (belowK_b (w := w) (Nat.le_refl _) _ D _ _ (by omega) hK' rfl rfl)⟩⟩
    simp [results, Try.f22, go_sem, c0, c1, c2]
  case stop =>
    clear a1 a2 a3 a4 a5 a6
    rintro D c pre W hD - ⟨⟨rfl, x, en, q1, q2, q3, q4, q5⟩, hB⟩ hK
    gi_wp2_with fail
    refine ⟨by simp, .inl ⟨_, _, rfl, run_takeDeferred hK, ?_⟩⟩
    have hg := fun {a : Addr} {v : Value} (hc : W.cell? a = some v) => cell_kept hc (grownBy_putObj' _ D (.deferred none)) (fun r e => by cases e; exact ⟨_, hK, rfl⟩)
    have c0 := hg q2
    have c1 := hg q3
    have c2 := hg q4
    have ho := own_kept q5 (grownBy_putObj' _ D (.deferred none)) (fun r e => by cases e; exact ⟨_, hK, rfl⟩)
    refine ⟨.tuple #[.agg #[x, .int .i64 en.2], .int .i64 0], ?_, ⟨⟨fun en' he => (by rw [q1] at he; cases he; exact ⟨x, rfl, ho⟩), fun he => (by rw [q1] at he; cases he)⟩, hB.trans (belowK_b (w := w) (Nat.le_refl _) W D _ _ (by omega) hK rfl rfl)⟩⟩
    simp [results, Try.f22, go_sem, c0, c1, c2]
end Go.Proofs.Ytacpeibkamfibaa
