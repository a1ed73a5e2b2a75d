import Derived.Test.YtdeollmeljaaoaaDoorAbk
import Derived.Deep.LoopGhost
/- A reader amid an expression: its ops, one more of them. -/
namespace Go.Proofs.YtdeollmeljaaoaaDoor.rd
open Go.ChangeShapes Go.WideShapes Go.ChangeAt Go.RowKit Go.Proofs.YtdeollmeljaaoaaDoor.cs
set_option linter.unusedVariables false
set_option linter.unusedSimpArgs false
set_option maxHeartbeats 4000000
set_option maxRecDepth 100000
theorem info_op : (Tryd.prog.info? 54).map (fun i => (i.zero, i.size, i.bytes)) = some (some (.agg #[.int .i64 0, .int .i64 0, .int .i64 0, .string ⟨#[]⟩, .string ⟨#[]⟩]), 5, 56) := by kernel_rfl
/-- All stands but for one box, and for rows of ops from E on. -/
structure ButX (B E : Nat) (w w' : World) : Prop where
  os : w'.os = w.os
  tape : w'.tape = w.tape
  output : w'.output = w.output
  size : w.heap.size ≤ w'.heap.size
  block : ∀ k, k < w.heap.size → k ≠ B → (k < E ∨ ∀ cs fr, w.heap[k]? ≠ some (.cells cs 54 fr)) → w'.heap[k]? = w.heap[k]?
theorem But.to {B : Nat} (E : Nat) {w w' : World} (h : But B w w') : ButX B E w w' := ⟨h.os, h.tape, h.output, h.size, fun k hk hn _ => h.block k hk hn⟩
theorem ButX.of {B : Nat} (E : Nat) {w w' : World} (h : Below w.heap.size w w') : ButX B E w w' := (But.of h).to E
theorem ButX.trans {B E : Nat} {a b c : World} (h : ButX B E a b) (g : ButX B E b c) : ButX B E a c :=
  ⟨g.os.trans h.os, g.tape.trans h.tape, g.output.trans h.output, Nat.le_trans h.size g.size, fun k hk hn ht => by
    have e := h.block k hk hn ht
    exact (g.block k (Nat.lt_of_lt_of_le hk h.size) hn (by rw [e]; exact ht)).trans e⟩
theorem ButX.set (w : World) (B E i : Nat) (v : Value) : ButX B E w (w.setCell ⟨B, i, none⟩ v) := (But.set w B i v).to E
theorem ButX.keep {B E k : Nat} {w w' : World} {cs : Array Value} {T : TypeId} {fr : Nat × Nat} (h : ButX B E w w') (hk : k ≠ B) (hT : T ≠ 54) (hb : w.heap[k]? = some (.cells cs T fr)) : w'.heap[k]? = some (.cells cs T fr) :=
  (h.block k (blk_lt hb) hk (.inr (fun cs' fr' e => by rw [hb] at e; simp only [Option.some.injEq, Obj.cells.injEq] at e; exact hT e.2.1))).trans hb
theorem ButX.low {B E k : Nat} {w w' : World} {o : Obj} (h : ButX B E w w') (hk : k ≠ B) (hE : k < E) (hb : w.heap[k]? = some o) : w'.heap[k]? = some o :=
  (h.block k (blk_lt hb) hk (.inl hE)).trans hb
theorem Tbq.but {B E : Nat} {w w' : World} (h : Tbq w) (o : Off B) (hE : B < E) (hb : ButX B E w w') : Tbq w' := by
  obtain ⟨⟨t1, r1, h1⟩, ⟨t2, r2, h2⟩, ⟨t3, r3, h3⟩, ⟨t4, r4, h4⟩, ⟨t5, r5, h5⟩, ⟨t6, r6, h6⟩⟩ := h
  have o1 := o.m
  have o2 := o.k
  have o3 := o.d
  have o4 := o.s
  have o5 := o.c
  have o6 := o.x
  exact ⟨⟨t1, r1, hb.low (by omega) (by omega) h1⟩, ⟨t2, r2, hb.low (by omega) (by omega) h2⟩, ⟨t3, r3, hb.low (by omega) (by omega) h3⟩, ⟨t4, r4, hb.low (by omega) (by omega) h4⟩, ⟨t5, r5, hb.low (by omega) (by omega) h5⟩, ⟨t6, r6, hb.low (by omega) (by omega) h6⟩⟩
theorem own_but {w w' : World} {B E e s n : Nat} {v : Value} {xs : List Value} (h : w.ownsRow E e s v n xs) (hb : But B w w') (hB : B < E) : w'.ownsRow E e s v n xs := by
  refine ⟨h.1, ?_⟩
  rcases h.2 with h0 | ⟨g, cap, cur, hv, h1, h2, h3⟩
  · exact .inl h0
  · exact .inr ⟨g, cap, cur, hv, h1, (hb.block g (blk_lt h2) (by omega)).trans h2, h3⟩
theorem own_ty {w : World} {E e s n : Nat} {v : Value} {xs : List Value} (h : w.ownsRow E e s v n xs) : ∀ g, v.ownBlock = some g → E ≤ g ∧ ∃ cs fr, w.heap[g]? = some (.cells cs e fr) := by
  intro g hg
  refine ⟨(h.lt g hg).1, ?_⟩
  rcases h.2 with h0 | ⟨g', cap, cur, hv, h1, h2, h3⟩
  · rw [h0.1] at hg; cases hg
  · rw [hv] at hg
    obtain rfl := Option.some.inj hg
    exact ⟨_, _, h2⟩
theorem ButX.grown {B E n : Nat} {w w' : World} {v : Value} {xs : List Value} (h : w.grownBy w' v.ownBlock) (ho : w.ownsRow E 54 5 v n xs) : ButX B E w w' :=
  ⟨h.os, h.tape, h.output, h.size, fun k hk hn ht => h.block k hk (fun e => by
    obtain ⟨h1, cs, fr, h2⟩ := own_ty ho k e.symm
    rcases ht with h3 | h3
    · omega
    · exact h3 _ _ h2)⟩
/-- Tokens that may be: no text is too long, no number too great. -/
def TokOk (L : List Tk) : Prop := ∀ k, (L.getD k tk0).t.length ≤ maxLen ∧ 0 ≤ (L.getD k tk0).n ∧ (L.getD k tk0).n ≤ 9223372036854775807
/-- A reader amid an expression: its place, its ops, which it owns from E on. -/
structure Xs (w : World) (B E : Nat) (a : Option Addr) (n c : Nat) (L : List Tk) (k : Nat) (os : List Oq) : Prop where
  ex : ∃ ov, Rdr w B a n c L k ov ∧ w.ownsRow E 54 5 ov os.length (ocs os)
  few : os.length ≤ 40
  lt : B < E
  le : E ≤ w.heap.size
  tok : ∀ x, a = some x → 0 < n → x.block < E
  tb : Tbq w
  off : Off B
  ok : TokOk L
/-- What a reader amid an expression does: it dies of a fault, or goes on. -/
def Ex (w : World) (B E : Nat) (a : Option Addr) (n c : Nat) (L : List Tk) (r : F ⊕ (Nat × List Oq)) (e : Ending) (w' : World) : Prop :=
  ButX B E w w' ∧ match r with
    | .inl f => e = flt f.1 f.2
    | .inr (k', os') => e = .returned (.tuple #[]) ∧ Xs w' B E a n c L k' os'
theorem Xs.later {w w' : World} {B E : Nat} {a : Option Addr} {n c : Nat} {L : List Tk} {k : Nat} {os : List Oq} (h : Xs w B E a n c L k os) (hb : Below w.heap.size w w') : Xs w' B E a n c L k os := by
  obtain ⟨⟨ov, h1, h2⟩, h3, h4, h5, h6, h7, h8, h9⟩ := h
  exact ⟨⟨ov, h1.below hb, own_below h2 hb⟩, h3, h4, Nat.le_trans h5 hb.size, h6, h7.below hb, h8, h9⟩
/-- Another place, all but the box as it was. -/
theorem Xs.go {w w' : World} {B E : Nat} {a : Option Addr} {n c : Nat} {L : List Tk} {k k' : Nat} {os : List Oq} {ov : Value} (h : Xs w B E a n c L k os) (ho : w.ownsRow E 54 5 ov os.length (ocs os)) (hr : Rdr w' B a n c L k' ov) (hN : But B w w') : Xs w' B E a n c L k' os := by
  obtain ⟨_, h3, h4, h5, h6, h7, h8, h9⟩ := h
  exact ⟨⟨ov, hr, own_but ho hN h4⟩, h3, h4, Nat.le_trans h5 hN.size, h6, h7.but h8 h4 (hN.to E), h8, h9⟩
theorem grown_cell {w w' : World} {row : Option Nat} {p : Addr} {v : Value} (h : w.grownBy w' row) (hc : w.cell? p = some v) (hn : some p.block ≠ row) : w'.cell? p = some v := by
  have hl := lt_cell hc
  unfold World.cell? at hc ⊢
  rw [h.block _ hl hn]
  exact hc
theorem bx5 {w : World} {B : Nat} {x y z u v : Value} {T : TypeId} (h : w.heap[B]? = some (.cells #[x, y, z, u, v] T (0, 0))) :
    w.cell? ⟨B, 0, none⟩ = some x ∧ w.cell? ⟨B, 1, none⟩ = some y ∧ w.cell? ⟨B, 2, none⟩ = some z ∧ w.cell? ⟨B, 3, none⟩ = some u ∧ w.cell? ⟨B, 4, none⟩ = some v := by
  refine ⟨?_, ?_, ?_, ?_, ?_⟩ <;> (simp only [World.cell?]; rw [h]; rfl)
abbrev opV (o : Oq) : Value := .agg #[.int .i64 o.k, .int .i64 o.v.k, .int .i64 o.v.n, .string o.v.t, .string o.t]
theorem rd_low {B E : Nat} {w w' : World} {s n : Nat} {v : Value} {xs : List Value} (h : Rd w s n v xs) (hb : ButX B E w w') (hP : ∀ a cap, v = .slice (some a) n cap → 0 < n → a.block ≠ B ∧ a.block < E) (hs : 0 < s) : Rd w' s n v xs := by
  obtain ⟨h1, ao, cap, h2, h3, h4, h5, h6⟩ := h
  refine ⟨h1, ao, cap, h2, h3, h4, h5, fun a ha j u hu => ?_⟩
  have hn : 0 < n := by
    rcases Nat.eq_zero_or_pos n with h0 | h0
    · subst h0
      have := (List.getElem?_eq_some_iff.1 hu).1
      omega
    · exact h0
  subst ha
  obtain ⟨hne, hlt⟩ := hP a cap h2 hn
  have h8 := h6 a rfl j u hu
  have hl := lt_cell h8
  have he : (a.add j).block = a.block := by
    obtain ⟨b, o, s⟩ := a
    simp only [Addr.add]
    split <;> rfl
  unfold World.cell? at h8 ⊢
  rw [hb.block _ hl (by rw [he]; exact hne) (.inl (by rw [he]; exact hlt))]
  exact h8
/-- The reader in its box again, with other ops. -/
theorem Rdr.put {w w1 : World} {B E : Nat} {a : Option Addr} {n c : Nat} {L : List Tk} {k : Nat} {ov : Value} (h : Rdr w B a n c L k ov) (hN : ButX B E w w1) (h1 : w1.heap[B]? = w.heap[B]?) (ht : ∀ x, a = some x → 0 < n → x.block < E) (ov' : Value) : Rdr (w1.setCell ⟨B, 2, none⟩ ov') B a n c L k ov' := by
  refine ⟨by simpa using Lib.heap_setCell_same (i := 2) (h1.trans h.box) ov', ?_, h.le, h.sm, h.ne⟩
  exact rd_low h.row (hN.trans (ButX.set w1 B E 2 ov')) (fun x cap e hn => by cases e; exact ⟨h.ne x rfl hn, ht x rfl hn⟩) (by omega)
theorem put_any (w : World) (B E : Nat) (a : Option Addr) (n c : Nat) (L : List Tk) (k : Nat) (os : List Oq) (h : Xs w B E a n c L k os) (o : Oq) :
    Calls Tryd.prog 91 #[.pointer (some ⟨B, 0, none⟩), opV o] w (Ex w B E a n c L (putF o k os)) := by
  obtain ⟨⟨ov, hR, hO⟩, hF, hBE, hE, hT, hTb, hOff, hOk⟩ := h
  have hlt := heap_lt hR.box
  obtain ⟨ob, oc, rfl⟩ : ∃ ob oc, ov = .slice ob os.length oc := by
    obtain ⟨_, x, y, e, _⟩ := Rd.own hO
    exact ⟨x, y, e⟩
  obtain ⟨x0, x1, x2, f0, f1, f2⟩ := hR.cells
  have HG : Hid (∀ W, Below w.heap.size w W → Calls Tryd.prog 75 #[.pointer (some ⟨B, 0, none⟩), .int .i64 10] W fun e w' => e = flt ((k : Int) - 1) 10 ∧ Below W.heap.size W w') := fun W hW => giveBack_any W B a n c L k _ (hR.below hW) 10
  have HR := Lib.hid hR
  have HO := Lib.hid hO
  have hb0 : Below w.heap.size w (w.alloc (.cells #[.int .i64 o.k, .int .i64 o.v.k, .int .i64 o.v.n, .string o.v.t, .string o.t] 54)) := (Below.refl _ _).alloc (Nat.le_refl _) _
  have HB0 := Lib.hid hb0
  clear hR hO hb0
  unfold putF
  by_cases h40 : os.length = 40
  · rw [if_pos h40]
    have h40' : ((os.length : Int) == 40) = true := by simp [h40]
    go_enter Tryd.func91, Tryd.ntmps91
    go_wp2_with fail
    refine (HG.out _ HB0.out).mono ?_
    rintro e w1 ⟨rfl, hb1⟩
    exact ⟨rfl, ButX.of E (into HB0.out hb1), rfl⟩
  · rw [if_neg h40]
    have h40' : ((os.length : Int) == 40) = false := by simp; omega
    obtain ⟨ok, ⟨ovk, ovn, ovt⟩, ot⟩ := o
    simp only at HB0 ⊢
    obtain ⟨i0, hi0, hz0, hz1, hz2⟩ := info_parts info_op
    go_enter Tryd.func91, Tryd.ntmps91
    go_wp2_with fail
    refine code_nm (fun W0 hW0 => ?_)
    have hP := new0 w (.cells #[.int .i64 ok, .int .i64 ovk, .int .i64 ovn, .string ovt, .string ot] 54)
    rw [← hW0] at hP
    have hB0 : Below w.heap.size w W0 := by rw [hW0]; exact HB0.out
    have hS0 : W0.heap.size = w.heap.size + 1 := by rw [hW0]; simp
    clear hW0
    have HB := Lib.hid hB0
    have HS := Lib.hid hS0
    have HO1 := Lib.hid (own_below (own_below HO.out hB0) (Below.refl _ _).drew)
    obtain ⟨p0, p1, p2, p3, p4⟩ := bx5 hP
    have y2 : W0.cell? ⟨B, 2, none⟩ = some (.slice ob os.length oc) := (hB0.cell (p := ⟨B, 2, none⟩) hlt).trans x2
    have hE0 : Hid (E ≤ W0.heap.size + 1) := by show _ ≤ _; omega
    have hnb : some B ≠ (Value.slice ob os.length oc).ownBlock := fun e => by
      have := (HO.out.lt B e.symm).1
      omega
    have hnp : some w.heap.size ≠ (Value.slice ob os.length oc).ownBlock := fun e => by
      have := (HO.out.lt w.heap.size e.symm).2
      omega
    have HNB := Lib.hid hnb
    have HNP := Lib.hid hnp
    clear hB0 hS0 HB0 x0 x1 x2 hnb hnp
    refine wpT_begin (S := (fun wx => wx.cell? ⟨B, 2, none⟩ = some (.slice ob os.length oc) ∧ wx.cell? ⟨w.heap.size, 0, none⟩ = some (.int .i64 ok) ∧ wx.cell? ⟨w.heap.size, 1, none⟩ = some (.int .i64 ovk) ∧ wx.cell? ⟨w.heap.size, 2, none⟩ = some (.int .i64 ovn) ∧ wx.cell? ⟨w.heap.size, 3, none⟩ = some (.string ovt) ∧ wx.cell? ⟨w.heap.size, 4, none⟩ = some (.string ot))) [10] (by kernel_rfl) ?_ (fun hHeld => ?_)
    · (try dsimp only)
      (first | (with_reducible exact ⟨cell_dr y2, cell_dr p0, cell_dr p1, cell_dr p2, cell_dr p3, cell_dr p4⟩) | (exact ⟨cell_al _ (cell_dr y2), cell_al _ (cell_dr p0), cell_al _ (cell_dr p1), cell_al _ (cell_dr p2), cell_al _ (cell_dr p3), cell_al _ (cell_dr p4)⟩) | (exact ⟨s0, s1, s2, s3, s4, s5⟩))
    refine wpAnyT_pure (i := 0) (oi := _) (v := ?_) rfl (by kernel_rfl) (by kernel_rfl) (by kernel_rfl) (by kernel_rfl) (fun _ _ _ h => h) (Or.inl ⟨by rfl, ?_⟩) (fun _ => by assumption) ?_
    rotate_left
    · (intro w hSw; go_simp)
      all_goals (with_reducible rfl)
    (try simp only [List.getElem_toArray, List.getElem_cons_zero, List.getElem_cons_succ, Act.put, List.setIfInBounds_toArray, List.set_cons_zero, List.set_cons_succ])
    refine wpAnyT_pure (i := 1) (oi := _) (v := ?_) rfl (by kernel_rfl) (by kernel_rfl) (by kernel_rfl) (by kernel_rfl) (fun _ _ _ h => h) (Or.inl ⟨by rfl, ?_⟩) (fun _ => by assumption) ?_
    rotate_left
    · (intro w hSw; go_simp)
      all_goals (with_reducible rfl)
    (try simp only [List.getElem_toArray, List.getElem_cons_zero, List.getElem_cons_succ, Act.put, List.setIfInBounds_toArray, List.set_cons_zero, List.set_cons_succ])
    refine wpAnyT_pure (i := 2) (oi := _) (v := ?_) rfl (by kernel_rfl) (by kernel_rfl) (by kernel_rfl) (by kernel_rfl) (fun _ _ _ h => h) (Or.inl ⟨by rfl, ?_⟩) (fun _ => by assumption) ?_
    rotate_left
    · (intro w hSw; go_simp)
      all_goals (with_reducible rfl)
    (try simp only [List.getElem_toArray, List.getElem_cons_zero, List.getElem_cons_succ, Act.put, List.setIfInBounds_toArray, List.set_cons_zero, List.set_cons_succ])
    refine wpAnyT_pure (i := 3) (oi := _) (v := ?_) rfl (by kernel_rfl) (by kernel_rfl) (by kernel_rfl) (by kernel_rfl) (fun _ _ _ h => h) (Or.inl ⟨by rfl, ?_⟩) (fun _ => by assumption) ?_
    rotate_left
    · (intro w hSw; go_simp)
      all_goals (with_reducible rfl)
    (try simp only [List.getElem_toArray, List.getElem_cons_zero, List.getElem_cons_succ, Act.put, List.setIfInBounds_toArray, List.set_cons_zero, List.set_cons_succ])
    refine wpAnyT_take (i := 4) (oi := _) (v := ?_) rfl (by kernel_rfl) (by kernel_rfl) (by kernel_rfl) (by kernel_rfl) (fun _ _ _ h => h) (Or.inl ⟨by rfl, ?_⟩) (by assumption) ?_
    rotate_left
    · (intro w hSw; (try dsimp only at hSw); go_simp)
      all_goals (with_reducible rfl)
    (try simp only [List.getElem_toArray, List.getElem_cons_zero, List.getElem_cons_succ, Act.put, List.setIfInBounds_toArray, List.set_cons_zero, List.set_cons_succ])
    refine wpAnyT_take (i := 5) (oi := _) (v := ?_) rfl (by kernel_rfl) (by kernel_rfl) (by kernel_rfl) (by kernel_rfl) (fun _ _ _ h => h) (Or.inl ⟨by rfl, ?_⟩) (by assumption) ?_
    rotate_left
    · (intro w hSw; (try dsimp only at hSw); go_simp)
      all_goals (with_reducible rfl)
    (try simp only [List.getElem_toArray, List.getElem_cons_zero, List.getElem_cons_succ, Act.put, List.setIfInBounds_toArray, List.set_cons_zero, List.set_cons_succ])
    refine wpAnyT_ready (rs := [6]) (by kernel_rfl) (by simp) ?_
    refine AllReadyT.cons rfl (fun K hK => ?_) AllReadyT.nil
    go_simp
    refine hK.out _ _ (fun _ => ?_) (fun hHeld0 => ?_)
    · (try dsimp only)
      (first | (with_reducible exact ⟨cell_dr y2, cell_dr p0, cell_dr p1, cell_dr p2, cell_dr p3, cell_dr p4⟩) | (exact ⟨cell_al _ (cell_dr y2), cell_al _ (cell_dr p0), cell_al _ (cell_dr p1), cell_al _ (cell_dr p2), cell_al _ (cell_dr p3), cell_al _ (cell_dr p4)⟩) | (exact ⟨s0, s1, s2, s3, s4, s5⟩))
    have hHeld := hHeld0 (by kernel_rfl)
    clear hK K hHeld0
    (try simp only [List.getElem_toArray, List.getElem_cons_zero, List.getElem_cons_succ, Act.put, List.setIfInBounds_toArray, List.set_cons_zero, List.set_cons_succ])
    refine wpAnyT_ready (rs := [7]) (by kernel_rfl) (by simp) ?_
    refine AllReadyT.cons rfl (fun K hK => ?_) AllReadyT.nil
    (refine step_append_lies _ (by rfl) _ _ _ (by rfl) E 54 i0 _ 5 56 Tryd.underlying31 hi0 hz0 hz1 hz2 rfl (by omega) (.slice ob os.length oc) os.length (ocs os) (by rfl) (HO1.out.alloc _) ⟨W0.heap.size, 0, none⟩ 1 1 [.int .i64 ok, .int .i64 ovk, .int .i64 ovn, .string ovt, .string ot] (by rfl) (by rfl) (new_cells W0.drew _ _) (by simp [Value.oneCell']) (by omega) (by unfold maxLen; omega) (by omega) (by have := hE0.out; simp; omega) (W0.heap.size + 1) (by simp) ?_; intro gg cap7 w7 hown7 hgrow7 hat7 hlt7; have s0 := grown_cell hgrow7 (cell_al _ (cell_dr y2)) HNB.out; have s1 := grown_cell hgrow7 (cell_al _ (cell_dr p0)) HNP.out; have s2 := grown_cell hgrow7 (cell_al _ (cell_dr p1)) HNP.out; have s3 := grown_cell hgrow7 (cell_al _ (cell_dr p2)) HNP.out; have s4 := grown_cell hgrow7 (cell_al _ (cell_dr p3)) HNP.out; have s5 := grown_cell hgrow7 (cell_al _ (cell_dr p4)) HNP.out; have hbx : w7.heap[B]? = w.heap[B]? := (hgrow7.block B (by have := HB.out.size; simp; omega) HNB.out).trans ((Below.heap_alloc _ _ _ (by have := HB.out.size; simp; omega)).trans (HB.out.block B hlt)); have sf2 : w7.frozen? ⟨B, 2, none⟩ = false := (bx3 (hbx.trans HR.out.box)).2.2.2.2.2; have HBX := Lib.hid hbx; clear hbx; have HOW7 := Lib.hid hown7; have HGR7 := Lib.hid hgrow7; clear hown7 hgrow7 hat7 hlt7)
    refine hK.out _ _ (fun _ => ?_) (fun hHeld0 => ?_)
    · (try dsimp only)
      (first | (with_reducible exact ⟨cell_dr y2, cell_dr p0, cell_dr p1, cell_dr p2, cell_dr p3, cell_dr p4⟩) | (exact ⟨cell_al _ (cell_dr y2), cell_al _ (cell_dr p0), cell_al _ (cell_dr p1), cell_al _ (cell_dr p2), cell_al _ (cell_dr p3), cell_al _ (cell_dr p4)⟩) | (exact ⟨s0, s1, s2, s3, s4, s5⟩))
    have hHeld := hHeld0 (by kernel_rfl)
    clear hK K hHeld0
    (try simp only [List.getElem_toArray, List.getElem_cons_zero, List.getElem_cons_succ, Act.put, List.setIfInBounds_toArray, List.set_cons_zero, List.set_cons_succ])
    refine wpAnyT_pure (i := 8) (oi := _) (v := ?_) rfl (by kernel_rfl) (by kernel_rfl) (by kernel_rfl) (by kernel_rfl) (fun _ _ _ h => h) (Or.inl ⟨by rfl, ?_⟩) (fun _ => by assumption) ?_
    rotate_left
    · (intro w hSw; go_simp)
      all_goals (with_reducible rfl)
    (try simp only [List.getElem_toArray, List.getElem_cons_zero, List.getElem_cons_succ, Act.put, List.setIfInBounds_toArray, List.set_cons_zero, List.set_cons_succ])
    refine wpAnyT_pure (i := 9) (oi := _) (v := ?_) rfl (by kernel_rfl) (by kernel_rfl) (by kernel_rfl) (by kernel_rfl) (fun _ _ _ h => h) (Or.inl ⟨by rfl, ?_⟩) (fun _ => by assumption) ?_
    rotate_left
    · (intro w hSw; go_simp)
      all_goals (with_reducible rfl)
    (try simp only [List.getElem_toArray, List.getElem_cons_zero, List.getElem_cons_succ, Act.put, List.setIfInBounds_toArray, List.set_cons_zero, List.set_cons_succ])
    refine wpAnyT_ready (rs := [10]) (by kernel_rfl) (by simp) ?_
    refine AllReadyT.cons rfl (fun K hK => ?_) AllReadyT.nil
    go_simp
    refine hK.out _ _ (noneB_off (by kernel_rfl)) (fun _ => ?_)
    clear hK K
    (try simp only [List.getElem_toArray, List.getElem_cons_zero, List.getElem_cons_succ, Act.put, List.setIfInBounds_toArray, List.set_cons_zero, List.set_cons_succ])
    refine wpAnyT_done (by kernel_rfl) ?_ _
    have hX : ButX B E w w7 := ((ButX.of E HB.out).trans ((ButX.of E (Below.refl _ _).drew).trans (ButX.of E ((Below.refl _ _).alloc (Nat.le_refl _) _)))).trans (ButX.grown HGR7.out (HO1.out.alloc _))
    have hrd := Rdr.put HR.out hX HBX.out hT (.slice (some ⟨gg, 0, none⟩) (os.length + 1) cap7)
    have hX2 := hX.trans (ButX.set w7 B E 2 (.slice (some ⟨gg, 0, none⟩) (os.length + 1) cap7))
    have hOX : (w7.setCell ⟨B, 2, none⟩ (.slice (some ⟨gg, 0, none⟩) (os.length + 1) cap7)).ownsRow E 54 5 (.slice (some ⟨gg, 0, none⟩) (os.length + 1) cap7) (os ++ [(⟨ok, ⟨ovk, ovn, ovt⟩, ot⟩ : Oq)]).length (ocs (os ++ [(⟨ok, ⟨ovk, ovn, ovt⟩, ot⟩ : Oq)])) := by
      rw [List.length_append, ocs_app]
      exact ownsRow_setCell_below HOW7.out hBE _
    have HZ := Lib.hid (And.intro hX2 (And.intro hrd hOX))
    clear hX hrd hX2 hOX
    go_returns
    obtain ⟨z1, z2, z3⟩ := HZ.out
    exact ⟨z1, rfl, ⟨_, z2, z3⟩, by rw [List.length_append]; simp; omega, hBE, Nat.le_trans hE z1.size, hT, hTb.but hOff hBE z1, hOff, hOk⟩
end Go.Proofs.YtdeollmeljaaoaaDoor.rd
/- A chain of things with signs between. -/
namespace Go.Proofs.YtdeollmeljaaoaaDoor.rd
open Go.ChangeShapes Go.WideShapes Go.ChangeAt Go.RowKit Go.Proofs.YtdeollmeljaaoaaDoor.cs
set_option linter.unusedVariables false
set_option linter.unusedSimpArgs false
set_option maxHeartbeats 4000000
set_option maxRecDepth 100000
section
variable {B E : Nat} {a : Option Addr} {n c : Nat} {L : List Tk}
theorem Xs.off_s {w : World} {k : Nat} {os : List Oq} (h : Xs w B E a n c L k os) : B ≠ 4 := by have := h.off.s; omega
theorem Xs.off_c {w : World} {k : Nat} {os : List Oq} (h : Xs w B E a n c L k os) : B ≠ 1 := by have := h.off.c; omega
theorem Xs.kn {w : World} {k : Nat} {os : List Oq} (h : Xs w B E a n c L k os) : k ≤ n ∧ n = L.length := by
  obtain ⟨⟨ov, hr, _⟩, _⟩ := h
  exact ⟨hr.le, len_t hr.row⟩
theorem xmay {w : World} {k : Nat} {os : List Oq} (h : Xs w B E a n c L k os) (s : ByteArray) :
    Calls Tryd.prog 50 #[.pointer (some ⟨B, 0, none⟩), .string s] w fun e w' => e = .returned (.bool (mayB L k s)) ∧ ButX B E w w' ∧ Xs w' B E a n c L (if mayB L k s then k + 1 else k) os := by
  have hh := h
  obtain ⟨⟨ov, hr, ho⟩, _⟩ := h
  refine (may_any w B a n c L k ov hr s).mono ?_
  rintro e w' ⟨rfl, h1, h2⟩
  exact ⟨rfl, h2.to E, hh.go ho h1 h2⟩
abbrev icN (ks : List Nat) : List Value := ks.map fun (q : Nat) => Value.int .i64 (q : Int)
theorem rd_new {w : World} {b : Nat} {xs : List Value} {T : TypeId} (h : w.heap[b]? = some (.cells xs.toArray T (0, 0))) (hx : xs.length ≤ 1000) : Rd w 1 xs.length (.slice (some ⟨b, 0, none⟩) xs.length xs.length) xs := by
  refine ⟨by simp, _, _, rfl, Nat.le_refl _, by unfold maxLen; omega, fun h => (by cases h), fun x hx j u hu => ?_⟩
  obtain rfl := Option.some.inj hx
  rw [Addr.add_lit]
  simp only [World.cell?]
  rw [h]
  simpa using hu
def sgK (L : List Tk) (k : Nat) (ks : List Nat) : Nat := if (signF L k ks).isSome then k + 1 else k
theorem xsign {w : World} {k : Nat} {os : List Oq} (h : Xs w B E a n c L k os) {b : Nat} {ks : List Nat} (hk : w.heap[b]? = some (.cells (icN ks).toArray 3 (0, 0))) (hb : b ≠ B) (h0 : 0 < ks.length) (h9 : ks.length ≤ 9) (hq : ∀ q ∈ ks, q < 11) :
    Calls Tryd.prog 90 #[.pointer (some ⟨B, 0, none⟩), .slice (some ⟨b, 0, none⟩) ks.length ks.length] w fun e w' => e = .returned (.tuple #[.int .i64 (((signF L k ks).getD 0 : Nat) : Int), .bool (signF L k ks).isSome]) ∧ ButX B E w w' ∧ Xs w' B E a n c L (sgK L k ks) os := by
  have hh := h
  obtain ⟨⟨ov, hr, ho⟩, _⟩ := h
  have hrd := rd_new hk (by simp; omega)
  rw [show (icN ks).length = ks.length by simp] at hrd
  refine (sign_any w hh.tb B a n c L k ov hr hh.off_s ks.length _ ks hq h0 hrd (fun x cap e hn => by cases e; exact hb)).mono ?_
  intro e w' hp
  unfold sgK
  cases hs : signF L k ks with
  | none =>
    rw [hs] at hp
    obtain ⟨h2, rfl, h1⟩ := hp
    exact ⟨rfl, h2.to E, hh.go ho h1 h2⟩
  | some q =>
    rw [hs] at hp
    obtain ⟨h2, rfl, h1⟩ := hp
    exact ⟨rfl, h2.to E, hh.go ho h1 h2⟩
end
/-- A function that reads ops as this plain one does, from a place on. -/
def Rt (B E : Nat) (a : Option Addr) (n c : Nat) (L : List Tk) (k0 : Nat) (f : FuncId) (g : R) : Prop := ∀ W k os, k0 ≤ k → Xs W B E a n c L k os → Calls Tryd.prog f #[.pointer (some ⟨B, 0, none⟩)] W (Ex W B E a n c L (g k os))
theorem enters {f : FuncId} {fn : Func} (hf : Tryd.prog.funcs[f]? = some fn) (hname : (fn.name == "runtime.NumGoroutine") = false) (hb : fn.body.isSome = true) (args : Array Value) (w : World) :
    (callFunc f args).run Tryd.prog w = .ok (.enter f args) w := by
  have h1 : ¬ fn.name = "runtime.NumGoroutine" := by simpa using hname
  obtain ⟨c, hb⟩ := Option.isSome_iff_exists.1 hb
  simp [callFunc, hf, h1, hb]
/-- Nothing is read twice. -/
def Up (g : R) : Prop := ∀ k os k' os', g k os = .inr (k', os') → k ≤ k'
theorem put_up (o : Oq) : Up (putF o) := by
  intro k os k' os' h
  unfold putF at h
  split at h
  · cases h
  · cases h
    exact Nat.le_refl _
theorem sign_lt {L : List Tk} {k q : Nat} : ∀ {ks : List Nat}, signF L k ks = some q → k < L.length
  | [], h => by cases h
  | p :: ks, h => by
    unfold signF at h
    split at h
    · rename_i hm
      exact may_lt hm
    · exact sign_lt h
theorem chain_any (w : World) (B E : Nat) (a : Option Addr) (n c : Nat) (L : List Tk) (k0 : Nat) (f : FuncId) (g : R) (he : ∀ args w, (callFunc f args).run Tryd.prog w = .ok (.enter f args) w) (hf : Rt B E a n c L k0 f g) (hu : Up g) (b : Nat) (ks : List Nat) (hk : w.heap[b]? = some (.cells (icN ks).toArray 3 (0, 0))) (hb : b ≠ B) (h0 : 0 < ks.length) (h9 : ks.length ≤ 9) (hq : ∀ q ∈ ks, q < 11) (k : Nat) (os : List Oq) (hk0 : k0 ≤ k) (h : Xs w B E a n c L k os) :
    Calls Tryd.prog 88 #[.pointer (some ⟨B, 0, none⟩), .func (.func f) #[.pointer (some ⟨B, 0, none⟩)] #[], .slice (some ⟨b, 0, none⟩) ks.length ks.length] w (Ex w B E a n c L (chainF L g ks k os)) := by
  have HF := Lib.hid hf
  have HE := Lib.hid he
  have HH := Lib.hid h
  have HU := Lib.hid hu
  have HK : Hid (∀ W, ButX B E w W → W.heap[b]? = some (.cells (icN ks).toArray 3 (0, 0))) := fun W hW => hW.keep hb (by decide) hk
  have HSG : Hid (∀ W k os, ButX B E w W → Xs W B E a n c L k os → Calls Tryd.prog 90 #[.pointer (some ⟨B, 0, none⟩), .slice (some ⟨b, 0, none⟩) ks.length ks.length] W fun e w' => e = .returned (.tuple #[.int .i64 (((signF L k ks).getD 0 : Nat) : Int), .bool (signF L k ks).isSome]) ∧ ButX B E W w' ∧ Xs w' B E a n c L (sgK L k ks) os) := fun W k os hW hx => xsign hx (HK.out W hW) hb h0 h9 hq
  have HPU : Hid (∀ W k os o, Xs W B E a n c L k os → Calls Tryd.prog 91 #[.pointer (some ⟨B, 0, none⟩), opV o] W (Ex W B E a n c L (putF o k os))) := fun W k os o hx => put_any W B E a n c L k os hx o
  obtain ⟨m, hm⟩ : ∃ m, m = ks.length := ⟨_, rfl⟩
  rw [← hm] at HSG ⊢
  have HN : Hid (n = L.length) := h.kn.2
  obtain ⟨r0, hr0⟩ : ∃ r0, r0 = g k os := ⟨_, rfl⟩
  obtain ⟨r, hr⟩ : ∃ r, r = chainF L g ks k os := ⟨_, rfl⟩
  have hq2 : r = bd r0 fun x => loopC L g ks L.length x.1 x.2 := by rw [hr, hr0]; rfl
  rw [← hr]
  have HC0 := HF.out w k os hk0 h
  rw [← hr0] at HC0
  have HC := Lib.hid HC0
  have HU0 : Hid (∀ k' os', r0 = .inr (k', os') → k ≤ k') := fun k' os' e => hu k os k' os' (by rw [← hr0]; exact e)
  clear hf he h hu hk hm hq h0 h9 hr hr0 HC0 HK HH
  go_enter Tryd.func88, Tryd.ntmps88
  go_wp2_with fail
  rw [HE.out, Oper.upon_enter]
  refine HC.out.mono ?_
  rintro e w1 ⟨hX1, hr1⟩
  rcases r0 with f0 | ⟨k1, os1⟩
  · obtain rfl : e = flt f0.1 f0.2 := hr1
    obtain rfl : r = .inl f0 := hq2
    exact ⟨rfl, hX1, rfl⟩
  · obtain ⟨rfl, hx1⟩ := hr1
    have hk1 := HU0.out k1 os1 rfl
    have hq3 : r = loopC L g ks L.length k1 os1 := hq2
    clear hq2 HU0 HC
    have HX1 := Lib.hid hX1
    have HS1 := Lib.hid hx1
    have HQ := Lib.hid hq3
    clear hX1 hx1 hq3
    go_wp2_with fail
    refine (HSG.out _ _ _ HX1.out HS1.out).mono ?_
    rintro e w2 ⟨rfl, hb2, hx2⟩
    have HX2 := Lib.hid (HX1.out.trans hb2)
    have HS2 := Lib.hid hx2
    clear hb2 hx2 HX1 HS1
    have HKK : Hid (k0 ≤ k1) := Nat.le_trans hk0 hk1
    clear hk0 hk1
    obtain ⟨s, hs⟩ : ∃ s, s = signF L k1 ks := ⟨_, rfl⟩
    rw [← hs]
    have HSS := Lib.hid hs
    clear hs
    go_wp2_with fail
    go_loopg [6, 7] L.length (fun u t6 t7 wr => ∃ (k1 : Nat) (os1 : List Oq) (s : Option Nat), t6 = .int .i64 ((s.getD 0 : Nat) : Int) ∧ t7 = .bool s.isSome ∧ Hid (s = signF L k1 ks) ∧ Hid (r = loopC L g ks u k1 os1) ∧ Hid (n ≤ k1 + u) ∧ Hid (k0 ≤ k1) ∧ Hid (ButX B E w wr) ∧ Hid (Xs wr B E a n c L (sgK L k1 ks) os1))
    case atStart => exact ⟨k1, os1, s, rfl, rfl, HSS, HQ, (by have := HN.out; show _ ≤ _; omega), HKK, HX2, HS2⟩
    case round =>
      obtain ⟨k2, os2, s2, rfl, rfl, HS, HQ2, HF2, HK2, HB2, HXS⟩ := hrel
      cases s2 with
      | none =>
        have hr : r = .inr (k2, os2) := by
          have h1 := HQ2.out
          cases gk with
          | zero => exact h1
          | succ gk =>
            unfold loopC at h1
            rw [← HS.out] at h1
            exact h1
        have hx : Xs wr B E a n c L k2 os2 := by
          have := HXS.out
          unfold sgK at this
          rwa [← HS.out] at this
        subst hr
        have HX := Lib.hid hx
        clear hx
        go_wp2_with fail
        go_returns
        exact ⟨HB2.out, rfl, HX.out⟩
      | some q =>
        have hlt : k2 < L.length := sign_lt HS.out.symm
        have hx : Xs wr B E a n c L (k2 + 1) os2 := by
          have := HXS.out
          unfold sgK at this
          rwa [← HS.out] at this
        obtain ⟨u, rfl⟩ : ∃ u', gk = u' + 1 := ⟨gk - 1, by have := HF2.out; have := HN.out; omega⟩
        have hr : r = bd (g (k2 + 1) os2) fun x => bd (putF (opO q) x.1 x.2) fun y => loopC L g ks u y.1 y.2 := by
          have h1 := HQ2.out
          unfold loopC at h1
          rw [← HS.out] at h1
          exact h1
        have HC0 := HF.out wr (k2 + 1) os2 (by have := HK2.out; omega) hx
        obtain ⟨r1, hr1⟩ : ∃ r1, r1 = g (k2 + 1) os2 := ⟨_, rfl⟩
        rw [← hr1] at HC0 hr
        have HU1 : Hid (∀ k' os', r1 = .inr (k', os') → k2 + 1 ≤ k') := fun k' os' e => HU.out _ os2 k' os' (by rw [← hr1]; exact e)
        have HC := Lib.hid HC0
        have HR := Lib.hid hr
        clear HC0 hr hr1 hx HQ2 HXS HS
        go_wp2_with fail
        rw [HE.out, Oper.upon_enter]
        refine HC.out.mono ?_
        rintro e w3 ⟨hX3, hr3⟩
        have HX3 := Lib.hid (HB2.out.trans hX3)
        clear hX3 HC
        rcases r1 with f0 | ⟨k3, os3⟩
        · obtain rfl : e = flt f0.1 f0.2 := hr3
          obtain rfl : r = .inl f0 := HR.out
          exact ⟨rfl, HX3.out, rfl⟩
        · obtain ⟨rfl, hx3⟩ := hr3
          have HR3 : Hid (r = bd (putF (opO q) k3 os3) fun y => loopC L g ks u y.1 y.2) := HR.out
          have HP := Lib.hid (HPU.out w3 k3 os3 (opO q) hx3)
          have HU3 : Hid (k2 + 1 ≤ k3) := HU1.out _ _ rfl
          obtain ⟨r4, hr4⟩ : ∃ r4, r4 = putF (opO q) k3 os3 := ⟨_, rfl⟩
          have HU4 : Hid (∀ k' os', r4 = .inr (k', os') → k3 ≤ k') := fun k' os' e => put_up (opO q) k3 os3 k' os' (by rw [← hr4]; exact e)
          rw [← hr4] at HR3 HP
          clear hr4 hx3 HR HU1
          go_wp2_with fail
          refine HP.out.mono ?_
          rintro e w4 ⟨hX4, hr5⟩
          have HX4 := Lib.hid (HX3.out.trans hX4)
          clear hX4 HP
          rcases r4 with f0 | ⟨k4, os4⟩
          · obtain rfl : e = flt f0.1 f0.2 := hr5
            obtain rfl : r = .inl f0 := HR3.out
            exact ⟨rfl, HX4.out, rfl⟩
          · obtain ⟨rfl, hx4⟩ := hr5
            have HR4 : Hid (r = loopC L g ks u k4 os4) := HR3.out
            have HU5 : Hid (k3 ≤ k4) := HU4.out _ _ rfl
            have HSG4 := Lib.hid (HSG.out w4 k4 os4 HX4.out hx4)
            clear hx4 HR3 HU4
            go_wp2_with fail
            refine HSG4.out.mono ?_
            rintro e w5 ⟨rfl, hb5, hx5⟩
            have HX5 := Lib.hid (HX4.out.trans hb5)
            have HS5 := Lib.hid hx5
            clear hb5 hx5 HSG4
            obtain ⟨s5, hs5⟩ : ∃ s, s = signF L k4 ks := ⟨_, rfl⟩
            rw [← hs5]
            have HSS5 := Lib.hid hs5
            clear hs5
            go_wp2_with fail
            go_roundg u
            case measure => exact Nat.lt_succ_self u
            case rel => exact ⟨k4, os4, s5, rfl, rfl, HSS5, HR4, (by have := HF2.out; have := HU3.out; have := HU5.out; show _ ≤ _; omega), (by have := HK2.out; have := HU3.out; have := HU5.out; show _ ≤ _; omega), HX5, HS5⟩
end Go.Proofs.YtdeollmeljaaoaaDoor.rd
