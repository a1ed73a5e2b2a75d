/- A key and a kid put into a page that the call owns. -/
import Derived.Test.YtahammkjkfdmhaaTf
import Derived.Test.YtahammkjkfdmhaaTh
namespace Go.Proofs.Ytahammkjkfdmhaa
open Go.ChangeShapes Go.WideShapes Go.ChangeAt Go.RowKit
set_option linter.unusedVariables false
set_option linter.unusedSimpArgs false
set_option maxHeartbeats 4000000
set_option maxRecDepth 100000
/-- What is never written stays, and is never written from then on; new blocks come. -/
structure Fr (own own' : Tag) (w w' : World) : Prop where
  os : w'.os = w.os
  tape : w'.tape = w.tape
  output : w'.output = w.output
  size : w.heap.size ≤ w'.heap.size
  block : ∀ b, b < w.heap.size → own b = 0 → w'.heap[b]? = w.heap[b]?
  tag : ∀ b, b < w.heap.size → own' b = own b
theorem Fr.refl (own : Tag) (w : World) : Fr own own w w := ⟨rfl, rfl, rfl, Nat.le_refl _, fun _ _ _ => rfl, fun _ _ => rfl⟩
theorem Fr.trans {o1 o2 o3 : Tag} {w1 w2 w3 : World} (h : Fr o1 o2 w1 w2) (g : Fr o2 o3 w2 w3) : Fr o1 o3 w1 w3 :=
  ⟨g.os.trans h.os, g.tape.trans h.tape, g.output.trans h.output, Nat.le_trans h.size g.size, fun b hb h0 => (g.block b (Nat.lt_of_lt_of_le hb h.size) (by rw [h.tag b hb]; exact h0)).trans (h.block b hb h0),
    fun b hb => (g.tag b (Nat.lt_of_lt_of_le hb h.size)).trans (h.tag b hb)⟩
theorem Fr.of_below {own : Tag} {w w' : World} (h : Below w.heap.size w w') : Fr own own w w' := ⟨h.os, h.tape, h.output, h.size, fun b hb _ => h.block b hb, fun _ _ => rfl⟩
theorem Fr.below {own own' : Tag} {w w' : World} {B : Nat} (h : Fr own own' w w') (hB : B ≤ w.heap.size) (h0 : ∀ b, b < B → own b = 0) : Below B w w' := ⟨h.os, h.tape, h.output, h.size, fun b hb => h.block b (Nat.lt_of_lt_of_le hb hB) (h0 b hb)⟩
theorem RB.fr {own own' : Tag} {w w' : World} {B : Nat} {v : Value} {l : Key} (h : RB w (Fz B own) v l) (hf : Fr own own' w w') : RB w' (Fz B own') v l := h.to fun b hb hz => ⟨hf.block b hb hz.2, hz.1, (hf.tag b hb).trans hz.2⟩
theorem PgsO.loose {w : World} {B : Nat} {own : Tag} {v : Value} {ps : List Pg} {tight : Nat → Prop} {vs : List Value} (h : PgsO w B own v ps tight vs) : PgsO w B own v ps (fun _ => False) vs :=
  ⟨h.row, h.tag, fun i p hp => (h.pg i p hp).to (fun q => q.elim) (fun _ _ => rfl) fun _ _ _ _ => ⟨rfl, rfl⟩⟩
/-- One page replaced. -/
theorem PgsO.repl {w w' : World} {B : Nat} {own own' : Tag} {v : Value} {ps : List Pg} {tight : Nat → Prop} {vs vs' : List Value} {i : Nat} {p' : Pg} (h : PgsO w B own v ps tight vs) (hi : i < ps.length)
    (hrow : w'.ownsRow B 43 5 v ps.length vs') (hvs : ∀ j, j < i * 5 ∨ i * 5 + 5 ≤ j → vs'[j]? = vs[j]?)
    (hold : ∀ b, b < w.heap.size → own b ≠ 1 → own b ≠ 2 * i + 2 → own b ≠ 2 * i + 3 → w'.heap[b]? = w.heap[b]?) (htag : ∀ b, b < w.heap.size → own' b = own b)
    (hp : PgO w' B own' False vs' i p') : PgsO w' B own' v (ps.set i p') (fun _ => False) vs' := by
  refine ⟨by rw [List.length_set]; exact hrow, fun g hg => by rw [htag g (h.row.lt g hg).2]; exact h.tag g hg, fun j q hq => ?_⟩
  by_cases hj : j = i
  · subst hj
    rw [List.getElem?_set_self hi] at hq
    cases hq
    exact hp
  · rw [List.getElem?_set_ne (by omega)] at hq
    refine (h.pg j q hq).to (fun q => q.elim) (fun t ht => hvs _ (by omega)) fun b hb hB hor => ⟨hold b hb (by omega) (by omega) (by omega), htag b hb⟩
theorem insAt_at {α : Type} (l : List α) (i : Nat) (x : α) (hi : i ≤ l.length) (j : Nat) : (insAt l i x)[j]? = if j < i then l[j]? else if j = i then some x else l[j - 1]? := by
  unfold insAt
  by_cases h1 : j < i
  · rw [if_pos h1, List.getElem?_append_left (by rw [List.length_take]; omega), List.getElem?_take, if_pos h1]
  · rw [if_neg h1, List.getElem?_append_right (by rw [List.length_take]; omega), List.length_take, Nat.min_eq_left hi]
    by_cases h2 : j = i
    · subst h2
      simp
    · rw [if_neg h2, show j - i = (j - 1 - i) + 1 by omega, List.getElem?_cons_succ, List.getElem?_drop]
      congr 1
      omega
theorem KsAt.ins {w : World} {ok : Nat → Prop} {vs : List Value} {ks : List Key} {i : Nat} {x : Value} {k : Key} (h : KsAt w ok vs ks ks.length) (hl : vs.length = ks.length) (hi : i ≤ ks.length) (hx : RB w ok x k) : KsAt w ok (insAt vs i x) (insAt ks i k) (insAt ks i k).length := fun j q hj hq => by
  rw [insAt_at _ _ _ (by omega)]
  rw [insAt_at _ _ _ hi] at hq
  rw [insAt_len] at hj
  by_cases h1 : j < i
  · rw [if_pos h1] at hq ⊢
    exact h j q (by omega) hq
  · rw [if_neg h1] at hq ⊢
    by_cases h2 : j = i
    · rw [if_pos h2] at hq ⊢
      cases hq
      exact ⟨x, rfl, hx⟩
    · rw [if_neg h2] at hq ⊢
      exact h (j - 1) q (by omega) hq
theorem KsAt.one {w : World} {ok : Nat → Prop} {vs : List Value} {ks : List Key} (h : KsAt w ok vs ks ks.length) (hl : vs.length = ks.length) : ∀ u ∈ vs, u.oneCell' = true := by
  intro u hu
  obtain ⟨j, hj, rfl⟩ := List.getElem_of_mem hu
  obtain ⟨x, h1, h2⟩ := h j ks[j] (by omega) (List.getElem?_eq_getElem (by omega))
  rw [List.getElem?_eq_getElem hj] at h1
  cases h1
  exact h2.cell
theorem ic_ins (l : List Int) (i : Nat) (x : Int) : insAt (ic l) i (.int .i64 x) = ic (insAt l i x) := by simp [insAt, ic]
theorem set_pg {w : World} {B e n cap P : Nat} {vs : List Value} (h : w.ownsRow B e 5 (.slice (some ⟨P, 0, none⟩) n cap) n vs) (o : Nat) (u : Value) :
    (w.setCell ⟨P, o, none⟩ u).ownsRow B e 5 (.slice (some ⟨P, 0, none⟩) n cap) n (vs.set o u) := (h.stored o u).1
/-- The keys of a page replaced by a longer row. -/
theorem put_keys {w w2 : World} {B : Nat} {own : Tag} {P n cap : Nat} {ps : List Pg} {tight : Nat → Prop} {vs ks : List Value} {i at_ : Nat} {p : Pg} {k d g x k' : Value} {key : Key} {o : Obj}
    (h : PgsO w B own (.slice (some ⟨P, 0, none⟩) n cap) ps tight vs) (hn : n = ps.length) (hp : ps[i]? = some p) (hx : RB w (Fz B own) x key)
    (c0 : vs[i * 5]? = some (.bool p.leaf)) (c1 : vs[i * 5 + 1]? = some k) (c2 : vs[i * 5 + 2]? = some d) (c3 : vs[i * 5 + 3]? = some g) (c4 : vs[i * 5 + 4]? = some (.int .i64 p.next))
    (h1 : w.ownsRow B 25 1 k p.keys.length ks) (h2 : ∀ g, k.ownBlock = some g → own g = 2 * i + 2) (h4 : KsAt w (Fz B own) ks p.keys p.keys.length)
    (h5 : w.ownsRow B 3 1 d p.kids.length (ic p.kids)) (h6 : ∀ g, d.ownBlock = some g → own g = 2 * i + 3) (h7 : RB w (Fz B own) g p.high) (hat : at_ ≤ p.keys.length) (hB : B ≤ w.heap.size)
    (hins : InsIs (w.alloc o) B 25 k p.keys.length at_ ks x (.returned k') w2) :
    ∃ own', PgsO (w2.setCell ⟨P, i * 5 + 1, none⟩ k') B own' (.slice (some ⟨P, 0, none⟩) n cap) (ps.set i ⟨p.leaf, insAt p.keys at_ key, p.kids, p.high, p.next⟩) (fun _ => False) (vs.set (i * 5 + 1) k') ∧ Fr own own' w (w2.setCell ⟨P, i * 5 + 1, none⟩ k') := by
  obtain ⟨v', e, r1, r2, r3⟩ := hins
  simp only [Ending.returned.injEq] at e
  subst e
  have hi : i < ps.length := (List.getElem?_eq_some_iff.1 hp).1
  have hP : own P = 1 := h.tag P rfl
  have hPl : P < w.heap.size := (h.row.lt P rfl).2
  have hPB : B ≤ P := (h.row.lt P rfl).1
  have hg : w.grownBy w2 k.ownBlock := ((World.grownBy_alloc w o _)).trans r2
  have hrl := h.row.1
  -- what is not the keys' own row lies as it lay
  have far : ∀ b, b < w.heap.size → own b ≠ 2 * i + 2 → w2.heap[b]? = w.heap[b]? := fun b hb hne => hg.block b hb (fun e => hne (h2 b e.symm))
  have far3 : ∀ b, b < w.heap.size → own b ≠ 2 * i + 2 → own b ≠ 1 → (w2.setCell ⟨P, i * 5 + 1, none⟩ k').heap[b]? = w.heap[b]? := fun b hb hne h1 =>
    (Below.heap_setCell _ _ _ _ (by show b ≠ P; rintro rfl; exact h1 hP)).trans (far b hb hne)
  have hnew : ∀ b, k'.ownBlock = some b → b ≠ P := fun b e hbP => by
    rcases r3 with r3 | ⟨q, r3, r4⟩
    · rw [r3] at e
      have := h2 b e
      rw [hbP, hP] at this
      omega
    · rw [e] at r3
      cases r3
      simp at r4
      omega
  obtain ⟨own', hown'⟩ : ∃ own' : Tag, own' = fun b => if b < w.heap.size then own b else if k'.ownBlock = some b then 2 * i + 2 else 0 := ⟨_, rfl⟩
  have ht : ∀ b, b < w.heap.size → own' b = own b := fun b hb => by rw [hown']; exact if_pos hb
  have z : ∀ b, b < w.heap.size → Fz B own b → (w2.setCell ⟨P, i * 5 + 1, none⟩ k').heap[b]? = w.heap[b]? ∧ Fz B own' b := fun b hb hz => ⟨far3 b hb (by rw [hz.2]; omega) (by rw [hz.2]; omega), hz.1, (ht b hb).trans hz.2⟩
  have hrow2 : w2.ownsRow B 43 5 (.slice (some ⟨P, 0, none⟩) n cap) ps.length vs := own_far h.row fun b hb => by
    have hb' : P = b := by simpa [Value.ownBlock] using hb
    subst hb'
    exact far P hPl (by rw [hP]; omega)
  refine ⟨own', ?_, ⟨hg.os, hg.tape, hg.output, Nat.le_trans hg.size (by simp), fun b hb h0 => far3 b hb (by rw [h0]; omega) (by rw [h0]; omega), ht⟩⟩
  subst hn
  refine h.repl hi (set_pg hrow2 _ _) (fun j hj => List.getElem?_set_ne (by omega)) (fun b hb q1 q2 q3 => far3 b hb q2 q1) ht ?_
  refine ⟨k', d, g, insAt ks at_ x, ?_, ?_, ?_, ?_, ?_, ?_, ?_, fun q => q.elim, ?_, ?_, ?_, h7.to z⟩
  · rw [List.getElem?_set_ne (by omega)]; exact c0
  · rw [List.getElem?_set_self (by omega)]
  · rw [List.getElem?_set_ne (by omega)]; exact c2
  · rw [List.getElem?_set_ne (by omega)]; exact c3
  · rw [List.getElem?_set_ne (by omega)]; exact c4
  · show World.ownsRow _ _ _ _ _ (insAt p.keys at_ key).length _
    rw [insAt_len]
    exact own_far r1 fun b hb => Below.heap_setCell _ _ _ _ (hnew b hb)
  · intro b hb
    rw [hown']
    simp only
    by_cases hlt : b < w.heap.size
    · rw [if_pos hlt]
      rcases r3 with r3 | ⟨q, r3, r4⟩
      · rw [r3] at hb; exact h2 b hb
      · rw [hb] at r3
        cases r3
        simp at r4
        omega
    · rw [if_neg hlt, if_pos hb]
  · exact (h4.to z).ins (by have := h1.1; omega) hat (hx.to z)
  · exact own_far h5 fun b hb => far3 b (h5.lt b hb).2 (by rw [h6 b hb]; omega) (by rw [h6 b hb]; omega)
  · intro b hb
    rw [ht b (h5.lt b hb).2]
    exact h6 b hb
/-- The kids of a page replaced by a longer row. -/
theorem put_kids {w w2 : World} {B : Nat} {own : Tag} {P n cap : Nat} {ps : List Pg} {tight : Nat → Prop} {vs ks : List Value} {i at_ : Nat} {p : Pg} {k d g d' : Value} {kid : Int} {o : Obj}
    (h : PgsO w B own (.slice (some ⟨P, 0, none⟩) n cap) ps tight vs) (hn : n = ps.length) (hp : ps[i]? = some p)
    (c0 : vs[i * 5]? = some (.bool p.leaf)) (c1 : vs[i * 5 + 1]? = some k) (c2 : vs[i * 5 + 2]? = some d) (c3 : vs[i * 5 + 3]? = some g) (c4 : vs[i * 5 + 4]? = some (.int .i64 p.next))
    (h1 : w.ownsRow B 25 1 k p.keys.length ks) (h2 : ∀ g, k.ownBlock = some g → own g = 2 * i + 2) (h4 : KsAt w (Fz B own) ks p.keys p.keys.length)
    (h5 : w.ownsRow B 3 1 d p.kids.length (ic p.kids)) (h6 : ∀ g, d.ownBlock = some g → own g = 2 * i + 3) (h7 : RB w (Fz B own) g p.high) (hB : B ≤ w.heap.size)
    (hins : InsIs (w.alloc o) B 3 d p.kids.length at_ (ic p.kids) (.int .i64 kid) (.returned d') w2) :
    ∃ own', PgsO (w2.setCell ⟨P, i * 5 + 2, none⟩ d') B own' (.slice (some ⟨P, 0, none⟩) n cap) (ps.set i ⟨p.leaf, p.keys, insAt p.kids at_ kid, p.high, p.next⟩) (fun _ => False) (vs.set (i * 5 + 2) d') ∧ Fr own own' w (w2.setCell ⟨P, i * 5 + 2, none⟩ d') := by
  obtain ⟨v', e, r1, r2, r3⟩ := hins
  simp only [Ending.returned.injEq] at e
  subst e
  have hi : i < ps.length := (List.getElem?_eq_some_iff.1 hp).1
  have hP : own P = 1 := h.tag P rfl
  have hPl : P < w.heap.size := (h.row.lt P rfl).2
  have hg : w.grownBy w2 d.ownBlock := ((World.grownBy_alloc w o _)).trans r2
  have hrl := h.row.1
  have far : ∀ b, b < w.heap.size → own b ≠ 2 * i + 3 → w2.heap[b]? = w.heap[b]? := fun b hb hne => hg.block b hb (fun e => hne (h6 b e.symm))
  have far3 : ∀ b, b < w.heap.size → own b ≠ 2 * i + 3 → own b ≠ 1 → (w2.setCell ⟨P, i * 5 + 2, none⟩ d').heap[b]? = w.heap[b]? := fun b hb hne h1 =>
    (Below.heap_setCell _ _ _ _ (by show b ≠ P; rintro rfl; exact h1 hP)).trans (far b hb hne)
  have hnew : ∀ b, d'.ownBlock = some b → b ≠ P := fun b e hbP => by
    rcases r3 with r3 | ⟨q, r3, r4⟩
    · rw [r3] at e
      have := h6 b e
      rw [hbP, hP] at this
      omega
    · rw [e] at r3
      cases r3
      simp at r4
      omega
  obtain ⟨own', hown'⟩ : ∃ own' : Tag, own' = fun b => if b < w.heap.size then own b else if d'.ownBlock = some b then 2 * i + 3 else 0 := ⟨_, rfl⟩
  have ht : ∀ b, b < w.heap.size → own' b = own b := fun b hb => by rw [hown']; exact if_pos hb
  have z : ∀ b, b < w.heap.size → Fz B own b → (w2.setCell ⟨P, i * 5 + 2, none⟩ d').heap[b]? = w.heap[b]? ∧ Fz B own' b := fun b hb hz => ⟨far3 b hb (by rw [hz.2]; omega) (by rw [hz.2]; omega), hz.1, (ht b hb).trans hz.2⟩
  have hrow2 : w2.ownsRow B 43 5 (.slice (some ⟨P, 0, none⟩) n cap) ps.length vs := own_far h.row fun b hb => by
    have hb' : P = b := by simpa [Value.ownBlock] using hb
    subst hb'
    exact far P hPl (by rw [hP]; omega)
  refine ⟨own', ?_, ⟨hg.os, hg.tape, hg.output, Nat.le_trans hg.size (by simp), fun b hb h0 => far3 b hb (by rw [h0]; omega) (by rw [h0]; omega), ht⟩⟩
  subst hn
  refine h.repl hi (set_pg hrow2 _ _) (fun j hj => List.getElem?_set_ne (by omega)) (fun b hb q1 q2 q3 => far3 b hb q3 q1) ht ?_
  refine ⟨k, d', g, ks, ?_, ?_, ?_, ?_, ?_, ?_, ?_, fun q => q.elim, h4.to z, ?_, ?_, h7.to z⟩
  · rw [List.getElem?_set_ne (by omega)]; exact c0
  · rw [List.getElem?_set_ne (by omega)]; exact c1
  · rw [List.getElem?_set_self (by omega)]
  · rw [List.getElem?_set_ne (by omega)]; exact c3
  · rw [List.getElem?_set_ne (by omega)]; exact c4
  · exact own_far h1 fun b hb => far3 b (h1.lt b hb).2 (by rw [h2 b hb]; omega) (by rw [h2 b hb]; omega)
  · intro b hb
    rw [ht b (h1.lt b hb).2]
    exact h2 b hb
  · show World.ownsRow _ _ _ _ _ (insAt p.kids at_ kid).length (ic (insAt p.kids at_ kid))
    rw [insAt_len, ← ic_ins]
    exact own_far r1 fun b hb => Below.heap_setCell _ _ _ _ (hnew b hb)
  · intro b hb
    rw [hown']
    simp only
    by_cases hlt : b < w.heap.size
    · rw [if_pos hlt]
      rcases r3 with r3 | ⟨q, r3, r4⟩
      · rw [r3] at hb; exact h6 b hb
      · rw [hb] at r3
        cases r3
        simp at r4
        omega
    · rw [if_neg hlt, if_pos hb]
/-- What putting a key and a kid into a page leaves. -/
def PutIs (w : World) (B : Nat) (own : Tag) (v : Value) (ps : List Pg) (e : Ending) (w' : World) : Prop := (∃ u, e = .returned u) ∧ ∃ own' vs', PgsO w' B own' v ps (fun _ => False) vs' ∧ Fr own own' w w'
theorem rk_own {w : World} {B e : Nat} {ok : Nat → Prop} {k : Value} {ks : List Value} {keys : List Key} (h : w.ownsRow B e 1 k keys.length ks) (hk : KsAt w ok ks keys keys.length) : RK w (fun _ => True) k keys :=
  ⟨ks, Rd.own h, fun _ _ _ _ _ => trivial, fun j q hq => by
    obtain ⟨x, h1, h2⟩ := hk j q (List.getElem?_eq_some_iff.1 hq).1 hq
    exact ⟨x, h1, h2.1, fun _ _ _ _ _ => trivial⟩⟩
theorem rise_lb {key : Key} {keys : List Key} (hr : RiseK keys) (hno : hasK key keys = false) : cntK key keys = lbK key keys := by rw [cnt_lb hr, hno]; rfl
/-- The five cells of a page. -/
theorem pg_cells {w : World} {B e n cap P : Nat} {vs : List Value} (h : w.ownsRow B e 5 (.slice (some ⟨P, 0, none⟩) n cap) n vs) {o : Nat} {u : Value} (hu : vs[o]? = some u) : w.cell? ⟨P, o, none⟩ = some u ∧ w.frozen? ⟨P, o, none⟩ = false :=
  ⟨(h.cellAt _ (by have := (List.getElem?_eq_some_iff.1 hu).1; have := h.1; omega)).trans hu, h.frozenAt _⟩
theorem cell_set_off {w : World} {P o o' : Nat} {u v : Value} (h : w.cell? ⟨P, o, none⟩ = some v) (hne : o' ≠ o := by omega) : (w.setCell ⟨P, o', none⟩ u).cell? ⟨P, o, none⟩ = some v :=
  (World.cell?_setCell_other _ _ _ _ (by intro e; simp only [Addr.mk.injEq] at e; omega)).trans h
/-- The kids' half: what the call wants, and what it leaves. -/
theorem kids_step {w : World} {B : Nat} {own : Tag} {P cap n : Nat} {ps : List Pg} {vs : List Value} {i at_ : Nat} {p : Pg} {kid : Int} {d : Value} (h : PgsO w B own (.slice (some ⟨P, 0, none⟩) n cap) ps (fun _ => False) vs) (hp : ps[i]? = some p)
    (hd : w.cell? ⟨P, i * 5 + 2, none⟩ = some d) (hat : at_ ≤ p.kids.length) (hkd : p.kids.length ≤ 1000) (hB : B ≤ w.heap.size) (hn : n = ps.length := by simp) :
    Calls Try.prog 34 #[d, .int .i64 (at_ : Int), .slice (some ⟨w.heap.size, 0, none⟩) 1 1] (w.alloc (.cells #[.int .i64 kid] 3)) (InsIs (w.alloc (.cells #[.int .i64 kid] 3)) B 3 d p.kids.length at_ (ic p.kids) (.int .i64 kid)) ∧
    (∀ w2 d', InsIs (w.alloc (.cells #[.int .i64 kid] 3)) B 3 d p.kids.length at_ (ic p.kids) (.int .i64 kid) (.returned d') w2 →
      (∃ own' vs', PgsO (w2.setCell ⟨P, i * 5 + 2, none⟩ d') B own' (.slice (some ⟨P, 0, none⟩) n cap) (ps.set i ⟨p.leaf, p.keys, insAt p.kids at_ kid, p.high, p.next⟩) (fun _ => False) vs' ∧ Fr own own' w (w2.setCell ⟨P, i * 5 + 2, none⟩ d')) ∧
      w2.heap[P]? = w.heap[P]? ∧ ∃ a c, d' = .slice a (p.kids.length + 1) c) ∧ True := by
  subst hn
  obtain ⟨k, d0, g, ks, c0, c1, c2, c3, c4, h1, h2, -, h4, h5, h6, h7⟩ := h.pg i p hp
  have e := (pg_cells h.row c2).1
  rw [hd] at e
  cases e
  have hPw : P < w.heap.size := (h.row.lt P rfl).2
  have hPt : own P = 1 := h.tag P rfl
  have hnew : (w.alloc (.cells #[.int .i64 kid] 3)).heap[w.heap.size]? = some (.cells #[.int .i64 kid] 3 (0, 0)) := new0 _ _
  refine ⟨insI_any (w.alloc (.cells #[.int .i64 kid] 3)) B p.kids.length at_ d (ic p.kids) (.int .i64 kid) w.heap.size (own_below h5 ((Below.refl _ _).alloc (Nat.le_refl _) _)) (by simp; omega) hkd hat hnew (fun e => by have := (h5.lt _ e).2; omega) rfl (ic_one _), fun w2 d' hins => ?_, trivial⟩
  obtain ⟨own', q1, q2⟩ := put_kids h rfl hp c0 c1 c2 c3 c4 h1 h2 h4 h5 h6 h7 hB hins
  obtain ⟨v', e, r1, r2, r3⟩ := hins
  cases e
  refine ⟨⟨own', _, q1, q2⟩, (((World.grownBy_alloc w _ _)).trans r2).block P hPw (fun e => by have := h6 P e.symm; omega), ?_⟩
  obtain ⟨_, a, c, e, _⟩ := Rd.own r1
  exact ⟨a, c, e⟩
theorem put_any2 (w : World) (B : Nat) (own : Tag) (P n cap : Nat) (ps : List Pg) (tight : Nat → Prop) (vs : List Value) (i : Nat) (kv : Value) (key : Key) (kid : Int) (p : Pg)
    (h : PgsO w B own (.slice (some ⟨P, 0, none⟩) n cap) ps tight vs) (hn : n = ps.length) (hp : ps[i]? = some p) (hx : RB w (Fz B own) kv key) (hr : RiseK p.keys) (hno : hasK key p.keys = false) (hks : p.keys.length ≤ 100)
    (hkd : p.kids.length = p.keys.length + if p.leaf then 0 else 1) (hB : B ≤ w.heap.size) :
    Calls Try.prog 16 #[.pointer (some ⟨P, i * 5, none⟩), kv, .int .i64 kid] w
      (PutIs w B own (.slice (some ⟨P, 0, none⟩) n cap) (ps.set i ⟨p.leaf, insAt p.keys (cntK key p.keys) key, insAt p.kids (cntK key p.keys + if p.leaf then 0 else 1) kid, p.high, p.next⟩)) := by
  subst hn
  obtain ⟨ax, cx, rfl⟩ := hx.sh
  obtain ⟨nx, hnx⟩ : ∃ n, n = key.length := ⟨_, rfl⟩
  rw [← hnx] at hx ⊢
  obtain ⟨k, d, g, ks, c0, c1, c2, c3, c4, h1, h2, -, h4, h5, h6, h7⟩ := h.pg i p hp
  obtain ⟨leaf, keys, kids, high, next⟩ := p
  simp only at c0 c4 h1 h4 h5 h7 hr hno hks hkd ⊢
  rw [rise_lb hr hno]
  have hs := srch_any w (fun _ => True) (Fz B own) k (.slice ax nx cx) keys key (rk_own h1 h4) hx hr (by omega)
  rw [hno] at hs
  obtain ⟨m, hm⟩ : ∃ m, m = keys.length := ⟨_, rfl⟩
  obtain ⟨md, hmd⟩ : ∃ m, m = kids.length := ⟨_, rfl⟩
  obtain ⟨at_, hat⟩ : ∃ a, a = lbK key keys := ⟨_, rfl⟩
  have hle : at_ ≤ keys.length := by rw [hat]; exact lbK_le _ _
  rw [← hat] at hs ⊢
  have hnew : (w.alloc (.cells #[.slice ax nx cx] 25)).heap[w.heap.size]? = some (.cells #[.slice ax nx cx] 25 (0, 0)) := new0 _ _
  have hkl := h1.1
  have hik := insK_any (w.alloc (.cells #[.slice ax nx cx] 25)) B keys.length at_ k ks (.slice ax nx cx) w.heap.size (own_below h1 ((Below.refl _ _).alloc (Nat.le_refl _) _)) (by simp; omega) (by omega) hle hnew (fun e => by have := (h1.lt _ e).2; omega) hx.cell (h4.one (by omega))
  obtain ⟨ak, ck, rfl⟩ : ∃ a c, k = .slice a m c := by obtain ⟨_, a, c, e, _⟩ := Rd.own h1; exact ⟨a, c, by rw [hm]; exact e⟩
  obtain ⟨ad, cd, rfl⟩ : ∃ a c, d = .slice a md c := by obtain ⟨_, a, c, e, _⟩ := Rd.own h5; exact ⟨a, c, by rw [hmd]; exact e⟩
  have hkk : Hid (∀ w2 k', InsIs (w.alloc (.cells #[.slice ax nx cx] 25)) B 25 (.slice ak m ck) keys.length at_ ks (.slice ax nx cx) (.returned k') w2 →
      ∃ own' vs', PgsO (w2.setCell ⟨P, i * 5 + 1, none⟩ k') B own' (.slice (some ⟨P, 0, none⟩) ps.length cap) (ps.set i ⟨leaf, insAt keys at_ key, kids, high, next⟩) (fun _ => False) vs' ∧ Fr own own' w (w2.setCell ⟨P, i * 5 + 1, none⟩ k')) := fun w2 k' hins => by
    obtain ⟨own', q1, q2⟩ := put_keys (p := ⟨leaf, keys, kids, high, next⟩) (key := key) h rfl hp hx c0 c1 c2 c3 c4 h1 h2 h4 h5 h6 h7 hle hB hins
    exact ⟨own', _, q1, q2⟩
  obtain ⟨q0, -⟩ := pg_cells h.row c0
  obtain ⟨q1, qf1⟩ := pg_cells h.row c1
  obtain ⟨q2, qf2⟩ := pg_cells h.row c2
  have hPw : P < w.heap.size := (h.row.lt P rfl).2
  have hPt : own P = 1 := h.tag P rfl
  -- the pages' block lies as it lay behind the first call
  have hst : ∀ w2 k', InsIs (w.alloc (.cells #[.slice ax nx cx] 25)) B 25 (.slice ak m ck) keys.length at_ ks (.slice ax nx cx) (.returned k') w2 → w2.heap[P]? = w.heap[P]? ∧ ∃ a c, k' = .slice a (m + 1) c := fun w2 k' ⟨v', e, r1, r2, r3⟩ => by
    cases e
    refine ⟨(((World.grownBy_alloc w _ _)).trans r2).block P hPw (fun e => by have := h2 P e.symm; omega), ?_⟩
    obtain ⟨_, a, c, e, _⟩ := Rd.own r1
    exact ⟨a, c, by rw [hm]; exact e⟩
  have HST := Lib.hid hst
  have HS := Lib.hid hs
  have HIK := Lib.hid hik
  have HM := Lib.hid (And.intro hm (And.intro hmd (And.intro hkd hle)))
  have hmb : m ≤ 100 := by omega
  have hi : i < ps.length := (List.getElem?_eq_some_iff.1 hp).1
  have HI := Lib.hid hi
  have hab : at_ ≤ 100 := by omega
  have HB := Lib.hid hB
  have hnk : kids.length ≤ 101 := by rw [hkd]; split <;> omega
  obtain ⟨ag, cg, rfl⟩ := h7.sh
  clear h h1 h2 h4 h5 h6 h7 c0 c1 c2 c3 c4 hs hik hst hm hmd hkd hle hp hx hnx hr hno hks hat hnew hkl hPt hi hB
  cases leaf
  · go_enter Try.func16, Try.ntmps16
    go_wp2_with fail
    refine HS.out.mono ?_
    rintro e w' ⟨rfl, rfl⟩
    go_wp2_with fail
    refine HIK.out.mono ?_
    rintro e w2 hins
    obtain ⟨k', rfl⟩ : ∃ k', e = .returned k' := by obtain ⟨k', e, _⟩ := hins; exact ⟨k', e⟩
    obtain ⟨own1, vs1, H1, F1⟩ := hkk.out w2 k' hins
    obtain ⟨hPb, a1, c1, rfl⟩ := HST.out w2 k' hins
    have u0 := (World.cell?_of_block (w := w) (w' := w2) (a := ⟨P, i * 5, none⟩) hPb).trans q0
    have u1 := (World.cell?_of_block (w := w) (w' := w2) (a := ⟨P, i * 5 + 1, none⟩) hPb).trans q1
    have u2 := (World.cell?_of_block (w := w) (w' := w2) (a := ⟨P, i * 5 + 2, none⟩) hPb).trans q2
    have uf1 := (World.frozen?_of_block (w := w) (w' := w2) (a := ⟨P, i * 5 + 1, none⟩) hPb).trans qf1
    have uf2 := (World.frozen?_of_block (w := w) (w' := w2) (a := ⟨P, i * 5 + 2, none⟩) hPb).trans qf2
    have HH1 := Lib.hid (And.intro H1 F1)
    obtain ⟨W3, hW3⟩ : ∃ W3, W3 = w2.setCell ⟨P, i * 5 + 1, none⟩ (.slice a1 (m + 1) c1) := ⟨_, rfl⟩
    have u2' := cell_set_off (o' := i * 5 + 1) (u := .slice a1 (m + 1) c1) u2 (by omega)
    have hz3 : W3.heap.size = w2.heap.size := by rw [hW3]; simp
    rw [← hW3] at u2' H1 F1
    have hat : at_ + 1 ≤ kids.length ∧ kids.length ≤ 1000 := by
      obtain ⟨q1, q2, q3, q4⟩ := HM.out
      simp only [Bool.false_eq_true, if_false, if_true] at q3
      omega
    have HK2 := kids_step (kid := kid) (at_ := at_ + 1) (p := ⟨false, insAt keys at_ key, kids, high, next⟩) H1 (List.getElem?_set_self HI.out) u2' hat.1 hat.2 (Nat.le_trans HB.out F1.size)
    obtain ⟨HK3, HK4, -⟩ := HK2
    rw [hz3] at HK3
    have hmd2 := HM.out.2.1
    simp only at HK3 HK4
    rw [← hmd2] at HK3 HK4
    have HC3 : Hid (Calls Try.prog 34 #[.slice ad md cd, .int .i64 ((at_ : Int) + 1), .slice (some ⟨w2.heap.size, 0, none⟩) 1 1] (W3.alloc (.cells #[.int .i64 kid] 3)) (InsIs (W3.alloc (.cells #[.int .i64 kid] 3)) B 3 (.slice ad md cd) md (at_ + 1) (ic kids) (.int .i64 kid))) := HK3
    have HC4 := Lib.hid HK4
    have HF1 := Lib.hid F1
    have HW3 := Lib.hid hW3
    have hab1 : 0 ≤ (at_ : Int) := by omega
    have v2 := cell_set_off (o' := i * 5 + 1) (u := .slice a1 (m + 1) c1) u2 (by omega)
    have v0 := cell_set_off (o' := i * 5 + 1) (u := .slice a1 (m + 1) c1) u0 (by omega)
    clear H1 F1 hins hPb q0 q1 q2 qf1 qf2 HK3 HK4 hat hmd2 u2' hz3 hW3 HIK HS hkk HST HH1
    go_wp2_with fail
    rw [← HW3.out]
    refine HC3.out.mono ?_
    rintro e w4 hins
    obtain ⟨d', rfl⟩ : ∃ d', e = .returned d' := by obtain ⟨d', e, _⟩ := hins; exact ⟨d', e⟩
    obtain ⟨⟨own2, vs2, H2, F2⟩, hP4, a4, c4, rfl⟩ := HC4.out w4 d' hins
    have e2 : W3.cell? ⟨P, i * 5 + 2, none⟩ = some (.slice ad md cd) := by rw [HW3.out]; exact v2
    have x2 := (World.cell?_of_block (w := W3) (w' := w4) (a := ⟨P, i * 5 + 2, none⟩) hP4).trans e2
    have e3 : W3.frozen? ⟨P, i * 5 + 2, none⟩ = false := by rw [HW3.out, World.frozen?_setCell, uf2]
    have xf2 : w4.frozen? ⟨P, i * 5 + 2, none⟩ = false := (World.frozen?_of_block (w := W3) (w' := w4) (a := ⟨P, i * 5 + 2, none⟩) hP4).trans e3
    have HE := Lib.hid (And.intro H2 F2)
    clear H2 F2 hins hP4 v0 v2 u0 u1 u2 uf1 uf2
    go_wp2_with fail
    go_end0
    have h2 := HE.out.1
    rw [List.set_set] at h2
    exact ⟨⟨_, rfl⟩, own2, vs2, h2, HF1.out.trans HE.out.2⟩
  · go_enter Try.func16, Try.ntmps16
    go_wp2_with fail
    refine HS.out.mono ?_
    rintro e w' ⟨rfl, rfl⟩
    go_wp2_with fail
    refine HIK.out.mono ?_
    rintro e w2 hins
    obtain ⟨k', rfl⟩ : ∃ k', e = .returned k' := by obtain ⟨k', e, _⟩ := hins; exact ⟨k', e⟩
    obtain ⟨own1, vs1, H1, F1⟩ := hkk.out w2 k' hins
    obtain ⟨hPb, a1, c1, rfl⟩ := HST.out w2 k' hins
    have u0 := (World.cell?_of_block (w := w) (w' := w2) (a := ⟨P, i * 5, none⟩) hPb).trans q0
    have u1 := (World.cell?_of_block (w := w) (w' := w2) (a := ⟨P, i * 5 + 1, none⟩) hPb).trans q1
    have u2 := (World.cell?_of_block (w := w) (w' := w2) (a := ⟨P, i * 5 + 2, none⟩) hPb).trans q2
    have uf1 := (World.frozen?_of_block (w := w) (w' := w2) (a := ⟨P, i * 5 + 1, none⟩) hPb).trans qf1
    have uf2 := (World.frozen?_of_block (w := w) (w' := w2) (a := ⟨P, i * 5 + 2, none⟩) hPb).trans qf2
    have HH1 := Lib.hid (And.intro H1 F1)
    obtain ⟨W3, hW3⟩ : ∃ W3, W3 = w2.setCell ⟨P, i * 5 + 1, none⟩ (.slice a1 (m + 1) c1) := ⟨_, rfl⟩
    have u2' := cell_set_off (o' := i * 5 + 1) (u := .slice a1 (m + 1) c1) u2 (by omega)
    have hz3 : W3.heap.size = w2.heap.size := by rw [hW3]; simp
    rw [← hW3] at u2' H1 F1
    have hat : at_ ≤ kids.length ∧ kids.length ≤ 1000 := by
      obtain ⟨q1, q2, q3, q4⟩ := HM.out
      simp only [Bool.false_eq_true, if_false, if_true] at q3
      omega
    have HK2 := kids_step (kid := kid) (at_ := at_) (p := ⟨true, insAt keys at_ key, kids, high, next⟩) H1 (List.getElem?_set_self HI.out) u2' hat.1 hat.2 (Nat.le_trans HB.out F1.size)
    obtain ⟨HK3, HK4, -⟩ := HK2
    rw [hz3] at HK3
    have hmd2 := HM.out.2.1
    simp only at HK3 HK4
    rw [← hmd2] at HK3 HK4
    have HC3 : Hid (Calls Try.prog 34 #[.slice ad md cd, .int .i64 (at_ : Int), .slice (some ⟨w2.heap.size, 0, none⟩) 1 1] (W3.alloc (.cells #[.int .i64 kid] 3)) (InsIs (W3.alloc (.cells #[.int .i64 kid] 3)) B 3 (.slice ad md cd) md (at_) (ic kids) (.int .i64 kid))) := HK3
    have HC4 := Lib.hid HK4
    have HF1 := Lib.hid F1
    have HW3 := Lib.hid hW3
    have hab1 : 0 ≤ (at_ : Int) := by omega
    have v2 := cell_set_off (o' := i * 5 + 1) (u := .slice a1 (m + 1) c1) u2 (by omega)
    have v0 := cell_set_off (o' := i * 5 + 1) (u := .slice a1 (m + 1) c1) u0 (by omega)
    clear H1 F1 hins hPb q0 q1 q2 qf1 qf2 HK3 HK4 hat hmd2 u2' hz3 hW3 HIK HS hkk HST HH1
    go_wp2_with fail
    rw [← HW3.out]
    refine HC3.out.mono ?_
    rintro e w4 hins
    obtain ⟨d', rfl⟩ : ∃ d', e = .returned d' := by obtain ⟨d', e, _⟩ := hins; exact ⟨d', e⟩
    obtain ⟨⟨own2, vs2, H2, F2⟩, hP4, a4, c4, rfl⟩ := HC4.out w4 d' hins
    have e2 : W3.cell? ⟨P, i * 5 + 2, none⟩ = some (.slice ad md cd) := by rw [HW3.out]; exact v2
    have x2 := (World.cell?_of_block (w := W3) (w' := w4) (a := ⟨P, i * 5 + 2, none⟩) hP4).trans e2
    have e3 : W3.frozen? ⟨P, i * 5 + 2, none⟩ = false := by rw [HW3.out, World.frozen?_setCell, uf2]
    have xf2 : w4.frozen? ⟨P, i * 5 + 2, none⟩ = false := (World.frozen?_of_block (w := W3) (w' := w4) (a := ⟨P, i * 5 + 2, none⟩) hP4).trans e3
    have HE := Lib.hid (And.intro H2 F2)
    clear H2 F2 hins hP4 v0 v2 u0 u1 u2 uf1 uf2
    go_wp2_with fail
    go_end0
    have h2 := HE.out.1
    rw [List.set_set] at h2
    exact ⟨⟨_, rfl⟩, own2, vs2, h2, HF1.out.trans HE.out.2⟩
end Go.Proofs.Ytahammkjkfdmhaa
