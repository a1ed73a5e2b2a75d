/- A page that is new: in the place of another one, or behind all. -/
import Derived.Test.YtahammkjkfdmhaaTi
namespace Go.Proofs.Ytahammkjkfdmhaa
open Go.ChangeShapes Go.WideShapes Go.ChangeAt Go.RowKit
set_option linter.unusedVariables false
set_option linter.unusedSimpArgs false
set_option maxHeartbeats 4000000
set_option maxRecDepth 100000
/-- Where the bytes of a new page lie: in what is never written, or in what is new. -/
def NewOk (w : World) (B : Nat) (own : Tag) (k d : Value) : Nat → Prop := fun b => (b < w.heap.size ∧ Fz B own b) ∨ (w.heap.size ≤ b ∧ k.ownBlock ≠ some b ∧ d.ownBlock ≠ some b)
/-- The lists of a new page, made since w. -/
structure PgNew (w w2 : World) (B : Nat) (own : Tag) (p : Pg) (k d h : Value) (ks : List Value) : Prop where
  rk : w2.ownsRow w.heap.size 25 1 k p.keys.length ks
  rd : w2.ownsRow w.heap.size 3 1 d p.kids.length (ic p.kids)
  ne : ∀ b, k.ownBlock = some b → d.ownBlock ≠ some b
  rks : KsAt w2 (NewOk w B own k d) ks p.keys p.keys.length
  rh : RB w2 (NewOk w B own k d) h p.high
  bel : Below w.heap.size w w2
  base : B ≤ w.heap.size
/-- What the blocks serve for then. -/
def newTag (w : World) (own : Tag) (i : Nat) (v k d : Value) : Tag := fun b => if b < w.heap.size then own b else if k.ownBlock = some b then 2 * i + 2 else if d.ownBlock = some b then 2 * i + 3 else if v.ownBlock = some b then 1 else 0
theorem newTag_old {w : World} {own : Tag} {i : Nat} {v k d : Value} {b : Nat} (h : b < w.heap.size) : newTag w own i v k d b = own b := if_pos h
/-- The new page among the cells, in a world that has kept its lists. -/
theorem PgNew.pg {w w2 w3 : World} {B : Nat} {own : Tag} {p : Pg} {k d h v : Value} {ks vs : List Value} {i : Nat} (hn : PgNew w w2 B own p k d h ks) (hv : ∀ b, v.ownBlock = some b → b < w.heap.size ∨ w2.heap.size ≤ b)
    (hf : ∀ b, b < w2.heap.size → (k.ownBlock = some b ∨ d.ownBlock = some b ∨ NewOk w B own k d b) → w3.heap[b]? = w2.heap[b]?)
    (c0 : vs[i * 5]? = some (.bool p.leaf)) (c1 : vs[i * 5 + 1]? = some k) (c2 : vs[i * 5 + 2]? = some d) (c3 : vs[i * 5 + 3]? = some h) (c4 : vs[i * 5 + 4]? = some (.int .i64 p.next)) : PgO w3 B (newTag w own i v k d) False vs i p := by
  have z : ∀ b, b < w2.heap.size → NewOk w B own k d b → w3.heap[b]? = w2.heap[b]? ∧ Fz B (newTag w own i v k d) b := fun b hb hz => by
    refine ⟨hf b hb (.inr (.inr hz)), ?_⟩
    rcases hz with ⟨h1, h2⟩ | ⟨h1, h2, h3⟩
    · exact ⟨h2.1, (newTag_old h1).trans h2.2⟩
    · refine ⟨Nat.le_trans hn.base h1, ?_⟩
      unfold newTag
      rw [if_neg (by omega), if_neg h2, if_neg h3, if_neg]
      intro e
      rcases hv b e with h | h <;> omega
  refine ⟨k, d, h, ks, c0, c1, c2, c3, c4, own_mono (own_far hn.rk fun b hb => hf b (hn.rk.lt b hb).2 (.inl hb)) hn.base, fun b hb => ?_, fun q => q.elim, hn.rks.to z,
    own_mono (own_far hn.rd fun b hb => hf b (hn.rd.lt b hb).2 (.inr (.inl hb))) hn.base, fun b hb => ?_, hn.rh.to z⟩
  · unfold newTag
    rw [if_neg (by have := (hn.rk.lt b hb).1; omega), if_pos hb]
  · unfold newTag
    rw [if_neg (by have := (hn.rd.lt b hb).1; omega), if_neg (fun e => hn.ne b e hb), if_pos hb]
theorem pg_put {w : World} {B e n cap P : Nat} {vs : List Value} (h : w.ownsRow B e 5 (.slice (some ⟨P, 0, none⟩) n cap) n vs) (o : Nat) (a b c d u : Value) : (setPg w P o a b c d u).ownsRow B e 5 (.slice (some ⟨P, 0, none⟩) n cap) n (vs5 vs o a b c d u) := (stored5 h o a b c d u).1
/-- In the place of another one. -/
theorem PgNew.repl {w w2 : World} {B : Nat} {own : Tag} {p : Pg} {k d h : Value} {ks vs : List Value} {P cap i : Nat} {ps : List Pg} {tight : Nat → Prop} (hn : PgNew w w2 B own p k d h ks) (hg : PgsO w B own (.slice (some ⟨P, 0, none⟩) ps.length cap) ps tight vs) (hi : i < ps.length) :
    ∃ own' vs', PgsO (setPg w2 P (i * 5) (.bool p.leaf) k d h (.int .i64 p.next)) B own' (.slice (some ⟨P, 0, none⟩) ps.length cap) (ps.set i p) (fun _ => False) vs' ∧ Fr own own' w (setPg w2 P (i * 5) (.bool p.leaf) k d h (.int .i64 p.next)) := by
  have hP : own P = 1 := hg.tag P rfl
  have hPl : P < w.heap.size := (hg.row.lt P rfl).2
  have hrl := hg.row.1
  obtain ⟨r, gb⟩ := stored5 (own_below hg.row hn.bel) (i * 5) (.bool p.leaf) k d h (.int .i64 p.next)
  have far : ∀ b, b ≠ P → b < w2.heap.size → (setPg w2 P (i * 5) (.bool p.leaf) k d h (.int .i64 p.next)).heap[b]? = w2.heap[b]? := fun b hne hb => gb.block b hb (fun e => hne (by cases e; rfl))
  have hz := hn.bel.size
  obtain ⟨a0, a1, a2, a3, a4⟩ := vs5_at (vs := vs) (o := i * 5) (.bool p.leaf) k d h (.int .i64 p.next) (by omega)
  refine ⟨newTag w own i (.slice (some ⟨P, 0, none⟩) ps.length cap) k d, vs5 vs (i * 5) (.bool p.leaf) k d h (.int .i64 p.next), ?_, ⟨gb.os.trans hn.bel.os, gb.tape.trans hn.bel.tape, gb.output.trans hn.bel.output, Nat.le_trans hz gb.size, fun b hb h0 => ?_, fun b hb => newTag_old hb⟩⟩
  · refine hg.repl hi r (fun j hj => vs5_off _ _ _ _ _ hj) (fun b hb q1 _ _ => ?_) (fun b hb => newTag_old hb) ?_
    · exact (far b (by rintro rfl; exact q1 hP) (by omega)).trans (hn.bel.block b hb)
    · refine hn.pg (fun b e => .inl (by have e' : P = b := by simpa [Value.ownBlock] using e
                                        omega)) (fun b hb hor => far b ?_ hb) a0 a1 a2 a3 a4
      rintro rfl
      rcases hor with q | q | q
      · have := (hn.rk.lt _ q).1; omega
      · have := (hn.rd.lt _ q).1; omega
      · rcases q with q | q
        · have := q.2.2; omega
        · have := q.1; omega
  · exact (far b (by rintro rfl; omega) (by omega)).trans (hn.bel.block b hb)
/-- Behind all. -/
theorem PgNew.push {w w2 w3 : World} {B : Nat} {own : Tag} {p : Pg} {k d h v v' : Value} {ks vs : List Value} {ps : List Pg} {tight : Nat → Prop} {o : Obj} (hn : PgNew w w2 B own p k d h ks) (hg : PgsO w B own v ps tight vs)
    (hr : w3.ownsRow B 43 5 v' (ps.length + 1) (vs ++ [.bool p.leaf, k, d, h, .int .i64 p.next])) (hb : (w2.alloc o).grownBy w3 v.ownBlock) (hv : v'.ownBlock = v.ownBlock ∨ v'.ownBlock = some (w2.heap.size + 1)) :
    ∃ own', PgsO w3 B own' v' (ps ++ [p]) (fun _ => False) (vs ++ [.bool p.leaf, k, d, h, .int .i64 p.next]) ∧ Fr own own' w w3 := by
  have hz := hn.bel.size
  have hrl := hg.row.1
  have hgb : w2.grownBy w3 v.ownBlock := (World.grownBy_alloc w2 o _).trans hb
  have hvl : ∀ b, v.ownBlock = some b → b < w.heap.size ∧ own b = 1 := fun b e => ⟨(hg.row.lt b e).2, hg.tag b e⟩
  have far : ∀ b, b < w2.heap.size → v.ownBlock ≠ some b → w3.heap[b]? = w2.heap[b]? := fun b hb hne => hgb.block b hb (fun e => hne e.symm)
  have far0 : ∀ b, b < w.heap.size → own b ≠ 1 → w3.heap[b]? = w.heap[b]? := fun b hb hne => (far b (by omega) (fun e => hne (hvl b e).2)).trans (hn.bel.block b hb)
  have hv' : ∀ b, v'.ownBlock = some b → (b < w.heap.size ∧ own b = 1) ∨ b = w2.heap.size + 1 := fun b e => by
    rcases hv with h | h
    · rw [h] at e; exact .inl (hvl b e)
    · rw [h] at e; cases e; exact .inr rfl
  refine ⟨newTag w own ps.length v' k d, ⟨by rw [List.length_append]; exact hr, fun b e => ?_, fun j q hq => ?_⟩, ⟨hgb.os.trans hn.bel.os, hgb.tape.trans hn.bel.tape, hgb.output.trans hn.bel.output, Nat.le_trans hz hgb.size, fun b hb h0 => far0 b hb (by omega), fun b hb => newTag_old hb⟩⟩
  · rcases hv' b e with ⟨h1, h2⟩ | h1
    · rw [newTag_old h1]; exact h2
    · unfold newTag
      rw [if_neg (by omega), if_neg (fun e' => by have := (hn.rk.lt b e').2; omega), if_neg (fun e' => by have := (hn.rd.lt b e').2; omega), if_pos e]
  · by_cases hj : j < ps.length
    · rw [List.getElem?_append_left hj] at hq
      refine (hg.pg j q hq).to (fun x => x.elim) (fun t ht => ?_) fun b hb hB hor => ⟨far0 b hb (by omega), newTag_old hb⟩
      rw [List.getElem?_append_left (by omega)]
    · have hj' : j = ps.length := by
        have := (List.getElem?_eq_some_iff.1 hq).1
        simp at this
        omega
      subst hj'
      rw [List.getElem?_append_right (Nat.le_refl _), Nat.sub_self] at hq
      simp only [List.getElem?_cons_zero, Option.some.injEq] at hq
      subst hq
      have at_ : ∀ t, (vs ++ [Value.bool p.leaf, k, d, h, .int .i64 p.next])[ps.length * 5 + t]? = [Value.bool p.leaf, k, d, h, .int .i64 p.next][t]? := fun t => by
        rw [List.getElem?_append_right (by omega)]
        congr 1
        omega
      refine hn.pg (fun b e => ?_) (fun b hb hor => far b hb ?_) (at_ 0) (at_ 1) (at_ 2) (at_ 3) (at_ 4)
      · rcases hv' b e with ⟨h1, _⟩ | h1
        · exact .inl h1
        · exact .inr (by omega)
      · intro e
        obtain ⟨h1, h2⟩ := hvl b e
        rcases hor with q | q | q
        · have := (hn.rk.lt _ q).1; omega
        · have := (hn.rd.lt _ q).1; omega
        · rcases q with q | q
          · have := q.2.2; omega
          · have := q.1; omega
end Go.Proofs.Ytahammkjkfdmhaa
