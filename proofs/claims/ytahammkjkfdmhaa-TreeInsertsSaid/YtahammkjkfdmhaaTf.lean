/- Pages that the call owns, each list of theirs in memory of its own: the words; a page anew, pages anew, a tree anew. -/
import Derived.Test.YtahammkjkfdmhaaTd
import Derived.Test.YtahammkjkfdmhaaHg
import Derived.Test.YtahammkjkfdmhaaTc
import Derived.Test.YtahammkjkfdmhaaTg
namespace Go.Proofs.Ytahammkjkfdmhaa
open Go.ChangeShapes Go.WideShapes Go.ChangeAt Go.RowKit
set_option linter.unusedVariables false
set_option linter.unusedSimpArgs false
set_option maxHeartbeats 4000000
set_option maxRecDepth 100000
/-- What a block serves for: 0: what is never written again (bytes; whatever lay before); 1: the pages; 2 i + 2: the keys of page i; 2 i + 3: its kids. -/
abbrev Tag := Nat → Nat
abbrev Fz (B : Nat) (own : Tag) : Nat → Prop := fun b => B ≤ b ∧ own b = 0
/-- Page i among the cells vs. -/
def PgO (w : World) (B : Nat) (own : Tag) (tight : Prop) (vs : List Value) (i : Nat) (p : Pg) : Prop :=
  ∃ k d h ks, vs[i * 5]? = some (.bool p.leaf) ∧ vs[i * 5 + 1]? = some k ∧ vs[i * 5 + 2]? = some d ∧ vs[i * 5 + 3]? = some h ∧ vs[i * 5 + 4]? = some (.int .i64 p.next) ∧
    w.ownsRow B 25 1 k p.keys.length ks ∧ (∀ g, k.ownBlock = some g → own g = 2 * i + 2) ∧ (tight → ∃ a, k = .slice a p.keys.length p.keys.length) ∧ KsAt w (Fz B own) ks p.keys p.keys.length ∧
    w.ownsRow B 3 1 d p.kids.length (ic p.kids) ∧ (∀ g, d.ownBlock = some g → own g = 2 * i + 3) ∧ RB w (Fz B own) h p.high
structure PgsO (w : World) (B : Nat) (own : Tag) (v : Value) (ps : List Pg) (tight : Nat → Prop) (vs : List Value) : Prop where
  row : w.ownsRow B 43 5 v ps.length vs
  tag : ∀ g, v.ownBlock = some g → own g = 1
  pg : ∀ i p, ps[i]? = some p → PgO w B own (tight i) vs i p
theorem RB.lt {w : World} {ok : Nat → Prop} {v : Value} {l : Key} (h : RB w ok v l) : RB w (fun b => ok b ∧ b < w.heap.size) v l := ⟨h.1, fun a n c e hn => ⟨h.2 a n c e hn, h.1.at_lt (by omega) a n c e hn⟩⟩
theorem RB.to {w w' : World} {ok ok' : Nat → Prop} {v : Value} {l : Key} (h : RB w ok v l) (hb : ∀ b, b < w.heap.size → ok b → w'.heap[b]? = w.heap[b]? ∧ ok' b) : RB w' ok' v l := by
  have h1 := h.lt.agree (w' := w') (fun b hb' _ => (hb b hb'.2 hb'.1).1)
  exact ⟨h1.1, fun a n c e hn => (hb _ (h1.2 a n c e hn).2 (h1.2 a n c e hn).1).2⟩
theorem KsAt.to {w w' : World} {ok ok' : Nat → Prop} {vs : List Value} {ks : List Key} {m : Nat} (h : KsAt w ok vs ks m) (hb : ∀ b, b < w.heap.size → ok b → w'.heap[b]? = w.heap[b]? ∧ ok' b) : KsAt w' ok' vs ks m := fun i k hi hk => by
  obtain ⟨x, h1, h2⟩ := h i k hi hk
  exact ⟨x, h1, h2.to hb⟩
/-- A page stays where its own blocks, and what is never written, stay. -/
theorem PgO.to {w w' : World} {B : Nat} {own own' : Tag} {t t' : Prop} {vs vs' : List Value} {i : Nat} {p : Pg} (h : PgO w B own t vs i p) (ht : t' → t) (hv : ∀ j, j < 5 → vs'[i * 5 + j]? = vs[i * 5 + j]?)
    (hb : ∀ b, b < w.heap.size → B ≤ b → own b = 0 ∨ own b = 2 * i + 2 ∨ own b = 2 * i + 3 → w'.heap[b]? = w.heap[b]? ∧ own' b = own b) : PgO w' B own' t' vs' i p := by
  obtain ⟨k, d, g, ks, c0, c1, c2, c3, c4, h1, h2, h3, h4, h5, h6, h7⟩ := h
  have z : ∀ b, b < w.heap.size → Fz B own b → w'.heap[b]? = w.heap[b]? ∧ Fz B own' b := fun b hlt hf => by
    obtain ⟨q1, q2⟩ := hb b hlt hf.1 (.inl hf.2)
    exact ⟨q1, hf.1, q2.trans hf.2⟩
  refine ⟨k, d, g, ks, (hv 0 (by omega)).trans c0, (hv 1 (by omega)).trans c1, (hv 2 (by omega)).trans c2, (hv 3 (by omega)).trans c3, (hv 4 (by omega)).trans c4,
    own_far h1 fun b hb' => (hb b (h1.lt b hb').2 (h1.lt b hb').1 (.inr (.inl (h2 b hb')))).1, fun b hb' => ?_, fun q => h3 (ht q), h4.to z,
    own_far h5 fun b hb' => (hb b (h5.lt b hb').2 (h5.lt b hb').1 (.inr (.inr (h6 b hb')))).1, fun b hb' => ?_, h7.to z⟩
  · rw [(hb b (h1.lt b hb').2 (h1.lt b hb').1 (.inr (.inl (h2 b hb')))).2]; exact h2 b hb'
  · rw [(hb b (h5.lt b hb').2 (h5.lt b hb').1 (.inr (.inr (h6 b hb')))).2]; exact h6 b hb'
theorem PgsO.below {w w' : World} {B : Nat} {own own' : Tag} {v : Value} {ps : List Pg} {tight : Nat → Prop} {vs : List Value} (h : PgsO w B own v ps tight vs) (hb : Below w.heap.size w w') (ho : ∀ b, b < w.heap.size → own' b = own b) : PgsO w' B own' v ps tight vs :=
  ⟨own_below h.row hb, fun g hg => by rw [ho g (h.row.lt g hg).2]; exact h.tag g hg, fun i p hp => (h.pg i p hp).to id (fun _ _ => rfl) fun b hlt _ _ => ⟨hb.block b hlt, ho b hlt⟩⟩
/-- Such pages read as a tree. -/
theorem PgsO.rt {w : World} {B : Nat} {own : Tag} {v : Value} {T : Tr} {tight : Nat → Prop} {vs : List Value} (h : PgsO w B own v T.pages tight vs) : RT w (fun b => B ≤ b) (.agg #[v, .int .i64 T.root]) T := by
  have hge : ∀ {e s n : Nat} {u : Value} {xs : List Value}, w.ownsRow B e s u n xs → At (fun b => B ≤ b) u := fun hr a n c e hn => (hr.lt _ (own_at hr a n c e hn)).1
  refine ⟨v, vs, rfl, Rd.own h.row, hge h.row, h.row.1, fun i p hp => ?_⟩
  obtain ⟨k, d, g, ks, c0, c1, c2, c3, c4, h1, -, -, h4, h5, -, h7⟩ := h.pg i p hp
  have hi : i < T.pages.length := (List.getElem?_eq_some_iff.1 hp).1
  have hl := h.row.1
  refine ⟨k, d, g, ?_, ⟨ks, Rd.own h1, hge h1, fun j q hq => ?_⟩, ⟨Rd.own h5, hge h5⟩, ⟨h7.1, fun a n c e hn => (h7.2 a n c e hn).1⟩⟩
  · apply List.ext_getElem?
    intro j
    rw [List.getElem?_take, List.getElem?_drop]
    rcases j with _ | _ | _ | _ | _ | j
    · simpa using c0
    · simpa using c1
    · simpa using c2
    · simpa using c3
    · simpa using c4
    · simp; omega
  · obtain ⟨x, q1, q2⟩ := h4 j q (List.getElem?_eq_some_iff.1 hq).1 hq
    exact ⟨x, q1, q2.1, fun a n c e hn => (q2.2 a n c e hn).1⟩
/-- A page anew. -/
def PageIs (w : World) (p : Pg) (e : Ending) (w' : World) : Prop :=
  ∃ vs g ad cd ah ch, e = .returned (.agg #[.bool p.leaf, .slice (some ⟨g, 0, none⟩) p.keys.length p.keys.length, .slice ad p.kids.length cd, .slice ah p.high.length ch, .int .i64 p.next]) ∧
    w'.ownsRow w.heap.size 25 1 (.slice (some ⟨g, 0, none⟩) p.keys.length p.keys.length) p.keys.length vs ∧ w'.ownsRow w.heap.size 3 1 (.slice ad p.kids.length cd) p.kids.length (ic p.kids) ∧
    (Value.slice ad p.kids.length cd).ownBlock ≠ some g ∧ KsAt w' (fun b => w.heap.size ≤ b ∧ b ≠ g ∧ (Value.slice ad p.kids.length cd).ownBlock ≠ some b) vs p.keys p.keys.length ∧
    RB w' (fun b => w.heap.size ≤ b ∧ b ≠ g ∧ (Value.slice ad p.kids.length cd).ownBlock ≠ some b) (.slice ah p.high.length ch) p.high ∧ Below w.heap.size w w'
theorem cell_bel {W W' : World} {a : Addr} {v : Value} (hb : Below W.heap.size W W') (h : W.cell? a = some v) : W'.cell? a = some v := (hb.cell (lt_cell h)).trans h
theorem box_set {w : World} {B : Nat} {x0 x1 x2 x3 x4 k d h : Value} {T : TypeId} (hb : w.heap[B]? = some (.cells #[x0, x1, x2, x3, x4] T (0, 0))) :
    (((w.setCell ⟨B, 1, none⟩ k).setCell ⟨B, 2, none⟩ d).setCell ⟨B, 3, none⟩ h).heap[B]? = some (.cells #[x0, k, d, h, x4] T (0, 0)) := by
  have one : ∀ {w : World} {C : Array Value} (j : Nat) (u : Value), w.heap[B]? = some (.cells C T (0, 0)) → (w.setCell ⟨B, j, none⟩ u).heap[B]? = some (.cells (C.setIfInBounds j u) T (0, 0)) := fun {w} {C} j u h => by
    obtain ⟨hlt, hk⟩ := Array.getElem?_eq_some_iff.1 h
    show (w.heap.modify B _)[B]? = _
    rw [Array.getElem?_eq_getElem (by rw [Array.size_modify]; exact hlt), Array.getElem_modify_self, hk]
    rfl
  exact one 3 h (one 2 d (one 1 k hb))
/-- A page's box, its three lists written. -/
def PgMid (w : World) (p : Pg) (w' : World) : Prop :=
  ∃ vs g ad cd ah ch, w'.heap[w.heap.size]? = some (.cells #[.bool p.leaf, .slice (some ⟨g, 0, none⟩) p.keys.length p.keys.length, .slice ad p.kids.length cd, .slice ah p.high.length ch, .int .i64 p.next] 43 (0, 0)) ∧
    w'.heap[w.heap.size + 1]? = some (.cells #[.bool false, .slice none 0 0, .slice none 0 0, .slice none 0 0, .int .i64 0] 43 (0, 0)) ∧
    w'.ownsRow (w.heap.size + 2) 25 1 (.slice (some ⟨g, 0, none⟩) p.keys.length p.keys.length) p.keys.length vs ∧ w'.ownsRow (w.heap.size + 2) 3 1 (.slice ad p.kids.length cd) p.kids.length (ic p.kids) ∧
    (Value.slice ad p.kids.length cd).ownBlock ≠ some g ∧ KsAt w' (fun b => w.heap.size + 2 ≤ b ∧ b ≠ g ∧ (Value.slice ad p.kids.length cd).ownBlock ≠ some b) vs p.keys p.keys.length ∧
    RB w' (fun b => w.heap.size + 2 ≤ b ∧ b ≠ g ∧ (Value.slice ad p.kids.length cd).ownBlock ≠ some b) (.slice ah p.high.length ch) p.high ∧ Below w.heap.size w w'
theorem PgMid.done {w w' w2 : World} {p : Pg} {vs : List Value} {g : Nat} {ad : Option Addr} {cd : Nat} {ah : Option Addr} {ch : Nat}
    (h1 : w'.ownsRow (w.heap.size + 2) 25 1 (.slice (some ⟨g, 0, none⟩) p.keys.length p.keys.length) p.keys.length vs) (h2 : w'.ownsRow (w.heap.size + 2) 3 1 (.slice ad p.kids.length cd) p.kids.length (ic p.kids))
    (h3 : (Value.slice ad p.kids.length cd).ownBlock ≠ some g) (h4 : KsAt w' (fun b => w.heap.size + 2 ≤ b ∧ b ≠ g ∧ (Value.slice ad p.kids.length cd).ownBlock ≠ some b) vs p.keys p.keys.length)
    (h5 : RB w' (fun b => w.heap.size + 2 ≤ b ∧ b ≠ g ∧ (Value.slice ad p.kids.length cd).ownBlock ≠ some b) (.slice ah p.high.length ch) p.high) (h6 : Below w.heap.size w w2)
    (hf : ∀ b, w.heap.size + 2 ≤ b → w2.heap[b]? = w'.heap[b]?) : PageIs w p (.returned (.agg #[.bool p.leaf, .slice (some ⟨g, 0, none⟩) p.keys.length p.keys.length, .slice ad p.kids.length cd, .slice ah p.high.length ch, .int .i64 p.next])) w2 :=
  ⟨vs, g, ad, cd, ah, ch, rfl, own_mono (own_far h1 fun b hb => hf b (h1.lt b hb).1) (by omega), own_mono (own_far h2 fun b hb => hf b (h2.lt b hb).1) (by omega), h3,
    h4.to fun b _ hb => ⟨hf b hb.1, by omega, hb.2.1, hb.2.2⟩, h5.to fun b _ hb => ⟨hf b hb.1, by omega, hb.2.1, hb.2.2⟩, h6⟩
theorem mid_of {w W0 w1 w2 w3 : World} {leaf : Bool} {ks : List Key} {kids : List Int} {high : Key} {next : Int} {g nk nd nh : Nat} {vs : List Value} {a2 a3 : Option Addr} {c2 c3 : Nat} {x1 x2 x3 : Value} (hn : nk = ks.length ∧ nd = kids.length ∧ nh = high.length) (hz : W0.heap.size = w.heap.size + 2) (h1 : g = W0.drew.heap.size ∧ w1.ownsRow W0.drew.heap.size 25 1 (.slice (some ⟨g, 0, none⟩) nk nk) nk vs ∧ KsAt w1 (fun b => W0.drew.heap.size < b) vs ks nk)
    (hb1 : W0.drew.heap.size ≤ w1.heap.size) (h2 : w2.ownsRow w1.heap.size 3 1 (.slice a2 nd c2) nd (ic kids)) (hb2 : Below w1.heap.size w1 w2) (h3 : w3.ownsRow w2.heap.size 5 1 (.slice a3 nh c3) nh (bc high)) (hb3 : Below w2.heap.size w2 w3) (hB : Below w.heap.size w w3)
    (hx : w3.heap[w.heap.size]? = some (.cells #[.bool leaf, x1, x2, x3, .int .i64 next] 43 (0, 0)) ∧ w3.heap[w.heap.size + 1]? = some (.cells #[.bool false, .slice none 0 0, .slice none 0 0, .slice none 0 0, .int .i64 0] 43 (0, 0))) :
    PgMid w ⟨leaf, ks, kids, high, next⟩ (((w3.setCell ⟨w.heap.size, 1, none⟩ (.slice (some ⟨g, 0, none⟩) nk nk)).setCell ⟨w.heap.size, 2, none⟩ (.slice a2 nd c2)).setCell ⟨w.heap.size, 3, none⟩ (.slice a3 nh c3)) := by
  obtain ⟨rfl, rfl, rfl⟩ := hn
  obtain ⟨hg, k1, k2⟩ := h1
  have hz0 : W0.drew.heap.size = w.heap.size + 2 := hz
  rw [hz0] at hg hb1 k1 k2
  have hfar : ∀ b, b ≠ w.heap.size → (((w3.setCell ⟨w.heap.size, 1, none⟩ (.slice (some ⟨g, 0, none⟩) ks.length ks.length)).setCell ⟨w.heap.size, 2, none⟩ (.slice a2 kids.length c2)).setCell ⟨w.heap.size, 3, none⟩ (.slice a3 high.length c3)).heap[b]? = w3.heap[b]? := fun b hb => by
    rw [Below.heap_setCell _ _ _ _ hb, Below.heap_setCell _ _ _ _ hb, Below.heap_setCell _ _ _ _ hb]
  have hgl : g < w1.heap.size := (k1.lt _ rfl).2
  have hz2 := hb2.size
  have hne : (Value.slice a2 kids.length c2).ownBlock ≠ some g := fun e => by have := (h2.lt _ e).1; omega
  have r1 : w3.ownsRow (w.heap.size + 2) 25 1 (.slice (some ⟨g, 0, none⟩) ks.length ks.length) ks.length vs := own_below (own_below k1 hb2) hb3
  have r2 : w3.ownsRow (w.heap.size + 2) 3 1 (.slice a2 kids.length c2) kids.length (ic kids) := own_mono (own_below h2 hb3) (by omega)
  have r3 : KsAt w3 (fun b => w.heap.size + 2 ≤ b ∧ b ≠ g ∧ (Value.slice a2 kids.length c2).ownBlock ≠ some b) vs ks ks.length := (k2.below hb2 |>.below hb3) |> fun _ => (k2.to (w' := w3) fun b hlt hb => ⟨(hb3.block b (by omega)).trans (hb2.block b hlt), by omega, by omega, fun e => by have := (h2.lt _ e).1; omega⟩)
  have r4 : RB w3 (fun b => w.heap.size + 2 ≤ b ∧ b ≠ g ∧ (Value.slice a2 kids.length c2).ownBlock ≠ some b) (.slice a3 high.length c3) high := ⟨Rd.own h3, fun a n c e hn => by
    have q1 := own_at h3 a n c e hn
    have q2 := (h3.lt _ q1).1
    exact ⟨by omega, by omega, fun e' => by have := (h2.lt _ e').2; omega⟩⟩
  refine ⟨vs, g, a2, c2, a3, c3, box_set hx.1, (hfar _ (by omega)).trans hx.2, own_far r1 fun b hb => hfar b (by have := (r1.lt b hb).1; omega), own_far r2 fun b hb => hfar b (by have := (r2.lt b hb).1; omega), hne,
    r3.to fun b _ hb => ⟨hfar b (by omega), hb⟩, r4.to fun b _ hb => ⟨hfar b (by omega), hb⟩, ((hB.setCell (Nat.le_refl _) _).setCell (Nat.le_refl _) _).setCell (Nat.le_refl _) _⟩
/-- A page's five cells, written. -/
def setPg (w : World) (G o : Nat) (a b c d e : Value) : World := ((((w.setCell ⟨G, o, none⟩ a).setCell ⟨G, o + 1, none⟩ b).setCell ⟨G, o + 2, none⟩ c).setCell ⟨G, o + 3, none⟩ d).setCell ⟨G, o + 4, none⟩ e
theorem setPg_box {w : World} {B : Nat} {x0 x1 x2 x3 x4 a b c d e : Value} {T : TypeId} (hb : w.heap[B]? = some (.cells #[x0, x1, x2, x3, x4] T (0, 0))) :
    (setPg w B 0 a b c d e).heap[B]? = some (.cells #[a, b, c, d, e] T (0, 0)) ∧ (∀ x, x ≠ B → (setPg w B 0 a b c d e).heap[x]? = w.heap[x]?) ∧ ∀ n, n ≤ B → Below n w (setPg w B 0 a b c d e) := by
  have one : ∀ {w : World} {C : Array Value} (j : Nat) (u : Value), w.heap[B]? = some (.cells C T (0, 0)) → (w.setCell ⟨B, j, none⟩ u).heap[B]? = some (.cells (C.setIfInBounds j u) T (0, 0)) := fun {w} {C} j u h => by
    obtain ⟨hlt, hk⟩ := Array.getElem?_eq_some_iff.1 h
    show (w.heap.modify B _)[B]? = _
    rw [Array.getElem?_eq_getElem (by rw [Array.size_modify]; exact hlt), Array.getElem_modify_self, hk]
    rfl
  unfold setPg
  refine ⟨one 4 e (one 3 d (one 2 c (one 1 b (one 0 a hb)))), fun x hx => ?_, fun n hn => ?_⟩
  · rw [Below.heap_setCell _ _ _ _ hx, Below.heap_setCell _ _ _ _ hx, Below.heap_setCell _ _ _ _ hx, Below.heap_setCell _ _ _ _ hx, Below.heap_setCell _ _ _ _ hx]
  · exact (((((Below.refl n w).setCell (p := ⟨B, 0, none⟩) hn _).setCell (p := ⟨B, 0 + 1, none⟩) hn _).setCell (p := ⟨B, 0 + 2, none⟩) hn _).setCell (p := ⟨B, 0 + 3, none⟩) hn _).setCell (p := ⟨B, 0 + 4, none⟩) hn _
def vs5 (vs : List Value) (o : Nat) (a b c d e : Value) : List Value := ((((vs.set o a).set (o + 1) b).set (o + 2) c).set (o + 3) d).set (o + 4) e
theorem vs5_at {vs : List Value} {o : Nat} (a b c d e : Value) (h : o + 5 ≤ vs.length) :
    (vs5 vs o a b c d e)[o]? = some a ∧ (vs5 vs o a b c d e)[o + 1]? = some b ∧ (vs5 vs o a b c d e)[o + 2]? = some c ∧ (vs5 vs o a b c d e)[o + 3]? = some d ∧ (vs5 vs o a b c d e)[o + 4]? = some e := by
  unfold vs5
  refine ⟨?_, ?_, ?_, ?_, ?_⟩ <;> simp [List.getElem?_set] <;> omega
theorem vs5_off {vs : List Value} {o : Nat} (a b c d e : Value) {j : Nat} (h : j < o ∨ o + 5 ≤ j) : (vs5 vs o a b c d e)[j]? = vs[j]? := by
  unfold vs5
  rw [List.getElem?_set_ne (by omega), List.getElem?_set_ne (by omega), List.getElem?_set_ne (by omega), List.getElem?_set_ne (by omega), List.getElem?_set_ne (by omega)]
theorem gb_two {w w1 w2 : World} {row : Option Nat} (h1 : w.grownBy w1 row) (h2 : w1.grownBy w2 row) : w.grownBy w2 row :=
  ⟨h2.os.trans h1.os, h2.tape.trans h1.tape, h2.output.trans h1.output, Nat.le_trans h1.size h2.size, fun k hk hne => (h2.block k (Nat.lt_of_lt_of_le hk h1.size) hne).trans (h1.block k hk hne)⟩
theorem stored5 {w : World} {B e n cap g : Nat} {xs : List Value} (h : w.ownsRow B e 5 (.slice (some ⟨g, 0, none⟩) n cap) n xs) (o : Nat) (a b c d u : Value) :
    (setPg w g o a b c d u).ownsRow B e 5 (.slice (some ⟨g, 0, none⟩) n cap) n (vs5 xs o a b c d u) ∧ w.grownBy (setPg w g o a b c d u) (some g) := by
  obtain ⟨o1, b1⟩ := h.stored o a
  obtain ⟨o2, b2⟩ := o1.stored (o + 1) b
  obtain ⟨o3, b3⟩ := o2.stored (o + 2) c
  obtain ⟨o4, b4⟩ := o3.stored (o + 3) d
  obtain ⟨o5, b5⟩ := o4.stored (o + 4) u
  exact ⟨o5, gb_two b1 (gb_two b2 (gb_two b3 (gb_two b4 b5)))⟩
theorem box2 {w : World} {B : Nat} {x0 x1 : Value} {T : TypeId} (h : w.heap[B]? = some (.cells #[x0, x1] T (0, 0))) :
    w.cell? ⟨B, 0, none⟩ = some x0 ∧ w.cell? ⟨B, 1, none⟩ = some x1 ∧ w.frozen? ⟨B, 0, none⟩ = false ∧ w.frozen? ⟨B, 1, none⟩ = false := by
  refine ⟨?_, ?_, ?_, ?_⟩ <;> simp [World.cell?, World.frozen?, h]
theorem page_any (w : World) (ok : Nat → Prop) (k d h : Value) (p : Pg) (hk : RK w ok k p.keys) (hd : RI w ok d p.kids) (hh : RB w ok h p.high) (h1 : p.keys.length ≤ 100000) (h2 : ∀ k ∈ p.keys, k.length ≤ 1000000) (h3 : p.kids.length ≤ 1000000) (h4 : p.high.length ≤ 1000000) :
    Calls Try.prog 32 #[.agg #[.bool p.leaf, k, d, h, .int .i64 p.next]] w (PageIs w p) := by
  obtain ⟨ak, ck, _, rfl, -⟩ := keysF hk
  obtain ⟨ad, cd, rfl, -⟩ := intsF hd
  obtain ⟨ah, ch, rfl⟩ := hh.sh
  obtain ⟨leaf, ks, kids, high, next⟩ := p
  simp only at hk hd hh h1 h2 h3 h4 ⊢
  obtain ⟨nk, hnk⟩ : ∃ n, n = ks.length := ⟨_, rfl⟩
  obtain ⟨nd, hnd⟩ : ∃ n, n = kids.length := ⟨_, rfl⟩
  obtain ⟨nh, hnh⟩ : ∃ n, n = high.length := ⟨_, rfl⟩
  have HK : Hid (∀ W, Below w.heap.size w W → Calls Try.prog 45 #[.slice ak nk ck] W fun e w' => ∃ g vs, e = .returned (.slice (some ⟨g, 0, none⟩) nk nk) ∧ Hid (g = W.heap.size ∧ w'.ownsRow W.heap.size 25 1 (.slice (some ⟨g, 0, none⟩) nk nk) nk vs ∧ KsAt w' (fun b => W.heap.size < b) vs ks nk) ∧ Below W.heap.size W w') := fun W hW => by
    rw [hnk]
    exact (keys_any W ok _ ks (hk.below hW) h1 h2).mono fun e w' ⟨vs, q1, q2, q3, q4⟩ => ⟨_, vs, q1, ⟨rfl, q2, q3⟩, q4⟩
  have HD : Hid (∀ W, Below w.heap.size w W → Calls Try.prog 46 #[.slice ad nd cd] W fun e w' => ∃ a c, e = .returned (.slice a nd c) ∧ Hid (w'.ownsRow W.heap.size 3 1 (.slice a nd c) nd (ic kids)) ∧ Below W.heap.size W w') := fun W hW => by
    refine iclone_any W nd _ kids hnd ?_ (by rw [hnd]; exact h3)
    rw [hnd]; exact (hd.below hW).1
  have HH : Hid (∀ W, Below w.heap.size w W → Calls Try.prog 17 #[.slice ah nh ch] W fun e w' => ∃ a c, e = .returned (.slice a nh c) ∧ Hid (w'.ownsRow W.heap.size 5 1 (.slice a nh c) nh (bc high)) ∧ Below W.heap.size W w') := fun W hW => by
    refine bclone_any W nh _ high ?_ (by rw [hnh]; exact h4)
    rw [hnh]; exact (hh.below hW).1
  obtain ⟨W0, hW0⟩ : ∃ W0 : World, W0 = (w.alloc (.cells #[.bool leaf, .slice ak nk ck, .slice ad nd cd, .slice ah nh ch, .int .i64 next] 43)).alloc (.cells #[.bool false, .slice none 0 0, .slice none 0 0, .slice none 0 0, .int .i64 0] 43) := ⟨_, rfl⟩
  have hb0 : Below w.heap.size w W0 := by rw [hW0]; exact ((Below.refl _ _).alloc (Nat.le_refl _) _).alloc (by simp) _
  have hz0 : W0.heap.size = w.heap.size + 2 := by rw [hW0]; simp
  have hx : W0.heap[w.heap.size]? = some (.cells #[.bool leaf, .slice ak nk ck, .slice ad nd cd, .slice ah nh ch, .int .i64 next] 43 (0, 0)) := by rw [hW0, Below.heap_alloc _ _ _ (by simp)]; exact new0 _ _
  have hy : W0.heap[w.heap.size + 1]? = some (.cells #[.bool false, .slice none 0 0, .slice none 0 0, .slice none 0 0, .int .i64 0] 43 (0, 0)) := by rw [hW0]; have := new0 (w.alloc (.cells #[.bool leaf, .slice ak nk ck, .slice ad nd cd, .slice ah nh ch, .int .i64 next] 43)) (.cells #[.bool false, .slice none 0 0, .slice none 0 0, .slice none 0 0, .int .i64 0] 43); rwa [World.size_alloc] at this
  have HB0 := Lib.hid hb0
  have HXY := Lib.hid (And.intro hx hy)
  have HN := Lib.hid (And.intro hnk (And.intro hnd hnh))
  have HZ0 := Lib.hid hz0
  have HW0 := Lib.hid hW0
  unfold PageIs
  simp only
  rw [← hnk, ← hnd, ← hnh] 
  clear hW0 hb0 hx hy hz0 hk hd hh h1 h2 h3 h4 hnk hnd hnh
  go_enter Try.func32, Try.ntmps32
  go_wp2_with fail
  rw [← HW0.out]
  obtain ⟨x0, x1, x2, x3, x4, -, xf1, xf2, xf3, -⟩ := box5 HXY.out.1
  refine wpT_begin (S := (fun wx => wx.cell? ⟨w.heap.size, 1, none⟩ = some (.slice ak nk ck) ∧ wx.cell? ⟨w.heap.size, 2, none⟩ = some (.slice ad nd cd) ∧ wx.cell? ⟨w.heap.size, 3, none⟩ = some (.slice ah nh ch))) [10, 12, 14] (by kernel_rfl) ?_ (fun hHeld => ?_)
  · (try dsimp only)
    (first | (with_reducible exact ⟨cell_dr x1, cell_dr x2, cell_dr x3⟩) | (with_reducible exact ⟨z1, z2, z3⟩) | (with_reducible exact ⟨v1, v2, v3⟩) | (with_reducible exact ⟨u1, u2, u3⟩))
  refine wpAnyT_pure (i := 0) (oi := _) (v := ?_) rfl (by kernel_rfl) (by kernel_rfl) (by kernel_rfl) (by kernel_rfl) (fun _ _ _ h => h) (Or.inl ⟨by rfl, ?_⟩) (fun _ => by assumption) ?_
  rotate_left
  · (intro w hSw; go_simp)
    all_goals (with_reducible rfl)
  (try simp only [List.getElem_toArray, List.getElem_cons_zero, List.getElem_cons_succ, Act.put, List.setIfInBounds_toArray, List.set_cons_zero, List.set_cons_succ])
  refine wpAnyT_take (i := 1) (oi := _) (v := ?_) rfl (by kernel_rfl) (by kernel_rfl) (by kernel_rfl) (by kernel_rfl) (fun _ _ _ h => h) (Or.inl ⟨by rfl, ?_⟩) (by assumption) ?_
  rotate_left
  · (intro w hSw; (try dsimp only at hSw); go_simp)
    all_goals (with_reducible rfl)
  (try simp only [List.getElem_toArray, List.getElem_cons_zero, List.getElem_cons_succ, Act.put, List.setIfInBounds_toArray, List.set_cons_zero, List.set_cons_succ])
  refine wpAnyT_pure (i := 3) (oi := _) (v := ?_) rfl (by kernel_rfl) (by kernel_rfl) (by kernel_rfl) (by kernel_rfl) (fun _ _ _ h => h) (Or.inl ⟨by rfl, ?_⟩) (fun _ => by assumption) ?_
  rotate_left
  · (intro w hSw; go_simp)
    all_goals (with_reducible rfl)
  (try simp only [List.getElem_toArray, List.getElem_cons_zero, List.getElem_cons_succ, Act.put, List.setIfInBounds_toArray, List.set_cons_zero, List.set_cons_succ])
  refine wpAnyT_take (i := 4) (oi := _) (v := ?_) rfl (by kernel_rfl) (by kernel_rfl) (by kernel_rfl) (by kernel_rfl) (fun _ _ _ h => h) (Or.inl ⟨by rfl, ?_⟩) (by assumption) ?_
  rotate_left
  · (intro w hSw; (try dsimp only at hSw); go_simp)
    all_goals (with_reducible rfl)
  (try simp only [List.getElem_toArray, List.getElem_cons_zero, List.getElem_cons_succ, Act.put, List.setIfInBounds_toArray, List.set_cons_zero, List.set_cons_succ])
  refine wpAnyT_pure (i := 6) (oi := _) (v := ?_) rfl (by kernel_rfl) (by kernel_rfl) (by kernel_rfl) (by kernel_rfl) (fun _ _ _ h => h) (Or.inl ⟨by rfl, ?_⟩) (fun _ => by assumption) ?_
  rotate_left
  · (intro w hSw; go_simp)
    all_goals (with_reducible rfl)
  (try simp only [List.getElem_toArray, List.getElem_cons_zero, List.getElem_cons_succ, Act.put, List.setIfInBounds_toArray, List.set_cons_zero, List.set_cons_succ])
  refine wpAnyT_take (i := 7) (oi := _) (v := ?_) rfl (by kernel_rfl) (by kernel_rfl) (by kernel_rfl) (by kernel_rfl) (fun _ _ _ h => h) (Or.inl ⟨by rfl, ?_⟩) (by assumption) ?_
  rotate_left
  · (intro w hSw; (try dsimp only at hSw); go_simp)
    all_goals (with_reducible rfl)
  (try simp only [List.getElem_toArray, List.getElem_cons_zero, List.getElem_cons_succ, Act.put, List.setIfInBounds_toArray, List.set_cons_zero, List.set_cons_succ])
  refine wpAnyT_ready (rs := [2]) (by kernel_rfl) (by simp) ?_
  refine AllReadyT.cons rfl (fun K hK => ?_) AllReadyT.nil
  go_simp
  (go_at_call 45; ((with_reducible refine (HK.out W0.drew HB0.out.drew).mono ?_); rintro e w1 ⟨g, vs, rfl, HR1, hb1⟩; have HB1 := Lib.hid (into HB0.out.drew hb1); have HX1 := Lib.hid (And.intro ((hb1.block _ (by show w.heap.size < W0.heap.size; have := HZ0.out; omega)).trans HXY.out.1) ((hb1.block _ (by show w.heap.size + 1 < W0.heap.size; have := HZ0.out; omega)).trans HXY.out.2)); obtain ⟨-, u1, u2, u3, -⟩ := box5 HX1.out.1; have HZ1 := Lib.hid hb1.size; clear hb1))
  go_wp2_with fail
  refine hK.out _ _ (fun _ => ?_) (fun hHeld0 => ?_)
  · (try dsimp only)
    (first | (with_reducible exact ⟨cell_dr x1, cell_dr x2, cell_dr x3⟩) | (with_reducible exact ⟨z1, z2, z3⟩) | (with_reducible exact ⟨v1, v2, v3⟩) | (with_reducible exact ⟨u1, u2, u3⟩))
  have hHeld := hHeld0 (by kernel_rfl)
  clear hK K hHeld0
  (try simp only [List.getElem_toArray, List.getElem_cons_zero, List.getElem_cons_succ, Act.put, List.setIfInBounds_toArray, List.set_cons_zero, List.set_cons_succ])
  refine wpAnyT_pure (i := 9) (oi := _) (v := ?_) rfl (by kernel_rfl) (by kernel_rfl) (by kernel_rfl) (by kernel_rfl) (fun _ _ _ h => h) (Or.inl ⟨by rfl, ?_⟩) (fun _ => by assumption) ?_
  rotate_left
  · (intro w hSw; go_simp)
    all_goals (with_reducible rfl)
  (try simp only [List.getElem_toArray, List.getElem_cons_zero, List.getElem_cons_succ, Act.put, List.setIfInBounds_toArray, List.set_cons_zero, List.set_cons_succ])
  refine wpAnyT_ready (rs := [5]) (by kernel_rfl) (by simp) ?_
  refine AllReadyT.cons rfl (fun K hK => ?_) AllReadyT.nil
  go_simp
  (go_at_call 46; ((with_reducible refine (HD.out w1 HB1.out).mono ?_); rintro e w2 ⟨a2, c2, rfl, HR2, hb2⟩; have HB2 := Lib.hid (into HB1.out hb2); have HX2 := Lib.hid (And.intro (hb2.block _ (Array.getElem?_eq_some_iff.1 HX1.out.1).1 |>.trans HX1.out.1) (hb2.block _ (Array.getElem?_eq_some_iff.1 HX1.out.2).1 |>.trans HX1.out.2)); obtain ⟨-, v1, v2, v3, -⟩ := box5 HX2.out.1; have HBB2 := Lib.hid hb2; clear hb2))
  go_wp2_with fail
  refine hK.out _ _ (fun _ => ?_) (fun hHeld0 => ?_)
  · (try dsimp only)
    (first | (with_reducible exact ⟨cell_dr x1, cell_dr x2, cell_dr x3⟩) | (with_reducible exact ⟨z1, z2, z3⟩) | (with_reducible exact ⟨v1, v2, v3⟩) | (with_reducible exact ⟨u1, u2, u3⟩))
  have hHeld := hHeld0 (by kernel_rfl)
  clear hK K hHeld0
  (try simp only [List.getElem_toArray, List.getElem_cons_zero, List.getElem_cons_succ, Act.put, List.setIfInBounds_toArray, List.set_cons_zero, List.set_cons_succ])
  refine wpAnyT_ready (rs := [8]) (by kernel_rfl) (by simp) ?_
  refine AllReadyT.cons rfl (fun K hK => ?_) AllReadyT.nil
  go_simp
  (go_at_call 17; ((with_reducible refine (HH.out w2 HB2.out).mono ?_); rintro e w3 ⟨a3, c3, rfl, HR3, hb3⟩; have HB3 := Lib.hid (into HB2.out hb3); have HX3 := Lib.hid (And.intro (hb3.block _ (Array.getElem?_eq_some_iff.1 HX2.out.1).1 |>.trans HX2.out.1) (hb3.block _ (Array.getElem?_eq_some_iff.1 HX2.out.2).1 |>.trans HX2.out.2)); obtain ⟨z0, z1, z2, z3, z4, -, zf1, zf2, zf3, -⟩ := box5 HX3.out.1; have HBB3 := Lib.hid hb3; clear hb3))
  go_wp2_with fail
  refine hK.out _ _ (fun _ => ?_) (fun hHeld0 => ?_)
  · (try dsimp only)
    (first | (with_reducible exact ⟨cell_dr x1, cell_dr x2, cell_dr x3⟩) | (with_reducible exact ⟨z1, z2, z3⟩) | (with_reducible exact ⟨v1, v2, v3⟩) | (with_reducible exact ⟨u1, u2, u3⟩))
  have hHeld := hHeld0 (by kernel_rfl)
  clear hK K hHeld0
  (try simp only [List.getElem_toArray, List.getElem_cons_zero, List.getElem_cons_succ, Act.put, List.setIfInBounds_toArray, List.set_cons_zero, List.set_cons_succ])
  refine wpAnyT_ready (rs := [10]) (by kernel_rfl) (by simp) ?_
  refine AllReadyT.cons rfl (fun K hK => ?_) AllReadyT.nil
  go_simp
  refine hK.out _ _ (noneB_off (by kernel_rfl)) (fun _ => ?_)
  clear hK K
  (try simp only [List.getElem_toArray, List.getElem_cons_zero, List.getElem_cons_succ, Act.put, List.setIfInBounds_toArray, List.set_cons_zero, List.set_cons_succ])
  refine wpAnyT_pure (i := 11) (oi := _) (v := ?_) rfl (by kernel_rfl) (by kernel_rfl) (by kernel_rfl) (by kernel_rfl) (fun _ _ _ h => h) (Or.inl ⟨by rfl, ?_⟩) (noneB_off (by kernel_rfl)) ?_
  rotate_left
  · (intro w hSw; go_simp)
    all_goals (with_reducible rfl)
  (try simp only [List.getElem_toArray, List.getElem_cons_zero, List.getElem_cons_succ, Act.put, List.setIfInBounds_toArray, List.set_cons_zero, List.set_cons_succ])
  refine wpAnyT_ready (rs := [12]) (by kernel_rfl) (by simp) ?_
  refine AllReadyT.cons rfl (fun K hK => ?_) AllReadyT.nil
  go_simp
  refine hK.out _ _ (noneB_off (by kernel_rfl)) (fun _ => ?_)
  clear hK K
  (try simp only [List.getElem_toArray, List.getElem_cons_zero, List.getElem_cons_succ, Act.put, List.setIfInBounds_toArray, List.set_cons_zero, List.set_cons_succ])
  refine wpAnyT_pure (i := 13) (oi := _) (v := ?_) rfl (by kernel_rfl) (by kernel_rfl) (by kernel_rfl) (by kernel_rfl) (fun _ _ _ h => h) (Or.inl ⟨by rfl, ?_⟩) (noneB_off (by kernel_rfl)) ?_
  rotate_left
  · (intro w hSw; go_simp)
    all_goals (with_reducible rfl)
  (try simp only [List.getElem_toArray, List.getElem_cons_zero, List.getElem_cons_succ, Act.put, List.setIfInBounds_toArray, List.set_cons_zero, List.set_cons_succ])
  refine wpAnyT_ready (rs := [14]) (by kernel_rfl) (by simp) ?_
  refine AllReadyT.cons rfl (fun K hK => ?_) AllReadyT.nil
  go_simp
  refine hK.out _ _ (noneB_off (by kernel_rfl)) (fun _ => ?_)
  clear hK K
  (try simp only [List.getElem_toArray, List.getElem_cons_zero, List.getElem_cons_succ, Act.put, List.setIfInBounds_toArray, List.set_cons_zero, List.set_cons_succ])
  refine wpAnyT_done (by kernel_rfl) ?_ _
  have HM := Lib.hid (mid_of HN.out HZ0.out HR1.out HZ1.out HR2.out HBB2.out HR3.out HBB3.out HB3.out HX3.out)
  obtain ⟨W4, hW4⟩ : ∃ W4, W4 = ((w3.setCell ⟨w.heap.size, 1, none⟩ (.slice (some ⟨g, 0, none⟩) nk nk)).setCell ⟨w.heap.size, 2, none⟩ (.slice a2 nd c2)).setCell ⟨w.heap.size, 3, none⟩ (.slice a3 nh c3) := ⟨_, rfl⟩
  rw [← hW4] at HM ⊢
  clear hW4 x0 x1 x2 x3 x4 xf1 xf2 xf3 u1 u2 u3 v1 v2 v3 z0 z1 z2 z3 z4 zf1 zf2 zf3 hHeld
  obtain ⟨vs', g', a2', c2', a3', c3', m1, m2, m3, m4, m5, m6, m7, m8⟩ := HM.out
  obtain ⟨n1, n2, n3⟩ := HN.out
  simp only [← n1, ← n2, ← n3] at m1 m3 m4 m5 m6 m7
  have y := box5 m1
  have z := box5 m2
  have HZ := Lib.hid m2
  obtain ⟨y0, y1, y2, y3, y4, -⟩ := y
  obtain ⟨z0, z1, z2, z3, z4, f0, f1, f2, f3, f4⟩ := z
  have M := Lib.hid (And.intro m3 (And.intro m4 (And.intro m5 (And.intro m6 (And.intro m7 m8)))))
  clear m1 m2 m3 m4 m5 m6 m7 m8 n1 n2 n3 HM HR1 HR2 HR3 HBB2 HBB3 HX1 HX2 HX3 HB1 HB2 HB3 HZ1
  go_wp2_with fail
  obtain ⟨W5, hW5⟩ : ∃ W5, W5 = setPg W4 (w.heap.size + 1) 0 (.bool leaf) (.slice (some ⟨g', 0, none⟩) nk nk) (.slice a2' nd c2') (.slice a3' nh c3') (.int .i64 next) := ⟨_, rfl⟩
  obtain ⟨q1, q2, q3⟩ := setPg_box (a := .bool leaf) (b := .slice (some ⟨g', 0, none⟩) nk nk) (c := .slice a2' nd c2') (d := .slice a3' nh c3') (e := .int .i64 next) HZ.out
  rw [← hW5] at q1 q2 q3
  have e5 := hW5
  unfold setPg at e5
  simp only [Nat.zero_add] at e5
  rw [← e5]
  obtain ⟨r0, r1, r2, r3, r4, -⟩ := box5 q1
  clear e5 hW5 z0 z1 z2 z3 z4 f0 f1 f2 f3 f4 y0 y1 y2 y3 y4
  refine bodyPost_ret (v := .agg #[.bool leaf, .slice (some ⟨g', 0, none⟩) nk nk, .slice a2' nd c2', .slice a3' nh c3', .int .i64 next]) (by simp [results, Try.results32, go_sem, r0, r1, r2, r3, r4]; try rfl) rfl ?_
  obtain ⟨rfl, rfl, rfl⟩ := HN.out
  obtain ⟨m3, m4, m5, m6, m7, m8⟩ := M.out
  exact PgMid.done (p := ⟨leaf, ks, kids, high, next⟩) m3 m4 m5 m6 m7 (m8.trans (q3 w.heap.size (by omega))) (fun b hb => q2 b (by omega))
/-- Pages anew. -/
def RowIs (w : World) (ps : List Pg) (e : Ending) (w' : World) : Prop :=
  ∃ own vs, e = .returned (.slice (some ⟨w.heap.size, 0, none⟩) ps.length ps.length) ∧ PgsO w' w.heap.size own (.slice (some ⟨w.heap.size, 0, none⟩) ps.length ps.length) ps (fun _ => True) vs ∧ (∀ b, b < w.heap.size → own b = 0) ∧ Below w.heap.size w w'
/-- So many pages anew. -/
structure Made (w : World) (n : Nat) (ps : List Pg) (wr : World) (own : Tag) (vs : List Value) (k : Nat) : Prop where
  row : wr.ownsRow w.heap.size 43 5 (.slice (some ⟨w.heap.size, 0, none⟩) n n) n vs
  one : own w.heap.size = 1
  old : ∀ b, b < w.heap.size → own b = 0
  pg : ∀ i p, i < k → ps[i]? = some p → PgO wr w.heap.size own True vs i p
  bel : Below w.heap.size w wr
theorem Made.step {w wr w2 : World} {n k : Nat} {ps : List Pg} {own : Tag} {vs : List Value} {p : Pg} {x : Value} {o : Obj} (h : Made w n ps wr own vs k) (hk : k < n) (hp : ps[k]? = some p) (hx : PageIs (wr.alloc o) p (.returned x) w2) :
    ∃ g ad cd ah ch, x = .agg #[.bool p.leaf, .slice (some ⟨g, 0, none⟩) p.keys.length p.keys.length, .slice ad p.kids.length cd, .slice ah p.high.length ch, .int .i64 p.next] ∧
      ∃ own' vs', Made w n ps (setPg w2 w.heap.size (k * 5) (.bool p.leaf) (.slice (some ⟨g, 0, none⟩) p.keys.length p.keys.length) (.slice ad p.kids.length cd) (.slice ah p.high.length ch) (.int .i64 p.next)) own' vs' (k + 1) := by
  obtain ⟨ks, g, ad, cd, ah, ch, e, r1, r2, r3, r4, r5, hb⟩ := hx
  simp only [Ending.returned.injEq] at e
  refine ⟨g, ad, cd, ah, ch, e, ?_⟩
  clear e
  obtain ⟨h1, h2, h3, h4, h5⟩ := h
  have hG : w.heap.size < wr.heap.size := (h1.lt _ rfl).2
  have hz1 : (wr.alloc o).heap.size = wr.heap.size + 1 := by simp
  have hba : Below wr.heap.size wr w2 := ((Below.refl _ _).alloc (Nat.le_refl _) o).trans (hb.mono (by simp))
  have hlen := h1.1
  obtain ⟨row, hg⟩ := stored5 (own_below h1 hba) (k * 5) (.bool p.leaf) (.slice (some ⟨g, 0, none⟩) p.keys.length p.keys.length) (.slice ad p.kids.length cd) (.slice ah p.high.length ch) (.int .i64 p.next)
  obtain ⟨a0, a1, a2, a3, a4⟩ := vs5_at (vs := vs) (o := k * 5) (.bool p.leaf) (.slice (some ⟨g, 0, none⟩) p.keys.length p.keys.length) (.slice ad p.kids.length cd) (.slice ah p.high.length ch) (.int .i64 p.next) (by omega)
  have gl : (wr.alloc o).heap.size ≤ g ∧ g < w2.heap.size := r1.lt g rfl
  rw [hz1] at gl r1 r2 r4 r5
  have far : ∀ b, b < w2.heap.size → b ≠ w.heap.size → (setPg w2 w.heap.size (k * 5) (.bool p.leaf) (.slice (some ⟨g, 0, none⟩) p.keys.length p.keys.length) (.slice ad p.kids.length cd) (.slice ah p.high.length ch) (.int .i64 p.next)).heap[b]? = w2.heap[b]? := fun b hb' hne => hg.block b hb' (fun e => hne (by simpa using e))
  have hdl : ∀ b, (Value.slice ad p.kids.length cd).ownBlock = some b → wr.heap.size + 1 ≤ b ∧ b < w2.heap.size := fun b e => r2.lt b e
  refine ⟨fun b => if b < wr.heap.size + 1 then own b else if b = g then 2 * k + 2 else if (Value.slice ad p.kids.length cd).ownBlock = some b then 2 * k + 3 else 0, _, row, ?_, fun b hb' => ?_, fun i q hi hq => ?_, ?_⟩
  · rw [if_pos (by omega)]; exact h2
  · rw [if_pos (by omega)]; exact h3 b hb'
  · by_cases hik : i = k
    · subst hik
      rw [hp] at hq
      cases hq
      have z : ∀ b, b < w2.heap.size → wr.heap.size + 1 ≤ b ∧ b ≠ g ∧ (Value.slice ad p.kids.length cd).ownBlock ≠ some b → (setPg w2 w.heap.size (i * 5) (.bool p.leaf) (.slice (some ⟨g, 0, none⟩) p.keys.length p.keys.length) (.slice ad p.kids.length cd) (.slice ah p.high.length ch) (.int .i64 p.next)).heap[b]? = w2.heap[b]? ∧
          Fz w.heap.size (fun b => if b < wr.heap.size + 1 then own b else if b = g then 2 * i + 2 else if (Value.slice ad p.kids.length cd).ownBlock = some b then 2 * i + 3 else 0) b := fun b hlt hb' => ⟨far b hlt (by omega), by omega, by
        simp only
        rw [if_neg (by omega), if_neg hb'.2.1, if_neg hb'.2.2]⟩
      refine ⟨_, _, _, ks, a0, a1, a2, a3, a4, own_mono (own_far r1 fun b hb' => far b (r1.lt b hb').2 (by have := (r1.lt b hb').1; omega)) (by omega), fun b hb' => ?_, fun _ => ⟨_, rfl⟩, r4.to z,
        own_mono (own_far r2 fun b hb' => far b (r2.lt b hb').2 (by have := (r2.lt b hb').1; omega)) (by omega), fun b hb' => ?_, r5.to z⟩
      · have : g = b := by simpa [Value.ownBlock] using hb'
        subst this
        show (if g < wr.heap.size + 1 then _ else _) = _
        rw [if_neg (by omega), if_pos rfl]
      · have := hdl b hb'
        simp only
        rw [if_neg (by omega), if_neg (fun e => r3 (by rw [← e]; exact hb')), if_pos hb']
    · refine (h4 i q (by omega) hq).to id (fun j hj => vs5_off _ _ _ _ _ (by omega)) fun b hlt hB hor => ?_
      have hne : b ≠ w.heap.size := by
        rintro rfl
        omega
      refine ⟨(far b (Nat.lt_of_lt_of_le hlt hba.size) hne).trans (hba.block b hlt), ?_⟩
      rw [if_pos (by omega)]
  · refine (h5.trans (hba.mono (by omega))).grown hg ?_ ?_
    · have := hba.size; omega
    · intro b e
      have : w.heap.size = b := by simpa [Value.ownBlock] using e
      omega
theorem Try.info43 : (Try.prog.info? 43).map (fun i => (i.zero, i.size, i.bytes)) = some (some (.agg #[.bool false, .slice none 0 0, .slice none 0 0, .slice none 0 0, .int .i64 0]), 5, 88) := by kernel_rfl
/-- Pages that are small enough to be laid anew. -/
def Fine (ps : List Pg) : Prop := ∀ p ∈ ps, p.keys.length ≤ 100000 ∧ (∀ k ∈ p.keys, k.length ≤ 1000000) ∧ p.kids.length ≤ 1000000 ∧ p.high.length ≤ 1000000
theorem eachP_any (w : World) (ok : Nat → Prop) (ao : Option Addr) (cap : Nat) (T : Tr) (ht : RT w ok (.agg #[.slice ao T.pages.length cap, .int .i64 T.root]) T) (hn : T.pages.length ≤ 100000) (hf : Fine T.pages) :
    Calls Try.prog 31 #[.slice ao T.pages.length cap, .func (.func 32) #[] #[]] w (RowIs w T.pages) := by
  obtain ⟨ao', cap', kf, df, gf, e0, g1, g2, g3⟩ := pagesF ht
  simp only [Value.agg.injEq, Array.mk.injEq, List.cons.injEq, Value.slice.injEq, and_true, true_and] at e0
  obtain ⟨rfl, rfl⟩ := e0
  obtain ⟨n, hnn⟩ : ∃ n, n = T.pages.length := ⟨_, rfl⟩
  obtain ⟨CS, hCS⟩ : ∃ CS, CS = madeCells (Value.agg #[.bool false, .slice none 0 0, .slice none 0 0, .slice none 0 0, .int .i64 0]).cells (n * 5) := ⟨_, rfl⟩
  have hmk : ∀ W : World, (Instr.makeSlice 22 (.int .i64 (n : Int)) (.int .i64 (n : Int))).run Try.prog W = .ok (.slice (some ⟨W.heap.size, 0, none⟩) n n) (W.alloc (.cells CS 43)) := fun W => by
    obtain ⟨i0, e0, e1, e2, e3⟩ := info_parts Try.info43
    have := run_make (P := Try.prog) W 22 43 i0 _ Try.underlying22 e0 e1 .i64 .i64 (n : Int) (n : Int) (by omega) (by omega) (by rw [e3]; omega) (by omega)
    rw [e2] at this
    rw [hCS]
    simpa using this
  have hsz : CS.size = n * 5 := by rw [hCS, size_madeCells]
  have hown0 := own_make (w := w) (e := 43) (s := 5) hsz (by unfold maxLen; omega)
  have hst : Made w n T.pages (w.alloc (.cells CS 43)) (fun b => if b = w.heap.size then 1 else 0) CS.toList 0 := ⟨hown0, by simp, fun b hb => if_neg (by omega), fun i p hi _ => by omega, (Below.refl _ _).alloc (Nat.le_refl _) _⟩
  have HST := Lib.hid hst
  rw [← hnn] at g1 g3 hn ⊢
  unfold RowIs
  rw [← hnn]
  have hget : ∀ i, i < n → T.pages[i]? = some (T.pages.getD i noPg) ∧ T.pages.getD i noPg ∈ T.pages := fun i hi => by
    have hi' : i < T.pages.length := by rw [← hnn]; exact hi
    exact ⟨by simp [List.getD, hi'], getD_mem hi'⟩
  have HG := Lib.hid hget
  have HF := Lib.hid g3
  have HFI := Lib.hid hf
  have HN := Lib.hid hnn
  unfold maxLen at g2
  clear g3 hget hown0 hsz hCS hst hf hnn ht
  go_enter Try.func31, Try.ntmps31
  go_wp2_with fail
  go_loopw [13] (fun i wr => ∃ (k : Nat), k ≤ n ∧ i = .int .i64 (k : Int) ∧ Hid (∃ own vs, Made w n T.pages wr own vs k)) (fun i _ => n - (intOf i).toNat)
  case atStart => exact ⟨0, by omega, rfl, ⟨_, _, HST.out⟩⟩
  case round =>
    obtain ⟨k, hk, rfl, HM⟩ := hrel
    obtain ⟨own, vs, hm⟩ := HM.out
    by_cases hlt : k < n
    · obtain ⟨b, o, rfl, hb, hokb, hpa⟩ := HF.out k hlt
      obtain ⟨e1, e2⟩ := HG.out k hlt
      obtain ⟨q1, q2, q3, q4⟩ := HFI.out _ e2
      have hpw := PageAt.below (ok := ok) (b := b) (o := o) (i := k) (k := kf k) (d := df k) (h := gf k) hpa hm.bel
      obtain ⟨p, hp⟩ : ∃ p, p = T.pages.getD k noPg := ⟨_, rfl⟩
      rw [← hp] at hpw e1 q1 q2 q3 q4
      obtain ⟨ak, ck, ad, cd, ag, cg, x1, x2, x3⟩ := page_box hpw
      obtain ⟨kk, hkk⟩ : ∃ x, x = kf k := ⟨_, rfl⟩
      obtain ⟨dd, hdd⟩ : ∃ x, x = df k := ⟨_, rfl⟩
      obtain ⟨gg, hgg⟩ : ∃ x, x = gf k := ⟨_, rfl⟩
      rw [← hkk, ← hdd, ← hgg] at hpw
      rw [← hkk] at x1
      rw [← hdd] at x2
      rw [← hgg] at x3
      obtain ⟨c0, c1, c2, c3, c4, h5, h6, h7⟩ := hpw
      have hba : ∀ ob, Below wr.heap.size wr (wr.alloc ob) := fun ob => (Below.refl _ _).alloc (Nat.le_refl _) _
      have hcall := page_any (wr.alloc (.cells #[.bool p.leaf, kk, dd, gg, .int .i64 p.next] 43)) ok kk dd gg p (h5.below (hba _)) (h6.below (hba _)) (h7.below (hba _)) q1 q2 q3 q4
      have HC := Lib.hid hcall
      have HP := Lib.hid e1
      have HM' := Lib.hid hm
      subst x1 x2 x3
      clear hcall e1 hm h5 h6 h7 hpa hkk hdd hgg q1 q2 q3 q4 hp e2 hba
      go_wp2_with fail
      refine HC.out.mono ?_
      rintro e w2 hpi
      have hx : ∃ x, e = .returned x := by
        obtain ⟨_, _, _, _, _, _, h, _⟩ := hpi
        exact ⟨_, h⟩
      obtain ⟨x, rfl⟩ := hx
      have hb2 : Below (wr.heap.size + 1) (wr.alloc (.cells #[.bool p.leaf, .slice ak p.keys.length ck, .slice ad p.kids.length cd, .slice ag p.high.length cg, .int .i64 p.next] 43)) w2 := by
        obtain ⟨_, _, _, _, _, _, _, _, _, _, _, _, h⟩ := hpi
        simpa using h
      obtain ⟨g, ad', cd', ah', ch', rfl, own', vs', hm'⟩ := HM'.out.step hlt HP.out hpi
      have hrow := own_below HM'.out.row (((Below.refl _ _).alloc (Nat.le_refl _) _).trans (hb2.mono (by omega)))
      have hlv := hrow.1
      have cs : ∀ j, j < 5 → ∃ y, w2.cell? ⟨w.heap.size, k * 5 + j, none⟩ = some y ∧ w2.frozen? ⟨w.heap.size, k * 5 + j, none⟩ = false := fun j hj => by
        refine ⟨_, (hrow.cellAt _ (by omega)).trans (List.getElem?_eq_getElem (by omega)), hrow.frozenAt _⟩
      obtain ⟨y0, d0, f0⟩ := cs 0 (by omega)
      obtain ⟨y1, d1, f1⟩ := cs 1 (by omega)
      obtain ⟨y2, d2, f2⟩ := cs 2 (by omega)
      obtain ⟨y3, d3, f3⟩ := cs 3 (by omega)
      obtain ⟨y4, d4, f4⟩ := cs 4 (by omega)
      rw [Nat.add_zero] at d0 f0
      have HM2 := Lib.hid hm'
      clear hm' hrow hlv cs hb2 hpi
      go_wp2_with fail
      go_roundw
      case rel => exact ⟨k + 1, by omega, by go_num, ⟨_, _, HM2.out⟩⟩
      case measure => (simp [intOf]) <;> omega
    · obtain rfl : k = n := by omega
      go_wp2_with fail
      go_ret
      refine ⟨own, vs, rfl, ⟨?_, fun b hb => ?_, fun i p hp => ?_⟩, hm.old, hm.bel⟩
      · rw [← HN.out]; exact hm.row
      · have : w.heap.size = b := by simpa [Value.ownBlock] using hb
        rw [← this]; exact hm.one
      · have hlt := (List.getElem?_eq_some_iff.1 hp).1
        exact hm.pg i p (by rw [HN.out]; exact hlt) hp
/-- A tree anew. -/
def TreeIs (w : World) (B : Nat) (T : Tr) (e : Ending) (w' : World) : Prop :=
  ∃ own vs P, e = .returned (.agg #[.slice (some ⟨P, 0, none⟩) T.pages.length T.pages.length, .int .i64 T.root]) ∧ PgsO w' B own (.slice (some ⟨P, 0, none⟩) T.pages.length T.pages.length) T.pages (fun _ => True) vs ∧ (∀ b, b < B → own b = 0) ∧ Below w.heap.size w w' ∧ w.heap.size ≤ B ∧ B ≤ P
theorem fresh_any (w : World) (ok : Nat → Prop) (tv : Value) (T : Tr) (ht : RT w ok tv T) (hn : T.pages.length ≤ 100000) (hf : Fine T.pages) :
    Calls Try.prog 14 #[tv] w (TreeIs w (w.heap.size + 2) T) := by
  obtain ⟨ao, cap, _, _, _, rfl, -⟩ := pagesF ht
  obtain ⟨n, hnn⟩ : ∃ n, n = T.pages.length := ⟨_, rfl⟩
  obtain ⟨W0, hW0⟩ : ∃ W0 : World, W0 = (w.alloc (.cells #[.slice ao n cap, .int .i64 T.root] 24)).alloc (.cells #[.slice none 0 0, .int .i64 0] 24) := ⟨_, rfl⟩
  have hb0 : Below w.heap.size w W0 := by rw [hW0]; exact ((Below.refl _ _).alloc (Nat.le_refl _) _).alloc (by simp) _
  have hz0 : W0.drew.heap.size = w.heap.size + 2 := by rw [hW0]; simp
  have hx : W0.heap[w.heap.size]? = some (.cells #[.slice ao n cap, .int .i64 T.root] 24 (0, 0)) := by rw [hW0, Below.heap_alloc _ _ _ (by simp)]; exact new0 _ _
  have hy : W0.heap[w.heap.size + 1]? = some (.cells #[.slice none 0 0, .int .i64 0] 24 (0, 0)) := by rw [hW0]; have := new0 (w.alloc (.cells #[.slice ao n cap, .int .i64 T.root] 24)) (.cells #[.slice none 0 0, .int .i64 0] 24); rwa [World.size_alloc] at this
  have hc := eachP_any W0.drew ok ao cap T (ht.below hb0.drew) hn hf
  rw [← hnn] at hc
  unfold TreeIs
  rw [← hnn]
  have hc2 : Calls Try.prog 31 #[.slice ao n cap, .func (.func 32) #[] #[]] W0.drew fun e w' => ∃ own vs P, e = .returned (.slice (some ⟨P, 0, none⟩) n n) ∧ Hid (P = w.heap.size + 2 ∧ PgsO w' P own (.slice (some ⟨P, 0, none⟩) n n) T.pages (fun _ => True) vs ∧ ∀ b, b < P → own b = 0) ∧ Below W0.drew.heap.size W0.drew w' :=
    hc.mono fun e w' ⟨own, vs, g1, g2, g3, g4⟩ => by
      rw [← hnn] at g1 g2
      exact ⟨own, vs, _, g1, ⟨hz0, g2, g3⟩, g4⟩
  have HC := Lib.hid hc2
  have HB0 := Lib.hid hb0
  have HXY := Lib.hid (And.intro hx hy)
  have HZ0 := Lib.hid hz0
  have HW0 := Lib.hid hW0
  have HN := Lib.hid hnn
  clear hW0 hb0 hx hy hz0 hc hc2 ht hn hf hnn
  go_enter Try.func14, Try.ntmps14
  go_wp2_with fail
  rw [← HW0.out]
  obtain ⟨x0, x1, -⟩ := box2 HXY.out.1
  refine wpT_begin (S := (fun wx => wx.cell? ⟨w.heap.size, 0, none⟩ = some (.slice ao n cap) ∧ wx.cell? ⟨w.heap.size, 1, none⟩ = some (.int .i64 T.root))) [6] (by kernel_rfl) ?_ (fun hHeld => ?_)
  · (try dsimp only)
    (first | (with_reducible exact ⟨cell_dr x0, cell_dr x1⟩) | (with_reducible exact ⟨u0, u1⟩))
  refine wpAnyT_pure (i := 0) (oi := _) (v := ?_) rfl (by kernel_rfl) (by kernel_rfl) (by kernel_rfl) (by kernel_rfl) (fun _ _ _ h => h) (Or.inl ⟨by rfl, ?_⟩) (fun _ => by assumption) ?_
  rotate_left
  · (intro w hSw; go_simp)
    all_goals (with_reducible rfl)
  (try simp only [List.getElem_toArray, List.getElem_cons_zero, List.getElem_cons_succ, Act.put, List.setIfInBounds_toArray, List.set_cons_zero, List.set_cons_succ])
  refine wpAnyT_take (i := 1) (oi := _) (v := ?_) rfl (by kernel_rfl) (by kernel_rfl) (by kernel_rfl) (by kernel_rfl) (fun _ _ _ h => h) (Or.inl ⟨by rfl, ?_⟩) (by assumption) ?_
  rotate_left
  · (intro w hSw; (try dsimp only at hSw); go_simp)
    all_goals (with_reducible rfl)
  (try simp only [List.getElem_toArray, List.getElem_cons_zero, List.getElem_cons_succ, Act.put, List.setIfInBounds_toArray, List.set_cons_zero, List.set_cons_succ])
  refine wpAnyT_pure (i := 3) (oi := _) (v := ?_) rfl (by kernel_rfl) (by kernel_rfl) (by kernel_rfl) (by kernel_rfl) (fun _ _ _ h => h) (Or.inl ⟨by rfl, ?_⟩) (fun _ => by assumption) ?_
  rotate_left
  · (intro w hSw; go_simp)
    all_goals (with_reducible rfl)
  (try simp only [List.getElem_toArray, List.getElem_cons_zero, List.getElem_cons_succ, Act.put, List.setIfInBounds_toArray, List.set_cons_zero, List.set_cons_succ])
  refine wpAnyT_take (i := 4) (oi := _) (v := ?_) rfl (by kernel_rfl) (by kernel_rfl) (by kernel_rfl) (by kernel_rfl) (fun _ _ _ h => h) (Or.inl ⟨by rfl, ?_⟩) (by assumption) ?_
  rotate_left
  · (intro w hSw; (try dsimp only at hSw); go_simp)
    all_goals (with_reducible rfl)
  (try simp only [List.getElem_toArray, List.getElem_cons_zero, List.getElem_cons_succ, Act.put, List.setIfInBounds_toArray, List.set_cons_zero, List.set_cons_succ])
  refine wpAnyT_ready (rs := [2]) (by kernel_rfl) (by simp) ?_
  refine AllReadyT.cons rfl (fun K hK => ?_) AllReadyT.nil
  go_simp
  (go_at_call 31; ((with_reducible refine HC.out.mono ?_); rintro e w1 ⟨own, vs, P, rfl, HP, hb1⟩; have HB1 := Lib.hid hb1; have HX1 := Lib.hid (And.intro ((hb1.block _ (by show w.heap.size < W0.drew.heap.size; have := HZ0.out; omega)).trans HXY.out.1) ((hb1.block _ (by show w.heap.size + 1 < W0.drew.heap.size; have := HZ0.out; omega)).trans HXY.out.2)); obtain ⟨u0, u1, -⟩ := box2 HX1.out.1; obtain ⟨v0, v1, vf0, vf1⟩ := box2 HX1.out.2; clear hb1))
  go_wp2_with fail
  refine hK.out _ _ (fun _ => ?_) (fun hHeld0 => ?_)
  · (try dsimp only)
    (first | (with_reducible exact ⟨cell_dr x0, cell_dr x1⟩) | (with_reducible exact ⟨u0, u1⟩))
  have hHeld := hHeld0 (by kernel_rfl)
  clear hK K hHeld0
  (try simp only [List.getElem_toArray, List.getElem_cons_zero, List.getElem_cons_succ, Act.put, List.setIfInBounds_toArray, List.set_cons_zero, List.set_cons_succ])
  refine wpAnyT_pure (i := 5) (oi := _) (v := ?_) rfl (by kernel_rfl) (by kernel_rfl) (by kernel_rfl) (by kernel_rfl) (fun _ _ _ h => h) (Or.inl ⟨by rfl, ?_⟩) (fun _ => by assumption) ?_
  rotate_left
  · (intro w hSw; go_simp)
    all_goals (with_reducible rfl)
  (try simp only [List.getElem_toArray, List.getElem_cons_zero, List.getElem_cons_succ, Act.put, List.setIfInBounds_toArray, List.set_cons_zero, List.set_cons_succ])
  refine wpAnyT_ready (rs := [6]) (by kernel_rfl) (by simp) ?_
  refine AllReadyT.cons rfl (fun K hK => ?_) AllReadyT.nil
  go_simp
  refine hK.out _ _ (noneB_off (by kernel_rfl)) (fun _ => ?_)
  clear hK K
  (try simp only [List.getElem_toArray, List.getElem_cons_zero, List.getElem_cons_succ, Act.put, List.setIfInBounds_toArray, List.set_cons_zero, List.set_cons_succ])
  refine wpAnyT_done (by kernel_rfl) ?_ _
  have hne : w.heap.size + 1 < W0.drew.heap.size := by rw [HZ0.out]; omega
  have q0 : ((w1.setCell ⟨w.heap.size + 1, 0, none⟩ (.slice (some ⟨P, 0, none⟩) n n)).setCell ⟨w.heap.size + 1, 1, none⟩ (.int .i64 T.root)).cell? ⟨w.heap.size + 1, 0, none⟩ = some (.slice (some ⟨P, 0, none⟩) n n) := (World.cell?_setCell_other _ _ _ _ (by simp)).trans (World.cell?_setCell_same _ _ _ v0)
  have q1 : ((w1.setCell ⟨w.heap.size + 1, 0, none⟩ (.slice (some ⟨P, 0, none⟩) n n)).setCell ⟨w.heap.size + 1, 1, none⟩ (.int .i64 T.root)).cell? ⟨w.heap.size + 1, 1, none⟩ = some (.int .i64 T.root) := World.cell?_setCell_same _ _ _ ((World.cell?_setCell_other _ _ _ _ (by simp)).trans v1)
  clear x0 x1 u0 u1 v0 v1 vf0 vf1 hHeld
  go_wp2_with fail
  refine bodyPost_ret (v := .agg #[.slice (some ⟨P, 0, none⟩) n n, .int .i64 T.root]) (by simp [results, Try.results14, go_sem, q0, q1]; try rfl) rfl ?_
  obtain ⟨hP, hr, ho⟩ := HP.out
  have hb1 := HB1.out
  have hz := HZ0.out
  have hfar : ∀ b, b ≠ w.heap.size + 1 → ((w1.setCell ⟨w.heap.size + 1, 0, none⟩ (.slice (some ⟨P, 0, none⟩) n n)).setCell ⟨w.heap.size + 1, 1, none⟩ (.int .i64 T.root)).heap[b]? = w1.heap[b]? := fun b hb => by
    rw [Below.heap_setCell _ _ _ _ hb, Below.heap_setCell _ _ _ _ hb]
  have hbf : Below w.heap.size w ((w1.setCell ⟨w.heap.size + 1, 0, none⟩ (.slice (some ⟨P, 0, none⟩) n n)).setCell ⟨w.heap.size + 1, 1, none⟩ (.int .i64 T.root)) :=
    (((HB0.out.drew).trans (hb1.mono (by omega))).setCell (p := ⟨w.heap.size + 1, 0, none⟩) (by show w.heap.size ≤ w.heap.size + 1; omega) _).setCell (p := ⟨w.heap.size + 1, 1, none⟩) (by show w.heap.size ≤ w.heap.size + 1; omega) _
  have hr' : PgsO ((w1.setCell ⟨w.heap.size + 1, 0, none⟩ (.slice (some ⟨P, 0, none⟩) n n)).setCell ⟨w.heap.size + 1, 1, none⟩ (.int .i64 T.root)) P own (.slice (some ⟨P, 0, none⟩) n n) T.pages (fun _ => True) vs :=
    ⟨own_far hr.row fun g hg => hfar g (by have := (hr.row.lt g hg).1; omega), hr.tag, fun i p hp => (hr.pg i p hp).to id (fun _ _ => rfl) fun b hlt hB _ => ⟨hfar b (by omega), rfl⟩⟩
  rw [HN.out] at hr' hbf ⊢
  rw [hP] at hr' hbf ho ⊢
  exact ⟨own, vs, w.heap.size + 2, rfl, hr', ho, hbf, by omega, Nat.le_refl _⟩
end Go.Proofs.Ytahammkjkfdmhaa
