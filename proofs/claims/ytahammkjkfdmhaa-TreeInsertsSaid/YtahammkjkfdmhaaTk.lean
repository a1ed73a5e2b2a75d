/- A page that is too full, split. -/
import Derived.Test.YtahammkjkfdmhaaTj
import Derived.Test.YtahammkjkfdmhaaHb
namespace Go.Proofs.Ytahammkjkfdmhaa
open Go.ChangeShapes Go.WideShapes Go.ChangeAt Go.RowKit
set_option linter.unusedVariables false
set_option linter.unusedSimpArgs false
set_option maxHeartbeats 8000000
set_option maxRecDepth 100000
theorem PgsO.high {w w' : World} {B : Nat} {own : Tag} {v : Value} {ps : List Pg} {tight : Nat → Prop} {vs : List Value} (h : PgsO w B own v ps tight vs) (hf : ∀ b, B ≤ b → w'.heap[b]? = w.heap[b]?) : PgsO w' B own v ps tight vs :=
  ⟨own_far h.row fun b hb => hf b (h.row.lt b hb).1, h.tag, fun i p hp => (h.pg i p hp).to id (fun _ _ => rfl) fun b _ hB _ => ⟨hf b hB, rfl⟩⟩
/-- As Fr, but for the box of the tree. -/
structure FrX (Bt : Nat) (own own' : Tag) (w w' : World) : Prop where
  os : w'.os = w.os
  tape : w'.tape = w.tape
  output : w'.output = w.output
  size : w.heap.size ≤ w'.heap.size
  block : ∀ b, b < w.heap.size → own b = 0 → b ≠ Bt → w'.heap[b]? = w.heap[b]?
  tag : ∀ b, b < w.heap.size → own' b = own b
theorem Fr.x {own own' : Tag} {w w' : World} (h : Fr own own' w w') (Bt : Nat) : FrX Bt own own' w w' := ⟨h.os, h.tape, h.output, h.size, fun b hb h0 _ => h.block b hb h0, h.tag⟩
theorem FrX.trans {Bt : Nat} {o1 o2 o3 : Tag} {w1 w2 w3 : World} (h : FrX Bt o1 o2 w1 w2) (g : FrX Bt o2 o3 w2 w3) : FrX Bt o1 o3 w1 w3 :=
  ⟨g.os.trans h.os, g.tape.trans h.tape, g.output.trans h.output, Nat.le_trans h.size g.size, fun b hb h0 hne => (g.block b (Nat.lt_of_lt_of_le hb h.size) (by rw [h.tag b hb]; exact h0) hne).trans (h.block b hb h0 hne),
    fun b hb => (g.tag b (Nat.lt_of_lt_of_le hb h.size)).trans (h.tag b hb)⟩
theorem FrX.store {own : Tag} {w : World} (Bt o : Nat) (v : Value) : FrX Bt own own w (w.setCell ⟨Bt, o, none⟩ v) := ⟨rfl, rfl, rfl, by simp, fun b _ _ hne => Below.heap_setCell _ _ _ _ hne, fun _ _ => rfl⟩
theorem RB.frx {Bt : Nat} {own own' : Tag} {w w' : World} {B : Nat} {v : Value} {l : Key} (h : RB w (Fz B own) v l) (hf : FrX Bt own own' w w') (hB : Bt < B) : RB w' (Fz B own') v l := h.to fun b hb hz => ⟨hf.block b hb hz.2 (by have := hz.1; omega), hz.1, (hf.tag b hb).trans hz.2⟩
theorem own_eq {g b n cap o : Nat} (hb : (Value.slice (some ⟨g, o, none⟩) n cap).ownBlock = some b) : b = g := by
  have : g = b := by simpa [Value.ownBlock] using hb
  exact this.symm
/-- A part of a row of keys, in a later world. -/
theorem keys_cut {w W : World} {B n g cap : Nat} {ok : Nat → Prop} {ks : List Value} {keys : List Key} (hn : n = keys.length) (h : w.ownsRow B 25 1 (.slice (some ⟨g, 0, none⟩) n cap) n ks) (hk : KsAt w ok ks keys keys.length)
    (hW : ∀ b, b < w.heap.size → b = g ∨ ok b → W.heap[b]? = w.heap[b]?) (a m : Nat) (ham : a + m ≤ n) (ha : a < cap) : RK W (fun _ => True) (.slice (some ⟨g, a, none⟩) m (cap - a)) ((keys.drop a).take m) := by
  have hr := Rd.own h
  have hrW : Rd W 1 n (.slice (some ⟨g, 0, none⟩) n cap) ks := Rd.own (own_far h fun b hb => hW b (h.lt b hb).2 (.inl (own_eq hb)))
  obtain ⟨hl, ao, cap', e, h3, h4, h5, h6⟩ := hrW
  simp only [Value.slice.injEq] at e
  obtain ⟨rfl, -, rfl⟩ := e
  have hkl : ((keys.drop a).take m).length = m := by rw [List.length_take, List.length_drop]; omega
  refine ⟨(ks.drop a).take m, ⟨by rw [hkl, List.length_take, List.length_drop]; omega, _, _, by rw [hkl], by omega, by omega, (fun q => by cases q), fun b hb j u hu => ?_⟩, fun _ _ _ _ _ => trivial, fun j k hj => ?_⟩
  · obtain rfl := Option.some.inj hb
    rw [List.getElem?_take] at hu
    split at hu
    · rw [List.getElem?_drop] at hu
      have := h6 _ rfl (a + j) u hu
      rw [Addr.add_lit] at this ⊢
      rw [Nat.zero_add] at this
      exact this
    · cases hu
  · rw [List.getElem?_take] at hj
    split at hj
    · rename_i hjm
      rw [List.getElem?_drop] at hj
      obtain ⟨x, q1, q2⟩ := hk (a + j) k (List.getElem?_eq_some_iff.1 hj).1 hj
      exact ⟨x, by rw [List.getElem?_take, if_pos hjm, List.getElem?_drop]; exact q1, q2.to fun b hb hz => ⟨hW b hb (.inr hz), trivial⟩⟩
    · cases hj
theorem ints_cut {w W : World} {B n g cap : Nat} {l : List Int} (hn : n = l.length) (h : w.ownsRow B 3 1 (.slice (some ⟨g, 0, none⟩) n cap) n (ic l)) (hW : W.heap[g]? = w.heap[g]?) (a m : Nat) (ham : a + m ≤ n) (ha : a < cap) :
    Rd W 1 m (.slice (some ⟨g, a, none⟩) m (cap - a)) (ic ((l.drop a).take m)) := by
  have hrW : Rd W 1 n (.slice (some ⟨g, 0, none⟩) n cap) (ic l) := Rd.own (own_far h fun b hb => by
    have : g = b := by simpa [Value.ownBlock] using hb
    rw [← this]; exact hW)
  obtain ⟨hl, ao, cap', e, h3, h4, h5, h6⟩ := hrW
  simp only [Value.slice.injEq] at e
  obtain ⟨rfl, -, rfl⟩ := e
  refine ⟨by rw [ic_length, List.length_take, List.length_drop]; omega, _, _, rfl, by omega, by omega, (fun q => by cases q), fun b hb j u hu => ?_⟩
  obtain rfl := Option.some.inj hb
  have e1 : ic ((l.drop a).take m) = ((ic l).drop a).take m := by simp [ic, List.map_take, List.map_drop]
  rw [e1, List.getElem?_take] at hu
  split at hu
  · rw [List.getElem?_drop] at hu
    have := h6 _ rfl (a + j) u hu
    rw [Addr.add_lit] at this ⊢
    rw [Nat.zero_add] at this
    exact this
  · cases hu
def SplitIs (w : World) (B Bt : Nat) (own : Tag) (ps : List Pg) (root : Int) (j : Nat) (e : Ending) (w' : World) : Prop :=
  ∃ a c own' vs' P' cap', e = .returned (.tuple #[.slice a (midK ps j).length c, .int .i64 (ps.length : Int)]) ∧ w'.heap[Bt]? = some (.cells #[.slice (some ⟨P', 0, none⟩) (ps.length + 1) cap', .int .i64 root] 24 (0, 0)) ∧
    PgsO w' B own' (.slice (some ⟨P', 0, none⟩) (ps.length + 1) cap') (splitR ps j) (fun _ => False) vs' ∧ RB w' (Fz B own') (.slice a (midK ps j).length c) (midK ps j) ∧ FrX Bt own own' w w'
/-- What a page's lists hang on lies as it lay. -/
def Later (own : Tag) (w W : World) : Prop := ∀ b, b < w.heap.size → own b ≠ 1 → W.heap[b]? = w.heap[b]?
theorem Later.of {own : Tag} {w W : World} (h : Below w.heap.size w W) : Later own w W := fun b hb _ => h.block b hb
theorem Later.to {own : Tag} {w W W' : World} (h : Later own w W) (hz : w.heap.size ≤ W.heap.size) (hb : Below W.heap.size W W') : Later own w W' := fun b hlt hne => (hb.block b (by omega)).trans (h b hlt hne)
def KeysR (W w' : World) (g : Nat) (vs : List Value) (ks : List Key) (n : Nat) : Prop := g = W.heap.size ∧ n = ks.length ∧ w'.ownsRow W.heap.size 25 1 (.slice (some ⟨g, 0, none⟩) n n) n vs ∧ KsAt w' (fun b => W.heap.size < b) vs ks n
theorem keys_part {w : World} {B n g cap : Nat} {own : Tag} {i : Nat} {ks : List Value} {keys : List Key} (hn : n = keys.length) (h : w.ownsRow B 25 1 (.slice (some ⟨g, 0, none⟩) n cap) n ks) (hk : KsAt w (Fz B own) ks keys keys.length) (h2 : own g = 2 * i + 2)
    (hf : ∀ k ∈ keys, k.length ≤ 100) (a m : Nat) (ham : a + m ≤ n) (ha : a < cap) (hm : m ≤ 100) (W : World) (hW : Later own w W) :
    Calls Try.prog 45 #[.slice (some ⟨g, a, none⟩) m (cap - a)] W fun e w' => ∃ g' vs, e = .returned (.slice (some ⟨g', 0, none⟩) m m) ∧ Hid (KeysR W w' g' vs ((keys.drop a).take m) m) ∧ Below W.heap.size W w' := by
  have hl : ((keys.drop a).take m).length = m := by rw [List.length_take, List.length_drop]; omega
  refine (keys_any W (fun _ => True) _ _ (keys_cut hn h hk (fun b hb hor => hW b hb ?_) a m ham ha) (by omega) (fun k hk' => ?_)).mono fun e w' ⟨vs, q1, q2, q3, q4⟩ => ?_
  · rcases hor with rfl | hz
    · omega
    · have := hz.2; omega
  · have := hf k (List.mem_of_mem_drop (List.mem_of_mem_take hk'))
    omega
  · rw [hl] at q1 q2 q3
    exact ⟨_, vs, q1, ⟨rfl, hl.symm, q2, q3⟩, q4⟩
theorem ints_part {w : World} {B n g cap : Nat} {own : Tag} {i : Nat} {l : List Int} (hn : n = l.length) (h : w.ownsRow B 3 1 (.slice (some ⟨g, 0, none⟩) n cap) n (ic l)) (h2 : own g = 2 * i + 3) (a m : Nat) (ham : a + m ≤ n) (ha : a < cap) (hm : m ≤ 100) (W : World) (hW : Later own w W) :
    Calls Try.prog 46 #[.slice (some ⟨g, a, none⟩) m (cap - a)] W fun e w' => ∃ a' c', e = .returned (.slice a' m c') ∧ Hid (w'.ownsRow W.heap.size 3 1 (.slice a' m c') m (ic ((l.drop a).take m))) ∧ Below W.heap.size W w' :=
  iclone_any W m _ _ (by rw [List.length_take, List.length_drop]; omega) (ints_cut hn h (hW g (h.lt g rfl).2 (by omega)) a m ham ha) (by omega)
/-- The lists of a part of a page. -/
theorem part_new {w w1 w2 w3 : World} {B : Nat} {own : Tag} {p : Pg} {g : Nat} {a : Option Addr} {c nk nd : Nat} {h : Value} {ks : List Value} (hB : B ≤ w.heap.size) (hk : KeysR w w1 g ks p.keys nk) (hb1 : Below w.heap.size w w1) (hnd : nd = p.kids.length)
    (hd : w2.ownsRow w1.heap.size 3 1 (.slice a nd c) nd (ic p.kids)) (hb2 : Below w1.heap.size w1 w2) (hb3 : Below w2.heap.size w2 w3) (hh : RB w3 (fun b => (b < w.heap.size ∧ Fz B own b) ∨ w2.heap.size ≤ b) h p.high) :
    PgNew w w3 B own p (.slice (some ⟨g, 0, none⟩) nk nk) (.slice a nd c) h ks := by
  obtain ⟨rfl, rfl, k1, k2⟩ := hk
  subst hnd
  have hz := hb1.size
  have hz2 := hb2.size
  have gl : w.heap.size < w1.heap.size := (k1.lt _ rfl).2
  refine ⟨own_below (own_below k1 hb2) hb3, own_mono (own_below hd hb3) hz, fun b e e' => ?_, k2.to fun b hb hz' => ⟨(hb3.block b (by omega)).trans (hb2.block b hb), .inr ⟨by omega, fun e => ?_, fun e => ?_⟩⟩, hh.to fun b hb hz' => ⟨rfl, ?_⟩, into (into hb1 hb2) hb3, hB⟩
  · have := own_eq e
    have := (hd.lt b e').1
    omega
  · have := own_eq e
    omega
  · have := (hd.lt b e).1
    omega
  · rcases hz' with h | h
    · exact .inl h
    · refine .inr ⟨by omega, fun e => ?_, fun e => ?_⟩
      · have := own_eq e
        omega
      · have := (hd.lt b e).2
        omega
theorem own_ne {P b n cap o : Nat} (h : P ≠ b) : some b ≠ (Value.slice (some ⟨P, o, none⟩) n cap).ownBlock := fun e => h (own_eq e.symm).symm
theorem box2_set0 {w : World} {B : Nat} {x0 x1 u : Value} {T : TypeId} (h : w.heap[B]? = some (.cells #[x0, x1] T (0, 0))) : (w.setCell ⟨B, 0, none⟩ u).heap[B]? = some (.cells #[u, x1] T (0, 0)) := by
  obtain ⟨hlt, hk⟩ := Array.getElem?_eq_some_iff.1 h
  show (w.heap.modify B _)[B]? = _
  rw [Array.getElem?_eq_getElem (by rw [Array.size_modify]; exact hlt), Array.getElem_modify_self, hk]
  rfl
/-- The page's first part in its place. -/
theorem split_mid {w W0 w1 w2 w3 : World} {B : Nat} {own : Tag} {P cap N : Nat} {ps : List Pg} {tight : Nat → Prop} {vs vs1 : List Value} {j R g1 c2 c3 nx : Nat} {a2 a3 : Option Addr} {p : Pg} (hN : N = ps.length) (h : PgsO w B own (.slice (some ⟨P, 0, none⟩) N cap) ps tight vs) (hp : ps[j]? = some p) (hB : B ≤ w.heap.size) (hb0 : Below w.heap.size w W0)
    (hk : KeysR W0.drew w1 g1 vs1 (p.keys.take 2) 2) (hb1 : Below W0.drew.heap.size W0.drew w1) (hR : R = if p.leaf then 2 else 3) (hd : w2.ownsRow w1.heap.size 3 1 (.slice a2 R c2) R (ic (p.kids.take R))) (hb2 : Below w1.heap.size w1 w2)
    (hnx : nx = (p.keys.getD 2 []).length) (hh : w3.ownsRow w2.heap.size 5 1 (.slice a3 nx c3) nx (bc (p.keys.getD 2 []))) (hb3 : Below w2.heap.size w2 w3) :
    ∃ own1 vs', PgsO (setPg w3 P (j * 5) (.bool p.leaf) (.slice (some ⟨g1, 0, none⟩) 2 2) (.slice a2 R c2) (.slice a3 nx c3) (.int .i64 (N : Int))) B own1 (.slice (some ⟨P, 0, none⟩) N cap) (ps.set j (leftP p ps.length)) (fun _ => False) vs' ∧
      Fr own own1 w (setPg w3 P (j * 5) (.bool p.leaf) (.slice (some ⟨g1, 0, none⟩) 2 2) (.slice a2 R c2) (.slice a3 nx c3) (.int .i64 (N : Int))) := by
  subst hN
  subst hnx
  have hRl : R = (p.kids.take R).length := by have := hd.1; rw [ic_length] at this; omega
  have hz := hb0.size
  have hn : PgNew W0.drew w3 B own (leftP p ps.length) (.slice (some ⟨g1, 0, none⟩) 2 2) (.slice a2 R c2) (.slice a3 (p.keys.getD 2 []).length c3) vs1 := by
    refine part_new (p := leftP p ps.length) (by show B ≤ W0.heap.size; omega) hk hb1 ?_ ?_ hb2 hb3 ⟨Rd.own hh, fun a n c e hn => .inr (hh.lt _ (own_at hh a n c e hn)).1⟩
    · show R = (p.kids.take (if p.leaf then 2 else 3)).length
      rw [← hR]
      exact hRl
    · show w2.ownsRow _ _ _ _ _ (ic (p.kids.take (if p.leaf then 2 else 3)))
      rw [← hR]
      exact hd
  obtain ⟨own1, vs', q1, q2⟩ := hn.repl (h.below hb0.drew fun _ _ => rfl) (List.getElem?_eq_some_iff.1 hp).1
  exact ⟨own1, vs', q1, (Fr.of_below hb0.drew).trans q2⟩
/-- The page's second part behind all. -/
theorem split_end {w W4 w5 w6 w7 : World} {B Bt : Nat} {own own1 : Tag} {P cap N cap7 gg : Nat} {root : Int} {ps : List Pg} {vs1 vs2 : List Value} {j R g5 c6 nx KR DR cx nh cg : Nat} {a6 ax ag : Option Addr} {p : Pg} {o : Obj}
    (hN : N = ps.length) (hp : ps.getD j noPg = p) (hBt : Bt < B) (hB : B ≤ w.heap.size) (h0 : ∀ b, b < B → own b = 0) (h : PgsO W4 B own1 (.slice (some ⟨P, 0, none⟩) N cap) (ps.set j (leftP p ps.length)) (fun _ => False) vs1) (hf : Fr own own1 w W4)
    (hk : KeysR W4.drew w5 g5 vs2 (p.keys.drop R) KR) (hb5 : Below W4.drew.heap.size W4.drew w5) (hR : R = if p.leaf then 2 else 3) (hd : w6.ownsRow w5.heap.size 3 1 (.slice a6 DR c6) DR (ic (p.kids.drop R))) (hb6 : Below w5.heap.size w5 w6)
    (hh : RB w (Fz B own) (.slice ag nh cg) p.high) (hnx : nx = (p.keys.getD 2 []).length) (hx : RB w (Fz B own) (.slice ax nx cx) (p.keys.getD 2 []))
    (hr : w7.ownsRow B 43 5 (.slice (some ⟨gg, 0, none⟩) (N + 1) cap7) (N + 1) (vs1 ++ [.bool p.leaf, .slice (some ⟨g5, 0, none⟩) KR KR, .slice a6 DR c6, .slice ag nh cg, .int .i64 p.next])) (hg : (w6.alloc o).grownBy w7 (some P)) (hat : (some P : Option Nat) = some gg ∨ gg = w6.heap.size + 1)
    (hT : w.heap[Bt]? = some (.cells #[.slice (some ⟨P, 0, none⟩) N cap, .int .i64 root] 24 (0, 0))) :
    SplitIs w B Bt own ps root j (.returned (.tuple #[.slice ax nx cx, .int .i64 (N : Int)])) (w7.setCell ⟨Bt, 0, none⟩ (.slice (some ⟨gg, 0, none⟩) (N + 1) cap7)) := by
  subst hN
  subst hnx
  have hmid : midK ps j = p.keys.getD 2 [] := by unfold midK; rw [hp]
  have hRl : DR = (p.kids.drop R).length := by have := hd.1; rw [ic_length] at this; omega
  have hz4 := hf.size
  have hn : PgNew W4.drew w6 B own1 (rightP p) (.slice (some ⟨g5, 0, none⟩) KR KR) (.slice a6 DR c6) (.slice ag nh cg) vs2 := by
    refine part_new (p := rightP p) (by show B ≤ W4.heap.size; omega) ?_ hb5 ?_ ?_ hb6 (Below.refl _ _) ?_
    · show KeysR _ _ _ _ (p.keys.drop (if p.leaf then 2 else 3)) _
      rw [← hR]; exact hk
    · show DR = (p.kids.drop (if p.leaf then 2 else 3)).length
      rw [← hR]; exact hRl
    · show w6.ownsRow _ _ _ _ _ (ic (p.kids.drop (if p.leaf then 2 else 3)))
      rw [← hR]; exact hd
    · refine (hh.fr hf).to fun b hb hz => ⟨?_, .inl ⟨hb, hz⟩⟩
      exact (hb6.block b (Nat.lt_of_lt_of_le hb hb5.size)).trans (hb5.block b hb)
  have hgl : (ps.set j (leftP p ps.length)).length = ps.length := by simp
  obtain ⟨own2, q1, q2⟩ := hn.push (o := o) (v' := .slice (some ⟨gg, 0, none⟩) (ps.length + 1) cap7) (h.below (Below.refl _ _).drew fun _ _ => rfl) (by rw [hgl]; exact hr) hg (by
    rcases hat with e | e
    · left; show some gg = some P; exact e.symm
    · right; show some gg = _; rw [e])
  have hBtP : Bt ≠ P := by have := (h.row.lt P rfl).1; omega
  have hF : Fr own own2 w w7 := (hf.trans (Fr.of_below (Below.refl _ _).drew)).trans q2
  have hT7 : w7.heap[Bt]? = some (.cells #[.slice (some ⟨P, 0, none⟩) ps.length cap, .int .i64 root] 24 (0, 0)) := (hF.block Bt (by omega) (h0 Bt hBt)).trans hT
  have hsp : ps.set j (leftP p ps.length) ++ [rightP p] = splitR ps j := by unfold splitR; rw [hp]
  rw [hsp] at q1
  have hX : FrX Bt own own2 w (w7.setCell ⟨Bt, 0, none⟩ (.slice (some ⟨gg, 0, none⟩) (ps.length + 1) cap7)) := (hF.x Bt).trans (FrX.store Bt 0 _)
  unfold SplitIs
  rw [hmid]
  refine ⟨ax, cx, own2, _, gg, cap7, rfl, box2_set0 hT7, q1.high fun b hb => Below.heap_setCell _ _ _ _ (by show b ≠ Bt; omega), hx.frx hX hBt, hX⟩
theorem carry2 {w w' : World} {a b : Nat} {x y : Obj} (hb : Below w.heap.size w w') (h : w.heap[a]? = some x ∧ w.heap[b]? = some y) : w'.heap[a]? = some x ∧ w'.heap[b]? = some y :=
  ⟨(hb.block a (Array.getElem?_eq_some_iff.1 h.1).1).trans h.1, (hb.block b (Array.getElem?_eq_some_iff.1 h.2).1).trans h.2⟩
theorem row_cells {w : World} {B e n cap P : Nat} {vs : List Value} (h : w.ownsRow B e 5 (.slice (some ⟨P, 0, none⟩) n cap) n vs) {j : Nat} (hj : j < n) :
    ∃ y0 y1 y2 y3 y4, w.cell? ⟨P, j * 5, none⟩ = some y0 ∧ w.cell? ⟨P, j * 5 + 1, none⟩ = some y1 ∧ w.cell? ⟨P, j * 5 + 2, none⟩ = some y2 ∧ w.cell? ⟨P, j * 5 + 3, none⟩ = some y3 ∧ w.cell? ⟨P, j * 5 + 4, none⟩ = some y4 ∧
      w.frozen? ⟨P, j * 5, none⟩ = false ∧ w.frozen? ⟨P, j * 5 + 1, none⟩ = false ∧ w.frozen? ⟨P, j * 5 + 2, none⟩ = false ∧ w.frozen? ⟨P, j * 5 + 3, none⟩ = false ∧ w.frozen? ⟨P, j * 5 + 4, none⟩ = false := by
  have hl := h.1
  have c : ∀ t, t < 5 → w.cell? ⟨P, j * 5 + t, none⟩ = some (vs.getD (j * 5 + t) undef) := fun t ht => by
    rw [h.cellAt _ (by omega), List.getD, List.getElem?_eq_getElem (by omega)]
    rfl
  exact ⟨_, _, _, _, _, c 0 (by omega), c 1 (by omega), c 2 (by omega), c 3 (by omega), c 4 (by omega), h.frozenAt _, h.frozenAt _, h.frozenAt _, h.frozenAt _, h.frozenAt _⟩
set_option maxHeartbeats 16000000 in
theorem split_any (w : World) (B Bt : Nat) (own : Tag) (P cap : Nat) (root : Int) (ps : List Pg) (tight : Nat → Prop) (vs : List Value) (j : Nat) (p : Pg)
    (hbt : w.heap[Bt]? = some (.cells #[.slice (some ⟨P, 0, none⟩) ps.length cap, .int .i64 root] 24 (0, 0))) (hBt : Bt < B) (h : PgsO w B own (.slice (some ⟨P, 0, none⟩) ps.length cap) ps tight vs) (hp : ps[j]? = some p)
    (hk5 : p.keys.length = 5) (hkd : p.kids.length = 5 + if p.leaf then 0 else 1) (hfit : Fit p) (hB : B ≤ w.heap.size) (h0 : ∀ b, b < B → own b = 0) (hN : ps.length ≤ 100000) :
    Calls Try.prog 35 #[.pointer (some ⟨Bt, 0, none⟩), .int .i64 (j : Int)] w (SplitIs w B Bt own ps root j) := by
  obtain ⟨k, d, g, ks, c0, c1, c2, c3, c4, h1, h2, -, h4, h5, h6, h7⟩ := h.pg j p hp
  have hj : j < ps.length := (List.getElem?_eq_some_iff.1 hp).1
  have hpd := getD_of hp
  have hgk : ∃ gk ck, k = .slice (some ⟨gk, 0, none⟩) 5 ck ∧ 5 ≤ ck ∧ ck ≤ maxLen := by
    obtain ⟨g, c, e, _, _, q1, q2⟩ := own_hd h1 (by omega)
    exact ⟨g, c, by rw [← hk5]; exact e, by omega, q2⟩
  obtain ⟨gk, ck, rfl, hck, hckm⟩ := hgk
  rw [hk5] at h1
  obtain ⟨x2, hx2, hrx⟩ := h4 2 (p.keys.getD 2 []) (by omega) (by rw [List.getD, List.getElem?_eq_getElem (by omega)]; rfl)
  have hmid : midK ps j = p.keys.getD 2 [] := by unfold midK; rw [hpd]
  have hml : (p.keys.getD 2 []).length ≤ 100 := mid_len hfit
  obtain ⟨ax, cx, rfl⟩ := hrx.sh
  have e2 : w.cell? ⟨gk, 2, none⟩ = some (.slice ax (p.keys.getD 2 []).length cx) := (h1.cellAt _ (by omega)).trans hx2
  have hLP : ∀ W, Later own w W → Calls Try.prog 45 #[.slice (some ⟨gk, 0, none⟩) 2 ck] W fun e w' => ∃ g' vs, e = .returned (.slice (some ⟨g', 0, none⟩) 2 2) ∧ Hid (KeysR W w' g' vs (p.keys.take 2) 2) ∧ Below W.heap.size W w' :=
    fun W hW => keys_part hk5.symm h1 h4 (h2 gk rfl) hfit.key 0 2 (by omega) (by omega) (by omega) W hW
  have hHH : ∀ W, Later own w W → Calls Try.prog 17 #[.slice ax (p.keys.getD 2 []).length cx] W fun e w' => ∃ a c, e = .returned (.slice a (p.keys.getD 2 []).length c) ∧ Hid (w'.ownsRow W.heap.size 5 1 (.slice a (p.keys.getD 2 []).length c) (p.keys.getD 2 []).length (bc (p.keys.getD 2 []))) ∧ Below W.heap.size W w' := fun W hW =>
    bclone_any W _ _ _ (hrx.to (ok' := fun _ => True) fun b hb hz => ⟨hW b hb (by have := hz.2; omega), trivial⟩).1 (by omega)
  obtain ⟨nx, hnx⟩ : ∃ n, n = (p.keys.getD 2 []).length := ⟨_, rfl⟩
  rw [← hnx] at e2 hHH hrx
  obtain ⟨ag, cg, rfl⟩ := h7.sh
  obtain ⟨nh, hnh⟩ : ∃ n, n = p.high.length := ⟨_, rfl⟩
  rw [← hnh] at h7 c3
  obtain ⟨q0, -⟩ := pg_cells h.row c0
  obtain ⟨q1, -⟩ := pg_cells h.row c1
  obtain ⟨q2, -⟩ := pg_cells h.row c2
  obtain ⟨q3, -⟩ := pg_cells h.row c3
  obtain ⟨q4, -⟩ := pg_cells h.row c4
  obtain ⟨N, hNN⟩ : ∃ N, N = ps.length := ⟨_, rfl⟩
  rw [← hNN] at hbt hN hj
  obtain ⟨b0, b1, bf0, bf1⟩ := box2 hbt
  unfold maxLen at hckm
  obtain ⟨leaf, keys, kids, high, next⟩ := p
  simp only at *
  cases leaf
  · have hkd6 : kids.length = 6 := by simpa using hkd
    rw [hkd6] at h5
    obtain ⟨gd, cd, rfl, -, -, hcd, hcdm⟩ := own_hd h5 (by omega)
    unfold maxLen at hcdm
    have hLI : ∀ W, Later own w W → Calls Try.prog 46 #[.slice (some ⟨gd, 0, none⟩) 3 cd] W fun e w' => ∃ a' c', e = .returned (.slice a' 3 c') ∧ Hid (w'.ownsRow W.heap.size 3 1 (.slice a' 3 c') 3 (ic (kids.take 3))) ∧ Below W.heap.size W w' :=
      fun W hW => ints_part hkd6.symm h5 (h6 gd rfl) 0 3 (by omega) (by omega) (by omega) W hW
    have hRI : ∀ W, Later own w W → Calls Try.prog 46 #[.slice (some ⟨gd, 3, none⟩) 3 (cd - 3)] W fun e w' => ∃ a' c', e = .returned (.slice a' 3 c') ∧ Hid (w'.ownsRow W.heap.size 3 1 (.slice a' 3 c') 3 (ic (kids.drop 3))) ∧ Below W.heap.size W w' :=
      fun W hW => by
        have q := ints_part hkd6.symm h5 (h6 gd rfl) 3 3 (by omega) (by omega) (by omega) W hW
        rwa [List.take_of_length_le (by rw [List.length_drop]; omega)] at q
    have hRK : ∀ W, Later own w W → Calls Try.prog 45 #[.slice (some ⟨gk, 3, none⟩) 2 (ck - 3)] W fun e w' => ∃ g' vs, e = .returned (.slice (some ⟨g', 0, none⟩) 2 2) ∧ Hid (KeysR W w' g' vs (keys.drop 3) 2) ∧ Below W.heap.size W w' :=
      fun W hW => by
        have q := keys_part hk5.symm h1 h4 (h2 gk rfl) hfit.key 3 2 (by omega) (by omega) (by omega) W hW
        rwa [List.take_of_length_le (by rw [List.length_drop]; omega)] at q
    obtain ⟨W0, hW0⟩ : ∃ W0 : World, W0 = w.alloc (.cells #[.bool false, .slice (some ⟨gk, 0, none⟩) 5 ck, .slice (some ⟨gd, 0, none⟩) 6 cd, .slice ag nh cg, .int .i64 next] 43) := ⟨_, rfl⟩
    have hb0 : Below w.heap.size w W0 := by rw [hW0]; exact (Below.refl _ _).alloc (Nat.le_refl _) _
    have hz0 : W0.heap.size = w.heap.size + 1 := by rw [hW0]; simp
    have hX0 : W0.heap[w.heap.size]? = some (.cells #[.bool false, .slice (some ⟨gk, 0, none⟩) 5 ck, .slice (some ⟨gd, 0, none⟩) 6 cd, .slice ag nh cg, .int .i64 next] 43 (0, 0)) := by rw [hW0]; exact new0 _ _
    have hBw : Bt < w.heap.size := by omega
    have hT0 : W0.heap[Bt]? = some (.cells #[.slice (some ⟨P, 0, none⟩) N cap, .int .i64 root] 24 (0, 0)) := (hb0.block Bt hBw).trans hbt
    have e20 : W0.cell? ⟨gk, 2, none⟩ = some (.slice ax nx cx) := cell_bel hb0 e2
    obtain ⟨t00, -⟩ := box2 hT0
    rw [hW0] at e20 t00
    have HLP := Lib.hid hLP
    have HLI := Lib.hid hLI
    have HRI := Lib.hid hRI
    have HRK := Lib.hid hRK
    have HHH := Lib.hid hHH
    have HB0 := Lib.hid hb0
    have HXT := Lib.hid (And.intro hX0 hT0)
    have HZ0 := Lib.hid hz0
    have HW0 := Lib.hid hW0
    rw [← hNN] at h
    have hrowN := h.row
    rw [← hNN] at hrowN
    have HROWN := Lib.hid hrowN
    have HG := Lib.hid h
    have HREST := Lib.hid (And.intro hp (And.intro hk5 (And.intro hkd6 (And.intro hfit (And.intro h0 (And.intro hNN (And.intro hnx (And.intro hnh (And.intro hmid hpd)))))))))
    have HX2 := Lib.hid hrx
    have H7 := Lib.hid h7
    have HTW := Lib.hid hbt
    have HBB := Lib.hid (And.intro hB (And.intro hBt hBw))
    have z1 : (2 : Int) ≤ (ck : Int) := by omega
    have z2 : (3 : Int) ≤ (ck : Int) := by omega
    have z3 : (3 : Int) ≤ (cd : Int) := by omega
    have z4 : (j : Int) < (N : Int) := by omega
    have z5 : (0 : Int) ≤ (j : Int) := by omega
    have z6 : ¬ (ck = 3) := by omega
    have z7 : ¬ (cd = 3) := by omega
    have hne : w.heap.size ≠ Bt := by omega
    clear hrowN hLP hLI hRI hRK hHH hb0 hX0 hT0 hz0 hW0 h hp hk5 hkd hkd6 hfit h0 hNN hnx hnh hmid hpd hrx h7 h1 h2 h4 h5 h6 hbt hx2 c0 c1 c2 c3 c4 hml hB hBt hBw
    go_enter Try.func35, Try.ntmps35
    go_wp2_with fail
    rw [← HW0.out]
    obtain ⟨x0, x1, x2, x3, x4, -⟩ := box5 HXT.out.1
    obtain ⟨t0, t1, tf0, -⟩ := box2 HXT.out.2
    refine wpT_begin (S := (fun wx => wx.cell? ⟨Bt, 0, none⟩ = some (.slice (some ⟨P, 0, none⟩) N cap) ∧ wx.cell? ⟨w.heap.size, 0, none⟩ = some (.bool false) ∧ wx.cell? ⟨w.heap.size, 1, none⟩ = some (.slice (some ⟨gk, 0, none⟩) 5 ck) ∧ wx.cell? ⟨w.heap.size, 2, none⟩ = some (.slice (some ⟨gd, 0, none⟩) 6 cd))) [22] (by kernel_rfl) ?_ (fun hHeld => ?_)
    · (try dsimp only)
      (first | (with_reducible exact ⟨cell_dr t0, cell_dr x0, cell_dr x1, cell_dr x2⟩) | (with_reducible exact ⟨s0, s1, s2, s3⟩) | (with_reducible exact ⟨v0, v1, v2, v3⟩) | (with_reducible exact ⟨u0, u1, u2, u3⟩))
    refine wpAnyT_pure (i := 0) (oi := _) (v := ?_) rfl (by kernel_rfl) (by kernel_rfl) (by kernel_rfl) (by kernel_rfl) (fun _ _ _ h => h) (Or.inl ⟨by rfl, ?_⟩) (fun _ => by assumption) ?_
    rotate_left
    · (intro w hSw; go_simp)
      all_goals (with_reducible rfl)
    (try simp only [List.getElem_toArray, List.getElem_cons_zero, List.getElem_cons_succ, Act.put, List.setIfInBounds_toArray, List.set_cons_zero, List.set_cons_succ])
    refine wpAnyT_pure (i := 1) (oi := _) (v := ?_) rfl (by kernel_rfl) (by kernel_rfl) (by kernel_rfl) (by kernel_rfl) (fun _ _ _ h => h) (Or.inl ⟨by rfl, ?_⟩) (fun _ => by assumption) ?_
    rotate_left
    · (intro w hSw; go_simp)
      all_goals (with_reducible rfl)
    (try simp only [List.getElem_toArray, List.getElem_cons_zero, List.getElem_cons_succ, Act.put, List.setIfInBounds_toArray, List.set_cons_zero, List.set_cons_succ])
    refine wpAnyT_pure (i := 2) (oi := _) (v := ?_) rfl (by kernel_rfl) (by kernel_rfl) (by kernel_rfl) (by kernel_rfl) (fun _ _ _ h => h) (Or.inl ⟨by rfl, ?_⟩) (fun _ => by assumption) ?_
    rotate_left
    · (intro w hSw; go_simp)
      all_goals (with_reducible rfl)
    (try simp only [List.getElem_toArray, List.getElem_cons_zero, List.getElem_cons_succ, Act.put, List.setIfInBounds_toArray, List.set_cons_zero, List.set_cons_succ])
    refine wpAnyT_take (i := 3) (oi := _) (v := ?_) rfl (by kernel_rfl) (by kernel_rfl) (by kernel_rfl) (by kernel_rfl) (fun _ _ _ h => h) (Or.inl ⟨by rfl, ?_⟩) (by assumption) ?_
    rotate_left
    · (intro w hSw; (try dsimp only at hSw); go_simp)
      all_goals (with_reducible rfl)
    (try simp only [List.getElem_toArray, List.getElem_cons_zero, List.getElem_cons_succ, Act.put, List.setIfInBounds_toArray, List.set_cons_zero, List.set_cons_succ])
    refine wpAnyT_pure (i := 4) (oi := _) (v := ?_) rfl (by kernel_rfl) (by kernel_rfl) (by kernel_rfl) (by kernel_rfl) (fun _ _ _ h => h) (Or.inl ⟨by rfl, ?_⟩) (fun _ => by assumption) ?_
    rotate_left
    · (intro w hSw; go_simp)
      all_goals (with_reducible rfl)
    (try simp only [List.getElem_toArray, List.getElem_cons_zero, List.getElem_cons_succ, Act.put, List.setIfInBounds_toArray, List.set_cons_zero, List.set_cons_succ])
    refine wpAnyT_pure (i := 5) (oi := _) (v := ?_) rfl (by kernel_rfl) (by kernel_rfl) (by kernel_rfl) (by kernel_rfl) (fun _ _ _ h => h) (Or.inl ⟨by rfl, ?_⟩) (fun _ => by assumption) ?_
    rotate_left
    · (intro w hSw; go_simp)
      all_goals (with_reducible rfl)
    (try simp only [List.getElem_toArray, List.getElem_cons_zero, List.getElem_cons_succ, Act.put, List.setIfInBounds_toArray, List.set_cons_zero, List.set_cons_succ])
    refine wpAnyT_take (i := 6) (oi := _) (v := ?_) rfl (by kernel_rfl) (by kernel_rfl) (by kernel_rfl) (by kernel_rfl) (fun _ _ _ h => h) (Or.inl ⟨by rfl, ?_⟩) (by assumption) ?_
    rotate_left
    · (intro w hSw; (try dsimp only at hSw); go_simp)
      all_goals (with_reducible rfl)
    (try simp only [List.getElem_toArray, List.getElem_cons_zero, List.getElem_cons_succ, Act.put, List.setIfInBounds_toArray, List.set_cons_zero, List.set_cons_succ])
    refine wpAnyT_pure (i := 7) (oi := _) (v := ?_) rfl (by kernel_rfl) (by kernel_rfl) (by kernel_rfl) (by kernel_rfl) (fun _ _ _ h => h) (Or.inl ⟨by rfl, ?_⟩) (fun _ => by assumption) ?_
    rotate_left
    · (intro w hSw; go_simp)
      all_goals (with_reducible rfl)
    (try simp only [List.getElem_toArray, List.getElem_cons_zero, List.getElem_cons_succ, Act.put, List.setIfInBounds_toArray, List.set_cons_zero, List.set_cons_succ])
    refine wpAnyT_take (i := 8) (oi := _) (v := ?_) rfl (by kernel_rfl) (by kernel_rfl) (by kernel_rfl) (by kernel_rfl) (fun _ _ _ h => h) (Or.inl ⟨by rfl, ?_⟩) (by assumption) ?_
    rotate_left
    · (intro w hSw; (try dsimp only at hSw); go_simp)
      all_goals (with_reducible rfl)
    (try simp only [List.getElem_toArray, List.getElem_cons_zero, List.getElem_cons_succ, Act.put, List.setIfInBounds_toArray, List.set_cons_zero, List.set_cons_succ])
    refine wpAnyT_pure (i := 9) (oi := _) (v := ?_) rfl (by kernel_rfl) (by kernel_rfl) (by kernel_rfl) (by kernel_rfl) (fun _ _ _ h => h) (Or.inl ⟨by rfl, ?_⟩) (fun _ => by assumption) ?_
    rotate_left
    · (intro w hSw; go_simp)
      all_goals (with_reducible rfl)
    (try simp only [List.getElem_toArray, List.getElem_cons_zero, List.getElem_cons_succ, Act.put, List.setIfInBounds_toArray, List.set_cons_zero, List.set_cons_succ])
    refine wpAnyT_pure (i := 10) (oi := _) (v := ?_) rfl (by kernel_rfl) (by kernel_rfl) (by kernel_rfl) (by kernel_rfl) (fun _ _ _ h => h) (Or.inl ⟨by rfl, ?_⟩) (fun _ => by assumption) ?_
    rotate_left
    · (intro w hSw; go_simp)
      all_goals (with_reducible rfl)
    (try simp only [List.getElem_toArray, List.getElem_cons_zero, List.getElem_cons_succ, Act.put, List.setIfInBounds_toArray, List.set_cons_zero, List.set_cons_succ])
    refine wpAnyT_pure (i := 12) (oi := _) (v := ?_) rfl (by kernel_rfl) (by kernel_rfl) (by kernel_rfl) (by kernel_rfl) (fun _ _ _ h => h) (Or.inl ⟨by rfl, ?_⟩) (fun _ => by assumption) ?_
    rotate_left
    · (intro w hSw; go_simp)
      all_goals (with_reducible rfl)
    (try simp only [List.getElem_toArray, List.getElem_cons_zero, List.getElem_cons_succ, Act.put, List.setIfInBounds_toArray, List.set_cons_zero, List.set_cons_succ])
    refine wpAnyT_take (i := 13) (oi := _) (v := ?_) rfl (by kernel_rfl) (by kernel_rfl) (by kernel_rfl) (by kernel_rfl) (fun _ _ _ h => h) (Or.inl ⟨by rfl, ?_⟩) (by assumption) ?_
    rotate_left
    · (intro w hSw; (try dsimp only at hSw); go_simp)
      all_goals (with_reducible rfl)
    (try simp only [List.getElem_toArray, List.getElem_cons_zero, List.getElem_cons_succ, Act.put, List.setIfInBounds_toArray, List.set_cons_zero, List.set_cons_succ])
    refine wpAnyT_pure (i := 14) (oi := _) (v := ?_) rfl (by kernel_rfl) (by kernel_rfl) (by kernel_rfl) (by kernel_rfl) (fun _ _ _ h => h) (Or.inl ⟨by rfl, ?_⟩) (fun _ => by assumption) ?_
    rotate_left
    · (intro w hSw; go_simp)
      all_goals (with_reducible rfl)
    (try simp only [List.getElem_toArray, List.getElem_cons_zero, List.getElem_cons_succ, Act.put, List.setIfInBounds_toArray, List.set_cons_zero, List.set_cons_succ])
    refine wpAnyT_pure (i := 15) (oi := _) (v := ?_) rfl (by kernel_rfl) (by kernel_rfl) (by kernel_rfl) (by kernel_rfl) (fun _ _ _ h => h) (Or.inl ⟨by rfl, ?_⟩) (fun _ => by assumption) ?_
    rotate_left
    · (intro w hSw; go_simp)
      all_goals (with_reducible rfl)
    (try simp only [List.getElem_toArray, List.getElem_cons_zero, List.getElem_cons_succ, Act.put, List.setIfInBounds_toArray, List.set_cons_zero, List.set_cons_succ])
    refine wpAnyT_pure (i := 17) (oi := _) (v := ?_) rfl (by kernel_rfl) (by kernel_rfl) (by kernel_rfl) (by kernel_rfl) (fun _ _ _ h => h) (Or.inl ⟨by rfl, ?_⟩) (fun _ => by assumption) ?_
    rotate_left
    · (intro w hSw; go_simp)
      all_goals (with_reducible rfl)
    (try simp only [List.getElem_toArray, List.getElem_cons_zero, List.getElem_cons_succ, Act.put, List.setIfInBounds_toArray, List.set_cons_zero, List.set_cons_succ])
    refine wpAnyT_pure (i := 19) (oi := _) (v := ?_) rfl (by kernel_rfl) (by kernel_rfl) (by kernel_rfl) (by kernel_rfl) (fun _ _ _ h => h) (Or.inl ⟨by rfl, ?_⟩) (fun _ => by assumption) ?_
    rotate_left
    · (intro w hSw; go_simp)
      all_goals (with_reducible rfl)
    (try simp only [List.getElem_toArray, List.getElem_cons_zero, List.getElem_cons_succ, Act.put, List.setIfInBounds_toArray, List.set_cons_zero, List.set_cons_succ])
    refine wpAnyT_ready (rs := [11]) (by kernel_rfl) (by simp) ?_
    refine AllReadyT.cons rfl (fun K hK => ?_) AllReadyT.nil
    go_simp
    (go_at_call 45; ((with_reducible refine (HLP.out W0.drew (Later.of HB0.out.drew)).mono ?_); rintro e w1 ⟨g1, vs1, rfl, HR1, hb1⟩; have HB1 := Lib.hid (into HB0.out.drew hb1); have HXT1 := Lib.hid (carry2 hb1 HXT.out); obtain ⟨u1, u2, u3, -⟩ := box5 HXT1.out.1; obtain ⟨u0, -⟩ := box2 HXT1.out.2; have HBB1 := Lib.hid hb1; clear hb1))
    go_wp2_with fail
    refine hK.out _ _ (fun _ => ?_) (fun hHeld0 => ?_)
    · (try dsimp only)
      (first | (with_reducible exact ⟨cell_dr t0, cell_dr x0, cell_dr x1, cell_dr x2⟩) | (with_reducible exact ⟨s0, s1, s2, s3⟩) | (with_reducible exact ⟨v0, v1, v2, v3⟩) | (with_reducible exact ⟨u0, u1, u2, u3⟩))
    have hHeld := hHeld0 (by kernel_rfl)
    clear hK K hHeld0
    (try simp only [List.getElem_toArray, List.getElem_cons_zero, List.getElem_cons_succ, Act.put, List.setIfInBounds_toArray, List.set_cons_zero, List.set_cons_succ])
    refine wpAnyT_ready (rs := [16]) (by kernel_rfl) (by simp) ?_
    refine AllReadyT.cons rfl (fun K hK => ?_) AllReadyT.nil
    go_simp
    (go_at_call 46; ((with_reducible refine (HLI.out w1 (Later.of HB1.out)).mono ?_); rintro e w2 ⟨a2, c2, rfl, HR2, hb2⟩; have HB2 := Lib.hid (into HB1.out hb2); have HXT2 := Lib.hid (carry2 hb2 HXT1.out); obtain ⟨v1, v2, v3, -⟩ := box5 HXT2.out.1; obtain ⟨v0, -⟩ := box2 HXT2.out.2; have HBB2 := Lib.hid hb2; clear hb2))
    go_wp2_with fail
    refine hK.out _ _ (fun _ => ?_) (fun hHeld0 => ?_)
    · (try dsimp only)
      (first | (with_reducible exact ⟨cell_dr t0, cell_dr x0, cell_dr x1, cell_dr x2⟩) | (with_reducible exact ⟨s0, s1, s2, s3⟩) | (with_reducible exact ⟨v0, v1, v2, v3⟩) | (with_reducible exact ⟨u0, u1, u2, u3⟩))
    have hHeld := hHeld0 (by kernel_rfl)
    clear hK K hHeld0
    (try simp only [List.getElem_toArray, List.getElem_cons_zero, List.getElem_cons_succ, Act.put, List.setIfInBounds_toArray, List.set_cons_zero, List.set_cons_succ])
    refine wpAnyT_ready (rs := [18]) (by kernel_rfl) (by simp) ?_
    refine AllReadyT.cons rfl (fun K hK => ?_) AllReadyT.nil
    go_simp
    (go_at_call 17; ((with_reducible refine (HHH.out w2 (Later.of HB2.out)).mono ?_); rintro e w3 ⟨a3, c3, rfl, HR3, hb3⟩; have HB3 := Lib.hid (into HB2.out hb3); have HXT3 := Lib.hid (carry2 hb3 HXT2.out); obtain ⟨s1, s2, s3, s4, s5, -⟩ := box5 HXT3.out.1; obtain ⟨s0, -⟩ := box2 HXT3.out.2; obtain ⟨y0, y1, y2, y3, y4, d0, d1, d2, d3, d4, f0, f1, f2, f3, f4⟩ := row_cells (n := N) (j := j) (own_below HROWN.out HB3.out) (by omega); have HBB3 := Lib.hid hb3; clear hb3))
    go_wp2_with fail
    refine hK.out _ _ (fun _ => ?_) (fun hHeld0 => ?_)
    · (try dsimp only)
      (first | (with_reducible exact ⟨cell_dr t0, cell_dr x0, cell_dr x1, cell_dr x2⟩) | (with_reducible exact ⟨s0, s1, s2, s3⟩) | (with_reducible exact ⟨v0, v1, v2, v3⟩) | (with_reducible exact ⟨u0, u1, u2, u3⟩))
    have hHeld := hHeld0 (by kernel_rfl)
    clear hK K hHeld0
    (try simp only [List.getElem_toArray, List.getElem_cons_zero, List.getElem_cons_succ, Act.put, List.setIfInBounds_toArray, List.set_cons_zero, List.set_cons_succ])
    refine wpAnyT_pure (i := 20) (oi := _) (v := ?_) rfl (by kernel_rfl) (by kernel_rfl) (by kernel_rfl) (by kernel_rfl) (fun _ _ _ h => h) (Or.inl ⟨by rfl, ?_⟩) (fun _ => by assumption) ?_
    rotate_left
    · (intro w hSw; go_simp)
      all_goals (with_reducible rfl)
    (try simp only [List.getElem_toArray, List.getElem_cons_zero, List.getElem_cons_succ, Act.put, List.setIfInBounds_toArray, List.set_cons_zero, List.set_cons_succ])
    refine wpAnyT_pure (i := 21) (oi := _) (v := ?_) rfl (by kernel_rfl) (by kernel_rfl) (by kernel_rfl) (by kernel_rfl) (fun _ _ _ h => h) (Or.inl ⟨by rfl, ?_⟩) (fun _ => by assumption) ?_
    rotate_left
    · (intro w hSw; go_simp)
      all_goals (with_reducible rfl)
    (try simp only [List.getElem_toArray, List.getElem_cons_zero, List.getElem_cons_succ, Act.put, List.setIfInBounds_toArray, List.set_cons_zero, List.set_cons_succ])
    refine wpAnyT_ready (rs := [22]) (by kernel_rfl) (by simp) ?_
    refine AllReadyT.cons rfl (fun K hK => ?_) AllReadyT.nil
    go_simp
    refine hK.out _ _ (noneB_off (by kernel_rfl)) (fun _ => ?_)
    clear hK K
    (try simp only [List.getElem_toArray, List.getElem_cons_zero, List.getElem_cons_succ, Act.put, List.setIfInBounds_toArray, List.set_cons_zero, List.set_cons_succ])
    refine wpAnyT_done (by kernel_rfl) ?_ _
    obtain ⟨g_p, g_k5, g_k6, g_fit, g_h0, g_N, g_nx, g_nh, g_mid, g_pd⟩ := HREST.out
    have hmid : ∃ own1 vs', PgsO (setPg w3 P (j * 5) (.bool false) (.slice (some ⟨g1, 0, none⟩) 2 2) (.slice a2 3 c2) (.slice a3 nx c3) (.int .i64 (N : Int))) B own1 (.slice (some ⟨P, 0, none⟩) N cap) (ps.set j (leftP ⟨false, keys, kids, high, next⟩ ps.length)) (fun _ => False) vs' ∧
        Fr own own1 w (setPg w3 P (j * 5) (.bool false) (.slice (some ⟨g1, 0, none⟩) 2 2) (.slice a2 3 c2) (.slice a3 nx c3) (.int .i64 (N : Int))) := split_mid (R := 3) (p := ⟨false, keys, kids, high, next⟩) g_N HG.out g_p HBB.out.1 HB0.out HR1.out HBB1.out rfl HR2.out HBB2.out g_nx HR3.out HBB3.out
    obtain ⟨W4, hW4⟩ : ∃ W4, W4 = setPg w3 P (j * 5) (.bool false) (.slice (some ⟨g1, 0, none⟩) 2 2) (.slice a2 3 c2) (.slice a3 nx c3) (.int .i64 (N : Int)) := ⟨_, rfl⟩
    obtain ⟨own1, vs4, hm1, hm2⟩ := hmid
    rw [← hW4] at hm1 hm2
    have hPB : B ≤ P ∧ P < w.heap.size := HG.out.row.lt P rfl
    have hfar : ∀ b, b ≠ P → W4.heap[b]? = w3.heap[b]? := fun b hb => by
      rw [hW4]; unfold setPg
      rw [Below.heap_setCell _ _ _ _ hb, Below.heap_setCell _ _ _ _ hb, Below.heap_setCell _ _ _ _ hb, Below.heap_setCell _ _ _ _ hb, Below.heap_setCell _ _ _ _ hb]
    have HPX : Hid (P ≠ w.heap.size) := by have := hPB.2; exact Nat.ne_of_lt this
    have HPT : Hid (P ≠ Bt) := by have := hPB.1; have := HBB.out.2.1; exact Ne.symm (Nat.ne_of_lt (by omega))
    have HXT4 := Lib.hid (And.intro ((hfar w.heap.size (by omega)).trans HXT3.out.1) ((hfar Bt (by have := HBB.out.2.1; omega)).trans HXT3.out.2))
    have hlat : Later own w W4 := fun b hb hne => (hfar b (by rintro rfl; exact hne (HG.out.tag _ rfl))).trans (HB3.out.block b hb)
    have hz4 : W4.heap.size = w3.heap.size := by rw [hW4]; simp [setPg]
    have hz3 := HB3.out.size
    have HLAT := Lib.hid hlat
    have HM := Lib.hid (And.intro hm1 hm2)
    have hrow4 := hm1.row
    rw [List.length_set, ← g_N] at hrow4
    have HROW4 := Lib.hid hrow4
    have e4 := hW4
    unfold setPg at e4
    have e4' : W4 = ((((w3.setCell ⟨P, j * 5, none⟩ (.bool false)).setCell ⟨P, j * 5 + 1, none⟩ (.slice (some ⟨g1, 0, none⟩) 2 2)).setCell ⟨P, j * 5 + 2, none⟩ (.slice a2 3 c2)).setCell ⟨P, j * 5 + 3, none⟩ (.slice a3 nx c3)).setCell ⟨P, j * 5 + 4, none⟩ (.int .i64 (N : Int)) := e4
    rw [← e4']
    have HZ4 := Lib.hid (show w.heap.size ≤ W4.heap.size by rw [hz4]; exact hz3)
    obtain ⟨i0, hi0, hz0', hz1', hz2'⟩ := info_parts Try.info43
    have hN88 := hN
    clear e4 e4' hW4 hm1 hm2 hfar hlat hz4 hz3 hrow4 HR1 HR2 HR3 HBB1 HBB2 HBB3 HXT1 HXT2 HXT3 HB1 HB2 HB3 u1 u2 u3 u0 v0 v1 v2 v3 s0 s1 s2 s3 s4 s5 y0 y1 y2 y3 y4 d0 d1 d2 d3 d4 f0 f1 f2 f3 f4 x0 x1 x2 x3 x4 t0 t1 tf0 hHeld HLP HLI HHH g_p g_k5 g_k6 g_fit g_h0 g_N g_nx g_nh g_mid g_pd e20 t00 HW0 HXT e2 q0 q1 q2 q3 q4 b0 b1 bf0 bf1
    go_wp2_with fail
    obtain ⟨x0, x1, x2, x3, x4, -⟩ := box5 HXT4.out.1
    obtain ⟨t0, t1, tf0, -⟩ := box2 HXT4.out.2
    refine wpT_begin (S := (fun wx => wx.cell? ⟨Bt, 0, none⟩ = some (.slice (some ⟨P, 0, none⟩) N cap) ∧ wx.cell? ⟨w.heap.size, 0, none⟩ = some (.bool false) ∧ wx.cell? ⟨w.heap.size, 1, none⟩ = some (.slice (some ⟨gk, 0, none⟩) 5 ck) ∧ wx.cell? ⟨w.heap.size, 2, none⟩ = some (.slice (some ⟨gd, 0, none⟩) 6 cd) ∧ wx.cell? ⟨w.heap.size, 3, none⟩ = some (.slice ag nh cg) ∧ wx.cell? ⟨w.heap.size, 4, none⟩ = some (.int .i64 next))) [26] (by kernel_rfl) ?_ (fun hHeld => ?_)
    · (try dsimp only)
      (first | (with_reducible exact ⟨cell_dr t0, cell_dr x0, cell_dr x1, cell_dr x2, cell_dr x3, cell_dr x4⟩) | (with_reducible exact ⟨s0, s1, s2, s3, s4, s5⟩) | (with_reducible exact ⟨cell_al _ v0, cell_al _ v1, cell_al _ v2, cell_al _ v3, cell_al _ v4, cell_al _ v5⟩) | (with_reducible exact ⟨v0, v1, v2, v3, v4, v5⟩) | (with_reducible exact ⟨u0, u1, u2, u3, u4, u5⟩))
    refine wpAnyT_pure (i := 0) (oi := _) (v := ?_) rfl (by kernel_rfl) (by kernel_rfl) (by kernel_rfl) (by kernel_rfl) (fun _ _ _ h => h) (Or.inl ⟨by rfl, ?_⟩) (fun _ => by assumption) ?_
    rotate_left
    · (intro w hSw; go_simp)
      all_goals (with_reducible rfl)
    (try simp only [List.getElem_toArray, List.getElem_cons_zero, List.getElem_cons_succ, Act.put, List.setIfInBounds_toArray, List.set_cons_zero, List.set_cons_succ])
    refine wpAnyT_pure (i := 1) (oi := _) (v := ?_) rfl (by kernel_rfl) (by kernel_rfl) (by kernel_rfl) (by kernel_rfl) (fun _ _ _ h => h) (Or.inl ⟨by rfl, ?_⟩) (fun _ => by assumption) ?_
    rotate_left
    · (intro w hSw; go_simp)
      all_goals (with_reducible rfl)
    (try simp only [List.getElem_toArray, List.getElem_cons_zero, List.getElem_cons_succ, Act.put, List.setIfInBounds_toArray, List.set_cons_zero, List.set_cons_succ])
    refine wpAnyT_pure (i := 2) (oi := _) (v := ?_) rfl (by kernel_rfl) (by kernel_rfl) (by kernel_rfl) (by kernel_rfl) (fun _ _ _ h => h) (Or.inl ⟨by rfl, ?_⟩) (fun _ => by assumption) ?_
    rotate_left
    · (intro w hSw; go_simp)
      all_goals (with_reducible rfl)
    (try simp only [List.getElem_toArray, List.getElem_cons_zero, List.getElem_cons_succ, Act.put, List.setIfInBounds_toArray, List.set_cons_zero, List.set_cons_succ])
    refine wpAnyT_pure (i := 3) (oi := _) (v := ?_) rfl (by kernel_rfl) (by kernel_rfl) (by kernel_rfl) (by kernel_rfl) (fun _ _ _ h => h) (Or.inl ⟨by rfl, ?_⟩) (fun _ => by assumption) ?_
    rotate_left
    · (intro w hSw; go_simp)
      all_goals (with_reducible rfl)
    (try simp only [List.getElem_toArray, List.getElem_cons_zero, List.getElem_cons_succ, Act.put, List.setIfInBounds_toArray, List.set_cons_zero, List.set_cons_succ])
    refine wpAnyT_take (i := 4) (oi := _) (v := ?_) rfl (by kernel_rfl) (by kernel_rfl) (by kernel_rfl) (by kernel_rfl) (fun _ _ _ h => h) (Or.inl ⟨by rfl, ?_⟩) (by assumption) ?_
    rotate_left
    · (intro w hSw; (try dsimp only at hSw); go_simp)
      all_goals (with_reducible rfl)
    (try simp only [List.getElem_toArray, List.getElem_cons_zero, List.getElem_cons_succ, Act.put, List.setIfInBounds_toArray, List.set_cons_zero, List.set_cons_succ])
    refine wpAnyT_pure (i := 5) (oi := _) (v := ?_) rfl (by kernel_rfl) (by kernel_rfl) (by kernel_rfl) (by kernel_rfl) (fun _ _ _ h => h) (Or.inl ⟨by rfl, ?_⟩) (fun _ => by assumption) ?_
    rotate_left
    · (intro w hSw; go_simp)
      all_goals (with_reducible rfl)
    (try simp only [List.getElem_toArray, List.getElem_cons_zero, List.getElem_cons_succ, Act.put, List.setIfInBounds_toArray, List.set_cons_zero, List.set_cons_succ])
    refine wpAnyT_take (i := 6) (oi := _) (v := ?_) rfl (by kernel_rfl) (by kernel_rfl) (by kernel_rfl) (by kernel_rfl) (fun _ _ _ h => h) (Or.inl ⟨by rfl, ?_⟩) (by assumption) ?_
    rotate_left
    · (intro w hSw; (try dsimp only at hSw); go_simp)
      all_goals (with_reducible rfl)
    (try simp only [List.getElem_toArray, List.getElem_cons_zero, List.getElem_cons_succ, Act.put, List.setIfInBounds_toArray, List.set_cons_zero, List.set_cons_succ])
    refine wpAnyT_pure (i := 7) (oi := _) (v := ?_) rfl (by kernel_rfl) (by kernel_rfl) (by kernel_rfl) (by kernel_rfl) (fun _ _ _ h => h) (Or.inl ⟨by rfl, ?_⟩) (fun _ => by assumption) ?_
    rotate_left
    · (intro w hSw; go_simp)
      all_goals (with_reducible rfl)
    (try simp only [List.getElem_toArray, List.getElem_cons_zero, List.getElem_cons_succ, Act.put, List.setIfInBounds_toArray, List.set_cons_zero, List.set_cons_succ])
    refine wpAnyT_take (i := 8) (oi := _) (v := ?_) rfl (by kernel_rfl) (by kernel_rfl) (by kernel_rfl) (by kernel_rfl) (fun _ _ _ h => h) (Or.inl ⟨by rfl, ?_⟩) (by assumption) ?_
    rotate_left
    · (intro w hSw; (try dsimp only at hSw); go_simp)
      all_goals (with_reducible rfl)
    (try simp only [List.getElem_toArray, List.getElem_cons_zero, List.getElem_cons_succ, Act.put, List.setIfInBounds_toArray, List.set_cons_zero, List.set_cons_succ])
    refine wpAnyT_pure (i := 9) (oi := _) (v := ?_) rfl (by kernel_rfl) (by kernel_rfl) (by kernel_rfl) (by kernel_rfl) (fun _ _ _ h => h) (Or.inl ⟨by rfl, ?_⟩) (fun _ => by assumption) ?_
    rotate_left
    · (intro w hSw; go_simp)
      all_goals (with_reducible rfl)
    (try simp only [List.getElem_toArray, List.getElem_cons_zero, List.getElem_cons_succ, Act.put, List.setIfInBounds_toArray, List.set_cons_zero, List.set_cons_succ])
    refine wpAnyT_pure (i := 10) (oi := _) (v := ?_) rfl (by kernel_rfl) (by kernel_rfl) (by kernel_rfl) (by kernel_rfl) (fun _ _ _ h => h) (Or.inl ⟨by rfl, ?_⟩) (fun _ => by assumption) ?_
    rotate_left
    · (intro w hSw; go_simp)
      all_goals (with_reducible rfl)
    (try simp only [List.getElem_toArray, List.getElem_cons_zero, List.getElem_cons_succ, Act.put, List.setIfInBounds_toArray, List.set_cons_zero, List.set_cons_succ])
    refine wpAnyT_pure (i := 12) (oi := _) (v := ?_) rfl (by kernel_rfl) (by kernel_rfl) (by kernel_rfl) (by kernel_rfl) (fun _ _ _ h => h) (Or.inl ⟨by rfl, ?_⟩) (fun _ => by assumption) ?_
    rotate_left
    · (intro w hSw; go_simp)
      all_goals (with_reducible rfl)
    (try simp only [List.getElem_toArray, List.getElem_cons_zero, List.getElem_cons_succ, Act.put, List.setIfInBounds_toArray, List.set_cons_zero, List.set_cons_succ])
    refine wpAnyT_take (i := 13) (oi := _) (v := ?_) rfl (by kernel_rfl) (by kernel_rfl) (by kernel_rfl) (by kernel_rfl) (fun _ _ _ h => h) (Or.inl ⟨by rfl, ?_⟩) (by assumption) ?_
    rotate_left
    · (intro w hSw; (try dsimp only at hSw); go_simp)
      all_goals (with_reducible rfl)
    (try simp only [List.getElem_toArray, List.getElem_cons_zero, List.getElem_cons_succ, Act.put, List.setIfInBounds_toArray, List.set_cons_zero, List.set_cons_succ])
    refine wpAnyT_pure (i := 14) (oi := _) (v := ?_) rfl (by kernel_rfl) (by kernel_rfl) (by kernel_rfl) (by kernel_rfl) (fun _ _ _ h => h) (Or.inl ⟨by rfl, ?_⟩) (fun _ => by assumption) ?_
    rotate_left
    · (intro w hSw; go_simp)
      all_goals (with_reducible rfl)
    (try simp only [List.getElem_toArray, List.getElem_cons_zero, List.getElem_cons_succ, Act.put, List.setIfInBounds_toArray, List.set_cons_zero, List.set_cons_succ])
    refine wpAnyT_pure (i := 15) (oi := _) (v := ?_) rfl (by kernel_rfl) (by kernel_rfl) (by kernel_rfl) (by kernel_rfl) (fun _ _ _ h => h) (Or.inl ⟨by rfl, ?_⟩) (fun _ => by assumption) ?_
    rotate_left
    · (intro w hSw; go_simp)
      all_goals (with_reducible rfl)
    (try simp only [List.getElem_toArray, List.getElem_cons_zero, List.getElem_cons_succ, Act.put, List.setIfInBounds_toArray, List.set_cons_zero, List.set_cons_succ])
    refine wpAnyT_pure (i := 17) (oi := _) (v := ?_) rfl (by kernel_rfl) (by kernel_rfl) (by kernel_rfl) (by kernel_rfl) (fun _ _ _ h => h) (Or.inl ⟨by rfl, ?_⟩) (fun _ => by assumption) ?_
    rotate_left
    · (intro w hSw; go_simp)
      all_goals (with_reducible rfl)
    (try simp only [List.getElem_toArray, List.getElem_cons_zero, List.getElem_cons_succ, Act.put, List.setIfInBounds_toArray, List.set_cons_zero, List.set_cons_succ])
    refine wpAnyT_take (i := 18) (oi := _) (v := ?_) rfl (by kernel_rfl) (by kernel_rfl) (by kernel_rfl) (by kernel_rfl) (fun _ _ _ h => h) (Or.inl ⟨by rfl, ?_⟩) (by assumption) ?_
    rotate_left
    · (intro w hSw; (try dsimp only at hSw); go_simp)
      all_goals (with_reducible rfl)
    (try simp only [List.getElem_toArray, List.getElem_cons_zero, List.getElem_cons_succ, Act.put, List.setIfInBounds_toArray, List.set_cons_zero, List.set_cons_succ])
    refine wpAnyT_pure (i := 19) (oi := _) (v := ?_) rfl (by kernel_rfl) (by kernel_rfl) (by kernel_rfl) (by kernel_rfl) (fun _ _ _ h => h) (Or.inl ⟨by rfl, ?_⟩) (fun _ => by assumption) ?_
    rotate_left
    · (intro w hSw; go_simp)
      all_goals (with_reducible rfl)
    (try simp only [List.getElem_toArray, List.getElem_cons_zero, List.getElem_cons_succ, Act.put, List.setIfInBounds_toArray, List.set_cons_zero, List.set_cons_succ])
    refine wpAnyT_take (i := 20) (oi := _) (v := ?_) rfl (by kernel_rfl) (by kernel_rfl) (by kernel_rfl) (by kernel_rfl) (fun _ _ _ h => h) (Or.inl ⟨by rfl, ?_⟩) (by assumption) ?_
    rotate_left
    · (intro w hSw; (try dsimp only at hSw); go_simp)
      all_goals (with_reducible rfl)
    (try simp only [List.getElem_toArray, List.getElem_cons_zero, List.getElem_cons_succ, Act.put, List.setIfInBounds_toArray, List.set_cons_zero, List.set_cons_succ])
    refine wpAnyT_ready (rs := [11]) (by kernel_rfl) (by simp) ?_
    refine AllReadyT.cons rfl (fun K hK => ?_) AllReadyT.nil
    go_simp
    (go_at_call 45; ((with_reducible refine (HRK.out W4.drew (HLAT.out.to HZ4.out (Below.refl _ _).drew)).mono ?_); rintro e w5 ⟨g5, vs5', rfl, HR5, hb5⟩; have HXT5 := Lib.hid (carry2 hb5 HXT4.out); have HL5 := Lib.hid ((HLAT.out.to HZ4.out (Below.refl _ _).drew).to HZ4.out hb5); obtain ⟨u1, u2, u3, u4, u5, -⟩ := box5 HXT5.out.1; obtain ⟨u0, -⟩ := box2 HXT5.out.2; have HBB5 := Lib.hid hb5; have HZ5 := Lib.hid (Nat.le_trans HZ4.out hb5.size); clear hb5))
    go_wp2_with fail
    refine hK.out _ _ (fun _ => ?_) (fun hHeld0 => ?_)
    · (try dsimp only)
      (first | (with_reducible exact ⟨cell_dr t0, cell_dr x0, cell_dr x1, cell_dr x2, cell_dr x3, cell_dr x4⟩) | (with_reducible exact ⟨s0, s1, s2, s3, s4, s5⟩) | (with_reducible exact ⟨cell_al _ v0, cell_al _ v1, cell_al _ v2, cell_al _ v3, cell_al _ v4, cell_al _ v5⟩) | (with_reducible exact ⟨v0, v1, v2, v3, v4, v5⟩) | (with_reducible exact ⟨u0, u1, u2, u3, u4, u5⟩))
    have hHeld := hHeld0 (by kernel_rfl)
    clear hK K hHeld0
    (try simp only [List.getElem_toArray, List.getElem_cons_zero, List.getElem_cons_succ, Act.put, List.setIfInBounds_toArray, List.set_cons_zero, List.set_cons_succ])
    refine wpAnyT_ready (rs := [16]) (by kernel_rfl) (by simp) ?_
    refine AllReadyT.cons rfl (fun K hK => ?_) AllReadyT.nil
    go_simp
    (go_at_call 46; ((with_reducible refine (HRI.out w5 HL5.out).mono ?_); rintro e w6 ⟨a6, c6, rfl, HR6, hb6⟩; have HXT6 := Lib.hid (carry2 hb6 HXT5.out); obtain ⟨v1, v2, v3, v4, v5, -⟩ := box5 HXT6.out.1; obtain ⟨v0, -⟩ := box2 HXT6.out.2; have HBB6 := Lib.hid hb6; have HROW6 := Lib.hid (own_below (own_below (own_below HROW4.out (Below.refl _ _).drew) HBB5.out) hb6); have HZ6 := Lib.hid (Nat.le_trans HZ5.out hb6.size); clear hb6))
    go_wp2_with fail
    refine hK.out _ _ (fun _ => ?_) (fun hHeld0 => ?_)
    · (try dsimp only)
      (first | (with_reducible exact ⟨cell_dr t0, cell_dr x0, cell_dr x1, cell_dr x2, cell_dr x3, cell_dr x4⟩) | (with_reducible exact ⟨s0, s1, s2, s3, s4, s5⟩) | (with_reducible exact ⟨cell_al _ v0, cell_al _ v1, cell_al _ v2, cell_al _ v3, cell_al _ v4, cell_al _ v5⟩) | (with_reducible exact ⟨v0, v1, v2, v3, v4, v5⟩) | (with_reducible exact ⟨u0, u1, u2, u3, u4, u5⟩))
    have hHeld := hHeld0 (by kernel_rfl)
    clear hK K hHeld0
    (try simp only [List.getElem_toArray, List.getElem_cons_zero, List.getElem_cons_succ, Act.put, List.setIfInBounds_toArray, List.set_cons_zero, List.set_cons_succ])
    refine wpAnyT_pure (i := 21) (oi := _) (v := ?_) rfl (by kernel_rfl) (by kernel_rfl) (by kernel_rfl) (by kernel_rfl) (fun _ _ _ h => h) (Or.inl ⟨by rfl, ?_⟩) (fun _ => by assumption) ?_
    rotate_left
    · (intro w hSw; go_simp)
      all_goals (with_reducible rfl)
    (try simp only [List.getElem_toArray, List.getElem_cons_zero, List.getElem_cons_succ, Act.put, List.setIfInBounds_toArray, List.set_cons_zero, List.set_cons_succ])
    refine wpAnyT_ready (rs := [22]) (by kernel_rfl) (by simp) ?_
    refine AllReadyT.cons rfl (fun K hK => ?_) AllReadyT.nil
    go_simp
    refine hK.out _ _ (fun _ => ?_) (fun hHeld0 => ?_)
    · (try dsimp only)
      (first | (with_reducible exact ⟨cell_dr t0, cell_dr x0, cell_dr x1, cell_dr x2, cell_dr x3, cell_dr x4⟩) | (with_reducible exact ⟨s0, s1, s2, s3, s4, s5⟩) | (with_reducible exact ⟨cell_al _ v0, cell_al _ v1, cell_al _ v2, cell_al _ v3, cell_al _ v4, cell_al _ v5⟩) | (with_reducible exact ⟨v0, v1, v2, v3, v4, v5⟩) | (with_reducible exact ⟨u0, u1, u2, u3, u4, u5⟩))
    have hHeld := hHeld0 (by kernel_rfl)
    clear hK K hHeld0
    (try simp only [List.getElem_toArray, List.getElem_cons_zero, List.getElem_cons_succ, Act.put, List.setIfInBounds_toArray, List.set_cons_zero, List.set_cons_succ])
    refine wpAnyT_ready (rs := [23]) (by kernel_rfl) (by simp) ?_
    refine AllReadyT.cons rfl (fun K hK => ?_) AllReadyT.nil
    (refine step_append_lies _ (by rfl) _ _ _ (by rfl) B 43 i0 _ 5 88 Try.underlying22 hi0 hz0' hz1' hz2' rfl (by omega) (.slice (some ⟨P, 0, none⟩) N cap) N vs4 (by rfl) (HROW6.out.alloc _) ⟨w6.heap.size, 0, none⟩ 1 1 [.bool false, .slice (some ⟨g5, 0, none⟩) 2 2, .slice a6 3 c6, .slice ag nh cg, .int .i64 next] (by rfl) (by rfl) (new_cells w6 _ _) (by simp [Value.oneCell']) (by omega) (by unfold maxLen; omega) (by omega) (by have := HZ6.out; have := HBB.out.1; simp; omega) (w6.heap.size + 1) (by simp) ?_; intro gg cap7 w7 hown7 hgrow7 hat7 hlt7; have HXT7 := Lib.hid (And.intro ((hgrow7.block w.heap.size (by have := HZ6.out; have := (Array.getElem?_eq_some_iff.1 HXT6.out.1).1; simp; omega) (own_ne HPX.out)).trans ((Below.heap_alloc _ _ _ (Array.getElem?_eq_some_iff.1 HXT6.out.1).1).trans HXT6.out.1)) ((hgrow7.block Bt (by have := (Array.getElem?_eq_some_iff.1 HXT6.out.2).1; simp; omega) (own_ne HPT.out)).trans ((Below.heap_alloc _ _ _ (Array.getElem?_eq_some_iff.1 HXT6.out.2).1).trans HXT6.out.2))); obtain ⟨s1, s2, s3, s4, s5, -⟩ := box5 HXT7.out.1; obtain ⟨s0, -, sf0, -⟩ := box2 HXT7.out.2; have H7W := Lib.hid (And.intro hown7 (And.intro hgrow7 hat7)); clear hown7 hgrow7 hat7)
    refine hK.out _ _ (fun _ => ?_) (fun hHeld0 => ?_)
    · (try dsimp only)
      (first | (with_reducible exact ⟨cell_dr t0, cell_dr x0, cell_dr x1, cell_dr x2, cell_dr x3, cell_dr x4⟩) | (with_reducible exact ⟨s0, s1, s2, s3, s4, s5⟩) | (with_reducible exact ⟨cell_al _ v0, cell_al _ v1, cell_al _ v2, cell_al _ v3, cell_al _ v4, cell_al _ v5⟩) | (with_reducible exact ⟨v0, v1, v2, v3, v4, v5⟩) | (with_reducible exact ⟨u0, u1, u2, u3, u4, u5⟩))
    have hHeld := hHeld0 (by kernel_rfl)
    clear hK K hHeld0
    (try simp only [List.getElem_toArray, List.getElem_cons_zero, List.getElem_cons_succ, Act.put, List.setIfInBounds_toArray, List.set_cons_zero, List.set_cons_succ])
    refine wpAnyT_pure (i := 24) (oi := _) (v := ?_) rfl (by kernel_rfl) (by kernel_rfl) (by kernel_rfl) (by kernel_rfl) (fun _ _ _ h => h) (Or.inl ⟨by rfl, ?_⟩) (fun _ => by assumption) ?_
    rotate_left
    · (intro w hSw; go_simp)
      all_goals (with_reducible rfl)
    (try simp only [List.getElem_toArray, List.getElem_cons_zero, List.getElem_cons_succ, Act.put, List.setIfInBounds_toArray, List.set_cons_zero, List.set_cons_succ])
    refine wpAnyT_pure (i := 25) (oi := _) (v := ?_) rfl (by kernel_rfl) (by kernel_rfl) (by kernel_rfl) (by kernel_rfl) (fun _ _ _ h => h) (Or.inl ⟨by rfl, ?_⟩) (fun _ => by assumption) ?_
    rotate_left
    · (intro w hSw; go_simp)
      all_goals (with_reducible rfl)
    (try simp only [List.getElem_toArray, List.getElem_cons_zero, List.getElem_cons_succ, Act.put, List.setIfInBounds_toArray, List.set_cons_zero, List.set_cons_succ])
    refine wpAnyT_ready (rs := [26]) (by kernel_rfl) (by simp) ?_
    refine AllReadyT.cons rfl (fun K hK => ?_) AllReadyT.nil
    go_simp
    refine hK.out _ _ (noneB_off (by kernel_rfl)) (fun _ => ?_)
    clear hK K
    (try simp only [List.getElem_toArray, List.getElem_cons_zero, List.getElem_cons_succ, Act.put, List.setIfInBounds_toArray, List.set_cons_zero, List.set_cons_succ])
    refine wpAnyT_done (by kernel_rfl) ?_ _
    obtain ⟨g_p, g_k5, g_k6, g_fit, g_h0, g_N, g_nx, g_nh, g_mid, g_pd⟩ := HREST.out
    have HD := Lib.hid (split_end (R := 3) (p := ⟨false, keys, kids, high, next⟩) (root := root) g_N g_pd HBB.out.2.1 HBB.out.1 g_h0 HM.out.1 HM.out.2 HR5.out HBB5.out rfl HR6.out HBB6.out H7.out g_nx HX2.out H7W.out.1 H7W.out.2.1 H7W.out.2.2 HTW.out)
    clear g_p g_k5 g_k6 g_fit g_h0 g_N g_nx g_nh g_mid g_pd
    go_wp2_with fail
    go_ret2
    exact HD.out
  · have hkd6 : kids.length = 5 := by simpa using hkd
    rw [hkd6] at h5
    obtain ⟨gd, cd, rfl, -, -, hcd, hcdm⟩ := own_hd h5 (by omega)
    unfold maxLen at hcdm
    have hLI : ∀ W, Later own w W → Calls Try.prog 46 #[.slice (some ⟨gd, 0, none⟩) 2 cd] W fun e w' => ∃ a' c', e = .returned (.slice a' 2 c') ∧ Hid (w'.ownsRow W.heap.size 3 1 (.slice a' 2 c') 2 (ic (kids.take 2))) ∧ Below W.heap.size W w' :=
      fun W hW => ints_part hkd6.symm h5 (h6 gd rfl) 0 2 (by omega) (by omega) (by omega) W hW
    have hRI : ∀ W, Later own w W → Calls Try.prog 46 #[.slice (some ⟨gd, 2, none⟩) 3 (cd - 2)] W fun e w' => ∃ a' c', e = .returned (.slice a' 3 c') ∧ Hid (w'.ownsRow W.heap.size 3 1 (.slice a' 3 c') 3 (ic (kids.drop 2))) ∧ Below W.heap.size W w' :=
      fun W hW => by
        have q := ints_part hkd6.symm h5 (h6 gd rfl) 2 3 (by omega) (by omega) (by omega) W hW
        rwa [List.take_of_length_le (by rw [List.length_drop]; omega)] at q
    have hRK : ∀ W, Later own w W → Calls Try.prog 45 #[.slice (some ⟨gk, 2, none⟩) 3 (ck - 2)] W fun e w' => ∃ g' vs, e = .returned (.slice (some ⟨g', 0, none⟩) 3 3) ∧ Hid (KeysR W w' g' vs (keys.drop 2) 3) ∧ Below W.heap.size W w' :=
      fun W hW => by
        have q := keys_part hk5.symm h1 h4 (h2 gk rfl) hfit.key 2 3 (by omega) (by omega) (by omega) W hW
        rwa [List.take_of_length_le (by rw [List.length_drop]; omega)] at q
    obtain ⟨W0, hW0⟩ : ∃ W0 : World, W0 = w.alloc (.cells #[.bool true, .slice (some ⟨gk, 0, none⟩) 5 ck, .slice (some ⟨gd, 0, none⟩) 5 cd, .slice ag nh cg, .int .i64 next] 43) := ⟨_, rfl⟩
    have hb0 : Below w.heap.size w W0 := by rw [hW0]; exact (Below.refl _ _).alloc (Nat.le_refl _) _
    have hz0 : W0.heap.size = w.heap.size + 1 := by rw [hW0]; simp
    have hX0 : W0.heap[w.heap.size]? = some (.cells #[.bool true, .slice (some ⟨gk, 0, none⟩) 5 ck, .slice (some ⟨gd, 0, none⟩) 5 cd, .slice ag nh cg, .int .i64 next] 43 (0, 0)) := by rw [hW0]; exact new0 _ _
    have hBw : Bt < w.heap.size := by omega
    have hT0 : W0.heap[Bt]? = some (.cells #[.slice (some ⟨P, 0, none⟩) N cap, .int .i64 root] 24 (0, 0)) := (hb0.block Bt hBw).trans hbt
    have e20 : W0.cell? ⟨gk, 2, none⟩ = some (.slice ax nx cx) := cell_bel hb0 e2
    obtain ⟨t00, -⟩ := box2 hT0
    rw [hW0] at e20 t00
    have HLP := Lib.hid hLP
    have HLI := Lib.hid hLI
    have HRI := Lib.hid hRI
    have HRK := Lib.hid hRK
    have HHH := Lib.hid hHH
    have HB0 := Lib.hid hb0
    have HXT := Lib.hid (And.intro hX0 hT0)
    have HZ0 := Lib.hid hz0
    have HW0 := Lib.hid hW0
    rw [← hNN] at h
    have hrowN := h.row
    rw [← hNN] at hrowN
    have HROWN := Lib.hid hrowN
    have HG := Lib.hid h
    have HREST := Lib.hid (And.intro hp (And.intro hk5 (And.intro hkd6 (And.intro hfit (And.intro h0 (And.intro hNN (And.intro hnx (And.intro hnh (And.intro hmid hpd)))))))))
    have HX2 := Lib.hid hrx
    have H7 := Lib.hid h7
    have HTW := Lib.hid hbt
    have HBB := Lib.hid (And.intro hB (And.intro hBt hBw))
    have z1 : (2 : Int) ≤ (ck : Int) := by omega
    have z2 : (2 : Int) ≤ (ck : Int) := by omega
    have z3 : (2 : Int) ≤ (cd : Int) := by omega
    have z4 : (j : Int) < (N : Int) := by omega
    have z5 : (0 : Int) ≤ (j : Int) := by omega
    have z6 : ¬ (ck = 2) := by omega
    have z7 : ¬ (cd = 2) := by omega
    have hne : w.heap.size ≠ Bt := by omega
    clear hrowN hLP hLI hRI hRK hHH hb0 hX0 hT0 hz0 hW0 h hp hk5 hkd hkd6 hfit h0 hNN hnx hnh hmid hpd hrx h7 h1 h2 h4 h5 h6 hbt hx2 c0 c1 c2 c3 c4 hml hB hBt hBw
    go_enter Try.func35, Try.ntmps35
    go_wp2_with fail
    rw [← HW0.out]
    obtain ⟨x0, x1, x2, x3, x4, -⟩ := box5 HXT.out.1
    obtain ⟨t0, t1, tf0, -⟩ := box2 HXT.out.2
    refine wpT_begin (S := (fun wx => wx.cell? ⟨Bt, 0, none⟩ = some (.slice (some ⟨P, 0, none⟩) N cap) ∧ wx.cell? ⟨w.heap.size, 0, none⟩ = some (.bool true) ∧ wx.cell? ⟨w.heap.size, 1, none⟩ = some (.slice (some ⟨gk, 0, none⟩) 5 ck) ∧ wx.cell? ⟨w.heap.size, 2, none⟩ = some (.slice (some ⟨gd, 0, none⟩) 5 cd))) [22] (by kernel_rfl) ?_ (fun hHeld => ?_)
    · (try dsimp only)
      (first | (with_reducible exact ⟨cell_dr t0, cell_dr x0, cell_dr x1, cell_dr x2⟩) | (with_reducible exact ⟨s0, s1, s2, s3⟩) | (with_reducible exact ⟨v0, v1, v2, v3⟩) | (with_reducible exact ⟨u0, u1, u2, u3⟩))
    refine wpAnyT_pure (i := 0) (oi := _) (v := ?_) rfl (by kernel_rfl) (by kernel_rfl) (by kernel_rfl) (by kernel_rfl) (fun _ _ _ h => h) (Or.inl ⟨by rfl, ?_⟩) (fun _ => by assumption) ?_
    rotate_left
    · (intro w hSw; go_simp)
      all_goals (with_reducible rfl)
    (try simp only [List.getElem_toArray, List.getElem_cons_zero, List.getElem_cons_succ, Act.put, List.setIfInBounds_toArray, List.set_cons_zero, List.set_cons_succ])
    refine wpAnyT_pure (i := 1) (oi := _) (v := ?_) rfl (by kernel_rfl) (by kernel_rfl) (by kernel_rfl) (by kernel_rfl) (fun _ _ _ h => h) (Or.inl ⟨by rfl, ?_⟩) (fun _ => by assumption) ?_
    rotate_left
    · (intro w hSw; go_simp)
      all_goals (with_reducible rfl)
    (try simp only [List.getElem_toArray, List.getElem_cons_zero, List.getElem_cons_succ, Act.put, List.setIfInBounds_toArray, List.set_cons_zero, List.set_cons_succ])
    refine wpAnyT_pure (i := 2) (oi := _) (v := ?_) rfl (by kernel_rfl) (by kernel_rfl) (by kernel_rfl) (by kernel_rfl) (fun _ _ _ h => h) (Or.inl ⟨by rfl, ?_⟩) (fun _ => by assumption) ?_
    rotate_left
    · (intro w hSw; go_simp)
      all_goals (with_reducible rfl)
    (try simp only [List.getElem_toArray, List.getElem_cons_zero, List.getElem_cons_succ, Act.put, List.setIfInBounds_toArray, List.set_cons_zero, List.set_cons_succ])
    refine wpAnyT_take (i := 3) (oi := _) (v := ?_) rfl (by kernel_rfl) (by kernel_rfl) (by kernel_rfl) (by kernel_rfl) (fun _ _ _ h => h) (Or.inl ⟨by rfl, ?_⟩) (by assumption) ?_
    rotate_left
    · (intro w hSw; (try dsimp only at hSw); go_simp)
      all_goals (with_reducible rfl)
    (try simp only [List.getElem_toArray, List.getElem_cons_zero, List.getElem_cons_succ, Act.put, List.setIfInBounds_toArray, List.set_cons_zero, List.set_cons_succ])
    refine wpAnyT_pure (i := 4) (oi := _) (v := ?_) rfl (by kernel_rfl) (by kernel_rfl) (by kernel_rfl) (by kernel_rfl) (fun _ _ _ h => h) (Or.inl ⟨by rfl, ?_⟩) (fun _ => by assumption) ?_
    rotate_left
    · (intro w hSw; go_simp)
      all_goals (with_reducible rfl)
    (try simp only [List.getElem_toArray, List.getElem_cons_zero, List.getElem_cons_succ, Act.put, List.setIfInBounds_toArray, List.set_cons_zero, List.set_cons_succ])
    refine wpAnyT_pure (i := 5) (oi := _) (v := ?_) rfl (by kernel_rfl) (by kernel_rfl) (by kernel_rfl) (by kernel_rfl) (fun _ _ _ h => h) (Or.inl ⟨by rfl, ?_⟩) (fun _ => by assumption) ?_
    rotate_left
    · (intro w hSw; go_simp)
      all_goals (with_reducible rfl)
    (try simp only [List.getElem_toArray, List.getElem_cons_zero, List.getElem_cons_succ, Act.put, List.setIfInBounds_toArray, List.set_cons_zero, List.set_cons_succ])
    refine wpAnyT_take (i := 6) (oi := _) (v := ?_) rfl (by kernel_rfl) (by kernel_rfl) (by kernel_rfl) (by kernel_rfl) (fun _ _ _ h => h) (Or.inl ⟨by rfl, ?_⟩) (by assumption) ?_
    rotate_left
    · (intro w hSw; (try dsimp only at hSw); go_simp)
      all_goals (with_reducible rfl)
    (try simp only [List.getElem_toArray, List.getElem_cons_zero, List.getElem_cons_succ, Act.put, List.setIfInBounds_toArray, List.set_cons_zero, List.set_cons_succ])
    refine wpAnyT_pure (i := 7) (oi := _) (v := ?_) rfl (by kernel_rfl) (by kernel_rfl) (by kernel_rfl) (by kernel_rfl) (fun _ _ _ h => h) (Or.inl ⟨by rfl, ?_⟩) (fun _ => by assumption) ?_
    rotate_left
    · (intro w hSw; go_simp)
      all_goals (with_reducible rfl)
    (try simp only [List.getElem_toArray, List.getElem_cons_zero, List.getElem_cons_succ, Act.put, List.setIfInBounds_toArray, List.set_cons_zero, List.set_cons_succ])
    refine wpAnyT_take (i := 8) (oi := _) (v := ?_) rfl (by kernel_rfl) (by kernel_rfl) (by kernel_rfl) (by kernel_rfl) (fun _ _ _ h => h) (Or.inl ⟨by rfl, ?_⟩) (by assumption) ?_
    rotate_left
    · (intro w hSw; (try dsimp only at hSw); go_simp)
      all_goals (with_reducible rfl)
    (try simp only [List.getElem_toArray, List.getElem_cons_zero, List.getElem_cons_succ, Act.put, List.setIfInBounds_toArray, List.set_cons_zero, List.set_cons_succ])
    refine wpAnyT_pure (i := 9) (oi := _) (v := ?_) rfl (by kernel_rfl) (by kernel_rfl) (by kernel_rfl) (by kernel_rfl) (fun _ _ _ h => h) (Or.inl ⟨by rfl, ?_⟩) (fun _ => by assumption) ?_
    rotate_left
    · (intro w hSw; go_simp)
      all_goals (with_reducible rfl)
    (try simp only [List.getElem_toArray, List.getElem_cons_zero, List.getElem_cons_succ, Act.put, List.setIfInBounds_toArray, List.set_cons_zero, List.set_cons_succ])
    refine wpAnyT_pure (i := 10) (oi := _) (v := ?_) rfl (by kernel_rfl) (by kernel_rfl) (by kernel_rfl) (by kernel_rfl) (fun _ _ _ h => h) (Or.inl ⟨by rfl, ?_⟩) (fun _ => by assumption) ?_
    rotate_left
    · (intro w hSw; go_simp)
      all_goals (with_reducible rfl)
    (try simp only [List.getElem_toArray, List.getElem_cons_zero, List.getElem_cons_succ, Act.put, List.setIfInBounds_toArray, List.set_cons_zero, List.set_cons_succ])
    refine wpAnyT_pure (i := 12) (oi := _) (v := ?_) rfl (by kernel_rfl) (by kernel_rfl) (by kernel_rfl) (by kernel_rfl) (fun _ _ _ h => h) (Or.inl ⟨by rfl, ?_⟩) (fun _ => by assumption) ?_
    rotate_left
    · (intro w hSw; go_simp)
      all_goals (with_reducible rfl)
    (try simp only [List.getElem_toArray, List.getElem_cons_zero, List.getElem_cons_succ, Act.put, List.setIfInBounds_toArray, List.set_cons_zero, List.set_cons_succ])
    refine wpAnyT_take (i := 13) (oi := _) (v := ?_) rfl (by kernel_rfl) (by kernel_rfl) (by kernel_rfl) (by kernel_rfl) (fun _ _ _ h => h) (Or.inl ⟨by rfl, ?_⟩) (by assumption) ?_
    rotate_left
    · (intro w hSw; (try dsimp only at hSw); go_simp)
      all_goals (with_reducible rfl)
    (try simp only [List.getElem_toArray, List.getElem_cons_zero, List.getElem_cons_succ, Act.put, List.setIfInBounds_toArray, List.set_cons_zero, List.set_cons_succ])
    refine wpAnyT_pure (i := 14) (oi := _) (v := ?_) rfl (by kernel_rfl) (by kernel_rfl) (by kernel_rfl) (by kernel_rfl) (fun _ _ _ h => h) (Or.inl ⟨by rfl, ?_⟩) (fun _ => by assumption) ?_
    rotate_left
    · (intro w hSw; go_simp)
      all_goals (with_reducible rfl)
    (try simp only [List.getElem_toArray, List.getElem_cons_zero, List.getElem_cons_succ, Act.put, List.setIfInBounds_toArray, List.set_cons_zero, List.set_cons_succ])
    refine wpAnyT_pure (i := 15) (oi := _) (v := ?_) rfl (by kernel_rfl) (by kernel_rfl) (by kernel_rfl) (by kernel_rfl) (fun _ _ _ h => h) (Or.inl ⟨by rfl, ?_⟩) (fun _ => by assumption) ?_
    rotate_left
    · (intro w hSw; go_simp)
      all_goals (with_reducible rfl)
    (try simp only [List.getElem_toArray, List.getElem_cons_zero, List.getElem_cons_succ, Act.put, List.setIfInBounds_toArray, List.set_cons_zero, List.set_cons_succ])
    refine wpAnyT_pure (i := 17) (oi := _) (v := ?_) rfl (by kernel_rfl) (by kernel_rfl) (by kernel_rfl) (by kernel_rfl) (fun _ _ _ h => h) (Or.inl ⟨by rfl, ?_⟩) (fun _ => by assumption) ?_
    rotate_left
    · (intro w hSw; go_simp)
      all_goals (with_reducible rfl)
    (try simp only [List.getElem_toArray, List.getElem_cons_zero, List.getElem_cons_succ, Act.put, List.setIfInBounds_toArray, List.set_cons_zero, List.set_cons_succ])
    refine wpAnyT_pure (i := 19) (oi := _) (v := ?_) rfl (by kernel_rfl) (by kernel_rfl) (by kernel_rfl) (by kernel_rfl) (fun _ _ _ h => h) (Or.inl ⟨by rfl, ?_⟩) (fun _ => by assumption) ?_
    rotate_left
    · (intro w hSw; go_simp)
      all_goals (with_reducible rfl)
    (try simp only [List.getElem_toArray, List.getElem_cons_zero, List.getElem_cons_succ, Act.put, List.setIfInBounds_toArray, List.set_cons_zero, List.set_cons_succ])
    refine wpAnyT_ready (rs := [11]) (by kernel_rfl) (by simp) ?_
    refine AllReadyT.cons rfl (fun K hK => ?_) AllReadyT.nil
    go_simp
    (go_at_call 45; ((with_reducible refine (HLP.out W0.drew (Later.of HB0.out.drew)).mono ?_); rintro e w1 ⟨g1, vs1, rfl, HR1, hb1⟩; have HB1 := Lib.hid (into HB0.out.drew hb1); have HXT1 := Lib.hid (carry2 hb1 HXT.out); obtain ⟨u1, u2, u3, -⟩ := box5 HXT1.out.1; obtain ⟨u0, -⟩ := box2 HXT1.out.2; have HBB1 := Lib.hid hb1; clear hb1))
    go_wp2_with fail
    refine hK.out _ _ (fun _ => ?_) (fun hHeld0 => ?_)
    · (try dsimp only)
      (first | (with_reducible exact ⟨cell_dr t0, cell_dr x0, cell_dr x1, cell_dr x2⟩) | (with_reducible exact ⟨s0, s1, s2, s3⟩) | (with_reducible exact ⟨v0, v1, v2, v3⟩) | (with_reducible exact ⟨u0, u1, u2, u3⟩))
    have hHeld := hHeld0 (by kernel_rfl)
    clear hK K hHeld0
    (try simp only [List.getElem_toArray, List.getElem_cons_zero, List.getElem_cons_succ, Act.put, List.setIfInBounds_toArray, List.set_cons_zero, List.set_cons_succ])
    refine wpAnyT_ready (rs := [16]) (by kernel_rfl) (by simp) ?_
    refine AllReadyT.cons rfl (fun K hK => ?_) AllReadyT.nil
    go_simp
    (go_at_call 46; ((with_reducible refine (HLI.out w1 (Later.of HB1.out)).mono ?_); rintro e w2 ⟨a2, c2, rfl, HR2, hb2⟩; have HB2 := Lib.hid (into HB1.out hb2); have HXT2 := Lib.hid (carry2 hb2 HXT1.out); obtain ⟨v1, v2, v3, -⟩ := box5 HXT2.out.1; obtain ⟨v0, -⟩ := box2 HXT2.out.2; have HBB2 := Lib.hid hb2; clear hb2))
    go_wp2_with fail
    refine hK.out _ _ (fun _ => ?_) (fun hHeld0 => ?_)
    · (try dsimp only)
      (first | (with_reducible exact ⟨cell_dr t0, cell_dr x0, cell_dr x1, cell_dr x2⟩) | (with_reducible exact ⟨s0, s1, s2, s3⟩) | (with_reducible exact ⟨v0, v1, v2, v3⟩) | (with_reducible exact ⟨u0, u1, u2, u3⟩))
    have hHeld := hHeld0 (by kernel_rfl)
    clear hK K hHeld0
    (try simp only [List.getElem_toArray, List.getElem_cons_zero, List.getElem_cons_succ, Act.put, List.setIfInBounds_toArray, List.set_cons_zero, List.set_cons_succ])
    refine wpAnyT_ready (rs := [18]) (by kernel_rfl) (by simp) ?_
    refine AllReadyT.cons rfl (fun K hK => ?_) AllReadyT.nil
    go_simp
    (go_at_call 17; ((with_reducible refine (HHH.out w2 (Later.of HB2.out)).mono ?_); rintro e w3 ⟨a3, c3, rfl, HR3, hb3⟩; have HB3 := Lib.hid (into HB2.out hb3); have HXT3 := Lib.hid (carry2 hb3 HXT2.out); obtain ⟨s1, s2, s3, s4, s5, -⟩ := box5 HXT3.out.1; obtain ⟨s0, -⟩ := box2 HXT3.out.2; obtain ⟨y0, y1, y2, y3, y4, d0, d1, d2, d3, d4, f0, f1, f2, f3, f4⟩ := row_cells (n := N) (j := j) (own_below HROWN.out HB3.out) (by omega); have HBB3 := Lib.hid hb3; clear hb3))
    go_wp2_with fail
    refine hK.out _ _ (fun _ => ?_) (fun hHeld0 => ?_)
    · (try dsimp only)
      (first | (with_reducible exact ⟨cell_dr t0, cell_dr x0, cell_dr x1, cell_dr x2⟩) | (with_reducible exact ⟨s0, s1, s2, s3⟩) | (with_reducible exact ⟨v0, v1, v2, v3⟩) | (with_reducible exact ⟨u0, u1, u2, u3⟩))
    have hHeld := hHeld0 (by kernel_rfl)
    clear hK K hHeld0
    (try simp only [List.getElem_toArray, List.getElem_cons_zero, List.getElem_cons_succ, Act.put, List.setIfInBounds_toArray, List.set_cons_zero, List.set_cons_succ])
    refine wpAnyT_pure (i := 20) (oi := _) (v := ?_) rfl (by kernel_rfl) (by kernel_rfl) (by kernel_rfl) (by kernel_rfl) (fun _ _ _ h => h) (Or.inl ⟨by rfl, ?_⟩) (fun _ => by assumption) ?_
    rotate_left
    · (intro w hSw; go_simp)
      all_goals (with_reducible rfl)
    (try simp only [List.getElem_toArray, List.getElem_cons_zero, List.getElem_cons_succ, Act.put, List.setIfInBounds_toArray, List.set_cons_zero, List.set_cons_succ])
    refine wpAnyT_pure (i := 21) (oi := _) (v := ?_) rfl (by kernel_rfl) (by kernel_rfl) (by kernel_rfl) (by kernel_rfl) (fun _ _ _ h => h) (Or.inl ⟨by rfl, ?_⟩) (fun _ => by assumption) ?_
    rotate_left
    · (intro w hSw; go_simp)
      all_goals (with_reducible rfl)
    (try simp only [List.getElem_toArray, List.getElem_cons_zero, List.getElem_cons_succ, Act.put, List.setIfInBounds_toArray, List.set_cons_zero, List.set_cons_succ])
    refine wpAnyT_ready (rs := [22]) (by kernel_rfl) (by simp) ?_
    refine AllReadyT.cons rfl (fun K hK => ?_) AllReadyT.nil
    go_simp
    refine hK.out _ _ (noneB_off (by kernel_rfl)) (fun _ => ?_)
    clear hK K
    (try simp only [List.getElem_toArray, List.getElem_cons_zero, List.getElem_cons_succ, Act.put, List.setIfInBounds_toArray, List.set_cons_zero, List.set_cons_succ])
    refine wpAnyT_done (by kernel_rfl) ?_ _
    obtain ⟨g_p, g_k5, g_k6, g_fit, g_h0, g_N, g_nx, g_nh, g_mid, g_pd⟩ := HREST.out
    have hmid : ∃ own1 vs', PgsO (setPg w3 P (j * 5) (.bool true) (.slice (some ⟨g1, 0, none⟩) 2 2) (.slice a2 2 c2) (.slice a3 nx c3) (.int .i64 (N : Int))) B own1 (.slice (some ⟨P, 0, none⟩) N cap) (ps.set j (leftP ⟨true, keys, kids, high, next⟩ ps.length)) (fun _ => False) vs' ∧
        Fr own own1 w (setPg w3 P (j * 5) (.bool true) (.slice (some ⟨g1, 0, none⟩) 2 2) (.slice a2 2 c2) (.slice a3 nx c3) (.int .i64 (N : Int))) := split_mid (R := 2) (p := ⟨true, keys, kids, high, next⟩) g_N HG.out g_p HBB.out.1 HB0.out HR1.out HBB1.out rfl HR2.out HBB2.out g_nx HR3.out HBB3.out
    obtain ⟨W4, hW4⟩ : ∃ W4, W4 = setPg w3 P (j * 5) (.bool true) (.slice (some ⟨g1, 0, none⟩) 2 2) (.slice a2 2 c2) (.slice a3 nx c3) (.int .i64 (N : Int)) := ⟨_, rfl⟩
    obtain ⟨own1, vs4, hm1, hm2⟩ := hmid
    rw [← hW4] at hm1 hm2
    have hPB : B ≤ P ∧ P < w.heap.size := HG.out.row.lt P rfl
    have hfar : ∀ b, b ≠ P → W4.heap[b]? = w3.heap[b]? := fun b hb => by
      rw [hW4]; unfold setPg
      rw [Below.heap_setCell _ _ _ _ hb, Below.heap_setCell _ _ _ _ hb, Below.heap_setCell _ _ _ _ hb, Below.heap_setCell _ _ _ _ hb, Below.heap_setCell _ _ _ _ hb]
    have HPX : Hid (P ≠ w.heap.size) := by have := hPB.2; exact Nat.ne_of_lt this
    have HPT : Hid (P ≠ Bt) := by have := hPB.1; have := HBB.out.2.1; exact Ne.symm (Nat.ne_of_lt (by omega))
    have HXT4 := Lib.hid (And.intro ((hfar w.heap.size (by omega)).trans HXT3.out.1) ((hfar Bt (by have := HBB.out.2.1; omega)).trans HXT3.out.2))
    have hlat : Later own w W4 := fun b hb hne => (hfar b (by rintro rfl; exact hne (HG.out.tag _ rfl))).trans (HB3.out.block b hb)
    have hz4 : W4.heap.size = w3.heap.size := by rw [hW4]; simp [setPg]
    have hz3 := HB3.out.size
    have HLAT := Lib.hid hlat
    have HM := Lib.hid (And.intro hm1 hm2)
    have hrow4 := hm1.row
    rw [List.length_set, ← g_N] at hrow4
    have HROW4 := Lib.hid hrow4
    have e4 := hW4
    unfold setPg at e4
    have e4' : W4 = ((((w3.setCell ⟨P, j * 5, none⟩ (.bool true)).setCell ⟨P, j * 5 + 1, none⟩ (.slice (some ⟨g1, 0, none⟩) 2 2)).setCell ⟨P, j * 5 + 2, none⟩ (.slice a2 2 c2)).setCell ⟨P, j * 5 + 3, none⟩ (.slice a3 nx c3)).setCell ⟨P, j * 5 + 4, none⟩ (.int .i64 (N : Int)) := e4
    rw [← e4']
    have HZ4 := Lib.hid (show w.heap.size ≤ W4.heap.size by rw [hz4]; exact hz3)
    obtain ⟨i0, hi0, hz0', hz1', hz2'⟩ := info_parts Try.info43
    have hN88 := hN
    clear e4 e4' hW4 hm1 hm2 hfar hlat hz4 hz3 hrow4 HR1 HR2 HR3 HBB1 HBB2 HBB3 HXT1 HXT2 HXT3 HB1 HB2 HB3 u1 u2 u3 u0 v0 v1 v2 v3 s0 s1 s2 s3 s4 s5 y0 y1 y2 y3 y4 d0 d1 d2 d3 d4 f0 f1 f2 f3 f4 x0 x1 x2 x3 x4 t0 t1 tf0 hHeld HLP HLI HHH g_p g_k5 g_k6 g_fit g_h0 g_N g_nx g_nh g_mid g_pd e20 t00 HW0 HXT e2 q0 q1 q2 q3 q4 b0 b1 bf0 bf1
    go_wp2_with fail
    obtain ⟨x0, x1, x2, x3, x4, -⟩ := box5 HXT4.out.1
    obtain ⟨t0, t1, tf0, -⟩ := box2 HXT4.out.2
    refine wpT_begin (S := (fun wx => wx.cell? ⟨Bt, 0, none⟩ = some (.slice (some ⟨P, 0, none⟩) N cap) ∧ wx.cell? ⟨w.heap.size, 0, none⟩ = some (.bool true) ∧ wx.cell? ⟨w.heap.size, 1, none⟩ = some (.slice (some ⟨gk, 0, none⟩) 5 ck) ∧ wx.cell? ⟨w.heap.size, 2, none⟩ = some (.slice (some ⟨gd, 0, none⟩) 5 cd) ∧ wx.cell? ⟨w.heap.size, 3, none⟩ = some (.slice ag nh cg) ∧ wx.cell? ⟨w.heap.size, 4, none⟩ = some (.int .i64 next))) [26] (by kernel_rfl) ?_ (fun hHeld => ?_)
    · (try dsimp only)
      (first | (with_reducible exact ⟨cell_dr t0, cell_dr x0, cell_dr x1, cell_dr x2, cell_dr x3, cell_dr x4⟩) | (with_reducible exact ⟨s0, s1, s2, s3, s4, s5⟩) | (with_reducible exact ⟨cell_al _ v0, cell_al _ v1, cell_al _ v2, cell_al _ v3, cell_al _ v4, cell_al _ v5⟩) | (with_reducible exact ⟨v0, v1, v2, v3, v4, v5⟩) | (with_reducible exact ⟨u0, u1, u2, u3, u4, u5⟩))
    refine wpAnyT_pure (i := 0) (oi := _) (v := ?_) rfl (by kernel_rfl) (by kernel_rfl) (by kernel_rfl) (by kernel_rfl) (fun _ _ _ h => h) (Or.inl ⟨by rfl, ?_⟩) (fun _ => by assumption) ?_
    rotate_left
    · (intro w hSw; go_simp)
      all_goals (with_reducible rfl)
    (try simp only [List.getElem_toArray, List.getElem_cons_zero, List.getElem_cons_succ, Act.put, List.setIfInBounds_toArray, List.set_cons_zero, List.set_cons_succ])
    refine wpAnyT_pure (i := 1) (oi := _) (v := ?_) rfl (by kernel_rfl) (by kernel_rfl) (by kernel_rfl) (by kernel_rfl) (fun _ _ _ h => h) (Or.inl ⟨by rfl, ?_⟩) (fun _ => by assumption) ?_
    rotate_left
    · (intro w hSw; go_simp)
      all_goals (with_reducible rfl)
    (try simp only [List.getElem_toArray, List.getElem_cons_zero, List.getElem_cons_succ, Act.put, List.setIfInBounds_toArray, List.set_cons_zero, List.set_cons_succ])
    refine wpAnyT_pure (i := 2) (oi := _) (v := ?_) rfl (by kernel_rfl) (by kernel_rfl) (by kernel_rfl) (by kernel_rfl) (fun _ _ _ h => h) (Or.inl ⟨by rfl, ?_⟩) (fun _ => by assumption) ?_
    rotate_left
    · (intro w hSw; go_simp)
      all_goals (with_reducible rfl)
    (try simp only [List.getElem_toArray, List.getElem_cons_zero, List.getElem_cons_succ, Act.put, List.setIfInBounds_toArray, List.set_cons_zero, List.set_cons_succ])
    refine wpAnyT_pure (i := 3) (oi := _) (v := ?_) rfl (by kernel_rfl) (by kernel_rfl) (by kernel_rfl) (by kernel_rfl) (fun _ _ _ h => h) (Or.inl ⟨by rfl, ?_⟩) (fun _ => by assumption) ?_
    rotate_left
    · (intro w hSw; go_simp)
      all_goals (with_reducible rfl)
    (try simp only [List.getElem_toArray, List.getElem_cons_zero, List.getElem_cons_succ, Act.put, List.setIfInBounds_toArray, List.set_cons_zero, List.set_cons_succ])
    refine wpAnyT_take (i := 4) (oi := _) (v := ?_) rfl (by kernel_rfl) (by kernel_rfl) (by kernel_rfl) (by kernel_rfl) (fun _ _ _ h => h) (Or.inl ⟨by rfl, ?_⟩) (by assumption) ?_
    rotate_left
    · (intro w hSw; (try dsimp only at hSw); go_simp)
      all_goals (with_reducible rfl)
    (try simp only [List.getElem_toArray, List.getElem_cons_zero, List.getElem_cons_succ, Act.put, List.setIfInBounds_toArray, List.set_cons_zero, List.set_cons_succ])
    refine wpAnyT_pure (i := 5) (oi := _) (v := ?_) rfl (by kernel_rfl) (by kernel_rfl) (by kernel_rfl) (by kernel_rfl) (fun _ _ _ h => h) (Or.inl ⟨by rfl, ?_⟩) (fun _ => by assumption) ?_
    rotate_left
    · (intro w hSw; go_simp)
      all_goals (with_reducible rfl)
    (try simp only [List.getElem_toArray, List.getElem_cons_zero, List.getElem_cons_succ, Act.put, List.setIfInBounds_toArray, List.set_cons_zero, List.set_cons_succ])
    refine wpAnyT_take (i := 6) (oi := _) (v := ?_) rfl (by kernel_rfl) (by kernel_rfl) (by kernel_rfl) (by kernel_rfl) (fun _ _ _ h => h) (Or.inl ⟨by rfl, ?_⟩) (by assumption) ?_
    rotate_left
    · (intro w hSw; (try dsimp only at hSw); go_simp)
      all_goals (with_reducible rfl)
    (try simp only [List.getElem_toArray, List.getElem_cons_zero, List.getElem_cons_succ, Act.put, List.setIfInBounds_toArray, List.set_cons_zero, List.set_cons_succ])
    refine wpAnyT_pure (i := 7) (oi := _) (v := ?_) rfl (by kernel_rfl) (by kernel_rfl) (by kernel_rfl) (by kernel_rfl) (fun _ _ _ h => h) (Or.inl ⟨by rfl, ?_⟩) (fun _ => by assumption) ?_
    rotate_left
    · (intro w hSw; go_simp)
      all_goals (with_reducible rfl)
    (try simp only [List.getElem_toArray, List.getElem_cons_zero, List.getElem_cons_succ, Act.put, List.setIfInBounds_toArray, List.set_cons_zero, List.set_cons_succ])
    refine wpAnyT_take (i := 8) (oi := _) (v := ?_) rfl (by kernel_rfl) (by kernel_rfl) (by kernel_rfl) (by kernel_rfl) (fun _ _ _ h => h) (Or.inl ⟨by rfl, ?_⟩) (by assumption) ?_
    rotate_left
    · (intro w hSw; (try dsimp only at hSw); go_simp)
      all_goals (with_reducible rfl)
    (try simp only [List.getElem_toArray, List.getElem_cons_zero, List.getElem_cons_succ, Act.put, List.setIfInBounds_toArray, List.set_cons_zero, List.set_cons_succ])
    refine wpAnyT_pure (i := 9) (oi := _) (v := ?_) rfl (by kernel_rfl) (by kernel_rfl) (by kernel_rfl) (by kernel_rfl) (fun _ _ _ h => h) (Or.inl ⟨by rfl, ?_⟩) (fun _ => by assumption) ?_
    rotate_left
    · (intro w hSw; go_simp)
      all_goals (with_reducible rfl)
    (try simp only [List.getElem_toArray, List.getElem_cons_zero, List.getElem_cons_succ, Act.put, List.setIfInBounds_toArray, List.set_cons_zero, List.set_cons_succ])
    refine wpAnyT_pure (i := 10) (oi := _) (v := ?_) rfl (by kernel_rfl) (by kernel_rfl) (by kernel_rfl) (by kernel_rfl) (fun _ _ _ h => h) (Or.inl ⟨by rfl, ?_⟩) (fun _ => by assumption) ?_
    rotate_left
    · (intro w hSw; go_simp)
      all_goals (with_reducible rfl)
    (try simp only [List.getElem_toArray, List.getElem_cons_zero, List.getElem_cons_succ, Act.put, List.setIfInBounds_toArray, List.set_cons_zero, List.set_cons_succ])
    refine wpAnyT_pure (i := 12) (oi := _) (v := ?_) rfl (by kernel_rfl) (by kernel_rfl) (by kernel_rfl) (by kernel_rfl) (fun _ _ _ h => h) (Or.inl ⟨by rfl, ?_⟩) (fun _ => by assumption) ?_
    rotate_left
    · (intro w hSw; go_simp)
      all_goals (with_reducible rfl)
    (try simp only [List.getElem_toArray, List.getElem_cons_zero, List.getElem_cons_succ, Act.put, List.setIfInBounds_toArray, List.set_cons_zero, List.set_cons_succ])
    refine wpAnyT_take (i := 13) (oi := _) (v := ?_) rfl (by kernel_rfl) (by kernel_rfl) (by kernel_rfl) (by kernel_rfl) (fun _ _ _ h => h) (Or.inl ⟨by rfl, ?_⟩) (by assumption) ?_
    rotate_left
    · (intro w hSw; (try dsimp only at hSw); go_simp)
      all_goals (with_reducible rfl)
    (try simp only [List.getElem_toArray, List.getElem_cons_zero, List.getElem_cons_succ, Act.put, List.setIfInBounds_toArray, List.set_cons_zero, List.set_cons_succ])
    refine wpAnyT_pure (i := 14) (oi := _) (v := ?_) rfl (by kernel_rfl) (by kernel_rfl) (by kernel_rfl) (by kernel_rfl) (fun _ _ _ h => h) (Or.inl ⟨by rfl, ?_⟩) (fun _ => by assumption) ?_
    rotate_left
    · (intro w hSw; go_simp)
      all_goals (with_reducible rfl)
    (try simp only [List.getElem_toArray, List.getElem_cons_zero, List.getElem_cons_succ, Act.put, List.setIfInBounds_toArray, List.set_cons_zero, List.set_cons_succ])
    refine wpAnyT_pure (i := 15) (oi := _) (v := ?_) rfl (by kernel_rfl) (by kernel_rfl) (by kernel_rfl) (by kernel_rfl) (fun _ _ _ h => h) (Or.inl ⟨by rfl, ?_⟩) (fun _ => by assumption) ?_
    rotate_left
    · (intro w hSw; go_simp)
      all_goals (with_reducible rfl)
    (try simp only [List.getElem_toArray, List.getElem_cons_zero, List.getElem_cons_succ, Act.put, List.setIfInBounds_toArray, List.set_cons_zero, List.set_cons_succ])
    refine wpAnyT_pure (i := 17) (oi := _) (v := ?_) rfl (by kernel_rfl) (by kernel_rfl) (by kernel_rfl) (by kernel_rfl) (fun _ _ _ h => h) (Or.inl ⟨by rfl, ?_⟩) (fun _ => by assumption) ?_
    rotate_left
    · (intro w hSw; go_simp)
      all_goals (with_reducible rfl)
    (try simp only [List.getElem_toArray, List.getElem_cons_zero, List.getElem_cons_succ, Act.put, List.setIfInBounds_toArray, List.set_cons_zero, List.set_cons_succ])
    refine wpAnyT_take (i := 18) (oi := _) (v := ?_) rfl (by kernel_rfl) (by kernel_rfl) (by kernel_rfl) (by kernel_rfl) (fun _ _ _ h => h) (Or.inl ⟨by rfl, ?_⟩) (by assumption) ?_
    rotate_left
    · (intro w hSw; (try dsimp only at hSw); go_simp)
      all_goals (with_reducible rfl)
    (try simp only [List.getElem_toArray, List.getElem_cons_zero, List.getElem_cons_succ, Act.put, List.setIfInBounds_toArray, List.set_cons_zero, List.set_cons_succ])
    refine wpAnyT_pure (i := 19) (oi := _) (v := ?_) rfl (by kernel_rfl) (by kernel_rfl) (by kernel_rfl) (by kernel_rfl) (fun _ _ _ h => h) (Or.inl ⟨by rfl, ?_⟩) (fun _ => by assumption) ?_
    rotate_left
    · (intro w hSw; go_simp)
      all_goals (with_reducible rfl)
    (try simp only [List.getElem_toArray, List.getElem_cons_zero, List.getElem_cons_succ, Act.put, List.setIfInBounds_toArray, List.set_cons_zero, List.set_cons_succ])
    refine wpAnyT_take (i := 20) (oi := _) (v := ?_) rfl (by kernel_rfl) (by kernel_rfl) (by kernel_rfl) (by kernel_rfl) (fun _ _ _ h => h) (Or.inl ⟨by rfl, ?_⟩) (by assumption) ?_
    rotate_left
    · (intro w hSw; (try dsimp only at hSw); go_simp)
      all_goals (with_reducible rfl)
    (try simp only [List.getElem_toArray, List.getElem_cons_zero, List.getElem_cons_succ, Act.put, List.setIfInBounds_toArray, List.set_cons_zero, List.set_cons_succ])
    refine wpAnyT_ready (rs := [11]) (by kernel_rfl) (by simp) ?_
    refine AllReadyT.cons rfl (fun K hK => ?_) AllReadyT.nil
    go_simp
    (go_at_call 45; ((with_reducible refine (HRK.out W4.drew (HLAT.out.to HZ4.out (Below.refl _ _).drew)).mono ?_); rintro e w5 ⟨g5, vs5', rfl, HR5, hb5⟩; have HXT5 := Lib.hid (carry2 hb5 HXT4.out); have HL5 := Lib.hid ((HLAT.out.to HZ4.out (Below.refl _ _).drew).to HZ4.out hb5); obtain ⟨u1, u2, u3, u4, u5, -⟩ := box5 HXT5.out.1; obtain ⟨u0, -⟩ := box2 HXT5.out.2; have HBB5 := Lib.hid hb5; have HZ5 := Lib.hid (Nat.le_trans HZ4.out hb5.size); clear hb5))
    go_wp2_with fail
    refine hK.out _ _ (fun _ => ?_) (fun hHeld0 => ?_)
    · (try dsimp only)
      (first | (with_reducible exact ⟨cell_dr t0, cell_dr x0, cell_dr x1, cell_dr x2, cell_dr x3, cell_dr x4⟩) | (with_reducible exact ⟨s0, s1, s2, s3, s4, s5⟩) | (with_reducible exact ⟨cell_al _ v0, cell_al _ v1, cell_al _ v2, cell_al _ v3, cell_al _ v4, cell_al _ v5⟩) | (with_reducible exact ⟨v0, v1, v2, v3, v4, v5⟩) | (with_reducible exact ⟨u0, u1, u2, u3, u4, u5⟩))
    have hHeld := hHeld0 (by kernel_rfl)
    clear hK K hHeld0
    (try simp only [List.getElem_toArray, List.getElem_cons_zero, List.getElem_cons_succ, Act.put, List.setIfInBounds_toArray, List.set_cons_zero, List.set_cons_succ])
    refine wpAnyT_ready (rs := [16]) (by kernel_rfl) (by simp) ?_
    refine AllReadyT.cons rfl (fun K hK => ?_) AllReadyT.nil
    go_simp
    (go_at_call 46; ((with_reducible refine (HRI.out w5 HL5.out).mono ?_); rintro e w6 ⟨a6, c6, rfl, HR6, hb6⟩; have HXT6 := Lib.hid (carry2 hb6 HXT5.out); obtain ⟨v1, v2, v3, v4, v5, -⟩ := box5 HXT6.out.1; obtain ⟨v0, -⟩ := box2 HXT6.out.2; have HBB6 := Lib.hid hb6; have HROW6 := Lib.hid (own_below (own_below (own_below HROW4.out (Below.refl _ _).drew) HBB5.out) hb6); have HZ6 := Lib.hid (Nat.le_trans HZ5.out hb6.size); clear hb6))
    go_wp2_with fail
    refine hK.out _ _ (fun _ => ?_) (fun hHeld0 => ?_)
    · (try dsimp only)
      (first | (with_reducible exact ⟨cell_dr t0, cell_dr x0, cell_dr x1, cell_dr x2, cell_dr x3, cell_dr x4⟩) | (with_reducible exact ⟨s0, s1, s2, s3, s4, s5⟩) | (with_reducible exact ⟨cell_al _ v0, cell_al _ v1, cell_al _ v2, cell_al _ v3, cell_al _ v4, cell_al _ v5⟩) | (with_reducible exact ⟨v0, v1, v2, v3, v4, v5⟩) | (with_reducible exact ⟨u0, u1, u2, u3, u4, u5⟩))
    have hHeld := hHeld0 (by kernel_rfl)
    clear hK K hHeld0
    (try simp only [List.getElem_toArray, List.getElem_cons_zero, List.getElem_cons_succ, Act.put, List.setIfInBounds_toArray, List.set_cons_zero, List.set_cons_succ])
    refine wpAnyT_pure (i := 21) (oi := _) (v := ?_) rfl (by kernel_rfl) (by kernel_rfl) (by kernel_rfl) (by kernel_rfl) (fun _ _ _ h => h) (Or.inl ⟨by rfl, ?_⟩) (fun _ => by assumption) ?_
    rotate_left
    · (intro w hSw; go_simp)
      all_goals (with_reducible rfl)
    (try simp only [List.getElem_toArray, List.getElem_cons_zero, List.getElem_cons_succ, Act.put, List.setIfInBounds_toArray, List.set_cons_zero, List.set_cons_succ])
    refine wpAnyT_ready (rs := [22]) (by kernel_rfl) (by simp) ?_
    refine AllReadyT.cons rfl (fun K hK => ?_) AllReadyT.nil
    go_simp
    refine hK.out _ _ (fun _ => ?_) (fun hHeld0 => ?_)
    · (try dsimp only)
      (first | (with_reducible exact ⟨cell_dr t0, cell_dr x0, cell_dr x1, cell_dr x2, cell_dr x3, cell_dr x4⟩) | (with_reducible exact ⟨s0, s1, s2, s3, s4, s5⟩) | (with_reducible exact ⟨cell_al _ v0, cell_al _ v1, cell_al _ v2, cell_al _ v3, cell_al _ v4, cell_al _ v5⟩) | (with_reducible exact ⟨v0, v1, v2, v3, v4, v5⟩) | (with_reducible exact ⟨u0, u1, u2, u3, u4, u5⟩))
    have hHeld := hHeld0 (by kernel_rfl)
    clear hK K hHeld0
    (try simp only [List.getElem_toArray, List.getElem_cons_zero, List.getElem_cons_succ, Act.put, List.setIfInBounds_toArray, List.set_cons_zero, List.set_cons_succ])
    refine wpAnyT_ready (rs := [23]) (by kernel_rfl) (by simp) ?_
    refine AllReadyT.cons rfl (fun K hK => ?_) AllReadyT.nil
    (refine step_append_lies _ (by rfl) _ _ _ (by rfl) B 43 i0 _ 5 88 Try.underlying22 hi0 hz0' hz1' hz2' rfl (by omega) (.slice (some ⟨P, 0, none⟩) N cap) N vs4 (by rfl) (HROW6.out.alloc _) ⟨w6.heap.size, 0, none⟩ 1 1 [.bool true, .slice (some ⟨g5, 0, none⟩) 3 3, .slice a6 3 c6, .slice ag nh cg, .int .i64 next] (by rfl) (by rfl) (new_cells w6 _ _) (by simp [Value.oneCell']) (by omega) (by unfold maxLen; omega) (by omega) (by have := HZ6.out; have := HBB.out.1; simp; omega) (w6.heap.size + 1) (by simp) ?_; intro gg cap7 w7 hown7 hgrow7 hat7 hlt7; have HXT7 := Lib.hid (And.intro ((hgrow7.block w.heap.size (by have := HZ6.out; have := (Array.getElem?_eq_some_iff.1 HXT6.out.1).1; simp; omega) (own_ne HPX.out)).trans ((Below.heap_alloc _ _ _ (Array.getElem?_eq_some_iff.1 HXT6.out.1).1).trans HXT6.out.1)) ((hgrow7.block Bt (by have := (Array.getElem?_eq_some_iff.1 HXT6.out.2).1; simp; omega) (own_ne HPT.out)).trans ((Below.heap_alloc _ _ _ (Array.getElem?_eq_some_iff.1 HXT6.out.2).1).trans HXT6.out.2))); obtain ⟨s1, s2, s3, s4, s5, -⟩ := box5 HXT7.out.1; obtain ⟨s0, -, sf0, -⟩ := box2 HXT7.out.2; have H7W := Lib.hid (And.intro hown7 (And.intro hgrow7 hat7)); clear hown7 hgrow7 hat7)
    refine hK.out _ _ (fun _ => ?_) (fun hHeld0 => ?_)
    · (try dsimp only)
      (first | (with_reducible exact ⟨cell_dr t0, cell_dr x0, cell_dr x1, cell_dr x2, cell_dr x3, cell_dr x4⟩) | (with_reducible exact ⟨s0, s1, s2, s3, s4, s5⟩) | (with_reducible exact ⟨cell_al _ v0, cell_al _ v1, cell_al _ v2, cell_al _ v3, cell_al _ v4, cell_al _ v5⟩) | (with_reducible exact ⟨v0, v1, v2, v3, v4, v5⟩) | (with_reducible exact ⟨u0, u1, u2, u3, u4, u5⟩))
    have hHeld := hHeld0 (by kernel_rfl)
    clear hK K hHeld0
    (try simp only [List.getElem_toArray, List.getElem_cons_zero, List.getElem_cons_succ, Act.put, List.setIfInBounds_toArray, List.set_cons_zero, List.set_cons_succ])
    refine wpAnyT_pure (i := 24) (oi := _) (v := ?_) rfl (by kernel_rfl) (by kernel_rfl) (by kernel_rfl) (by kernel_rfl) (fun _ _ _ h => h) (Or.inl ⟨by rfl, ?_⟩) (fun _ => by assumption) ?_
    rotate_left
    · (intro w hSw; go_simp)
      all_goals (with_reducible rfl)
    (try simp only [List.getElem_toArray, List.getElem_cons_zero, List.getElem_cons_succ, Act.put, List.setIfInBounds_toArray, List.set_cons_zero, List.set_cons_succ])
    refine wpAnyT_pure (i := 25) (oi := _) (v := ?_) rfl (by kernel_rfl) (by kernel_rfl) (by kernel_rfl) (by kernel_rfl) (fun _ _ _ h => h) (Or.inl ⟨by rfl, ?_⟩) (fun _ => by assumption) ?_
    rotate_left
    · (intro w hSw; go_simp)
      all_goals (with_reducible rfl)
    (try simp only [List.getElem_toArray, List.getElem_cons_zero, List.getElem_cons_succ, Act.put, List.setIfInBounds_toArray, List.set_cons_zero, List.set_cons_succ])
    refine wpAnyT_ready (rs := [26]) (by kernel_rfl) (by simp) ?_
    refine AllReadyT.cons rfl (fun K hK => ?_) AllReadyT.nil
    go_simp
    refine hK.out _ _ (noneB_off (by kernel_rfl)) (fun _ => ?_)
    clear hK K
    (try simp only [List.getElem_toArray, List.getElem_cons_zero, List.getElem_cons_succ, Act.put, List.setIfInBounds_toArray, List.set_cons_zero, List.set_cons_succ])
    refine wpAnyT_done (by kernel_rfl) ?_ _
    obtain ⟨g_p, g_k5, g_k6, g_fit, g_h0, g_N, g_nx, g_nh, g_mid, g_pd⟩ := HREST.out
    have HD := Lib.hid (split_end (R := 2) (p := ⟨true, keys, kids, high, next⟩) (root := root) g_N g_pd HBB.out.2.1 HBB.out.1 g_h0 HM.out.1 HM.out.2 HR5.out HBB5.out rfl HR6.out HBB6.out H7.out g_nx HX2.out H7W.out.1 H7W.out.2.1 H7W.out.2.2 HTW.out)
    clear g_p g_k5 g_k6 g_fit g_h0 g_N g_nx g_nh g_mid g_pd
    go_wp2_with fail
    go_ret2
    exact HD.out
end Go.Proofs.Ytahammkjkfdmhaa
