/- What is too full, split up to the root. -/
import Derived.Test.YtahammkjkfdmhaaTk
import Derived.Test.YtahammkjkfdmhaaTc
import Derived.Deep.QuietTactic
import Derived.BigQuiet
namespace Go.Proofs.Ytahammkjkfdmhaa
open Go.ChangeShapes Go.WideShapes Go.ChangeAt Go.RowKit
set_option linter.unusedVariables false
set_option linter.unusedSimpArgs false
set_option maxHeartbeats 8000000
set_option maxRecDepth 100000
/-- The tree that is left when pages have been split up to the root. -/
def finR (root : Int) (x : List Pg × Option (Key × Nat)) : Tr :=
  match x with
  | (ps, none) => ⟨ps, root⟩
  | (ps, some (up, rt)) => ⟨ps ++ [⟨false, [up], [root, (rt : Int)], [], -1⟩], (ps.length : Int)⟩
theorem insTr_up {T : Tr} {h : Nat} {t : Tb h} {k : Key} {v : Int} (hr : Reps T h t) (ho : okK k) (hv : 0 ≤ v) (hn : ∀ e ∈ entT h t, e.1 ≠ k) : insTr T h k v = finR T.root (upR (upT h t k) (putR T.pages (leafT h t k).1 k v) (leafT h t k).1) := by
  have hnd := hr.nodup
  have hlt := hr.lt
  obtain ⟨hroot, hrep, hwf, hids⟩ := hr
  have hY : addP h T.pages T.root.toNat k v = addP h T.pages (idT h t) k v := by rw [hroot, Int.toNat_natCast]
  rw [← addP_up h T.pages [] [] [] [] t k v hwf ⟨kl_nil k, .inl rfl⟩ ho hv hn hrep hnd hlt, ← hY]
  unfold insTr finR
  rcases addP h T.pages T.root.toNat k v with ⟨ps, _ | ⟨up, rt⟩⟩ <;> rfl
theorem pathT_up : ∀ (h : Nat) (t : Tb h) (k : Key), pathT h t k = ((leafT h t k).1 :: upT h t k).reverse
  | 0, t, k => rfl
  | h + 1, t, k => by
    show t.1 :: pathT h (pickK k t.2.1 t.2.2) k = ((leafT h (pickK k t.2.1 t.2.2) k).1 :: (upT h (pickK k t.2.1 t.2.2) k ++ [t.1])).reverse
    rw [pathT_up h]
    simp
theorem upR_done {anc : List Nat} {ps : List Pg} {j : Nat} (h : (ps.getD j noPg).keys.length ≤ 4) : upR anc ps j = (ps, none) := by
  cases anc <;> (unfold upR; rw [if_pos h])
theorem upR_step {a : Nat} {r : List Nat} {ps : List Pg} {j : Nat} (h : ¬ (ps.getD j noPg).keys.length ≤ 4) : upR (a :: r) ps j = upR r (putR (splitR ps j) a (midK ps j) (ps.length : Int)) a := by
  conv => lhs; unfold upR
  rw [if_neg h]
  rfl
theorem upR_root {ps : List Pg} {j : Nat} (h : ¬ (ps.getD j noPg).keys.length ≤ 4) : upR [] ps j = (splitR ps j, some (midK ps j, ps.length)) := by
  unfold upR
  rw [if_neg h]
  rfl
/-- Keys that rise, in every page; the key that goes up stands in none above. -/
def RiseAll (ps : List Pg) : Prop := ∀ p ∈ ps, RiseK p.keys
/-- What the box of the tree holds. -/
def BoxT (w : World) (Bt P n cap : Nat) (root : Int) : Prop := w.heap[Bt]? = some (.cells #[.slice (some ⟨P, 0, none⟩) n cap, .int .i64 root] 24 (0, 0))
theorem root_new {w w2 : World} {B : Nat} {own : Tag} {X1 X2 : Nat} {a : Option Addr} {c n : Nat} {up : Key} {root : Int} {rt : Nat} (hB : B ≤ w.heap.size) (hb : Below w.heap.size w w2) (hn : n = up.length) (hx : RB w (Fz B own) (.slice a n c) up)
    (h1 : w2.heap[X1]? = some (.cells #[.slice a n c] 25 (0, 0))) (h2 : w2.heap[X2]? = some (.cells #[.int .i64 root, .int .i64 (rt : Int)] 3 (0, 0))) (g1 : w.heap.size ≤ X1) (g2 : w.heap.size ≤ X2) (hne : X1 ≠ X2) :
    PgNew w w2 B own ⟨false, [up], [root, (rt : Int)], [], -1⟩ (.slice (some ⟨X1, 0, none⟩) 1 1) (.slice (some ⟨X2, 0, none⟩) 2 2) (.slice none 0 0) [.slice a n c] := by
  refine ⟨⟨rfl, .inr ⟨X1, 1, _, rfl, g1, h1, by simp, by simp [maxLen], rfl, rfl⟩⟩, ⟨rfl, .inr ⟨X2, 2, _, rfl, g2, h2, by simp, by simp [maxLen], rfl, rfl⟩⟩, fun b e e' => ?_, fun i k hi hk => ?_, ⟨Rd.nil _ _, fun a n c e _ => by cases e⟩, hb, hB⟩
  · have := own_eq e
    have := own_eq e'
    omega
  · rcases i with _ | i
    · simp at hk
      subst hk
      exact ⟨_, rfl, hx.to fun b hlt hz => ⟨hb.block b hlt, .inl ⟨hlt, hz⟩⟩⟩
    · simp at hk
/-- On the way up, at place m of the path; at the end. -/
def SpRun (w : World) (B Bt : Nat) (own : Tag) (root : Int) (L : List Nat) (G : Tr) (m : Nat) (wr : World) : Prop :=
  ∃ own' ps vs P cap, BoxT wr Bt P ps.length cap root ∧ PgsO wr B own' (.slice (some ⟨P, 0, none⟩) ps.length cap) ps (fun _ => False) vs ∧ UpOk ps (L.take m).reverse (L.getD m 0) ∧ UpIn (L.take m).reverse ps (L.getD m 0) ∧
    finR root (upR (L.take m).reverse ps (L.getD m 0)) = G ∧ FrX Bt own own' w wr ∧ ps.length + m ≤ 50000
def SpEnd (w : World) (B Bt : Nat) (own : Tag) (G : Tr) (wr : World) : Prop :=
  ∃ own' vs P cap, BoxT wr Bt P G.pages.length cap G.root ∧ PgsO wr B own' (.slice (some ⟨P, 0, none⟩) G.pages.length cap) G.pages (fun _ => False) vs ∧ FrX Bt own own' w wr
theorem take_rev {L : List Nat} {m : Nat} (h : m < L.length) : (L.take (m + 1)).reverse = L.getD m 0 :: (L.take m).reverse := by
  rw [List.take_succ_eq_append_getElem h, List.reverse_append, List.getD, List.getElem?_eq_getElem h]
  rfl
theorem SpRun.done {w wr : World} {B Bt : Nat} {own : Tag} {root : Int} {L : List Nat} {G : Tr} {m : Nat} {own' : Tag} {ps : List Pg} {vs : List Value} {P cap : Nat} (h1 : BoxT wr Bt P ps.length cap root) (h2 : PgsO wr B own' (.slice (some ⟨P, 0, none⟩) ps.length cap) ps (fun _ => False) vs)
    (h3 : finR root (upR (L.take m).reverse ps (L.getD m 0)) = G) (h4 : FrX Bt own own' w wr) (hk : (ps.getD (L.getD m 0) noPg).keys.length ≤ 4) : SpEnd w B Bt own G wr := by
  rw [upR_done hk] at h3
  subst h3
  exact ⟨own', vs, P, cap, h1, h2, h4⟩
/-- The cells of a page's row, by its number. -/
theorem PgsO.keys_cell {w : World} {B : Nat} {own : Tag} {P cap : Nat} {ps : List Pg} {tight : Nat → Prop} {vs : List Value} (h : PgsO w B own (.slice (some ⟨P, 0, none⟩) ps.length cap) ps tight vs) {j : Nat} (hj : j < ps.length) :
    ∃ a c, w.cell? ⟨P, j * 5 + 1, none⟩ = some (.slice a (ps.getD j noPg).keys.length c) := by
  obtain ⟨k, d, g, ks, c0, c1, c2, c3, c4, h1, -⟩ := h.pg j (ps.getD j noPg) (by simp [List.getD, hj])
  obtain ⟨_, a, c, e, _⟩ := Rd.own h1
  exact ⟨a, c, by rw [← e]; exact (pg_cells h.row c1).1⟩
theorem frx_drewN {Bt : Nat} {own own' : Tag} {w wr : World} (h : FrX Bt own own' w wr) (q : Nat) : FrX Bt own own' w (wr.drewN q) := ⟨h.os, h.tape, h.output, h.size, h.block, h.tag⟩
theorem bel_drewN (wr : World) (q : Nat) : Below wr.heap.size wr (wr.drewN q) := ⟨rfl, rfl, rfl, Nat.le_refl _, fun _ _ => rfl⟩
theorem SpEnd.drewN {w wr : World} {B Bt : Nat} {own : Tag} {G : Tr} (h : SpEnd w B Bt own G wr) (q : Nat) : SpEnd w B Bt own G (wr.drewN q) := by
  obtain ⟨own', vs, P, cap, h1, h2, h3⟩ := h
  exact ⟨own', vs, P, cap, h1, h2.below (bel_drewN wr q) fun _ _ => rfl, frx_drewN h3 q⟩
theorem run_drewN {w wr : World} {B Bt : Nat} {own own' : Tag} {root : Int} {L : List Nat} {G : Tr} {m j : Nat} {ps : List Pg} {vs : List Value} {P cap : Nat}
    (h : BoxT wr Bt P ps.length cap root ∧ PgsO wr B own' (.slice (some ⟨P, 0, none⟩) ps.length cap) ps (fun _ => False) vs ∧ UpOk ps (L.take m).reverse j ∧ UpIn (L.take m).reverse ps j ∧ finR root (upR (L.take m).reverse ps j) = G ∧ FrX Bt own own' w wr ∧ ps.length + m ≤ 50000) (q : Nat) :
    BoxT (wr.drewN q) Bt P ps.length cap root ∧ PgsO (wr.drewN q) B own' (.slice (some ⟨P, 0, none⟩) ps.length cap) ps (fun _ => False) vs ∧ UpOk ps (L.take m).reverse j ∧ UpIn (L.take m).reverse ps j ∧ finR root (upR (L.take m).reverse ps j) = G ∧ FrX Bt own own' w (wr.drewN q) ∧ ps.length + m ≤ 50000 :=
  ⟨h.1, h.2.1.below (bel_drewN wr q) fun _ _ => rfl, h.2.2.1, h.2.2.2.1, h.2.2.2.2.1, frx_drewN h.2.2.2.2.2.1 q, h.2.2.2.2.2.2⟩
/-- What split asks of a page on the way up. -/
theorem run_split {w wq : World} {B Bt : Nat} {own own' : Tag} {root : Int} {L : List Nat} {G : Tr} {m j : Nat} {ps : List Pg} {vs : List Value} {P cap : Nat} (hBt : Bt < B) (hB : B ≤ w.heap.size) (h0 : ∀ b, b < B → own b = 0)
    (h : BoxT wq Bt P ps.length cap root ∧ PgsO wq B own' (.slice (some ⟨P, 0, none⟩) ps.length cap) ps (fun _ => False) vs ∧ UpOk ps (L.take m).reverse j ∧ UpIn (L.take m).reverse ps j ∧ finR root (upR (L.take m).reverse ps j) = G ∧ FrX Bt own own' w wq ∧ ps.length + m ≤ 50000)
    (hfull : ¬ (ps.getD j noPg).keys.length ≤ 4) : Calls Try.prog 35 #[.pointer (some ⟨Bt, 0, none⟩), .int .i64 (j : Int)] wq (SplitIs wq B Bt own' ps root j) := by
  obtain ⟨r1, r2, r3, r4, r5, r6, r7⟩ := h
  have hlt := r3.lt
  have hk5 : (ps.getD j noPg).keys.length = 5 := by have := r3.ks; omega
  exact split_any wq B Bt own' P cap root ps _ vs j (ps.getD j noPg) r1 hBt r2 (by simp [List.getD, hlt]) hk5 (by rw [r3.kd, hk5]) (r3.fit _ (getD_mem hlt)) (Nat.le_trans hB r6.size) (fun b hb => by rw [r6.tag b (by omega)]; exact h0 b hb) (by omega)
theorem getD_at {ps : List Pg} {i : Nat} (h : i < ps.length) : ps[i]? = some (ps.getD i noPg) := by simp [List.getD, h]
theorem hasK_no {k : Key} {ks : List Key} (h : k ∉ ks) : hasK k ks = false := by
  unfold hasK
  rw [decide_eq_false_iff_not]
  rintro ⟨h1, h2⟩
  refine h ?_
  rw [← h2]
  simp only [List.getD, List.getElem?_eq_getElem h1, Option.getD_some]
  exact List.getElem_mem h1
/-- What put asks of the page above. -/
theorem run_put {w wq w1 : World} {B Bt : Nat} {own own' own1 : Tag} {root : Int} {L : List Nat} {G : Tr} {m j : Nat} {ps : List Pg} {vs vs1 : List Value} {P cap P1 cap1 c : Nat} {a : Option Addr} (hBt : Bt < B) (hB : B ≤ w.heap.size) (hm : m < L.length)
    (h : BoxT wq Bt P ps.length cap root ∧ PgsO wq B own' (.slice (some ⟨P, 0, none⟩) ps.length cap) ps (fun _ => False) vs ∧ UpOk ps (L.take (m + 1)).reverse j ∧ UpIn (L.take (m + 1)).reverse ps j ∧ finR root (upR (L.take (m + 1)).reverse ps j) = G ∧ FrX Bt own own' w wq ∧ ps.length + (m + 1) ≤ 50000)
    (hfull : ¬ (ps.getD j noPg).keys.length ≤ 4) (s2 : PgsO w1 B own1 (.slice (some ⟨P1, 0, none⟩) (ps.length + 1) cap1) (splitR ps j) (fun _ => False) vs1) (s3 : RB w1 (Fz B own1) (.slice a (midK ps j).length c) (midK ps j)) (s4 : FrX Bt own' own1 wq w1) :
    Calls Try.prog 16 #[.pointer (some ⟨P1, (L.getD m 0) * 5, none⟩), .slice a (midK ps j).length c, .int .i64 (ps.length : Int)] w1.drew
      (PutIs w1.drew B own1 (.slice (some ⟨P1, 0, none⟩) (ps.length + 1) cap1) (putR (splitR ps j) (L.getD m 0) (midK ps j) (ps.length : Int))) := by
  obtain ⟨r1, r2, r3, r4, r5, r6, r7⟩ := h
  rw [take_rev hm] at r3 r4
  obtain ⟨u1, u2, -⟩ := r4 hfull
  obtain ⟨v1, v2, v3, v4⟩ := r3.up _ (List.mem_cons_self)
  have hna : L.getD m 0 ≠ j := fun e => (List.nodup_cons.1 r3.nd).1 (by rw [← e]; simp)
  have hoff := splitR_off (ps := ps) hna v1
  have hlt : L.getD m 0 < (splitR ps j).length := by rw [splitR_len]; omega
  have q := put_any2 w1.drew B own1 P1 (ps.length + 1) cap1 (splitR ps j) _ vs1 (L.getD m 0) (.slice a (midK ps j).length c) (midK ps j) (ps.length : Int) ((splitR ps j).getD (L.getD m 0) noPg) (s2.below (Below.refl _ _).drew fun _ _ => rfl) (splitR_len ps j).symm (getD_at hlt) (s3.to fun b _ hz => ⟨rfl, hz⟩)
    (by rw [hoff]; exact u1) (by rw [hoff]; exact hasK_no u2) (by rw [hoff]; omega) (by rw [hoff, v4, v2]; rfl) (Nat.le_trans hB (Nat.le_trans r6.size s4.size))
  exact q
theorem run_step {w wq w1 w2 : World} {B Bt : Nat} {own own' own1 : Tag} {root : Int} {L : List Nat} {G : Tr} {m j : Nat} {ps : List Pg} {vs vs1 : List Value} {P cap P1 cap1 : Nat} {e : Ending} (hBt : Bt < B) (hB : B ≤ w.heap.size) (h0 : ∀ b, b < B → own b = 0) (hm : m < L.length)
    (h : BoxT wq Bt P ps.length cap root ∧ PgsO wq B own' (.slice (some ⟨P, 0, none⟩) ps.length cap) ps (fun _ => False) vs ∧ UpOk ps (L.take (m + 1)).reverse j ∧ UpIn (L.take (m + 1)).reverse ps j ∧ finR root (upR (L.take (m + 1)).reverse ps j) = G ∧ FrX Bt own own' w wq ∧ ps.length + (m + 1) ≤ 50000)
    (hfull : ¬ (ps.getD j noPg).keys.length ≤ 4) (s1 : w1.heap[Bt]? = some (.cells #[.slice (some ⟨P1, 0, none⟩) (ps.length + 1) cap1, .int .i64 root] 24 (0, 0))) (s4 : FrX Bt own' own1 wq w1)
    (hp : PutIs w1.drew B own1 (.slice (some ⟨P1, 0, none⟩) (ps.length + 1) cap1) (putR (splitR ps j) (L.getD m 0) (midK ps j) (ps.length : Int)) e w2) : SpRun w B Bt own root L G m w2 := by
  obtain ⟨r1, r2, r3, r4, r5, r6, r7⟩ := h
  obtain ⟨-, own2, vs2, p1, p2⟩ := hp
  rw [take_rev hm] at r3 r4 r5
  have hst := r3.step
  rw [upR_step hfull] at r5
  have hfr : FrX Bt own own2 w w2 := (r6.trans s4).trans ((Fr.of_below (Below.refl _ _).drew).trans p2 |>.x Bt)
  have hl : (putR (splitR ps j) (L.getD m 0) (midK ps j) (ps.length : Int)).length = ps.length + 1 := by rw [putR_len, splitR_len]
  have hBw : Bt < wq.heap.size := by have := r6.size; omega
  have h1B : own1 Bt = 0 := by rw [s4.tag Bt hBw, r6.tag Bt (by omega)]; exact h0 Bt hBt
  refine ⟨own2, _, vs2, P1, cap1, ?_, by rw [hl]; exact p1, hst, (r4 hfull).2.2, r5, hfr, by rw [hl]; omega⟩
  rw [hl]
  exact (p2.block Bt (by show Bt < w1.heap.size; have := s4.size; omega) h1B).trans s1
theorem run_root {w wq w1 w2 w3 : World} {B Bt : Nat} {own own' own1 : Tag} {root : Int} {L : List Nat} {G : Tr} {j : Nat} {ps : List Pg} {vs vs1 : List Value} {P cap P1 cap1 cap3 c X1 X2 gg nx N : Nat} {a : Option Addr} {o : Obj} (hN : N = ps.length) (hnx : nx = (midK ps j).length) (hBt : Bt < B) (hB : B ≤ w.heap.size) (h0 : ∀ b, b < B → own b = 0)
    (h : BoxT wq Bt P ps.length cap root ∧ PgsO wq B own' (.slice (some ⟨P, 0, none⟩) ps.length cap) ps (fun _ => False) vs ∧ UpOk ps (L.take 0).reverse j ∧ UpIn (L.take 0).reverse ps j ∧ finR root (upR (L.take 0).reverse ps j) = G ∧ FrX Bt own own' w wq ∧ ps.length + 0 ≤ 50000)
    (hfull : ¬ (ps.getD j noPg).keys.length ≤ 4) (s1 : w1.heap[Bt]? = some (.cells #[.slice (some ⟨P1, 0, none⟩) (N + 1) cap1, .int .i64 root] 24 (0, 0))) (s2 : PgsO w1 B own1 (.slice (some ⟨P1, 0, none⟩) (N + 1) cap1) (splitR ps j) (fun _ => False) vs1)
    (s3 : RB w1 (Fz B own1) (.slice a nx c) (midK ps j)) (s4 : FrX Bt own' own1 wq w1) (hb2 : Below w1.drew.heap.size w1.drew w2)
    (hX1 : w2.heap[X1]? = some (.cells #[.slice a nx c] 25 (0, 0))) (hX2 : w2.heap[X2]? = some (.cells #[.int .i64 root, .int .i64 (N : Int)] 3 (0, 0))) (g1 : w1.drew.heap.size ≤ X1) (g2 : w1.drew.heap.size ≤ X2) (hne : X1 ≠ X2)
    (hr : w3.ownsRow B 43 5 (.slice (some ⟨gg, 0, none⟩) (N + 1 + 1) cap3) (N + 1 + 1) (vs1 ++ [.bool false, .slice (some ⟨X1, 0, none⟩) 1 1, .slice (some ⟨X2, 0, none⟩) 2 2, .slice none 0 0, .int .i64 (-1)])) (hg : (w2.alloc o).grownBy w3 (some P1)) (hat : (some P1 : Option Nat) = some gg ∨ gg = w2.heap.size + 1) :
    SpEnd w B Bt own G ((w3.setCell ⟨Bt, 0, none⟩ (.slice (some ⟨gg, 0, none⟩) (N + 1 + 1) cap3)).setCell ⟨Bt, 1, none⟩ (.int .i64 ((N : Int) + 1))) := by
  subst hN hnx
  obtain ⟨r1, r2, r3, r4, r5, r6, r7⟩ := h
  have e0 : (L.take 0).reverse = [] := rfl
  rw [e0, upR_root hfull] at r5
  have hz1 : B ≤ w1.heap.size := Nat.le_trans hB (Nat.le_trans r6.size s4.size)
  have hn : PgNew w1.drew w2 B own1 ⟨false, [midK ps j], [root, (ps.length : Int)], [], -1⟩ (.slice (some ⟨X1, 0, none⟩) 1 1) (.slice (some ⟨X2, 0, none⟩) 2 2) (.slice none 0 0) [.slice a (midK ps j).length c] :=
    root_new hz1 hb2 rfl (s3.to fun b _ hz => ⟨rfl, hz⟩) hX1 hX2 g1 g2 hne
  obtain ⟨own2, q1, q2⟩ := hn.push (o := o) (v' := .slice (some ⟨gg, 0, none⟩) (ps.length + 1 + 1) cap3) (s2.below (Below.refl _ _).drew fun _ _ => rfl) (by rw [splitR_len]; exact hr) hg (by
    rcases hat with e | e
    · left; show some gg = some P1; exact e.symm
    · right; show some gg = _; rw [e])
  have hBw : Bt < wq.heap.size := by have := r6.size; omega
  have h1B : own1 Bt = 0 := by rw [s4.tag Bt hBw, r6.tag Bt (by omega)]; exact h0 Bt hBt
  have hT3 := (q2.block Bt (by show Bt < w1.heap.size; omega) h1B).trans s1
  have hT4 := box2_set0 (u := .slice (some ⟨gg, 0, none⟩) (ps.length + 1 + 1) cap3) hT3
  have hT5 : ((w3.setCell ⟨Bt, 0, none⟩ (.slice (some ⟨gg, 0, none⟩) (ps.length + 1 + 1) cap3)).setCell ⟨Bt, 1, none⟩ (.int .i64 ((ps.length : Int) + 1))).heap[Bt]? = some (.cells #[.slice (some ⟨gg, 0, none⟩) (ps.length + 1 + 1) cap3, .int .i64 ((ps.length : Int) + 1)] 24 (0, 0)) := by
    obtain ⟨hlt, hk⟩ := Array.getElem?_eq_some_iff.1 hT4
    show ((w3.setCell _ _).heap.modify Bt _)[Bt]? = _
    rw [Array.getElem?_eq_getElem (by rw [Array.size_modify]; exact hlt), Array.getElem_modify_self, hk]
    rfl
  have hGp : G = ⟨splitR ps j ++ [⟨false, [midK ps j], [root, (ps.length : Int)], [], -1⟩], ((splitR ps j).length : Int)⟩ := by rw [← r5]; rfl
  have hGl : G.pages.length = ps.length + 1 + 1 := by rw [hGp]; simp [splitR_len]
  have hGr : G.root = (ps.length : Int) + 1 := by rw [hGp]; simp [splitR_len]
  have hGq : G.pages = splitR ps j ++ [⟨false, [midK ps j], [root, (ps.length : Int)], [], -1⟩] := by rw [hGp]
  refine ⟨own2, vs1 ++ [.bool false, .slice (some ⟨X1, 0, none⟩) 1 1, .slice (some ⟨X2, 0, none⟩) 2 2, .slice none 0 0, .int .i64 (-1)], gg, cap3, ?_, ?_, ((r6.trans s4).trans (((Fr.of_below (Below.refl _ _).drew).trans q2).x Bt)).trans ((FrX.store Bt 0 _).trans (FrX.store Bt 1 _))⟩
  · unfold BoxT
    rw [hGl, hGr]
    exact hT5
  · rw [hGl, hGq]
    exact q1.high fun b hb => by rw [Below.heap_setCell _ _ _ _ (by show b ≠ Bt; omega), Below.heap_setCell _ _ _ _ (by show b ≠ Bt; omega)]
theorem bel_dr {w w2 : World} (h : Below w.heap.size w w2) : Below w.drew.heap.size w.drew w2 := ⟨h.os, h.tape, h.output, h.size, h.block⟩
theorem gb_undr {w w3 : World} {r : Option Nat} (h : w.drew.grownBy w3 r) : w.grownBy w3 r := ⟨h.os, h.tape, h.output, h.size, h.block⟩
theorem new_a (w : World) (o o2 : Obj) : ((w.alloc o).alloc o2).heap[w.heap.size]? = some o := (Below.heap_alloc _ _ _ (by simp)).trans (new0 w o)
theorem new_b (w : World) (o o2 : Obj) : ((w.alloc o).alloc o2).heap[w.heap.size + 1]? = some o2 := by have := new0 (w.alloc o) o2; rwa [World.size_alloc] at this
theorem grow_box {w W w3 : World} {Bt P n cap : Nat} {x : Obj} (hg : W.drew.grownBy w3 (Value.slice (some ⟨P, 0, none⟩) n cap).ownBlock) (hne : P ≠ Bt) (hb : Below w.heap.size w W) (h : w.heap[Bt]? = some x) : w3.heap[Bt]? = some x :=
  (hg.block Bt (Nat.lt_of_lt_of_le (Array.getElem?_eq_some_iff.1 h).1 hb.size) (own_ne hne)).trans ((hb.block Bt (Array.getElem?_eq_some_iff.1 h).1).trans h)
def UpIs (w : World) (B Bt : Nat) (own : Tag) (G : Tr) (e : Ending) (w' : World) : Prop := (∃ u, e = .returned u) ∧ SpEnd w B Bt own G w'
theorem splitUp_any (w : World) (B Bt : Nat) (own : Tag) (root : Int) (L : List Nat) (G : Tr) (n Pb cp : Nat) (hn : L.length = n + 1) (hn2 : n ≤ 40000) (hpv : Rd w 1 (n + 1) (.slice (some ⟨Pb, 0, none⟩) (n + 1) cp) (nc L)) (hPb : own Pb = 0) (hPt : Pb ≠ Bt)
    (hst : SpRun w B Bt own root L G n w) (hBt : Bt < B) (hB : B ≤ w.heap.size) (h0 : ∀ b, b < B → own b = 0) :
    Calls Try.prog 18 #[.pointer (some ⟨Bt, 0, none⟩), .slice (some ⟨Pb, 0, none⟩) (n + 1) cp] w (UpIs w B Bt own G) := by
  have hpc : ∀ wr own', FrX Bt own own' w wr → ∀ m, m < n + 1 → wr.cell? ⟨Pb, m, none⟩ = some (.int .i64 (L.getD m 0 : Nat)) := fun wr own' hf m hm => by
    obtain ⟨hl, ao, c', e, _, _, _, h6⟩ := hpv
    simp only [Value.slice.injEq] at e
    obtain ⟨rfl, -, -⟩ := e
    have hu : (nc L)[m]? = some (.int .i64 ((L.getD m 0 : Nat) : Int)) := by
      have : m < L.length := by omega
      simp [nc, ic, List.getD, List.getElem?_eq_getElem this]
    have hc := h6 _ rfl m _ hu
    rw [Addr.add_lit, Nat.zero_add] at hc
    exact (World.cell?_of_block (w := w) (w' := wr) (a := ⟨Pb, m, none⟩) (hf.block Pb (lt_cell hc) hPb hPt)).trans hc
  have HPC := Lib.hid hpc
  have HST := Lib.hid hst
  have HN := Lib.hid hn
  have HH := Lib.hid (And.intro hBt (And.intro hB h0))
  obtain ⟨_, _, _, _, hcpl, hcpm, _⟩ := id hpv
  clear hpc hst hn hpv hPb hPt hBt hB h0
  go_enter Try.func18, Try.ntmps18
  go_wp2_with fail
  go_loopw [4] (fun i wr => (∃ m : Nat, m < n + 1 ∧ i = .int .i64 (m : Int) ∧ Hid (SpRun w B Bt own root L G m wr)) ∨ (i = .int .i64 (-1) ∧ Hid (SpEnd w B Bt own G wr))) (fun i _ => (intOf i + 1).toNat)
  case atStart => exact .inl ⟨n, by omega, by go_num, HST.out⟩
  case round =>
    rcases hrel with ⟨m, hm, rfl, hrun⟩ | ⟨rfl, hend⟩
    · obtain ⟨own', ps, vs, P, cap, r1, r2, r3, r4, r5, r6, r7⟩ := hrun.out
      have hpc := HPC.out wr own' r6 m hm
      obtain ⟨j, hj⟩ : ∃ j, j = L.getD m 0 := ⟨_, rfl⟩
      rw [← hj] at hpc r3 r4 r5
      have hjl := r3.lt
      obtain ⟨ak, ck, hkc⟩ := r2.keys_cell hjl
      obtain ⟨kl, hkl⟩ : ∃ kl, kl = (ps.getD j noPg).keys.length := ⟨_, rfl⟩
      rw [← hkl] at hkc
      obtain ⟨N, hN⟩ : ∃ N, N = ps.length := ⟨_, rfl⟩
      have b0 := r1
      unfold BoxT at b0
      rw [← hN] at b0
      obtain ⟨t0, t1, tf0, tf1⟩ := box2 b0
      have hjN : (j : Int) < (N : Int) := by rw [hN]; omega
      have g0 : decide ((0 : Int) ≤ (m : Int)) = true := by simp
      have g1 : (0 : Int) ≤ (m : Int) := by omega
      have g2 : (m : Int) < (n : Int) + 1 := by omega
      have HR := Lib.hid (And.intro r1 (And.intro r2 (And.intro r3 (And.intro r4 (And.intro r5 (And.intro r6 r7))))))
      have HJ := Lib.hid (And.intro hj (And.intro hkl hN))
      clear r1 r2 r3 r4 r5 r6 r7 hj hkl hN b0 hrun hjl
      by_cases hfull : kl ≤ 4
      · have g3 : decide ((4 : Int) < (kl : Int)) = false := by simp; omega
        have g4 : ¬ ((4 : Int) < (kl : Int)) := by omega
        clear hfull
        go_wp2_with fail
        go_quiet (fail)
        go_wp2_with fail
        go_end0
        obtain ⟨r1, r2, r3, r4, r5, r6, r7⟩ := HR.out
        obtain ⟨q1, q2, q3⟩ := HJ.out
        exact ⟨⟨_, rfl⟩, (SpRun.done (m := m) r1 r2 (by rw [← q1]; exact r5) r6 (by rw [← q1, ← q2]; omega)).drewN _⟩
      · have g3 : decide ((4 : Int) < (kl : Int)) = true := by simp; omega
        have g4 : (4 : Int) < (kl : Int) := by omega
        clear hfull
        go_wp2_with fail
        go_quiet (fail)
        have HRQ := Lib.hid (run_drewN HR.out nq)
        obtain ⟨wq, hwq⟩ : ∃ wq, wq = wr.drewN nq := ⟨_, rfl⟩
        rw [← hwq] at HRQ ⊢
        have hfl : ¬ (ps.getD j noPg).keys.length ≤ 4 := by rw [← HJ.out.2.1]; omega
        have HFL := Lib.hid hfl
        have hsp := run_split HH.out.1 HH.out.2.1 HH.out.2.2 HRQ.out hfl
        obtain ⟨N2, hN2⟩ : ∃ x, x = N := ⟨_, rfl⟩
        have HSP : Hid (Calls Try.prog 35 #[.pointer (some ⟨Bt, 0, none⟩), .int .i64 (j : Int)] wq fun e w' => ∃ a c nx own1 vs1 P1 cap1, e = .returned (.tuple #[.slice a nx c, .int .i64 (N : Int)]) ∧ Hid (nx = (midK ps j).length) ∧
            Hid (w'.heap[Bt]? = some (.cells #[.slice (some ⟨P1, 0, none⟩) (N + 1) cap1, .int .i64 root] 24 (0, 0)) ∧ PgsO w' B own1 (.slice (some ⟨P1, 0, none⟩) (N + 1) cap1) (splitR ps j) (fun _ => False) vs1 ∧ RB w' (Fz B own1) (.slice a nx c) (midK ps j) ∧ FrX Bt own' own1 wq w')) :=
          hsp.mono fun e w' ⟨a, c, own1, vs1, P1, cap1, q1, q2, q3, q4, q5⟩ => by
            rw [← HJ.out.2.2] at q1 q2 q3
            exact ⟨a, c, _, own1, vs1, P1, cap1, q1, rfl, q2, q3, q4, q5⟩
        have hpq := HPC.out wq own' HRQ.out.2.2.2.2.2.1 m hm
        rw [← HJ.out.1] at hpq
        clear hsp hwq hpc hkc t0 t1 tf0 tf1 hfl hN2
        go_wp2_with fail
        refine HSP.out.mono ?_
        rintro e w1 ⟨a1, c1, nx, own1, vs1, P1, cap1, rfl, HNX, HS⟩
        have hfx : FrX Bt own own1 w w1 := HRQ.out.2.2.2.2.2.1.trans HS.out.2.2.2
        have HPC1 := Lib.hid (HPC.out w1 own1 hfx)
        clear hpq hfx
        cases m with
        | zero =>
          go_wp2_with fail
          obtain ⟨z0, z1, zf0, zf1⟩ := box2 HS.out.1
          have zb : w1.drew.heap.size = w1.heap.size := rfl
          have hBl : Bt < w1.heap.size := lt_cell z0
          obtain ⟨i0, hi0, hz0', hz1', hz2'⟩ := info_parts Try.info43
          have hrow1 := HS.out.2.1.row
          rw [splitR_len, ← HJ.out.2.2] at hrow1
          have HROW1 := Lib.hid hrow1
          have hN9 : N ≤ 50000 := by rw [HJ.out.2.2]; have := HRQ.out.2.2.2.2.2.2; omega
          have hPX : P1 ≠ Bt := by have := (HS.out.2.1.row.lt P1 rfl).1; have := HH.out.1; omega
          have HPX := Lib.hid hPX
          have hB1 : B ≤ w1.heap.size := by have := HRQ.out.2.2.2.2.2.1.size; have := HS.out.2.2.2.size; have := HH.out.2.1; omega
          clear hrow1 hPX
          refine wpT_begin (S := (fun wx => wx.cell? ⟨Bt, 0, none⟩ = some (.slice (some ⟨P1, 0, none⟩) (N + 1) cap1) ∧ wx.cell? ⟨Bt, 1, none⟩ = some (.int .i64 root))) [18] (by kernel_rfl) ?_ (fun hHeld => ?_)
          · (try dsimp only)
            (first | (with_reducible exact ⟨cell_dr z0, cell_dr z1⟩) | (with_reducible exact ⟨cell_dr (cell_al _ z0), cell_dr (cell_al _ z1)⟩) | (with_reducible exact ⟨cell_dr (cell_al _ (cell_al _ z0)), cell_dr (cell_al _ (cell_al _ z1))⟩) | (with_reducible exact ⟨cell_dr (cell_al _ (cell_al _ (cell_al _ z0))), cell_dr (cell_al _ (cell_al _ (cell_al _ z1)))⟩) | (with_reducible exact ⟨y0, y1⟩))
          refine wpAnyT_pure (i := 0) (oi := _) (v := ?_) rfl (by kernel_rfl) (by kernel_rfl) (by kernel_rfl) (by kernel_rfl) (fun _ _ _ h => h) (Or.inl ⟨by rfl, ?_⟩) (fun _ => by assumption) ?_
          rotate_left
          · (intro w hSw; go_simp)
            all_goals (with_reducible rfl)
          (try simp only [List.getElem_toArray, List.getElem_cons_zero, List.getElem_cons_succ, Act.put, List.setIfInBounds_toArray, List.set_cons_zero, List.set_cons_succ])
          refine wpAnyT_pure (i := 1) (oi := _) (v := ?_) rfl (by kernel_rfl) (by kernel_rfl) (by kernel_rfl) (by kernel_rfl) (fun _ _ _ h => h) (Or.inl ⟨by rfl, ?_⟩) (fun _ => by assumption) ?_
          rotate_left
          · (intro w hSw; go_simp)
            all_goals (with_reducible rfl)
          (try simp only [List.getElem_toArray, List.getElem_cons_zero, List.getElem_cons_succ, Act.put, List.setIfInBounds_toArray, List.set_cons_zero, List.set_cons_succ])
          refine wpAnyT_pure (i := 2) (oi := _) (v := ?_) rfl (by kernel_rfl) (by kernel_rfl) (by kernel_rfl) (by kernel_rfl) (fun _ _ _ h => h) (Or.inl ⟨by rfl, ?_⟩) (fun _ => by assumption) ?_
          rotate_left
          · (intro w hSw; go_simp)
            all_goals (with_reducible rfl)
          (try simp only [List.getElem_toArray, List.getElem_cons_zero, List.getElem_cons_succ, Act.put, List.setIfInBounds_toArray, List.set_cons_zero, List.set_cons_succ])
          refine wpAnyT_pure (i := 3) (oi := _) (v := ?_) rfl (by kernel_rfl) (by kernel_rfl) (by kernel_rfl) (by kernel_rfl) (fun _ _ _ h => h) (Or.inl ⟨by rfl, ?_⟩) (fun _ => by assumption) ?_
          rotate_left
          · (intro w hSw; go_simp)
            all_goals (with_reducible rfl)
          (try simp only [List.getElem_toArray, List.getElem_cons_zero, List.getElem_cons_succ, Act.put, List.setIfInBounds_toArray, List.set_cons_zero, List.set_cons_succ])
          refine wpAnyT_take (i := 4) (oi := _) (v := ?_) rfl (by kernel_rfl) (by kernel_rfl) (by kernel_rfl) (by kernel_rfl) (fun _ _ _ h => h) (Or.inl ⟨by rfl, ?_⟩) (by assumption) ?_
          rotate_left
          · (intro w hSw; (try dsimp only at hSw); go_simp)
            all_goals (with_reducible rfl)
          (try simp only [List.getElem_toArray, List.getElem_cons_zero, List.getElem_cons_succ, Act.put, List.setIfInBounds_toArray, List.set_cons_zero, List.set_cons_succ])
          refine wpAnyT_pure (i := 5) (oi := _) (v := ?_) rfl (by kernel_rfl) (by kernel_rfl) (by kernel_rfl) (by kernel_rfl) (fun _ _ _ h => h) (Or.inl ⟨by rfl, ?_⟩) (fun _ => by assumption) ?_
          rotate_left
          · (intro w hSw; go_simp)
            all_goals (with_reducible rfl)
          (try simp only [List.getElem_toArray, List.getElem_cons_zero, List.getElem_cons_succ, Act.put, List.setIfInBounds_toArray, List.set_cons_zero, List.set_cons_succ])
          refine wpAnyT_pure (i := 7) (oi := _) (v := ?_) rfl (by kernel_rfl) (by kernel_rfl) (by kernel_rfl) (by kernel_rfl) (fun _ _ _ h => h) (Or.inl ⟨by rfl, ?_⟩) (fun _ => by assumption) ?_
          rotate_left
          · (intro w hSw; go_simp)
            all_goals (with_reducible rfl)
          (try simp only [List.getElem_toArray, List.getElem_cons_zero, List.getElem_cons_succ, Act.put, List.setIfInBounds_toArray, List.set_cons_zero, List.set_cons_succ])
          refine wpAnyT_pure (i := 8) (oi := _) (v := ?_) rfl (by kernel_rfl) (by kernel_rfl) (by kernel_rfl) (by kernel_rfl) (fun _ _ _ h => h) (Or.inl ⟨by rfl, ?_⟩) (fun _ => by assumption) ?_
          rotate_left
          · (intro w hSw; go_simp)
            all_goals (with_reducible rfl)
          (try simp only [List.getElem_toArray, List.getElem_cons_zero, List.getElem_cons_succ, Act.put, List.setIfInBounds_toArray, List.set_cons_zero, List.set_cons_succ])
          refine wpAnyT_pure (i := 9) (oi := _) (v := ?_) rfl (by kernel_rfl) (by kernel_rfl) (by kernel_rfl) (by kernel_rfl) (fun _ _ _ h => h) (Or.inl ⟨by rfl, ?_⟩) (fun _ => by assumption) ?_
          rotate_left
          · (intro w hSw; go_simp)
            all_goals (with_reducible rfl)
          (try simp only [List.getElem_toArray, List.getElem_cons_zero, List.getElem_cons_succ, Act.put, List.setIfInBounds_toArray, List.set_cons_zero, List.set_cons_succ])
          refine wpAnyT_take (i := 10) (oi := _) (v := ?_) rfl (by kernel_rfl) (by kernel_rfl) (by kernel_rfl) (by kernel_rfl) (fun _ _ _ h => h) (Or.inl ⟨by rfl, ?_⟩) (by assumption) ?_
          rotate_left
          · (intro w hSw; (try dsimp only at hSw); go_simp)
            all_goals (with_reducible rfl)
          (try simp only [List.getElem_toArray, List.getElem_cons_zero, List.getElem_cons_succ, Act.put, List.setIfInBounds_toArray, List.set_cons_zero, List.set_cons_succ])
          refine wpAnyT_pure (i := 11) (oi := _) (v := ?_) rfl (by kernel_rfl) (by kernel_rfl) (by kernel_rfl) (by kernel_rfl) (fun _ _ _ h => h) (Or.inl ⟨by rfl, ?_⟩) (fun _ => by assumption) ?_
          rotate_left
          · (intro w hSw; go_simp)
            all_goals (with_reducible rfl)
          (try simp only [List.getElem_toArray, List.getElem_cons_zero, List.getElem_cons_succ, Act.put, List.setIfInBounds_toArray, List.set_cons_zero, List.set_cons_succ])
          refine wpAnyT_ready (rs := [6, 12]) (by kernel_rfl) (by simp) ?_
          refine AllReadyT.cons rfl (fun K hK => ?_) (AllReadyT.cons rfl (fun K hK => ?_) AllReadyT.nil)
          · go_simp
            refine hK.out _ _ (fun _ => ?_) (fun hHeld0 => ?_)
            · (try dsimp only)
              (first | (with_reducible exact ⟨cell_dr z0, cell_dr z1⟩) | (with_reducible exact ⟨cell_dr (cell_al _ z0), cell_dr (cell_al _ z1)⟩) | (with_reducible exact ⟨cell_dr (cell_al _ (cell_al _ z0)), cell_dr (cell_al _ (cell_al _ z1))⟩) | (with_reducible exact ⟨cell_dr (cell_al _ (cell_al _ (cell_al _ z0))), cell_dr (cell_al _ (cell_al _ (cell_al _ z1)))⟩) | (with_reducible exact ⟨y0, y1⟩))
            have hHeld := hHeld0 (by kernel_rfl)
            clear hK K hHeld0
            (try simp only [List.getElem_toArray, List.getElem_cons_zero, List.getElem_cons_succ, Act.put, List.setIfInBounds_toArray, List.set_cons_zero, List.set_cons_succ])
            refine wpAnyT_ready (rs := [12]) (by kernel_rfl) (by simp) ?_
            refine AllReadyT.cons rfl (fun K hK => ?_) AllReadyT.nil
            go_simp
            refine hK.out _ _ (fun _ => ?_) (fun hHeld0 => ?_)
            · (try dsimp only)
              (first | (with_reducible exact ⟨cell_dr z0, cell_dr z1⟩) | (with_reducible exact ⟨cell_dr (cell_al _ z0), cell_dr (cell_al _ z1)⟩) | (with_reducible exact ⟨cell_dr (cell_al _ (cell_al _ z0)), cell_dr (cell_al _ (cell_al _ z1))⟩) | (with_reducible exact ⟨cell_dr (cell_al _ (cell_al _ (cell_al _ z0))), cell_dr (cell_al _ (cell_al _ (cell_al _ z1)))⟩) | (with_reducible exact ⟨y0, y1⟩))
            have hHeld := hHeld0 (by kernel_rfl)
            clear hK K hHeld0
            (try simp only [List.getElem_toArray, List.getElem_cons_zero, List.getElem_cons_succ, Act.put, List.setIfInBounds_toArray, List.set_cons_zero, List.set_cons_succ])
            refine wpAnyT_pure (i := 13) (oi := _) (v := ?_) rfl (by kernel_rfl) (by kernel_rfl) (by kernel_rfl) (by kernel_rfl) (fun _ _ _ h => h) (Or.inl ⟨by rfl, ?_⟩) (fun _ => by assumption) ?_
            rotate_left
            · (intro w hSw; go_simp)
              all_goals (with_reducible rfl)
            (try simp only [List.getElem_toArray, List.getElem_cons_zero, List.getElem_cons_succ, Act.put, List.setIfInBounds_toArray, List.set_cons_zero, List.set_cons_succ])
            refine wpAnyT_ready (rs := [14]) (by kernel_rfl) (by simp) ?_
            refine AllReadyT.cons rfl (fun K hK => ?_) AllReadyT.nil
            go_simp
            refine hK.out _ _ (fun _ => ?_) (fun hHeld0 => ?_)
            · (try dsimp only)
              (first | (with_reducible exact ⟨cell_dr z0, cell_dr z1⟩) | (with_reducible exact ⟨cell_dr (cell_al _ z0), cell_dr (cell_al _ z1)⟩) | (with_reducible exact ⟨cell_dr (cell_al _ (cell_al _ z0)), cell_dr (cell_al _ (cell_al _ z1))⟩) | (with_reducible exact ⟨cell_dr (cell_al _ (cell_al _ (cell_al _ z0))), cell_dr (cell_al _ (cell_al _ (cell_al _ z1)))⟩) | (with_reducible exact ⟨y0, y1⟩))
            have hHeld := hHeld0 (by kernel_rfl)
            clear hK K hHeld0
            (try simp only [List.getElem_toArray, List.getElem_cons_zero, List.getElem_cons_succ, Act.put, List.setIfInBounds_toArray, List.set_cons_zero, List.set_cons_succ])
            refine wpAnyT_ready (rs := [15]) (by kernel_rfl) (by simp) ?_
            refine AllReadyT.cons rfl (fun K hK => ?_) AllReadyT.nil
            (first | (refine step_append_lies _ (by rfl) _ _ _ (by rfl) B 43 i0 _ 5 88 Try.underlying22 hi0 hz0' hz1' hz2' rfl (by omega) (.slice (some ⟨P1, 0, none⟩) (N + 1) cap1) (N + 1) vs1 (by rfl) ((((HROW1.out.alloc _).alloc _).alloc _).drew) ⟨w1.heap.size + 1 + 1, 0, none⟩ 1 1 [.bool false, .slice (some ⟨w1.heap.size, 0, none⟩) 1 1, .slice (some ⟨w1.heap.size + 1, 0, none⟩) 2 2, .slice none 0 0, .int .i64 (-1)] (by rfl) (by rfl) (World.news_of_block (cs := #[.bool false, .slice (some ⟨w1.heap.size, 0, none⟩) 1 1, .slice (some ⟨w1.heap.size + 1, 0, none⟩) 2 2, .slice none 0 0, .int .i64 (-1)]) (t := 43) (fr := (0, 0)) (new2 w1 _ _ _)) (by simp [Value.oneCell']) (by omega) (by unfold maxLen; omega) (by omega) (by simp; omega) (w1.heap.size + 1 + 1 + 1) (by simp) ?_; intro gg cap3 w3 hown3 hgrow3 hat3 hlt3; have hbx3 := grow_box (Bt := Bt) hgrow3 HPX.out ((((Below.refl _ w1).alloc (Nat.le_refl _) _).alloc (by simp) _).alloc (by simp; omega) _) HS.out.1; have HX3 := Lib.hid (And.intro hown3 (And.intro hgrow3 (And.intro hat3 hbx3))); obtain ⟨y0, y1, yf0, yf1⟩ := box2 hbx3; have HSE := Lib.hid (run_root (o := .cells #[.bool false, .slice (some ⟨w1.heap.size, 0, none⟩) 1 1, .slice (some ⟨w1.heap.size + 1, 0, none⟩) 2 2, .slice none 0 0, .int .i64 (-1)] 43) (X1 := w1.heap.size) (X2 := w1.heap.size + 1) (w2 := (w1.alloc (.cells #[.slice a1 nx c1] 25)).alloc (.cells #[.int .i64 root, .int .i64 (N : Int)] 3)) HJ.out.2.2 HNX.out HH.out.1 HH.out.2.1 HH.out.2.2 HRQ.out HFL.out HS.out.1 HS.out.2.1 HS.out.2.2.1 HS.out.2.2.2 (bel_dr (((Below.refl _ w1).alloc (Nat.le_refl _) _).alloc (by simp) _)) (new_a w1 _ _) (new_b w1 _ _) (by show w1.heap.size ≤ _; omega) (by show w1.heap.size ≤ _; omega) (by omega) HX3.out.1 (gb_undr HX3.out.2.1) (by have := HX3.out.2.2.1; simpa [Value.ownBlock] using this)); clear hown3 hgrow3 hat3 hbx3) | (refine step_append_lies _ (by rfl) _ _ _ (by rfl) B 43 i0 _ 5 88 Try.underlying22 hi0 hz0' hz1' hz2' rfl (by omega) (.slice (some ⟨P1, 0, none⟩) (N + 1) cap1) (N + 1) vs1 (by rfl) ((((HROW1.out.alloc _).alloc _).alloc _).drew) ⟨w1.heap.size + 1 + 1, 0, none⟩ 1 1 [.bool false, .slice (some ⟨w1.heap.size + 1, 0, none⟩) 1 1, .slice (some ⟨w1.heap.size, 0, none⟩) 2 2, .slice none 0 0, .int .i64 (-1)] (by rfl) (by rfl) (World.news_of_block (cs := #[.bool false, .slice (some ⟨w1.heap.size + 1, 0, none⟩) 1 1, .slice (some ⟨w1.heap.size, 0, none⟩) 2 2, .slice none 0 0, .int .i64 (-1)]) (t := 43) (fr := (0, 0)) (new2 w1 _ _ _)) (by simp [Value.oneCell']) (by omega) (by unfold maxLen; omega) (by omega) (by simp; omega) (w1.heap.size + 1 + 1 + 1) (by simp) ?_; intro gg cap3 w3 hown3 hgrow3 hat3 hlt3; have hbx3 := grow_box (Bt := Bt) hgrow3 HPX.out ((((Below.refl _ w1).alloc (Nat.le_refl _) _).alloc (by simp) _).alloc (by simp; omega) _) HS.out.1; have HX3 := Lib.hid (And.intro hown3 (And.intro hgrow3 (And.intro hat3 hbx3))); obtain ⟨y0, y1, yf0, yf1⟩ := box2 hbx3; have HSE := Lib.hid (run_root (o := .cells #[.bool false, .slice (some ⟨w1.heap.size + 1, 0, none⟩) 1 1, .slice (some ⟨w1.heap.size, 0, none⟩) 2 2, .slice none 0 0, .int .i64 (-1)] 43) (X1 := w1.heap.size + 1) (X2 := w1.heap.size) (w2 := (w1.alloc (.cells #[.int .i64 root, .int .i64 (N : Int)] 3)).alloc (.cells #[.slice a1 nx c1] 25)) HJ.out.2.2 HNX.out HH.out.1 HH.out.2.1 HH.out.2.2 HRQ.out HFL.out HS.out.1 HS.out.2.1 HS.out.2.2.1 HS.out.2.2.2 (bel_dr (((Below.refl _ w1).alloc (Nat.le_refl _) _).alloc (by simp) _)) (new_b w1 _ _) (new_a w1 _ _) (by show w1.heap.size ≤ _; omega) (by show w1.heap.size ≤ _; omega) (by omega) HX3.out.1 (gb_undr HX3.out.2.1) (by have := HX3.out.2.2.1; simpa [Value.ownBlock] using this)); clear hown3 hgrow3 hat3 hbx3))
            refine hK.out _ _ (fun _ => ?_) (fun hHeld0 => ?_)
            · (try dsimp only)
              (first | (with_reducible exact ⟨cell_dr z0, cell_dr z1⟩) | (with_reducible exact ⟨cell_dr (cell_al _ z0), cell_dr (cell_al _ z1)⟩) | (with_reducible exact ⟨cell_dr (cell_al _ (cell_al _ z0)), cell_dr (cell_al _ (cell_al _ z1))⟩) | (with_reducible exact ⟨cell_dr (cell_al _ (cell_al _ (cell_al _ z0))), cell_dr (cell_al _ (cell_al _ (cell_al _ z1)))⟩) | (with_reducible exact ⟨y0, y1⟩))
            have hHeld := hHeld0 (by kernel_rfl)
            clear hK K hHeld0
            (try simp only [List.getElem_toArray, List.getElem_cons_zero, List.getElem_cons_succ, Act.put, List.setIfInBounds_toArray, List.set_cons_zero, List.set_cons_succ])
            refine wpAnyT_pure (i := 16) (oi := _) (v := ?_) rfl (by kernel_rfl) (by kernel_rfl) (by kernel_rfl) (by kernel_rfl) (fun _ _ _ h => h) (Or.inl ⟨by rfl, ?_⟩) (fun _ => by assumption) ?_
            rotate_left
            · (intro w hSw; go_simp)
              all_goals (with_reducible rfl)
            (try simp only [List.getElem_toArray, List.getElem_cons_zero, List.getElem_cons_succ, Act.put, List.setIfInBounds_toArray, List.set_cons_zero, List.set_cons_succ])
            refine wpAnyT_pure (i := 17) (oi := _) (v := ?_) rfl (by kernel_rfl) (by kernel_rfl) (by kernel_rfl) (by kernel_rfl) (fun _ _ _ h => h) (Or.inl ⟨by rfl, ?_⟩) (fun _ => by assumption) ?_
            rotate_left
            · (intro w hSw; go_simp)
              all_goals (with_reducible rfl)
            (try simp only [List.getElem_toArray, List.getElem_cons_zero, List.getElem_cons_succ, Act.put, List.setIfInBounds_toArray, List.set_cons_zero, List.set_cons_succ])
            refine wpAnyT_ready (rs := [18]) (by kernel_rfl) (by simp) ?_
            refine AllReadyT.cons rfl (fun K hK => ?_) AllReadyT.nil
            go_simp
            refine hK.out _ _ (noneB_off (by kernel_rfl)) (fun _ => ?_)
            clear hK K
            (try simp only [List.getElem_toArray, List.getElem_cons_zero, List.getElem_cons_succ, Act.put, List.setIfInBounds_toArray, List.set_cons_zero, List.set_cons_succ])
            refine wpAnyT_done (by kernel_rfl) ?_ _
            clear hHeld z0 z1 zf0 zf1
            go_wp2_with fail
            go_roundw
            case rel => exact .inr ⟨rfl, HSE.out⟩
            case measure => simp [intOf]
          · go_simp
            refine hK.out _ _ (fun _ => ?_) (fun hHeld0 => ?_)
            · (try dsimp only)
              (first | (with_reducible exact ⟨cell_dr z0, cell_dr z1⟩) | (with_reducible exact ⟨cell_dr (cell_al _ z0), cell_dr (cell_al _ z1)⟩) | (with_reducible exact ⟨cell_dr (cell_al _ (cell_al _ z0)), cell_dr (cell_al _ (cell_al _ z1))⟩) | (with_reducible exact ⟨cell_dr (cell_al _ (cell_al _ (cell_al _ z0))), cell_dr (cell_al _ (cell_al _ (cell_al _ z1)))⟩) | (with_reducible exact ⟨y0, y1⟩))
            have hHeld := hHeld0 (by kernel_rfl)
            clear hK K hHeld0
            (try simp only [List.getElem_toArray, List.getElem_cons_zero, List.getElem_cons_succ, Act.put, List.setIfInBounds_toArray, List.set_cons_zero, List.set_cons_succ])
            refine wpAnyT_ready (rs := [6]) (by kernel_rfl) (by simp) ?_
            refine AllReadyT.cons rfl (fun K hK => ?_) AllReadyT.nil
            go_simp
            refine hK.out _ _ (fun _ => ?_) (fun hHeld0 => ?_)
            · (try dsimp only)
              (first | (with_reducible exact ⟨cell_dr z0, cell_dr z1⟩) | (with_reducible exact ⟨cell_dr (cell_al _ z0), cell_dr (cell_al _ z1)⟩) | (with_reducible exact ⟨cell_dr (cell_al _ (cell_al _ z0)), cell_dr (cell_al _ (cell_al _ z1))⟩) | (with_reducible exact ⟨cell_dr (cell_al _ (cell_al _ (cell_al _ z0))), cell_dr (cell_al _ (cell_al _ (cell_al _ z1)))⟩) | (with_reducible exact ⟨y0, y1⟩))
            have hHeld := hHeld0 (by kernel_rfl)
            clear hK K hHeld0
            (try simp only [List.getElem_toArray, List.getElem_cons_zero, List.getElem_cons_succ, Act.put, List.setIfInBounds_toArray, List.set_cons_zero, List.set_cons_succ])
            refine wpAnyT_pure (i := 13) (oi := _) (v := ?_) rfl (by kernel_rfl) (by kernel_rfl) (by kernel_rfl) (by kernel_rfl) (fun _ _ _ h => h) (Or.inl ⟨by rfl, ?_⟩) (fun _ => by assumption) ?_
            rotate_left
            · (intro w hSw; go_simp)
              all_goals (with_reducible rfl)
            (try simp only [List.getElem_toArray, List.getElem_cons_zero, List.getElem_cons_succ, Act.put, List.setIfInBounds_toArray, List.set_cons_zero, List.set_cons_succ])
            refine wpAnyT_ready (rs := [14]) (by kernel_rfl) (by simp) ?_
            refine AllReadyT.cons rfl (fun K hK => ?_) AllReadyT.nil
            go_simp
            refine hK.out _ _ (fun _ => ?_) (fun hHeld0 => ?_)
            · (try dsimp only)
              (first | (with_reducible exact ⟨cell_dr z0, cell_dr z1⟩) | (with_reducible exact ⟨cell_dr (cell_al _ z0), cell_dr (cell_al _ z1)⟩) | (with_reducible exact ⟨cell_dr (cell_al _ (cell_al _ z0)), cell_dr (cell_al _ (cell_al _ z1))⟩) | (with_reducible exact ⟨cell_dr (cell_al _ (cell_al _ (cell_al _ z0))), cell_dr (cell_al _ (cell_al _ (cell_al _ z1)))⟩) | (with_reducible exact ⟨y0, y1⟩))
            have hHeld := hHeld0 (by kernel_rfl)
            clear hK K hHeld0
            (try simp only [List.getElem_toArray, List.getElem_cons_zero, List.getElem_cons_succ, Act.put, List.setIfInBounds_toArray, List.set_cons_zero, List.set_cons_succ])
            refine wpAnyT_ready (rs := [15]) (by kernel_rfl) (by simp) ?_
            refine AllReadyT.cons rfl (fun K hK => ?_) AllReadyT.nil
            (first | (refine step_append_lies _ (by rfl) _ _ _ (by rfl) B 43 i0 _ 5 88 Try.underlying22 hi0 hz0' hz1' hz2' rfl (by omega) (.slice (some ⟨P1, 0, none⟩) (N + 1) cap1) (N + 1) vs1 (by rfl) ((((HROW1.out.alloc _).alloc _).alloc _).drew) ⟨w1.heap.size + 1 + 1, 0, none⟩ 1 1 [.bool false, .slice (some ⟨w1.heap.size, 0, none⟩) 1 1, .slice (some ⟨w1.heap.size + 1, 0, none⟩) 2 2, .slice none 0 0, .int .i64 (-1)] (by rfl) (by rfl) (World.news_of_block (cs := #[.bool false, .slice (some ⟨w1.heap.size, 0, none⟩) 1 1, .slice (some ⟨w1.heap.size + 1, 0, none⟩) 2 2, .slice none 0 0, .int .i64 (-1)]) (t := 43) (fr := (0, 0)) (new2 w1 _ _ _)) (by simp [Value.oneCell']) (by omega) (by unfold maxLen; omega) (by omega) (by simp; omega) (w1.heap.size + 1 + 1 + 1) (by simp) ?_; intro gg cap3 w3 hown3 hgrow3 hat3 hlt3; have hbx3 := grow_box (Bt := Bt) hgrow3 HPX.out ((((Below.refl _ w1).alloc (Nat.le_refl _) _).alloc (by simp) _).alloc (by simp; omega) _) HS.out.1; have HX3 := Lib.hid (And.intro hown3 (And.intro hgrow3 (And.intro hat3 hbx3))); obtain ⟨y0, y1, yf0, yf1⟩ := box2 hbx3; have HSE := Lib.hid (run_root (o := .cells #[.bool false, .slice (some ⟨w1.heap.size, 0, none⟩) 1 1, .slice (some ⟨w1.heap.size + 1, 0, none⟩) 2 2, .slice none 0 0, .int .i64 (-1)] 43) (X1 := w1.heap.size) (X2 := w1.heap.size + 1) (w2 := (w1.alloc (.cells #[.slice a1 nx c1] 25)).alloc (.cells #[.int .i64 root, .int .i64 (N : Int)] 3)) HJ.out.2.2 HNX.out HH.out.1 HH.out.2.1 HH.out.2.2 HRQ.out HFL.out HS.out.1 HS.out.2.1 HS.out.2.2.1 HS.out.2.2.2 (bel_dr (((Below.refl _ w1).alloc (Nat.le_refl _) _).alloc (by simp) _)) (new_a w1 _ _) (new_b w1 _ _) (by show w1.heap.size ≤ _; omega) (by show w1.heap.size ≤ _; omega) (by omega) HX3.out.1 (gb_undr HX3.out.2.1) (by have := HX3.out.2.2.1; simpa [Value.ownBlock] using this)); clear hown3 hgrow3 hat3 hbx3) | (refine step_append_lies _ (by rfl) _ _ _ (by rfl) B 43 i0 _ 5 88 Try.underlying22 hi0 hz0' hz1' hz2' rfl (by omega) (.slice (some ⟨P1, 0, none⟩) (N + 1) cap1) (N + 1) vs1 (by rfl) ((((HROW1.out.alloc _).alloc _).alloc _).drew) ⟨w1.heap.size + 1 + 1, 0, none⟩ 1 1 [.bool false, .slice (some ⟨w1.heap.size + 1, 0, none⟩) 1 1, .slice (some ⟨w1.heap.size, 0, none⟩) 2 2, .slice none 0 0, .int .i64 (-1)] (by rfl) (by rfl) (World.news_of_block (cs := #[.bool false, .slice (some ⟨w1.heap.size + 1, 0, none⟩) 1 1, .slice (some ⟨w1.heap.size, 0, none⟩) 2 2, .slice none 0 0, .int .i64 (-1)]) (t := 43) (fr := (0, 0)) (new2 w1 _ _ _)) (by simp [Value.oneCell']) (by omega) (by unfold maxLen; omega) (by omega) (by simp; omega) (w1.heap.size + 1 + 1 + 1) (by simp) ?_; intro gg cap3 w3 hown3 hgrow3 hat3 hlt3; have hbx3 := grow_box (Bt := Bt) hgrow3 HPX.out ((((Below.refl _ w1).alloc (Nat.le_refl _) _).alloc (by simp) _).alloc (by simp; omega) _) HS.out.1; have HX3 := Lib.hid (And.intro hown3 (And.intro hgrow3 (And.intro hat3 hbx3))); obtain ⟨y0, y1, yf0, yf1⟩ := box2 hbx3; have HSE := Lib.hid (run_root (o := .cells #[.bool false, .slice (some ⟨w1.heap.size + 1, 0, none⟩) 1 1, .slice (some ⟨w1.heap.size, 0, none⟩) 2 2, .slice none 0 0, .int .i64 (-1)] 43) (X1 := w1.heap.size + 1) (X2 := w1.heap.size) (w2 := (w1.alloc (.cells #[.int .i64 root, .int .i64 (N : Int)] 3)).alloc (.cells #[.slice a1 nx c1] 25)) HJ.out.2.2 HNX.out HH.out.1 HH.out.2.1 HH.out.2.2 HRQ.out HFL.out HS.out.1 HS.out.2.1 HS.out.2.2.1 HS.out.2.2.2 (bel_dr (((Below.refl _ w1).alloc (Nat.le_refl _) _).alloc (by simp) _)) (new_b w1 _ _) (new_a w1 _ _) (by show w1.heap.size ≤ _; omega) (by show w1.heap.size ≤ _; omega) (by omega) HX3.out.1 (gb_undr HX3.out.2.1) (by have := HX3.out.2.2.1; simpa [Value.ownBlock] using this)); clear hown3 hgrow3 hat3 hbx3))
            refine hK.out _ _ (fun _ => ?_) (fun hHeld0 => ?_)
            · (try dsimp only)
              (first | (with_reducible exact ⟨cell_dr z0, cell_dr z1⟩) | (with_reducible exact ⟨cell_dr (cell_al _ z0), cell_dr (cell_al _ z1)⟩) | (with_reducible exact ⟨cell_dr (cell_al _ (cell_al _ z0)), cell_dr (cell_al _ (cell_al _ z1))⟩) | (with_reducible exact ⟨cell_dr (cell_al _ (cell_al _ (cell_al _ z0))), cell_dr (cell_al _ (cell_al _ (cell_al _ z1)))⟩) | (with_reducible exact ⟨y0, y1⟩))
            have hHeld := hHeld0 (by kernel_rfl)
            clear hK K hHeld0
            (try simp only [List.getElem_toArray, List.getElem_cons_zero, List.getElem_cons_succ, Act.put, List.setIfInBounds_toArray, List.set_cons_zero, List.set_cons_succ])
            refine wpAnyT_pure (i := 16) (oi := _) (v := ?_) rfl (by kernel_rfl) (by kernel_rfl) (by kernel_rfl) (by kernel_rfl) (fun _ _ _ h => h) (Or.inl ⟨by rfl, ?_⟩) (fun _ => by assumption) ?_
            rotate_left
            · (intro w hSw; go_simp)
              all_goals (with_reducible rfl)
            (try simp only [List.getElem_toArray, List.getElem_cons_zero, List.getElem_cons_succ, Act.put, List.setIfInBounds_toArray, List.set_cons_zero, List.set_cons_succ])
            refine wpAnyT_pure (i := 17) (oi := _) (v := ?_) rfl (by kernel_rfl) (by kernel_rfl) (by kernel_rfl) (by kernel_rfl) (fun _ _ _ h => h) (Or.inl ⟨by rfl, ?_⟩) (fun _ => by assumption) ?_
            rotate_left
            · (intro w hSw; go_simp)
              all_goals (with_reducible rfl)
            (try simp only [List.getElem_toArray, List.getElem_cons_zero, List.getElem_cons_succ, Act.put, List.setIfInBounds_toArray, List.set_cons_zero, List.set_cons_succ])
            refine wpAnyT_ready (rs := [18]) (by kernel_rfl) (by simp) ?_
            refine AllReadyT.cons rfl (fun K hK => ?_) AllReadyT.nil
            go_simp
            refine hK.out _ _ (noneB_off (by kernel_rfl)) (fun _ => ?_)
            clear hK K
            (try simp only [List.getElem_toArray, List.getElem_cons_zero, List.getElem_cons_succ, Act.put, List.setIfInBounds_toArray, List.set_cons_zero, List.set_cons_succ])
            refine wpAnyT_done (by kernel_rfl) ?_ _
            clear hHeld z0 z1 zf0 zf1
            go_wp2_with fail
            go_roundw
            case rel => exact .inr ⟨rfl, HSE.out⟩
            case measure => simp [intOf]

        | succ m =>
          have hq1 := HPC1.out m (by omega)
          obtain ⟨z0, z1, zf0, zf1⟩ := box2 HS.out.1
          have hml : m < L.length := by rw [HN.out]; omega
          have hput := run_put HH.out.1 HH.out.2.1 hml HRQ.out HFL.out (by rw [← HJ.out.2.2]; exact HS.out.2.1) (by rw [← HNX.out]; exact HS.out.2.2.1) HS.out.2.2.2
          rw [← HNX.out, ← HJ.out.2.2] at hput
          obtain ⟨j2, hj2⟩ : ∃ j2, j2 = L.getD m 0 := ⟨_, rfl⟩
          have HJ2 := Lib.hid hj2
          have hj2N : (j2 : Int) < (N : Int) + 1 := by
            have h3 := HRQ.out.2.2.1
            rw [take_rev hml] at h3
            have := (h3.up _ (List.mem_cons_self)).1
            rw [hj2, HJ.out.2.2]
            omega
          rw [← hj2] at hput hq1
          have HPUT := Lib.hid hput
          have hm1 : (0 : Int) < (m : Int) + 1 := by omega
          have hm2 : IntKind.i64.wrap (m : Int) = (m : Int) := by rw [IntKind.wrap_i64]; omega
          have hm5 : ((m : Int)).toNat = m := by omega
          have hm3 : (m : Int) < (n : Int) + 1 := by omega
          have hm4 : (0 : Int) ≤ (m : Int) := by omega
          clear hput hj2 hml
          go_wp2_with fail
          refine wpT_begin (S := (fun wx => wx.cell? ⟨Bt, 0, none⟩ = some (.slice (some ⟨P1, 0, none⟩) (N + 1) cap1) ∧ wx.cell? ⟨Pb, m, none⟩ = some (.int .i64 (j2 : Int)))) [12] (by kernel_rfl) ?_ (fun hHeld => ?_)
          · (try dsimp only)
            (with_reducible exact ⟨cell_dr z0, cell_dr hq1⟩)
          refine wpAnyT_pure (i := 0) (oi := _) (v := ?_) rfl (by kernel_rfl) (by kernel_rfl) (by kernel_rfl) (by kernel_rfl) (fun _ _ _ h => h) (Or.inl ⟨by rfl, ?_⟩) (fun _ => by assumption) ?_
          rotate_left
          · (intro w hSw; go_simp)
            all_goals (with_reducible rfl)
          (try simp only [List.getElem_toArray, List.getElem_cons_zero, List.getElem_cons_succ, Act.put, List.setIfInBounds_toArray, List.set_cons_zero, List.set_cons_succ])
          refine wpAnyT_pure (i := 1) (oi := _) (v := ?_) rfl (by kernel_rfl) (by kernel_rfl) (by kernel_rfl) (by kernel_rfl) (fun _ _ _ h => h) (Or.inl ⟨by rfl, ?_⟩) (fun _ => by assumption) ?_
          rotate_left
          · (intro w hSw; go_simp)
            all_goals (with_reducible rfl)
          (try simp only [List.getElem_toArray, List.getElem_cons_zero, List.getElem_cons_succ, Act.put, List.setIfInBounds_toArray, List.set_cons_zero, List.set_cons_succ])
          refine wpAnyT_pure (i := 2) (oi := _) (v := ?_) rfl (by kernel_rfl) (by kernel_rfl) (by kernel_rfl) (by kernel_rfl) (fun _ _ _ h => h) (Or.inl ⟨by rfl, ?_⟩) (fun _ => by assumption) ?_
          rotate_left
          · (intro w hSw; go_simp)
            all_goals (with_reducible rfl)
          (try simp only [List.getElem_toArray, List.getElem_cons_zero, List.getElem_cons_succ, Act.put, List.setIfInBounds_toArray, List.set_cons_zero, List.set_cons_succ])
          refine wpAnyT_take (i := 3) (oi := _) (v := ?_) rfl (by kernel_rfl) (by kernel_rfl) (by kernel_rfl) (by kernel_rfl) (fun _ _ _ h => h) (Or.inl ⟨by rfl, ?_⟩) (by assumption) ?_
          rotate_left
          · (intro w hSw; (try dsimp only at hSw); go_simp)
            all_goals (with_reducible rfl)
          (try simp only [List.getElem_toArray, List.getElem_cons_zero, List.getElem_cons_succ, Act.put, List.setIfInBounds_toArray, List.set_cons_zero, List.set_cons_succ])
          refine wpAnyT_pure (i := 4) (oi := _) (v := ?_) rfl (by kernel_rfl) (by kernel_rfl) (by kernel_rfl) (by kernel_rfl) (fun _ _ _ h => h) (Or.inl ⟨by rfl, ?_⟩) (fun _ => by assumption) ?_
          rotate_left
          · (intro w hSw; go_simp)
            all_goals (with_reducible rfl)
          (try simp only [List.getElem_toArray, List.getElem_cons_zero, List.getElem_cons_succ, Act.put, List.setIfInBounds_toArray, List.set_cons_zero, List.set_cons_succ])
          refine wpAnyT_pure (i := 5) (oi := _) (v := ?_) rfl (by kernel_rfl) (by kernel_rfl) (by kernel_rfl) (by kernel_rfl) (fun _ _ _ h => h) (Or.inl ⟨by rfl, ?_⟩) (fun _ => by assumption) ?_
          rotate_left
          · (intro w hSw; go_simp)
            all_goals (with_reducible rfl)
          (try simp only [List.getElem_toArray, List.getElem_cons_zero, List.getElem_cons_succ, Act.put, List.setIfInBounds_toArray, List.set_cons_zero, List.set_cons_succ])
          refine wpAnyT_pure (i := 6) (oi := _) (v := ?_) rfl (by kernel_rfl) (by kernel_rfl) (by kernel_rfl) (by kernel_rfl) (fun _ _ _ h => h) (Or.inl ⟨by rfl, ?_⟩) (fun _ => by assumption) ?_
          rotate_left
          · (intro w hSw; go_simp)
            all_goals (with_reducible rfl)
          (try simp only [List.getElem_toArray, List.getElem_cons_zero, List.getElem_cons_succ, Act.put, List.setIfInBounds_toArray, List.set_cons_zero, List.set_cons_succ])
          refine wpAnyT_pure (i := 7) (oi := _) (v := ?_) rfl (by kernel_rfl) (by kernel_rfl) (by kernel_rfl) (by kernel_rfl) (fun _ _ _ h => h) (Or.inl ⟨by rfl, ?_⟩) (fun _ => by assumption) ?_
          rotate_left
          · (intro w hSw; go_simp)
            all_goals (with_reducible rfl)
          (try simp only [List.getElem_toArray, List.getElem_cons_zero, List.getElem_cons_succ, Act.put, List.setIfInBounds_toArray, List.set_cons_zero, List.set_cons_succ])
          refine wpAnyT_take (i := 8) (oi := _) (v := ?_) rfl (by kernel_rfl) (by kernel_rfl) (by kernel_rfl) (by kernel_rfl) (fun _ _ _ h => h) (Or.inl ⟨by rfl, ?_⟩) (by assumption) ?_
          rotate_left
          · (intro w hSw; (try dsimp only at hSw); go_simp)
            all_goals (with_reducible rfl)
          (try simp only [List.getElem_toArray, List.getElem_cons_zero, List.getElem_cons_succ, Act.put, List.setIfInBounds_toArray, List.set_cons_zero, List.set_cons_succ])
          refine wpAnyT_pure (i := 9) (oi := _) (v := ?_) rfl (by kernel_rfl) (by kernel_rfl) (by kernel_rfl) (by kernel_rfl) (fun _ _ _ h => h) (Or.inl ⟨by rfl, ?_⟩) (fun _ => by assumption) ?_
          rotate_left
          · (intro w hSw; go_simp)
            all_goals (with_reducible rfl)
          (try simp only [List.getElem_toArray, List.getElem_cons_zero, List.getElem_cons_succ, Act.put, List.setIfInBounds_toArray, List.set_cons_zero, List.set_cons_succ])
          refine wpAnyT_pure (i := 10) (oi := _) (v := ?_) rfl (by kernel_rfl) (by kernel_rfl) (by kernel_rfl) (by kernel_rfl) (fun _ _ _ h => h) (Or.inl ⟨by rfl, ?_⟩) (fun _ => by assumption) ?_
          rotate_left
          · (intro w hSw; go_simp)
            all_goals (with_reducible rfl)
          (try simp only [List.getElem_toArray, List.getElem_cons_zero, List.getElem_cons_succ, Act.put, List.setIfInBounds_toArray, List.set_cons_zero, List.set_cons_succ])
          refine wpAnyT_pure (i := 11) (oi := _) (v := ?_) rfl (by kernel_rfl) (by kernel_rfl) (by kernel_rfl) (by kernel_rfl) (fun _ _ _ h => h) (Or.inl ⟨by rfl, ?_⟩) (fun _ => by assumption) ?_
          rotate_left
          · (intro w hSw; go_simp)
            all_goals (with_reducible rfl)
          (try simp only [List.getElem_toArray, List.getElem_cons_zero, List.getElem_cons_succ, Act.put, List.setIfInBounds_toArray, List.set_cons_zero, List.set_cons_succ])
          refine wpAnyT_ready (rs := [12]) (by kernel_rfl) (by simp) ?_
          refine AllReadyT.cons rfl (fun K hK => ?_) AllReadyT.nil
          go_simp
          (go_at_call 16; ((with_reducible refine HPUT.out.mono ?_); rintro e w2 hp2; obtain ⟨u2, rfl⟩ := hp2.1; have HP2 := Lib.hid hp2; clear hp2))
          go_wp2_with fail
          refine hK.out _ _ (noneB_off (by kernel_rfl)) (fun _ => ?_)
          clear hK K
          (try simp only [List.getElem_toArray, List.getElem_cons_zero, List.getElem_cons_succ, Act.put, List.setIfInBounds_toArray, List.set_cons_zero, List.set_cons_succ])
          refine wpAnyT_done (by kernel_rfl) ?_ _
          go_wp2_with fail
          have hml : m < L.length := by rw [HN.out]; omega
          have HSR := Lib.hid (run_step (vs1 := []) HH.out.1 HH.out.2.1 HH.out.2.2 hml HRQ.out HFL.out (by rw [← HJ.out.2.2]; exact HS.out.1) HS.out.2.2.2 (by rw [← HJ.out.2.2, ← HJ2.out]; exact HP2.out))
          clear hml
          go_roundw
          case rel => exact .inl ⟨m, by omega, by go_num, HSR.out⟩
          case measure => (simp [intOf]) <;> omega
    · have hend' := hend.out
      clear hend
      have g0 : decide ((0 : Int) ≤ (-1 : Int)) = false := by simp
      have g1 : ¬ ((0 : Int) ≤ (-1 : Int)) := by omega
      have HE := Lib.hid hend'
      clear hend'
      go_wp2_with fail
      go_quiet (fail)
      go_wp2_with fail
      go_end0
      exact ⟨⟨_, rfl⟩, HE.out.drewN _⟩
end Go.Proofs.Ytahammkjkfdmhaa
