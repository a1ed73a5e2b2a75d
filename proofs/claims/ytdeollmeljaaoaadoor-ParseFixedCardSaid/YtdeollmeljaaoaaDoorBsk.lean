import Derived.Test.YtdeollmeljaaoaaDoorBqk
/- What is parsed may be. Plain. -/
namespace Go.Proofs.YtdeollmeljaaoaaDoor.rd
open Go.Proofs.YtdeollmeljaaoaaDoor.cs
set_option linter.unusedVariables false
set_option linter.unusedSimpArgs false
set_option linter.unusedSectionVars false
set_option maxRecDepth 100000
/-- Tokens that may be, of 64 bits. -/
def TkB (L : List Tk) : Prop := ∀ k, ((L.getD k tk0).k = 2 → 0 ≤ (L.getD k tk0).n) ∧ (L.getD k tk0).n ≤ 9223372036854775807
theorem lit_ok (n : Int) (k : Int) (h : (k = 0 ∧ n = 0) ∨ (k = 1 ∧ (n = 0 ∨ n = 1)) ∨ (k = 2 ∧ -9223372036854775807 ≤ n)) : Go.Proofs.YtdeollmeljaaoaaDoor.litF k n ⟨#[]⟩ = 0 := by
  have hz : (⟨#[]⟩ : ByteArray).size = 0 := rfl
  unfold Go.Proofs.YtdeollmeljaaoaaDoor.litF chk
  rw [if_neg (by omega), if_neg (by omega), if_neg (by omega), if_neg, if_neg (by rw [hz]; omega)]
  intro e
  rcases e with e | e
  · exact e.2 e_list
  · unfold nmb at e
    rcases h with ⟨rfl, rfl⟩ | ⟨rfl, rfl | rfl⟩ | ⟨rfl, _⟩ <;> simp at e
theorem str_ok (l : List UInt8) (h : l.length ≤ 20) : Go.Proofs.YtdeollmeljaaoaaDoor.litF 3 0 ⟨l.toArray⟩ = 0 := by
  have hz : (⟨l.toArray⟩ : ByteArray).size = l.length := by simp [ByteArray.size]
  unfold Go.Proofs.YtdeollmeljaaoaaDoor.litF chk
  rw [if_neg (by omega), if_neg (by omega), if_neg (by omega), if_neg, if_neg (by rw [hz]; omega)]
  intro e
  rcases e with e | e
  · exact e.1 rfl
  · simp [nmb] at e
theorem op_lit {v : V} (h : Go.Proofs.YtdeollmeljaaoaaDoor.litF v.k v.n v.t = 0) : (Tx.leaf ⟨1, v, ⟨#[]⟩⟩).ok := by
  refine ⟨rfl, ?_⟩
  unfold opF
  dsimp only
  rw [if_neg (by omega), if_neg (by simpa using h), if_neg, if_neg (by omega)]
  intro e
  rcases e with e | e
  · exact e.1 rfl
  · rw [e_list] at e
    simp at e
theorem op_name {t : ByteArray} (h : nmF t.data.toList = 0) : (Tx.leaf ⟨2, v0, t⟩).ok := by
  refine ⟨rfl, ?_⟩
  unfold opF v0
  dsimp only
  rw [if_neg (by omega), if_neg (by rw [lit_ok 0 0 (.inl ⟨rfl, rfl⟩)]; simp), if_neg, if_pos rfl]
  · exact h
  · intro e
    rcases e with e | e
    · unfold vnul at e
      rw [e_list] at e
      simp at e
    · exact e.1 rfl
theorem op_sign {q : Nat} (h1 : 3 ≤ q) (h2 : q ≤ 11) : opF (opO q).k (opO q).v.k (opO q).v.n (opO q).v.t (opO q).t = 0 := by
  unfold opF opO v0
  dsimp only
  rw [if_neg (by omega), if_neg (by rw [lit_ok 0 0 (.inl ⟨rfl, rfl⟩)]; simp), if_neg, if_neg (by omega)]
  intro e
  rcases e with e | e
  · unfold vnul at e
    rw [e_list] at e
    simp at e
  · rw [e_list] at e
    simp at e
theorem tx_bi {q : Nat} (hq : q = 3 ∨ q = 4 ∨ q = 6 ∨ q = 7 ∨ q = 8 ∨ q = 9 ∨ q = 10) {a b : Tx} (ha : a.ok) (hb : b.ok) : (Tx.bi (opO q) a b).ok :=
  ⟨by rcases hq with rfl | rfl | rfl | rfl | rfl | rfl | rfl <;> rfl, op_sign (by omega) (by omega), ha, hb⟩
theorem tx_un {q : Nat} (hq : q = 5 ∨ q = 11) {a : Tx} (ha : a.ok) : (Tx.un (opO q) a).ok :=
  ⟨by rcases hq with rfl | rfl <;> rfl, op_sign (by omega) (by omega), ha⟩
/-- A reader puts a tree. -/
def Sd (N j0 : Nat) (r : R) : Prop := ∀ j os j2 o2, j0 ≤ j → j ≤ N → r j os = .inr (j2, o2) → ∃ t : Tx, t.ok ∧ o2 = os ++ t.flat
theorem sign_mem {L : List Tk} {j q : Nat} : ∀ {ks : List Nat}, signF L j ks = some q → q ∈ ks
  | [], h => by cases h
  | a :: l, h => by
    unfold signF at h
    split at h
    · cases h
      simp
    · exact List.mem_cons_of_mem _ (sign_mem h)
theorem loop_sd {L : List Tk} {j0 : Nat} {th : R} (ht : Sd L.length j0 th) (hu : Up th) {ks : List Nat} (hq : ∀ q ∈ ks, q = 3 ∨ q = 4 ∨ q = 6 ∨ q = 7 ∨ q = 8 ∨ q = 9 ∨ q = 10) : ∀ (f j : Nat) (os : List Oq) (a : Tx) (j2 : Nat) (o2 : List Oq), j0 ≤ j → a.ok → loopC L th ks f j (os ++ a.flat) = .inr (j2, o2) → ∃ t : Tx, t.ok ∧ o2 = os ++ t.flat
  | 0, j, os, a, j2, o2, hj, ha, h => by
    cases h
    exact ⟨a, ha, rfl⟩
  | f + 1, j, os, a, j2, o2, hj, ha, h => by
    unfold loopC at h
    split at h
    · cases h
      exact ⟨a, ha, rfl⟩
    · rename_i q hs
      have hlt := sgn_lt hs
      obtain ⟨x, e1, h⟩ := bd_ok h
      obtain ⟨y, e2, h⟩ := bd_ok h
      obtain ⟨b, hb, e3⟩ := ht _ _ x.1 x.2 (by omega) (by omega) e1
      obtain ⟨_, p2, p3⟩ := put_in (j2 := y.1) (o2 := y.2) e2
      have hu1 := hu _ _ x.1 x.2 e1
      refine loop_sd (L := L) ht hu hq f y.1 os (.bi (opO q) a b) j2 o2 (by omega) (tx_bi (hq q (sign_mem hs)) ha hb) ?_
      rw [← h, p3, e3]
      simp [Tx.flat, List.append_assoc]
theorem chain_sd {L : List Tk} {j0 : Nat} {th : R} (ht : Sd L.length j0 th) (hu : Up th) {ks : List Nat} (hq : ∀ q ∈ ks, q = 3 ∨ q = 4 ∨ q = 6 ∨ q = 7 ∨ q = 8 ∨ q = 9 ∨ q = 10) : Sd L.length j0 (chainF L th ks) := fun j os j2 o2 g1 g2 h => by
  obtain ⟨x, e1, h⟩ := bd_ok h
  obtain ⟨a, ha, e3⟩ := ht _ _ x.1 x.2 g1 g2 e1
  have hu1 := hu _ _ x.1 x.2 e1
  rw [e3] at h
  exact loop_sd ht hu hq _ _ os a j2 o2 (by omega) ha h
theorem den_sd {L : List Tk} {j0 : Nat} {th : R} (ht : Sd L.length j0 th) : ∀ f, Sd L.length j0 (deniedF L th f)
  | 0 => ht
  | f + 1 => fun j os j2 o2 g1 g2 h => by
    unfold deniedF at h
    split at h
    · rename_i hm
      have hlt := may_lt hm
      obtain ⟨x, e1, h⟩ := bd_ok h
      obtain ⟨a, ha, e3⟩ := den_sd ht f _ _ x.1 x.2 (by omega) (by omega) e1
      obtain ⟨_, _, p3⟩ := put_in h
      exact ⟨.un (opO 5) a, tx_un (.inl rfl) ha, by rw [p3, e3]; simp [Tx.flat]⟩
    · exact ht _ _ _ _ g1 g2 h
theorem compare_in {q : Nat} {nt : Bool} {j j2 : Nat} {os o2 : List Oq} (h : compareF q nt j os = .inr (j2, o2)) : o2 = os ++ [opO q] ++ (if nt = true then [opO 5] else []) := by
  unfold compareF at h
  obtain ⟨x, e1, h⟩ := bd_ok h
  obtain ⟨_, _, p3⟩ := put_in (j2 := x.1) (o2 := x.2) e1
  split at h
  · rename_i hn
    obtain ⟨_, _, p4⟩ := put_in h
    rw [p4, p3, if_pos hn]
  · rename_i hn
    cases h
    rw [if_neg hn, List.append_nil]
    exact p3
theorem nt_tree {a : Tx} (ha : a.ok) (os : List Oq) (nt : Bool) : ∃ t : Tx, t.ok ∧ os ++ a.flat ++ (if nt = true then [opO 5] else []) = os ++ t.flat := by
  cases nt with
  | true => exact ⟨.un (opO 5) a, tx_un (.inl rfl) ha, by simp [Tx.flat]⟩
  | false => exact ⟨a, ha, by simp⟩
theorem cmp_mem {L : List Tk} {j : Nat} {c : Cmq} : ∀ {ks : List Cmq}, cmpF L j ks = some c → c ∈ ks
  | [], h => by cases h
  | a :: l, h => by
    unfold cmpF at h
    split at h
    · cases h
      simp
    · exact List.mem_cons_of_mem _ (cmp_mem h)
theorem turn_two (os a b : List Oq) : turnF os.length (os ++ a).length (os ++ a ++ b) = os ++ (b ++ a) := by
  unfold turnF
  rw [show os ++ a ++ b = (os ++ a) ++ b from rfl, List.drop_left, List.take_left, List.drop_left, List.append_assoc os a b, List.take_left]
theorem comparison_sd {L : List Tk} {n j0 : Nat} {sm : R} (ht : Sd L.length j0 sm) (hu : Up sm) : Sd L.length j0 (comparisonF L n sm) := fun j os j2 o2 g1 g2 h => by
  unfold comparisonF at h
  obtain ⟨x, e1, h⟩ := bd_ok h
  obtain ⟨a, ha, e3⟩ := ht _ _ x.1 x.2 g1 g2 e1
  have hu1 := hu _ _ x.1 x.2 e1
  split at h
  · have key : ∀ (nt : Bool) (m : Nat), compareF 11 nt m x.2 = .inr (j2, o2) → ∃ t : Tx, t.ok ∧ o2 = os ++ t.flat := by
      intro nt m h
      rw [compare_in h, e3]
      obtain ⟨t, h1, h2⟩ := nt_tree (a := .un (opO 11) a) (tx_un (.inr rfl) ha) os nt
      exact ⟨t, h1, by rw [← h2]; simp [Tx.flat]⟩
    unfold isF at h
    split at h
    · split at h
      · exact key _ _ h
      · cases h
    · split at h
      · exact key _ _ h
      · cases h
  · split at h
    · cases h
      exact ⟨a, ha, e3⟩
    · rename_i c hc
      obtain ⟨y, e2, h⟩ := bd_ok h
      have hlt := cmp_lt hc
      obtain ⟨b, hb, e4⟩ := ht _ _ y.1 y.2 (by omega) (by omega) e2
      have hq : c.q = 3 ∨ c.q = 4 ∨ c.q = 6 ∨ c.q = 7 ∨ c.q = 8 ∨ c.q = 9 ∨ c.q = 10 := by
        have := cmp_mem hc
        simp only [cmL, List.mem_cons, List.not_mem_nil, or_false] at this
        rcases this with rfl | rfl | rfl | rfl | rfl | rfl <;> simp
      rw [compare_in h]
      by_cases ht : c.tn = true
      · rw [if_pos ht, e4, e3, turn_two]
        obtain ⟨t, h1, h2⟩ := nt_tree (a := .bi (opO c.q) b a) (tx_bi hq hb ha) os c.nt
        exact ⟨t, h1, by rw [← h2]; simp [Tx.flat, List.append_assoc]⟩
      · rw [if_neg ht, e4, e3]
        obtain ⟨t, h1, h2⟩ := nt_tree (a := .bi (opO c.q) a b) (tx_bi hq ha hb) os c.nt
        exact ⟨t, h1, by rw [← h2]; simp [Tx.flat, List.append_assoc]⟩
theorem lit_sd {L : List Tk} {n k : Nat} (hb : TkB L) {v : V} {j2 : Nat} (h : litG L n k = .inr (some v, j2)) : Go.Proofs.YtdeollmeljaaoaaDoor.litF v.k v.n v.t = 0 := by
  unfold litG at h
  repeat' split at h
  all_goals (try cases h)
  · exact lit_ok 0 0 (.inl ⟨rfl, rfl⟩)
  · exact lit_ok 0 1 (.inr (.inl ⟨rfl, .inl rfl⟩))
  · exact lit_ok 1 1 (.inr (.inl ⟨rfl, .inr rfl⟩))
  · exact lit_ok _ 2 (.inr (.inr ⟨rfl, by have := (hb (k + 1)).2; dsimp only; omega⟩))
  · rename_i h5
    exact lit_ok _ 2 (.inr (.inr ⟨rfl, by have := (hb k).1 h5; dsimp only; omega⟩))
  · exact str_ok _ (by omega)
theorem name_sd {L : List Tk} {n k : Nat} {x : ByteArray × Nat} (h : nameG L n k = .inr x) : nmF x.1.data.toList = 0 := by
  unfold nameG at h
  split at h
  · split at h
    · rename_i h2
      cases h
      exact h2
    · cases h
  · cases h
theorem leaf_sd {L : List Tk} {n : Nat} (hb : TkB L) : ∀ j os j2 o2, leafF L n j os = .inr (j2, o2) → ∃ t : Tx, t.ok ∧ o2 = os ++ t.flat := fun j os j2 o2 h => by
  unfold leafF at h
  obtain ⟨⟨ov, jx⟩, e1, h⟩ := bd_ok h
  cases ov with
  | some v =>
    obtain ⟨_, _, p3⟩ := put_in h
    exact ⟨.leaf ⟨1, v, ⟨#[]⟩⟩, op_lit (lit_sd hb e1), p3⟩
  | none =>
    obtain ⟨y, e2, h⟩ := bd_ok h
    obtain ⟨_, _, p3⟩ := put_in h
    exact ⟨.leaf ⟨2, v0, y.1⟩, op_name (name_sd e2), p3⟩
theorem thing_sd {L : List Tk} {n j0 : Nat} (hb : TkB L) {E : R} (he : Sd L.length (j0 + 1) E) : Sd L.length j0 (thingF L n E) := fun j os j2 o2 g1 g2 h => by
  unfold thingF at h
  split at h
  · rename_i hm
    have hlt := may_lt hm
    obtain ⟨x, e1, h⟩ := bd_ok h
    split at h
    · cases h
      exact he _ _ x.1 x.2 (by omega) (by omega) e1
    · cases h
  · exact leaf_sd hb _ _ _ _ h
theorem either_sd {L : List Tk} {n j0 : Nat} (hb : TkB L) {E : R} (hu : Up E) (he : Sd L.length (j0 + 1) E) : Sd L.length j0 (eitherF L n E) := by
  have u1 : Up (thingF L n E) := thing_up hu
  have u3 : Up (sumF L n E) := chain_up (chain_up u1 _) _
  have u4 : Up (denF L n E) := denied_up (comparison_up u3) _
  exact chain_sd (chain_sd (den_sd (comparison_sd (chain_sd (chain_sd (thing_sd hb he) u1 (by simp)) (chain_up u1 _) (by simp)) u3) _) u4 (by simp)) (chain_up u4 _) (by simp)
theorem eithD_sd {L : List Tk} {n : Nat} (hb : TkB L) : ∀ (d j0 : Nat), L.length + 1 ≤ d + j0 → Sd L.length j0 (eithD L n d)
  | 0, j0, hd => fun j os j2 o2 g1 g2 h => by omega
  | d + 1, j0, hd => either_sd hb (eithD_up L n d) (eithD_sd hb d (j0 + 1) (by omega))
theorem ex_flat : ∀ (t : Tx) (n : Int) (l : List Oq), 0 ≤ n → t.ok → exF n (t.flat ++ l) = exF (n + 1) l
  | .leaf o, n, l, hn, h => by
    show exF n (o :: l) = _
    conv => lhs; unfold exF
    rw [if_neg (by rw [h.2]; simp), if_neg (by rw [h.1]; omega), h.1]
    congr 1
    omega
  | .un o a, n, l, hn, h => by
    simp only [Tx.flat, List.append_assoc]
    rw [ex_flat a n _ hn h.2.2]
    show exF (n + 1) (o :: l) = _
    conv => lhs; unfold exF
    rw [if_neg (by rw [h.2.1]; simp), if_neg (by rw [h.1]; omega), h.1]
    congr 1
    omega
  | .bi o a b, n, l, hn, h => by
    simp only [Tx.flat, List.append_assoc]
    rw [ex_flat a n _ hn h.2.2.1, ex_flat b (n + 1) _ (by omega) h.2.2.2]
    show exF (n + 1 + 1) (o :: l) = _
    conv => lhs; unfold exF
    rw [if_neg (by rw [h.2.1]; simp), if_neg (by rw [h.1]; omega), h.1]
    congr 1
    omega
theorem exp_flat {t : Tx} (h : t.ok) (hl : t.flat.length ≤ 40) : exprF t.flat = 0 := by
  unfold exprF
  rw [if_neg (by omega)]
  have := ex_flat t 0 [] (by omega) h
  rw [List.append_nil] at this
  rw [this]
  rfl
theorem exp_sd {L : List Tk} (hb : TkB L) {j j2 : Nat} {o2 : List Oq} (hj : j ≤ L.length) (h : expF L L.length j = .inr (j2, o2)) : exprF o2 = 0 ∧ j2 ≤ L.length := by
  obtain ⟨g1, _⟩ := eithD_tr (L := L) (k := L.length) (Nat.le_refl _) (L.length + 1) (L.length + 1) 0 (by omega) (by omega) (by omega)
  obtain ⟨_, m1, _, m2⟩ := g1 j [] j2 o2 (Nat.zero_le _) hj (by simp) h
  obtain ⟨t, h1, h2⟩ := eithD_sd (n := L.length) hb (L.length + 1) 0 (by omega) j [] j2 o2 (Nat.zero_le _) hj h
  rw [List.nil_append] at h2
  subst h2
  exact ⟨exp_flat h1 m2, m1⟩
theorem must_one {L : List Tk} {n k j : Nat} {s : ByteArray} (h : mustF L n k [s] = .inr j) : j ≤ L.length := by
  unfold mustF at h
  split at h
  · rename_i hm
    have := may_lt hm
    cases h
    omega
  · cases h
theorem wh_sd {L : List Tk} (hb : TkB L) {j j2 : Nat} {o2 : List Oq} (h : whereF L L.length j = .inr (j2, o2)) : whF o2 = 0 := by
  unfold whereF at h
  split at h
  · rename_i hm
    have hlt := may_lt hm
    have := (exp_sd hb (by omega) h).1
    unfold whF
    split
    · rfl
    · exact this
  · cases h
    rfl
theorem list_in {α : Type} {L : List Tk} {th : Nat → List α → F ⊕ (Nat × List α)} {I : List α → Prop} (hs : ∀ j s j2 s2, I s → th j s = .inr (j2, s2) → I s2 ∧ s2.length = s.length + 1) : ∀ (f j : Nat) (s : List α) (j2 : Nat) (s2 : List α), I s → 1 ≤ s.length → s.length + f ≤ 6 → listL L th f j s = .inr (j2, s2) → I s2 ∧ 1 ≤ s2.length ∧ s2.length ≤ 6
  | 0, j, s, j2, s2, hi, h1, h6, h => by
    unfold listL at h
    split at h
    · cases h
    · cases h
      exact ⟨hi, h1, by omega⟩
  | f + 1, j, s, j2, s2, hi, h1, h6, h => by
    unfold listL at h
    split at h
    · obtain ⟨x, e1, h⟩ := bd_ok h
      obtain ⟨i2, l2⟩ := hs _ _ x.1 x.2 hi e1
      exact list_in hs f x.1 x.2 j2 s2 i2 (by omega) (by omega) h
    · cases h
      exact ⟨hi, h1, by omega⟩
theorem list_sd {α : Type} {L : List Tk} {th : Nat → List α → F ⊕ (Nat × List α)} {I : List α → Prop} (hs : ∀ j s j2 s2, I s → th j s = .inr (j2, s2) → I s2 ∧ s2.length = s.length + 1) (h0 : I []) {j j2 : Nat} {s2 : List α} (h : listF L th j [] = .inr (j2, s2)) : I s2 ∧ 1 ≤ s2.length ∧ s2.length ≤ 6 := by
  unfold listF at h
  obtain ⟨x, e1, h⟩ := bd_ok h
  obtain ⟨i2, l2⟩ := hs _ _ x.1 x.2 h0 e1
  simp only [List.length_nil] at l2
  exact list_in hs 5 x.1 x.2 j2 s2 i2 (by omega) (by omega) h
theorem cl_snoc : ∀ (l m : List Cq) (c : Cq), clF m l = 0 → nmF c.t.data.toList = 0 → 1 ≤ c.k → c.k ≤ 3 → hasC (m ++ l) c.t = false → clF m (l ++ [c]) = 0
  | [], m, c, h, h1, h2, h3, h4 => by
    rw [List.append_nil] at h4
    show clF m [c] = 0
    unfold clF
    rw [if_neg (by rw [h1]; simp), if_neg (by omega), if_neg (by rw [h4]; simp)]
    rfl
  | d :: l, m, c, h, h1, h2, h3, h4 => by
    show clF m (d :: (l ++ [c])) = 0
    unfold clF at h ⊢
    split at h
    · omega
    · rename_i g1
      rw [if_neg g1]
      split at h
      · omega
      · rename_i g2
        rw [if_neg g2]
        split at h
        · omega
        · rename_i g3
          rw [if_neg g3]
          exact cl_snoc l (m ++ [d]) c h h1 h2 h3 (by simpa using h4)
theorem row_snoc : ∀ (l : List V) (v : V), rowL l = 0 → Go.Proofs.YtdeollmeljaaoaaDoor.litF v.k v.n v.t = 0 → rowL (l ++ [v]) = 0
  | [], v, h, hv => by
    show rowL [v] = 0
    unfold rowL
    rw [if_neg (by rw [hv]; simp)]
    rfl
  | d :: l, v, h, hv => by
    show rowL (d :: (l ++ [v])) = 0
    unfold rowL at h ⊢
    split at h
    · omega
    · rename_i g
      rw [if_neg g]
      exact row_snoc l v h hv
theorem nms_snoc : ∀ (l : List ByteArray) (t : ByteArray), nmsF l = 0 → nmF t.data.toList = 0 → nmsF (l ++ [t]) = 0
  | [], t, h, ht => by
    show nmsF [t] = 0
    unfold nmsF
    rw [if_neg (by rw [ht]; simp)]
    rfl
  | d :: l, t, h, ht => by
    show nmsF (d :: (l ++ [t])) = 0
    unfold nmsF at h ⊢
    split at h
    · omega
    · rename_i g
      rw [if_neg g]
      exact nms_snoc l t h ht
theorem may_full {L : List Tk} (hk : TksOk L) {k : Nat} : mayB L k ⟨#[]⟩ = false := by
  cases h : mayB L k ⟨#[]⟩ with
  | false => rfl
  | true =>
    exfalso
    have hlt := may_lt h
    have hm : L.getD k tk0 ∈ L := by
      rw [List.getD, List.getElem?_eq_getElem hlt]
      exact List.getElem_mem hlt
    have ht := hk _ hm
    generalize L.getD k tk0 = t at *
    unfold mayB at h
    simp only [Bool.and_eq_true, Bool.or_eq_true, beq_iff_eq, decide_eq_true_eq] at h
    obtain ⟨h1, h2⟩ := h
    have h3 : (L.getD k tk0).t = [] := by
      have := congrArg (fun b : ByteArray => b.data.toList) h2
      simpa using this
    have ht := hk _ (show L.getD k tk0 ∈ L by rw [List.getD, List.getElem?_eq_getElem hlt]; exact List.getElem_mem hlt)
    unfold TkOk tkF at ht
    rw [h3] at ht
    rcases h1 with h1 | h1 <;> (rw [h1] at ht; simp [txt] at ht)
theorem kind_sd {L : List Tk} (hk : TksOk L) {n k : Nat} {x : Nat × Nat} (h : kindG L n k = .inr x) : 1 ≤ x.1 ∧ x.1 ≤ 3 := by
  unfold kindG at h
  split at h
  · rename_i q hq
    cases h
    simp only [kwL, kindF] at hq
    rw [if_neg (by rw [may_full hk]; simp)] at hq
    repeat' split at hq
    all_goals (cases hq; try omega)
  · cases h
theorem cols_sd {L : List Tk} (hk : TksOk L) {n j j2 : Nat} {s2 : List Cq} (h : listF L (colF L n) j [] = .inr (j2, s2)) : colsF s2 = 0 := by
  obtain ⟨h1, h2, h3⟩ := list_sd (I := fun l => clF [] l = 0) (fun j s j2 s2 hi h => by
    unfold colF at h
    obtain ⟨x, e1, h⟩ := bd_ok h
    split at h
    · cases h
    · rename_i hh
      obtain ⟨y, e2, h⟩ := bd_ok h
      cases h
      have g := kind_sd hk e2
      refine ⟨cl_snoc s [] _ hi (name_sd e1) ?_ ?_ (by simpa using hh), by simp⟩
      · show (1 : Int) ≤ (y.1 : Int)
        omega
      · show (y.1 : Int) ≤ 3
        omega) rfl h
  unfold colsF
  rw [if_neg (by omega)]
  exact h1
theorem row_sd {L : List Tk} (hb : TkB L) {n j j2 : Nat} {s2 : List V} (h : listF L (valF L n) j [] = .inr (j2, s2)) : insF s2 = 0 := by
  obtain ⟨h1, h2, h3⟩ := list_sd (I := fun l => rowL l = 0) (fun j s j2 s2 hi h => by
    unfold valF at h
    obtain ⟨⟨ov, jx⟩, e1, h⟩ := bd_ok h
    cases ov with
    | none => cases h
    | some v =>
      cases h
      exact ⟨row_snoc s v hi (lit_sd hb e1), by simp⟩) rfl h
  unfold insF
  rw [if_neg (by omega)]
  exact h1
theorem nms_sd {L : List Tk} {n j j2 : Nat} {s2 : List ByteArray} (h : listF L (nmsG L n) j [] = .inr (j2, s2)) : nmsF s2 = 0 ∧ s2.length ≤ 6 := by
  obtain ⟨h1, h2, h3⟩ := list_sd (I := fun l => nmsF l = 0) (fun j s j2 s2 hi h => by
    unfold nmsG at h
    obtain ⟨x, e1, h⟩ := bd_ok h
    cases h
    exact ⟨nms_snoc s _ hi (name_sd e1), by simp⟩) rfl h
  exact ⟨h1, h3⟩
theorem em0 : em ⟨#[]⟩ = true := by
  unfold em
  rw [e_list]
  rfl
theorem nm_full {t : ByteArray} (h : nmF t.data.toList = 0) : em t = false := by
  cases e : em t with
  | false => rfl
  | true =>
    rw [em_nil e] at h
    exact absurd h (by decide)
theorem st0_of {s : Sq} (h1 : 1 ≤ s.k) (h9 : s.k ≤ 9) (ht : tabF s = 0) (hp : partsF s = 0) (hm : moreF s = false) : st0 s = 0 := by
  unfold st0 f3
  rw [if_neg (by omega), ht, hp, hm]
  simp
theorem ord_sd {L : List Tk} {n j j2 : Nat} {o2 : ByteArray × Bool} (h : orderF L n j = .inr (j2, o2)) : ordF o2.1 = 0 ∧ ¬ (o2.2 = true ∧ em o2.1 = true) := by
  unfold orderF at h
  split at h
  · obtain ⟨i, e1, h⟩ := bd_ok h
    obtain ⟨x, e2, h⟩ := bd_ok h
    have hn := name_sd e2
    have he := nm_full hn
    have key : o2.1 = x.1 := by
      split at h <;> (cases h; rfl)
    rw [key, he]
    refine ⟨?_, by simp⟩
    unfold ordF
    rw [he, if_neg (by simp)]
    exact hn
  · cases h
    refine ⟨?_, by simp⟩
    unfold ordF
    rw [em0, if_pos rfl]
theorem lim_sd {L : List Tk} (hb : TkB L) {n j j2 : Nat} {o2 : Int} (h : limitF L n j = .inr (j2, o2)) : -1 ≤ o2 := by
  unfold limitF numG at h
  split at h
  · obtain ⟨x, e1, h⟩ := bd_ok h
    split at e1
    · rename_i h2
      cases e1
      cases h
      have := (hb (j + 1)).1 h2
      dsimp only
      omega
    · cases e1
  · cases h
    decide
theorem head_sd {L : List Tk} {n j j2 : Nat} {o2 : List ByteArray × Bool} (h : headF L n j = .inr (j2, o2)) : nmsF o2.1 = 0 ∧ o2.1.length ≤ 6 ∧ ¬ (o2.2 = true ∧ 0 < o2.1.length) := by
  unfold headF at h
  split at h
  · cases h
    exact ⟨rfl, by simp, by simp⟩
  · split at h
    · obtain ⟨i, e1, h⟩ := bd_ok h
      cases h
      exact ⟨rfl, by simp, by simp⟩
    · obtain ⟨x, e1, h⟩ := bd_ok h
      cases h
      obtain ⟨g1, g2⟩ := nms_sd e1
      exact ⟨g1, g2, by simp⟩
theorem choose_sd {L : List Tk} (hb : TkB L) {j j2 : Nat} {s2 : Sq} (h : chooseF L L.length j sq0 = .inr (j2, s2)) : st0 s2 = 0 := by
  unfold chooseF at h
  obtain ⟨⟨i1, hd⟩, e1, h⟩ := bd_ok h
  obtain ⟨i2, e2, h⟩ := bd_ok h
  obtain ⟨⟨t, i3⟩, e3, h⟩ := bd_ok h
  obtain ⟨⟨i4, wh⟩, e4, h⟩ := bd_ok h
  obtain ⟨⟨i5, od⟩, e5, h⟩ := bd_ok h
  obtain ⟨⟨i6, lm⟩, e6, h⟩ := bd_ok h
  cases h
  obtain ⟨a1, a2, a3⟩ := head_sd e1
  have a4 := name_sd e3
  have a5 := wh_sd hb e4
  obtain ⟨a6, a7⟩ := ord_sd e5
  have a8 := lim_sd hb e6
  refine st0_of (show (1 : Int) ≤ 4 by decide) (show (4 : Int) ≤ 9 by decide) a4 ?_ ?_
  · show selF _ = 0
    unfold selF sel0
    dsimp only
    rw [if_neg]
    · unfold f3
      rw [a1, a5, a6]
      simp
    · rw [if_neg (by omega), if_neg (by omega), if_neg]
      · simp
      · intro e
        rcases e with e | e
        · exact a3 e
        · exact a7 e
  · unfold moreF
    simp [sq0, em0]
theorem part_sd {L : List Tk} (hk : TksOk L) (hb : TkB L) {j2 : Nat} {s2 : Sq} (h : partF L L.length sq0 = .inr (j2, s2)) (hn : s2.k ≠ 0) : st0 s2 = 0 := by
  unfold partF at h
  repeat' split at h
  · unfold createF at h
    obtain ⟨i1, e1, h⟩ := bd_ok h
    obtain ⟨⟨t, i2⟩, e2, h⟩ := bd_ok h
    obtain ⟨i3, e3, h⟩ := bd_ok h
    obtain ⟨⟨i4, cs⟩, e4, h⟩ := bd_ok h
    obtain ⟨i5, e5, h⟩ := bd_ok h
    cases h
    exact st0_of (show (1 : Int) ≤ 1 by decide) (show (1 : Int) ≤ 9 by decide) (name_sd e2) (cols_sd hk e4) (by unfold moreF; simp [sq0, em0])
  · unfold dropF at h
    obtain ⟨i1, e1, h⟩ := bd_ok h
    obtain ⟨⟨t, i2⟩, e2, h⟩ := bd_ok h
    cases h
    exact st0_of (show (1 : Int) ≤ 2 by decide) (show (2 : Int) ≤ 9 by decide) (name_sd e2) rfl (by unfold moreF; simp [sq0, em0])
  · unfold insertF at h
    obtain ⟨i1, e1, h⟩ := bd_ok h
    obtain ⟨⟨t, i2⟩, e2, h⟩ := bd_ok h
    obtain ⟨i3, e3, h⟩ := bd_ok h
    obtain ⟨⟨i4, cs⟩, e4, h⟩ := bd_ok h
    obtain ⟨i5, e5, h⟩ := bd_ok h
    cases h
    exact st0_of (show (1 : Int) ≤ 3 by decide) (show (3 : Int) ≤ 9 by decide) (name_sd e2) (row_sd hb e4) (by unfold moreF; simp [sq0, em0])
  · exact choose_sd hb h
  · unfold updateF at h
    obtain ⟨⟨t, i1⟩, e1, h⟩ := bd_ok h
    obtain ⟨i2, e2, h⟩ := bd_ok h
    obtain ⟨⟨u, i3⟩, e3, h⟩ := bd_ok h
    obtain ⟨i4, e4, h⟩ := bd_ok h
    obtain ⟨⟨i5, tz⟩, e5, h⟩ := bd_ok h
    obtain ⟨⟨i6, wh⟩, e6, h⟩ := bd_ok h
    cases h
    refine st0_of (show (1 : Int) ≤ 5 by decide) (show (5 : Int) ≤ 9 by decide) (name_sd e1) ?_ (by unfold moreF; simp [sq0, em0])
    show f3 (nmF u.data.toList) (exprF tz) (whF wh) = 0
    unfold f3
    rw [name_sd e3, (exp_sd hb (must_one e4) e5).1, wh_sd hb e6]
    simp
  · unfold deleteF at h
    obtain ⟨i1, e1, h⟩ := bd_ok h
    obtain ⟨⟨t, i2⟩, e2, h⟩ := bd_ok h
    obtain ⟨⟨i3, wh⟩, e3, h⟩ := bd_ok h
    cases h
    exact st0_of (show (1 : Int) ≤ 6 by decide) (show (6 : Int) ≤ 9 by decide) (name_sd e2) (wh_sd hb e3) (by unfold moreF; simp [sq0, em0])
  · cases h
    exact st0_of (by decide) (by decide) rfl rfl (by unfold moreF; simp [sq0, em0])
  · cases h
    exact st0_of (by decide) (by decide) rfl rfl (by unfold moreF; simp [sq0, em0])
  · cases h
    exact st0_of (by decide) (by decide) rfl rfl (by unfold moreF; simp [sq0, em0])
  · cases h
    exact absurd rfl hn
theorem tkB_of {L : List Tk} (hk : TksOk L) (hz : ∀ k, (L.getD k tk0).n ≤ 9223372036854775807) : TkB L := fun k => by
  refine ⟨fun h2 => ?_, hz k⟩
  by_cases hlt : k < L.length
  · have ht := hk _ (show L.getD k tk0 ∈ L by rw [List.getD, List.getElem?_eq_getElem hlt]; exact List.getElem_mem hlt)
    unfold TkOk tkF at ht
    rw [if_neg (by omega)] at ht
    split at ht
    · omega
    · omega
  · rw [show L.getD k tk0 = tk0 by simp [List.getD, List.getElem?_eq_none (show L.length ≤ k by omega)]]
    decide
end Go.Proofs.YtdeollmeljaaoaaDoor.rd
/- Where a parser's faults are, and that they are faults; what is parsed may be, and is parsed again. Plain. -/
namespace Go.Proofs.YtdeollmeljaaoaaDoor.rd
open Go.Proofs.YtdeollmeljaaoaaDoor.cs
set_option linter.unusedVariables false
set_option linter.unusedSimpArgs false
set_option linter.unusedSectionVars false
set_option maxRecDepth 100000
def FOk (N : Nat) (f : F) : Prop := 0 ≤ f.1 ∧ f.1 ≤ (N : Int) ∧ f.2 ≠ 0
/-- A reader faults at one of the places, or goes on to one. -/
def Gd {α : Type} (N : Nat) (x : F ⊕ (Nat × α)) : Prop := (∀ f, x = .inl f → FOk N f) ∧ ∀ j s, x = .inr (j, s) → 1 ≤ j ∧ j ≤ N
theorem gd_ok {α : Type} {N j : Nat} {s : α} (h1 : 1 ≤ j) (h2 : j ≤ N) : Gd N (.inr (j, s)) := ⟨fun f h => (by cases h), fun i t h => by cases h; exact ⟨h1, h2⟩⟩
theorem gd_no {α : Type} {N : Nat} {f : F} (h : FOk N f) : Gd (α := α) N (.inl f) := ⟨fun g e => by cases e; exact h, fun i t e => (by cases e)⟩
theorem gd_fl {α : Type} {N j : Nat} {q : Int} (h : j ≤ N) (hq : q ≠ 0) : Gd (α := α) N (.inl (fl N j q)) := gd_no (by
  unfold fl FOk
  refine ⟨by dsimp only; omega, by dsimp only; omega, ?_⟩
  dsimp only
  split
  · decide
  · exact hq)
theorem gd_bd {α β : Type} {N : Nat} {x : F ⊕ (Nat × α)} {g : Nat × α → F ⊕ (Nat × β)} (hx : Gd N x) (hg : ∀ j s, 1 ≤ j → j ≤ N → Gd N (g (j, s))) : Gd N (bd x g) := by
  cases x with
  | inl f => exact gd_no (hx.1 f rfl)
  | inr y =>
    obtain ⟨j, s⟩ := y
    obtain ⟨h1, h2⟩ := hx.2 j s rfl
    exact hg j s h1 h2
def Gr (N : Nat) (r : R) : Prop := ∀ j os, 1 ≤ j → j ≤ N → Gd N (r j os)
theorem gr_bd {N : Nat} {a b : R} (ha : Gr N a) (hb : Gr N b) : Gr N (fun j os => bd (a j os) fun x => b x.1 x.2) := fun j os h1 h2 => gd_bd (ha j os h1 h2) fun i s h3 h4 => hb i s h3 h4
theorem gr_put (o : Oq) (N : Nat) : Gr N (putF o) := fun j os h1 h2 => by
  unfold putF
  split
  · exact gd_no ⟨by dsimp only; omega, by dsimp only; omega, by dsimp only; decide⟩
  · exact gd_ok h1 h2
section
variable {L : List Tk}
theorem gr_loop {th : R} (ht : Gr L.length th) (ks : List Nat) : ∀ f, Gr L.length (loopC L th ks f)
  | 0 => fun j os h1 h2 => gd_ok h1 h2
  | f + 1 => fun j os h1 h2 => by
    unfold loopC
    split
    · exact gd_ok h1 h2
    · rename_i q hs
      have := sgn_lt hs
      exact gd_bd (ht _ _ (by omega) (by omega)) fun i s h3 h4 => gd_bd (gr_put _ _ _ _ h3 h4) fun i s h3 h4 => gr_loop ht ks f i s h3 h4
theorem gr_chain {th : R} (ht : Gr L.length th) (ks : List Nat) : Gr L.length (chainF L th ks) := gr_bd ht (gr_loop ht ks L.length)
theorem gr_den {th : R} (ht : Gr L.length th) : ∀ f, Gr L.length (deniedF L th f)
  | 0 => ht
  | f + 1 => fun j os h1 h2 => by
    unfold deniedF
    split
    · rename_i hm
      have := may_lt hm
      exact gd_bd (gr_den ht f _ _ (by omega) (by omega)) fun i s h3 h4 => gr_put _ _ _ _ h3 h4
    · exact ht j os h1 h2
theorem gr_compare (q : Nat) (nt : Bool) (N : Nat) : Gr N (compareF q nt) := fun j os h1 h2 => gd_bd (gr_put _ _ _ _ h1 h2) fun i s h3 h4 => by
  dsimp only
  split
  · exact gr_put _ _ _ _ h3 h4
  · exact gd_ok h3 h4
theorem gr_is : Gr L.length (isF L L.length) := fun j os h1 h2 => by
  unfold isF
  split
  · rename_i hm
    have := may_lt hm
    split
    · rename_i hm
      have := may_lt hm
      exact gr_compare _ _ _ _ _ (by omega) (by omega)
    · exact gd_fl (by omega) (by decide)
  · split
    · rename_i hm
      have := may_lt hm
      exact gr_compare _ _ _ _ _ (by omega) (by omega)
    · exact gd_fl h2 (by decide)
theorem gr_comparison {sm : R} (hs : Gr L.length sm) : Gr L.length (comparisonF L L.length sm) := fun j os h1 h2 => gd_bd (hs j os h1 h2) fun i s h3 h4 => by
  dsimp only
  split
  · rename_i hm
    have := may_lt hm
    exact gr_is _ _ (by omega) (by omega)
  · split
    · exact gd_ok h3 h4
    · rename_i c hc
      have := cmp_lt hc
      exact gd_bd (hs _ _ (by omega) (by omega)) fun i s h3 h4 => gr_compare _ _ _ _ _ h3 h4
theorem gd_lit {j : Nat} (h2 : j ≤ L.length) : (∀ f, litG L L.length j = .inl f → FOk L.length f) ∧ ∀ ov i, litG L L.length j = .inr (ov, i) → j ≤ i ∧ i ≤ L.length := by
  have hf : ∀ {i : Nat} {q : Int} {f : F}, i ≤ L.length → q ≠ 0 → (Sum.inl (fl L.length i q) : F ⊕ (Option V × Nat)) = .inl f → FOk L.length f := fun hi hq e => by
    cases e
    exact (gd_fl (α := Unit) hi hq).1 _ rfl
  unfold litG
  constructor
  · intro f h
    repeat' split at h
    all_goals (try cases h)
    · rename_i hm _
      have := may_lt hm
      exact hf (by omega) (by decide) rfl
    · exact hf h2 (by decide) rfl
  · intro ov i h
    have lt0 : ∀ {s}, mayB L j s = true → j < L.length := fun hm => may_lt hm
    repeat' split at h
    all_goals (try cases h)
    · have := lt0 (by assumption); omega
    · have := lt0 (by assumption); omega
    · have := lt0 (by assumption); omega
    · rename_i h5
      have := kind_lt (L := L) (k := j + 1) (by omega)
      omega
    · rename_i h5
      have := kind_lt (L := L) (k := j) (by omega)
      omega
    · rename_i h5 _
      have := kind_lt (L := L) (k := j) (by omega)
      omega
    · omega
theorem gd_name {β : Type} {j : Nat} (h2 : j ≤ L.length) {g : ByteArray × Nat → F ⊕ (Nat × β)} (hg : ∀ t, j + 1 ≤ L.length → Gd L.length (g (t, j + 1))) : Gd L.length (bd (nameG L L.length j) g) := by
  cases h : nameG L L.length j with
  | inl f =>
    unfold nameG at h
    split at h
    · split at h
      · cases h
      · rename_i hn
        cases h
        exact gd_fl h2 hn
    · cases h
      exact gd_fl h2 (by decide)
  | inr x =>
    unfold nameG at h
    split at h
    · rename_i hk
      have := kind_lt (L := L) (k := j) (by omega)
      split at h
      · cases h
        exact hg _ (by omega)
      · cases h
    · cases h
theorem gr_leaf : Gr L.length (leafF L L.length) := fun j os h1 h2 => by
  unfold leafF
  obtain ⟨g1, g2⟩ := gd_lit h2
  cases h : litG L L.length j with
  | inl f => exact gd_no (g1 f h)
  | inr x =>
    obtain ⟨ov, i⟩ := x
    obtain ⟨h3, h4⟩ := g2 ov i h
    rw [bd_inr]
    cases ov with
    | some v => exact gr_put _ _ _ _ (by dsimp only; omega) h4
    | none =>
      dsimp only
      refine gd_name h2 fun t ht => ?_
      exact gr_put _ _ _ _ (by omega) ht
theorem gr_thing {E : R} (he : Gr L.length E) : Gr L.length (thingF L L.length E) := fun j os h1 h2 => by
  unfold thingF
  split
  · rename_i hm
    have := may_lt hm
    refine gd_bd (he _ _ (by omega) (by omega)) fun i s h3 h4 => ?_
    dsimp only
    split
    · rename_i hm
      have := may_lt hm
      exact gd_ok (by omega) (by omega)
    · exact gd_fl h4 (by decide)
  · exact gr_leaf j os h1 h2
theorem gr_eithD : ∀ d, Gr L.length (eithD L L.length d)
  | 0 => fun j os h1 h2 => gd_ok h1 h2
  | d + 1 => gr_chain (gr_chain (gr_den (gr_comparison (gr_chain (gr_chain (gr_thing (gr_eithD d)) _) _)) _) _) _
theorem gd_exp {j : Nat} (h1 : 1 ≤ j) (h2 : j ≤ L.length) : Gd L.length (expF L L.length j) := gr_eithD _ _ _ h1 h2
theorem gd_where {j : Nat} (h1 : 1 ≤ j) (h2 : j ≤ L.length) : Gd L.length (whereF L L.length j) := by
  unfold whereF
  split
  · rename_i hm
    have := may_lt hm
    exact gd_exp (by omega) (by omega)
  · exact gd_ok h1 h2
theorem gd_must {β : Type} : ∀ (l : List ByteArray) (j : Nat), 1 ≤ j → j ≤ L.length → ∀ {g : Nat → F ⊕ (Nat × β)}, (∀ i, 1 ≤ i → i ≤ L.length → Gd L.length (g i)) → Gd L.length (bd (mustF L L.length j l) g)
  | [], j, h1, h2, g, hg => hg j h1 h2
  | s :: l, j, h1, h2, g, hg => by
    unfold mustF
    split
    · rename_i hm
      have := may_lt hm
      exact gd_must l (j + 1) (by omega) (by omega) hg
    · exact gd_fl h2 (by decide)
theorem gd_lst {σ : Type} {th : Nat → σ → F ⊕ (Nat × σ)} (ht : ∀ j s, 1 ≤ j → j ≤ L.length → Gd L.length (th j s)) : ∀ (f j : Nat) (s : σ), 1 ≤ j → j ≤ L.length → Gd L.length (listL L th f j s)
  | 0, j, s, h1, h2 => by
    unfold listL
    split
    · exact gd_no ⟨by dsimp only; omega, by dsimp only; omega, by dsimp only; decide⟩
    · exact gd_ok h1 h2
  | f + 1, j, s, h1, h2 => by
    unfold listL
    split
    · rename_i hm
      have := may_lt hm
      exact gd_bd (ht _ _ (by omega) (by omega)) fun i s h3 h4 => gd_lst ht f i s h3 h4
    · exact gd_ok h1 h2
theorem gd_list {σ : Type} {th : Nat → σ → F ⊕ (Nat × σ)} (ht : ∀ j s, 1 ≤ j → j ≤ L.length → Gd L.length (th j s)) (j : Nat) (s : σ) (h1 : 1 ≤ j) (h2 : j ≤ L.length) : Gd L.length (listF L th j s) :=
  gd_bd (ht _ _ h1 h2) fun i s h3 h4 => gd_lst ht 5 i s h3 h4
theorem gd_col (j : Nat) (s : List Cq) (h1 : 1 ≤ j) (h2 : j ≤ L.length) : Gd L.length (colF L L.length j s) := by
  refine gd_name h2 fun t ht => ?_
  dsimp only
  split
  · exact gd_no ⟨by dsimp only; omega, by dsimp only; omega, by dsimp only; decide⟩
  · unfold kindG
    cases h : kindF L (j + 1) kwL with
    | none => exact gd_fl ht (by decide)
    | some q =>
      have : j + 1 < L.length := by
        simp only [kwL, kindF] at h
        repeat' split at h
        all_goals (first | exact may_lt (by assumption) | cases h)
      exact gd_ok (by dsimp only; omega) (by dsimp only; omega)
theorem gd_val (j : Nat) (s : List V) (h1 : 1 ≤ j) (h2 : j ≤ L.length) : Gd L.length (valF L L.length j s) := by
  obtain ⟨g1, g2⟩ := gd_lit h2
  unfold valF
  cases h : litG L L.length j with
  | inl f => exact gd_no (g1 f h)
  | inr x =>
    obtain ⟨ov, i⟩ := x
    obtain ⟨h3, h4⟩ := g2 ov i h
    rw [bd_inr]
    cases ov with
    | some v => exact gd_ok (by dsimp only; omega) h4
    | none => exact gd_fl h4 (by decide)
theorem gd_nms (j : Nat) (s : List ByteArray) (h1 : 1 ≤ j) (h2 : j ≤ L.length) : Gd L.length (nmsG L L.length j s) := gd_name h2 fun t ht => gd_ok (by omega) ht
theorem gd_order {j : Nat} (h1 : 1 ≤ j) (h2 : j ≤ L.length) : Gd L.length (orderF L L.length j) := by
  unfold orderF
  split
  · rename_i hm
    have := may_lt hm
    refine gd_must _ _ (by omega) (by omega) fun i h3 h4 => gd_name h4 fun t ht => ?_
    dsimp only
    split
    · rename_i hm
      have := may_lt hm
      exact gd_ok (by omega) (by omega)
    · exact gd_ok (by omega) ht
  · exact gd_ok h1 h2
theorem gd_limit {j : Nat} (h1 : 1 ≤ j) (h2 : j ≤ L.length) : Gd L.length (limitF L L.length j) := by
  unfold limitF numG
  split
  · rename_i hm
    have := may_lt hm
    split
    · rename_i hk
      have := kind_lt (L := L) (k := j + 1) (by omega)
      exact gd_ok (by dsimp only; omega) (by dsimp only; omega)
    · exact gd_fl (by omega) (by decide)
  · exact gd_ok h1 h2
theorem gd_head {j : Nat} (h1 : 1 ≤ j) (h2 : j ≤ L.length) : Gd L.length (headF L L.length j) := by
  unfold headF
  split
  · rename_i hm
    have := may_lt hm
    exact gd_ok (by omega) (by omega)
  · split
    · rename_i hm
      have := may_lt hm
      exact gd_must _ _ (by omega) (by omega) fun i h3 h4 => gd_ok h3 h4
    · exact gd_bd (gd_list gd_nms _ _ h1 h2) fun i s h3 h4 => gd_ok h3 h4
theorem gd_part (h0 : 0 < L.length) : (∀ f, partF L L.length sq0 = .inl f → FOk L.length f) ∧ ∀ j s, partF L L.length sq0 = .inr (j, s) → j ≤ L.length := by
  have one : (1 : Nat) ≤ 1 := Nat.le_refl _
  have two : 1 ≤ L.length := h0
  have key : Gd L.length (partF L L.length sq0) ∨ partF L L.length sq0 = .inr (0, sq0) := by
    unfold partF
    split
    · left
      exact gd_must _ _ one two fun i h3 h4 => gd_name h4 fun t ht => gd_must _ _ (by omega) ht fun i h3 h4 => gd_bd (gd_list gd_col _ _ h3 h4) fun i s h3 h4 => gd_must _ _ h3 h4 fun i h3 h4 => gd_ok h3 h4
    split
    · left
      exact gd_must _ _ one two fun i h3 h4 => gd_name h4 fun t ht => gd_ok (by omega) ht
    split
    · left
      exact gd_must _ _ one two fun i h3 h4 => gd_name h4 fun t ht => gd_must _ _ (by omega) ht fun i h3 h4 => gd_bd (gd_list gd_val _ _ h3 h4) fun i s h3 h4 => gd_must _ _ h3 h4 fun i h3 h4 => gd_ok h3 h4
    split
    · left
      exact gd_bd (gd_head one two) fun i s h3 h4 => gd_must _ _ h3 h4 fun i h3 h4 => gd_name h4 fun t ht => gd_bd (gd_where (by omega) ht) fun i s h3 h4 => gd_bd (gd_order h3 h4) fun i s h3 h4 => gd_bd (gd_limit h3 h4) fun i s h3 h4 => gd_ok h3 h4
    split
    · left
      exact gd_name two fun t ht => gd_must _ _ (by omega) ht fun i h3 h4 => gd_name h4 fun t ht => gd_must _ _ (by omega) ht fun i h3 h4 => gd_bd (gd_exp h3 h4) fun i s h3 h4 => gd_bd (gd_where h3 h4) fun i s h3 h4 => gd_ok h3 h4
    split
    · left
      exact gd_must _ _ one two fun i h3 h4 => gd_name h4 fun t ht => gd_bd (gd_where (by omega) ht) fun i s h3 h4 => gd_ok h3 h4
    split
    · exact .inl (gd_ok one two)
    split
    · exact .inl (gd_ok one two)
    split
    · exact .inl (gd_ok one two)
    · exact .inr rfl
  rcases key with ⟨h1, h2⟩ | h
  · exact ⟨h1, fun j s e => (h2 j s e).2⟩
  · rw [h]
    exact ⟨fun f e => (by cases e), fun j s e => (by cases e; omega)⟩
theorem gd_stmt {f : F} (h : stmtF L L.length = .inl f) : FOk L.length f := by
  unfold stmtF at h
  by_cases h0 : 0 < L.length
  · obtain ⟨g1, g2⟩ := gd_part (L := L) h0
    cases e : partF L L.length sq0 with
    | inl g =>
      rw [e, bd_inl] at h
      cases h
      exact g1 _ e
    | inr x =>
      obtain ⟨j, s⟩ := x
      have hj := g2 j s e
      rw [e, bd_inr] at h
      split at h
      · cases h
        exact (gd_fl (α := Unit) hj (by decide)).1 _ rfl
      · cases h
  · have : L = [] := List.length_eq_zero_iff.1 (by omega)
    subst this
    cases h
    exact ⟨by decide, by decide, by decide⟩
end
theorem bad_at : ∀ (l : List Tk) (j : Nat) (x : Nat × Int), badL j l = some x → j ≤ x.1 ∧ x.1 < j + l.length ∧ x.2 ≠ 0
  | [], j, x, h => by cases h
  | a :: l, j, x, h => by
    unfold badL at h
    split at h
    · rename_i hn
      cases h
      exact ⟨Nat.le_refl _, by simp, hn⟩
    · have := bad_at l (j + 1) x h
      simp only [List.length_cons]
      omega
/-- What is parsed may be; what is not is told by its place. -/
theorem parse_all {L : List Tk} (hl : L.length < 9223372036854775807) (hz : ∀ k, (L.getD k tk0).n ≤ 9223372036854775807) : (∃ s, parseF L = (s, 0, 0) ∧ st0 s = 0) ∨ ∃ i e, parseF L = (sqz, i, e) ∧ e ≠ 0 ∧ 0 ≤ i ∧ i ≤ (L.length : Int) := by
  unfold parseF
  split
  · exact .inr ⟨0, 10, rfl, by decide, by decide, by omega⟩
  · cases hb : badL 0 L with
    | some x =>
      have := bad_at L 0 x hb
      exact .inr ⟨_, _, rfl, this.2.2, by omega, by omega⟩
    | none =>
      have hk : TksOk L := fun t ht => bad_none L 0 hb t ht
      dsimp only
      cases hs : stmtF L L.length with
      | inl f =>
        obtain ⟨g1, g2, g3⟩ := gd_stmt hs
        exact .inr ⟨_, _, rfl, g3, g1, g2⟩
      | inr s =>
        refine .inl ⟨s, rfl, ?_⟩
        unfold stmtF at hs
        obtain ⟨x, e1, e2⟩ := bd_ok hs
        split at e2
        · cases e2
        · rename_i hx
          cases e2
          exact part_sd hk (tkB_of hk hz) e1 fun e => hx (.inl e)
end Go.Proofs.YtdeollmeljaaoaaDoor.rd
