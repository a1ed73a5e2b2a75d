/- Plain trees: the leaves one behind the other, and where a key's is among them. No program in sight. -/
import Derived.Test.YtahammkjkfdmhaaGu
namespace Go.Proofs.Ytahammkjkfdmhaa
set_option linter.unusedVariables false
set_option linter.unusedSimpArgs false
theorem entK_rise {α : Type} {W : Key → Key → α → Prop} {ent : α → List (Key × Int)} (he : ∀ lo hi c, W lo hi c → ∀ e ∈ ent c, inB lo hi e.1) (hr : ∀ lo hi c, W lo hi c → Rise (ent c)) :
    ∀ (l : List (Key × α)) (lo hi : Key) (c : α), kwT W lo hi c l → Rise (entK ent c l)
  | [], lo, hi, c, h => by simpa [entK] using hr lo hi c h
  | (s, d) :: r, lo, hi, c, h => by
    obtain ⟨h1, h2, h3, h4, h5⟩ := h
    have hsplit : entK ent c ((s, d) :: r) = ent c ++ entK ent d r := by simp [entK]
    rw [hsplit]
    unfold Rise
    rw [List.pairwise_append]
    refine ⟨hr lo s c h1, entK_rise he hr r s hi d h5, fun a ha b hb => ?_⟩
    have h6 := (entK_in he r s hi d h5 b hb).1
    rcases (he lo s c h1 a ha).2 with q | q
    · exact absurd q h2.ne
    · exact kl_lt_le q h6
/-- Entries of a tree rise. -/
theorem ent_rise : ∀ (h : Nat) (lo hi : Key) (t : Tb h), wfT h lo hi t → Rise (entT h t)
  | 0, lo, hi, t, hw => hw.2.1
  | h + 1, lo, hi, t, hw => entK_rise (fun lo hi c => ent_in h lo hi c) (fun lo hi c => ent_rise h lo hi c) t.2.2 lo hi t.2.1 hw.2.2
/-- Every key of a tree may be one, and its row. -/
theorem ent_okk : ∀ (h : Nat) (lo hi : Key) (t : Tb h), wfT h lo hi t → ∀ e ∈ entT h t, okK e.1 ∧ 0 ≤ e.2
  | 0, lo, hi, t, hw, e, he => (hw.2.2 e he).2
  | h + 1, lo, hi, t, hw, e, he => by
    have main : ∀ (l : List (Key × Tb h)) (lo hi : Key) (c : Tb h), kwT (wfT h) lo hi c l → ∀ e ∈ entK (entT h) c l, okK e.1 ∧ 0 ≤ e.2 := by
      intro l
      induction l with
      | nil =>
        intro lo hi c hw e he
        exact ent_okk h lo hi c hw e (by simpa [entK] using he)
      | cons x r ih =>
        obtain ⟨s, d⟩ := x
        intro lo hi c hw e he
        obtain ⟨h1, h2, h3, h4, h5⟩ := hw
        have hsplit : entK (entT h) c ((s, d) :: r) = entT h c ++ entK (entT h) d r := by simp [entK]
        rw [hsplit, List.mem_append] at he
        rcases he with q | q
        · exact ent_okk h lo s c h1 e q
        · exact ih s hi d h5 e q
    exact main t.2.2 lo hi t.2.1 hw.2.2 e he
/-- The leaves. -/
def leavesT : (h : Nat) → Tb h → List (Tb 0)
  | 0, t => [t]
  | h + 1, t => leavesT h t.2.1 ++ (t.2.2.map fun x => leavesT h x.2).flatten
def entL (l : List (Tb 0)) : List (Key × Int) := l.flatMap fun t => t.2
theorem entL_app (a b : List (Tb 0)) : entL (a ++ b) = entL a ++ entL b := by simp [entL]
theorem leaves_ent : ∀ (h : Nat) (t : Tb h), entL (leavesT h t) = entT h t
  | 0, t => by simp [leavesT, entL, entT]
  | h + 1, t => by
    have main : ∀ l : List (Key × Tb h), entL (l.map fun x => leavesT h x.2).flatten = (l.map fun x => entT h x.2).flatten := by
      intro l
      induction l with
      | nil => rfl
      | cons x r ih => rw [List.map_cons, List.flatten_cons, entL_app, leaves_ent, ih]; rfl
    show entL (leavesT h t.2.1 ++ _) = _
    rw [entL_app, leaves_ent, main]
    rfl
/-- The first one's place. -/
def firstL (e : Int) : List (Tb 0) → Int
  | [] => e
  | t :: _ => (t.1 : Int)
/-- Leaves of which each has the next one's place. -/
def Chain (ps : List Pg) (e : Int) : List (Tb 0) → Prop
  | [] => True
  | t :: r => (∃ hi, ps[t.1]? = some ⟨true, t.2.map (·.1), t.2.map (·.2), hi, firstL e r⟩) ∧ Chain ps e r
theorem firstL_app (e : Int) (a b : List (Tb 0)) : firstL e (a ++ b) = firstL (firstL e b) a := by cases a <;> rfl
theorem chain_app {ps : List Pg} {e : Int} {b : List (Tb 0)} : ∀ {a : List (Tb 0)}, Chain ps e (a ++ b) ↔ Chain ps (firstL e b) a ∧ Chain ps e b
  | [] => by simp [Chain]
  | t :: a => by
    have ih := chain_app (ps := ps) (e := e) (b := b) (a := a)
    have e1 : Chain ps e (t :: a ++ b) ↔ (∃ hi, ps[t.1]? = some ⟨true, t.2.map (·.1), t.2.map (·.2), hi, firstL e (a ++ b)⟩) ∧ Chain ps e (a ++ b) := Iff.rfl
    have e2 : Chain ps (firstL e b) (t :: a) ↔ (∃ hi, ps[t.1]? = some ⟨true, t.2.map (·.1), t.2.map (·.2), hi, firstL (firstL e b) a⟩) ∧ Chain ps (firstL e b) a := Iff.rfl
    rw [e1, e2, ih, firstL_app, and_assoc]
theorem spine_leaf : ∀ (h : Nat) (t : Tb h) (e : Int), (spine h t).getD h (-1) = firstL e (leavesT h t)
  | 0, t, e => rfl
  | h + 1, t, e => by
    have := spine_leaf h t.2.1 e
    show (spine h t.2.1).getD h (-1) = firstL e (leavesT h t.2.1 ++ _)
    rw [firstL_app, ← spine_leaf h t.2.1]
/-- THE LEAVES OF A TREE STAND ONE BEHIND THE OTHER. -/
theorem leaves_chain {ps : List Pg} : ∀ (h : Nat) (hi : Key) (rs : List Int) (t : Tb h), repT ps h hi rs t → Chain ps (rs.getD h (-1)) (leavesT h t)
  | 0, hi, rs, t, hr => by
    refine ⟨⟨hi, ?_⟩, trivial⟩
    have e : firstL (rs.getD 0 (-1)) [] = rs.headD (-1) := by cases rs <;> rfl
    rw [e]
    exact hr
  | h + 1, hi, rs, t, hr => by
    have main : ∀ (l : List (Key × Tb h)) (c : Tb h) (hi : Key) (rs : List Int), repK (repT ps h) (spine h) hi rs c l → Chain ps (rs.getD h (-1)) (leavesT h c ++ (l.map fun x => leavesT h x.2).flatten) := by
      intro l
      induction l with
      | nil =>
        intro c hi rs hr
        rw [List.map_nil, List.flatten_nil, List.append_nil]
        exact leaves_chain h hi rs c hr
      | cons x r ih =>
        obtain ⟨s, d⟩ := x
        intro c hi rs hr
        have h2 := ih d hi rs hr.2
        rw [chain_app]
        refine ⟨?_, h2⟩
        rw [List.map_cons, List.flatten_cons, firstL_app, ← spine_leaf h d]
        exact leaves_chain h s (spine h d) c hr.1
    have := main t.2.2 t.2.1 hi rs.tail hr.2
    have e : rs.tail.getD h (-1) = rs.getD (h + 1) (-1) := by cases rs <;> rfl
    rw [e] at this
    exact this
/-- WHERE A KEY'S LEAF IS: what is ahead is below the key, what is behind is above it. -/
theorem leaf_split : ∀ (h : Nat) (lo hi : Key) (t : Tb h) (k : Key), wfT h lo hi t → ∃ a b, leavesT h t = a ++ leafT h t k :: b ∧ (∀ e ∈ entL a, kl e.1 k = true) ∧ (∀ e ∈ entL b, kl k e.1 = true)
  | 0, lo, hi, t, k, hw => ⟨[], [], rfl, by simp [entL], by simp [entL]⟩
  | h + 1, lo, hi, t, k, hw => by
    have hall : ∀ (l : List (Key × Tb h)) (c : Tb h), entL (leavesT h c ++ (l.map fun x => leavesT h x.2).flatten) = entK (entT h) c l := fun l c => leaves_ent (h + 1) (0, c, l)
    have main : ∀ (l : List (Key × Tb h)) (lo hi : Key) (c : Tb h), kwT (wfT h) lo hi c l →
        ∃ a b, leavesT h c ++ (l.map fun x => leavesT h x.2).flatten = a ++ leafT h (pickK k c l) k :: b ∧ (∀ e ∈ entL a, kl e.1 k = true) ∧ (∀ e ∈ entL b, kl k e.1 = true) := by
      intro l
      induction l with
      | nil =>
        intro lo hi c hw
        obtain ⟨a, b, h1, h2, h3⟩ := leaf_split h lo hi c k hw
        exact ⟨a, b, by simpa [pickK] using h1, h2, h3⟩
      | cons x r ih =>
        obtain ⟨s, d⟩ := x
        intro lo hi c hw
        obtain ⟨w1, w2, w3, w4, w5⟩ := hw
        by_cases g : kl k s = true
        · obtain ⟨a, b, h1, h2, h3⟩ := leaf_split h lo s c k w1
          refine ⟨a, b ++ (leavesT h d ++ (r.map fun x => leavesT h x.2).flatten), ?_, h2, fun e he => ?_⟩
          · rw [h1]
            simp [pickK, g]
          · rw [entL_app, List.mem_append, hall] at he
            rcases he with q | q
            · exact h3 e q
            · exact kl_lt_le g (entK_in (fun lo hi c => ent_in h lo hi c) r s hi d w5 e q).1
        · have g' : kl k s = false := by simpa using g
          obtain ⟨a, b, h1, h2, h3⟩ := ih s hi d w5
          refine ⟨leavesT h c ++ a, b, ?_, fun e he => ?_, h3⟩
          · rw [List.map_cons, List.flatten_cons, h1]
            simp [pickK, g]
          · rw [entL_app, List.mem_append, leaves_ent] at he
            rcases he with q | q
            · rcases (ent_in h lo s c w1 e q).2 with q' | q'
              · exact absurd q' w2.ne
              · exact kl_lt_le q' g'
            · exact h2 e q
    exact main t.2.2 lo hi t.2.1 hw.2.2
end Go.Proofs.Ytahammkjkfdmhaa
/- Plain trees: what a row of insertions and deletions leaves. No program in sight. -/
namespace Go.Proofs.Ytahammkjkfdmhaa
set_option linter.unusedVariables false
set_option linter.unusedSimpArgs false
/-- An empty tree. -/
def newTr : Tr := ⟨[⟨true, [], [], [], -1⟩], 0⟩
theorem newTr_reps : Reps newTr 0 ((0, []) : Tb 0) := by
  refine ⟨rfl, ?_, ⟨by simp, by simp [Rise], by simp⟩, ?_⟩
  · show newTr.pages[0]? = _
    rfl
  · show [0].Perm (List.range 1)
    exact List.Perm.refl _
theorem newTr_ent : entT 0 ((0, []) : Tb 0) = [] := rfl
/-- A tree of n steps: small, and with just these entries. -/
structure Grown (n : Nat) (T : Tr) (l : List (Key × Int)) : Prop where
  tree : ∃ (h : Nat) (t : Tb h), Reps T h t ∧ entT h t = l ∧ h ≤ n
  small : 2 * T.pages.length ≤ 2 + n * (n + 3)
theorem grown_new : Grown 0 newTr [] := ⟨⟨0, _, newTr_reps, newTr_ent, Nat.le_refl _⟩, by simp [newTr]⟩
theorem Grown.mono {n m : Nat} {T : Tr} {l : List (Key × Int)} (h : Grown n T l) (hnm : n ≤ m) : Grown m T l := by
  obtain ⟨⟨h', t, h1, h2, h3⟩, h4⟩ := h
  refine ⟨⟨h', t, h1, h2, by omega⟩, Nat.le_trans h4 ?_⟩
  have := Nat.mul_le_mul hnm (show n + 3 ≤ m + 3 by omega)
  omega
theorem Grown.rise {n : Nat} {T : Tr} {l : List (Key × Int)} (h : Grown n T l) : Rise l := by
  obtain ⟨⟨h', t, h1, h2, h3⟩, h4⟩ := h
  rw [← h2]
  exact ent_rise h' [] [] t h1.2.2.1
theorem Grown.okk {n : Nat} {T : Tr} {l : List (Key × Int)} (h : Grown n T l) : ∀ e ∈ l, okK e.1 ∧ 0 ≤ e.2 := by
  obtain ⟨⟨h', t, h1, h2, h3⟩, h4⟩ := h
  rw [← h2]
  exact ent_okk h' [] [] t h1.2.2.1
theorem Grown.ins {n : Nat} {T : Tr} {l : List (Key × Int)} {k : Key} {v : Int} (hg : Grown n T l) (ho : okK k) (hv : 0 ≤ v) (hn : ∀ e ∈ l, e.1 ≠ k) : ∃ h, Grown (n + 1) (insTr T h k v) (insE k v l) ∧ ∃ t : Tb h, Reps T h t ∧ entT h t = l := by
  obtain ⟨⟨h, t, h1, h2, h3⟩, h4⟩ := hg
  obtain ⟨h', t', g1, g2, g3, g4⟩ := insTr_good (k := k) (v := v) h1 ho hv (by rw [h2]; exact hn)
  refine ⟨h, ⟨⟨h', t', g1, by rw [g2, h2], by omega⟩, ?_⟩, t, h1, h2⟩
  have e : (n + 1) * (n + 1 + 3) = n * (n + 3) + 2 * n + 4 := by
    simp only [Nat.add_mul, Nat.mul_add, Nat.one_mul, Nat.mul_one]
    omega
  rw [e]
  omega
theorem Grown.del {n : Nat} {T : Tr} {l : List (Key × Int)} {k : Key} (hg : Grown n T l) : ∃ (h : Nat) (t : Tb h), Reps T h t ∧ entT h t = l ∧ Grown n ⟨takeP h T.pages t k, T.root⟩ (offE k l) := by
  obtain ⟨⟨h, t, h1, h2, h3⟩, h4⟩ := hg
  obtain ⟨g1, g2⟩ := delTr_good (k := k) h1
  exact ⟨h, t, h1, h2, ⟨⟨h, _, g1, by rw [g2, h2], h3⟩, by simpa [takeP] using h4⟩⟩
/-- Few steps: a tree far below the most pages. -/
theorem Grown.few {n : Nat} {T : Tr} {l : List (Key × Int)} (hg : Grown n T l) (hn : n ≤ 80) : T.pages.length ≤ 3321 := by
  have h4 := (hg.mono hn).small
  omega
/-- What is put in and taken out again is as before. -/
theorem off_ins {k : Key} {v : Int} : ∀ {l : List (Key × Int)}, (∀ e ∈ l, e.1 ≠ k) → offE k (insE k v l) = l
  | [], _ => by simp [offE, insE]
  | x :: l, h => by
    have hx := h x (by simp)
    by_cases g : kl k x.1 = true
    · have := offE_same h
      simp only [insE, g, if_true]
      unfold offE at this ⊢
      rw [List.filter_cons_of_neg (by simp)]
      exact this
    · have ih := off_ins (v := v) (fun e he => h e (List.mem_cons_of_mem _ he))
      simp only [insE, g, Bool.false_eq_true, if_false]
      unfold offE at ih ⊢
      rw [List.filter_cons_of_pos (by simp [hx]), ih]
/-- Lists that rise and hold the same are the same. -/
theorem rise_ext : ∀ {a b : List (Key × Int)}, Rise a → Rise b → (∀ e, e ∈ a ↔ e ∈ b) → a = b
  | [], [], _, _, _ => rfl
  | [], y :: b, _, _, h => absurd ((h y).2 (by simp)) (by simp)
  | x :: a, [], _, _, h => absurd ((h x).1 (by simp)) (by simp)
  | x :: a, y :: b, ha, hb, h => by
    have ha' := ha
    have hb' := hb
    unfold Rise at ha hb
    rw [List.pairwise_cons] at ha hb
    have hxy : x = y := by
      have h1 := (h x).1 (by simp)
      have h2 := (h y).2 (by simp)
      simp only [List.mem_cons] at h1 h2
      rcases h1 with e | h1
      · exact e
      · rcases h2 with e | h2
        · exact e.symm
        · have q1 := hb.1 x h1
          have q2 := ha.1 y h2
          have q3 := kl_not q1
          rw [q3] at q2
          exact absurd q2 (by simp)
    subst hxy
    congr 1
    refine rise_ext ha.2 hb.2 fun e => ⟨fun he => ?_, fun he => ?_⟩
    · have h1 := (h e).1 (List.mem_cons_of_mem _ he)
      simp only [List.mem_cons] at h1
      rcases h1 with rfl | h1
      · have := ha.1 e he
        rw [show kl e.1 e.1 = false from bl_irr e.1] at this
        exact absurd this (by simp)
      · exact h1
    · have h1 := (h e).2 (List.mem_cons_of_mem _ he)
      simp only [List.mem_cons] at h1
      rcases h1 with rfl | h1
      · have := hb.1 e he
        rw [show kl e.1 e.1 = false from bl_irr e.1] at this
        exact absurd this (by simp)
      · exact h1
/-- In whatever order keys are put in, the entries are the same. -/
def insAll (l : List (Key × Int)) : List (Key × Int) := l.foldl (fun a e => insE e.1 e.2 a) []
theorem foldl_mem : ∀ (l a : List (Key × Int)) (e : Key × Int), e ∈ l.foldl (fun a e => insE e.1 e.2 a) a ↔ e ∈ l ∨ e ∈ a
  | [], a, e => by simp
  | x :: l, a, e => by
    rw [List.foldl_cons, foldl_mem l, insE_mem]
    simp only [List.mem_cons]
    constructor
    · rintro (h | h | h)
      · exact .inl (.inr h)
      · exact .inl (.inl h)
      · exact .inr h
    · rintro ((h | h) | h)
      · exact .inr (.inl h)
      · exact .inl h
      · exact .inr (.inr h)
theorem foldl_rise : ∀ (l a : List (Key × Int)), Rise a → (l.map (·.1)).Nodup → (∀ e ∈ a, ∀ f ∈ l, e.1 ≠ f.1) → Rise (l.foldl (fun a e => insE e.1 e.2 a) a)
  | [], a, h, _, _ => h
  | x :: l, a, h, hn, hd => by
    rw [List.map_cons, List.nodup_cons] at hn
    rw [List.foldl_cons]
    refine foldl_rise l _ (insE_rise h fun e he => hd e he x (by simp)) hn.2 fun e he f hf => ?_
    rw [insE_mem] at he
    rcases he with rfl | he
    · exact fun q => hn.1 (by rw [q]; exact List.mem_map.2 ⟨f, hf, rfl⟩)
    · exact hd e he f (by simp [hf])
theorem insAll_turn {a b : List (Key × Int)} (hp : a.Perm b) (hn : (a.map (·.1)).Nodup) : insAll a = insAll b := by
  have hn' : (b.map (·.1)).Nodup := (hp.map _).nodup_iff.1 hn
  refine rise_ext (foldl_rise a [] (by simp [Rise]) hn (by simp)) (foldl_rise b [] (by simp [Rise]) hn' (by simp)) fun e => ?_
  rw [insAll, insAll, foldl_mem, foldl_mem]
  simp [hp.mem_iff]
end Go.Proofs.Ytahammkjkfdmhaa
