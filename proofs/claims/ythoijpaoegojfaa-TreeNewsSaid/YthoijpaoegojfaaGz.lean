/- Plain trees: what a row of insertions and deletions leaves. No program in sight. -/
import Derived.Test.YthoijpaoegojfaaGy
namespace Go.Proofs.Ythoijpaoegojfaa
set_option linter.unusedVariables false
set_option linter.unusedSimpArgs false
/-- An empty tree. -/
def newTr : Tr := ⟨[⟨true, [], [], [], -1⟩], 0⟩
theorem newTr_reps : Reps newTr 0 ((0, []) : Tb 0) := by
  refine ⟨rfl, ?_, ⟨by simp, by simp [Rise], by simp⟩, ?_⟩
  · show newTr.pages[0]? = _
    rfl
  · show [0].Perm (List.range 1)
    exact List.Perm.refl _
theorem newTr_ent : entT 0 ((0, []) : Tb 0) = [] := rfl
/-- A tree of n steps: small, and with just these entries. -/
structure Grown (n : Nat) (T : Tr) (l : List (Key × Int)) : Prop where
  tree : ∃ (h : Nat) (t : Tb h), Reps T h t ∧ entT h t = l ∧ h ≤ n
  small : 2 * T.pages.length ≤ 2 + n * (n + 3)
theorem grown_new : Grown 0 newTr [] := ⟨⟨0, _, newTr_reps, newTr_ent, Nat.le_refl _⟩, by simp [newTr]⟩
theorem Grown.mono {n m : Nat} {T : Tr} {l : List (Key × Int)} (h : Grown n T l) (hnm : n ≤ m) : Grown m T l := by
  obtain ⟨⟨h', t, h1, h2, h3⟩, h4⟩ := h
  refine ⟨⟨h', t, h1, h2, by omega⟩, Nat.le_trans h4 ?_⟩
  have := Nat.mul_le_mul hnm (show n + 3 ≤ m + 3 by omega)
  omega
theorem Grown.rise {n : Nat} {T : Tr} {l : List (Key × Int)} (h : Grown n T l) : Rise l := by
  obtain ⟨⟨h', t, h1, h2, h3⟩, h4⟩ := h
  rw [← h2]
  exact ent_rise h' [] [] t h1.2.2.1
theorem Grown.okk {n : Nat} {T : Tr} {l : List (Key × Int)} (h : Grown n T l) : ∀ e ∈ l, okK e.1 ∧ 0 ≤ e.2 := by
  obtain ⟨⟨h', t, h1, h2, h3⟩, h4⟩ := h
  rw [← h2]
  exact ent_okk h' [] [] t h1.2.2.1
theorem Grown.ins {n : Nat} {T : Tr} {l : List (Key × Int)} {k : Key} {v : Int} (hg : Grown n T l) (ho : okK k) (hv : 0 ≤ v) (hn : ∀ e ∈ l, e.1 ≠ k) : ∃ h, Grown (n + 1) (insTr T h k v) (insE k v l) ∧ ∃ t : Tb h, Reps T h t ∧ entT h t = l := by
  obtain ⟨⟨h, t, h1, h2, h3⟩, h4⟩ := hg
  obtain ⟨h', t', g1, g2, g3, g4⟩ := insTr_good (k := k) (v := v) h1 ho hv (by rw [h2]; exact hn)
  refine ⟨h, ⟨⟨h', t', g1, by rw [g2, h2], by omega⟩, ?_⟩, t, h1, h2⟩
  have e : (n + 1) * (n + 1 + 3) = n * (n + 3) + 2 * n + 4 := by
    simp only [Nat.add_mul, Nat.mul_add, Nat.one_mul, Nat.mul_one]
    omega
  rw [e]
  omega
theorem Grown.del {n : Nat} {T : Tr} {l : List (Key × Int)} {k : Key} (hg : Grown n T l) : ∃ (h : Nat) (t : Tb h), Reps T h t ∧ entT h t = l ∧ Grown n ⟨takeP h T.pages t k, T.root⟩ (offE k l) := by
  obtain ⟨⟨h, t, h1, h2, h3⟩, h4⟩ := hg
  obtain ⟨g1, g2⟩ := delTr_good (k := k) h1
  exact ⟨h, t, h1, h2, ⟨⟨h, _, g1, by rw [g2, h2], h3⟩, by simpa [takeP] using h4⟩⟩
/-- Few steps: a tree far below the most pages. -/
theorem Grown.few {n : Nat} {T : Tr} {l : List (Key × Int)} (hg : Grown n T l) (hn : n ≤ 80) : T.pages.length ≤ 3321 := by
  have h4 := (hg.mono hn).small
  omega
/-- What is put in and taken out again is as before. -/
theorem off_ins {k : Key} {v : Int} : ∀ {l : List (Key × Int)}, (∀ e ∈ l, e.1 ≠ k) → offE k (insE k v l) = l
  | [], _ => by simp [offE, insE]
  | x :: l, h => by
    have hx := h x (by simp)
    by_cases g : kl k x.1 = true
    · have := offE_same h
      simp only [insE, g, if_true]
      unfold offE at this ⊢
      rw [List.filter_cons_of_neg (by simp)]
      exact this
    · have ih := off_ins (v := v) (fun e he => h e (List.mem_cons_of_mem _ he))
      simp only [insE, g, Bool.false_eq_true, if_false]
      unfold offE at ih ⊢
      rw [List.filter_cons_of_pos (by simp [hx]), ih]
/-- Lists that rise and hold the same are the same. -/
theorem rise_ext : ∀ {a b : List (Key × Int)}, Rise a → Rise b → (∀ e, e ∈ a ↔ e ∈ b) → a = b
  | [], [], _, _, _ => rfl
  | [], y :: b, _, _, h => absurd ((h y).2 (by simp)) (by simp)
  | x :: a, [], _, _, h => absurd ((h x).1 (by simp)) (by simp)
  | x :: a, y :: b, ha, hb, h => by
    have ha' := ha
    have hb' := hb
    unfold Rise at ha hb
    rw [List.pairwise_cons] at ha hb
    have hxy : x = y := by
      have h1 := (h x).1 (by simp)
      have h2 := (h y).2 (by simp)
      simp only [List.mem_cons] at h1 h2
      rcases h1 with e | h1
      · exact e
      · rcases h2 with e | h2
        · exact e.symm
        · have q1 := hb.1 x h1
          have q2 := ha.1 y h2
          have q3 := kl_not q1
          rw [q3] at q2
          exact absurd q2 (by simp)
    subst hxy
    congr 1
    refine rise_ext ha.2 hb.2 fun e => ⟨fun he => ?_, fun he => ?_⟩
    · have h1 := (h e).1 (List.mem_cons_of_mem _ he)
      simp only [List.mem_cons] at h1
      rcases h1 with rfl | h1
      · have := ha.1 e he
        rw [show kl e.1 e.1 = false from bl_irr e.1] at this
        exact absurd this (by simp)
      · exact h1
    · have h1 := (h e).2 (List.mem_cons_of_mem _ he)
      simp only [List.mem_cons] at h1
      rcases h1 with rfl | h1
      · have := hb.1 e he
        rw [show kl e.1 e.1 = false from bl_irr e.1] at this
        exact absurd this (by simp)
      · exact h1
/-- In whatever order keys are put in, the entries are the same. -/
def insAll (l : List (Key × Int)) : List (Key × Int) := l.foldl (fun a e => insE e.1 e.2 a) []
theorem foldl_mem : ∀ (l a : List (Key × Int)) (e : Key × Int), e ∈ l.foldl (fun a e => insE e.1 e.2 a) a ↔ e ∈ l ∨ e ∈ a
  | [], a, e => by simp
  | x :: l, a, e => by
    rw [List.foldl_cons, foldl_mem l, insE_mem]
    simp only [List.mem_cons]
    constructor
    · rintro (h | h | h)
      · exact .inl (.inr h)
      · exact .inl (.inl h)
      · exact .inr h
    · rintro ((h | h) | h)
      · exact .inr (.inl h)
      · exact .inl h
      · exact .inr (.inr h)
theorem foldl_rise : ∀ (l a : List (Key × Int)), Rise a → (l.map (·.1)).Nodup → (∀ e ∈ a, ∀ f ∈ l, e.1 ≠ f.1) → Rise (l.foldl (fun a e => insE e.1 e.2 a) a)
  | [], a, h, _, _ => h
  | x :: l, a, h, hn, hd => by
    rw [List.map_cons, List.nodup_cons] at hn
    rw [List.foldl_cons]
    refine foldl_rise l _ (insE_rise h fun e he => hd e he x (by simp)) hn.2 fun e he f hf => ?_
    rw [insE_mem] at he
    rcases he with rfl | he
    · exact fun q => hn.1 (by rw [q]; exact List.mem_map.2 ⟨f, hf, rfl⟩)
    · exact hd e he f (by simp [hf])
theorem insAll_turn {a b : List (Key × Int)} (hp : a.Perm b) (hn : (a.map (·.1)).Nodup) : insAll a = insAll b := by
  have hn' : (b.map (·.1)).Nodup := (hp.map _).nodup_iff.1 hn
  refine rise_ext (foldl_rise a [] (by simp [Rise]) hn (by simp)) (foldl_rise b [] (by simp [Rise]) hn' (by simp)) fun e => ?_
  rw [insAll, insAll, foldl_mem, foldl_mem]
  simp [hp.mem_iff]
end Go.Proofs.Ythoijpaoegojfaa
