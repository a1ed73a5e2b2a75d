/- Plain trees: the whole one; a key put in, a key taken out. No program in sight. -/
import Derived.Test.YthoijpaoegojfaaGr
namespace Go.Proofs.Ythoijpaoegojfaa
set_option linter.unusedVariables false
set_option linter.unusedSimpArgs false
/-- The pages of T are those of a tree t of height h that may be. -/
def Reps (T : Tr) (h : Nat) (t : Tb h) : Prop := T.root = (idT h t : Int) ∧ repT T.pages h [] [] t ∧ wfT h [] [] t ∧ (idsT h t).Perm (List.range T.pages.length)
theorem Reps.nodup {T : Tr} {h : Nat} {t : Tb h} (hr : Reps T h t) : (idsT h t).Nodup := hr.2.2.2.nodup_iff.2 List.nodup_range
theorem Reps.lt {T : Tr} {h : Nat} {t : Tb h} (hr : Reps T h t) : ∀ i ∈ idsT h t, i < T.pages.length := fun i hi => List.mem_range.1 (hr.2.2.2.subset hi)
/-- A tree into which a key is put. -/
def insTr (T : Tr) (h : Nat) (k : Key) (v : Int) : Tr :=
  match addP h T.pages T.root.toNat k v with
  | (ps, none) => ⟨ps, T.root⟩
  | (ps, some (up, rt)) => ⟨ps ++ [⟨false, [up], [T.root, (rt : Int)], [], -1⟩], (ps.length : Int)⟩
theorem range_add (n m : Nat) (h : n ≤ m) : List.range n ++ List.range' n (m - n) = List.range m := by
  rw [List.range_eq_range', List.range_eq_range']
  have := List.range'_append (s := 0) (m := n) (n := m - n) (step := 1)
  simp only [Nat.mul_one, Nat.one_mul, Nat.zero_add] at this
  rw [this]
  congr 1
  omega
theorem putP_len (ps : List Pg) (i : Nat) (p : Pg) (ks : List Key) (kids : List Int) : (putP ps i p ks kids).1.length ≤ ps.length + 1 := by
  unfold putP
  split <;> simp
/-- At most a page for each height. -/
theorem addP_len : ∀ (h : Nat) (ps : List Pg) (i : Nat) (k : Key) (v : Int), (addP h ps i k v).1.length ≤ ps.length + h + 1
  | 0, ps, i, k, v => by
    unfold addP
    exact putP_len ..
  | h + 1, ps, i, k, v => by
    unfold addP
    have ih := addP_len h ps ((ps.getD i noPg).kids.getD (cntK k (ps.getD i noPg).keys) 0).toNat k v
    rcases hY : addP h ps ((ps.getD i noPg).kids.getD (cntK k (ps.getD i noPg).keys) 0).toNat k v with ⟨ps1, _ | ⟨up, rt⟩⟩ <;> rw [hY] at ih
    · show ps1.length ≤ _
      simp only at ih
      omega
    · show (putP ps1 i _ _ _).1.length ≤ _
      have := putP_len ps1 i (ps.getD i noPg) (insAt (ps.getD i noPg).keys (cntK k (ps.getD i noPg).keys) up) (insAt (ps.getD i noPg).kids (cntK k (ps.getD i noPg).keys + 1) (rt : Int))
      simp only at ih
      omega
/-- A TREE INTO WHICH A KEY IS PUT IS ONE THAT MAY BE, AND HAS IT. -/
theorem insTr_good {T : Tr} {h : Nat} {t : Tb h} {k : Key} {v : Int} (hr : Reps T h t) (ho : okK k) (hv : 0 ≤ v) (hn : ∀ e ∈ entT h t, e.1 ≠ k) :
    ∃ (h' : Nat) (t' : Tb h'), Reps (insTr T h k v) h' t' ∧ entT h' t' = insE k v (entT h t) ∧ h' ≤ h + 1 ∧ (insTr T h k v).pages.length ≤ T.pages.length + h + 2 := by
  have hnd := hr.nodup
  have hlt := hr.lt
  obtain ⟨hroot, hrep, hwf, hids⟩ := hr
  obtain ⟨g1, g2⟩ := insT_good h [] [] t k v T.pages.length hwf ⟨kl_nil k, .inl rfl⟩ ho hv hn
  obtain ⟨p1, p2, p3, p4, p5, p6⟩ := put_any h T.pages [] [] [] [] t k v hwf hrep hnd hlt
  have hY : addP h T.pages T.root.toNat k v = addP h T.pages (idT h t) k v := by rw [hroot, Int.toNat_natCast]
  have hlen : (addP h T.pages (idT h t) k v).1.length ≤ T.pages.length + h + 1 := addP_len ..
  unfold insTr
  rw [hY]
  obtain ⟨X, hX⟩ : ∃ X, X = insT h t k v T.pages.length := ⟨_, rfl⟩
  obtain ⟨Y, hYY⟩ : ∃ Y, Y = addP h T.pages (idT h t) k v := ⟨_, rfl⟩
  have hidX := (insT_spine h t k v T.pages.length).2
  rw [← hX] at g1 g2 p1 p2 p5 p6 hidX
  rw [← hYY] at p1 p2 p3 p4 p5 p6 hlen ⊢
  obtain ⟨x, xo⟩ := X
  obtain ⟨ps, y⟩ := Y
  simp only at p2 p3 p4 p5 p6 hlen hidX
  have hperm : (idsX (idsT h) (x, xo)).Perm (List.range ps.length) := by
    rw [← range_add _ _ p4]
    exact p5.trans (hids.append_right _)
  cases xo with
  | none =>
    have hy : y = none := by simpa using p2
    subst hy
    refine ⟨h, x, ⟨?_, p1, g1, by simpa [idsX] using hperm⟩, by simpa [entX] using g2, by omega, by simp only; omega⟩
    rw [hroot, hidX]
  | some d =>
    obtain ⟨s, d⟩ := d
    have hy : y = some (s, idT h d) := by simpa using p2
    subst hy
    obtain ⟨q1, q2, q3, q4, q5⟩ := g1
    obtain ⟨r1, r2⟩ := p1
    have hidlt : ∀ j ∈ idsX (idsT h) (x, some (s, d)), j < ps.length := fun j hj => List.mem_range.1 (hperm.subset hj)
    have hfr : ∀ (hi : Key) (rs : List Int) (u : Tb h), (∀ j ∈ idsT h u, j < ps.length) → repT ps h hi rs u → repT (ps ++ [⟨false, [s], [T.root, (idT h d : Int)], [], -1⟩]) h hi rs u :=
      fun hi rs u hu hr => repT_frame h hi rs u (fun j hj => app_lo (hu j hj)) hr
    refine ⟨h + 1, (ps.length, x, [(s, d)]), ⟨rfl, ⟨?_, ?_, ?_⟩, ⟨by simp, by simp, q4, q1, ⟨kl_nil _, .inl rfl⟩, by simp, q5⟩, ?_⟩, ?_, by omega, by simp; omega⟩
    · show (ps ++ _)[ps.length]? = _
      rw [List.getElem?_append_right (Nat.le_refl _), Nat.sub_self, hroot, ← hidX]
      rfl
    · exact hfr _ _ _ (fun j hj => hidlt j (List.mem_append_left _ hj)) r1
    · exact hfr _ _ _ (fun j hj => hidlt j (List.mem_append_right _ hj)) r2
    · show (ps.length :: (idsT h x ++ ([(s, d)].map fun x => idsT h x.2).flatten)).Perm (List.range (ps ++ _).length)
      rw [List.length_append, List.length_singleton, List.range_succ]
      have : (idsT h x ++ ([(s, d)].map fun x => idsT h x.2).flatten) = idsX (idsT h) (x, some (s, d)) := by simp [idsX]
      rw [this]
      exact (hperm.cons _).trans (List.perm_append_singleton _ _).symm
    · show entT h x ++ ([(s, d)].map fun x => entT h x.2).flatten = _
      rw [← g2]
      simp [entX]
end Go.Proofs.Ythoijpaoegojfaa
