/- Plain trees: pages that pass, level by level, are those of a tree. No program in sight. -/
import Derived.Test.YthoijpaoegojfaaGu
namespace Go.Proofs.Ythoijpaoegojfaa
set_option linter.unusedVariables false
set_option linter.unusedSimpArgs false
/-- The kids of a page; of a place. -/
def kidsP (p : Pg) : List Nat := if p.leaf then [] else p.kids.map Int.toNat
def kidsOf (ps : List Pg) (i : Nat) : List Nat := kidsP (ps.getD i noPg)
theorem kidsB_places : ∀ (cs : List Int) (ss : List Key) (lo hi : Key), (kidsB lo hi cs ss).map (·.1) = cs.map Int.toNat
  | [], _, _, _ => by simp [kidsB]
  | c :: cs, [], lo, hi => by simp [kidsB, kidsB_places cs]
  | c :: cs, s :: ss, lo, hi => by simp [kidsB, kidsB_places cs]
theorem downP_places (ps : List Pg) (x : Spot) : (downP ps x).map (·.1) = kidsOf ps x.1 := by
  unfold downP kidsOf kidsP
  split
  · rfl
  · rw [kidsB_places]
theorem downL_places (ps : List Pg) : ∀ l : List Spot, (downL ps l).map (·.1) = (l.map (·.1)).flatMap (kidsOf ps)
  | [] => rfl
  | x :: l => by
    have := downL_places ps l
    unfold downL at this ⊢
    rw [List.flatMap_cons, List.map_append, downP_places, this, List.map_cons, List.flatMap_cons]
theorem kidsOf_lt {ps : List Pg} (hok : ∀ p ∈ ps, OkPg p ps.length) {i j : Nat} (hi : i < ps.length) (hj : j ∈ kidsOf ps i) : j < ps.length := by
  have hp : ps[i]? = some ps[i] := List.getElem?_eq_getElem hi
  unfold kidsOf kidsP at hj
  rw [getD_of hp] at hj
  have ok := hok _ (List.getElem_mem hi)
  rcases hl : ps[i].leaf with _ | _
  · rw [hl, if_neg (by simp)] at hj
    obtain ⟨c, hc, rfl⟩ := List.mem_map.1 hj
    have h1 := ok.kid c hc
    have h2 := h1.2 hl
    omega
  · rw [hl, if_pos rfl] at hj
    simp at hj
theorem downL_lt {ps : List Pg} (hok : ∀ p ∈ ps, OkPg p ps.length) {l : List Spot} (hl : ∀ x ∈ l, x.1 < ps.length) : ∀ x ∈ downL ps l, x.1 < ps.length := by
  intro x hx
  have hm : x.1 ∈ (downL ps l).map (·.1) := List.mem_map.2 ⟨x, hx, rfl⟩
  rw [downL_places, List.mem_flatMap] at hm
  obtain ⟨i, hi, hj⟩ := hm
  obtain ⟨y, hy, rfl⟩ := List.mem_map.1 hi
  exact kidsOf_lt hok (hl y hy) hj
theorem okLv_leaf {ps : List Pg} {b : Bool} : ∀ {l : List Spot}, okLv ps b l → ∀ x ∈ l, (ps.getD x.1 noPg).leaf = b
  | [], _, x, hx => by simp at hx
  | y :: l, h, x, hx => by
    simp only [List.mem_cons] at hx
    rcases hx with rfl | hx
    · exact h.1.2.2.1
    · exact okLv_leaf h.2 x hx
theorem Levels.nil {ps : List Pg} {a : List Nat} (h : Levels ps [] a) : a = [] := by
  generalize hl : ([] : List Spot) = l at h
  cases h with
  | done => rfl
  | more _ _ _ h1 _ _ => exact absurd hl.symm h1
/-- FROM THE LEVELS TO TREES. -/
theorem levels_trees {ps : List Pg} (hok : ∀ p ∈ ps, OkPg p ps.length) : ∀ {l : List Spot} {a : List Nat}, Levels ps l a → l ≠ [] → (∀ x ∈ l, x.1 < ps.length) → ∃ (h : Nat) (us : List (Tb h)), Stand ps h [] l us ∧ (idsF h us).Perm a := by
  intro l a hL
  induction hL with
  | done => exact fun h => absurd rfl h
  | more l leaf a hne hlv hrest ih =>
    intro _ hlt
    cases leaf with
    | true =>
      obtain ⟨us, u1, _, u3⟩ := stand_leaves hok l hlt hlv
      have hd : downL ps l = [] := by
        unfold downL
        rw [List.flatMap_eq_nil_iff]
        intro x hx
        unfold downP
        rw [okLv_leaf hlv x hx, if_pos rfl]
      rw [hd] at hrest
      rw [hrest.nil, List.append_nil]
      exact ⟨0, us, u1, by rw [u3]⟩
    | false =>
      have hd : downL ps l ≠ [] := by
        obtain ⟨x, r, rfl⟩ := List.exists_cons_of_ne_nil hne
        intro e
        have hx := hlt x (by simp)
        have hp : ps[x.1]? = some ps[x.1] := List.getElem?_eq_getElem hx
        have hlf := okLv_leaf hlv x (by simp)
        have hpl := congrArg (List.map (·.1)) e
        rw [downL_places] at hpl
        simp only [List.map_cons, List.flatMap_cons, List.map_nil, List.append_eq_nil_iff] at hpl
        have h1 := hpl.1
        unfold kidsOf kidsP at h1
        rw [hlf, if_neg (by simp), getD_of hp, List.map_eq_nil_iff] at h1
        rw [getD_of hp] at hlf
        have h2 := (hok _ (List.getElem_mem hx)).kids
        rw [hlf, if_neg (by simp), h1] at h2
        simp at h2
      obtain ⟨h, ts, t1, t2⟩ := ih hd (downL_lt hok hlt)
      obtain ⟨us, u1, _, _, u4⟩ := stand_up hok l ts hlt hlv t1
      exact ⟨h + 1, us, u1, u4.trans (t2.append_left _)⟩
/-- Numbers below n, each but once, are not more than n. -/
theorem few : ∀ (n : Nat) (a : List Nat), a.Nodup → (∀ x ∈ a, x < n) → a.length ≤ n
  | 0, a, _, h => by
    cases a with
    | nil => simp
    | cons x a => exact absurd (h x (by simp)) (by omega)
  | n + 1, a, hn, h => by
    by_cases hm : n ∈ a
    · have hp := List.perm_cons_erase hm
      have hl := hp.length_eq
      have hnd := hp.nodup_iff.1 hn
      rw [List.nodup_cons] at hnd
      have := few n (a.erase n) hnd.2 (fun x hx => by
        have h1 := h x (List.mem_of_mem_erase hx)
        have h2 : x ≠ n := fun e => hnd.1 (e ▸ hx)
        omega)
      simp only [List.length_cons] at hl
      omega
    · have := few n a hn (fun x hx => by
        have h1 := h x hx
        have h2 : x ≠ n := fun e => hm (e ▸ hx)
        omega)
      omega
theorem all_of : ∀ (n : Nat) (a : List Nat), a.Nodup → (∀ x ∈ a, x < n) → a.length = n → a.Perm (List.range n)
  | 0, a, _, _, hl => by
    rw [List.length_eq_zero_iff.1 hl]
    exact List.Perm.refl _
  | n + 1, a, hn, h, hl => by
    by_cases hm : n ∈ a
    · have hp := List.perm_cons_erase hm
      have hle := hp.length_eq
      have hnd := hp.nodup_iff.1 hn
      rw [List.nodup_cons] at hnd
      simp only [List.length_cons] at hle
      have := all_of n (a.erase n) hnd.2 (fun x hx => by
        have h1 := h x (List.mem_of_mem_erase hx)
        have h2 : x ≠ n := fun e => hnd.1 (e ▸ hx)
        omega) (by omega)
      rw [List.range_succ]
      exact hp.trans ((this.cons n).trans (List.perm_append_singleton _ _).symm)
    · have := few n a hn (fun x hx => by
        have h1 := h x hx
        have h2 : x ≠ n := fun e => hm (e ▸ hx)
        omega)
      omega
/-- Kids of places that differ differ, if those of all pages do. -/
theorem some_kids {f : Nat → List Nat} {r n : Nat} {a : List Nat} (hall : (r :: (List.range n).flatMap f).Nodup) (hn : a.Nodup) (hlt : ∀ x ∈ a, x < n) : (r :: a.flatMap f).Nodup := by
  rw [List.nodup_cons] at hall ⊢
  obtain ⟨h1, h2⟩ := hall
  refine ⟨fun hm => ?_, ?_⟩
  · obtain ⟨x, hx, hr⟩ := List.mem_flatMap.1 hm
    exact h1 (List.mem_flatMap.2 ⟨x, List.mem_range.2 (hlt x hx), hr⟩)
  · unfold List.Nodup at h2 hn ⊢
    rw [List.pairwise_flatMap] at h2 ⊢
    refine ⟨fun x hx => h2.1 x (List.mem_range.2 (hlt x hx)), hn.imp_of_mem fun {x y} hx hy hxy => ?_⟩
    have hp := List.pairwise_iff_getElem.1 h2.2
    have hxn := hlt x hx
    have hyn := hlt y hy
    rcases Nat.lt_or_gt_of_ne hxy with q | q
    · have := hp x y (by simpa using hxn) (by simpa using hyn) q
      simp only [List.getElem_range] at this
      exact this
    · have := hp y x (by simpa using hyn) (by simpa using hxn) q
      simp only [List.getElem_range] at this
      exact fun u hu v hv e => this v hv u hu e.symm
theorem levels_once {ps : List Pg} (hok : ∀ p ∈ ps, OkPg p ps.length) {r : Nat} (hall : (r :: (List.range ps.length).flatMap (kidsOf ps)).Nodup) : ∀ {l : List Spot} {a : List Nat}, Levels ps l a → ∀ b : List Nat, (∀ x ∈ b, x < ps.length) → (∀ x ∈ l, x.1 < ps.length) →
    (b ++ l.map (·.1)).Nodup → (b ++ l.map (·.1)).Perm (r :: b.flatMap (kidsOf ps)) → (b ++ a).Nodup ∧ ∀ x ∈ b ++ a, x < ps.length := by
  intro l a hL
  induction hL with
  | done =>
    intro b hb _ hn _
    simp only [List.map_nil, List.append_nil] at hn ⊢
    exact ⟨hn, hb⟩
  | more l leaf a hne hlv hrest ih =>
    intro b hb hl hn hp
    have hb' : ∀ x ∈ b ++ l.map (·.1), x < ps.length := by
      intro x hx
      rcases List.mem_append.1 hx with q | q
      · exact hb x q
      · obtain ⟨y, hy, rfl⟩ := List.mem_map.1 q
        exact hl y hy
    have hp' : (b ++ l.map (·.1) ++ (downL ps l).map (·.1)).Perm (r :: (b ++ l.map (·.1)).flatMap (kidsOf ps)) := by
      rw [downL_places, List.flatMap_append]
      exact hp.append_right _
    have := ih (b ++ l.map (·.1)) hb' (downL_lt hok hl) (hp'.nodup_iff.2 (some_kids hall hn hb')) hp'
    rw [List.append_assoc] at this
    exact this
theorem all_kids (ps : List Pg) : (List.range ps.length).flatMap (kidsOf ps) = ps.flatMap kidsP := by
  have e : ps = (List.range ps.length).map fun i => ps.getD i noPg := by
    apply List.ext_getElem
    · simp
    · intro i h1 h2
      simp [List.getD, h1]
  conv => rhs; rw [e]
  rw [List.flatMap_map]
  rfl
/-- Pages that pass. -/
structure Pass (T : Tr) : Prop where
  root : 0 ≤ T.root ∧ T.root < T.pages.length
  page : ∀ p ∈ T.pages, OkPg p T.pages.length
  levels : ∃ a, Levels T.pages [(T.root.toNat, [], [])] a ∧ a.length = T.pages.length
  once : (T.root.toNat :: T.pages.flatMap kidsP).Nodup
/-- PAGES THAT PASS ARE THOSE OF A TREE. -/
theorem pass_reps {T : Tr} (hp : Pass T) : ∃ (h : Nat) (t : Tb h), Reps T h t := by
  obtain ⟨a, hL, hlen⟩ := hp.levels
  have hr := hp.root
  have hlt : ∀ x ∈ [((T.root.toNat, [], []) : Spot)], x.1 < T.pages.length := by
    intro x hx
    simp only [List.mem_singleton] at hx
    subst hx
    simp only
    omega
  obtain ⟨h, us, hs, hids⟩ := levels_trees hp.page hL (by simp) hlt
  obtain ⟨t, ts', rfl, ⟨h1, h2, h3⟩, h4⟩ := hs
  have h4' : ts' = [] := h4
  subst h4'
  have hall := hp.once
  rw [← all_kids] at hall
  obtain ⟨o1, o2⟩ := levels_once hp.page hall hL [] (by simp) hlt (by simp) (by simp)
  simp only [List.nil_append] at o1 o2
  refine ⟨h, t, ?_, h3, h2, ?_⟩
  · rw [h1]
    simp only
    omega
  · have e : idsF h [t] = idsT h t := by simp [idsF]
    rw [e] at hids
    exact hids.trans (all_of _ _ o1 o2 hlen)
end Go.Proofs.Ythoijpaoegojfaa
