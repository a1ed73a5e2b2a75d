/- Plain trees: a tree with one page changed is none. No program in sight. -/
import Derived.Test.YtacpeibkamfibaaGy
namespace Go.Proofs.Ytacpeibkamfibaa
set_option linter.unusedVariables false
set_option linter.unusedSimpArgs false
/-- Pages alike but for bounds and neighbours. -/
def AlikeP (ps ps' : List Pg) : Prop := ∀ i, (ps'.getD i noPg).leaf = (ps.getD i noPg).leaf ∧ (ps'.getD i noPg).keys = (ps.getD i noPg).keys ∧ (ps'.getD i noPg).kids = (ps.getD i noPg).kids
theorem alike_down {ps ps' : List Pg} (h : AlikeP ps ps') (l : List Spot) : downL ps' l = downL ps l := by
  have e : downP ps' = downP ps := by
    funext x
    unfold downP
    obtain ⟨h1, h2, h3⟩ := h x.1
    rw [h1, h2, h3]
  unfold downL
  rw [e]
theorem lv_same {ps ps' : List Pg} {b b' : Bool} : ∀ {l : List Spot}, okLv ps b l → okLv ps' b' l → ∀ x ∈ l, (ps'.getD x.1 noPg).high = (ps.getD x.1 noPg).high ∧ (ps'.getD x.1 noPg).next = (ps.getD x.1 noPg).next
  | [], _, _, x, hx => by simp at hx
  | y :: l, h, h', x, hx => by
    simp only [List.mem_cons] at hx
    rcases hx with rfl | hx
    · exact ⟨h'.1.2.1.trans h.1.2.1.symm, h'.1.1.trans h.1.1.symm⟩
    · exact lv_same h.2 h'.2 x hx
theorem levels_same {ps ps' : List Pg} (hd : AlikeP ps ps') {l : List Spot} {a : List Nat} (hL : Levels ps l a) : ∀ {a' : List Nat}, Levels ps' l a' → ∀ i ∈ a, (ps'.getD i noPg).high = (ps.getD i noPg).high ∧ (ps'.getD i noPg).next = (ps.getD i noPg).next := by
  induction hL with
  | done => intro a' _ i hi; simp at hi
  | more l b a hl hok hrest ih =>
    intro a' h' i hi
    cases h' with
    | done => exact absurd rfl hl
    | more _ b' a'' _ hok' hrest' =>
      rw [alike_down hd] at hrest'
      rcases List.mem_append.1 hi with hi | hi
      · obtain ⟨x, hx, rfl⟩ := List.mem_map.1 hi
        exact lv_same hok hok' x hx
      · exact ih hrest' i hi
theorem pass_places {T : Tr} (hp : Pass T) : ∃ a, Levels T.pages [(T.root.toNat, [], [])] a ∧ a.Nodup ∧ ∀ i, i < T.pages.length → i ∈ a := by
  obtain ⟨a, hL, hlen⟩ := hp.levels
  have hr := hp.root
  have hlt : ∀ x ∈ [((T.root.toNat, [], []) : Spot)], x.1 < T.pages.length := by
    intro x hx
    simp only [List.mem_singleton] at hx
    subst hx
    simp only
    omega
  have hall := hp.once
  rw [← all_kids] at hall
  obtain ⟨o1, o2⟩ := levels_once hp.page hall hL [] (by simp) hlt (by simp) (by simp)
  simp only [List.nil_append] at o1 o2
  exact ⟨a, hL, o1, fun i hi => (all_of _ _ o1 o2 hlen).mem_iff.2 (List.mem_range.2 hi)⟩
theorem pass_same {T T' : Tr} (hp : Pass T) (hp' : Pass T') (hr : T'.root = T.root) (hd : AlikeP T.pages T'.pages) (i : Nat) (hi : i < T.pages.length) :
    (T'.pages.getD i noPg).high = (T.pages.getD i noPg).high ∧ (T'.pages.getD i noPg).next = (T.pages.getD i noPg).next := by
  obtain ⟨a, hL, -, ha⟩ := pass_places hp
  obtain ⟨a', hL', -⟩ := hp'.levels
  rw [hr] at hL'
  exact levels_same hd hL hL' i (ha i hi)
theorem lv_next {ps : List Pg} {b : Bool} : ∀ {l : List Spot}, okLv ps b l → (l.map (·.1)).Nodup → ∀ x ∈ l, (ps.getD x.1 noPg).next ≠ (x.1 : Int)
  | [], _, _, x, hx => by simp at hx
  | y :: l, h, hn, x, hx => by
    simp only [List.mem_cons] at hx
    rcases hx with rfl | hx
    · rw [h.1.1]
      cases l with
      | nil => simp only [rightOf]; omega
      | cons z r =>
        simp only [List.map_cons, List.nodup_cons, List.mem_cons, not_or] at hn
        have := hn.1.1
        simp only [rightOf]
        omega
    · simp only [List.map_cons, List.nodup_cons] at hn
      exact lv_next h.2 hn.2 x hx
theorem levels_next {ps : List Pg} {l : List Spot} {a : List Nat} (hL : Levels ps l a) : a.Nodup → ∀ i ∈ a, (ps.getD i noPg).next ≠ (i : Int) := by
  induction hL with
  | done => intro _ i hi; simp at hi
  | more l b a hl hok hrest ih =>
    intro hn i hi
    rw [List.nodup_append] at hn
    rcases List.mem_append.1 hi with hi | hi
    · obtain ⟨x, hx, rfl⟩ := List.mem_map.1 hi
      exact lv_next hok hn.1 x hx
    · exact ih hn.2.1 i hi
theorem pass_next {T : Tr} (hp : Pass T) (i : Nat) (hi : i < T.pages.length) : (T.pages.getD i noPg).next ≠ (i : Int) := by
  obtain ⟨a, hL, hn, ha⟩ := pass_places hp
  exact levels_next hL hn i (ha i hi)
theorem getd_set {ps : List Pg} {i : Nat} (hi : i < ps.length) (q : Pg) : (ps.set i q).getD i noPg = q := by
  simp [List.getD_eq_getElem?_getD, List.getElem?_set, hi]
theorem getd_off {ps : List Pg} {i j : Nat} (h : j ≠ i) (q : Pg) : (ps.set i q).getD j noPg = ps.getD j noPg := by
  simp [List.getD_eq_getElem?_getD, List.getElem?_set, Ne.symm h]
theorem alike_set {ps : List Pg} {i : Nat} (hi : i < ps.length) {q : Pg} (h1 : q.leaf = (ps.getD i noPg).leaf) (h2 : q.keys = (ps.getD i noPg).keys) (h3 : q.kids = (ps.getD i noPg).kids) : AlikeP ps (ps.set i q) := by
  intro j
  by_cases h : j = i
  · subst h
    rw [getd_set hi]
    exact ⟨h1, h2, h3⟩
  · rw [getd_off h]
    exact ⟨rfl, rfl, rfl⟩
/-- The four ways in which a page is spoilt. -/
def spoilP (c : Nat) (i : Nat) (p : Pg) : Pg :=
  if c = 0 then { p with next := i } else if c = 1 then { p with high := 122 :: 122 :: 122 :: p.high } else if c = 2 then { p with leaf := !p.leaf } else { p with kids := p.kids ++ [0] }
def spoilT (c : Nat) (i : Nat) (T : Tr) : Tr := ⟨T.pages.set i (spoilP c i (T.pages.getD i noPg)), T.root⟩
theorem mem_at {ps : List Pg} {i : Nat} (hi : i < ps.length) : ps.getD i noPg ∈ ps := by
  rw [List.getD_eq_getElem?_getD, List.getElem?_eq_getElem hi]
  exact List.getElem_mem hi
theorem spoilt {T : Tr} (hp : Pass T) {i : Nat} (hi : i < T.pages.length) (c : Nat) : ¬ Pass (spoilT c i T) := by
  intro hp'
  have hlen : (spoilT c i T).pages.length = T.pages.length := by simp [spoilT]
  have h1 := (hp.page _ (mem_at hi)).kids
  have hmem := mem_at (ps := (spoilT c i T).pages) (by rw [hlen]; exact hi)
  have hat : (spoilT c i T).pages.getD i noPg = spoilP c i (T.pages.getD i noPg) := getd_set hi _
  rw [hat] at hmem
  have h2 := (hp'.page _ hmem).kids
  by_cases c0 : c = 0
  · subst c0
    have hs := pass_same hp hp' rfl (alike_set hi rfl rfl rfl) i hi
    rw [hat] at hs
    exact pass_next hp i hi hs.2.symm
  · by_cases c1 : c = 1
    · subst c1
      have hs := pass_same hp hp' rfl (alike_set hi rfl rfl rfl) i hi
      rw [hat] at hs
      have := congrArg List.length hs.1
      simp [spoilP] at this
      omega
    · obtain ⟨p, hpp⟩ : ∃ p, p = T.pages.getD i noPg := ⟨_, rfl⟩
      rw [← hpp] at h1 h2
      obtain ⟨lf, ks, cs, hh, nx⟩ := p
      by_cases c2 : c = 2
      · subst c2
        cases lf <;> simp [spoilP] at h1 h2 <;> omega
      · cases lf <;> simp [spoilP, c0, c1, c2] at h1 h2 <;> omega
end Go.Proofs.Ytacpeibkamfibaa
