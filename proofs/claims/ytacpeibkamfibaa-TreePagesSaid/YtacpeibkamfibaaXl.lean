/- Plain: the way down to the first leaf, and along the leaves. No program in sight. -/
import Derived.Test.YtacpeibkamfibaaGy
import Derived.Test.YtacpeibkamfibaaTs
namespace Go.Proofs.Ytacpeibkamfibaa
set_option linter.unusedVariables false
set_option linter.unusedSimpArgs false
theorem kw_one {α : Type} {W : Key → Key → α → Prop} {lo hi : Key} {c : α} {l : List (Key × α)} (h : kwT W lo hi c l) : ∃ lo' hi', W lo' hi' c := by
  rcases l with _ | ⟨⟨s, d⟩, r⟩
  · exact ⟨lo, hi, h⟩
  · exact ⟨lo, s, h.1⟩
theorem repK_one {α : Type} {R : Key → List Int → α → Prop} {sp : α → List Int} {hi : Key} {rs : List Int} {c : α} {l : List (Key × α)} (h : repK R sp hi rs c l) : ∃ hi' rs', R hi' rs' c := by
  rcases l with _ | ⟨⟨s, d⟩, r⟩
  · exact ⟨hi, rs, h⟩
  · exact ⟨s, sp d, h.1⟩
/-- A tree of some height has many pages. -/
theorem pow_ids : ∀ (h : Nat) (lo hi : Key) (t : Tb h), wfT h lo hi t → 2 ^ (h + 1) ≤ (idsT h t).length + 1
  | 0, lo, hi, t, _ => by simp [idsT]
  | h + 1, lo, hi, t, hw => by
    obtain ⟨h1, h2, h3⟩ := hw
    obtain ⟨i, c, l⟩ := t
    simp only at h1 h2 h3
    rcases l with _ | ⟨⟨s, d⟩, r⟩
    · simp at h1
    · obtain ⟨g1, g2, g3, g4, g5⟩ := h3
      obtain ⟨lo', hi', g6⟩ := kw_one g5
      have a1 := pow_ids h _ _ c g1
      have a2 := pow_ids h _ _ d g6
      show 2 ^ (h + 1 + 1) ≤ (i :: (idsT h c ++ (((s, d) :: r).map fun x => idsT h x.2).flatten)).length + 1
      simp only [List.length_cons, List.length_append, List.map_cons, List.flatten_cons]
      rw [Nat.pow_succ]
      omega
theorem leaves_ne : ∀ (h : Nat) (t : Tb h), leavesT h t ≠ []
  | 0, t => by simp [leavesT]
  | h + 1, t => by
    have := leaves_ne h t.2.1
    simp only [leavesT]
    intro e
    exact this (List.append_eq_nil_iff.1 e).1
theorem firstL_ne {a : List (Tb 0)} (h : a ≠ []) (x y : Int) : firstL x a = firstL y a := by
  rcases a with _ | ⟨t, r⟩
  · exact absurd rfl h
  · rfl
/-- So many steps down, always to the first kid. -/
def Down (T : Tr) (h : Nat) (t : Tb h) (n : Nat) (i : Int) : Prop :=
  ∃ (h' : Nat) (t' : Tb h') (hi : Key) (rs : List Int) (lo hb : Key), n + h' = h ∧ repT T.pages h' hi rs t' ∧ wfT h' lo hb t' ∧ i = (idT h' t' : Int) ∧ firstL (-1) (leavesT h t) = firstL (-1) (leavesT h' t')
theorem down_start {T : Tr} {h : Nat} {t : Tb h} (hr : Reps T h t) : Down T h t 0 T.root := ⟨h, t, [], [], [], [], by omega, hr.2.1, hr.2.2.1, hr.1, rfl⟩
theorem down_step {T : Tr} {h : Nat} {t : Tb h} {n : Nat} {i : Int} (hd : Down T h t n i) : ∃ p : Pg, (∃ j : Nat, i = (j : Int) ∧ T.pages[j]? = some p) ∧
    ((p.leaf = true ∧ i = firstL (-1) (leavesT h t)) ∨ (p.leaf = false ∧ n < h ∧ ∃ c r, p.kids = c :: r ∧ Down T h t (n + 1) c)) := by
  obtain ⟨h', t', hi, rs, lo, hb, h1, h2, h3, h4, h5⟩ := hd
  rcases h' with _ | h'
  · refine ⟨_, ⟨t'.1, h4, h2⟩, .inl ⟨rfl, ?_⟩⟩
    rw [h5, h4]
    rfl
  · obtain ⟨g1, g2⟩ := h2
    obtain ⟨hi', rs', g3⟩ := repK_one g2
    obtain ⟨lo', hb', g4⟩ := kw_one h3.2.2
    refine ⟨_, ⟨t'.1, h4, g1⟩, .inr ⟨rfl, by omega, _, _, rfl, h', t'.2.1, hi', rs', lo', hb', by omega, g3, g4, rfl, ?_⟩⟩
    rw [h5]
    show firstL (-1) (leavesT h' t'.2.1 ++ _) = _
    rw [firstL_app]
    exact firstL_ne (leaves_ne _ _) _ _
theorem down_few {T : Tr} {h : Nat} {t : Tb h} (hr : Reps T h t) (hN : T.pages.length ≤ 4000) : h ≤ 12 := by
  have h1 := pow_ids h [] [] t hr.2.2.1
  rw [hr.2.2.2.length_eq, List.length_range] at h1
  by_cases hh : h ≤ 12
  · exact hh
  · have h2 : 2 ^ 14 ≤ 2 ^ (h + 1) := Nat.pow_le_pow_right (by omega) (by omega)
    omega
/-- The last key of entries; none: no bytes. -/
def lastK (l : List (Key × Int)) : Key := (l.getLast?.map (·.1)).getD []
theorem last_app {a : List (Key × Int)} {e : Key × Int} : lastK (a ++ [e]) = e.1 := by simp [lastK]
theorem last_lt {a : List (Key × Int)} {e : Key × Int} (hr : Rise (a ++ [e])) (ho : okK e.1) : kl (lastK a) e.1 = true := by
  unfold lastK
  rcases hl : a.getLast? with _ | x
  · simp only [Option.map_none, Option.getD_none]
    rcases hk : e.1 with _ | ⟨b, r⟩
    · rw [hk] at ho; simp [okK] at ho
    · rfl
  · have hm : x ∈ a := List.mem_of_getLast? hl
    exact (List.pairwise_append.1 hr).2.2 x hm e (by simp)
/-- One leaf behind another. -/
structure Walk (T : Tr) (ls : List (Tb 0)) (l : List (Key × Int)) : Prop where
  ents : entL ls = l
  rise : Rise l
  few : ls.length ≤ T.pages.length
  leaf : ∀ (j : Nat) (hj : j < ls.length), ∃ hi, (ls[j]).1 < T.pages.length ∧ (ls[j]).2.length ≤ 4 ∧ (∀ e ∈ (ls[j]).2, okK e.1) ∧ T.pages[(ls[j]).1]? = some ⟨true, (ls[j]).2.map (·.1), (ls[j]).2.map (·.2), hi, firstL (-1) (ls.drop (j + 1))⟩
theorem walk_of {T : Tr} {h : Nat} {t : Tb h} (hr : Reps T h t) : Walk T (leavesT h t) (entT h t) := by
  have hch := leaves_chain h [] [] t hr.2.1
  have e0 : ([] : List Int).getD h (-1) = -1 := by simp
  rw [e0] at hch
  have h1 := (leaves_sub h t).length_le
  have h2 := hr.2.2.2.length_eq
  rw [List.length_map] at h1
  rw [List.length_range] at h2
  refine ⟨leaves_ent h t, ent_rise h [] [] t hr.2.2.1, by omega, fun j hj => ?_⟩
  have hs : leavesT h t = (leavesT h t).take j ++ (leavesT h t)[j] :: (leavesT h t).drop (j + 1) := by rw [← List.drop_eq_getElem_cons hj, List.take_append_drop]
  rw [hs] at hch
  obtain ⟨hi, hp⟩ := (chain_app.1 hch).2.1
  have hlt := (List.getElem?_eq_some_iff.1 hp).1
  have hok := (reps_pass hr).page _ (getD_mem hlt)
  rw [getD_of hp] at hok
  exact ⟨hi, hlt, by simpa using hok.keys, fun e he => (hok.okk e.1 (List.mem_map_of_mem he)).1, hp⟩
theorem Walk.next {T : Tr} {ls : List (Tb 0)} {l : List (Key × Int)} (hw : Walk T ls l) {j x : Nat} (hj : j < ls.length) (hx : x < (ls[j]).2.length) : kl (lastK (entL (ls.take j) ++ (ls[j]).2.take x)) ((ls[j]).2[x]).1 = true := by
  obtain ⟨hi, h1, h2, h3, h4⟩ := hw.leaf j hj
  refine last_lt ?_ (h3 _ (List.getElem_mem hx))
  have hs : ls = ls.take j ++ ls[j] :: ls.drop (j + 1) := by rw [← List.drop_eq_getElem_cons hj, List.take_append_drop]
  have he : l = entL (ls.take j) ++ ((ls[j]).2 ++ entL (ls.drop (j + 1))) := by
    rw [← hw.ents]
    conv => lhs; rw [hs]
    rw [entL_app]
    rfl
  have hr := hw.rise
  rw [he] at hr
  refine List.Pairwise.sublist ?_ hr
  rw [List.append_assoc]
  refine List.Sublist.append (List.Sublist.refl _) ?_
  refine List.Sublist.trans ?_ (List.sublist_append_left _ _)
  rw [← List.take_succ_eq_append_getElem hx]
  exact List.take_sublist _ _
theorem Walk.take {ls : List (Tb 0)} {j : Nat} (hj : j < ls.length) : entL (ls.take (j + 1)) = entL (ls.take j) ++ (ls[j]).2 := by
  rw [List.take_succ_eq_append_getElem hj, entL_app]
  simp [entL]
end Go.Proofs.Ytacpeibkamfibaa
