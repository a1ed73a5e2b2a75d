/- Plain trees: the pages of a tree pass. No program in sight. -/
import Derived.Test.YthoijpaoegojfaaGv
namespace Go.Proofs.Ythoijpaoegojfaa
set_option linter.unusedVariables false
set_option linter.unusedSimpArgs false
theorem stand_join {ps : List Pg} {h : Nat} {rs : List Int} {b : List Spot} {tb : List (Tb h)} (hb : Stand ps h rs b tb) : ∀ {a : List Spot} {ta : List (Tb h)}, Stand ps h (rsOf h rs tb) a ta → Stand ps h rs (a ++ b) (ta ++ tb)
  | [], ta, ha => by
    have : ta = [] := ha
    subst this
    exact hb
  | x :: a, ta, ha => by
    obtain ⟨t, ts', rfl, h1, h2⟩ := ha
    refine ⟨t, ts' ++ tb, rfl, ⟨h1.1, h1.2.1, ?_⟩, stand_join hb h2⟩
    have e : rsOf h rs (ts' ++ tb) = rsOf h (rsOf h rs tb) ts' := by cases ts' <;> rfl
    rw [e]
    exact h1.2.2
theorem kids_stand {ps : List Pg} {h : Nat} {rs : List Int} : ∀ (l : List (Key × Tb h)) (lo hi : Key) (d : Tb h), kwT (wfT h) lo hi d l → repK (repT ps h) (spine h) hi rs d l →
    Stand ps h rs (kidsB lo hi ((idT h d : Int) :: l.map (fun x => (idT h x.2 : Int))) (l.map (·.1))) (d :: l.map (·.2))
  | [], lo, hi, d, hw, hr => ⟨d, [], rfl, ⟨by simp, hw, hr⟩, rfl⟩
  | (s, e) :: l, lo, hi, d, hw, hr => by
    obtain ⟨h1, h2, h3, h4, h5⟩ := hw
    have ih := kids_stand l s hi e h5 hr.2
    refine ⟨d, e :: l.map (fun x => x.2), rfl, ⟨by simp, h1, hr.1⟩, ?_⟩
    simp only [List.map_cons]
    exact ih
/-- The kids of trees. -/
def kidsF (h : Nat) (us : List (Tb (h + 1))) : List (Tb h) := us.flatMap fun u => u.2.1 :: u.2.2.map (·.2)
theorem rs_next (h : Nat) (us : List (Tb (h + 1))) : (rsOf (h + 1) [] us).tail = rsOf h [] (kidsF h us) := by
  cases us with
  | nil => rfl
  | cons u us => rfl
theorem rs_head {ps : List Pg} {h : Nat} {l : List Spot} {ts : List (Tb h)} (hs : Stand ps h [] l ts) : (rsOf h [] ts).headD (-1) = rightOf l := by
  cases l with
  | nil =>
    have : ts = [] := hs
    subst this
    rfl
  | cons x r => exact stand_head hs (by simp)
theorem kw_first {α : Type} {W : Key → Key → α → Prop} {lo hi : Key} {c : α} {l : List (Key × α)} (h : kwT W lo hi c l) : ∀ k r, l.map (·.1) = k :: r → kl k lo = false := by
  cases l with
  | nil => intro k r e; simp at e
  | cons x l =>
    obtain ⟨s, d⟩ := x
    intro k r e
    simp only [List.map_cons, List.cons.injEq] at e
    rw [← e.1]
    exact h.2.2.1.1
/-- FROM A LEVEL TO THE ONE BELOW. -/
theorem stand_down {ps : List Pg} {h : Nat} : ∀ {l : List Spot} {us : List (Tb (h + 1))}, Stand ps (h + 1) [] l us → okLv ps false l ∧ Stand ps h [] (downL ps l) (kidsF h us) ∧ (idsF (h + 1) us).Perm (l.map (·.1) ++ idsF h (kidsF h us))
  | [], us, hs => by
    have : us = [] := hs
    subst this
    exact ⟨trivial, rfl, by simp [idsF, kidsF]⟩
  | x :: r, us, hs => by
    obtain ⟨t, ts', rfl, ⟨h1, h2, hp, hk⟩, h4⟩ := hs
    obtain ⟨i1, i2, i3⟩ := stand_down h4
    obtain ⟨i, d, l⟩ := t
    have hi : i = x.1 := h1
    obtain ⟨w1, w4, hw⟩ := h2
    simp only at hp hk hw
    have hpd := getD_of hp
    rw [hi] at hpd
    refine ⟨⟨⟨?_, ?_, ?_, ?_⟩, i1⟩, ?_, ?_⟩
    · rw [hpd]; exact rs_head h4
    · rw [hpd]
    · rw [hpd]
    · rw [hpd]; exact kw_first hw
    · have hdown : downL ps (x :: r) = kidsB x.2.1 x.2.2 ((idT h d : Int) :: l.map (fun x => (idT h x.2 : Int))) (l.map (·.1)) ++ downL ps r := by
        show downP ps x ++ _ = _
        unfold downP
        rw [hpd, if_neg (by simp)]
        rfl
      rw [hdown]
      show Stand ps h [] _ ((d :: l.map (·.2)) ++ kidsF h ts')
      refine stand_join i2 ?_
      rw [rs_next] at hk
      exact kids_stand l _ _ d hw hk
    · show (idsT (h + 1) (i, d, l) ++ idsF (h + 1) ts').Perm (x.1 :: r.map (·.1) ++ idsF h ((d :: l.map (·.2)) ++ kidsF h ts'))
      have e : idsT (h + 1) (i, d, l) = x.1 :: idsF h (d :: l.map (·.2)) := by simp [idsT, idsF, Function.comp_def, hi]
      rw [e, idsF_app, List.cons_append, List.cons_append]
      refine List.Perm.cons _ ?_
      refine (i3.append_left _).trans ?_
      rw [← List.append_assoc, ← List.append_assoc]
      exact (List.perm_append_comm).append_right _
theorem leaves_down {ps : List Pg} : ∀ {l : List Spot} {us : List (Tb 0)}, Stand ps 0 [] l us → okLv ps true l ∧ idsF 0 us = l.map (·.1)
  | [], us, hs => by
    have : us = [] := hs
    subst this
    exact ⟨trivial, rfl⟩
  | x :: r, us, hs => by
    obtain ⟨t, ts', rfl, ⟨h1, h2, hp⟩, h4⟩ := hs
    obtain ⟨i1, i2⟩ := leaves_down h4
    have hi : t.1 = x.1 := h1
    have hpd := getD_of (show ps[t.1]? = _ from hp)
    rw [hi] at hpd
    refine ⟨⟨⟨?_, ?_, ?_, ?_⟩, i1⟩, ?_⟩
    · rw [hpd]; exact rs_head h4
    · rw [hpd]
    · rw [hpd]
    · rw [hpd]
      intro k r e
      have hm : k ∈ t.2.map (·.1) := by simp only at e; rw [e]; simp
      obtain ⟨y, hy, rfl⟩ := List.mem_map.1 hm
      exact (h2.2.2 y hy).1.1
    · show [t.1] ++ idsF 0 ts' = _
      rw [i2, hi]
      rfl
theorem stand_levels {ps : List Pg} : ∀ (h : Nat) {l : List Spot} {us : List (Tb h)}, Stand ps h [] l us → l ≠ [] → ∃ a, Levels ps l a ∧ a.Perm (idsF h us)
  | 0, l, us, hs, hne => by
    obtain ⟨h1, h2⟩ := leaves_down hs
    have hd : downL ps l = [] := by
      unfold downL
      rw [List.flatMap_eq_nil_iff]
      intro x hx
      unfold downP
      rw [okLv_leaf h1 x hx, if_pos rfl]
    refine ⟨l.map (·.1) ++ [], .more l true [] hne h1 (by rw [hd]; exact .done), ?_⟩
    rw [List.append_nil, h2]
  | h + 1, l, us, hs, hne => by
    obtain ⟨h1, h2, h3⟩ := stand_down hs
    have hd : downL ps l ≠ [] := by
      intro e
      rw [e] at h2
      have h2' : kidsF h us = [] := h2
      obtain ⟨x, r, rfl⟩ := List.exists_cons_of_ne_nil hne
      obtain ⟨t, ts', rfl, _, _⟩ := hs
      simp [kidsF] at h2'
    obtain ⟨a, a1, a2⟩ := stand_levels h h2 hd
    exact ⟨l.map (·.1) ++ a, .more l false a hne h1 a1, (a2.append_left _).trans h3.symm⟩
theorem levels_kids {ps : List Pg} : ∀ {l : List Spot} {a : List Nat}, Levels ps l a → a.Perm (l.map (·.1) ++ a.flatMap (kidsOf ps)) := by
  intro l a hL
  induction hL with
  | done => exact List.Perm.refl _
  | more l leaf a hne hlv hrest ih =>
    rw [downL_places] at ih
    refine List.Perm.append_left _ ?_
    rw [List.flatMap_append]
    exact ih
theorem spine_len : ∀ (h : Nat) (t : Tb h), (spine h t).length = h + 1
  | 0, t => rfl
  | h + 1, t => by
    have := spine_len h t.2.1
    simp [spine, this]
theorem spine_ids : ∀ (h : Nat) (t : Tb h), ∀ r ∈ spine h t, ∃ i ∈ idsT h t, r = (i : Int)
  | 0, t, r, hr => ⟨t.1, by simp [idsT], by simpa [spine] using hr⟩
  | h + 1, t, r, hr => by
    simp only [spine, List.mem_cons] at hr
    rcases hr with rfl | hr
    · exact ⟨t.1, by simp [idsT], rfl⟩
    · obtain ⟨i, hi, e⟩ := spine_ids h t.2.1 r hr
      exact ⟨i, by simp [idsT, hi], e⟩
/-- Bound and pages to the right go together. -/
def Edge (n h : Nat) (hi : Key) (rs : List Int) : Prop := (hi = [] ∧ rs = []) ∨ (okK hi ∧ rs.length = h + 1 ∧ ∀ r ∈ rs, 0 ≤ r ∧ r < (n : Int))
theorem Edge.page {n h : Nat} {hi : Key} {rs : List Int} (he : Edge n h hi rs) : hi.length ≤ 100 ∧ (-1 ≤ rs.headD (-1) ∧ rs.headD (-1) < (n : Int)) ∧ (rs.headD (-1) = -1 ↔ hi = []) := by
  rcases he with ⟨rfl, rfl⟩ | ⟨h1, h2, h3⟩
  · refine ⟨by simp, ⟨by simp, ?_⟩, by simp⟩
    simp only [List.headD_nil]
    omega
  · cases rs with
    | nil => simp at h2
    | cons r rs =>
      have h4 := h3 r (by simp)
      refine ⟨h1.2, ⟨?_, ?_⟩, ?_⟩
      · simp only [List.headD_cons]; omega
      · simp only [List.headD_cons]; omega
      · simp only [List.headD_cons]
        exact ⟨fun e => absurd e (by omega), fun e => absurd e h1.ne⟩
theorem Edge.down {n h : Nat} {hi : Key} {rs : List Int} (he : Edge n (h + 1) hi rs) : Edge n h hi rs.tail := by
  rcases he with ⟨rfl, rfl⟩ | ⟨h1, h2, h3⟩
  · exact .inl ⟨rfl, rfl⟩
  · exact .inr ⟨h1, by simp [h2], fun r hr => h3 r (List.mem_of_mem_tail hr)⟩
theorem kw_pair {α : Type} {W : Key → Key → α → Prop} : ∀ (l : List (Key × α)) (lo hi : Key) (c : α), kwT W lo hi c l → (l.map (·.1)).Pairwise fun a b => kl a b = true
  | [], _, _, _, _ => by simp
  | (s, d) :: r, lo, hi, c, h => by
    obtain ⟨h1, h2, h3, h4, h5⟩ := h
    rw [List.map_cons, List.pairwise_cons]
    refine ⟨fun k hk => ?_, kw_pair r s hi d h5⟩
    obtain ⟨x, hx, rfl⟩ := List.mem_map.1 hk
    exact h4 x hx
theorem pages_ok {ps : List Pg} : ∀ (h : Nat) (lo hi : Key) (rs : List Int) (t : Tb h), wfT h lo hi t → repT ps h hi rs t → Edge ps.length h hi rs → ∀ i ∈ idsT h t, ∃ p, ps[i]? = some p ∧ OkPg p ps.length
  | 0, lo, hi, rs, t, hw, hr, he, i, hi' => by
    have hit : i = t.1 := by simpa [idsT] using hi'
    subst hit
    obtain ⟨e1, e2, e3⟩ := he.page
    obtain ⟨w1, w2, w3⟩ := hw
    refine ⟨_, hr, ⟨by simpa using w1, e1, e2, e3, by simp, fun h => absurd h (by simp), fun k hk => ?_, ?_, fun c hc => ?_⟩⟩
    · obtain ⟨x, hx, rfl⟩ := List.mem_map.1 hk
      exact ⟨(w3 x hx).2.1, (w3 x hx).1.2⟩
    · simp only
      rw [List.pairwise_map]
      exact w2
    · obtain ⟨x, hx, rfl⟩ := List.mem_map.1 hc
      exact ⟨(w3 x hx).2.2, fun h => absurd h (by simp)⟩
  | h + 1, lo, hi, rs, t, hw, hr, he, i, hi' => by
    obtain ⟨w1, w4, hw⟩ := hw
    obtain ⟨hp, hk⟩ := hr
    obtain ⟨e1, e2, e3⟩ := he.page
    have hkids : ∀ (l : List (Key × Tb h)) (lo : Key) (c : Tb h), kwT (wfT h) lo hi c l → repK (repT ps h) (spine h) hi rs.tail c l → ∀ i ∈ idsK (idsT h) c l, ∃ p, ps[i]? = some p ∧ OkPg p ps.length := by
      intro l
      induction l with
      | nil =>
        intro lo c hw hr i hi'
        exact pages_ok h lo hi rs.tail c hw hr he.down i (by simpa [idsK] using hi')
      | cons x r ih =>
        obtain ⟨s, d⟩ := x
        intro lo c hw hr i hi'
        obtain ⟨h1, h2, h3, h4, h5⟩ := hw
        have hsplit : idsK (idsT h) c ((s, d) :: r) = idsT h c ++ idsK (idsT h) d r := by simp [idsK]
        rw [hsplit, List.mem_append] at hi'
        rcases hi' with q | q
        · refine pages_ok h lo s (spine h d) c h1 hr.1 (.inr ⟨h2, spine_len h d, fun v hv => ?_⟩) i q
          obtain ⟨j, hj, rfl⟩ := spine_ids h d v hv
          have hd : ∃ hi' rs', repT ps h hi' rs' d := by
            have := hr.2
            cases r with
            | nil => exact ⟨_, _, this⟩
            | cons y r => exact ⟨_, _, this.1⟩
          obtain ⟨hi1, rs1, hd⟩ := hd
          have := repT_ids h hi1 rs1 d hd j hj
          omega
        · exact ih s d h5 hr.2 i q
    have hids : i ∈ t.1 :: idsK (idsT h) t.2.1 t.2.2 := hi'
    rw [List.mem_cons] at hids
    rcases hids with rfl | hids
    · have hrise := kw_rise t.2.2 lo hi t.2.1 hw
      obtain ⟨k1, k2⟩ := repK_all (q := fun c => idT h c < ps.length) (fun hi rs c hr => repT_lt h hi rs c hr) t.2.2 hi rs.tail t.2.1 hk
      refine ⟨_, hp, ⟨by simpa using w4, e1, e2, e3, by simp, fun _ => by simpa using w1, fun k hk => ?_, kw_pair _ _ _ _ hw, fun c hc => ?_⟩⟩
      · obtain ⟨x, hx, rfl⟩ := List.mem_map.1 hk
        exact ⟨(hrise x hx).2, (hrise x hx).1.2⟩
      · simp only [List.mem_cons] at hc
        rcases hc with rfl | hc
        · exact ⟨by omega, fun _ => by omega⟩
        · obtain ⟨x, hx, rfl⟩ := List.mem_map.1 hc
          have := k2 x hx
          exact ⟨by omega, fun _ => by omega⟩
    · exact hkids t.2.2 lo t.2.1 hw hk i hids
/-- THE PAGES OF A TREE PASS. -/
theorem reps_pass {T : Tr} {h : Nat} {t : Tb h} (hr : Reps T h t) : Pass T := by
  have hnd := hr.nodup
  have hlt := hr.lt
  obtain ⟨hroot, hrep, hwf, hids⟩ := hr
  have hi := hlt _ (idT_mem h t)
  have hs : Stand T.pages h [] [(T.root.toNat, [], [])] [t] := ⟨t, [], rfl, ⟨by rw [hroot, Int.toNat_natCast], hwf, hrep⟩, rfl⟩
  obtain ⟨a, a1, a2⟩ := stand_levels h hs (by simp)
  have e : idsF h [t] = idsT h t := by simp [idsF]
  rw [e] at a2
  have hrg := a2.trans hids
  refine ⟨⟨by omega, by omega⟩, fun p hp => ?_, ⟨a, a1, by simpa using hrg.length_eq⟩, ?_⟩
  · obtain ⟨j, hj, rfl⟩ := List.mem_iff_getElem.1 hp
    have hm : j ∈ idsT h t := hids.symm.subset (List.mem_range.2 hj)
    obtain ⟨p, hp1, hp2⟩ := pages_ok h [] [] [] t hwf hrep (.inl ⟨rfl, rfl⟩) j hm
    rw [List.getElem?_eq_getElem hj] at hp1
    cases hp1
    exact hp2
  · rw [← all_kids]
    have hk := levels_kids a1
    have h1 : (T.root.toNat :: a.flatMap (kidsOf T.pages)).Perm (List.range T.pages.length) := by
      refine List.Perm.trans ?_ hrg
      simpa using hk.symm
    have h2 : (T.root.toNat :: (List.range T.pages.length).flatMap (kidsOf T.pages)).Perm (T.root.toNat :: a.flatMap (kidsOf T.pages)) := (hrg.symm.flatMap_right _).cons _
    exact (h2.trans h1).nodup_iff.2 List.nodup_range
end Go.Proofs.Ythoijpaoegojfaa
