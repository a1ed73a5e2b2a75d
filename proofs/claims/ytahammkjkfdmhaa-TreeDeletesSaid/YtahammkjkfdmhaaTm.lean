/- Plain trees: what goes up is a key that the page above has not. No program in sight. -/
import Derived.Test.YtahammkjkfdmhaaTc
namespace Go.Proofs.Ytahammkjkfdmhaa
set_option linter.unusedVariables false
set_option linter.unusedSimpArgs false
/-- The kid into which a key goes: what lies within its bounds is none of the keys that part. -/
theorem kw_pick3 {α : Type} {W : Key → Key → α → Prop} (k : Key) : ∀ (l : List (Key × α)) (lo hi : Key) (c : α), kwT W lo hi c l → inB lo hi k →
    ∃ lo' hi', W lo' hi' (pickK k c l) ∧ kl lo' lo = false ∧ inB lo' hi' k ∧ (∀ s, inB lo' hi' s → cntK s (l.map (·.1)) = cntK k (l.map (·.1))) ∧ ∀ s, kl lo' s = true → (hi' = [] ∨ kl s hi' = true) → s ∉ l.map (·.1)
  | [], lo, hi, c, h, hk => ⟨lo, hi, h, bl_irr _, hk, fun s _ => rfl, fun s _ _ => by simp⟩
  | (s, d) :: r, lo, hi, c, h, hk => by
    obtain ⟨h1, h2, h3, h4, h5⟩ := h
    by_cases g : kl k s = true
    · refine ⟨lo, s, by simpa [pickK, g] using h1, bl_irr _, ⟨hk.1, .inr g⟩, fun u hu => ?_, fun u _ hu hm => ?_⟩
      · have : kl u s = true := by
          rcases hu.2 with h0 | h0
          · exact absurd h0 h2.ne
          · exact h0
        simp [cntK, g, this]
      · have hus : kl u s = true := by
          rcases hu with h0 | h0
          · exact absurd h0 h2.ne
          · exact h0
        simp only [List.map_cons, List.mem_cons, List.mem_map] at hm
        rcases hm with rfl | ⟨x, hx, rfl⟩
        · simp [bl_irr] at hus
        · have := kl_not (h4 x hx)
          rw [hus] at this
          cases this
    · have g' : kl k s = false := by simpa using g
      obtain ⟨lo', hi', q1, q2, q3, q4, q5⟩ := kw_pick3 k r s hi d h5 ⟨g', hk.2⟩
      refine ⟨lo', hi', by simpa [pickK, g] using q1, kl_le_trans h3.1 q2, q3, fun u hu => ?_, fun u hl hu hm => ?_⟩
      · have h6 : kl u s = false := kl_le_trans q2 hu.1
        simp [cntK, g', h6, q4 u hu]
      · simp only [List.map_cons, List.mem_cons] at hm
        rcases hm with rfl | hm
        · rw [hl] at q2
          cases q2
        · exact q5 u hl hu hm
/-- What goes up is a key that the page above has not. -/
def UpIn : List Nat → List Pg → Nat → Prop
  | [], _, _ => True
  | a :: r, ps, j => ¬ (ps.getD j noPg).keys.length ≤ 4 → ((ps.getD a noPg).keys.Pairwise fun x y => kl x y = true) ∧ midK ps j ∉ (ps.getD a noPg).keys ∧ UpIn r (putR (splitR ps j) a (midK ps j) (ps.length : Int)) a
theorem upIn_snoc (a : Nat) : ∀ (l : List Nat) (ps : List Pg) (j : Nat), (a :: l).Nodup → a ≠ j → (∀ b ∈ l, b ≠ j ∧ b < ps.length) → a < ps.length → UpIn l ps j →
    (∀ q up rt, upR l ps j = (q, some (up, rt)) → ((ps.getD a noPg).keys.Pairwise fun x y => kl x y = true) ∧ up ∉ (ps.getD a noPg).keys) → l.Nodup → UpIn (l ++ [a]) ps j
  | [], ps, j, hnd, haj, hl, ha, hu, hq, _ => by
    intro h
    have := hq (splitR ps j) (midK ps j) ps.length (by unfold upR; rw [if_neg h]; rfl)
    exact ⟨this.1, this.2, trivial⟩
  | b :: l, ps, j, hnd, haj, hl, ha, hu, hq, hn2 => by
    intro h
    obtain ⟨u1, u2, u3⟩ := hu h
    refine ⟨u1, u2, ?_⟩
    have hbj := (hl b (by simp)).1
    have hab : a ≠ b := fun e => (List.nodup_cons.1 hnd).1 (by rw [e]; simp)
    have hoff : (putR (splitR ps j) b (midK ps j) (ps.length : Int)).getD a noPg = ps.getD a noPg := by rw [putR_off hab, splitR_off haj ha]
    refine upIn_snoc a l _ b (List.nodup_cons.2 ⟨fun hm => (List.nodup_cons.1 hnd).1 (List.mem_cons_of_mem _ hm), (List.nodup_cons.1 hn2).2⟩) hab (fun c hc => ⟨fun e => (List.nodup_cons.1 hn2).1 (by rw [← e]; exact hc), by rw [putR_len, splitR_len]; have := (hl c (by simp [hc])).2; omega⟩) (by rw [putR_len, splitR_len]; omega) u3 (fun q up rt e => ?_) (List.nodup_cons.1 hn2).2
    rw [hoff]
    refine hq q up rt ?_
    rw [← e]
    conv => lhs; unfold upR
    rw [if_neg h]
    rfl
theorem up_in : ∀ (h : Nat) (ps : List Pg) (hi : Key) (rs : List Int) (lo hb : Key) (t : Tb h) (k : Key) (v : Int), wfT h lo hb t → inB lo hb k → okK k → 0 ≤ v → (∀ e ∈ entT h t, e.1 ≠ k) → repT ps h hi rs t → (idsT h t).Nodup → (∀ i ∈ idsT h t, i < ps.length) →
    UpIn (upT h t k) (putR ps (leafT h t k).1 k v) (leafT h t k).1
  | 0, ps, hi, rs, lo, hb, t, k, v, hw, hk, ho, hv, hn, hr, hnd, hlt => trivial
  | h + 1, ps, hi, rs, lo, hb, t, k, v, hw, hk, ho, hv, hn, hr, hnd, hlt => by
    obtain ⟨h1, h2, h3⟩ := hw
    obtain ⟨r1, r2⟩ := hr
    obtain ⟨lo', hi', w1, w2, w3, w4, w5⟩ := kw_pick3 k _ _ _ _ h3 hk
    obtain ⟨hi3, rs2, e2⟩ := repK_pick k _ _ _ _ r2
    have hsub := pick_ids (ids := idsT h) k t.2.2 t.2.1
    have hndc : (idsK (idsT h) t.2.1 t.2.2).Nodup := (List.nodup_cons.1 hnd).2
    have htop : t.1 ∉ idsK (idsT h) t.2.1 t.2.2 := (List.nodup_cons.1 hnd).1
    have hnd' : (idsT h (pickK k t.2.1 t.2.2)).Nodup := hndc.sublist hsub
    have hlt' : ∀ i ∈ idsT h (pickK k t.2.1 t.2.2), i < ps.length := fun i hi => hlt i (List.mem_cons_of_mem _ (hsub.subset hi))
    have hne : ∀ e ∈ entT h (pickK k t.2.1 t.2.2), e.1 ≠ k := by
      intro e he
      refine hn e ?_
      show e ∈ entT h t.2.1 ++ _
      rw [List.mem_append]
      rcases pickK_mem k t.2.2 t.2.1 with hc | ⟨x, hx, hc⟩
      · rw [hc] at he; exact .inl he
      · rw [hc] at he
        exact .inr (List.mem_flatten.2 ⟨_, List.mem_map.2 ⟨x, hx, rfl⟩, he⟩)
    have ih := up_in h ps hi3 rs2 lo' hi' (pickK k t.2.1 t.2.2) k v w1 w3 ho hv hne e2 hnd' hlt'
    have hadd := addP_up h ps hi3 rs2 lo' hi' (pickK k t.2.1 t.2.2) k v w1 w3 ho hv hne e2 hnd' hlt'
    obtain ⟨g1, -⟩ := insT_good h lo' hi' (pickK k t.2.1 t.2.2) k v ps.length w1 w3 ho hv hne
    obtain ⟨-, p2, -, -, -, -⟩ := put_any h ps hi3 rs2 lo' hi' (pickK k t.2.1 t.2.2) k v w1 e2 hnd' hlt'
    obtain ⟨s1, s2, -, -⟩ := up_shape h ps hi3 rs2 lo' hi' (pickK k t.2.1 t.2.2) k w1 e2 hnd'
    have hpg := getD_of r1
    have hlm : (leafT h (pickK k t.2.1 t.2.2) k).1 ∈ idsT h (pickK k t.2.1 t.2.2) := leaf_mem h _ k
    have hnl : t.1 ≠ (leafT h (pickK k t.2.1 t.2.2) k).1 := fun e => htop (hsub.subset (by rw [e]; exact hlm))
    have hnu : t.1 ∉ upT h (pickK k t.2.1 t.2.2) k := fun hm => htop (hsub.subset (s2 _ hm).1)
    have hoff : (putR ps (leafT h (pickK k t.2.1 t.2.2) k).1 k v).getD t.1 noPg = ps.getD t.1 noPg := putR_off hnl
    show UpIn (upT h (pickK k t.2.1 t.2.2) k ++ [t.1]) _ _
    refine upIn_snoc t.1 _ _ _ (List.nodup_cons.2 ⟨hnu, (List.nodup_cons.1 s1).2⟩) hnl (fun b hb => ⟨fun e => (List.nodup_cons.1 s1).1 (by have e' : b = (leafT h (pickK k t.2.1 t.2.2) k).1 := e; rw [← e']; exact hb), by rw [putR_len]; exact hlt' b (s2 b hb).1⟩) (by rw [putR_len]; exact hlt _ (by simp [idsT])) ih (fun q up rt e => ?_) (List.nodup_cons.1 s1).2
    show (((putR ps (leafT h (pickK k t.2.1 t.2.2) k).1 k v).getD t.1 noPg).keys.Pairwise _) ∧ up ∉ ((putR ps (leafT h (pickK k t.2.1 t.2.2) k).1 k v).getD t.1 noPg).keys
    rw [hoff, hpg]
    refine ⟨kw_pair _ _ _ _ h3, ?_⟩
    change upR (upT h (pickK k t.2.1 t.2.2) k) (putR ps (leafT h (pickK k t.2.1 t.2.2) k).1 k v) (leafT h (pickK k t.2.1 t.2.2) k).1 = _ at e
    rw [← hadd] at e
    rw [e] at p2
    unfold Good at g1
    rcases hX : (insT h (pickK k t.2.1 t.2.2) k v ps.length).2 with _ | d
    · rw [hX] at p2; simp at p2
    · rw [hX] at p2 g1
      simp only [Option.map_some, Option.some.injEq, Prod.mk.injEq] at p2
      obtain ⟨rfl, -⟩ := p2
      exact w5 _ g1.2.1 g1.2.2.1
theorem not_in_leaf : ∀ (h : Nat) (lo hi : Key) (t : Tb h) (k : Key), wfT h lo hi t → (∀ e ∈ entT h t, e.1 ≠ k) → k ∉ (leafT h t k).2.map (·.1) := fun h lo hi t k hw hn hm => by
  obtain ⟨⟨a, b⟩, hx, rfl⟩ := List.mem_map.1 hm
  exact hn _ ((leaf_ent h lo hi t a hw b).2 hx) rfl
end Go.Proofs.Ytahammkjkfdmhaa
