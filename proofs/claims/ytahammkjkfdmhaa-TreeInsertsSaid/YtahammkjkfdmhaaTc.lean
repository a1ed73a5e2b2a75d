/- Plain trees: putting in, seen from the leaf up: a page is put into, and split while it is too full. No program in sight. -/
import Derived.Test.YtahammkjkfdmhaaGy
namespace Go.Proofs.Ytahammkjkfdmhaa
set_option linter.unusedVariables false
set_option linter.unusedSimpArgs false
/-- The kid into which a key goes, with its bounds: all within them go there. -/
theorem kw_pick2 {α : Type} {W : Key → Key → α → Prop} (k : Key) : ∀ (l : List (Key × α)) (lo hi : Key) (c : α), kwT W lo hi c l → inB lo hi k →
    ∃ lo' hi', W lo' hi' (pickK k c l) ∧ kl lo' lo = false ∧ inB lo' hi' k ∧ ∀ s, inB lo' hi' s → cntK s (l.map (·.1)) = cntK k (l.map (·.1))
  | [], lo, hi, c, h, hk => ⟨lo, hi, h, bl_irr _, hk, fun s _ => rfl⟩
  | (s, d) :: r, lo, hi, c, h, hk => by
    obtain ⟨h1, h2, h3, h4, h5⟩ := h
    by_cases g : kl k s = true
    · refine ⟨lo, s, by simpa [pickK, g] using h1, bl_irr _, ⟨hk.1, .inr g⟩, fun u hu => ?_⟩
      have : kl u s = true := by
        rcases hu.2 with h0 | h0
        · exact absurd h0 h2.ne
        · exact h0
      simp [cntK, g, this]
    · have g' : kl k s = false := by simpa using g
      obtain ⟨lo', hi', q1, q2, q3, q4⟩ := kw_pick2 k r s hi d h5 ⟨g', hk.2⟩
      refine ⟨lo', hi', by simpa [pickK, g] using q1, kl_le_trans h3.1 q2, q3, fun u hu => ?_⟩
      have h6 : kl u s = false := kl_le_trans q2 hu.1
      simp [cntK, g', h6, q4 u hu]
/-- A page into which a key and a kid are put, too full as it may be; its two parts. -/
def putR (ps : List Pg) (j : Nat) (k : Key) (kid : Int) : List Pg :=
  ps.set j ⟨(ps.getD j noPg).leaf, insAt (ps.getD j noPg).keys (cntK k (ps.getD j noPg).keys) k, insAt (ps.getD j noPg).kids (cntK k (ps.getD j noPg).keys + if (ps.getD j noPg).leaf then 0 else 1) kid, (ps.getD j noPg).high, (ps.getD j noPg).next⟩
def leftP (p : Pg) (n : Nat) : Pg := ⟨p.leaf, p.keys.take 2, p.kids.take (if p.leaf then 2 else 3), p.keys.getD 2 [], (n : Int)⟩
def rightP (p : Pg) : Pg := ⟨p.leaf, p.keys.drop (if p.leaf then 2 else 3), p.kids.drop (if p.leaf then 2 else 3), p.high, p.next⟩
def splitR (ps : List Pg) (j : Nat) : List Pg := ps.set j (leftP (ps.getD j noPg) ps.length) ++ [rightP (ps.getD j noPg)]
/-- What is too full is split, from a page on up. -/
def upR : List Nat → List Pg → Nat → List Pg × Option (Key × Nat)
  | [], ps, j => if (ps.getD j noPg).keys.length ≤ 4 then (ps, none) else (splitR ps j, some ((ps.getD j noPg).keys.getD 2 [], ps.length))
  | a :: r, ps, j => if (ps.getD j noPg).keys.length ≤ 4 then (ps, none) else upR r (putR (splitR ps j) a ((ps.getD j noPg).keys.getD 2 []) (ps.length : Int)) a
theorem upR_snoc (a : Nat) : ∀ (l : List Nat) (ps : List Pg) (j : Nat), upR (l ++ [a]) ps j = match upR l ps j with | (q, none) => (q, none) | (q, some (up, rt)) => upR [] (putR q a up (rt : Int)) a
  | [], ps, j => by
    show (if (ps.getD j noPg).keys.length ≤ 4 then (ps, none) else upR [] (putR (splitR ps j) a ((ps.getD j noPg).keys.getD 2 []) (ps.length : Int)) a) = match (if (ps.getD j noPg).keys.length ≤ 4 then (ps, none) else (splitR ps j, some ((ps.getD j noPg).keys.getD 2 [], ps.length))) with | (q, none) => (q, none) | (q, some (up, rt)) => upR [] (putR q a up (rt : Int)) a
    by_cases h : (ps.getD j noPg).keys.length ≤ 4
    · simp only [h, if_true]
    · simp only [h, if_false]
  | b :: l, ps, j => by
    show (if (ps.getD j noPg).keys.length ≤ 4 then (ps, none) else upR (l ++ [a]) (putR (splitR ps j) b ((ps.getD j noPg).keys.getD 2 []) (ps.length : Int)) b) = match (if (ps.getD j noPg).keys.length ≤ 4 then (ps, none) else upR l (putR (splitR ps j) b ((ps.getD j noPg).keys.getD 2 []) (ps.length : Int)) b) with | (q, none) => (q, none) | (q, some (up, rt)) => upR [] (putR q a up (rt : Int)) a
    by_cases h : (ps.getD j noPg).keys.length ≤ 4
    · simp only [h, if_true]
    · simp only [h, if_false]
      exact upR_snoc a l _ _
theorem getD_set_self {ps : List Pg} {i : Nat} {p : Pg} (h : i < ps.length) : (ps.set i p).getD i noPg = p := getD_of (set_at h)
theorem getD_set_off {ps : List Pg} {i j : Nat} {p : Pg} (h : j ≠ i) : (ps.set i p).getD j noPg = ps.getD j noPg := by simp only [List.getD, set_off h]
theorem putR_len (ps : List Pg) (j : Nat) (k : Key) (kid : Int) : (putR ps j k kid).length = ps.length := by simp [putR]
theorem splitR_len (ps : List Pg) (j : Nat) : (splitR ps j).length = ps.length + 1 := by simp [splitR]
theorem upR_put {ps : List Pg} {i : Nat} (k : Key) (kid : Int) (h : i < ps.length) :
    upR [] (putR ps i k kid) i = putP ps i (ps.getD i noPg) (insAt (ps.getD i noPg).keys (cntK k (ps.getD i noPg).keys) k) (insAt (ps.getD i noPg).kids (cntK k (ps.getD i noPg).keys + if (ps.getD i noPg).leaf then 0 else 1) kid) := by
  obtain ⟨p, hp⟩ : ∃ p, p = ps.getD i noPg := ⟨_, rfl⟩
  unfold upR putP
  have e : (putR ps i k kid).getD i noPg = ⟨p.leaf, insAt p.keys (cntK k p.keys) k, insAt p.kids (cntK k p.keys + if p.leaf then 0 else 1) kid, p.high, p.next⟩ := by
    unfold putR
    rw [getD_set_self h, hp]
  rw [e, ← hp]
  by_cases q : (insAt p.keys (cntK k p.keys) k).length ≤ 4
  · simp only [q, if_true]
    unfold putR
    rw [← hp]
  · simp only [q, if_false]
    unfold splitR
    rw [e, putR_len]
    unfold putR
    rw [← hp, List.set_set]
    rfl
/-- The pages above a key's leaf, the nearest first. -/
def upT : (h : Nat) → Tb h → Key → List Nat
  | 0, _, _ => []
  | h + 1, t, k => upT h (pickK k t.2.1 t.2.2) k ++ [t.1]
theorem upT_len : ∀ (h : Nat) (t : Tb h) (k : Key), (upT h t k).length = h
  | 0, _, _ => rfl
  | h + 1, t, k => by simp [upT, upT_len h]
/-- Putting in from the root down is putting in from the leaf up. -/
theorem addP_up : ∀ (h : Nat) (ps : List Pg) (hi : Key) (rs : List Int) (lo hb : Key) (t : Tb h) (k : Key) (v : Int), wfT h lo hb t → inB lo hb k → okK k → 0 ≤ v → (∀ e ∈ entT h t, e.1 ≠ k) → repT ps h hi rs t → (idsT h t).Nodup → (∀ i ∈ idsT h t, i < ps.length) →
    addP h ps (idT h t) k v = upR (upT h t k) (putR ps (leafT h t k).1 k v) (leafT h t k).1
  | 0, ps, hi, rs, lo, hb, t, k, v, hw, hk, ho, hv, hn, hr, hnd, hlt => by
    have hp : ps[t.1]? = some ⟨true, t.2.map (·.1), t.2.map (·.2), hi, rs.headD (-1)⟩ := hr
    show putP _ _ _ _ _ = upR [] (putR ps t.1 k v) t.1
    rw [upR_put k v (hlt _ (by simp [idsT]))]
    have : (ps.getD t.1 noPg).leaf = true := by rw [getD_of hp]
    rw [this]
    rfl
  | h + 1, ps, hi, rs, lo, hb, t, k, v, hw, hk, ho, hv, hn, hr, hnd, hlt => by
    obtain ⟨h1, h2, h3⟩ := hw
    obtain ⟨r1, r2⟩ := hr
    obtain ⟨lo', hi', w1, w2, w3, w4⟩ := kw_pick2 k _ _ _ _ h3 hk
    obtain ⟨hi3, rs2, e2⟩ := repK_pick k _ _ _ _ r2
    have hsub := pick_ids (ids := idsT h) k t.2.2 t.2.1
    have hndc : (idsK (idsT h) t.2.1 t.2.2).Nodup := (List.nodup_cons.1 hnd).2
    have htop : t.1 ∉ idsK (idsT h) t.2.1 t.2.2 := (List.nodup_cons.1 hnd).1
    have hnd' : (idsT h (pickK k t.2.1 t.2.2)).Nodup := hndc.sublist hsub
    have hlt' : ∀ i ∈ idsT h (pickK k t.2.1 t.2.2), i < ps.length := fun i hi => hlt i (List.mem_cons_of_mem _ (hsub.subset hi))
    have hne : ∀ e ∈ entT h (pickK k t.2.1 t.2.2), e.1 ≠ k := by
      intro e he
      refine hn e ?_
      show e ∈ entT h t.2.1 ++ _
      rw [List.mem_append]
      rcases pickK_mem k t.2.2 t.2.1 with hc | ⟨x, hx, hc⟩
      · rw [hc] at he; exact .inl he
      · rw [hc] at he
        exact .inr (List.mem_flatten.2 ⟨_, List.mem_map.2 ⟨x, hx, rfl⟩, he⟩)
    have ih := addP_up h ps hi3 rs2 lo' hi' (pickK k t.2.1 t.2.2) k v w1 w3 ho hv hne e2 hnd' hlt'
    obtain ⟨g1, -⟩ := insT_good h lo' hi' (pickK k t.2.1 t.2.2) k v ps.length w1 w3 ho hv hne
    obtain ⟨-, p2, p3, -, -, -⟩ := put_any h ps hi3 rs2 lo' hi' (pickK k t.2.1 t.2.2) k v w1 e2 hnd' hlt'
    have hpg := getD_of r1
    have hq : (ps.getD t.1 noPg).kids.getD (cntK k (ps.getD t.1 noPg).keys) 0 = (idT h (pickK k t.2.1 t.2.2) : Int) := by
      rw [hpg]
      exact pickK_at k (fun c => (idT h c : Int)) t.2.2 t.2.1
    show upP (addP h ps ((ps.getD t.1 noPg).kids.getD (cntK k (ps.getD t.1 noPg).keys) 0).toNat k v) t.1 (ps.getD t.1 noPg) (cntK k (ps.getD t.1 noPg).keys) = upR (upT h (pickK k t.2.1 t.2.2) k ++ [t.1]) (putR ps (leafT h (pickK k t.2.1 t.2.2) k).1 k v) (leafT h (pickK k t.2.1 t.2.2) k).1
    rw [hq, Int.toNat_natCast, upR_snoc, ← ih]
    have hlt0 : t.1 < ps.length := hlt _ (by simp [idsT])
    have hold := p3 t.1 hlt0 (fun hm => htop (hsub.subset hm))
    have hlen : ps.length ≤ (addP h ps (idT h (pickK k t.2.1 t.2.2)) k v).1.length := (put_any h ps hi3 rs2 lo' hi' (pickK k t.2.1 t.2.2) k v w1 e2 hnd' hlt').2.2.2.1
    rcases hY : addP h ps (idT h (pickK k t.2.1 t.2.2)) k v with ⟨q, _ | ⟨up, rt⟩⟩
    · rfl
    · rw [hY] at p2 hold hlen
      simp only at p2 hold hlen
      show putP q t.1 _ _ _ = upR [] (putR q t.1 up (rt : Int)) t.1
      rw [upR_put up (rt : Int) (by omega)]
      have hqp : q.getD t.1 noPg = ps.getD t.1 noPg := by simp only [List.getD, hold]
      rw [hqp]
      have hcn : cntK up (ps.getD t.1 noPg).keys = cntK k (ps.getD t.1 noPg).keys := by
        rw [hpg]
        refine w4 up ?_
        unfold Good at g1
        rcases hX : (insT h (pickK k t.2.1 t.2.2) k v ps.length).2 with _ | d
        · rw [hX] at p2; simp at p2
        · rw [hX] at p2 g1
          simp only [Option.map_some, Option.some.injEq, Prod.mk.injEq] at p2
          obtain ⟨rfl, -⟩ := p2
          exact ⟨kl_not g1.2.1, g1.2.2.1⟩
      have hlf : (ps.getD t.1 noPg).leaf = false := by rw [hpg]
      rw [hcn, hlf]
      rfl
/-- Pages that are small, one of them too full perhaps. -/
structure Fit (p : Pg) : Prop where
  key : ∀ k ∈ p.keys, k.length ≤ 100
  high : p.high.length ≤ 100
  ks : p.keys.length ≤ 5
  kd : p.kids.length ≤ 6
/-- A page that may be too full, and those above it. -/
structure UpOk (ps : List Pg) (anc : List Nat) (j : Nat) : Prop where
  lt : j < ps.length
  ks : (ps.getD j noPg).keys.length ≤ 5
  kd : (ps.getD j noPg).kids.length = (ps.getD j noPg).keys.length + if (ps.getD j noPg).leaf then 0 else 1
  nd : (j :: anc).Nodup
  up : ∀ a ∈ anc, a < ps.length ∧ (ps.getD a noPg).leaf = false ∧ (ps.getD a noPg).keys.length ≤ 4 ∧ (ps.getD a noPg).kids.length = (ps.getD a noPg).keys.length + 1
  fit : ∀ p ∈ ps, Fit p
theorem mem_insAt {α : Type} {l : List α} {i : Nat} {x y : α} (h : y ∈ insAt l i x) : y = x ∨ y ∈ l := by
  unfold insAt at h
  rw [List.mem_append, List.mem_cons] at h
  rcases h with h | h | h
  · exact .inr (List.mem_of_mem_take h)
  · exact .inl h
  · exact .inr (List.mem_of_mem_drop h)
theorem getD_mem {ps : List Pg} {j : Nat} (h : j < ps.length) : ps.getD j noPg ∈ ps := by
  simp only [List.getD, List.getElem?_eq_getElem h, Option.getD_some]
  exact List.getElem_mem h
theorem putR_get {ps : List Pg} {j : Nat} {k : Key} {kid : Int} (h : j < ps.length) : (putR ps j k kid).getD j noPg = ⟨(ps.getD j noPg).leaf, insAt (ps.getD j noPg).keys (cntK k (ps.getD j noPg).keys) k, insAt (ps.getD j noPg).kids (cntK k (ps.getD j noPg).keys + if (ps.getD j noPg).leaf then 0 else 1) kid, (ps.getD j noPg).high, (ps.getD j noPg).next⟩ := getD_set_self h
theorem putR_off {ps : List Pg} {i j : Nat} {k : Key} {kid : Int} (h : i ≠ j) : (putR ps j k kid).getD i noPg = ps.getD i noPg := getD_set_off h
theorem splitR_off {ps : List Pg} {i j : Nat} (h : i ≠ j) (hi : i < ps.length) : (splitR ps j).getD i noPg = ps.getD i noPg := by
  unfold splitR
  simp only [List.getD]
  rw [List.getElem?_append_left (by simpa using hi), set_off h]
theorem mid_len {p : Pg} (h : Fit p) : (p.keys.getD 2 []).length ≤ 100 := by
  obtain ⟨l, hl⟩ : ∃ l, l = p.keys := ⟨_, rfl⟩
  have hk := h.key
  rw [← hl] at hk ⊢
  rcases hx : l[2]? with _ | x
  · simp [List.getD, hx]
  · simp only [List.getD, hx, Option.getD_some]
    exact hk x (List.mem_of_getElem? hx)
theorem putR_fit {ps : List Pg} {j : Nat} {k : Key} {kid : Int} (hf : ∀ p ∈ ps, Fit p) (hj : j < ps.length) (hk : k.length ≤ 100) (h4 : (ps.getD j noPg).keys.length ≤ 4) (h5 : (ps.getD j noPg).kids.length ≤ 5) : ∀ p ∈ putR ps j k kid, Fit p := by
  intro p hp
  have hq := hf _ (getD_mem hj)
  unfold putR at hp
  rcases List.mem_or_eq_of_mem_set hp with hp | rfl
  · exact hf p hp
  · refine ⟨fun x hx => ?_, hq.high, by simp only [insAt_len]; omega, by simp only [insAt_len]; omega⟩
    rcases mem_insAt hx with rfl | hx
    · exact hk
    · exact hq.key x hx
theorem splitR_fit {ps : List Pg} {j : Nat} (hf : ∀ p ∈ ps, Fit p) (hj : j < ps.length) : ∀ p ∈ splitR ps j, Fit p := by
  intro p hp
  have hq := hf _ (getD_mem hj)
  unfold splitR at hp
  rw [List.mem_append, List.mem_singleton] at hp
  rcases hp with hp | rfl
  · rcases List.mem_or_eq_of_mem_set hp with hp | rfl
    · exact hf p hp
    · refine ⟨fun x hx => hq.key x (List.mem_of_mem_take hx), ?_, by simp only [leftP, List.length_take]; omega, ?_⟩
      · exact mid_len hq
      · have := hq.kd
        simp only [leftP, List.length_take]
        omega
  · have h1 := hq.ks
    have h2 := hq.kd
    refine ⟨fun x hx => hq.key x (List.mem_of_mem_drop hx), hq.high, by simp only [rightP, List.length_drop]; omega, by simp only [rightP, List.length_drop]; omega⟩
/-- The key that goes up. -/
def midK (ps : List Pg) (j : Nat) : Key := (ps.getD j noPg).keys.getD 2 []
theorem midK_fit {ps : List Pg} {j : Nat} (hf : ∀ p ∈ ps, Fit p) (hj : j < ps.length) : (midK ps j).length ≤ 100 := by
  exact mid_len (hf _ (getD_mem hj))
theorem UpOk.step {ps : List Pg} {a j : Nat} {r : List Nat} (h : UpOk ps (a :: r) j) : UpOk (putR (splitR ps j) a (midK ps j) (ps.length : Int)) r a := by
  obtain ⟨hlt, hks, hkd, hnd, hup, hfit⟩ := h
  have hna : a ≠ j := fun e => (List.nodup_cons.1 hnd).1 (by rw [e]; simp)
  obtain ⟨ha, hal, hak, had⟩ := hup a (by simp)
  have has : a < (splitR ps j).length := by rw [splitR_len]; omega
  have hoff := splitR_off (ps := ps) hna ha
  have hnd2 : (a :: r).Nodup := (List.nodup_cons.1 hnd).2
  refine ⟨by rw [putR_len]; exact has, ?_, ?_, hnd2, fun b hb => ?_, ?_⟩
  · rw [putR_get has, hoff]
    simp only [insAt_len]
    omega
  · rw [putR_get has, hoff]
    simp only [insAt_len, hal, had]
    simp
  · obtain ⟨hb1, hb2, hb3, hb4⟩ := hup b (by simp [hb])
    have hnb : b ≠ j := fun e => (List.nodup_cons.1 hnd).1 (by rw [← e]; simp [hb])
    have hnba : b ≠ a := fun e => (List.nodup_cons.1 hnd2).1 (by rw [← e]; exact hb)
    rw [putR_len, splitR_len, putR_off hnba, splitR_off hnb hb1]
    exact ⟨by omega, hb2, hb3, hb4⟩
  · exact putR_fit (splitR_fit hfit hlt) has (midK_fit hfit hlt) (by rw [hoff]; exact hak) (by rw [hoff]; omega)
theorem up_shape : ∀ (h : Nat) (ps : List Pg) (hi : Key) (rs : List Int) (lo hb : Key) (t : Tb h) (k : Key), wfT h lo hb t → repT ps h hi rs t → (idsT h t).Nodup →
    ((leafT h t k).1 :: upT h t k).Nodup ∧ (∀ a ∈ upT h t k, a ∈ idsT h t ∧ (ps.getD a noPg).leaf = false ∧ (ps.getD a noPg).keys.length ≤ 4 ∧ (ps.getD a noPg).kids.length = (ps.getD a noPg).keys.length + 1) ∧
    (ps.getD (leafT h t k).1 noPg) = ⟨true, (leafT h t k).2.map (·.1), (leafT h t k).2.map (·.2), (ps.getD (leafT h t k).1 noPg).high, (ps.getD (leafT h t k).1 noPg).next⟩ ∧ (leafT h t k).2.length ≤ 4
  | 0, ps, hi, rs, lo, hb, t, k, hw, hr, hnd => by
    have hp := getD_of (show ps[t.1]? = some ⟨true, t.2.map (·.1), t.2.map (·.2), hi, rs.headD (-1)⟩ from hr)
    refine ⟨by simp [upT], by simp [upT], ?_, hw.1⟩
    show ps.getD t.1 noPg = ⟨true, t.2.map (·.1), t.2.map (·.2), (ps.getD t.1 noPg).high, (ps.getD t.1 noPg).next⟩
    rw [hp]
  | h + 1, ps, hi, rs, lo, hb, t, k, hw, hr, hnd => by
    obtain ⟨h1, h2, h3⟩ := hw
    obtain ⟨r1, r2⟩ := hr
    obtain ⟨lo', hi', w1⟩ := kw_pick k _ _ _ _ h3
    obtain ⟨hi3, rs2, e2⟩ := repK_pick k _ _ _ _ r2
    have hsub := pick_ids (ids := idsT h) k t.2.2 t.2.1
    have hndc : (idsK (idsT h) t.2.1 t.2.2).Nodup := (List.nodup_cons.1 hnd).2
    have htop : t.1 ∉ idsK (idsT h) t.2.1 t.2.2 := (List.nodup_cons.1 hnd).1
    obtain ⟨q1, q2, q3, q4⟩ := up_shape h ps hi3 rs2 lo' hi' (pickK k t.2.1 t.2.2) k w1 e2 (hndc.sublist hsub)
    have hpg := getD_of r1
    have hnot : t.1 ∉ (leafT h (pickK k t.2.1 t.2.2) k).1 :: upT h (pickK k t.2.1 t.2.2) k := by
      intro hm
      rcases List.mem_cons.1 hm with hm | hm
      · exact htop (hsub.subset (hm ▸ leaf_mem h (pickK k t.2.1 t.2.2) k))
      · exact htop (hsub.subset (q2 _ hm).1)
    refine ⟨?_, fun a ha => ?_, q3, q4⟩
    · show ((leafT h (pickK k t.2.1 t.2.2) k).1 :: (upT h (pickK k t.2.1 t.2.2) k ++ [t.1])).Nodup
      rw [← List.cons_append]
      rw [List.nodup_append]
      refine ⟨q1, by simp, fun x hx y hy => ?_⟩
      rw [List.mem_singleton] at hy
      rintro rfl
      rw [hy] at hx
      exact hnot hx
    · rcases List.mem_append.1 ha with ha | ha
      · obtain ⟨b1, b2⟩ := q2 a ha
        exact ⟨List.mem_cons_of_mem _ (hsub.subset b1), b2⟩
      · rw [List.mem_singleton] at ha
        subst ha
        refine ⟨by simp [idsT], ?_⟩
        rw [hpg]
        simp
        exact h2
theorem up_start {T : Tr} {h : Nat} {t : Tb h} {k : Key} {v : Int} (hr : Reps T h t) (hk : k.length ≤ 100) : UpOk (putR T.pages (leafT h t k).1 k v) (upT h t k) (leafT h t k).1 := by
  have hpass := (reps_pass hr).page
  have hfit : ∀ p ∈ T.pages, Fit p := fun p hp => by
    have h1 := hpass p hp
    have h2 := h1.kids
    have h3 := h1.keys
    refine ⟨fun k hk => (h1.okk k hk).1.2, h1.high, by omega, ?_⟩
    by_cases q : p.leaf = true
    · rw [if_pos q] at h2; omega
    · rw [if_neg q] at h2; omega
  have hnd := hr.nodup
  have hlt := hr.lt
  obtain ⟨hroot, hrep, hwf, hids⟩ := hr
  obtain ⟨q1, q2, q3, q4⟩ := up_shape h T.pages [] [] [] [] t k hwf hrep hnd
  have hl := hlt _ (leaf_mem h t k)
  refine ⟨by rw [putR_len]; exact hl, ?_, ?_, q1, fun a ha => ?_, ?_⟩
  · rw [putR_get hl, q3]
    simp only [insAt_len, List.length_map]
    omega
  · rw [putR_get hl, q3]
    simp only [insAt_len, List.length_map]
    simp
  · have hne : a ≠ (leafT h t k).1 := fun e => (List.nodup_cons.1 q1).1 (e ▸ ha)
    obtain ⟨b1, b2⟩ := q2 a ha
    rw [putR_len, putR_off hne]
    exact ⟨hlt a b1, b2⟩
  · refine putR_fit hfit hl hk ?_ ?_
    · rw [q3]; simpa using q4
    · rw [q3]; simp; omega
end Go.Proofs.Ytahammkjkfdmhaa
/- Plain trees: what goes up is a key that the page above has not. No program in sight. -/
namespace Go.Proofs.Ytahammkjkfdmhaa
set_option linter.unusedVariables false
set_option linter.unusedSimpArgs false
/-- The kid into which a key goes: what lies within its bounds is none of the keys that part. -/
theorem kw_pick3 {α : Type} {W : Key → Key → α → Prop} (k : Key) : ∀ (l : List (Key × α)) (lo hi : Key) (c : α), kwT W lo hi c l → inB lo hi k →
    ∃ lo' hi', W lo' hi' (pickK k c l) ∧ kl lo' lo = false ∧ inB lo' hi' k ∧ (∀ s, inB lo' hi' s → cntK s (l.map (·.1)) = cntK k (l.map (·.1))) ∧ ∀ s, kl lo' s = true → (hi' = [] ∨ kl s hi' = true) → s ∉ l.map (·.1)
  | [], lo, hi, c, h, hk => ⟨lo, hi, h, bl_irr _, hk, fun s _ => rfl, fun s _ _ => by simp⟩
  | (s, d) :: r, lo, hi, c, h, hk => by
    obtain ⟨h1, h2, h3, h4, h5⟩ := h
    by_cases g : kl k s = true
    · refine ⟨lo, s, by simpa [pickK, g] using h1, bl_irr _, ⟨hk.1, .inr g⟩, fun u hu => ?_, fun u _ hu hm => ?_⟩
      · have : kl u s = true := by
          rcases hu.2 with h0 | h0
          · exact absurd h0 h2.ne
          · exact h0
        simp [cntK, g, this]
      · have hus : kl u s = true := by
          rcases hu with h0 | h0
          · exact absurd h0 h2.ne
          · exact h0
        simp only [List.map_cons, List.mem_cons, List.mem_map] at hm
        rcases hm with rfl | ⟨x, hx, rfl⟩
        · simp [bl_irr] at hus
        · have := kl_not (h4 x hx)
          rw [hus] at this
          cases this
    · have g' : kl k s = false := by simpa using g
      obtain ⟨lo', hi', q1, q2, q3, q4, q5⟩ := kw_pick3 k r s hi d h5 ⟨g', hk.2⟩
      refine ⟨lo', hi', by simpa [pickK, g] using q1, kl_le_trans h3.1 q2, q3, fun u hu => ?_, fun u hl hu hm => ?_⟩
      · have h6 : kl u s = false := kl_le_trans q2 hu.1
        simp [cntK, g', h6, q4 u hu]
      · simp only [List.map_cons, List.mem_cons] at hm
        rcases hm with rfl | hm
        · rw [hl] at q2
          cases q2
        · exact q5 u hl hu hm
/-- What goes up is a key that the page above has not. -/
def UpIn : List Nat → List Pg → Nat → Prop
  | [], _, _ => True
  | a :: r, ps, j => ¬ (ps.getD j noPg).keys.length ≤ 4 → ((ps.getD a noPg).keys.Pairwise fun x y => kl x y = true) ∧ midK ps j ∉ (ps.getD a noPg).keys ∧ UpIn r (putR (splitR ps j) a (midK ps j) (ps.length : Int)) a
theorem upIn_snoc (a : Nat) : ∀ (l : List Nat) (ps : List Pg) (j : Nat), (a :: l).Nodup → a ≠ j → (∀ b ∈ l, b ≠ j ∧ b < ps.length) → a < ps.length → UpIn l ps j →
    (∀ q up rt, upR l ps j = (q, some (up, rt)) → ((ps.getD a noPg).keys.Pairwise fun x y => kl x y = true) ∧ up ∉ (ps.getD a noPg).keys) → l.Nodup → UpIn (l ++ [a]) ps j
  | [], ps, j, hnd, haj, hl, ha, hu, hq, _ => by
    intro h
    have := hq (splitR ps j) (midK ps j) ps.length (by unfold upR; rw [if_neg h]; rfl)
    exact ⟨this.1, this.2, trivial⟩
  | b :: l, ps, j, hnd, haj, hl, ha, hu, hq, hn2 => by
    intro h
    obtain ⟨u1, u2, u3⟩ := hu h
    refine ⟨u1, u2, ?_⟩
    have hbj := (hl b (by simp)).1
    have hab : a ≠ b := fun e => (List.nodup_cons.1 hnd).1 (by rw [e]; simp)
    have hoff : (putR (splitR ps j) b (midK ps j) (ps.length : Int)).getD a noPg = ps.getD a noPg := by rw [putR_off hab, splitR_off haj ha]
    refine upIn_snoc a l _ b (List.nodup_cons.2 ⟨fun hm => (List.nodup_cons.1 hnd).1 (List.mem_cons_of_mem _ hm), (List.nodup_cons.1 hn2).2⟩) hab (fun c hc => ⟨fun e => (List.nodup_cons.1 hn2).1 (by rw [← e]; exact hc), by rw [putR_len, splitR_len]; have := (hl c (by simp [hc])).2; omega⟩) (by rw [putR_len, splitR_len]; omega) u3 (fun q up rt e => ?_) (List.nodup_cons.1 hn2).2
    rw [hoff]
    refine hq q up rt ?_
    rw [← e]
    conv => lhs; unfold upR
    rw [if_neg h]
    rfl
theorem up_in : ∀ (h : Nat) (ps : List Pg) (hi : Key) (rs : List Int) (lo hb : Key) (t : Tb h) (k : Key) (v : Int), wfT h lo hb t → inB lo hb k → okK k → 0 ≤ v → (∀ e ∈ entT h t, e.1 ≠ k) → repT ps h hi rs t → (idsT h t).Nodup → (∀ i ∈ idsT h t, i < ps.length) →
    UpIn (upT h t k) (putR ps (leafT h t k).1 k v) (leafT h t k).1
  | 0, ps, hi, rs, lo, hb, t, k, v, hw, hk, ho, hv, hn, hr, hnd, hlt => trivial
  | h + 1, ps, hi, rs, lo, hb, t, k, v, hw, hk, ho, hv, hn, hr, hnd, hlt => by
    obtain ⟨h1, h2, h3⟩ := hw
    obtain ⟨r1, r2⟩ := hr
    obtain ⟨lo', hi', w1, w2, w3, w4, w5⟩ := kw_pick3 k _ _ _ _ h3 hk
    obtain ⟨hi3, rs2, e2⟩ := repK_pick k _ _ _ _ r2
    have hsub := pick_ids (ids := idsT h) k t.2.2 t.2.1
    have hndc : (idsK (idsT h) t.2.1 t.2.2).Nodup := (List.nodup_cons.1 hnd).2
    have htop : t.1 ∉ idsK (idsT h) t.2.1 t.2.2 := (List.nodup_cons.1 hnd).1
    have hnd' : (idsT h (pickK k t.2.1 t.2.2)).Nodup := hndc.sublist hsub
    have hlt' : ∀ i ∈ idsT h (pickK k t.2.1 t.2.2), i < ps.length := fun i hi => hlt i (List.mem_cons_of_mem _ (hsub.subset hi))
    have hne : ∀ e ∈ entT h (pickK k t.2.1 t.2.2), e.1 ≠ k := by
      intro e he
      refine hn e ?_
      show e ∈ entT h t.2.1 ++ _
      rw [List.mem_append]
      rcases pickK_mem k t.2.2 t.2.1 with hc | ⟨x, hx, hc⟩
      · rw [hc] at he; exact .inl he
      · rw [hc] at he
        exact .inr (List.mem_flatten.2 ⟨_, List.mem_map.2 ⟨x, hx, rfl⟩, he⟩)
    have ih := up_in h ps hi3 rs2 lo' hi' (pickK k t.2.1 t.2.2) k v w1 w3 ho hv hne e2 hnd' hlt'
    have hadd := addP_up h ps hi3 rs2 lo' hi' (pickK k t.2.1 t.2.2) k v w1 w3 ho hv hne e2 hnd' hlt'
    obtain ⟨g1, -⟩ := insT_good h lo' hi' (pickK k t.2.1 t.2.2) k v ps.length w1 w3 ho hv hne
    obtain ⟨-, p2, -, -, -, -⟩ := put_any h ps hi3 rs2 lo' hi' (pickK k t.2.1 t.2.2) k v w1 e2 hnd' hlt'
    obtain ⟨s1, s2, -, -⟩ := up_shape h ps hi3 rs2 lo' hi' (pickK k t.2.1 t.2.2) k w1 e2 hnd'
    have hpg := getD_of r1
    have hlm : (leafT h (pickK k t.2.1 t.2.2) k).1 ∈ idsT h (pickK k t.2.1 t.2.2) := leaf_mem h _ k
    have hnl : t.1 ≠ (leafT h (pickK k t.2.1 t.2.2) k).1 := fun e => htop (hsub.subset (by rw [e]; exact hlm))
    have hnu : t.1 ∉ upT h (pickK k t.2.1 t.2.2) k := fun hm => htop (hsub.subset (s2 _ hm).1)
    have hoff : (putR ps (leafT h (pickK k t.2.1 t.2.2) k).1 k v).getD t.1 noPg = ps.getD t.1 noPg := putR_off hnl
    show UpIn (upT h (pickK k t.2.1 t.2.2) k ++ [t.1]) _ _
    refine upIn_snoc t.1 _ _ _ (List.nodup_cons.2 ⟨hnu, (List.nodup_cons.1 s1).2⟩) hnl (fun b hb => ⟨fun e => (List.nodup_cons.1 s1).1 (by have e' : b = (leafT h (pickK k t.2.1 t.2.2) k).1 := e; rw [← e']; exact hb), by rw [putR_len]; exact hlt' b (s2 b hb).1⟩) (by rw [putR_len]; exact hlt _ (by simp [idsT])) ih (fun q up rt e => ?_) (List.nodup_cons.1 s1).2
    show (((putR ps (leafT h (pickK k t.2.1 t.2.2) k).1 k v).getD t.1 noPg).keys.Pairwise _) ∧ up ∉ ((putR ps (leafT h (pickK k t.2.1 t.2.2) k).1 k v).getD t.1 noPg).keys
    rw [hoff, hpg]
    refine ⟨kw_pair _ _ _ _ h3, ?_⟩
    change upR (upT h (pickK k t.2.1 t.2.2) k) (putR ps (leafT h (pickK k t.2.1 t.2.2) k).1 k v) (leafT h (pickK k t.2.1 t.2.2) k).1 = _ at e
    rw [← hadd] at e
    rw [e] at p2
    unfold Good at g1
    rcases hX : (insT h (pickK k t.2.1 t.2.2) k v ps.length).2 with _ | d
    · rw [hX] at p2; simp at p2
    · rw [hX] at p2 g1
      simp only [Option.map_some, Option.some.injEq, Prod.mk.injEq] at p2
      obtain ⟨rfl, -⟩ := p2
      exact w5 _ g1.2.1 g1.2.2.1
theorem not_in_leaf : ∀ (h : Nat) (lo hi : Key) (t : Tb h) (k : Key), wfT h lo hi t → (∀ e ∈ entT h t, e.1 ≠ k) → k ∉ (leafT h t k).2.map (·.1) := fun h lo hi t k hw hn hm => by
  obtain ⟨⟨a, b⟩, hx, rfl⟩ := List.mem_map.1 hm
  exact hn _ ((leaf_ent h lo hi t a hw b).2 hx) rfl
end Go.Proofs.Ytahammkjkfdmhaa
