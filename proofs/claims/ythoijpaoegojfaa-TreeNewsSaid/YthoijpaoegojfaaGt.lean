/- Plain trees: a key taken out, a key looked for. No program in sight. -/
import Derived.Test.YthoijpaoegojfaaGs
namespace Go.Proofs.Ythoijpaoegojfaa
set_option linter.unusedVariables false
set_option linter.unusedSimpArgs false
/-- Entries without a key. -/
def offE (k : Key) (l : List (Key × Int)) : List (Key × Int) := l.filter fun e => !(e.1 == k)
theorem offE_app (k : Key) (a b : List (Key × Int)) : offE k (a ++ b) = offE k a ++ offE k b := by simp [offE]
theorem offE_same {k : Key} {l : List (Key × Int)} (h : ∀ e ∈ l, e.1 ≠ k) : offE k l = l := by
  unfold offE
  rw [List.filter_eq_self]
  intro e he
  simp [h e he]
theorem offE_rise {k : Key} {l : List (Key × Int)} (h : Rise l) : Rise (offE k l) := List.Pairwise.sublist List.filter_sublist h
/-- What is done to the kid in which a key would stand. -/
def updK {α : Type} (f : α → α) (k : Key) : α → List (Key × α) → α × List (Key × α)
  | c, [] => (f c, [])
  | c, (s, d) :: r => if kl k s then (f c, (s, d) :: r) else (c, (s, (updK f k d r).1) :: (updK f k d r).2)
/-- A key taken out. -/
def delT : (h : Nat) → Tb h → Key → Tb h
  | 0, t, k => (t.1, offE k t.2)
  | h + 1, t, k => (t.1, updK (fun c => delT h c k) k t.2.1 t.2.2)
theorem updK_len {α : Type} {f : α → α} {k : Key} : ∀ (l : List (Key × α)) (c : α), (updK f k c l).2.map (·.1) = l.map (·.1)
  | [], c => rfl
  | (s, d) :: r, c => by
    by_cases g : kl k s = true
    · simp [updK, g]
    · simp [updK, g, updK_len r d]
theorem updK_good {α : Type} {W : Key → Key → α → Prop} {ent : α → List (Key × Int)} {f : α → α} {k : Key}
    (he : ∀ lo hi c, W lo hi c → ∀ e ∈ ent c, inB lo hi e.1)
    (hf : ∀ lo hi c, W lo hi c → W lo hi (f c) ∧ ent (f c) = offE k (ent c)) :
    ∀ (l : List (Key × α)) (lo hi : Key) (c : α), kwT W lo hi c l → kwT W lo hi (updK f k c l).1 (updK f k c l).2 ∧ entK ent (updK f k c l).1 (updK f k c l).2 = offE k (entK ent c l)
  | [], lo, hi, c, h => by
    obtain ⟨g1, g2⟩ := hf lo hi c h
    exact ⟨g1, by simp [updK, entK, g2]⟩
  | (s, d) :: r, lo, hi, c, h => by
    obtain ⟨h1, h2, h3, h4, h5⟩ := h
    have hsplit : ∀ c, entK ent c ((s, d) :: r) = ent c ++ entK ent d r := fun c => by simp [entK]
    by_cases hks : kl k s = true
    · obtain ⟨g1, g2⟩ := hf lo s c h1
      have hright : ∀ e ∈ entK ent d r, e.1 ≠ k := fun e he' heq => by
        have := (entK_in he r s hi d h5 e he').1
        rw [heq, hks] at this
        exact absurd this (by simp)
      simp only [updK, hks, if_true]
      refine ⟨⟨g1, h2, h3, h4, h5⟩, ?_⟩
      rw [hsplit, hsplit, offE_app, offE_same hright, g2]
    · obtain ⟨g1, g2⟩ := updK_good he hf r s hi d h5
      have hleft : ∀ e ∈ ent c, e.1 ≠ k := fun e he' heq => by
        rcases (he _ _ _ h1 e he').2 with q | q
        · exact absurd q h2.ne
        · rw [heq] at q; exact hks q
      simp only [updK, hks, Bool.false_eq_true, if_false]
      refine ⟨⟨h1, h2, h3, fun x hx => ?_, g1⟩, ?_⟩
      · have hm : x.1 ∈ (updK f k d r).2.map (·.1) := List.mem_map.2 ⟨x, hx, rfl⟩
        rw [updK_len] at hm
        obtain ⟨y, hy, hxy⟩ := List.mem_map.1 hm
        rw [← hxy]
        exact h4 y hy
      · have : entK ent c ((s, (updK f k d r).1) :: (updK f k d r).2) = ent c ++ entK ent (updK f k d r).1 (updK f k d r).2 := by simp [entK]
        rw [this, hsplit, offE_app, offE_same hleft, g2]
/-- A TREE FROM WHICH A KEY IS TAKEN MAY BE, AND HOLDS THE OTHERS. -/
theorem delT_good : ∀ (h : Nat) (lo hi : Key) (t : Tb h) (k : Key), wfT h lo hi t → wfT h lo hi (delT h t k) ∧ entT h (delT h t k) = offE k (entT h t)
  | 0, lo, hi, t, k, hw => ⟨⟨Nat.le_trans (List.length_filter_le ..) hw.1, offE_rise hw.2.1, fun e he => hw.2.2 e ((List.mem_filter.1 he).1)⟩, rfl⟩
  | h + 1, lo, hi, t, k, hw => by
    obtain ⟨l1, l4, hkw⟩ := hw
    obtain ⟨g1, g2⟩ := updK_good (W := wfT h) (ent := entT h) (f := fun c => delT h c k) (k := k) (fun lo hi c => ent_in h lo hi c) (fun lo hi c hw => delT_good h lo hi c k hw) t.2.2 lo hi t.2.1 hkw
    have hl : (updK (fun c => delT h c k) k t.2.1 t.2.2).2.length = t.2.2.length := by
      have := congrArg List.length (updK_len (f := fun c => delT h c k) (k := k) t.2.2 t.2.1)
      simpa using this
    exact ⟨⟨by rw [← hl] at l1; exact l1, by rw [← hl] at l4; exact l4, g1⟩, g2⟩
theorem updK_first {α β : Type} {f : α → α} {k : Key} {g : α → β} (hg : ∀ c, g (f c) = g c) : ∀ (l : List (Key × α)) (c : α), g (updK f k c l).1 = g c ∧ (updK f k c l).2.map (fun x => g x.2) = l.map fun x => g x.2
  | [], c => ⟨hg c, rfl⟩
  | (s, d) :: r, c => by
    by_cases q : kl k s = true
    · simp [updK, q, hg c]
    · obtain ⟨h1, h2⟩ := updK_first (k := k) hg r d
      simp [updK, q, h1, h2]
theorem delT_same : ∀ (h : Nat) (t : Tb h) (k : Key), spine h (delT h t k) = spine h t ∧ idsT h (delT h t k) = idsT h t ∧ idT h (delT h t k) = idT h t
  | 0, t, k => ⟨rfl, rfl, rfl⟩
  | h + 1, t, k => by
    obtain ⟨a1, _⟩ := updK_first (f := fun c => delT h c k) (k := k) (g := spine h) (fun c => (delT_same h c k).1) t.2.2 t.2.1
    obtain ⟨b1, b2⟩ := updK_first (f := fun c => delT h c k) (k := k) (g := idsT h) (fun c => (delT_same h c k).2.1) t.2.2 t.2.1
    refine ⟨?_, ?_, rfl⟩
    · show (t.1 : Int) :: spine h (updK _ k t.2.1 t.2.2).1 = _
      rw [a1]
      rfl
    · show t.1 :: (idsT h (updK _ k t.2.1 t.2.2).1 ++ ((updK _ k t.2.1 t.2.2).2.map fun x => idsT h x.2).flatten) = _
      rw [b1, b2]
      rfl
/-- The leaf in which a key would stand. -/
def leafT : (h : Nat) → Tb h → Key → Tb 0
  | 0, t, _ => t
  | h + 1, t, k => leafT h (pickK k t.2.1 t.2.2) k
/-- What taking out does to the pages. -/
def takeP (h : Nat) (ps : List Pg) (t : Tb h) (k : Key) : List Pg :=
  ps.set (leafT h t k).1 ⟨true, (offE k (leafT h t k).2).map (·.1), (offE k (leafT h t k).2).map (·.2), (ps.getD (leafT h t k).1 noPg).high, (ps.getD (leafT h t k).1 noPg).next⟩
theorem leaf_mem : ∀ (h : Nat) (t : Tb h) (k : Key), (leafT h t k).1 ∈ idsT h t
  | 0, t, k => by simp [leafT, idsT]
  | h + 1, t, k => by
    have := leaf_mem h (pickK k t.2.1 t.2.2) k
    have hs := pick_ids (ids := idsT h) k t.2.2 t.2.1
    exact List.mem_cons_of_mem _ (hs.subset this)
theorem updK_rep {α : Type} {R R' : Key → List Int → α → Prop} {sp : α → List Int} {f : α → α} {k : Key} {ids : α → List Nat} (i : Nat)
    (hs : ∀ c, sp (f c) = sp c) (hfr : ∀ hi rs c, i ∉ ids c → R hi rs c → R' hi rs c) :
    ∀ (l : List (Key × α)) (c : α) (hi : Key) (rs : List Int), i ∈ ids (pickK k c l) → (∀ hi rs, R hi rs (pickK k c l) → R' hi rs (f (pickK k c l))) → (ids c ++ (l.map fun x => ids x.2).flatten).Nodup → repK R sp hi rs c l →
      repK R' sp hi rs (updK f k c l).1 (updK f k c l).2
  | [], c, hi, rs, hi', hf, _, hr => hf hi rs hr
  | (s, d) :: r, c, hi, rs, hi', hf, hn, hr => by
    obtain ⟨h1, h2⟩ := hr
    rw [List.map_cons, List.flatten_cons, List.nodup_append] at hn
    obtain ⟨n1, n2, n3⟩ := hn
    by_cases g : kl k s = true
    · have hc : pickK k c ((s, d) :: r) = c := by simp [pickK, g]
      rw [hc] at hi' hf
      simp only [updK, g, if_true]
      refine ⟨hf _ _ h1, repK_frame (q := fun x => i ∉ ids x) (fun hi rs x hq hr => hfr hi rs x hq hr) r hi rs d ?_ ?_ h2⟩
      · exact fun q => n3 i hi' i (List.mem_append_left _ q) rfl
      · exact fun x hx q => n3 i hi' i (List.mem_append_right _ (List.mem_flatten.2 ⟨_, List.mem_map.2 ⟨x, hx, rfl⟩, q⟩)) rfl
    · have hp : pickK k c ((s, d) :: r) = pickK k d r := by simp [pickK, g]
      rw [hp] at hi' hf
      simp only [updK, g, Bool.false_eq_true, if_false]
      refine ⟨?_, updK_rep i hs hfr r d hi rs hi' hf n2 h2⟩
      rw [(updK_first hs r d).1]
      exact hfr _ _ _ (fun q => n3 i q i ((pick_ids (ids := ids) k r d).subset hi') rfl) h1
theorem take_rep : ∀ (h : Nat) (ps : List Pg) (hi : Key) (rs : List Int) (t : Tb h) (k : Key), (idsT h t).Nodup → repT ps h hi rs t → repT (takeP h ps t k) h hi rs (delT h t k)
  | 0, ps, hi, rs, t, k, hn, hr => by
    have hp : ps[t.1]? = some ⟨true, t.2.map (·.1), t.2.map (·.2), hi, rs.headD (-1)⟩ := hr
    show (takeP 0 ps t k)[t.1]? = _
    unfold takeP
    simp only [leafT]
    rw [set_at (List.getElem?_eq_some_iff.1 hp).1, getD_of hp]
    rfl
  | h + 1, ps, hi, rs, t, k, hn, hr => by
    obtain ⟨hp, hk⟩ := hr
    have hn' : (t.1 :: idsK (idsT h) t.2.1 t.2.2).Nodup := hn
    obtain ⟨hn1, hn2⟩ := List.nodup_cons.1 hn'
    have hE : takeP (h + 1) ps t k = takeP h ps (pickK k t.2.1 t.2.2) k := rfl
    have hsub := pick_ids (ids := idsT h) k t.2.2 t.2.1
    have hm := leaf_mem h (pickK k t.2.1 t.2.2) k
    have hne : t.1 ≠ (leafT h (pickK k t.2.1 t.2.2) k).1 := fun e => hn1 (by rw [e]; exact hsub.subset hm)
    obtain ⟨b1, b2⟩ := updK_first (f := fun c => delT h c k) (k := k) (g := fun c => (idT h c : Int)) (fun c => by simp only [(delT_same h c k).2.2]) t.2.2 t.2.1
    rw [hE]
    refine ⟨?_, ?_⟩
    · show (takeP h ps _ k)[t.1]? = some ⟨false, (updK _ k t.2.1 t.2.2).2.map (·.1), (idT h (updK _ k t.2.1 t.2.2).1 : Int) :: (updK _ k t.2.1 t.2.2).2.map (fun x => (idT h x.2 : Int)), hi, rs.headD (-1)⟩
      rw [updK_len, b2, b1]
      unfold takeP
      rw [set_off hne]
      exact hp
    · exact updK_rep (R := repT ps h) (ids := idsT h) (f := fun c => delT h c k) (k := k) (leafT h (pickK k t.2.1 t.2.2) k).1 (fun c => (delT_same h c k).1)
        (fun hi rs c hq hr => repT_frame h hi rs c (fun j hj => set_off (fun e => hq (by rw [← e]; exact hj))) hr) t.2.2 t.2.1 hi rs.tail hm
        (fun hi rs hr => take_rep h ps hi rs _ k (hn2.sublist hsub) hr) hn2 hk
/-- A TREE FROM WHICH A KEY IS TAKEN, AMONG THE PAGES. -/
theorem delTr_good {T : Tr} {h : Nat} {t : Tb h} {k : Key} (hr : Reps T h t) : Reps ⟨takeP h T.pages t k, T.root⟩ h (delT h t k) ∧ entT h (delT h t k) = offE k (entT h t) := by
  have hnd := hr.nodup
  obtain ⟨hroot, hrep, hwf, hids⟩ := hr
  obtain ⟨g1, g2⟩ := delT_good h [] [] t k hwf
  refine ⟨⟨?_, take_rep h _ _ _ _ _ hnd hrep, g1, ?_⟩, g2⟩
  · rw [(delT_same h t k).2.2]; exact hroot
  · rw [(delT_same h t k).2.1]
    simpa [takeP] using hids
/-- A key stands in its leaf, or nowhere. -/
theorem leaf_ent : ∀ (h : Nat) (lo hi : Key) (t : Tb h) (k : Key), wfT h lo hi t → ∀ v, (k, v) ∈ entT h t ↔ (k, v) ∈ (leafT h t k).2
  | 0, lo, hi, t, k, hw, v => Iff.rfl
  | h + 1, lo, hi, t, k, hw, v => by
    have main : ∀ (l : List (Key × Tb h)) (lo hi : Key) (c : Tb h), kwT (wfT h) lo hi c l → ((k, v) ∈ entK (entT h) c l ↔ (k, v) ∈ (leafT h (pickK k c l) k).2) := by
      intro l
      induction l with
      | nil =>
        intro lo hi c hw
        have := leaf_ent h lo hi c k hw v
        simpa [entK, pickK] using this
      | cons x r ih =>
        obtain ⟨s, d⟩ := x
        intro lo hi c hw
        obtain ⟨h1, h2, h3, h4, h5⟩ := hw
        have hsplit : entK (entT h) c ((s, d) :: r) = entT h c ++ entK (entT h) d r := by simp [entK]
        rw [hsplit, List.mem_append]
        by_cases g : kl k s = true
        · simp only [pickK, g, if_true]
          rw [leaf_ent h lo s c k h1 v]
          refine ⟨fun q => q.elim id fun q => ?_, .inl⟩
          have := (entK_in (fun lo hi c => ent_in h lo hi c) r s hi d h5 _ q).1
          rw [show kl (k, v).1 s = kl k s from rfl, g] at this
          exact absurd this (by simp)
        · simp only [pickK, g, Bool.false_eq_true, if_false]
          rw [← ih s hi d h5]
          refine ⟨fun q => q.elim (fun q => ?_) id, .inr⟩
          rcases (ent_in h lo s c h1 _ q).2 with e | e
          · exact absurd e h2.ne
          · exact absurd e g
    exact main t.2.2 lo hi t.2.1 hw.2.2
end Go.Proofs.Ythoijpaoegojfaa
