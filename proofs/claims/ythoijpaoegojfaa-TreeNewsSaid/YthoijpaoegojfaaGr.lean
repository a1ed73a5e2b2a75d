/- Plain trees and their pages: putting in keeps what stands where. No program in sight. -/
import Derived.Test.YthoijpaoegojfaaGq
namespace Go.Proofs.Ythoijpaoegojfaa
set_option linter.unusedVariables false
set_option linter.unusedSimpArgs false
theorem getD_of {ps : List Pg} {i : Nat} {p : Pg} (h : ps[i]? = some p) : ps.getD i noPg = p := by simp [List.getD, h]
theorem set_at {ps : List Pg} {i : Nat} {p : Pg} (h : i < ps.length) : (ps.set i p)[i]? = some p := by simp [h]
theorem set_off {ps : List Pg} {i j : Nat} {p : Pg} (h : j ≠ i) : (ps.set i p)[j]? = ps[j]? := by rw [List.getElem?_set_ne (by omega)]
theorem app_lo {ps qs : List Pg} {i : Nat} (h : i < ps.length) : (ps ++ qs)[i]? = ps[i]? := List.getElem?_append_left h
theorem repK_pick {α : Type} {R : Key → List Int → α → Prop} {sp : α → List Int} (k : Key) : ∀ (l : List (Key × α)) (hi : Key) (rs : List Int) (c : α), repK R sp hi rs c l → ∃ hi' rs', R hi' rs' (pickK k c l)
  | [], hi, rs, c, h => ⟨hi, rs, h⟩
  | (s, d) :: r, hi, rs, c, h => by
    by_cases g : kl k s = true
    · exact ⟨s, sp d, by simpa [pickK, g] using h.1⟩
    · obtain ⟨hi', rs', q⟩ := repK_pick k r hi rs d h.2
      exact ⟨hi', rs', by simpa [pickK, g] using q⟩
theorem kw_pick {α : Type} {W : Key → Key → α → Prop} (k : Key) : ∀ (l : List (Key × α)) (lo hi : Key) (c : α), kwT W lo hi c l → ∃ lo' hi', W lo' hi' (pickK k c l)
  | [], lo, hi, c, h => ⟨lo, hi, h⟩
  | (s, d) :: r, lo, hi, c, h => by
    by_cases g : kl k s = true
    · exact ⟨lo, s, by simpa [pickK, g] using h.1⟩
    · obtain ⟨lo', hi', q⟩ := kw_pick k r s hi d h.2.2.2.2
      exact ⟨lo', hi', by simpa [pickK, g] using q⟩
theorem pick_ids {α : Type} {ids : α → List Nat} (k : Key) (l : List (Key × α)) (c : α) : (ids (pickK k c l)).Sublist (idsK ids c l) := by
  induction l generalizing c with
  | nil => simp [pickK, idsK]
  | cons x r ih =>
    obtain ⟨s, d⟩ := x
    by_cases g : kl k s = true
    · simp only [pickK, g, if_true, idsK]
      exact List.sublist_append_left _ _
    · have e : pickK k c ((s, d) :: r) = pickK k d r := by simp [pickK, g]
      rw [e]
      refine (ih d).trans ?_
      simp only [idsK, List.map_cons, List.flatten_cons]
      exact List.sublist_append_right _ _
theorem insK_len {α : Type} {f : α → α × Option (Key × α)} {k : Key} : ∀ (l : List (Key × α)) (c : α), (f (pickK k c l)).2 = none → (insK f k c l).2.length = l.length
  | [], c, h => by
    unfold insK
    simp only [pickK] at h
    rcases hf : f c with ⟨c', _ | d⟩ <;> rw [hf] at h <;> simp_all
  | (s, d) :: r, c, h => by
    by_cases g : kl k s = true
    · simp only [pickK, g, if_true] at h
      simp only [insK, g, if_true]
      rcases hf : f c with ⟨c', _ | e⟩ <;> rw [hf] at h <;> simp_all
    · have e : pickK k c ((s, d) :: r) = pickK k d r := by simp [pickK, g]
      rw [e] at h
      have := insK_len r d h
      simp [insK, g, this]
theorem repK_all {α : Type} {R : Key → List Int → α → Prop} {sp : α → List Int} {q : α → Prop} (h : ∀ hi rs c, R hi rs c → q c) : ∀ (l : List (Key × α)) (hi : Key) (rs : List Int) (c : α), repK R sp hi rs c l → q c ∧ ∀ x ∈ l, q x.2
  | [], hi, rs, c, hr => ⟨h _ _ _ hr, by simp⟩
  | (s, d) :: r, hi, rs, c, hr => by
    obtain ⟨h1, h2⟩ := repK_all h r hi rs d hr.2
    refine ⟨h _ _ _ hr.1, fun x hx => ?_⟩
    simp only [List.mem_cons] at hx
    rcases hx with rfl | hx
    · exact h1
    · exact h2 x hx
theorem repT_ids : ∀ {ps : List Pg} (h : Nat) (hi : Key) (rs : List Int) (t : Tb h), repT ps h hi rs t → ∀ i ∈ idsT h t, i < ps.length
  | ps, 0, hi, rs, t, hr, i, hi' => by
    have : i = t.1 := by simpa [idsT] using hi'
    subst this
    exact (List.getElem?_eq_some_iff.1 hr).1
  | ps, h + 1, hi, rs, t, hr, i, hi' => by
    obtain ⟨h1, h2⟩ := repK_all (q := fun c => ∀ i ∈ idsT h c, i < ps.length) (fun hi rs c hr => repT_ids h hi rs c hr) t.2.2 hi rs.tail t.2.1 hr.2
    simp only [idsT, List.mem_cons, List.mem_append, List.mem_flatten, List.mem_map] at hi'
    rcases hi' with rfl | hi' | ⟨_, ⟨x, hx, rfl⟩, hi'⟩
    · exact (List.getElem?_eq_some_iff.1 hr.1).1
    · exact h1 i hi'
    · exact h2 x hx i hi'
/-- What putting in leaves of the pages. -/
def Put (h : Nat) (ps : List Pg) (hi : Key) (rs : List Int) (t : Tb h) (X : Tb h × Option (Key × Tb h)) (Y : List Pg × Option (Key × Nat)) : Prop :=
  AfterX (repT Y.1 h) (spine h) hi rs X ∧ Y.2 = X.2.map (fun d => (d.1, idT h d.2)) ∧ (∀ i, i < ps.length → i ∉ idsT h t → Y.1[i]? = ps[i]?) ∧ ps.length ≤ Y.1.length ∧
    (idsX (idsT h) X).Perm (idsT h t ++ List.range' ps.length (Y.1.length - ps.length)) ∧ (X.2 ≠ none → Y.1.length = ps.length + h + 1)
theorem put_leaf (ps : List Pg) (hi : Key) (rs : List Int) (t : Tb 0) (k : Key) (v : Int) (hr : repT ps 0 hi rs t) : Put 0 ps hi rs t (insT 0 t k v ps.length) (addP 0 ps (idT 0 t) k v) := by
  have hp : ps[t.1]? = some ⟨true, t.2.map (·.1), t.2.map (·.2), hi, rs.headD (-1)⟩ := hr
  have hlt : t.1 < ps.length := (List.getElem?_eq_some_iff.1 hp).1
  obtain ⟨hk1, hk2⟩ := insE_keys k v t.2
  have hY : addP 0 ps (idT 0 t) k v = putP ps t.1 ⟨true, t.2.map (·.1), t.2.map (·.2), hi, rs.headD (-1)⟩ ((insE k v t.2).map (·.1)) ((insE k v t.2).map (·.2)) := by
    have hp' : ps.getD (idT 0 t) noPg = ⟨true, t.2.map (·.1), t.2.map (·.2), hi, rs.headD (-1)⟩ := getD_of hp
    unfold addP
    rw [hp', hk1, hk2]
    rfl
  have hX : insT 0 t k v ps.length = cutE t.1 ps.length (insE k v t.2) := rfl
  rw [hX, hY]
  generalize insE k v t.2 = l
  unfold putP cutE Put
  by_cases h4 : l.length ≤ 4
  · have h4' : (l.map (·.1)).length ≤ 4 := by simpa using h4
    rw [if_pos h4, if_pos h4']
    refine ⟨?_, rfl, fun i _ hi' => set_off (by simpa [idsT] using hi'), by simp, ?_, fun h => absurd rfl h⟩
    · show (ps.set t.1 _)[t.1]? = _
      rw [set_at hlt]
    · simp [idsX, idsT]
  · have h4' : ¬ (l.map (·.1)).length ≤ 4 := by simpa using h4
    rw [if_neg h4, if_neg h4']
    have hl : l.length > 4 := by omega
    refine ⟨⟨?_, ?_⟩, ?_, fun i hi' hn => ?_, by simp, ?_, fun _ => by simp⟩
    · show (ps.set t.1 _ ++ _)[t.1]? = _
      rw [app_lo (by simpa using hlt), set_at hlt]
      simp [spine, List.map_take, List.getD]
      cases l[2]? <;> simp
    · show (ps.set t.1 _ ++ _)[ps.length]? = _
      rw [List.getElem?_append_right (by simp)]
      simp [List.map_drop]
    · simp [idT, List.getD]
      cases l[2]? <;> simp
    · rw [app_lo (by simpa using hi'), set_off (by simpa [idsT] using hn)]
    · simp [idsX, idsT]
theorem range_next (n m : Nat) (h : n ≤ m) : List.range' n (m + 1 - n) = List.range' n (m - n) ++ [m] := by
  rw [show m + 1 - n = (m - n) + 1 by omega, List.range'_concat]
  congr 2
  omega
/-- Of keys and kids one behind the other. -/
theorem insAt_kid (c : Int) (l : List Int) (n : Nat) (x : Int) : insAt (c :: l) (n + 1) x = c :: insAt l n x := rfl
theorem put_node (h : Nat) (ih : ∀ (ps : List Pg) (hi : Key) (rs : List Int) (lo hb : Key) (t : Tb h) (k : Key) (v : Int), wfT h lo hb t → repT ps h hi rs t → (idsT h t).Nodup → (∀ i ∈ idsT h t, i < ps.length) → Put h ps hi rs t (insT h t k v ps.length) (addP h ps (idT h t) k v))
    (ps : List Pg) (hi : Key) (rs : List Int) (lo hb : Key) (t : Tb (h + 1)) (k : Key) (v : Int) (hw : wfT (h + 1) lo hb t) (hr : repT ps (h + 1) hi rs t) (hn : (idsT (h + 1) t).Nodup) (hl : ∀ i ∈ idsT (h + 1) t, i < ps.length) :
    Put (h + 1) ps hi rs t (insT (h + 1) t k v ps.length) (addP (h + 1) ps (idT (h + 1) t) k v) := by
  obtain ⟨i, c, l⟩ := t
  obtain ⟨hp, hk⟩ := hr
  obtain ⟨l1, l4, hkw⟩ := hw
  simp only at hp hk l1 l4 hkw
  have hids : idsT (h + 1) (i, c, l) = i :: idsK (idsT h) c l := rfl
  rw [hids] at hn hl
  have hni := (List.nodup_cons.1 hn).1
  have hnk := (List.nodup_cons.1 hn).2
  have hil : i < ps.length := hl i (by simp)
  have hkl : ∀ j ∈ idsK (idsT h) c l, j < ps.length := fun j hj => hl j (by simp [hj])
  obtain ⟨pk, hpk⟩ : ∃ pk, pk = pickK k c l := ⟨_, rfl⟩
  have hsub := pick_ids (ids := idsT h) k l c
  rw [← hpk] at hsub
  obtain ⟨lo', hb', hwp⟩ := kw_pick k l lo hb c hkw
  rw [← hpk] at hwp
  obtain ⟨f, hf⟩ : ∃ f : Tb h → Tb h × Option (Key × Tb h), f = fun c => insT h c k v ps.length := ⟨_, rfl⟩
  have hfpk : f pk = insT h pk k v ps.length := by rw [hf]
  have hnp : (idsT h pk).Nodup := hnk.sublist hsub
  have hlp : ∀ j ∈ idsT h pk, j < ps.length := fun j hj => hkl j (hsub.subset hj)
  have hput := fun hi' rs' hr' => ih ps hi' rs' lo' hb' pk k v hwp hr' hnp hlp
  obtain ⟨hi1, rs1, hr1⟩ := repK_pick k l hi rs.tail c hk
  rw [← hpk] at hr1
  obtain ⟨Y, hY⟩ : ∃ Y, Y = addP h ps (idT h pk) k v := ⟨_, rfl⟩
  rw [← hfpk, ← hY] at hput
  obtain ⟨_, p2, p3, p4, p5, p6⟩ := hput hi1 rs1 hr1
  have hat : ((idT h c : Int) :: l.map (fun x => (idT h x.2 : Int))).getD (cntK k (l.map (·.1))) 0 = (idT h pk : Int) := by
    rw [hpk]; exact pickK_at k (fun c => (idT h c : Int)) l c
  have hsp : ∀ c, spine h (f c).1 = spine h c := fun c => by rw [hf]; exact (insT_spine h c k v ps.length).1
  have hid : ∀ c, (idT h (f c).1 : Int) = (idT h c : Int) := fun c => by rw [hf]; simp only [(insT_spine h c k v ps.length).2]
  have hrep := insK_rep (R := repT ps h) (R' := repT Y.1 h) (ids := idsT h) (f := f) (k := k) hsp pk
    (fun hi rs c hq hr => repT_frame h hi rs c (fun j hj => p3 j (repT_ids h hi rs c hr j hj) (hq j hj)) hr) (fun hi' rs' hr' => (hput hi' rs' hr').1) l c hi rs.tail hpk.symm hnk hk
  have hinsids := insK_ids (f := f) (k := k) (ids := idsT h) (new := List.range' ps.length (Y.1.length - ps.length)) l c (by rw [← hpk]; exact p5)
  obtain ⟨hk1, hk2⟩ := insK_keys (f := f) (k := k) (g := fun c => (idT h c : Int)) hid l c
  have hk0 := insK_len (f := f) (k := k) l c
  rw [← hpk] at hk2 hk0
  have hbad : ∀ j ∈ idsK (idsT h) (insK f k c l).1 (insK f k c l).2, j ≠ i ∧ j < Y.1.length := fun j hj => by
    have := hinsids.subset hj
    rcases List.mem_append.1 this with q | q
    · exact ⟨fun e => hni (e ▸ q), Nat.lt_of_lt_of_le (hkl j q) p4⟩
    · rw [List.mem_range'_1] at q
      exact ⟨by omega, by omega⟩
  have hX : insT (h + 1) (i, c, l) k v ps.length = cutK i (ps.length + h + 1) (insK f k c l).1 (insK f k c l).2 := by rw [hf]; rfl
  have hp' : ps.getD (idT (h + 1) (i, c, l)) noPg = ⟨false, l.map (·.1), (idT h c : Int) :: l.map (fun x => (idT h x.2 : Int)), hi, rs.headD (-1)⟩ := getD_of hp
  have hA : addP (h + 1) ps (idT (h + 1) (i, c, l)) k v = upP Y i ⟨false, l.map (·.1), (idT h c : Int) :: l.map (fun x => (idT h x.2 : Int)), hi, rs.headD (-1)⟩ (cntK k (l.map (·.1))) := by
    rw [hY]
    conv => lhs; unfold addP
    rw [hp']
    simp only [hat, Int.toNat_natCast]
    rfl
  rw [hX, hA]
  obtain ⟨Z, hZ⟩ : ∃ Z, Z = insK f k c l := ⟨_, rfl⟩
  rw [← hZ] at hrep hinsids hk1 hk2 hk0 hbad ⊢
  obtain ⟨c', l'⟩ := Z
  simp only at hrep hinsids hk1 hk2 hk0 hbad ⊢
  obtain ⟨ps1, y⟩ := Y
  simp only at p2 p3 p4 p5 p6 hrep hinsids hbad
  rcases hfx : (f pk).2 with _ | ⟨s, d⟩
  · rw [hfx] at p2 hk2
    have hy : y = none := by simpa using p2
    subst hy
    have hlen := hk0 hfx
    have hcut : cutK i (ps.length + h + 1) c' l' = ((i, c', l'), none) := by
      unfold cutK
      split
      · rfl
      · rw [if_pos (by omega)]
    rw [hcut]
    show Put (h + 1) ps hi rs _ _ (ps1, none)
    refine ⟨⟨?_, hrep⟩, rfl, fun j hj hjn => p3 j hj (fun q => hjn ?_), p4, ?_, fun h => absurd rfl h⟩
    · show ps1[i]? = _
      rw [p3 i hil (fun q => hni (hsub.subset q)), hp, ← hk2.1, ← hk2.2, ← hk1]
    · rw [hids]; exact List.mem_cons_of_mem _ (hsub.subset q)
    · show (idsX _ _).Perm _
      simp only [idsX, List.append_nil]
      rw [hids]
      show (i :: idsK (idsT h) c' l').Perm _
      exact (hinsids.cons i)
  · rw [hfx] at p2 hk2
    have hy : y = some (s, idT h d) := by simpa using p2
    subst hy
    have hlen1 := p6 (by rw [hfx]; simp)
    have hi1 : i < ps1.length := by omega
    have hA2 : upP (ps1, some (s, idT h d)) i ⟨false, l.map (·.1), (idT h c : Int) :: l.map (fun x => (idT h x.2 : Int)), hi, rs.headD (-1)⟩ (cntK k (l.map (·.1))) =
        putP ps1 i ⟨false, l.map (·.1), (idT h c : Int) :: l.map (fun x => (idT h x.2 : Int)), hi, rs.headD (-1)⟩ (l'.map (·.1)) ((idT h c' : Int) :: l'.map (fun x => (idT h x.2 : Int))) := by
      rw [hk2.1, hk2.2, hk1]
      rfl
    rw [hA2]
    have hkl' : (l'.map (·.1)).length = l'.length := by simp
    by_cases h5 : l'.length ≤ 4
    · have hcut : cutK i (ps.length + h + 1) c' l' = ((i, c', l'), none) := by
        unfold cutK
        split
        · rfl
        · rw [if_pos h5]
      have hpp : putP ps1 i ⟨false, l.map (·.1), (idT h c : Int) :: l.map (fun x => (idT h x.2 : Int)), hi, rs.headD (-1)⟩ (l'.map (·.1)) ((idT h c' : Int) :: l'.map (fun x => (idT h x.2 : Int))) =
          (ps1.set i ⟨false, l'.map (·.1), (idT h c' : Int) :: l'.map (fun x => (idT h x.2 : Int)), hi, rs.headD (-1)⟩, none) := by
        unfold putP
        rw [if_pos (by omega)]
      rw [hcut, hpp]
      refine ⟨⟨?_, ?_⟩, rfl, fun j hj hjn => ?_, by simpa using p4, ?_, fun h => absurd rfl h⟩
      · show (ps1.set i _)[i]? = _
        rw [set_at hi1]
      · refine repK_frame (q := fun x => ∀ j ∈ idsT h x, j ≠ i) (fun hi rs x hq hr => repT_frame h hi rs x (fun j hj => set_off (hq j hj)) hr) l' hi rs.tail c' ?_ ?_ hrep
        · exact fun j hj => (hbad j (List.mem_append_left _ hj)).1
        · exact fun x hx j hj => (hbad j (List.mem_append_right _ (List.mem_flatten.2 ⟨_, List.mem_map.2 ⟨x, hx, rfl⟩, hj⟩))).1
      · rw [hids] at hjn
        rw [set_off (fun e => hjn (by rw [e]; simp))]
        exact p3 j hj (fun q => hjn (List.mem_cons_of_mem _ (hsub.subset q)))
      · show (idsX _ _).Perm (_ ++ List.range' ps.length ((ps1.set i _).length - ps.length))
        simp only [idsX, List.append_nil, List.length_set]
        rw [hids]
        show (i :: idsK (idsT h) c' l').Perm _
        exact (hinsids.cons i)
    · obtain ⟨⟨s1, d1⟩, ⟨s2, d2⟩, ⟨s3, d3⟩, r, rfl⟩ := three l' (by omega)
      have hcut : cutK i (ps.length + h + 1) c' ((s1, d1) :: (s2, d2) :: (s3, d3) :: r) = ((i, c', [(s1, d1), (s2, d2)]), some (s3, (ps.length + h + 1, d3, r))) := by
        unfold cutK
        show (if ((s1, d1) :: (s2, d2) :: (s3, d3) :: r).length ≤ 4 then _ else _) = _
        rw [if_neg h5]
        rfl
      have hpp : putP ps1 i ⟨false, l.map (·.1), (idT h c : Int) :: l.map (fun x => (idT h x.2 : Int)), hi, rs.headD (-1)⟩ (((s1, d1) :: (s2, d2) :: (s3, d3) :: r).map (·.1)) ((idT h c' : Int) :: ((s1, d1) :: (s2, d2) :: (s3, d3) :: r).map (fun x => (idT h x.2 : Int))) =
          (ps1.set i ⟨false, [s1, s2], [(idT h c' : Int), (idT h d1 : Int), (idT h d2 : Int)], s3, (ps1.length : Int)⟩ ++ [⟨false, r.map (·.1), (idT h d3 : Int) :: r.map (fun x => (idT h x.2 : Int)), hi, rs.headD (-1)⟩], some (s3, ps1.length)) := by
        unfold putP
        rw [if_neg (by omega)]
        rfl
      rw [hcut, hpp]
      obtain ⟨q1, q2, q3, q4⟩ := hrep
      obtain ⟨W, hW⟩ : ∃ W, W = ps1.set i ⟨false, [s1, s2], [(idT h c' : Int), (idT h d1 : Int), (idT h d2 : Int)], s3, (ps1.length : Int)⟩ ++ [⟨false, r.map (·.1), (idT h d3 : Int) :: r.map (fun x => (idT h x.2 : Int)), hi, rs.headD (-1)⟩] := ⟨_, rfl⟩
      have hWlo : ∀ j, j ≠ i → j < ps1.length → W[j]? = ps1[j]? := fun j hji hj => by rw [hW, app_lo (by simpa using hj), set_off hji]
      have hWi : W[i]? = some ⟨false, [s1, s2], [(idT h c' : Int), (idT h d1 : Int), (idT h d2 : Int)], s3, (ps1.length : Int)⟩ := by rw [hW, app_lo (by simpa using hi1), set_at hi1]
      have hWn : W[ps1.length]? = some ⟨false, r.map (·.1), (idT h d3 : Int) :: r.map (fun x => (idT h x.2 : Int)), hi, rs.headD (-1)⟩ := by rw [hW, List.getElem?_append_right (by simp)]; simp
      have hWl : W.length = ps1.length + 1 := by rw [hW]; simp
      rw [← hW]
      have hfr : ∀ (hi : Key) (rs : List Int) (x : Tb h), (∀ j ∈ idsT h x, j ≠ i ∧ j < ps1.length) → repT ps1 h hi rs x → repT W h hi rs x := fun hi rs x hq hr =>
        repT_frame h hi rs x (fun j hj => hWlo j (hq j hj).1 (hq j hj).2) hr
      have hbk : ∀ (x : Tb h), (x = c' ∨ x = d1 ∨ x = d2 ∨ x = d3 ∨ ∃ y ∈ r, x = y.2) → ∀ j ∈ idsT h x, j ≠ i ∧ j < ps1.length := fun x hx j hj => hbad j (by
        simp only [idsK, List.map_cons, List.flatten_cons, List.mem_append, List.mem_flatten, List.mem_map]
        rcases hx with rfl | rfl | rfl | rfl | ⟨y, hy, rfl⟩
        · exact .inl hj
        · exact .inr (.inl hj)
        · exact .inr (.inr (.inl hj))
        · exact .inr (.inr (.inr (.inl hj)))
        · exact .inr (.inr (.inr (.inr ⟨_, ⟨y, hy, rfl⟩, hj⟩))))
      refine ⟨⟨⟨?_, ?_⟩, ⟨?_, ?_⟩⟩, ?_, fun j hj hjn => ?_, by rw [hWl]; omega, ?_, fun _ => by rw [hWl]; omega⟩
      · show W[i]? = _
        rw [hWi]
        simp only [spine, List.headD_cons, hlen1]
        rfl
      · exact ⟨hfr _ _ _ (hbk c' (by simp)) q1, hfr _ _ _ (hbk d1 (by simp)) q2, hfr _ _ _ (hbk d2 (by simp)) q3⟩
      · show W[ps.length + h + 1]? = _
        rw [← hlen1, hWn]
      · refine repK_frame (q := fun x => ∀ j ∈ idsT h x, j ≠ i ∧ j < ps1.length) hfr r hi rs.tail d3 ?_ ?_ q4
        · exact hbk d3 (by simp)
        · exact fun x hx => hbk x.2 (.inr (.inr (.inr (.inr ⟨x, hx, rfl⟩))))
      · show some (s3, ps1.length) = some (s3, ps.length + h + 1)
        rw [hlen1]
      · rw [hids] at hjn
        rw [hWlo j (fun e => hjn (by rw [e]; simp)) (by omega)]
        exact p3 j hj (fun q => hjn (List.mem_cons_of_mem _ (hsub.subset q)))
      · rw [hWl, range_next _ _ p4, hids]
        show ((i :: idsK (idsT h) c' [(s1, d1), (s2, d2)]) ++ ((ps.length + h + 1) :: idsK (idsT h) d3 r)).Perm _
        rw [← hlen1]
        have hperm := (hinsids.cons i)
        have e : (i :: idsK (idsT h) c' [(s1, d1), (s2, d2)]) ++ (ps1.length :: idsK (idsT h) d3 r) = (i :: idsK (idsT h) c' [(s1, d1), (s2, d2)]) ++ ([ps1.length] ++ idsK (idsT h) d3 r) := rfl
        rw [e]
        refine (List.Perm.append_left _ (List.perm_append_comm (l₁ := [ps1.length]) (l₂ := idsK (idsT h) d3 r))).trans ?_
        rw [← List.append_assoc]
        have e2 : (i :: idsK (idsT h) c' [(s1, d1), (s2, d2)]) ++ idsK (idsT h) d3 r = i :: idsK (idsT h) c' ((s1, d1) :: (s2, d2) :: (s3, d3) :: r) := by simp [idsK]
        rw [e2, ← List.append_assoc]
        exact hperm.append_right _
/-- PUTTING IN IS WHAT IT IS AMONG THE PAGES. -/
theorem put_any : ∀ (h : Nat) (ps : List Pg) (hi : Key) (rs : List Int) (lo hb : Key) (t : Tb h) (k : Key) (v : Int), wfT h lo hb t → repT ps h hi rs t → (idsT h t).Nodup → (∀ i ∈ idsT h t, i < ps.length) →
    Put h ps hi rs t (insT h t k v ps.length) (addP h ps (idT h t) k v)
  | 0, ps, hi, rs, lo, hb, t, k, v, _, hr, _, _ => put_leaf ps hi rs t k v hr
  | h + 1, ps, hi, rs, lo, hb, t, k, v, hw, hr, hn, hl => put_node h (fun ps hi rs lo hb t k v => put_any h ps hi rs lo hb t k v) ps hi rs lo hb t k v hw hr hn hl
end Go.Proofs.Ythoijpaoegojfaa
