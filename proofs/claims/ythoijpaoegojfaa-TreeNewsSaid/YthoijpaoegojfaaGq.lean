/- Plain trees and their pages: what stands where, and what putting in does to the pages. No program in sight. -/
import Derived.Test.YthoijpaoegojfaaGp
namespace Go.Proofs.Ythoijpaoegojfaa
set_option linter.unusedVariables false
set_option linter.unusedSimpArgs false
/-- The place of a tree's topmost page; the leftmost places, level by level; all places. -/
def idT : (h : Nat) → Tb h → Nat
  | 0, t => t.1
  | _ + 1, t => t.1
def spine : (h : Nat) → Tb h → List Int
  | 0, t => [(t.1 : Int)]
  | h + 1, t => (t.1 : Int) :: spine h t.2.1
def idsT : (h : Nat) → Tb h → List Nat
  | 0, t => [t.1]
  | h + 1, t => t.1 :: (idsT h t.2.1 ++ (t.2.2.map fun x => idsT h x.2).flatten)
theorem spine_head (h : Nat) (t : Tb h) : (spine h t).headD (-1) = (idT h t : Int) := by cases h <;> rfl
theorem idT_mem (h : Nat) (t : Tb h) : idT h t ∈ idsT h t := by cases h <;> simp [idT, idsT]
/-- Kids, each with its bound and the pages to its right. -/
def repK {α : Type} (R : Key → List Int → α → Prop) (sp : α → List Int) (hi : Key) (rs : List Int) : α → List (Key × α) → Prop
  | c, [] => R hi rs c
  | c, (s, d) :: r => R s (sp d) c ∧ repK R sp hi rs d r
/-- The pages ps hold a tree whose topmost page has the bound hi, and the pages rs to its right. -/
def repT (ps : List Pg) : (h : Nat) → Key → List Int → Tb h → Prop
  | 0, hi, rs, t => ps[t.1]? = some ⟨true, t.2.map (·.1), t.2.map (·.2), hi, rs.headD (-1)⟩
  | h + 1, hi, rs, t => ps[t.1]? = some ⟨false, t.2.2.map (·.1), (idT h t.2.1 : Int) :: t.2.2.map (fun x => (idT h x.2 : Int)), hi, rs.headD (-1)⟩ ∧
      repK (repT ps h) (spine h) hi rs.tail t.2.1 t.2.2
theorem repK_frame {α : Type} {R R' : Key → List Int → α → Prop} {sp : α → List Int} {q : α → Prop} (h : ∀ hi rs c, q c → R hi rs c → R' hi rs c) : ∀ (l : List (Key × α)) (hi : Key) (rs : List Int) (c : α), q c → (∀ x ∈ l, q x.2) → repK R sp hi rs c l → repK R' sp hi rs c l
  | [], hi, rs, c, hc, _, hr => h _ _ _ hc hr
  | (s, d) :: r, hi, rs, c, hc, hl, hr => ⟨h _ _ _ hc hr.1, repK_frame h r hi rs d (hl (s, d) (by simp)) (fun x hx => hl x (by simp [hx])) hr.2⟩
/-- A tree hangs on its own pages alone. -/
theorem repT_frame {ps ps' : List Pg} : ∀ (h : Nat) (hi : Key) (rs : List Int) (t : Tb h), (∀ i ∈ idsT h t, ps'[i]? = ps[i]?) → repT ps h hi rs t → repT ps' h hi rs t
  | 0, hi, rs, t, hf, hr => by
    unfold repT at hr ⊢
    rw [hf _ (by simp [idsT])]
    exact hr
  | h + 1, hi, rs, t, hf, hr => by
    obtain ⟨h1, h2⟩ := hr
    refine ⟨by rw [hf _ (by simp [idsT])]; exact h1, ?_⟩
    refine repK_frame (q := fun c => ∀ i ∈ idsT h c, ps'[i]? = ps[i]?) (fun hi rs c hq hr => repT_frame h hi rs c hq hr) t.2.2 hi rs.tail t.2.1 ?_ ?_ h2
    · intro i hi'
      exact hf i (by simp [idsT, hi'])
    · intro x hx i hi'
      refine hf i ?_
      simp only [idsT, List.mem_cons, List.mem_append, List.mem_flatten, List.mem_map]
      exact .inr (.inr ⟨_, ⟨x, hx, rfl⟩, hi'⟩)
theorem repT_lt {ps : List Pg} : ∀ (h : Nat) (hi : Key) (rs : List Int) (t : Tb h), repT ps h hi rs t → idT h t < ps.length
  | 0, hi, rs, t, hr => (List.getElem?_eq_some_iff.1 hr).1
  | h + 1, hi, rs, t, hr => (List.getElem?_eq_some_iff.1 hr.1).1
/-- The kid into which a key goes. -/
def pickK {α : Type} (k : Key) : α → List (Key × α) → α
  | c, [] => c
  | c, (s, d) :: r => if kl k s then c else pickK k d r
/-- How many keys are not above one. -/
def cntK (k : Key) : List Key → Nat
  | [] => 0
  | s :: r => if kl k s then 0 else cntK k r + 1
theorem pickK_at {α : Type} (k : Key) (g : α → Int) : ∀ (l : List (Key × α)) (c : α), (g c :: l.map (fun x => g x.2)).getD (cntK k (l.map (·.1))) 0 = g (pickK k c l)
  | [], c => rfl
  | (s, d) :: r, c => by
    by_cases h : kl k s = true
    · simp [cntK, pickK, h]
    · have := pickK_at k g r d
      simp only [List.map_cons, cntK, pickK, h, Bool.false_eq_true, if_false]
      rw [← this]
      simp [List.getD]
theorem pickK_mem {α : Type} (k : Key) : ∀ (l : List (Key × α)) (c : α), pickK k c l = c ∨ ∃ x ∈ l, pickK k c l = x.2
  | [], c => .inl rfl
  | (s, d) :: r, c => by
    by_cases h : kl k s = true
    · exact .inl (by simp [pickK, h])
    · have e : pickK k c ((s, d) :: r) = pickK k d r := by simp [pickK, h]
      rw [e]
      rcases pickK_mem k r d with q | ⟨x, hx, q⟩
      · exact .inr ⟨(s, d), by simp, q⟩
      · exact .inr ⟨x, by simp [hx], q⟩
/-- What a result comes to among the pages. -/
def AfterX {α : Type} (R : Key → List Int → α → Prop) (sp : α → List Int) (hi : Key) (rs : List Int) (x : α × Option (Key × α)) : Prop :=
  match x.2 with
  | none => R hi rs x.1
  | some d => R d.1 (sp d.2) x.1 ∧ R hi rs d.2
theorem insK_spine {α : Type} {sp : α → List Int} {f : α → α × Option (Key × α)} {k : Key} (hs : ∀ c, sp (f c).1 = sp c) : ∀ (l : List (Key × α)) (c : α), sp (insK f k c l).1 = sp c
  | [], c => by
    unfold insK
    have := hs c
    rcases h : f c with ⟨c', _ | d⟩ <;> rw [h] at this <;> exact this
  | (s, d) :: r, c => by
    by_cases g : kl k s = true
    · have := hs c
      simp only [insK, g, if_true]
      rcases h : f c with ⟨c', _ | e⟩ <;> rw [h] at this <;> exact this
    · simp [insK, g]
theorem insK_rep {α : Type} {R R' : Key → List Int → α → Prop} {sp : α → List Int} {f : α → α × Option (Key × α)} {k : Key} {ids : α → List Nat}
    (hs : ∀ c, sp (f c).1 = sp c) (pk : α) (hfr : ∀ hi rs c, (∀ i ∈ ids c, i ∉ ids pk) → R hi rs c → R' hi rs c)
    (hf : ∀ hi rs, R hi rs pk → AfterX R' sp hi rs (f pk)) :
    ∀ (l : List (Key × α)) (c : α) (hi : Key) (rs : List Int), pickK k c l = pk → (ids c ++ (l.map fun x => ids x.2).flatten).Nodup → repK R sp hi rs c l → repK R' sp hi rs (insK f k c l).1 (insK f k c l).2
  | [], c, hi, rs, hp, _, hr => by
    have hc : c = pk := hp
    subst hc
    have := hf hi rs hr
    unfold AfterX at this
    unfold insK
    rcases h : f c with ⟨c', _ | ⟨s, d⟩⟩ <;> rw [h] at this <;> exact this
  | (s, d) :: r, c, hi, rs, hp, hn, hr => by
    obtain ⟨h1, h2⟩ := hr
    rw [List.map_cons, List.flatten_cons, List.nodup_append] at hn
    obtain ⟨n1, n2, n3⟩ := hn
    by_cases g : kl k s = true
    · have hc : c = pk := by rw [← hp]; simp [pickK, g]
      subst hc
      have hrest : repK R' sp hi rs d r := by
        refine repK_frame (q := fun x => ∀ i ∈ ids x, i ∉ ids c) (fun hi rs x hq hr => hfr hi rs x hq hr) r hi rs d ?_ ?_ h2
        · intro i hi' hic
          exact n3 i hic i (List.mem_append_left _ hi') rfl
        · intro x hx i hi' hic
          exact n3 i hic i (List.mem_append_right _ (List.mem_flatten.2 ⟨_, List.mem_map.2 ⟨x, hx, rfl⟩, hi'⟩)) rfl
      have := hf s (sp d) h1
      unfold AfterX at this
      simp only [insK, g, if_true]
      rcases h : f c with ⟨c', _ | ⟨s', d'⟩⟩
      · rw [h] at this
        exact ⟨this, hrest⟩
      · rw [h] at this
        exact ⟨this.1, this.2, hrest⟩
    · have hp' : pickK k d r = pk := by rw [← hp]; simp [pickK, g]
      have ih := insK_rep hs pk hfr hf r d hi rs hp' n2 h2
      simp only [insK, g, Bool.false_eq_true, if_false]
      refine ⟨?_, ih⟩
      rw [insK_spine hs]
      refine hfr _ _ _ (fun i hic hip => ?_) h1
      have hin : i ∈ ids d ++ (r.map fun x => ids x.2).flatten := by
        rcases pickK_mem k r d with q | ⟨x, hx, q⟩
        · rw [← hp', q] at hip; exact List.mem_append_left _ hip
        · rw [← hp', q] at hip; exact List.mem_append_right _ (List.mem_flatten.2 ⟨_, List.mem_map.2 ⟨x, hx, rfl⟩, hip⟩)
      exact n3 i hic i hin rfl
/-- All places below kids; and in a result. -/
def idsK {α : Type} (ids : α → List Nat) (c : α) (l : List (Key × α)) : List Nat := ids c ++ (l.map fun x => ids x.2).flatten
def idsX {α : Type} (ids : α → List Nat) (x : α × Option (Key × α)) : List Nat := ids x.1 ++ match x.2 with | none => [] | some d => ids d.2
theorem insK_ids {α : Type} {f : α → α × Option (Key × α)} {k : Key} {ids : α → List Nat} {new : List Nat} : ∀ (l : List (Key × α)) (c : α), (idsX ids (f (pickK k c l))).Perm (ids (pickK k c l) ++ new) →
    (idsK ids (insK f k c l).1 (insK f k c l).2).Perm (idsK ids c l ++ new)
  | [], c, h => by
    unfold insK
    simp only [pickK] at h
    rcases hf : f c with ⟨c', _ | ⟨s, d⟩⟩ <;> rw [hf] at h <;> simpa [idsX, idsK] using h
  | (s, d) :: r, c, h => by
    by_cases g : kl k s = true
    · simp only [pickK, g, if_true] at h
      simp only [insK, g, if_true]
      have hsw : ∀ X Y : List Nat, X.Perm (ids c ++ new) → (X ++ Y).Perm (ids c ++ Y ++ new) := fun X Y hX =>
        (hX.append_right Y).trans (by
          rw [List.append_assoc, List.append_assoc]
          exact (List.perm_append_comm (l₁ := new) (l₂ := Y)).append_left _)
      rcases hf : f c with ⟨c', _ | ⟨s', d'⟩⟩
      · rw [hf] at h
        have := hsw _ ((((s, d) :: r).map fun x => ids x.2).flatten) h
        simpa [idsX, idsK] using this
      · rw [hf] at h
        have := hsw _ ((((s, d) :: r).map fun x => ids x.2).flatten) h
        simpa [idsX, idsK] using this
    · have hp : pickK k c ((s, d) :: r) = pickK k d r := by simp [pickK, g]
      rw [hp] at h
      have ih := insK_ids r d h
      simp only [insK, g, Bool.false_eq_true, if_false]
      have := ih.append_left (ids c)
      simpa [idsK] using this
def insAt {α : Type} (l : List α) (i : Nat) (x : α) : List α := l.take i ++ x :: l.drop i
theorem insAt_len {α : Type} (l : List α) (i : Nat) (x : α) : (insAt l i x).length = l.length + 1 := by
  simp [insAt]
  omega
theorem insE_keys (k : Key) (v : Int) : ∀ l : List (Key × Int), (insE k v l).map (·.1) = insAt (l.map (·.1)) (cntK k (l.map (·.1))) k ∧ (insE k v l).map (·.2) = insAt (l.map (·.2)) (cntK k (l.map (·.1))) v
  | [] => by simp [insE, insAt, cntK]
  | e :: l => by
    obtain ⟨h1, h2⟩ := insE_keys k v l
    by_cases g : kl k e.1 = true
    · simp [insE, g, insAt, cntK]
    · simp only [insE, g, Bool.false_eq_true, if_false, List.map_cons, cntK]
      rw [h1, h2]
      exact ⟨rfl, rfl⟩
theorem insK_keys {α : Type} {f : α → α × Option (Key × α)} {k : Key} {g : α → Int} (hg : ∀ c, g (f c).1 = g c) : ∀ (l : List (Key × α)) (c : α),
    g (insK f k c l).1 = g c ∧ match (f (pickK k c l)).2 with
      | none => (insK f k c l).2.map (·.1) = l.map (·.1) ∧ (insK f k c l).2.map (fun x => g x.2) = l.map fun x => g x.2
      | some d => (insK f k c l).2.map (·.1) = insAt (l.map (·.1)) (cntK k (l.map (·.1))) d.1 ∧ (insK f k c l).2.map (fun x => g x.2) = insAt (l.map fun x => g x.2) (cntK k (l.map (·.1))) (g d.2)
  | [], c => by
    have := hg c
    unfold insK
    simp only [pickK]
    rcases hf : f c with ⟨c', _ | ⟨s, d⟩⟩ <;> rw [hf] at this <;> simp [this, insAt, cntK]
  | (s, d) :: r, c => by
    by_cases q : kl k s = true
    · have := hg c
      simp only [insK, pickK, q, if_true]
      rcases hf : f c with ⟨c', _ | ⟨s', d'⟩⟩ <;> rw [hf] at this <;> simp [this, insAt, cntK, q]
    · obtain ⟨h1, h2⟩ := insK_keys (k := k) hg r d
      simp only [insK, pickK, q, Bool.false_eq_true, if_false]
      refine ⟨trivial, ?_⟩
      rcases hf : (f (pickK k d r)).2 with _ | e
      · rw [hf] at h2
        simp [h1, h2.1, h2.2]
      · rw [hf] at h2
        simp only [List.map_cons, cntK, q, Bool.false_eq_true, if_false]
        rw [h2.1, h2.2, h1]
        exact ⟨rfl, rfl⟩
/-- A page into which a key was put: as it is, or split. -/
def putP (ps : List Pg) (i : Nat) (p : Pg) (ks : List Key) (kids : List Int) : List Pg × Option (Key × Nat) :=
  if ks.length ≤ 4 then (ps.set i ⟨p.leaf, ks, kids, p.high, p.next⟩, none)
  else (ps.set i ⟨p.leaf, ks.take 2, kids.take (if p.leaf then 2 else 3), ks.getD 2 [], (ps.length : Int)⟩ ++ [⟨p.leaf, ks.drop (if p.leaf then 2 else 3), kids.drop (if p.leaf then 2 else 3), p.high, p.next⟩], some (ks.getD 2 [], ps.length))
def noPg : Pg := ⟨false, [], [], [], 0⟩
/-- What a page takes from below. -/
def upP (Y : List Pg × Option (Key × Nat)) (i : Nat) (p : Pg) (n : Nat) : List Pg × Option (Key × Nat) :=
  match Y with
  | (ps1, none) => (ps1, none)
  | (ps1, some (up, rt)) => putP ps1 i p (insAt p.keys n up) (insAt p.kids (n + 1) (rt : Int))
/-- What putting in does to the pages of a tree of height h. -/
def addP : Nat → List Pg → Nat → Key → Int → List Pg × Option (Key × Nat)
  | 0, ps, i, k, v => putP ps i (ps.getD i noPg) (insAt (ps.getD i noPg).keys (cntK k (ps.getD i noPg).keys) k) (insAt (ps.getD i noPg).kids (cntK k (ps.getD i noPg).keys) v)
  | h + 1, ps, i, k, v => upP (addP h ps ((ps.getD i noPg).kids.getD (cntK k (ps.getD i noPg).keys) 0).toNat k v) i (ps.getD i noPg) (cntK k (ps.getD i noPg).keys)
/-- Putting in keeps the leftmost places. -/
theorem insT_spine : ∀ (h : Nat) (t : Tb h) (k : Key) (v : Int) (n : Nat), spine h (insT h t k v n).1 = spine h t ∧ idT h (insT h t k v n).1 = idT h t
  | 0, t, k, v, n => by
    show spine 0 (cutE _ _ _).1 = _ ∧ idT 0 (cutE _ _ _).1 = _
    unfold cutE
    split <;> exact ⟨rfl, rfl⟩
  | h + 1, t, k, v, n => by
    have hs := insK_spine (sp := spine h) (f := fun c => insT h c k v n) (k := k) (fun c => (insT_spine h c k v n).1) t.2.2 t.2.1
    show spine (h + 1) (cutK _ _ _ _).1 = _ ∧ idT (h + 1) (cutK _ _ _ _).1 = _
    unfold cutK
    split
    · exact ⟨by show (t.1 : Int) :: _ = _; rw [hs]; rfl, rfl⟩
    · split
      · exact ⟨by show (t.1 : Int) :: _ = _; rw [hs]; rfl, rfl⟩
      · exact ⟨by show (t.1 : Int) :: _ = _; rw [hs]; rfl, rfl⟩
end Go.Proofs.Ythoijpaoegojfaa
