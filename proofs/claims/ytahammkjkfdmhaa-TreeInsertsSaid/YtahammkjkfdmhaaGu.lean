/- Plain trees: level by level from the root on: pages that pass are those of a tree. No program in sight. -/
import Derived.Test.YtahammkjkfdmhaaGp
namespace Go.Proofs.Ytahammkjkfdmhaa
set_option linter.unusedVariables false
set_option linter.unusedSimpArgs false
/-- A place, and the bounds that those above give it. -/
abbrev Spot := Nat × Key × Key
/-- A page by itself. -/
structure OkPg (p : Pg) (many : Nat) : Prop where
  keys : p.keys.length ≤ 4
  high : p.high.length ≤ 100
  next : -1 ≤ p.next ∧ p.next < many
  last : p.next = -1 ↔ p.high = []
  kids : p.kids.length = if p.leaf then p.keys.length else p.keys.length + 1
  some : p.leaf = false → 1 ≤ p.keys.length
  okk : ∀ k ∈ p.keys, okK k ∧ (p.high = [] ∨ kl k p.high = true)
  rise : p.keys.Pairwise fun a b => kl a b = true
  kid : ∀ c ∈ p.kids, 0 ≤ c ∧ (p.leaf = false → c < many)
/-- The kids of a page with their bounds. -/
def kidsB (lo hi : Key) : List Int → List Key → List Spot
  | [], _ => []
  | c :: cs, [] => (c.toNat, lo, hi) :: kidsB hi hi cs []
  | c :: cs, s :: ss => (c.toNat, lo, s) :: kidsB s hi cs ss
def downP (ps : List Pg) (x : Spot) : List Spot := if (ps.getD x.1 noPg).leaf then [] else kidsB x.2.1 x.2.2 (ps.getD x.1 noPg).kids (ps.getD x.1 noPg).keys
def downL (ps : List Pg) (l : List Spot) : List Spot := l.flatMap (downP ps)
/-- What stands at the right. -/
def rightOf : List Spot → Int
  | [] => -1
  | y :: _ => (y.1 : Int)
/-- A level. -/
def okLv (ps : List Pg) (leaf : Bool) : List Spot → Prop
  | [] => True
  | x :: r => ((ps.getD x.1 noPg).next = rightOf r ∧ (ps.getD x.1 noPg).high = x.2.2 ∧ (ps.getD x.1 noPg).leaf = leaf ∧ (∀ k r, (ps.getD x.1 noPg).keys = k :: r → kl k x.2.1 = false)) ∧ okLv ps leaf r
/-- The levels from one on, with all their places. -/
inductive Levels (ps : List Pg) : List Spot → List Nat → Prop
  | done : Levels ps [] []
  | more (l : List Spot) (leaf : Bool) (a : List Nat) : l ≠ [] → okLv ps leaf l → Levels ps (downL ps l) a → Levels ps l (l.map (·.1) ++ a)
/-- The spine of the first of some trees. -/
def rsOf (h : Nat) (rs : List Int) : List (Tb h) → List Int
  | [] => rs
  | d :: _ => spine h d
/-- Trees at the spots. -/
def Stand (ps : List Pg) (h : Nat) (rs : List Int) : List Spot → List (Tb h) → Prop
  | [], ts => ts = []
  | x :: r, ts => ∃ t ts', ts = t :: ts' ∧ (idT h t = x.1 ∧ wfT h x.2.1 x.2.2 t ∧ repT ps h x.2.2 (rsOf h rs ts') t) ∧ Stand ps h rs r ts'
theorem stand_app {ps : List Pg} {h : Nat} {rs : List Int} {b : List Spot} : ∀ {a : List Spot} {ts : List (Tb h)}, Stand ps h rs (a ++ b) ts → ∃ ta tb, ts = ta ++ tb ∧ Stand ps h (rsOf h rs tb) a ta ∧ Stand ps h rs b tb
  | [], ts, hs => ⟨[], ts, rfl, rfl, hs⟩
  | x :: a, ts, hs => by
    obtain ⟨t, ts', rfl, h1, h2⟩ := hs
    obtain ⟨ta, tb, rfl, h3, h4⟩ := stand_app h2
    refine ⟨t :: ta, tb, rfl, ⟨t, ta, rfl, ⟨h1.1, h1.2.1, ?_⟩, h3⟩, h4⟩
    have e : rsOf h rs (ta ++ tb) = rsOf h (rsOf h rs tb) ta := by cases ta <;> rfl
    rw [← e]
    exact h1.2.2
/-- The places below some trees. -/
def idsF (h : Nat) (ts : List (Tb h)) : List Nat := (ts.map (idsT h)).flatten
theorem idsF_app (h : Nat) (a b : List (Tb h)) : idsF h (a ++ b) = idsF h a ++ idsF h b := by simp [idsF]
/-- Trees at the kids of a page are the kids of a tree. -/
theorem stand_kids {ps : List Pg} {h : Nat} {rs : List Int} {hi : Key} : ∀ (ss : List Key) (cs : List Int) (lo : Key) (ts : List (Tb h)), cs.length = ss.length + 1 → (∀ c ∈ cs, 0 ≤ c) →
    (∀ k ∈ ss, okK k ∧ (hi = [] ∨ kl k hi = true)) → ss.Pairwise (fun a b => kl a b = true) → (∀ k r, ss = k :: r → kl k lo = false) → Stand ps h rs (kidsB lo hi cs ss) ts →
    ∃ d l, kwT (wfT h) lo hi d l ∧ repK (repT ps h) (spine h) hi rs d l ∧ l.map (·.1) = ss ∧ (idT h d : Int) :: l.map (fun x => (idT h x.2 : Int)) = cs ∧ ts = d :: l.map (·.2)
  | [], cs, lo, ts, hl, hc, _, _, _, hs => by
    obtain ⟨c, rfl⟩ : ∃ c, cs = [c] := by
      match cs, hl with
      | [c], _ => exact ⟨c, rfl⟩
    obtain ⟨t, ts', rfl, ⟨h1, h2, h3⟩, h4⟩ := hs
    have h4' : ts' = [] := h4
    subst h4'
    refine ⟨t, [], h2, h3, rfl, ?_, rfl⟩
    have := hc c (by simp)
    simp only [List.map_nil]
    rw [h1]
    simp only
    rw [Int.toNat_of_nonneg this]
  | s :: ss, cs, lo, ts, hl, hc, hk, hp, hlo, hs => by
    obtain ⟨c, cs', rfl⟩ : ∃ c cs', cs = c :: cs' := by
      match cs, hl with
      | c :: cs', _ => exact ⟨c, cs', rfl⟩
    obtain ⟨t, ts', rfl, ⟨h1, h2, h3⟩, h4⟩ := hs
    rw [List.pairwise_cons] at hp
    obtain ⟨d, l, g1, g2, g3, g4, g5⟩ := stand_kids ss cs' s ts' (by simpa using hl) (fun c hc' => hc c (by simp [hc'])) (fun k hk' => hk k (by simp [hk'])) hp.2
      (fun k r e => kl_not (hp.1 k (by simp [e]))) h4
    subst g5
    have hs1 := hk s (by simp)
    refine ⟨t, (s, d) :: l, ⟨h2, hs1.1, ⟨hlo s ss rfl, hs1.2⟩, fun x hx => hp.1 _ (by rw [← g3]; exact List.mem_map.2 ⟨x, hx, rfl⟩), g1⟩, ⟨h3, g2⟩, by simp [g3], ?_, rfl⟩
    have := hc c (by simp)
    simp only [List.map_cons]
    rw [← g4, h1]
    simp only
    rw [Int.toNat_of_nonneg this]
theorem stand_head {ps : List Pg} {h : Nat} {rs : List Int} {l : List Spot} {ts : List (Tb h)} (hs : Stand ps h rs l ts) (hl : l ≠ []) : (rsOf h rs ts).headD (-1) = rightOf l := by
  cases l with
  | nil => exact absurd rfl hl
  | cons x r =>
    obtain ⟨t, ts', rfl, ⟨h1, _, _⟩, _⟩ := hs
    show (spine h t).headD (-1) = _
    rw [spine_head, h1]
    rfl
/-- FROM A LEVEL TO THE ONE ABOVE. -/
theorem stand_up {ps : List Pg} {h : Nat} (hok : ∀ p ∈ ps, OkPg p ps.length) : ∀ (l : List Spot) (ts : List (Tb h)), (∀ x ∈ l, x.1 < ps.length) → okLv ps false l → Stand ps h [] (downL ps l) ts →
    ∃ us : List (Tb (h + 1)), Stand ps (h + 1) [] l us ∧ (rsOf (h + 1) [] us).tail = rsOf h [] ts ∧ (rsOf (h + 1) [] us).headD (-1) = rightOf l ∧ (idsF (h + 1) us).Perm (l.map (·.1) ++ idsF h ts)
  | [], ts, _, _, hs => by
    have : ts = [] := hs
    subst this
    exact ⟨[], rfl, rfl, rfl, by simp [idsF]⟩
  | x :: r, ts, hlt, hlv, hs => by
    obtain ⟨⟨n1, n2, n3, n4⟩, hlv'⟩ := hlv
    have hx := hlt x (by simp)
    obtain ⟨p, hp⟩ : ∃ p, ps[x.1]? = some p := ⟨_, List.getElem?_eq_getElem hx⟩
    have hpd := getD_of hp
    have hdown : downL ps (x :: r) = kidsB x.2.1 x.2.2 p.kids p.keys ++ downL ps r := by
      show downP ps x ++ _ = _
      unfold downP
      rw [n3, if_neg (by simp), hpd]
      rfl
    rw [hpd] at n1 n2 n3 n4
    have ok := hok p (List.mem_of_getElem? hp)
    rw [hdown] at hs
    obtain ⟨ta, tb, rfl, h1, h2⟩ := stand_app hs
    obtain ⟨us, u1, u2, u3, u4⟩ := stand_up hok r tb (fun y hy => hlt y (by simp [hy])) hlv' h2
    have okids := ok.kids
    rw [n3, if_neg (by simp)] at okids
    obtain ⟨d, l, g1, g2, g3, g4, rfl⟩ := stand_kids p.keys p.kids x.2.1 ta okids (fun c hc => (ok.kid c hc).1) (by rw [← n2]; exact ok.okk) ok.rise n4 h1
    have hlk : l.length = p.keys.length := by rw [← g3]; simp
    refine ⟨(x.1, d, l) :: us, ⟨(x.1, d, l), us, rfl, ⟨rfl, ⟨?_, ?_, g1⟩, ⟨?_, ?_⟩⟩, u1⟩, rfl, rfl, ?_⟩
    · show 1 ≤ l.length
      rw [hlk]; exact ok.some n3
    · show l.length ≤ 4
      rw [hlk]; exact ok.keys
    · show ps[x.1]? = some ⟨false, l.map (·.1), (idT h d : Int) :: l.map (fun x => (idT h x.2 : Int)), x.2.2, (rsOf (h + 1) [] us).headD (-1)⟩
      rw [hp, u3, g3, g4, ← n1, ← n2, ← n3]
    · rw [u2]
      exact g2
    · show (idsT (h + 1) (x.1, d, l) ++ idsF (h + 1) us).Perm (x.1 :: r.map (·.1) ++ idsF h (d :: l.map (·.2) ++ tb))
      have e : idsT (h + 1) (x.1, d, l) = x.1 :: idsF h (d :: l.map (·.2)) := by simp [idsT, idsF, Function.comp_def]
      rw [e, idsF_app, List.cons_append, List.cons_append]
      refine List.Perm.cons _ ?_
      refine (u4.append_left _).trans ?_
      rw [← List.append_assoc, ← List.append_assoc]
      exact (List.perm_append_comm).append_right _
theorem stand_leaves {ps : List Pg} (hok : ∀ p ∈ ps, OkPg p ps.length) : ∀ (l : List Spot), (∀ x ∈ l, x.1 < ps.length) → okLv ps true l →
    ∃ us : List (Tb 0), Stand ps 0 [] l us ∧ (rsOf 0 [] us).headD (-1) = rightOf l ∧ idsF 0 us = l.map (·.1)
  | [], _, _ => ⟨[], rfl, rfl, rfl⟩
  | x :: r, hlt, hlv => by
    obtain ⟨⟨n1, n2, n3, n4⟩, hlv'⟩ := hlv
    obtain ⟨us, u1, u3, u4⟩ := stand_leaves hok r (fun y hy => hlt y (by simp [hy])) hlv'
    have hx := hlt x (by simp)
    obtain ⟨p, hp⟩ : ∃ p, ps[x.1]? = some p := ⟨_, List.getElem?_eq_getElem hx⟩
    have hpd := getD_of hp
    rw [hpd] at n1 n2 n3 n4
    have ok := hok p (List.mem_of_getElem? hp)
    have okids := ok.kids
    rw [n3, if_pos rfl] at okids
    have hz1 : (p.keys.zip p.kids).map (·.1) = p.keys := by rw [← List.unzip_fst, List.unzip_zip (by omega)]
    have hz2 : (p.keys.zip p.kids).map (·.2) = p.kids := by rw [← List.unzip_snd, List.unzip_zip (by omega)]
    have hlow : ∀ k ∈ p.keys, kl k x.2.1 = false := by
      rcases hks : p.keys with _ | ⟨s, ss⟩
      · simp
      · have h0 := n4 s ss hks
        have hr := ok.rise
        rw [hks, List.pairwise_cons] at hr
        intro k hk
        simp only [List.mem_cons] at hk
        rcases hk with rfl | hk
        · exact h0
        · exact kl_le_trans h0 (kl_not (hr.1 k hk))
    refine ⟨(x.1, p.keys.zip p.kids) :: us, ⟨(x.1, p.keys.zip p.kids), us, rfl, ⟨rfl, ⟨?_, ?_, ?_⟩, ?_⟩, u1⟩, rfl, ?_⟩
    · show (p.keys.zip p.kids).length ≤ 4
      rw [List.length_zip]
      have := ok.keys
      omega
    · show (p.keys.zip p.kids).Pairwise fun a b => kl a.1 b.1 = true
      have hr := ok.rise
      rw [← hz1, List.pairwise_map] at hr
      exact hr
    · intro e he
      obtain ⟨h1, h2⟩ := List.of_mem_zip (show (e.1, e.2) ∈ p.keys.zip p.kids from he)
      have hkk := ok.okk _ h1
      rw [n2] at hkk
      exact ⟨⟨hlow _ h1, hkk.2⟩, hkk.1, (ok.kid _ h2).1⟩
    · show ps[x.1]? = some ⟨true, (p.keys.zip p.kids).map (·.1), (p.keys.zip p.kids).map (·.2), x.2.2, (rsOf 0 [] us).headD (-1)⟩
      rw [hp, u3, hz1, hz2, ← n1, ← n2, ← n3]
    · show [x.1] ++ idsF 0 us = _
      rw [u4]
      rfl
end Go.Proofs.Ytahammkjkfdmhaa
/- Plain trees: pages that pass, level by level, are those of a tree. No program in sight. -/
namespace Go.Proofs.Ytahammkjkfdmhaa
set_option linter.unusedVariables false
set_option linter.unusedSimpArgs false
/-- The kids of a page; of a place. -/
def kidsP (p : Pg) : List Nat := if p.leaf then [] else p.kids.map Int.toNat
def kidsOf (ps : List Pg) (i : Nat) : List Nat := kidsP (ps.getD i noPg)
theorem kidsB_places : ∀ (cs : List Int) (ss : List Key) (lo hi : Key), (kidsB lo hi cs ss).map (·.1) = cs.map Int.toNat
  | [], _, _, _ => by simp [kidsB]
  | c :: cs, [], lo, hi => by simp [kidsB, kidsB_places cs]
  | c :: cs, s :: ss, lo, hi => by simp [kidsB, kidsB_places cs]
theorem downP_places (ps : List Pg) (x : Spot) : (downP ps x).map (·.1) = kidsOf ps x.1 := by
  unfold downP kidsOf kidsP
  split
  · rfl
  · rw [kidsB_places]
theorem downL_places (ps : List Pg) : ∀ l : List Spot, (downL ps l).map (·.1) = (l.map (·.1)).flatMap (kidsOf ps)
  | [] => rfl
  | x :: l => by
    have := downL_places ps l
    unfold downL at this ⊢
    rw [List.flatMap_cons, List.map_append, downP_places, this, List.map_cons, List.flatMap_cons]
theorem kidsOf_lt {ps : List Pg} (hok : ∀ p ∈ ps, OkPg p ps.length) {i j : Nat} (hi : i < ps.length) (hj : j ∈ kidsOf ps i) : j < ps.length := by
  have hp : ps[i]? = some ps[i] := List.getElem?_eq_getElem hi
  unfold kidsOf kidsP at hj
  rw [getD_of hp] at hj
  have ok := hok _ (List.getElem_mem hi)
  rcases hl : ps[i].leaf with _ | _
  · rw [hl, if_neg (by simp)] at hj
    obtain ⟨c, hc, rfl⟩ := List.mem_map.1 hj
    have h1 := ok.kid c hc
    have h2 := h1.2 hl
    omega
  · rw [hl, if_pos rfl] at hj
    simp at hj
theorem downL_lt {ps : List Pg} (hok : ∀ p ∈ ps, OkPg p ps.length) {l : List Spot} (hl : ∀ x ∈ l, x.1 < ps.length) : ∀ x ∈ downL ps l, x.1 < ps.length := by
  intro x hx
  have hm : x.1 ∈ (downL ps l).map (·.1) := List.mem_map.2 ⟨x, hx, rfl⟩
  rw [downL_places, List.mem_flatMap] at hm
  obtain ⟨i, hi, hj⟩ := hm
  obtain ⟨y, hy, rfl⟩ := List.mem_map.1 hi
  exact kidsOf_lt hok (hl y hy) hj
theorem okLv_leaf {ps : List Pg} {b : Bool} : ∀ {l : List Spot}, okLv ps b l → ∀ x ∈ l, (ps.getD x.1 noPg).leaf = b
  | [], _, x, hx => by simp at hx
  | y :: l, h, x, hx => by
    simp only [List.mem_cons] at hx
    rcases hx with rfl | hx
    · exact h.1.2.2.1
    · exact okLv_leaf h.2 x hx
theorem Levels.nil {ps : List Pg} {a : List Nat} (h : Levels ps [] a) : a = [] := by
  generalize hl : ([] : List Spot) = l at h
  cases h with
  | done => rfl
  | more _ _ _ h1 _ _ => exact absurd hl.symm h1
/-- FROM THE LEVELS TO TREES. -/
theorem levels_trees {ps : List Pg} (hok : ∀ p ∈ ps, OkPg p ps.length) : ∀ {l : List Spot} {a : List Nat}, Levels ps l a → l ≠ [] → (∀ x ∈ l, x.1 < ps.length) → ∃ (h : Nat) (us : List (Tb h)), Stand ps h [] l us ∧ (idsF h us).Perm a := by
  intro l a hL
  induction hL with
  | done => exact fun h => absurd rfl h
  | more l leaf a hne hlv hrest ih =>
    intro _ hlt
    cases leaf with
    | true =>
      obtain ⟨us, u1, _, u3⟩ := stand_leaves hok l hlt hlv
      have hd : downL ps l = [] := by
        unfold downL
        rw [List.flatMap_eq_nil_iff]
        intro x hx
        unfold downP
        rw [okLv_leaf hlv x hx, if_pos rfl]
      rw [hd] at hrest
      rw [hrest.nil, List.append_nil]
      exact ⟨0, us, u1, by rw [u3]⟩
    | false =>
      have hd : downL ps l ≠ [] := by
        obtain ⟨x, r, rfl⟩ := List.exists_cons_of_ne_nil hne
        intro e
        have hx := hlt x (by simp)
        have hp : ps[x.1]? = some ps[x.1] := List.getElem?_eq_getElem hx
        have hlf := okLv_leaf hlv x (by simp)
        have hpl := congrArg (List.map (·.1)) e
        rw [downL_places] at hpl
        simp only [List.map_cons, List.flatMap_cons, List.map_nil, List.append_eq_nil_iff] at hpl
        have h1 := hpl.1
        unfold kidsOf kidsP at h1
        rw [hlf, if_neg (by simp), getD_of hp, List.map_eq_nil_iff] at h1
        rw [getD_of hp] at hlf
        have h2 := (hok _ (List.getElem_mem hx)).kids
        rw [hlf, if_neg (by simp), h1] at h2
        simp at h2
      obtain ⟨h, ts, t1, t2⟩ := ih hd (downL_lt hok hlt)
      obtain ⟨us, u1, _, _, u4⟩ := stand_up hok l ts hlt hlv t1
      exact ⟨h + 1, us, u1, u4.trans (t2.append_left _)⟩
/-- Numbers below n, each but once, are not more than n. -/
theorem few : ∀ (n : Nat) (a : List Nat), a.Nodup → (∀ x ∈ a, x < n) → a.length ≤ n
  | 0, a, _, h => by
    cases a with
    | nil => simp
    | cons x a => exact absurd (h x (by simp)) (by omega)
  | n + 1, a, hn, h => by
    by_cases hm : n ∈ a
    · have hp := List.perm_cons_erase hm
      have hl := hp.length_eq
      have hnd := hp.nodup_iff.1 hn
      rw [List.nodup_cons] at hnd
      have := few n (a.erase n) hnd.2 (fun x hx => by
        have h1 := h x (List.mem_of_mem_erase hx)
        have h2 : x ≠ n := fun e => hnd.1 (e ▸ hx)
        omega)
      simp only [List.length_cons] at hl
      omega
    · have := few n a hn (fun x hx => by
        have h1 := h x hx
        have h2 : x ≠ n := fun e => hm (e ▸ hx)
        omega)
      omega
theorem all_of : ∀ (n : Nat) (a : List Nat), a.Nodup → (∀ x ∈ a, x < n) → a.length = n → a.Perm (List.range n)
  | 0, a, _, _, hl => by
    rw [List.length_eq_zero_iff.1 hl]
    exact List.Perm.refl _
  | n + 1, a, hn, h, hl => by
    by_cases hm : n ∈ a
    · have hp := List.perm_cons_erase hm
      have hle := hp.length_eq
      have hnd := hp.nodup_iff.1 hn
      rw [List.nodup_cons] at hnd
      simp only [List.length_cons] at hle
      have := all_of n (a.erase n) hnd.2 (fun x hx => by
        have h1 := h x (List.mem_of_mem_erase hx)
        have h2 : x ≠ n := fun e => hnd.1 (e ▸ hx)
        omega) (by omega)
      rw [List.range_succ]
      exact hp.trans ((this.cons n).trans (List.perm_append_singleton _ _).symm)
    · have := few n a hn (fun x hx => by
        have h1 := h x hx
        have h2 : x ≠ n := fun e => hm (e ▸ hx)
        omega)
      omega
/-- Kids of places that differ differ, if those of all pages do. -/
theorem some_kids {f : Nat → List Nat} {r n : Nat} {a : List Nat} (hall : (r :: (List.range n).flatMap f).Nodup) (hn : a.Nodup) (hlt : ∀ x ∈ a, x < n) : (r :: a.flatMap f).Nodup := by
  rw [List.nodup_cons] at hall ⊢
  obtain ⟨h1, h2⟩ := hall
  refine ⟨fun hm => ?_, ?_⟩
  · obtain ⟨x, hx, hr⟩ := List.mem_flatMap.1 hm
    exact h1 (List.mem_flatMap.2 ⟨x, List.mem_range.2 (hlt x hx), hr⟩)
  · unfold List.Nodup at h2 hn ⊢
    rw [List.pairwise_flatMap] at h2 ⊢
    refine ⟨fun x hx => h2.1 x (List.mem_range.2 (hlt x hx)), hn.imp_of_mem fun {x y} hx hy hxy => ?_⟩
    have hp := List.pairwise_iff_getElem.1 h2.2
    have hxn := hlt x hx
    have hyn := hlt y hy
    rcases Nat.lt_or_gt_of_ne hxy with q | q
    · have := hp x y (by simpa using hxn) (by simpa using hyn) q
      simp only [List.getElem_range] at this
      exact this
    · have := hp y x (by simpa using hyn) (by simpa using hxn) q
      simp only [List.getElem_range] at this
      exact fun u hu v hv e => this v hv u hu e.symm
theorem levels_once {ps : List Pg} (hok : ∀ p ∈ ps, OkPg p ps.length) {r : Nat} (hall : (r :: (List.range ps.length).flatMap (kidsOf ps)).Nodup) : ∀ {l : List Spot} {a : List Nat}, Levels ps l a → ∀ b : List Nat, (∀ x ∈ b, x < ps.length) → (∀ x ∈ l, x.1 < ps.length) →
    (b ++ l.map (·.1)).Nodup → (b ++ l.map (·.1)).Perm (r :: b.flatMap (kidsOf ps)) → (b ++ a).Nodup ∧ ∀ x ∈ b ++ a, x < ps.length := by
  intro l a hL
  induction hL with
  | done =>
    intro b hb _ hn _
    simp only [List.map_nil, List.append_nil] at hn ⊢
    exact ⟨hn, hb⟩
  | more l leaf a hne hlv hrest ih =>
    intro b hb hl hn hp
    have hb' : ∀ x ∈ b ++ l.map (·.1), x < ps.length := by
      intro x hx
      rcases List.mem_append.1 hx with q | q
      · exact hb x q
      · obtain ⟨y, hy, rfl⟩ := List.mem_map.1 q
        exact hl y hy
    have hp' : (b ++ l.map (·.1) ++ (downL ps l).map (·.1)).Perm (r :: (b ++ l.map (·.1)).flatMap (kidsOf ps)) := by
      rw [downL_places, List.flatMap_append]
      exact hp.append_right _
    have := ih (b ++ l.map (·.1)) hb' (downL_lt hok hl) (hp'.nodup_iff.2 (some_kids hall hn hb')) hp'
    rw [List.append_assoc] at this
    exact this
theorem all_kids (ps : List Pg) : (List.range ps.length).flatMap (kidsOf ps) = ps.flatMap kidsP := by
  have e : ps = (List.range ps.length).map fun i => ps.getD i noPg := by
    apply List.ext_getElem
    · simp
    · intro i h1 h2
      simp [List.getD, h1]
  conv => rhs; rw [e]
  rw [List.flatMap_map]
  rfl
/-- Pages that pass. -/
structure Pass (T : Tr) : Prop where
  root : 0 ≤ T.root ∧ T.root < T.pages.length
  page : ∀ p ∈ T.pages, OkPg p T.pages.length
  levels : ∃ a, Levels T.pages [(T.root.toNat, [], [])] a ∧ a.length = T.pages.length
  once : (T.root.toNat :: T.pages.flatMap kidsP).Nodup
/-- PAGES THAT PASS ARE THOSE OF A TREE. -/
theorem pass_reps {T : Tr} (hp : Pass T) : ∃ (h : Nat) (t : Tb h), Reps T h t := by
  obtain ⟨a, hL, hlen⟩ := hp.levels
  have hr := hp.root
  have hlt : ∀ x ∈ [((T.root.toNat, [], []) : Spot)], x.1 < T.pages.length := by
    intro x hx
    simp only [List.mem_singleton] at hx
    subst hx
    simp only
    omega
  obtain ⟨h, us, hs, hids⟩ := levels_trees hp.page hL (by simp) hlt
  obtain ⟨t, ts', rfl, ⟨h1, h2, h3⟩, h4⟩ := hs
  have h4' : ts' = [] := h4
  subst h4'
  have hall := hp.once
  rw [← all_kids] at hall
  obtain ⟨o1, o2⟩ := levels_once hp.page hall hL [] (by simp) hlt (by simp) (by simp)
  simp only [List.nil_append] at o1 o2
  refine ⟨h, t, ?_, h3, h2, ?_⟩
  · rw [h1]
    simp only
    omega
  · have e : idsF h [t] = idsT h t := by simp [idsF]
    rw [e] at hids
    exact hids.trans (all_of _ _ o1 o2 hlen)
end Go.Proofs.Ytahammkjkfdmhaa
/- Plain trees: the pages of a tree pass. No program in sight. -/
namespace Go.Proofs.Ytahammkjkfdmhaa
set_option linter.unusedVariables false
set_option linter.unusedSimpArgs false
theorem stand_join {ps : List Pg} {h : Nat} {rs : List Int} {b : List Spot} {tb : List (Tb h)} (hb : Stand ps h rs b tb) : ∀ {a : List Spot} {ta : List (Tb h)}, Stand ps h (rsOf h rs tb) a ta → Stand ps h rs (a ++ b) (ta ++ tb)
  | [], ta, ha => by
    have : ta = [] := ha
    subst this
    exact hb
  | x :: a, ta, ha => by
    obtain ⟨t, ts', rfl, h1, h2⟩ := ha
    refine ⟨t, ts' ++ tb, rfl, ⟨h1.1, h1.2.1, ?_⟩, stand_join hb h2⟩
    have e : rsOf h rs (ts' ++ tb) = rsOf h (rsOf h rs tb) ts' := by cases ts' <;> rfl
    rw [e]
    exact h1.2.2
theorem kids_stand {ps : List Pg} {h : Nat} {rs : List Int} : ∀ (l : List (Key × Tb h)) (lo hi : Key) (d : Tb h), kwT (wfT h) lo hi d l → repK (repT ps h) (spine h) hi rs d l →
    Stand ps h rs (kidsB lo hi ((idT h d : Int) :: l.map (fun x => (idT h x.2 : Int))) (l.map (·.1))) (d :: l.map (·.2))
  | [], lo, hi, d, hw, hr => ⟨d, [], rfl, ⟨by simp, hw, hr⟩, rfl⟩
  | (s, e) :: l, lo, hi, d, hw, hr => by
    obtain ⟨h1, h2, h3, h4, h5⟩ := hw
    have ih := kids_stand l s hi e h5 hr.2
    refine ⟨d, e :: l.map (fun x => x.2), rfl, ⟨by simp, h1, hr.1⟩, ?_⟩
    simp only [List.map_cons]
    exact ih
/-- The kids of trees. -/
def kidsF (h : Nat) (us : List (Tb (h + 1))) : List (Tb h) := us.flatMap fun u => u.2.1 :: u.2.2.map (·.2)
theorem rs_next (h : Nat) (us : List (Tb (h + 1))) : (rsOf (h + 1) [] us).tail = rsOf h [] (kidsF h us) := by
  cases us with
  | nil => rfl
  | cons u us => rfl
theorem rs_head {ps : List Pg} {h : Nat} {l : List Spot} {ts : List (Tb h)} (hs : Stand ps h [] l ts) : (rsOf h [] ts).headD (-1) = rightOf l := by
  cases l with
  | nil =>
    have : ts = [] := hs
    subst this
    rfl
  | cons x r => exact stand_head hs (by simp)
theorem kw_first {α : Type} {W : Key → Key → α → Prop} {lo hi : Key} {c : α} {l : List (Key × α)} (h : kwT W lo hi c l) : ∀ k r, l.map (·.1) = k :: r → kl k lo = false := by
  cases l with
  | nil => intro k r e; simp at e
  | cons x l =>
    obtain ⟨s, d⟩ := x
    intro k r e
    simp only [List.map_cons, List.cons.injEq] at e
    rw [← e.1]
    exact h.2.2.1.1
/-- FROM A LEVEL TO THE ONE BELOW. -/
theorem stand_down {ps : List Pg} {h : Nat} : ∀ {l : List Spot} {us : List (Tb (h + 1))}, Stand ps (h + 1) [] l us → okLv ps false l ∧ Stand ps h [] (downL ps l) (kidsF h us) ∧ (idsF (h + 1) us).Perm (l.map (·.1) ++ idsF h (kidsF h us))
  | [], us, hs => by
    have : us = [] := hs
    subst this
    exact ⟨trivial, rfl, by simp [idsF, kidsF]⟩
  | x :: r, us, hs => by
    obtain ⟨t, ts', rfl, ⟨h1, h2, hp, hk⟩, h4⟩ := hs
    obtain ⟨i1, i2, i3⟩ := stand_down h4
    obtain ⟨i, d, l⟩ := t
    have hi : i = x.1 := h1
    obtain ⟨w1, w4, hw⟩ := h2
    simp only at hp hk hw
    have hpd := getD_of hp
    rw [hi] at hpd
    refine ⟨⟨⟨?_, ?_, ?_, ?_⟩, i1⟩, ?_, ?_⟩
    · rw [hpd]; exact rs_head h4
    · rw [hpd]
    · rw [hpd]
    · rw [hpd]; exact kw_first hw
    · have hdown : downL ps (x :: r) = kidsB x.2.1 x.2.2 ((idT h d : Int) :: l.map (fun x => (idT h x.2 : Int))) (l.map (·.1)) ++ downL ps r := by
        show downP ps x ++ _ = _
        unfold downP
        rw [hpd, if_neg (by simp)]
        rfl
      rw [hdown]
      show Stand ps h [] _ ((d :: l.map (·.2)) ++ kidsF h ts')
      refine stand_join i2 ?_
      rw [rs_next] at hk
      exact kids_stand l _ _ d hw hk
    · show (idsT (h + 1) (i, d, l) ++ idsF (h + 1) ts').Perm (x.1 :: r.map (·.1) ++ idsF h ((d :: l.map (·.2)) ++ kidsF h ts'))
      have e : idsT (h + 1) (i, d, l) = x.1 :: idsF h (d :: l.map (·.2)) := by simp [idsT, idsF, Function.comp_def, hi]
      rw [e, idsF_app, List.cons_append, List.cons_append]
      refine List.Perm.cons _ ?_
      refine (i3.append_left _).trans ?_
      rw [← List.append_assoc, ← List.append_assoc]
      exact (List.perm_append_comm).append_right _
theorem leaves_down {ps : List Pg} : ∀ {l : List Spot} {us : List (Tb 0)}, Stand ps 0 [] l us → okLv ps true l ∧ idsF 0 us = l.map (·.1)
  | [], us, hs => by
    have : us = [] := hs
    subst this
    exact ⟨trivial, rfl⟩
  | x :: r, us, hs => by
    obtain ⟨t, ts', rfl, ⟨h1, h2, hp⟩, h4⟩ := hs
    obtain ⟨i1, i2⟩ := leaves_down h4
    have hi : t.1 = x.1 := h1
    have hpd := getD_of (show ps[t.1]? = _ from hp)
    rw [hi] at hpd
    refine ⟨⟨⟨?_, ?_, ?_, ?_⟩, i1⟩, ?_⟩
    · rw [hpd]; exact rs_head h4
    · rw [hpd]
    · rw [hpd]
    · rw [hpd]
      intro k r e
      have hm : k ∈ t.2.map (·.1) := by simp only at e; rw [e]; simp
      obtain ⟨y, hy, rfl⟩ := List.mem_map.1 hm
      exact (h2.2.2 y hy).1.1
    · show [t.1] ++ idsF 0 ts' = _
      rw [i2, hi]
      rfl
theorem stand_levels {ps : List Pg} : ∀ (h : Nat) {l : List Spot} {us : List (Tb h)}, Stand ps h [] l us → l ≠ [] → ∃ a, Levels ps l a ∧ a.Perm (idsF h us)
  | 0, l, us, hs, hne => by
    obtain ⟨h1, h2⟩ := leaves_down hs
    have hd : downL ps l = [] := by
      unfold downL
      rw [List.flatMap_eq_nil_iff]
      intro x hx
      unfold downP
      rw [okLv_leaf h1 x hx, if_pos rfl]
    refine ⟨l.map (·.1) ++ [], .more l true [] hne h1 (by rw [hd]; exact .done), ?_⟩
    rw [List.append_nil, h2]
  | h + 1, l, us, hs, hne => by
    obtain ⟨h1, h2, h3⟩ := stand_down hs
    have hd : downL ps l ≠ [] := by
      intro e
      rw [e] at h2
      have h2' : kidsF h us = [] := h2
      obtain ⟨x, r, rfl⟩ := List.exists_cons_of_ne_nil hne
      obtain ⟨t, ts', rfl, _, _⟩ := hs
      simp [kidsF] at h2'
    obtain ⟨a, a1, a2⟩ := stand_levels h h2 hd
    exact ⟨l.map (·.1) ++ a, .more l false a hne h1 a1, (a2.append_left _).trans h3.symm⟩
theorem levels_kids {ps : List Pg} : ∀ {l : List Spot} {a : List Nat}, Levels ps l a → a.Perm (l.map (·.1) ++ a.flatMap (kidsOf ps)) := by
  intro l a hL
  induction hL with
  | done => exact List.Perm.refl _
  | more l leaf a hne hlv hrest ih =>
    rw [downL_places] at ih
    refine List.Perm.append_left _ ?_
    rw [List.flatMap_append]
    exact ih
theorem spine_len : ∀ (h : Nat) (t : Tb h), (spine h t).length = h + 1
  | 0, t => rfl
  | h + 1, t => by
    have := spine_len h t.2.1
    simp [spine, this]
theorem spine_ids : ∀ (h : Nat) (t : Tb h), ∀ r ∈ spine h t, ∃ i ∈ idsT h t, r = (i : Int)
  | 0, t, r, hr => ⟨t.1, by simp [idsT], by simpa [spine] using hr⟩
  | h + 1, t, r, hr => by
    simp only [spine, List.mem_cons] at hr
    rcases hr with rfl | hr
    · exact ⟨t.1, by simp [idsT], rfl⟩
    · obtain ⟨i, hi, e⟩ := spine_ids h t.2.1 r hr
      exact ⟨i, by simp [idsT, hi], e⟩
/-- Bound and pages to the right go together. -/
def Edge (n h : Nat) (hi : Key) (rs : List Int) : Prop := (hi = [] ∧ rs = []) ∨ (okK hi ∧ rs.length = h + 1 ∧ ∀ r ∈ rs, 0 ≤ r ∧ r < (n : Int))
theorem Edge.page {n h : Nat} {hi : Key} {rs : List Int} (he : Edge n h hi rs) : hi.length ≤ 100 ∧ (-1 ≤ rs.headD (-1) ∧ rs.headD (-1) < (n : Int)) ∧ (rs.headD (-1) = -1 ↔ hi = []) := by
  rcases he with ⟨rfl, rfl⟩ | ⟨h1, h2, h3⟩
  · refine ⟨by simp, ⟨by simp, ?_⟩, by simp⟩
    simp only [List.headD_nil]
    omega
  · cases rs with
    | nil => simp at h2
    | cons r rs =>
      have h4 := h3 r (by simp)
      refine ⟨h1.2, ⟨?_, ?_⟩, ?_⟩
      · simp only [List.headD_cons]; omega
      · simp only [List.headD_cons]; omega
      · simp only [List.headD_cons]
        exact ⟨fun e => absurd e (by omega), fun e => absurd e h1.ne⟩
theorem Edge.down {n h : Nat} {hi : Key} {rs : List Int} (he : Edge n (h + 1) hi rs) : Edge n h hi rs.tail := by
  rcases he with ⟨rfl, rfl⟩ | ⟨h1, h2, h3⟩
  · exact .inl ⟨rfl, rfl⟩
  · exact .inr ⟨h1, by simp [h2], fun r hr => h3 r (List.mem_of_mem_tail hr)⟩
theorem kw_pair {α : Type} {W : Key → Key → α → Prop} : ∀ (l : List (Key × α)) (lo hi : Key) (c : α), kwT W lo hi c l → (l.map (·.1)).Pairwise fun a b => kl a b = true
  | [], _, _, _, _ => by simp
  | (s, d) :: r, lo, hi, c, h => by
    obtain ⟨h1, h2, h3, h4, h5⟩ := h
    rw [List.map_cons, List.pairwise_cons]
    refine ⟨fun k hk => ?_, kw_pair r s hi d h5⟩
    obtain ⟨x, hx, rfl⟩ := List.mem_map.1 hk
    exact h4 x hx
theorem pages_ok {ps : List Pg} : ∀ (h : Nat) (lo hi : Key) (rs : List Int) (t : Tb h), wfT h lo hi t → repT ps h hi rs t → Edge ps.length h hi rs → ∀ i ∈ idsT h t, ∃ p, ps[i]? = some p ∧ OkPg p ps.length
  | 0, lo, hi, rs, t, hw, hr, he, i, hi' => by
    have hit : i = t.1 := by simpa [idsT] using hi'
    subst hit
    obtain ⟨e1, e2, e3⟩ := he.page
    obtain ⟨w1, w2, w3⟩ := hw
    refine ⟨_, hr, ⟨by simpa using w1, e1, e2, e3, by simp, fun h => absurd h (by simp), fun k hk => ?_, ?_, fun c hc => ?_⟩⟩
    · obtain ⟨x, hx, rfl⟩ := List.mem_map.1 hk
      exact ⟨(w3 x hx).2.1, (w3 x hx).1.2⟩
    · simp only
      rw [List.pairwise_map]
      exact w2
    · obtain ⟨x, hx, rfl⟩ := List.mem_map.1 hc
      exact ⟨(w3 x hx).2.2, fun h => absurd h (by simp)⟩
  | h + 1, lo, hi, rs, t, hw, hr, he, i, hi' => by
    obtain ⟨w1, w4, hw⟩ := hw
    obtain ⟨hp, hk⟩ := hr
    obtain ⟨e1, e2, e3⟩ := he.page
    have hkids : ∀ (l : List (Key × Tb h)) (lo : Key) (c : Tb h), kwT (wfT h) lo hi c l → repK (repT ps h) (spine h) hi rs.tail c l → ∀ i ∈ idsK (idsT h) c l, ∃ p, ps[i]? = some p ∧ OkPg p ps.length := by
      intro l
      induction l with
      | nil =>
        intro lo c hw hr i hi'
        exact pages_ok h lo hi rs.tail c hw hr he.down i (by simpa [idsK] using hi')
      | cons x r ih =>
        obtain ⟨s, d⟩ := x
        intro lo c hw hr i hi'
        obtain ⟨h1, h2, h3, h4, h5⟩ := hw
        have hsplit : idsK (idsT h) c ((s, d) :: r) = idsT h c ++ idsK (idsT h) d r := by simp [idsK]
        rw [hsplit, List.mem_append] at hi'
        rcases hi' with q | q
        · refine pages_ok h lo s (spine h d) c h1 hr.1 (.inr ⟨h2, spine_len h d, fun v hv => ?_⟩) i q
          obtain ⟨j, hj, rfl⟩ := spine_ids h d v hv
          have hd : ∃ hi' rs', repT ps h hi' rs' d := by
            have := hr.2
            cases r with
            | nil => exact ⟨_, _, this⟩
            | cons y r => exact ⟨_, _, this.1⟩
          obtain ⟨hi1, rs1, hd⟩ := hd
          have := repT_ids h hi1 rs1 d hd j hj
          omega
        · exact ih s d h5 hr.2 i q
    have hids : i ∈ t.1 :: idsK (idsT h) t.2.1 t.2.2 := hi'
    rw [List.mem_cons] at hids
    rcases hids with rfl | hids
    · have hrise := kw_rise t.2.2 lo hi t.2.1 hw
      obtain ⟨k1, k2⟩ := repK_all (q := fun c => idT h c < ps.length) (fun hi rs c hr => repT_lt h hi rs c hr) t.2.2 hi rs.tail t.2.1 hk
      refine ⟨_, hp, ⟨by simpa using w4, e1, e2, e3, by simp, fun _ => by simpa using w1, fun k hk => ?_, kw_pair _ _ _ _ hw, fun c hc => ?_⟩⟩
      · obtain ⟨x, hx, rfl⟩ := List.mem_map.1 hk
        exact ⟨(hrise x hx).2, (hrise x hx).1.2⟩
      · simp only [List.mem_cons] at hc
        rcases hc with rfl | hc
        · exact ⟨by omega, fun _ => by omega⟩
        · obtain ⟨x, hx, rfl⟩ := List.mem_map.1 hc
          have := k2 x hx
          exact ⟨by omega, fun _ => by omega⟩
    · exact hkids t.2.2 lo t.2.1 hw hk i hids
/-- THE PAGES OF A TREE PASS. -/
theorem reps_pass {T : Tr} {h : Nat} {t : Tb h} (hr : Reps T h t) : Pass T := by
  have hnd := hr.nodup
  have hlt := hr.lt
  obtain ⟨hroot, hrep, hwf, hids⟩ := hr
  have hi := hlt _ (idT_mem h t)
  have hs : Stand T.pages h [] [(T.root.toNat, [], [])] [t] := ⟨t, [], rfl, ⟨by rw [hroot, Int.toNat_natCast], hwf, hrep⟩, rfl⟩
  obtain ⟨a, a1, a2⟩ := stand_levels h hs (by simp)
  have e : idsF h [t] = idsT h t := by simp [idsF]
  rw [e] at a2
  have hrg := a2.trans hids
  refine ⟨⟨by omega, by omega⟩, fun p hp => ?_, ⟨a, a1, by simpa using hrg.length_eq⟩, ?_⟩
  · obtain ⟨j, hj, rfl⟩ := List.mem_iff_getElem.1 hp
    have hm : j ∈ idsT h t := hids.symm.subset (List.mem_range.2 hj)
    obtain ⟨p, hp1, hp2⟩ := pages_ok h [] [] [] t hwf hrep (.inl ⟨rfl, rfl⟩) j hm
    rw [List.getElem?_eq_getElem hj] at hp1
    cases hp1
    exact hp2
  · rw [← all_kids]
    have hk := levels_kids a1
    have h1 : (T.root.toNat :: a.flatMap (kidsOf T.pages)).Perm (List.range T.pages.length) := by
      refine List.Perm.trans ?_ hrg
      simpa using hk.symm
    have h2 : (T.root.toNat :: (List.range T.pages.length).flatMap (kidsOf T.pages)).Perm (T.root.toNat :: a.flatMap (kidsOf T.pages)) := (hrg.symm.flatMap_right _).cons _
    exact (h2.trans h1).nodup_iff.2 List.nodup_range
end Go.Proofs.Ytahammkjkfdmhaa
