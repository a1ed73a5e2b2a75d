/- Plain trees: level by level from the root on: pages that pass are those of a tree. No program in sight. -/
import Derived.Test.YthoijpaoegojfaaGt
namespace Go.Proofs.Ythoijpaoegojfaa
set_option linter.unusedVariables false
set_option linter.unusedSimpArgs false
/-- A place, and the bounds that those above give it. -/
abbrev Spot := Nat × Key × Key
/-- A page by itself. -/
structure OkPg (p : Pg) (many : Nat) : Prop where
  keys : p.keys.length ≤ 4
  high : p.high.length ≤ 100
  next : -1 ≤ p.next ∧ p.next < many
  last : p.next = -1 ↔ p.high = []
  kids : p.kids.length = if p.leaf then p.keys.length else p.keys.length + 1
  some : p.leaf = false → 1 ≤ p.keys.length
  okk : ∀ k ∈ p.keys, okK k ∧ (p.high = [] ∨ kl k p.high = true)
  rise : p.keys.Pairwise fun a b => kl a b = true
  kid : ∀ c ∈ p.kids, 0 ≤ c ∧ (p.leaf = false → c < many)
/-- The kids of a page with their bounds. -/
def kidsB (lo hi : Key) : List Int → List Key → List Spot
  | [], _ => []
  | c :: cs, [] => (c.toNat, lo, hi) :: kidsB hi hi cs []
  | c :: cs, s :: ss => (c.toNat, lo, s) :: kidsB s hi cs ss
def downP (ps : List Pg) (x : Spot) : List Spot := if (ps.getD x.1 noPg).leaf then [] else kidsB x.2.1 x.2.2 (ps.getD x.1 noPg).kids (ps.getD x.1 noPg).keys
def downL (ps : List Pg) (l : List Spot) : List Spot := l.flatMap (downP ps)
/-- What stands at the right. -/
def rightOf : List Spot → Int
  | [] => -1
  | y :: _ => (y.1 : Int)
/-- A level. -/
def okLv (ps : List Pg) (leaf : Bool) : List Spot → Prop
  | [] => True
  | x :: r => ((ps.getD x.1 noPg).next = rightOf r ∧ (ps.getD x.1 noPg).high = x.2.2 ∧ (ps.getD x.1 noPg).leaf = leaf ∧ (∀ k r, (ps.getD x.1 noPg).keys = k :: r → kl k x.2.1 = false)) ∧ okLv ps leaf r
/-- The levels from one on, with all their places. -/
inductive Levels (ps : List Pg) : List Spot → List Nat → Prop
  | done : Levels ps [] []
  | more (l : List Spot) (leaf : Bool) (a : List Nat) : l ≠ [] → okLv ps leaf l → Levels ps (downL ps l) a → Levels ps l (l.map (·.1) ++ a)
/-- The spine of the first of some trees. -/
def rsOf (h : Nat) (rs : List Int) : List (Tb h) → List Int
  | [] => rs
  | d :: _ => spine h d
/-- Trees at the spots. -/
def Stand (ps : List Pg) (h : Nat) (rs : List Int) : List Spot → List (Tb h) → Prop
  | [], ts => ts = []
  | x :: r, ts => ∃ t ts', ts = t :: ts' ∧ (idT h t = x.1 ∧ wfT h x.2.1 x.2.2 t ∧ repT ps h x.2.2 (rsOf h rs ts') t) ∧ Stand ps h rs r ts'
theorem stand_app {ps : List Pg} {h : Nat} {rs : List Int} {b : List Spot} : ∀ {a : List Spot} {ts : List (Tb h)}, Stand ps h rs (a ++ b) ts → ∃ ta tb, ts = ta ++ tb ∧ Stand ps h (rsOf h rs tb) a ta ∧ Stand ps h rs b tb
  | [], ts, hs => ⟨[], ts, rfl, rfl, hs⟩
  | x :: a, ts, hs => by
    obtain ⟨t, ts', rfl, h1, h2⟩ := hs
    obtain ⟨ta, tb, rfl, h3, h4⟩ := stand_app h2
    refine ⟨t :: ta, tb, rfl, ⟨t, ta, rfl, ⟨h1.1, h1.2.1, ?_⟩, h3⟩, h4⟩
    have e : rsOf h rs (ta ++ tb) = rsOf h (rsOf h rs tb) ta := by cases ta <;> rfl
    rw [← e]
    exact h1.2.2
/-- The places below some trees. -/
def idsF (h : Nat) (ts : List (Tb h)) : List Nat := (ts.map (idsT h)).flatten
theorem idsF_app (h : Nat) (a b : List (Tb h)) : idsF h (a ++ b) = idsF h a ++ idsF h b := by simp [idsF]
/-- Trees at the kids of a page are the kids of a tree. -/
theorem stand_kids {ps : List Pg} {h : Nat} {rs : List Int} {hi : Key} : ∀ (ss : List Key) (cs : List Int) (lo : Key) (ts : List (Tb h)), cs.length = ss.length + 1 → (∀ c ∈ cs, 0 ≤ c) →
    (∀ k ∈ ss, okK k ∧ (hi = [] ∨ kl k hi = true)) → ss.Pairwise (fun a b => kl a b = true) → (∀ k r, ss = k :: r → kl k lo = false) → Stand ps h rs (kidsB lo hi cs ss) ts →
    ∃ d l, kwT (wfT h) lo hi d l ∧ repK (repT ps h) (spine h) hi rs d l ∧ l.map (·.1) = ss ∧ (idT h d : Int) :: l.map (fun x => (idT h x.2 : Int)) = cs ∧ ts = d :: l.map (·.2)
  | [], cs, lo, ts, hl, hc, _, _, _, hs => by
    obtain ⟨c, rfl⟩ : ∃ c, cs = [c] := by
      match cs, hl with
      | [c], _ => exact ⟨c, rfl⟩
    obtain ⟨t, ts', rfl, ⟨h1, h2, h3⟩, h4⟩ := hs
    have h4' : ts' = [] := h4
    subst h4'
    refine ⟨t, [], h2, h3, rfl, ?_, rfl⟩
    have := hc c (by simp)
    simp only [List.map_nil]
    rw [h1]
    simp only
    rw [Int.toNat_of_nonneg this]
  | s :: ss, cs, lo, ts, hl, hc, hk, hp, hlo, hs => by
    obtain ⟨c, cs', rfl⟩ : ∃ c cs', cs = c :: cs' := by
      match cs, hl with
      | c :: cs', _ => exact ⟨c, cs', rfl⟩
    obtain ⟨t, ts', rfl, ⟨h1, h2, h3⟩, h4⟩ := hs
    rw [List.pairwise_cons] at hp
    obtain ⟨d, l, g1, g2, g3, g4, g5⟩ := stand_kids ss cs' s ts' (by simpa using hl) (fun c hc' => hc c (by simp [hc'])) (fun k hk' => hk k (by simp [hk'])) hp.2
      (fun k r e => kl_not (hp.1 k (by simp [e]))) h4
    subst g5
    have hs1 := hk s (by simp)
    refine ⟨t, (s, d) :: l, ⟨h2, hs1.1, ⟨hlo s ss rfl, hs1.2⟩, fun x hx => hp.1 _ (by rw [← g3]; exact List.mem_map.2 ⟨x, hx, rfl⟩), g1⟩, ⟨h3, g2⟩, by simp [g3], ?_, rfl⟩
    have := hc c (by simp)
    simp only [List.map_cons]
    rw [← g4, h1]
    simp only
    rw [Int.toNat_of_nonneg this]
theorem stand_head {ps : List Pg} {h : Nat} {rs : List Int} {l : List Spot} {ts : List (Tb h)} (hs : Stand ps h rs l ts) (hl : l ≠ []) : (rsOf h rs ts).headD (-1) = rightOf l := by
  cases l with
  | nil => exact absurd rfl hl
  | cons x r =>
    obtain ⟨t, ts', rfl, ⟨h1, _, _⟩, _⟩ := hs
    show (spine h t).headD (-1) = _
    rw [spine_head, h1]
    rfl
/-- FROM A LEVEL TO THE ONE ABOVE. -/
theorem stand_up {ps : List Pg} {h : Nat} (hok : ∀ p ∈ ps, OkPg p ps.length) : ∀ (l : List Spot) (ts : List (Tb h)), (∀ x ∈ l, x.1 < ps.length) → okLv ps false l → Stand ps h [] (downL ps l) ts →
    ∃ us : List (Tb (h + 1)), Stand ps (h + 1) [] l us ∧ (rsOf (h + 1) [] us).tail = rsOf h [] ts ∧ (rsOf (h + 1) [] us).headD (-1) = rightOf l ∧ (idsF (h + 1) us).Perm (l.map (·.1) ++ idsF h ts)
  | [], ts, _, _, hs => by
    have : ts = [] := hs
    subst this
    exact ⟨[], rfl, rfl, rfl, by simp [idsF]⟩
  | x :: r, ts, hlt, hlv, hs => by
    obtain ⟨⟨n1, n2, n3, n4⟩, hlv'⟩ := hlv
    have hx := hlt x (by simp)
    obtain ⟨p, hp⟩ : ∃ p, ps[x.1]? = some p := ⟨_, List.getElem?_eq_getElem hx⟩
    have hpd := getD_of hp
    have hdown : downL ps (x :: r) = kidsB x.2.1 x.2.2 p.kids p.keys ++ downL ps r := by
      show downP ps x ++ _ = _
      unfold downP
      rw [n3, if_neg (by simp), hpd]
      rfl
    rw [hpd] at n1 n2 n3 n4
    have ok := hok p (List.mem_of_getElem? hp)
    rw [hdown] at hs
    obtain ⟨ta, tb, rfl, h1, h2⟩ := stand_app hs
    obtain ⟨us, u1, u2, u3, u4⟩ := stand_up hok r tb (fun y hy => hlt y (by simp [hy])) hlv' h2
    have okids := ok.kids
    rw [n3, if_neg (by simp)] at okids
    obtain ⟨d, l, g1, g2, g3, g4, rfl⟩ := stand_kids p.keys p.kids x.2.1 ta okids (fun c hc => (ok.kid c hc).1) (by rw [← n2]; exact ok.okk) ok.rise n4 h1
    have hlk : l.length = p.keys.length := by rw [← g3]; simp
    refine ⟨(x.1, d, l) :: us, ⟨(x.1, d, l), us, rfl, ⟨rfl, ⟨?_, ?_, g1⟩, ⟨?_, ?_⟩⟩, u1⟩, rfl, rfl, ?_⟩
    · show 1 ≤ l.length
      rw [hlk]; exact ok.some n3
    · show l.length ≤ 4
      rw [hlk]; exact ok.keys
    · show ps[x.1]? = some ⟨false, l.map (·.1), (idT h d : Int) :: l.map (fun x => (idT h x.2 : Int)), x.2.2, (rsOf (h + 1) [] us).headD (-1)⟩
      rw [hp, u3, g3, g4, ← n1, ← n2, ← n3]
    · rw [u2]
      exact g2
    · show (idsT (h + 1) (x.1, d, l) ++ idsF (h + 1) us).Perm (x.1 :: r.map (·.1) ++ idsF h (d :: l.map (·.2) ++ tb))
      have e : idsT (h + 1) (x.1, d, l) = x.1 :: idsF h (d :: l.map (·.2)) := by simp [idsT, idsF, Function.comp_def]
      rw [e, idsF_app, List.cons_append, List.cons_append]
      refine List.Perm.cons _ ?_
      refine (u4.append_left _).trans ?_
      rw [← List.append_assoc, ← List.append_assoc]
      exact (List.perm_append_comm).append_right _
theorem stand_leaves {ps : List Pg} (hok : ∀ p ∈ ps, OkPg p ps.length) : ∀ (l : List Spot), (∀ x ∈ l, x.1 < ps.length) → okLv ps true l →
    ∃ us : List (Tb 0), Stand ps 0 [] l us ∧ (rsOf 0 [] us).headD (-1) = rightOf l ∧ idsF 0 us = l.map (·.1)
  | [], _, _ => ⟨[], rfl, rfl, rfl⟩
  | x :: r, hlt, hlv => by
    obtain ⟨⟨n1, n2, n3, n4⟩, hlv'⟩ := hlv
    obtain ⟨us, u1, u3, u4⟩ := stand_leaves hok r (fun y hy => hlt y (by simp [hy])) hlv'
    have hx := hlt x (by simp)
    obtain ⟨p, hp⟩ : ∃ p, ps[x.1]? = some p := ⟨_, List.getElem?_eq_getElem hx⟩
    have hpd := getD_of hp
    rw [hpd] at n1 n2 n3 n4
    have ok := hok p (List.mem_of_getElem? hp)
    have okids := ok.kids
    rw [n3, if_pos rfl] at okids
    have hz1 : (p.keys.zip p.kids).map (·.1) = p.keys := by rw [← List.unzip_fst, List.unzip_zip (by omega)]
    have hz2 : (p.keys.zip p.kids).map (·.2) = p.kids := by rw [← List.unzip_snd, List.unzip_zip (by omega)]
    have hlow : ∀ k ∈ p.keys, kl k x.2.1 = false := by
      rcases hks : p.keys with _ | ⟨s, ss⟩
      · simp
      · have h0 := n4 s ss hks
        have hr := ok.rise
        rw [hks, List.pairwise_cons] at hr
        intro k hk
        simp only [List.mem_cons] at hk
        rcases hk with rfl | hk
        · exact h0
        · exact kl_le_trans h0 (kl_not (hr.1 k hk))
    refine ⟨(x.1, p.keys.zip p.kids) :: us, ⟨(x.1, p.keys.zip p.kids), us, rfl, ⟨rfl, ⟨?_, ?_, ?_⟩, ?_⟩, u1⟩, rfl, ?_⟩
    · show (p.keys.zip p.kids).length ≤ 4
      rw [List.length_zip]
      have := ok.keys
      omega
    · show (p.keys.zip p.kids).Pairwise fun a b => kl a.1 b.1 = true
      have hr := ok.rise
      rw [← hz1, List.pairwise_map] at hr
      exact hr
    · intro e he
      obtain ⟨h1, h2⟩ := List.of_mem_zip (show (e.1, e.2) ∈ p.keys.zip p.kids from he)
      have hkk := ok.okk _ h1
      rw [n2] at hkk
      exact ⟨⟨hlow _ h1, hkk.2⟩, hkk.1, (ok.kid _ h2).1⟩
    · show ps[x.1]? = some ⟨true, (p.keys.zip p.kids).map (·.1), (p.keys.zip p.kids).map (·.2), x.2.2, (rsOf 0 [] us).headD (-1)⟩
      rw [hp, u3, hz1, hz2, ← n1, ← n2, ← n3]
    · show [x.1] ++ idsF 0 us = _
      rw [u4]
      rfl
end Go.Proofs.Ythoijpaoegojfaa
