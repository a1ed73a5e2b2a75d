/- Plain trees: a check that goes level by level, and what it has met. No program in sight. -/
import Derived.Test.YthoijpaoegojfaaGx
namespace Go.Proofs.Ythoijpaoegojfaa
set_option linter.unusedVariables false
set_option linter.unusedSimpArgs false
/-- A page by itself, whatever stands above it. -/
structure OkQ (p : Pg) (many : Nat) : Prop where
  keys : p.keys.length ≤ 4
  okk : ∀ k ∈ p.keys, okK k
  rise : p.keys.Pairwise fun a b => kl a b = true
  kids : p.kids.length = if p.leaf then p.keys.length else p.keys.length + 1
  some : p.leaf = false → 1 ≤ p.keys.length
  kid : ∀ c ∈ p.kids, 0 ≤ c ∧ (p.leaf = false → c < many)
theorem OkPg.q {p : Pg} {n : Nat} (h : OkPg p n) : OkQ p n := ⟨h.keys, fun k hk => (h.okk k hk).1, h.rise, h.kids, h.some, h.kid⟩
/-- A level, each key held against both bounds. -/
def okLw (ps : List Pg) (leaf : Bool) : List Spot → Prop
  | [] => True
  | x :: r => ((ps.getD x.1 noPg).next = rightOf r ∧ (ps.getD x.1 noPg).high = x.2.2 ∧ (ps.getD x.1 noPg).leaf = leaf ∧ (∀ k ∈ (ps.getD x.1 noPg).keys, inB x.2.1 x.2.2 k)) ∧ okLw ps leaf r
theorem okLw_okLv {ps : List Pg} {leaf : Bool} : ∀ {l : List Spot}, okLw ps leaf l → okLv ps leaf l
  | [], _ => trivial
  | x :: r, ⟨⟨h1, h2, h3, h4⟩, h5⟩ => ⟨⟨h1, h2, h3, fun k r hk => (h4 k (by rw [hk]; simp)).1⟩, okLw_okLv h5⟩
theorem okLv_okLw {ps : List Pg} {leaf : Bool} {n : Nat} : ∀ {l : List Spot}, okLv ps leaf l → (∀ x ∈ l, OkPg (ps.getD x.1 noPg) n) → okLw ps leaf l
  | [], _, _ => trivial
  | x :: r, ⟨⟨h1, h2, h3, h4⟩, h5⟩, hp => by
    refine ⟨⟨h1, h2, h3, fun k hk => ⟨?_, ?_⟩⟩, okLv_okLw h5 fun y hy => hp y (by simp [hy])⟩
    · have hx := hp x (by simp)
      have hr := hx.rise
      cases hks : (ps.getD x.1 noPg).keys with
      | nil => rw [hks] at hk; simp at hk
      | cons s ss =>
        have h0 := h4 s ss hks
        rw [hks] at hk hr
        simp only [List.mem_cons] at hk
        rcases hk with rfl | hk
        · exact h0
        · have h1 := (List.pairwise_cons.1 hr).1 k hk
          exact kl_le_trans h0 (kl_not h1)
    · have := ((hp x (by simp)).okk k hk).2
      rw [h2] at this
      exact this
/-- The levels from the root down to one, with all places above it. -/
inductive Run (ps : List Pg) (r : Nat) : List Nat → List Spot → Prop
  | start : Run ps r [] [(r, [], [])]
  | more (a : List Nat) (l : List Spot) (leaf : Bool) : Run ps r a l → l ≠ [] → okLv ps leaf l → Run ps r (a ++ l.map (·.1)) (downL ps l)
theorem run_back {ps : List Pg} {r : Nat} {a : List Nat} {l : List Spot} (h : Run ps r a l) : ∀ b, Levels ps l b → Levels ps [(r, [], [])] (a ++ b) := by
  induction h with
  | start => intro b hb; exact hb
  | more a l leaf _ hl hok ih =>
    intro b hb
    rw [List.append_assoc]
    exact ih _ (.more l leaf b hl hok hb)
theorem run_on {ps : List Pg} {r : Nat} {a b : List Nat} {l : List Spot} (hb : Levels ps [(r, [], [])] b) (h : Run ps r a l) : ∃ b', Levels ps l b' ∧ b = a ++ b' := by
  induction h with
  | start => exact ⟨b, hb, rfl⟩
  | more a l leaf _ hl hok ih =>
    obtain ⟨b', h1, rfl⟩ := ih
    cases h1 with
    | done => exact absurd rfl hl
    | more l leaf' a' _ _ h2 => exact ⟨a', h2, by rw [List.append_assoc]⟩
theorem Pass.run {T : Tr} (hp : Pass T) : ∃ b, Levels T.pages [(T.root.toNat, [], [])] b ∧ b.length = T.pages.length ∧ b.Nodup ∧ ∀ x ∈ b, x < T.pages.length := by
  obtain ⟨b, h1, h2⟩ := hp.levels
  have hr : T.root.toNat < T.pages.length := by have := hp.root; omega
  obtain ⟨g1, g2⟩ := levels_once hp.page (r := T.root.toNat) (by rw [all_kids]; exact hp.once) h1 [] (by simp) (by simpa using hr) (by simp) (by simp)
  exact ⟨b, h1, h2, by simpa using g1, by simpa using g2⟩
/-- Where all passes, each level does. -/
theorem pass_level {T : Tr} {a : List Nat} {l : List Spot} (hp : Pass T) (h : Run T.pages T.root.toNat a l) (hl : l ≠ []) :
    ∃ leaf, okLv T.pages leaf l ∧ (a ++ l.map (·.1)).Nodup ∧ a.length + l.length ≤ T.pages.length ∧ ∀ x ∈ l, x.1 < T.pages.length := by
  obtain ⟨b, h1, h2, h3, h4⟩ := hp.run
  obtain ⟨b', g1, rfl⟩ := run_on h1 h
  cases g1 with
  | done => exact absurd rfl hl
  | more l leaf a' _ hok h5 =>
    refine ⟨leaf, hok, ?_, ?_, fun x hx => h4 _ ?_⟩
    · rw [← List.append_assoc] at h3
      exact (List.nodup_append.1 h3).1
    · simp only [List.length_append, List.length_map] at h2
      omega
    · simp only [List.mem_append, List.mem_map]
      exact .inr (.inl ⟨x, hx, rfl⟩)
theorem pass_end {T : Tr} {a : List Nat} (hp : Pass T) (h : Run T.pages T.root.toNat a []) : a.length = T.pages.length := by
  obtain ⟨b, h1, h2, h3, h4⟩ := hp.run
  obtain ⟨b', g1, rfl⟩ := run_on h1 h
  have := g1.nil
  subst this
  simpa using h2
/-- Upper bounds: none at the right end, and there alone. -/
def Ends : List Spot → Prop
  | [] => True
  | x :: r => ((r = [] ∧ x.2.2 = []) ∨ (r ≠ [] ∧ okK x.2.2)) ∧ Ends r
theorem kidsB_ne {lo hi : Key} : ∀ {cs : List Int} {ss : List Key}, cs ≠ [] → kidsB lo hi cs ss ≠ []
  | [], _, h => absurd rfl h
  | _ :: _, [], _ => by simp [kidsB]
  | _ :: _, _ :: _, _ => by simp [kidsB]
theorem ends_kids : ∀ (ss : List Key) (cs : List Int) (lo hi : Key) (rest : List Spot), cs.length = ss.length + 1 → (∀ k ∈ ss, okK k) → ((rest = [] ∧ hi = []) ∨ (rest ≠ [] ∧ okK hi)) → Ends rest → Ends (kidsB lo hi cs ss ++ rest)
  | [], [c], lo, hi, rest, _, _, h, hr => by
    simp only [kidsB, List.cons_append, List.nil_append]
    exact ⟨h, hr⟩
  | s :: ss, c :: cs, lo, hi, rest, hl, hk, h, hr => by
    simp only [kidsB, List.cons_append]
    refine ⟨.inr ⟨?_, hk s (by simp)⟩, ends_kids ss cs s hi rest (by simpa using hl) (fun k hk' => hk k (by simp [hk'])) h hr⟩
    have : cs ≠ [] := by rintro rfl; simp at hl
    simp [kidsB_ne this]
  | [], [], _, _, _, hl, _, _, _ => by simp at hl
  | [], _ :: _ :: _, _, _, _, hl, _, _, _ => by simp at hl
  | _ :: _, [], _, _, _, hl, _, _, _ => by simp at hl
theorem downL_cons (ps : List Pg) (x : Spot) (r : List Spot) : downL ps (x :: r) = downP ps x ++ downL ps r := by simp [downL]
theorem downP_ne {ps : List Pg} {x : Spot} {n : Nat} (hq : OkQ (ps.getD x.1 noPg) n) (hl : (ps.getD x.1 noPg).leaf = false) : downP ps x ≠ [] := by
  unfold downP
  rw [if_neg (by rw [hl]; simp)]
  refine kidsB_ne ?_
  intro h
  have h1 := hq.kids
  have h2 := hq.some hl
  rw [h, hl] at h1
  simp at h1
theorem ends_down {ps : List Pg} {n : Nat} {leaf : Bool} : ∀ {l : List Spot}, (∀ x ∈ l, OkQ (ps.getD x.1 noPg) n) → okLw ps leaf l → Ends l → Ends (downL ps l)
  | [], _, _, _ => trivial
  | x :: r, hq, ⟨⟨h1, h2, h3, h4⟩, h5⟩, ⟨he, hr⟩ => by
    have ih := ends_down (fun y hy => hq y (by simp [hy])) h5 hr
    have hx := hq x (by simp)
    rw [downL_cons]
    cases leaf with
    | true =>
      have : downP ps x = [] := by unfold downP; rw [if_pos h3]
      rw [this]; exact ih
    | false =>
      have hk := hx.kids
      rw [h3] at hk
      simp only [Bool.false_eq_true, if_false] at hk
      unfold downP
      rw [if_neg (by rw [h3]; simp)]
      refine ends_kids _ _ _ _ _ hk hx.okk ?_ ih
      rcases he with ⟨rfl, h⟩ | ⟨hne, h⟩
      · exact .inl ⟨rfl, h⟩
      · refine .inr ⟨?_, h⟩
        cases r with
        | nil => exact absurd rfl hne
        | cons y r =>
          rw [downL_cons]
          intro h0
          exact downP_ne (hq y (by simp)) h5.1.2.2.1 (List.append_eq_nil_iff.1 h0).1
theorem ends_pages {ps : List Pg} {n : Nat} {leaf : Bool} : ∀ {l : List Spot}, (∀ x ∈ l, x.1 < n ∧ OkQ (ps.getD x.1 noPg) n) → okLw ps leaf l → Ends l → ∀ x ∈ l, OkPg (ps.getD x.1 noPg) n
  | [], _, _, _ => by simp
  | x :: r, hq, ⟨⟨h1, h2, h3, h4⟩, h5⟩, ⟨he, hr⟩ => by
    intro y hy
    simp only [List.mem_cons] at hy
    rcases hy with rfl | hy
    · obtain ⟨_, hx⟩ := hq y (by simp)
      have hh : y.2.2.length ≤ 100 := by
        rcases he with ⟨_, h⟩ | ⟨_, h⟩
        · rw [h]; simp
        · exact h.2
      refine ⟨hx.keys, by rw [h2]; exact hh, ?_, ?_, hx.kids, hx.some, fun k hk => ⟨hx.okk k hk, by rw [h2]; exact (h4 k hk).2⟩, hx.rise, hx.kid⟩
      · rw [h1]
        cases r with
        | nil => simp only [rightOf]; have := (hq y (by simp)).1; omega
        | cons z r => simp only [rightOf]; have := (hq z (by simp)).1; omega
      · rw [h1, h2]
        rcases he with ⟨rfl, h⟩ | ⟨hne, h⟩
        · simp [rightOf, h]
        · cases r with
          | nil => exact absurd rfl hne
          | cons z r => simp only [rightOf]; exact ⟨fun q => by omega, fun q => absurd q h.ne⟩
    · exact ends_pages (fun z hz => hq z (by simp [hz])) h5 hr y hy
/-- What a check has met. -/
structure Met (T : Tr) (a : List Nat) (l : List Spot) : Prop where
  run : Run T.pages T.root.toNat a l
  once : a.Nodup
  page : ∀ i ∈ a, i < T.pages.length ∧ OkPg (T.pages.getD i noPg) T.pages.length
  ends : Ends l
  here : ∀ x ∈ l, x.1 < T.pages.length
theorem Met.few {T : Tr} {a : List Nat} {l : List Spot} (h : Met T a l) : a.length ≤ T.pages.length := by
  exact _root_.Go.Proofs.Ythoijpaoegojfaa.few _ a h.once fun x hx => (h.page x hx).1
theorem met_start {T : Tr} (hr : 0 ≤ T.root ∧ T.root < T.pages.length) : Met T [] [(T.root.toNat, [], [])] :=
  ⟨.start, by simp, by simp, ⟨.inl ⟨rfl, rfl⟩, trivial⟩, by simp; omega⟩
theorem page_mem {ps : List Pg} {i : Nat} (h : i < ps.length) : ps.getD i noPg ∈ ps := by
  simp only [List.getD, List.getElem?_eq_getElem h, Option.getD_some]
  exact List.getElem_mem h
theorem kidsOf_ltq {ps : List Pg} (hok : ∀ p ∈ ps, OkQ p ps.length) {i j : Nat} (hi : i < ps.length) (hj : j ∈ kidsOf ps i) : j < ps.length := by
  unfold kidsOf kidsP at hj
  have hq := hok _ (page_mem hi)
  split at hj
  · simp at hj
  · rename_i hl
    obtain ⟨c, hc, rfl⟩ := List.mem_map.1 hj
    have := hq.kid c hc
    have h2 := this.2 (by simpa using hl)
    omega
theorem downL_ltq {ps : List Pg} (hok : ∀ p ∈ ps, OkQ p ps.length) {l : List Spot} (hl : ∀ x ∈ l, x.1 < ps.length) : ∀ x ∈ downL ps l, x.1 < ps.length := by
  intro x hx
  have hm : x.1 ∈ (downL ps l).map (·.1) := List.mem_map.2 ⟨x, hx, rfl⟩
  rw [downL_places] at hm
  obtain ⟨i, hi, hj⟩ := List.mem_flatMap.1 hm
  obtain ⟨y, hy, rfl⟩ := List.mem_map.1 hi
  exact kidsOf_ltq hok (hl y hy) hj
theorem met_step {T : Tr} {a : List Nat} {l : List Spot} {leaf : Bool} (hq : ∀ p ∈ T.pages, OkQ p T.pages.length) (h : Met T a l) (hl : l ≠ []) (hn : (a ++ l.map (·.1)).Nodup) (hok : okLw T.pages leaf l) : Met T (a ++ l.map (·.1)) (downL T.pages l) := by
  have hql : ∀ x ∈ l, x.1 < T.pages.length ∧ OkQ (T.pages.getD x.1 noPg) T.pages.length := fun x hx => ⟨h.here x hx, hq _ (page_mem (h.here x hx))⟩
  refine ⟨.more a l leaf h.run hl (okLw_okLv hok), hn, ?_, ends_down (fun x hx => (hql x hx).2) hok h.ends, downL_ltq hq h.here⟩
  intro i hi
  simp only [List.mem_append, List.mem_map] at hi
  rcases hi with hi | ⟨x, hx, rfl⟩
  · exact h.page i hi
  · exact ⟨h.here x hx, ends_pages hql hok h.ends x hx⟩
/-- When all have been met, all passes. -/
theorem met_end {T : Tr} {a : List Nat} (hr : 0 ≤ T.root ∧ T.root < T.pages.length) (h : Met T a []) (hn : a.length = T.pages.length) : Pass T := by
  have hlt : ∀ x ∈ a, x < T.pages.length := fun x hx => (h.page x hx).1
  have hperm := all_of _ a h.once hlt hn
  have hlv := run_back h.run [] .done
  rw [List.append_nil] at hlv
  refine ⟨hr, fun p hp => ?_, ⟨a, hlv, hn⟩, ?_⟩
  · obtain ⟨i, hi, rfl⟩ := List.mem_iff_getElem.1 hp
    have := (h.page i (hperm.symm.subset (List.mem_range.2 hi))).2
    simpa [List.getD, hi] using this
  · have hk := levels_kids hlv
    have h2 : (a.flatMap (kidsOf T.pages)).Perm (T.pages.flatMap kidsP) := by
      rw [← all_kids]
      exact hperm.flatMap_right _
    have h3 : a.Perm (T.root.toNat :: T.pages.flatMap kidsP) := hk.trans (h2.cons _)
    exact h3.nodup_iff.1 h.once
end Go.Proofs.Ythoijpaoegojfaa
