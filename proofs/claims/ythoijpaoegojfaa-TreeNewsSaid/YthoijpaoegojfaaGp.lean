/- Plain trees: what a tree of pages holds, and what putting a key into it does. No program in sight. -/
import Derived.Test.YthoijpaoegojfaaGw
namespace Go.Proofs.Ythoijpaoegojfaa
set_option linter.unusedVariables false
set_option linter.unusedSimpArgs false
abbrev Key := List UInt8
/-- Stands a key ahead of another one? -/
abbrev kl (a b : Key) : Bool := Op.bytesLess a b
/-- Between two bounds; the second one may be none. -/
def inB (lo hi k : Key) : Prop := kl k lo = false ∧ (hi = [] ∨ kl k hi = true)
theorem kl_nil (k : Key) : kl k [] = false := by cases k <;> rfl
theorem kl_le_trans {a b c : Key} (h1 : kl b a = false) (h2 : kl c b = false) : kl c a = false := by
  rcases h : kl c a with _ | _
  · rfl
  · rcases h3 : kl a b with _ | _
    · have := bl_tri a b h3 h1
      subst this
      rw [h] at h2; exact h2
    · have h4 : kl c b = true := bl_trans c a b h h3
      rw [h4] at h2; exact h2
theorem kl_lt_le {a b c : Key} (h1 : kl a b = true) (h2 : kl c b = false) : kl a c = true := by
  rcases h : kl b c with _ | _
  · have := bl_tri b c h h2
    subst this
    exact h1
  · exact bl_trans a b c h1 h
theorem kl_le_lt {a b c : Key} (h1 : kl b a = false) (h2 : kl b c = true) : kl a c = true := by
  rcases h : kl a b with _ | _
  · have := bl_tri a b h h1
    subst this
    exact h2
  · exact bl_trans a b c h h2
theorem kl_not {a b : Key} (h : kl a b = true) : kl b a = false := bl_asy a b h
/-- A key and its row among entries. -/
def insE (k : Key) (r : Int) : List (Key × Int) → List (Key × Int)
  | [] => [(k, r)]
  | e :: es => if kl k e.1 then (k, r) :: e :: es else e :: insE k r es
theorem insE_left {k : Key} {r : Int} : ∀ {a b : List (Key × Int)}, (∀ e ∈ b, kl k e.1 = true) → insE k r (a ++ b) = insE k r a ++ b
  | [], [], _ => rfl
  | [], e :: b, h => by simp [insE, h e (by simp)]
  | e :: a, b, h => by
    by_cases g : kl k e.1 = true
    · simp [insE, g]
    · simp [insE, g, insE_left (a := a) h]
theorem insE_right {k : Key} {r : Int} : ∀ {a b : List (Key × Int)}, (∀ e ∈ a, kl k e.1 = false) → insE k r (a ++ b) = a ++ insE k r b
  | [], _, _ => rfl
  | e :: a, b, h => by
    simp [insE, h e (by simp), insE_right (a := a) (b := b) (fun x hx => h x (by simp [hx]))]
theorem insE_len (k : Key) (r : Int) : ∀ l, (insE k r l).length = l.length + 1
  | [] => rfl
  | e :: l => by by_cases g : kl k e.1 = true <;> simp [insE, g, insE_len k r l]
theorem insE_mem {k : Key} {r : Int} : ∀ {l : List (Key × Int)} {e : Key × Int}, e ∈ insE k r l ↔ e = (k, r) ∨ e ∈ l
  | [], e => by simp [insE]
  | x :: l, e => by
    by_cases g : kl k x.1 = true
    · simp [insE, g]
    · simp only [insE, g, Bool.false_eq_true, if_false, List.mem_cons, insE_mem (l := l)]
      constructor
      · rintro (h | h | h)
        · exact .inr (.inl h)
        · exact .inl h
        · exact .inr (.inr h)
      · rintro (h | h | h)
        · exact .inr (.inl h)
        · exact .inl h
        · exact .inr (.inr h)
/-- Entries rise. -/
def Rise (l : List (Key × Int)) : Prop := l.Pairwise fun a b => kl a.1 b.1 = true
theorem insE_rise {k : Key} {r : Int} : ∀ {l : List (Key × Int)}, Rise l → (∀ e ∈ l, e.1 ≠ k) → Rise (insE k r l)
  | [], _, _ => by simp [insE, Rise]
  | x :: l, h, hn => by
    unfold Rise at h ⊢
    rw [List.pairwise_cons] at h
    by_cases g : kl k x.1 = true
    · simp only [insE, g, if_true]
      rw [List.pairwise_cons, List.pairwise_cons]
      refine ⟨fun e he => ?_, h⟩
      simp only [List.mem_cons] at he
      rcases he with rfl | he
      · exact g
      · exact bl_trans _ _ _ g (h.1 e he)
    · simp only [insE, g, Bool.false_eq_true, if_false]
      rw [List.pairwise_cons]
      refine ⟨fun e he => ?_, insE_rise h.2 fun e he => hn e (by simp [he])⟩
      rw [insE_mem] at he
      rcases he with rfl | he
      · rcases h3 : kl x.1 k with _ | _
        · exact absurd (bl_tri x.1 k h3 (by simpa using g)) (hn x (by simp))
        · rfl
      · exact h.1 e he

/-- A tree of height h: a page's place; a leaf's entries; another page's first kid, and the keys with the kids behind them. -/
def Tb : Nat → Type
  | 0 => Nat × List (Key × Int)
  | h + 1 => Nat × Tb h × List (Key × Tb h)
/-- A key that may be one. -/
def okK (k : Key) : Prop := 1 ≤ k.length ∧ k.length ≤ 100
theorem okK.ne {k : Key} (h : okK k) : k ≠ [] := by rintro rfl; simp [okK] at h
/-- May kids stand so, between two bounds? -/
def kwT {α : Type} (W : Key → Key → α → Prop) : Key → Key → α → List (Key × α) → Prop
  | lo, hi, c, [] => W lo hi c
  | lo, hi, c, (s, d) :: r => W lo s c ∧ okK s ∧ inB lo hi s ∧ (∀ x ∈ r, kl s x.1 = true) ∧ kwT W s hi d r
/-- All entries below. -/
def entT : (h : Nat) → Tb h → List (Key × Int)
  | 0, t => t.2
  | h + 1, t => entT h t.2.1 ++ (t.2.2.map fun x => entT h x.2).flatten
/-- May a tree be, between two bounds? -/
def wfT : (h : Nat) → Key → Key → Tb h → Prop
  | 0, lo, hi, t => t.2.length ≤ 4 ∧ Rise t.2 ∧ ∀ e ∈ t.2, inB lo hi e.1 ∧ okK e.1 ∧ 0 ≤ e.2
  | h + 1, lo, hi, t => 1 ≤ t.2.2.length ∧ t.2.2.length ≤ 4 ∧ kwT (wfT h) lo hi t.2.1 t.2.2
/-- A key put among kids: f puts it into the one whose bounds it is within. -/
def insK {α : Type} (f : α → α × Option (Key × α)) (k : Key) : α → List (Key × α) → α × List (Key × α)
  | c, [] => match f c with
    | (c', none) => (c', [])
    | (c', some d) => (c', [d])
  | c, (s, d) :: r => if kl k s then
      match f c with
      | (c', none) => (c', (s, d) :: r)
      | (c', some e) => (c', e :: (s, d) :: r)
    else ((c, (s, (insK f k d r).1) :: (insK f k d r).2))
/-- A page that has too many entries, or keys, is split. -/
def cutE (i n : Nat) (l : List (Key × Int)) : Tb 0 × Option (Key × Tb 0) :=
  if l.length ≤ 4 then ((i, l), none) else ((i, l.take 2), some ((l.getD 2 ([], 0)).1, (n, l.drop 2)))
def cutK {α : Type} (i n : Nat) (c : α) (l : List (Key × α)) : (Nat × α × List (Key × α)) × Option (Key × (Nat × α × List (Key × α))) :=
  match l.drop 2 with
  | [] => ((i, c, l), none)
  | (s, d) :: r => if l.length ≤ 4 then ((i, c, l), none) else ((i, c, l.take 2), some (s, (n, d, r)))
/-- How many pages are new below, when a key has been put in. -/
def insT : (h : Nat) → Tb h → Key → Int → Nat → Tb h × Option (Key × Tb h)
  | 0, t, k, r, n => cutE t.1 n (insE k r t.2)
  | h + 1, t, k, r, n => cutK t.1 (n + h + 1) (insK (fun c => insT h c k r n) k t.2.1 t.2.2).1 (insK (fun c => insT h c k r n) k t.2.1 t.2.2).2
/-- What a result holds: the page, and the one behind it that is new. -/
def entR (h : Nat) (x : Tb h × Option (Key × Tb h)) : List (Key × Int) := entT h x.1 ++ match x.2 with | none => [] | some d => entT h d.2
theorem cutE_ent (i n : Nat) (l : List (Key × Int)) : entR 0 (cutE i n l) = l := by
  unfold cutE entR
  split
  · simp [entT]
  · simp [entT]
/-- All entries below some kids. -/
def entK {α : Type} (ent : α → List (Key × Int)) (c : α) (l : List (Key × α)) : List (Key × Int) := ent c ++ (l.map fun x => ent x.2).flatten
theorem cutK_ent (h : Nat) (i n : Nat) (c : Tb h) (l : List (Key × Tb h)) : entR (h + 1) (cutK i n c l) = entK (entT h) c l := by
  unfold cutK
  split
  · simp [entR, entT, entK]
  · rename_i s d r hd
    split
    · simp [entR, entT, entK]
    · have e : l = l.take 2 ++ (s, d) :: r := by rw [← hd, List.take_append_drop]
      simp only [entR, entT, entK]
      conv => rhs; rw [e]
      simp
theorem inB_up {lo lo' hi : Key} {k : Key} (h : kl lo' lo = false) (hk : inB lo' hi k) : inB lo hi k := ⟨kl_le_trans h hk.1, hk.2⟩
theorem inB_down {lo s hi k : Key} (hs : inB lo hi s) (hn : s ≠ []) (hk : inB lo s k) : inB lo hi k := by
  refine ⟨hk.1, ?_⟩
  rcases hk.2 with g | g
  · exact absurd g hn
  · rcases hs.2 with q | q
    · exact .inl q
    · exact .inr (bl_trans _ _ _ g q)
theorem entK_in {α : Type} {W : Key → Key → α → Prop} {ent : α → List (Key × Int)} (he : ∀ lo hi c, W lo hi c → ∀ e ∈ ent c, inB lo hi e.1) :
    ∀ (l : List (Key × α)) (lo hi : Key) (c : α), kwT W lo hi c l → ∀ e ∈ entK ent c l, inB lo hi e.1
  | [], lo, hi, c, h, e, hm => he _ _ _ h e (by simpa [entK] using hm)
  | (s, d) :: r, lo, hi, c, h, e, hm => by
    obtain ⟨h1, h2, h3, h4, h5⟩ := h
    have hm' : e ∈ ent c ∨ e ∈ entK ent d r := by simpa [entK] using hm
    rcases hm' with g | g
    · exact inB_down h3 h2.ne (he _ _ _ h1 e g)
    · exact inB_up h3.1 (entK_in he r s hi d h5 e g)
/-- Between its bounds lies all that is below. -/
theorem ent_in : ∀ (h : Nat) (lo hi : Key) (t : Tb h), wfT h lo hi t → ∀ e ∈ entT h t, inB lo hi e.1
  | 0, lo, hi, t, hw, e, he => (hw.2.2 e he).1
  | h + 1, lo, hi, t, hw, e, he => entK_in (fun lo hi c => ent_in h lo hi c) t.2.2 lo hi t.2.1 hw.2.2 e he
/-- What putting in comes to: the page, or two, with what parts them. -/
def Good {α : Type} (W : Key → Key → α → Prop) (lo hi : Key) (x : α × Option (Key × α)) : Prop :=
  match x.2 with
  | none => W lo hi x.1
  | some d => okK d.1 ∧ kl lo d.1 = true ∧ (hi = [] ∨ kl d.1 hi = true) ∧ W lo d.1 x.1 ∧ W d.1 hi d.2
def entX {α : Type} (ent : α → List (Key × Int)) (x : α × Option (Key × α)) : List (Key × Int) := ent x.1 ++ match x.2 with | none => [] | some d => ent d.2
theorem entX_R (h : Nat) (x : Tb h × Option (Key × Tb h)) : entX (entT h) x = entR h x := by unfold entX entR; cases x.2 <;> rfl
/-- What parts two kids stands ahead of all that parts later ones. -/
theorem kw_rise {α : Type} {W : Key → Key → α → Prop} : ∀ (l : List (Key × α)) (lo hi : Key) (c : α), kwT W lo hi c l → ∀ x ∈ l, inB lo hi x.1 ∧ okK x.1
  | [], lo, hi, c, h, x, hx => by simp at hx
  | (s, d) :: r, lo, hi, c, h, x, hx => by
    obtain ⟨h1, h2, h3, h4, h5⟩ := h
    simp only [List.mem_cons] at hx
    rcases hx with rfl | hx
    · exact ⟨h3, h2⟩
    · have := kw_rise r s hi d h5 x hx
      exact ⟨inB_up h3.1 this.1, this.2⟩
/-- A key put among kids. -/
theorem insK_good {α : Type} {W : Key → Key → α → Prop} {ent : α → List (Key × Int)} {f : α → α × Option (Key × α)} {k : Key} {v : Int}
    (he : ∀ lo hi c, W lo hi c → ∀ e ∈ ent c, inB lo hi e.1)
    (hf : ∀ lo hi c, W lo hi c → inB lo hi k → (∀ e ∈ ent c, e.1 ≠ k) → Good W lo hi (f c) ∧ entX ent (f c) = insE k v (ent c)) :
    ∀ (l : List (Key × α)) (lo hi : Key) (c : α), kwT W lo hi c l → inB lo hi k → (∀ e ∈ entK ent c l, e.1 ≠ k) →
      kwT W lo hi (insK f k c l).1 (insK f k c l).2 ∧ entK ent (insK f k c l).1 (insK f k c l).2 = insE k v (entK ent c l) ∧
      l.length ≤ (insK f k c l).2.length ∧ (insK f k c l).2.length ≤ l.length + 1 ∧ (∀ b, (∀ x ∈ l, kl b x.1 = true) → kl k b = false → ∀ x ∈ (insK f k c l).2, kl b x.1 = true ∨ kl lo x.1 = true)
  | [], lo, hi, c, h, hk, hn => by
    obtain ⟨g1, g2⟩ := hf lo hi c h hk (fun e he' => hn e (by simpa [entK] using he'))
    have hE : entK ent c [] = ent c := by simp [entK]
    rw [hE, ← g2]
    unfold Good at g1
    unfold insK entX
    rcases hfc : f c with ⟨c', _ | ⟨s, d⟩⟩
    · rw [hfc] at g1
      exact ⟨g1, by simp [entK], by simp, by simp, by simp⟩
    · rw [hfc] at g1
      obtain ⟨q1, q2, q3, q4, q5⟩ := g1
      refine ⟨⟨q4, q1, ⟨kl_not q2, q3⟩, by simp, q5⟩, by simp [entK], by simp, by simp, fun b _ _ x hx => ?_⟩
      simp only [List.mem_singleton] at hx
      subst hx
      exact .inr q2
  | (s, d) :: r, lo, hi, c, h, hk, hn => by
    obtain ⟨h1, h2, h3, h4, h5⟩ := h
    have hsplit : entK ent c ((s, d) :: r) = ent c ++ entK ent d r := by simp [entK]
    by_cases hks : kl k s = true
    · obtain ⟨g1, g2⟩ := hf lo s c h1 ⟨hk.1, .inr hks⟩ (fun e he' => hn e (by rw [hsplit]; exact List.mem_append_left _ he'))
      have hright : ∀ e ∈ entK ent d r, kl k e.1 = true := fun e he' => kl_lt_le hks (entK_in he r s hi d h5 e he').1
      rw [hsplit, insE_left hright, ← g2]
      unfold Good at g1
      unfold entX
      simp only [insK, hks, if_true]
      rcases hfc : f c with ⟨c', _ | ⟨s', d'⟩⟩
      · rw [hfc] at g1
        exact ⟨⟨g1, h2, h3, h4, h5⟩, by simp [entK], by simp, by simp, fun b hb _ x hx => .inl (hb x hx)⟩
      · rw [hfc] at g1
        obtain ⟨q1, q2, q3, q4, q5⟩ := g1
        have hs's : kl s' s = true := by
          rcases q3 with q | q
          · exact absurd q h2.ne
          · exact q
        refine ⟨⟨q4, q1, inB_down h3 h2.ne ⟨kl_not q2, .inr hs's⟩, fun x hx => ?_, q5, h2, ⟨kl_not hs's, h3.2⟩, h4, h5⟩, by simp [entK], by simp, by simp, fun b hb _ x hx => ?_⟩
        · simp only [List.mem_cons] at hx
          rcases hx with rfl | hx
          · exact hs's
          · exact bl_trans _ _ _ hs's (h4 x hx)
        · simp only [List.mem_cons] at hx
          rcases hx with rfl | hx
          · exact .inr q2
          · exact .inl (hb x (by simpa using hx))
    · have hks' : kl k s = false := by simpa using hks
      obtain ⟨g1, g2, g3, g4, g5⟩ := insK_good he hf r s hi d h5 ⟨hks', hk.2⟩ (fun e he' => hn e (by rw [hsplit]; exact List.mem_append_right _ he'))
      have hleft : ∀ e ∈ ent c, kl k e.1 = false := fun e he' => by
        rcases (he _ _ _ h1 e he').2 with q | q
        · exact absurd q h2.ne
        · exact kl_not (kl_lt_le q hks')
      rw [hsplit, insE_right hleft, ← g2]
      simp only [insK, hks, Bool.false_eq_true, if_false]
      refine ⟨⟨h1, h2, h3, fun x hx => ?_, g1⟩, by simp [entK], by simp; omega, by simp; omega, fun b hb hkb x hx => ?_⟩
      · rcases g5 s h4 hks' x hx with q | q
        · exact q
        · exact q
      · simp only [List.mem_cons] at hx
        rcases hx with rfl | hx
        · exact .inl (hb (s, d) (by simp))
        · rcases g5 b (fun y hy => hb y (by simp [hy])) hkb x hx with q | q
          · exact .inl q
          · exact .inl (bl_trans _ _ _ (hb (s, d) (by simp)) q)
theorem three {α : Type} : ∀ l : List α, 4 < l.length → ∃ a b c r, l = a :: b :: c :: r
  | [], h => by simp at h
  | [_], h => by simp at h
  | [_, _], h => by simp at h
  | a :: b :: c :: r, _ => ⟨a, b, c, r, rfl⟩
theorem cutE_good {lo hi : Key} {l : List (Key × Int)} (i n : Nat) (hl : l.length ≤ 5) (hr : Rise l) (hb : ∀ e ∈ l, inB lo hi e.1 ∧ okK e.1 ∧ 0 ≤ e.2) : Good (wfT 0) lo hi (cutE i n l) := by
  unfold cutE Good
  by_cases h4 : l.length ≤ 4
  · rw [if_pos h4]
    exact ⟨h4, hr, hb⟩
  · rw [if_neg h4]
    · obtain ⟨a, b, c, r, rfl⟩ := three l (by omega)
      unfold Rise at hr
      rw [List.pairwise_cons, List.pairwise_cons, List.pairwise_cons] at hr
      obtain ⟨ra, rb, rc, rr⟩ := hr
      have hc := hb c (by simp)
      have hac := ra c (by simp)
      have hbc := rb c (by simp)
      refine ⟨hc.2.1, kl_le_lt (hb a (by simp)).1.1 hac, hc.1.2, ⟨by simp, ?_, ?_⟩, ⟨by simp at hl ⊢; omega, ?_, ?_⟩⟩
      · unfold Rise
        simp [ra]
      · intro e he
        simp at he
        rcases he with rfl | rfl
        · have := hb e (by simp)
          exact ⟨⟨this.1.1, .inr hac⟩, this.2⟩
        · have := hb e (by simp)
          exact ⟨⟨this.1.1, .inr hbc⟩, this.2⟩
      · unfold Rise
        simp only [List.drop_succ_cons, List.drop_zero]
        rw [List.pairwise_cons]
        exact ⟨rc, rr⟩
      · intro e he
        simp only [List.drop_succ_cons, List.drop_zero, List.mem_cons] at he
        rcases he with rfl | he
        · exact ⟨⟨bl_irr _, hc.1.2⟩, hc.2⟩
        · have := hb e (by simp [he])
          exact ⟨⟨kl_not (rc e he), this.1.2⟩, this.2⟩
theorem cutK_good {h : Nat} {lo hi : Key} {c : Tb h} {l : List (Key × Tb h)} (i n : Nat) (h1 : 1 ≤ l.length) (h5 : l.length ≤ 5) (hk : kwT (wfT h) lo hi c l) : Good (wfT (h + 1)) lo hi (cutK i n c l) := by
  unfold cutK
  by_cases h4 : l.length ≤ 4
  · have hg : Good (wfT (h + 1)) lo hi (((i, c, l) : Tb (h + 1)), (none : Option (Key × Tb (h + 1)))) := ⟨h1, h4, hk⟩
    split
    · exact hg
    · rw [if_pos h4]; exact hg
  · obtain ⟨⟨s1, d1⟩, ⟨s2, d2⟩, ⟨s, d⟩, r, rfl⟩ := three l (by omega)
    · simp only [List.drop_succ_cons, List.drop_zero]
      rw [if_neg h4]
      obtain ⟨w1, o1, b1, r1, w2, o2, b2, r2, w3, o3, b3, r3, w4⟩ := hk
      have q1 := r1 (s2, d2) (by simp)
      have q2 := r1 (s, d) (by simp)
      have q3 := r2 (s, d) (by simp)
      refine ⟨o3, kl_le_lt b1.1 q2, b3.2, ⟨by simp, by simp, w1, o1, ⟨b1.1, .inr q2⟩, ?_, w2, o2, ⟨b2.1, .inr q3⟩, by simp, w3⟩, ⟨?_, ?_, w4⟩⟩
      · intro x hx
        simp at hx
        subst hx
        exact q1
      · simp at h4 ⊢; omega
      · simp at h5 ⊢; omega
/-- A TREE INTO WHICH A KEY IS PUT MAY BE, AND HOLDS IT. -/
theorem insT_good : ∀ (h : Nat) (lo hi : Key) (t : Tb h) (k : Key) (v : Int) (n : Nat), wfT h lo hi t → inB lo hi k → okK k → 0 ≤ v → (∀ e ∈ entT h t, e.1 ≠ k) →
    Good (wfT h) lo hi (insT h t k v n) ∧ entX (entT h) (insT h t k v n) = insE k v (entT h t)
  | 0, lo, hi, t, k, v, n, hw, hk, ho, hv, hn => by
    refine ⟨?_, ?_⟩
    · refine cutE_good _ _ (by rw [insE_len]; have := hw.1; omega) (insE_rise hw.2.1 hn) fun e he => ?_
      rw [insE_mem] at he
      rcases he with rfl | he
      · exact ⟨hk, ho, hv⟩
      · exact hw.2.2 e he
    · rw [entX_R]
      exact cutE_ent _ _ _
  | h + 1, lo, hi, t, k, v, n, hw, hk, ho, hv, hn => by
    obtain ⟨l1, l4, hkw⟩ := hw
    obtain ⟨g1, g2, g3, g4, _⟩ := insK_good (W := wfT h) (ent := entT h) (f := fun c => insT h c k v n) (k := k) (v := v) (fun lo hi c => ent_in h lo hi c)
      (fun lo hi c hw hk hn => insT_good h lo hi c k v n hw hk ho hv hn) t.2.2 lo hi t.2.1 hkw hk hn
    refine ⟨cutK_good _ _ (by omega) (by omega) g1, ?_⟩
    rw [entX_R]
    show entR (h + 1) (cutK _ _ _ _) = _
    rw [cutK_ent, g2]
    rfl
end Go.Proofs.Ythoijpaoegojfaa
