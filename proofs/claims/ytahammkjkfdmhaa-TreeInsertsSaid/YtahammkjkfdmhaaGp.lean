/- Plain trees: what a tree of pages holds, and what putting a key into it does. No program in sight. -/
import Derived.Test.YtahammkjkfdmhaaGw
namespace Go.Proofs.Ytahammkjkfdmhaa
set_option linter.unusedVariables false
set_option linter.unusedSimpArgs false
abbrev Key := List UInt8
/-- Stands a key ahead of another one? -/
abbrev kl (a b : Key) : Bool := Op.bytesLess a b
/-- Between two bounds; the second one may be none. -/
def inB (lo hi k : Key) : Prop := kl k lo = false ∧ (hi = [] ∨ kl k hi = true)
theorem kl_nil (k : Key) : kl k [] = false := by cases k <;> rfl
theorem kl_le_trans {a b c : Key} (h1 : kl b a = false) (h2 : kl c b = false) : kl c a = false := by
  rcases h : kl c a with _ | _
  · rfl
  · rcases h3 : kl a b with _ | _
    · have := bl_tri a b h3 h1
      subst this
      rw [h] at h2; exact h2
    · have h4 : kl c b = true := bl_trans c a b h h3
      rw [h4] at h2; exact h2
theorem kl_lt_le {a b c : Key} (h1 : kl a b = true) (h2 : kl c b = false) : kl a c = true := by
  rcases h : kl b c with _ | _
  · have := bl_tri b c h h2
    subst this
    exact h1
  · exact bl_trans a b c h1 h
theorem kl_le_lt {a b c : Key} (h1 : kl b a = false) (h2 : kl b c = true) : kl a c = true := by
  rcases h : kl a b with _ | _
  · have := bl_tri a b h h1
    subst this
    exact h2
  · exact bl_trans a b c h h2
theorem kl_not {a b : Key} (h : kl a b = true) : kl b a = false := bl_asy a b h
/-- A key and its row among entries. -/
def insE (k : Key) (r : Int) : List (Key × Int) → List (Key × Int)
  | [] => [(k, r)]
  | e :: es => if kl k e.1 then (k, r) :: e :: es else e :: insE k r es
theorem insE_left {k : Key} {r : Int} : ∀ {a b : List (Key × Int)}, (∀ e ∈ b, kl k e.1 = true) → insE k r (a ++ b) = insE k r a ++ b
  | [], [], _ => rfl
  | [], e :: b, h => by simp [insE, h e (by simp)]
  | e :: a, b, h => by
    by_cases g : kl k e.1 = true
    · simp [insE, g]
    · simp [insE, g, insE_left (a := a) h]
theorem insE_right {k : Key} {r : Int} : ∀ {a b : List (Key × Int)}, (∀ e ∈ a, kl k e.1 = false) → insE k r (a ++ b) = a ++ insE k r b
  | [], _, _ => rfl
  | e :: a, b, h => by
    simp [insE, h e (by simp), insE_right (a := a) (b := b) (fun x hx => h x (by simp [hx]))]
theorem insE_len (k : Key) (r : Int) : ∀ l, (insE k r l).length = l.length + 1
  | [] => rfl
  | e :: l => by by_cases g : kl k e.1 = true <;> simp [insE, g, insE_len k r l]
theorem insE_mem {k : Key} {r : Int} : ∀ {l : List (Key × Int)} {e : Key × Int}, e ∈ insE k r l ↔ e = (k, r) ∨ e ∈ l
  | [], e => by simp [insE]
  | x :: l, e => by
    by_cases g : kl k x.1 = true
    · simp [insE, g]
    · simp only [insE, g, Bool.false_eq_true, if_false, List.mem_cons, insE_mem (l := l)]
      constructor
      · rintro (h | h | h)
        · exact .inr (.inl h)
        · exact .inl h
        · exact .inr (.inr h)
      · rintro (h | h | h)
        · exact .inr (.inl h)
        · exact .inl h
        · exact .inr (.inr h)
/-- Entries rise. -/
def Rise (l : List (Key × Int)) : Prop := l.Pairwise fun a b => kl a.1 b.1 = true
theorem insE_rise {k : Key} {r : Int} : ∀ {l : List (Key × Int)}, Rise l → (∀ e ∈ l, e.1 ≠ k) → Rise (insE k r l)
  | [], _, _ => by simp [insE, Rise]
  | x :: l, h, hn => by
    unfold Rise at h ⊢
    rw [List.pairwise_cons] at h
    by_cases g : kl k x.1 = true
    · simp only [insE, g, if_true]
      rw [List.pairwise_cons, List.pairwise_cons]
      refine ⟨fun e he => ?_, h⟩
      simp only [List.mem_cons] at he
      rcases he with rfl | he
      · exact g
      · exact bl_trans _ _ _ g (h.1 e he)
    · simp only [insE, g, Bool.false_eq_true, if_false]
      rw [List.pairwise_cons]
      refine ⟨fun e he => ?_, insE_rise h.2 fun e he => hn e (by simp [he])⟩
      rw [insE_mem] at he
      rcases he with rfl | he
      · rcases h3 : kl x.1 k with _ | _
        · exact absurd (bl_tri x.1 k h3 (by simpa using g)) (hn x (by simp))
        · rfl
      · exact h.1 e he

/-- A tree of height h: a page's place; a leaf's entries; another page's first kid, and the keys with the kids behind them. -/
def Tb : Nat → Type
  | 0 => Nat × List (Key × Int)
  | h + 1 => Nat × Tb h × List (Key × Tb h)
/-- A key that may be one. -/
def okK (k : Key) : Prop := 1 ≤ k.length ∧ k.length ≤ 100
theorem okK.ne {k : Key} (h : okK k) : k ≠ [] := by rintro rfl; simp [okK] at h
/-- May kids stand so, between two bounds? -/
def kwT {α : Type} (W : Key → Key → α → Prop) : Key → Key → α → List (Key × α) → Prop
  | lo, hi, c, [] => W lo hi c
  | lo, hi, c, (s, d) :: r => W lo s c ∧ okK s ∧ inB lo hi s ∧ (∀ x ∈ r, kl s x.1 = true) ∧ kwT W s hi d r
/-- All entries below. -/
def entT : (h : Nat) → Tb h → List (Key × Int)
  | 0, t => t.2
  | h + 1, t => entT h t.2.1 ++ (t.2.2.map fun x => entT h x.2).flatten
/-- May a tree be, between two bounds? -/
def wfT : (h : Nat) → Key → Key → Tb h → Prop
  | 0, lo, hi, t => t.2.length ≤ 4 ∧ Rise t.2 ∧ ∀ e ∈ t.2, inB lo hi e.1 ∧ okK e.1 ∧ 0 ≤ e.2
  | h + 1, lo, hi, t => 1 ≤ t.2.2.length ∧ t.2.2.length ≤ 4 ∧ kwT (wfT h) lo hi t.2.1 t.2.2
/-- A key put among kids: f puts it into the one whose bounds it is within. -/
def insK {α : Type} (f : α → α × Option (Key × α)) (k : Key) : α → List (Key × α) → α × List (Key × α)
  | c, [] => match f c with
    | (c', none) => (c', [])
    | (c', some d) => (c', [d])
  | c, (s, d) :: r => if kl k s then
      match f c with
      | (c', none) => (c', (s, d) :: r)
      | (c', some e) => (c', e :: (s, d) :: r)
    else ((c, (s, (insK f k d r).1) :: (insK f k d r).2))
/-- A page that has too many entries, or keys, is split. -/
def cutE (i n : Nat) (l : List (Key × Int)) : Tb 0 × Option (Key × Tb 0) :=
  if l.length ≤ 4 then ((i, l), none) else ((i, l.take 2), some ((l.getD 2 ([], 0)).1, (n, l.drop 2)))
def cutK {α : Type} (i n : Nat) (c : α) (l : List (Key × α)) : (Nat × α × List (Key × α)) × Option (Key × (Nat × α × List (Key × α))) :=
  match l.drop 2 with
  | [] => ((i, c, l), none)
  | (s, d) :: r => if l.length ≤ 4 then ((i, c, l), none) else ((i, c, l.take 2), some (s, (n, d, r)))
/-- How many pages are new below, when a key has been put in. -/
def insT : (h : Nat) → Tb h → Key → Int → Nat → Tb h × Option (Key × Tb h)
  | 0, t, k, r, n => cutE t.1 n (insE k r t.2)
  | h + 1, t, k, r, n => cutK t.1 (n + h + 1) (insK (fun c => insT h c k r n) k t.2.1 t.2.2).1 (insK (fun c => insT h c k r n) k t.2.1 t.2.2).2
/-- What a result holds: the page, and the one behind it that is new. -/
def entR (h : Nat) (x : Tb h × Option (Key × Tb h)) : List (Key × Int) := entT h x.1 ++ match x.2 with | none => [] | some d => entT h d.2
theorem cutE_ent (i n : Nat) (l : List (Key × Int)) : entR 0 (cutE i n l) = l := by
  unfold cutE entR
  split
  · simp [entT]
  · simp [entT]
/-- All entries below some kids. -/
def entK {α : Type} (ent : α → List (Key × Int)) (c : α) (l : List (Key × α)) : List (Key × Int) := ent c ++ (l.map fun x => ent x.2).flatten
theorem cutK_ent (h : Nat) (i n : Nat) (c : Tb h) (l : List (Key × Tb h)) : entR (h + 1) (cutK i n c l) = entK (entT h) c l := by
  unfold cutK
  split
  · simp [entR, entT, entK]
  · rename_i s d r hd
    split
    · simp [entR, entT, entK]
    · have e : l = l.take 2 ++ (s, d) :: r := by rw [← hd, List.take_append_drop]
      simp only [entR, entT, entK]
      conv => rhs; rw [e]
      simp
theorem inB_up {lo lo' hi : Key} {k : Key} (h : kl lo' lo = false) (hk : inB lo' hi k) : inB lo hi k := ⟨kl_le_trans h hk.1, hk.2⟩
theorem inB_down {lo s hi k : Key} (hs : inB lo hi s) (hn : s ≠ []) (hk : inB lo s k) : inB lo hi k := by
  refine ⟨hk.1, ?_⟩
  rcases hk.2 with g | g
  · exact absurd g hn
  · rcases hs.2 with q | q
    · exact .inl q
    · exact .inr (bl_trans _ _ _ g q)
theorem entK_in {α : Type} {W : Key → Key → α → Prop} {ent : α → List (Key × Int)} (he : ∀ lo hi c, W lo hi c → ∀ e ∈ ent c, inB lo hi e.1) :
    ∀ (l : List (Key × α)) (lo hi : Key) (c : α), kwT W lo hi c l → ∀ e ∈ entK ent c l, inB lo hi e.1
  | [], lo, hi, c, h, e, hm => he _ _ _ h e (by simpa [entK] using hm)
  | (s, d) :: r, lo, hi, c, h, e, hm => by
    obtain ⟨h1, h2, h3, h4, h5⟩ := h
    have hm' : e ∈ ent c ∨ e ∈ entK ent d r := by simpa [entK] using hm
    rcases hm' with g | g
    · exact inB_down h3 h2.ne (he _ _ _ h1 e g)
    · exact inB_up h3.1 (entK_in he r s hi d h5 e g)
/-- Between its bounds lies all that is below. -/
theorem ent_in : ∀ (h : Nat) (lo hi : Key) (t : Tb h), wfT h lo hi t → ∀ e ∈ entT h t, inB lo hi e.1
  | 0, lo, hi, t, hw, e, he => (hw.2.2 e he).1
  | h + 1, lo, hi, t, hw, e, he => entK_in (fun lo hi c => ent_in h lo hi c) t.2.2 lo hi t.2.1 hw.2.2 e he
/-- What putting in comes to: the page, or two, with what parts them. -/
def Good {α : Type} (W : Key → Key → α → Prop) (lo hi : Key) (x : α × Option (Key × α)) : Prop :=
  match x.2 with
  | none => W lo hi x.1
  | some d => okK d.1 ∧ kl lo d.1 = true ∧ (hi = [] ∨ kl d.1 hi = true) ∧ W lo d.1 x.1 ∧ W d.1 hi d.2
def entX {α : Type} (ent : α → List (Key × Int)) (x : α × Option (Key × α)) : List (Key × Int) := ent x.1 ++ match x.2 with | none => [] | some d => ent d.2
theorem entX_R (h : Nat) (x : Tb h × Option (Key × Tb h)) : entX (entT h) x = entR h x := by unfold entX entR; cases x.2 <;> rfl
/-- What parts two kids stands ahead of all that parts later ones. -/
theorem kw_rise {α : Type} {W : Key → Key → α → Prop} : ∀ (l : List (Key × α)) (lo hi : Key) (c : α), kwT W lo hi c l → ∀ x ∈ l, inB lo hi x.1 ∧ okK x.1
  | [], lo, hi, c, h, x, hx => by simp at hx
  | (s, d) :: r, lo, hi, c, h, x, hx => by
    obtain ⟨h1, h2, h3, h4, h5⟩ := h
    simp only [List.mem_cons] at hx
    rcases hx with rfl | hx
    · exact ⟨h3, h2⟩
    · have := kw_rise r s hi d h5 x hx
      exact ⟨inB_up h3.1 this.1, this.2⟩
/-- A key put among kids. -/
theorem insK_good {α : Type} {W : Key → Key → α → Prop} {ent : α → List (Key × Int)} {f : α → α × Option (Key × α)} {k : Key} {v : Int}
    (he : ∀ lo hi c, W lo hi c → ∀ e ∈ ent c, inB lo hi e.1)
    (hf : ∀ lo hi c, W lo hi c → inB lo hi k → (∀ e ∈ ent c, e.1 ≠ k) → Good W lo hi (f c) ∧ entX ent (f c) = insE k v (ent c)) :
    ∀ (l : List (Key × α)) (lo hi : Key) (c : α), kwT W lo hi c l → inB lo hi k → (∀ e ∈ entK ent c l, e.1 ≠ k) →
      kwT W lo hi (insK f k c l).1 (insK f k c l).2 ∧ entK ent (insK f k c l).1 (insK f k c l).2 = insE k v (entK ent c l) ∧
      l.length ≤ (insK f k c l).2.length ∧ (insK f k c l).2.length ≤ l.length + 1 ∧ (∀ b, (∀ x ∈ l, kl b x.1 = true) → kl k b = false → ∀ x ∈ (insK f k c l).2, kl b x.1 = true ∨ kl lo x.1 = true)
  | [], lo, hi, c, h, hk, hn => by
    obtain ⟨g1, g2⟩ := hf lo hi c h hk (fun e he' => hn e (by simpa [entK] using he'))
    have hE : entK ent c [] = ent c := by simp [entK]
    rw [hE, ← g2]
    unfold Good at g1
    unfold insK entX
    rcases hfc : f c with ⟨c', _ | ⟨s, d⟩⟩
    · rw [hfc] at g1
      exact ⟨g1, by simp [entK], by simp, by simp, by simp⟩
    · rw [hfc] at g1
      obtain ⟨q1, q2, q3, q4, q5⟩ := g1
      refine ⟨⟨q4, q1, ⟨kl_not q2, q3⟩, by simp, q5⟩, by simp [entK], by simp, by simp, fun b _ _ x hx => ?_⟩
      simp only [List.mem_singleton] at hx
      subst hx
      exact .inr q2
  | (s, d) :: r, lo, hi, c, h, hk, hn => by
    obtain ⟨h1, h2, h3, h4, h5⟩ := h
    have hsplit : entK ent c ((s, d) :: r) = ent c ++ entK ent d r := by simp [entK]
    by_cases hks : kl k s = true
    · obtain ⟨g1, g2⟩ := hf lo s c h1 ⟨hk.1, .inr hks⟩ (fun e he' => hn e (by rw [hsplit]; exact List.mem_append_left _ he'))
      have hright : ∀ e ∈ entK ent d r, kl k e.1 = true := fun e he' => kl_lt_le hks (entK_in he r s hi d h5 e he').1
      rw [hsplit, insE_left hright, ← g2]
      unfold Good at g1
      unfold entX
      simp only [insK, hks, if_true]
      rcases hfc : f c with ⟨c', _ | ⟨s', d'⟩⟩
      · rw [hfc] at g1
        exact ⟨⟨g1, h2, h3, h4, h5⟩, by simp [entK], by simp, by simp, fun b hb _ x hx => .inl (hb x hx)⟩
      · rw [hfc] at g1
        obtain ⟨q1, q2, q3, q4, q5⟩ := g1
        have hs's : kl s' s = true := by
          rcases q3 with q | q
          · exact absurd q h2.ne
          · exact q
        refine ⟨⟨q4, q1, inB_down h3 h2.ne ⟨kl_not q2, .inr hs's⟩, fun x hx => ?_, q5, h2, ⟨kl_not hs's, h3.2⟩, h4, h5⟩, by simp [entK], by simp, by simp, fun b hb _ x hx => ?_⟩
        · simp only [List.mem_cons] at hx
          rcases hx with rfl | hx
          · exact hs's
          · exact bl_trans _ _ _ hs's (h4 x hx)
        · simp only [List.mem_cons] at hx
          rcases hx with rfl | hx
          · exact .inr q2
          · exact .inl (hb x (by simpa using hx))
    · have hks' : kl k s = false := by simpa using hks
      obtain ⟨g1, g2, g3, g4, g5⟩ := insK_good he hf r s hi d h5 ⟨hks', hk.2⟩ (fun e he' => hn e (by rw [hsplit]; exact List.mem_append_right _ he'))
      have hleft : ∀ e ∈ ent c, kl k e.1 = false := fun e he' => by
        rcases (he _ _ _ h1 e he').2 with q | q
        · exact absurd q h2.ne
        · exact kl_not (kl_lt_le q hks')
      rw [hsplit, insE_right hleft, ← g2]
      simp only [insK, hks, Bool.false_eq_true, if_false]
      refine ⟨⟨h1, h2, h3, fun x hx => ?_, g1⟩, by simp [entK], by simp; omega, by simp; omega, fun b hb hkb x hx => ?_⟩
      · rcases g5 s h4 hks' x hx with q | q
        · exact q
        · exact q
      · simp only [List.mem_cons] at hx
        rcases hx with rfl | hx
        · exact .inl (hb (s, d) (by simp))
        · rcases g5 b (fun y hy => hb y (by simp [hy])) hkb x hx with q | q
          · exact .inl q
          · exact .inl (bl_trans _ _ _ (hb (s, d) (by simp)) q)
theorem three {α : Type} : ∀ l : List α, 4 < l.length → ∃ a b c r, l = a :: b :: c :: r
  | [], h => by simp at h
  | [_], h => by simp at h
  | [_, _], h => by simp at h
  | a :: b :: c :: r, _ => ⟨a, b, c, r, rfl⟩
theorem cutE_good {lo hi : Key} {l : List (Key × Int)} (i n : Nat) (hl : l.length ≤ 5) (hr : Rise l) (hb : ∀ e ∈ l, inB lo hi e.1 ∧ okK e.1 ∧ 0 ≤ e.2) : Good (wfT 0) lo hi (cutE i n l) := by
  unfold cutE Good
  by_cases h4 : l.length ≤ 4
  · rw [if_pos h4]
    exact ⟨h4, hr, hb⟩
  · rw [if_neg h4]
    · obtain ⟨a, b, c, r, rfl⟩ := three l (by omega)
      unfold Rise at hr
      rw [List.pairwise_cons, List.pairwise_cons, List.pairwise_cons] at hr
      obtain ⟨ra, rb, rc, rr⟩ := hr
      have hc := hb c (by simp)
      have hac := ra c (by simp)
      have hbc := rb c (by simp)
      refine ⟨hc.2.1, kl_le_lt (hb a (by simp)).1.1 hac, hc.1.2, ⟨by simp, ?_, ?_⟩, ⟨by simp at hl ⊢; omega, ?_, ?_⟩⟩
      · unfold Rise
        simp [ra]
      · intro e he
        simp at he
        rcases he with rfl | rfl
        · have := hb e (by simp)
          exact ⟨⟨this.1.1, .inr hac⟩, this.2⟩
        · have := hb e (by simp)
          exact ⟨⟨this.1.1, .inr hbc⟩, this.2⟩
      · unfold Rise
        simp only [List.drop_succ_cons, List.drop_zero]
        rw [List.pairwise_cons]
        exact ⟨rc, rr⟩
      · intro e he
        simp only [List.drop_succ_cons, List.drop_zero, List.mem_cons] at he
        rcases he with rfl | he
        · exact ⟨⟨bl_irr _, hc.1.2⟩, hc.2⟩
        · have := hb e (by simp [he])
          exact ⟨⟨kl_not (rc e he), this.1.2⟩, this.2⟩
theorem cutK_good {h : Nat} {lo hi : Key} {c : Tb h} {l : List (Key × Tb h)} (i n : Nat) (h1 : 1 ≤ l.length) (h5 : l.length ≤ 5) (hk : kwT (wfT h) lo hi c l) : Good (wfT (h + 1)) lo hi (cutK i n c l) := by
  unfold cutK
  by_cases h4 : l.length ≤ 4
  · have hg : Good (wfT (h + 1)) lo hi (((i, c, l) : Tb (h + 1)), (none : Option (Key × Tb (h + 1)))) := ⟨h1, h4, hk⟩
    split
    · exact hg
    · rw [if_pos h4]; exact hg
  · obtain ⟨⟨s1, d1⟩, ⟨s2, d2⟩, ⟨s, d⟩, r, rfl⟩ := three l (by omega)
    · simp only [List.drop_succ_cons, List.drop_zero]
      rw [if_neg h4]
      obtain ⟨w1, o1, b1, r1, w2, o2, b2, r2, w3, o3, b3, r3, w4⟩ := hk
      have q1 := r1 (s2, d2) (by simp)
      have q2 := r1 (s, d) (by simp)
      have q3 := r2 (s, d) (by simp)
      refine ⟨o3, kl_le_lt b1.1 q2, b3.2, ⟨by simp, by simp, w1, o1, ⟨b1.1, .inr q2⟩, ?_, w2, o2, ⟨b2.1, .inr q3⟩, by simp, w3⟩, ⟨?_, ?_, w4⟩⟩
      · intro x hx
        simp at hx
        subst hx
        exact q1
      · simp at h4 ⊢; omega
      · simp at h5 ⊢; omega
/-- A TREE INTO WHICH A KEY IS PUT MAY BE, AND HOLDS IT. -/
theorem insT_good : ∀ (h : Nat) (lo hi : Key) (t : Tb h) (k : Key) (v : Int) (n : Nat), wfT h lo hi t → inB lo hi k → okK k → 0 ≤ v → (∀ e ∈ entT h t, e.1 ≠ k) →
    Good (wfT h) lo hi (insT h t k v n) ∧ entX (entT h) (insT h t k v n) = insE k v (entT h t)
  | 0, lo, hi, t, k, v, n, hw, hk, ho, hv, hn => by
    refine ⟨?_, ?_⟩
    · refine cutE_good _ _ (by rw [insE_len]; have := hw.1; omega) (insE_rise hw.2.1 hn) fun e he => ?_
      rw [insE_mem] at he
      rcases he with rfl | he
      · exact ⟨hk, ho, hv⟩
      · exact hw.2.2 e he
    · rw [entX_R]
      exact cutE_ent _ _ _
  | h + 1, lo, hi, t, k, v, n, hw, hk, ho, hv, hn => by
    obtain ⟨l1, l4, hkw⟩ := hw
    obtain ⟨g1, g2, g3, g4, _⟩ := insK_good (W := wfT h) (ent := entT h) (f := fun c => insT h c k v n) (k := k) (v := v) (fun lo hi c => ent_in h lo hi c)
      (fun lo hi c hw hk hn => insT_good h lo hi c k v n hw hk ho hv hn) t.2.2 lo hi t.2.1 hkw hk hn
    refine ⟨cutK_good _ _ (by omega) (by omega) g1, ?_⟩
    rw [entX_R]
    show entR (h + 1) (cutK _ _ _ _) = _
    rw [cutK_ent, g2]
    rfl
end Go.Proofs.Ytahammkjkfdmhaa
/- Plain trees and their pages: what stands where, and what putting in does to the pages. No program in sight. -/
namespace Go.Proofs.Ytahammkjkfdmhaa
set_option linter.unusedVariables false
set_option linter.unusedSimpArgs false
/-- The place of a tree's topmost page; the leftmost places, level by level; all places. -/
def idT : (h : Nat) → Tb h → Nat
  | 0, t => t.1
  | _ + 1, t => t.1
def spine : (h : Nat) → Tb h → List Int
  | 0, t => [(t.1 : Int)]
  | h + 1, t => (t.1 : Int) :: spine h t.2.1
def idsT : (h : Nat) → Tb h → List Nat
  | 0, t => [t.1]
  | h + 1, t => t.1 :: (idsT h t.2.1 ++ (t.2.2.map fun x => idsT h x.2).flatten)
theorem spine_head (h : Nat) (t : Tb h) : (spine h t).headD (-1) = (idT h t : Int) := by cases h <;> rfl
theorem idT_mem (h : Nat) (t : Tb h) : idT h t ∈ idsT h t := by cases h <;> simp [idT, idsT]
/-- Kids, each with its bound and the pages to its right. -/
def repK {α : Type} (R : Key → List Int → α → Prop) (sp : α → List Int) (hi : Key) (rs : List Int) : α → List (Key × α) → Prop
  | c, [] => R hi rs c
  | c, (s, d) :: r => R s (sp d) c ∧ repK R sp hi rs d r
/-- The pages ps hold a tree whose topmost page has the bound hi, and the pages rs to its right. -/
def repT (ps : List Pg) : (h : Nat) → Key → List Int → Tb h → Prop
  | 0, hi, rs, t => ps[t.1]? = some ⟨true, t.2.map (·.1), t.2.map (·.2), hi, rs.headD (-1)⟩
  | h + 1, hi, rs, t => ps[t.1]? = some ⟨false, t.2.2.map (·.1), (idT h t.2.1 : Int) :: t.2.2.map (fun x => (idT h x.2 : Int)), hi, rs.headD (-1)⟩ ∧
      repK (repT ps h) (spine h) hi rs.tail t.2.1 t.2.2
theorem repK_frame {α : Type} {R R' : Key → List Int → α → Prop} {sp : α → List Int} {q : α → Prop} (h : ∀ hi rs c, q c → R hi rs c → R' hi rs c) : ∀ (l : List (Key × α)) (hi : Key) (rs : List Int) (c : α), q c → (∀ x ∈ l, q x.2) → repK R sp hi rs c l → repK R' sp hi rs c l
  | [], hi, rs, c, hc, _, hr => h _ _ _ hc hr
  | (s, d) :: r, hi, rs, c, hc, hl, hr => ⟨h _ _ _ hc hr.1, repK_frame h r hi rs d (hl (s, d) (by simp)) (fun x hx => hl x (by simp [hx])) hr.2⟩
/-- A tree hangs on its own pages alone. -/
theorem repT_frame {ps ps' : List Pg} : ∀ (h : Nat) (hi : Key) (rs : List Int) (t : Tb h), (∀ i ∈ idsT h t, ps'[i]? = ps[i]?) → repT ps h hi rs t → repT ps' h hi rs t
  | 0, hi, rs, t, hf, hr => by
    unfold repT at hr ⊢
    rw [hf _ (by simp [idsT])]
    exact hr
  | h + 1, hi, rs, t, hf, hr => by
    obtain ⟨h1, h2⟩ := hr
    refine ⟨by rw [hf _ (by simp [idsT])]; exact h1, ?_⟩
    refine repK_frame (q := fun c => ∀ i ∈ idsT h c, ps'[i]? = ps[i]?) (fun hi rs c hq hr => repT_frame h hi rs c hq hr) t.2.2 hi rs.tail t.2.1 ?_ ?_ h2
    · intro i hi'
      exact hf i (by simp [idsT, hi'])
    · intro x hx i hi'
      refine hf i ?_
      simp only [idsT, List.mem_cons, List.mem_append, List.mem_flatten, List.mem_map]
      exact .inr (.inr ⟨_, ⟨x, hx, rfl⟩, hi'⟩)
theorem repT_lt {ps : List Pg} : ∀ (h : Nat) (hi : Key) (rs : List Int) (t : Tb h), repT ps h hi rs t → idT h t < ps.length
  | 0, hi, rs, t, hr => (List.getElem?_eq_some_iff.1 hr).1
  | h + 1, hi, rs, t, hr => (List.getElem?_eq_some_iff.1 hr.1).1
/-- The kid into which a key goes. -/
def pickK {α : Type} (k : Key) : α → List (Key × α) → α
  | c, [] => c
  | c, (s, d) :: r => if kl k s then c else pickK k d r
/-- How many keys are not above one. -/
def cntK (k : Key) : List Key → Nat
  | [] => 0
  | s :: r => if kl k s then 0 else cntK k r + 1
theorem pickK_at {α : Type} (k : Key) (g : α → Int) : ∀ (l : List (Key × α)) (c : α), (g c :: l.map (fun x => g x.2)).getD (cntK k (l.map (·.1))) 0 = g (pickK k c l)
  | [], c => rfl
  | (s, d) :: r, c => by
    by_cases h : kl k s = true
    · simp [cntK, pickK, h]
    · have := pickK_at k g r d
      simp only [List.map_cons, cntK, pickK, h, Bool.false_eq_true, if_false]
      rw [← this]
      simp [List.getD]
theorem pickK_mem {α : Type} (k : Key) : ∀ (l : List (Key × α)) (c : α), pickK k c l = c ∨ ∃ x ∈ l, pickK k c l = x.2
  | [], c => .inl rfl
  | (s, d) :: r, c => by
    by_cases h : kl k s = true
    · exact .inl (by simp [pickK, h])
    · have e : pickK k c ((s, d) :: r) = pickK k d r := by simp [pickK, h]
      rw [e]
      rcases pickK_mem k r d with q | ⟨x, hx, q⟩
      · exact .inr ⟨(s, d), by simp, q⟩
      · exact .inr ⟨x, by simp [hx], q⟩
/-- What a result comes to among the pages. -/
def AfterX {α : Type} (R : Key → List Int → α → Prop) (sp : α → List Int) (hi : Key) (rs : List Int) (x : α × Option (Key × α)) : Prop :=
  match x.2 with
  | none => R hi rs x.1
  | some d => R d.1 (sp d.2) x.1 ∧ R hi rs d.2
theorem insK_spine {α : Type} {sp : α → List Int} {f : α → α × Option (Key × α)} {k : Key} (hs : ∀ c, sp (f c).1 = sp c) : ∀ (l : List (Key × α)) (c : α), sp (insK f k c l).1 = sp c
  | [], c => by
    unfold insK
    have := hs c
    rcases h : f c with ⟨c', _ | d⟩ <;> rw [h] at this <;> exact this
  | (s, d) :: r, c => by
    by_cases g : kl k s = true
    · have := hs c
      simp only [insK, g, if_true]
      rcases h : f c with ⟨c', _ | e⟩ <;> rw [h] at this <;> exact this
    · simp [insK, g]
theorem insK_rep {α : Type} {R R' : Key → List Int → α → Prop} {sp : α → List Int} {f : α → α × Option (Key × α)} {k : Key} {ids : α → List Nat}
    (hs : ∀ c, sp (f c).1 = sp c) (pk : α) (hfr : ∀ hi rs c, (∀ i ∈ ids c, i ∉ ids pk) → R hi rs c → R' hi rs c)
    (hf : ∀ hi rs, R hi rs pk → AfterX R' sp hi rs (f pk)) :
    ∀ (l : List (Key × α)) (c : α) (hi : Key) (rs : List Int), pickK k c l = pk → (ids c ++ (l.map fun x => ids x.2).flatten).Nodup → repK R sp hi rs c l → repK R' sp hi rs (insK f k c l).1 (insK f k c l).2
  | [], c, hi, rs, hp, _, hr => by
    have hc : c = pk := hp
    subst hc
    have := hf hi rs hr
    unfold AfterX at this
    unfold insK
    rcases h : f c with ⟨c', _ | ⟨s, d⟩⟩ <;> rw [h] at this <;> exact this
  | (s, d) :: r, c, hi, rs, hp, hn, hr => by
    obtain ⟨h1, h2⟩ := hr
    rw [List.map_cons, List.flatten_cons, List.nodup_append] at hn
    obtain ⟨n1, n2, n3⟩ := hn
    by_cases g : kl k s = true
    · have hc : c = pk := by rw [← hp]; simp [pickK, g]
      subst hc
      have hrest : repK R' sp hi rs d r := by
        refine repK_frame (q := fun x => ∀ i ∈ ids x, i ∉ ids c) (fun hi rs x hq hr => hfr hi rs x hq hr) r hi rs d ?_ ?_ h2
        · intro i hi' hic
          exact n3 i hic i (List.mem_append_left _ hi') rfl
        · intro x hx i hi' hic
          exact n3 i hic i (List.mem_append_right _ (List.mem_flatten.2 ⟨_, List.mem_map.2 ⟨x, hx, rfl⟩, hi'⟩)) rfl
      have := hf s (sp d) h1
      unfold AfterX at this
      simp only [insK, g, if_true]
      rcases h : f c with ⟨c', _ | ⟨s', d'⟩⟩
      · rw [h] at this
        exact ⟨this, hrest⟩
      · rw [h] at this
        exact ⟨this.1, this.2, hrest⟩
    · have hp' : pickK k d r = pk := by rw [← hp]; simp [pickK, g]
      have ih := insK_rep hs pk hfr hf r d hi rs hp' n2 h2
      simp only [insK, g, Bool.false_eq_true, if_false]
      refine ⟨?_, ih⟩
      rw [insK_spine hs]
      refine hfr _ _ _ (fun i hic hip => ?_) h1
      have hin : i ∈ ids d ++ (r.map fun x => ids x.2).flatten := by
        rcases pickK_mem k r d with q | ⟨x, hx, q⟩
        · rw [← hp', q] at hip; exact List.mem_append_left _ hip
        · rw [← hp', q] at hip; exact List.mem_append_right _ (List.mem_flatten.2 ⟨_, List.mem_map.2 ⟨x, hx, rfl⟩, hip⟩)
      exact n3 i hic i hin rfl
/-- All places below kids; and in a result. -/
def idsK {α : Type} (ids : α → List Nat) (c : α) (l : List (Key × α)) : List Nat := ids c ++ (l.map fun x => ids x.2).flatten
def idsX {α : Type} (ids : α → List Nat) (x : α × Option (Key × α)) : List Nat := ids x.1 ++ match x.2 with | none => [] | some d => ids d.2
theorem insK_ids {α : Type} {f : α → α × Option (Key × α)} {k : Key} {ids : α → List Nat} {new : List Nat} : ∀ (l : List (Key × α)) (c : α), (idsX ids (f (pickK k c l))).Perm (ids (pickK k c l) ++ new) →
    (idsK ids (insK f k c l).1 (insK f k c l).2).Perm (idsK ids c l ++ new)
  | [], c, h => by
    unfold insK
    simp only [pickK] at h
    rcases hf : f c with ⟨c', _ | ⟨s, d⟩⟩ <;> rw [hf] at h <;> simpa [idsX, idsK] using h
  | (s, d) :: r, c, h => by
    by_cases g : kl k s = true
    · simp only [pickK, g, if_true] at h
      simp only [insK, g, if_true]
      have hsw : ∀ X Y : List Nat, X.Perm (ids c ++ new) → (X ++ Y).Perm (ids c ++ Y ++ new) := fun X Y hX =>
        (hX.append_right Y).trans (by
          rw [List.append_assoc, List.append_assoc]
          exact (List.perm_append_comm (l₁ := new) (l₂ := Y)).append_left _)
      rcases hf : f c with ⟨c', _ | ⟨s', d'⟩⟩
      · rw [hf] at h
        have := hsw _ ((((s, d) :: r).map fun x => ids x.2).flatten) h
        simpa [idsX, idsK] using this
      · rw [hf] at h
        have := hsw _ ((((s, d) :: r).map fun x => ids x.2).flatten) h
        simpa [idsX, idsK] using this
    · have hp : pickK k c ((s, d) :: r) = pickK k d r := by simp [pickK, g]
      rw [hp] at h
      have ih := insK_ids r d h
      simp only [insK, g, Bool.false_eq_true, if_false]
      have := ih.append_left (ids c)
      simpa [idsK] using this
def insAt {α : Type} (l : List α) (i : Nat) (x : α) : List α := l.take i ++ x :: l.drop i
theorem insAt_len {α : Type} (l : List α) (i : Nat) (x : α) : (insAt l i x).length = l.length + 1 := by
  simp [insAt]
  omega
theorem insE_keys (k : Key) (v : Int) : ∀ l : List (Key × Int), (insE k v l).map (·.1) = insAt (l.map (·.1)) (cntK k (l.map (·.1))) k ∧ (insE k v l).map (·.2) = insAt (l.map (·.2)) (cntK k (l.map (·.1))) v
  | [] => by simp [insE, insAt, cntK]
  | e :: l => by
    obtain ⟨h1, h2⟩ := insE_keys k v l
    by_cases g : kl k e.1 = true
    · simp [insE, g, insAt, cntK]
    · simp only [insE, g, Bool.false_eq_true, if_false, List.map_cons, cntK]
      rw [h1, h2]
      exact ⟨rfl, rfl⟩
theorem insK_keys {α : Type} {f : α → α × Option (Key × α)} {k : Key} {g : α → Int} (hg : ∀ c, g (f c).1 = g c) : ∀ (l : List (Key × α)) (c : α),
    g (insK f k c l).1 = g c ∧ match (f (pickK k c l)).2 with
      | none => (insK f k c l).2.map (·.1) = l.map (·.1) ∧ (insK f k c l).2.map (fun x => g x.2) = l.map fun x => g x.2
      | some d => (insK f k c l).2.map (·.1) = insAt (l.map (·.1)) (cntK k (l.map (·.1))) d.1 ∧ (insK f k c l).2.map (fun x => g x.2) = insAt (l.map fun x => g x.2) (cntK k (l.map (·.1))) (g d.2)
  | [], c => by
    have := hg c
    unfold insK
    simp only [pickK]
    rcases hf : f c with ⟨c', _ | ⟨s, d⟩⟩ <;> rw [hf] at this <;> simp [this, insAt, cntK]
  | (s, d) :: r, c => by
    by_cases q : kl k s = true
    · have := hg c
      simp only [insK, pickK, q, if_true]
      rcases hf : f c with ⟨c', _ | ⟨s', d'⟩⟩ <;> rw [hf] at this <;> simp [this, insAt, cntK, q]
    · obtain ⟨h1, h2⟩ := insK_keys (k := k) hg r d
      simp only [insK, pickK, q, Bool.false_eq_true, if_false]
      refine ⟨trivial, ?_⟩
      rcases hf : (f (pickK k d r)).2 with _ | e
      · rw [hf] at h2
        simp [h1, h2.1, h2.2]
      · rw [hf] at h2
        simp only [List.map_cons, cntK, q, Bool.false_eq_true, if_false]
        rw [h2.1, h2.2, h1]
        exact ⟨rfl, rfl⟩
/-- A page into which a key was put: as it is, or split. -/
def putP (ps : List Pg) (i : Nat) (p : Pg) (ks : List Key) (kids : List Int) : List Pg × Option (Key × Nat) :=
  if ks.length ≤ 4 then (ps.set i ⟨p.leaf, ks, kids, p.high, p.next⟩, none)
  else (ps.set i ⟨p.leaf, ks.take 2, kids.take (if p.leaf then 2 else 3), ks.getD 2 [], (ps.length : Int)⟩ ++ [⟨p.leaf, ks.drop (if p.leaf then 2 else 3), kids.drop (if p.leaf then 2 else 3), p.high, p.next⟩], some (ks.getD 2 [], ps.length))
def noPg : Pg := ⟨false, [], [], [], 0⟩
/-- What a page takes from below. -/
def upP (Y : List Pg × Option (Key × Nat)) (i : Nat) (p : Pg) (n : Nat) : List Pg × Option (Key × Nat) :=
  match Y with
  | (ps1, none) => (ps1, none)
  | (ps1, some (up, rt)) => putP ps1 i p (insAt p.keys n up) (insAt p.kids (n + 1) (rt : Int))
/-- What putting in does to the pages of a tree of height h. -/
def addP : Nat → List Pg → Nat → Key → Int → List Pg × Option (Key × Nat)
  | 0, ps, i, k, v => putP ps i (ps.getD i noPg) (insAt (ps.getD i noPg).keys (cntK k (ps.getD i noPg).keys) k) (insAt (ps.getD i noPg).kids (cntK k (ps.getD i noPg).keys) v)
  | h + 1, ps, i, k, v => upP (addP h ps ((ps.getD i noPg).kids.getD (cntK k (ps.getD i noPg).keys) 0).toNat k v) i (ps.getD i noPg) (cntK k (ps.getD i noPg).keys)
/-- Putting in keeps the leftmost places. -/
theorem insT_spine : ∀ (h : Nat) (t : Tb h) (k : Key) (v : Int) (n : Nat), spine h (insT h t k v n).1 = spine h t ∧ idT h (insT h t k v n).1 = idT h t
  | 0, t, k, v, n => by
    show spine 0 (cutE _ _ _).1 = _ ∧ idT 0 (cutE _ _ _).1 = _
    unfold cutE
    split <;> exact ⟨rfl, rfl⟩
  | h + 1, t, k, v, n => by
    have hs := insK_spine (sp := spine h) (f := fun c => insT h c k v n) (k := k) (fun c => (insT_spine h c k v n).1) t.2.2 t.2.1
    show spine (h + 1) (cutK _ _ _ _).1 = _ ∧ idT (h + 1) (cutK _ _ _ _).1 = _
    unfold cutK
    split
    · exact ⟨by show (t.1 : Int) :: _ = _; rw [hs]; rfl, rfl⟩
    · split
      · exact ⟨by show (t.1 : Int) :: _ = _; rw [hs]; rfl, rfl⟩
      · exact ⟨by show (t.1 : Int) :: _ = _; rw [hs]; rfl, rfl⟩
end Go.Proofs.Ytahammkjkfdmhaa
/- Plain trees and their pages: putting in keeps what stands where. No program in sight. -/
namespace Go.Proofs.Ytahammkjkfdmhaa
set_option linter.unusedVariables false
set_option linter.unusedSimpArgs false
theorem getD_of {ps : List Pg} {i : Nat} {p : Pg} (h : ps[i]? = some p) : ps.getD i noPg = p := by simp [List.getD, h]
theorem set_at {ps : List Pg} {i : Nat} {p : Pg} (h : i < ps.length) : (ps.set i p)[i]? = some p := by simp [h]
theorem set_off {ps : List Pg} {i j : Nat} {p : Pg} (h : j ≠ i) : (ps.set i p)[j]? = ps[j]? := by rw [List.getElem?_set_ne (by omega)]
theorem app_lo {ps qs : List Pg} {i : Nat} (h : i < ps.length) : (ps ++ qs)[i]? = ps[i]? := List.getElem?_append_left h
theorem repK_pick {α : Type} {R : Key → List Int → α → Prop} {sp : α → List Int} (k : Key) : ∀ (l : List (Key × α)) (hi : Key) (rs : List Int) (c : α), repK R sp hi rs c l → ∃ hi' rs', R hi' rs' (pickK k c l)
  | [], hi, rs, c, h => ⟨hi, rs, h⟩
  | (s, d) :: r, hi, rs, c, h => by
    by_cases g : kl k s = true
    · exact ⟨s, sp d, by simpa [pickK, g] using h.1⟩
    · obtain ⟨hi', rs', q⟩ := repK_pick k r hi rs d h.2
      exact ⟨hi', rs', by simpa [pickK, g] using q⟩
theorem kw_pick {α : Type} {W : Key → Key → α → Prop} (k : Key) : ∀ (l : List (Key × α)) (lo hi : Key) (c : α), kwT W lo hi c l → ∃ lo' hi', W lo' hi' (pickK k c l)
  | [], lo, hi, c, h => ⟨lo, hi, h⟩
  | (s, d) :: r, lo, hi, c, h => by
    by_cases g : kl k s = true
    · exact ⟨lo, s, by simpa [pickK, g] using h.1⟩
    · obtain ⟨lo', hi', q⟩ := kw_pick k r s hi d h.2.2.2.2
      exact ⟨lo', hi', by simpa [pickK, g] using q⟩
theorem pick_ids {α : Type} {ids : α → List Nat} (k : Key) (l : List (Key × α)) (c : α) : (ids (pickK k c l)).Sublist (idsK ids c l) := by
  induction l generalizing c with
  | nil => simp [pickK, idsK]
  | cons x r ih =>
    obtain ⟨s, d⟩ := x
    by_cases g : kl k s = true
    · simp only [pickK, g, if_true, idsK]
      exact List.sublist_append_left _ _
    · have e : pickK k c ((s, d) :: r) = pickK k d r := by simp [pickK, g]
      rw [e]
      refine (ih d).trans ?_
      simp only [idsK, List.map_cons, List.flatten_cons]
      exact List.sublist_append_right _ _
theorem insK_len {α : Type} {f : α → α × Option (Key × α)} {k : Key} : ∀ (l : List (Key × α)) (c : α), (f (pickK k c l)).2 = none → (insK f k c l).2.length = l.length
  | [], c, h => by
    unfold insK
    simp only [pickK] at h
    rcases hf : f c with ⟨c', _ | d⟩ <;> rw [hf] at h <;> simp_all
  | (s, d) :: r, c, h => by
    by_cases g : kl k s = true
    · simp only [pickK, g, if_true] at h
      simp only [insK, g, if_true]
      rcases hf : f c with ⟨c', _ | e⟩ <;> rw [hf] at h <;> simp_all
    · have e : pickK k c ((s, d) :: r) = pickK k d r := by simp [pickK, g]
      rw [e] at h
      have := insK_len r d h
      simp [insK, g, this]
theorem repK_all {α : Type} {R : Key → List Int → α → Prop} {sp : α → List Int} {q : α → Prop} (h : ∀ hi rs c, R hi rs c → q c) : ∀ (l : List (Key × α)) (hi : Key) (rs : List Int) (c : α), repK R sp hi rs c l → q c ∧ ∀ x ∈ l, q x.2
  | [], hi, rs, c, hr => ⟨h _ _ _ hr, by simp⟩
  | (s, d) :: r, hi, rs, c, hr => by
    obtain ⟨h1, h2⟩ := repK_all h r hi rs d hr.2
    refine ⟨h _ _ _ hr.1, fun x hx => ?_⟩
    simp only [List.mem_cons] at hx
    rcases hx with rfl | hx
    · exact h1
    · exact h2 x hx
theorem repT_ids : ∀ {ps : List Pg} (h : Nat) (hi : Key) (rs : List Int) (t : Tb h), repT ps h hi rs t → ∀ i ∈ idsT h t, i < ps.length
  | ps, 0, hi, rs, t, hr, i, hi' => by
    have : i = t.1 := by simpa [idsT] using hi'
    subst this
    exact (List.getElem?_eq_some_iff.1 hr).1
  | ps, h + 1, hi, rs, t, hr, i, hi' => by
    obtain ⟨h1, h2⟩ := repK_all (q := fun c => ∀ i ∈ idsT h c, i < ps.length) (fun hi rs c hr => repT_ids h hi rs c hr) t.2.2 hi rs.tail t.2.1 hr.2
    simp only [idsT, List.mem_cons, List.mem_append, List.mem_flatten, List.mem_map] at hi'
    rcases hi' with rfl | hi' | ⟨_, ⟨x, hx, rfl⟩, hi'⟩
    · exact (List.getElem?_eq_some_iff.1 hr.1).1
    · exact h1 i hi'
    · exact h2 x hx i hi'
/-- What putting in leaves of the pages. -/
def Put (h : Nat) (ps : List Pg) (hi : Key) (rs : List Int) (t : Tb h) (X : Tb h × Option (Key × Tb h)) (Y : List Pg × Option (Key × Nat)) : Prop :=
  AfterX (repT Y.1 h) (spine h) hi rs X ∧ Y.2 = X.2.map (fun d => (d.1, idT h d.2)) ∧ (∀ i, i < ps.length → i ∉ idsT h t → Y.1[i]? = ps[i]?) ∧ ps.length ≤ Y.1.length ∧
    (idsX (idsT h) X).Perm (idsT h t ++ List.range' ps.length (Y.1.length - ps.length)) ∧ (X.2 ≠ none → Y.1.length = ps.length + h + 1)
theorem put_leaf (ps : List Pg) (hi : Key) (rs : List Int) (t : Tb 0) (k : Key) (v : Int) (hr : repT ps 0 hi rs t) : Put 0 ps hi rs t (insT 0 t k v ps.length) (addP 0 ps (idT 0 t) k v) := by
  have hp : ps[t.1]? = some ⟨true, t.2.map (·.1), t.2.map (·.2), hi, rs.headD (-1)⟩ := hr
  have hlt : t.1 < ps.length := (List.getElem?_eq_some_iff.1 hp).1
  obtain ⟨hk1, hk2⟩ := insE_keys k v t.2
  have hY : addP 0 ps (idT 0 t) k v = putP ps t.1 ⟨true, t.2.map (·.1), t.2.map (·.2), hi, rs.headD (-1)⟩ ((insE k v t.2).map (·.1)) ((insE k v t.2).map (·.2)) := by
    have hp' : ps.getD (idT 0 t) noPg = ⟨true, t.2.map (·.1), t.2.map (·.2), hi, rs.headD (-1)⟩ := getD_of hp
    unfold addP
    rw [hp', hk1, hk2]
    rfl
  have hX : insT 0 t k v ps.length = cutE t.1 ps.length (insE k v t.2) := rfl
  rw [hX, hY]
  generalize insE k v t.2 = l
  unfold putP cutE Put
  by_cases h4 : l.length ≤ 4
  · have h4' : (l.map (·.1)).length ≤ 4 := by simpa using h4
    rw [if_pos h4, if_pos h4']
    refine ⟨?_, rfl, fun i _ hi' => set_off (by simpa [idsT] using hi'), by simp, ?_, fun h => absurd rfl h⟩
    · show (ps.set t.1 _)[t.1]? = _
      rw [set_at hlt]
    · simp [idsX, idsT]
  · have h4' : ¬ (l.map (·.1)).length ≤ 4 := by simpa using h4
    rw [if_neg h4, if_neg h4']
    have hl : l.length > 4 := by omega
    refine ⟨⟨?_, ?_⟩, ?_, fun i hi' hn => ?_, by simp, ?_, fun _ => by simp⟩
    · show (ps.set t.1 _ ++ _)[t.1]? = _
      rw [app_lo (by simpa using hlt), set_at hlt]
      simp [spine, List.map_take, List.getD]
      cases l[2]? <;> simp
    · show (ps.set t.1 _ ++ _)[ps.length]? = _
      rw [List.getElem?_append_right (by simp)]
      simp [List.map_drop]
    · simp [idT, List.getD]
      cases l[2]? <;> simp
    · rw [app_lo (by simpa using hi'), set_off (by simpa [idsT] using hn)]
    · simp [idsX, idsT]
theorem range_next (n m : Nat) (h : n ≤ m) : List.range' n (m + 1 - n) = List.range' n (m - n) ++ [m] := by
  rw [show m + 1 - n = (m - n) + 1 by omega, List.range'_concat]
  congr 2
  omega
/-- Of keys and kids one behind the other. -/
theorem insAt_kid (c : Int) (l : List Int) (n : Nat) (x : Int) : insAt (c :: l) (n + 1) x = c :: insAt l n x := rfl
theorem put_node (h : Nat) (ih : ∀ (ps : List Pg) (hi : Key) (rs : List Int) (lo hb : Key) (t : Tb h) (k : Key) (v : Int), wfT h lo hb t → repT ps h hi rs t → (idsT h t).Nodup → (∀ i ∈ idsT h t, i < ps.length) → Put h ps hi rs t (insT h t k v ps.length) (addP h ps (idT h t) k v))
    (ps : List Pg) (hi : Key) (rs : List Int) (lo hb : Key) (t : Tb (h + 1)) (k : Key) (v : Int) (hw : wfT (h + 1) lo hb t) (hr : repT ps (h + 1) hi rs t) (hn : (idsT (h + 1) t).Nodup) (hl : ∀ i ∈ idsT (h + 1) t, i < ps.length) :
    Put (h + 1) ps hi rs t (insT (h + 1) t k v ps.length) (addP (h + 1) ps (idT (h + 1) t) k v) := by
  obtain ⟨i, c, l⟩ := t
  obtain ⟨hp, hk⟩ := hr
  obtain ⟨l1, l4, hkw⟩ := hw
  simp only at hp hk l1 l4 hkw
  have hids : idsT (h + 1) (i, c, l) = i :: idsK (idsT h) c l := rfl
  rw [hids] at hn hl
  have hni := (List.nodup_cons.1 hn).1
  have hnk := (List.nodup_cons.1 hn).2
  have hil : i < ps.length := hl i (by simp)
  have hkl : ∀ j ∈ idsK (idsT h) c l, j < ps.length := fun j hj => hl j (by simp [hj])
  obtain ⟨pk, hpk⟩ : ∃ pk, pk = pickK k c l := ⟨_, rfl⟩
  have hsub := pick_ids (ids := idsT h) k l c
  rw [← hpk] at hsub
  obtain ⟨lo', hb', hwp⟩ := kw_pick k l lo hb c hkw
  rw [← hpk] at hwp
  obtain ⟨f, hf⟩ : ∃ f : Tb h → Tb h × Option (Key × Tb h), f = fun c => insT h c k v ps.length := ⟨_, rfl⟩
  have hfpk : f pk = insT h pk k v ps.length := by rw [hf]
  have hnp : (idsT h pk).Nodup := hnk.sublist hsub
  have hlp : ∀ j ∈ idsT h pk, j < ps.length := fun j hj => hkl j (hsub.subset hj)
  have hput := fun hi' rs' hr' => ih ps hi' rs' lo' hb' pk k v hwp hr' hnp hlp
  obtain ⟨hi1, rs1, hr1⟩ := repK_pick k l hi rs.tail c hk
  rw [← hpk] at hr1
  obtain ⟨Y, hY⟩ : ∃ Y, Y = addP h ps (idT h pk) k v := ⟨_, rfl⟩
  rw [← hfpk, ← hY] at hput
  obtain ⟨_, p2, p3, p4, p5, p6⟩ := hput hi1 rs1 hr1
  have hat : ((idT h c : Int) :: l.map (fun x => (idT h x.2 : Int))).getD (cntK k (l.map (·.1))) 0 = (idT h pk : Int) := by
    rw [hpk]; exact pickK_at k (fun c => (idT h c : Int)) l c
  have hsp : ∀ c, spine h (f c).1 = spine h c := fun c => by rw [hf]; exact (insT_spine h c k v ps.length).1
  have hid : ∀ c, (idT h (f c).1 : Int) = (idT h c : Int) := fun c => by rw [hf]; simp only [(insT_spine h c k v ps.length).2]
  have hrep := insK_rep (R := repT ps h) (R' := repT Y.1 h) (ids := idsT h) (f := f) (k := k) hsp pk
    (fun hi rs c hq hr => repT_frame h hi rs c (fun j hj => p3 j (repT_ids h hi rs c hr j hj) (hq j hj)) hr) (fun hi' rs' hr' => (hput hi' rs' hr').1) l c hi rs.tail hpk.symm hnk hk
  have hinsids := insK_ids (f := f) (k := k) (ids := idsT h) (new := List.range' ps.length (Y.1.length - ps.length)) l c (by rw [← hpk]; exact p5)
  obtain ⟨hk1, hk2⟩ := insK_keys (f := f) (k := k) (g := fun c => (idT h c : Int)) hid l c
  have hk0 := insK_len (f := f) (k := k) l c
  rw [← hpk] at hk2 hk0
  have hbad : ∀ j ∈ idsK (idsT h) (insK f k c l).1 (insK f k c l).2, j ≠ i ∧ j < Y.1.length := fun j hj => by
    have := hinsids.subset hj
    rcases List.mem_append.1 this with q | q
    · exact ⟨fun e => hni (e ▸ q), Nat.lt_of_lt_of_le (hkl j q) p4⟩
    · rw [List.mem_range'_1] at q
      exact ⟨by omega, by omega⟩
  have hX : insT (h + 1) (i, c, l) k v ps.length = cutK i (ps.length + h + 1) (insK f k c l).1 (insK f k c l).2 := by rw [hf]; rfl
  have hp' : ps.getD (idT (h + 1) (i, c, l)) noPg = ⟨false, l.map (·.1), (idT h c : Int) :: l.map (fun x => (idT h x.2 : Int)), hi, rs.headD (-1)⟩ := getD_of hp
  have hA : addP (h + 1) ps (idT (h + 1) (i, c, l)) k v = upP Y i ⟨false, l.map (·.1), (idT h c : Int) :: l.map (fun x => (idT h x.2 : Int)), hi, rs.headD (-1)⟩ (cntK k (l.map (·.1))) := by
    rw [hY]
    conv => lhs; unfold addP
    rw [hp']
    simp only [hat, Int.toNat_natCast]
    rfl
  rw [hX, hA]
  obtain ⟨Z, hZ⟩ : ∃ Z, Z = insK f k c l := ⟨_, rfl⟩
  rw [← hZ] at hrep hinsids hk1 hk2 hk0 hbad ⊢
  obtain ⟨c', l'⟩ := Z
  simp only at hrep hinsids hk1 hk2 hk0 hbad ⊢
  obtain ⟨ps1, y⟩ := Y
  simp only at p2 p3 p4 p5 p6 hrep hinsids hbad
  rcases hfx : (f pk).2 with _ | ⟨s, d⟩
  · rw [hfx] at p2 hk2
    have hy : y = none := by simpa using p2
    subst hy
    have hlen := hk0 hfx
    have hcut : cutK i (ps.length + h + 1) c' l' = ((i, c', l'), none) := by
      unfold cutK
      split
      · rfl
      · rw [if_pos (by omega)]
    rw [hcut]
    show Put (h + 1) ps hi rs _ _ (ps1, none)
    refine ⟨⟨?_, hrep⟩, rfl, fun j hj hjn => p3 j hj (fun q => hjn ?_), p4, ?_, fun h => absurd rfl h⟩
    · show ps1[i]? = _
      rw [p3 i hil (fun q => hni (hsub.subset q)), hp, ← hk2.1, ← hk2.2, ← hk1]
    · rw [hids]; exact List.mem_cons_of_mem _ (hsub.subset q)
    · show (idsX _ _).Perm _
      simp only [idsX, List.append_nil]
      rw [hids]
      show (i :: idsK (idsT h) c' l').Perm _
      exact (hinsids.cons i)
  · rw [hfx] at p2 hk2
    have hy : y = some (s, idT h d) := by simpa using p2
    subst hy
    have hlen1 := p6 (by rw [hfx]; simp)
    have hi1 : i < ps1.length := by omega
    have hA2 : upP (ps1, some (s, idT h d)) i ⟨false, l.map (·.1), (idT h c : Int) :: l.map (fun x => (idT h x.2 : Int)), hi, rs.headD (-1)⟩ (cntK k (l.map (·.1))) =
        putP ps1 i ⟨false, l.map (·.1), (idT h c : Int) :: l.map (fun x => (idT h x.2 : Int)), hi, rs.headD (-1)⟩ (l'.map (·.1)) ((idT h c' : Int) :: l'.map (fun x => (idT h x.2 : Int))) := by
      rw [hk2.1, hk2.2, hk1]
      rfl
    rw [hA2]
    have hkl' : (l'.map (·.1)).length = l'.length := by simp
    by_cases h5 : l'.length ≤ 4
    · have hcut : cutK i (ps.length + h + 1) c' l' = ((i, c', l'), none) := by
        unfold cutK
        split
        · rfl
        · rw [if_pos h5]
      have hpp : putP ps1 i ⟨false, l.map (·.1), (idT h c : Int) :: l.map (fun x => (idT h x.2 : Int)), hi, rs.headD (-1)⟩ (l'.map (·.1)) ((idT h c' : Int) :: l'.map (fun x => (idT h x.2 : Int))) =
          (ps1.set i ⟨false, l'.map (·.1), (idT h c' : Int) :: l'.map (fun x => (idT h x.2 : Int)), hi, rs.headD (-1)⟩, none) := by
        unfold putP
        rw [if_pos (by omega)]
      rw [hcut, hpp]
      refine ⟨⟨?_, ?_⟩, rfl, fun j hj hjn => ?_, by simpa using p4, ?_, fun h => absurd rfl h⟩
      · show (ps1.set i _)[i]? = _
        rw [set_at hi1]
      · refine repK_frame (q := fun x => ∀ j ∈ idsT h x, j ≠ i) (fun hi rs x hq hr => repT_frame h hi rs x (fun j hj => set_off (hq j hj)) hr) l' hi rs.tail c' ?_ ?_ hrep
        · exact fun j hj => (hbad j (List.mem_append_left _ hj)).1
        · exact fun x hx j hj => (hbad j (List.mem_append_right _ (List.mem_flatten.2 ⟨_, List.mem_map.2 ⟨x, hx, rfl⟩, hj⟩))).1
      · rw [hids] at hjn
        rw [set_off (fun e => hjn (by rw [e]; simp))]
        exact p3 j hj (fun q => hjn (List.mem_cons_of_mem _ (hsub.subset q)))
      · show (idsX _ _).Perm (_ ++ List.range' ps.length ((ps1.set i _).length - ps.length))
        simp only [idsX, List.append_nil, List.length_set]
        rw [hids]
        show (i :: idsK (idsT h) c' l').Perm _
        exact (hinsids.cons i)
    · obtain ⟨⟨s1, d1⟩, ⟨s2, d2⟩, ⟨s3, d3⟩, r, rfl⟩ := three l' (by omega)
      have hcut : cutK i (ps.length + h + 1) c' ((s1, d1) :: (s2, d2) :: (s3, d3) :: r) = ((i, c', [(s1, d1), (s2, d2)]), some (s3, (ps.length + h + 1, d3, r))) := by
        unfold cutK
        show (if ((s1, d1) :: (s2, d2) :: (s3, d3) :: r).length ≤ 4 then _ else _) = _
        rw [if_neg h5]
        rfl
      have hpp : putP ps1 i ⟨false, l.map (·.1), (idT h c : Int) :: l.map (fun x => (idT h x.2 : Int)), hi, rs.headD (-1)⟩ (((s1, d1) :: (s2, d2) :: (s3, d3) :: r).map (·.1)) ((idT h c' : Int) :: ((s1, d1) :: (s2, d2) :: (s3, d3) :: r).map (fun x => (idT h x.2 : Int))) =
          (ps1.set i ⟨false, [s1, s2], [(idT h c' : Int), (idT h d1 : Int), (idT h d2 : Int)], s3, (ps1.length : Int)⟩ ++ [⟨false, r.map (·.1), (idT h d3 : Int) :: r.map (fun x => (idT h x.2 : Int)), hi, rs.headD (-1)⟩], some (s3, ps1.length)) := by
        unfold putP
        rw [if_neg (by omega)]
        rfl
      rw [hcut, hpp]
      obtain ⟨q1, q2, q3, q4⟩ := hrep
      obtain ⟨W, hW⟩ : ∃ W, W = ps1.set i ⟨false, [s1, s2], [(idT h c' : Int), (idT h d1 : Int), (idT h d2 : Int)], s3, (ps1.length : Int)⟩ ++ [⟨false, r.map (·.1), (idT h d3 : Int) :: r.map (fun x => (idT h x.2 : Int)), hi, rs.headD (-1)⟩] := ⟨_, rfl⟩
      have hWlo : ∀ j, j ≠ i → j < ps1.length → W[j]? = ps1[j]? := fun j hji hj => by rw [hW, app_lo (by simpa using hj), set_off hji]
      have hWi : W[i]? = some ⟨false, [s1, s2], [(idT h c' : Int), (idT h d1 : Int), (idT h d2 : Int)], s3, (ps1.length : Int)⟩ := by rw [hW, app_lo (by simpa using hi1), set_at hi1]
      have hWn : W[ps1.length]? = some ⟨false, r.map (·.1), (idT h d3 : Int) :: r.map (fun x => (idT h x.2 : Int)), hi, rs.headD (-1)⟩ := by rw [hW, List.getElem?_append_right (by simp)]; simp
      have hWl : W.length = ps1.length + 1 := by rw [hW]; simp
      rw [← hW]
      have hfr : ∀ (hi : Key) (rs : List Int) (x : Tb h), (∀ j ∈ idsT h x, j ≠ i ∧ j < ps1.length) → repT ps1 h hi rs x → repT W h hi rs x := fun hi rs x hq hr =>
        repT_frame h hi rs x (fun j hj => hWlo j (hq j hj).1 (hq j hj).2) hr
      have hbk : ∀ (x : Tb h), (x = c' ∨ x = d1 ∨ x = d2 ∨ x = d3 ∨ ∃ y ∈ r, x = y.2) → ∀ j ∈ idsT h x, j ≠ i ∧ j < ps1.length := fun x hx j hj => hbad j (by
        simp only [idsK, List.map_cons, List.flatten_cons, List.mem_append, List.mem_flatten, List.mem_map]
        rcases hx with rfl | rfl | rfl | rfl | ⟨y, hy, rfl⟩
        · exact .inl hj
        · exact .inr (.inl hj)
        · exact .inr (.inr (.inl hj))
        · exact .inr (.inr (.inr (.inl hj)))
        · exact .inr (.inr (.inr (.inr ⟨_, ⟨y, hy, rfl⟩, hj⟩))))
      refine ⟨⟨⟨?_, ?_⟩, ⟨?_, ?_⟩⟩, ?_, fun j hj hjn => ?_, by rw [hWl]; omega, ?_, fun _ => by rw [hWl]; omega⟩
      · show W[i]? = _
        rw [hWi]
        simp only [spine, List.headD_cons, hlen1]
        rfl
      · exact ⟨hfr _ _ _ (hbk c' (by simp)) q1, hfr _ _ _ (hbk d1 (by simp)) q2, hfr _ _ _ (hbk d2 (by simp)) q3⟩
      · show W[ps.length + h + 1]? = _
        rw [← hlen1, hWn]
      · refine repK_frame (q := fun x => ∀ j ∈ idsT h x, j ≠ i ∧ j < ps1.length) hfr r hi rs.tail d3 ?_ ?_ q4
        · exact hbk d3 (by simp)
        · exact fun x hx => hbk x.2 (.inr (.inr (.inr (.inr ⟨x, hx, rfl⟩))))
      · show some (s3, ps1.length) = some (s3, ps.length + h + 1)
        rw [hlen1]
      · rw [hids] at hjn
        rw [hWlo j (fun e => hjn (by rw [e]; simp)) (by omega)]
        exact p3 j hj (fun q => hjn (List.mem_cons_of_mem _ (hsub.subset q)))
      · rw [hWl, range_next _ _ p4, hids]
        show ((i :: idsK (idsT h) c' [(s1, d1), (s2, d2)]) ++ ((ps.length + h + 1) :: idsK (idsT h) d3 r)).Perm _
        rw [← hlen1]
        have hperm := (hinsids.cons i)
        have e : (i :: idsK (idsT h) c' [(s1, d1), (s2, d2)]) ++ (ps1.length :: idsK (idsT h) d3 r) = (i :: idsK (idsT h) c' [(s1, d1), (s2, d2)]) ++ ([ps1.length] ++ idsK (idsT h) d3 r) := rfl
        rw [e]
        refine (List.Perm.append_left _ (List.perm_append_comm (l₁ := [ps1.length]) (l₂ := idsK (idsT h) d3 r))).trans ?_
        rw [← List.append_assoc]
        have e2 : (i :: idsK (idsT h) c' [(s1, d1), (s2, d2)]) ++ idsK (idsT h) d3 r = i :: idsK (idsT h) c' ((s1, d1) :: (s2, d2) :: (s3, d3) :: r) := by simp [idsK]
        rw [e2, ← List.append_assoc]
        exact hperm.append_right _
/-- PUTTING IN IS WHAT IT IS AMONG THE PAGES. -/
theorem put_any : ∀ (h : Nat) (ps : List Pg) (hi : Key) (rs : List Int) (lo hb : Key) (t : Tb h) (k : Key) (v : Int), wfT h lo hb t → repT ps h hi rs t → (idsT h t).Nodup → (∀ i ∈ idsT h t, i < ps.length) →
    Put h ps hi rs t (insT h t k v ps.length) (addP h ps (idT h t) k v)
  | 0, ps, hi, rs, lo, hb, t, k, v, _, hr, _, _ => put_leaf ps hi rs t k v hr
  | h + 1, ps, hi, rs, lo, hb, t, k, v, hw, hr, hn, hl => put_node h (fun ps hi rs lo hb t k v => put_any h ps hi rs lo hb t k v) ps hi rs lo hb t k v hw hr hn hl
end Go.Proofs.Ytahammkjkfdmhaa
/- Plain trees: the whole one; a key put in, a key taken out. No program in sight. -/
namespace Go.Proofs.Ytahammkjkfdmhaa
set_option linter.unusedVariables false
set_option linter.unusedSimpArgs false
/-- The pages of T are those of a tree t of height h that may be. -/
def Reps (T : Tr) (h : Nat) (t : Tb h) : Prop := T.root = (idT h t : Int) ∧ repT T.pages h [] [] t ∧ wfT h [] [] t ∧ (idsT h t).Perm (List.range T.pages.length)
theorem Reps.nodup {T : Tr} {h : Nat} {t : Tb h} (hr : Reps T h t) : (idsT h t).Nodup := hr.2.2.2.nodup_iff.2 List.nodup_range
theorem Reps.lt {T : Tr} {h : Nat} {t : Tb h} (hr : Reps T h t) : ∀ i ∈ idsT h t, i < T.pages.length := fun i hi => List.mem_range.1 (hr.2.2.2.subset hi)
/-- A tree into which a key is put. -/
def insTr (T : Tr) (h : Nat) (k : Key) (v : Int) : Tr :=
  match addP h T.pages T.root.toNat k v with
  | (ps, none) => ⟨ps, T.root⟩
  | (ps, some (up, rt)) => ⟨ps ++ [⟨false, [up], [T.root, (rt : Int)], [], -1⟩], (ps.length : Int)⟩
theorem range_add (n m : Nat) (h : n ≤ m) : List.range n ++ List.range' n (m - n) = List.range m := by
  rw [List.range_eq_range', List.range_eq_range']
  have := List.range'_append (s := 0) (m := n) (n := m - n) (step := 1)
  simp only [Nat.mul_one, Nat.one_mul, Nat.zero_add] at this
  rw [this]
  congr 1
  omega
theorem putP_len (ps : List Pg) (i : Nat) (p : Pg) (ks : List Key) (kids : List Int) : (putP ps i p ks kids).1.length ≤ ps.length + 1 := by
  unfold putP
  split <;> simp
/-- At most a page for each height. -/
theorem addP_len : ∀ (h : Nat) (ps : List Pg) (i : Nat) (k : Key) (v : Int), (addP h ps i k v).1.length ≤ ps.length + h + 1
  | 0, ps, i, k, v => by
    unfold addP
    exact putP_len ..
  | h + 1, ps, i, k, v => by
    unfold addP
    have ih := addP_len h ps ((ps.getD i noPg).kids.getD (cntK k (ps.getD i noPg).keys) 0).toNat k v
    rcases hY : addP h ps ((ps.getD i noPg).kids.getD (cntK k (ps.getD i noPg).keys) 0).toNat k v with ⟨ps1, _ | ⟨up, rt⟩⟩ <;> rw [hY] at ih
    · show ps1.length ≤ _
      simp only at ih
      omega
    · show (putP ps1 i _ _ _).1.length ≤ _
      have := putP_len ps1 i (ps.getD i noPg) (insAt (ps.getD i noPg).keys (cntK k (ps.getD i noPg).keys) up) (insAt (ps.getD i noPg).kids (cntK k (ps.getD i noPg).keys + 1) (rt : Int))
      simp only at ih
      omega
/-- A TREE INTO WHICH A KEY IS PUT IS ONE THAT MAY BE, AND HAS IT. -/
theorem insTr_good {T : Tr} {h : Nat} {t : Tb h} {k : Key} {v : Int} (hr : Reps T h t) (ho : okK k) (hv : 0 ≤ v) (hn : ∀ e ∈ entT h t, e.1 ≠ k) :
    ∃ (h' : Nat) (t' : Tb h'), Reps (insTr T h k v) h' t' ∧ entT h' t' = insE k v (entT h t) ∧ h' ≤ h + 1 ∧ (insTr T h k v).pages.length ≤ T.pages.length + h + 2 := by
  have hnd := hr.nodup
  have hlt := hr.lt
  obtain ⟨hroot, hrep, hwf, hids⟩ := hr
  obtain ⟨g1, g2⟩ := insT_good h [] [] t k v T.pages.length hwf ⟨kl_nil k, .inl rfl⟩ ho hv hn
  obtain ⟨p1, p2, p3, p4, p5, p6⟩ := put_any h T.pages [] [] [] [] t k v hwf hrep hnd hlt
  have hY : addP h T.pages T.root.toNat k v = addP h T.pages (idT h t) k v := by rw [hroot, Int.toNat_natCast]
  have hlen : (addP h T.pages (idT h t) k v).1.length ≤ T.pages.length + h + 1 := addP_len ..
  unfold insTr
  rw [hY]
  obtain ⟨X, hX⟩ : ∃ X, X = insT h t k v T.pages.length := ⟨_, rfl⟩
  obtain ⟨Y, hYY⟩ : ∃ Y, Y = addP h T.pages (idT h t) k v := ⟨_, rfl⟩
  have hidX := (insT_spine h t k v T.pages.length).2
  rw [← hX] at g1 g2 p1 p2 p5 p6 hidX
  rw [← hYY] at p1 p2 p3 p4 p5 p6 hlen ⊢
  obtain ⟨x, xo⟩ := X
  obtain ⟨ps, y⟩ := Y
  simp only at p2 p3 p4 p5 p6 hlen hidX
  have hperm : (idsX (idsT h) (x, xo)).Perm (List.range ps.length) := by
    rw [← range_add _ _ p4]
    exact p5.trans (hids.append_right _)
  cases xo with
  | none =>
    have hy : y = none := by simpa using p2
    subst hy
    refine ⟨h, x, ⟨?_, p1, g1, by simpa [idsX] using hperm⟩, by simpa [entX] using g2, by omega, by simp only; omega⟩
    rw [hroot, hidX]
  | some d =>
    obtain ⟨s, d⟩ := d
    have hy : y = some (s, idT h d) := by simpa using p2
    subst hy
    obtain ⟨q1, q2, q3, q4, q5⟩ := g1
    obtain ⟨r1, r2⟩ := p1
    have hidlt : ∀ j ∈ idsX (idsT h) (x, some (s, d)), j < ps.length := fun j hj => List.mem_range.1 (hperm.subset hj)
    have hfr : ∀ (hi : Key) (rs : List Int) (u : Tb h), (∀ j ∈ idsT h u, j < ps.length) → repT ps h hi rs u → repT (ps ++ [⟨false, [s], [T.root, (idT h d : Int)], [], -1⟩]) h hi rs u :=
      fun hi rs u hu hr => repT_frame h hi rs u (fun j hj => app_lo (hu j hj)) hr
    refine ⟨h + 1, (ps.length, x, [(s, d)]), ⟨rfl, ⟨?_, ?_, ?_⟩, ⟨by simp, by simp, q4, q1, ⟨kl_nil _, .inl rfl⟩, by simp, q5⟩, ?_⟩, ?_, by omega, by simp; omega⟩
    · show (ps ++ _)[ps.length]? = _
      rw [List.getElem?_append_right (Nat.le_refl _), Nat.sub_self, hroot, ← hidX]
      rfl
    · exact hfr _ _ _ (fun j hj => hidlt j (List.mem_append_left _ hj)) r1
    · exact hfr _ _ _ (fun j hj => hidlt j (List.mem_append_right _ hj)) r2
    · show (ps.length :: (idsT h x ++ ([(s, d)].map fun x => idsT h x.2).flatten)).Perm (List.range (ps ++ _).length)
      rw [List.length_append, List.length_singleton, List.range_succ]
      have : (idsT h x ++ ([(s, d)].map fun x => idsT h x.2).flatten) = idsX (idsT h) (x, some (s, d)) := by simp [idsX]
      rw [this]
      exact (hperm.cons _).trans (List.perm_append_singleton _ _).symm
    · show entT h x ++ ([(s, d)].map fun x => entT h x.2).flatten = _
      rw [← g2]
      simp [entX]
end Go.Proofs.Ytahammkjkfdmhaa
/- Plain trees: a key taken out, a key looked for. No program in sight. -/
namespace Go.Proofs.Ytahammkjkfdmhaa
set_option linter.unusedVariables false
set_option linter.unusedSimpArgs false
/-- Entries without a key. -/
def offE (k : Key) (l : List (Key × Int)) : List (Key × Int) := l.filter fun e => !(e.1 == k)
theorem offE_app (k : Key) (a b : List (Key × Int)) : offE k (a ++ b) = offE k a ++ offE k b := by simp [offE]
theorem offE_same {k : Key} {l : List (Key × Int)} (h : ∀ e ∈ l, e.1 ≠ k) : offE k l = l := by
  unfold offE
  rw [List.filter_eq_self]
  intro e he
  simp [h e he]
theorem offE_rise {k : Key} {l : List (Key × Int)} (h : Rise l) : Rise (offE k l) := List.Pairwise.sublist List.filter_sublist h
/-- What is done to the kid in which a key would stand. -/
def updK {α : Type} (f : α → α) (k : Key) : α → List (Key × α) → α × List (Key × α)
  | c, [] => (f c, [])
  | c, (s, d) :: r => if kl k s then (f c, (s, d) :: r) else (c, (s, (updK f k d r).1) :: (updK f k d r).2)
/-- A key taken out. -/
def delT : (h : Nat) → Tb h → Key → Tb h
  | 0, t, k => (t.1, offE k t.2)
  | h + 1, t, k => (t.1, updK (fun c => delT h c k) k t.2.1 t.2.2)
theorem updK_len {α : Type} {f : α → α} {k : Key} : ∀ (l : List (Key × α)) (c : α), (updK f k c l).2.map (·.1) = l.map (·.1)
  | [], c => rfl
  | (s, d) :: r, c => by
    by_cases g : kl k s = true
    · simp [updK, g]
    · simp [updK, g, updK_len r d]
theorem updK_good {α : Type} {W : Key → Key → α → Prop} {ent : α → List (Key × Int)} {f : α → α} {k : Key}
    (he : ∀ lo hi c, W lo hi c → ∀ e ∈ ent c, inB lo hi e.1)
    (hf : ∀ lo hi c, W lo hi c → W lo hi (f c) ∧ ent (f c) = offE k (ent c)) :
    ∀ (l : List (Key × α)) (lo hi : Key) (c : α), kwT W lo hi c l → kwT W lo hi (updK f k c l).1 (updK f k c l).2 ∧ entK ent (updK f k c l).1 (updK f k c l).2 = offE k (entK ent c l)
  | [], lo, hi, c, h => by
    obtain ⟨g1, g2⟩ := hf lo hi c h
    exact ⟨g1, by simp [updK, entK, g2]⟩
  | (s, d) :: r, lo, hi, c, h => by
    obtain ⟨h1, h2, h3, h4, h5⟩ := h
    have hsplit : ∀ c, entK ent c ((s, d) :: r) = ent c ++ entK ent d r := fun c => by simp [entK]
    by_cases hks : kl k s = true
    · obtain ⟨g1, g2⟩ := hf lo s c h1
      have hright : ∀ e ∈ entK ent d r, e.1 ≠ k := fun e he' heq => by
        have := (entK_in he r s hi d h5 e he').1
        rw [heq, hks] at this
        exact absurd this (by simp)
      simp only [updK, hks, if_true]
      refine ⟨⟨g1, h2, h3, h4, h5⟩, ?_⟩
      rw [hsplit, hsplit, offE_app, offE_same hright, g2]
    · obtain ⟨g1, g2⟩ := updK_good he hf r s hi d h5
      have hleft : ∀ e ∈ ent c, e.1 ≠ k := fun e he' heq => by
        rcases (he _ _ _ h1 e he').2 with q | q
        · exact absurd q h2.ne
        · rw [heq] at q; exact hks q
      simp only [updK, hks, Bool.false_eq_true, if_false]
      refine ⟨⟨h1, h2, h3, fun x hx => ?_, g1⟩, ?_⟩
      · have hm : x.1 ∈ (updK f k d r).2.map (·.1) := List.mem_map.2 ⟨x, hx, rfl⟩
        rw [updK_len] at hm
        obtain ⟨y, hy, hxy⟩ := List.mem_map.1 hm
        rw [← hxy]
        exact h4 y hy
      · have : entK ent c ((s, (updK f k d r).1) :: (updK f k d r).2) = ent c ++ entK ent (updK f k d r).1 (updK f k d r).2 := by simp [entK]
        rw [this, hsplit, offE_app, offE_same hleft, g2]
/-- A TREE FROM WHICH A KEY IS TAKEN MAY BE, AND HOLDS THE OTHERS. -/
theorem delT_good : ∀ (h : Nat) (lo hi : Key) (t : Tb h) (k : Key), wfT h lo hi t → wfT h lo hi (delT h t k) ∧ entT h (delT h t k) = offE k (entT h t)
  | 0, lo, hi, t, k, hw => ⟨⟨Nat.le_trans (List.length_filter_le ..) hw.1, offE_rise hw.2.1, fun e he => hw.2.2 e ((List.mem_filter.1 he).1)⟩, rfl⟩
  | h + 1, lo, hi, t, k, hw => by
    obtain ⟨l1, l4, hkw⟩ := hw
    obtain ⟨g1, g2⟩ := updK_good (W := wfT h) (ent := entT h) (f := fun c => delT h c k) (k := k) (fun lo hi c => ent_in h lo hi c) (fun lo hi c hw => delT_good h lo hi c k hw) t.2.2 lo hi t.2.1 hkw
    have hl : (updK (fun c => delT h c k) k t.2.1 t.2.2).2.length = t.2.2.length := by
      have := congrArg List.length (updK_len (f := fun c => delT h c k) (k := k) t.2.2 t.2.1)
      simpa using this
    exact ⟨⟨by rw [← hl] at l1; exact l1, by rw [← hl] at l4; exact l4, g1⟩, g2⟩
theorem updK_first {α β : Type} {f : α → α} {k : Key} {g : α → β} (hg : ∀ c, g (f c) = g c) : ∀ (l : List (Key × α)) (c : α), g (updK f k c l).1 = g c ∧ (updK f k c l).2.map (fun x => g x.2) = l.map fun x => g x.2
  | [], c => ⟨hg c, rfl⟩
  | (s, d) :: r, c => by
    by_cases q : kl k s = true
    · simp [updK, q, hg c]
    · obtain ⟨h1, h2⟩ := updK_first (k := k) hg r d
      simp [updK, q, h1, h2]
theorem delT_same : ∀ (h : Nat) (t : Tb h) (k : Key), spine h (delT h t k) = spine h t ∧ idsT h (delT h t k) = idsT h t ∧ idT h (delT h t k) = idT h t
  | 0, t, k => ⟨rfl, rfl, rfl⟩
  | h + 1, t, k => by
    obtain ⟨a1, _⟩ := updK_first (f := fun c => delT h c k) (k := k) (g := spine h) (fun c => (delT_same h c k).1) t.2.2 t.2.1
    obtain ⟨b1, b2⟩ := updK_first (f := fun c => delT h c k) (k := k) (g := idsT h) (fun c => (delT_same h c k).2.1) t.2.2 t.2.1
    refine ⟨?_, ?_, rfl⟩
    · show (t.1 : Int) :: spine h (updK _ k t.2.1 t.2.2).1 = _
      rw [a1]
      rfl
    · show t.1 :: (idsT h (updK _ k t.2.1 t.2.2).1 ++ ((updK _ k t.2.1 t.2.2).2.map fun x => idsT h x.2).flatten) = _
      rw [b1, b2]
      rfl
/-- The leaf in which a key would stand. -/
def leafT : (h : Nat) → Tb h → Key → Tb 0
  | 0, t, _ => t
  | h + 1, t, k => leafT h (pickK k t.2.1 t.2.2) k
/-- What taking out does to the pages. -/
def takeP (h : Nat) (ps : List Pg) (t : Tb h) (k : Key) : List Pg :=
  ps.set (leafT h t k).1 ⟨true, (offE k (leafT h t k).2).map (·.1), (offE k (leafT h t k).2).map (·.2), (ps.getD (leafT h t k).1 noPg).high, (ps.getD (leafT h t k).1 noPg).next⟩
theorem leaf_mem : ∀ (h : Nat) (t : Tb h) (k : Key), (leafT h t k).1 ∈ idsT h t
  | 0, t, k => by simp [leafT, idsT]
  | h + 1, t, k => by
    have := leaf_mem h (pickK k t.2.1 t.2.2) k
    have hs := pick_ids (ids := idsT h) k t.2.2 t.2.1
    exact List.mem_cons_of_mem _ (hs.subset this)
theorem updK_rep {α : Type} {R R' : Key → List Int → α → Prop} {sp : α → List Int} {f : α → α} {k : Key} {ids : α → List Nat} (i : Nat)
    (hs : ∀ c, sp (f c) = sp c) (hfr : ∀ hi rs c, i ∉ ids c → R hi rs c → R' hi rs c) :
    ∀ (l : List (Key × α)) (c : α) (hi : Key) (rs : List Int), i ∈ ids (pickK k c l) → (∀ hi rs, R hi rs (pickK k c l) → R' hi rs (f (pickK k c l))) → (ids c ++ (l.map fun x => ids x.2).flatten).Nodup → repK R sp hi rs c l →
      repK R' sp hi rs (updK f k c l).1 (updK f k c l).2
  | [], c, hi, rs, hi', hf, _, hr => hf hi rs hr
  | (s, d) :: r, c, hi, rs, hi', hf, hn, hr => by
    obtain ⟨h1, h2⟩ := hr
    rw [List.map_cons, List.flatten_cons, List.nodup_append] at hn
    obtain ⟨n1, n2, n3⟩ := hn
    by_cases g : kl k s = true
    · have hc : pickK k c ((s, d) :: r) = c := by simp [pickK, g]
      rw [hc] at hi' hf
      simp only [updK, g, if_true]
      refine ⟨hf _ _ h1, repK_frame (q := fun x => i ∉ ids x) (fun hi rs x hq hr => hfr hi rs x hq hr) r hi rs d ?_ ?_ h2⟩
      · exact fun q => n3 i hi' i (List.mem_append_left _ q) rfl
      · exact fun x hx q => n3 i hi' i (List.mem_append_right _ (List.mem_flatten.2 ⟨_, List.mem_map.2 ⟨x, hx, rfl⟩, q⟩)) rfl
    · have hp : pickK k c ((s, d) :: r) = pickK k d r := by simp [pickK, g]
      rw [hp] at hi' hf
      simp only [updK, g, Bool.false_eq_true, if_false]
      refine ⟨?_, updK_rep i hs hfr r d hi rs hi' hf n2 h2⟩
      rw [(updK_first hs r d).1]
      exact hfr _ _ _ (fun q => n3 i q i ((pick_ids (ids := ids) k r d).subset hi') rfl) h1
theorem take_rep : ∀ (h : Nat) (ps : List Pg) (hi : Key) (rs : List Int) (t : Tb h) (k : Key), (idsT h t).Nodup → repT ps h hi rs t → repT (takeP h ps t k) h hi rs (delT h t k)
  | 0, ps, hi, rs, t, k, hn, hr => by
    have hp : ps[t.1]? = some ⟨true, t.2.map (·.1), t.2.map (·.2), hi, rs.headD (-1)⟩ := hr
    show (takeP 0 ps t k)[t.1]? = _
    unfold takeP
    simp only [leafT]
    rw [set_at (List.getElem?_eq_some_iff.1 hp).1, getD_of hp]
    rfl
  | h + 1, ps, hi, rs, t, k, hn, hr => by
    obtain ⟨hp, hk⟩ := hr
    have hn' : (t.1 :: idsK (idsT h) t.2.1 t.2.2).Nodup := hn
    obtain ⟨hn1, hn2⟩ := List.nodup_cons.1 hn'
    have hE : takeP (h + 1) ps t k = takeP h ps (pickK k t.2.1 t.2.2) k := rfl
    have hsub := pick_ids (ids := idsT h) k t.2.2 t.2.1
    have hm := leaf_mem h (pickK k t.2.1 t.2.2) k
    have hne : t.1 ≠ (leafT h (pickK k t.2.1 t.2.2) k).1 := fun e => hn1 (by rw [e]; exact hsub.subset hm)
    obtain ⟨b1, b2⟩ := updK_first (f := fun c => delT h c k) (k := k) (g := fun c => (idT h c : Int)) (fun c => by simp only [(delT_same h c k).2.2]) t.2.2 t.2.1
    rw [hE]
    refine ⟨?_, ?_⟩
    · show (takeP h ps _ k)[t.1]? = some ⟨false, (updK _ k t.2.1 t.2.2).2.map (·.1), (idT h (updK _ k t.2.1 t.2.2).1 : Int) :: (updK _ k t.2.1 t.2.2).2.map (fun x => (idT h x.2 : Int)), hi, rs.headD (-1)⟩
      rw [updK_len, b2, b1]
      unfold takeP
      rw [set_off hne]
      exact hp
    · exact updK_rep (R := repT ps h) (ids := idsT h) (f := fun c => delT h c k) (k := k) (leafT h (pickK k t.2.1 t.2.2) k).1 (fun c => (delT_same h c k).1)
        (fun hi rs c hq hr => repT_frame h hi rs c (fun j hj => set_off (fun e => hq (by rw [← e]; exact hj))) hr) t.2.2 t.2.1 hi rs.tail hm
        (fun hi rs hr => take_rep h ps hi rs _ k (hn2.sublist hsub) hr) hn2 hk
/-- A TREE FROM WHICH A KEY IS TAKEN, AMONG THE PAGES. -/
theorem delTr_good {T : Tr} {h : Nat} {t : Tb h} {k : Key} (hr : Reps T h t) : Reps ⟨takeP h T.pages t k, T.root⟩ h (delT h t k) ∧ entT h (delT h t k) = offE k (entT h t) := by
  have hnd := hr.nodup
  obtain ⟨hroot, hrep, hwf, hids⟩ := hr
  obtain ⟨g1, g2⟩ := delT_good h [] [] t k hwf
  refine ⟨⟨?_, take_rep h _ _ _ _ _ hnd hrep, g1, ?_⟩, g2⟩
  · rw [(delT_same h t k).2.2]; exact hroot
  · rw [(delT_same h t k).2.1]
    simpa [takeP] using hids
/-- A key stands in its leaf, or nowhere. -/
theorem leaf_ent : ∀ (h : Nat) (lo hi : Key) (t : Tb h) (k : Key), wfT h lo hi t → ∀ v, (k, v) ∈ entT h t ↔ (k, v) ∈ (leafT h t k).2
  | 0, lo, hi, t, k, hw, v => Iff.rfl
  | h + 1, lo, hi, t, k, hw, v => by
    have main : ∀ (l : List (Key × Tb h)) (lo hi : Key) (c : Tb h), kwT (wfT h) lo hi c l → ((k, v) ∈ entK (entT h) c l ↔ (k, v) ∈ (leafT h (pickK k c l) k).2) := by
      intro l
      induction l with
      | nil =>
        intro lo hi c hw
        have := leaf_ent h lo hi c k hw v
        simpa [entK, pickK] using this
      | cons x r ih =>
        obtain ⟨s, d⟩ := x
        intro lo hi c hw
        obtain ⟨h1, h2, h3, h4, h5⟩ := hw
        have hsplit : entK (entT h) c ((s, d) :: r) = entT h c ++ entK (entT h) d r := by simp [entK]
        rw [hsplit, List.mem_append]
        by_cases g : kl k s = true
        · simp only [pickK, g, if_true]
          rw [leaf_ent h lo s c k h1 v]
          refine ⟨fun q => q.elim id fun q => ?_, .inl⟩
          have := (entK_in (fun lo hi c => ent_in h lo hi c) r s hi d h5 _ q).1
          rw [show kl (k, v).1 s = kl k s from rfl, g] at this
          exact absurd this (by simp)
        · simp only [pickK, g, Bool.false_eq_true, if_false]
          rw [← ih s hi d h5]
          refine ⟨fun q => q.elim (fun q => ?_) id, .inr⟩
          rcases (ent_in h lo s c h1 _ q).2 with e | e
          · exact absurd e h2.ne
          · exact absurd e g
    exact main t.2.2 lo hi t.2.1 hw.2.2
end Go.Proofs.Ytahammkjkfdmhaa
