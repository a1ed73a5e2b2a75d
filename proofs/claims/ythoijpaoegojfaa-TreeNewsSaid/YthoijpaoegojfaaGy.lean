/- Plain trees: the leaves one behind the other, and where a key's is among them. No program in sight. -/
import Derived.Test.YthoijpaoegojfaaGx
namespace Go.Proofs.Ythoijpaoegojfaa
set_option linter.unusedVariables false
set_option linter.unusedSimpArgs false
theorem entK_rise {α : Type} {W : Key → Key → α → Prop} {ent : α → List (Key × Int)} (he : ∀ lo hi c, W lo hi c → ∀ e ∈ ent c, inB lo hi e.1) (hr : ∀ lo hi c, W lo hi c → Rise (ent c)) :
    ∀ (l : List (Key × α)) (lo hi : Key) (c : α), kwT W lo hi c l → Rise (entK ent c l)
  | [], lo, hi, c, h => by simpa [entK] using hr lo hi c h
  | (s, d) :: r, lo, hi, c, h => by
    obtain ⟨h1, h2, h3, h4, h5⟩ := h
    have hsplit : entK ent c ((s, d) :: r) = ent c ++ entK ent d r := by simp [entK]
    rw [hsplit]
    unfold Rise
    rw [List.pairwise_append]
    refine ⟨hr lo s c h1, entK_rise he hr r s hi d h5, fun a ha b hb => ?_⟩
    have h6 := (entK_in he r s hi d h5 b hb).1
    rcases (he lo s c h1 a ha).2 with q | q
    · exact absurd q h2.ne
    · exact kl_lt_le q h6
/-- Entries of a tree rise. -/
theorem ent_rise : ∀ (h : Nat) (lo hi : Key) (t : Tb h), wfT h lo hi t → Rise (entT h t)
  | 0, lo, hi, t, hw => hw.2.1
  | h + 1, lo, hi, t, hw => entK_rise (fun lo hi c => ent_in h lo hi c) (fun lo hi c => ent_rise h lo hi c) t.2.2 lo hi t.2.1 hw.2.2
/-- Every key of a tree may be one, and its row. -/
theorem ent_okk : ∀ (h : Nat) (lo hi : Key) (t : Tb h), wfT h lo hi t → ∀ e ∈ entT h t, okK e.1 ∧ 0 ≤ e.2
  | 0, lo, hi, t, hw, e, he => (hw.2.2 e he).2
  | h + 1, lo, hi, t, hw, e, he => by
    have main : ∀ (l : List (Key × Tb h)) (lo hi : Key) (c : Tb h), kwT (wfT h) lo hi c l → ∀ e ∈ entK (entT h) c l, okK e.1 ∧ 0 ≤ e.2 := by
      intro l
      induction l with
      | nil =>
        intro lo hi c hw e he
        exact ent_okk h lo hi c hw e (by simpa [entK] using he)
      | cons x r ih =>
        obtain ⟨s, d⟩ := x
        intro lo hi c hw e he
        obtain ⟨h1, h2, h3, h4, h5⟩ := hw
        have hsplit : entK (entT h) c ((s, d) :: r) = entT h c ++ entK (entT h) d r := by simp [entK]
        rw [hsplit, List.mem_append] at he
        rcases he with q | q
        · exact ent_okk h lo s c h1 e q
        · exact ih s hi d h5 e q
    exact main t.2.2 lo hi t.2.1 hw.2.2 e he
/-- The leaves. -/
def leavesT : (h : Nat) → Tb h → List (Tb 0)
  | 0, t => [t]
  | h + 1, t => leavesT h t.2.1 ++ (t.2.2.map fun x => leavesT h x.2).flatten
def entL (l : List (Tb 0)) : List (Key × Int) := l.flatMap fun t => t.2
theorem entL_app (a b : List (Tb 0)) : entL (a ++ b) = entL a ++ entL b := by simp [entL]
theorem leaves_ent : ∀ (h : Nat) (t : Tb h), entL (leavesT h t) = entT h t
  | 0, t => by simp [leavesT, entL, entT]
  | h + 1, t => by
    have main : ∀ l : List (Key × Tb h), entL (l.map fun x => leavesT h x.2).flatten = (l.map fun x => entT h x.2).flatten := by
      intro l
      induction l with
      | nil => rfl
      | cons x r ih => rw [List.map_cons, List.flatten_cons, entL_app, leaves_ent, ih]; rfl
    show entL (leavesT h t.2.1 ++ _) = _
    rw [entL_app, leaves_ent, main]
    rfl
/-- The first one's place. -/
def firstL (e : Int) : List (Tb 0) → Int
  | [] => e
  | t :: _ => (t.1 : Int)
/-- Leaves of which each has the next one's place. -/
def Chain (ps : List Pg) (e : Int) : List (Tb 0) → Prop
  | [] => True
  | t :: r => (∃ hi, ps[t.1]? = some ⟨true, t.2.map (·.1), t.2.map (·.2), hi, firstL e r⟩) ∧ Chain ps e r
theorem firstL_app (e : Int) (a b : List (Tb 0)) : firstL e (a ++ b) = firstL (firstL e b) a := by cases a <;> rfl
theorem chain_app {ps : List Pg} {e : Int} {b : List (Tb 0)} : ∀ {a : List (Tb 0)}, Chain ps e (a ++ b) ↔ Chain ps (firstL e b) a ∧ Chain ps e b
  | [] => by simp [Chain]
  | t :: a => by
    have ih := chain_app (ps := ps) (e := e) (b := b) (a := a)
    have e1 : Chain ps e (t :: a ++ b) ↔ (∃ hi, ps[t.1]? = some ⟨true, t.2.map (·.1), t.2.map (·.2), hi, firstL e (a ++ b)⟩) ∧ Chain ps e (a ++ b) := Iff.rfl
    have e2 : Chain ps (firstL e b) (t :: a) ↔ (∃ hi, ps[t.1]? = some ⟨true, t.2.map (·.1), t.2.map (·.2), hi, firstL (firstL e b) a⟩) ∧ Chain ps (firstL e b) a := Iff.rfl
    rw [e1, e2, ih, firstL_app, and_assoc]
theorem spine_leaf : ∀ (h : Nat) (t : Tb h) (e : Int), (spine h t).getD h (-1) = firstL e (leavesT h t)
  | 0, t, e => rfl
  | h + 1, t, e => by
    have := spine_leaf h t.2.1 e
    show (spine h t.2.1).getD h (-1) = firstL e (leavesT h t.2.1 ++ _)
    rw [firstL_app, ← spine_leaf h t.2.1]
/-- THE LEAVES OF A TREE STAND ONE BEHIND THE OTHER. -/
theorem leaves_chain {ps : List Pg} : ∀ (h : Nat) (hi : Key) (rs : List Int) (t : Tb h), repT ps h hi rs t → Chain ps (rs.getD h (-1)) (leavesT h t)
  | 0, hi, rs, t, hr => by
    refine ⟨⟨hi, ?_⟩, trivial⟩
    have e : firstL (rs.getD 0 (-1)) [] = rs.headD (-1) := by cases rs <;> rfl
    rw [e]
    exact hr
  | h + 1, hi, rs, t, hr => by
    have main : ∀ (l : List (Key × Tb h)) (c : Tb h) (hi : Key) (rs : List Int), repK (repT ps h) (spine h) hi rs c l → Chain ps (rs.getD h (-1)) (leavesT h c ++ (l.map fun x => leavesT h x.2).flatten) := by
      intro l
      induction l with
      | nil =>
        intro c hi rs hr
        rw [List.map_nil, List.flatten_nil, List.append_nil]
        exact leaves_chain h hi rs c hr
      | cons x r ih =>
        obtain ⟨s, d⟩ := x
        intro c hi rs hr
        have h2 := ih d hi rs hr.2
        rw [chain_app]
        refine ⟨?_, h2⟩
        rw [List.map_cons, List.flatten_cons, firstL_app, ← spine_leaf h d]
        exact leaves_chain h s (spine h d) c hr.1
    have := main t.2.2 t.2.1 hi rs.tail hr.2
    have e : rs.tail.getD h (-1) = rs.getD (h + 1) (-1) := by cases rs <;> rfl
    rw [e] at this
    exact this
/-- WHERE A KEY'S LEAF IS: what is ahead is below the key, what is behind is above it. -/
theorem leaf_split : ∀ (h : Nat) (lo hi : Key) (t : Tb h) (k : Key), wfT h lo hi t → ∃ a b, leavesT h t = a ++ leafT h t k :: b ∧ (∀ e ∈ entL a, kl e.1 k = true) ∧ (∀ e ∈ entL b, kl k e.1 = true)
  | 0, lo, hi, t, k, hw => ⟨[], [], rfl, by simp [entL], by simp [entL]⟩
  | h + 1, lo, hi, t, k, hw => by
    have hall : ∀ (l : List (Key × Tb h)) (c : Tb h), entL (leavesT h c ++ (l.map fun x => leavesT h x.2).flatten) = entK (entT h) c l := fun l c => leaves_ent (h + 1) (0, c, l)
    have main : ∀ (l : List (Key × Tb h)) (lo hi : Key) (c : Tb h), kwT (wfT h) lo hi c l →
        ∃ a b, leavesT h c ++ (l.map fun x => leavesT h x.2).flatten = a ++ leafT h (pickK k c l) k :: b ∧ (∀ e ∈ entL a, kl e.1 k = true) ∧ (∀ e ∈ entL b, kl k e.1 = true) := by
      intro l
      induction l with
      | nil =>
        intro lo hi c hw
        obtain ⟨a, b, h1, h2, h3⟩ := leaf_split h lo hi c k hw
        exact ⟨a, b, by simpa [pickK] using h1, h2, h3⟩
      | cons x r ih =>
        obtain ⟨s, d⟩ := x
        intro lo hi c hw
        obtain ⟨w1, w2, w3, w4, w5⟩ := hw
        by_cases g : kl k s = true
        · obtain ⟨a, b, h1, h2, h3⟩ := leaf_split h lo s c k w1
          refine ⟨a, b ++ (leavesT h d ++ (r.map fun x => leavesT h x.2).flatten), ?_, h2, fun e he => ?_⟩
          · rw [h1]
            simp [pickK, g]
          · rw [entL_app, List.mem_append, hall] at he
            rcases he with q | q
            · exact h3 e q
            · exact kl_lt_le g (entK_in (fun lo hi c => ent_in h lo hi c) r s hi d w5 e q).1
        · have g' : kl k s = false := by simpa using g
          obtain ⟨a, b, h1, h2, h3⟩ := ih s hi d w5
          refine ⟨leavesT h c ++ a, b, ?_, fun e he => ?_, h3⟩
          · rw [List.map_cons, List.flatten_cons, h1]
            simp [pickK, g]
          · rw [entL_app, List.mem_append, leaves_ent] at he
            rcases he with q | q
            · rcases (ent_in h lo s c w1 e q).2 with q' | q'
              · exact absurd q' w2.ne
              · exact kl_lt_le q' g'
            · exact h2 e q
    exact main t.2.2 lo hi t.2.1 hw.2.2
end Go.Proofs.Ythoijpaoegojfaa
