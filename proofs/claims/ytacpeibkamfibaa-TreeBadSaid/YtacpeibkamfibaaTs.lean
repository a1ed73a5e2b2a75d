/- Plain: what goes along the leaves from a key's leaf on hands out. No program in sight. -/
import Derived.Test.YtacpeibkamfibaaGy
import Derived.Test.YtacpeibkamfibaaTc
import Derived.Test.YtacpeibkamfibaaHa
namespace Go.Proofs.Ytacpeibkamfibaa
set_option linter.unusedVariables false
set_option linter.unusedSimpArgs false
/-- What a leaf hands out: its entries that are not below the key. -/
def offL (k : Key) (t : Tb 0) : List (Key × Int) := t.2.drop (lbK k (t.2.map (·.1)))
def visL (k : Key) (ls : List (Tb 0)) : List (Key × Int) := ls.flatMap (offL k)
theorem drop_filter {k : Key} : ∀ {l : List (Key × Int)}, Rise l → l.drop (lbK k (l.map (·.1))) = l.filter fun e => !kl e.1 k
  | [], _ => by simp
  | e :: r, hr => by
    have hr' := List.pairwise_cons.1 hr
    by_cases q : kl e.1 k = true
    · simp only [List.map_cons, lbK, q, if_true, List.drop_succ_cons, List.filter_cons, Bool.not_true, Bool.false_eq_true, if_false]
      exact drop_filter hr'.2
    · have q' : kl e.1 k = false := by simpa using q
      have h0 : lbK k ((e :: r).map (·.1)) = 0 := by simp [lbK, q]
      rw [h0, List.drop_zero, List.filter_cons, if_pos (by simp [q']), List.filter_eq_self.2]
      intro x hx
      have h1 := hr'.1 x hx
      by_cases q2 : kl x.1 k = true
      · rw [kl_lt_le h1 (kl_not q2)] at q'; cases q'
      · simpa using q2
theorem chain_leaf {ps : List Pg} {e : Int} : ∀ {ls : List (Tb 0)}, Chain ps e ls → ∀ t ∈ ls, ∃ hi nx, ps[t.1]? = some ⟨true, t.2.map (·.1), t.2.map (·.2), hi, nx⟩
  | [], _, t, ht => by simp at ht
  | a :: r, hc, t, ht => by
    rcases List.mem_cons.1 ht with rfl | ht
    · obtain ⟨hi, h⟩ := hc.1; exact ⟨hi, _, h⟩
    · exact chain_leaf hc.2 t ht
/-- The leaves' places are among all places. -/
theorem leaves_sub : ∀ (h : Nat) (t : Tb h), ((leavesT h t).map (·.1)).Sublist (idsT h t)
  | 0, t => by simp [leavesT, idsT]
  | h + 1, t => by
    have hf : ∀ l : List (Key × Tb h), ((l.map fun x => leavesT h x.2).flatten.map (·.1)).Sublist ((l.map fun x => idsT h x.2).flatten) := by
      intro l
      induction l with
      | nil => simp
      | cons x r ih => simp only [List.map_cons, List.flatten_cons, List.map_append]; exact (leaves_sub h x.2).append ih
    show ((leavesT h t.2.1 ++ (t.2.2.map fun x => leavesT h x.2).flatten).map (·.1)).Sublist (t.1 :: (idsT h t.2.1 ++ (t.2.2.map fun x => idsT h x.2).flatten))
    rw [List.map_append]
    exact ((leaves_sub h t.2.1).append (hf _)).cons _
/-- How many leaves there are from a place on. -/
def restN (ls : List (Tb 0)) (p : Int) : Nat := (ls.dropWhile fun t => decide ((t.1 : Int) ≠ p)).length
theorem rest_at : ∀ {ls : List (Tb 0)} {j : Nat}, (ls.map (·.1)).Nodup → restN ls (firstL (-1) (ls.drop j)) = (ls.drop j).length
  | [], j, _ => by simp [restN]
  | x :: r, 0, hn => by simp [restN, firstL]
  | x :: r, j + 1, hn => by
    have hn' := List.nodup_cons.1 hn
    have ih := rest_at (ls := r) (j := j) hn'.2
    rw [List.drop_succ_cons]
    rw [← ih]
    unfold restN
    rw [List.dropWhile_cons, if_pos]
    rw [decide_eq_true_eq]
    rcases hd : r.drop j with _ | ⟨y, s⟩
    · simp only [firstL]; omega
    · simp only [firstL]
      intro e
      have hy : y ∈ r := List.mem_of_mem_drop (by rw [hd]; simp : y ∈ r.drop j)
      refine hn'.1 ?_
      have e2 : x.1 = y.1 := by omega
      have h9 := List.mem_map_of_mem (f := fun x : Tb 0 => x.1) hy
      show x.1 ∈ _
      rw [e2]
      exact h9
/-- WHAT IS HANDED OUT: the entries that are not below the key; and the leaves stand one behind the other. -/
theorem vis_all {T : Tr} {h : Nat} {t : Tb h} (hr : Reps T h t) (k : Key) : ∃ b, Chain T.pages (-1) (leafT h t k :: b) ∧ (entT h t).filter (fun e => !kl e.1 k) = visL k (leafT h t k :: b) ∧
    (∀ x ∈ leafT h t k :: b, Rise x.2 ∧ x.2.length ≤ 4 ∧ x.1 < T.pages.length ∧ ∀ e ∈ x.2, okK e.1) ∧ ((leafT h t k :: b).map (·.1)).Nodup := by
  obtain ⟨a, b, h1, h2, h3⟩ := leaf_split h [] [] t k hr.2.2.1
  have hch := leaves_chain h [] [] t hr.2.1
  have e0 : ([] : List Int).getD h (-1) = -1 := by simp
  rw [e0, h1] at hch
  have hc := (chain_app.1 hch).2
  have hlv : ∀ x ∈ leafT h t k :: b, Rise x.2 ∧ x.2.length ≤ 4 ∧ x.1 < T.pages.length ∧ ∀ e ∈ x.2, okK e.1 := fun x hx => by
    obtain ⟨hi, nx, hp⟩ := chain_leaf hc x hx
    have hlt := (List.getElem?_eq_some_iff.1 hp).1
    have hok := (reps_pass hr).page _ (getD_mem hlt)
    rw [getD_of hp] at hok
    exact ⟨List.pairwise_map.1 hok.rise, by simpa using hok.keys, hlt, fun e he => (hok.okk e.1 (List.mem_map_of_mem he)).1⟩
  have hnd : ((leafT h t k :: b).map (·.1)).Nodup := by
    have h5 := (leaves_sub h t).nodup hr.nodup
    rw [h1, List.map_append] at h5
    exact (List.nodup_append.1 h5).2.1
  refine ⟨b, hc, ?_, hlv, hnd⟩
  have hb : ∀ l : List (Tb 0), (∀ x ∈ l, Rise x.2) → (entL l).filter (fun e => !kl e.1 k) = visL k l := by
    intro l
    induction l with
    | nil => intro _; rfl
    | cons x r ih =>
      intro hx
      show (x.2 ++ entL r).filter _ = offL k x ++ visL k r
      rw [List.filter_append, ih fun y hy => hx y (List.mem_cons_of_mem _ hy), ← drop_filter (hx x (by simp))]
      rfl
  rw [← leaves_ent, h1, entL_app, List.filter_append, hb _ fun x hx => (hlv x hx).1, List.filter_eq_nil_iff.2, List.nil_append]
  intro e he
  simp [h2 e he]
/-- The entry that is handed out next. -/
theorem ge_next {α : Type} {k : Key} {ls : List (Tb 0)} {j m1 q lb : Nat} {E : List (Key × Int)} {ys : List (α × (Key × Int))} {lf : Tb 0} {en : Key × Int} (hE : E = visL k ls) (hlf : ∃ h : j < ls.length, lf = ls[j]) (hys : ys.map (·.2) = visL k (ls.take j) ++ (offL k lf).take m1)
    (hq : q = lb + m1) (hlb : lb = lbK k (lf.2.map (·.1))) (hge : lf.2[q]? = some en) (x : α) : E[ys.length]? = some en ∧ (ys ++ [(x, en)]).map (·.2) = visL k (ls.take j) ++ (offL k lf).take (m1 + 1) := by
  obtain ⟨hjl, hlf⟩ := hlf
  have h1 : (offL k lf)[m1]? = some en := by unfold offL; rw [List.getElem?_drop, ← hlb, ← hq]; exact hge
  have hm := (List.getElem?_eq_some_iff.1 h1).1
  have hlen : ys.length = (visL k (ls.take j)).length + m1 := by
    have := congrArg List.length hys
    rw [List.length_map, List.length_append, List.length_take] at this
    omega
  have e1 : visL k ls = visL k (ls.take j) ++ (offL k lf ++ visL k (ls.drop (j + 1))) := by
    conv => lhs; rw [← List.take_append_drop j ls, List.drop_eq_getElem_cons hjl, ← hlf]
    unfold visL
    rw [List.flatMap_append, List.flatMap_cons]
  refine ⟨?_, ?_⟩
  · rw [hE, e1, hlen, List.getElem?_append_right (by omega), Nat.add_sub_cancel_left, List.getElem?_append_left hm]
    exact h1
  · rw [List.map_append, hys, List.append_assoc, List.take_add_one, h1]
    rfl
end Go.Proofs.Ytacpeibkamfibaa
