import Derived.Test.YtmfkdpfcpdmkdaaDoorKek
import Derived.Test.YtmfkdpfcpdmkdaaDoorUfk
/- Plain: what an expression over a twig makes is of the kind that it is told to be. -/
namespace Go.Proofs.YtmfkdpfcpdmkdaaDoor
set_option linter.unusedVariables false
set_option linter.unusedSimpArgs false
/-- A value that may be, of a kind or Null. -/
def Good (K : Int) (v : V) : Prop := chk v.k v.n v.t = 0 ∧ (v.k = 0 ∨ v.k = K)
theorem chk_nul' : chk 0 0 ⟨#[]⟩ = 0 := by decide +kernel
theorem good_nul (K : Int) : Good K nul := ⟨chk_nul', .inl rfl⟩
theorem good_tru (b : Bool) : Good 1 (tru b) := by
  cases b
  · exact ⟨by decide +kernel, .inr rfl⟩
  · exact ⟨by decide +kernel, .inr rfl⟩
theorem good_num (n : Int) : Good 2 ⟨2, n, ⟨#[]⟩⟩ := ⟨by unfold chk nmb; simp [e_list]; decide, .inr rfl⟩
theorem one_told {k K : Int} {a : V} (hk : k = 5 ∨ k = 11) (ha : Good K a) (h : (onK k K).1 = 0) : (onV k a).1 = 0 ∧ Good (onK k K).2 (onV k a).2 := by
  have hK : (onK k K).2 = 1 := by
    unfold onK at h ⊢
    split at h
    · omega
    · next h1 => rw [if_neg h1]
  rw [hK]
  have e : onV k a = ((if k = 11 then (tru (a.k == 0), (0 : Int)) else if k = 5 then turn a else (nul, 2)).2, (if k = 11 then (tru (a.k == 0), (0 : Int)) else if k = 5 then turn a else (nul, 2)).1) := by
    unfold onV one
    rw [if_neg (by simpa using ha.1)]
  rw [e]
  rcases hk with rfl | rfl
  · rw [if_neg (by omega), if_pos rfl]
    unfold turn
    have h1 : K = 1 ∨ K = 0 := by
      unfold onK at h
      split at h
      · omega
      · next h1 => omega
    have h2 := ha.2
    by_cases h0 : a.k = 0
    · rw [if_pos h0]
      exact ⟨rfl, good_nul 1⟩
    · rw [if_neg h0, if_pos (by omega)]
      exact ⟨rfl, good_tru _⟩
  · rw [if_pos rfl]
    exact ⟨rfl, good_tru _⟩
theorem unk_of {a b : V} : unk a.k b.k = true ↔ a.k = 0 ∨ b.k = 0 := by unfold unk; simp
theorem known_of {a b k : Int} : known a b k = true ↔ (a = k ∨ a = 0) ∧ (b = k ∨ b = 0) := by unfold known; simp
theorem two_is {k : Int} {a b : V} (h : chk2 a b = 0) : two k a b = if k = 3 then join a b 0 else if k = 4 then join a b 1 else if k = 6 then hold 6 a b else if k = 7 then hold 7 a b else if k = 8 then reck 8 a b else if k = 9 then reck 9 a b else if k = 10 then reck 10 a b else (nul, 2) := by
  unfold two
  rw [if_neg (by simpa using h)]
theorem join_told {a b : V} (d : Int) {K L : Int} (ha : Good K a) (hb : Good L b) (h : (ifK 1 K L).1 = 0) : (join a b d).2 = 0 ∧ Good (ifK 1 K L).2 (join a b d).1 := by
  have h1 : ¬ (¬ (K = 1 ∨ K = 0) ∨ ¬ (L = 1 ∨ L = 0)) := by
    intro h1
    unfold ifK at h
    rw [if_pos h1] at h
    simp at h
  have h2 : (ifK 1 K L).2 = 1 := by
    unfold ifK
    rw [if_neg h1]
  rw [h2]
  have ha2 := ha.2
  have hb2 := hb.2
  have hk : known a.k b.k 1 = true := known_of.2 ⟨by omega, by omega⟩
  unfold join
  rw [hk]
  simp only [Bool.true_eq_false, if_false]
  split
  · next h3 => exact ⟨rfl, ha.1, .inr h3.1⟩
  · split
    · next h3 => exact ⟨rfl, hb.1, .inr h3.1⟩
    · split
      · exact ⟨rfl, good_nul 1⟩
      · exact ⟨rfl, good_tru _⟩
theorem hold_told {a b : V} (k : Int) {K L : Int} (ha : Good K a) (hb : Good L b) (h : ¬ (¬ (K = L ∨ K = 0) ∧ L ≠ 0)) : (hold k a b).2 = 0 ∧ Good 1 (hold k a b).1 := by
  have ha2 := ha.2
  have hb2 := hb.2
  unfold hold
  split
  · exact ⟨rfl, good_nul 1⟩
  · next h1 =>
    rw [unk_of] at h1
    rw [if_neg (by omega)]
    split
    · exact ⟨rfl, good_tru _⟩
    · exact ⟨rfl, good_tru _⟩
theorem reck_told {a b : V} (k : Int) {K L : Int} (ha : Good K a) (hb : Good L b) (h : (ifK 2 K L).1 = 0) : (reck k a b).2 = 5 ∨ ((reck k a b).2 = 0 ∧ Good (ifK 2 K L).2 (reck k a b).1) := by
  have h1 : ¬ (¬ (K = 2 ∨ K = 0) ∨ ¬ (L = 2 ∨ L = 0)) := by
    intro h1
    unfold ifK at h
    rw [if_pos h1] at h
    simp at h
  have h2 : (ifK 2 K L).2 = 2 := by
    unfold ifK
    rw [if_neg h1]
  rw [h2]
  have ha2 := ha.2
  have hb2 := hb.2
  have hk : known a.k b.k 2 = true := known_of.2 ⟨by omega, by omega⟩
  unfold reck
  rw [hk]
  simp only [Bool.true_eq_false, if_false]
  split
  · exact .inr ⟨rfl, good_nul 2⟩
  · split
    · exact .inl rfl
    · exact .inr ⟨rfl, good_num _⟩
theorem chk2_good {K L : Int} {a b : V} (ha : Good K a) (hb : Good L b) : chk2 a b = 0 := by
  unfold chk2
  rw [if_pos ha.1]
  exact hb.1
theorem two_told {k K L : Int} {a b : V} (hk : k = 3 ∨ k = 4 ∨ k = 6 ∨ k = 7 ∨ k = 8 ∨ k = 9 ∨ k = 10) (ha : Good K a) (hb : Good L b) (h : (twK k K L).1 = 0) : (twV k a b).1 = 5 ∨ ((twV k a b).1 = 0 ∧ Good (twK k K L).2 (twV k a b).2) := by
  have hc := chk2_good ha hb
  unfold twV
  rw [two_is hc]
  unfold twK at h ⊢
  rcases hk with rfl | rfl | rfl | rfl | rfl | rfl | rfl
  · exact .inr (join_told 0 ha hb h)
  · exact .inr (join_told 1 ha hb h)
  · right
    simp only [Int.reduceEq, or_false, false_or, if_false, if_true, or_self] at h ⊢
    split at h
    · simp at h
    · next h1 =>
      rw [if_neg h1]
      exact hold_told 6 ha hb h1
  · right
    simp only [Int.reduceEq, or_false, false_or, if_false, if_true, or_self] at h ⊢
    split at h
    · simp at h
    · next h1 =>
      rw [if_neg h1]
      exact hold_told 7 ha hb h1
  · exact reck_told 8 ha hb h
  · exact reck_told 9 ha hb h
  · exact reck_told 10 ha hb h
theorem op_two {o : Oq} (hw : wks o.k = 2) (h : opF o.k o.v.k o.v.n o.v.t o.t = 0) : o.k = 3 ∨ o.k = 4 ∨ o.k = 6 ∨ o.k = 7 ∨ o.k = 8 ∨ o.k = 9 ∨ o.k = 10 := by
  have h1 := opF_kind h
  unfold wks at hw
  split at hw
  · omega
  · split at hw
    · omega
    · omega
theorem op_one {o : Oq} (hw : wks o.k = 1) : o.k = 5 ∨ o.k = 11 := by
  unfold wks at hw
  split at hw
  · omega
  · split at hw
    · assumption
    · omega
/-- What is made is of the kind told, or does not fit. -/
theorem told (l : List Cq) (r : List V) : ∀ t : Tx, t.ok → (∀ o ∈ t.flat, wks o.k = 0 → Good (lfK l o).2 (lfV l r o).2) → (evT (lfK l) onK twK t).1 = 0 → (evT (lfV l r) onV twV t).1 = 5 ∨ ((evT (lfV l r) onV twV t).1 = 0 ∧ Good (evT (lfK l) onK twK t).2 (evT (lfV l r) onV twV t).2)
  | .leaf o, ht, hl, h => .inr ⟨rfl, hl o (by simp [Tx.flat]) ht.1⟩
  | .un o a, ht, hl, h => by
    by_cases ha : (evT (lfK l) onK twK a).1 = 0
    · rw [ev_un _ _ _ ha] at h ⊢
      rcases told l r a ht.2.2 (fun x hx => hl x (by simp [Tx.flat, hx])) ha with h5 | ⟨h0, hg⟩
      · rw [ev_un_bad _ _ _ (by rw [h5]; omega)]
        exact .inl h5
      · rw [ev_un _ _ _ h0]
        exact .inr (one_told (op_one ht.1) hg h)
    · rw [ev_un_bad _ _ _ ha] at h
      exact absurd h ha
  | .bi o a b, ht, hl, h => by
    by_cases ha : (evT (lfK l) onK twK a).1 = 0
    · by_cases hb : (evT (lfK l) onK twK b).1 = 0
      · rw [ev_bi _ _ _ ha hb] at h ⊢
        rcases told l r a ht.2.2.1 (fun x hx => hl x (by simp [Tx.flat, hx])) ha with h5 | ⟨h0, hg⟩
        · rw [ev_bi_bad _ _ _ (by rw [h5]; omega)]
          exact .inl h5
        · rcases told l r b ht.2.2.2 (fun x hx => hl x (by simp [Tx.flat, hx])) hb with h5 | ⟨h0', hg'⟩
          · rw [ev_bi_bad2 _ _ _ h0 (by rw [h5]; omega)]
            exact .inl h5
          · rw [ev_bi _ _ _ h0 h0']
            exact two_told (op_two ht.1 ht.2.1) hg hg' h
      · rw [ev_bi_bad2 _ _ _ ha hb] at h
        exact absurd h hb
    · rw [ev_bi_bad _ _ _ ha] at h
      exact absurd h ha
theorem ifK_f (k a b : Int) : (ifK k a b).1 = 0 ∨ (ifK k a b).1 = 4 := by
  unfold ifK
  split
  · exact .inr rfl
  · exact .inl rfl
theorem twK_f (k a b : Int) : (twK k a b).1 = 0 ∨ (twK k a b).1 = 4 := by
  unfold twK
  split
  · exact ifK_f _ _ _
  · split
    · split
      · exact .inr rfl
      · exact .inl rfl
    · exact ifK_f _ _ _
theorem onK_f (k a : Int) : (onK k a).1 = 0 ∨ (onK k a).1 = 4 := by
  unfold onK
  split
  · exact .inr rfl
  · exact .inl rfl
theorem kfault (l : List Cq) : ∀ t : Tx, t.ok → (∀ o ∈ t.flat, wks o.k = 0 → (lfK l o).1 = 0) → (evT (lfK l) onK twK t).1 = 0 ∨ (evT (lfK l) onK twK t).1 = 4
  | .leaf o, ht, hl => .inl (hl o (by simp [Tx.flat]) ht.1)
  | .un o a, ht, hl => by
    rcases kfault l a ht.2.2 (fun x hx => hl x (by simp [Tx.flat, hx])) with h | h
    · rw [ev_un _ _ _ h]
      exact onK_f _ _
    · rw [ev_un_bad _ _ _ (by rw [h]; omega)]
      exact .inr h
  | .bi o a b, ht, hl => by
    rcases kfault l a ht.2.2.1 (fun x hx => hl x (by simp [Tx.flat, hx])) with h | h
    · rcases kfault l b ht.2.2.2 (fun x hx => hl x (by simp [Tx.flat, hx])) with h' | h'
      · rw [ev_bi _ _ _ h h']
        exact twK_f _ _ _
      · rw [ev_bi_bad2 _ _ _ h (by rw [h']; omega)]
        exact .inr h'
    · rw [ev_bi_bad _ _ _ (by rw [h]; omega)]
      exact .inr h
/-- The columns of all tables. -/
abbrev c4t : List Cq := [⟨⟨#[105, 100]⟩, 2⟩, ⟨⟨#[110]⟩, 2⟩, ⟨⟨#[115]⟩, 3⟩, ⟨⟨#[98]⟩, 1⟩]
theorem pl4 : plI c4t ⟨#[105, 100]⟩ = 0 ∧ plI c4t ⟨#[110]⟩ = 1 ∧ plI c4t ⟨#[115]⟩ = 2 ∧ plI c4t ⟨#[98]⟩ = 3 := by decide +kernel
theorem c4t_ok : colsF c4t = 0 := by decide +kernel
theorem rv_good : ∀ (r : List V) (l : List Cq) (i : Nat), r.length = l.length → rvF i l r = 0 → ∀ j, j < l.length → Good (l.getD j ncq).k (r.getD j nul)
  | [], [], _, _, _, j, hj => by simp at hj
  | v :: r, c :: l, i, hn, h, j, hj => by
    unfold rvF at h
    split at h
    · next h1 => exact absurd h h1
    · next h1 =>
      split at h
      · omega
      · next h2 =>
        cases j with
        | zero => exact ⟨by simpa using h1, by show v.k = 0 ∨ v.k = c.k; omega⟩
        | succ j => exact rv_good r l (i + 1) (by simpa using hn) h j (by simpa using hj)
theorem leaf_good {r : List V} (hr : rowF c4t r = 0) {o : Oq} (hw : wks o.k = 0) (ho : opF o.k o.v.k o.v.n o.v.t o.t = 0) (hs : Sml o) : (lfK c4t o).1 = 0 ∧ Good (lfK c4t o).2 (lfV c4t r o).2 := by
  obtain ⟨h1, h2, h3⟩ := row_ok hr
  have hk : o.k = 1 ∨ o.k = 2 := by
    unfold wks at hw
    split at hw
    · assumption
    · split at hw <;> omega
  unfold lfK lfV
  rcases hk with hk | hk
  · rw [if_pos hk, if_pos hk]
    refine ⟨rfl, ?_, .inr rfl⟩
    unfold opF at ho
    split at ho
    · omega
    · split at ho
      · next h4 => exact absurd ho h4
      · next h4 =>
        have h4 : litF o.v.k o.v.n o.v.t = 0 := by simpa using h4
        unfold litF at h4
        split at h4
        · omega
        · exact h4
  · have hne : ¬ o.k = 1 := by omega
    have hm := hs.2.1 hk
    have hcol : ∃ j : Nat, plI c4t o.t = (j : Int) ∧ j < 4 := by
      obtain ⟨p0, p1, p2, p3⟩ := pl4
      simp only [colL, List.mem_cons, List.not_mem_nil, or_false] at hm
      rcases hm with e | e | e | e
      · exact ⟨0, by rw [e]; exact p0, by omega⟩
      · exact ⟨1, by rw [e]; exact p1, by omega⟩
      · exact ⟨2, by rw [e]; exact p2, by omega⟩
      · exact ⟨3, by rw [e]; exact p3, by omega⟩
    obtain ⟨j, hj, hj4⟩ := hcol
    rw [if_neg hne, if_neg hne, hj, if_neg (by omega), Int.toNat_natCast]
    exact ⟨rfl, rv_good r c4t 0 h2 h3 j hj4⟩
theorem mem_ok {l : List Oq} (h : exprF l = 0) : ∀ o ∈ l, opF o.k o.v.k o.v.n o.v.t o.t = 0 := by
  obtain ⟨_, t, ht, rfl⟩ := expr_tree h
  exact Tx.ok_mem ht
/-- An expression over short names: kinds told and values made. -/
theorem expr_told {l : List Oq} (h : exprF l = 0) (hs : ∀ o ∈ l, Sml o) {r : List V} (hr : rowF c4t r = 0) :
    ((kindF c4t l).1 = 4 ∧ evalF c4t r l = (4, nul)) ∨ ((kindF c4t l).1 = 0 ∧ ((evalF c4t r l).1 = 5 ∨ ((evalF c4t r l).1 = 0 ∧ Good (kindF c4t l).2 (evalF c4t r l).2))) := by
  have hm := mem_ok h
  obtain ⟨hl, t, ht, rfl⟩ := expr_tree h
  have hk := kindF_tree ht c4t_ok h
  have hlf : ∀ o ∈ t.flat, wks o.k = 0 → (lfK c4t o).1 = 0 ∧ Good (lfK c4t o).2 (lfV c4t r o).2 := fun o ho hw => leaf_good hr hw (hm o ho) (hs o ho)
  have hev : evalF c4t r t.flat = if rowF c4t r ≠ 0 then (rowF c4t r, nul) else if (kindF c4t t.flat).1 ≠ 0 then ((kindF c4t t.flat).1, nul) else ((evT (lfV c4t r) onV twV t).1, if (evT (lfV c4t r) onV twV t).1 ≠ 0 then nul else (evT (lfV c4t r) onV twV t).2) := by
    unfold evalF
    rw [rn_whole _ _ _ ht]
    by_cases h0 : (evT (lfV c4t r) onV twV t).1 = 0
    · simp [h0]
    · simp [h0]
  rw [hr, if_neg (by simp)] at hev
  rcases kfault c4t t ht (fun o ho hw => (hlf o ho hw).1) with hf | hf
  · right
    have hk1 : kindF c4t t.flat = (0, (evT (lfK c4t) onK twK t).2) := by rw [hk, hf, if_neg (by simp)]
    rw [hev, hk1, if_neg (by simp)]
    refine ⟨rfl, ?_⟩
    rcases told c4t r t ht (fun o ho hw => (hlf o ho hw).2) hf with h5 | ⟨h0, hg⟩
    · exact .inl h5
    · right
      rw [h0, if_neg (by simp)]
      exact ⟨rfl, hg⟩
  · left
    have hk1 : (kindF c4t t.flat).1 = 4 := by rw [hk]; exact hf
    rw [hev, hk1, if_pos (by simp)]
    exact ⟨rfl, rfl⟩
end Go.Proofs.YtmfkdpfcpdmkdaaDoor
