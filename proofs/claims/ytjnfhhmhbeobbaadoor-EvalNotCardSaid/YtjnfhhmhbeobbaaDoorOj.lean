/- Plain: NOT, AND, OR, equality of expressions over twigs. -/
import Derived.Test.YtjnfhhmhbeobbaaDoorOi
namespace Go.Proofs.YtjnfhhmhbeobbaaDoor
set_option linter.unusedVariables false
set_option linter.unusedSimpArgs false
theorem whl_expr {l : List Oq} (h : Whl l) (hl : l.length ≤ 40) : exprF l = 0 := by
  have e := h.1 0 [] (by omega)
  rw [List.append_nil] at e
  unfold exprF
  rw [if_neg (by omega), e]
  rfl
theorem join_nul {a b : V} {d : Int} (h : (join a b d).2 ≠ 0) : (join a b d).1 = nul := by
  unfold join at h ⊢
  split
  · rfl
  · split
    · next h1 h2 => rw [if_neg h1, if_pos h2] at h; exact absurd rfl h
    · split
      · next h1 h2 h3 => rw [if_neg h1, if_neg h2, if_pos h3] at h; exact absurd rfl h
      · split
        · rfl
        · next h1 h2 h3 h4 => rw [if_neg h1, if_neg h2, if_neg h3, if_neg h4] at h; exact absurd rfl h
theorem hold_nul {k : Int} {a b : V} (h : (hold k a b).2 ≠ 0) : (hold k a b).1 = nul := by
  unfold hold at h ⊢
  split
  · rfl
  · split
    · rfl
    · next h1 h2 =>
      rw [if_neg h1, if_neg h2] at h
      split at h
      · exact absurd rfl h
      · exact absurd rfl h
/-- What two make, when they make nothing. -/
theorem tw_nul {k : Int} {a b : V} (hk : k = 3 ∨ k = 4 ∨ k = 6) (h : (twV k a b).1 ≠ 0) : (twV k a b).2 = nul := by
  unfold twV two at h ⊢
  split
  · rfl
  · next h1 =>
    rw [if_neg h1] at h
    rcases hk with rfl | rfl | rfl
    · exact join_nul h
    · exact join_nul h
    · exact hold_nul h
theorem on_nul {a : V} (h : (onV 5 a).1 ≠ 0) : (onV 5 a).2 = nul := by
  unfold onV one at h ⊢
  split
  · rfl
  · next h1 =>
    rw [if_neg h1, if_neg (by omega), if_pos rfl] at h
    rw [if_neg (by omega), if_pos rfl]
    unfold turn at h ⊢
    split
    · rfl
    · split
      · next h2 h3 => rw [if_neg h2, if_pos h3] at h; exact absurd rfl h
      · rfl
theorem eval_tree {t : Tx} (ht : t.ok) {r : List V} (hr : rowF c4t r = 0) (hk : (kindF c4t t.flat).1 = 0) : evalF c4t r t.flat = ((evT (lfV c4t r) onV twV t).1, if (evT (lfV c4t r) onV twV t).1 ≠ 0 then nul else (evT (lfV c4t r) onV twV t).2) := by
  unfold evalF
  rw [hr, if_neg (by simp), hk, if_neg (by simp), rn_whole _ _ _ ht]
  by_cases h0 : (evT (lfV c4t r) onV twV t).1 = 0
  · simp [h0]
  · simp [h0]
theorem eval_fine {l : List Oq} {r : List V} {v : V} (hr : rowF c4t r = 0) (h : evalF c4t r l = (0, v)) : ∃ t : Tx, t.ok ∧ l = t.flat ∧ evT (lfV c4t r) onV twV t = (0, v) := by
  have hk : (kindF c4t l).1 = 0 := by
    by_cases h0 : (kindF c4t l).1 = 0
    · exact h0
    · unfold evalF at h
      rw [hr, if_neg (by simp), if_pos h0] at h
      exact absurd (Prod.mk.inj h).1 h0
  obtain ⟨_, t, ht, rfl⟩ := expr_tree (kind_ok hk).1
  rw [eval_tree ht hr hk] at h
  refine ⟨t, ht, rfl, ?_⟩
  obtain ⟨h1, h2⟩ := Prod.mk.inj h
  rw [h1, if_neg (by simp)] at h2
  exact Prod.ext h1 h2
abbrev oN (k : Int) : Oq := ⟨k, ⟨0, 0, ⟨#[]⟩⟩, ⟨#[]⟩⟩
/-- Of two: what they make, or it is not known to be a truth. -/
theorem eval_two {x y : List Oq} {r : List V} {v w : V} {k : Int} (hr : rowF c4t r = 0) (hx : Whl x) (hy : Whl y) (hxl : x.length ≤ 15) (hyl : y.length ≤ 15) (hk : k = 3 ∨ k = 4 ∨ k = 6)
    (hv : evalF c4t r x = (0, v)) (hw : evalF c4t r y = (0, w)) : evalF c4t r (x ++ y ++ [oN k]) = (4, nul) ∨ evalF c4t r (x ++ y ++ [oN k]) = twV k v w := by
  have hwh := whl_bin hx hy (o := oN k) (op_bare (k := k) (by omega) (by omega)) (wks_two (k := k) (by omega) (by omega) (by omega)) (sml_bare (k := k) (by omega))
  have hex := whl_expr hwh (by simp; omega)
  rcases expr_told hex hwh.2.2 hr with ⟨_, h⟩ | ⟨hkd, _⟩
  · exact .inl h
  · right
    obtain ⟨tx, htx, rfl, ex⟩ := eval_fine hr hv
    obtain ⟨ty, hty, rfl, ey⟩ := eval_fine hr hw
    have ht : (Tx.bi (oN k) tx ty).ok := ⟨wks_two (k := k) (by omega) (by omega) (by omega), op_bare (k := k) (by omega) (by omega), htx, hty⟩
    have e := eval_tree ht hr hkd
    have e2 : evT (lfV c4t r) onV twV (Tx.bi (oN k) tx ty) = twV k v w := by
      rw [ev_bi _ _ _ (by rw [ex]) (by rw [ey]), ex, ey]
    rw [e2] at e
    refine e.trans ?_
    by_cases h0 : (twV k v w).1 = 0
    · rw [if_neg (by simpa using h0)]
    · rw [if_pos h0]
      exact Prod.ext rfl (tw_nul hk h0).symm
theorem eval_not {x : List Oq} {r : List V} {v : V} (hr : rowF c4t r = 0) (hx : Whl x) (hxl : x.length ≤ 15)
    (hv : evalF c4t r x = (0, v)) : evalF c4t r (x ++ [oN 5]) = (4, nul) ∨ evalF c4t r (x ++ [oN 5]) = onV 5 v := by
  have hwh := whl_un hx (o := oN 5) (op_bare (k := 5) (by omega) (by omega)) (by decide) (sml_bare (k := 5) (by decide))
  have hex := whl_expr hwh (by simp; omega)
  rcases expr_told hex hwh.2.2 hr with ⟨_, h⟩ | ⟨hkd, _⟩
  · exact .inl h
  · right
    obtain ⟨tx, htx, rfl, ex⟩ := eval_fine hr hv
    have ht : (Tx.un (oN 5) tx).ok := ⟨by decide, op_bare (k := 5) (by omega) (by omega), htx⟩
    have e := eval_tree ht hr hkd
    have e2 : evT (lfV c4t r) onV twV (Tx.un (oN 5) tx) = onV 5 v := by
      rw [ev_un _ _ _ (by rw [ex]), ex]
    rw [e2] at e
    refine e.trans ?_
    by_cases h0 : (onV 5 v).1 = 0
    · rw [if_neg (by simpa using h0)]
    · rw [if_pos h0]
      exact Prod.ext rfl (on_nul h0).symm
end Go.Proofs.YtjnfhhmhbeobbaaDoor
