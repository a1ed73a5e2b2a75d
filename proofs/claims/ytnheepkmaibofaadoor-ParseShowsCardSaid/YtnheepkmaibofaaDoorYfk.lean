import Derived.Test.YtnheepkmaibofaaDoorYdk
import Derived.Test.YtnheepkmaibofaaDoorUik
/- Kinds of expressions, the document: the column of a name; where what ends at a place begins. -/
namespace Go.Proofs.YtnheepkmaibofaaDoor
open Go.ChangeShapes Go.WideShapes Go.ChangeAt Go.RowKit
set_option linter.unusedVariables false
set_option linter.unusedSimpArgs false
set_option maxHeartbeats 4000000
set_option maxRecDepth 100000
theorem take_last {L x : List Oq} {o : Oq} {i : Nat} (hi : i < L.length) (h : L.take (i + 1) = x ++ [o]) : L.take i = x ∧ L.getD i noq = o := by
  have e : L.take (i + 1) = L.take i ++ [L[i]] := by simp
  rw [e] at h
  have h2 := List.append_inj' h rfl
  refine ⟨h2.1, ?_⟩
  have h3 := h2.2
  simp only [List.cons.injEq, and_true] at h3
  rw [List.getD_eq_getElem?_getD, List.getElem?_eq_getElem hi]
  exact h3
/-- Trees on a stack, the last op taken away: the trees beneath it take its place. -/
theorem forest_step : ∀ (t : Tx) (s : List Tx), (∀ x ∈ t :: s, x.ok) → ∃ (ts : List Tx) (o : Oq), flatS (t :: s) = flatS ts ++ [o] ∧ (ts.length : Int) = (s.length : Int) + wks o.k ∧ ∀ x ∈ ts, x.ok
  | .leaf o, s, h => ⟨s, o, rfl, by have := (h (.leaf o) (by simp)).1; omega, fun x hx => h x (by simp [hx])⟩
  | .un o a, s, h => ⟨a :: s, o, by simp [flatS, Tx.flat], by have := (h (.un o a) (by simp)).1; simp; omega, fun x hx => by
      rcases List.mem_cons.1 hx with rfl | hx
      · exact (h (.un o x) (by simp)).2.2
      · exact h x (by simp [hx])⟩
  | .bi o a b, s, h => ⟨b :: a :: s, o, by simp [flatS, Tx.flat], by have := (h (.bi o a b) (by simp)).1; simp; omega, fun x hx => by
      have hb := (h (.bi o a b) (by simp)).2.2
      rcases List.mem_cons.1 hx with rfl | hx
      · exact hb.2
      · rcases List.mem_cons.1 hx with rfl | hx
        · exact hb.1
        · exact h x (by simp [hx])⟩
theorem flatS_len : ∀ s : List Tx, s.length ≤ (flatS s).length
  | [] => by simp [flatS]
  | t :: s => by
    have h1 := flatS_len s
    have h2 := t.flat_pos
    simp only [flatS, List.length_append, List.length_cons]
    omega
theorem begins_any (w : World) (m : Nat) (v : Value) (L : List Oq) (hr : Rd w 5 m v (ocs L)) (hm : m ≤ 1000) (en : Nat) (hen : en ≤ m) (r : List Oq) (t : Tx) (ht : t.ok) (h : L.take en = r ++ t.flat) :
    Calls Tryd.prog 84 #[v, .int .i64 (en : Int)] w fun e w' => e = .returned (.int .i64 (r.length : Int)) ∧ w' = w := by
  have hml := len_o hr
  have hm0 : 0 < m := by
    have := congrArg List.length h
    have hp := t.flat_pos
    simp only [List.length_take, List.length_append] at this
    omega
  obtain ⟨b, o, cap, rfl, _, _, hbw, hcell⟩ := ops_of hr hm0
  have HC := Lib.hid hcell
  have HML := Lib.hid hml
  have HW := Lib.hid (works_any w)
  have H0 : Hid (L.take en = r ++ flatS [t]) := by show _ = _; rw [h]; simp [flatS]
  clear hcell hml hr h
  go_enter Tryd.func84, Tryd.ntmps84
  go_wp2_with fail
  go_loopw [5, 6] (fun u i wr => ∃ (j : Nat) (ts : List Tx), j ≤ en ∧ u = .int .i64 (ts.length : Int) ∧ i = .int .i64 (j : Int) ∧ Hid (∀ x ∈ ts, x.ok) ∧ Hid (L.take j = r ++ flatS ts) ∧ ts.length ≤ 1000 ∧ wr = w) (fun _ i _ => (intOf i).toNat)
  case atStart => exact ⟨en, [t], Nat.le_refl _, rfl, rfl, fun x hx => by rw [List.mem_singleton.1 hx]; exact ht, H0.out, by simp, rfl⟩
  case round =>
    obtain ⟨j, ts, hj, rfl, rfl, HO, HT, hts, rfl⟩ := hrel
    match ts, HO, HT, hts with
    | [], HO, HT, hts =>
      have e : j = r.length := by
        have := congrArg List.length HT.out
        have := HML.out
        simp only [List.length_take, flatS, List.append_nil] at *
        omega
      go_wp2_with fail
      go_ret
      exact ⟨ri (by rw [e]), rfl⟩
    | t1 :: s, HO, HT, hts =>
      obtain ⟨ts2, q, e1, e2, h2⟩ := forest_step t1 s HO.out
      have hj1 : 0 < j ∧ j ≤ L.length := by
        have h3 := congrArg List.length HT.out
        have h4 := t1.flat_pos
        have h5 := HML.out
        simp only [List.length_take, flatS, List.length_append] at h3
        omega
      obtain ⟨i, rfl⟩ : ∃ i, j = i + 1 := ⟨j - 1, by omega⟩
      have hi : i < m := by have := HML.out; omega
      obtain ⟨h3, h4⟩ := take_last (L := L) (i := i) (o := q) (x := r ++ flatS ts2) (by omega) (by rw [HT.out, e1, List.append_assoc])
      have hl2 : ts2.length ≤ 1000 := by
        have h5 := flatS_len ts2
        have h6 := congrArg List.length h3
        simp only [List.length_take, List.length_append] at h6
        omega
      obtain ⟨g0, _⟩ := HC.out i hi
      rw [h4] at g0
      obtain ⟨k, hk⟩ : ∃ k, k = wks q.k := ⟨_, rfl⟩
      have hx := wks_in q.k
      have HK := Lib.hid hk
      rw [← hk] at e2 hx
      obtain ⟨n2, hn2⟩ : ∃ n2 : Nat, n2 = ts2.length := ⟨_, rfl⟩
      obtain ⟨n1, hn1⟩ : ∃ n1 : Nat, n1 = s.length := ⟨_, rfl⟩
      rw [← hn2, ← hn1] at e2
      have HQ : Hid (Calls Tryd.prog 82 #[.int .i64 q.k] wr fun e w' => e = .returned (.int .i64 k) ∧ wr = w') := by rw [hk]; exact HW.out q.k
      have HR : Hid ((∀ x ∈ ts2, x.ok) ∧ L.take i = r ++ flatS ts2) := ⟨h2, h3⟩
      have HN2 := Lib.hid hn2
      have hlen1 : (t1 :: s).length = n1 + 1 := by rw [hn1]; simp
      rw [hlen1] at hts ⊢
      clear hk hn2 hn1 h2 h3 h4 HO HT HC HW H0 HML e1 hlen1
      go_wp2_with fail
      refine HQ.out.mono ?_
      rintro e w2 ⟨rfl, rfl⟩
      go_wp2_with fail
      go_roundw
      case rel => exact ⟨i, ts2, by omega, by rw [← HN2.out]; go_num, by go_num, HR.out.1, HR.out.2, hl2, trivial⟩
      case measure => (simp [intOf]) <;> omega
end Go.Proofs.YtnheepkmaibofaaDoor
/- The kind of an expression: the document. -/
namespace Go.Proofs.YtnheepkmaibofaaDoor
open Go.ChangeShapes Go.WideShapes Go.ChangeAt Go.RowKit
set_option linter.unusedVariables false
set_option linter.unusedSimpArgs false
set_option maxHeartbeats 4000000
set_option maxRecDepth 100000
theorem lfK_zero {l : List Cq} {o : Oq} (h : (lfK l o).1 ≠ 0) : (lfK l o).2 = 0 := by
  unfold lfK at h ⊢
  split <;> (try split) <;> simp_all
theorem if_zero {q : Prop} [Decidable q] {c : Int} (h : (if q then ((4 : Int), (0 : Int)) else (0, c)).1 ≠ 0) : (if q then ((4 : Int), (0 : Int)) else (0, c)).2 = 0 := by
  by_cases hq : q
  · rw [if_pos hq]
  · rw [if_neg hq] at h
    exact absurd rfl h
theorem onK_zero {k a : Int} (h : (onK k a).1 ≠ 0) : (onK k a).2 = 0 := if_zero h
theorem ifK_zero {k a b : Int} (h : (ifK k a b).1 ≠ 0) : (ifK k a b).2 = 0 := if_zero h
theorem twK_zero {k a b : Int} (h : (twK k a b).1 ≠ 0) : (twK k a b).2 = 0 := by
  unfold twK at h ⊢
  by_cases h1 : k = 3 ∨ k = 4
  · rw [if_pos h1] at h ⊢
    exact ifK_zero h
  · rw [if_neg h1] at h ⊢
    by_cases h2 : k = 6 ∨ k = 7
    · rw [if_pos h2] at h ⊢
      exact if_zero h
    · rw [if_neg h2] at h ⊢
      exact ifK_zero h
theorem evK_zero (l : List Cq) : ∀ t : Tx, (evT (lfK l) onK twK t).1 ≠ 0 → (evT (lfK l) onK twK t).2 = 0
  | .leaf o, h => lfK_zero h
  | .un o a, h => by
    by_cases h1 : (evT (lfK l) onK twK a).1 = 0
    · rw [ev_un _ _ _ h1] at h ⊢; exact onK_zero h
    · rw [ev_un_bad _ _ _ h1] at h ⊢; exact evK_zero l a h
  | .bi o a b, h => by
    by_cases h1 : (evT (lfK l) onK twK a).1 = 0
    · by_cases h2 : (evT (lfK l) onK twK b).1 = 0
      · rw [ev_bi _ _ _ h1 h2] at h ⊢; exact twK_zero h
      · rw [ev_bi_bad2 _ _ _ h1 h2] at h ⊢; exact evK_zero l b h
    · rw [ev_bi_bad _ _ _ h1] at h ⊢; exact evK_zero l a h
theorem wks_0 {k : Int} (h : wks k = 0) : k = 1 ∨ k = 2 := by unfold wks at h; split at h <;> (try split at h) <;> omega
theorem wks_1 {k : Int} (h : wks k = 1) : k = 5 ∨ k = 11 := by unfold wks at h; split at h <;> (try split at h) <;> omega
theorem wks_2 {k : Int} (h : wks k = 2) : k ≠ 1 ∧ k ≠ 2 ∧ k ≠ 5 ∧ k ≠ 11 := by unfold wks at h; split at h <;> (try split at h) <;> omega
theorem getD_last (x : List Oq) (o : Oq) : (x ++ [o]).getD x.length noq = o := by simp
end Go.Proofs.YtnheepkmaibofaaDoor
