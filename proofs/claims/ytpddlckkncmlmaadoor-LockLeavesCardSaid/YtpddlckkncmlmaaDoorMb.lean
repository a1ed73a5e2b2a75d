/- Leaving, plainly: who is woken; locks as wishes make them. -/
import Derived.Test.YtpddlckkncmlmaaDoorMa
namespace Go.Proofs.YtpddlckkncmlmaaDoor
set_option linter.unusedVariables false
set_option linter.unusedSimpArgs false
/-- The first one in the queue that waits for nobody; -1: there is none. -/
def freeP (H Q : List Lk) (i : Nat) : Bool := (wts H (Q.take i) (Q.getD i nlk)).isEmpty
def freeI (H Q : List Lk) : Int := match (List.range Q.length).find? (freeP H Q) with | some i => (i : Int) | none => -1
/-- Who waits for nobody has it, one behind the other, n times at most. -/
def wakeL : Nat → List Lk → List Lk → List Int → List Lk × List Lk × List Int
  | 0, H, Q, a => (H, Q, a)
  | n + 1, H, Q, a => if freeI H Q < 0 then (H, Q, a) else wakeL n (giveL H (Q.getD (freeI H Q).toNat nlk)) (Q.eraseIdx (freeI H Q).toNat) (a ++ [(Q.getD (freeI H Q).toNat nlk).t])
def notB (t : Int) (l : Lk) : Bool := !ofB t l
/-- What leaving answers: who holds, who waits, who was woken, the fault. -/
def leaveL (H Q : List Lk) (t : Int) : List Lk × List Lk × List Int × Int :=
  if lksF H Q ≠ 0 then ([], [], [], 11) else if t < 1 ∨ 1048576 < t then ([], [], [], 3)
  else ((wakeL (Q.filter (notB t)).length (H.filter (notB t)) (Q.filter (notB t)) []).1, (wakeL (Q.filter (notB t)).length (H.filter (notB t)) (Q.filter (notB t)) []).2.1, (wakeL (Q.filter (notB t)).length (H.filter (notB t)) (Q.filter (notB t)) []).2.2, 0)
theorem freeI_no {H Q : List Lk} : freeI H Q < 0 ↔ ∀ i, i < Q.length → freeP H Q i = false := by
  unfold freeI
  cases hf : (List.range Q.length).find? (freeP H Q) with
  | none =>
    simp only
    refine ⟨fun _ i hi => ?_, fun _ => by omega⟩
    have := List.find?_eq_none.1 hf i (List.mem_range.2 hi)
    simpa using this
  | some k =>
    simp only
    refine ⟨fun h => by omega, fun h => ?_⟩
    have h1 := List.mem_range.1 (List.mem_of_find?_eq_some hf)
    have h2 := List.find?_some hf
    rw [h k h1] at h2
    cases h2
theorem freeI_yes {H Q : List Lk} (h : ¬ freeI H Q < 0) : (freeI H Q).toNat < Q.length ∧ freeP H Q (freeI H Q).toNat = true ∧ freeI H Q = ((freeI H Q).toNat : Int) := by
  unfold freeI at h ⊢
  cases hf : (List.range Q.length).find? (freeP H Q) with
  | none => rw [hf] at h; simp at h
  | some k => exact ⟨by simpa using List.mem_range.1 (List.mem_of_find?_eq_some hf), by simpa using List.find?_some hf, by simp⟩
theorem freeI_hit {H Q : List Lk} {k : Nat} (hk : k < Q.length) (ha : ∀ j, j < k → freeP H Q j = false) (h : freeP H Q k = true) : freeI H Q = (k : Int) := by
  unfold freeI
  have : (List.range Q.length).find? (freeP H Q) = some k := by
    rw [List.find?_range_eq_some]
    exact ⟨h, List.mem_range.2 hk, fun j hj => by simp [ha j hj]⟩
  rw [this]
theorem freeI_none {H Q : List Lk} (ha : ∀ j, j < Q.length → freeP H Q j = false) : freeI H Q = -1 := by
  unfold freeI
  have : (List.range Q.length).find? (freeP H Q) = none := List.find?_eq_none.2 fun j hj => by simp [ha j (List.mem_range.1 hj)]
  rw [this]
/-- Locks that may be, but that one in the queue may wait for nobody. -/
structure Semi (H Q : List Lk) : Prop where
  few : H.length + Q.length ≤ 200
  hf : ∀ x ∈ H, frm x = 0
  qf : ∀ x ∈ Q, frm x = 0
  hp : H.Pairwise fun a b => onB b a = false ∧ agB b a = false
  qp : Q.Pairwise fun a b => ofB b.t a = false
  qm : ∀ x ∈ Q, moreB H x = true
theorem Okl.semi {H Q : List Lk} (h : Okl H Q) : Semi H Q := ⟨h.few, h.hf, h.qf, h.hp, h.qp, h.qm⟩
theorem Semi.okl {H Q : List Lk} (h : Semi H Q) (hn : freeI H Q < 0) : Okl H Q := ⟨h.few, h.hf, h.qf, h.hp, h.qp, h.qm, fun i hi => freeI_no.1 hn i hi⟩
theorem mem_erase {Q : List Lk} {i : Nat} (hi : i < Q.length) (hp : Q.Pairwise fun a b => ofB b.t a = false) {q : Lk} (hq : q ∈ Q.eraseIdx i) : q ∈ Q ∧ ofB (Q[i]).t q = false := by
  refine ⟨List.mem_of_mem_eraseIdx hq, ?_⟩
  rw [List.mem_eraseIdx_iff_getElem] at hq
  obtain ⟨j, hj, hne, rfl⟩ := hq
  rw [List.pairwise_iff_getElem] at hp
  rcases Nat.lt_or_ge j i with h | h
  · exact hp j i hj hi h
  · have := hp i j hi hj (by omega)
    unfold ofB at this ⊢
    rw [BEq.comm]
    exact this
theorem free_ag {H Q : List Lk} {i : Nat} (hi : i < Q.length) (h : freeP H Q i = true) : ∀ z ∈ H, agB Q[i] z = false := by
  unfold freeP at h
  rw [gd hi, wts_emp] at h
  simp only [Bool.and_eq_true, Bool.not_eq_true', List.any_eq_false] at h
  exact fun z hz => by simpa using h.1 z hz
theorem of_on {q y : Lk} (h : ofB y.t q = false) : onB q y = false := by
  unfold ofB at h
  unfold onB
  simp at h
  simp [Ne.symm h]
theorem Semi.step {H Q : List Lk} (h : Semi H Q) (hn : ¬ freeI H Q < 0) : Semi (giveL H (Q.getD (freeI H Q).toNat nlk)) (Q.eraseIdx (freeI H Q).toNat) := by
  obtain ⟨hi, hp, -⟩ := freeI_yes hn
  generalize (freeI H Q).toNat = i at *
  rw [gd hi]
  have hm : Q[i] ∈ Q := List.getElem_mem hi
  refine ⟨?_, fun z hz => ?_, fun z hz => h.qf z (List.mem_of_mem_eraseIdx hz), give_pair h.hf (h.qf _ hm) h.hp (free_ag hi hp), h.qp.sublist (List.eraseIdx_sublist _ _), fun q hq => ?_⟩
  · have := h.few
    rw [List.length_eraseIdx, if_pos hi]
    rcases give_len H Q[i] with e | ⟨e, _⟩ <;> rw [e] <;> omega
  · rcases mem_give hz with hz | rfl
    · exact h.hf z hz
    · exact h.qf _ hm
  · obtain ⟨h1, h2⟩ := mem_erase hi h.qp hq
    unfold moreB
    rw [hmd_give (of_on h2)]
    exact h.qm q h1
/-- What waking does: who is woken has what they waited for. -/
structure Woke (H Q H' Q' : List Lk) (W : List Int) : Prop where
  ok : Okl H' Q'
  sub : ∀ q ∈ Q', q ∈ Q
  held : ∀ z ∈ H', z ∈ H ∨ z ∈ Q
  has : ∀ t ∈ W, ∃ q ∈ Q, q.t = t ∧ hmd H' q = q.m
  not : ∀ q ∈ Q', q.t ∉ W
  len : Q'.length + W.length = Q.length
  stay : ∀ q : Lk, (∀ z ∈ Q, z.t ≠ q.t) → hmd H' q = hmd H q
  nil : Q = [] → H' = H
theorem wake_woke : ∀ (n : Nat) (H Q : List Lk) (a : List Int), Semi H Q → Q.length ≤ n → ∃ W, (wakeL n H Q a).2.2 = a ++ W ∧ Woke H Q (wakeL n H Q a).1 (wakeL n H Q a).2.1 W
  | 0, H, Q, a, h, hn => by
    obtain rfl : Q = [] := List.eq_nil_of_length_eq_zero (by omega)
    exact ⟨[], by simp [wakeL], h.okl (freeI_no.2 fun i hi => by simp at hi), by simp [wakeL], fun z hz => .inl (by simpa [wakeL] using hz), by simp, by simp [wakeL], by simp [wakeL], fun q _ => rfl, fun _ => rfl⟩
  | n + 1, H, Q, a, h, hn => by
    unfold wakeL
    by_cases hf : freeI H Q < 0
    · rw [if_pos hf]
      exact ⟨[], by simp, h.okl hf, fun q hq => hq, fun z hz => .inl hz, by simp, by simp, by simp, fun q _ => rfl, fun _ => rfl⟩
    · rw [if_neg hf]
      have hs := h.step hf
      obtain ⟨hi, hp, -⟩ := freeI_yes hf
      generalize (freeI H Q).toNat = i at *
      rw [gd hi] at hs ⊢
      obtain ⟨W, h1, h2⟩ := wake_woke n (giveL H Q[i]) (Q.eraseIdx i) (a ++ [(Q[i]).t]) hs (by rw [List.length_eraseIdx, if_pos hi]; omega)
      have hm : Q[i] ∈ Q := List.getElem_mem hi
      have hst := h2.stay Q[i] (fun z hz => by have := (mem_erase hi h.qp hz).2; unfold ofB at this; simpa using this)
      refine ⟨(Q[i]).t :: W, by rw [h1]; simp, h2.ok, fun q hq => List.mem_of_mem_eraseIdx (h2.sub q hq), fun z hz => ?_, fun t ht => ?_, fun q hq => ?_, ?_, fun q hq => ?_, fun e => ?_⟩
      · rcases h2.held z hz with hz | hz
        · rcases mem_give hz with hz | rfl
          · exact .inl hz
          · exact .inr hm
        · exact .inr (List.mem_of_mem_eraseIdx hz)
      · rcases List.mem_cons.1 ht with rfl | ht
        · exact ⟨Q[i], hm, rfl, hst.trans (hmd_given (.inr trivial))⟩
        · obtain ⟨q, g1, g2⟩ := h2.has t ht
          exact ⟨q, List.mem_of_mem_eraseIdx g1, g2⟩
      · have := (mem_erase hi h.qp (h2.sub q hq)).2
        unfold ofB at this
        have h3 : q.t ≠ (Q[i]).t := by simpa using this
        simp [h3, h2.not q hq]
      · have := h2.len
        rw [List.length_eraseIdx, if_pos hi] at this
        simp
        omega
      · rw [h2.stay q (fun z hz => hq z (List.mem_of_mem_eraseIdx hz))]
        exact hmd_give (by have := hq _ hm; unfold onB; simp [this])
      · subst e; simp at hi
theorem find_filter {p q : Lk → Bool} : ∀ {H : List Lk}, (∀ z, p z = true → q z = true) → (H.filter q).find? p = H.find? p
  | [], _ => rfl
  | a :: l, h => by
    rw [List.filter_cons]
    by_cases hq : q a = true
    · rw [if_pos hq, List.find?_cons, List.find?_cons, find_filter h]
    · rw [if_neg hq, find_filter h, List.find?_cons]
      have : p a = false := by
        cases hp : p a
        · rfl
        · exact absurd (h a hp) hq
      rw [this]
theorem gone_semi {H Q : List Lk} (h : Semi H Q) (t : Int) : Semi (H.filter (notB t)) (Q.filter (notB t)) := by
  refine ⟨?_, fun z hz => h.hf z (List.mem_filter.1 hz).1, fun z hz => h.qf z (List.mem_filter.1 hz).1, h.hp.sublist List.filter_sublist, h.qp.sublist List.filter_sublist, fun q hq => ?_⟩
  · have h1 := List.length_filter_le (notB t) H
    have h2 := List.length_filter_le (notB t) Q
    have := h.few
    omega
  · obtain ⟨h1, h2⟩ := List.mem_filter.1 hq
    unfold moreB
    have : hmd (H.filter (notB t)) q = hmd H q := by
      rw [hmd_find, hmd_find, find_filter]
      intro z hz
      unfold notB ofB at h2 ⊢
      rw [(on_eq hz).1]
      exact h2
    rw [this]
    exact h.qm q h1
theorem leave_woke {H Q : List Lk} {t : Int} (h : Okl H Q) (ht : 1 ≤ t ∧ t ≤ 1048576) :
    (leaveL H Q t).2.2.2 = 0 ∧ Woke (H.filter (notB t)) (Q.filter (notB t)) (leaveL H Q t).1 (leaveL H Q t).2.1 (leaveL H Q t).2.2.1 := by
  unfold leaveL
  rw [if_neg (by simp [(okl_iff H Q).2 h]), if_neg (by omega)]
  obtain ⟨W, h1, h2⟩ := wake_woke _ (H.filter (notB t)) (Q.filter (notB t)) [] (gone_semi h.semi t) (Nat.le_refl _)
  rw [List.nil_append] at h1
  refine ⟨rfl, ?_⟩
  show Woke _ _ _ _ (wakeL _ _ _ _).2.2
  rw [h1]
  exact h2
theorem leave_e {H Q : List Lk} {t : Int} (h : Okl H Q) : (leaveL H Q t).2.2.2 = if t < 1 ∨ 1048576 < t then 3 else 0 := by
  unfold leaveL
  rw [if_neg (by simp [(okl_iff H Q).2 h])]
  split <;> rfl
theorem okl_nil : Okl [] [] := (okl_iff [] []).1 rfl
/-- Locks as wishes make them: few, of few transactions. -/
structure Grown (n : Nat) (H Q : List Lk) : Prop where
  ok : Okl H Q
  few : H.length + Q.length ≤ n
  ht : ∀ x ∈ H, 1 ≤ x.t ∧ x.t ≤ 6
  qt : ∀ x ∈ Q, 1 ≤ x.t ∧ x.t ≤ 6
theorem grown_nil : Grown 0 [] [] := ⟨okl_nil, by simp, by simp, by simp⟩
theorem Grown.mono {n m : Nat} {H Q : List Lk} (h : Grown n H Q) (hm : n ≤ m) : Grown m H Q := ⟨h.ok, by have := h.few; omega, h.ht, h.qt⟩
theorem refL_ok {H Q : List Lk} {x : Lk} (h : Okl H Q) (hx : frm x = 0) : refL H Q x = if Q.any (ofB x.t) = true then 9 else 0 := by
  unfold refL
  rw [if_neg (by simp [(okl_iff H Q).2 h]), if_neg (by simp [hx])]
theorem Grown.ask {n : Nat} {H Q : List Lk} {x : Lk} (h : Grown n H Q) (hx : 1 ≤ x.t ∧ x.t ≤ 6) (he : (askL H Q x).2.2.2 = 0) : Grown (n + 1) (askL H Q x).1 (askL H Q x).2.1 := by
  have hok := ask_ok h.ok he
  have hfew := h.few
  unfold askL at hok he ⊢
  split at hok
  · rename_i h0
    rw [if_pos h0] at he ⊢
    exact absurd he h0
  rename_i h0
  rw [if_neg h0] at he ⊢
  split at hok
  · rename_i h1
    rw [if_pos h1] at he ⊢
    exact h.mono (by omega)
  rename_i h1
  rw [if_neg h1] at he ⊢
  split at hok
  · rename_i h2
    rw [if_pos h2] at he ⊢
    split at hok
    · rename_i h3
      rw [if_pos h3] at he
      exact absurd he (by simp)
    · rename_i h3
      rw [if_neg h3] at he ⊢
      refine ⟨hok, ?_, fun z hz => ?_, h.qt⟩
      · rcases give_len H (upL H x) with e | ⟨e, _⟩ <;> simp only [e] <;> omega
      · rcases mem_give hz with hz | rfl
        · exact h.ht z hz
        · exact hx
  · rename_i h2
    rw [if_neg h2] at he ⊢
    split at hok
    · rename_i h3
      rw [if_pos h3] at he
      exact absurd he (by simp)
    · rename_i h3
      rw [if_neg h3] at he ⊢
      refine ⟨hok, ?_, h.ht, fun z hz => ?_⟩
      · simp; omega
      · rcases List.mem_append.1 hz with hz | hz
        · exact h.qt z hz
        · simp at hz; subst hz; exact hx
theorem woke_len {H Q H' Q' : List Lk} {W : List Int} (h : Woke H Q H' Q' W) : True := trivial
theorem wake_few : ∀ (n : Nat) (H Q : List Lk) (a : List Int), (wakeL n H Q a).1.length + (wakeL n H Q a).2.1.length ≤ H.length + Q.length
  | 0, H, Q, a => Nat.le_refl _
  | n + 1, H, Q, a => by
    unfold wakeL
    by_cases hf : freeI H Q < 0
    · rw [if_pos hf]; exact Nat.le_refl _
    · rw [if_neg hf]
      obtain ⟨hi, -, -⟩ := freeI_yes hf
      refine Nat.le_trans (wake_few n _ _ _) ?_
      rw [List.length_eraseIdx, if_pos hi]
      rcases give_len H (Q.getD (freeI H Q).toNat nlk) with e | ⟨e, _⟩ <;> rw [e] <;> omega
theorem Grown.leave {n : Nat} {H Q : List Lk} {t : Int} (h : Grown n H Q) (ht : 1 ≤ t ∧ t ≤ 1048576) : Grown n (leaveL H Q t).1 (leaveL H Q t).2.1 := by
  obtain ⟨he, hw⟩ := leave_woke h.ok ht
  refine ⟨hw.ok, ?_, fun z hz => ?_, fun z hz => h.qt z (List.mem_filter.1 (hw.sub z hz)).1⟩
  · have e1 : (leaveL H Q t).1 = (wakeL (Q.filter (notB t)).length (H.filter (notB t)) (Q.filter (notB t)) []).1 := by
      unfold leaveL; rw [if_neg (by simp [(okl_iff H Q).2 h.ok]), if_neg (by omega)]
    have e2 : (leaveL H Q t).2.1 = (wakeL (Q.filter (notB t)).length (H.filter (notB t)) (Q.filter (notB t)) []).2.1 := by
      unfold leaveL; rw [if_neg (by simp [(okl_iff H Q).2 h.ok]), if_neg (by omega)]
    rw [e1, e2]
    refine Nat.le_trans (wake_few _ _ _ _) ?_
    have h1 := List.length_filter_le (notB t) H
    have h2 := List.length_filter_le (notB t) Q
    have := h.few
    omega
  · rcases hw.held z hz with hz | hz
    · exact h.ht z (List.mem_filter.1 hz).1
    · exact h.qt z (List.mem_filter.1 hz).1
end Go.Proofs.YtpddlckkncmlmaaDoor
