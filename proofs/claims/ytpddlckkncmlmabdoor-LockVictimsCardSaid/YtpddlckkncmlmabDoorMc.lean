/- What the keeping statements on locks say, plainly. -/
import Derived.Test.YtpddlckkncmlmabDoorMb
namespace Go.Proofs.YtpddlckkncmlmabDoor
set_option linter.unusedVariables false
set_option linter.unusedSimpArgs false
theorem ask_e {H Q : List Lk} {x : Lk} (h : Okl H Q) (hf : H.length + Q.length < 200) (hx : frm x = 0) : (askL H Q x).2.2.2 = if Q.any (ofB x.t) = true then 9 else 0 := by
  unfold askL
  rw [refL_ok h hx]
  by_cases hq : Q.any (ofB x.t) = true
  · rw [if_pos hq, if_pos (by omega)]
  · rw [if_neg hq, if_neg (by omega)]
    split
    · rfl
    split
    · rw [if_neg]
      rcases give_len H (upL H x) with e | ⟨e, _⟩ <;> rw [e] <;> omega
    · rw [if_neg (by omega)]
theorem max1 {m : Int} (h : 1 ≤ m) : max m 1 = m := by omega
/-- Who asks and has it: in the mode of both, and the queue is as it was. -/
theorem ask_has {H Q : List Lk} {x : Lk} (h : Okl H Q) (hf : H.length + Q.length < 200) (hx : frm x = 0) (hq : Q.any (ofB x.t) = false) (hh : (askL H Q x).2.2.1 = true) :
    (1 ≤ hmd (askL H Q x).1 x ∧ hmd (askL H Q x).1 x ≤ 5) ∧ joi (hmd (askL H Q x).1 x) x.m = hmd (askL H Q x).1 x ∧ (askL H Q x).2.1.length = Q.length := by
  have key : 1 ≤ (upL H x).m ∧ (upL H x).m ≤ 5 := up_m h.hf hx
  have key2 : joi (upL H x).m x.m = (upL H x).m := by
    show joi (joi (hmd H x) x.m) x.m = joi (hmd H x) x.m
    rcases hmd_0 h.hf x with h0 | ⟨h1, _⟩
    · rw [h0, joi_zero (mods hx), joi_same (mods hx)]
    · rw [joi_three h1 (mods hx) (mods hx), joi_same (mods hx)]
  unfold askL at hh ⊢
  have h0 : ¬ refL H Q x ≠ 0 := by rw [refL_ok h hx, hq]; simp
  rw [if_neg h0] at hh ⊢
  by_cases h1 : (upL H x).m = hmd H x
  · rw [if_pos h1]
    simp only
    rw [← h1]
    exact ⟨key, key2, trivial⟩
  rw [if_neg h1] at hh ⊢
  by_cases h2 : (wts H Q (upL H x)).isEmpty = true
  · rw [if_pos h2]
    rw [if_neg (by rcases give_len H (upL H x) with e | ⟨e, _⟩ <;> rw [e] <;> omega)]
    simp only
    rw [show hmd (giveL H (upL H x)) x = hmd (giveL H (upL H x)) (upL H x) from rfl, hmd_given (.inr trivial)]
    exact ⟨key, key2, trivial⟩
  · rw [if_neg h2] at hh
    rw [if_neg (by omega)] at hh
    cases hh
def sameTh (x l : Lk) : Bool := thB x l && (l.t != x.t)
theorem th_eq {x y : Lk} (h : thB x y = true) : y.th = x.th := by
  unfold thB at h
  simp at h
  obtain ⟨yt, ⟨⟨ya⟩⟩, ym⟩ := y
  obtain ⟨xt, ⟨⟨xa⟩⟩, xm⟩ := x
  simp at h ⊢
  simpa [ByteArray.toList_eq] using h
theorem busy_of {H Q : List Lk} {x : Lk} (h : Okl H Q) (h2 : ¬ (wts H Q x).isEmpty = true) : H.any (sameTh x) = true := by
  rw [wts_emp] at h2
  by_cases ha : H.any (agB x) = true
  · rw [List.any_eq_true] at ha ⊢
    obtain ⟨z, hz, hzx⟩ := ha
    refine ⟨z, hz, ?_⟩
    unfold agB at hzx
    unfold sameTh thB
    simp at hzx ⊢
    exact ⟨hzx.1.2, hzx.1.1⟩
  · simp only [ha, Bool.not_false, Bool.true_and] at h2
    have h3 : hmd H x = 0 ∧ Q.any (thB x) = true := by
      by_cases e : hmd H x = 0
      · refine ⟨e, ?_⟩
        simpa [e] using h2
      · simp [e] at h2
    obtain ⟨hm, hany⟩ := h3
    -- the first one in the queue for that thing waits for somebody who holds it
    obtain ⟨k, hk⟩ : ∃ k, Q.findIdx? (thB x) = some k := by
      cases hf : Q.findIdx? (thB x) with
      | some k => exact ⟨k, rfl⟩
      | none =>
        rw [List.findIdx?_eq_none_iff] at hf
        rw [List.any_eq_true] at hany
        obtain ⟨z, hz, g⟩ := hany
        rw [hf z hz] at g
        cases g
    obtain ⟨hlt, hp, hno⟩ := List.findIdx?_eq_some_iff_getElem.1 hk
    have hw := h.qw k hlt
    rw [gd hlt, wts_emp] at hw
    have hth := th_eq hp
    have hnone : (Q.take k).any (thB Q[k]) = false := by
      rw [take_any (Nat.le_of_lt hlt)]
      intro j hj
      have := hno j hj
      unfold thB at this ⊢
      rw [hth]
      simpa using this
    rw [hnone] at hw
    have hag : H.any (agB Q[k]) = true := by
      cases hc : H.any (agB Q[k])
      · rw [hc] at hw; simp at hw
      · rfl
    rw [List.any_eq_true] at hag ⊢
    obtain ⟨z, hz, hzq⟩ := hag
    refine ⟨z, hz, ?_⟩
    have hzth : thB x z = true := by
      unfold agB at hzq
      unfold thB
      rw [hth] at hzq
      simp at hzq ⊢
      exact hzq.1.2
    have hon := hmd_none h.hf hm z hz
    have e : onB x z = (z.t == x.t && thB x z) := rfl
    rw [e, hzth, Bool.and_true] at hon
    unfold sameTh
    rw [hzth]
    simp at hon
    simp [hon]
/-- Who asks and waits: somebody else has something of the thing. -/
theorem ask_not {H Q : List Lk} {x : Lk} (h : Okl H Q) (hf : H.length + Q.length < 200) (hx : frm x = 0) (hq : Q.any (ofB x.t) = false) (hh : (askL H Q x).2.2.1 = false) :
    H.any (sameTh x) = true ∧ (askL H Q x).2.1.length = Q.length + 1 ∧ (askL H Q x).1.length = H.length := by
  unfold askL at hh ⊢
  have h0 : ¬ refL H Q x ≠ 0 := by rw [refL_ok h hx, hq]; simp
  rw [if_neg h0] at hh ⊢
  by_cases h1 : (upL H x).m = hmd H x
  · rw [if_pos h1] at hh; cases hh
  rw [if_neg h1] at hh ⊢
  by_cases h2 : (wts H Q (upL H x)).isEmpty = true
  · rw [if_pos h2, if_neg (by rcases give_len H (upL H x) with e | ⟨e, _⟩ <;> rw [e] <;> omega)] at hh
    cases hh
  · rw [if_neg h2, if_neg (by omega)]
    exact ⟨busy_of (x := upL H x) h h2, by simp, rfl⟩
theorem find_own {H : List Lk} (hp : H.Pairwise fun a b => onB b a = false ∧ agB b a = false) : ∀ {x : Lk}, x ∈ H → H.find? (onB x) = some x := by
  induction H with
  | nil => intro x hx; simp at hx
  | cons a l ih =>
    intro x hx
    rw [List.pairwise_cons] at hp
    rw [List.find?_cons]
    rcases List.mem_cons.1 hx with rfl | hx
    · have : onB x x = true := by simp [onB]
      rw [this]
    · rw [(hp.1 x hx).1]
      exact ih hp.2 hx
/-- To ask for what one has changes nothing. -/
theorem ask_again {H Q : List Lk} {x : Lk} (h : Okl H Q) (hx : x ∈ H) (hq : Q.any (ofB x.t) = false) : askL H Q x = (H, Q, true, 0) := by
  have hf := h.hf x hx
  have hm : hmd H x = x.m := by rw [hmd_find, find_own h.hp hx]
  unfold askL
  have h0 : ¬ refL H Q x ≠ 0 := by rw [refL_ok h hf, hq]; simp
  rw [if_neg h0, if_pos]
  show joi (hmd H x) x.m = hmd H x
  rw [hm, joi_same (mods hf)]
theorem filter_not {H : List Lk} (t : Int) : ∀ z ∈ H.filter (notB t), z.t ≠ t := fun z hz => by
  have := (List.mem_filter.1 hz).2
  unfold notB ofB at this
  simpa using this
theorem filter_count (Q : List Lk) (t : Int) : (Q.filter (notB t)).length + (Q.filter (ofB t)).length = Q.length := by
  induction Q with
  | nil => rfl
  | cons a l ih =>
    simp only [List.filter_cons]
    cases h : ofB t a <;> simp [notB, h] at ih ⊢ <;> omega
/-- Who leaves has nothing; who is woken has what they waited for. -/
theorem leave_frees {H Q : List Lk} {t : Int} (h : Okl H Q) (ht : 1 ≤ t ∧ t ≤ 1048576) :
    (∀ z ∈ (leaveL H Q t).1, z.t ≠ t) ∧ (∀ u ∈ (leaveL H Q t).2.2.1, u ≠ t ∧ (∀ q ∈ Q, q.t = u → hmd (leaveL H Q t).1 q = q.m) ∧ ∀ q ∈ (leaveL H Q t).2.1, q.t ≠ u) ∧
      (leaveL H Q t).2.1.length + (leaveL H Q t).2.2.1.length + (Q.filter (ofB t)).length = Q.length := by
  obtain ⟨he, hw⟩ := leave_woke h ht
  refine ⟨fun z hz => ?_, fun u hu => ⟨?_, fun q hq hqu => ?_, fun q hq hqu => hw.not q hq (hqu ▸ hu)⟩, ?_⟩
  · rcases hw.held z hz with hz | hz
    · exact filter_not t z hz
    · exact filter_not t z hz
  · obtain ⟨q, h1, h2, -⟩ := hw.has u hu
    rw [← h2]
    exact filter_not t q h1
  · obtain ⟨q', h1, h2, h3⟩ := hw.has u hu
    have h1' := (List.mem_filter.1 h1).1
    have : q' = q := by
      obtain ⟨i, hi, rfl⟩ := List.getElem_of_mem h1'
      obtain ⟨j, hj, rfl⟩ := List.getElem_of_mem hq
      have hp := h.qp
      rw [List.pairwise_iff_getElem] at hp
      rcases Nat.lt_trichotomy i j with g | g | g
      · have := hp i j hi hj g
        unfold ofB at this
        simp [h2, hqu] at this
      · subst g; rfl
      · have := hp j i hj hi g
        unfold ofB at this
        simp [h2, hqu] at this
    rw [← this]
    exact h3
  · have := hw.len
    have := filter_count Q t
    omega
/-- When one has left, of those that are there none is theirs; nobody new comes. -/
theorem leave_out {H Q : List Lk} {t : Int} {P : Int → Prop} (h : Okl H Q) (ht : 1 ≤ t ∧ t ≤ 1048576) (hh : ∀ x ∈ H, P x.t) (hq : ∀ x ∈ Q, P x.t) :
    (∀ x ∈ (leaveL H Q t).1, P x.t ∧ x.t ≠ t) ∧ ∀ x ∈ (leaveL H Q t).2.1, P x.t ∧ x.t ≠ t := by
  obtain ⟨he, hw⟩ := leave_woke h ht
  have hm : ∀ z, z ∈ H.filter (notB t) ∨ z ∈ Q.filter (notB t) → P z.t ∧ z.t ≠ t := fun z hz => by
    rcases hz with hz | hz
    · exact ⟨hh z (List.mem_filter.1 hz).1, filter_not t z hz⟩
    · exact ⟨hq z (List.mem_filter.1 hz).1, filter_not t z hz⟩
  exact ⟨fun x hx => hm x (hw.held x hx), fun x hx => hm x (.inr (hw.sub x hx))⟩
theorem safe_of {H : List Lk} (hp : H.Pairwise fun a b => onB b a = false ∧ agB b a = false) {i k : Nat} (hi : i < H.length) (hk : k < i) :
    ((H.getD k nlk).th.toList == (H.getD i nlk).th.toList && ((H.getD k nlk).t == (H.getD i nlk).t || !tog (H.getD k nlk).m (H.getD i nlk).m)) = false := by
  rw [gd hi, gd (show k < H.length by omega)]
  rw [List.pairwise_iff_getElem] at hp
  obtain ⟨h1, h2⟩ := hp k i (by omega) hi hk
  have e1 : ∀ a b : Lk, onB b a = (a.t == b.t && a.th.toList == b.th.toList) := fun _ _ => rfl
  have e2 : ∀ a b : Lk, agB b a = ((a.t != b.t && a.th.toList == b.th.toList) && !tog a.m b.m) := fun _ _ => rfl
  rw [e1] at h1
  rw [e2] at h2
  cases g1 : ((H[k]'(by omega)).th.toList == (H[i]'hi).th.toList)
  · rfl
  · rw [g1] at h1 h2
    simp only [Bool.and_true] at h1 h2
    rw [h1]
    simp [bne, h1] at h2
    simp [h2]
end Go.Proofs.YtpddlckkncmlmabDoor
