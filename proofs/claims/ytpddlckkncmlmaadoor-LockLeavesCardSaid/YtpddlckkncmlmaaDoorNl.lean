/- What locks lack: the document's way and the program's are one. Plain. -/
import Derived.Test.YtpddlckkncmlmaaDoorNj
import Derived.Test.YtpddlckkncmlmaaDoorJc
namespace Go.Proofs.YtpddlckkncmlmaaDoor
open Go.ChangeShapes Go.WideShapes Go.ChangeAt Go.RowKit
set_option linter.unusedVariables false
set_option linter.unusedSimpArgs false
set_option maxHeartbeats 1000000
def heldD (held : List Lk) (i : Nat) : Bool := (bad (held.getD i nlk) || decide (0 < hmd (held.take i) (held.getD i nlk))) || !(txs (agD (held.getD i nlk)) held).isEmpty
def faultM (m : Int) (q : Lk) : Bool := decide (0 < m) && (m == q.m || firI m q.m != q.m)
def queD (held queue : List Lk) (i : Nat) : Bool := ((bad (queue.getD i nlk) || (queue.take i).any (ofB (queue.getD i nlk).t)) || faultM (hmd held (queue.getD i nlk)) (queue.getD i nlk)) || (wtsD held queue i).isEmpty
def lksD (held queue : List Lk) : Int := if 200 < held.length + queue.length then 11 else if (List.range held.length).any (heldD held) = true then 11 else if (List.range queue.length).any (queD held queue) = true then 11 else 0
theorem any_hit {p : Nat → Bool} {n k : Nat} (hk : k < n) (h : p k = true) : (List.range n).any p = true := List.any_eq_true.2 ⟨k, List.mem_range.2 hk, h⟩
theorem any_none {p : Nat → Bool} {n : Nat} (h : ∀ k, k < n → p k = false) : (List.range n).any p = false := by
  rw [List.any_eq_false]
  exact fun k hk => by simp [h k (List.mem_range.1 hk)]
theorem take_hit {p : Lk → Bool} {l : List Lk} {k j : Nat} (hk : k ≤ l.length) (hj : j < k) (h : p (l.getD j nlk) = true) : (l.take k).any p = true := by
  refine List.any_eq_true.2 ⟨l.getD j nlk, ?_, h⟩
  refine List.mem_iff_getElem.2 ⟨j, by simp; omega, ?_⟩
  rw [List.getElem_take]
  simp [List.getD_eq_getElem?_getD, List.getElem?_eq_getElem (show j < l.length by omega)]
theorem take_none {p : Lk → Bool} {l : List Lk} {k : Nat} (hk : k ≤ l.length) (h : ∀ j, j < k → p (l.getD j nlk) = false) : (l.take k).any p = false := by
  rw [List.any_eq_false]
  intro x hx
  obtain ⟨i, hi, rfl⟩ := List.mem_iff_getElem.1 hx
  rw [List.getElem_take]
  have hi' : i < k := by simp at hi; omega
  have h' := h i hi'
  rw [List.getD_eq_getElem?_getD, List.getElem?_eq_getElem (show i < l.length by omega)] at h'
  simpa using h'
theorem lget {l : List Lk} {i : Nat} (h : i < l.length) : l.getD i nlk = l[i] := by rw [List.getD, List.getElem?_eq_getElem h]; rfl
theorem lget_mem {l : List Lk} {i : Nat} (h : i < l.length) : l.getD i nlk ∈ l := by rw [lget h]; exact List.getElem_mem h
def Mo (l : List Lk) : Prop := ∀ x ∈ l, 1 ≤ x.m ∧ x.m ≤ 5
theorem mo_of {l : List Lk} (h : l.any bad = false) : Mo l := by
  rw [List.any_eq_false] at h
  intro x hx
  have := h x hx
  unfold bad at this
  have : frm x = 0 := by simpa using this
  exact (frm_ok.1 this).2.2
theorem agD_is {x l : Lk} (hx : 1 ≤ x.m ∧ x.m ≤ 5) (hl : 1 ≤ l.m ∧ l.m ≤ 5) : agD x l = agB x l := by
  unfold agD agB
  rw [tog_is hl hx, Bool.and_comm (l.th.toList == x.th.toList)]
theorem agB_comm {x l : Lk} (hx : 1 ≤ x.m ∧ x.m ≤ 5) (hl : 1 ≤ l.m ∧ l.m ≤ 5) : agB x l = agB l x := by
  unfold agB
  rw [tog_comm hl hx]
  congr 2
  · show (!(l.t == x.t)) = !(x.t == l.t)
    rw [BEq.comm]
  · rw [BEq.comm]
theorem agB_self (x : Lk) : agB x x = false := by simp [agB]
theorem hmd_pos {l : List Lk} (hl : Mo l) (x : Lk) : decide (0 < hmd l x) = l.any (onB x) := by
  rw [idx_any]
  unfold hmd
  by_cases h : idx (onB x) l < 0
  · rw [if_pos h]
    rw [Bool.eq_iff_iff]
    simp
    exact h
  · rw [if_neg h]
    have h0 : 0 ≤ idx (onB x) l := by omega
    have hlt : (idx (onB x) l).toNat < l.length := by
      unfold idx at h0 ⊢
      cases hf : l.findIdx? (onB x) with
      | none => rw [hf] at h0; simp at h0
      | some i =>
        have := (List.findIdx?_eq_some_iff_getElem.1 hf).1
        simpa using this
    have hy := hl _ (lget_mem hlt)
    obtain ⟨y, e⟩ : ∃ y, y = (l.getD (idx (onB x) l).toNat nlk).m := ⟨_, rfl⟩
    rw [← e] at hy ⊢
    rw [Bool.eq_iff_iff]
    simp
    omega
theorem hmd_inD {l : List Lk} (hl : Mo l) (x : Lk) : hmd l x = 0 ∨ (1 ≤ hmd l x ∧ hmd l x ≤ 5) := by
  unfold hmd
  by_cases h : idx (onB x) l < 0
  · rw [if_pos h]; exact .inl rfl
  · rw [if_neg h]
    have h0 : 0 ≤ idx (onB x) l := by omega
    have hlt : (idx (onB x) l).toNat < l.length := by
      unfold idx at h0 ⊢
      cases hf : l.findIdx? (onB x) with
      | none => rw [hf] at h0; simp at h0
      | some i =>
        have := (List.findIdx?_eq_some_iff_getElem.1 hf).1
        simpa using this
    exact .inr (hl _ (lget_mem hlt))
theorem mo_take {l : List Lk} (h : Mo l) (i : Nat) : Mo (l.take i) := fun x hx => h x (List.mem_of_mem_take hx)
theorem txs_eq {p q : Lk → Bool} {l : List Lk} (h : ∀ x ∈ l, p x = q x) : txs p l = txs q l := by
  unfold txs
  rw [List.filter_congr h]
theorem txs_emp (p : Lk → Bool) (l : List Lk) : (!(txs p l).isEmpty) = l.any p := by
  rw [Bool.eq_iff_iff]
  simp [txs, List.any_eq_true, List.filter_eq_nil_iff]
theorem joi_0 {m : Int} (h : 1 ≤ m ∧ m ≤ 5) : joi 0 m = m := by rcases five h with h | h | h | h | h <;> rw [h] <;> rfl
theorem more_is {l : List Lk} (hl : Mo l) {q : Lk} (hq : 1 ≤ q.m ∧ q.m ≤ 5) : faultM (hmd l q) q = !moreB l q := by
  unfold faultM moreB
  rcases hmd_inD hl q with h | h
  · rw [h, joi_0 hq]
    rw [Bool.eq_iff_iff]
    simp
    omega
  · rw [joi_is h hq]
    rw [Bool.eq_iff_iff]
    simp
    omega
theorem wts_is {held queue : List Lk} (hh : Mo held) {i : Nat} (hi : i < queue.length) (hq : Mo queue) : wtsD held queue i = wts held (queue.take i) (queue.getD i nlk) := by
  unfold wtsD wts
  rw [txs_eq fun x hx => agD_is (hq _ (lget_mem hi)) (hh x hx)]
theorem que_is {held queue : List Lk} (hh : Mo held) (hq : Mo queue) (hb : queue.any bad = false) {i : Nat} (hi : i < queue.length) : queD held queue i = queF held queue i := by
  unfold queD queF
  have h0 : bad (queue.getD i nlk) = false := by
    rw [List.any_eq_false] at hb
    simpa using hb _ (lget_mem hi)
  rw [h0, Bool.false_or, more_is hh (hq _ (lget_mem hi)), wts_is hh hi hq]
theorem held_is {held : List Lk} (hh : Mo held) (hb : held.any bad = false) : (List.range held.length).any (heldD held) = !heldOk held := by
  rw [Bool.eq_iff_iff]
  have h0 : ∀ i, i < held.length → bad (held.getD i nlk) = false := fun i hi => by
    rw [List.any_eq_false] at hb
    simpa using hb _ (lget_mem hi)
  have e : (!heldOk held) = true ↔ ∃ i, i < held.length ∧ heldF held i = true := by
    simp [heldOk]
  rw [e, List.any_eq_true]
  constructor
  · rintro ⟨i, hi, h⟩
    have hi := List.mem_range.1 hi
    unfold heldD at h
    rw [h0 i hi, Bool.false_or, hmd_pos (mo_take hh i), txs_emp] at h
    rcases Bool.or_eq_true_iff.1 h with h | h
    · exact ⟨i, hi, by unfold heldF; rw [h, Bool.true_or]⟩
    · rw [List.any_eq_true] at h
      obtain ⟨x, hx, hag⟩ := h
      obtain ⟨j, hj, rfl⟩ := List.getElem_of_mem hx
      rw [agD_is (hh _ (lget_mem hi)) (hh _ hx), ← lget hj] at hag
      rcases Nat.lt_trichotomy j i with g | g | g
      · exact ⟨i, hi, by unfold heldF; rw [take_hit (by omega) g hag, Bool.or_true]⟩
      · subst g
        rw [agB_self] at hag
        cases hag
      · rw [agB_comm (hh _ (lget_mem hi)) (hh _ (lget_mem hj))] at hag
        exact ⟨j, hj, by unfold heldF; rw [take_hit (by omega) g hag, Bool.or_true]⟩
  · rintro ⟨i, hi, h⟩
    refine ⟨i, List.mem_range.2 hi, ?_⟩
    unfold heldD
    rw [h0 i hi, Bool.false_or, hmd_pos (mo_take hh i), txs_emp]
    unfold heldF at h
    rcases Bool.or_eq_true_iff.1 h with h | h
    · rw [h, Bool.true_or]
    · rw [List.any_eq_true] at h
      obtain ⟨x, hx, hag⟩ := h
      have hx := List.mem_of_mem_take hx
      rw [List.any_eq_true.2 ⟨x, hx, by rw [agD_is (hh _ (lget_mem hi)) (hh _ hx)]; exact hag⟩, Bool.or_true]
/-- The document and the program say the same of locks. -/
theorem lks_same (held queue : List Lk) : lksD held queue = lksF held queue := by
  unfold lksD lksF
  by_cases hz : 200 < held.length + queue.length
  · rw [if_pos hz, if_pos hz]
  rw [if_neg hz, if_neg hz]
  by_cases hb : held.any bad = true
  · rw [if_pos hb, if_pos]
    rw [List.any_eq_true] at hb
    obtain ⟨x, hx, h⟩ := hb
    obtain ⟨i, hi, rfl⟩ := List.getElem_of_mem hx
    exact any_hit hi (by unfold heldD; rw [lget hi, h, Bool.true_or, Bool.true_or])
  rw [if_neg hb]
  have hb : held.any bad = false := by simpa using hb
  have hh := mo_of hb
  rw [held_is hh hb]
  by_cases hq : queue.any bad = true
  · rw [if_pos hq]
    split
    · rfl
    rw [if_pos]
    rw [List.any_eq_true] at hq
    obtain ⟨x, hx, h⟩ := hq
    obtain ⟨i, hi, rfl⟩ := List.getElem_of_mem hx
    exact any_hit hi (by unfold queD; rw [lget hi, h, Bool.true_or, Bool.true_or, Bool.true_or])
  rw [if_neg hq]
  have hq : queue.any bad = false := by simpa using hq
  have hm := mo_of hq
  cases hk : heldOk held
  · simp
  · have e : (List.range queue.length).any (queD held queue) = !queOk held queue := by
      rw [Bool.eq_iff_iff]
      have e2 : (!queOk held queue) = true ↔ ∃ i, i < queue.length ∧ queF held queue i = true := by simp [queOk]
      rw [e2, List.any_eq_true]
      constructor
      · rintro ⟨i, hi, h⟩
        have hi := List.mem_range.1 hi
        exact ⟨i, hi, by rw [← que_is hh hm hq hi]; exact h⟩
      · rintro ⟨i, hi, h⟩
        exact ⟨i, List.mem_range.2 hi, by rw [que_is hh hm hq hi]; exact h⟩
    rw [e]
    cases queOk held queue <;> simp
end Go.Proofs.YtpddlckkncmlmaaDoor
