/- Asking for a lock, plainly: locks that may be may be behind it. -/
import Derived.Test.YtpddlckkncmlmaaDoorNa
namespace Go.Proofs.YtpddlckkncmlmaaDoor
set_option linter.unusedVariables false
set_option linter.unusedSimpArgs false
def giveL (H : List Lk) (x : Lk) : List Lk := if idx (onB x) H < 0 then H ++ [x] else H.set (idx (onB x) H).toNat x
/-- What is wrong with asking, beside that there may be too many then. -/
def refL (H Q : List Lk) (x : Lk) : Int := if lksF H Q ≠ 0 then 11 else if frm x ≠ 0 then frm x else if Q.any (ofB x.t) = true then 9 else 0
def upL (H : List Lk) (x : Lk) : Lk := ⟨x.t, x.th, joi (hmd H x) x.m⟩
/-- What asking answers: who holds, who waits, has it, the fault. -/
def askL (H Q : List Lk) (x : Lk) : List Lk × List Lk × Bool × Int :=
  if refL H Q x ≠ 0 then ([], [], false, refL H Q x)
  else if (upL H x).m = hmd H x then (H, Q, true, 0)
  else if (wts H Q (upL H x)).isEmpty = true then (if 200 < (giveL H (upL H x)).length + Q.length then ([], [], false, 10) else (giveL H (upL H x), Q, true, 0))
  else if 200 < H.length + (Q.length + 1) then ([], [], false, 10) else (H, Q ++ [upL H x], false, 0)
theorem gd {l : List Lk} {i : Nat} (h : i < l.length) : l.getD i nlk = l[i] := by rw [List.getD, List.getElem?_eq_getElem h]; rfl
/-- Locks that may be. -/
structure Okl (H Q : List Lk) : Prop where
  few : H.length + Q.length ≤ 200
  hf : ∀ x ∈ H, frm x = 0
  qf : ∀ x ∈ Q, frm x = 0
  hp : H.Pairwise fun a b => onB b a = false ∧ agB b a = false
  qp : Q.Pairwise fun a b => ofB b.t a = false
  qm : ∀ x ∈ Q, moreB H x = true
  qw : ∀ i, i < Q.length → (wts H (Q.take i) (Q.getD i nlk)).isEmpty = false
theorem take_any {l : List Lk} {i : Nat} (hi : i ≤ l.length) (p : Lk → Bool) : (l.take i).any p = false ↔ ∀ (j : Nat) (hj : j < i), p (l[j]'(by omega)) = false := by
  rw [List.any_eq_false]
  constructor
  · intro h j hj
    have := h l[j] (List.mem_iff_getElem.2 ⟨j, by simp; omega, by simp⟩)
    simpa using this
  · intro h x hx
    obtain ⟨j, hj, rfl⟩ := List.mem_iff_getElem.1 hx
    have hj' : j < i := by simp at hj; omega
    simpa using h j hj'
theorem heldOk_iff (H : List Lk) : heldOk H = true ↔ H.Pairwise fun a b => onB b a = false ∧ agB b a = false := by
  rw [List.pairwise_iff_getElem]
  unfold heldOk
  rw [List.all_eq_true]
  constructor
  · intro h i j hi hj hij
    have := h j (List.mem_range.2 hj)
    have hF : heldF H j = false := by simpa using this
    unfold heldF at hF
    rw [Bool.or_eq_false_iff, gd hj] at hF
    exact ⟨(take_any (Nat.le_of_lt hj) _).1 hF.1 i hij, (take_any (Nat.le_of_lt hj) _).1 hF.2 i hij⟩
  · intro h j hj
    have hj := List.mem_range.1 hj
    have hF : heldF H j = false := by
      unfold heldF
      rw [Bool.or_eq_false_iff, gd hj]
      exact ⟨(take_any (Nat.le_of_lt hj) _).2 fun i hi => (h i j (by omega) hj hi).1, (take_any (Nat.le_of_lt hj) _).2 fun i hi => (h i j (by omega) hj hi).2⟩
    rw [hF]; rfl
theorem queOk_iff (H Q : List Lk) : queOk H Q = true ↔ (Q.Pairwise fun a b => ofB b.t a = false) ∧ (∀ x ∈ Q, moreB H x = true) ∧ ∀ i, i < Q.length → (wts H (Q.take i) (Q.getD i nlk)).isEmpty = false := by
  rw [List.pairwise_iff_getElem]
  unfold queOk
  rw [List.all_eq_true]
  constructor
  · intro h
    have hq : ∀ j (hj : j < Q.length), queF H Q j = false := fun j hj => by simpa using h j (List.mem_range.2 hj)
    refine ⟨fun i j hi hj hij => ?_, fun x hx => ?_, fun i hi => ?_⟩
    · have := hq j hj
      unfold queF at this
      rw [Bool.or_eq_false_iff, Bool.or_eq_false_iff, gd hj] at this
      exact (take_any (Nat.le_of_lt hj) _).1 this.1.1 i hij
    · obtain ⟨j, hj, rfl⟩ := List.getElem_of_mem hx
      have := hq j hj
      unfold queF at this
      rw [Bool.or_eq_false_iff, Bool.or_eq_false_iff, gd hj] at this
      simpa using this.1.2
    · have := hq i hi
      unfold queF at this
      rw [Bool.or_eq_false_iff] at this
      exact this.2
  · rintro ⟨h1, h2, h3⟩ j hj
    have hj := List.mem_range.1 hj
    have hF : queF H Q j = false := by
      unfold queF
      rw [Bool.or_eq_false_iff, Bool.or_eq_false_iff]
      refine ⟨⟨?_, ?_⟩, h3 j hj⟩
      · rw [gd hj]
        exact (take_any (Nat.le_of_lt hj) _).2 fun i hi => h1 i j (by omega) hj hi
      · rw [gd hj, h2 _ (List.getElem_mem hj)]; rfl
    rw [hF]; rfl
theorem bad_iff (l : List Lk) : l.any bad = false ↔ ∀ x ∈ l, frm x = 0 := by
  rw [List.any_eq_false]
  constructor
  · intro h x hx
    have := h x hx
    unfold bad at this
    simpa using this
  · intro h x hx
    unfold bad
    simp [h x hx]
theorem okl_iff (H Q : List Lk) : lksF H Q = 0 ↔ Okl H Q := by
  unfold lksF
  constructor
  · intro h
    by_cases h1 : 200 < H.length + Q.length
    · rw [if_pos h1] at h; omega
    rw [if_neg h1] at h
    by_cases h2 : H.any bad = true
    · rw [if_pos h2] at h; omega
    rw [if_neg h2] at h
    by_cases h3 : Q.any bad = true
    · rw [if_pos h3] at h; omega
    rw [if_neg h3] at h
    by_cases h4 : heldOk H = false
    · rw [if_pos h4] at h; omega
    rw [if_neg h4] at h
    by_cases h5 : queOk H Q = false
    · rw [if_pos h5] at h; omega
    obtain ⟨a, b, c⟩ := (queOk_iff H Q).1 (by simpa using h5)
    exact ⟨by omega, (bad_iff H).1 (by simpa using h2), (bad_iff Q).1 (by simpa using h3), (heldOk_iff H).1 (by simpa using h4), a, b, c⟩
  · intro h
    rw [if_neg (by have := h.few; omega), (bad_iff H).2 h.hf, (bad_iff Q).2 h.qf, (heldOk_iff H).2 h.hp, (queOk_iff H Q).2 ⟨h.qp, h.qm, h.qw⟩]
    rfl
theorem lks_or (H Q : List Lk) : lksF H Q = 0 ∨ lksF H Q = 11 := by
  unfold lksF
  repeat' split
  all_goals simp
theorem mods {x : Lk} (h : frm x = 0) : 1 ≤ x.m ∧ x.m ≤ 5 := (frm_ok.1 h).2.2
theorem joi_zero {m : Int} (h : 1 ≤ m ∧ m ≤ 5) : joi 0 m = m := by rcases five h with h | h | h | h | h <;> rw [h] <;> rfl
theorem hmd_find (H : List Lk) (x : Lk) : hmd H x = match H.find? (onB x) with | some y => y.m | none => 0 := by
  unfold hmd idx
  induction H with
  | nil => rfl
  | cons a l ih =>
    rw [List.findIdx?_cons, List.find?_cons]
    by_cases h : onB x a = true
    · simp [h]
    · simp only [h, Bool.false_eq_true, if_false]
      cases hf : l.findIdx? (onB x) with
      | none => rw [hf] at ih; simpa using ih
      | some i =>
        rw [hf] at ih
        simp only [Option.map_some] at ih ⊢
        have e1 : ¬ ((i : Int) < 0) := by omega
        have e2 : ¬ (((i + 1 : Nat) : Int) < 0) := by omega
        rw [if_neg e2]
        rw [if_neg e1] at ih
        rw [← ih]
        simp
theorem hmd_0 {H : List Lk} (h : ∀ x ∈ H, frm x = 0) (x : Lk) : hmd H x = 0 ∨ ((1 ≤ hmd H x ∧ hmd H x ≤ 5) ∧ ∃ y ∈ H, onB x y = true ∧ hmd H x = y.m) := by
  rw [hmd_find]
  cases hf : H.find? (onB x) with
  | none => exact .inl rfl
  | some y => exact .inr ⟨mods (h y (List.mem_of_find?_eq_some hf)), y, List.mem_of_find?_eq_some hf, List.find?_some hf, rfl⟩
theorem hmd_none {H : List Lk} (h : ∀ x ∈ H, frm x = 0) {x : Lk} (h0 : hmd H x = 0) : ∀ y ∈ H, onB x y = false := by
  rw [hmd_find] at h0
  cases hf : H.find? (onB x) with
  | none => exact fun y hy => by simpa using List.find?_eq_none.1 hf y hy
  | some y =>
    rw [hf] at h0
    have := mods (h y (List.mem_of_find?_eq_some hf))
    simp only at h0
    omega
theorem up_m {H : List Lk} (h : ∀ x ∈ H, frm x = 0) {x : Lk} (hx : frm x = 0) : 1 ≤ (upL H x).m ∧ (upL H x).m ≤ 5 := by
  show 1 ≤ joi (hmd H x) x.m ∧ joi (hmd H x) x.m ≤ 5
  rcases hmd_0 h x with h0 | ⟨h1, _⟩
  · rw [h0, joi_zero (mods hx)]; exact mods hx
  · exact joi_in h1 (mods hx)
theorem up_frm {H : List Lk} (h : ∀ x ∈ H, frm x = 0) {x : Lk} (hx : frm x = 0) : frm (upL H x) = 0 := frm_ok.2 ⟨(frm_ok.1 hx).1, (frm_ok.1 hx).2.1, up_m h hx⟩
theorem up_more {H : List Lk} (h : ∀ x ∈ H, frm x = 0) {x : Lk} (hx : frm x = 0) (hne : (upL H x).m ≠ hmd H x) : moreB H (upL H x) = true := by
  unfold moreB
  show ((upL H x).m != hmd H x && (upL H x).m == joi (hmd H x) (upL H x).m) = true
  have e : joi (hmd H x) (upL H x).m = (upL H x).m := by
    show joi (hmd H x) (joi (hmd H x) x.m) = joi (hmd H x) x.m
    rcases hmd_0 h x with h0 | ⟨h1, _⟩
    · rw [h0, joi_zero (mods hx), joi_zero (mods hx)]
    · rw [← joi_three h1 h1 (mods hx), joi_same h1]
  rw [e]
  simpa using hne
theorem on_eq {x y : Lk} (h : onB x y = true) : y.t = x.t ∧ y.th = x.th := by
  unfold onB at h
  simp at h
  refine ⟨h.1, ?_⟩
  have := h.2
  obtain ⟨yt, ⟨⟨ya⟩⟩, ym⟩ := y
  obtain ⟨xt, ⟨⟨xa⟩⟩, xm⟩ := x
  simp at this ⊢
  simpa [ByteArray.toList_eq] using this

theorem on_same {q z y : Lk} (h1 : z.t = y.t) (h2 : z.th = y.th) : onB q z = onB q y := by unfold onB; rw [h1, h2]
theorem on_like {q z y : Lk} (h1 : z.t = y.t) (h2 : z.th = y.th) : onB z q = onB y q := by unfold onB; rw [h1, h2]
theorem find_set {p : Lk → Bool} : ∀ {H : List Lk} {i : Nat} {y : Lk} (hi : i < H.length), p y = false → p H[i] = false → (H.set i y).find? p = H.find? p
  | a :: l, 0, y, _, h1, h2 => by
    simp only [List.getElem_cons_zero] at h2
    simp [h1, h2]
  | a :: l, i + 1, y, hi, h1, h2 => by
    simp only [List.getElem_cons_succ] at h2
    rw [List.set_cons_succ, List.find?_cons, List.find?_cons, find_set (by simpa using hi) h1 h2]
theorem idx_at {p : Lk → Bool} {H : List Lk} (h : ¬ idx p H < 0) : ∃ hi : (idx p H).toNat < H.length, p (H[(idx p H).toNat]'hi) = true := by
  unfold idx at h ⊢
  cases hf : H.findIdx? p with
  | none => rw [hf] at h; simp at h
  | some i =>
    obtain ⟨hi, hp, _⟩ := List.findIdx?_eq_some_iff_getElem.1 hf
    exact ⟨by simpa using hi, by simpa using hp⟩
theorem idx_lt {p : Lk → Bool} {H : List Lk} (h : idx p H < 0) : ∀ y ∈ H, p y = false := by
  unfold idx at h
  cases hf : H.findIdx? p with
  | none => rw [List.findIdx?_eq_none_iff] at hf; exact hf
  | some i => rw [hf] at h; simp only at h; omega
/-- What is held when a lock is given: the one in its place, or none; all others stay. -/
theorem hmd_give {H : List Lk} {y q : Lk} (hq : onB q y = false) : hmd (giveL H y) q = hmd H q := by
  rw [hmd_find, hmd_find]
  unfold giveL
  by_cases h : idx (onB y) H < 0
  · rw [if_pos h, List.find?_append]
    cases H.find? (onB q) with
    | some z => rfl
    | none => simp [hq]
  · rw [if_neg h]
    obtain ⟨hi, hp⟩ := idx_at h
    rw [find_set hi hq]
    obtain ⟨h1, h2⟩ := on_eq hp
    rw [on_same h1 h2]
    exact hq
theorem hmd_given {H : List Lk} {y : Lk} : (∀ x ∈ H, onB y x = true → False) ∨ True → hmd (giveL H y) y = y.m := by
  intro _
  rw [hmd_find]
  unfold giveL
  by_cases h : idx (onB y) H < 0
  · rw [if_pos h, List.find?_append, List.find?_eq_none.2 fun x hx => by simp [idx_lt h x hx]]
    simp [onB]
  · rw [if_neg h]
    have e : (H.set (idx (onB y) H).toNat y).find? (onB y) = some y := by
      have key : ∀ (H : List Lk) (i : Nat), H.findIdx? (onB y) = some i → (H.set i y).find? (onB y) = some y := by
        intro H
        induction H with
        | nil => intro i h; simp at h
        | cons a l ih =>
          intro i h
          rw [List.findIdx?_cons] at h
          by_cases ha : onB y a = true
          · rw [if_pos ha] at h
            obtain rfl := Option.some.inj h
            simp [onB]
          · rw [if_neg ha] at h
            cases hf : l.findIdx? (onB y) with
            | none => rw [hf] at h; simp at h
            | some k =>
              rw [hf] at h
              simp at h
              subst h
              rw [List.set_cons_succ, List.find?_cons]
              simp only [ha]
              exact ih k hf
      unfold idx at h ⊢
      cases hf : H.findIdx? (onB y) with
      | none => rw [hf] at h; simp at h
      | some i => simpa using key H i hf
    rw [e]
theorem ag_comm {x l : Lk} (hx : 1 ≤ x.m ∧ x.m ≤ 5) (hl : 1 ≤ l.m ∧ l.m ≤ 5) : agB x l = agB l x := by
  unfold agB
  rw [tog_comm hl hx, BEq.comm (a := l.th.toList)]
  congr 2
  simp only [bne, BEq.comm (a := l.t)]
theorem on_comm (x l : Lk) : onB x l = onB l x := by
  unfold onB
  rw [BEq.comm (a := l.t), BEq.comm (a := l.th.toList)]
theorem mem_give {H : List Lk} {y z : Lk} (h : z ∈ giveL H y) : z ∈ H ∨ z = y := by
  unfold giveL at h
  split at h
  · simpa using h
  · exact List.mem_or_eq_of_mem_set h
theorem give_len (H : List Lk) (y : Lk) : (giveL H y).length = H.length ∨ ((giveL H y).length = H.length + 1 ∧ ∀ x ∈ H, onB y x = false) := by
  unfold giveL
  split
  · rename_i h
    exact .inr ⟨by simp, idx_lt h⟩
  · exact .inl (by simp)
theorem give_pair {H : List Lk} {y : Lk} (hf : ∀ x ∈ H, frm x = 0) (hy : frm y = 0) (hp : H.Pairwise fun a b => onB b a = false ∧ agB b a = false) (ha : ∀ x ∈ H, agB y x = false) :
    (giveL H y).Pairwise fun a b => onB b a = false ∧ agB b a = false := by
  unfold giveL
  by_cases h : idx (onB y) H < 0
  · rw [if_pos h, List.pairwise_append]
    refine ⟨hp, by simp, fun a h1 b h2 => ?_⟩
    simp at h2
    subst h2
    exact ⟨idx_lt h a h1, ha a h1⟩
  · rw [if_neg h]
    obtain ⟨hi, hon⟩ := idx_at h
    obtain ⟨h1, h2⟩ := on_eq hon
    rw [List.pairwise_iff_getElem] at hp ⊢
    intro i j hi' hj' hij
    simp only [List.length_set] at hi' hj'
    rw [List.getElem_set, List.getElem_set]
    by_cases ej : (idx (onB y) H).toNat = j
    · rw [if_pos ej, if_neg (by omega)]
      subst ej
      refine ⟨?_, ha _ (List.getElem_mem hi')⟩
      rw [← on_like h1 h2]
      exact (hp i _ hi' hj' hij).1
    · rw [if_neg ej]
      by_cases ei : (idx (onB y) H).toNat = i
      · rw [if_pos ei]
        subst ei
        have := (hp _ j hi' hj' hij).1
        refine ⟨?_, ?_⟩
        · rw [← on_same h1 h2]
          exact this
        · rw [ag_comm (mods (hf _ (List.getElem_mem hj'))) (mods hy)]
          exact ha _ (List.getElem_mem hj')
      · rw [if_neg ei]
        exact hp i j hi' hj' hij
theorem txs_emp' (p : Lk → Bool) (l : List Lk) : (txs p l).isEmpty = !l.any p := by
  rw [Bool.eq_iff_iff]
  simp [txs, List.any_eq_true, List.filter_eq_nil_iff]
theorem wts_emp (H A : List Lk) (x : Lk) : (wts H A x).isEmpty = (!H.any (agB x) && (!decide (hmd H x = 0) || !A.any (thB x))) := by
  unfold wts
  have e : ∀ a b : List Int, (a ++ b).isEmpty = (a.isEmpty && b.isEmpty) := fun a b => by cases a <;> simp
  rw [e, txs_emp']
  by_cases h : hmd H x = 0
  · rw [if_pos h, txs_emp']; simp [h]
  · rw [if_neg h]; simp [h]
/-- Who waits still waits when a lock is given to another one. -/
theorem give_wts {H A : List Lk} {y q : Lk} (hf : ∀ x ∈ H, frm x = 0) (hq : frm q = 0) {m : Int} (hm : 1 ≤ m ∧ m ≤ 5) (hy : y.m = joi (hmd H y) m) (ht : ofB y.t q = false) (h : (wts H A q).isEmpty = false) : (wts (giveL H y) A q).isEmpty = false := by
  have ht' : q.t ≠ y.t := by unfold ofB at ht; simpa using ht
  have hon : onB q y = false := by unfold onB; simp [Ne.symm ht']
  rw [wts_emp, hmd_give hon]
  rw [wts_emp] at h
  by_cases hb : H.any (agB q) = true
  · have : (giveL H y).any (agB q) = true := by
      rw [List.any_eq_true] at hb ⊢
      obtain ⟨z, hz, hzq⟩ := hb
      unfold giveL
      by_cases hi : idx (onB y) H < 0
      · rw [if_pos hi]; exact ⟨z, by simp [hz], hzq⟩
      · rw [if_neg hi]
        obtain ⟨hl, hon2⟩ := idx_at hi
        obtain ⟨k, hk, rfl⟩ := List.getElem_of_mem hz
        by_cases e : (idx (onB y) H).toNat = k
        · subst e
          refine ⟨y, List.mem_set hl y, ?_⟩
          obtain ⟨h1, h2⟩ := on_eq hon2
          have e3 : hmd H y = (H[(idx (onB y) H).toNat]).m := by
            unfold hmd
            rw [if_neg hi, gd hl]
          have e4 : agB q y = ((y.t != q.t && y.th.toList == q.th.toList) && !tog y.m q.m) := rfl
          have e5 : ∀ z : Lk, agB q z = ((z.t != q.t && z.th.toList == q.th.toList) && !tog z.m q.m) := fun z => rfl
          rw [e5, h1, h2] at hzq
          rw [e4]
          simp only [Bool.and_eq_true, Bool.not_eq_true'] at hzq ⊢
          refine ⟨hzq.1, ?_⟩
          rw [hy, e3, tog_joi (mods (hf _ (List.getElem_mem hl))) hm (mods hq), hzq.2]
          rfl
        · exact ⟨H[k], List.mem_iff_getElem.2 ⟨k, by simpa using hk, by rw [List.getElem_set, if_neg e]⟩, hzq⟩
    rw [this]; rfl
  · simp only [hb, Bool.not_false, Bool.true_and] at h
    rw [h]
    simp
/-- Locks that may be may be behind asking. -/
theorem ask_ok {H Q : List Lk} {x : Lk} (h : Okl H Q) (he : (askL H Q x).2.2.2 = 0) : Okl (askL H Q x).1 (askL H Q x).2.1 := by
  unfold askL at he ⊢
  by_cases h0 : refL H Q x ≠ 0
  · rw [if_pos h0] at he; exact absurd he h0
  rw [if_neg h0] at he ⊢
  have hx : frm x = 0 ∧ Q.any (ofB x.t) = false := by
    unfold refL at h0
    rw [if_neg (by simp [(okl_iff H Q).2 h])] at h0
    by_cases hx : frm x = 0
    · rw [if_neg (by simp [hx])] at h0
      refine ⟨hx, ?_⟩
      cases hq : Q.any (ofB x.t)
      · rfl
      · rw [hq] at h0; simp at h0
    · rw [if_pos hx] at h0; exact absurd hx (by simpa using h0)
  obtain ⟨hx, hqt⟩ := hx
  by_cases h1 : (upL H x).m = hmd H x
  · rw [if_pos h1]; exact h
  rw [if_neg h1] at he ⊢
  have hon : hmd H (upL H x) = hmd H x := rfl
  by_cases h2 : (wts H Q (upL H x)).isEmpty = true
  · rw [if_pos h2] at he ⊢
    by_cases h3 : 200 < (giveL H (upL H x)).length + Q.length
    · rw [if_pos h3] at he; exact absurd he (by simp)
    rw [if_neg h3]
    show Okl (giveL H (upL H x)) Q
    have hag : ∀ z ∈ H, agB (upL H x) z = false := by
      rw [wts_emp] at h2
      simp only [Bool.and_eq_true, Bool.not_eq_true', List.any_eq_false] at h2
      exact fun z hz => by simpa using h2.1 z hz
    have hnt : ∀ q ∈ Q, ofB (upL H x).t q = false := by
      rw [List.any_eq_false] at hqt
      exact fun q hq => by have := hqt q hq; simp only [Bool.not_eq_true] at this; exact this
    refine ⟨by omega, fun z hz => ?_, h.qf, give_pair h.hf (up_frm h.hf hx) h.hp hag, h.qp, fun q hq => ?_, fun i hi => ?_⟩
    · rcases mem_give hz with hz | rfl
      · exact h.hf z hz
      · exact up_frm h.hf hx
    · have ht := hnt q hq
      have : onB q (upL H x) = false := by
        unfold ofB at ht
        unfold onB
        simp at ht
        simp [Ne.symm ht]
      unfold moreB
      rw [hmd_give this]
      exact h.qm q hq
    · have hm : Q.getD i nlk ∈ Q := by rw [gd hi]; exact List.getElem_mem hi
      exact give_wts h.hf (h.qf _ hm) (mods hx) rfl (hnt _ hm) (h.qw i hi)
  · rw [if_neg h2] at he ⊢
    by_cases h3 : 200 < H.length + (Q.length + 1)
    · rw [if_pos h3] at he; exact absurd he (by simp)
    rw [if_neg h3]
    show Okl H (Q ++ [upL H x])
    refine ⟨by simp; omega, h.hf, fun z hz => ?_, h.hp, ?_, fun z hz => ?_, fun i hi => ?_⟩
    · rcases List.mem_append.1 hz with hz | hz
      · exact h.qf z hz
      · simp at hz; subst hz; exact up_frm h.hf hx
    · rw [List.pairwise_append]
      refine ⟨h.qp, by simp, fun a ha b hb => ?_⟩
      simp at hb
      subst hb
      rw [List.any_eq_false] at hqt
      have := hqt a ha
      simp only [Bool.not_eq_true] at this
      exact this
    · rcases List.mem_append.1 hz with hz | hz
      · exact h.qm z hz
      · simp at hz; subst hz; exact up_more h.hf hx h1
    · by_cases e : i < Q.length
      · rw [List.take_append_of_le_length (by omega), show (Q ++ [upL H x]).getD i nlk = Q.getD i nlk by simp [List.getD_eq_getElem?_getD, List.getElem?_append_left e]]
        exact h.qw i e
      · have : i = Q.length := by simp at hi; omega
        subst this
        rw [List.take_append_of_le_length (by omega), List.take_length]
        rw [show (Q ++ [upL H x]).getD Q.length nlk = upL H x by simp]
        simpa using h2
end Go.Proofs.YtpddlckkncmlmaaDoor
