/- Lists sorted, each once, plainly; for whom one waits. -/
import Derived.Test.YtpddlckkncmlmaaDoorZa
import Derived.Test.YtpddlckkncmlmaaDoorMb
import Derived.Lib.SlicesCompact
namespace Go.Proofs.YtpddlckkncmlmaaDoor
set_option linter.unusedVariables false
set_option linter.unusedSimpArgs false
/-- Sorted; sorted, each once. -/
def srtL (l : List Int) : List Int := l.mergeSort fun x y => decide (x ≤ y)
def onceL (l : List Int) : List Int := Lib.compact (srtL l)
theorem comp_upto (s : List Int) (hs : s.Pairwise (· ≤ ·)) : ∀ m, m ≤ s.length →
    (Lib.compactUpTo s.toArray m).Pairwise (· < ·) ∧ (∀ t, t ∈ Lib.compactUpTo s.toArray m ↔ t ∈ s.take m) ∧ ∀ t ∈ Lib.compactUpTo s.toArray m, ∀ (h : 0 < m), t ≤ s.getD (m - 1) 0
  | 0, _ => by simp [Lib.compactUpTo]
  | m + 1, hm => by
    obtain ⟨h1, h2, h3⟩ := comp_upto s hs m (by omega)
    have hlt : m < s.length := by omega
    have e : s.toArray[m]! = s[m] := by simp [hlt]
    have hts : s.take (m + 1) = s.take m ++ [s[m]] := List.take_succ_eq_append_getElem hlt
    have hg : s.getD m 0 = s[m] := by simp [List.getD, hlt]
    rw [Lib.compactUpTo_succ, e, hts, Nat.add_sub_cancel, hg]
    rw [List.pairwise_iff_getElem] at hs
    have hle : 0 < m → s.getD (m - 1) 0 ≤ s[m] := fun h => by
      have := hs (m - 1) m (by omega) hlt (by omega)
      simpa [List.getD, show m - 1 < s.length by omega] using this
    by_cases hk : Lib.keeps s.toArray m = true
    · rw [if_pos hk]
      have hlt2 : ∀ t ∈ Lib.compactUpTo s.toArray m, t < s[m] := fun t ht => by
        rcases Nat.eq_zero_or_pos m with h0 | hp
        · subst h0; simp [Lib.compactUpTo] at ht
        · have a1 := h3 t ht hp
          have a2 := hle hp
          have a3 : s[m] ≠ s.getD (m - 1) 0 := by
            unfold Lib.keeps at hk
            simp only [decide_eq_true_eq] at hk
            rcases hk with hk | hk
            · omega
            · rw [e] at hk
              have : s.toArray[m - 1]! = s.getD (m - 1) 0 := by simp [List.getD, show m - 1 < s.length by omega]
              rw [this] at hk
              exact hk
          omega
      refine ⟨?_, fun t => ?_, fun t ht _ => ?_⟩
      · rw [List.pairwise_append]
        exact ⟨h1, by simp, fun a ha b hb => by simp at hb; subst hb; exact hlt2 a ha⟩
      · rw [List.mem_append, List.mem_append, h2 t]
      · rcases List.mem_append.1 ht with h | h
        · exact Int.le_of_lt (hlt2 t h)
        · simp at h; omega
    · rw [if_neg hk, List.append_nil]
      have hm0 : 0 < m := by
        rcases Nat.eq_zero_or_pos m with h0 | hp
        · subst h0; simp [Lib.keeps] at hk
        · exact hp
      have he : s[m] = s.getD (m - 1) 0 := by
        unfold Lib.keeps at hk
        simp only [decide_eq_true_eq, not_or, Decidable.not_not] at hk
        have := hk.2
        rw [e] at this
        rw [this]
        simp [List.getD, show m - 1 < s.length by omega]
      have hin : s[m] ∈ s.take m := by
        rw [he]
        refine List.mem_iff_getElem.2 ⟨m - 1, by simp; omega, ?_⟩
        simp [List.getD, show m - 1 < s.length by omega]
      refine ⟨h1, fun t => ?_, fun t ht _ => ?_⟩
      · rw [h2 t, List.mem_append, List.mem_singleton]
        exact ⟨.inl, fun h => h.elim id fun h => h ▸ hin⟩
      · have := h3 t ht hm0; omega
theorem once_inc (l : List Int) : (onceL l).Pairwise (· < ·) := by
  have hs : (srtL l).Pairwise (· ≤ ·) := by
    have := List.pairwise_mergeSort (le := fun x y : Int => decide (x ≤ y)) (by intro a b c; simp; omega) (by intro a b; simp; omega) l
    unfold srtL
    simpa using this
  exact (comp_upto _ hs _ (Nat.le_refl _)).1
theorem once_mem (l : List Int) (t : Int) : t ∈ onceL l ↔ t ∈ l := by
  have hs : (srtL l).Pairwise (· ≤ ·) := by
    have := List.pairwise_mergeSort (le := fun x y : Int => decide (x ≤ y)) (by intro a b c; simp; omega) (by intro a b; simp; omega) l
    unfold srtL
    simpa using this
  have := (comp_upto _ hs _ (Nat.le_refl _)).2.1 t
  unfold onceL Lib.compact
  rw [this, List.take_length]
  unfold srtL
  exact List.mem_mergeSort
/-- The least one above; 0: there is none. -/
def lstS (last m x : Int) : Int := if last < x ∧ (m = 0 ∨ x < m) then x else m
def lstL (last : Int) (ws : List Int) : Int := ws.foldl (lstS last) 0
theorem lst_snoc (last : Int) (ws : List Int) (x : Int) : lstL last (ws ++ [x]) = lstS last (lstL last ws) x := by unfold lstL; rw [List.foldl_append]; rfl
theorem lst_spec (last : Int) (h0 : 0 ≤ last) (ws : List Int) : (lstL last ws = 0 ∧ ∀ x ∈ ws, x ≤ last) ∨ (lstL last ws ∈ ws ∧ last < lstL last ws ∧ ∀ x ∈ ws, last < x → lstL last ws ≤ x) := by
  have gen : ∀ (ws : List Int) (m : Int) (done : List Int), ((m = 0 ∧ ∀ x ∈ done, x ≤ last) ∨ (m ∈ done ∧ last < m ∧ ∀ x ∈ done, last < x → m ≤ x)) →
      ((ws.foldl (lstS last) m = 0 ∧ ∀ x ∈ done ++ ws, x ≤ last) ∨ (ws.foldl (lstS last) m ∈ done ++ ws ∧ last < ws.foldl (lstS last) m ∧ ∀ x ∈ done ++ ws, last < x → ws.foldl (lstS last) m ≤ x)) := by
    intro ws
    induction ws with
    | nil => intro m done h; simpa using h
    | cons a l ih =>
      intro m done h
      have := ih (lstS last m a) (done ++ [a]) ?_
      · simpa [List.append_assoc] using this
      · unfold lstS
        split
        · rename_i hc
          refine .inr ⟨by simp, hc.1, fun x hx hlx => ?_⟩
          rcases List.mem_append.1 hx with hx | hx
          · rcases h with ⟨h1, h2⟩ | ⟨h1, h2, h3⟩
            · have := h2 x hx; omega
            · have := h3 x hx hlx; omega
          · simp at hx; omega
        · rename_i hc
          rcases h with ⟨h1, h2⟩ | ⟨h1, h2, h3⟩
          · refine .inl ⟨h1, fun x hx => ?_⟩
            rcases List.mem_append.1 hx with hx | hx
            · exact h2 x hx
            · simp at hx; subst hx; omega
          · refine .inr ⟨by simp [h1], h2, fun x hx hlx => ?_⟩
            rcases List.mem_append.1 hx with hx | hx
            · exact h3 x hx hlx
            · simp at hx; subst hx; omega
  unfold lstL
  simpa using gen ws 0 [] (.inl ⟨rfl, by simp⟩)
/-- What has been found behind j rounds. -/
def lastJ (S : List Int) (j : Nat) : Int := if j = 0 then 0 else S.getD (j - 1) 0
theorem once_pos {ws : List Int} (hp : ∀ x ∈ ws, 1 ≤ x) : ∀ x ∈ onceL ws, 1 ≤ x := fun x hx => hp x ((once_mem ws x).1 hx)
theorem gd0 {S : List Int} {j : Nat} (h : j < S.length) : S.getD j 0 = S[j] := by simp [List.getD, h]
theorem lastJ_0 {ws : List Int} (hp : ∀ x ∈ ws, 1 ≤ x) (j : Nat) (hj : j ≤ (onceL ws).length) : 0 ≤ lastJ (onceL ws) j := by
  unfold lastJ
  split
  · omega
  · rw [gd0 (by omega)]
    have := once_pos hp _ (List.getElem_mem (show j - 1 < (onceL ws).length by omega))
    omega
theorem lst_next {ws : List Int} (hp : ∀ x ∈ ws, 1 ≤ x) (j : Nat) (hj : j ≤ (onceL ws).length) : lstL (lastJ (onceL ws) j) ws = (onceL ws).getD j 0 := by
  have hinc := once_inc ws
  rw [List.pairwise_iff_getElem] at hinc
  have h0 := lastJ_0 hp j hj
  have below : ∀ (i : Nat) (hi : i < (onceL ws).length), i < j → (onceL ws)[i] ≤ lastJ (onceL ws) j := by
    intro i hi hij
    unfold lastJ
    rw [if_neg (by omega), gd0 (by omega)]
    rcases Nat.lt_or_ge i (j - 1) with h | h
    · exact Int.le_of_lt (hinc i (j - 1) hi (by omega) h)
    · have : i = j - 1 := by omega
      subst this
      exact Int.le_refl _
  have above : ∀ (i : Nat) (hi : i < (onceL ws).length), j ≤ i → lastJ (onceL ws) j < (onceL ws)[i] := by
    intro i hi hij
    unfold lastJ
    split
    · have := once_pos hp _ (List.getElem_mem hi); omega
    · rw [gd0 (by omega)]
      exact hinc (j - 1) i (by omega) hi (by omega)
  rcases lst_spec (lastJ (onceL ws) j) h0 ws with ⟨h1, h2⟩ | ⟨h1, h2, h3⟩
  · rw [h1]
    rcases Nat.lt_or_ge j (onceL ws).length with h | h
    · have := h2 _ ((once_mem ws _).1 (List.getElem_mem h))
      have := above j h (Nat.le_refl _)
      omega
    · simp [List.getD, h]
  · obtain ⟨i, hi, he⟩ := List.getElem_of_mem ((once_mem ws _).2 h1)
    have hji : j ≤ i := by
      rcases Nat.lt_or_ge i j with h | h
      · have := below i hi h; omega
      · exact h
    have hjl : j < (onceL ws).length := by omega
    rw [gd0 hjl]
    have := h3 _ ((once_mem ws _).1 (List.getElem_mem hjl)) (above j hjl (Nat.le_refl _))
    rcases Nat.lt_or_ge j i with h | h
    · have := hinc j i hjl hi h; omega
    · have : i = j := by omega
      subst this
      exact he.symm
theorem lastJ_succ (S : List Int) (j : Nat) : lastJ S (j + 1) = S.getD j 0 := by simp [lastJ]
theorem take_succ0 {S : List Int} {j : Nat} (h : j < S.length) : S.take (j + 1) = S.take j ++ [S.getD j 0] := by rw [gd0 h, List.take_succ_eq_append_getElem h]
/-- For whom the one at a place of the queue waits. -/
def wRow (H Q : List Lk) (i : Nat) : List Int := onceL (wts H (Q.take i) (Q.getD i nlk))
def wRows (H Q : List Lk) : List (List Int) := (List.range Q.length).map (wRow H Q)
theorem th_eqL {x y : ByteArray} (h : (x.toList == y.toList) = true) : x = y := by
  obtain ⟨⟨xa⟩⟩ := x
  obtain ⟨⟨ya⟩⟩ := y
  simp at h ⊢
  simpa [ByteArray.toList_eq] using h
theorem txs_mem {p : Lk → Bool} {l : List Lk} {t : Int} : t ∈ txs p l ↔ ∃ z ∈ l, p z = true ∧ z.t = t := by
  unfold txs
  rw [List.mem_map]
  constructor
  · rintro ⟨z, hz, rfl⟩
    exact ⟨z, (List.mem_filter.1 hz).1, (List.mem_filter.1 hz).2, rfl⟩
  · rintro ⟨z, hz, hp, rfl⟩
    exact ⟨z, List.mem_filter.2 ⟨hz, hp⟩, rfl⟩
theorem wts_mem {H A : List Lk} {x : Lk} {t : Int} : t ∈ wts H A x ↔ (∃ z ∈ H, agB x z = true ∧ z.t = t) ∨ (hmd H x = 0 ∧ ∃ z ∈ A, thB x z = true ∧ z.t = t) := by
  unfold wts
  rw [List.mem_append, txs_mem]
  by_cases h : hmd H x = 0
  · rw [if_pos h, txs_mem]; simp [h]
  · rw [if_neg h]; simp [h]
theorem hmd_pos_on {H : List Lk} (hf : ∀ x ∈ H, frm x = 0) {z x : Lk} (hz : z ∈ H) (ho : onB x z = true) : 0 < hmd H x := by
  rcases hmd_0 hf x with h0 | ⟨h1, _⟩
  · have := hmd_none hf h0 z hz
    rw [ho] at this; cases this
  · omega
/-- Who waits waits for somebody else, who holds the thing, or stands ahead. -/
theorem row_in {H Q : List Lk} (h : Okl H Q) {i : Nat} (hi : i < Q.length) {t : Int} (ht : t ∈ wRow H Q i) :
    t ≠ (Q.getD i nlk).t ∧ (1 ≤ t ∧ t ≤ 1048576) ∧ ((∃ m, 0 < hmd H ⟨t, (Q.getD i nlk).th, m⟩) ∨ ∃ j, j < i ∧ (Q.getD j nlk).t = t ∧ (Q.getD j nlk).th = (Q.getD i nlk).th) := by
  unfold wRow at ht
  rw [once_mem, wts_mem] at ht
  rcases ht with ⟨z, hz, hp, rfl⟩ | ⟨h0, z, hz, hp, rfl⟩
  · have hfz := frm_ok.1 (h.hf z hz)
    have e : (z.t != (Q.getD i nlk).t && z.th.toList == (Q.getD i nlk).th.toList) = true := by
      unfold agB at hp
      simp only [Bool.and_eq_true] at hp ⊢
      exact hp.1
    simp only [Bool.and_eq_true] at e
    refine ⟨by simpa using e.1, hfz.1, .inl ⟨0, ?_⟩⟩
    have hth : z.th = (Q.getD i nlk).th := th_eqL e.2
    refine hmd_pos_on h.hf hz ?_
    unfold onB
    simp [hth]
  · obtain ⟨j, hj, rfl⟩ := List.mem_iff_getElem.1 hz
    have hji : j < i := by simp at hj; omega
    have hjq : j < Q.length := by omega
    have hg : (Q.take i)[j] = Q.getD j nlk := by rw [gd hjq]; simp
    rw [hg] at hp ⊢
    have hth : (Q.getD j nlk).th = (Q.getD i nlk).th := th_eqL hp
    refine ⟨?_, (frm_ok.1 (h.qf _ (by rw [gd hjq]; exact List.getElem_mem hjq))).1, .inr ⟨j, hji, rfl, hth⟩⟩
    have := (List.pairwise_iff_getElem.1 h.qp) j i hjq hi hji
    rw [← gd hjq, ← gd hi] at this
    unfold ofB at this
    simpa using this
theorem row_pos {H Q : List Lk} (h : Okl H Q) {i : Nat} (hi : i < Q.length) : 0 < (wRow H Q i).length := by
  have := h.qw i hi
  cases hw : wts H (Q.take i) (Q.getD i nlk) with
  | nil => rw [hw] at this; cases this
  | cons a l =>
    have hm : a ∈ wRow H Q i := by unfold wRow; rw [once_mem, hw]; simp
    exact List.length_pos_of_mem hm
theorem wts_pos {H Q : List Lk} (hf : ∀ x ∈ H, frm x = 0) (hq : ∀ x ∈ Q, frm x = 0) (i : Nat) : ∀ t ∈ wts H (Q.take i) (Q.getD i nlk), 1 ≤ t := by
  intro t ht
  rw [wts_mem] at ht
  rcases ht with ⟨z, hz, _, rfl⟩ | ⟨_, z, hz, _, rfl⟩
  · exact (frm_ok.1 (hf z hz)).1.1
  · exact (frm_ok.1 (hq z (List.mem_of_mem_take hz))).1.1
/-- Who waits for whom, by their numbers. -/
def Rel (H Q : List Lk) (a b : Int) : Prop := ∃ i, i < Q.length ∧ (Q.getD i nlk).t = a ∧ b ∈ wRow H Q i
def cyc (H Q : List Lk) (t : Int) : Prop := Rch (Rel H Q) t t
noncomputable def cycB (H Q : List Lk) (t : Int) : Bool := @decide (cyc H Q t) (Classical.propDecidable _)
theorem cycB_iff {H Q : List Lk} {t : Int} : cycB H Q t = true ↔ cyc H Q t := by unfold cycB; simp
/-- The youngest of those that wait for themselves. -/
def vicS (p : Int → Bool) (l : List Lk) : Int := l.foldl (fun v x => if p x.t = true then max v x.t else v) 0
noncomputable def vicL (H Q : List Lk) : Int := vicS (cycB H Q) Q
theorem vicS_snoc (p : Int → Bool) (l : List Lk) (x : Lk) : vicS p (l ++ [x]) = if p x.t = true then max (vicS p l) x.t else vicS p l := by unfold vicS; rw [List.foldl_append]; rfl
theorem vicS_is (p : Int → Bool) : ∀ (k : Nat) (l : List Lk), l.length = k → 0 ≤ vicS p l ∧ (vicS p l ≠ 0 → ∃ x ∈ l, x.t = vicS p l ∧ p x.t = true)
  | 0, l, hl => by
    obtain rfl : l = [] := List.eq_nil_of_length_eq_zero hl
    simp [vicS]
  | k + 1, l, hl => by
    rcases List.eq_nil_or_concat l with rfl | ⟨l', x, rfl⟩
    · simp at hl
    · obtain ⟨h1, h2⟩ := vicS_is p k l' (by simp at hl; exact hl)
      rw [List.concat_eq_append, vicS_snoc]
      by_cases hp : p x.t = true
      · rw [if_pos hp]
        refine ⟨by omega, fun hne => ?_⟩
        by_cases hm : vicS p l' ≤ x.t
        · exact ⟨x, by simp, by omega, hp⟩
        · have e : max (vicS p l') x.t = vicS p l' := by omega
          rw [e] at hne ⊢
          obtain ⟨z, hz, g⟩ := h2 hne
          exact ⟨z, by simp [hz], g⟩
      · rw [if_neg hp]
        refine ⟨h1, fun hne => ?_⟩
        obtain ⟨z, hz, g⟩ := h2 hne
        exact ⟨z, by simp [hz], g⟩
theorem vic_in {H Q : List Lk} (h : vicL H Q ≠ 0) : ∃ x ∈ Q, x.t = vicL H Q ∧ cyc H Q x.t := by
  obtain ⟨x, hx, h1, h2⟩ := (vicS_is (cycB H Q) _ Q rfl).2 h
  exact ⟨x, hx, h1, cycB_iff.1 h2⟩
theorem vic_one {H Q : List Lk} (hok : Okl H Q) (hq : Q.length ≤ 1) : vicL H Q = 0 := by
  by_cases h : vicL H Q = 0
  · exact h
  · obtain ⟨x, hx, -, hc⟩ := vic_in h
    obtain ⟨i, hi, rfl⟩ := List.getElem_of_mem hx
    exfalso
    have key : ∀ b, Rch (Rel H Q) (Q[i]).t b → b ≠ (Q[i]).t := by
      intro b hb
      cases hb with
      | one hb =>
        obtain ⟨k, hk, _, hb⟩ := hb
        have := (row_in hok hk hb).1
        obtain rfl : k = i := by omega
        rwa [gd hk] at this
      | cat _ hb =>
        obtain ⟨k, hk, _, hb⟩ := hb
        have := (row_in hok hk hb).1
        obtain rfl : k = i := by omega
        rwa [gd hk] at this
    exact key _ hc rfl
/-- Places and numbers. -/
def Edg (H Q : List Lk) (i j : Nat) : Prop := i < Q.length ∧ j < Q.length ∧ (Q.getD j nlk).t ∈ wRow H Q i
theorem place_one {Q : List Lk} (hp : Q.Pairwise fun a b => ofB b.t a = false) {i j : Nat} (hi : i < Q.length) (hj : j < Q.length) (h : (Q.getD i nlk).t = (Q.getD j nlk).t) : i = j := by
  rw [gd hi, gd hj] at h
  rw [List.pairwise_iff_getElem] at hp
  rcases Nat.lt_trichotomy i j with g | g | g
  · have := hp i j hi hj g
    unfold ofB at this
    simp [h] at this
  · exact g
  · have := hp j i hj hi g
    unfold ofB at this
    simp [h] at this
theorem pth_rch {H Q : List Lk} {k i j : Nat} (h : Pth (Edg H Q) k i j) : Rch (Rel H Q) (Q.getD i nlk).t (Q.getD j nlk).t := by
  induction h with
  | one h => exact .one ⟨_, h.1, rfl, h.2.2⟩
  | cat _ _ _ h1 h2 => exact h1.trans h2
theorem rch_pth {H Q : List Lk} (hp : Q.Pairwise fun a b => ofB b.t a = false) {i : Nat} (hi : i < Q.length) {b : Int} (h : Rch (Rel H Q) (Q.getD i nlk).t b) : ∀ j, j < Q.length → (Q.getD j nlk).t = b → Pth (Edg H Q) Q.length i j := by
  induction h with
  | one h =>
    intro j hj e
    obtain ⟨k, hk, e1, hb⟩ := h
    obtain rfl := place_one hp hk hi e1
    exact .one ⟨hk, hj, by rw [e]; exact hb⟩
  | cat _ h ih =>
    intro j hj e
    obtain ⟨k, hk, e1, hb⟩ := h
    exact .cat (ih k hk e1) hk (.one ⟨hk, hj, by rw [e]; exact hb⟩)
theorem cyc_pth {H Q : List Lk} (hp : Q.Pairwise fun a b => ofB b.t a = false) {i : Nat} (hi : i < Q.length) : cyc H Q (Q.getD i nlk).t ↔ Pth (Edg H Q) Q.length i i :=
  ⟨fun h => rch_pth hp hi h i hi rfl, fun h => pth_rch h⟩
end Go.Proofs.YtpddlckkncmlmaaDoor
