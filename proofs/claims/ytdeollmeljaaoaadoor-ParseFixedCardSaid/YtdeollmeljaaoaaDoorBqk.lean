import Derived.Test.YtdeollmeljaaoaaDoorBok
/- Tokens that are cut: a reader goes alike, or stands at the cut, or dies there of shortness: expressions. Plain. -/
namespace Go.Proofs.YtdeollmeljaaoaaDoor.rd
open Go.Proofs.YtdeollmeljaaoaaDoor.cs
set_option linter.unusedVariables false
set_option linter.unusedSimpArgs false
set_option linter.unusedSectionVars false
set_option maxRecDepth 100000
/-- Where a cut reader ends that stands at the cut: there, with no more ops; or dead of shortness. -/
def OutE (k : Nat) (o2 : List Oq) (x : F ⊕ (Nat × List Oq)) : Prop := (∃ o', x = .inr (k, o') ∧ o'.length ≤ o2.length) ∨ x = .inl ((k : Int), 7)
def Out (k j2 : Nat) (o2 : List Oq) (x : F ⊕ (Nat × List Oq)) : Prop := (j2 ≤ k ∧ x = .inr (j2, o2)) ∨ OutE k o2 x
def Mono (N j0 : Nat) (r : R) : Prop := ∀ j os j2 o2, j0 ≤ j → j ≤ N → os.length ≤ 40 → r j os = .inr (j2, o2) → j ≤ j2 ∧ j2 ≤ N ∧ os.length ≤ o2.length ∧ o2.length ≤ 40
/-- The one reads the cut tokens, the other one all. -/
def Tr (k N j0 : Nat) (rT rF : R) : Prop := Mono N j0 rF ∧ ∀ j os j2 o2, j0 ≤ j → j ≤ N → os.length ≤ 40 → rF j os = .inr (j2, o2) → (j ≤ k → Out k j2 o2 (rT j os)) ∧ ∀ o', o'.length ≤ os.length → OutE k o2 (rT k o')
theorem OutE.grow {k : Nat} {o2 o3 : List Oq} {x : F ⊕ (Nat × List Oq)} (h : OutE k o2 x) (hl : o2.length ≤ o3.length) : OutE k o3 x := by
  rcases h with ⟨o', h1, h2⟩ | h
  · exact .inl ⟨o', h1, Nat.le_trans h2 hl⟩
  · exact .inr h
theorem put_in {o : Oq} {j j2 : Nat} {os o2 : List Oq} (h : putF o j os = .inr (j2, o2)) : os.length ≠ 40 ∧ j2 = j ∧ o2 = os ++ [o] := by
  unfold putF at h
  split at h
  · cases h
  · cases h
    exact ⟨by assumption, rfl, rfl⟩
theorem put_mono (o : Oq) (N j0 : Nat) : Mono N j0 (putF o) := fun j os j2 o2 a b c d => by
  obtain ⟨h1, rfl, rfl⟩ := put_in d
  simp only [List.length_append, List.length_cons, List.length_nil]
  omega
theorem put_tr (o : Oq) (k N j0 : Nat) : Tr k N j0 (putF o) (putF o) := ⟨put_mono o N j0, fun j os j2 o2 a b c d => by
  obtain ⟨h1, rfl, rfl⟩ := put_in d
  refine ⟨fun hj => .inl ⟨hj, d⟩, fun o' ho => .inl ⟨o' ++ [o], put_ok (by omega), by simp; exact ho⟩⟩⟩
theorem bd_mono {N j0 : Nat} {a b : R} (ha : Mono N j0 a) (hb : Mono N j0 b) : Mono N j0 (fun j os => bd (a j os) fun x => b x.1 x.2) := fun j os j2 o2 g1 g2 g3 d => by
  obtain ⟨x, e1, e2⟩ := bd_ok d
  obtain ⟨h1, h2, h3, h4⟩ := ha j os x.1 x.2 g1 g2 g3 e1
  obtain ⟨h5, h6, h7, h8⟩ := hb x.1 x.2 j2 o2 (by omega) h2 h4 e2
  omega
theorem bd_tr {k N j0 : Nat} {aT aF bT bF : R} (ha : Tr k N j0 aT aF) (hb : Tr k N j0 bT bF) : Tr k N j0 (fun j os => bd (aT j os) fun x => bT x.1 x.2) (fun j os => bd (aF j os) fun x => bF x.1 x.2) :=
  ⟨bd_mono ha.1 hb.1, fun j os j2 o2 g1 g2 g3 d => by
    obtain ⟨x, e1, e2⟩ := bd_ok d
    obtain ⟨h1, h2, h3, h4⟩ := ha.1 j os x.1 x.2 g1 g2 g3 e1
    obtain ⟨a1, a2⟩ := ha.2 j os x.1 x.2 g1 g2 g3 e1
    obtain ⟨b1, b2⟩ := hb.2 x.1 x.2 j2 o2 (by omega) h2 h4 e2
    constructor
    · intro hj
      rcases a1 hj with ⟨c1, c2⟩ | ⟨o', c1, c2⟩ | c
      · dsimp only; rw [c2, bd_inr]; exact b1 c1
      · dsimp only; rw [c1, bd_inr]; exact .inr (b2 o' c2)
      · dsimp only; rw [c, bd_inl]; exact .inr (.inr rfl)
    · intro o' ho
      rcases a2 o' ho with ⟨o3, c1, c2⟩ | c
      · dsimp only; rw [c1, bd_inr]; exact b2 o3 c2
      · dsimp only; rw [c, bd_inl]; exact .inr rfl⟩
section
variable {L : List Tk} {k : Nat} (hk : k ≤ L.length)
include hk
theorem cut_len : (L.take k).length = k := by rw [List.length_take]; omega
theorem cut_in {j : Nat} (h : j < k) : (L.take k).getD j tk0 = L.getD j tk0 := by
  simp only [List.getD, List.getElem?_take, if_pos h]
theorem cut_end {j : Nat} (h : k ≤ j) : (L.take k).getD j tk0 = tk0 := by
  simp only [List.getD, List.getElem?_take, if_neg (show ¬ j < k by omega), Option.getD_none]
theorem cmay_in {j : Nat} (h : j < k) (s : ByteArray) : mayB (L.take k) j s = mayB L j s := by
  unfold mayB
  rw [cut_in hk h]
theorem cmay_end {j : Nat} (h : k ≤ j) (s : ByteArray) : mayB (L.take k) j s = false := (may_mt (cut_end hk h) s).trans rfl
theorem csign_in {j : Nat} (h : j < k) : ∀ ks : List Nat, signF (L.take k) j ks = signF L j ks
  | [] => rfl
  | q :: l => by
    unfold signF
    rw [cmay_in hk h, csign_in h l]
theorem csign_end {j : Nat} (h : k ≤ j) (ks : List Nat) : signF (L.take k) j ks = none := sign_none fun q _ => cmay_end hk h _
theorem ccmp_in {j : Nat} (h : j < k) : ∀ ks : List Cmq, cmpF (L.take k) j ks = cmpF L j ks
  | [] => rfl
  | q :: l => by
    unfold cmpF
    rw [cmay_in hk h, ccmp_in h l]
theorem ccmp_end {j : Nat} (h : k ≤ j) : ∀ ks : List Cmq, cmpF (L.take k) j ks = none
  | [] => rfl
  | q :: l => by
    unfold cmpF
    rw [cmay_end hk h, ccmp_end h l]
    rfl
omit hk in
theorem sgn_lt {L : List Tk} {j q : Nat} : ∀ {ks : List Nat}, signF L j ks = some q → j < L.length
  | [], h => by cases h
  | a :: l, h => by
    unfold signF at h
    split at h
    · rename_i hm
      exact may_lt hm
    · exact sgn_lt h
omit hk in
theorem cmp_lt {L : List Tk} {j : Nat} {c : Cmq} : ∀ {ks : List Cmq}, cmpF L j ks = some c → j < L.length
  | [], h => by cases h
  | a :: l, h => by
    unfold cmpF at h
    split at h
    · rename_i hm
      exact may_lt hm
    · exact cmp_lt h
theorem short_end (j : Nat) (h : j = k) (q : Int) : fl k j q = ((k : Int), 7) := by
  subst h
  unfold fl
  rw [if_pos rfl]
theorem loop_tr {j0 : Nat} {thT thF : R} (ht : Tr k L.length j0 thT thF) (ks : List Nat) : ∀ (fF j : Nat) (os : List Oq) (j2 : Nat) (o2 : List Oq), j0 ≤ j → j ≤ L.length → os.length ≤ 40 → L.length ≤ fF + j → loopC L thF ks fF j os = .inr (j2, o2) →
    (j ≤ j2 ∧ j2 ≤ L.length ∧ os.length ≤ o2.length ∧ o2.length ≤ 40) ∧ (j ≤ k → ∀ fT, k ≤ fT + j → Out k j2 o2 (loopC (L.take k) thT ks fT j os)) ∧ ∀ fT o', o'.length ≤ os.length → OutE k o2 (loopC (L.take k) thT ks fT k o')
  | fF, j, os, j2, o2, g1, g2, g3, g4, d => by
    have he : ∀ fT o', loopC (L.take k) thT ks fT k o' = .inr (k, o') := fun fT o' => loop_stop (csign_end hk (Nat.le_refl _) ks) fT
    have hz : signF L j ks = none → (j2 = j ∧ o2 = os) → (j ≤ j2 ∧ j2 ≤ L.length ∧ os.length ≤ o2.length ∧ o2.length ≤ 40) ∧ (j ≤ k → ∀ fT, k ≤ fT + j → Out k j2 o2 (loopC (L.take k) thT ks fT j os)) ∧ ∀ fT o', o'.length ≤ os.length → OutE k o2 (loopC (L.take k) thT ks fT k o') := fun hs e => by
      obtain ⟨rfl, rfl⟩ := e
      refine ⟨by omega, fun hj fT _ => ?_, fun fT o' ho => .inl ⟨o', he fT o', ho⟩⟩
      refine .inl ⟨hj, loop_stop ?_ fT⟩
      by_cases hlt : j2 < k
      · rw [csign_in hk hlt]; exact hs
      · exact csign_end hk (by omega) ks
    cases fF with
    | zero =>
      have hs : signF L j ks = none := by
        cases e : signF L j ks with
        | none => rfl
        | some q => have := sgn_lt e; omega
      exact hz hs (by unfold loopC at d; cases d; exact ⟨rfl, rfl⟩)
    | succ f =>
      cases e : signF L j ks with
      | none => exact hz e (by unfold loopC at d; rw [e] at d; cases d; exact ⟨rfl, rfl⟩)
      | some q =>
        have hlt := sgn_lt e
        unfold loopC at d
        rw [e] at d
        obtain ⟨x, e1, d⟩ := bd_ok d
        obtain ⟨y, e2, d⟩ := bd_ok d
        obtain ⟨m1, m2, m3, m4⟩ := ht.1 (j + 1) os x.1 x.2 (by omega) (by omega) g3 e1
        obtain ⟨p1, p2, p3⟩ := put_in (j2 := y.1) (o2 := y.2) e2
        have hy : y.2.length = x.2.length + 1 := by rw [p3]; simp
        obtain ⟨⟨n1, n2, n3, n4⟩, n5, n6⟩ := loop_tr ht ks f y.1 y.2 j2 o2 (by omega) (by omega) (by omega) (by omega) d
        refine ⟨by omega, fun hj fT hfT => ?_, fun fT o' ho => .inl ⟨o', he fT o', by omega⟩⟩
        by_cases hjk : j < k
        · obtain ⟨f', rfl⟩ : ∃ f', fT = f' + 1 := ⟨fT - 1, by omega⟩
          unfold loopC
          rw [csign_in hk hjk, e]
          dsimp only
          rcases (ht.2 (j + 1) os x.1 x.2 (by omega) (by omega) g3 e1).1 (by omega) with ⟨c1, c2⟩ | ⟨o', c1, c2⟩ | c
          · rw [c2, bd_inr, e2, bd_inr]
            exact n5 (by omega) f' (by omega)
          · rw [c1, bd_inr, put_ok (by dsimp only; omega), bd_inr]
            exact .inr (n6 f' _ (by rw [hy]; simp; exact c2))
          · rw [c, bd_inl]
            exact .inr (.inr rfl)
        · rw [show j = k by omega, he fT os]
          exact .inr (.inl ⟨os, rfl, by omega⟩)
theorem chain_tr {j0 : Nat} {thT thF : R} (ht : Tr k L.length j0 thT thF) (ks : List Nat) : Tr k L.length j0 (chainF (L.take k) thT ks) (chainF L thF ks) := by
  refine bd_tr ht ⟨fun j os j2 o2 a b c d => (loop_tr hk ht ks L.length j os j2 o2 a b c (by omega) d).1, fun j os j2 o2 a b c d => ?_⟩
  obtain ⟨_, h1, h2⟩ := loop_tr hk ht ks L.length j os j2 o2 a b c (by omega) d
  rw [cut_len hk]
  exact ⟨fun hj => h1 hj k (by omega), fun o' ho => h2 k o' ho⟩
omit hk in
theorem id_tr (k N j0 : Nat) : Tr k N j0 (fun j os => .inr (j, os)) (fun j os => .inr (j, os)) :=
  ⟨fun j os j2 o2 a b c d => by cases d; omega, fun j os j2 o2 a b c d => by
    cases d
    exact ⟨fun hj => .inl ⟨hj, rfl⟩, fun o' ho => .inl ⟨o', rfl, ho⟩⟩⟩
omit hk in
theorem compare_tr (q : Nat) (nt : Bool) (k N j0 : Nat) : Tr k N j0 (compareF q nt) (compareF q nt) := by
  cases nt with
  | true => exact bd_tr (put_tr (opO q) k N j0) (put_tr (opO 5) k N j0)
  | false => exact bd_tr (put_tr (opO q) k N j0) (id_tr k N j0)
theorem den_tr {j0 : Nat} {cT cF : R} (ht : Tr k L.length j0 cT cF) : ∀ (fF j : Nat) (os : List Oq) (j2 : Nat) (o2 : List Oq), j0 ≤ j → j ≤ L.length → os.length ≤ 40 → L.length ≤ fF + j → deniedF L cF fF j os = .inr (j2, o2) →
    (j ≤ j2 ∧ j2 ≤ L.length ∧ os.length ≤ o2.length ∧ o2.length ≤ 40) ∧ (j ≤ k → ∀ fT, k ≤ fT + j → Out k j2 o2 (deniedF (L.take k) cT fT j os)) ∧ ∀ fT o', o'.length ≤ os.length → OutE k o2 (deniedF (L.take k) cT fT k o')
  | fF, j, os, j2, o2, g1, g2, g3, g4, d => by
    have he : ∀ fT o', deniedF (L.take k) cT fT k o' = cT k o' := fun fT o' => den_stop (cmay_end hk (Nat.le_refl _) _) fT
    cases hm : mayB L j sNOT with
    | false =>
      rw [den_stop hm] at d
      obtain ⟨a1, a2⟩ := ht.2 j os j2 o2 g1 g2 g3 d
      refine ⟨ht.1 j os j2 o2 g1 g2 g3 d, fun hj fT _ => ?_, fun fT o' ho => ?_⟩
      · rw [den_stop]
        · exact a1 hj
        · by_cases hlt : j < k
          · rw [cmay_in hk hlt]; exact hm
          · exact cmay_end hk (by omega) _
      · rw [he]
        exact a2 o' ho
    | true =>
      have hlt := may_lt hm
      obtain ⟨f, rfl⟩ : ∃ f, fF = f + 1 := ⟨fF - 1, by omega⟩
      unfold deniedF at d
      rw [if_pos hm] at d
      obtain ⟨x, e1, d⟩ := bd_ok d
      obtain ⟨⟨n1, n2, n3, n4⟩, n5, n6⟩ := den_tr ht f (j + 1) os x.1 x.2 (by omega) (by omega) g3 (by omega) e1
      obtain ⟨p1, p2, p3⟩ := put_in d
      have hy : o2.length = x.2.length + 1 := by rw [p3]; simp
      have h1 : ∀ fT o', o'.length ≤ os.length → OutE k o2 (deniedF (L.take k) cT fT k o') := fun fT o' ho => (n6 fT o' ho).grow (by omega)
      refine ⟨by omega, fun hj fT hfT => ?_, h1⟩
      by_cases hjk : j < k
      · obtain ⟨f', rfl⟩ : ∃ f', fT = f' + 1 := ⟨fT - 1, by omega⟩
        unfold deniedF
        rw [cmay_in hk hjk, if_pos hm]
        rcases n5 (by omega) f' (by omega) with ⟨c1, c2⟩ | ⟨o', c1, c2⟩ | c
        · rw [c2, bd_inr]
          exact .inl ⟨by omega, d⟩
        · rw [c1, bd_inr, put_ok (by dsimp only; omega)]
          exact .inr (.inl ⟨_, rfl, by rw [hy]; simp; exact c2⟩)
        · rw [c, bd_inl]
          exact .inr (.inr rfl)
      · rw [show j = k by omega]
        exact .inr (h1 fT os (Nat.le_refl _))
theorem denied_tr {j0 : Nat} {cT cF : R} (ht : Tr k L.length j0 cT cF) : Tr k L.length j0 (deniedF (L.take k) cT (L.take k).length) (deniedF L cF L.length) := by
  refine ⟨fun j os j2 o2 a b c d => (den_tr hk ht L.length j os j2 o2 a b c (by omega) d).1, fun j os j2 o2 a b c d => ?_⟩
  obtain ⟨_, h1, h2⟩ := den_tr hk ht L.length j os j2 o2 a b c (by omega) d
  rw [cut_len hk]
  exact ⟨fun hj => h1 hj k (by omega), fun o' ho => h2 k o' ho⟩
theorem isF_end (os : List Oq) : isF (L.take k) k k os = .inl ((k : Int), 7) := by
  unfold isF
  rw [cmay_end hk (Nat.le_refl _), cmay_end hk (Nat.le_refl _), short_end hk k rfl]
  rfl
theorem is_tr (j0 : Nat) : Tr k L.length j0 (isF (L.take k) k) (isF L L.length) := by
  have key : ∀ j os j2 o2, os.length ≤ 40 → isF L L.length j os = .inr (j2, o2) → ∃ (nt : Bool) (m : Nat), j + m ≤ L.length ∧ compareF 11 nt (j + m) os = .inr (j2, o2) ∧ (j + m ≤ k → isF (L.take k) k j os = compareF 11 nt (j + m) os) ∧ (j ≤ k → k < j + m → isF (L.take k) k j os = .inl ((k : Int), 7)) := by
    intro j os j2 o2 hc d
    unfold isF at d
    split at d
    · rename_i h1
      split at d
      · rename_i h2
        have := may_lt h2
        refine ⟨true, 2, by omega, d, fun hj => ?_, fun hj hj2 => ?_⟩
        · unfold isF
          rw [cmay_in hk (by omega), if_pos h1, cmay_in hk (by omega), if_pos h2]
        · by_cases e : j < k
          · unfold isF
            rw [cmay_in hk e, if_pos h1, cmay_end hk (by omega), short_end hk _ (by omega)]
            rfl
          · rw [show j = k by omega]
            exact isF_end hk os
      · cases d
    · rename_i h1
      split at d
      · rename_i h2
        have := may_lt h2
        refine ⟨false, 1, by omega, d, fun hj => ?_, fun hj hj2 => ?_⟩
        · unfold isF
          rw [cmay_in hk (by omega), if_neg h1, cmay_in hk (by omega), if_pos h2]
        · rw [show j = k by omega]
          exact isF_end hk os
      · cases d
  constructor
  · intro j os j2 o2 a b c d
    obtain ⟨nt, m, h0, h1, _⟩ := key j os j2 o2 c d
    have := (compare_tr 11 nt k L.length 0).1 _ os j2 o2 (Nat.zero_le _) h0 c h1
    omega
  · intro j os j2 o2 a b c d
    obtain ⟨nt, m, h0, h1, h2, h3⟩ := key j os j2 o2 c d
    refine ⟨fun hj => ?_, fun o' ho => .inr (isF_end hk o')⟩
    by_cases e : j + m ≤ k
    · rw [h2 e]
      exact ((compare_tr 11 nt k L.length 0).2 _ os j2 o2 (Nat.zero_le _) h0 c h1).1 e
    · rw [h3 hj (by omega)]
      exact .inr (.inr rfl)
theorem comparison_end {sm : R} {o2 : List Oq} {j : Nat} {os : List Oq} (h : OutE k o2 (sm j os)) : OutE k o2 (comparisonF (L.take k) k sm j os) := by
  unfold comparisonF
  rcases h with ⟨o', h1, h2⟩ | h
  · rw [h1, bd_inr, cmay_end hk (Nat.le_refl _), ccmp_end hk (Nat.le_refl _)]
    exact .inl ⟨o', rfl, h2⟩
  · rw [h, bd_inl]
    exact .inr rfl
theorem comparison_tr {j0 : Nat} {sT sF : R} (ht : Tr k L.length j0 sT sF) : Tr k L.length j0 (comparisonF (L.take k) k sT) (comparisonF L L.length sF) := by
  have key : ∀ j os j2 o2, j0 ≤ j → j ≤ L.length → os.length ≤ 40 → comparisonF L L.length sF j os = .inr (j2, o2) → (j ≤ j2 ∧ j2 ≤ L.length ∧ os.length ≤ o2.length ∧ o2.length ≤ 40) ∧ (j ≤ k → Out k j2 o2 (comparisonF (L.take k) k sT j os)) ∧ ∀ o', o'.length ≤ os.length → OutE k o2 (comparisonF (L.take k) k sT k o') := by
    intro j os j2 o2 a b c d
    unfold comparisonF at d
    obtain ⟨x, e1, d⟩ := bd_ok d
    obtain ⟨m1, m2, m3, m4⟩ := ht.1 j os x.1 x.2 a b c e1
    obtain ⟨t1, t2⟩ := ht.2 j os x.1 x.2 a b c e1
    have fin : x.2.length ≤ o2.length → ∀ o', o'.length ≤ os.length → OutE k o2 (comparisonF (L.take k) k sT k o') := fun hl o' ho => comparison_end hk ((t2 o' ho).grow hl)
    split at d
    · rename_i hi
      have hlt := may_lt hi
      have g := is_tr hk (j0 := 0)
      obtain ⟨n1, n2, n3, n4⟩ := g.1 (x.1 + 1) x.2 j2 o2 (by omega) (by omega) m4 d
      refine ⟨by omega, fun hj => ?_, fin n3⟩
      rcases t1 hj with ⟨c1, c2⟩ | c1
      · by_cases e : x.1 < k
        · unfold comparisonF
          rw [c2, bd_inr, cmay_in hk e, if_pos hi]
          exact (g.2 (x.1 + 1) x.2 j2 o2 (by omega) (by omega) m4 d).1 (by omega)
        · exact .inr (comparison_end hk (.inl ⟨x.2, by rw [c2, show x.1 = k by omega], by omega⟩))
      · exact .inr (comparison_end hk (c1.grow n3))
    · rename_i hi
      split at d
      · rename_i hc
        cases d
        dsimp only at m1 m2 m3 m4 t1 t2
        refine ⟨by omega, fun hj => ?_, fin (Nat.le_refl _)⟩
        rcases t1 hj with ⟨c1, c2⟩ | c1
        · by_cases e : j2 < k
          · refine .inl ⟨by omega, ?_⟩
            unfold comparisonF
            rw [c2, bd_inr, cmay_in hk e, if_neg hi, ccmp_in hk e, hc]
          · exact .inr (comparison_end hk (.inl ⟨o2, by rw [c2, show j2 = k by omega], by omega⟩))
        · exact .inr (comparison_end hk c1)
      · rename_i cq hc
        have hlt := cmp_lt hc
        obtain ⟨y, e2, d⟩ := bd_ok d
        obtain ⟨n1, n2, n3, n4⟩ := ht.1 (x.1 + 1) x.2 y.1 y.2 (by omega) (by omega) m4 e2
        obtain ⟨u1, u2⟩ := ht.2 (x.1 + 1) x.2 y.1 y.2 (by omega) (by omega) m4 e2
        have lt : ∀ o : List Oq, (if cq.tn then turnF os.length x.2.length o else o).length = o.length ∨ o.length < x.2.length := by
          intro o
          split
          · by_cases h : x.2.length ≤ o.length
            · exact .inl (turn_len m3 h)
            · exact .inr (by omega)
          · exact .inl rfl
        have ltz : ∀ o : List Oq, (if cq.tn then turnF os.length x.2.length o else o).length ≤ max o.length x.2.length := by
          intro o
          split
          · unfold turnF
            simp only [List.length_append, List.length_take, List.length_drop]
            omega
          · omega
        have ly : (if cq.tn then turnF os.length x.2.length y.2 else y.2).length = y.2.length := by
          rcases lt y.2 with h | h
          · exact h
          · omega
        have g := compare_tr cq.q cq.nt k L.length 0
        obtain ⟨p1, p2, p3, p4⟩ := g.1 y.1 _ j2 o2 (by omega) n2 (by rw [ly]; exact n4) d
        obtain ⟨q1, q2⟩ := g.2 y.1 _ j2 o2 (by omega) n2 (by rw [ly]; exact n4) d
        rw [ly] at p3
        refine ⟨by omega, fun hj => ?_, fin (by omega)⟩
        rcases t1 hj with ⟨c1, c2⟩ | c1
        · by_cases e : x.1 < k
          · unfold comparisonF
            rw [c2, bd_inr, cmay_in hk e, if_neg hi, ccmp_in hk e, hc]
            dsimp only
            rcases u1 (by omega) with ⟨v1, v2⟩ | ⟨o', v1, v2⟩ | v
            · rw [v2, bd_inr]
              exact q1 v1
            · rw [v1, bd_inr]
              exact .inr (q2 _ (by rw [ly]; have := ltz o'; dsimp only; omega))
            · rw [v, bd_inl]
              exact .inr (.inr rfl)
          · exact .inr (comparison_end hk (.inl ⟨x.2, by rw [c2, show x.1 = k by omega], by omega⟩))
        · exact .inr (comparison_end hk (c1.grow (by omega)))
  exact ⟨fun j os j2 o2 a b c d => (key j os j2 o2 a b c d).1, fun j os j2 o2 a b c d => (key j os j2 o2 a b c d).2⟩
theorem lit_in {j : Nat} (hj : j ≤ k) {ov : Option V} {j2 : Nat} (h : litG L L.length j = .inr (ov, j2)) : (j ≤ j2 ∧ j2 ≤ j + 2 ∧ (ov ≠ none → j < L.length ∧ j2 ≤ L.length) ∧ (ov = none → j2 = j)) ∧ (j2 ≤ k → j < k → litG (L.take k) k j = .inr (ov, j2)) ∧ (k < j2 → litG (L.take k) k j = .inl ((k : Int), 7) ∨ j = k) := by
  unfold litG at h
  have hin : ∀ s, j < k → mayB (L.take k) j s = mayB L j s := fun s e => cmay_in hk e s
  split at h
  · rename_i h1
    have := may_lt h1
    cases h
    refine ⟨⟨by omega, by omega, fun _ => by omega, fun e => by cases e⟩, fun a b => ?_, fun a => .inr (by omega)⟩
    unfold litG
    rw [hin _ b, if_pos h1]
  · rename_i h1
    split at h
    · rename_i h2
      have := may_lt h2
      cases h
      refine ⟨⟨by omega, by omega, fun _ => by omega, fun e => by cases e⟩, fun a b => ?_, fun a => .inr (by omega)⟩
      unfold litG
      rw [hin _ b, if_neg h1, hin _ b, if_pos h2]
    · rename_i h2
      split at h
      · rename_i h3
        have := may_lt h3
        cases h
        refine ⟨⟨by omega, by omega, fun _ => by omega, fun e => by cases e⟩, fun a b => ?_, fun a => .inr (by omega)⟩
        unfold litG
        rw [hin _ b, if_neg h1, hin _ b, if_neg h2, hin _ b, if_pos h3]
      · rename_i h3
        split at h
        · rename_i h4
          have := may_lt h4
          split at h
          · rename_i h5
            have h6 := kind_lt (L := L) (k := j + 1) (by omega)
            cases h
            refine ⟨⟨by omega, by omega, fun _ => by omega, fun e => by cases e⟩, fun a b => ?_, fun a => ?_⟩
            · unfold litG
              rw [hin _ b, if_neg h1, hin _ b, if_neg h2, hin _ b, if_neg h3, hin _ b, if_pos h4, cut_in hk (by omega), if_pos h5]
            · by_cases e : j = k
              · exact .inr e
              · have b : j < k := by omega
                left
                unfold litG
                rw [hin _ b, if_neg h1, hin _ b, if_neg h2, hin _ b, if_neg h3, hin _ b, if_pos h4, cut_end hk (by omega), if_neg (by decide), short_end hk _ (by omega)]
          · cases h
        · rename_i h4
          split at h
          · rename_i h5
            have h6 := kind_lt (L := L) (k := j) (by omega)
            cases h
            refine ⟨⟨by omega, by omega, fun _ => by omega, fun e => by cases e⟩, fun a b => ?_, fun a => .inr (by omega)⟩
            unfold litG
            rw [hin _ b, if_neg h1, hin _ b, if_neg h2, hin _ b, if_neg h3, hin _ b, if_neg h4, cut_in hk b, if_pos h5]
          · rename_i h5
            split at h
            · rename_i h6
              have h7 := kind_lt (L := L) (k := j) (by omega)
              split at h
              · cases h
              · rename_i h8
                cases h
                refine ⟨⟨by omega, by omega, fun _ => by omega, fun e => by cases e⟩, fun a b => ?_, fun a => .inr (by omega)⟩
                unfold litG
                rw [hin _ b, if_neg h1, hin _ b, if_neg h2, hin _ b, if_neg h3, hin _ b, if_neg h4, cut_in hk b, if_neg h5, if_pos h6, if_neg h8]
            · rename_i h6
              cases h
              refine ⟨⟨by omega, by omega, fun e => absurd rfl e, fun _ => rfl⟩, fun a b => ?_, fun a => by omega⟩
              unfold litG
              rw [hin _ b, if_neg h1, hin _ b, if_neg h2, hin _ b, if_neg h3, hin _ b, if_neg h4, cut_in hk b, if_neg h5, if_neg h6]
theorem lit_end : litG (L.take k) k k = .inr (none, k) := by
  unfold litG
  rw [cmay_end hk (Nat.le_refl _), cmay_end hk (Nat.le_refl _), cmay_end hk (Nat.le_refl _), cmay_end hk (Nat.le_refl _), cut_end hk (Nat.le_refl _)]
  rfl
theorem name_end : nameG (L.take k) k k = .inl ((k : Int), 7) := by
  unfold nameG
  rw [cut_end hk (Nat.le_refl _), if_neg (by decide), short_end hk _ rfl]
theorem name_in {j : Nat} {x : ByteArray × Nat} (h : nameG L L.length j = .inr x) : x.2 = j + 1 ∧ j < L.length ∧ (j < k → nameG (L.take k) k j = .inr x) := by
  unfold nameG at h
  split at h
  · rename_i h1
    have := kind_lt (L := L) (k := j) (by omega)
    split at h
    · rename_i h2
      cases h
      refine ⟨rfl, this, fun e => ?_⟩
      unfold nameG
      rw [cut_in hk e, if_pos h1, if_pos h2]
    · cases h
  · cases h
theorem leaf_end (os : List Oq) : leafF (L.take k) k k os = .inl ((k : Int), 7) := by
  unfold leafF
  rw [lit_end hk, bd_inr]
  dsimp only
  rw [name_end hk]
  rfl
theorem leaf_tr (j0 : Nat) : Tr k L.length j0 (leafF (L.take k) k) (leafF L L.length) := by
  have key : ∀ j os j2 o2, j ≤ L.length → os.length ≤ 40 → leafF L L.length j os = .inr (j2, o2) → (j ≤ j2 ∧ j2 ≤ L.length ∧ os.length ≤ o2.length ∧ o2.length ≤ 40) ∧ (j ≤ k → Out k j2 o2 (leafF (L.take k) k j os)) := by
    intro j os j2 o2 b c d
    unfold leafF at d
    obtain ⟨⟨ov, jx⟩, e1, d⟩ := bd_ok d
    obtain ⟨⟨l1, l2, l3, l4⟩, _⟩ := lit_in (k := L.length) (Nat.le_refl _) b e1
    cases ov with
    | some v =>
      dsimp only at d
      obtain ⟨p1, rfl, rfl⟩ := put_in d
      obtain ⟨l5, l6⟩ := l3 (by simp)
      refine ⟨by simp; omega, fun hj => ?_⟩
      obtain ⟨_, l7, l8⟩ := lit_in hk hj e1
      by_cases e : j2 ≤ k
      · by_cases e2 : j < k
        · refine .inl ⟨e, ?_⟩
          unfold leafF
          rw [l7 e e2, bd_inr]
          exact d
        · rw [show j = k by omega]
          exact .inr (.inr (leaf_end hk os))
      · rcases l8 (by omega) with h | h
        · right; right
          unfold leafF
          rw [h, bd_inl]
        · rw [h]
          exact .inr (.inr (leaf_end hk os))
    | none =>
      have := l4 rfl
      subst this
      dsimp only at d
      obtain ⟨y, e2, d⟩ := bd_ok d
      obtain ⟨p1, p2, rfl⟩ := put_in d
      obtain ⟨n1, n2, n3⟩ := name_in hk e2
      refine ⟨by simp; omega, fun hj => ?_⟩
      obtain ⟨_, l7, l8⟩ := lit_in hk hj e1
      by_cases e : jx < k
      · refine .inl ⟨by omega, ?_⟩
        unfold leafF
        rw [l7 (by omega) e, bd_inr]
        dsimp only
        rw [n3 e, bd_inr]
        exact d
      · rw [show jx = k by omega]
        exact .inr (.inr (leaf_end hk os))
  exact ⟨fun j os j2 o2 a b c d => (key j os j2 o2 b c d).1, fun j os j2 o2 a b c d => ⟨(key j os j2 o2 b c d).2, fun o' ho => .inr (leaf_end hk o')⟩⟩
theorem thing_end {E : R} (os : List Oq) : thingF (L.take k) k E k os = .inl ((k : Int), 7) := by
  unfold thingF
  rw [cmay_end hk (Nat.le_refl _)]
  exact leaf_end hk os
theorem thing_tr {j0 : Nat} {eT eF : R} (hm : Mono L.length (j0 + 1) eF) (he : j0 < k → Tr k L.length (j0 + 1) eT eF) : Tr k L.length j0 (thingF (L.take k) k eT) (thingF L L.length eF) := by
  have key : ∀ j os j2 o2, j0 ≤ j → j ≤ L.length → os.length ≤ 40 → thingF L L.length eF j os = .inr (j2, o2) → (j ≤ j2 ∧ j2 ≤ L.length ∧ os.length ≤ o2.length ∧ o2.length ≤ 40) ∧ (j ≤ k → Out k j2 o2 (thingF (L.take k) k eT j os)) := by
    intro j os j2 o2 a b c d
    unfold thingF at d
    split at d
    · rename_i h1
      have hlt := may_lt h1
      obtain ⟨x, e1, d⟩ := bd_ok d
      split at d
      · rename_i h2
        have hlt2 := may_lt h2
        cases d
        obtain ⟨m1, m2, m3, m4⟩ := hm (j + 1) os x.1 x.2 (by omega) (by omega) c e1
        refine ⟨by omega, fun hj => ?_⟩
        by_cases e : j < k
        · unfold thingF
          rw [cmay_in hk e, if_pos h1]
          have hz : ∀ o', (if mayB (L.take k) k sClose = true then (.inr (k + 1, o') : F ⊕ (Nat × List Oq)) else .inl (fl k k 6)) = .inl ((k : Int), 7) := fun o' => by rw [cmay_end hk (Nat.le_refl _), short_end hk _ rfl]; rfl
          rcases ((he (by omega)).2 (j + 1) os x.1 x.2 (by omega) (by omega) c e1).1 (by omega) with ⟨c1, c2⟩ | ⟨o', c1, c2⟩ | c1
          · rw [c2, bd_inr]
            by_cases e2 : x.1 < k
            · rw [cmay_in hk e2, if_pos h2]
              exact .inl ⟨by omega, rfl⟩
            · rw [show x.1 = k by omega]
              exact .inr (.inr (hz x.2))
          · rw [c1, bd_inr]
            exact .inr (.inr (hz o'))
          · rw [c1, bd_inl]
            exact .inr (.inr rfl)
        · rw [show j = k by omega]
          exact .inr (.inr (thing_end hk os))
      · cases d
    · rename_i h1
      obtain ⟨g1, g2⟩ := leaf_tr hk (j0 := 0)
      refine ⟨g1 j os j2 o2 (Nat.zero_le _) b c d, fun hj => ?_⟩
      by_cases e : j < k
      · unfold thingF
        rw [cmay_in hk e, if_neg h1]
        exact (g2 j os j2 o2 (Nat.zero_le _) b c d).1 hj
      · rw [show j = k by omega]
        exact .inr (.inr (thing_end hk os))
  exact ⟨fun j os j2 o2 a b c d => (key j os j2 o2 a b c d).1, fun j os j2 o2 a b c d => ⟨(key j os j2 o2 a b c d).2, fun o' ho => .inr (thing_end hk o')⟩⟩
theorem eitherF_tr {j0 : Nat} {eT eF : R} (hm : Mono L.length (j0 + 1) eF) (he : j0 < k → Tr k L.length (j0 + 1) eT eF) : Tr k L.length j0 (eitherF (L.take k) k eT) (eitherF L L.length eF) :=
  chain_tr hk (chain_tr hk (denied_tr hk (comparison_tr hk (chain_tr hk (chain_tr hk (thing_tr hk hm he) _) _))) _) _
theorem eithD_tr : ∀ (d d' j0 : Nat), 1 ≤ d' → k + 1 ≤ d' + j0 → L.length + 1 ≤ d + j0 → Tr k L.length j0 (eithD (L.take k) k d') (eithD L L.length d)
  | 0, d', j0, h1, h2, h3 => ⟨fun j os j2 o2 a b c d => by omega, fun j os j2 o2 a b c d => by omega⟩
  | d + 1, d', j0, h1, h2, h3 => by
    obtain ⟨e, rfl⟩ : ∃ e, d' = e + 1 := ⟨d' - 1, by omega⟩
    exact eitherF_tr hk (eithD_tr d (k + 1) (j0 + 1) (by omega) (by omega) (by omega)).1 fun hj => eithD_tr d e (j0 + 1) (by omega) (by omega) (by omega)
end
end Go.Proofs.YtdeollmeljaaoaaDoor.rd
/- Tokens that are cut: statements. Plain. -/
namespace Go.Proofs.YtdeollmeljaaoaaDoor.rd
open Go.Proofs.YtdeollmeljaaoaaDoor.cs
set_option linter.unusedVariables false
set_option linter.unusedSimpArgs false
set_option linter.unusedSectionVars false
set_option maxRecDepth 100000
def Any {β : Type} (s : β) : Prop := True
section
variable {L : List Tk} {k : Nat} (hk : k ≤ L.length)
include hk
end
end Go.Proofs.YtdeollmeljaaoaaDoor.rd
