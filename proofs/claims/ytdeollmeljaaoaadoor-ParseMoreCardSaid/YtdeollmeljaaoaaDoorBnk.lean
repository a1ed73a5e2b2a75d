import Derived.Test.YtdeollmeljaaoaaDoorAyk
set_option linter.unusedVariables false
set_option linter.unusedSimpArgs false
set_option maxRecDepth 100000
namespace Go.Proofs.YtdeollmeljaaoaaDoor.rd
open Go.Proofs.YtdeollmeljaaoaaDoor.cs
def mt (t : Tk) (s : ByteArray) : Bool := (t.k == 1 || t.k == 4) && decide ((⟨t.t.toArray⟩ : ByteArray) = s)
theorem may_mt {L : List Tk} {k : Nat} {t : Tk} (h : L.getD k tk0 = t) (s : ByteArray) : mayB L k s = mt t s := by
 unfold mayB mt
 rw [h]
def At (L : List Tk) (k : Nat) (T : List Tk) : Prop := T <+: L.drop k
theorem At.app {L : List Tk} {k : Nat} {A B : List Tk} (h : At L k (A ++ B)) : At L k A ∧ At L (k + A.length) B := by
 obtain ⟨r, hr⟩ := h
 refine ⟨⟨B ++ r, by rw [← hr]; simp⟩, ⟨r, ?_⟩⟩
 rw [← List.drop_drop, ← hr]
 simp
theorem At.one {L : List Tk} {k : Nat} {t : Tk} {T : List Tk} (h : At L k (t :: T)) : L.getD k tk0 = t ∧ At L (k + 1) T := by
 have h2 := At.app (A := [t]) (B := T) h
 refine ⟨?_, h2.2⟩
 obtain ⟨r, hr⟩ := h
 have : (L.drop k)[0]? = some t := by rw [← hr]; rfl
 rw [List.getElem?_drop] at this
 simp only [Nat.add_zero] at this
 simp [List.getD, this]
theorem At.len {L : List Tk} {k : Nat} {T : List Tk} (h : At L k T) : T.length ≤ L.length - k := by
 have := List.IsPrefix.length_le h
 simpa using this
def Stop (L : List Tk) (k : Nat) (l : List ByteArray) : Prop := ∀ s ∈ l, mayB L k s = false
theorem Stop.of {L : List Tk} {k : Nat} {t : Tk} {l : List ByteArray} (h : L.getD k tk0 = t) (hs : ∀ s ∈ l, mt t s = false) : Stop L k l := fun s hm => (may_mt h s).trans (hs s hm)
theorem Stop.sub {L : List Tk} {k : Nat} {l m : List ByteArray} (h : Stop L k l) (hs : ∀ s ∈ m, s ∈ l) : Stop L k m := fun s hm => h s (hs s hm)
abbrev sPlus : ByteArray := ⟨#[43]⟩
abbrev sNe : ByteArray := ⟨#[60, 62]⟩
abbrev sLt : ByteArray := ⟨#[60]⟩
abbrev sGe : ByteArray := ⟨#[62, 61]⟩
abbrev sGt : ByteArray := ⟨#[62]⟩
abbrev sLe : ByteArray := ⟨#[60, 61]⟩
abbrev sAND : ByteArray := ⟨#[65, 78, 68]⟩
abbrev sOR : ByteArray := ⟨#[79, 82]⟩
def aL : List ByteArray := [sStar, sPlus, sMinus]
def cL : List ByteArray := [sIS, sEq, sNe, sLt, sGe, sGt, sLe]
def goL : List ByteArray := aL ++ (cL ++ [sAND, sOR])
theorem sign_none {L : List Tk} {k : Nat} : ∀ {ks : List Nat}, (∀ q ∈ ks, mayB L k ⟨(sgL.getD q []).toArray⟩ = false) → signF L k ks = none
 | [], h => rfl
 | q :: l, h => by
  unfold signF
  rw [if_neg (by rw [h q (by simp)]; simp)]
  exact sign_none fun x hx => h x (by simp [hx])
theorem sign10 {L : List Tk} {k : Nat} {l : List ByteArray} (h : Stop L k l) (hs : sStar ∈ l) : signF L k [10] = none := sign_none (by
 intro q hq
 simp only [List.mem_singleton] at hq
 subst hq
 exact h _ hs)
theorem sign89 {L : List Tk} {k : Nat} {l : List ByteArray} (h : Stop L k l) (h1 : sPlus ∈ l) (h2 : sMinus ∈ l) : signF L k [8, 9] = none := sign_none (by
 intro q hq
 simp only [List.mem_cons, List.not_mem_nil, or_false] at hq
 rcases hq with rfl | rfl
 ·exact h _ h1
 ·exact h _ h2)
theorem sign3 {L : List Tk} {k : Nat} {l : List ByteArray} (h : Stop L k l) (hs : sAND ∈ l) : signF L k [3] = none := sign_none (by
 intro q hq
 simp only [List.mem_singleton] at hq
 subst hq
 exact h _ hs)
theorem sign4 {L : List Tk} {k : Nat} {l : List ByteArray} (h : Stop L k l) (hs : sOR ∈ l) : signF L k [4] = none := sign_none (by
 intro q hq
 simp only [List.mem_singleton] at hq
 subst hq
 exact h _ hs)
theorem loop_stop {L : List Tk} {th : R} {ks : List Nat} {k : Nat} {os : List Oq} (h : signF L k ks = none) : ∀ f, loopC L th ks f k os = .inr (k, os)
 | 0 => rfl
 | f + 1 => by unfold loopC; rw [h]
theorem chain_stop {L : List Tk} {th : R} {ks : List Nat} {k k1 : Nat} {os o1 : List Oq} (h : th k os = .inr (k1, o1)) (h1 : signF L k1 ks = none) : chainF L th ks k os = .inr (k1, o1) := by
 unfold chainF
 rw [h, bd_inr]
 exact loop_stop h1 _
theorem put_ok {o : Oq} {k : Nat} {os : List Oq} (h : os.length < 40) : putF o k os = .inr (k, os ++ [o]) := by
 unfold putF
 rw [if_neg (by omega)]
theorem chain_two {L : List Tk} {th : R} {ks : List Nat} {k k1 k2 q : Nat} {os o1 o2 : List Oq} (h : th k os = .inr (k1, o1)) (hq : signF L k1 ks = some q) (h2 : th (k1 + 1) o1 = .inr (k2, o2)) (ho : o2.length < 40) (h3 : signF L k2 ks = none) (hL : 0 < L.length) :
  chainF L th ks k os = .inr (k2, o2 ++ [opO q]) := by
 unfold chainF
 rw [h, bd_inr]
 obtain ⟨f, hf⟩ : ∃ f, L.length = f + 1 := ⟨L.length - 1, by omega⟩
 rw [hf]
 unfold loopC
 simp only [hq, h2, bd_inr, put_ok ho]
 exact loop_stop h3 _
theorem den_stop {L : List Tk} {cmp : R} {k : Nat} {os : List Oq} (h : mayB L k sNOT = false) : ∀ f, deniedF L cmp f k os = cmp k os
 | 0 => rfl
 | f + 1 => by unfold deniedF; rw [h]; rfl
theorem den_not {L : List Tk} {cmp : R} {k k1 : Nat} {os o1 : List Oq} (h : mayB L k sNOT = true) (h1 : mayB L (k + 1) sNOT = false) (hc : cmp (k + 1) os = .inr (k1, o1)) (ho : o1.length < 40) (hL : 0 < L.length) : deniedF L cmp L.length k os = .inr (k1, o1 ++ [opO 5]) := by
 obtain ⟨f, hf⟩ : ∃ f, L.length = f + 1 := ⟨L.length - 1, by omega⟩
 rw [hf]
 unfold deniedF
 rw [h, den_stop h1, hc]
 simp [put_ok ho]
theorem cmpF_none {L : List Tk} {k : Nat} {l : List ByteArray} (h : Stop L k l) (hs : ∀ s ∈ cL, s ∈ l) : cmpF L k cmL = none := by
 have a1 := h sEq (hs _ (by simp [cL]))
 have a2 := h sNe (hs _ (by simp [cL]))
 have a3 := h sLt (hs _ (by simp [cL]))
 have a4 := h sGe (hs _ (by simp [cL]))
 have a5 := h sGt (hs _ (by simp [cL]))
 have a6 := h sLe (hs _ (by simp [cL]))
 simp only [cmL, cmpF, a1, a2, a3, a4, a5, a6, Bool.false_eq_true, if_false]
theorem cmp_stop {L : List Tk} {n : Nat} {sm : R} {k k1 : Nat} {os o1 : List Oq} {l : List ByteArray} (h : sm k os = .inr (k1, o1)) (hl : Stop L k1 l) (hs : ∀ s ∈ cL, s ∈ l) : comparisonF L n sm k os = .inr (k1, o1) := by
 unfold comparisonF
 rw [h, bd_inr, if_neg (by rw [hl sIS (hs _ (by simp [cL]))]; simp), cmpF_none hl hs]
theorem cmp_two {L : List Tk} {n : Nat} {sm : R} {k k1 k2 : Nat} {os o1 o2 : List Oq} {c : Cmq} (h : sm k os = .inr (k1, o1)) (hi : mayB L k1 sIS = false) (hc : cmpF L k1 cmL = some c) (ht : c.tn = false) (hn : c.nt = false) (h2 : sm (k1 + 1) o1 = .inr (k2, o2)) (ho : o2.length < 40) :
  comparisonF L n sm k os = .inr (k2, o2 ++ [opO c.q]) := by
 unfold comparisonF
 rw [h, bd_inr, if_neg (by rw [hi]; simp), hc]
 simp only [h2, bd_inr, ht, hn, compareF, put_ok ho, Bool.false_eq_true, if_false]
theorem cmp_null {L : List Tk} {n : Nat} {sm : R} {k k1 : Nat} {os o1 : List Oq} (h : sm k os = .inr (k1, o1)) (hi : mayB L k1 sIS = true) (h1 : mayB L (k1 + 1) sNOT = false) (h2 : mayB L (k1 + 1) sNULL = true) (ho : o1.length < 40) :
  comparisonF L n sm k os = .inr (k1 + 2, o1 ++ [opO 11]) := by
 unfold comparisonF isF
 rw [h, bd_inr, if_pos hi]
 simp only [h1, h2, compareF, put_ok ho, bd_inr, Bool.false_eq_true, if_false, if_true]
section
variable {L : List Tk} {n : Nat} {E : R} {k k1 : Nat} {os o1 : List Oq} {l : List ByteArray}
theorem th_prod (h : thingF L n E k os = .inr (k1, o1)) (hl : Stop L k1 l) (hs : ∀ s ∈ aL, s ∈ l) : productF L n E k os = .inr (k1, o1) := chain_stop h (sign10 hl (hs _ (by simp [aL])))
theorem prod_sum (h : productF L n E k os = .inr (k1, o1)) (hl : Stop L k1 l) (hs : ∀ s ∈ aL, s ∈ l) : sumF L n E k os = .inr (k1, o1) := chain_stop h (sign89 hl (hs _ (by simp [aL])) (hs _ (by simp [aL])))
theorem th_sum (h : thingF L n E k os = .inr (k1, o1)) (hl : Stop L k1 l) (hs : ∀ s ∈ aL, s ∈ l) : sumF L n E k os = .inr (k1, o1) := prod_sum (th_prod h hl hs) hl hs
theorem sum_den (h : sumF L n E k os = .inr (k1, o1)) (hN : mayB L k sNOT = false) (hl : Stop L k1 l) (hs : ∀ s ∈ cL, s ∈ l) : denF L n E k os = .inr (k1, o1) := by
 unfold denF
 rw [den_stop hN]
 exact cmp_stop h hl hs
theorem den_either (h : denF L n E k os = .inr (k1, o1)) (hl : Stop L k1 l) (h3 : sAND ∈ l) (h4 : sOR ∈ l) : eitherF L n E k os = .inr (k1, o1) := chain_stop (chain_stop h (sign3 hl h3)) (sign4 hl h4)
theorem th_either (h : thingF L n E k os = .inr (k1, o1)) (hN : mayB L k sNOT = false) (hl : Stop L k1 goL) : eitherF L n E k os = .inr (k1, o1) :=
 den_either (sum_den (th_sum h hl (by simp [goL, aL])) hN hl (fun s hs => by simp only [goL, List.mem_append]; exact Or.inr (Or.inl hs))) hl (by simp [goL]) (by simp [goL])
end
theorem mt_name {t s : ByteArray} (h : nmF t.data.toList = 0) (hs : nmF s.data.toList ≠ 0) : mt (ptk t) s = false := by
 unfold mt
 have : (⟨(ptk t).t.toArray⟩ : ByteArray) = t := rfl
 rw [this]
 have : t ≠ s := fun e => hs (by rw [← e]; exact h)
 simp [this]
theorem nm_tk {t : ByteArray} (h : nmF t.data.toList = 0) : tkF 1 t.data.toList 0 = 0 := by
 unfold nmF at h
 split at h
 ·omega
 ·split at h
  ·omega
  ·rename_i h2
   by_cases h3 : tkF 1 t.data.toList 0 = 0
   ·exact h3
   ·exact absurd (Or.inl h3) h2
theorem ptk_k {t : ByteArray} (h : nmF t.data.toList = 0) : (ptk t).k = 1 := by
 unfold ptk
 rw [if_pos (nm_tk h)]
theorem name_sh {L : List Tk} {n k : Nat} {t : ByteArray} (h : nmF t.data.toList = 0) (ht : L.getD k tk0 = ptk t) : nameG L n k = .inr (t, k + 1) := by
 unfold nameG
 rw [ht, if_pos (ptk_k h), if_pos (show nmF (ptk t).t = 0 from h)]
 rfl
theorem lit_name {L : List Tk} {n k : Nat} {t : ByteArray} (h : nmF t.data.toList = 0) (ht : L.getD k tk0 = ptk t) : litG L n k = .inr (none, k) := by
 unfold litG
 have hk := ptk_k h
 rw [may_mt ht, may_mt ht, may_mt ht, may_mt ht, mt_name h (by decide), mt_name h (by decide), mt_name h (by decide), mt_name h (by decide), ht]
 simp [hk]
def noL : List ByteArray := [sOpen, sClose, sNOT, sComma]
theorem lit_sh {L : List Tk} {n k : Nat} {v : V} (h : Go.Proofs.YtdeollmeljaaoaaDoor.litF v.k v.n v.t = 0) (hv : At L k (valT v)) : litG L n k = .inr (some v, k + (valT v).length) ∧ Stop L k noL := by
 obtain ⟨vk, vn, vt⟩ := v
 have h : Go.Proofs.YtdeollmeljaaoaaDoor.litF vk vn vt = 0 := h
 unfold Go.Proofs.YtdeollmeljaaoaaDoor.litF chk at h
 split at h
 ·omega
 ·rename_i hm
  split at h
  ·omega
  ·split at h
   ·omega
   ·split at h
    ·omega
    ·rename_i h1 h2 h3
     split at h
     ·omega
     ·rename_i h4
      by_cases k3 : vk = 3
      ·subst k3
       have hn : vn = 0 := by
        by_cases e : vn = 0
        ·exact e
        ·exact absurd (Or.inr (by simp [nmb, e])) h3
       subst hn
       have hg := (At.one (show At L k (⟨3, vt.data.toList, 0⟩ :: []) from hv)).1
       constructor
       ·unfold litG
        have hs : vt.data.toList.length = vt.size := Array.length_toList
        have m0 : ∀ s, mt ⟨3, vt.data.toList, 0⟩ s = false := fun s => rfl
        rw [may_mt hg, may_mt hg, may_mt hg, may_mt hg, m0, m0, m0, m0, hg]
        simp only [Bool.false_eq_true, if_false]
        rw [if_neg (by decide), if_pos trivial, if_neg (by rw [hs]; exact h4)]
        rfl
       ·exact Stop.of hg (by simp [mt])
      ·have ht : vt = ⟨#[]⟩ := by
        apply empty_of
        cases e : vt.toList with
        | nil => rfl
        | cons a l => exact absurd (Or.inl ⟨k3, by simp [e]⟩) h3
       subst ht
       have hb : nmb vk vn = true := by
        cases e : nmb vk vn with
        | true => rfl
        | false => exact absurd (Or.inr e) h3
       by_cases k2 : vk = 2
       ·subst k2
        by_cases hn : vn < 0
        ·have e : valT ⟨2, vn, ⟨#[]⟩⟩ = [ptk sMinus, ⟨2, [], -vn⟩] := by simp [valT, hn]
         rw [e] at hv ⊢
         obtain ⟨g1, g2⟩ := At.one hv
         obtain ⟨g3, _⟩ := At.one g2
         constructor
         ·unfold litG
          rw [may_mt g1, may_mt g1, may_mt g1, may_mt g1, show mt (ptk sMinus) sNULL = false by decide, show mt (ptk sMinus) sFALSE = false by decide, show mt (ptk sMinus) sTRUE = false by decide, show mt (ptk sMinus) sMinus = true by decide, g3]
          simp
         ·exact Stop.of g1 (by decide)
        ·have e : valT ⟨2, vn, ⟨#[]⟩⟩ = [⟨2, [], vn⟩] := by simp [valT, hn]
         rw [e] at hv ⊢
         obtain ⟨g1, _⟩ := At.one hv
         constructor
         ·unfold litG
          simp only [may_mt g1, g1, mt]
          simp
         ·exact Stop.of g1 (by simp [mt])
       ·by_cases k0 : vk = 0
        ·subst k0
         have hn : vn = 0 := by simpa [nmb] using hb
         subst hn
         obtain ⟨g1, _⟩ := At.one (show At L k (ptk sNULL :: []) from hv)
         constructor
         ·unfold litG
          rw [may_mt g1, show mt (ptk sNULL) sNULL = true by decide]
          rfl
         ·exact Stop.of g1 (by decide)
        ·have k1 : vk = 1 := by omega
         subst k1
         have hn : vn = 0 ∨ vn = 1 := by simpa [nmb] using hb
         rcases hn with rfl | rfl
         ·obtain ⟨g1, _⟩ := At.one (show At L k (ptk sFALSE :: []) from hv)
          constructor
          ·unfold litG
           rw [may_mt g1, may_mt g1, show mt (ptk sFALSE) sNULL = false by decide, show mt (ptk sFALSE) sFALSE = true by decide]
           rfl
          ·exact Stop.of g1 (by decide)
         ·obtain ⟨g1, _⟩ := At.one (show At L k (ptk sTRUE :: []) from hv)
          constructor
          ·unfold litG
           rw [may_mt g1, may_mt g1, may_mt g1, show mt (ptk sTRUE) sNULL = false by decide, show mt (ptk sTRUE) sFALSE = false by decide, show mt (ptk sTRUE) sTRUE = true by decide]
           rfl
          ·exact Stop.of g1 (by decide)
def dep : Tx → Nat
 | .leaf o => 0
 | .un o a => dep a + 1
 | .bi o a b => max (dep a) (dep b) + 1
theorem dep_len : ∀ t : Tx, dep t ≤ (shX t).length
 | .leaf o => by simp [dep]
 | .un o a => by
  have := dep_len a
  have : (shX a).length + 1 ≤ (onT o.k (shX a)).length := by unfold onT; split <;> simp
  simp only [dep, shX]
  omega
 | .bi o a b => by
  have h1 := dep_len a
  have h2 := dep_len b
  simp only [dep, shX, twT_len]
  omega
theorem op_nul {o : Oq} (h : opF o.k o.v.k o.v.n o.v.t o.t = 0) (h1 : o.k ≠ 1) (h2 : o.k ≠ 2) : ∃ q : Nat, o = opO q ∧ 1 ≤ q ∧ q ≤ 11 := by
 obtain ⟨k, ⟨vk, vn, vt⟩, t⟩ := o
 have h : opF k vk vn vt t = 0 := h
 unfold opF at h
 split at h
 ·omega
 ·rename_i hk
  split at h
  ·omega
  ·split at h
   ·omega
   ·rename_i h3
    have e1 : vnul vk vn vt = true := by
     cases e : vnul vk vn vt with
     | true => rfl
     | false => exact absurd (Or.inl ⟨h1, e⟩) h3
    have e2 : t.toList.isEmpty = true := by
     cases e : t.toList.isEmpty with
     | true => rfl
     | false => exact absurd (Or.inr ⟨h2, e⟩) h3
    simp only [vnul, Bool.and_eq_true, beq_iff_eq] at e1
    obtain ⟨rfl, rfl, e3⟩ := e1
    have e3 := empty_of (List.isEmpty_iff.1 e3)
    have e2 := empty_of (List.isEmpty_iff.1 e2)
    subst e3 e2
    refine ⟨k.toNat, ?_, by omega, by omega⟩
    unfold opO v0
    congr 1
    omega
theorem leaf_sh {L : List Tk} {n k : Nat} {E : R} {os : List Oq} {o : Oq} (hw : wks o.k = 0) (h : opF o.k o.v.k o.v.n o.v.t o.t = 0) (hv : At L k (lfT o)) (ho : os.length < 40) : thingF L n E k os = .inr (k + (lfT o).length, os ++ [o]) ∧ mayB L k sNOT = false := by
 have hk : o.k = 1 ∨ o.k = 2 := by
  unfold wks at hw
  split at hw
  ·assumption
  ·split at hw <;> omega
 obtain ⟨ok, v, t⟩ := o
 unfold opF at h
 dsimp only at h hk
 split at h
 ·omega
 ·split at h
  ·omega
  ·rename_i hl
   split at h
   ·omega
   ·rename_i h3
    rcases hk with rfl | rfl
    ·have et : t = ⟨#[]⟩ := by
      apply empty_of
      cases e : t.toList with
      | nil => rfl
      | cons a l => exact absurd (Or.inr ⟨by decide, by simp [e]⟩) h3
     subst et
     obtain ⟨g1, g2⟩ := lit_sh (n := n) (show Go.Proofs.YtdeollmeljaaoaaDoor.litF v.k v.n v.t = 0 by simpa using hl) (show At L k (valT v) from hv)
     refine ⟨?_, g2 _ (by simp [noL])⟩
     unfold thingF leafF
     rw [if_neg (by rw [g2 sOpen (by simp [noL])]; simp), g1, bd_inr]
     exact put_ok ho
    ·have ev : v = v0 := by
      obtain ⟨vk, vn, vt⟩ := v
      have e1 : vnul vk vn vt = true := by
       cases e : vnul vk vn vt with
       | true => rfl
       | false => exact absurd (Or.inl ⟨by decide, e⟩) h3
      simp only [vnul, Bool.and_eq_true, beq_iff_eq] at e1
      obtain ⟨rfl, rfl, e3⟩ := e1
      rw [empty_of (List.isEmpty_iff.1 e3)]
      rfl
     subst ev
     rw [if_pos rfl] at h
     have ht := (At.one (show At L k (ptk t :: []) from hv)).1
     refine ⟨?_, (may_mt ht _).trans (mt_name h (by decide))⟩
     unfold thingF leafF
     rw [if_neg (by rw [may_mt ht, mt_name h (by decide)]; simp), lit_name h ht, bd_inr]
     dsimp only
     rw [name_sh h ht, bd_inr]
     exact put_ok ho
theorem box_sh {L : List Tk} {n d k k2 : Nat} {os o2 : List Oq} (ho : L.getD k tk0 = ptk sOpen) (h : eitherF L n (eithD L n d) (k + 1) os = .inr (k2, o2)) (hc : L.getD k2 tk0 = ptk sClose) : thingF L n (eithD L n (d + 1)) k os = .inr (k2 + 1, o2) ∧ mayB L k sNOT = false := by
 refine ⟨?_, (may_mt ho _).trans (by decide)⟩
 unfold thingF
 rw [if_pos ((may_mt ho _).trans (by decide))]
 show bd (eitherF L n (eithD L n d) (k + 1) os) _ = _
 rw [h, bd_inr, if_pos ((may_mt hc _).trans (by decide))]
theorem ga : ∀ s ∈ aL, s ∈ goL := fun s h => List.mem_append_left _ h
theorem gc : ∀ s ∈ cL, s ∈ goL := fun s h => List.mem_append_right _ (List.mem_append_left _ h)
theorem g3 : sAND ∈ goL := by simp [goL]
theorem g4 : sOR ∈ goL := by simp [goL]
theorem bi_sh {L : List Tk} {n k k1 k2 q : Nat} {E : R} {os o1 o2 : List Oq} (hq : q = 3 ∨ q = 4 ∨ q = 6 ∨ q = 7 ∨ q = 8 ∨ q = 9 ∨ q = 10) (ha : thingF L n E k os = .inr (k1, o1)) (hN : mayB L k sNOT = false) (hs : L.getD k1 tk0 = ptk (sgT q)) (hb : thingF L n E (k1 + 1) o1 = .inr (k2, o2)) (hN2 : mayB L (k1 + 1) sNOT = false)
  (hc : Stop L k2 goL) (ho : o2.length < 40) (hL : 0 < L.length) : eitherF L n E k os = .inr (k2, o2 ++ [opO q]) := by
 rcases hq with rfl | rfl | rfl | rfl | rfl | rfl | rfl
 ·have s1 : Stop L k1 (aL ++ cL) := Stop.of hs (by decide)
  have d1 := sum_den (th_sum ha s1 (fun s h => List.mem_append_left _ h)) hN s1 (fun s h => List.mem_append_right _ h)
  have d2 := sum_den (th_sum hb hc ga) hN2 hc gc
  have q1 : signF L k1 [3] = some 3 := by
   unfold signF
   rw [if_pos ((may_mt hs _).trans (by decide))]
  exact chain_stop (chain_two d1 q1 d2 ho (sign3 hc g3) hL) (sign4 hc g4)
 ·have s1 : Stop L k1 (aL ++ (cL ++ [sAND])) := Stop.of hs (by decide)
  have d1 := chain_stop (ks := [3]) (sum_den (th_sum ha s1 (fun s h => List.mem_append_left _ h)) hN s1 (fun s h => List.mem_append_right _ (List.mem_append_left _ h))) (sign3 s1 (by simp))
  have d2 := chain_stop (ks := [3]) (sum_den (th_sum hb hc ga) hN2 hc gc) (sign3 hc g3)
  have q1 : signF L k1 [4] = some 4 := by
   unfold signF
   rw [if_pos ((may_mt hs _).trans (by decide))]
  exact chain_two d1 q1 d2 ho (sign4 hc g4) hL
 ·have s1 : Stop L k1 aL := Stop.of hs (by decide)
  have c1 := cmp_two (n := n) (c := ⟨[61], 6, false, false⟩) (th_sum ha s1 (fun s h => h)) ((may_mt hs _).trans (by decide)) (by simp only [cmL, cmpF]; rw [if_pos ((may_mt hs _).trans (by decide))]) rfl rfl (th_sum hb hc ga) ho
  refine den_either ?_ hc g3 g4
  unfold denF
  rw [den_stop hN]
  exact c1
 ·have s1 : Stop L k1 aL := Stop.of hs (by decide)
  have c1 := cmp_two (n := n) (c := ⟨[60], 7, false, false⟩) (th_sum ha s1 (fun s h => h)) ((may_mt hs _).trans (by decide)) (by
   simp only [cmL, cmpF]
   rw [if_neg (by rw [may_mt hs]; decide), if_neg (by rw [may_mt hs]; decide), if_pos ((may_mt hs _).trans (by decide))]) rfl rfl (th_sum hb hc ga) ho
  refine den_either ?_ hc g3 g4
  unfold denF
  rw [den_stop hN]
  exact c1
 ·have s1 : Stop L k1 [sStar] := Stop.of hs (by decide)
  have d1 : productF L n E k os = .inr (k1, o1) := chain_stop ha (sign10 s1 (by simp))
  have d2 := th_prod hb hc ga
  have q1 : signF L k1 [8, 9] = some 8 := by
   unfold signF
   rw [if_pos ((may_mt hs _).trans (by decide))]
  exact den_either (sum_den (chain_two d1 q1 d2 ho (sign89 hc (ga _ (by simp [aL])) (ga _ (by simp [aL]))) hL) hN hc gc) hc g3 g4
 ·have s1 : Stop L k1 [sStar] := Stop.of hs (by decide)
  have d1 : productF L n E k os = .inr (k1, o1) := chain_stop ha (sign10 s1 (by simp))
  have d2 := th_prod hb hc ga
  have q1 : signF L k1 [8, 9] = some 9 := by
   unfold signF
   rw [if_neg (by rw [may_mt hs]; decide)]
   unfold signF
   rw [if_pos ((may_mt hs _).trans (by decide))]
  exact den_either (sum_den (chain_two d1 q1 d2 ho (sign89 hc (ga _ (by simp [aL])) (ga _ (by simp [aL]))) hL) hN hc gc) hc g3 g4
 ·have q1 : signF L k1 [10] = some 10 := by
   unfold signF
   rw [if_pos ((may_mt hs _).trans (by decide))]
  exact den_either (sum_den (prod_sum (chain_two ha q1 hb ho (sign10 hc (ga _ (by simp [aL]))) hL) hc ga) hN hc gc) hc g3 g4
theorem thing_sh {L : List Tk} {n : Nat} : ∀ (t : Tx) (d k : Nat) (os : List Oq), t.ok → At L k (shX t) → dep t ≤ d → os.length + t.flat.length ≤ 40 → thingF L n (eithD L n d) k os = .inr (k + (shX t).length, os ++ t.flat) ∧ mayB L k sNOT = false
 | .leaf o, d, k, os, ht, hv, hd, ho => leaf_sh ht.1 ht.2 hv (by simp [Tx.flat] at ho; omega)
 | .un o a, d, k, os, ht, hv, hd, ho => by
  obtain ⟨hw, hf, hta⟩ := ht
  have hk : o.k = 5 ∨ o.k = 11 := by
   unfold wks at hw
   split at hw
   ·omega
   ·split at hw
    ·assumption
    ·omega
  obtain ⟨q, rfl, _⟩ := op_nul hf (by omega) (by omega)
  have hk : q = 5 ∨ q = 11 := by simp only [opO] at hk; omega
  simp only [dep] at hd
  obtain ⟨d', rfl⟩ : ∃ d', d = d' + 1 := ⟨d - 1, by omega⟩
  simp only [Tx.flat, List.length_append, List.length_cons, List.length_nil] at ho
  rcases hk with rfl | rfl
  ·have hv : At L k (ptk sOpen :: ptk sNOT :: (shX a ++ [ptk sClose])) := hv
   have e1 : (shX (.un (opO 5) a)).length = (shX a).length + 3 := by show (onT 5 (shX a)).length = _; simp [onT]
   have hL := hv.len
   simp only [List.length_cons, List.length_append, List.length_nil] at hL
   obtain ⟨g1, hv⟩ := hv.one
   obtain ⟨g2, hv⟩ := hv.one
   obtain ⟨ha, hv⟩ := hv.app
   obtain ⟨h3, _⟩ := hv.one
   obtain ⟨i1, i2⟩ := thing_sh (n := n) a d' (k + 1 + 1) os hta ha (by omega) (by omega)
   have st : Stop L (k + 1 + 1 + (shX a).length) goL := Stop.of h3 (by decide)
   have c1 : comparisonF L n (sumF L n (eithD L n d')) (k + 1 + 1) os = .inr (k + 1 + 1 + (shX a).length, os ++ a.flat) := cmp_stop (th_sum i1 st ga) st gc
   have c2 := den_not ((may_mt g2 sNOT).trans (by decide)) i2 c1 (by simp; omega) (by omega)
   have c3 := box_sh g1 (den_either (n := n) c2 st g3 g4) h3
   rw [e1]
   refine ⟨?_, c3.2⟩
   rw [c3.1]
   simp only [Tx.flat, List.append_assoc]
   congr 2
   omega
  ·have hv : At L k (ptk sOpen :: (shX a ++ (ptk sIS :: ptk sNULL :: [ptk sClose]))) := hv
   have e1 : (shX (.un (opO 11) a)).length = (shX a).length + 4 := by show (onT 11 (shX a)).length = _; simp [onT]
   have hL := hv.len
   simp only [List.length_cons, List.length_append, List.length_nil] at hL
   obtain ⟨g1, hv⟩ := hv.one
   obtain ⟨ha, hv⟩ := hv.app
   obtain ⟨g2, hv⟩ := hv.one
   obtain ⟨h3, hv⟩ := hv.one
   obtain ⟨h4, _⟩ := hv.one
   obtain ⟨i1, i2⟩ := thing_sh (n := n) a d' (k + 1) os hta ha (by omega) (by omega)
   have st0 : Stop L (k + 1 + (shX a).length) aL := Stop.of g2 (by decide)
   have st : Stop L (k + 1 + (shX a).length + 2) goL := Stop.of h4 (by decide)
   have c1 := cmp_null (n := n) (th_sum i1 st0 (fun s h => h)) ((may_mt g2 _).trans (by decide)) ((may_mt h3 _).trans (by decide)) ((may_mt h3 _).trans (by decide)) (by simp; omega)
   have c2 : denF L n (eithD L n d') (k + 1) os = .inr (k + 1 + (shX a).length + 2, (os ++ a.flat) ++ [opO 11]) := by
    unfold denF
    rw [den_stop i2]
    exact c1
   have c3 := box_sh g1 (den_either c2 st g3 g4) h4
   rw [e1]
   refine ⟨?_, c3.2⟩
   rw [c3.1]
   simp only [Tx.flat, List.append_assoc]
   congr 2
   omega
 | .bi o a b, d, k, os, ht, hv, hd, ho => by
  obtain ⟨hw, hf, hta, htb⟩ := ht
  have hk : o.k ≠ 1 ∧ o.k ≠ 2 ∧ o.k ≠ 5 ∧ o.k ≠ 11 := by
   unfold wks at hw
   split at hw
   ·omega
   ·split at hw <;> omega
  obtain ⟨q, rfl, hq1, hq2⟩ := op_nul hf (by omega) (by omega)
  have hk : q = 3 ∨ q = 4 ∨ q = 6 ∨ q = 7 ∨ q = 8 ∨ q = 9 ∨ q = 10 := by simp only [opO] at hk; omega
  simp only [dep] at hd
  obtain ⟨d', rfl⟩ : ∃ d', d = d' + 1 := ⟨d - 1, by omega⟩
  simp only [Tx.flat, List.length_append, List.length_cons, List.length_nil] at ho
  have hv : At L k (ptk sOpen :: (shX a ++ (ptk (sgT q) :: (shX b ++ [ptk sClose])))) := hv
  have hL := hv.len
  simp only [List.length_cons, List.length_append, List.length_nil] at hL
  obtain ⟨g1, hv⟩ := hv.one
  obtain ⟨ha, hv⟩ := hv.app
  obtain ⟨h2, hv⟩ := hv.one
  obtain ⟨gb, hv⟩ := hv.app
  obtain ⟨h3, _⟩ := hv.one
  obtain ⟨i1, i2⟩ := thing_sh (n := n) a d' (k + 1) os hta ha (by omega) (by omega)
  obtain ⟨j1, j2⟩ := thing_sh (n := n) b d' (k + 1 + (shX a).length + 1) (os ++ a.flat) htb gb (by omega) (by simp; omega)
  have st : Stop L (k + 1 + (shX a).length + 1 + (shX b).length) goL := Stop.of h3 (by decide)
  have c3 := box_sh (n := n) g1 (bi_sh hk i1 i2 h2 j1 j2 st (by simp; omega) (by omega)) h3
  refine ⟨?_, c3.2⟩
  rw [c3.1]
  simp only [Tx.flat, List.append_assoc, shX, twT_len]
  congr 2
  omega
theorem exp_sh {L : List Tk} {n k : Nat} {l : List Oq} (h : exprF l = 0) (hv : At L k (exT l)) (hs : Stop L (k + (exT l).length) goL) : expF L n k = .inr (k + (exT l).length, l) := by
 obtain ⟨h1, t, h2, rfl⟩ := expr_tree h
 rw [exT_tree h2] at hv hs ⊢
 have hd := dep_len t
 have hl := hv.len
 obtain ⟨i1, i2⟩ := thing_sh (n := n) t L.length k [] h2 hv (by omega) (by simpa using h1)
 exact th_either i1 i2 hs
open Go.Proofs.YtdeollmeljaaoaaDoor.cs
def finL : List ByteArray := goL ++ [sComma, sWHERE, sORDER, sDESC, sLIMIT]
theorem fin_go : ∀ s ∈ goL, s ∈ finL := fun s h => List.mem_append_left _ h
theorem must_sh {L : List Tk} {n : Nat} : ∀ (l : List ByteArray) (k : Nat), At L k (l.map ptk) → (∀ s ∈ l, mt (ptk s) s = true) → mustF L n k l = .inr (k + l.length)
 | [], k, h, _ => rfl
 | s :: l, k, h, hm => by
  obtain ⟨h1, h2⟩ := At.one (show At L k (ptk s :: l.map ptk) from h)
  unfold mustF
  rw [if_pos ((may_mt h1 _).trans (hm s (by simp))), must_sh l (k + 1) h2 fun x hx => hm x (by simp [hx])]
  simp only [List.length_cons]
  congr 1
  omega
section
variable {α : Type} {L : List Tk} {th : Nat → List α → F ⊕ (Nat × List α)} {f : α → List Tk}
theorem list_go {l : List α} (hstep : ∀ pre y post k, l = pre ++ y :: post → At L k (f y) → th k pre = .inr (k + (f y).length, pre ++ [y])) :
  ∀ (r pre : List α) (fuel k : Nat), l = pre ++ r → r.length ≤ fuel → At L k (r.flatMap fun y => comma ++ f y) → mayB L (k + (r.flatMap fun y => comma ++ f y).length) sComma = false → listL L th fuel k pre = .inr (k + (r.flatMap fun y => comma ++ f y).length, l)
 | [], pre, fuel, k, hl, hf, hv, hs => by
  simp only [List.flatMap_nil, List.length_nil, Nat.add_zero] at hs ⊢
  simp only [List.append_nil] at hl
  subst hl
  cases fuel with
  | zero => unfold listL; rw [hs]; rfl
  | succ f => unfold listL; rw [hs]; rfl
 | y :: r, pre, fuel, k, hl, hf, hv, hs => by
  obtain ⟨fuel, rfl⟩ : ∃ m, fuel = m + 1 := ⟨fuel - 1, by simp only [List.length_cons] at hf; omega⟩
  have e : ((y :: r).flatMap fun y => comma ++ f y) = ptk sComma :: (f y ++ r.flatMap fun y => comma ++ f y) := by simp [List.flatMap_cons, comma, sComma]
  rw [e] at hv hs ⊢
  obtain ⟨h1, h2⟩ := hv.one
  obtain ⟨h3, h4⟩ := h2.app
  unfold listL
  rw [if_pos ((may_mt h1 _).trans (by decide)), hstep pre y r (k + 1) hl h3, bd_inr]
  simp only [List.length_cons, List.length_append] at hs hf ⊢
  rw [list_go hstep r (pre ++ [y]) fuel _ (by simp [hl]) (by omega) h4 (by rw [← hs]; congr 1; omega)]
  congr 2
  omega
theorem list_sh {l : List α} (h0 : l ≠ []) (h6 : l.length ≤ 6) (hstep : ∀ pre y post k, l = pre ++ y :: post → At L k (f y) → th k pre = .inr (k + (f y).length, pre ++ [y])) {k : Nat} (hv : At L k (btw comma f l)) (hs : mayB L (k + (btw comma f l).length) sComma = false) :
  listF L th k [] = .inr (k + (btw comma f l).length, l) := by
 cases l with
 | nil => exact absurd rfl h0
 | cons x r =>
  unfold btw at hv hs ⊢
  obtain ⟨h1, h2⟩ := hv.app
  unfold listF
  rw [hstep [] x r k rfl h1, bd_inr]
  simp only [List.length_append, List.length_cons] at hs h6 ⊢
  rw [List.nil_append, list_go hstep r [x] 5 _ rfl (by omega) h2 (by rw [← hs]; congr 1; omega)]
  congr 2
  omega
end
theorem cl_at : ∀ (pre : List Cq) (m : List Cq) (c : Cq) (post : List Cq), clF m (pre ++ c :: post) = 0 → nmF c.t.data.toList = 0 ∧ (c.k = 1 ∨ c.k = 2 ∨ c.k = 3) ∧ hasC (m ++ pre) c.t = false
 | [], m, c, post, h => by
  simp only [List.nil_append, List.append_nil] at h ⊢
  unfold clF at h
  split at h
  ·omega
  ·split at h
   ·omega
   ·split at h
    ·omega
    ·rename_i h1 h2 h3
     refine ⟨by omega, by omega, by simpa using h3⟩
 | d :: pre, m, c, post, h => by
  simp only [List.cons_append] at h
  unfold clF at h
  split at h
  ·omega
  ·split at h
   ·omega
   ·split at h
    ·omega
    ·have := cl_at pre (m ++ [d]) c post h
     simpa using this
theorem col_sh {L : List Tk} {n : Nat} {l : List Cq} (h : colsF l = 0) {k : Nat} (hv : At L k (btw comma shC l)) (hs : mayB L (k + (btw comma shC l).length) sComma = false) : listF L (colF L n) k [] = .inr (k + (btw comma shC l).length, l) := by
 unfold colsF at h
 split at h
 ·omega
 ·refine list_sh (by intro e; subst e; simp at *) (by omega) ?_ hv hs
  intro pre c post j e hj
  rw [e] at h
  obtain ⟨h1, h2, h3⟩ := cl_at pre [] c post h
  obtain ⟨ct, ck⟩ := c
  dsimp only at h1 h2 h3
  obtain ⟨g1, g2⟩ := At.one (show At L j (ptk ct :: [ptk ⟨(kdL.getD ck.toNat []).toArray⟩]) from hj)
  obtain ⟨g2, _⟩ := At.one g2
  unfold colF
  rw [name_sh h1 g1, bd_inr, if_neg (by simp only [List.nil_append] at h3; rw [h3]; simp)]
  dsimp only
  have ek : ∃ q : Nat, ck = (q : Int) ∧ kindG L n (j + 1) = .inr (q, j + 1 + 1) := by
   unfold kindG
   rcases h2 with rfl | rfl | rfl
   ·refine ⟨1, rfl, ?_⟩
    simp only [kwL, kindF]
    rw [if_neg (by rw [may_mt g2]; decide), if_pos ((may_mt g2 _).trans (by decide))]
   ·refine ⟨2, rfl, ?_⟩
    simp only [kwL, kindF]
    rw [if_neg (by rw [may_mt g2]; decide), if_neg (by rw [may_mt g2]; decide), if_pos ((may_mt g2 _).trans (by decide))]
   ·refine ⟨3, rfl, ?_⟩
    simp only [kwL, kindF]
    rw [if_neg (by rw [may_mt g2]; decide), if_neg (by rw [may_mt g2]; decide), if_neg (by rw [may_mt g2]; decide), if_pos ((may_mt g2 _).trans (by decide))]
  obtain ⟨q, rfl, hq⟩ := ek
  rw [hq, bd_inr]
  rfl
theorem row_at : ∀ (pre : List V) (v : V) (post : List V), rowL (pre ++ v :: post) = 0 → Go.Proofs.YtdeollmeljaaoaaDoor.litF v.k v.n v.t = 0
 | [], v, post, h => by
  simp only [List.nil_append] at h
  unfold rowL at h
  split at h
  ·omega
  ·rename_i h1
   simpa using h1
 | d :: pre, v, post, h => by
  simp only [List.cons_append] at h
  unfold rowL at h
  split at h
  ·omega
  ·exact row_at pre v post h
theorem val_sh {L : List Tk} {n : Nat} {l : List V} (h : insF l = 0) {k : Nat} (hv : At L k (btw comma valT l)) (hs : mayB L (k + (btw comma valT l).length) sComma = false) : listF L (valF L n) k [] = .inr (k + (btw comma valT l).length, l) := by
 unfold insF at h
 split at h
 ·omega
 ·refine list_sh (by intro e; subst e; simp at *) (by omega) ?_ hv hs
  intro pre v post j e hj
  rw [e] at h
  obtain ⟨g1, _⟩ := lit_sh (n := n) (row_at pre v post h) hj
  unfold valF
  rw [g1, bd_inr]
theorem nms_at : ∀ (pre : List ByteArray) (v : ByteArray) (post : List ByteArray), nmsF (pre ++ v :: post) = 0 → nmF v.data.toList = 0
 | [], v, post, h => by
  simp only [List.nil_append] at h
  unfold nmsF at h
  split at h
  ·omega
  ·rename_i h1
   simpa using h1
 | d :: pre, v, post, h => by
  simp only [List.cons_append] at h
  unfold nmsF at h
  split at h
  ·omega
  ·exact nms_at pre v post h
theorem nms_sh {L : List Tk} {n : Nat} {l : List ByteArray} (h : nmsF l = 0) (h0 : l ≠ []) (h6 : l.length ≤ 6) {k : Nat} (hv : At L k (btw comma shN l)) (hs : mayB L (k + (btw comma shN l).length) sComma = false) : listF L (nmsG L n) k [] = .inr (k + (btw comma shN l).length, l) := by
 refine list_sh h0 h6 ?_ hv hs
 intro pre v post j e hj
 rw [e] at h
 unfold nmsG
 rw [name_sh (nms_at pre v post h) (At.one (show At L j (ptk v :: []) from hj)).1, bd_inr]
 rfl
theorem wh_sh {L : List Tk} {n k : Nat} {l : List Oq} (h : whF l = 0) (hv : At L k (whT l)) (hs : Stop L (k + (whT l).length) (goL ++ [sWHERE])) : whereF L n k = .inr (k + (whT l).length, l) := by
 unfold whT at hv hs ⊢
 unfold whF at h
 by_cases h0 : l.length = 0
 ·rw [if_pos h0] at hs ⊢
  have hs : Stop L k (goL ++ [sWHERE]) := hs
  have : l = [] := List.length_eq_zero_iff.1 h0
  subst this
  unfold whereF
  rw [if_neg (by rw [hs sWHERE (by simp)]; simp)]
  rfl
 ·rw [if_neg h0] at hv hs ⊢
  rw [if_neg h0] at h
  obtain ⟨g1, g2⟩ := At.one (show At L k (ptk sWHERE :: exT l) from hv)
  unfold whereF
  simp only [List.length_append, List.length_cons, List.length_nil] at hs ⊢
  rw [if_pos ((may_mt g1 _).trans (by decide)), exp_sh h g2 (hs.sub (by intro s hm; exact List.mem_append_left _ hm) |> fun x => by rw [show k + 1 + (exT l).length = k + (0 + 1 + (exT l).length) by omega]; exact x)]
  congr 2
  omega
theorem em_nil {t : ByteArray} (h : em t = true) : t = ⟨#[]⟩ := empty_of (List.isEmpty_iff.1 h)
theorem len0 {α : Type} {l : List α} (h : decide (0 < l.length) = false) : l = [] := by
 cases l with
 | nil => rfl
 | cons a l => simp at h
theorem more_ok {s : Sq} (h : moreF s = false) : (6 < s.k → s.t = ⟨#[]⟩) ∧ (s.k ≠ 1 → s.cols = []) ∧ (s.k ≠ 3 → s.row = []) ∧ (s.k ≠ 4 → s.names = [] ∧ s.cnt = false ∧ s.ord = ⟨#[]⟩ ∧ s.dn = false ∧ s.lim = -1) ∧ (s.k ≠ 5 → s.st = ⟨#[]⟩ ∧ s.to = []) ∧ (s.k ≠ 4 → s.k ≠ 5 → s.k ≠ 6 → s.wh = []) := by
 unfold moreF at h
 simp only [Bool.or_eq_false_iff] at h
 obtain ⟨⟨⟨⟨⟨h1, h2⟩, h3⟩, h4⟩, h5⟩, h6⟩ := h
 have nb : ∀ {j : Int}, s.k ≠ j → (!(s.k == j)) = true := fun hj => by simp [hj]
 refine ⟨fun hk => ?_, fun hk => ?_, fun hk => ?_, fun hk => ?_, fun hk => ?_, fun a b c => ?_⟩
 ·rw [decide_eq_true hk, Bool.true_and] at h1
  exact em_nil (by simpa using h1)
 ·rw [nb hk, Bool.true_and] at h2
  exact len0 h2
 ·rw [nb hk, Bool.true_and] at h3
  exact len0 h3
 ·rw [nb hk, Bool.true_and] at h4
  simp only [Bool.or_eq_false_iff] at h4
  obtain ⟨⟨⟨⟨a1, a2⟩, a3⟩, a4⟩, a5⟩ := h4
  exact ⟨len0 a1, a2, em_nil (by simpa using a3), a4, by simpa using a5⟩
 ·rw [nb hk, Bool.true_and] at h5
  simp only [Bool.or_eq_false_iff] at h5
  exact ⟨em_nil (by simpa using h5.1), len0 h5.2⟩
 ·rw [nb a, nb b, nb c] at h6
  exact len0 (by simpa using h6)
theorem next_stop {L : List Tk} {k : Nat} {l : List ByteArray} : ∀ (T : List Tk), At L k T → (T = [] → Stop L k l) → (∀ t r, T = t :: r → ∀ s ∈ l, mt t s = false) → Stop L k l
 | [], _, h, _ => h rfl
 | t :: r, hv, _, h => Stop.of hv.one.1 (h t r rfl)
theorem lim_sh {L : List Tk} {n k : Nat} {s : Sq} (h : -1 ≤ s.lim) (hv : At L k (limT s)) (hs : mayB L (k + (limT s).length) sLIMIT = false) : limitF L n k = .inr (k + (limT s).length, s.lim) := by
 unfold limT at hv hs ⊢
 by_cases h0 : 0 ≤ s.lim
 ·rw [if_pos h0] at hv hs ⊢
  obtain ⟨g1, g2⟩ := hv.one
  obtain ⟨g2, _⟩ := g2.one
  unfold limitF numG
  rw [if_pos ((may_mt g1 _).trans (by decide)), g2]
  rfl
 ·rw [if_neg h0] at hv hs ⊢
  unfold limitF
  have hs : mayB L k sLIMIT = false := hs
  rw [hs, show s.lim = -1 by omega]
  rfl
theorem ord_sh {L : List Tk} {n k : Nat} {s : Sq} (h : ordF s.ord = 0) (hd : ¬ (s.dn = true ∧ em s.ord = true)) (hv : At L k (ordT s ++ dnT s)) (hs : Stop L (k + (ordT s ++ dnT s).length) [sORDER, sDESC]) : orderF L n k = .inr (k + (ordT s ++ dnT s).length, s.ord, s.dn) := by
 unfold ordT dnT at hv hs ⊢
 unfold ordF at h
 by_cases he : em s.ord = true
 ·have hdn : s.dn = false := by
   cases e : s.dn with
   | false => rfl
   | true => exact absurd ⟨e, he⟩ hd
  rw [if_pos he, hdn] at hv hs ⊢
  have hs : Stop L k [sORDER, sDESC] := hs
  unfold orderF
  rw [hs sORDER (by simp), em_nil he]
  rfl
 ·rw [if_neg he] at hv hs h ⊢
  cases hdn : s.dn with
  | false =>
   rw [hdn] at hv hs
   obtain ⟨g1, g2⟩ := At.one (show At L k (ptk sORDER :: ptk sBY :: ptk s.ord :: []) from hv)
   obtain ⟨g2, g3⟩ := g2.one
   obtain ⟨g3, _⟩ := g3.one
   have hs : Stop L (k + 3) [sORDER, sDESC] := hs
   unfold orderF
   rw [if_pos ((may_mt g1 _).trans (by decide))]
   unfold mustF
   rw [if_pos ((may_mt g2 _).trans (by decide))]
   unfold mustF
   rw [bd_inr, name_sh h g3, bd_inr, if_neg (by rw [show k + 1 + 1 + 1 = k + 3 by omega, hs sDESC (by simp)]; simp)]
   rfl
  | true =>
   rw [hdn] at hv hs
   obtain ⟨g1, g2⟩ := At.one (show At L k (ptk sORDER :: ptk sBY :: ptk s.ord :: ptk sDESC :: []) from hv)
   obtain ⟨g2, g3⟩ := g2.one
   obtain ⟨g3, g4⟩ := g3.one
   obtain ⟨g4, _⟩ := g4.one
   unfold orderF
   rw [if_pos ((may_mt g1 _).trans (by decide))]
   unfold mustF
   rw [if_pos ((may_mt g2 _).trans (by decide))]
   unfold mustF
   rw [bd_inr, name_sh h g3, bd_inr, if_pos ((may_mt g4 _).trans (by decide))]
   rfl
def hdT (s : Sq) : List Tk := whatT s ++ btw comma shN s.names
theorem head_sh {L : List Tk} {n k : Nat} {s : Sq} (h : nmsF s.names = 0) (h6 : s.names.length ≤ 6) (hc : ¬ (s.cnt = true ∧ 0 < s.names.length)) (hv : At L k (hdT s)) (hs : mayB L (k + (hdT s).length) sComma = false) : headF L n k = .inr (k + (hdT s).length, s.names, s.cnt) := by
 unfold hdT whatT at hv hs ⊢
 cases hcn : s.cnt with
 | true =>
  have hn : s.names = [] := by
   cases e : s.names with
   | nil => rfl
   | cons a l => exact absurd ⟨hcn, by rw [e]; simp⟩ hc
  rw [hcn, hn] at hv hs
  obtain ⟨g1, g2⟩ := At.one (show At L k (ptk sCOUNT :: [sOpen, sStar, sClose].map ptk) from hv)
  have hm := must_sh (n := n) _ _ g2 (by intro x hx; simp only [List.mem_cons, List.not_mem_nil, or_false] at hx; rcases hx with rfl | rfl | rfl <;> decide)
  rw [hn]
  unfold headF
  rw [if_neg (by rw [may_mt g1]; decide), if_pos ((may_mt g1 _).trans (by decide)), hm]
  rfl
 | false =>
  rw [hcn] at hv hs
  by_cases h0 : s.names.length = 0
  ·have hn : s.names = [] := List.length_eq_zero_iff.1 h0
   rw [hn] at hv hs ⊢
   obtain ⟨g1, _⟩ := At.one (show At L k (ptk sStar :: []) from hv)
   unfold headF
   rw [if_pos ((may_mt g1 _).trans (by decide))]
   rfl
  ·simp only [Bool.false_eq_true, if_false, if_neg h0, List.nil_append] at hv hs ⊢
   have hne : s.names ≠ [] := fun e => h0 (by rw [e]; rfl)
   have hl := nms_sh (n := n) h hne h6 hv hs
   obtain ⟨x, r, hx⟩ := List.exists_cons_of_ne_nil hne
   have hx0 : nmF x.data.toList = 0 := nms_at [] x r (by rw [← hx]; exact h)
   have g1 : L.getD k tk0 = ptk x := by
    rw [hx] at hv
    exact (At.one (show At L k (ptk x :: r.flatMap fun y => comma ++ shN y) from hv)).1
   unfold headF
   rw [if_neg (by rw [may_mt g1, mt_name hx0 (by decide)]; simp), if_neg (by rw [may_mt g1, mt_name hx0 (by decide)]; simp), hl]
   rfl
theorem choose_sh {L : List Tk} {n : Nat} {s : Sq} (hk : s.k = 4) (hp : selF s = 0) (ht : nmF s.t.data.toList = 0) (hm : moreF s = false) (hv : At L 0 (selT s)) (hs : Stop L (selT s).length finL) : partF L n sq0 = .inr ((selT s).length, s) := by
 obtain ⟨h1, h2, h3, h4, h5, h6, h7⟩ := sel_zero hp
 have e : selT s = ptk sSELECT :: (hdT s ++ (ptk sFROM :: ptk s.t :: (whT s.wh ++ ((ordT s ++ dnT s) ++ limT s)))) := by
  unfold selT midT hdT
  simp [List.append_assoc]
 rw [e] at hv hs ⊢
 simp only [List.length_cons, List.length_append] at hs
 obtain ⟨g0, hv⟩ := hv.one
 obtain ⟨g1, hv⟩ := hv.app
 obtain ⟨g2, hv⟩ := hv.one
 obtain ⟨g3, hv⟩ := hv.one
 obtain ⟨g4, hv5⟩ := hv.app
 obtain ⟨g5, g6⟩ := hv5.app
 have sL : Stop L (0 + 1 + (hdT s).length + 1 + 1 + (whT s.wh).length + (ordT s ++ dnT s).length + (limT s).length) finL := by
  rw [List.length_append]
  rw [show 0 + 1 + (hdT s).length + 1 + 1 + (whT s.wh).length + ((ordT s).length + (dnT s).length) + (limT s).length = (hdT s).length + ((whT s.wh).length + ((ordT s).length + (dnT s).length + (limT s).length) + 1 + 1) + 1 by omega]
  exact hs
 have a1 := head_sh (n := n) h5 h1 h3 g1 ((may_mt g2 _).trans (by decide))
 have lT : ∀ t r, limT s = t :: r → t = ptk sLIMIT := by
  intro t r e
  unfold limT at e
  split at e
  ·exact (List.cons.inj e).1.symm
  ·cases e
 have oT : ∀ t r, ordT s ++ dnT s = t :: r → t = ptk sORDER := by
  intro t r e
  unfold ordT dnT at e
  by_cases he : em s.ord = true
  ·have hdn : s.dn = false := by
    cases e : s.dn with
    | false => rfl
    | true => exact absurd ⟨e, he⟩ h4
   rw [if_pos he, hdn] at e
   cases e
  ·rw [if_neg he] at e
   exact (List.cons.inj e).1.symm
 have s5 : Stop L (0 + 1 + (hdT s).length + 1 + 1 + (whT s.wh).length + (ordT s ++ dnT s).length) (goL ++ [sWHERE, sORDER, sDESC]) := by
  refine next_stop _ g6 (fun e => ?_) (fun t r e => ?_)
  ·rw [e] at sL
   exact Stop.sub (show Stop L (0 + 1 + (hdT s).length + 1 + 1 + (whT s.wh).length + (ordT s ++ dnT s).length) finL from sL) (by
    intro x hx
    unfold finL
    simp only [List.mem_append, List.mem_cons, List.not_mem_nil, or_false] at hx ⊢
    rcases hx with hx | rfl | rfl | rfl <;> simp_all)
  ·rw [lT t r e]
   decide
 have s4 : Stop L (0 + 1 + (hdT s).length + 1 + 1 + (whT s.wh).length) (goL ++ [sWHERE]) := by
  refine next_stop _ g5 (fun e => ?_) (fun t r e => ?_)
  ·rw [e] at s5
   exact Stop.sub (show Stop L (0 + 1 + (hdT s).length + 1 + 1 + (whT s.wh).length) (goL ++ [sWHERE, sORDER, sDESC]) from s5) (by
    intro x hx
    simp only [List.mem_append, List.mem_cons, List.not_mem_nil, or_false] at hx ⊢
    rcases hx with hx | rfl <;> simp_all)
  ·rw [oT t r e]
   decide
 have a2 := wh_sh (n := n) h6 g4 s4
 have a3 := ord_sh (n := n) h7 h4 g5 (s5.sub (by intro x hx; simp only [List.mem_append, List.mem_cons, List.not_mem_nil, or_false] at hx ⊢; rcases hx with rfl | rfl <;> simp))
 have a4 := lim_sh (n := n) h2 g6 (sL sLIMIT (by simp [finL]))
 obtain ⟨_, m1, m2, _, m3, _⟩ := more_ok hm
 obtain ⟨k, t, cols, row, names, cnt, wh, ord, dn, lim, st, tz⟩ := s
 dsimp only at hk ht h1 h2 h3 h4 h5 h6 h7 m1 m2 m3
 subst hk
 have m1 := m1 (by decide)
 have m2 := m2 (by decide)
 have m3 := m3 (by decide)
 obtain ⟨m3, m4⟩ := m3
 subst m1 m2 m3 m4
 unfold partF
 rw [if_neg (by rw [may_mt g0]; decide), if_neg (by rw [may_mt g0]; decide), if_neg (by rw [may_mt g0]; decide), if_pos ((may_mt g0 _).trans (by decide))]
 unfold chooseF
 simp only [Nat.zero_add] at a1 a2 a3 a4 g2 g3
 rw [a1, bd_inr]
 unfold mustF
 rw [if_pos ((may_mt g2 _).trans (by decide))]
 unfold mustF
 rw [bd_inr, name_sh ht g3, bd_inr]
 dsimp only at a2 a3 a4 ⊢
 rw [a2, bd_inr]
 dsimp only
 rw [a3, bd_inr]
 dsimp only
 rw [a4, bd_inr]
 simp only [sq0, List.length_cons, List.length_append]
 congr 2
 omega
theorem must1 {L : List Tk} {n k : Nat} {s : ByteArray} (h : mayB L k s = true) : mustF L n k [s] = .inr (k + 1) := by
 unfold mustF
 rw [if_pos h]
 rfl
theorem must2 {L : List Tk} {n k : Nat} {s t : ByteArray} (h : mayB L k s = true) (h2 : mayB L (k + 1) t = true) : mustF L n k [s, t] = .inr (k + 1 + 1) := by
 unfold mustF
 rw [if_pos h]
 exact must1 h2
theorem part_sh {L : List Tk} {n : Nat} {s : Sq} (h : st0 s = 0) (hv : At L 0 (shT s)) (hs : Stop L (shT s).length finL) : partF L n sq0 = .inr ((shT s).length, s) := by
 obtain ⟨k1, k9, ht, hp, hm⟩ := st0_ok h
 by_cases k4 : s.k = 4
 ·have e : shT s = selT s := by unfold shT; rw [if_neg (by omega), if_neg (by omega), if_neg (by omega), if_pos k4]
  rw [e] at hv hs ⊢
  unfold partsF at hp
  rw [if_neg (by omega), if_neg (by omega), if_pos k4] at hp
  unfold tabF at ht
  rw [if_pos (by omega)] at ht
  exact choose_sh k4 hp ht hm hv hs
 ·obtain ⟨m0, m1, m2, m3, m4, m5⟩ := more_ok hm
  obtain ⟨k, t, cols, row, names, cnt, wh, ord, dn, lim, st, tz⟩ := s
  dsimp only at k1 k9 k4 m0 m1 m2 m3 m4 m5
  obtain ⟨n1, n2, n3, n4, n5⟩ := m3 k4
  subst n1 n2 n3 n4 n5
  have hk : k = 1 ∨ k = 2 ∨ k = 3 ∨ k = 5 ∨ k = 6 ∨ k = 7 ∨ k = 8 ∨ k = 9 := by omega
  rcases hk with rfl | rfl | rfl | rfl | rfl | rfl | rfl | rfl
  ·have ht : nmF t.data.toList = 0 := ht
   have hp : colsF cols = 0 := hp
   have x2 := m2 (by decide)
   obtain ⟨x4, x5⟩ := m4 (by decide)
   have x6 := m5 (by decide) (by decide) (by decide)
   subst x2 x4 x5 x6
   have hv : At L 0 (ptk sCREATE :: ptk sTABLE :: ptk t :: ptk sOpen :: (btw comma shC cols ++ [ptk sClose])) := hv
   obtain ⟨g0, hv⟩ := hv.one
   obtain ⟨g1, hv⟩ := hv.one
   obtain ⟨g2, hv⟩ := hv.one
   obtain ⟨g3, hv⟩ := hv.one
   obtain ⟨g4, hv⟩ := hv.app
   obtain ⟨g5, _⟩ := hv.one
   have a1 := col_sh (n := n) hp g4 ((may_mt g5 _).trans (by decide))
   unfold partF
   rw [if_pos ((may_mt g0 _).trans (by decide))]
   unfold createF
   rw [must1 ((may_mt g1 _).trans (by decide)), bd_inr, name_sh ht g2, bd_inr]
   dsimp only
   rw [must1 ((may_mt g3 _).trans (by decide)), bd_inr, show sq0.cols = [] from rfl, a1, bd_inr]
   dsimp only
   rw [must1 ((may_mt g5 _).trans (by decide)), bd_inr]
   simp only [sq0, shT, crT, List.length_cons, List.length_append, List.length_nil, if_true]
   congr 2
  ·have ht : nmF t.data.toList = 0 := ht
   have x1 := m1 (by decide)
   have x2 := m2 (by decide)
   obtain ⟨x4, x5⟩ := m4 (by decide)
   have x6 := m5 (by decide) (by decide) (by decide)
   subst x1 x2 x4 x5 x6
   have hv : At L 0 (ptk sDROP :: ptk sTABLE :: ptk t :: []) := hv
   obtain ⟨g0, hv⟩ := hv.one
   obtain ⟨g1, hv⟩ := hv.one
   obtain ⟨g2, _⟩ := hv.one
   unfold partF
   rw [if_neg (by rw [may_mt g0]; decide), if_pos ((may_mt g0 _).trans (by decide))]
   unfold dropF
   unfold mustF
   rw [if_pos ((may_mt g1 _).trans (by decide))]
   unfold mustF
   rw [bd_inr, name_sh ht g2, bd_inr]
   rfl
  ·have ht : nmF t.data.toList = 0 := ht
   have hp : insF row = 0 := hp
   have x1 := m1 (by decide)
   obtain ⟨x4, x5⟩ := m4 (by decide)
   have x6 := m5 (by decide) (by decide) (by decide)
   subst x1 x4 x5 x6
   have hv : At L 0 (ptk sINSERT :: ptk sINTO :: ptk t :: ptk sVALUES :: ptk sOpen :: (btw comma valT row ++ [ptk sClose])) := hv
   obtain ⟨g0, hv⟩ := hv.one
   obtain ⟨g1, hv⟩ := hv.one
   obtain ⟨g2, hv⟩ := hv.one
   obtain ⟨g3, hv⟩ := hv.one
   obtain ⟨g3', hv⟩ := hv.one
   obtain ⟨g4, hv⟩ := hv.app
   obtain ⟨g5, _⟩ := hv.one
   have a1 := val_sh (n := n) hp g4 ((may_mt g5 _).trans (by decide))
   unfold partF
   rw [if_neg (by rw [may_mt g0]; decide), if_neg (by rw [may_mt g0]; decide), if_pos ((may_mt g0 _).trans (by decide))]
   unfold insertF
   rw [must1 ((may_mt g1 _).trans (by decide)), bd_inr, name_sh ht g2, bd_inr]
   dsimp only
   rw [must2 ((may_mt g3 _).trans (by decide)) ((may_mt g3' _).trans (by decide)), bd_inr, show sq0.row = [] from rfl, a1, bd_inr]
   dsimp only
   rw [must1 ((may_mt g5 _).trans (by decide)), bd_inr]
   have e : (shT ⟨3, t, [], row, [], false, [], ⟨#[]⟩, false, -1, ⟨#[]⟩, []⟩).length = (btw comma valT row).length + 6 := by
    show ([ptk sINSERT, ptk sINTO, ptk t, ptk sVALUES, ptk sOpen] ++ (btw comma valT row ++ [ptk sClose])).length = _
    simp only [List.length_cons, List.length_append, List.length_nil]
    omega
   rw [e]
   simp only [sq0]
   congr 2
   omega
  ·have ht : nmF t.data.toList = 0 := ht
   have hp : f3 (nmF st.data.toList) (exprF tz) (whF wh) = 0 := hp
   obtain ⟨p1, p2, p3⟩ := f3_zero hp
   have x1 := m1 (by decide)
   have x2 := m2 (by decide)
   subst x1 x2
   have hv : At L 0 (ptk sUPDATE :: ptk t :: ptk sSET :: ptk st :: ptk sEq :: (exT tz ++ whT wh)) := hv
   have e : (shT ⟨5, t, [], [], [], false, wh, ⟨#[]⟩, false, -1, st, tz⟩).length = 5 + (exT tz).length + (whT wh).length := by
    show ([ptk sUPDATE, ptk t, ptk sSET, ptk st, ptk sEq] ++ (exT tz ++ whT wh)).length = _
    simp only [List.length_cons, List.length_append, List.length_nil]
    omega
   rw [e] at hs ⊢
   obtain ⟨g0, hv⟩ := hv.one
   obtain ⟨g1, hv⟩ := hv.one
   obtain ⟨g2, hv⟩ := hv.one
   obtain ⟨g3, hv⟩ := hv.one
   obtain ⟨g3', hv⟩ := hv.one
   obtain ⟨g4, g5⟩ := hv.app
   have s2 : Stop L (0 + 1 + 1 + 1 + 1 + 1 + (exT tz).length) goL := by
    refine next_stop _ g5 (fun e => ?_) (fun x r e => ?_)
    ·rw [e] at hs
     exact Stop.sub (show Stop L (5 + (exT tz).length) finL from hs) fin_go
    ·unfold whT at e
     split at e
     ·cases e
     ·rw [← (List.cons.inj e).1]
      decide
   have a1 := exp_sh (n := n) p2 g4 s2
   have a2 := wh_sh (n := n) p3 g5 (hs.sub (by
    intro x hx
    unfold finL
    simp only [List.mem_append, List.mem_cons, List.not_mem_nil, or_false] at hx ⊢
    rcases hx with hx | rfl <;> simp_all))
   unfold partF
   rw [if_neg (by rw [may_mt g0]; decide), if_neg (by rw [may_mt g0]; decide), if_neg (by rw [may_mt g0]; decide), if_neg (by rw [may_mt g0]; decide), if_pos ((may_mt g0 _).trans (by decide))]
   unfold updateF
   rw [name_sh ht g1, bd_inr]
   dsimp only
   rw [must1 ((may_mt g2 _).trans (by decide)), bd_inr, name_sh p1 g3, bd_inr]
   dsimp only
   rw [must1 ((may_mt g3' _).trans (by decide)), bd_inr]
   simp only [Nat.zero_add] at a1 a2
   rw [a1, bd_inr]
   dsimp only
   rw [a2, bd_inr]
   rfl
  ·have ht : nmF t.data.toList = 0 := ht
   have hp : whF wh = 0 := hp
   have x1 := m1 (by decide)
   have x2 := m2 (by decide)
   obtain ⟨x4, x5⟩ := m4 (by decide)
   subst x1 x2 x4 x5
   have hv : At L 0 (ptk sDELETE :: ptk sFROM :: ptk t :: whT wh) := hv
   have e : (shT ⟨6, t, [], [], [], false, wh, ⟨#[]⟩, false, -1, ⟨#[]⟩, []⟩).length = 3 + (whT wh).length := by
    show ([ptk sDELETE, ptk sFROM, ptk t] ++ whT wh).length = _
    simp only [List.length_cons, List.length_append, List.length_nil]
   rw [e] at hs ⊢
   obtain ⟨g0, hv⟩ := hv.one
   obtain ⟨g1, hv⟩ := hv.one
   obtain ⟨g2, g5⟩ := hv.one
   have a2 := wh_sh (n := n) hp g5 (hs.sub (by
    intro x hx
    unfold finL
    simp only [List.mem_append, List.mem_cons, List.not_mem_nil, or_false] at hx ⊢
    rcases hx with hx | rfl <;> simp_all))
   unfold partF
   rw [if_neg (by rw [may_mt g0]; decide), if_neg (by rw [may_mt g0]; decide), if_neg (by rw [may_mt g0]; decide), if_neg (by rw [may_mt g0]; decide), if_neg (by rw [may_mt g0]; decide), if_pos ((may_mt g0 _).trans (by decide))]
   unfold deleteF
   unfold mustF
   rw [if_pos ((may_mt g1 _).trans (by decide))]
   unfold mustF
   rw [bd_inr, name_sh ht g2, bd_inr]
   simp only [Nat.zero_add] at a2
   dsimp only
   rw [a2, bd_inr]
   rfl
  all_goals
   have x0 := m0 (by decide)
   have x1 := m1 (by decide)
   have x2 := m2 (by decide)
   obtain ⟨x4, x5⟩ := m4 (by decide)
   have x6 := m5 (by decide) (by decide) (by decide)
   subst x0 x1 x2 x4 x5 x6
   obtain ⟨g0, _⟩ := hv.one
   unfold partF
   rw [if_neg (by rw [may_mt g0]; decide), if_neg (by rw [may_mt g0]; decide), if_neg (by rw [may_mt g0]; decide), if_neg (by rw [may_mt g0]; decide), if_neg (by rw [may_mt g0]; decide), if_neg (by rw [may_mt g0]; decide)]
  ·rw [if_pos ((may_mt g0 _).trans (by decide))]
   rfl
  ·rw [if_neg (by rw [may_mt g0]; decide), if_pos ((may_mt g0 _).trans (by decide))]
   rfl
  ·rw [if_neg (by rw [may_mt g0]; decide), if_neg (by rw [may_mt g0]; decide), if_pos ((may_mt g0 _).trans (by decide))]
   rfl
theorem at_self (L : List Tk) : At L 0 L := ⟨[], by simp⟩
theorem end_none (L : List Tk) : L.getD L.length tk0 = tk0 := by simp [List.getD, List.getElem?_eq_none (Nat.le_refl _)]
theorem end_stop (L : List Tk) (l : List ByteArray) : Stop L L.length l := Stop.of (end_none L) fun s _ => rfl
theorem stmt_sh {s : Sq} (h : st0 s = 0) : stmtF (shT s) (shT s).length = .inr s := by
 unfold stmtF
 rw [part_sh h (at_self _) (end_stop _ _), bd_inr, if_neg]
 obtain ⟨k1, k9, _⟩ := st0_ok h
 dsimp only
 omega
theorem stmt_more {s : Sq} (h : st0 s = 0) : stmtF (shT s ++ [ptk sClose]) ((shT s).length + 1) = .inl (((shT s).length : Int), 6) := by
 have g : (shT s ++ [ptk sClose]).getD (shT s).length tk0 = ptk sClose := by simp [List.getD]
 unfold stmtF
 rw [part_sh h ⟨[ptk sClose], by simp⟩ (Stop.of g (by decide)), bd_inr, if_pos (Or.inr (by dsimp only; omega))]
 unfold fl
 rw [if_neg (by dsimp only; omega)]
theorem stmt_ahead (L : List Tk) (n : Nat) (h : 0 < n) : stmtF (ptk sOpen :: L) n = .inl (0, 6) := by
 have g0 : (ptk sOpen :: L).getD 0 tk0 = ptk sOpen := rfl
 have e : partF (ptk sOpen :: L) n sq0 = .inr (0, sq0) := by
  unfold partF
  simp only [may_mt g0]
  rfl
 unfold stmtF
 rw [e, bd_inr, if_pos (Or.inl (by rfl))]
 unfold fl
 rw [if_neg (by dsimp only; omega)]
 rfl
end Go.Proofs.YtdeollmeljaaoaaDoor.rd
