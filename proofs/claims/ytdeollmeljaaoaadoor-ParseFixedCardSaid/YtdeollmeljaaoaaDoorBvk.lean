import Derived.Test.YtdeollmeljaaoaaDoorAyk
import Derived.Test.YtdeollmeljaaoaaDoorGwk
import Derived.Test.YtdeollmeljaaoaaDoorBfk
import Derived.Test.YtdeollmeljaaoaaDoorB0k
import Derived.Deep.Slices
import Derived.Deep.Fields
import Derived.SizedLaws
import Derived.Lib.SmallJoins
import Derived.Deep.Strs
/- An argument of tokens: opened. -/
namespace Go.Proofs.YtdeollmeljaaoaaDoor.rd
open Go.ChangeShapes Go.WideShapes Go.ChangeAt Go.RowKit Go.Joins Go.Deep
set_option linter.unusedVariables false
set_option linter.unusedSimpArgs false
set_option maxHeartbeats 1000000
section
variable {H : Type} {enc : TypeId × Value → H} {w : World} {base : Nat} {held : Bool}
theorem tok_cells {n : Nat} {cs : List Value} {y : DataW H × List MemPlace} (h : DataW.trod enc Tryd.prog w base (fun _ => true) held n 45 cs = some y) : ∃ u : Tk, cs = tkc [u] ∧ (u.t.length ≤ maxLen ∧ u.n ≤ 9223372036854775807) := by
  obtain ⟨y0, y1, y2, m, _, hl, h0, h1, h2⟩ := trod_struct3 Tryd.underlying45 h
  rw [show Tryd.prog.cellsOf 45 = 3 by kernel_rfl] at hl
  dsimp only at h0 h1 h2
  rw [show Tryd.prog.cellsOf 3 = 1 by kernel_rfl] at h0 h2
  rw [show Tryd.prog.cellsOf 9 = 1 by kernel_rfl] at h1
  match cs, hl with
  | [c0, c1, c2], _ =>
    obtain ⟨k, e0, _, w0⟩ := DataW.trod_int Tryd.underlying3 h0
    obtain ⟨s, e1, _, w1⟩ := DataW.trod_string Tryd.underlying9 h1
    obtain ⟨m, e2, _, w2⟩ := DataW.trod_int Tryd.underlying3 h2
    simp at e0 e1 e2
    subst e0 e1 e2
    have hs : s.data.toList.length = s.size := Array.length_toList
    exact ⟨⟨k, s.data.toList, m⟩, rfl, by dsimp only; omega, (rn_of w2).2⟩
theorem tkcs_map (q : Tk → Prop) : ∀ (n : Nat) (vs : List Value), vs.length = n * 3 → (∀ i, i < n → ∃ y : Tk, (vs.drop (i * 3)).take 3 = tkc [y] ∧ q y) → ∃ l : List Tk, l.length = n ∧ vs = tkc l ∧ ∀ y ∈ l, q y
  | 0, vs, hl, _ => ⟨[], rfl, List.eq_nil_of_length_eq_zero (by simpa using hl), by simp⟩
  | n + 1, vs, hl, h => by
    obtain ⟨y, hy, hq⟩ := h 0 (by omega)
    obtain ⟨l, h1, h2, h3⟩ := tkcs_map q n (vs.drop 3) (by rw [List.length_drop, hl]; omega) (fun i hi => by
      obtain ⟨z, hz, hqz⟩ := h (i + 1) (by omega)
      refine ⟨z, ?_, hqz⟩
      rw [List.drop_drop, show 3 + i * 3 = (i + 1) * 3 by omega]
      exact hz)
    refine ⟨y :: l, by rw [List.length_cons, h1], ?_, fun z hz => ?_⟩
    · have e := (List.take_append_drop 3 vs).symm
      rw [Nat.zero_mul, List.drop_zero] at hy
      rw [hy, h2] at e
      rw [e]
      rfl
    · rcases List.mem_cons.1 hz with rfl | hz
      · exact hq
      · exact h3 z hz
set_option maxRecDepth 100000 in
/-- Tokens that are an argument. -/
theorem open_toks {r : Reach} {b0 : Nat} {v : Value} {d : DataW H} {p : List MemPlace} (hv : Value.okWide Tryd.prog w r b0 35 v) (h : DataW.Trod enc Tryd.prog w base (fun _ => true) held 35 v d p) (hs : small Tryd.prog 35 d) :
    ∃ (n : Nat) (l : List Tk), Rd w 3 n v (tkc l) ∧ n * 32 ≤ 140737488351232 ∧ ∀ k, (l.getD k tk0).t.length ≤ maxLen ∧ (l.getD k tk0).n ≤ 9223372036854775807 := by
  obtain ⟨a0, len, cap, rfl⟩ := okWide_slice Tryd.underlying35 hv
  obtain ⟨fuel, hf⟩ := h
  obtain ⟨v, n, vs, e, h1, h2, h3⟩ := open_rows Tryd.underlying35 (C := 3) (by kernel_rfl) (by omega) hf hs (R := fun cs' => ∃ u : Tk, cs' = tkc [u] ∧ (u.t.length ≤ maxLen ∧ u.n ≤ 9223372036854775807)) (fun _ _ _ hy _ => tok_cells hy)
  simp [Value.cells] at e
  subst e
  obtain ⟨l, g1, g2, g3⟩ := tkcs_map _ n vs h1.1 h3
  subst g2
  rw [show Tryd.prog.bytesOf 45 = 32 by kernel_rfl] at h2
  simp only [reachBytes] at h2
  refine ⟨n, l, h1, by omega, fun k => ?_⟩
  by_cases hk : k < l.length
  · exact g3 _ (tmem hk)
  · rw [show l.getD k tk0 = tk0 by simp [List.getD, List.getElem?_eq_none (show l.length ≤ k by omega)]]
    exact ⟨by show (0 : Nat) ≤ _; omega, by show (0 : Int) ≤ _; omega⟩
end
end Go.Proofs.YtdeollmeljaaoaaDoor.rd
/- An expression that is shown is parsed as it was. Plain. -/
namespace Go.Proofs.YtdeollmeljaaoaaDoor.rd
open Go.Proofs.YtdeollmeljaaoaaDoor.cs
set_option linter.unusedVariables false
set_option linter.unusedSimpArgs false
set_option maxRecDepth 100000
/-- Is a token this word or mark? -/
def mt (t : Tk) (s : ByteArray) : Bool := (t.k == 1 || t.k == 4) && decide ((⟨t.t.toArray⟩ : ByteArray) = s)
theorem may_mt {L : List Tk} {k : Nat} {t : Tk} (h : L.getD k tk0 = t) (s : ByteArray) : mayB L k s = mt t s := by
  unfold mayB mt
  rw [h]
/-- What stands from a place on. -/
def At (L : List Tk) (k : Nat) (T : List Tk) : Prop := T <+: L.drop k
theorem At.app {L : List Tk} {k : Nat} {A B : List Tk} (h : At L k (A ++ B)) : At L k A ∧ At L (k + A.length) B := by
  obtain ⟨r, hr⟩ := h
  refine ⟨⟨B ++ r, by rw [← hr]; simp⟩, ⟨r, ?_⟩⟩
  rw [← List.drop_drop, ← hr]
  simp
theorem At.one {L : List Tk} {k : Nat} {t : Tk} {T : List Tk} (h : At L k (t :: T)) : L.getD k tk0 = t ∧ At L (k + 1) T := by
  have h2 := At.app (A := [t]) (B := T) h
  refine ⟨?_, h2.2⟩
  obtain ⟨r, hr⟩ := h
  have : (L.drop k)[0]? = some t := by rw [← hr]; rfl
  rw [List.getElem?_drop] at this
  simp only [Nat.add_zero] at this
  simp [List.getD, this]
theorem At.len {L : List Tk} {k : Nat} {T : List Tk} (h : At L k T) : T.length ≤ L.length - k := by
  have := List.IsPrefix.length_le h
  simpa using this
/-- None of these stands there. -/
def Stop (L : List Tk) (k : Nat) (l : List ByteArray) : Prop := ∀ s ∈ l, mayB L k s = false
theorem Stop.of {L : List Tk} {k : Nat} {t : Tk} {l : List ByteArray} (h : L.getD k tk0 = t) (hs : ∀ s ∈ l, mt t s = false) : Stop L k l := fun s hm => (may_mt h s).trans (hs s hm)
theorem Stop.sub {L : List Tk} {k : Nat} {l m : List ByteArray} (h : Stop L k l) (hs : ∀ s ∈ m, s ∈ l) : Stop L k m := fun s hm => h s (hs s hm)
abbrev sPlus : ByteArray := ⟨#[43]⟩
abbrev sNe : ByteArray := ⟨#[60, 62]⟩
abbrev sLt : ByteArray := ⟨#[60]⟩
abbrev sGe : ByteArray := ⟨#[62, 61]⟩
abbrev sGt : ByteArray := ⟨#[62]⟩
abbrev sLe : ByteArray := ⟨#[60, 61]⟩
abbrev sAND : ByteArray := ⟨#[65, 78, 68]⟩
abbrev sOR : ByteArray := ⟨#[79, 82]⟩
/-- What an expression goes on with: signs of arithmetic; with comparisons; with AND; with OR. -/
def aL : List ByteArray := [sStar, sPlus, sMinus]
def cL : List ByteArray := [sIS, sEq, sNe, sLt, sGe, sGt, sLe]
def goL : List ByteArray := aL ++ (cL ++ [sAND, sOR])
theorem sign_none {L : List Tk} {k : Nat} : ∀ {ks : List Nat}, (∀ q ∈ ks, mayB L k ⟨(sgL.getD q []).toArray⟩ = false) → signF L k ks = none
  | [], h => rfl
  | q :: l, h => by
    unfold signF
    rw [if_neg (by rw [h q (by simp)]; simp)]
    exact sign_none fun x hx => h x (by simp [hx])
theorem sign10 {L : List Tk} {k : Nat} {l : List ByteArray} (h : Stop L k l) (hs : sStar ∈ l) : signF L k [10] = none := sign_none (by
  intro q hq
  simp only [List.mem_singleton] at hq
  subst hq
  exact h _ hs)
theorem sign89 {L : List Tk} {k : Nat} {l : List ByteArray} (h : Stop L k l) (h1 : sPlus ∈ l) (h2 : sMinus ∈ l) : signF L k [8, 9] = none := sign_none (by
  intro q hq
  simp only [List.mem_cons, List.not_mem_nil, or_false] at hq
  rcases hq with rfl | rfl
  · exact h _ h1
  · exact h _ h2)
theorem sign3 {L : List Tk} {k : Nat} {l : List ByteArray} (h : Stop L k l) (hs : sAND ∈ l) : signF L k [3] = none := sign_none (by
  intro q hq
  simp only [List.mem_singleton] at hq
  subst hq
  exact h _ hs)
theorem sign4 {L : List Tk} {k : Nat} {l : List ByteArray} (h : Stop L k l) (hs : sOR ∈ l) : signF L k [4] = none := sign_none (by
  intro q hq
  simp only [List.mem_singleton] at hq
  subst hq
  exact h _ hs)
theorem loop_stop {L : List Tk} {th : R} {ks : List Nat} {k : Nat} {os : List Oq} (h : signF L k ks = none) : ∀ f, loopC L th ks f k os = .inr (k, os)
  | 0 => rfl
  | f + 1 => by unfold loopC; rw [h]
theorem chain_stop {L : List Tk} {th : R} {ks : List Nat} {k k1 : Nat} {os o1 : List Oq} (h : th k os = .inr (k1, o1)) (h1 : signF L k1 ks = none) : chainF L th ks k os = .inr (k1, o1) := by
  unfold chainF
  rw [h, bd_inr]
  exact loop_stop h1 _
theorem put_ok {o : Oq} {k : Nat} {os : List Oq} (h : os.length < 40) : putF o k os = .inr (k, os ++ [o]) := by
  unfold putF
  rw [if_neg (by omega)]
theorem chain_two {L : List Tk} {th : R} {ks : List Nat} {k k1 k2 q : Nat} {os o1 o2 : List Oq} (h : th k os = .inr (k1, o1)) (hq : signF L k1 ks = some q) (h2 : th (k1 + 1) o1 = .inr (k2, o2)) (ho : o2.length < 40) (h3 : signF L k2 ks = none) (hL : 0 < L.length) :
    chainF L th ks k os = .inr (k2, o2 ++ [opO q]) := by
  unfold chainF
  rw [h, bd_inr]
  obtain ⟨f, hf⟩ : ∃ f, L.length = f + 1 := ⟨L.length - 1, by omega⟩
  rw [hf]
  unfold loopC
  simp only [hq, h2, bd_inr, put_ok ho]
  exact loop_stop h3 _
theorem den_stop {L : List Tk} {cmp : R} {k : Nat} {os : List Oq} (h : mayB L k sNOT = false) : ∀ f, deniedF L cmp f k os = cmp k os
  | 0 => rfl
  | f + 1 => by unfold deniedF; rw [h]; rfl
theorem den_not {L : List Tk} {cmp : R} {k k1 : Nat} {os o1 : List Oq} (h : mayB L k sNOT = true) (h1 : mayB L (k + 1) sNOT = false) (hc : cmp (k + 1) os = .inr (k1, o1)) (ho : o1.length < 40) (hL : 0 < L.length) : deniedF L cmp L.length k os = .inr (k1, o1 ++ [opO 5]) := by
  obtain ⟨f, hf⟩ : ∃ f, L.length = f + 1 := ⟨L.length - 1, by omega⟩
  rw [hf]
  unfold deniedF
  rw [h, den_stop h1, hc]
  simp [put_ok ho]
theorem cmpF_none {L : List Tk} {k : Nat} {l : List ByteArray} (h : Stop L k l) (hs : ∀ s ∈ cL, s ∈ l) : cmpF L k cmL = none := by
  have a1 := h sEq (hs _ (by simp [cL]))
  have a2 := h sNe (hs _ (by simp [cL]))
  have a3 := h sLt (hs _ (by simp [cL]))
  have a4 := h sGe (hs _ (by simp [cL]))
  have a5 := h sGt (hs _ (by simp [cL]))
  have a6 := h sLe (hs _ (by simp [cL]))
  simp only [cmL, cmpF, a1, a2, a3, a4, a5, a6, Bool.false_eq_true, if_false]
theorem cmp_stop {L : List Tk} {n : Nat} {sm : R} {k k1 : Nat} {os o1 : List Oq} {l : List ByteArray} (h : sm k os = .inr (k1, o1)) (hl : Stop L k1 l) (hs : ∀ s ∈ cL, s ∈ l) : comparisonF L n sm k os = .inr (k1, o1) := by
  unfold comparisonF
  rw [h, bd_inr, if_neg (by rw [hl sIS (hs _ (by simp [cL]))]; simp), cmpF_none hl hs]
theorem cmp_two {L : List Tk} {n : Nat} {sm : R} {k k1 k2 : Nat} {os o1 o2 : List Oq} {c : Cmq} (h : sm k os = .inr (k1, o1)) (hi : mayB L k1 sIS = false) (hc : cmpF L k1 cmL = some c) (ht : c.tn = false) (hn : c.nt = false) (h2 : sm (k1 + 1) o1 = .inr (k2, o2)) (ho : o2.length < 40) :
    comparisonF L n sm k os = .inr (k2, o2 ++ [opO c.q]) := by
  unfold comparisonF
  rw [h, bd_inr, if_neg (by rw [hi]; simp), hc]
  simp only [h2, bd_inr, ht, hn, compareF, put_ok ho, Bool.false_eq_true, if_false]
theorem cmp_null {L : List Tk} {n : Nat} {sm : R} {k k1 : Nat} {os o1 : List Oq} (h : sm k os = .inr (k1, o1)) (hi : mayB L k1 sIS = true) (h1 : mayB L (k1 + 1) sNOT = false) (h2 : mayB L (k1 + 1) sNULL = true) (ho : o1.length < 40) :
    comparisonF L n sm k os = .inr (k1 + 2, o1 ++ [opO 11]) := by
  unfold comparisonF isF
  rw [h, bd_inr, if_pos hi]
  simp only [h1, h2, compareF, put_ok ho, bd_inr, Bool.false_eq_true, if_false, if_true]
section
variable {L : List Tk} {n : Nat} {E : R} {k k1 : Nat} {os o1 : List Oq} {l : List ByteArray}
theorem th_prod (h : thingF L n E k os = .inr (k1, o1)) (hl : Stop L k1 l) (hs : ∀ s ∈ aL, s ∈ l) : productF L n E k os = .inr (k1, o1) := chain_stop h (sign10 hl (hs _ (by simp [aL])))
theorem prod_sum (h : productF L n E k os = .inr (k1, o1)) (hl : Stop L k1 l) (hs : ∀ s ∈ aL, s ∈ l) : sumF L n E k os = .inr (k1, o1) := chain_stop h (sign89 hl (hs _ (by simp [aL])) (hs _ (by simp [aL])))
theorem th_sum (h : thingF L n E k os = .inr (k1, o1)) (hl : Stop L k1 l) (hs : ∀ s ∈ aL, s ∈ l) : sumF L n E k os = .inr (k1, o1) := prod_sum (th_prod h hl hs) hl hs
theorem sum_den (h : sumF L n E k os = .inr (k1, o1)) (hN : mayB L k sNOT = false) (hl : Stop L k1 l) (hs : ∀ s ∈ cL, s ∈ l) : denF L n E k os = .inr (k1, o1) := by
  unfold denF
  rw [den_stop hN]
  exact cmp_stop h hl hs
theorem den_either (h : denF L n E k os = .inr (k1, o1)) (hl : Stop L k1 l) (h3 : sAND ∈ l) (h4 : sOR ∈ l) : eitherF L n E k os = .inr (k1, o1) := chain_stop (chain_stop h (sign3 hl h3)) (sign4 hl h4)
theorem th_either (h : thingF L n E k os = .inr (k1, o1)) (hN : mayB L k sNOT = false) (hl : Stop L k1 goL) : eitherF L n E k os = .inr (k1, o1) :=
  den_either (sum_den (th_sum h hl (by simp [goL, aL])) hN hl (fun s hs => by simp only [goL, List.mem_append]; exact Or.inr (Or.inl hs))) hl (by simp [goL]) (by simp [goL])
end
/-- A name is no word that is kept, and no mark. -/
theorem mt_name {t s : ByteArray} (h : nmF t.data.toList = 0) (hs : nmF s.data.toList ≠ 0) : mt (ptk t) s = false := by
  unfold mt
  have : (⟨(ptk t).t.toArray⟩ : ByteArray) = t := rfl
  rw [this]
  have : t ≠ s := fun e => hs (by rw [← e]; exact h)
  simp [this]
theorem nm_tk {t : ByteArray} (h : nmF t.data.toList = 0) : tkF 1 t.data.toList 0 = 0 := by
  unfold nmF at h
  split at h
  · omega
  · split at h
    · omega
    · rename_i h2
      by_cases h3 : tkF 1 t.data.toList 0 = 0
      · exact h3
      · exact absurd (Or.inl h3) h2
theorem ptk_k {t : ByteArray} (h : nmF t.data.toList = 0) : (ptk t).k = 1 := by
  unfold ptk
  rw [if_pos (nm_tk h)]
theorem name_sh {L : List Tk} {n k : Nat} {t : ByteArray} (h : nmF t.data.toList = 0) (ht : L.getD k tk0 = ptk t) : nameG L n k = .inr (t, k + 1) := by
  unfold nameG
  rw [ht, if_pos (ptk_k h), if_pos (show nmF (ptk t).t = 0 from h)]
  rfl
theorem lit_name {L : List Tk} {n k : Nat} {t : ByteArray} (h : nmF t.data.toList = 0) (ht : L.getD k tk0 = ptk t) : litG L n k = .inr (none, k) := by
  unfold litG
  have hk := ptk_k h
  rw [may_mt ht, may_mt ht, may_mt ht, may_mt ht, mt_name h (by decide), mt_name h (by decide), mt_name h (by decide), mt_name h (by decide), ht]
  simp [hk]
/-- What begins a value that is shown is not one of these. -/
def noL : List ByteArray := [sOpen, sClose, sNOT, sComma]
theorem lit_sh {L : List Tk} {n k : Nat} {v : V} (h : Go.Proofs.YtdeollmeljaaoaaDoor.litF v.k v.n v.t = 0) (hv : At L k (valT v)) : litG L n k = .inr (some v, k + (valT v).length) ∧ Stop L k noL := by
  obtain ⟨vk, vn, vt⟩ := v
  have h : Go.Proofs.YtdeollmeljaaoaaDoor.litF vk vn vt = 0 := h
  unfold Go.Proofs.YtdeollmeljaaoaaDoor.litF chk at h
  split at h
  · omega
  · rename_i hm
    split at h
    · omega
    · split at h
      · omega
      · split at h
        · omega
        · rename_i h1 h2 h3
          split at h
          · omega
          · rename_i h4
            by_cases k3 : vk = 3
            · subst k3
              have hn : vn = 0 := by
                by_cases e : vn = 0
                · exact e
                · exact absurd (Or.inr (by simp [nmb, e])) h3
              subst hn
              have hg := (At.one (show At L k (⟨3, vt.data.toList, 0⟩ :: []) from hv)).1
              constructor
              · unfold litG
                have hs : vt.data.toList.length = vt.size := Array.length_toList
                have m0 : ∀ s, mt ⟨3, vt.data.toList, 0⟩ s = false := fun s => rfl
                rw [may_mt hg, may_mt hg, may_mt hg, may_mt hg, m0, m0, m0, m0, hg]
                simp only [Bool.false_eq_true, if_false]
                rw [if_neg (by decide), if_pos trivial, if_neg (by rw [hs]; exact h4)]
                rfl
              · exact Stop.of hg (by simp [mt])
            · have ht : vt = ⟨#[]⟩ := by
                apply empty_of
                cases e : vt.toList with
                | nil => rfl
                | cons a l => exact absurd (Or.inl ⟨k3, by simp [e]⟩) h3
              subst ht
              have hb : nmb vk vn = true := by
                cases e : nmb vk vn with
                | true => rfl
                | false => exact absurd (Or.inr e) h3
              by_cases k2 : vk = 2
              · subst k2
                by_cases hn : vn < 0
                · have e : valT ⟨2, vn, ⟨#[]⟩⟩ = [ptk sMinus, ⟨2, [], -vn⟩] := by simp [valT, hn]
                  rw [e] at hv ⊢
                  obtain ⟨g1, g2⟩ := At.one hv
                  obtain ⟨g3, _⟩ := At.one g2
                  constructor
                  · unfold litG
                    rw [may_mt g1, may_mt g1, may_mt g1, may_mt g1, show mt (ptk sMinus) sNULL = false by decide, show mt (ptk sMinus) sFALSE = false by decide, show mt (ptk sMinus) sTRUE = false by decide, show mt (ptk sMinus) sMinus = true by decide, g3]
                    simp
                  · exact Stop.of g1 (by decide)
                · have e : valT ⟨2, vn, ⟨#[]⟩⟩ = [⟨2, [], vn⟩] := by simp [valT, hn]
                  rw [e] at hv ⊢
                  obtain ⟨g1, _⟩ := At.one hv
                  constructor
                  · unfold litG
                    simp only [may_mt g1, g1, mt]
                    simp
                  · exact Stop.of g1 (by simp [mt])
              · by_cases k0 : vk = 0
                · subst k0
                  have hn : vn = 0 := by simpa [nmb] using hb
                  subst hn
                  obtain ⟨g1, _⟩ := At.one (show At L k (ptk sNULL :: []) from hv)
                  constructor
                  · unfold litG
                    rw [may_mt g1, show mt (ptk sNULL) sNULL = true by decide]
                    rfl
                  · exact Stop.of g1 (by decide)
                · have k1 : vk = 1 := by omega
                  subst k1
                  have hn : vn = 0 ∨ vn = 1 := by simpa [nmb] using hb
                  rcases hn with rfl | rfl
                  · obtain ⟨g1, _⟩ := At.one (show At L k (ptk sFALSE :: []) from hv)
                    constructor
                    · unfold litG
                      rw [may_mt g1, may_mt g1, show mt (ptk sFALSE) sNULL = false by decide, show mt (ptk sFALSE) sFALSE = true by decide]
                      rfl
                    · exact Stop.of g1 (by decide)
                  · obtain ⟨g1, _⟩ := At.one (show At L k (ptk sTRUE :: []) from hv)
                    constructor
                    · unfold litG
                      rw [may_mt g1, may_mt g1, may_mt g1, show mt (ptk sTRUE) sNULL = false by decide, show mt (ptk sTRUE) sFALSE = false by decide, show mt (ptk sTRUE) sTRUE = true by decide]
                      rfl
                    · exact Stop.of g1 (by decide)
/-- How deep brackets stand in each other. -/
def dep : Tx → Nat
  | .leaf o => 0
  | .un o a => dep a + 1
  | .bi o a b => max (dep a) (dep b) + 1
theorem dep_len : ∀ t : Tx, dep t ≤ (shX t).length
  | .leaf o => by simp [dep]
  | .un o a => by
    have := dep_len a
    have : (shX a).length + 1 ≤ (onT o.k (shX a)).length := by unfold onT; split <;> simp
    simp only [dep, shX]
    omega
  | .bi o a b => by
    have h1 := dep_len a
    have h2 := dep_len b
    simp only [dep, shX, twT_len]
    omega
theorem op_nul {o : Oq} (h : opF o.k o.v.k o.v.n o.v.t o.t = 0) (h1 : o.k ≠ 1) (h2 : o.k ≠ 2) : ∃ q : Nat, o = opO q ∧ 1 ≤ q ∧ q ≤ 11 := by
  obtain ⟨k, ⟨vk, vn, vt⟩, t⟩ := o
  have h : opF k vk vn vt t = 0 := h
  unfold opF at h
  split at h
  · omega
  · rename_i hk
    split at h
    · omega
    · split at h
      · omega
      · rename_i h3
        have e1 : vnul vk vn vt = true := by
          cases e : vnul vk vn vt with
          | true => rfl
          | false => exact absurd (Or.inl ⟨h1, e⟩) h3
        have e2 : t.toList.isEmpty = true := by
          cases e : t.toList.isEmpty with
          | true => rfl
          | false => exact absurd (Or.inr ⟨h2, e⟩) h3
        simp only [vnul, Bool.and_eq_true, beq_iff_eq] at e1
        obtain ⟨rfl, rfl, e3⟩ := e1
        have e3 := empty_of (List.isEmpty_iff.1 e3)
        have e2 := empty_of (List.isEmpty_iff.1 e2)
        subst e3 e2
        refine ⟨k.toNat, ?_, by omega, by omega⟩
        unfold opO v0
        congr 1
        omega
theorem leaf_sh {L : List Tk} {n k : Nat} {E : R} {os : List Oq} {o : Oq} (hw : wks o.k = 0) (h : opF o.k o.v.k o.v.n o.v.t o.t = 0) (hv : At L k (lfT o)) (ho : os.length < 40) : thingF L n E k os = .inr (k + (lfT o).length, os ++ [o]) ∧ mayB L k sNOT = false := by
  have hk : o.k = 1 ∨ o.k = 2 := by
    unfold wks at hw
    split at hw
    · assumption
    · split at hw <;> omega
  obtain ⟨ok, v, t⟩ := o
  unfold opF at h
  dsimp only at h hk
  split at h
  · omega
  · split at h
    · omega
    · rename_i hl
      split at h
      · omega
      · rename_i h3
        rcases hk with rfl | rfl
        · have et : t = ⟨#[]⟩ := by
            apply empty_of
            cases e : t.toList with
            | nil => rfl
            | cons a l => exact absurd (Or.inr ⟨by decide, by simp [e]⟩) h3
          subst et
          obtain ⟨g1, g2⟩ := lit_sh (n := n) (show Go.Proofs.YtdeollmeljaaoaaDoor.litF v.k v.n v.t = 0 by simpa using hl) (show At L k (valT v) from hv)
          refine ⟨?_, g2 _ (by simp [noL])⟩
          unfold thingF leafF
          rw [if_neg (by rw [g2 sOpen (by simp [noL])]; simp), g1, bd_inr]
          exact put_ok ho
        · have ev : v = v0 := by
            obtain ⟨vk, vn, vt⟩ := v
            have e1 : vnul vk vn vt = true := by
              cases e : vnul vk vn vt with
              | true => rfl
              | false => exact absurd (Or.inl ⟨by decide, e⟩) h3
            simp only [vnul, Bool.and_eq_true, beq_iff_eq] at e1
            obtain ⟨rfl, rfl, e3⟩ := e1
            rw [empty_of (List.isEmpty_iff.1 e3)]
            rfl
          subst ev
          rw [if_pos rfl] at h
          have ht := (At.one (show At L k (ptk t :: []) from hv)).1
          refine ⟨?_, (may_mt ht _).trans (mt_name h (by decide))⟩
          unfold thingF leafF
          rw [if_neg (by rw [may_mt ht, mt_name h (by decide)]; simp), lit_name h ht, bd_inr]
          dsimp only
          rw [name_sh h ht, bd_inr]
          exact put_ok ho
theorem box_sh {L : List Tk} {n d k k2 : Nat} {os o2 : List Oq} (ho : L.getD k tk0 = ptk sOpen) (h : eitherF L n (eithD L n d) (k + 1) os = .inr (k2, o2)) (hc : L.getD k2 tk0 = ptk sClose) : thingF L n (eithD L n (d + 1)) k os = .inr (k2 + 1, o2) ∧ mayB L k sNOT = false := by
  refine ⟨?_, (may_mt ho _).trans (by decide)⟩
  unfold thingF
  rw [if_pos ((may_mt ho _).trans (by decide))]
  show bd (eitherF L n (eithD L n d) (k + 1) os) _ = _
  rw [h, bd_inr, if_pos ((may_mt hc _).trans (by decide))]
theorem ga : ∀ s ∈ aL, s ∈ goL := fun s h => List.mem_append_left _ h
theorem gc : ∀ s ∈ cL, s ∈ goL := fun s h => List.mem_append_right _ (List.mem_append_left _ h)
theorem g3 : sAND ∈ goL := by simp [goL]
theorem g4 : sOR ∈ goL := by simp [goL]
theorem bi_sh {L : List Tk} {n k k1 k2 q : Nat} {E : R} {os o1 o2 : List Oq} (hq : q = 3 ∨ q = 4 ∨ q = 6 ∨ q = 7 ∨ q = 8 ∨ q = 9 ∨ q = 10) (ha : thingF L n E k os = .inr (k1, o1)) (hN : mayB L k sNOT = false) (hs : L.getD k1 tk0 = ptk (sgT q)) (hb : thingF L n E (k1 + 1) o1 = .inr (k2, o2)) (hN2 : mayB L (k1 + 1) sNOT = false)
    (hc : Stop L k2 goL) (ho : o2.length < 40) (hL : 0 < L.length) : eitherF L n E k os = .inr (k2, o2 ++ [opO q]) := by
  rcases hq with rfl | rfl | rfl | rfl | rfl | rfl | rfl
  · have s1 : Stop L k1 (aL ++ cL) := Stop.of hs (by decide)
    have d1 := sum_den (th_sum ha s1 (fun s h => List.mem_append_left _ h)) hN s1 (fun s h => List.mem_append_right _ h)
    have d2 := sum_den (th_sum hb hc ga) hN2 hc gc
    have q1 : signF L k1 [3] = some 3 := by
      unfold signF
      rw [if_pos ((may_mt hs _).trans (by decide))]
    exact chain_stop (chain_two d1 q1 d2 ho (sign3 hc g3) hL) (sign4 hc g4)
  · have s1 : Stop L k1 (aL ++ (cL ++ [sAND])) := Stop.of hs (by decide)
    have d1 := chain_stop (ks := [3]) (sum_den (th_sum ha s1 (fun s h => List.mem_append_left _ h)) hN s1 (fun s h => List.mem_append_right _ (List.mem_append_left _ h))) (sign3 s1 (by simp))
    have d2 := chain_stop (ks := [3]) (sum_den (th_sum hb hc ga) hN2 hc gc) (sign3 hc g3)
    have q1 : signF L k1 [4] = some 4 := by
      unfold signF
      rw [if_pos ((may_mt hs _).trans (by decide))]
    exact chain_two d1 q1 d2 ho (sign4 hc g4) hL
  · have s1 : Stop L k1 aL := Stop.of hs (by decide)
    have c1 := cmp_two (n := n) (c := ⟨[61], 6, false, false⟩) (th_sum ha s1 (fun s h => h)) ((may_mt hs _).trans (by decide)) (by simp only [cmL, cmpF]; rw [if_pos ((may_mt hs _).trans (by decide))]) rfl rfl (th_sum hb hc ga) ho
    refine den_either ?_ hc g3 g4
    unfold denF
    rw [den_stop hN]
    exact c1
  · have s1 : Stop L k1 aL := Stop.of hs (by decide)
    have c1 := cmp_two (n := n) (c := ⟨[60], 7, false, false⟩) (th_sum ha s1 (fun s h => h)) ((may_mt hs _).trans (by decide)) (by
      simp only [cmL, cmpF]
      rw [if_neg (by rw [may_mt hs]; decide), if_neg (by rw [may_mt hs]; decide), if_pos ((may_mt hs _).trans (by decide))]) rfl rfl (th_sum hb hc ga) ho
    refine den_either ?_ hc g3 g4
    unfold denF
    rw [den_stop hN]
    exact c1
  · have s1 : Stop L k1 [sStar] := Stop.of hs (by decide)
    have d1 : productF L n E k os = .inr (k1, o1) := chain_stop ha (sign10 s1 (by simp))
    have d2 := th_prod hb hc ga
    have q1 : signF L k1 [8, 9] = some 8 := by
      unfold signF
      rw [if_pos ((may_mt hs _).trans (by decide))]
    exact den_either (sum_den (chain_two d1 q1 d2 ho (sign89 hc (ga _ (by simp [aL])) (ga _ (by simp [aL]))) hL) hN hc gc) hc g3 g4
  · have s1 : Stop L k1 [sStar] := Stop.of hs (by decide)
    have d1 : productF L n E k os = .inr (k1, o1) := chain_stop ha (sign10 s1 (by simp))
    have d2 := th_prod hb hc ga
    have q1 : signF L k1 [8, 9] = some 9 := by
      unfold signF
      rw [if_neg (by rw [may_mt hs]; decide)]
      unfold signF
      rw [if_pos ((may_mt hs _).trans (by decide))]
    exact den_either (sum_den (chain_two d1 q1 d2 ho (sign89 hc (ga _ (by simp [aL])) (ga _ (by simp [aL]))) hL) hN hc gc) hc g3 g4
  · have q1 : signF L k1 [10] = some 10 := by
      unfold signF
      rw [if_pos ((may_mt hs _).trans (by decide))]
    exact den_either (sum_den (prod_sum (chain_two ha q1 hb ho (sign10 hc (ga _ (by simp [aL]))) hL) hc ga) hN hc gc) hc g3 g4
/-- WHAT IS SHOWN OF A TREE IS READ AS IT. -/
theorem thing_sh {L : List Tk} {n : Nat} : ∀ (t : Tx) (d k : Nat) (os : List Oq), t.ok → At L k (shX t) → dep t ≤ d → os.length + t.flat.length ≤ 40 → thingF L n (eithD L n d) k os = .inr (k + (shX t).length, os ++ t.flat) ∧ mayB L k sNOT = false
  | .leaf o, d, k, os, ht, hv, hd, ho => leaf_sh ht.1 ht.2 hv (by simp [Tx.flat] at ho; omega)
  | .un o a, d, k, os, ht, hv, hd, ho => by
    obtain ⟨hw, hf, hta⟩ := ht
    have hk : o.k = 5 ∨ o.k = 11 := by
      unfold wks at hw
      split at hw
      · omega
      · split at hw
        · assumption
        · omega
    obtain ⟨q, rfl, _⟩ := op_nul hf (by omega) (by omega)
    have hk : q = 5 ∨ q = 11 := by simp only [opO] at hk; omega
    simp only [dep] at hd
    obtain ⟨d', rfl⟩ : ∃ d', d = d' + 1 := ⟨d - 1, by omega⟩
    simp only [Tx.flat, List.length_append, List.length_cons, List.length_nil] at ho
    rcases hk with rfl | rfl
    · have hv : At L k (ptk sOpen :: ptk sNOT :: (shX a ++ [ptk sClose])) := hv
      have e1 : (shX (.un (opO 5) a)).length = (shX a).length + 3 := by show (onT 5 (shX a)).length = _; simp [onT]
      have hL := hv.len
      simp only [List.length_cons, List.length_append, List.length_nil] at hL
      obtain ⟨g1, hv⟩ := hv.one
      obtain ⟨g2, hv⟩ := hv.one
      obtain ⟨ha, hv⟩ := hv.app
      obtain ⟨h3, _⟩ := hv.one
      obtain ⟨i1, i2⟩ := thing_sh (n := n) a d' (k + 1 + 1) os hta ha (by omega) (by omega)
      have st : Stop L (k + 1 + 1 + (shX a).length) goL := Stop.of h3 (by decide)
      have c1 : comparisonF L n (sumF L n (eithD L n d')) (k + 1 + 1) os = .inr (k + 1 + 1 + (shX a).length, os ++ a.flat) := cmp_stop (th_sum i1 st ga) st gc
      have c2 := den_not ((may_mt g2 sNOT).trans (by decide)) i2 c1 (by simp; omega) (by omega)
      have c3 := box_sh g1 (den_either (n := n) c2 st g3 g4) h3
      rw [e1]
      refine ⟨?_, c3.2⟩
      rw [c3.1]
      simp only [Tx.flat, List.append_assoc]
      congr 2
      omega
    · have hv : At L k (ptk sOpen :: (shX a ++ (ptk sIS :: ptk sNULL :: [ptk sClose]))) := hv
      have e1 : (shX (.un (opO 11) a)).length = (shX a).length + 4 := by show (onT 11 (shX a)).length = _; simp [onT]
      have hL := hv.len
      simp only [List.length_cons, List.length_append, List.length_nil] at hL
      obtain ⟨g1, hv⟩ := hv.one
      obtain ⟨ha, hv⟩ := hv.app
      obtain ⟨g2, hv⟩ := hv.one
      obtain ⟨h3, hv⟩ := hv.one
      obtain ⟨h4, _⟩ := hv.one
      obtain ⟨i1, i2⟩ := thing_sh (n := n) a d' (k + 1) os hta ha (by omega) (by omega)
      have st0 : Stop L (k + 1 + (shX a).length) aL := Stop.of g2 (by decide)
      have st : Stop L (k + 1 + (shX a).length + 2) goL := Stop.of h4 (by decide)
      have c1 := cmp_null (n := n) (th_sum i1 st0 (fun s h => h)) ((may_mt g2 _).trans (by decide)) ((may_mt h3 _).trans (by decide)) ((may_mt h3 _).trans (by decide)) (by simp; omega)
      have c2 : denF L n (eithD L n d') (k + 1) os = .inr (k + 1 + (shX a).length + 2, (os ++ a.flat) ++ [opO 11]) := by
        unfold denF
        rw [den_stop i2]
        exact c1
      have c3 := box_sh g1 (den_either c2 st g3 g4) h4
      rw [e1]
      refine ⟨?_, c3.2⟩
      rw [c3.1]
      simp only [Tx.flat, List.append_assoc]
      congr 2
      omega
  | .bi o a b, d, k, os, ht, hv, hd, ho => by
    obtain ⟨hw, hf, hta, htb⟩ := ht
    have hk : o.k ≠ 1 ∧ o.k ≠ 2 ∧ o.k ≠ 5 ∧ o.k ≠ 11 := by
      unfold wks at hw
      split at hw
      · omega
      · split at hw <;> omega
    obtain ⟨q, rfl, hq1, hq2⟩ := op_nul hf (by omega) (by omega)
    have hk : q = 3 ∨ q = 4 ∨ q = 6 ∨ q = 7 ∨ q = 8 ∨ q = 9 ∨ q = 10 := by simp only [opO] at hk; omega
    simp only [dep] at hd
    obtain ⟨d', rfl⟩ : ∃ d', d = d' + 1 := ⟨d - 1, by omega⟩
    simp only [Tx.flat, List.length_append, List.length_cons, List.length_nil] at ho
    have hv : At L k (ptk sOpen :: (shX a ++ (ptk (sgT q) :: (shX b ++ [ptk sClose])))) := hv
    have hL := hv.len
    simp only [List.length_cons, List.length_append, List.length_nil] at hL
    obtain ⟨g1, hv⟩ := hv.one
    obtain ⟨ha, hv⟩ := hv.app
    obtain ⟨h2, hv⟩ := hv.one
    obtain ⟨gb, hv⟩ := hv.app
    obtain ⟨h3, _⟩ := hv.one
    obtain ⟨i1, i2⟩ := thing_sh (n := n) a d' (k + 1) os hta ha (by omega) (by omega)
    obtain ⟨j1, j2⟩ := thing_sh (n := n) b d' (k + 1 + (shX a).length + 1) (os ++ a.flat) htb gb (by omega) (by simp; omega)
    have st : Stop L (k + 1 + (shX a).length + 1 + (shX b).length) goL := Stop.of h3 (by decide)
    have c3 := box_sh (n := n) g1 (bi_sh hk i1 i2 h2 j1 j2 st (by simp; omega) (by omega)) h3
    refine ⟨?_, c3.2⟩
    rw [c3.1]
    simp only [Tx.flat, List.append_assoc, shX, twT_len]
    congr 2
    omega
/-- WHAT IS SHOWN OF AN EXPRESSION IS READ AS IT, where it is not gone on with. -/
theorem exp_sh {L : List Tk} {n k : Nat} {l : List Oq} (h : exprF l = 0) (hv : At L k (exT l)) (hs : Stop L (k + (exT l).length) goL) : expF L n k = .inr (k + (exT l).length, l) := by
  obtain ⟨h1, t, h2, rfl⟩ := expr_tree h
  rw [exT_tree h2] at hv hs ⊢
  have hd := dep_len t
  have hl := hv.len
  obtain ⟨i1, i2⟩ := thing_sh (n := n) t L.length k [] h2 hv (by omega) (by simpa using h1)
  exact th_either i1 i2 hs
end Go.Proofs.YtdeollmeljaaoaaDoor.rd
