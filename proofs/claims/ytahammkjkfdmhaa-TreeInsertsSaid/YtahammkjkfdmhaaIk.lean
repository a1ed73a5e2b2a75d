/- The document's check of a tree: no page is met twice. -/
import Derived.Test.YtahammkjkfdmhaaIf
import Derived.Deep.QuietTactic
import Derived.BigQuiet
import Derived.Lib.BufferMore
namespace Go.Proofs.Ytahammkjkfdmhaa
open Go.ChangeShapes Go.WideShapes Go.ChangeAt Go.RowKit
set_option linter.unusedVariables false
set_option linter.unusedSimpArgs false
set_option maxHeartbeats 4000000
set_option maxRecDepth 1000000
variable {c0 c2 c3 c4 c5 c6 c7 c8 c9 c10 c11 c12 c13 c14 c15 c16 c19 c20 c21 c22 c23 c24 c25 c26 c27 c28 c29 c30 c31 c32 c33 c34 c35 c36 c37 c38 c39 c40 c41 c42 c43 c44 c45 c46 c47 c48 c49 c50 c51 c52 c53 c54 c55 c56 c57 c58 c59 c60 c61 c62 c63 c64 c65 c66 c67 c68 c69 c70 c71 c72 c73 c74 c75 c76 c77 c78 c79 c80 c81 c82 c83 c84 c85 c86 c87 c88 c89 c90 c91 c92 c93 c94 c95 c96 c97 c98 c99 c100 c101 c102 c103 c104 c105 c106 c107 c108 c109 c110 c111 c112 c113 c114 c115 c116 c117 c118 c119 c120 c121 c122 c123 c124 c125 c126 c127 c128 c129 c130 c131 c132 c133 c134 c135 c136 c137 c138 c139 c140 c141 c142 c143 c144 c145 c146 c147 c148 c149 c150 c151 c152 c153 c154 c155 c156 c157 c158 c159 c160 c161 c162 c163 c164 c165 c166 c167 c168 c169 c170 c171 c172 c173 c174 c175 c176 c177 c178 c179 c180 c181 c182 c183 c184 c185 c186 c187 c188 c189 c190 c191 c192 c193 c194 c195 c196 c197 c198 c199 c200 c201 c202 c203 c204 c205 c206 c207 c208 c209 c210 c211 c212 c213 c214 c215 c216 c217 c218 c219 c220 c221 c222 c223 c224 c225 c226 c227 c228 c229 c230 c231 c232 c233 c234 c235 c236 c237 c238 c239 c240 : Value}
/-- The array of what was seen. -/
def SeenIs (w : World) (S n : Nat) (L : List Nat) : Prop := ∃ bs : List Bool, bs.length = n ∧ w.heap[S]? = some (.cells (bs.map Value.bool).toArray 4 (0, 0)) ∧ ∀ j, j < n → bs.getD j false = decide (j ∈ L)
theorem SeenIs.cell {w : World} {S n : Nat} {L : List Nat} (h : SeenIs w S n L) {j : Nat} (hj : j < n) : w.cell? ⟨S, j, none⟩ = some (.bool (decide (j ∈ L))) ∧ w.frozen? ⟨S, j, none⟩ = false := by
  obtain ⟨bs, h1, h2, h3⟩ := h
  have h4 := h3 j hj
  have hjb : j < bs.length := by omega
  simp only [List.getD, List.getElem?_eq_getElem hjb, Option.getD_some] at h4
  constructor
  · simp [World.cell?, h2, hjb, h4]
  · simp [World.frozen?, h2]
theorem SeenIs.set {w : World} {S n : Nat} {L : List Nat} (h : SeenIs w S n L) {j : Nat} (hj : j < n) : SeenIs (w.setCell ⟨S, j, none⟩ (.bool true)) S n (L ++ [j]) := by
  obtain ⟨bs, h1, h2, h3⟩ := h
  refine ⟨bs.set j true, by simp [h1], ?_, fun i hi => ?_⟩
  · rw [Lib.heap_setCell_same h2]
    congr 2
    simp [List.map_set]
  · have hib : i < bs.length := by omega
    have hi' := h3 i hi
    simp only [List.getD, List.getElem?_set] at hi' ⊢
    by_cases e : j = i
    · subst e
      simp [hib]
    · have e' : ¬ i = j := fun q => e q.symm
      simp only [e, if_false, hi', List.mem_append, List.mem_singleton, e', or_false]
theorem SeenIs.lt {w : World} {S n : Nat} {L : List Nat} (h : SeenIs w S n L) : S < w.heap.size := by
  obtain ⟨bs, h1, h2, h3⟩ := h
  exact (Array.getElem?_eq_some_iff.1 h2).1
theorem tf6 (Q : Exit → Act → World → Prop)  (w0 : World) (B X S NP : Nat) (ok : Nat → Prop) (hok : ∀ b, ok b → b < B) (hB : B ≤ w0.heap.size) (hX : X < B) (hS : B ≤ S) (p : Pg) (i bp op cp : Nat) (kv dv gv : Value) (hi : i < NP) (hNP : NP ≤ 4000) (hbp : ok bp) (x0 : w0.cell? ⟨X, 0, none⟩ = some (.slice (some ⟨bp, op, none⟩) NP cp)) (hpa : PageAt w0 ok bp op i kv dv gv p)
    (hkid : Hid (∀ c ∈ p.kids, 0 ≤ c ∧ (p.leaf = false → c < (NP : Int)))) (L0 : List Nat) (hL0 : Hid (L0.Nodup)) (hseen : SeenIs w0 S NP L0)
    (hbad : Hid (∀ (u19 u20 u205 u206 u207 u208 u209 u210 u211 u212 u213 u214 u215 u216 u217 u218 u219 u220 u221 u222 u223 u224 u225 u226 u227 u228 u229 u230 u231 u232 u233 u234 u235 u236 u237 u238 u239 u240 : Value) (w' : World), ¬ (L0 ++ kidsP p).Nodup → Below B w0 w' → Q .ret ⟨List.toArray (c0::(.pointer (some ⟨X, 0, none⟩))::(.int .i64 11)::c3::c4::c5::c6::c7::c8::c9::c10::c11::c12::c13::c14::c15::c16::(.slice (some ⟨S, 0, none⟩) NP NP)::(.int .i64 (i : Int))::u19::u20::c21::c22::c23::c24::c25::c26::c27::c28::c29::c30::c31::c32::c33::c34::c35::c36::c37::c38::c39::c40::c41::c42::c43::c44::c45::c46::c47::c48::c49::c50::c51::c52::c53::c54::c55::c56::c57::c58::c59::c60::c61::c62::c63::c64::c65::c66::c67::c68::c69::c70::c71::c72::c73::c74::c75::c76::c77::c78::c79::c80::c81::c82::c83::c84::c85::c86::c87::c88::c89::c90::c91::c92::c93::c94::c95::c96::c97::c98::c99::c100::c101::c102::c103::c104::c105::c106::c107::c108::c109::c110::c111::c112::c113::c114::c115::c116::c117::c118::c119::c120::c121::c122::c123::c124::c125::c126::c127::c128::c129::c130::c131::c132::c133::c134::c135::c136::c137::c138::c139::c140::c141::c142::c143::c144::c145::c146::c147::c148::c149::c150::c151::c152::c153::c154::c155::c156::c157::c158::c159::c160::c161::c162::c163::c164::c165::c166::c167::c168::c169::c170::c171::c172::c173::c174::c175::c176::c177::c178::c179::c180::c181::c182::c183::c184::c185::c186::c187::c188::c189::c190::c191::c192::c193::c194::c195::c196::c197::c198::c199::c200::c201::c202::c203::c204::u205::u206::u207::u208::u209::u210::u211::u212::u213::u214::u215::u216::u217::u218::u219::u220::u221::u222::u223::u224::u225::u226::u227::u228::u229::u230::u231::u232::u233::u234::u235::u236::u237::u238::u239::u240::[]), []⟩ w'))
    (hexit : Hid (∀ (u2 u19 u20 u205 u206 u207 u208 u209 u210 u211 u212 u213 u214 u215 u216 u217 u218 u219 u220 u221 u222 u223 u224 u225 u226 u227 u228 u229 u230 u231 u232 u233 u234 u235 u236 u237 u238 u239 u240 : Value) (w' : World), (L0 ++ kidsP p).Nodup → SeenIs w' S NP (L0 ++ kidsP p) → Below B w0 w' → Q (.exit 10) ⟨List.toArray (c0::(.pointer (some ⟨X, 0, none⟩))::u2::c3::c4::c5::c6::c7::c8::c9::c10::c11::c12::c13::c14::c15::c16::(.slice (some ⟨S, 0, none⟩) NP NP)::(.int .i64 (i : Int))::u19::u20::c21::c22::c23::c24::c25::c26::c27::c28::c29::c30::c31::c32::c33::c34::c35::c36::c37::c38::c39::c40::c41::c42::c43::c44::c45::c46::c47::c48::c49::c50::c51::c52::c53::c54::c55::c56::c57::c58::c59::c60::c61::c62::c63::c64::c65::c66::c67::c68::c69::c70::c71::c72::c73::c74::c75::c76::c77::c78::c79::c80::c81::c82::c83::c84::c85::c86::c87::c88::c89::c90::c91::c92::c93::c94::c95::c96::c97::c98::c99::c100::c101::c102::c103::c104::c105::c106::c107::c108::c109::c110::c111::c112::c113::c114::c115::c116::c117::c118::c119::c120::c121::c122::c123::c124::c125::c126::c127::c128::c129::c130::c131::c132::c133::c134::c135::c136::c137::c138::c139::c140::c141::c142::c143::c144::c145::c146::c147::c148::c149::c150::c151::c152::c153::c154::c155::c156::c157::c158::c159::c160::c161::c162::c163::c164::c165::c166::c167::c168::c169::c170::c171::c172::c173::c174::c175::c176::c177::c178::c179::c180::c181::c182::c183::c184::c185::c186::c187::c188::c189::c190::c191::c192::c193::c194::c195::c196::c197::c198::c199::c200::c201::c202::c203::c204::u205::u206::u207::u208::u209::u210::u211::u212::u213::u214::u215::u216::u217::u218::u219::u220::u221::u222::u223::u224::u225::u226::u227::u228::u229::u230::u231::u232::u233::u234::u235::u236::u237::u238::u239::u240::[]), []⟩ w')) :
    Code.wp Try.prog (Code.loop (loopAt Try.f36 5)) Q ⟨List.toArray (c0::(.pointer (some ⟨X, 0, none⟩))::c2::c3::c4::c5::c6::c7::c8::c9::c10::c11::c12::c13::c14::c15::c16::(.slice (some ⟨S, 0, none⟩) NP NP)::(.int .i64 (i : Int))::(.int .i64 0)::c20::c21::c22::c23::c24::c25::c26::c27::c28::c29::c30::c31::c32::c33::c34::c35::c36::c37::c38::c39::c40::c41::c42::c43::c44::c45::c46::c47::c48::c49::c50::c51::c52::c53::c54::c55::c56::c57::c58::c59::c60::c61::c62::c63::c64::c65::c66::c67::c68::c69::c70::c71::c72::c73::c74::c75::c76::c77::c78::c79::c80::c81::c82::c83::c84::c85::c86::c87::c88::c89::c90::c91::c92::c93::c94::c95::c96::c97::c98::c99::c100::c101::c102::c103::c104::c105::c106::c107::c108::c109::c110::c111::c112::c113::c114::c115::c116::c117::c118::c119::c120::c121::c122::c123::c124::c125::c126::c127::c128::c129::c130::c131::c132::c133::c134::c135::c136::c137::c138::c139::c140::c141::c142::c143::c144::c145::c146::c147::c148::c149::c150::c151::c152::c153::c154::c155::c156::c157::c158::c159::c160::c161::c162::c163::c164::c165::c166::c167::c168::c169::c170::c171::c172::c173::c174::c175::c176::c177::c178::c179::c180::c181::c182::c183::c184::c185::c186::c187::c188::c189::c190::c191::c192::c193::c194::c195::c196::c197::c198::c199::c200::c201::c202::c203::c204::c205::c206::c207::c208::c209::c210::c211::c212::c213::c214::c215::c216::c217::c218::c219::c220::c221::c222::c223::c224::c225::c226::c227::c228::c229::c230::c231::c232::c233::c234::c235::c236::c237::c238::c239::c240::[]), []⟩ w0 := by
  conv => arg 2; arg 1; whnf
  obtain ⟨pl, pks, pds, ph, pn⟩ := p
  obtain ⟨a1, a2, a3, a4, a5, a6, a7, a8⟩ := hpa
  simp only at a1 a5 a6 a7 a8 hkid
  obtain ⟨ad, cd, d0, _, d2, d3⟩ := intsF a7
  rw [d0] at a3
  obtain ⟨D, hD⟩ : ∃ D, D = pds.length := ⟨_, rfl⟩
  rw [← hD] at a3 d3
  unfold maxLen at d2
  have hDc : D ≤ cd := by rw [hD]; assumption
  have HD := Lib.hid hD
  have D3 := Lib.hid d3
  have HSEEN := Lib.hid hseen
  have hbp2 := hok _ hbp
  have i0 : (0 : Int) ≤ (i : Int) := by omega
  have i1 : (i : Int) < (NP : Int) := by omega
  have hk : kidsP ⟨pl, pks, pds, ph, pn⟩ = if pl then [] else pds.map Int.toNat := rfl
  rw [hk] at hbad hexit
  clear d0 a2 a4 a5 a6 a7 a8 d3 hseen hD hk
  cases pl with
  | true =>
    have hx := hexit.out
    have HX := Lib.hid hx
    have hs0 : SeenIs w0 S NP (L0 ++ if true = true then [] else pds.map Int.toNat) := by simpa using HSEEN.out
    have hn0 : (L0 ++ if true = true then [] else pds.map Int.toNat).Nodup := by simpa using hL0.out
    have HS0 := Lib.hid hs0
    have HN0 := Lib.hid hn0
    clear hexit hbad hx hs0 hn0
    by_cases hd0 : 0 < D
    all_goals (
      go_rounds 1
      exact HX.out _ _ _ _ _ _ _ _ _ _ _ _ _ _ _ _ _ _ _ _ _ _ _ _ _ _ _ _ _ _ _ _ _ _ _ _ _ _ _ _ HN0.out HS0.out (Below.refl _ _))
  | false =>
    simp only [Bool.false_eq_true, if_false, forall_const] at hbad hexit hkid
    go_loopw [19] (fun q wr => ∃ k : Nat, k ≤ D ∧ q = .int .i64 (k : Int) ∧ SeenIs wr S NP (L0 ++ (pds.take k).map Int.toNat) ∧ (L0 ++ (pds.take k).map Int.toNat).Nodup ∧ Below B w0 wr) (fun q _ => D - (intOf q).toNat)
    case atStart => exact ⟨0, by omega, rfl, by simpa using HSEEN.out, by simpa using hL0.out, Below.refl _ _⟩
    case round =>
      obtain ⟨k, hk, rfl, hs, hnd, hb⟩ := hrel
      have hz := hb.size
      have x0' := (hb.cell (p := ⟨X, 0, none⟩) hX).trans x0
      have a1' := (hb.cell (p := ⟨bp, op + i * 5, none⟩) hbp2).trans a1
      have a3' := (hb.cell (p := ⟨bp, op + i * 5 + 2, none⟩) hbp2).trans a3
      have HS := Lib.hid hs
      have HND := Lib.hid hnd
      have HB := Lib.hid hb
      clear hs hnd hb
      by_cases hlt : k < D
      · obtain ⟨b, o, rfl, _, hokb, g1⟩ := D3.out k hlt
        have hbB := hok _ hokb
        obtain ⟨c, hc⟩ : ∃ c, c = pds.getD k 0 := ⟨_, rfl⟩
        rw [← hc] at g1
        have hkl : k < pds.length := by rw [← HD.out]; exact hlt
        have hcm : c ∈ pds := by
          rw [hc]
          simp only [List.getD, List.getElem?_eq_getElem hkl, Option.getD_some]
          exact List.getElem_mem hkl
        obtain ⟨hc0, hcN⟩ := hkid.out c hcm
        obtain ⟨n, rfl⟩ : ∃ n : Nat, c = (n : Int) := ⟨c.toNat, by omega⟩
        have hnN : n < NP := by omega
        have q1 := (HB.out.cell (p := ⟨b, o + k, none⟩) hbB).trans g1
        obtain ⟨s1, s2⟩ := HS.out.cell hnN
        have hsl := HS.out.lt
        have hHC : Hid ((pds.take (k + 1)).map Int.toNat = (pds.take k).map Int.toNat ++ [n]) := by
          refine Lib.hid ?_
          rw [take_nextG (d := 0) hkl, ← hc, List.map_append]
          simp
        have HKL := Lib.hid hkl
        have HCM : Hid (n ∈ pds.map Int.toNat) := Lib.hid (List.mem_map.2 ⟨(n : Int), hcm, by simp⟩)
        have k0 : (0 : Int) ≤ (k : Int) := by omega
        have k1 : (k : Int) < (D : Int) := by omega
        have n0 : (0 : Int) ≤ (n : Int) := by omega
        have n1 : (n : Int) < (NP : Int) := by omega
        clear g1 hcm hkl hc
        rcases hm : decide (n ∈ L0 ++ (pds.take k).map Int.toNat) with _ | _
        · rw [hm] at s1
          have HM := Lib.hid hm
          clear hm
          go_wp2
          go_roundw
          case rel =>
            refine ⟨k + 1, by omega, by go_num, ?_, ?_, HB.out.setCell hS _⟩
            · rw [hHC.out, ← List.append_assoc]
              exact HS.out.set hnN
            · rw [hHC.out, ← List.append_assoc, List.nodup_append]
              refine ⟨HND.out, by simp, fun a ha b hb => ?_⟩
              simp only [List.mem_singleton] at hb
              subst hb
              rintro rfl
              have := HM.out
              simp only [decide_eq_false_iff_not] at this
              exact this ha
          case measure => simp [intOf] <;> omega
        · rw [hm] at s1
          have HM := Lib.hid hm
          clear hm
          go_wp2
          refine hbad.out _ _ _ _ _ _ _ _ _ _ _ _ _ _ _ _ _ _ _ _ _ _ _ _ _ _ _ _ _ _ _ _ _ _ _ _ _ _ _ ?_ HB.out
          intro hn
          have e : pds = pds.take (k + 1) ++ pds.drop (k + 1) := (List.take_append_drop _ _).symm
          rw [e, List.map_append, hHC.out] at hn
          have h2 : ((L0 ++ (pds.take k).map Int.toNat) ++ [n]).Nodup := by
            have h3 : (((L0 ++ (pds.take k).map Int.toNat) ++ [n]) ++ (pds.drop (k + 1)).map Int.toNat).Nodup := by simpa [List.append_assoc] using hn
            exact (List.nodup_append.1 h3).1
          have h4 := (List.nodup_append.1 h2).2.2 n (by have := HM.out; simpa using this) n (by simp)
          exact h4 rfl
      · obtain rfl : D = k := by omega
        have e : pds.take D = pds := List.take_of_length_le (by rw [← HD.out]; exact Nat.le_refl _)
        rw [e] at HS HND
        clear e
        go_wp2
        exact hexit.out _ _ _ _ _ _ _ _ _ _ _ _ _ _ _ _ _ _ _ _ _ _ _ _ _ _ _ _ _ _ _ _ _ _ _ _ _ _ _ _ HND.out HS.out HB.out
theorem tf5 (Q : Exit → Act → World → Prop)  (w0 : World) (B X S NP : Nat) (ok : Nat → Prop) (hok : ∀ b, ok b → b < B) (hB : B ≤ w0.heap.size) (hX : X < B) (hS : B ≤ S) (ps : List Pg) (HNP : Hid (NP = ps.length)) (hNP : NP ≤ 4000) (hq : Hid (∀ p ∈ ps, OkQ p ps.length))
    (ap : Option Addr) (cp : Nat) (x0 : w0.cell? ⟨X, 0, none⟩ = some (.slice ap NP cp)) (kf df gf : Nat → Value) (HP : Hid (∀ i, i < NP → ∃ b o, ap = some ⟨b, o, none⟩ ∧ ok b ∧ PageAt w0 ok b o i (kf i) (df i) (gf i) (ps.getD i noPg))) (r : Nat) (hseen : SeenIs w0 S NP [r])
    (hbad : Hid (∀ (u18 u19 u20 u198 u199 u200 u201 u202 u203 u204 u205 u206 u207 u208 u209 u210 u211 u212 u213 u214 u215 u216 u217 u218 u219 u220 u221 u222 u223 u224 u225 u226 u227 u228 u229 u230 u231 u232 u233 u234 u235 u236 u237 u238 u239 u240 : Value) (w' : World), ¬ (r :: ps.flatMap kidsP).Nodup → Below B w0 w' → Q .ret ⟨List.toArray (c0::(.pointer (some ⟨X, 0, none⟩))::(.int .i64 11)::c3::c4::c5::c6::c7::c8::c9::c10::c11::c12::c13::c14::c15::c16::(.slice (some ⟨S, 0, none⟩) NP NP)::u18::u19::u20::c21::c22::c23::c24::c25::c26::c27::c28::c29::c30::c31::c32::c33::c34::c35::c36::c37::c38::c39::c40::c41::c42::c43::c44::c45::c46::c47::c48::c49::c50::c51::c52::c53::c54::c55::c56::c57::c58::c59::c60::c61::c62::c63::c64::c65::c66::c67::c68::c69::c70::c71::c72::c73::c74::c75::c76::c77::c78::c79::c80::c81::c82::c83::c84::c85::c86::c87::c88::c89::c90::c91::c92::c93::c94::c95::c96::c97::c98::c99::c100::c101::c102::c103::c104::c105::c106::c107::c108::c109::c110::c111::c112::c113::c114::c115::c116::c117::c118::c119::c120::c121::c122::c123::c124::c125::c126::c127::c128::c129::c130::c131::c132::c133::c134::c135::c136::c137::c138::c139::c140::c141::c142::c143::c144::c145::c146::c147::c148::c149::c150::c151::c152::c153::c154::c155::c156::c157::c158::c159::c160::c161::c162::c163::c164::c165::c166::c167::c168::c169::c170::c171::c172::c173::c174::c175::c176::c177::c178::c179::c180::c181::c182::c183::c184::c185::c186::c187::c188::c189::c190::c191::c192::c193::c194::c195::c196::c197::u198::u199::u200::u201::u202::u203::u204::u205::u206::u207::u208::u209::u210::u211::u212::u213::u214::u215::u216::u217::u218::u219::u220::u221::u222::u223::u224::u225::u226::u227::u228::u229::u230::u231::u232::u233::u234::u235::u236::u237::u238::u239::u240::[]), []⟩ w'))
    (hexit : Hid (∀ (u2 u18 u19 u20 u198 u199 u200 u201 u202 u203 u204 u205 u206 u207 u208 u209 u210 u211 u212 u213 u214 u215 u216 u217 u218 u219 u220 u221 u222 u223 u224 u225 u226 u227 u228 u229 u230 u231 u232 u233 u234 u235 u236 u237 u238 u239 u240 : Value) (w' : World), (r :: ps.flatMap kidsP).Nodup → Below B w0 w' → Q (.exit 8) ⟨List.toArray (c0::(.pointer (some ⟨X, 0, none⟩))::u2::c3::c4::c5::c6::c7::c8::c9::c10::c11::c12::c13::c14::c15::c16::(.slice (some ⟨S, 0, none⟩) NP NP)::u18::u19::u20::c21::c22::c23::c24::c25::c26::c27::c28::c29::c30::c31::c32::c33::c34::c35::c36::c37::c38::c39::c40::c41::c42::c43::c44::c45::c46::c47::c48::c49::c50::c51::c52::c53::c54::c55::c56::c57::c58::c59::c60::c61::c62::c63::c64::c65::c66::c67::c68::c69::c70::c71::c72::c73::c74::c75::c76::c77::c78::c79::c80::c81::c82::c83::c84::c85::c86::c87::c88::c89::c90::c91::c92::c93::c94::c95::c96::c97::c98::c99::c100::c101::c102::c103::c104::c105::c106::c107::c108::c109::c110::c111::c112::c113::c114::c115::c116::c117::c118::c119::c120::c121::c122::c123::c124::c125::c126::c127::c128::c129::c130::c131::c132::c133::c134::c135::c136::c137::c138::c139::c140::c141::c142::c143::c144::c145::c146::c147::c148::c149::c150::c151::c152::c153::c154::c155::c156::c157::c158::c159::c160::c161::c162::c163::c164::c165::c166::c167::c168::c169::c170::c171::c172::c173::c174::c175::c176::c177::c178::c179::c180::c181::c182::c183::c184::c185::c186::c187::c188::c189::c190::c191::c192::c193::c194::c195::c196::c197::u198::u199::u200::u201::u202::u203::u204::u205::u206::u207::u208::u209::u210::u211::u212::u213::u214::u215::u216::u217::u218::u219::u220::u221::u222::u223::u224::u225::u226::u227::u228::u229::u230::u231::u232::u233::u234::u235::u236::u237::u238::u239::u240::[]), []⟩ w')) :
    Code.wp Try.prog (Code.loop (loopAt Try.f36 4)) Q ⟨List.toArray (c0::(.pointer (some ⟨X, 0, none⟩))::c2::c3::c4::c5::c6::c7::c8::c9::c10::c11::c12::c13::c14::c15::c16::(.slice (some ⟨S, 0, none⟩) NP NP)::(.int .i64 0)::c19::c20::c21::c22::c23::c24::c25::c26::c27::c28::c29::c30::c31::c32::c33::c34::c35::c36::c37::c38::c39::c40::c41::c42::c43::c44::c45::c46::c47::c48::c49::c50::c51::c52::c53::c54::c55::c56::c57::c58::c59::c60::c61::c62::c63::c64::c65::c66::c67::c68::c69::c70::c71::c72::c73::c74::c75::c76::c77::c78::c79::c80::c81::c82::c83::c84::c85::c86::c87::c88::c89::c90::c91::c92::c93::c94::c95::c96::c97::c98::c99::c100::c101::c102::c103::c104::c105::c106::c107::c108::c109::c110::c111::c112::c113::c114::c115::c116::c117::c118::c119::c120::c121::c122::c123::c124::c125::c126::c127::c128::c129::c130::c131::c132::c133::c134::c135::c136::c137::c138::c139::c140::c141::c142::c143::c144::c145::c146::c147::c148::c149::c150::c151::c152::c153::c154::c155::c156::c157::c158::c159::c160::c161::c162::c163::c164::c165::c166::c167::c168::c169::c170::c171::c172::c173::c174::c175::c176::c177::c178::c179::c180::c181::c182::c183::c184::c185::c186::c187::c188::c189::c190::c191::c192::c193::c194::c195::c196::c197::c198::c199::c200::c201::c202::c203::c204::c205::c206::c207::c208::c209::c210::c211::c212::c213::c214::c215::c216::c217::c218::c219::c220::c221::c222::c223::c224::c225::c226::c227::c228::c229::c230::c231::c232::c233::c234::c235::c236::c237::c238::c239::c240::[]), []⟩ w0 := by
  conv => arg 2; arg 1; whnf
  have HSEEN := Lib.hid hseen
  clear hseen
  go_loopw [18] (fun v wr => ∃ i : Nat, i ≤ NP ∧ v = .int .i64 (i : Int) ∧ SeenIs wr S NP (r :: (ps.take i).flatMap kidsP) ∧ (r :: (ps.take i).flatMap kidsP).Nodup ∧ Below B w0 wr) (fun v _ => NP - (intOf v).toNat)
  case atStart => exact ⟨0, by omega, rfl, by simpa using HSEEN.out, by simp, Below.refl _ _⟩
  case round =>
    obtain ⟨i, hi, rfl, hs, hnd, hb⟩ := hrel
    have hz := hb.size
    have x0' := (hb.cell (p := ⟨X, 0, none⟩) hX).trans x0
    have HS := Lib.hid hs
    have HND := Lib.hid hnd
    have HB := Lib.hid hb
    clear hs hnd hb
    by_cases hlt : i < NP
    · obtain ⟨bp, op, rfl, hokb, hpa⟩ := HP.out i hlt
      have hil : i < ps.length := by rw [← HNP.out]; exact hlt
      have hpq := hq.out _ (page_mem hil)
      have hnx : Hid (r :: (ps.take (i + 1)).flatMap kidsP = (r :: (ps.take i).flatMap kidsP) ++ kidsP (ps.getD i noPg)) := by
        refine Lib.hid ?_
        rw [take_nextG (d := noPg) hil, List.flatMap_append]
        simp
      have hkd : Hid (∀ c ∈ (ps.getD i noPg).kids, 0 ≤ c ∧ ((ps.getD i noPg).leaf = false → c < (NP : Int))) := by
        refine Lib.hid fun c hc => ?_
        have := hpq.kid c hc
        rw [← HNP.out] at this
        exact this
      have hpw : PageAt wr ok bp op i (kf i) (df i) (gf i) (ps.getD i noPg) := by
        have hbB := hok _ hokb
        obtain ⟨a1, a2, a3, a4, a5, a6, a7, a8⟩ := hpa
        have hag : Agree ok w0 wr := Agree.lt hok HB.out
        have ce : ∀ j, wr.cell? ⟨bp, j, none⟩ = w0.cell? ⟨bp, j, none⟩ := fun j => HB.out.cell (p := ⟨bp, j, none⟩) hbB
        exact ⟨(ce _).trans a1, (ce _).trans a2, (ce _).trans a3, (ce _).trans a4, (ce _).trans a5, a6.agree hag, a7.agree hag, a8.agree hag⟩
      have HIL := Lib.hid hil
      clear hpa hpq hil
      go_wp2_with fail
      change Code.wp _ (Code.loop (loopAt Try.f36 5)) _ _ _
      refine tf6 _ wr B X S NP ok hok (by omega) hX hS (ps.getD i noPg) i bp op cp (kf i) (df i) (gf i) hlt hNP hokb x0' hpw hkd (r :: (ps.take i).flatMap kidsP) HND HS.out ?_ ?_
      · refine Lib.hid ?_
        iterate 38 intro _
        intro w' h1 h2
        have H1 := Lib.hid h1
        have H2 := Lib.hid h2
        clear h1 h2
        go_wp2_with fail
        refine hbad.out _ _ _ _ _ _ _ _ _ _ _ _ _ _ _ _ _ _ _ _ _ _ _ _ _ _ _ _ _ _ _ _ _ _ _ _ _ _ _ _ _ _ _ _ _ _ _ ?_ (HB.out.trans H2.out)
        intro hn
        apply H1.out
        rw [← hnx.out]
        have e : ps = ps.take (i + 1) ++ ps.drop (i + 1) := (List.take_append_drop _ _).symm
        rw [e, List.flatMap_append, ← List.cons_append] at hn
        exact (List.nodup_append.1 hn).1
      · refine Lib.hid ?_
        iterate 39 intro _
        intro w' h1 h2 h3
        rw [← hnx.out] at h1 h2
        have H1 := Lib.hid h1
        have H2 := Lib.hid h2
        have H3 := Lib.hid h3
        clear h1 h2 h3
        go_wp2_with fail
        go_roundw
        case rel => exact ⟨i + 1, by omega, by go_num, H2.out, H1.out, HB.out.trans H3.out⟩
        case measure => simp [intOf] <;> omega
    · obtain rfl : NP = i := by omega
      have e : ps.take NP = ps := List.take_of_length_le (by rw [← HNP.out]; exact Nat.le_refl _)
      rw [e] at HND
      clear e HS
      go_wp2
      exact hexit.out _ _ _ _ _ _ _ _ _ _ _ _ _ _ _ _ _ _ _ _ _ _ _ _ _ _ _ _ _ _ _ _ _ _ _ _ _ _ _ _ _ _ _ _ _ _ _ _ HND.out HB.out
end Go.Proofs.Ytahammkjkfdmhaa
