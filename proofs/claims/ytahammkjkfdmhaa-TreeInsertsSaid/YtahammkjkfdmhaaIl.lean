/- The document's check of a tree: each page by itself. -/
import Derived.Test.YtahammkjkfdmhaaIf
import Derived.Test.YtahammkjkfdmhaaIa
import Derived.Test.YtahammkjkfdmhaaIi
import Derived.Test.YtahammkjkfdmhaaIk
import Derived.Test.YtahammkjkfdmhaaHd
import Derived.StillTailTactics
import Derived.Deep.RegionWith
import Derived.Deep.QuietTactic
import Derived.BigQuiet
import Derived.Laws.MakeOwn
import Derived.Laws.OwnMore
namespace Go.Proofs.Ytahammkjkfdmhaa
open Go.ChangeShapes Go.WideShapes Go.ChangeAt Go.RowKit
set_option linter.unusedVariables false
set_option linter.unusedSimpArgs false
set_option maxHeartbeats 4000000
variable {c0 c2 c4 c5 c6 c7 c8 c9 c10 c11 c12 c13 c14 c15 c16 c17 c18 c19 c20 c21 c22 c23 c24 c25 c26 c27 c28 c29 c30 c31 c32 c33 c34 c35 c36 c37 c38 c39 c40 c41 c42 c43 c44 c45 c46 c47 c48 c49 c50 c51 c52 c53 c54 c55 c56 c57 c58 c59 c60 c61 c62 c63 c64 c65 c66 c67 c68 c69 c70 c71 c72 c73 c74 c75 c76 c77 c78 c79 c80 c81 c82 c83 c84 c85 c86 c87 c88 c89 c90 c91 c92 c93 c94 c95 c96 c97 c98 c99 c100 c101 c102 c103 c104 c105 c106 c107 c108 c109 c110 c111 c112 c113 c114 c115 c116 c117 c118 c119 c120 c121 c122 c123 c124 c125 c126 c127 c128 c129 c130 c131 c132 c133 c134 c135 c136 c137 c138 c139 c140 c141 c142 c143 c144 c145 c146 c147 c148 c149 c150 c151 c152 c153 c154 c155 c156 c157 c158 c159 c160 c161 c162 c163 c164 c165 c166 c167 c168 c169 c170 c171 c172 c173 c174 c175 c176 c177 c178 c179 c180 c181 c182 c183 c184 c185 c186 c187 c188 c189 c190 c191 c192 c193 c194 c195 c196 c197 c198 c199 c200 c201 c202 c203 c204 c205 c206 c207 c208 c209 c210 c211 c212 c213 c214 c215 c216 c217 c218 c219 c220 c221 c222 c223 c224 c225 c226 c227 c228 c229 c230 c231 c232 c233 c234 c235 c236 c237 c238 c239 c240 : Value}
set_option maxRecDepth 1000000
theorem r6 (Q : Exit → Act → World → Prop)  (w0 : World) (ok : Nat → Prop) (hok : ∀ b, ok b → b < w0.heap.size) (X NP k bp op cp : Nat) (hX : X < w0.heap.size) (kv dv gv : Value) (p : Pg) (hk : k < NP) (hNP : NP ≤ 4000) (hbp : ok bp) (x0 : w0.cell? ⟨X, 0, none⟩ = some (.slice (some ⟨bp, op, none⟩) NP cp)) (hpa : PageAt w0 ok bp op k kv dv gv p)
    (hout : Hid (∀ (u43 u44 u45 u46 u47 u48 u49 u50 : Value) (b : Bool) (w' : World), (b = true ↔ ¬ OkPg p NP) → Below w0.heap.size w0 w' → Q .normal ⟨List.toArray (c0::(.pointer (some ⟨X, 0, none⟩))::c2::(.int .i64 (k : Int))::c4::c5::c6::c7::c8::c9::c10::c11::c12::c13::c14::c15::c16::c17::c18::c19::c20::c21::c22::c23::c24::c25::c26::c27::c28::c29::c30::c31::c32::c33::c34::c35::c36::c37::c38::c39::c40::c41::c42::u43::u44::u45::u46::u47::u48::u49::u50::(.bool b)::c52::c53::c54::c55::c56::c57::c58::c59::c60::c61::c62::c63::c64::c65::c66::c67::c68::c69::c70::c71::c72::c73::c74::c75::c76::c77::c78::c79::c80::c81::c82::c83::c84::c85::c86::c87::c88::c89::c90::c91::c92::c93::c94::c95::c96::c97::c98::c99::c100::c101::c102::c103::c104::c105::c106::c107::c108::c109::c110::c111::c112::c113::c114::c115::c116::c117::c118::c119::c120::c121::c122::c123::c124::c125::c126::c127::c128::c129::c130::c131::c132::c133::c134::c135::c136::c137::c138::c139::c140::c141::c142::c143::c144::c145::c146::c147::c148::c149::c150::c151::c152::c153::c154::c155::c156::c157::c158::c159::c160::c161::c162::c163::c164::c165::c166::c167::c168::c169::c170::c171::c172::c173::c174::c175::c176::c177::c178::c179::c180::c181::c182::c183::c184::c185::c186::c187::c188::c189::c190::c191::c192::c193::c194::c195::c196::c197::c198::c199::c200::c201::c202::c203::c204::c205::c206::c207::c208::c209::c210::c211::c212::c213::c214::c215::c216::c217::c218::c219::c220::c221::c222::c223::c224::c225::c226::c227::c228::c229::c230::c231::c232::c233::c234::c235::c236::c237::c238::c239::c240::[]), []⟩ w')) :
    Code.wp Try.prog ((regionOf 6 (loopAt Try.f36 0)).getD .skip) Q ⟨List.toArray (c0::(.pointer (some ⟨X, 0, none⟩))::c2::(.int .i64 (k : Int))::c4::c5::c6::c7::c8::c9::c10::c11::c12::c13::c14::c15::c16::c17::c18::c19::c20::c21::c22::c23::c24::c25::c26::c27::c28::c29::c30::c31::c32::c33::c34::c35::c36::c37::c38::c39::c40::c41::c42::c43::c44::c45::c46::c47::c48::c49::c50::c51::c52::c53::c54::c55::c56::c57::c58::c59::c60::c61::c62::c63::c64::c65::c66::c67::c68::c69::c70::c71::c72::c73::c74::c75::c76::c77::c78::c79::c80::c81::c82::c83::c84::c85::c86::c87::c88::c89::c90::c91::c92::c93::c94::c95::c96::c97::c98::c99::c100::c101::c102::c103::c104::c105::c106::c107::c108::c109::c110::c111::c112::c113::c114::c115::c116::c117::c118::c119::c120::c121::c122::c123::c124::c125::c126::c127::c128::c129::c130::c131::c132::c133::c134::c135::c136::c137::c138::c139::c140::c141::c142::c143::c144::c145::c146::c147::c148::c149::c150::c151::c152::c153::c154::c155::c156::c157::c158::c159::c160::c161::c162::c163::c164::c165::c166::c167::c168::c169::c170::c171::c172::c173::c174::c175::c176::c177::c178::c179::c180::c181::c182::c183::c184::c185::c186::c187::c188::c189::c190::c191::c192::c193::c194::c195::c196::c197::c198::c199::c200::c201::c202::c203::c204::c205::c206::c207::c208::c209::c210::c211::c212::c213::c214::c215::c216::c217::c218::c219::c220::c221::c222::c223::c224::c225::c226::c227::c228::c229::c230::c231::c232::c233::c234::c235::c236::c237::c238::c239::c240::[]), []⟩ w0 := by
  conv => arg 2; whnf
  obtain ⟨pl, pks, pds, ph, pn⟩ := p
  obtain ⟨a1, a2, a3, a4, a5, a6, a7, a8⟩ := hpa
  simp only at a1 a5 a6 a7 a8
  obtain ⟨ak, ck, ff, k0, _, _, _⟩ := keysF a6
  obtain ⟨ad, cd, d0, _, _, _⟩ := intsF a7
  obtain ⟨ag, cg, e8⟩ := a8.sh
  have hbl := hok _ hbp
  have i0 : (0 : Int) ≤ (k : Int) := by omega
  have i1 : (k : Int) < (NP : Int) := by omega
  have cc := fun W (hW : Below w0.heap.size w0 W) => pageFault_any W ok kv dv gv ⟨pl, pks, pds, ph, pn⟩ NP (by omega) hNP (a6.below hW) (a7.below hW) (a8.below hW)
  simp only at cc
  rw [k0] at a2 cc
  rw [d0] at a3 cc
  rw [e8] at a4 cc
  obtain ⟨K, hK⟩ : ∃ K, K = pks.length := ⟨_, rfl⟩
  obtain ⟨D, hD⟩ : ∃ D, D = pds.length := ⟨_, rfl⟩
  obtain ⟨Hh, hHh⟩ : ∃ H, H = ph.length := ⟨_, rfl⟩
  rw [← hK] at a2 cc
  rw [← hD] at a3 cc
  rw [← hHh] at a4 cc
  have CC := Lib.hid cc
  clear cc a6 a7 a8 k0 d0 e8 hK hD hHh hbp
  go_still_tail 8, (by kernel_rfl)
  change wpList _ _ _ _ _ w0.drew
  obtain ⟨w2, hw2⟩ : ∃ w2 : World, w2 = w0.drew := ⟨_, rfl⟩
  have hb2 : Below w0.heap.size w0 w2 := by rw [hw2]; exact (Below.refl _ _).drew
  rw [← hw2]
  have HB2 := Lib.hid hb2
  have hz2 := hb2.size
  clear hw2 hb2
  go_wp2_with (go_at_call 52; refine (CC.out _ HB2.out).mono ?_; rintro e w' ⟨b, rfl, hb, hB⟩; have HBB := Lib.hid hb; have HB := Lib.hid hB; clear hb hB)
  exact hout.out _ _ _ _ _ _ _ _ b _ HBB.out (HB2.out.trans (HB.out.mono hz2))
end Go.Proofs.Ytahammkjkfdmhaa
/- The document's check of a tree: whole. -/
namespace Go.Proofs.Ytahammkjkfdmhaa
open Go.ChangeShapes Go.WideShapes Go.ChangeAt Go.RowKit
set_option linter.unusedVariables false
set_option linter.unusedSimpArgs false
set_option maxHeartbeats 4000000
variable {c0 c2 c4 c5 c6 c7 c8 c9 c10 c11 c12 c13 c14 c15 c16 c17 c18 c19 c20 c21 c22 c23 c24 c25 c26 c27 c28 c29 c30 c31 c32 c33 c34 c35 c36 c37 c38 c39 c40 c41 c42 c43 c44 c45 c46 c47 c48 c49 c50 c51 c52 c53 c54 c55 c56 c57 c58 c59 c60 c61 c62 c63 c64 c65 c66 c67 c68 c69 c70 c71 c72 c73 c74 c75 c76 c77 c78 c79 c80 c81 c82 c83 c84 c85 c86 c87 c88 c89 c90 c91 c92 c93 c94 c95 c96 c97 c98 c99 c100 c101 c102 c103 c104 c105 c106 c107 c108 c109 c110 c111 c112 c113 c114 c115 c116 c117 c118 c119 c120 c121 c122 c123 c124 c125 c126 c127 c128 c129 c130 c131 c132 c133 c134 c135 c136 c137 c138 c139 c140 c141 c142 c143 c144 c145 c146 c147 c148 c149 c150 c151 c152 c153 c154 c155 c156 c157 c158 c159 c160 c161 c162 c163 c164 c165 c166 c167 c168 c169 c170 c171 c172 c173 c174 c175 c176 c177 c178 c179 c180 c181 c182 c183 c184 c185 c186 c187 c188 c189 c190 c191 c192 c193 c194 c195 c196 c197 c198 c199 c200 c201 c202 c203 c204 c205 c206 c207 c208 c209 c210 c211 c212 c213 c214 c215 c216 c217 c218 c219 c220 c221 c222 c223 c224 c225 c226 c227 c228 c229 c230 c231 c232 c233 c234 c235 c236 c237 c238 c239 c240 : Value}
set_option maxRecDepth 1000000
theorem tf1 (Q : Exit → Act → World → Prop)  (w0 : World) (X : Nat) (ok : Nat → Prop) (hok : ∀ b, ok b → b < w0.heap.size) (hX : X < w0.heap.size) (ps : List Pg) (NP : Nat) (HNP : Hid (NP = ps.length)) (hNPm : NP ≤ 4000)
    (ap : Option Addr) (cp : Nat) (x0 : w0.cell? ⟨X, 0, none⟩ = some (.slice ap NP cp)) (kf df gf : Nat → Value) (HP : Hid (∀ i, i < NP → ∃ b o, ap = some ⟨b, o, none⟩ ∧ ok b ∧ PageAt w0 ok b o i (kf i) (df i) (gf i) (ps.getD i noPg)))
    (hbad : Hid (∀ (u3 u36 u37 u38 u39 u40 u41 u42 u43 u44 u45 u46 u47 u48 u49 u50 u51 : Value) (w' : World), ¬ (∀ p ∈ ps, OkPg p NP) → Below w0.heap.size w0 w' → Q .ret ⟨List.toArray (c0::(.pointer (some ⟨X, 0, none⟩))::(.int .i64 11)::u3::c4::c5::c6::c7::c8::c9::c10::c11::c12::c13::c14::c15::c16::c17::c18::c19::c20::c21::c22::c23::c24::c25::c26::c27::c28::c29::c30::c31::c32::c33::c34::c35::u36::u37::u38::u39::u40::u41::u42::u43::u44::u45::u46::u47::u48::u49::u50::u51::c52::c53::c54::c55::c56::c57::c58::c59::c60::c61::c62::c63::c64::c65::c66::c67::c68::c69::c70::c71::c72::c73::c74::c75::c76::c77::c78::c79::c80::c81::c82::c83::c84::c85::c86::c87::c88::c89::c90::c91::c92::c93::c94::c95::c96::c97::c98::c99::c100::c101::c102::c103::c104::c105::c106::c107::c108::c109::c110::c111::c112::c113::c114::c115::c116::c117::c118::c119::c120::c121::c122::c123::c124::c125::c126::c127::c128::c129::c130::c131::c132::c133::c134::c135::c136::c137::c138::c139::c140::c141::c142::c143::c144::c145::c146::c147::c148::c149::c150::c151::c152::c153::c154::c155::c156::c157::c158::c159::c160::c161::c162::c163::c164::c165::c166::c167::c168::c169::c170::c171::c172::c173::c174::c175::c176::c177::c178::c179::c180::c181::c182::c183::c184::c185::c186::c187::c188::c189::c190::c191::c192::c193::c194::c195::c196::c197::c198::c199::c200::c201::c202::c203::c204::c205::c206::c207::c208::c209::c210::c211::c212::c213::c214::c215::c216::c217::c218::c219::c220::c221::c222::c223::c224::c225::c226::c227::c228::c229::c230::c231::c232::c233::c234::c235::c236::c237::c238::c239::c240::[]), []⟩ w'))
    (hexit : Hid (∀ (u2 u3 u36 u37 u38 u39 u40 u41 u42 u43 u44 u45 u46 u47 u48 u49 u50 u51 : Value) (w' : World), (∀ p ∈ ps, OkPg p NP) → Below w0.heap.size w0 w' → Q (.exit 0) ⟨List.toArray (c0::(.pointer (some ⟨X, 0, none⟩))::u2::u3::c4::c5::c6::c7::c8::c9::c10::c11::c12::c13::c14::c15::c16::c17::c18::c19::c20::c21::c22::c23::c24::c25::c26::c27::c28::c29::c30::c31::c32::c33::c34::c35::u36::u37::u38::u39::u40::u41::u42::u43::u44::u45::u46::u47::u48::u49::u50::u51::c52::c53::c54::c55::c56::c57::c58::c59::c60::c61::c62::c63::c64::c65::c66::c67::c68::c69::c70::c71::c72::c73::c74::c75::c76::c77::c78::c79::c80::c81::c82::c83::c84::c85::c86::c87::c88::c89::c90::c91::c92::c93::c94::c95::c96::c97::c98::c99::c100::c101::c102::c103::c104::c105::c106::c107::c108::c109::c110::c111::c112::c113::c114::c115::c116::c117::c118::c119::c120::c121::c122::c123::c124::c125::c126::c127::c128::c129::c130::c131::c132::c133::c134::c135::c136::c137::c138::c139::c140::c141::c142::c143::c144::c145::c146::c147::c148::c149::c150::c151::c152::c153::c154::c155::c156::c157::c158::c159::c160::c161::c162::c163::c164::c165::c166::c167::c168::c169::c170::c171::c172::c173::c174::c175::c176::c177::c178::c179::c180::c181::c182::c183::c184::c185::c186::c187::c188::c189::c190::c191::c192::c193::c194::c195::c196::c197::c198::c199::c200::c201::c202::c203::c204::c205::c206::c207::c208::c209::c210::c211::c212::c213::c214::c215::c216::c217::c218::c219::c220::c221::c222::c223::c224::c225::c226::c227::c228::c229::c230::c231::c232::c233::c234::c235::c236::c237::c238::c239::c240::[]), []⟩ w')) :
    Code.wp Try.prog (Code.loop (loopAt Try.f36 0)) Q ⟨List.toArray (c0::(.pointer (some ⟨X, 0, none⟩))::c2::(.int .i64 0)::c4::c5::c6::c7::c8::c9::c10::c11::c12::c13::c14::c15::c16::c17::c18::c19::c20::c21::c22::c23::c24::c25::c26::c27::c28::c29::c30::c31::c32::c33::c34::c35::c36::c37::c38::c39::c40::c41::c42::c43::c44::c45::c46::c47::c48::c49::c50::c51::c52::c53::c54::c55::c56::c57::c58::c59::c60::c61::c62::c63::c64::c65::c66::c67::c68::c69::c70::c71::c72::c73::c74::c75::c76::c77::c78::c79::c80::c81::c82::c83::c84::c85::c86::c87::c88::c89::c90::c91::c92::c93::c94::c95::c96::c97::c98::c99::c100::c101::c102::c103::c104::c105::c106::c107::c108::c109::c110::c111::c112::c113::c114::c115::c116::c117::c118::c119::c120::c121::c122::c123::c124::c125::c126::c127::c128::c129::c130::c131::c132::c133::c134::c135::c136::c137::c138::c139::c140::c141::c142::c143::c144::c145::c146::c147::c148::c149::c150::c151::c152::c153::c154::c155::c156::c157::c158::c159::c160::c161::c162::c163::c164::c165::c166::c167::c168::c169::c170::c171::c172::c173::c174::c175::c176::c177::c178::c179::c180::c181::c182::c183::c184::c185::c186::c187::c188::c189::c190::c191::c192::c193::c194::c195::c196::c197::c198::c199::c200::c201::c202::c203::c204::c205::c206::c207::c208::c209::c210::c211::c212::c213::c214::c215::c216::c217::c218::c219::c220::c221::c222::c223::c224::c225::c226::c227::c228::c229::c230::c231::c232::c233::c234::c235::c236::c237::c238::c239::c240::[]), []⟩ w0 := by
  conv => arg 2; arg 1; whnf
  go_loopw [3] (fun v wr => ∃ k : Nat, k ≤ NP ∧ v = .int .i64 (k : Int) ∧ (∀ p ∈ ps.take k, OkPg p NP) ∧ Below w0.heap.size w0 wr) (fun v _ => NP - (intOf v).toNat)
  case atStart => exact ⟨0, by omega, rfl, by simp, Below.refl _ _⟩
  case round =>
    obtain ⟨k, hk, rfl, hq, hb⟩ := hrel
    have hz := hb.size
    have x0' := cell_below hb x0
    have HQ := Lib.hid hq
    have HB := Lib.hid hb
    clear hq hb
    by_cases hlt : k < NP
    · obtain ⟨bp, op, rfl, hokb, hpa⟩ := HP.out k hlt
      have hkl : k < ps.length := by rw [← HNP.out]; exact hlt
      have hpw := hpa.below HB.out
      have HKL := Lib.hid hkl
      clear hpa hkl
      go_wp2
      change Code.wp _ ((regionOf 6 (loopAt Try.f36 0)).getD .skip) _ _ _
      refine r6 _ wr ok (fun b h => by have := hok b h; omega) X NP k bp op cp (by omega) _ _ _ _ hlt hNPm hokb x0' hpw ?_
      refine Lib.hid ?_
      intro z0 z1 z2 z3 z4 z5 z6 z7 b w2 hbb hb2
      have HBB := Lib.hid hbb
      have HB2 := Lib.hid hb2
      have hz2 := hb2.size
      clear hbb hb2 hpw
      cases b with
      | true =>
        go_wp2_with fail
        refine hbad.out _ _ _ _ _ _ _ _ _ _ _ _ _ _ _ _ _ _ ?_ (HB.out.trans (HB2.out.mono hz))
        intro h
        have := HBB.out
        simp only [true_iff] at this
        exact this (h _ (page_mem HKL.out))
      | false =>
        go_wp2_with fail
        go_roundw
        case rel =>
          refine ⟨k + 1, by omega, by go_num, ?_, HB.out.trans (HB2.out.mono hz)⟩
          rw [take_nextG (d := noPg) HKL.out]
          intro p hp
          simp only [List.mem_append, List.mem_singleton] at hp
          rcases hp with hp | rfl
          · exact HQ.out p hp
          · have := HBB.out
            simp only [Bool.false_eq_true, false_iff, Classical.not_not] at this
            exact this
        case measure => simp [intOf] <;> omega
    · obtain rfl : NP = k := by omega
      have e : ps.take NP = ps := List.take_of_length_le (by rw [← HNP.out]; exact Nat.le_refl _)
      rw [e] at HQ
      clear e
      go_wp2
      exact hexit.out _ _ _ _ _ _ _ _ _ _ _ _ _ _ _ _ _ _ _ HQ.out HB.out
end Go.Proofs.Ytahammkjkfdmhaa
/- The document's check of a tree: the whole of it. -/
namespace Go.Proofs.Ytahammkjkfdmhaa
open Go.ChangeShapes Go.WideShapes Go.ChangeAt Go.RowKit
set_option linter.unusedVariables false
set_option linter.unusedSimpArgs false
set_option maxHeartbeats 4000000
set_option maxRecDepth 1000000
theorem Try.info4 : (Try.prog.info? 4).map (fun i => (i.zero, i.size, i.bytes)) = some (some (.bool false), 1, 1) := by kernel_rfl
theorem cell_of_heap {w : World} {B j : Nat} {cs : Array Value} {t : TypeId} {fr : Nat × Nat} (h : w.heap[B]? = some (.cells cs t fr)) : w.cell? ⟨B, j, none⟩ = cs[j]? := by simp [World.cell?, h]
theorem seen_start (w : World) (n : Nat) : SeenIs (w.alloc (.cells (madeCells #[.bool false] n) 4)) w.heap.size n [] := by
  refine ⟨List.replicate n false, by simp, ?_, fun j hj => by simp [List.getD, hj]⟩
  rw [new0]
  have e : madeCells #[Value.bool false] n = ((List.replicate n false).map Value.bool).toArray := by
    rw [← Array.toArray_toList (xs := madeCells #[Value.bool false] n), toList_madeCells_one]
    simp
  rw [e]
theorem notPass_of {T : Tr} {a : List Nat} {l : List Spot} (hrun : Run T.pages T.root.toNat a l) (hl : l ≠ []) (h : ¬ (a.length + l.length ≤ T.pages.length) ∨ ¬ (∃ leaf, okLv T.pages leaf l)) : ¬ Pass T := by
  intro hp
  obtain ⟨leaf, h1, _, h2, _⟩ := pass_level hp hrun hl
  rcases h with g | g
  · exact g h2
  · exact g ⟨leaf, h1⟩
theorem pass_of {T : Tr} {a : List Nat} (hr : 0 ≤ T.root ∧ T.root < T.pages.length) (hpg : ∀ p ∈ T.pages, OkPg p T.pages.length) (hrun : Run T.pages T.root.toNat a []) (ha : a.length = T.pages.length) (hn : (T.root.toNat :: T.pages.flatMap kidsP).Nodup) : Pass T :=
  ⟨hr, hpg, ⟨a, by have := run_back hrun [] .done; rwa [List.append_nil] at this, ha⟩, hn⟩
theorem lev_start (w : World) (ok : Nat → Prop) (r : Nat) : Lev (((w.alloc (.cells #[.int .i64 (r : Int)] 3)).alloc (.cells #[.slice none 0 0] 25)).alloc (.cells #[.slice none 0 0] 25)) ok
    (.slice (some ⟨w.heap.size, 0, none⟩) 1 1) (.slice (some ⟨w.heap.size + 1, 0, none⟩) 1 1) (.slice (some ⟨w.heap.size + 1 + 1, 0, none⟩) 1 1) [(r, [], [])] := by
  have one : ∀ (W : World) (b : Nat) (x : Value), W.cell? ⟨b, 0, none⟩ = some x → Rd W 1 1 (.slice (some ⟨b, 0, none⟩) 1 1) [x] := by
    intro W b x h
    refine ⟨by simp, some ⟨b, 0, none⟩, 1, rfl, Nat.le_refl _, by unfold maxLen; omega, (fun h => by cases h), fun a ha j u hu => ?_⟩
    obtain rfl := Option.some.inj ha
    match j, hu with
    | 0, hu =>
      simp at hu
      subst hu
      rw [Addr.add_lit]
      exact h
    | j + 1, hu => simp at hu
  have ks1 : ∀ W, Ks W ok [.slice none 0 0] [([] : Key)] := fun W => by
    refine ⟨rfl, fun i k hk => ?_⟩
    match i, hk with
    | 0, hk =>
      simp at hk
      subst hk
      exact ⟨_, rfl, Rd.nil _ _, fun a n c h => by cases h⟩
    | i + 1, hk => simp at hk
  have n2 := new2 w (.cells #[.int .i64 (r : Int)] 3) (.cells #[.slice none 0 0] 25) (.cells #[.slice none 0 0] 25)
  have b2 : Below ((w.alloc (.cells #[.int .i64 (r : Int)] 3)).alloc (.cells #[.slice none 0 0] 25)).heap.size ((w.alloc (.cells #[.int .i64 (r : Int)] 3)).alloc (.cells #[.slice none 0 0] 25)) (((w.alloc (.cells #[.int .i64 (r : Int)] 3)).alloc (.cells #[.slice none 0 0] 25)).alloc (.cells #[.slice none 0 0] 25)) := (Below.refl _ _).alloc (Nat.le_refl _) _
  have b1 : Below (w.alloc (.cells #[.int .i64 (r : Int)] 3)).heap.size (w.alloc (.cells #[.int .i64 (r : Int)] 3)) ((w.alloc (.cells #[.int .i64 (r : Int)] 3)).alloc (.cells #[.slice none 0 0] 25)) := (Below.refl _ _).alloc (Nat.le_refl _) _
  have n1 := (b2.block (w.heap.size + 1) (by simp)).trans (new1 w (.cells #[.int .i64 (r : Int)] 3) (.cells #[.slice none 0 0] 25))
  have n0 := (b2.block w.heap.size (by simp; omega)).trans ((b1.block w.heap.size (by simp)).trans (new0 w (.cells #[.int .i64 (r : Int)] 3)))
  refine ⟨?_, ⟨[.slice none 0 0], ?_, ks1 _⟩, ⟨[.slice none 0 0], ?_, ks1 _⟩⟩
  · exact one _ _ _ ((cell_of_heap n0).trans (by simp))
  · exact one _ _ _ ((cell_of_heap n1).trans (by simp))
  · exact one _ _ _ ((cell_of_heap n2).trans (by simp))
theorem treeFault_any (w : World) (ok : Nat → Prop) (hok : ∀ b, ok b → b < w.heap.size) (tv : Value) (T : Tr) (ht : RT w ok tv T) (hrr : Rng T.root) :
    Calls Try.prog 36 #[tv] w (ChkIs T w) := by
  have HT := Lib.hid ht
  obtain ⟨ao, cap, kf, df, gf, rfl, g1, g2, g3⟩ := pagesF ht
  obtain ⟨N, hNN⟩ : ∃ N, N = T.pages.length := ⟨_, rfl⟩
  rw [← hNN] at g1 g3 HT
  rw [← hNN]
  obtain ⟨rt, hrt⟩ : ∃ rt : Int, rt = T.root := ⟨_, rfl⟩
  rw [← hrt] at HT hrr ⊢
  have HN := Lib.hid hNN
  have HP := Lib.hid g3
  have HRT := Lib.hid hrt
  unfold maxLen at g2
  unfold Rng at hrr
  clear hNN hrt g3 ht
  by_cases h4 : 1 ≤ N ∧ N ≤ 4000
  · have q1 : (decide ((1 : Int) ≤ (N : Int)) && decide ((N : Int) ≤ 4000)) = true := by simp; omega
    have hin1 := fun w => in_is w (N : Int) 1 4000 true q1
    have HIN1 := Lib.hid hin1
    clear hin1 q1
    by_cases hr : 0 ≤ rt ∧ rt < (N : Int)
    · have q2 : (decide ((0 : Int) ≤ rt) && decide (rt ≤ (N : Int) - 1)) = true := by simp; omega
      have hin2 := fun w => in_is w rt 0 ((N : Int) - 1) true q2
      have HIN2 := Lib.hid hin2
      clear hin2 q2
      obtain ⟨h41, h42⟩ := h4
      obtain ⟨hr0, hr1⟩ := hr
      obtain ⟨r, rfl⟩ : ∃ r : Nat, rt = (r : Int) := ⟨rt.toNat, by omega⟩
      have hrN : r < N := by omega
      have HRR : Hid (T.root.toNat = r) := Lib.hid (by rw [← HRT.out]; simp)
      go_enter Try.func36, Try.ntmps36
      go_wp2_with (first | (go_at_call 51; ((with_reducible refine (HIN1.out _).mono ?_); rintro e w' ⟨rfl, rfl⟩)) | (go_at_call 51; ((with_reducible refine (HIN2.out _).mono ?_); rintro e w' ⟨rfl, rfl⟩)))
      obtain ⟨W, hW⟩ : ∃ W : World, W = w.alloc (.cells #[.slice ao N cap, .int .i64 (r : Int)] 24) := ⟨_, rfl⟩
      have hBW : Below w.heap.size w W := by rw [hW]; go_grown
      have hWz : W.heap.size = w.heap.size + 1 := by rw [hW]; simp
      have x0 : W.cell? ⟨w.heap.size, 0, none⟩ = some (.slice ao N cap) := by rw [hW]; simp
      have x1 : W.cell? ⟨w.heap.size, 1, none⟩ = some (.int .i64 (r : Int)) := by rw [hW]; simp
      rw [← hW]
      have BW := Lib.hid hBW
      clear hW hBW
      change Code.wp _ (Code.loop (loopAt Try.f36 0)) _ _ _
      refine tf1 _ W w.heap.size ok (fun b h => by have := hok b h; omega) (by omega) T.pages N HN h42 ao cap x0 kf df gf (fun i hi => by
        obtain ⟨b, o, h1, h2, h3, h5⟩ := HP.out i hi
        exact ⟨b, o, h1, h3, h5.below BW.out⟩) ?_ ?_
      · refine Lib.hid ?_
        intro y3 y36 y37 y38 y39 y40 y41 y42 y43 y44 y45 y46 y47 y48 y49 y50 y51 w1 h1 h2
        have H1 := Lib.hid h1
        have H2 := Lib.hid h2
        clear h1 h2
        go_ret
        refine chkis_no (fun hp => H1.out fun p h => ?_) (into BW.out H2.out)
        rw [HN.out]
        exact hp.2.page p h
      · refine Lib.hid ?_
        intro y2 y3 y36 y37 y38 y39 y40 y41 y42 y43 y44 y45 y46 y47 y48 y49 y50 y51 w1 h1 h2
        have HPG := Lib.hid h1
        have HB1 := Lib.hid h2
        have x0' := cell_below h2 x0
        have x1' := cell_below h2 x1
        have hz1 := h2.size
        clear h1 h2 x0 x1
        go_wp2_with fail
        have hlev := lev_start w1 ok r
        obtain ⟨W2, hW2⟩ : ∃ W2 : World, W2 = ((w1.alloc (.cells #[.int .i64 (r : Int)] 3)).alloc (.cells #[.slice none 0 0] 25)).alloc (.cells #[.slice none 0 0] 25) := ⟨_, rfl⟩
        have hBW2 : Below w1.heap.size w1 W2 := by rw [hW2]; go_grown
        have hW2z : W2.heap.size = w1.heap.size + 3 := by rw [hW2]; simp
        rw [← hW2] at hlev ⊢
        have x02 := cell_below hBW2 x0'
        have x12 := cell_below hBW2 x1'
        have BW2 := Lib.hid (into BW.out (into HB1.out hBW2))
        have HLEV := Lib.hid hlev
        clear hW2 hBW2 hlev x0' x1' HB1
        have hq : Hid (∀ p ∈ T.pages, OkQ p T.pages.length) := fun p h => by
          have := (HPG.out p h).q
          rw [HN.out] at this
          exact this
        have HP2 : Hid (∀ i, i < N → ∃ b o, ao = some ⟨b, o, none⟩ ∧ ok b ∧ PageAt W2 ok b o i (kf i) (df i) (gf i) (T.pages.getD i noPg)) := fun i hi => by
          obtain ⟨b, o, h1, h2, h3, h5⟩ := HP.out i hi
          exact ⟨b, o, h1, h3, h5.below BW2.out⟩
        change Code.wp _ (Code.loop (loopAt Try.f36 1)) _ _ _
        refine tf2 _ W2 w.heap.size ok (fun b h => by have := hok b h; omega) (by omega) T.pages N HN h42 hq ao cap x02 kf df gf HP2 r _ _ _ HLEV.out hrN ?_ ?_
        · refine Lib.hid ?_
          iterate 141 intro _
          intro w2 h1 h2
          have H1 := Lib.hid h1
          have H2 := Lib.hid h2
          clear h1 h2
          go_ret
          refine chkis_no (fun hp => ?_) (into BW2.out H2.out)
          obtain ⟨a, l, g1, g2, g3⟩ := H1.out
          rw [HN.out] at g3
          rw [← HRR.out] at g1
          exact notPass_of g1 g2 g3 hp.2
        · refine Lib.hid ?_
          iterate 142 intro _
          intro w2 a h1 h2 h3 h4
          subst h2
          have H1 := Lib.hid h1
          have HB2 := Lib.hid (into BW2.out h4)
          have x03 := cell_below h4 x02
          have x13 := cell_below h4 x12
          have hz2 := h4.size
          obtain ⟨M, hM⟩ : ∃ M, M = a.length := ⟨_, rfl⟩
          have HM := Lib.hid hM
          rw [← hM] at h3 ⊢
          clear h1 h4 x02 x12 hM
          by_cases hMN : M = N
          · obtain rfl : N = M := hMN.symm
            obtain ⟨i0, hi, hz0, hz1, hz3⟩ := info_parts Try.info4
            have hmk := run_makeSlice (P := Try.prog) w2 78 4 i0 (.bool false) Try.underlying78 hi hz0 .i64 .i64 (N : Int) (N : Int) (by omega) (by omega) (by rw [hz1]; simp; omega) (by rw [hz3]; omega) (by omega)
            rw [hz1] at hmk
            simp only [Int.toNat_natCast, Nat.mul_one] at hmk
            have hX2 : w.heap.size < w2.heap.size := by omega
            have hsn := seen_start w2 N
            obtain ⟨sc, sf⟩ := hsn.cell hrN
            have HSN := Lib.hid hsn
            have rI0 : (0 : Int) ≤ (r : Int) := by omega
            have hne : ((N : Int) != (N : Int)) = false := by simp
            clear hsn
            go_wp2_with fail
            obtain ⟨W4, hW4⟩ : ∃ W4 : World, W4 = w2.alloc (.cells ((madeCells #[.bool false] N).setIfInBounds r (.bool true)) 4) := ⟨_, rfl⟩
            have hB4 : Below (w.heap.size + 1) w2 W4 := by rw [hW4]; exact (Below.refl _ _).alloc (by omega) _
            have hs4 : SeenIs W4 w2.heap.size N [r] := by have := HSN.out.set hrN; rw [World.setCell_alloc_new] at this; rw [hW4]; exact this
            have hW4z : W4.heap.size = w2.heap.size + 1 := by rw [hW4]; simp
            rw [← hW4]
            have x04 := (hB4.cell (p := ⟨w.heap.size, 0, none⟩) (by show w.heap.size < _; omega)).trans x03
            have HB4 := Lib.hid (HB2.out.trans (hB4.mono (by omega)))
            have HS4 := Lib.hid hs4
            have HP4 : Hid (∀ i, i < N → ∃ b o, ao = some ⟨b, o, none⟩ ∧ ok b ∧ PageAt W4 ok b o i (kf i) (df i) (gf i) (T.pages.getD i noPg)) := fun i hi => by
              obtain ⟨b, o, h1, h2, h3, h5⟩ := HP.out i hi
              exact ⟨b, o, h1, h3, h5.below HB4.out⟩
            clear hW4 hB4 hs4 sc sf hmk x03 x13 HSN
            change Code.wp _ (Code.loop (loopAt Try.f36 4)) _ _ _
            refine tf5 _ W4 (w.heap.size + 1) w.heap.size w2.heap.size N ok (fun b h => by have := hok b h; omega) (by omega) (by omega) (by omega) T.pages HN h42 hq ao cap x04 kf df gf HP4 r HS4.out ?_ ?_
            · refine Lib.hid ?_
              iterate 46 intro _
              intro w5 g1 g2
              have G1 := Lib.hid g1
              have G2 := Lib.hid g2
              clear g1 g2
              go_ret
              refine chkis_no (fun hp => G1.out ?_) (HB4.out.trans (G2.out.mono (by omega)))
              have := hp.2.once
              rw [HRR.out] at this
              exact this
            · refine Lib.hid ?_
              iterate 47 intro _
              intro w5 g1 g2
              have G1 := Lib.hid g1
              have G2 := Lib.hid g2
              clear g1 g2
              go_wp2_with fail
              go_ret
              refine chkis_yes (by rw [← HN.out]; exact h42) (pass_of (a := a) ?_ ?_ ?_ ?_ ?_) (HB4.out.trans (G2.out.mono (by omega)))
              · rw [← HRT.out, ← HN.out]; omega
              · intro p h
                rw [← HN.out]
                exact HPG.out p h
              · rw [HRR.out]; exact H1.out
              · rw [← HM.out, ← HN.out]
              · rw [HRR.out]; exact G1.out
          · have hne : ((M : Int) != (N : Int)) = true := by simp; omega
            have hne2 : (M != N) = true := by simp; omega
            go_wp2_with fail
            go_ret
            refine chkis_no (fun hp => ?_) HB2.out
            have g1 := H1.out
            rw [← HRR.out] at g1
            have := pass_end hp.2 g1
            rw [← HM.out, ← HN.out] at this
            exact hMN this
    · have q2 : (decide ((0 : Int) ≤ rt) && decide (rt ≤ (N : Int) - 1)) = false := by
        rw [← Bool.not_eq_true]
        simp
        omega
      have hin2 := fun w => in_is w rt 0 ((N : Int) - 1) false q2
      have HIN2 := Lib.hid hin2
      have HR := Lib.hid hr
      clear hin2 q2 hr
      go_enter Try.func36, Try.ntmps36
      go_wp2_with (first | (go_at_call 51; ((with_reducible refine (HIN1.out _).mono ?_); rintro e w' ⟨rfl, rfl⟩)) | (go_at_call 51; ((with_reducible refine (HIN2.out _).mono ?_); rintro e w' ⟨rfl, rfl⟩)))
      go_ret
      refine chkis_no (fun hp => HR.out ?_) (by go_grown)
      have := hp.2.root
      rw [← HRT.out, ← HN.out] at this
      exact this
  · have q1 : (decide ((1 : Int) ≤ (N : Int)) && decide ((N : Int) ≤ 4000)) = false := by
      rw [← Bool.not_eq_true]
      simp
      omega
    have hin1 := fun w => in_is w (N : Int) 1 4000 false q1
    have HIN1 := Lib.hid hin1
    have H4 := Lib.hid h4
    clear hin1 q1 h4
    go_enter Try.func36, Try.ntmps36
    go_wp2_with (go_at_call 51; ((with_reducible refine (HIN1.out _).mono ?_); rintro e w' ⟨rfl, rfl⟩))
    go_ret
    refine chkis_no (fun hp => H4.out ?_) (by go_grown)
    have h1 := hp.2.root
    have h2 := hp.1
    rw [← HN.out] at h1 h2
    omega
end Go.Proofs.Ytahammkjkfdmhaa
