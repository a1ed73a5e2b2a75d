/- The document's check of a tree: a page copied; a round of a level. -/
import Derived.Test.YtahammkjkfdmhaaIf
import Derived.Deep.QuietTactic
import Derived.BigQuiet
namespace Go.Proofs.Ytahammkjkfdmhaa
open Go.ChangeShapes Go.WideShapes Go.ChangeAt Go.RowKit
set_option linter.unusedVariables false
set_option linter.unusedSimpArgs false
set_option maxHeartbeats 4000000
variable {c0 c2 c3 c5 c6 c7 c8 c9 c10 c12 c13 c14 c15 c16 c17 c18 c19 c20 c21 c22 c23 c24 c25 c26 c27 c28 c29 c30 c31 c32 c33 c34 c35 c36 c37 c38 c39 c40 c41 c42 c43 c44 c45 c46 c47 c48 c49 c50 c51 c52 c53 c54 c55 c56 c57 c58 c59 c60 c61 c62 c63 c64 c65 c66 c67 c68 c69 c70 c71 c72 c73 c74 c75 c76 c77 c78 c79 c80 c81 c82 c83 c84 c85 c86 c87 c88 c89 c90 c91 c92 c93 c94 c95 c96 c97 c98 c99 c100 c101 c102 c103 c104 c105 c106 c107 c108 c109 c110 c111 c112 c113 c114 c115 c116 c117 c118 c119 c120 c121 c122 c123 c124 c125 c126 c127 c128 c129 c130 c131 c132 c133 c134 c135 c136 c137 c138 c139 c140 c141 c142 c143 c144 c145 c146 c147 c148 c149 c150 c151 c152 c153 c154 c155 c156 c157 c158 c159 c160 c161 c162 c163 c164 c165 c166 c167 c168 c169 c170 c171 c172 c173 c174 c175 c176 c177 c178 c179 c180 c181 c182 c183 c184 c185 c186 c187 c188 c189 c190 c191 c192 c193 c194 c195 c196 c197 c198 c199 c200 c201 c202 c203 c204 c205 c206 c207 c208 c209 c210 c211 c212 c213 c214 c215 c216 c217 c218 c219 c220 c221 c222 c223 c224 c225 c226 c227 c228 c229 c230 c231 c232 c233 c234 c235 c236 c237 c238 c239 c240 : Value}
set_option maxRecDepth 1000000
theorem r22 (Q : Exit → Act → World → Prop)  (w0 : World) (X b4 o4 cap4 L k bp op NP cp n : Nat) (pl : Bool) (ak ad ag : Option Addr) (K ck D cd Hh cg : Nat) (pn : Int) (hkL : k < L) (hnN : n < NP) (hX : X < w0.heap.size) (hb4 : b4 < w0.heap.size) (hbp : bp < w0.heap.size)
    (xx : w0.cell? ⟨X, 0, none⟩ = some (.slice (some ⟨bp, op, none⟩) NP cp)) (g4 : w0.cell? ⟨b4, o4 + k, none⟩ = some (.int .i64 (n : Int))) (a1 : w0.cell? ⟨bp, op + n * 5, none⟩ = some (.bool pl)) (a2 : w0.cell? ⟨bp, op + n * 5 + 1, none⟩ = some (.slice ak K ck)) (a3 : w0.cell? ⟨bp, op + n * 5 + 2, none⟩ = some (.slice ad D cd)) (a4 : w0.cell? ⟨bp, op + n * 5 + 3, none⟩ = some (.slice ag Hh cg)) (a5 : w0.cell? ⟨bp, op + n * 5 + 4, none⟩ = some (.int .i64 pn))
    (hout : Hid (∀ (u75 u76 u77 u78 u79 u80 u81 u82 : Value), Q .normal ⟨List.toArray (c0::(.pointer (some ⟨X, 0, none⟩))::c2::c3::(.slice (some ⟨b4, o4, none⟩) L cap4)::c5::c6::c7::c8::c9::c10::(.int .i64 (k : Int))::(.pointer (some ⟨w0.heap.size, 0, none⟩))::c13::c14::c15::c16::c17::c18::c19::c20::c21::c22::c23::c24::c25::c26::c27::c28::c29::c30::c31::c32::c33::c34::c35::c36::c37::c38::c39::c40::c41::c42::c43::c44::c45::c46::c47::c48::c49::c50::c51::c52::c53::c54::c55::c56::c57::c58::c59::c60::c61::c62::c63::c64::c65::c66::c67::c68::c69::c70::c71::c72::c73::c74::u75::u76::u77::u78::u79::u80::u81::u82::c83::c84::c85::c86::c87::c88::c89::c90::c91::c92::c93::c94::c95::c96::c97::c98::c99::c100::c101::c102::c103::c104::c105::c106::c107::c108::c109::c110::c111::c112::c113::c114::c115::c116::c117::c118::c119::c120::c121::c122::c123::c124::c125::c126::c127::c128::c129::c130::c131::c132::c133::c134::c135::c136::c137::c138::c139::c140::c141::c142::c143::c144::c145::c146::c147::c148::c149::c150::c151::c152::c153::c154::c155::c156::c157::c158::c159::c160::c161::c162::c163::c164::c165::c166::c167::c168::c169::c170::c171::c172::c173::c174::c175::c176::c177::c178::c179::c180::c181::c182::c183::c184::c185::c186::c187::c188::c189::c190::c191::c192::c193::c194::c195::c196::c197::c198::c199::c200::c201::c202::c203::c204::c205::c206::c207::c208::c209::c210::c211::c212::c213::c214::c215::c216::c217::c218::c219::c220::c221::c222::c223::c224::c225::c226::c227::c228::c229::c230::c231::c232::c233::c234::c235::c236::c237::c238::c239::c240::[]), []⟩ ((w0.alloc (.cells #[.bool pl, .slice ak K ck, .slice ad D cd, .slice ag Hh cg, .int .i64 pn] 43)).drew))) :
    Code.wp Try.prog ((regionOf 22 (loopAt Try.f36 2)).getD .skip) Q ⟨List.toArray (c0::(.pointer (some ⟨X, 0, none⟩))::c2::c3::(.slice (some ⟨b4, o4, none⟩) L cap4)::c5::c6::c7::c8::c9::c10::(.int .i64 (k : Int))::c12::c13::c14::c15::c16::c17::c18::c19::c20::c21::c22::c23::c24::c25::c26::c27::c28::c29::c30::c31::c32::c33::c34::c35::c36::c37::c38::c39::c40::c41::c42::c43::c44::c45::c46::c47::c48::c49::c50::c51::c52::c53::c54::c55::c56::c57::c58::c59::c60::c61::c62::c63::c64::c65::c66::c67::c68::c69::c70::c71::c72::c73::c74::c75::c76::c77::c78::c79::c80::c81::c82::c83::c84::c85::c86::c87::c88::c89::c90::c91::c92::c93::c94::c95::c96::c97::c98::c99::c100::c101::c102::c103::c104::c105::c106::c107::c108::c109::c110::c111::c112::c113::c114::c115::c116::c117::c118::c119::c120::c121::c122::c123::c124::c125::c126::c127::c128::c129::c130::c131::c132::c133::c134::c135::c136::c137::c138::c139::c140::c141::c142::c143::c144::c145::c146::c147::c148::c149::c150::c151::c152::c153::c154::c155::c156::c157::c158::c159::c160::c161::c162::c163::c164::c165::c166::c167::c168::c169::c170::c171::c172::c173::c174::c175::c176::c177::c178::c179::c180::c181::c182::c183::c184::c185::c186::c187::c188::c189::c190::c191::c192::c193::c194::c195::c196::c197::c198::c199::c200::c201::c202::c203::c204::c205::c206::c207::c208::c209::c210::c211::c212::c213::c214::c215::c216::c217::c218::c219::c220::c221::c222::c223::c224::c225::c226::c227::c228::c229::c230::c231::c232::c233::c234::c235::c236::c237::c238::c239::c240::[]), []⟩ w0 := by
  conv => arg 2; whnf
  have i0 : (0 : Int) ≤ (k : Int) := by omega
  have i1 : (k : Int) < (L : Int) := by omega
  have i2 : (0 : Int) ≤ (n : Int) := by omega
  have i3 : (n : Int) < (NP : Int) := by omega
  go_region
  all_goals exact hout.out _ _ _ _ _ _ _ _
theorem rndB (Q : Exit → Act → World → Prop)  (w0 : World) (B X : Nat) (ok : Nat → Prop) (hok : ∀ b, ok b → b < B) (hBw : B = w0.heap.size) (hX : X < B) (ps : List Pg) (NP : Nat) (HNP : Hid (NP = ps.length)) (hNPm : NP ≤ 4000) (hq : Hid (∀ p ∈ ps, OkQ p ps.length))
    (ap : Option Addr) (cp : Nat) (x0 : w0.cell? ⟨X, 0, none⟩ = some (.slice ap NP cp)) (kf df gf : Nat → Value) (HP : Hid (∀ i, i < NP → ∃ b o, ap = some ⟨b, o, none⟩ ∧ ok b ∧ PageAt w0 ok b o i (kf i) (df i) (gf i) (ps.getD i noPg)))
    (l : List Spot) (L : Nat) (HL : Hid (L = l.length)) (hL0 : 0 < L) (hLm : L ≤ 4000) (hlt : Hid (∀ x ∈ l, x.1 < NP)) (b4 o4 cap4 b5 o5 cap5 b6 o6 cap6 : Nat) (hb4 : b4 < B) (hb5 : b5 < B) (hb6 : b6 < B)
    (L4 : Hid (∀ i, i < L → w0.cell? ⟨b4, o4 + i, none⟩ = some (.int .i64 ((l.getD i sp0).1 : Int)))) (f5 f6 : Nat → Value) (L5 : Hid (∀ i, i < L → w0.cell? ⟨b5, o5 + i, none⟩ = some (f5 i) ∧ RB w0 ok (f5 i) (l.getD i sp0).2.1)) (L6 : Hid (∀ i, i < L → w0.cell? ⟨b6, o6 + i, none⟩ = some (f6 i) ∧ RB w0 ok (f6 i) (l.getD i sp0).2.2))

    (leaf0 : Bool) (hl0 : leaf0 = (ps.getD (l.getD 0 sp0).1 noPg).leaf) (wr : World) (k : Nat) (v8 v9 v10 : Value) (HO : Hid (Own3 wr B ok X v8 v9 v10 (downL ps (l.take k)))) (hb : Below B w0 wr) (hlt2 : k < L) (hr : ¬ k + 1 < L)
    (hbad : Hid (∀ (u8 u9 u10 u11 u12 u13 u14 u15 u16 u69 u70 u71 u72 u73 u74 u75 u76 u77 u78 u79 u80 u81 u82 u83 u84 u85 u86 u87 u88 u89 u90 u91 u92 u93 u94 u95 u96 u97 u98 u99 u100 u101 u102 u103 u104 u105 u106 u107 u108 u109 u110 u111 u112 u113 u114 u115 u116 u117 u118 u119 u120 u121 u122 u123 u124 u125 u126 u127 u128 u129 u130 u131 u132 u133 u134 u135 u136 u137 u138 u139 u140 u141 u142 u143 u144 u145 u146 u147 u148 u149 u150 u151 u152 u153 u154 u155 u156 u157 u158 u159 u160 u161 u162 u163 u164 u165 u166 u167 u168 u169 u170 u171 u172 u173 u174 u175 u176 u177 u178 u179 u180 u181 : Value) (w' : World), ¬ (∃ leaf, okLv ps leaf l) → Below B w0 w' → Q .ret ⟨List.toArray (c0::(.pointer (some ⟨X, 0, none⟩))::(.int .i64 11)::c3::(.slice (some ⟨b4, o4, none⟩) L cap4)::(.slice (some ⟨b5, o5, none⟩) L cap5)::(.slice (some ⟨b6, o6, none⟩) L cap6)::c7::u8::u9::u10::u11::u12::u13::u14::u15::u16::c17::c18::c19::c20::c21::c22::c23::c24::c25::c26::c27::c28::c29::c30::c31::c32::c33::c34::c35::c36::c37::c38::c39::c40::c41::c42::c43::c44::c45::c46::c47::c48::c49::c50::c51::c52::c53::c54::c55::c56::c57::c58::c59::c60::c61::c62::c63::c64::c65::c66::c67::c68::u69::u70::u71::u72::u73::u74::u75::u76::u77::u78::u79::u80::u81::u82::u83::u84::u85::u86::u87::u88::u89::u90::u91::u92::u93::u94::u95::u96::u97::u98::u99::u100::u101::u102::u103::u104::u105::u106::u107::u108::u109::u110::u111::u112::u113::u114::u115::u116::u117::u118::u119::u120::u121::u122::u123::u124::u125::u126::u127::u128::u129::u130::u131::u132::u133::u134::u135::u136::u137::u138::u139::u140::u141::u142::u143::u144::u145::u146::u147::u148::u149::u150::u151::u152::u153::u154::u155::u156::u157::u158::u159::u160::u161::u162::u163::u164::u165::u166::u167::u168::u169::u170::u171::u172::u173::u174::u175::u176::u177::u178::u179::u180::u181::c182::c183::c184::c185::c186::c187::c188::c189::c190::c191::c192::c193::c194::c195::c196::c197::c198::c199::c200::c201::c202::c203::c204::c205::c206::c207::c208::c209::c210::c211::c212::c213::c214::c215::c216::c217::c218::c219::c220::c221::c222::c223::c224::c225::c226::c227::c228::c229::c230::c231::c232::c233::c234::c235::c236::c237::c238::c239::c240::[]), []⟩ w'))
    (hnext : Hid (∀ (u2 u8 u9 u10 u12 u13 u14 u15 u16 u69 u70 u71 u72 u73 u74 u75 u76 u77 u78 u79 u80 u81 u82 u83 u84 u85 u86 u87 u88 u89 u90 u91 u92 u93 u94 u95 u96 u97 u98 u99 u100 u101 u102 u103 u104 u105 u106 u107 u108 u109 u110 u111 u112 u113 u114 u115 u116 u117 u118 u119 u120 u121 u122 u123 u124 u125 u126 u127 u128 u129 u130 u131 u132 u133 u134 u135 u136 u137 u138 u139 u140 u141 u142 u143 u144 u145 u146 u147 u148 u149 u150 u151 u152 u153 u154 u155 u156 u157 u158 u159 u160 u161 u162 u163 u164 u165 u166 u167 u168 u169 u170 u171 u172 u173 u174 u175 u176 u177 u178 u179 u180 u181 : Value) (w' : World), okAt ps leaf0 l k → Own3 w' B ok X u8 u9 u10 (downL ps (l.take (k + 1))) → Below B w0 w' → Q .normal ⟨List.toArray (c0::(.pointer (some ⟨X, 0, none⟩))::u2::c3::(.slice (some ⟨b4, o4, none⟩) L cap4)::(.slice (some ⟨b5, o5, none⟩) L cap5)::(.slice (some ⟨b6, o6, none⟩) L cap6)::c7::u8::u9::u10::(.int .i64 ((k : Int) + 1))::u12::u13::u14::u15::u16::c17::c18::c19::c20::c21::c22::c23::c24::c25::c26::c27::c28::c29::c30::c31::c32::c33::c34::c35::c36::c37::c38::c39::c40::c41::c42::c43::c44::c45::c46::c47::c48::c49::c50::c51::c52::c53::c54::c55::c56::c57::c58::c59::c60::c61::c62::c63::c64::c65::c66::c67::c68::u69::u70::u71::u72::u73::u74::u75::u76::u77::u78::u79::u80::u81::u82::u83::u84::u85::u86::u87::u88::u89::u90::u91::u92::u93::u94::u95::u96::u97::u98::u99::u100::u101::u102::u103::u104::u105::u106::u107::u108::u109::u110::u111::u112::u113::u114::u115::u116::u117::u118::u119::u120::u121::u122::u123::u124::u125::u126::u127::u128::u129::u130::u131::u132::u133::u134::u135::u136::u137::u138::u139::u140::u141::u142::u143::u144::u145::u146::u147::u148::u149::u150::u151::u152::u153::u154::u155::u156::u157::u158::u159::u160::u161::u162::u163::u164::u165::u166::u167::u168::u169::u170::u171::u172::u173::u174::u175::u176::u177::u178::u179::u180::u181::c182::c183::c184::c185::c186::c187::c188::c189::c190::c191::c192::c193::c194::c195::c196::c197::c198::c199::c200::c201::c202::c203::c204::c205::c206::c207::c208::c209::c210::c211::c212::c213::c214::c215::c216::c217::c218::c219::c220::c221::c222::c223::c224::c225::c226::c227::c228::c229::c230::c231::c232::c233::c234::c235::c236::c237::c238::c239::c240::[]), []⟩ w')) :
    Code.wp Try.prog (loopAt Try.f36 2) Q ⟨List.toArray (c0::(.pointer (some ⟨X, 0, none⟩))::c2::c3::(.slice (some ⟨b4, o4, none⟩) L cap4)::(.slice (some ⟨b5, o5, none⟩) L cap5)::(.slice (some ⟨b6, o6, none⟩) L cap6)::c7::v8::v9::v10::(.int .i64 (k : Int))::c12::c13::c14::c15::c16::c17::c18::c19::c20::c21::c22::c23::c24::c25::c26::c27::c28::c29::c30::c31::c32::c33::c34::c35::c36::c37::c38::c39::c40::c41::c42::c43::c44::c45::c46::c47::c48::c49::c50::c51::c52::c53::c54::c55::c56::c57::c58::c59::c60::c61::c62::c63::c64::c65::c66::c67::c68::c69::c70::c71::c72::c73::c74::c75::c76::c77::c78::c79::c80::c81::c82::c83::c84::c85::c86::c87::c88::c89::c90::c91::c92::c93::c94::c95::c96::c97::c98::c99::c100::c101::c102::c103::c104::c105::c106::c107::c108::c109::c110::c111::c112::c113::c114::c115::c116::c117::c118::c119::c120::c121::c122::c123::c124::c125::c126::c127::c128::c129::c130::c131::c132::c133::c134::c135::c136::c137::c138::c139::c140::c141::c142::c143::c144::c145::c146::c147::c148::c149::c150::c151::c152::c153::c154::c155::c156::c157::c158::c159::c160::c161::c162::c163::c164::c165::c166::c167::c168::c169::c170::c171::c172::c173::c174::c175::c176::c177::c178::c179::c180::c181::c182::c183::c184::c185::c186::c187::c188::c189::c190::c191::c192::c193::c194::c195::c196::c197::c198::c199::c200::c201::c202::c203::c204::c205::c206::c207::c208::c209::c210::c211::c212::c213::c214::c215::c216::c217::c218::c219::c220::c221::c222::c223::c224::c225::c226::c227::c228::c229::c230::c231::c232::c233::c234::c235::c236::c237::c238::c239::c240::[]), []⟩ wr := by
  conv => arg 2; whnf
  have HL0 := Lib.hid hl0
  have h4_0 := L4.out 0 hL0
  rw [Nat.add_zero] at h4_0
  obtain ⟨n0, hn0⟩ : ∃ n0, n0 = (l.getD 0 sp0).1 := ⟨_, rfl⟩
  rw [← hn0] at h4_0 hl0
  have hn0N : n0 < NP := by
    rw [hn0]
    refine hlt.out _ ?_
    have hl0' : 0 < l.length := by rw [← HL.out]; exact hL0
    simp only [List.getD, List.getElem?_eq_getElem hl0', Option.getD_some]
    exact List.getElem_mem hl0'
  obtain ⟨bp, op, hap, hkp, hpa0⟩ := HP.out n0 hn0N
  subst hap
  have hbp := hok _ hkp
  have hpl0 := hpa0.1
  rw [← hl0] at hpl0
  have HN0 := Lib.hid hn0
  clear hl0 hn0 hpa0 hkp
  have HB := Lib.hid hb
  have hz := hb.size
  have g4 := (hb.cell (p := ⟨b4, o4 + k, none⟩) (by show b4 < _; omega)).trans (L4.out k hlt2)
  have g40 := (hb.cell (p := ⟨b4, o4, none⟩) (by show b4 < _; omega)).trans h4_0
  obtain ⟨g5, r5⟩ := L5.out k hlt2
  have g5' := (hb.cell (p := ⟨b5, o5 + k, none⟩) (by show b5 < _; omega)).trans g5
  obtain ⟨g6, r6⟩ := L6.out k hlt2
  have g6' := (hb.cell (p := ⟨b6, o6 + k, none⟩) (by show b6 < _; omega)).trans g6
  obtain ⟨x, hx⟩ : ∃ x, x = l.getD k sp0 := ⟨_, rfl⟩
  rw [← hx] at g4 r5 r6
  have hxl : k < l.length := by rw [← HL.out]; exact hlt2
  have hxm : x ∈ l := by
    rw [hx]
    simp only [List.getD, List.getElem?_eq_getElem hxl, Option.getD_some]
    exact List.getElem_mem hxl
  have hxn := hlt.out x hxm
  obtain ⟨bp', op', hap', hkp', hpa⟩ := HP.out x.1 hxn
  cases hap'
  obtain ⟨p, hp⟩ : ∃ p, p = ps.getD x.1 noPg := ⟨_, rfl⟩
  rw [← hp] at hpa
  have hpq : OkQ p ps.length := by rw [hp]; exact hq.out _ (page_mem (by rw [← HNP.out]; exact hxn))
  have HPQ := Lib.hid hpq
  have HPD := Lib.hid hp
  have HX := Lib.hid hx
  have HXL := Lib.hid hxl
  have xx := (hb.cell (p := ⟨X, 0, none⟩) (by show X < _; omega)).trans x0
  have pl0 := (hb.cell (p := ⟨bp, op + n0 * 5, none⟩) (by show bp < _; omega)).trans hpl0
  have hagr : Agree ok w0 wr := Agree.lt hok hb
  have R5 := Lib.hid (r5.agree hagr)
  have R6 := Lib.hid (r6.agree hagr)
  obtain ⟨a1, a2, a3, a4, a5, a6, a7, a8⟩ := hpa
  have a1' := (hb.cell (p := ⟨bp, op + x.1 * 5, none⟩) (by show bp < _; omega)).trans a1
  have a2' := (hb.cell (p := ⟨bp, op + x.1 * 5 + 1, none⟩) (by show bp < _; omega)).trans a2
  have a3' := (hb.cell (p := ⟨bp, op + x.1 * 5 + 2, none⟩) (by show bp < _; omega)).trans a3
  have a4' := (hb.cell (p := ⟨bp, op + x.1 * 5 + 3, none⟩) (by show bp < _; omega)).trans a4
  have a5' := (hb.cell (p := ⟨bp, op + x.1 * 5 + 4, none⟩) (by show bp < _; omega)).trans a5
  have A6 := Lib.hid (a6.agree hagr)
  have A7 := Lib.hid (a7.agree hagr)
  have A8 := Lib.hid (a8.agree hagr)
  obtain ⟨n, lo, hi⟩ := x
  simp only at g4 r5 r6 hxn a1' a2' a3' a4' a5' R5 R6
  obtain ⟨pl, pks, pds, ph, pn⟩ := p
  simp only at a1' a5' A6 A7 A8
  obtain ⟨ak, ck, ff, k0, _, k2, k3⟩ := keysF A6.out
  obtain ⟨ad, cd, d0, _, d2, d3⟩ := intsF A7.out
  obtain ⟨ag, cg, e8⟩ := A8.out.sh
  obtain ⟨a5s, c5s, e5⟩ := R5.out.sh
  obtain ⟨a6s, c6s, e6⟩ := R6.out.sh
  rw [k0] at a2' A6
  rw [d0] at a3' A7
  rw [e8] at a4' A8
  rw [e5] at g5' R5
  rw [e6] at g6' R6
  obtain ⟨K, hK⟩ : ∃ K, K = pks.length := ⟨_, rfl⟩
  obtain ⟨D, hD⟩ : ∃ D, D = pds.length := ⟨_, rfl⟩
  obtain ⟨Hh, hHh⟩ : ∃ H, H = ph.length := ⟨_, rfl⟩
  obtain ⟨n5, hn5⟩ : ∃ H, H = lo.length := ⟨_, rfl⟩
  obtain ⟨n6, hn6⟩ : ∃ H, H = hi.length := ⟨_, rfl⟩
  rw [← hK] at a2' A6 k3
  rw [← hD] at a3' A7 d3
  rw [← hHh] at a4' A8
  rw [← hn5] at g5' R5
  rw [← hn6] at g6' R6
  have K3 := Lib.hid k3
  have D3 := Lib.hid d3
  have HK := Lib.hid hK
  have HD := Lib.hid hD
  have HH := Lib.hid hHh
  have HN5 := Lib.hid hn5
  have HN6 := Lib.hid hn6
  unfold maxLen at k2 d2
  have i0 : (0 : Int) ≤ (k : Int) := by omega
  have i1 : (k : Int) < (L : Int) := by omega
  have i2 : (0 : Int) ≤ (n : Int) := by omega
  have i3 : (n : Int) < (NP : Int) := by omega
  have i4 : (0 : Int) ≤ (n0 : Int) := by omega
  have i5 : (n0 : Int) < (NP : Int) := by omega
  have hbp2 : bp < wr.heap.size := by omega
  have hb42 : b4 < wr.heap.size := by omega
  have hb52 : b5 < wr.heap.size := by omega
  have hb62 : b6 < wr.heap.size := by omega
  have hX2 : X < wr.heap.size := by omega
  clear k0 d0 e8 e5 e6 hK hD hHh hn5 hn6 k3 d3 g5 g6 r5 r6 a1 a2 a3 a4 a5 a6 a7 a8 hx hxl hp hpq hkp' hxm hagr x0 h4_0 hpl0 hb
  have hrI : ¬ (k : Int) + 1 < (L : Int) := by omega
  have hrL : Hid (¬ k + 1 < l.length) := Lib.hid (by rw [← HL.out]; exact hr)
  go_wp2
  change Code.wp _ ((regionOf 22 (loopAt Try.f36 2)).getD .skip) _ _ _
  refine r22 _ wr X b4 o4 cap4 L k bp op NP cp n pl ak ad ag K ck D cd Hh cg pn hlt2 hxn hX2 hb42 hbp2 xx g4 a1' a2' a3' a4' a5' ?_
  intro e0 e1 e2 e3 e4 e5 e6 e7
  go_wp2_with fail
  obtain ⟨w1, hw1⟩ : ∃ w1 : World, w1 = (wr.alloc (.cells #[.bool pl, .slice ak K ck, .slice ad D cd, .slice ag Hh cg, .int .i64 pn] 43)).drew := ⟨_, rfl⟩
  have hb1 : Below wr.heap.size wr w1 := by rw [hw1]; go_grown
  have hz1 : w1.heap.size = wr.heap.size + 1 := by rw [hw1]; simp
  have p0_1 : w1.cell? ⟨wr.heap.size, 0, none⟩ = some (.bool pl) := by rw [hw1]; simp
  have p1_1 : w1.cell? ⟨wr.heap.size, 1, none⟩ = some (.slice ak K ck) := by rw [hw1]; simp
  have p2_1 : w1.cell? ⟨wr.heap.size, 2, none⟩ = some (.slice ad D cd) := by rw [hw1]; simp
  have p3_1 : w1.cell? ⟨wr.heap.size, 3, none⟩ = some (.slice ag Hh cg) := by rw [hw1]; simp
  have p4_1 : w1.cell? ⟨wr.heap.size, 4, none⟩ = some (.int .i64 pn) := by rw [hw1]; simp
  rw [← hw1]
  clear hw1
  have g40_1 := cell_below hb1 g40
  have g5'_1 := cell_below hb1 g5'
  have g6'_1 := cell_below hb1 g6'
  have xx_1 := cell_below hb1 xx
  have pl0_1 := cell_below hb1 pl0
  have HB1 := Lib.hid hb1
  clear g4 g40 g5' g6' xx pl0 a1' a2' a3' a4' a5' hb1
  have r8 := (A8.out.below HB1.out).1
  have r6 := (R6.out.below HB1.out).1
  rw [HH.out] at r8
  rw [HN6.out] at r6
  have hsk := fun q hs m => same_is w1 _ _ ph hi q hs r8 r6 m
  rw [← HH.out, ← HN6.out] at hsk
  have HSK := Lib.hid hsk
  clear hsk r8 r6
  by_cases e1 : pn = (-1)
  · subst e1
    by_cases hs : ph = hi
    · have HPH := Lib.hid hs
      by_cases e2 : pl = leaf0
      · have E2 := Lib.hid e2
        change Code.wp _ ((regionOf 26 (loopAt Try.f36 2)).getD .skip) _ _ _
        refine r26d _ _ _ _ b6 o6 L cap6 k ag a6s Hh cg n6 c6s hlt2 g6'_1 p3_1 p4_1 X b4 o4 cap4 bp op NP cp n0 leaf0 pl hn0N xx_1 g40_1 pl0_1 p0_1 (fun m => HSK.out true (by simpa using hs) m) (by simp [e2]) ?_
        iterate 26 intro _
        intro nq
        obtain ⟨w2, hw2⟩ : ∃ w2 : World, w2 = w1.drewN nq := ⟨_, rfl⟩
        have hb2 : Below w1.heap.size w1 w2 := by rw [hw2]; exact below_drewN _ _
        have hz2 : w2.heap.size = w1.heap.size := by rw [hw2]; simp
        rw [← hw2]
        clear hw2 nq
        have g5'_2 := cell_below hb2 g5'_1
        have g6'_2 := cell_below hb2 g6'_1
        have p0_2 := cell_below hb2 p0_1
        have p1_2 := cell_below hb2 p1_1
        have p2_2 := cell_below hb2 p2_1
        have HB12 : Hid (Below wr.heap.size wr w2) := HB1.out.trans (hb2.mono (by omega))
        clear hb2 g40_1 g5'_1 g6'_1 xx_1 pl0_1 p0_1 p1_1 p2_1 p3_1 p4_1 HSK
        go_wp2_with fail
        rcases Nat.eq_zero_or_pos K with hK0 | hK0
        · have HK0 := Lib.hid hK0
          have HFIRST : Hid (∀ k r, pks = k :: r → kl k lo = false) := by
            intro k r h
            have h1 := HK.out
            have h0 := HK0.out
            rw [h] at h1
            simp at h1
            omega
          clear hK0
          change Code.wp _ ((regionOf 28 (loopAt Try.f36 2)).getD .skip) _ _ _
          refine r28a _ _ _ ak ck (by rw [← HK0.out]; exact p1_2) ?_
          intro z0 z1 z2 z3 z4 z5 z6 z7 z8 z9 z10 z11 z12 z13 nq
          obtain ⟨w3, hw3⟩ : ∃ w3 : World, w3 = w2.drewN nq := ⟨_, rfl⟩
          have hb3 : Below w2.heap.size w2 w3 := by rw [hw3]; exact below_drewN _ _
          have hz3 : w3.heap.size = w2.heap.size := by rw [hw3]; simp
          rw [← hw3]
          clear hw3
          have g5'_3 := cell_below hb3 g5'_2
          have g6'_3 := cell_below hb3 g6'_2
          have p0_3 := cell_below hb3 p0_2
          have p1_3 := cell_below hb3 p1_2
          have p2_3 := cell_below hb3 p2_2
          have hb13 : Below wr.heap.size wr w3 := HB12.out.trans (hb3.mono (by omega))
          have HB13 := Lib.hid hb13
          clear hb3 hb13 g5'_2 g6'_2 p0_2 p1_2 p2_2
          go_wp2_with fail
          have HHI := Lib.hid (R6.out.below HB13.out)
          have hkid : Hid (∀ c ∈ pds, (0 : Int) ≤ c) := fun c hc => (HPQ.out.kid c hc).1
          have hdk : pl = false → D = K + 1 := fun h => by
            have := HPQ.out.kids
            simp only [h] at this
            rw [HD.out, HK.out]
            simpa using this
          have hk4 : K ≤ 4 := by rw [HK.out]; exact HPQ.out.keys
          have hd5 : D ≤ 4611686018427387904 := by
            have := HPQ.out.kids
            have h4 := HPQ.out.keys
            simp only at this h4
            rw [HD.out, this]
            split <;> omega
          change Code.wp _ (Code.loop (loopAt Try.f36 3)) _ _ _
          refine tf4 _ (w0 := w3) (B := B) (P := wr.heap.size) (ok := ok) (hok := hok) (hBw := by omega) (hPB := by omega) (hPw := by omega) (leaf := pl) (ks := pks) (ds := pds) (K := K) (D := D) (hK := HK.out) (hD := HD.out) (hDK := hdk) (hK4 := hk4) (hDm := hd5) (hds := hkid.out) (ak := _) (ad := ad) (ck := ck) (cd := cd) (ff := ff) (p0 := p0_3) (p1 := p1_3) (p2 := p2_3)
            (K3 := fun i hi => by
              obtain ⟨b, o, h1, h2, h3, h4, h5⟩ := K3.out i hi
              exact ⟨b, o, h1, h3, cell_below HB13.out h4, h5.below HB13.out⟩)
            (D3 := fun i hi => by
              obtain ⟨b, o, h1, h2, h3, h4⟩ := D3.out i hi
              exact ⟨b, o, h1, h3, cell_below HB13.out h4⟩)
            (lo := lo) (hi := hi) (lv := .slice a5s n5 c5s) (hlo := R5.out.below HB13.out) (ah := a6s) (nh := n6) (ch := c6s) (hhi := HHI.out) (b6 := b6) (o6 := o6) (L := L) (cap6 := cap6) (k := k) (hb6 := hb6) (hkL := hlt2) (h6 := g6'_3)
            (v8 := v8) (v9 := v9) (v10 := v10) (l := downL ps (l.take k)) (hown := (HO.out.re (P' := wr.heap.size) (.inl (Nat.le_refl _))).below HB13.out) (hl := ?_) (hexit := ?_)
          · have h1 := downL_len (ps := ps) (l := l.take k) fun y hy => hq.out _ (page_mem (by rw [← HNP.out]; exact hlt.out y (List.mem_of_mem_take hy)))
            have h2 : (l.take k).length ≤ 4000 := by rw [List.length_take]; omega
            omega
          · intro y8 y9 y10 y14 y15 y16 y139 y140 y141 y142 y143 y144 y145 y146 y147 y148 y149 y150 y151 y152 y153 y154 y155 y156 y157 y158 y159 y160 y161 y162 y163 y164 y165 y166 y167 y168 y169 y170 y171 y172 y173 y174 y175 y176 y177 y178 y179 y180 y181 w4 hown4 hb4'
            have HOWN4 := Lib.hid hown4
            have HB4 := Lib.hid hb4'
            clear hown4 hb4'
            go_wp2_with fail
            refine hnext.out _ _ _ _ _ _ _ _ _ _ _ _ _ _ _ _ _ _ _ _ _ _ _ _ _ _ _ _ _ _ _ _ _ _ _ _ _ _ _ _ _ _ _ _ _ _ _ _ _ _ _ _ _ _ _ _ _ _ _ _ _ _ _ _ _ _ _ _ _ _ _ _ _ _ _ _ _ _ _ _ _ _ _ _ _ _ _ _ _ _ _ _ _ _ _ _ _ _ _ _ _ _ _ _ _ _ _ _ _ _ _ _ _ _ _ _ _ _ _ _ _ _ _ ?_ ?_ (HB.out.trans ((HB13.out.mono (by omega)).trans HB4.out))
            · unfold okAt
              rw [← HX.out, ← HPD.out]
              exact ⟨by rw [if_neg hrL.out], HPH.out, E2.out, HFIRST.out⟩
            · rw [downL_next HXL.out, ← HX.out]
              have e : downP ps (n, lo, hi) = if pl then [] else kidsB lo hi pds pks := by
                unfold downP
                rw [← HPD.out]
              rw [e]
              exact HOWN4.out.re (.inr hX)
        · obtain ⟨b3, o3, hb3, hl3, hok3, k3, k3'⟩ := K3.out 0 hK0
          obtain ⟨s, hs2⟩ : ∃ s, s = pks.getD 0 [] := ⟨_, rfl⟩
          rw [← hs2] at k3'
          obtain ⟨sa, sc, es⟩ := k3'.sh
          rw [es] at k3 k3'
          rw [Nat.add_zero] at k3
          have q3 := cell_below HB12.out k3
          have r3 := (k3'.below HB12.out).1
          have r5 := (R5.out.below HB12.out).1
          rw [HN5.out] at r5
          have hkb := fun q hs m => bef_is w2 _ _ s lo q hs r3 r5 m
          rw [← HN5.out] at hkb
          obtain ⟨ns, hns⟩ : ∃ ns, ns = s.length := ⟨_, rfl⟩
          rw [← hns] at q3 hkb
          have HKB := Lib.hid hkb
          have HS2 := Lib.hid hs2
          subst hb3
          clear hkb r3 r5 k3 k3' es hs2 hns hl3 hok3
          rcases hkl : kl s lo with _ | _
          · have HFIRST : Hid (∀ k r, pks = k :: r → kl k lo = false) := by
              intro k r h
              have h1 := HS2.out
              rw [h] at h1
              simp at h1
              rw [← h1]
              exact hkl
            change Code.wp _ ((regionOf 28 (loopAt Try.f36 2)).getD .skip) _ _ _
            refine r28b _ _ _ K ck L k b3 o3 b5 o5 cap5 ns sc n5 c5s sa a5s hK0 hlt2 p1_2 q3 g5'_2 (fun m => HKB.out false hkl m) ?_
            intro z0 z1 z2 z3 z4 z5 z6 z7 z8 z9 z10 z11 z12 z13 nq
            clear q3 HKB hkl
            obtain ⟨w3, hw3⟩ : ∃ w3 : World, w3 = w2.drewN nq := ⟨_, rfl⟩
            have hb3 : Below w2.heap.size w2 w3 := by rw [hw3]; exact below_drewN _ _
            have hz3 : w3.heap.size = w2.heap.size := by rw [hw3]; simp
            rw [← hw3]
            clear hw3
            have g5'_3 := cell_below hb3 g5'_2
            have g6'_3 := cell_below hb3 g6'_2
            have p0_3 := cell_below hb3 p0_2
            have p1_3 := cell_below hb3 p1_2
            have p2_3 := cell_below hb3 p2_2
            have hb13 : Below wr.heap.size wr w3 := HB12.out.trans (hb3.mono (by omega))
            have HB13 := Lib.hid hb13
            clear hb3 hb13 g5'_2 g6'_2 p0_2 p1_2 p2_2
            go_wp2_with fail
            have HHI := Lib.hid (R6.out.below HB13.out)
            have hkid : Hid (∀ c ∈ pds, (0 : Int) ≤ c) := fun c hc => (HPQ.out.kid c hc).1
            have hdk : pl = false → D = K + 1 := fun h => by
              have := HPQ.out.kids
              simp only [h] at this
              rw [HD.out, HK.out]
              simpa using this
            have hk4 : K ≤ 4 := by rw [HK.out]; exact HPQ.out.keys
            have hd5 : D ≤ 4611686018427387904 := by
              have := HPQ.out.kids
              have h4 := HPQ.out.keys
              simp only at this h4
              rw [HD.out, this]
              split <;> omega
            change Code.wp _ (Code.loop (loopAt Try.f36 3)) _ _ _
            refine tf4 _ (w0 := w3) (B := B) (P := wr.heap.size) (ok := ok) (hok := hok) (hBw := by omega) (hPB := by omega) (hPw := by omega) (leaf := pl) (ks := pks) (ds := pds) (K := K) (D := D) (hK := HK.out) (hD := HD.out) (hDK := hdk) (hK4 := hk4) (hDm := hd5) (hds := hkid.out) (ak := _) (ad := ad) (ck := ck) (cd := cd) (ff := ff) (p0 := p0_3) (p1 := p1_3) (p2 := p2_3)
              (K3 := fun i hi => by
                obtain ⟨b, o, h1, h2, h3, h4, h5⟩ := K3.out i hi
                exact ⟨b, o, h1, h3, cell_below HB13.out h4, h5.below HB13.out⟩)
              (D3 := fun i hi => by
                obtain ⟨b, o, h1, h2, h3, h4⟩ := D3.out i hi
                exact ⟨b, o, h1, h3, cell_below HB13.out h4⟩)
              (lo := lo) (hi := hi) (lv := .slice a5s n5 c5s) (hlo := R5.out.below HB13.out) (ah := a6s) (nh := n6) (ch := c6s) (hhi := HHI.out) (b6 := b6) (o6 := o6) (L := L) (cap6 := cap6) (k := k) (hb6 := hb6) (hkL := hlt2) (h6 := g6'_3)
              (v8 := v8) (v9 := v9) (v10 := v10) (l := downL ps (l.take k)) (hown := (HO.out.re (P' := wr.heap.size) (.inl (Nat.le_refl _))).below HB13.out) (hl := ?_) (hexit := ?_)
            · have h1 := downL_len (ps := ps) (l := l.take k) fun y hy => hq.out _ (page_mem (by rw [← HNP.out]; exact hlt.out y (List.mem_of_mem_take hy)))
              have h2 : (l.take k).length ≤ 4000 := by rw [List.length_take]; omega
              omega
            · intro y8 y9 y10 y14 y15 y16 y139 y140 y141 y142 y143 y144 y145 y146 y147 y148 y149 y150 y151 y152 y153 y154 y155 y156 y157 y158 y159 y160 y161 y162 y163 y164 y165 y166 y167 y168 y169 y170 y171 y172 y173 y174 y175 y176 y177 y178 y179 y180 y181 w4 hown4 hb4'
              have HOWN4 := Lib.hid hown4
              have HB4 := Lib.hid hb4'
              clear hown4 hb4'
              go_wp2_with fail
              refine hnext.out _ _ _ _ _ _ _ _ _ _ _ _ _ _ _ _ _ _ _ _ _ _ _ _ _ _ _ _ _ _ _ _ _ _ _ _ _ _ _ _ _ _ _ _ _ _ _ _ _ _ _ _ _ _ _ _ _ _ _ _ _ _ _ _ _ _ _ _ _ _ _ _ _ _ _ _ _ _ _ _ _ _ _ _ _ _ _ _ _ _ _ _ _ _ _ _ _ _ _ _ _ _ _ _ _ _ _ _ _ _ _ _ _ _ _ _ _ _ _ _ _ _ _ ?_ ?_ (HB.out.trans ((HB13.out.mono (by omega)).trans HB4.out))
              · unfold okAt
                rw [← HX.out, ← HPD.out]
                exact ⟨by rw [if_neg hrL.out], HPH.out, E2.out, HFIRST.out⟩
              · rw [downL_next HXL.out, ← HX.out]
                have e : downP ps (n, lo, hi) = if pl then [] else kidsB lo hi pds pks := by
                  unfold downP
                  rw [← HPD.out]
                rw [e]
                exact HOWN4.out.re (.inr hX)
          · have HKL := Lib.hid hkl
            change Code.wp _ ((regionOf 28 (loopAt Try.f36 2)).getD .skip) _ _ _
            refine r28c _ _ _ K ck L k b3 o3 b5 o5 cap5 ns sc n5 c5s sa a5s hK0 hlt2 p1_2 q3 g5'_2 (fun m => HKB.out true hkl m) ?_
            intro z0 z1 z2 z3 z4 z5 z6 z7 z8 z9 z10 z11 z12 z13 nq
            clear q3 HKB hkl
            go_wp2_with fail
            refine hbad.out _ _ _ _ _ _ _ _ _ _ _ _ _ _ _ _ _ _ _ _ _ _ _ _ _ _ _ _ _ _ _ _ _ _ _ _ _ _ _ _ _ _ _ _ _ _ _ _ _ _ _ _ _ _ _ _ _ _ _ _ _ _ _ _ _ _ _ _ _ _ _ _ _ _ _ _ _ _ _ _ _ _ _ _ _ _ _ _ _ _ _ _ _ _ _ _ _ _ _ _ _ _ _ _ _ _ _ _ _ _ _ _ _ _ _ _ _ _ _ _ _ _ _ ?_ (HB.out.trans ((HB12.out.trans ((below_drewN w2 _).mono (by omega))).mono (by omega)))
            rintro ⟨leaf, hlv⟩
            have hat := (okLv_iff ps leaf l).1 hlv
            have hk1 := hat k HXL.out
            have hk0 := (hat 0 (by rw [← HL.out]; exact hL0)).2.2.1
            rw [← HL0.out] at hk0
            unfold okAt at hk1
            rw [← HX.out, ← HPD.out] at hk1
            obtain ⟨q1, q2, q3, q4⟩ := hk1
            simp only at q1 q2 q3 q4
            cases hpk : pks with
            | nil =>
              have h1 := HK.out
              rw [hpk] at h1
              simp at h1
              omega
            | cons a r =>
              have h1 := q4 a r hpk
              have h2 := HS2.out
              rw [hpk] at h2
              simp at h2
              rw [← h2, HKL.out] at h1
              cases h1
      · have E2 := Lib.hid e2
        change Code.wp _ ((regionOf 26 (loopAt Try.f36 2)).getD .skip) _ _ _
        refine r26c _ _ _ _ b6 o6 L cap6 k ag a6s Hh cg n6 c6s hlt2 g6'_1 p3_1 p4_1 X b4 o4 cap4 bp op NP cp n0 leaf0 pl hn0N xx_1 g40_1 pl0_1 p0_1 (fun m => HSK.out true (by simpa using hs) m) (by simpa using e2) ?_
        iterate 26 intro _
        intro nq
        clear hs e2
        go_wp2_with fail
        refine hbad.out _ _ _ _ _ _ _ _ _ _ _ _ _ _ _ _ _ _ _ _ _ _ _ _ _ _ _ _ _ _ _ _ _ _ _ _ _ _ _ _ _ _ _ _ _ _ _ _ _ _ _ _ _ _ _ _ _ _ _ _ _ _ _ _ _ _ _ _ _ _ _ _ _ _ _ _ _ _ _ _ _ _ _ _ _ _ _ _ _ _ _ _ _ _ _ _ _ _ _ _ _ _ _ _ _ _ _ _ _ _ _ _ _ _ _ _ _ _ _ _ _ _ _ ?_ (HB.out.trans ((HB1.out.trans ((below_drewN w1 _).mono (by omega))).mono (by omega)))
        rintro ⟨leaf, hlv⟩
        have hat := (okLv_iff ps leaf l).1 hlv
        have hk1 := hat k HXL.out
        have hk0 := (hat 0 (by rw [← HL.out]; exact hL0)).2.2.1
        rw [← HL0.out] at hk0
        unfold okAt at hk1
        rw [← HX.out, ← HPD.out] at hk1
        obtain ⟨q1, q2, q3, q4⟩ := hk1
        simp only at q1 q2 q3 q4
        exact E2.out (q3.trans hk0.symm)
    · have HS := Lib.hid hs
      change Code.wp _ ((regionOf 26 (loopAt Try.f36 2)).getD .skip) _ _ _
      refine r26b _ _ _ _ b6 o6 L cap6 k ag a6s Hh cg n6 c6s hlt2 g6'_1 p3_1 p4_1 (fun m => HSK.out false (by simpa using hs) m) ?_
      iterate 26 intro _
      intro nq
      clear hs
      go_wp2_with fail
      refine hbad.out _ _ _ _ _ _ _ _ _ _ _ _ _ _ _ _ _ _ _ _ _ _ _ _ _ _ _ _ _ _ _ _ _ _ _ _ _ _ _ _ _ _ _ _ _ _ _ _ _ _ _ _ _ _ _ _ _ _ _ _ _ _ _ _ _ _ _ _ _ _ _ _ _ _ _ _ _ _ _ _ _ _ _ _ _ _ _ _ _ _ _ _ _ _ _ _ _ _ _ _ _ _ _ _ _ _ _ _ _ _ _ _ _ _ _ _ _ _ _ _ _ _ _ ?_ (HB.out.trans ((HB1.out.trans ((below_drewN w1 _).mono (by omega))).mono (by omega)))
      rintro ⟨leaf, hlv⟩
      have hat := (okLv_iff ps leaf l).1 hlv
      have hk1 := hat k HXL.out
      have hk0 := (hat 0 (by rw [← HL.out]; exact hL0)).2.2.1
      rw [← HL0.out] at hk0
      unfold okAt at hk1
      rw [← HX.out, ← HPD.out] at hk1
      obtain ⟨q1, q2, q3, q4⟩ := hk1
      simp only at q1 q2 q3 q4
      exact HS.out q2
  · have E1 := Lib.hid e1
    change Code.wp _ ((regionOf 26 (loopAt Try.f36 2)).getD .skip) _ _ _
    refine r26a _ _ _ ((-1)) pn p4_1 (by simpa using e1) ?_
    iterate 26 intro _
    intro nq
    clear e1
    go_wp2_with fail
    refine hbad.out _ _ _ _ _ _ _ _ _ _ _ _ _ _ _ _ _ _ _ _ _ _ _ _ _ _ _ _ _ _ _ _ _ _ _ _ _ _ _ _ _ _ _ _ _ _ _ _ _ _ _ _ _ _ _ _ _ _ _ _ _ _ _ _ _ _ _ _ _ _ _ _ _ _ _ _ _ _ _ _ _ _ _ _ _ _ _ _ _ _ _ _ _ _ _ _ _ _ _ _ _ _ _ _ _ _ _ _ _ _ _ _ _ _ _ _ _ _ _ _ _ _ _ ?_ (HB.out.trans ((HB1.out.trans ((below_drewN w1 _).mono (by omega))).mono (by omega)))
    rintro ⟨leaf, hlv⟩
    have hat := (okLv_iff ps leaf l).1 hlv
    have hk1 := hat k HXL.out
    have hk0 := (hat 0 (by rw [← HL.out]; exact hL0)).2.2.1
    rw [← HL0.out] at hk0
    unfold okAt at hk1
    rw [← HX.out, ← HPD.out] at hk1
    obtain ⟨q1, q2, q3, q4⟩ := hk1
    simp only at q1 q2 q3 q4
    exact E1.out (by rw [if_neg hrL.out] at q1; exact q1)
end Go.Proofs.Ytahammkjkfdmhaa
