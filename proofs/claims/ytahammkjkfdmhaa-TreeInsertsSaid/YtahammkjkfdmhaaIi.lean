/- The document's check of a tree: a level, walked. -/
import Derived.Test.YtahammkjkfdmhaaIh
import Derived.Deep.QuietTactic
import Derived.BigQuiet
namespace Go.Proofs.Ytahammkjkfdmhaa
open Go.ChangeShapes Go.WideShapes Go.ChangeAt Go.RowKit
set_option linter.unusedVariables false
set_option linter.unusedSimpArgs false
set_option maxHeartbeats 4000000
variable {c0 c2 c3 c7 c12 c13 c14 c15 c16 c17 c18 c19 c20 c21 c22 c23 c24 c25 c26 c27 c28 c29 c30 c31 c32 c33 c34 c35 c36 c37 c38 c39 c40 c41 c42 c43 c44 c45 c46 c47 c48 c49 c50 c51 c52 c53 c54 c55 c56 c57 c58 c59 c60 c61 c62 c63 c64 c65 c66 c67 c68 c69 c70 c71 c72 c73 c74 c75 c76 c77 c78 c79 c80 c81 c82 c83 c84 c85 c86 c87 c88 c89 c90 c91 c92 c93 c94 c95 c96 c97 c98 c99 c100 c101 c102 c103 c104 c105 c106 c107 c108 c109 c110 c111 c112 c113 c114 c115 c116 c117 c118 c119 c120 c121 c122 c123 c124 c125 c126 c127 c128 c129 c130 c131 c132 c133 c134 c135 c136 c137 c138 c139 c140 c141 c142 c143 c144 c145 c146 c147 c148 c149 c150 c151 c152 c153 c154 c155 c156 c157 c158 c159 c160 c161 c162 c163 c164 c165 c166 c167 c168 c169 c170 c171 c172 c173 c174 c175 c176 c177 c178 c179 c180 c181 c182 c183 c184 c185 c186 c187 c188 c189 c190 c191 c192 c193 c194 c195 c196 c197 c198 c199 c200 c201 c202 c203 c204 c205 c206 c207 c208 c209 c210 c211 c212 c213 c214 c215 c216 c217 c218 c219 c220 c221 c222 c223 c224 c225 c226 c227 c228 c229 c230 c231 c232 c233 c234 c235 c236 c237 c238 c239 c240 : Value}
set_option maxRecDepth 1000000
theorem tf3 (Q : Exit → Act → World → Prop)  (w0 : World) (B X : Nat) (ok : Nat → Prop) (hok : ∀ b, ok b → b < B) (hBw : B = w0.heap.size) (hX : X < B) (ps : List Pg) (NP : Nat) (hNP : NP = ps.length) (hNPm : NP ≤ 4000) (hq : Hid (∀ p ∈ ps, OkQ p ps.length))
    (ap : Option Addr) (cp : Nat) (x0 : w0.cell? ⟨X, 0, none⟩ = some (.slice ap NP cp)) (kf df gf : Nat → Value) (HP : Hid (∀ i, i < NP → ∃ b o, ap = some ⟨b, o, none⟩ ∧ ok b ∧ PageAt w0 ok b o i (kf i) (df i) (gf i) (ps.getD i noPg)))
    (l : List Spot) (L : Nat) (hL : L = l.length) (hL0 : 0 < L) (hLm : L ≤ 4000) (hlt : Hid (∀ x ∈ l, x.1 < NP)) (b4 o4 cap4 b5 o5 cap5 b6 o6 cap6 : Nat) (hb4 : b4 < B) (hb5 : b5 < B) (hb6 : b6 < B)
    (L4 : Hid (∀ i, i < L → w0.cell? ⟨b4, o4 + i, none⟩ = some (.int .i64 ((l.getD i sp0).1 : Int)))) (f5 f6 : Nat → Value) (L5 : Hid (∀ i, i < L → w0.cell? ⟨b5, o5 + i, none⟩ = some (f5 i) ∧ RB w0 ok (f5 i) (l.getD i sp0).2.1)) (L6 : Hid (∀ i, i < L → w0.cell? ⟨b6, o6 + i, none⟩ = some (f6 i) ∧ RB w0 ok (f6 i) (l.getD i sp0).2.2))
    (hbad : Hid (∀ (u8 u9 u10 u11 u12 u13 u14 u15 u16 u69 u70 u71 u72 u73 u74 u75 u76 u77 u78 u79 u80 u81 u82 u83 u84 u85 u86 u87 u88 u89 u90 u91 u92 u93 u94 u95 u96 u97 u98 u99 u100 u101 u102 u103 u104 u105 u106 u107 u108 u109 u110 u111 u112 u113 u114 u115 u116 u117 u118 u119 u120 u121 u122 u123 u124 u125 u126 u127 u128 u129 u130 u131 u132 u133 u134 u135 u136 u137 u138 u139 u140 u141 u142 u143 u144 u145 u146 u147 u148 u149 u150 u151 u152 u153 u154 u155 u156 u157 u158 u159 u160 u161 u162 u163 u164 u165 u166 u167 u168 u169 u170 u171 u172 u173 u174 u175 u176 u177 u178 u179 u180 u181 : Value) (w' : World), ¬ (∃ leaf, okLv ps leaf l) → Below B w0 w' → Q .ret ⟨List.toArray (c0::(.pointer (some ⟨X, 0, none⟩))::(.int .i64 11)::c3::(.slice (some ⟨b4, o4, none⟩) L cap4)::(.slice (some ⟨b5, o5, none⟩) L cap5)::(.slice (some ⟨b6, o6, none⟩) L cap6)::c7::u8::u9::u10::u11::u12::u13::u14::u15::u16::c17::c18::c19::c20::c21::c22::c23::c24::c25::c26::c27::c28::c29::c30::c31::c32::c33::c34::c35::c36::c37::c38::c39::c40::c41::c42::c43::c44::c45::c46::c47::c48::c49::c50::c51::c52::c53::c54::c55::c56::c57::c58::c59::c60::c61::c62::c63::c64::c65::c66::c67::c68::u69::u70::u71::u72::u73::u74::u75::u76::u77::u78::u79::u80::u81::u82::u83::u84::u85::u86::u87::u88::u89::u90::u91::u92::u93::u94::u95::u96::u97::u98::u99::u100::u101::u102::u103::u104::u105::u106::u107::u108::u109::u110::u111::u112::u113::u114::u115::u116::u117::u118::u119::u120::u121::u122::u123::u124::u125::u126::u127::u128::u129::u130::u131::u132::u133::u134::u135::u136::u137::u138::u139::u140::u141::u142::u143::u144::u145::u146::u147::u148::u149::u150::u151::u152::u153::u154::u155::u156::u157::u158::u159::u160::u161::u162::u163::u164::u165::u166::u167::u168::u169::u170::u171::u172::u173::u174::u175::u176::u177::u178::u179::u180::u181::c182::c183::c184::c185::c186::c187::c188::c189::c190::c191::c192::c193::c194::c195::c196::c197::c198::c199::c200::c201::c202::c203::c204::c205::c206::c207::c208::c209::c210::c211::c212::c213::c214::c215::c216::c217::c218::c219::c220::c221::c222::c223::c224::c225::c226::c227::c228::c229::c230::c231::c232::c233::c234::c235::c236::c237::c238::c239::c240::[]), []⟩ w'))
    (hexit : Hid (∀ (u2 u8 u9 u10 u11 u12 u13 u14 u15 u16 u69 u70 u71 u72 u73 u74 u75 u76 u77 u78 u79 u80 u81 u82 u83 u84 u85 u86 u87 u88 u89 u90 u91 u92 u93 u94 u95 u96 u97 u98 u99 u100 u101 u102 u103 u104 u105 u106 u107 u108 u109 u110 u111 u112 u113 u114 u115 u116 u117 u118 u119 u120 u121 u122 u123 u124 u125 u126 u127 u128 u129 u130 u131 u132 u133 u134 u135 u136 u137 u138 u139 u140 u141 u142 u143 u144 u145 u146 u147 u148 u149 u150 u151 u152 u153 u154 u155 u156 u157 u158 u159 u160 u161 u162 u163 u164 u165 u166 u167 u168 u169 u170 u171 u172 u173 u174 u175 u176 u177 u178 u179 u180 u181 : Value) (w' : World), (∃ leaf, okLv ps leaf l) → Own3 w' B ok X u8 u9 u10 (downL ps l) → Below B w0 w' → Q (.exit 4) ⟨List.toArray (c0::(.pointer (some ⟨X, 0, none⟩))::u2::c3::(.slice (some ⟨b4, o4, none⟩) L cap4)::(.slice (some ⟨b5, o5, none⟩) L cap5)::(.slice (some ⟨b6, o6, none⟩) L cap6)::c7::u8::u9::u10::u11::u12::u13::u14::u15::u16::c17::c18::c19::c20::c21::c22::c23::c24::c25::c26::c27::c28::c29::c30::c31::c32::c33::c34::c35::c36::c37::c38::c39::c40::c41::c42::c43::c44::c45::c46::c47::c48::c49::c50::c51::c52::c53::c54::c55::c56::c57::c58::c59::c60::c61::c62::c63::c64::c65::c66::c67::c68::u69::u70::u71::u72::u73::u74::u75::u76::u77::u78::u79::u80::u81::u82::u83::u84::u85::u86::u87::u88::u89::u90::u91::u92::u93::u94::u95::u96::u97::u98::u99::u100::u101::u102::u103::u104::u105::u106::u107::u108::u109::u110::u111::u112::u113::u114::u115::u116::u117::u118::u119::u120::u121::u122::u123::u124::u125::u126::u127::u128::u129::u130::u131::u132::u133::u134::u135::u136::u137::u138::u139::u140::u141::u142::u143::u144::u145::u146::u147::u148::u149::u150::u151::u152::u153::u154::u155::u156::u157::u158::u159::u160::u161::u162::u163::u164::u165::u166::u167::u168::u169::u170::u171::u172::u173::u174::u175::u176::u177::u178::u179::u180::u181::c182::c183::c184::c185::c186::c187::c188::c189::c190::c191::c192::c193::c194::c195::c196::c197::c198::c199::c200::c201::c202::c203::c204::c205::c206::c207::c208::c209::c210::c211::c212::c213::c214::c215::c216::c217::c218::c219::c220::c221::c222::c223::c224::c225::c226::c227::c228::c229::c230::c231::c232::c233::c234::c235::c236::c237::c238::c239::c240::[]), []⟩ w')) :
    Code.wp Try.prog (Code.loop (loopAt Try.f36 2)) Q ⟨List.toArray (c0::(.pointer (some ⟨X, 0, none⟩))::c2::c3::(.slice (some ⟨b4, o4, none⟩) L cap4)::(.slice (some ⟨b5, o5, none⟩) L cap5)::(.slice (some ⟨b6, o6, none⟩) L cap6)::c7::(.slice none 0 0)::(.slice none 0 0)::(.slice none 0 0)::(.int .i64 0)::c12::c13::c14::c15::c16::c17::c18::c19::c20::c21::c22::c23::c24::c25::c26::c27::c28::c29::c30::c31::c32::c33::c34::c35::c36::c37::c38::c39::c40::c41::c42::c43::c44::c45::c46::c47::c48::c49::c50::c51::c52::c53::c54::c55::c56::c57::c58::c59::c60::c61::c62::c63::c64::c65::c66::c67::c68::c69::c70::c71::c72::c73::c74::c75::c76::c77::c78::c79::c80::c81::c82::c83::c84::c85::c86::c87::c88::c89::c90::c91::c92::c93::c94::c95::c96::c97::c98::c99::c100::c101::c102::c103::c104::c105::c106::c107::c108::c109::c110::c111::c112::c113::c114::c115::c116::c117::c118::c119::c120::c121::c122::c123::c124::c125::c126::c127::c128::c129::c130::c131::c132::c133::c134::c135::c136::c137::c138::c139::c140::c141::c142::c143::c144::c145::c146::c147::c148::c149::c150::c151::c152::c153::c154::c155::c156::c157::c158::c159::c160::c161::c162::c163::c164::c165::c166::c167::c168::c169::c170::c171::c172::c173::c174::c175::c176::c177::c178::c179::c180::c181::c182::c183::c184::c185::c186::c187::c188::c189::c190::c191::c192::c193::c194::c195::c196::c197::c198::c199::c200::c201::c202::c203::c204::c205::c206::c207::c208::c209::c210::c211::c212::c213::c214::c215::c216::c217::c218::c219::c220::c221::c222::c223::c224::c225::c226::c227::c228::c229::c230::c231::c232::c233::c234::c235::c236::c237::c238::c239::c240::[]), []⟩ w0 := by
  conv => arg 2; arg 1; whnf
  have HL := Lib.hid hL
  have HNP := Lib.hid hNP
  clear hL hNP
  obtain ⟨leaf0, hl0⟩ : ∃ leaf0, leaf0 = (ps.getD (l.getD 0 sp0).1 noPg).leaf := ⟨_, rfl⟩
  have HL0 := Lib.hid hl0
  clear hl0
  go_loopw [8, 9, 10, 11] (fun v8 v9 v10 i wr => ∃ k : Nat, k ≤ L ∧ i = .int .i64 (k : Int) ∧ Own3 wr B ok X v8 v9 v10 (downL ps (l.take k)) ∧ (∀ j, j < k → okAt ps leaf0 l j) ∧ Below B w0 wr) (fun _ _ _ i _ => L - (intOf i).toNat)
  case atStart => exact ⟨0, by omega, rfl, ⟨World.ownsRow_nil _ _ _ _, ⟨[], World.ownsRow_nil _ _ _ _, Ks.nil _ _⟩, ⟨[], World.ownsRow_nil _ _ _ _, Ks.nil _ _⟩, fun g hg => (by cases hg), fun g hg => (by cases hg), fun g hg => (by cases hg)⟩, fun j hj => by omega, Below.refl _ _⟩
  case round =>
    obtain ⟨k, hk, rfl, ho, hall, hb⟩ := hrel
    have HO := Lib.hid ho
    have HALL := Lib.hid hall
    have HB := Lib.hid hb
    clear ho hall
    by_cases hlt2 : k < L
    · change Code.wp _ (loopAt Try.f36 2) _ _ _
      refine rnd _ w0 B X ok hok hBw hX ps NP HNP hNPm hq ap cp x0 kf df gf HP l L HL hL0 hLm hlt b4 o4 cap4 b5 o5 cap5 b6 o6 cap6 hb4 hb5 hb6 L4 f5 f6 L5 L6 leaf0 HL0.out wr k _ _ _ HO hb hlt2 ?_ ?_
      · refine Lib.hid ?_
        intro u8 u9 u10 u11 u12 u13 u14 u15 u16 u69 u70 u71 u72 u73 u74 u75 u76 u77 u78 u79 u80 u81 u82 u83 u84 u85 u86 u87 u88 u89 u90 u91 u92 u93 u94 u95 u96 u97 u98 u99 u100 u101 u102 u103 u104 u105 u106 u107 u108 u109 u110 u111 u112 u113 u114 u115 u116 u117 u118 u119 u120 u121 u122 u123 u124 u125 u126 u127 u128 u129 u130 u131 u132 u133 u134 u135 u136 u137 u138 u139 u140 u141 u142 u143 u144 u145 u146 u147 u148 u149 u150 u151 u152 u153 u154 u155 u156 u157 u158 u159 u160 u161 u162 u163 u164 u165 u166 u167 u168 u169 u170 u171 u172 u173 u174 u175 u176 u177 u178 u179 u180 u181 w' h1 h2
        have H1 := Lib.hid h1
        have H2 := Lib.hid h2
        clear h1 h2
        go_wp2_with fail
        exact hbad.out _ _ _ _ _ _ _ _ _ _ _ _ _ _ _ _ _ _ _ _ _ _ _ _ _ _ _ _ _ _ _ _ _ _ _ _ _ _ _ _ _ _ _ _ _ _ _ _ _ _ _ _ _ _ _ _ _ _ _ _ _ _ _ _ _ _ _ _ _ _ _ _ _ _ _ _ _ _ _ _ _ _ _ _ _ _ _ _ _ _ _ _ _ _ _ _ _ _ _ _ _ _ _ _ _ _ _ _ _ _ _ _ _ _ _ _ _ _ _ _ _ _ _ H1.out H2.out
      · refine Lib.hid ?_
        intro u2 u8 u9 u10 u12 u13 u14 u15 u16 u69 u70 u71 u72 u73 u74 u75 u76 u77 u78 u79 u80 u81 u82 u83 u84 u85 u86 u87 u88 u89 u90 u91 u92 u93 u94 u95 u96 u97 u98 u99 u100 u101 u102 u103 u104 u105 u106 u107 u108 u109 u110 u111 u112 u113 u114 u115 u116 u117 u118 u119 u120 u121 u122 u123 u124 u125 u126 u127 u128 u129 u130 u131 u132 u133 u134 u135 u136 u137 u138 u139 u140 u141 u142 u143 u144 u145 u146 u147 u148 u149 u150 u151 u152 u153 u154 u155 u156 u157 u158 u159 u160 u161 u162 u163 u164 u165 u166 u167 u168 u169 u170 u171 u172 u173 u174 u175 u176 u177 u178 u179 u180 u181 w' h1 h2 h3
        have H1 := Lib.hid h1
        have H2 := Lib.hid h2
        have H3 := Lib.hid h3
        clear h1 h2 h3
        go_roundw
        case rel =>
          refine ⟨_, _, _, _, _, _, _, _, _, _, _, _, _, _, _, _, _, _, _, _, _, _, _, _, _, _, _, _, _, _, _, _, _, _, _, _, _, _, _, _, _, _, _, _, _, _, _, _, _, _, _, _, _, _, _, _, _, _, _, _, _, _, _, _, _, _, _, _, _, _, _, _, _, _, _, _, _, _, _, _, _, _, _, _, _, _, _, _, _, _, _, _, _, _, _, _, _, _, _, _, _, _, _, _, _, _, _, _, _, _, _, _, _, _, _, _, _, _, _, _, _, _, _, ⟨k + 1, by omega, by go_num, H2.out, fun j hj => ?_, H3.out⟩, rfl⟩
          rcases Nat.lt_or_ge j k with g | g
          · exact HALL.out j g
          · obtain rfl : k = j := by omega
            exact H1.out
        case measure => simp [intOf] <;> omega
    · obtain rfl : L = k := by omega
      have e : l.take L = l := List.take_of_length_le (by rw [← HL.out]; exact Nat.le_refl _)
      have h1 := HO.out
      rw [e] at h1
      have h2 : ∃ leaf, okLv ps leaf l := ⟨leaf0, (okLv_iff ps leaf0 l).2 fun j hj => HALL.out j (by rw [HL.out]; exact hj)⟩
      have H1 := Lib.hid h1
      have H2 := Lib.hid h2
      clear h1 h2 e
      go_wp2
      exact hexit.out _ _ _ _ _ _ _ _ _ _ _ _ _ _ _ _ _ _ _ _ _ _ _ _ _ _ _ _ _ _ _ _ _ _ _ _ _ _ _ _ _ _ _ _ _ _ _ _ _ _ _ _ _ _ _ _ _ _ _ _ _ _ _ _ _ _ _ _ _ _ _ _ _ _ _ _ _ _ _ _ _ _ _ _ _ _ _ _ _ _ _ _ _ _ _ _ _ _ _ _ _ _ _ _ _ _ _ _ _ _ _ _ _ _ _ _ _ _ _ _ _ _ _ _ H2.out H1.out HB.out
end Go.Proofs.Ytahammkjkfdmhaa
/- The document's check of a tree: level by level. -/
namespace Go.Proofs.Ytahammkjkfdmhaa
open Go.ChangeShapes Go.WideShapes Go.ChangeAt Go.RowKit
set_option linter.unusedVariables false
set_option linter.unusedSimpArgs false
set_option maxHeartbeats 4000000
variable {c0 c2 c3 c8 c9 c10 c11 c12 c13 c14 c15 c16 c17 c18 c19 c20 c21 c22 c23 c24 c25 c26 c27 c28 c29 c30 c31 c32 c33 c34 c35 c36 c37 c38 c39 c40 c41 c42 c43 c44 c45 c46 c47 c48 c49 c50 c51 c52 c53 c54 c55 c56 c57 c58 c59 c60 c61 c62 c63 c64 c65 c66 c67 c68 c69 c70 c71 c72 c73 c74 c75 c76 c77 c78 c79 c80 c81 c82 c83 c84 c85 c86 c87 c88 c89 c90 c91 c92 c93 c94 c95 c96 c97 c98 c99 c100 c101 c102 c103 c104 c105 c106 c107 c108 c109 c110 c111 c112 c113 c114 c115 c116 c117 c118 c119 c120 c121 c122 c123 c124 c125 c126 c127 c128 c129 c130 c131 c132 c133 c134 c135 c136 c137 c138 c139 c140 c141 c142 c143 c144 c145 c146 c147 c148 c149 c150 c151 c152 c153 c154 c155 c156 c157 c158 c159 c160 c161 c162 c163 c164 c165 c166 c167 c168 c169 c170 c171 c172 c173 c174 c175 c176 c177 c178 c179 c180 c181 c182 c183 c184 c185 c186 c187 c188 c189 c190 c191 c192 c193 c194 c195 c196 c197 c198 c199 c200 c201 c202 c203 c204 c205 c206 c207 c208 c209 c210 c211 c212 c213 c214 c215 c216 c217 c218 c219 c220 c221 c222 c223 c224 c225 c226 c227 c228 c229 c230 c231 c232 c233 c234 c235 c236 c237 c238 c239 c240 : Value}
set_option maxRecDepth 1000000
theorem rnd2 (Q : Exit → Act → World → Prop)  (w0 : World) (X : Nat) (ok : Nat → Prop) (hok : ∀ b, ok b → b < w0.heap.size) (hX : X < w0.heap.size) (ps : List Pg) (NP : Nat) (HNP : Hid (NP = ps.length)) (hNPm : NP ≤ 4000) (hq : Hid (∀ p ∈ ps, OkQ p ps.length))
    (ap : Option Addr) (cp : Nat) (x0 : w0.cell? ⟨X, 0, none⟩ = some (.slice ap NP cp)) (kf df gf : Nat → Value) (HP : Hid (∀ i, i < NP → ∃ b o, ap = some ⟨b, o, none⟩ ∧ ok b ∧ PageAt w0 ok b o i (kf i) (df i) (gf i) (ps.getD i noPg)))
    (wr : World) (M : Nat) (hM : M ≤ NP) (hb : Below w0.heap.size w0 wr) (l : List Spot) (L : Nat) (HL : Hid (L = l.length)) (hL0 : 0 < L) (hlt : Hid (∀ x ∈ l, x.1 < NP)) (b4 o4 cap4 b5 o5 cap5 b6 o6 cap6 : Nat) (hb4 : b4 < wr.heap.size) (hb5 : b5 < wr.heap.size) (hb6 : b6 < wr.heap.size) (hLm : L ≤ 20000)
    (L4 : Hid (∀ i, i < L → wr.cell? ⟨b4, o4 + i, none⟩ = some (.int .i64 ((l.getD i sp0).1 : Int)))) (f5 f6 : Nat → Value) (L5 : Hid (∀ i, i < L → wr.cell? ⟨b5, o5 + i, none⟩ = some (f5 i) ∧ RB wr ok (f5 i) (l.getD i sp0).2.1)) (L6 : Hid (∀ i, i < L → wr.cell? ⟨b6, o6 + i, none⟩ = some (f6 i) ∧ RB wr ok (f6 i) (l.getD i sp0).2.2))
    (hbad : Hid (∀ (u4 u5 u6 u7 u8 u9 u10 u11 u12 u13 u14 u15 u16 u57 u58 u59 u60 u61 u62 u63 u64 u65 u66 u67 u68 u69 u70 u71 u72 u73 u74 u75 u76 u77 u78 u79 u80 u81 u82 u83 u84 u85 u86 u87 u88 u89 u90 u91 u92 u93 u94 u95 u96 u97 u98 u99 u100 u101 u102 u103 u104 u105 u106 u107 u108 u109 u110 u111 u112 u113 u114 u115 u116 u117 u118 u119 u120 u121 u122 u123 u124 u125 u126 u127 u128 u129 u130 u131 u132 u133 u134 u135 u136 u137 u138 u139 u140 u141 u142 u143 u144 u145 u146 u147 u148 u149 u150 u151 u152 u153 u154 u155 u156 u157 u158 u159 u160 u161 u162 u163 u164 u165 u166 u167 u168 u169 u170 u171 u172 u173 u174 u175 u176 u177 u178 u179 u180 u181 u182 u183 u184 : Value) (w' : World), (¬ (M + L ≤ NP) ∨ ¬ (∃ leaf, okLv ps leaf l)) → Below w0.heap.size w0 w' → Q .ret ⟨List.toArray (c0::(.pointer (some ⟨X, 0, none⟩))::(.int .i64 11)::c3::u4::u5::u6::u7::u8::u9::u10::u11::u12::u13::u14::u15::u16::c17::c18::c19::c20::c21::c22::c23::c24::c25::c26::c27::c28::c29::c30::c31::c32::c33::c34::c35::c36::c37::c38::c39::c40::c41::c42::c43::c44::c45::c46::c47::c48::c49::c50::c51::c52::c53::c54::c55::c56::u57::u58::u59::u60::u61::u62::u63::u64::u65::u66::u67::u68::u69::u70::u71::u72::u73::u74::u75::u76::u77::u78::u79::u80::u81::u82::u83::u84::u85::u86::u87::u88::u89::u90::u91::u92::u93::u94::u95::u96::u97::u98::u99::u100::u101::u102::u103::u104::u105::u106::u107::u108::u109::u110::u111::u112::u113::u114::u115::u116::u117::u118::u119::u120::u121::u122::u123::u124::u125::u126::u127::u128::u129::u130::u131::u132::u133::u134::u135::u136::u137::u138::u139::u140::u141::u142::u143::u144::u145::u146::u147::u148::u149::u150::u151::u152::u153::u154::u155::u156::u157::u158::u159::u160::u161::u162::u163::u164::u165::u166::u167::u168::u169::u170::u171::u172::u173::u174::u175::u176::u177::u178::u179::u180::u181::u182::u183::u184::c185::c186::c187::c188::c189::c190::c191::c192::c193::c194::c195::c196::c197::c198::c199::c200::c201::c202::c203::c204::c205::c206::c207::c208::c209::c210::c211::c212::c213::c214::c215::c216::c217::c218::c219::c220::c221::c222::c223::c224::c225::c226::c227::c228::c229::c230::c231::c232::c233::c234::c235::c236::c237::c238::c239::c240::[]), []⟩ w'))
    (hnext : Hid (∀ (u2 u4 u5 u6 u8 u9 u10 u11 u12 u13 u14 u15 u16 u57 u58 u59 u60 u61 u62 u63 u64 u65 u66 u67 u68 u69 u70 u71 u72 u73 u74 u75 u76 u77 u78 u79 u80 u81 u82 u83 u84 u85 u86 u87 u88 u89 u90 u91 u92 u93 u94 u95 u96 u97 u98 u99 u100 u101 u102 u103 u104 u105 u106 u107 u108 u109 u110 u111 u112 u113 u114 u115 u116 u117 u118 u119 u120 u121 u122 u123 u124 u125 u126 u127 u128 u129 u130 u131 u132 u133 u134 u135 u136 u137 u138 u139 u140 u141 u142 u143 u144 u145 u146 u147 u148 u149 u150 u151 u152 u153 u154 u155 u156 u157 u158 u159 u160 u161 u162 u163 u164 u165 u166 u167 u168 u169 u170 u171 u172 u173 u174 u175 u176 u177 u178 u179 u180 u181 u182 u183 u184 : Value) (w' : World), M + L ≤ NP → (∃ leaf, okLv ps leaf l) → Own3 w' wr.heap.size ok X u4 u5 u6 (downL ps l) → Below w0.heap.size w0 w' → Q .normal ⟨List.toArray (c0::(.pointer (some ⟨X, 0, none⟩))::u2::c3::u4::u5::u6::(.int .i64 ((M : Int) + (L : Int)))::u8::u9::u10::u11::u12::u13::u14::u15::u16::c17::c18::c19::c20::c21::c22::c23::c24::c25::c26::c27::c28::c29::c30::c31::c32::c33::c34::c35::c36::c37::c38::c39::c40::c41::c42::c43::c44::c45::c46::c47::c48::c49::c50::c51::c52::c53::c54::c55::c56::u57::u58::u59::u60::u61::u62::u63::u64::u65::u66::u67::u68::u69::u70::u71::u72::u73::u74::u75::u76::u77::u78::u79::u80::u81::u82::u83::u84::u85::u86::u87::u88::u89::u90::u91::u92::u93::u94::u95::u96::u97::u98::u99::u100::u101::u102::u103::u104::u105::u106::u107::u108::u109::u110::u111::u112::u113::u114::u115::u116::u117::u118::u119::u120::u121::u122::u123::u124::u125::u126::u127::u128::u129::u130::u131::u132::u133::u134::u135::u136::u137::u138::u139::u140::u141::u142::u143::u144::u145::u146::u147::u148::u149::u150::u151::u152::u153::u154::u155::u156::u157::u158::u159::u160::u161::u162::u163::u164::u165::u166::u167::u168::u169::u170::u171::u172::u173::u174::u175::u176::u177::u178::u179::u180::u181::u182::u183::u184::c185::c186::c187::c188::c189::c190::c191::c192::c193::c194::c195::c196::c197::c198::c199::c200::c201::c202::c203::c204::c205::c206::c207::c208::c209::c210::c211::c212::c213::c214::c215::c216::c217::c218::c219::c220::c221::c222::c223::c224::c225::c226::c227::c228::c229::c230::c231::c232::c233::c234::c235::c236::c237::c238::c239::c240::[]), []⟩ w')) :
    Code.wp Try.prog (loopAt Try.f36 1) Q ⟨List.toArray (c0::(.pointer (some ⟨X, 0, none⟩))::c2::c3::(.slice (some ⟨b4, o4, none⟩) L cap4)::(.slice (some ⟨b5, o5, none⟩) L cap5)::(.slice (some ⟨b6, o6, none⟩) L cap6)::(.int .i64 (M : Int))::c8::c9::c10::c11::c12::c13::c14::c15::c16::c17::c18::c19::c20::c21::c22::c23::c24::c25::c26::c27::c28::c29::c30::c31::c32::c33::c34::c35::c36::c37::c38::c39::c40::c41::c42::c43::c44::c45::c46::c47::c48::c49::c50::c51::c52::c53::c54::c55::c56::c57::c58::c59::c60::c61::c62::c63::c64::c65::c66::c67::c68::c69::c70::c71::c72::c73::c74::c75::c76::c77::c78::c79::c80::c81::c82::c83::c84::c85::c86::c87::c88::c89::c90::c91::c92::c93::c94::c95::c96::c97::c98::c99::c100::c101::c102::c103::c104::c105::c106::c107::c108::c109::c110::c111::c112::c113::c114::c115::c116::c117::c118::c119::c120::c121::c122::c123::c124::c125::c126::c127::c128::c129::c130::c131::c132::c133::c134::c135::c136::c137::c138::c139::c140::c141::c142::c143::c144::c145::c146::c147::c148::c149::c150::c151::c152::c153::c154::c155::c156::c157::c158::c159::c160::c161::c162::c163::c164::c165::c166::c167::c168::c169::c170::c171::c172::c173::c174::c175::c176::c177::c178::c179::c180::c181::c182::c183::c184::c185::c186::c187::c188::c189::c190::c191::c192::c193::c194::c195::c196::c197::c198::c199::c200::c201::c202::c203::c204::c205::c206::c207::c208::c209::c210::c211::c212::c213::c214::c215::c216::c217::c218::c219::c220::c221::c222::c223::c224::c225::c226::c227::c228::c229::c230::c231::c232::c233::c234::c235::c236::c237::c238::c239::c240::[]), []⟩ wr := by
  conv => arg 2; whnf
  have hz := hb.size
  have xx := cell_below hb x0
  have HB := Lib.hid hb
  have HX0 := Lib.hid x0
  clear hb x0
  by_cases hm : M + L ≤ NP
  · have hmI : ¬ (NP : Int) < (M : Int) + (L : Int) := by omega
    go_wp2_with fail
    change Code.wp _ (Code.loop (loopAt Try.f36 2)) _ _ _
    refine tf3 _ wr wr.heap.size X ok (fun b h => by have := hok b h; omega) rfl (by omega) ps NP HNP.out hNPm hq ap cp xx kf df gf ?_ l L HL.out hL0 (by omega) hlt b4 o4 cap4 b5 o5 cap5 b6 o6 cap6 hb4 hb5 hb6 L4 f5 f6 L5 L6 ?_ ?_
    · refine Lib.hid fun i hi => ?_
      obtain ⟨b, o, h1, h2, h3⟩ := HP.out i hi
      exact ⟨b, o, h1, h2, h3.below HB.out⟩
    · refine Lib.hid ?_
      iterate 122 intro _
      intro w' h1 h2
      have H1 := Lib.hid h1
      have H2 := Lib.hid h2
      clear h1 h2
      go_wp2_with fail
      exact hbad.out _ _ _ _ _ _ _ _ _ _ _ _ _ _ _ _ _ _ _ _ _ _ _ _ _ _ _ _ _ _ _ _ _ _ _ _ _ _ _ _ _ _ _ _ _ _ _ _ _ _ _ _ _ _ _ _ _ _ _ _ _ _ _ _ _ _ _ _ _ _ _ _ _ _ _ _ _ _ _ _ _ _ _ _ _ _ _ _ _ _ _ _ _ _ _ _ _ _ _ _ _ _ _ _ _ _ _ _ _ _ _ _ _ _ _ _ _ _ _ _ _ _ _ _ _ _ _ _ _ _ _ _ _ _ _ _ _ _ _ _ _ _ (.inr H1.out) (HB.out.trans (H2.out.mono (by omega)))
    · refine Lib.hid ?_
      iterate 123 intro _
      intro w' h1 h2 h3
      have H1 := Lib.hid h1
      have H2 := Lib.hid h2
      have H3 := Lib.hid h3
      clear h1 h2 h3
      go_wp2_with fail
      exact hnext.out _ _ _ _ _ _ _ _ _ _ _ _ _ _ _ _ _ _ _ _ _ _ _ _ _ _ _ _ _ _ _ _ _ _ _ _ _ _ _ _ _ _ _ _ _ _ _ _ _ _ _ _ _ _ _ _ _ _ _ _ _ _ _ _ _ _ _ _ _ _ _ _ _ _ _ _ _ _ _ _ _ _ _ _ _ _ _ _ _ _ _ _ _ _ _ _ _ _ _ _ _ _ _ _ _ _ _ _ _ _ _ _ _ _ _ _ _ _ _ _ _ _ _ _ _ _ _ _ _ _ _ _ _ _ _ _ _ _ _ _ _ _ hm H1.out H2.out (HB.out.trans (H3.out.mono (by omega)))
  · have hmI : (NP : Int) < (M : Int) + (L : Int) := by omega
    go_wp2_with fail
    exact hbad.out _ _ _ _ _ _ _ _ _ _ _ _ _ _ _ _ _ _ _ _ _ _ _ _ _ _ _ _ _ _ _ _ _ _ _ _ _ _ _ _ _ _ _ _ _ _ _ _ _ _ _ _ _ _ _ _ _ _ _ _ _ _ _ _ _ _ _ _ _ _ _ _ _ _ _ _ _ _ _ _ _ _ _ _ _ _ _ _ _ _ _ _ _ _ _ _ _ _ _ _ _ _ _ _ _ _ _ _ _ _ _ _ _ _ _ _ _ _ _ _ _ _ _ _ _ _ _ _ _ _ _ _ _ _ _ _ _ _ _ _ _ _ (.inl hm) HB.out
/-- A level lies in three slices. -/
def Lev (w : World) (ok : Nat → Prop) (v4 v5 v6 : Value) (l : List Spot) : Prop :=
  Rd w 1 l.length v4 (ic (l.map fun x => (x.1 : Int))) ∧ (∃ us, Rd w 1 l.length v5 us ∧ Ks w ok us (l.map (·.2.1))) ∧ (∃ us, Rd w 1 l.length v6 us ∧ Ks w ok us (l.map (·.2.2)))
theorem Own3.lev {w : World} {B P : Nat} {ok : Nat → Prop} {v8 v9 v10 : Value} {l : List Spot} (h : Own3 w B ok P v8 v9 v10 l) : Lev w ok v8 v9 v10 l := by
  obtain ⟨us, u1, u2⟩ := h.b
  obtain ⟨hs, k1, k2⟩ := h.c
  exact ⟨Rd.own h.a, ⟨us, Rd.own u1, u2⟩, ⟨hs, Rd.own k1, k2⟩⟩
theorem ks_of {w : World} {ok : Nat → Prop} {v : Value} {us : List Value} {ks : List Key} {n : Nat} (h : Rd w 1 n v us) (hk : Ks w ok us ks) (hn : 0 < n) :
    ∃ b o cap, ∃ f : Nat → Value, v = .slice (some ⟨b, o, none⟩) n cap ∧ b < w.heap.size ∧ ∀ i, i < n → w.cell? ⟨b, o + i, none⟩ = some (f i) ∧ RB w ok (f i) (ks.getD i []) := by
  obtain ⟨b, o, cap, rfl, _, _, g3, g4⟩ := h.pos hn (by omega)
  refine ⟨b, o, cap, fun i => us.getD i undef, rfl, g3, fun i hi => ?_⟩
  have hl : ks.length = n := by rw [← hk.1]; have := h.1; omega
  have hik : i < ks.length := by omega
  obtain ⟨x, h1, h2⟩ := hk.2 i ks[i] (List.getElem?_eq_getElem hik)
  have e1 : us.getD i undef = x := by simp [List.getD, h1]
  have e2 : ks.getD i [] = ks[i] := by simp [List.getD, hik]
  refine ⟨?_, ?_⟩
  · rw [g4 i x h1]; exact congrArg some e1.symm
  · show RB w ok (us.getD i undef) _
    rw [e1, e2]; exact h2
theorem map_getD {α β : Type} (f : α → β) (d : α) (e : β) (hd : f d = e) (l : List α) (i : Nat) : (l.map f).getD i e = f (l.getD i d) := by
  simp only [List.getD, List.getElem?_map]
  cases l[i]? with
  | none => exact hd.symm
  | some x => rfl
theorem tf2 (Q : Exit → Act → World → Prop)  (w0 : World) (X : Nat) (ok : Nat → Prop) (hok : ∀ b, ok b → b < w0.heap.size) (hX : X < w0.heap.size) (ps : List Pg) (NP : Nat) (HNP : Hid (NP = ps.length)) (hNPm : NP ≤ 4000) (hq : Hid (∀ p ∈ ps, OkQ p ps.length))
    (ap : Option Addr) (cp : Nat) (x0 : w0.cell? ⟨X, 0, none⟩ = some (.slice ap NP cp)) (kf df gf : Nat → Value) (HP : Hid (∀ i, i < NP → ∃ b o, ap = some ⟨b, o, none⟩ ∧ ok b ∧ PageAt w0 ok b o i (kf i) (df i) (gf i) (ps.getD i noPg))) (r : Nat)
    (v4 v5 v6 : Value) (hlev : Lev w0 ok v4 v5 v6 [(r, [], [])]) (hr : r < NP)
    (hbad : Hid (∀ (u4 u5 u6 u7 u8 u9 u10 u11 u12 u13 u14 u15 u16 u57 u58 u59 u60 u61 u62 u63 u64 u65 u66 u67 u68 u69 u70 u71 u72 u73 u74 u75 u76 u77 u78 u79 u80 u81 u82 u83 u84 u85 u86 u87 u88 u89 u90 u91 u92 u93 u94 u95 u96 u97 u98 u99 u100 u101 u102 u103 u104 u105 u106 u107 u108 u109 u110 u111 u112 u113 u114 u115 u116 u117 u118 u119 u120 u121 u122 u123 u124 u125 u126 u127 u128 u129 u130 u131 u132 u133 u134 u135 u136 u137 u138 u139 u140 u141 u142 u143 u144 u145 u146 u147 u148 u149 u150 u151 u152 u153 u154 u155 u156 u157 u158 u159 u160 u161 u162 u163 u164 u165 u166 u167 u168 u169 u170 u171 u172 u173 u174 u175 u176 u177 u178 u179 u180 u181 u182 u183 u184 : Value) (w' : World), (∃ a l, Run ps r a l ∧ l ≠ [] ∧ (¬ (a.length + l.length ≤ NP) ∨ ¬ (∃ leaf, okLv ps leaf l))) → Below w0.heap.size w0 w' → Q .ret ⟨List.toArray (c0::(.pointer (some ⟨X, 0, none⟩))::(.int .i64 11)::c3::u4::u5::u6::u7::u8::u9::u10::u11::u12::u13::u14::u15::u16::c17::c18::c19::c20::c21::c22::c23::c24::c25::c26::c27::c28::c29::c30::c31::c32::c33::c34::c35::c36::c37::c38::c39::c40::c41::c42::c43::c44::c45::c46::c47::c48::c49::c50::c51::c52::c53::c54::c55::c56::u57::u58::u59::u60::u61::u62::u63::u64::u65::u66::u67::u68::u69::u70::u71::u72::u73::u74::u75::u76::u77::u78::u79::u80::u81::u82::u83::u84::u85::u86::u87::u88::u89::u90::u91::u92::u93::u94::u95::u96::u97::u98::u99::u100::u101::u102::u103::u104::u105::u106::u107::u108::u109::u110::u111::u112::u113::u114::u115::u116::u117::u118::u119::u120::u121::u122::u123::u124::u125::u126::u127::u128::u129::u130::u131::u132::u133::u134::u135::u136::u137::u138::u139::u140::u141::u142::u143::u144::u145::u146::u147::u148::u149::u150::u151::u152::u153::u154::u155::u156::u157::u158::u159::u160::u161::u162::u163::u164::u165::u166::u167::u168::u169::u170::u171::u172::u173::u174::u175::u176::u177::u178::u179::u180::u181::u182::u183::u184::c185::c186::c187::c188::c189::c190::c191::c192::c193::c194::c195::c196::c197::c198::c199::c200::c201::c202::c203::c204::c205::c206::c207::c208::c209::c210::c211::c212::c213::c214::c215::c216::c217::c218::c219::c220::c221::c222::c223::c224::c225::c226::c227::c228::c229::c230::c231::c232::c233::c234::c235::c236::c237::c238::c239::c240::[]), []⟩ w'))
    (hexit : Hid (∀ (u2 u4 u5 u6 u7 u8 u9 u10 u11 u12 u13 u14 u15 u16 u57 u58 u59 u60 u61 u62 u63 u64 u65 u66 u67 u68 u69 u70 u71 u72 u73 u74 u75 u76 u77 u78 u79 u80 u81 u82 u83 u84 u85 u86 u87 u88 u89 u90 u91 u92 u93 u94 u95 u96 u97 u98 u99 u100 u101 u102 u103 u104 u105 u106 u107 u108 u109 u110 u111 u112 u113 u114 u115 u116 u117 u118 u119 u120 u121 u122 u123 u124 u125 u126 u127 u128 u129 u130 u131 u132 u133 u134 u135 u136 u137 u138 u139 u140 u141 u142 u143 u144 u145 u146 u147 u148 u149 u150 u151 u152 u153 u154 u155 u156 u157 u158 u159 u160 u161 u162 u163 u164 u165 u166 u167 u168 u169 u170 u171 u172 u173 u174 u175 u176 u177 u178 u179 u180 u181 u182 u183 u184 : Value) (w' : World) (a : List Nat), Run ps r a [] → u7 = .int .i64 (a.length : Int) → a.length ≤ NP → Below w0.heap.size w0 w' → Q (.exit 2) ⟨List.toArray (c0::(.pointer (some ⟨X, 0, none⟩))::u2::c3::u4::u5::u6::u7::u8::u9::u10::u11::u12::u13::u14::u15::u16::c17::c18::c19::c20::c21::c22::c23::c24::c25::c26::c27::c28::c29::c30::c31::c32::c33::c34::c35::c36::c37::c38::c39::c40::c41::c42::c43::c44::c45::c46::c47::c48::c49::c50::c51::c52::c53::c54::c55::c56::u57::u58::u59::u60::u61::u62::u63::u64::u65::u66::u67::u68::u69::u70::u71::u72::u73::u74::u75::u76::u77::u78::u79::u80::u81::u82::u83::u84::u85::u86::u87::u88::u89::u90::u91::u92::u93::u94::u95::u96::u97::u98::u99::u100::u101::u102::u103::u104::u105::u106::u107::u108::u109::u110::u111::u112::u113::u114::u115::u116::u117::u118::u119::u120::u121::u122::u123::u124::u125::u126::u127::u128::u129::u130::u131::u132::u133::u134::u135::u136::u137::u138::u139::u140::u141::u142::u143::u144::u145::u146::u147::u148::u149::u150::u151::u152::u153::u154::u155::u156::u157::u158::u159::u160::u161::u162::u163::u164::u165::u166::u167::u168::u169::u170::u171::u172::u173::u174::u175::u176::u177::u178::u179::u180::u181::u182::u183::u184::c185::c186::c187::c188::c189::c190::c191::c192::c193::c194::c195::c196::c197::c198::c199::c200::c201::c202::c203::c204::c205::c206::c207::c208::c209::c210::c211::c212::c213::c214::c215::c216::c217::c218::c219::c220::c221::c222::c223::c224::c225::c226::c227::c228::c229::c230::c231::c232::c233::c234::c235::c236::c237::c238::c239::c240::[]), []⟩ w')) :
    Code.wp Try.prog (Code.loop (loopAt Try.f36 1)) Q ⟨List.toArray (c0::(.pointer (some ⟨X, 0, none⟩))::c2::c3::v4::v5::v6::(.int .i64 0)::c8::c9::c10::c11::c12::c13::c14::c15::c16::c17::c18::c19::c20::c21::c22::c23::c24::c25::c26::c27::c28::c29::c30::c31::c32::c33::c34::c35::c36::c37::c38::c39::c40::c41::c42::c43::c44::c45::c46::c47::c48::c49::c50::c51::c52::c53::c54::c55::c56::c57::c58::c59::c60::c61::c62::c63::c64::c65::c66::c67::c68::c69::c70::c71::c72::c73::c74::c75::c76::c77::c78::c79::c80::c81::c82::c83::c84::c85::c86::c87::c88::c89::c90::c91::c92::c93::c94::c95::c96::c97::c98::c99::c100::c101::c102::c103::c104::c105::c106::c107::c108::c109::c110::c111::c112::c113::c114::c115::c116::c117::c118::c119::c120::c121::c122::c123::c124::c125::c126::c127::c128::c129::c130::c131::c132::c133::c134::c135::c136::c137::c138::c139::c140::c141::c142::c143::c144::c145::c146::c147::c148::c149::c150::c151::c152::c153::c154::c155::c156::c157::c158::c159::c160::c161::c162::c163::c164::c165::c166::c167::c168::c169::c170::c171::c172::c173::c174::c175::c176::c177::c178::c179::c180::c181::c182::c183::c184::c185::c186::c187::c188::c189::c190::c191::c192::c193::c194::c195::c196::c197::c198::c199::c200::c201::c202::c203::c204::c205::c206::c207::c208::c209::c210::c211::c212::c213::c214::c215::c216::c217::c218::c219::c220::c221::c222::c223::c224::c225::c226::c227::c228::c229::c230::c231::c232::c233::c234::c235::c236::c237::c238::c239::c240::[]), []⟩ w0 := by
  conv => arg 2; arg 1; whnf
  have HLEV := Lib.hid hlev
  clear hlev
  go_loopw [4, 5, 6, 7] (fun v4 v5 v6 v7 wr => ∃ (a : List Nat) (l : List Spot), v7 = .int .i64 (a.length : Int) ∧ a.length ≤ NP ∧ Run ps r a l ∧ (∀ x ∈ l, x.1 < NP) ∧ l.length ≤ 20000 ∧ Lev wr ok v4 v5 v6 l ∧ Below w0.heap.size w0 wr) (fun _ _ _ v7 _ => NP - (intOf v7).toNat)
  case atStart => exact ⟨[], [(r, [], [])], rfl, by simp, .start, by simpa using hr, by simp, HLEV.out, Below.refl _ _⟩
  case round =>
    obtain ⟨a, l, rfl, ha, hrun, hlt, hl2, ⟨g4, ⟨us, g5, k5⟩, ⟨hs, g6, k6⟩⟩, hb⟩ := hrel
    have HRUN := Lib.hid hrun
    have HLT := Lib.hid hlt
    clear hrun hlt
    rcases Nat.eq_zero_or_pos l.length with hl | hl
    · have hnil : l = [] := List.eq_nil_of_length_eq_zero hl
      subst hnil
      obtain ⟨_, a4, c4, rfl, _⟩ := Rd.zero g4
      have HB := Lib.hid hb
      clear g5 k5 g6 k6 hb hl g4
      go_wp2
      exact hexit.out _ _ _ _ _ _ _ _ _ _ _ _ _ _ _ _ _ _ _ _ _ _ _ _ _ _ _ _ _ _ _ _ _ _ _ _ _ _ _ _ _ _ _ _ _ _ _ _ _ _ _ _ _ _ _ _ _ _ _ _ _ _ _ _ _ _ _ _ _ _ _ _ _ _ _ _ _ _ _ _ _ _ _ _ _ _ _ _ _ _ _ _ _ _ _ _ _ _ _ _ _ _ _ _ _ _ _ _ _ _ _ _ _ _ _ _ _ _ _ _ _ _ _ _ _ _ _ _ _ _ _ _ _ _ _ _ _ _ _ _ _ _ _ a HRUN.out rfl ha HB.out
    · obtain ⟨b4, o4, cap4, rfl, _, hc4, hb4, q4⟩ := g4.pos hl (by omega)
      obtain ⟨b5, o5, cap5, f5, rfl, hb5, q5⟩ := ks_of g5 k5 hl
      obtain ⟨b6, o6, cap6, f6, rfl, hb6, q6⟩ := ks_of g6 k6 hl
      have hlm := g4.len
      unfold maxLen at hlm
      obtain ⟨L, hL⟩ : ∃ L, L = l.length := ⟨_, rfl⟩
      obtain ⟨M, hM⟩ : ∃ M, M = a.length := ⟨_, rfl⟩
      have HL := Lib.hid hL
      have HM := Lib.hid hM
      have Q4 : Hid (∀ i, i < L → wr.cell? ⟨b4, o4 + i, none⟩ = some (.int .i64 ((l.getD i sp0).1 : Int))) := by
        refine Lib.hid fun i hi => q4 i _ ?_
        have hil : i < l.length := by rw [← HL.out]; exact hi
        simp [ic, List.getElem?_map, List.getD, hil]
      have Q5 : Hid (∀ i, i < L → wr.cell? ⟨b5, o5 + i, none⟩ = some (f5 i) ∧ RB wr ok (f5 i) (l.getD i sp0).2.1) := by
        refine Lib.hid fun i hi => ?_
        have := q5 i (by rw [← HL.out]; exact hi)
        rw [map_getD (fun x : Spot => x.2.1) sp0 [] rfl] at this
        exact this
      have Q6 : Hid (∀ i, i < L → wr.cell? ⟨b6, o6 + i, none⟩ = some (f6 i) ∧ RB wr ok (f6 i) (l.getD i sp0).2.2) := by
        refine Lib.hid fun i hi => ?_
        have := q6 i (by rw [← HL.out]; exact hi)
        rw [map_getD (fun x : Spot => x.2.2) sp0 [] rfl] at this
        exact this
      rw [← hL] at hl hlm hl2 ⊢
      rw [← hM] at ha ⊢
      have HB := Lib.hid hb
      have hz := hb.size
      clear g4 g5 k5 g6 k6 q4 q5 q6 hb hL hM
      change Code.wp _ (loopAt Try.f36 1) _ _ _
      refine rnd2 _ w0 X ok hok hX ps NP HNP hNPm hq ap cp x0 kf df gf HP wr M ha HB.out l L HL hl HLT b4 o4 cap4 b5 o5 cap5 b6 o6 cap6 hb4 hb5 hb6 (by omega) Q4 f5 f6 Q5 Q6 ?_ ?_
      · refine Lib.hid ?_
        intro u4 u5 u6 u7 u8 u9 u10 u11 u12 u13 u14 u15 u16 u57 u58 u59 u60 u61 u62 u63 u64 u65 u66 u67 u68 u69 u70 u71 u72 u73 u74 u75 u76 u77 u78 u79 u80 u81 u82 u83 u84 u85 u86 u87 u88 u89 u90 u91 u92 u93 u94 u95 u96 u97 u98 u99 u100 u101 u102 u103 u104 u105 u106 u107 u108 u109 u110 u111 u112 u113 u114 u115 u116 u117 u118 u119 u120 u121 u122 u123 u124 u125 u126 u127 u128 u129 u130 u131 u132 u133 u134 u135 u136 u137 u138 u139 u140 u141 u142 u143 u144 u145 u146 u147 u148 u149 u150 u151 u152 u153 u154 u155 u156 u157 u158 u159 u160 u161 u162 u163 u164 u165 u166 u167 u168 u169 u170 u171 u172 u173 u174 u175 u176 u177 u178 u179 u180 u181 u182 u183 u184 w' h1 h2
        have H1 := Lib.hid h1
        have H2 := Lib.hid h2
        clear h1 h2
        go_wp2_with fail
        refine hbad.out _ _ _ _ _ _ _ _ _ _ _ _ _ _ _ _ _ _ _ _ _ _ _ _ _ _ _ _ _ _ _ _ _ _ _ _ _ _ _ _ _ _ _ _ _ _ _ _ _ _ _ _ _ _ _ _ _ _ _ _ _ _ _ _ _ _ _ _ _ _ _ _ _ _ _ _ _ _ _ _ _ _ _ _ _ _ _ _ _ _ _ _ _ _ _ _ _ _ _ _ _ _ _ _ _ _ _ _ _ _ _ _ _ _ _ _ _ _ _ _ _ _ _ _ _ _ _ _ _ _ _ _ _ _ _ _ _ _ _ _ _ _ ⟨a, l, HRUN.out, fun e => ?_, ?_⟩ H2.out
        · have := HL.out
          rw [e] at this
          simp at this
          omega
        · rw [← HM.out, ← HL.out]; exact H1.out
      · refine Lib.hid ?_
        intro u2 u4 u5 u6 u8 u9 u10 u11 u12 u13 u14 u15 u16 u57 u58 u59 u60 u61 u62 u63 u64 u65 u66 u67 u68 u69 u70 u71 u72 u73 u74 u75 u76 u77 u78 u79 u80 u81 u82 u83 u84 u85 u86 u87 u88 u89 u90 u91 u92 u93 u94 u95 u96 u97 u98 u99 u100 u101 u102 u103 u104 u105 u106 u107 u108 u109 u110 u111 u112 u113 u114 u115 u116 u117 u118 u119 u120 u121 u122 u123 u124 u125 u126 u127 u128 u129 u130 u131 u132 u133 u134 u135 u136 u137 u138 u139 u140 u141 u142 u143 u144 u145 u146 u147 u148 u149 u150 u151 u152 u153 u154 u155 u156 u157 u158 u159 u160 u161 u162 u163 u164 u165 u166 u167 u168 u169 u170 u171 u172 u173 u174 u175 u176 u177 u178 u179 u180 u181 u182 u183 u184 w' h0 h1 h2 h3
        have H1 := Lib.hid h1
        have H2 := Lib.hid h2
        have H3 := Lib.hid h3
        clear h1 h2 h3
        go_roundw
        case rel =>
          obtain ⟨leaf, hlf⟩ := H1.out
          refine ⟨_, _, _, _, _, _, _, _, _, _, _, _, _, _, _, _, _, _, _, _, _, _, _, _, _, _, _, _, _, _, _, _, _, _, _, _, _, _, _, _, _, _, _, _, _, _, _, _, _, _, _, _, _, _, _, _, _, _, _, _, _, _, _, _, _, _, _, _, _, _, _, _, _, _, _, _, _, _, _, _, _, _, _, _, _, _, _, _, _, _, _, _, _, _, _, _, _, _, _, _, _, _, _, _, _, _, _, _, _, _, _, _, _, _, _, _, _, _, _, _, _, _, _, _, _, _, _, _, _, _, _, _, _, _, _, _, _, _, _, _, _, _, ⟨a ++ l.map (·.1), downL ps l, ?_, ?_, .more a l leaf HRUN.out ?_ hlf, ?_, ?_, H2.out.lev, H3.out⟩, rfl⟩
          · rw [List.length_append, List.length_map, ← HM.out, ← HL.out]; push_cast; rfl
          · rw [List.length_append, List.length_map, ← HM.out, ← HL.out]; exact h0
          · intro e
            have := HL.out
            rw [e] at this
            simp at this
            omega
          · rw [HNP.out]
            exact downL_ltq hq.out (fun x hx => by rw [← HNP.out]; exact HLT.out x hx)
          · have := downL_len (ps := ps) (l := l) fun y hy => hq.out _ (page_mem (by rw [← HNP.out]; exact HLT.out y hy))
            rw [← HL.out] at this
            omega
        case measure => simp [intOf] <;> omega
end Go.Proofs.Ytahammkjkfdmhaa
