/- The document's putting in: from the place of the key on. -/
import Derived.Test.YtahammkjkfdmhaaYp
import Derived.Lib.SliceRun
namespace Go.Proofs.Ytahammkjkfdmhaa
open Go.ChangeShapes Go.WideShapes Go.ChangeAt Go.RowKit
set_option linter.unusedVariables false
set_option linter.unusedSimpArgs false
set_option maxHeartbeats 4000000
variable {c2 c3 c4 c5 c6 c7 c8 c9 c14 c15 c16 c17 c18 c19 c20 c21 c22 c23 c24 c25 c26 c27 c28 c29 c30 c31 c32 c33 c34 c35 c36 c37 c38 c39 c40 c41 c42 c43 c44 c45 c46 c47 c48 c49 c50 c51 c52 c53 c54 c55 c56 c57 c58 c59 c60 c61 c62 c63 c64 c65 c66 c67 c68 c69 c70 c71 c72 c73 c74 c75 c76 c77 c78 c79 c80 c81 c82 c83 c84 c85 c86 c87 c88 c89 c90 c91 c92 c93 c94 c95 c96 c97 c98 c99 c100 c101 c102 c103 c104 c105 c106 c107 c108 c109 c110 c111 c112 c113 c114 c115 c116 c117 c118 c119 c120 c121 c122 c123 c124 c125 c126 c127 c128 c129 c130 c131 c132 c133 c134 c135 c136 c137 c138 c139 c140 c141 c142 c143 c144 c145 c146 c147 c148 c149 c150 c151 c152 c153 c154 c155 c156 c157 c158 c159 c160 c161 c162 c163 c164 c165 c166 c167 c168 c169 c170 c171 c172 c173 c174 c175 c176 c177 c178 c179 c180 c181 c182 c183 c184 c185 c186 c187 c188 c189 c190 c191 c192 c193 c194 c195 c196 c197 c198 c199 c200 c201 c202 c203 c204 c205 c206 c207 c208 c209 c210 c211 c212 c213 c214 c215 c216 c217 c218 c219 c220 c221 c222 c223 c224 c225 c226 c227 c228 c229 c230 c231 c232 c233 : Value}
set_option maxRecDepth 1000000
theorem at13 (Q : Exit → Act → World → Prop) (Kx : Act → World → Prop)  (wb w0 : World) (O PB PBb P BO i at_ : Nat) (root kid : Int) (ps : List Pg) (p : Pg) (kx : Key) (K ck D cd nh chh pn pc : Nat) (pa ak ad ah : Option Addr) (xa : Nat → Option Addr) (xn xc : Nat → Nat)
    (hdt : Hid (DT w0 BO O PB ps root)) (hi : i < ps.length) (hN : ps.length ≤ 4090) (hpb : Hid (PBox w0 BO O PB P p K ck D cd nh chh ak ad ah xa xn xc)) (hat : at_ ≤ K) (hkx : Hid (1 ≤ kx.length ∧ kx.length ≤ 100)) (hput : Hid (RB w0 (Gx w0 BO O PB) (.slice pa pn pc) kx))
    (hbz : wb.heap.size ≤ w0.heap.size) (hbp : PB = PBb ∨ wb.heap.size ≤ PB) (hbf : Hid (∀ b, b < wb.heap.size → b ≠ O → b ≠ PBb → w0.heap[b]? = wb.heap[b]?)) (hbo : w0.os = wb.os ∧ w0.tape = wb.tape ∧ w0.output = wb.output)
    (hret : Hid (∀ (u16 u17 u18 u19 u20 u21 u22 u69 u70 u71 u72 u73 u74 u75 u76 u77 u78 u79 u80 u81 u82 u83 u84 u85 u86 u87 u88 u89 u90 u91 u92 u93 u94 u95 u96 u97 u98 u99 u100 u101 u102 u103 u104 u105 u106 u107 u108 u109 u110 u111 u112 u113 u114 u115 u116 u117 u118 u119 u120 u121 u122 u123 u124 u125 u126 u127 u128 u129 u130 u131 u132 u133 u134 u135 u136 u137 u138 u139 u140 u141 u142 u143 u144 u145 u146 u147 u148 u149 u150 u151 u152 u153 u154 u155 u156 u157 u158 u159 u160 u161 u162 u163 u164 u165 u166 u167 u168 u169 u170 u171 u172 u173 u174 u175 u176 u177 u178 u179 u180 u181 u182 u183 u184 u185 u186 u187 u188 u189 u190 u191 u192 u193 u194 u195 u196 u197 u198 u199 u200 u201 u202 u203 u204 u205 u206 u207 u208 u209 u210 u211 u212 u213 u214 u215 u216 u217 u218 u219 u220 u221 u222 u223 u224 u225 u226 u227 u228 u229 u230 u231 u232 u233 v8 : Value) (v9 : Int) (w' : World), AddIs wb BO O PBb root (putP ps i p (insAt p.keys at_ kx) (insAt p.kids (if p.leaf then at_ else at_ + 1) kid)) v8 v9 w' → Q .ret ⟨List.toArray ((.pointer (some ⟨O, 0, none⟩))::(.int .i64 (i : Int))::c2::c3::c4::c5::c6::c7::v8::(.int .i64 v9)::(.pointer (some ⟨P, 0, none⟩))::(.int .i64 (at_ : Int))::(.slice pa pn pc)::(.int .i64 kid)::c14::c15::u16::u17::u18::u19::u20::u21::u22::c23::c24::c25::c26::c27::c28::c29::c30::c31::c32::c33::c34::c35::c36::c37::c38::c39::c40::c41::c42::c43::c44::c45::c46::c47::c48::c49::c50::c51::c52::c53::c54::c55::c56::c57::c58::c59::c60::c61::c62::c63::c64::c65::c66::c67::c68::u69::u70::u71::u72::u73::u74::u75::u76::u77::u78::u79::u80::u81::u82::u83::u84::u85::u86::u87::u88::u89::u90::u91::u92::u93::u94::u95::u96::u97::u98::u99::u100::u101::u102::u103::u104::u105::u106::u107::u108::u109::u110::u111::u112::u113::u114::u115::u116::u117::u118::u119::u120::u121::u122::u123::u124::u125::u126::u127::u128::u129::u130::u131::u132::u133::u134::u135::u136::u137::u138::u139::u140::u141::u142::u143::u144::u145::u146::u147::u148::u149::u150::u151::u152::u153::u154::u155::u156::u157::u158::u159::u160::u161::u162::u163::u164::u165::u166::u167::u168::u169::u170::u171::u172::u173::u174::u175::u176::u177::u178::u179::u180::u181::u182::u183::u184::u185::u186::u187::u188::u189::u190::u191::u192::u193::u194::u195::u196::u197::u198::u199::u200::u201::u202::u203::u204::u205::u206::u207::u208::u209::u210::u211::u212::u213::u214::u215::u216::u217::u218::u219::u220::u221::u222::u223::u224::u225::u226::u227::u228::u229::u230::u231::u232::u233::[]), []⟩ w'))
    (hK : ∀ a w, Code.wp Try.prog ((tailOf 14 (Try.f21.body.getD .skip)).getD .skip) Q a w → Kx a w) :
    Code.wp Try.prog ((regionOf 13 (Try.f21.body.getD .skip)).getD .skip) (Exit.then Kx Q) ⟨List.toArray ((.pointer (some ⟨O, 0, none⟩))::(.int .i64 (i : Int))::c2::c3::c4::c5::c6::c7::c8::c9::(.pointer (some ⟨P, 0, none⟩))::(.int .i64 (at_ : Int))::(.slice pa pn pc)::(.int .i64 kid)::c14::c15::c16::c17::c18::c19::c20::c21::c22::c23::c24::c25::c26::c27::c28::c29::c30::c31::c32::c33::c34::c35::c36::c37::c38::c39::c40::c41::c42::c43::c44::c45::c46::c47::c48::c49::c50::c51::c52::c53::c54::c55::c56::c57::c58::c59::c60::c61::c62::c63::c64::c65::c66::c67::c68::c69::c70::c71::c72::c73::c74::c75::c76::c77::c78::c79::c80::c81::c82::c83::c84::c85::c86::c87::c88::c89::c90::c91::c92::c93::c94::c95::c96::c97::c98::c99::c100::c101::c102::c103::c104::c105::c106::c107::c108::c109::c110::c111::c112::c113::c114::c115::c116::c117::c118::c119::c120::c121::c122::c123::c124::c125::c126::c127::c128::c129::c130::c131::c132::c133::c134::c135::c136::c137::c138::c139::c140::c141::c142::c143::c144::c145::c146::c147::c148::c149::c150::c151::c152::c153::c154::c155::c156::c157::c158::c159::c160::c161::c162::c163::c164::c165::c166::c167::c168::c169::c170::c171::c172::c173::c174::c175::c176::c177::c178::c179::c180::c181::c182::c183::c184::c185::c186::c187::c188::c189::c190::c191::c192::c193::c194::c195::c196::c197::c198::c199::c200::c201::c202::c203::c204::c205::c206::c207::c208::c209::c210::c211::c212::c213::c214::c215::c216::c217::c218::c219::c220::c221::c222::c223::c224::c225::c226::c227::c228::c229::c230::c231::c232::c233::[]), []⟩ w0 := by
  conv => arg 2; whnf
  obtain ⟨p0, p1, p2, p3, p4, -⟩ := box5 hpb.out.box
  have hPl := (Array.getElem?_eq_some_iff.1 hpb.out.box).1
  have hK4 := hpb.out.k4
  have hatP := hpb.out.at_
  obtain ⟨pl, hpl⟩ : ∃ pl, pl = p.leaf := ⟨_, rfl⟩
  obtain ⟨pnx, hpnx⟩ : ∃ x, x = p.next := ⟨_, rfl⟩
  rw [← hpl] at p0
  rw [← hpnx] at p4
  obtain ⟨C, hC⟩ : ∃ C, C = w0.heap.size := ⟨_, rfl⟩
  obtain ⟨w1, hw1⟩ : ∃ w1 : World, w1 = w0.alloc (.cells #[.bool pl, .slice none 0 0, .slice none 0 0, .slice ah nh chh, .int .i64 pnx] 43) := ⟨_, rfl⟩
  have hb1 : Below w0.heap.size w0 w1 := by rw [hw1]; exact (Below.refl _ _).alloc (Nat.le_refl _) _
  have hz1 : w1.heap.size = w0.heap.size + 1 := by rw [hw1]; simp
  have hbx1 : w1.heap[C]? = some (.cells #[.bool pl, .slice none 0 0, .slice none 0 0, .slice ah nh chh, .int .i64 pnx] 43 (0, 0)) := by rw [hw1, hC]; exact new0 _ _
  have HB1 := Lib.hid hb1
  have HC := Lib.hid (And.intro hw1 hC)
  have HPL := Lib.hid (And.intro hpl hpnx)
  have q1 := cell_of_below hb1 p1
  have hCz : w0.heap.size ≤ C ∧ C ≤ w0.heap.size := ⟨by omega, by omega⟩
  clear hb1 hw1 hC hpl hpnx
  go_wp2_with fail
  conv => arg 2; whnf
  rw [← HC.out.1]
  go_wp2_with fail
  rw [← HC.out.2]
  change Code.wp _ (Code.loop (loopAt Try.f21 1)) _ _ _
  refine ad2 _ w1 P C at_ K ck pn pc pa ak xa xn xc (by omega) (by omega) (by omega) hK4 hat _ _ _ _ q1 (Lib.hid fun j hj => by
    obtain ⟨b, o, e, g, h1, -⟩ := hpb.out.keys j hj
    have := g.2.1
    exact ⟨b, o, e, by omega, by omega, cell_of_below HB1.out h1⟩) hbx1 ?_
  refine Lib.hid ?_
  iterate 27 intro _
  intro w2 v2 m hm hown2 hbx2 hgr2
  have hgr := Lib.hid hgr2
  have hz2 := hgr2.size
  have r1 := hgr2.cell q1 (fun e => by have : P = C := Option.some.inj e; omega)
  have hCown : Hid (v2.ownBlock ≠ some C) := Lib.hid fun e => by have := (hown2.lt C e).1; omega
  by_cases hlt : at_ < K
  · have e1 : ((at_ : Int) == (K : Int)) = false := by simp; omega
    rw [if_pos hlt] at hm
    rw [hm] at hown2
    clear hm
    have hown : Hid (w2.ownsRow w1.heap.size 25 1 v2 (K + 1) (insAt ((List.range K).map fun j => Value.slice (xa j) (xn j) (xc j)) at_ (.slice pa pn pc))) := by
      refine Lib.hid ?_
      rw [← insN_all (n := K) _ (by simp) hlt]
      exact hown2
    have hbx2 : Hid (w2.heap[C]? = some (.cells #[.bool p.leaf, v2, .slice none 0 0, .slice ah nh chh, .int .i64 p.next] 43 (0, 0))) := by rw [← HPL.out.1, ← HPL.out.2]; exact Lib.hid hbx2
    have hCn : Hid (v2.ownBlock ≠ some C ∨ v2.ownBlock ≠ some C) := Lib.hid (.inl hCown.out)
    clear hown2 hgr2 p0 p1 p2 p3 p4 q1
    go_step
    go_step
    go_upto_region 22 with (fail)
    obtain ⟨gk, kk, rfl⟩ : ∃ gk kk, v2 = .slice (some ⟨gk, 0, none⟩) (K + 1) kk := by
      rcases hown.out with ⟨-, ⟨-, h0⟩ | ⟨g, c, _, h2, -⟩⟩
      · omega
      · exact ⟨g, c, h2⟩
    have hgk := hown.out.lt gk rfl
    have hkk : K + 1 ≤ kk ∧ kk ≤ maxLen := by obtain ⟨_, _, _, e, h3, h4, _⟩ := Rd.own hown.out; cases e; exact ⟨h3, h4⟩
    have hzz := hgr.out.size
    have hfz : ∀ b, b < w0.heap.size → w2.heap[b]? = w0.heap[b]? := fun b h1 => (hgr.out.block b (by omega) (fun e => by have := Option.some.inj e; omega)).trans (HB1.out.block b h1)
    have hgz : ∀ b, Gx w0 BO O PB b → Gx w2 BO O PB b ∧ b ≠ C := fun b g => ⟨⟨g.1, by have := g.2.1; omega, g.2.2⟩, by have := g.2.1; omega⟩
    have hagz : Agree (Gx w0 BO O PB) w0 w2 := fun b g hlt => hfz b hlt
    have hdtz : DT w2 BO O PB ps root := hdt.out.to (by omega) fun b h1 _ => hfz b h1
    have hpbz : PBox w2 BO O PB P p K ck D cd nh chh ak ad ah xa xn xc := hpb.out.to (by omega) (.inl rfl) fun b h1 _ _ => hfz b h1
    have hks : Ks w0 (Gx w0 BO O PB) ((List.range K).map fun j => Value.slice (xa j) (xn j) (xc j)) p.keys := by
      refine ⟨by simp [hpb.out.kl], fun j q hq => ?_⟩
      have hj : j < K := by rw [hpb.out.kl]; exact (List.getElem?_eq_some_iff.1 hq).1
      obtain ⟨b, o, -, -, -, h2⟩ := hpb.out.keys j hj
      have hg : p.keys.getD j [] = q := by rw [List.getD_eq_getElem?_getD, hq]; rfl
      rw [hg] at h2
      exact ⟨_, by simp [hj], h2⟩
    have hks2 := (hks.ins hput.out at_).agree hagz
    have hkl := hpb.out.kl
    have hOl : O < w0.heap.size := by obtain ⟨_, _, h1, -⟩ := hdt.out.row; exact (Array.getElem?_eq_some_iff.1 h1).1
    have hPBl : PB < w0.heap.size := by obtain ⟨_, _, -, h1, -⟩ := hdt.out.row; exact (h1.lt PB rfl).2
    have hBOP := hdt.out.pb
    change Code.wp _ ((regionOf 22 (Try.f21.body.getD .skip)).getD .skip) _ _ _
    refine at22 _ _ wb w2 O PB PBb P C BO i at_ root kid ps p (insAt p.keys at_ kx) K ck D cd nh chh gk kk ak ad ah xa xn xc (Lib.hid hdtz) hi hN (Lib.hid hpbz) hat (Lib.hid fun s hs => ?_) (Lib.hid ?_) hbx2 ⟨by omega, by omega, by omega, by omega⟩ (Lib.hid ?_) hkk (Lib.hid (RB.mono (hpb.out.high.agree hagz) hgz))
      (Lib.hid fun j hj => ?_) (Lib.hid ?_) (by omega) (by omega) hbp (Lib.hid fun b h1 h2 h3 => (hfz b (by omega)).trans (hbf.out b h1 h2 h3)) ⟨hgr.out.os.trans (HB1.out.os.trans hbo.1), hgr.out.tape.trans (HB1.out.tape.trans hbo.2.1), hgr.out.output.trans (HB1.out.output.trans hbo.2.2)⟩ ?_ ?_
    · unfold insAt at hs
      rw [List.mem_append, List.mem_cons] at hs
      rcases hs with h | rfl | h
      · exact hpb.out.okk s (List.mem_of_mem_take h)
      · exact hkx.out
      · exact hpb.out.okk s (List.mem_of_mem_drop h)
    · simp [insAt]; omega
    · refine rk_ownX (by simp [insAt]; omega) hown.out hks2 ⟨⟨by omega, hgk.2, by omega, by omega⟩, ?_⟩ hgz
      exact fun e => hCown.out (by rw [← e]; rfl)
    · obtain ⟨b, o, e, g, h1⟩ := hpbz.kids j hj
      obtain ⟨b', o', e', g', -⟩ := hpb.out.kids j hj
      rw [e] at e'
      cases e'
      exact ⟨b, o, e, g.2.1, (hgz b g').2, h1⟩
    · obtain ⟨cap, vs, h1, h2, h3⟩ := hdt.out.row
      refine ⟨cap, vs, (hfz O hOl).trans h1, own_far h2 fun b hb => ?_, RPs.mono (h3.agree hagz) hgz⟩
      have hb' := own_eq hb
      subst hb'
      exact hfz _ hPBl
    · refine Lib.hid ?_
      iterate 126 intro _
      intro v8 v9 w9 hadd
      exact hret.out _ _ _ _ _ _ _ _ _ _ _ _ _ _ _ _ _ _ _ _ _ _ _ _ _ _ _ _ _ _ _ _ _ _ _ _ _ _ _ _ _ _ _ _ _ _ _ _ _ _ _ _ _ _ _ _ _ _ _ _ _ _ _ _ _ _ _ _ _ _ _ _ _ _ _ _ _ _ _ _ _ _ _ _ _ _ _ _ _ _ _ _ _ _ _ _ _ _ _ _ _ _ _ _ _ _ _ _ _ _ _ _ _ _ _ _ _ _ _ _ _ _ _ _ _ _ _ _ _ _ _ _ _ _ _ _ _ _ _ _ _ _ _ _ _ _ _ _ _ _ _ _ _ _ _ _ _ _ _ _ _ _ _ _ _ _ _ _ _ _ _ _ v8 v9 w9 hadd
    · intro a w hw
      go_step
      exact hw
  · obtain rfl : at_ = K := by omega
    have e1 : ((at_ : Int) == (at_ : Int)) = true := by simp
    rw [if_neg hlt] at hm
    rw [hm] at hown2
    clear hm
    obtain ⟨_, ao, co, rfl, _⟩ := Rd.own hown2
    obtain ⟨y0, y1, y2, y3, y4, f0, f1, f2, f3, f4⟩ := box5 hbx2
    have HOWN := Lib.hid hown2
    have HBX := Lib.hid hbx2
    have HLT := Lib.hid hown2.lt
    clear hown2 hgr2 p0 p1 p2 p3 p4 q1 hbx2
    go_step
    go_step
    go_upto_region 22 with (at_builtin; refine apx w2 1 rfl (.tmp 108) (.tmp 110) 41 25 _ 1 24 Try.underlying41 infoI_ks rfl (by omega) rfl HOWN.out (by omega) (by omega) (by unfold maxLen; omega) [.slice pa pn pc] rfl (by simp [Value.oneCell']) _ rfl rfl rfl ?_; intro v3 w3 o3 b3 g3 e3; obtain ⟨_, a5, c5, rfl, _⟩ := Rd.own o3; have z3 := b3.size; have hCv : some C ≠ (Value.slice ao at_ co).ownBlock := (fun e => hCown.out e.symm); have s1 := g3.cell y1 hCv; have s1f := (g3.frozen_far ⟨C, 1, none⟩ (by show C < _; omega) hCv).trans f1; have HBX2 := Lib.hid ((g3.block C (by omega) hCv).trans HBX.out); have O3 := Lib.hid o3; have B3 := Lib.hid b3; have G3 := Lib.hid g3; have E3 := Lib.hid e3; clear o3 b3 g3 e3)
    obtain ⟨wz, hwz⟩ : ∃ wz : World, wz = w3.setCell ⟨C, 1, none⟩ (.slice a5 (at_ + 1) c5) := ⟨_, rfl⟩
    obtain ⟨v2, hv2⟩ : ∃ v2, v2 = Value.slice a5 (at_ + 1) c5 := ⟨_, rfl⟩
    have hgrz : w1.grownBy wz (some C) := by rw [hwz]; exact bt_trans (bt_own hgr.out G3.out (fun g hg => (HLT.out g hg).1)) (bt_set _ _ _ _)
    have hbxz : wz.heap[C]? = some (.cells #[.bool p.leaf, v2, .slice none 0 0, .slice ah nh chh, .int .i64 p.next] 43 (0, 0)) := by rw [hwz, hv2, ← HPL.out.1, ← HPL.out.2]; exact set1X HBX2.out _
    have hownz : wz.ownsRow w1.heap.size 25 1 v2 (at_ + 1) (insAt ((List.range at_).map fun j => Value.slice (xa j) (xn j) (xc j)) at_ (.slice pa pn pc)) := by
      rw [← insN_end _ (by simp), hwz, hv2]
      exact O3.out.kept (bt_set _ _ _ _) (.inr fun e => by have := (O3.out.lt C e).1; omega)
    have hCownz : v2.ownBlock ≠ some C := fun e => by have := (hownz.lt C e).1; omega
    rw [← hwz]
    clear hgr hCown
    have hown := Lib.hid hownz
    have hbx2 := Lib.hid hbxz
    have hgr := Lib.hid hgrz
    have hCown := Lib.hid hCownz
    clear hwz hv2 hgrz hbxz hownz hCownz s1 s1f y0 y1 y2 y3 y4 f0 f1 f2 f3 f4
    obtain ⟨gk, kk, rfl⟩ : ∃ gk kk, v2 = .slice (some ⟨gk, 0, none⟩) (at_ + 1) kk := by
      rcases hown.out with ⟨-, ⟨-, h0⟩ | ⟨g, c, _, h2, -⟩⟩
      · omega
      · exact ⟨g, c, h2⟩
    have hgk := hown.out.lt gk rfl
    have hkk : at_ + 1 ≤ kk ∧ kk ≤ maxLen := by obtain ⟨_, _, _, e, h3, h4, _⟩ := Rd.own hown.out; cases e; exact ⟨h3, h4⟩
    have hzz := hgr.out.size
    have hfz : ∀ b, b < w0.heap.size → wz.heap[b]? = w0.heap[b]? := fun b h1 => (hgr.out.block b (by omega) (fun e => by have := Option.some.inj e; omega)).trans (HB1.out.block b h1)
    have hgz : ∀ b, Gx w0 BO O PB b → Gx wz BO O PB b ∧ b ≠ C := fun b g => ⟨⟨g.1, by have := g.2.1; omega, g.2.2⟩, by have := g.2.1; omega⟩
    have hagz : Agree (Gx w0 BO O PB) w0 wz := fun b g hlt => hfz b hlt
    have hdtz : DT wz BO O PB ps root := hdt.out.to (by omega) fun b h1 _ => hfz b h1
    have hpbz : PBox wz BO O PB P p at_ ck D cd nh chh ak ad ah xa xn xc := hpb.out.to (by omega) (.inl rfl) fun b h1 _ _ => hfz b h1
    have hks : Ks w0 (Gx w0 BO O PB) ((List.range at_).map fun j => Value.slice (xa j) (xn j) (xc j)) p.keys := by
      refine ⟨by simp [hpb.out.kl], fun j q hq => ?_⟩
      have hj : j < at_ := by rw [hpb.out.kl]; exact (List.getElem?_eq_some_iff.1 hq).1
      obtain ⟨b, o, -, -, -, h2⟩ := hpb.out.keys j hj
      have hg : p.keys.getD j [] = q := by rw [List.getD_eq_getElem?_getD, hq]; rfl
      rw [hg] at h2
      exact ⟨_, by simp [hj], h2⟩
    have hks2 := (hks.ins hput.out at_).agree hagz
    have hkl := hpb.out.kl
    have hOl : O < w0.heap.size := by obtain ⟨_, _, h1, -⟩ := hdt.out.row; exact (Array.getElem?_eq_some_iff.1 h1).1
    have hPBl : PB < w0.heap.size := by obtain ⟨_, _, -, h1, -⟩ := hdt.out.row; exact (h1.lt PB rfl).2
    have hBOP := hdt.out.pb
    change Code.wp _ ((regionOf 22 (Try.f21.body.getD .skip)).getD .skip) _ _ _
    refine at22 _ _ wb wz O PB PBb P C BO i at_ root kid ps p (insAt p.keys at_ kx) at_ ck D cd nh chh gk kk ak ad ah xa xn xc (Lib.hid hdtz) hi hN (Lib.hid hpbz) hat (Lib.hid fun s hs => ?_) (Lib.hid ?_) hbx2 ⟨by omega, by omega, by omega, by omega⟩ (Lib.hid ?_) hkk (Lib.hid (RB.mono (hpb.out.high.agree hagz) hgz))
      (Lib.hid fun j hj => ?_) (Lib.hid ?_) (by omega) (by omega) hbp (Lib.hid fun b h1 h2 h3 => (hfz b (by omega)).trans (hbf.out b h1 h2 h3)) ⟨hgr.out.os.trans (HB1.out.os.trans hbo.1), hgr.out.tape.trans (HB1.out.tape.trans hbo.2.1), hgr.out.output.trans (HB1.out.output.trans hbo.2.2)⟩ ?_ ?_
    · unfold insAt at hs
      rw [List.mem_append, List.mem_cons] at hs
      rcases hs with h | rfl | h
      · exact hpb.out.okk s (List.mem_of_mem_take h)
      · exact hkx.out
      · exact hpb.out.okk s (List.mem_of_mem_drop h)
    · simp [insAt]; omega
    · refine rk_ownX (by simp [insAt]; omega) hown.out hks2 ⟨⟨by omega, hgk.2, by omega, by omega⟩, ?_⟩ hgz
      exact fun e => hCown.out (by rw [← e]; rfl)
    · obtain ⟨b, o, e, g, h1⟩ := hpbz.kids j hj
      obtain ⟨b', o', e', g', -⟩ := hpb.out.kids j hj
      rw [e] at e'
      cases e'
      exact ⟨b, o, e, g.2.1, (hgz b g').2, h1⟩
    · obtain ⟨cap, vs, h1, h2, h3⟩ := hdt.out.row
      refine ⟨cap, vs, (hfz O hOl).trans h1, own_far h2 fun b hb => ?_, RPs.mono (h3.agree hagz) hgz⟩
      have hb' := own_eq hb
      subst hb'
      exact hfz _ hPBl
    · refine Lib.hid ?_
      iterate 126 intro _
      intro v8 v9 w9 hadd
      exact hret.out _ _ _ _ _ _ _ _ _ _ _ _ _ _ _ _ _ _ _ _ _ _ _ _ _ _ _ _ _ _ _ _ _ _ _ _ _ _ _ _ _ _ _ _ _ _ _ _ _ _ _ _ _ _ _ _ _ _ _ _ _ _ _ _ _ _ _ _ _ _ _ _ _ _ _ _ _ _ _ _ _ _ _ _ _ _ _ _ _ _ _ _ _ _ _ _ _ _ _ _ _ _ _ _ _ _ _ _ _ _ _ _ _ _ _ _ _ _ _ _ _ _ _ _ _ _ _ _ _ _ _ _ _ _ _ _ _ _ _ _ _ _ _ _ _ _ _ _ _ _ _ _ _ _ _ _ _ _ _ _ _ _ _ _ _ _ _ _ _ _ _ _ v8 v9 w9 hadd
    · intro a w hw
      go_step
      exact hw
end Go.Proofs.Ytahammkjkfdmhaa
/- The document's putting in, below a page. -/
namespace Go.Proofs.Ytahammkjkfdmhaa
open Go.ChangeShapes Go.WideShapes Go.ChangeAt Go.RowKit
set_option linter.unusedVariables false
set_option linter.unusedSimpArgs false
set_option maxHeartbeats 4000000
set_option maxRecDepth 1000000
/-- The way down to a key's leaf. -/
def Way : Nat → List Pg → Nat → Key → Prop
  | 0, ps, i, k => ∃ p, ps[i]? = some p ∧ p.leaf = true
  | h + 1, ps, i, k => ∃ p, ps[i]? = some p ∧ p.leaf = false ∧ ∃ j : Nat, p.kids.getD (cntK k p.keys) 0 = (j : Int) ∧ Way h ps j k
theorem way_of : ∀ (h : Nat) (ps : List Pg) (hi : Key) (rs : List Int) (t : Tb h) (k : Key), repT ps h hi rs t → Way h ps (idT h t) k
  | 0, ps, hi, rs, t, k, hr => ⟨_, hr, rfl⟩
  | h + 1, ps, hi, rs, t, k, hr => by
    obtain ⟨r1, r2⟩ := hr
    obtain ⟨hi3, rs2, e2⟩ := repK_pick k _ _ _ _ r2
    exact ⟨_, r1, rfl, idT h (pickK k t.2.1 t.2.2), pickK_at k (fun c => (idT h c : Int)) t.2.2 t.2.1, way_of h ps hi3 rs2 _ k e2⟩
theorem putP_ge (ps : List Pg) (i : Nat) (p : Pg) (ks : List Key) (kids : List Int) : ps.length ≤ (putP ps i p ks kids).1.length := by
  unfold putP
  split <;> simp
theorem addP_ge : ∀ (h : Nat) (ps : List Pg) (i : Nat) (k : Key) (v : Int), ps.length ≤ (addP h ps i k v).1.length
  | 0, ps, i, k, v => by unfold addP; exact putP_ge _ _ _ _ _
  | h + 1, ps, i, k, v => by
    unfold addP
    have ih := addP_ge h ps ((ps.getD i noPg).kids.getD (cntK k (ps.getD i noPg).keys) 0).toNat k v
    rcases hY : addP h ps ((ps.getD i noPg).kids.getD (cntK k (ps.getD i noPg).keys) 0).toNat k v with ⟨ps1, _ | ⟨up, rt⟩⟩
    · rw [hY] at ih; exact ih
    · rw [hY] at ih
      exact Nat.le_trans ih (putP_ge _ _ _ _ _)
theorem putP_up {ps : List Pg} {i : Nat} {p : Pg} {ks : List Key} {kids : List Int} {up : Key} {rt : Nat} (h : (putP ps i p ks kids).2 = some (up, rt)) (hk : ∀ s ∈ ks, okK s) : okK up := by
  unfold putP at h
  split at h
  · cases h
  · rename_i h4
    cases h
    have : 2 < ks.length := by omega
    rw [List.getD_eq_getElem?_getD, List.getElem?_eq_getElem this]
    exact hk _ (List.getElem_mem this)
theorem ins_ok {ks : List Key} {n : Nat} {k : Key} (hk : ∀ s ∈ ks, okK s) (ho : okK k) : ∀ s ∈ insAt ks n k, okK s := fun s hs => by
  unfold insAt at hs
  rw [List.mem_append, List.mem_cons] at hs
  rcases hs with h | rfl | h
  · exact hk s (List.mem_of_mem_take h)
  · exact ho
  · exact hk s (List.mem_of_mem_drop h)
theorem up_ok : ∀ (h : Nat) (ps : List Pg) (i : Nat) (k : Key) (v : Int), (∀ p ∈ ps, ∀ s ∈ p.keys, okK s) → okK k → ∀ up rt, (addP h ps i k v).2 = some (up, rt) → okK up
  | 0, ps, i, k, v, hp, ho, up, rt, e => by
    unfold addP at e
    refine putP_up e (ins_ok (fun s hs => ?_) ho)
    rcases Nat.lt_or_ge i ps.length with g | g
    · rw [List.getD_eq_getElem?_getD, List.getElem?_eq_getElem g] at hs
      exact hp _ (List.getElem_mem g) s hs
    · rw [List.getD_eq_getElem?_getD, List.getElem?_eq_none g] at hs
      simp [noPg] at hs
  | h + 1, ps, i, k, v, hp, ho, up, rt, e => by
    unfold addP at e
    have ih := up_ok h ps ((ps.getD i noPg).kids.getD (cntK k (ps.getD i noPg).keys) 0).toNat k v hp ho
    rcases hY : addP h ps ((ps.getD i noPg).kids.getD (cntK k (ps.getD i noPg).keys) 0).toNat k v with ⟨ps1, _ | ⟨up', rt'⟩⟩
    · rw [hY] at e; cases e
    · rw [hY] at e ih
      refine putP_up e (ins_ok (fun s hs => ?_) (ih up' rt' rfl))
      rcases Nat.lt_or_ge i ps.length with g | g
      · rw [List.getD_eq_getElem?_getD, List.getElem?_eq_getElem g] at hs
        exact hp _ (List.getElem_mem g) s hs
      · rw [List.getD_eq_getElem?_getD, List.getElem?_eq_none g] at hs
        simp [noPg] at hs
theorem shapes {w : World} {ok : Nat → Prop} {kv : Value} {ks : List Key} (h : RK w ok kv ks) : ∃ ak ck, ∃ (xa : Nat → Option Addr) (xn xc : Nat → Nat), kv = .slice ak ks.length ck ∧
    ∀ j, j < ks.length → ∃ b o, ak = some ⟨b, o, none⟩ ∧ ok b ∧ w.cell? ⟨b, o + j, none⟩ = some (.slice (xa j) (xn j) (xc j)) ∧ RB w ok (.slice (xa j) (xn j) (xc j)) (ks.getD j []) := by
  obtain ⟨ak, ck, ff, k0, _, k2, k3⟩ := keysF h
  have hx : ∀ j, ∃ t : Option Addr × Nat × Nat, j < ks.length → ff j = .slice t.1 t.2.1 t.2.2 := fun j => by
    by_cases hj : j < ks.length
    · obtain ⟨b, o, e, _, g1, g2, g3⟩ := k3 j hj
      obtain ⟨a, c, e2⟩ := g3.sh
      exact ⟨(a, _, c), fun _ => e2⟩
    · exact ⟨(none, 0, 0), fun h => absurd h hj⟩
  obtain ⟨t, ht⟩ := Classical.axiomOfChoice hx
  refine ⟨ak, ck, fun j => (t j).1, fun j => (t j).2.1, fun j => (t j).2.2, k0, fun j hj => ?_⟩
  obtain ⟨b, o, e, _, g1, g2, g3⟩ := k3 j hj
  rw [ht j hj] at g2 g3
  exact ⟨b, o, e, g1, g2, g3⟩
/-- What the call answers. -/
def AddR (w : World) (BO O PB : Nat) (root : Int) (Y : List Pg × Option (Key × Nat)) (e : Ending) (w' : World) : Prop := ∃ v8 v9, e = .returned (.tuple #[v8, .int .i64 v9]) ∧ AddIs w BO O PB root Y v8 v9 w'
theorem added_any : ∀ (h : Nat) (w : World) (BO O PB : Nat) (root : Int) (ps : List Pg) (i : Nat) (k : Key) (row : Int) (kv : Value), DT w BO O PB ps root → Way h ps i k → (∀ p ∈ ps, OkPg p 4000) → okK k → RB w (fun b => b < BO) kv k → ps.length + h ≤ 4080 →
    Calls Try.prog 21 #[.pointer (some ⟨O, 0, none⟩), .int .i64 (i : Int), kv, .int .i64 row] w (AddR w BO O PB root (addP h ps i k row)) := by
  intro h
  induction h with
  | zero => 
    intro w BO O PB root ps i k row kv hdt hway hok hk hkv hN
    obtain ⟨p, hp, hl⟩ := hway
    have hil : i < ps.length := (List.getElem?_eq_some_iff.1 hp).1
    have hpok := hok p (List.mem_of_getElem? hp)
    have hpg : ps.getD i noPg = p := by rw [List.getD_eq_getElem?_getD, hp]; rfl
    obtain ⟨cap, vs, hO, hrow, hrps⟩ := hdt.row
    obtain ⟨vk, vd, vh, ecs, rk, ri, rb⟩ := hrps.2 i p hp
    have hvl := hrow.1
    have hcell : ∀ j, j < 5 → w.cell? ⟨PB, i * 5 + j, none⟩ = ([.bool p.leaf, vk, vd, vh, .int .i64 p.next] : List Value)[j]? := fun j hj => by
      rw [hrow.cellAt _ (by omega), ← ecs, List.getElem?_take, if_pos hj, List.getElem?_drop]
    obtain ⟨ak, ck, xa, xn, xc, rfl, hkeys⟩ := shapes rk
    obtain ⟨ad, cd, rfl, _, _, hkids⟩ := intsF ri
    obtain ⟨ah, chh, rfl⟩ := rb.sh
    have a0 : w.cell? ⟨PB, i * 5, none⟩ = some (.bool p.leaf) := hcell 0 (by omega)
    have a1 : w.cell? ⟨PB, i * 5 + 1, none⟩ = some (.slice ak p.keys.length ck) := hcell 1 (by omega)
    have a2 : w.cell? ⟨PB, i * 5 + 2, none⟩ = some (.slice ad p.kids.length cd) := hcell 2 (by omega)
    have a3 : w.cell? ⟨PB, i * 5 + 3, none⟩ = some (.slice ah p.high.length chh) := hcell 3 (by omega)
    have a4 : w.cell? ⟨PB, i * 5 + 4, none⟩ = some (.int .i64 p.next) := hcell 4 (by omega)
    obtain ⟨K, hK⟩ : ∃ K, K = p.keys.length := ⟨_, rfl⟩
    obtain ⟨D, hD⟩ : ∃ D, D = p.kids.length := ⟨_, rfl⟩
    obtain ⟨nh, hnh⟩ : ∃ n, n = p.high.length := ⟨_, rfl⟩
    obtain ⟨pn, hpn⟩ : ∃ n, n = p.next := ⟨_, rfl⟩
    have hd5 : D = K := by have h9 := hpok.kids; rw [hl] at h9; simp at h9; omega
    have hDK : K ≤ D := by omega
    rw [← hK] at a1 hkeys
    rw [← hD] at a2 hkids
    rw [← hnh] at a3 rb
    rw [← hpn] at a4
    rw [hl] at a0
    have hk4 : K ≤ 4 := by rw [hK]; exact hpok.keys
    obtain ⟨w0, hw0⟩ : ∃ w0 : World, w0 = w.alloc (.cells #[.bool true, .slice ak K ck, .slice ad D cd, .slice ah nh chh, .int .i64 pn] 43) := ⟨_, rfl⟩
    obtain ⟨P, hP⟩ : ∃ P, P = w.heap.size := ⟨_, rfl⟩
    have hb0 : Below w.heap.size w w0 := by rw [hw0]; exact (Below.refl _ _).alloc (Nat.le_refl _) _
    have hz0 : w0.heap.size = w.heap.size + 1 := by rw [hw0]; simp
    have hPx : w0.heap[P]? = some (.cells #[.bool true, .slice ak K ck, .slice ad D cd, .slice ah nh chh, .int .i64 pn] 43 (0, 0)) := by rw [hw0, hP]; exact new0 _ _
    have hOl : O < w.heap.size := (Array.getElem?_eq_some_iff.1 hO).1
    have hPBl : PB < w.heap.size := (hrow.lt PB rfl).2
    have hBOP := hdt.pb
    have hBOO := hdt.ob
    have hg0 : ∀ b, Gx w BO O PB b → Gx w0 BO O PB b := fun b g => ⟨g.1, by have := g.2.1; omega, g.2.2⟩
    have hpb0 : PBox w0 BO O PB P p K ck D cd nh chh ak ad ah xa xn xc := by
      refine ⟨by rw [hl, ← hpn]; exact hPx, hK, hD, hk4, by rw [hl]; simpa using hd5, fun j hj => ?_, fun j hj => ?_, RB.mono (rb.below hb0) hg0, fun s hs => (hpok.okk s hs).1, by omega, by omega, by omega⟩
      · obtain ⟨b, o, e, g, h1, h2⟩ := hkeys j hj
        exact ⟨b, o, e, hg0 b g, cell_of_below hb0 h1, RB.mono (h2.below hb0) hg0⟩
      · obtain ⟨b, o, e, _, g, h1⟩ := hkids j hj
        exact ⟨b, o, e, hg0 b g, cell_of_below hb0 h1⟩
    have hi0 : (0 : Int) ≤ (i : Int) := by omega
    have hi1 : (i : Int) < (ps.length : Int) := by omega
    have hkl := hk.2
    obtain ⟨x0, x1, -, -⟩ := box2I hO
    obtain ⟨q0, q1, q2, q3, q4, -⟩ := box5 hPx
    have HB0 := Lib.hid hb0
    have HW0 := Lib.hid (And.intro hw0 hP)
    have HPB := Lib.hid hpb0
    have HDT := Lib.hid hdt
    have HKV := Lib.hid hkv
    have HK := Lib.hid hK
    have HPG := Lib.hid hpg
    have HOKP := Lib.hid hok
    have HLF := Lib.hid hl
    have hPz : w.heap.size ≤ P ∧ P < w0.heap.size := by omega
    obtain ⟨np, hnp⟩ : ∃ n, n = ps.length := ⟨_, rfl⟩
    rw [← hnp] at x0 hi1
    have HNP := Lib.hid hnp
    clear hb0 hw0 hP hpb0 hdt hkv hK hD hnh hpn hd5 hpg hok hp hpok hO hrow hrps ecs rk ri rb hvl hcell hkeys hkids hg0 hPx hnp hl
    go_enter Try.func21, Try.ntmps21
    go_wp2_with fail
    rw [← HW0.out.1, ← HW0.out.2]
    change Code.wp _ (Code.loop (loopAt Try.f21 0)) _ _ _
    refine ad0 _ kv w0 P K ck ak k p.keys (fun j => .slice (xa j) (xn j) (xc j)) (Gx w0 BO O PB) HK hk4 q1 (Lib.hid fun j hj => by
      obtain ⟨b, o, e, g, h1, h2⟩ := HPB.out.keys j hj
      exact ⟨b, o, e, h1, h2⟩) (Lib.hid (HKV.out.below HB0.out).1) ?_
    refine Lib.hid ?_
    intro z0 z1 z2 z3 z4 z5 z6 z7 z8 z9 z10 z11 z12 z13 z14 z15 z16 w1 c hc hb1
    have hz1 := hb1.size
    have HB1 := Lib.hid (into HB0.out hb1)
    have hcK : c ≤ K := by rw [hc, HK.out]; exact cnt_le _ _
    have HC := Lib.hid hc
    have s0 := cell_of_below hb1 q0
    have s2 := cell_of_below hb1 q2
    have HPB1 := Lib.hid (HPB.out.to (w' := w1) (PB' := PB) hz1 (.inl rfl) fun b h1 _ _ => hb1.block b h1)
    have HKV1 := Lib.hid (HKV.out.below HB1.out)
    obtain ⟨kn, hkn⟩ : ∃ n, n = k.length := ⟨_, rfl⟩
    obtain ⟨ka, kc, rfl⟩ := HKV.out.sh
    clear hb1 hc q0 q1 q2 q3 q4 a0 a1 a2 a3 a4 x0 x1
    go_wp2_with fail
    refine (bcopy_any w1 _ _ k HKV1.out (by omega)).mono ?_
    rintro e w2 ⟨v2, rfl, hr2, hb2⟩
    obtain ⟨pa, pc, rfl⟩ := hr2.sh
    have hz2 := hb2.size
    have HB2 := Lib.hid (into HB1.out hb2)
    have HPB2 := Lib.hid (HPB1.out.to (w' := w2) (PB' := PB) hz2 (.inl rfl) fun b h1 _ _ => hb2.block b h1)
    have HDT2 := Lib.hid (HDT.out.to HB2.out.size fun b h1 _ => HB2.out.block b h1)
    have t0 := cell_of_below hb2 s0
    have t2 := cell_of_below hb2 s2
    have HR2 := Lib.hid hr2
    have HKV2 := Lib.hid (HKV1.out.below hb2)
    clear hb2 hr2 s0 s2
    go_upto_region 13 with (fail)
    change Code.wp _ ((regionOf 13 (Try.f21.body.getD .skip)).getD .skip) _ _ _
    refine at13 _ _ w w2 O PB PB P BO i c root row ps p k K ck D cd nh chh k.length pc pa ak ad ah xa xn xc HDT2 hil (by omega) HPB2 hcK (Lib.hid hk) (Lib.hid (RB.mono HR2.out fun b g => ⟨by have := g.1; omega, g.2, by have := g.1; omega, by have := g.1; omega⟩)) (by omega) (.inl rfl) (Lib.hid fun b h1 _ _ => HB2.out.block b h1) ⟨HB2.out.os, HB2.out.tape, HB2.out.output⟩ ?_ ?_
    · refine Lib.hid ?_
      iterate 172 intro _
      intro v8 v9 w9 hadd
      have HA := Lib.hid hadd
      clear hadd
      go_ret2
      refine ⟨v8, v9, rfl, ?_⟩
      have h9 := HA.out
      rw [HLF.out, if_pos rfl, HC.out, ← HPG.out] at h9
      exact h9
    · intro a w hw
      go_step
      exact hw

  | succ h ih => 
    intro w BO O PB root ps i k row kv hdt hway hok hk hkv hN
    obtain ⟨p, hp, hl, j, hj, hway2⟩ := hway
    have hil : i < ps.length := (List.getElem?_eq_some_iff.1 hp).1
    have hpok := hok p (List.mem_of_getElem? hp)
    have hpg : ps.getD i noPg = p := by rw [List.getD_eq_getElem?_getD, hp]; rfl
    obtain ⟨cap, vs, hO, hrow, hrps⟩ := hdt.row
    obtain ⟨vk, vd, vh, ecs, rk, ri, rb⟩ := hrps.2 i p hp
    have hvl := hrow.1
    have hcell : ∀ j, j < 5 → w.cell? ⟨PB, i * 5 + j, none⟩ = ([.bool p.leaf, vk, vd, vh, .int .i64 p.next] : List Value)[j]? := fun j hj => by
      rw [hrow.cellAt _ (by omega), ← ecs, List.getElem?_take, if_pos hj, List.getElem?_drop]
    obtain ⟨ak, ck, xa, xn, xc, rfl, hkeys⟩ := shapes rk
    obtain ⟨ad, cd, rfl, _, _, hkids⟩ := intsF ri
    obtain ⟨ah, chh, rfl⟩ := rb.sh
    have a0 : w.cell? ⟨PB, i * 5, none⟩ = some (.bool p.leaf) := hcell 0 (by omega)
    have a1 : w.cell? ⟨PB, i * 5 + 1, none⟩ = some (.slice ak p.keys.length ck) := hcell 1 (by omega)
    have a2 : w.cell? ⟨PB, i * 5 + 2, none⟩ = some (.slice ad p.kids.length cd) := hcell 2 (by omega)
    have a3 : w.cell? ⟨PB, i * 5 + 3, none⟩ = some (.slice ah p.high.length chh) := hcell 3 (by omega)
    have a4 : w.cell? ⟨PB, i * 5 + 4, none⟩ = some (.int .i64 p.next) := hcell 4 (by omega)
    obtain ⟨K, hK⟩ : ∃ K, K = p.keys.length := ⟨_, rfl⟩
    obtain ⟨D, hD⟩ : ∃ D, D = p.kids.length := ⟨_, rfl⟩
    obtain ⟨nh, hnh⟩ : ∃ n, n = p.high.length := ⟨_, rfl⟩
    obtain ⟨pn, hpn⟩ : ∃ n, n = p.next := ⟨_, rfl⟩
    have hd5 : D = K + 1 := by have h9 := hpok.kids; rw [hl] at h9; simp at h9; omega
    have hDK : K + 1 ≤ D := by omega
    rw [← hK] at a1 hkeys
    rw [← hD] at a2 hkids
    rw [← hnh] at a3 rb
    rw [← hpn] at a4
    rw [hl] at a0
    have hk4 : K ≤ 4 := by rw [hK]; exact hpok.keys
    obtain ⟨w0, hw0⟩ : ∃ w0 : World, w0 = w.alloc (.cells #[.bool false, .slice ak K ck, .slice ad D cd, .slice ah nh chh, .int .i64 pn] 43) := ⟨_, rfl⟩
    obtain ⟨P, hP⟩ : ∃ P, P = w.heap.size := ⟨_, rfl⟩
    have hb0 : Below w.heap.size w w0 := by rw [hw0]; exact (Below.refl _ _).alloc (Nat.le_refl _) _
    have hz0 : w0.heap.size = w.heap.size + 1 := by rw [hw0]; simp
    have hPx : w0.heap[P]? = some (.cells #[.bool false, .slice ak K ck, .slice ad D cd, .slice ah nh chh, .int .i64 pn] 43 (0, 0)) := by rw [hw0, hP]; exact new0 _ _
    have hOl : O < w.heap.size := (Array.getElem?_eq_some_iff.1 hO).1
    have hPBl : PB < w.heap.size := (hrow.lt PB rfl).2
    have hBOP := hdt.pb
    have hBOO := hdt.ob
    have hg0 : ∀ b, Gx w BO O PB b → Gx w0 BO O PB b := fun b g => ⟨g.1, by have := g.2.1; omega, g.2.2⟩
    have hpb0 : PBox w0 BO O PB P p K ck D cd nh chh ak ad ah xa xn xc := by
      refine ⟨by rw [hl, ← hpn]; exact hPx, hK, hD, hk4, by rw [hl]; simpa using hd5, fun j hj => ?_, fun j hj => ?_, RB.mono (rb.below hb0) hg0, fun s hs => (hpok.okk s hs).1, by omega, by omega, by omega⟩
      · obtain ⟨b, o, e, g, h1, h2⟩ := hkeys j hj
        exact ⟨b, o, e, hg0 b g, cell_of_below hb0 h1, RB.mono (h2.below hb0) hg0⟩
      · obtain ⟨b, o, e, _, g, h1⟩ := hkids j hj
        exact ⟨b, o, e, hg0 b g, cell_of_below hb0 h1⟩
    have hi0 : (0 : Int) ≤ (i : Int) := by omega
    have hi1 : (i : Int) < (ps.length : Int) := by omega
    have hkl := hk.2
    obtain ⟨x0, x1, -, -⟩ := box2I hO
    obtain ⟨q0, q1, q2, q3, q4, -⟩ := box5 hPx
    have HB0 := Lib.hid hb0
    have HW0 := Lib.hid (And.intro hw0 hP)
    have HPB := Lib.hid hpb0
    have HDT := Lib.hid hdt
    have HKV := Lib.hid hkv
    have HK := Lib.hid hK
    have HPG := Lib.hid hpg
    have HOKP := Lib.hid hok
    have HLF := Lib.hid hl
    have hPz : w.heap.size ≤ P ∧ P < w0.heap.size := by omega
    obtain ⟨np, hnp⟩ : ∃ n, n = ps.length := ⟨_, rfl⟩
    rw [← hnp] at x0 hi1
    have HNP := Lib.hid hnp
    clear hb0 hw0 hP hpb0 hdt hkv hK hD hnh hpn hd5 hpg hok hp hpok hO hrow hrps ecs rk ri rb hvl hcell hkeys hkids hg0 hPx hnp hl
    go_enter Try.func21, Try.ntmps21
    go_wp2_with fail
    rw [← HW0.out.1, ← HW0.out.2]
    change Code.wp _ (Code.loop (loopAt Try.f21 0)) _ _ _
    refine ad0 _ kv w0 P K ck ak k p.keys (fun j => .slice (xa j) (xn j) (xc j)) (Gx w0 BO O PB) HK hk4 q1 (Lib.hid fun j hj => by
      obtain ⟨b, o, e, g, h1, h2⟩ := HPB.out.keys j hj
      exact ⟨b, o, e, h1, h2⟩) (Lib.hid (HKV.out.below HB0.out).1) ?_
    refine Lib.hid ?_
    intro z0 z1 z2 z3 z4 z5 z6 z7 z8 z9 z10 z11 z12 z13 z14 z15 z16 w1 c hc hb1
    have hz1 := hb1.size
    have HB1 := Lib.hid (into HB0.out hb1)
    have hcK : c ≤ K := by rw [hc, HK.out]; exact cnt_le _ _
    have HC := Lib.hid hc
    have s0 := cell_of_below hb1 q0
    have s2 := cell_of_below hb1 q2
    have HPB1 := Lib.hid (HPB.out.to (w' := w1) (PB' := PB) hz1 (.inl rfl) fun b h1 _ _ => hb1.block b h1)
    have HKV1 := Lib.hid (HKV.out.below HB1.out)
    obtain ⟨kn, hkn⟩ : ∃ n, n = k.length := ⟨_, rfl⟩
    obtain ⟨ka, kc, rfl⟩ := HKV.out.sh
    clear hb1 hc q0 q1 q2 q3 q4 a0 a1 a2 a3 a4 x0 x1
    go_wp2_with fail
    refine (bcopy_any w1 _ _ k HKV1.out (by omega)).mono ?_
    rintro e w2 ⟨v2, rfl, hr2, hb2⟩
    obtain ⟨pa, pc, rfl⟩ := hr2.sh
    have hz2 := hb2.size
    have HB2 := Lib.hid (into HB1.out hb2)
    have HPB2 := Lib.hid (HPB1.out.to (w' := w2) (PB' := PB) hz2 (.inl rfl) fun b h1 _ _ => hb2.block b h1)
    have HDT2 := Lib.hid (HDT.out.to HB2.out.size fun b h1 _ => HB2.out.block b h1)
    have t0 := cell_of_below hb2 s0
    have t2 := cell_of_below hb2 s2
    have HR2 := Lib.hid hr2
    have HKV2 := Lib.hid (HKV1.out.below hb2)
    clear hb2 hr2 s0 s2
    have hcD : c < D := by omega
    obtain ⟨b, o, rfl, hgb, hcell⟩ := HPB2.out.kids c hcD
    have hjj : p.kids.getD c 0 = (j : Int) := by rw [HC.out]; exact hj
    rw [hjj] at hcell
    have i0 : (0 : Int) ≤ (c : Int) := by omega
    have i1 : (c : Int) < (D : Int) := by omega
    have qE := fun (w : World) (a : Option Addr) (n c : Nat) => Lib.run_eql_slice_nil (P := Try.prog) w 25 5 a n c 0 0 Try.underlying25
    clear hjj hgb
    go_wp2_with fail
    refine (ih w2 BO O PB root ps j k row (.slice ka k.length kc) HDT2.out hway2 HOKP.out hk HKV2.out (by omega)).mono ?_
    rintro e w3 ⟨v8, v9, rfl, hadd⟩
    have HA := Lib.hid hadd
    clear hadd
    rcases hY : addP h ps j k row with ⟨ps1, _ | ⟨up, rt⟩⟩
    · have h2 : addP (h + 1) ps i k row = (ps1, none) := by
        unfold addP
        rw [HPG.out, hj, Int.toNat_natCast, hY]
        rfl
      have h3 := HA.out
      rw [hY] at h3
      obtain ⟨PB', f1, f2, f3, f4, f5, f6, f7, f8, -⟩ := h3
      obtain ⟨rfl, rfl⟩ := f8 rfl
      have HA2 : Hid (AddIs w2 BO O PB root (ps1, none) (.slice none 0 0) 0 w3) := Lib.hid (by have h3 := HA.out; rw [hY] at h3; exact h3)
      have H2 := Lib.hid h2
      clear f1 f2 f3 f4 f5 f6 f7 f8 h2 hY HA
      go_wp2_with fail
      go_ret2
      refine ⟨_, _, rfl, ?_⟩
      rw [H2.out]
      exact HA2.out.base (by omega) (.inl rfl) (fun b h1 _ _ => HB2.out.block b h1) ⟨HB2.out.os, HB2.out.tape, HB2.out.output⟩
    · have h2 : addP (h + 1) ps i k row = putP ps1 i p (insAt p.keys (cntK k p.keys) up) (insAt p.kids (cntK k p.keys + 1) (rt : Int)) := by
        unfold addP
        rw [HPG.out, hj, Int.toNat_natCast, hY]
        rfl
      have hup : okK up := up_ok h ps j k row (fun p hp s hs => ((HOKP.out p hp).okk s hs).1) hk up rt (by rw [hY])
      have hge := addP_ge h ps j k row
      have hle := addP_len h ps j k row
      rw [hY] at hge hle
      have h3 := HA.out
      rw [hY] at h3
      obtain ⟨PB', f1, f2, f3, f4, f5, f6, f7, -, f9⟩ := h3
      obtain ⟨⟨ub, uo, ut⟩, uc, rfl, rfl, hup2⟩ := f9 up rt rfl
      simp only at hge hle f1
      have HDT3 := Lib.hid f1
      have hp3 : PB' = PB ∨ w.heap.size ≤ PB' := by rcases f2 with g | g; · exact .inl g
                                                    · exact .inr (by omega)
      have HPB3 := Lib.hid (HPB2.out.to (w' := w3) (PB' := PB') f3 f2 fun b h1 h2 h3 => f7 b h1 h2 h3)
      have HBF := Lib.hid (show ∀ b, b < w.heap.size → b ≠ O → b ≠ PB → w3.heap[b]? = w.heap[b]? from fun b h1 h2 h3 => (f7 b (by omega) h2 h3).trans (HB2.out.block b h1))
      have HOS := Lib.hid (And.intro (f4.trans HB2.out.os) (And.intro (f5.trans HB2.out.tape) (f6.trans HB2.out.output)))
      have HUP := Lib.hid hup2
      have H2 := Lib.hid h2
      clear f1 f2 f4 f5 f6 f7 f9 h2 hY HA hup2
      go_upto_region 13 with (fail)
      change Code.wp _ ((regionOf 13 (Try.f21.body.getD .skip)).getD .skip) _ _ _
      refine at13 _ _ w w3 O PB' PB P BO i c root (rt : Int) ps1 p up K ck D cd nh chh up.length uc (some ⟨ub, uo, ut⟩) ak (some ⟨b, o, none⟩) ah xa xn xc HDT3 (by omega) (by omega) HPB3 hcK (Lib.hid hup) HUP (by omega) hp3 HBF HOS.out ?_ ?_
      · refine Lib.hid ?_
        iterate 172 intro _
        intro v8 v9 w9 hadd
        have HA := Lib.hid hadd
        clear hadd
        go_ret2
        refine ⟨v8, v9, rfl, ?_⟩
        have h9 := HA.out
        rw [HLF.out, if_neg (by decide), HC.out] at h9
        rw [H2.out]
        exact h9
      · intro a w hw
        go_step
        exact hw

end Go.Proofs.Ytahammkjkfdmhaa
