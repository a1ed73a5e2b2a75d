/- The document's putting in: from a page made on. -/
import Derived.Test.YtahammkjkfdmhaaYn
import Derived.Deep.DeepCutAuto
namespace Go.Proofs.Ytahammkjkfdmhaa
open Go.ChangeShapes Go.WideShapes Go.ChangeAt Go.RowKit
set_option linter.unusedVariables false
set_option linter.unusedSimpArgs false
set_option maxHeartbeats 4000000
set_option maxRecDepth 1000000
variable {c2 c3 c4 c5 c6 c7 c8 c9 c10 c11 c12 c13 c14 c15 c17 c18 c19 c20 c21 c22 c23 c24 c25 c26 c27 c28 c29 c30 c31 c32 c33 c34 c35 c36 c37 c38 c39 c40 c41 c42 c43 c44 c45 c46 c47 c48 c49 c50 c51 c52 c53 c54 c55 c56 c57 c58 c59 c60 c61 c62 c63 c64 c65 c66 c67 c68 c69 c70 c71 c72 c73 c74 c75 c76 c77 c78 c79 c80 c81 c82 c83 c84 c85 c86 c87 c88 c89 c90 c91 c92 c93 c94 c95 c96 c97 c98 c99 c100 c101 c102 c103 c104 c105 c106 c107 c108 c109 c110 c111 c112 c113 c114 c115 c116 c117 c118 c119 c120 c121 c122 c123 c124 c125 c126 c127 c128 c129 c130 c131 c132 c133 c134 c135 c136 c137 c138 c139 c140 c141 c142 c143 c144 c145 c146 c147 c148 c149 c150 c151 c152 c153 c154 c155 c156 c157 c158 c159 c160 c161 c162 c163 c164 c165 c166 c167 c168 c169 c170 c171 c172 c173 c174 c175 c176 c177 c178 c179 c180 c181 c182 c183 c184 c185 c186 c187 c188 c189 c190 c191 c192 c193 c194 c195 c196 c197 c198 c199 c200 c201 c202 c203 c204 c205 c206 c207 c208 c209 c210 c211 c212 c213 c214 c215 c216 c217 c218 c219 c220 c221 c222 c223 c224 c225 c226 c227 c228 c229 c230 c231 c232 c233 : Value}
def startsR (n : Nat) : Code → Bool
  | .region i _ _ => i == n
  | .seq a _ => startsR n a
  | _ => false
/-- From a region on, as far as its row of codes goes. -/
def tailOf (n : Nat) : Code → Option Code
  | .seq a b => if startsR n a then some (.seq a b) else (tailOf n a).or (tailOf n b)
  | .block _ c => tailOf n c
  | .loop c => tailOf n c
  | .scope c => tailOf n c
  | .cond _ a b => (tailOf n a).or (tailOf n b)
  | _ => none
/-- A page made, in its box. -/
structure QB (w : World) (BO O PB C : Nat) (lf : Bool) (gk nk ck gd nd cd nh chh : Nat) (ah : Option Addr) (nx : Int) (ks : List Key) (ds : List Int) (hg : Key) : Prop where
  box : w.heap[C]? = some (.cells #[.bool lf, .slice (some ⟨gk, 0, none⟩) nk ck, .slice (some ⟨gd, 0, none⟩) nd cd, .slice ah nh chh, .int .i64 nx] 43 (0, 0))
  keys : RK w (Gx w BO O PB) (.slice (some ⟨gk, 0, none⟩) nk ck) ks
  kids : RI w (Gx w BO O PB) (.slice (some ⟨gd, 0, none⟩) nd cd) ds
  high : RB w (Gx w BO O PB) (.slice ah nh chh) hg
  nkl : nk = ks.length
  ndl : nd = ds.length
  kc : nk ≤ ck ∧ ck ≤ maxLen
  dc : nd ≤ cd ∧ cd ≤ maxLen
  at_ : BO ≤ C ∧ C ≠ PB ∧ C ≠ O
theorem at32f (Q : Exit → Act → World → Prop)  (w0 : World) (O PB C BO i : Nat) (root : Int) (ps : List Pg) (p : Pg) (ks' : List Key) (kids' : List Int) (gk nk ck gd nd cd nh chh : Nat) (ah : Option Addr) (hdt : Hid (DT w0 BO O PB ps root)) (hi : i < ps.length) (hq : Hid (QB w0 BO O PB C p.leaf gk nk ck gd nd cd nh chh ah p.next ks' kids' p.high)) (hk4 : nk ≤ 4)
    (hret : Hid (∀ (u150 u151 u152 u153 u154 u155 u156 u157 u158 u159 u160 : Value) (w' : World), AddIs w0 BO O PB root (putP ps i p ks' kids') (.slice none 0 0) 0 w' → Q .ret ⟨List.toArray ((.pointer (some ⟨O, 0, none⟩))::(.int .i64 (i : Int))::c2::c3::c4::c5::c6::c7::(.slice none 0 0)::(.int .i64 0)::c10::c11::c12::c13::c14::c15::(.pointer (some ⟨C, 0, none⟩))::c17::c18::c19::c20::c21::c22::c23::c24::c25::c26::c27::c28::c29::c30::c31::c32::c33::c34::c35::c36::c37::c38::c39::c40::c41::c42::c43::c44::c45::c46::c47::c48::c49::c50::c51::c52::c53::c54::c55::c56::c57::c58::c59::c60::c61::c62::c63::c64::c65::c66::c67::c68::c69::c70::c71::c72::c73::c74::c75::c76::c77::c78::c79::c80::c81::c82::c83::c84::c85::c86::c87::c88::c89::c90::c91::c92::c93::c94::c95::c96::c97::c98::c99::c100::c101::c102::c103::c104::c105::c106::c107::c108::c109::c110::c111::c112::c113::c114::c115::c116::c117::c118::c119::c120::c121::c122::c123::c124::c125::c126::c127::c128::c129::c130::c131::c132::c133::c134::c135::c136::c137::c138::c139::c140::c141::c142::c143::c144::c145::c146::c147::c148::c149::u150::u151::u152::u153::u154::u155::u156::u157::u158::u159::u160::c161::c162::c163::c164::c165::c166::c167::c168::c169::c170::c171::c172::c173::c174::c175::c176::c177::c178::c179::c180::c181::c182::c183::c184::c185::c186::c187::c188::c189::c190::c191::c192::c193::c194::c195::c196::c197::c198::c199::c200::c201::c202::c203::c204::c205::c206::c207::c208::c209::c210::c211::c212::c213::c214::c215::c216::c217::c218::c219::c220::c221::c222::c223::c224::c225::c226::c227::c228::c229::c230::c231::c232::c233::[]), []⟩ w')) :
    Code.wp Try.prog ((tailOf 32 (Try.f21.body.getD .skip)).getD .skip) Q ⟨List.toArray ((.pointer (some ⟨O, 0, none⟩))::(.int .i64 (i : Int))::c2::c3::c4::c5::c6::c7::c8::c9::c10::c11::c12::c13::c14::c15::(.pointer (some ⟨C, 0, none⟩))::c17::c18::c19::c20::c21::c22::c23::c24::c25::c26::c27::c28::c29::c30::c31::c32::c33::c34::c35::c36::c37::c38::c39::c40::c41::c42::c43::c44::c45::c46::c47::c48::c49::c50::c51::c52::c53::c54::c55::c56::c57::c58::c59::c60::c61::c62::c63::c64::c65::c66::c67::c68::c69::c70::c71::c72::c73::c74::c75::c76::c77::c78::c79::c80::c81::c82::c83::c84::c85::c86::c87::c88::c89::c90::c91::c92::c93::c94::c95::c96::c97::c98::c99::c100::c101::c102::c103::c104::c105::c106::c107::c108::c109::c110::c111::c112::c113::c114::c115::c116::c117::c118::c119::c120::c121::c122::c123::c124::c125::c126::c127::c128::c129::c130::c131::c132::c133::c134::c135::c136::c137::c138::c139::c140::c141::c142::c143::c144::c145::c146::c147::c148::c149::c150::c151::c152::c153::c154::c155::c156::c157::c158::c159::c160::c161::c162::c163::c164::c165::c166::c167::c168::c169::c170::c171::c172::c173::c174::c175::c176::c177::c178::c179::c180::c181::c182::c183::c184::c185::c186::c187::c188::c189::c190::c191::c192::c193::c194::c195::c196::c197::c198::c199::c200::c201::c202::c203::c204::c205::c206::c207::c208::c209::c210::c211::c212::c213::c214::c215::c216::c217::c218::c219::c220::c221::c222::c223::c224::c225::c226::c227::c228::c229::c230::c231::c232::c233::[]), []⟩ w0 := by
  conv => arg 2; whnf
  obtain ⟨y0, y1, y2, y3, y4, -⟩ := box5 hq.out.box
  have hk4' : (nk : Int) ≤ 4 := by omega
  obtain ⟨cap, vs, ho, hrow, -⟩ := hdt.out.row
  obtain ⟨ow, ow1, -, -⟩ := box2I ho
  have HO := Lib.hid ho
  have HROW := Lib.hid hrow
  clear ho hrow
  go_wp2_with fail
  change Code.wp _ ((regionOf 33 (Try.f21.body.getD .skip)).getD .skip) _ _ _
  refine ar33 _ w0 O PB C ps.length cap i ow hi p.leaf (some ⟨gk, 0, none⟩) (some ⟨gd, 0, none⟩) ah nk ck nd cd nh chh p.next hq.out.box HROW.out hdt.out.ne (fun e => hq.out.at_.2.1 e.symm) ?_
  refine Lib.hid ?_
  intro z0 z1 z2 z3 z4 z5 z6 w1 hb1
  have HB1 := Lib.hid hb1
  have hz1 := hb1.size
  clear hb1 y0 y1 y2 y3 y4 ow ow1
  obtain ⟨w2, hw2⟩ : ∃ w2, w2 = setPg w1 PB (i * 5) (.bool p.leaf) (.slice (some ⟨gk, 0, none⟩) nk ck) (.slice (some ⟨gd, 0, none⟩) nd cd) (.slice ah nh chh) (.int .i64 p.next) := ⟨_, rfl⟩
  rw [← hw2]
  have HW2 := Lib.hid hw2
  clear hw2
  go_wp2_with fail
  refine hret.out _ _ _ _ _ _ _ _ _ _ _ w2 ?_
  have hqq := hq.out
  have hd := hdt.out
  have hG : ∀ b, Gx w0 BO O PB b → Gx w1 BO O PB b := fun b g => ⟨g.1, by have := g.2.1; omega, g.2.2⟩
  have hag : Agree (Gx w0 BO O PB) w0 w1 := Agree.below HB1.out _
  have hd1 : DT w1 BO O PB ps root := hd.to hz1 fun b hlt _ => HB1.out.block b hlt
  have hp1 : RP w1 (Gx w1 BO O PB) [.bool (⟨p.leaf, ks', kids', p.high, p.next⟩ : Pg).leaf, .slice (some ⟨gk, 0, none⟩) nk ck, .slice (some ⟨gd, 0, none⟩) nd cd, .slice ah nh chh, .int .i64 (⟨p.leaf, ks', kids', p.high, p.next⟩ : Pg).next] ⟨p.leaf, ks', kids', p.high, p.next⟩ :=
    RP.to ⟨_, _, _, rfl, hqq.keys, hqq.kids, hqq.high⟩ hag hG
  have hd2 := DT.set hd1 hi hp1
  rw [← HW2.out] at hd2
  have hpp : putP ps i p ks' kids' = (ps.set i ⟨p.leaf, ks', kids', p.high, p.next⟩, none) := by
    unfold putP
    rw [if_pos (by rw [← hqq.nkl]; exact hk4)]
  rw [hpp]
  have hz2 : w2.heap.size = w1.heap.size := by rw [HW2.out]; exact setPg_size _ _ _ _ _ _ _ _
  refine ⟨PB, hd2, .inl rfl, by omega, ?_, ?_, ?_, fun b h1 h2 h3 => ?_, fun _ => ⟨rfl, rfl⟩, fun up rt e => (by cases e)⟩
  · rw [HW2.out]; exact HB1.out.os
  · rw [HW2.out]; exact HB1.out.tape
  · rw [HW2.out]; exact HB1.out.output
  · rw [HW2.out, setPg_far _ _ _ _ _ _ _ _ h3]; exact HB1.out.block b h1
theorem split_done {w0 w3 w6 W7 w7 w8 w9 : World} {BO O PB C i BL BR s1 s2 gk ck gd cd nd nh chh gg cap cap5 pb po pc cv a : Nat} {ah av : Option Addr} {root : Int} {ps : List Pg} {p : Pg} {ks' : List Key} {kids' : List Int} {s : Key} {vs : List Value}
    (hd : DT w0 BO O PB ps root) (hi : i < ps.length) (hq : QB w0 BO O PB C p.leaf gk 5 ck gd nd cd nh chh ah p.next ks' kids' p.high) (ha : a = if p.leaf then 2 else 3) (hnd : nd = a + 3) (hks2 : ks'[2]? = some s) (hsl : 1 ≤ s.length)
    (hrps : RPs w0 (Gx w0 BO O PB) vs ps) (hall : ∀ b, b < w0.heap.size → b ≠ PB → w6.heap[b]? = w0.heap[b]?) (hnew : ∀ b, w0.heap.size ≤ b → b < w3.heap.size → b ≠ BL → b ≠ BR → w6.heap[b]? = w3.heap[b]?)
    (z1 : w0.heap.size ≤ s1) (z2 : s1 ≤ BL) (z3 : s1 ≤ s2) (z4 : s2 ≤ BR) (z5 : s2 ≤ w3.heap.size) (z6 : w3.heap.size ≤ w6.heap.size) (zPB : PB < w0.heap.size) (zO : O < w0.heap.size)
    (hv : RB w3 (fun b => w0.heap.size ≤ b ∧ b < s2 ∧ b ≠ BL) (.slice av s.length cv) s) (hp1 : RB w3 (fun b => w0.heap.size ≤ b ∧ b < s1) (.slice (some ⟨pb, po, none⟩) s.length pc) s)
    (hO6 : w6.heap[O]? = some (.cells #[.slice (some ⟨PB, 0, none⟩) ps.length cap, .int .i64 root] 24 (0, 0))) (hos6 : w6.os = w0.os ∧ w6.tape = w0.tape ∧ w6.output = w0.output)
    (hW7 : Below w6.heap.size w6 W7) (hW7z : W7.heap.size = w6.heap.size + 1)
    (hown7 : w7.ownsRow BO 43 5 (.slice (some ⟨gg, 0, none⟩) (ps.length + 1) cap5) (ps.length + 1) (vs5 vs (i * 5) (.bool p.leaf) (.slice (some ⟨gk, 0, none⟩) 2 ck) (.slice (some ⟨gd, 0, none⟩) a cd) (.slice av s.length cv) (.int .i64 (ps.length : Int)) ++ [.bool p.leaf, .slice (some ⟨gk, a, none⟩) (5 - a) (ck - a), .slice (some ⟨gd, a, none⟩) 3 (cd - a), .slice ah nh chh, .int .i64 p.next]))
    (hgr7 : W7.grownBy w7 (some PB)) (hat7 : gg = PB ∨ gg = w6.heap.size + 1) (hw8 : w8 = w7.setCell ⟨O, 0, none⟩ (.slice (some ⟨gg, 0, none⟩) (ps.length + 1) cap5)) (hw9 : Below w8.heap.size w8 w9) :
    AddIs w0 BO O PB root (putP ps i p ks' kids') (.slice (some ⟨pb, po, none⟩) s.length pc) (ps.length : Int) w9 := by
  have hkl := hq.nkl
  have hdl := hq.ndl
  have hkc := hq.kc
  have hdc := hq.dc
  have ha2 : a = 2 ∨ a = 3 := by rw [ha]; split <;> simp
  have hg6 : Agree (Gx w0 BO O PB) w0 w6 := fun b g hlt => hall b hlt g.2.2.1
  have hm6 : ∀ b, Gx w0 BO O PB b → Gx w6 BO O PB b := fun b g => ⟨g.1, by have := g.2.1; omega, g.2.2⟩
  have hgk : Gx w0 BO O PB gk := by obtain ⟨_, _, h, _⟩ := hq.keys; exact h _ _ _ rfl (by omega)
  have hgd : Gx w0 BO O PB gd := hq.kids.2 _ _ _ rfl (by omega)
  have hgS : ks'.getD 2 [] = s := by rw [List.getD_eq_getElem?_getD, hks2]; rfl
  have hB0 : BO ≤ w0.heap.size := by have := hd.pb; omega
  have hpp : putP ps i p ks' kids' = (ps.set i ⟨p.leaf, ks'.take 2, kids'.take a, s, (ps.length : Int)⟩ ++ [⟨p.leaf, ks'.drop a, kids'.drop a, p.high, p.next⟩], some (s, ps.length)) := by
    unfold putP
    rw [if_neg (by omega), hgS, ← ha]
  -- the left page
  have hleft : RP w6 (Gx w6 BO O PB) [.bool (⟨p.leaf, ks'.take 2, kids'.take a, s, (ps.length : Int)⟩ : Pg).leaf, .slice (some ⟨gk, 0, none⟩) 2 ck, .slice (some ⟨gd, 0, none⟩) a cd, .slice av s.length cv, .int .i64 (⟨p.leaf, ks'.take 2, kids'.take a, s, (ps.length : Int)⟩ : Pg).next] ⟨p.leaf, ks'.take 2, kids'.take a, s, (ps.length : Int)⟩ := by
    refine ⟨_, _, _, rfl, ?_, ?_, ?_⟩
    · have h := rk_cut hq.keys 0 2 hkl (by omega) (by omega) hgk
      simp only [List.drop_zero, Nat.sub_zero] at h
      obtain ⟨us', m1, m2, m3⟩ := h.agree hg6
      exact ⟨us', m1, fun a n c e g => hm6 _ (m2 a n c e g), fun j s hs => by obtain ⟨x, x1, x2⟩ := m3 j s hs; exact ⟨x, x1, x2.mono hm6⟩⟩
    · have h := ri_cut hq.kids 0 a hdl (by omega) (by omega) hgd
      simp only [List.drop_zero, Nat.sub_zero] at h
      obtain ⟨m1, m2⟩ := h.agree hg6
      exact ⟨m1, fun a n c e g => hm6 _ (m2 a n c e g)⟩
    · refine RB.mono (hv.agree fun b g hlt => hnew b g.1 (by have := g.2.1; omega) g.2.2 (by have := g.2.1; omega)) fun b g => ?_
      have := g.1
      have := g.2.1
      exact ⟨by omega, by omega, by omega, by omega⟩
  have hright : RP w6 (Gx w6 BO O PB) [.bool (⟨p.leaf, ks'.drop a, kids'.drop a, p.high, p.next⟩ : Pg).leaf, .slice (some ⟨gk, a, none⟩) (5 - a) (ck - a), .slice (some ⟨gd, a, none⟩) 3 (cd - a), .slice ah nh chh, .int .i64 (⟨p.leaf, ks'.drop a, kids'.drop a, p.high, p.next⟩ : Pg).next] ⟨p.leaf, ks'.drop a, kids'.drop a, p.high, p.next⟩ := by
    refine ⟨_, _, _, rfl, ?_, ?_, RB.mono (hq.high.agree hg6) hm6⟩
    · have h := rk_cut hq.keys a (5 - a) hkl (by omega) (by omega) hgk
      rw [List.take_of_length_le (by rw [List.length_drop]; omega)] at h
      obtain ⟨us', m1, m2, m3⟩ := h.agree hg6
      exact ⟨us', m1, fun a n c e g => hm6 _ (m2 a n c e g), fun j s hs => by obtain ⟨x, x1, x2⟩ := m3 j s hs; exact ⟨x, x1, x2.mono hm6⟩⟩
    · have h := ri_cut hq.kids a 3 hdl (by omega) (by omega) hgd
      rw [List.take_of_length_le (by rw [List.length_drop]; omega)] at h
      obtain ⟨m1, m2⟩ := h.agree hg6
      exact ⟨m1, fun a n c e g => hm6 _ (m2 a n c e g)⟩
  have hr6 : RPs w6 (Gx w6 BO O PB) (vs5 vs (i * 5) (.bool p.leaf) (.slice (some ⟨gk, 0, none⟩) 2 ck) (.slice (some ⟨gd, 0, none⟩) a cd) (.slice av s.length cv) (.int .i64 (ps.length : Int))) (ps.set i ⟨p.leaf, ks'.take 2, kids'.take a, s, (ps.length : Int)⟩) :=
    RPs.put5 (p := ⟨p.leaf, ks'.take 2, kids'.take a, s, (ps.length : Int)⟩) (RPs.mono (hrps.agree hg6) hm6) hi hleft
  have hlen : (ps.set i (⟨p.leaf, ks'.take 2, kids'.take a, s, (ps.length : Int)⟩ : Pg)).length = ps.length := List.length_set
  have hdt := DT.push (w := w6) (ps := ps.set i ⟨p.leaf, ks'.take 2, kids'.take a, s, (ps.length : Int)⟩) (p := ⟨p.leaf, ks'.drop a, kids'.drop a, p.high, p.next⟩) (cap5 := cap5) (gg := gg) (X := 0) hW7 hW7z hd.pb hd.ob hd.ne (by omega) (by rw [hlen]; exact hO6) hr6 hright (by rw [hlen]; exact hown7) hgr7 hat7
  rw [hlen, ← hw8] at hdt
  have z7 := hgr7.size
  have z8 : w8.heap.size = w7.heap.size := by rw [hw8]; simp
  have z9 := hw9.size
  have hold : ∀ b, b < w6.heap.size → b ≠ PB → b ≠ O → w9.heap[b]? = w6.heap[b]? := fun b h1 h2 h3 => by
    rw [hw9.block b (by omega), hw8, Below.heap_setCell _ _ _ _ h3, hgr7.block b (by omega) (fun e => h2 (Option.some.inj e)), hW7.block b h1]
  have hos8 : w8.os = w7.os ∧ w8.tape = w7.tape ∧ w8.output = w7.output := by rw [hw8]; exact ⟨rfl, rfl, rfl⟩
  rw [hpp]
  refine ⟨gg, hdt.to (by omega) fun b h1 _ => hw9.block b h1, hat7.imp id (fun h => by omega), by omega, ?_, ?_, ?_, fun b h1 h2 h3 => ?_, fun e => (by cases e), fun up rt e => ?_⟩
  · exact hw9.os.trans (hos8.1.trans (hgr7.os.trans (hW7.os.trans hos6.1)))
  · exact hw9.tape.trans (hos8.2.1.trans (hgr7.tape.trans (hW7.tape.trans hos6.2.1)))
  · exact hw9.output.trans (hos8.2.2.trans (hgr7.output.trans (hW7.output.trans hos6.2.2)))
  · exact (hold b (by omega) h3 h2).trans (hall b h1 h3)
  · cases e
    refine ⟨_, _, rfl, rfl, RB.mono (hp1.agree fun b g hlt => ?_) fun b g => ?_⟩
    · have g1 := g.1
      have g2 := g.2
      exact (hold b (by omega) (by omega) (by omega)).trans (hnew b g1 (by omega) (by omega) (by omega))
    · have g1 := g.1
      have g2 := g.2
      refine ⟨by omega, by omega, ?_, by omega⟩
      rcases hat7 with h | h <;> omega
theorem at32l (Q : Exit → Act → World → Prop)  (w0 : World) (O PB P C BO i : Nat) (root : Int) (ps : List Pg) (p : Pg) (ks' : List Key) (kids' : List Int) (gk ck gd cd nh chh : Nat) (ah : Option Addr) (hdt : Hid (DT w0 BO O PB ps root)) (hi : i < ps.length) (hq : Hid (QB w0 BO O PB C true gk 5 ck gd 5 cd nh chh ah p.next ks' kids' p.high)) (hlf : Hid (p.leaf = true)) (p0 : w0.cell? ⟨P, 0, none⟩ = some (.bool true)) (p3 : w0.cell? ⟨P, 3, none⟩ = some (.slice ah nh chh)) (p4 : w0.cell? ⟨P, 4, none⟩ = some (.int .i64 p.next)) (hPN : P ≠ PB ∧ P ≠ O ∧ P ≠ C) (hks : Hid (∀ s ∈ ks', 1 ≤ s.length ∧ s.length ≤ 100)) (hN : ps.length ≤ 4090)
    (hret : Hid (∀ (u20 u21 u22 u150 u151 u152 u153 u154 u155 u156 u157 u158 u159 u160 u161 u162 u163 u164 u165 u166 u167 u168 u169 u170 u171 u172 u173 u174 u175 u176 u177 u178 u179 u180 u181 u182 u183 u184 u185 u186 u187 u188 u189 u190 u191 u192 u193 u194 u195 u196 u197 u198 u199 u200 u201 u202 u203 u204 u205 u206 u207 u208 u209 u210 u211 u212 u213 u214 u215 u216 u217 u218 u219 u220 u221 u222 u223 u224 u225 u226 u227 u228 u229 u230 u231 u232 u233 : Value) (w' : World) (pb po un pc : Nat), AddIs w0 BO O PB root (putP ps i p ks' kids') (.slice (some ⟨pb, po, none⟩) un pc) (ps.length : Int) w' → Q .ret ⟨List.toArray ((.pointer (some ⟨O, 0, none⟩))::(.int .i64 (i : Int))::c2::c3::c4::c5::c6::c7::(.slice (some ⟨pb, po, none⟩) un pc)::(.int .i64 (ps.length : Int))::(.pointer (some ⟨P, 0, none⟩))::c11::c12::c13::c14::c15::(.pointer (some ⟨C, 0, none⟩))::c17::c18::c19::u20::u21::u22::c23::c24::c25::c26::c27::c28::c29::c30::c31::c32::c33::c34::c35::c36::c37::c38::c39::c40::c41::c42::c43::c44::c45::c46::c47::c48::c49::c50::c51::c52::c53::c54::c55::c56::c57::c58::c59::c60::c61::c62::c63::c64::c65::c66::c67::c68::c69::c70::c71::c72::c73::c74::c75::c76::c77::c78::c79::c80::c81::c82::c83::c84::c85::c86::c87::c88::c89::c90::c91::c92::c93::c94::c95::c96::c97::c98::c99::c100::c101::c102::c103::c104::c105::c106::c107::c108::c109::c110::c111::c112::c113::c114::c115::c116::c117::c118::c119::c120::c121::c122::c123::c124::c125::c126::c127::c128::c129::c130::c131::c132::c133::c134::c135::c136::c137::c138::c139::c140::c141::c142::c143::c144::c145::c146::c147::c148::c149::u150::u151::u152::u153::u154::u155::u156::u157::u158::u159::u160::u161::u162::u163::u164::u165::u166::u167::u168::u169::u170::u171::u172::u173::u174::u175::u176::u177::u178::u179::u180::u181::u182::u183::u184::u185::u186::u187::u188::u189::u190::u191::u192::u193::u194::u195::u196::u197::u198::u199::u200::u201::u202::u203::u204::u205::u206::u207::u208::u209::u210::u211::u212::u213::u214::u215::u216::u217::u218::u219::u220::u221::u222::u223::u224::u225::u226::u227::u228::u229::u230::u231::u232::u233::[]), []⟩ w')) :
    Code.wp Try.prog ((tailOf 32 (Try.f21.body.getD .skip)).getD .skip) Q ⟨List.toArray ((.pointer (some ⟨O, 0, none⟩))::(.int .i64 (i : Int))::c2::c3::c4::c5::c6::c7::c8::c9::(.pointer (some ⟨P, 0, none⟩))::c11::c12::c13::c14::c15::(.pointer (some ⟨C, 0, none⟩))::c17::c18::c19::c20::c21::c22::c23::c24::c25::c26::c27::c28::c29::c30::c31::c32::c33::c34::c35::c36::c37::c38::c39::c40::c41::c42::c43::c44::c45::c46::c47::c48::c49::c50::c51::c52::c53::c54::c55::c56::c57::c58::c59::c60::c61::c62::c63::c64::c65::c66::c67::c68::c69::c70::c71::c72::c73::c74::c75::c76::c77::c78::c79::c80::c81::c82::c83::c84::c85::c86::c87::c88::c89::c90::c91::c92::c93::c94::c95::c96::c97::c98::c99::c100::c101::c102::c103::c104::c105::c106::c107::c108::c109::c110::c111::c112::c113::c114::c115::c116::c117::c118::c119::c120::c121::c122::c123::c124::c125::c126::c127::c128::c129::c130::c131::c132::c133::c134::c135::c136::c137::c138::c139::c140::c141::c142::c143::c144::c145::c146::c147::c148::c149::c150::c151::c152::c153::c154::c155::c156::c157::c158::c159::c160::c161::c162::c163::c164::c165::c166::c167::c168::c169::c170::c171::c172::c173::c174::c175::c176::c177::c178::c179::c180::c181::c182::c183::c184::c185::c186::c187::c188::c189::c190::c191::c192::c193::c194::c195::c196::c197::c198::c199::c200::c201::c202::c203::c204::c205::c206::c207::c208::c209::c210::c211::c212::c213::c214::c215::c216::c217::c218::c219::c220::c221::c222::c223::c224::c225::c226::c227::c228::c229::c230::c231::c232::c233::[]), []⟩ w0 := by
  conv => arg 2; whnf
  obtain ⟨y0, y1, y2, y3, y4, -⟩ := box5 hq.out.box
  obtain ⟨cap, vs, ho, hrow, hrps⟩ := hdt.out.row
  obtain ⟨ow, ow1, -, -⟩ := box2I ho
  have hkl := hq.out.nkl
  have hkc := hq.out.kc
  have hdc := hq.out.dc
  obtain ⟨usk, hrk, -, hek⟩ := hq.out.keys
  obtain ⟨s, hs⟩ : ∃ s, s = ks'.getD 2 [] := ⟨_, rfl⟩
  have hs2 : ks'[2]? = some s := by rw [hs, List.getD_eq_getElem?_getD, List.getElem?_eq_getElem (by omega)]; rfl
  obtain ⟨x, hx1, hx2⟩ := hek 2 s hs2
  obtain ⟨xa, xc, rfl⟩ := hx2.sh
  have hsl := hks.out s (List.mem_of_getElem? hs2)
  have c2 : w0.cell? ⟨gk, 2, none⟩ = some (.slice xa s.length xc) := by
    obtain ⟨_, ao, cc, e, h3, h4, h5, h6⟩ := hrk
    simp only [Value.slice.injEq] at e
    obtain ⟨rfl, -, rfl⟩ := e
    have := h6 _ rfl 2 _ hx1
    rw [Addr.add_lit, Nat.zero_add] at this
    exact this
  obtain ⟨nsl, hnsl⟩ : ∃ n, n = s.length := ⟨_, rfl⟩
  have hcp := bcopy_any w0 (Gx w0 BO O PB) _ s hx2 (by omega)
  rw [← hnsl] at c2 hcp hsl
  have HCP := Lib.hid hcp
  have HX2 := Lib.hid hx2
  have HO := Lib.hid ho
  have HROW := Lib.hid hrow
  have HRPS := Lib.hid hrps
  have HS := Lib.hid (And.intro hs2 hnsl)
  have hPC := hPN.2.2
  have hCat := hq.out.at_
  clear ho hrow hrps hkl hrk hek hs hs2 hx1 hx2 hcp hnsl
  go_wp2_with fail
  refine HCP.out.mono ?_
  rintro e w1 ⟨v1, rfl, hr1, hb1⟩
  obtain ⟨pa, pc, rfl⟩ := hr1.sh
  rw [← HS.out.2]
  obtain ⟨pb, po, rfl⟩ : ∃ pb po, pa = some ⟨pb, po, none⟩ := by
    obtain ⟨b, o, _, e, -⟩ := hr1.1.pos (by have := HS.out.2; omega) (by omega)
    simp only [Value.slice.injEq] at e
    exact ⟨b, o, e.1⟩
  have hz1 := hb1.size
  have HB1 := Lib.hid hb1
  have HR1 := Lib.hid hr1
  have q0 := cell_of_below hb1 p0
  have q3 := cell_of_below hb1 p3
  have q4 := cell_of_below hb1 p4
  have k1 := cell_of_below hb1 y1
  have k2 := cell_of_below hb1 y2
  have o1 := cell_of_below hb1 ow
  have HC1 := Lib.hid ((hb1.block C (Array.getElem?_eq_some_iff.1 hq.out.box).1).trans hq.out.box)
  have hCl := (Array.getElem?_eq_some_iff.1 hq.out.box).1
  have hOl := (Array.getElem?_eq_some_iff.1 HO.out).1
  have hPBl := (HROW.out.lt PB rfl).2
  clear hb1 hr1 c2 y0 y1 y2 y3 y4 ow ow1
  go_wp2_with fail
  change Code.wp _ ((regionOf 36 (Try.f21.body.getD .skip)).getD .skip) _ _ _
  refine ar36 _ w1 O PB P C ps.length cap gk 5 ck gd 5 cd pb po nsl pc true s (by omega) (by omega) (by omega) (by omega) o1 q0 k1 k2 _ (by rw [HS.out.2]; exact HR1.out) (by have := HS.out.2; omega) ?_
  refine Lib.hid ?_
  intro z0 z1 z2 z3 z4 z5 z6 z7 z8 z9 z10 z11 z12 z13 z14 z15 w2 BL av cv hBL1 hBL2 hL hrv hb2
  have hz2 := hb2.size
  have HB2 := Lib.hid hb2
  have HL := Lib.hid hL
  have HRV := Lib.hid hrv
  have r0 := cell_of_below hb2 q0
  have r3 := cell_of_below hb2 q3
  have r4 := cell_of_below hb2 q4
  have l1 := cell_of_below hb2 k1
  have l2 := cell_of_below hb2 k2
  have o2 := cell_of_below hb2 o1
  clear hb2 hL hrv q0 q3 q4 k1 k2 o1
  go_wp2_with fail
  change Code.wp _ ((regionOf 37 (Try.f21.body.getD .skip)).getD .skip) _ _ _
  refine ar37 _ w2 O P C gk 5 ck gd 5 cd nh chh ah p.next true (by omega) (by omega) (by omega) (by omega) (by omega) (by omega) r0 r3 r4 l1 l2 ?_
  refine Lib.hid ?_
  intro z0 z1 z2 z3 z4 z5 z6 z7 z8 z9 z10 z11 z12 w3 BR hBR1 hBR2 hR hb3
  have hz3 := hb3.size
  have HB3 := Lib.hid (into (into HB1.out HB2.out) hb3)
  have HL3 := Lib.hid ((hb3.block BL hBL2).trans HL.out)
  have HRV3 := Lib.hid (RB.mono (HRV.out.below hb3) (ok' := fun b => w0.heap.size ≤ b ∧ b < w2.heap.size ∧ b ≠ BL) fun b g => ⟨by have := g.1; omega, g.2.1, g.2.2⟩)
  have HR3 := Lib.hid hR
  have s0 := cell_of_below hb3 r0
  have o3 := cell_of_below hb3 o2
  have m1 := cell_of_below hb3 l1
  have m2 := cell_of_below hb3 l2
  have hRP1 := Lib.hid (RB.mono ((HR1.out.below HB2.out).below hb3) (ok' := fun b => w0.heap.size ≤ b ∧ b < w1.heap.size) fun b g => g)
  clear hb3 hR r0 r3 r4 l1 l2 o2
  obtain ⟨w4, hw4⟩ : ∃ w4 : World, w4 = w3 := ⟨_, rfl⟩
  have HL4 : Hid (w4.heap[BL]? = some (.cells #[.bool true, .slice (some ⟨gk, 0, none⟩) 2 ck, .slice (some ⟨gd, 0, none⟩) 2 cd, .slice av s.length cv, .int .i64 (ps.length : Int)] 43 (0, 0))) := Lib.hid (by rw [hw4]; exact HL3.out)
  have HR4 : Hid (w4.heap[BR]? = some (.cells #[.bool true, .slice (some ⟨gk, 2, none⟩) 3 (ck - 2), .slice (some ⟨gd, 2, none⟩) 3 (cd - 2), .slice ah nh chh, .int .i64 p.next] 43 (0, 0))) := Lib.hid (by rw [hw4]; exact HR3.out)
  have hf4 : ∀ b, b ≠ BL → b ≠ BR → w4.heap[b]? = w3.heap[b]? := fun b _ _ => by rw [hw4]
  have hz4 : w4.heap.size = w3.heap.size := by rw [hw4]
  have hos4 : w4.os = w3.os ∧ w4.tape = w3.tape ∧ w4.output = w3.output := by rw [hw4]; exact ⟨rfl, rfl, rfl⟩
  go_wp2_with fail
  rw [← hw4]
  have HW4 := Lib.hid hw4
  clear hw4
  have HF4 := Lib.hid hf4
  have HOS4 := Lib.hid hos4
  have o4 : w4.cell? ⟨O, 0, none⟩ = some (.slice (some ⟨PB, 0, none⟩) ps.length cap) := (World.cell?_of_block (a := ⟨O, 0, none⟩) (hf4 O (by omega) (by omega))).trans o3
  have hrow4 : w4.ownsRow BO 43 5 (.slice (some ⟨PB, 0, none⟩) ps.length cap) ps.length vs := own_far (own_below HROW.out HB3.out) fun b hb => by
    have hb' := own_eq hb
    subst hb'
    exact hf4 _ (by omega) (by omega)
  have HROW4 := Lib.hid hrow4
  clear hf4 hos4 hrow4 o3 s0
  (try clear m1 m2)
  change Code.wp _ ((regionOf 42 (Try.f21.body.getD .skip)).getD .skip) _ _ _
  refine ar42 _ w4 O PB BL ps.length cap i o4 hi true (some ⟨gk, 0, none⟩) (some ⟨gd, 0, none⟩) av 2 ck 2 cd s.length cv (ps.length : Int) HL4.out HROW4.out hdt.out.ne (by omega) ?_
  refine Lib.hid ?_
  intro z0 z1 z2 z3 z4 z5 z6 w5 hb5
  have hz5 := hb5.size
  have HB5 := Lib.hid hb5
  obtain ⟨w6, hw6⟩ : ∃ w6, w6 = setPg w5 PB (i * 5) (.bool true) (.slice (some ⟨gk, 0, none⟩) 2 ck) (.slice (some ⟨gd, 0, none⟩) 2 cd) (.slice av s.length cv) (.int .i64 (ps.length : Int)) := ⟨_, rfl⟩
  have hf6 : ∀ b, b ≠ PB → w6.heap[b]? = w5.heap[b]? := fun b hb => by rw [hw6]; exact setPg_far _ _ _ _ _ _ _ _ hb
  have hz6 : w6.heap.size = w5.heap.size := by rw [hw6]; exact setPg_size _ _ _ _ _ _ _ _
  have hos6 : w6.os = w5.os ∧ w6.tape = w5.tape ∧ w6.output = w5.output := by rw [hw6]; exact ⟨rfl, rfl, rfl⟩
  have hrow6 : w6.ownsRow BO 43 5 (.slice (some ⟨PB, 0, none⟩) ps.length cap) ps.length (vs5 vs (i * 5) (.bool true) (.slice (some ⟨gk, 0, none⟩) 2 ck) (.slice (some ⟨gd, 0, none⟩) 2 cd) (.slice av s.length cv) (.int .i64 (ps.length : Int))) := by rw [hw6]; exact pg_put (own_below HROW4.out hb5) _ _ _ _ _ _
  -- what lay at first lies so still
  have hall : ∀ b, b < w0.heap.size → b ≠ PB → w6.heap[b]? = w0.heap[b]? := fun b h1 h2 => (hf6 b h2).trans ((hb5.block b (by omega)).trans ((HF4.out b (by omega) (by omega)).trans (HB3.out.block b h1)))
  have hnew : ∀ b, w0.heap.size ≤ b → b < w3.heap.size → b ≠ BL → b ≠ BR → w6.heap[b]? = w3.heap[b]? := fun b h1 h2 h3 h4 => (hf6 b (by omega)).trans ((hb5.block b (by omega)).trans (HF4.out b h3 h4))
  have HO6 := Lib.hid ((hall O (by omega) (by have := hdt.out.ne; omega)).trans HO.out)
  have HR6 := Lib.hid ((hf6 BR (by omega)).trans ((hb5.block BR (by omega)).trans HR4.out))
  rw [← hw6]
  have HF6 := Lib.hid (And.intro hall hnew)
  have HOS6 := Lib.hid hos6
  have HROW6 := Lib.hid hrow6
  have HHL := Lib.hid (show ps.length = ps.length from rfl)
  clear hb5 hw6 hf6 hos6 hrow6 hall hnew o4
  go_wp2_with fail
  change Code.wp _ ((regionOf 43 (Try.f21.body.getD .skip)).getD .skip) _ _ _
  refine ar43 _ w6 O PB BR ps.length cap BO root true (some ⟨gk, 2, none⟩) (some ⟨gd, 2, none⟩) ah 3 (ck - 2) 3 (cd - 2) nh chh p.next HO6.out HR6.out _ HROW6.out hdt.out.ne (by omega) (by omega) (by have := hdt.out.pb; omega) ?_
  refine Lib.hid ?_
  intro z0 z1 z2 z3 z4 z5 z6 z7 z8 z9 w7 gg cap5 ob hown7 hgr7 hat7
  have hz7 := hgr7.size
  simp only [World.size_drew, World.size_alloc] at hz7
  have hno : gg ≠ O := by rcases hat7 with rfl | h
                          · exact hdt.out.ne
                          · omega
  obtain ⟨w8, hw8⟩ : ∃ w8, w8 = w7.setCell ⟨O, 0, none⟩ (.slice (some ⟨gg, 0, none⟩) (ps.length + 1) cap5) := ⟨_, rfl⟩
  have hO7 : w7.heap[O]? = some (.cells #[.slice (some ⟨PB, 0, none⟩) ps.length cap, .int .i64 root] 24 (0, 0)) := (hgr7.block O (by simp only [World.size_drew, World.size_alloc]; omega) (fun e => hdt.out.ne (Option.some.inj e).symm)).trans (((((Below.refl w6.heap.size w6).alloc (Nat.le_refl _) ob).drew).block O (by omega)).trans HO6.out)
  have hO8 : w8.heap[O]? = some (.cells #[.slice (some ⟨gg, 0, none⟩) (ps.length + 1) cap5, .int .i64 root] 24 (0, 0)) := by rw [hw8, Lib.heap_setCell_same hO7]; rfl
  obtain ⟨o8, -, -, -⟩ := box2I hO8
  rw [← hw8]
  have HW8 := Lib.hid hw8
  have H7 := Lib.hid (And.intro hown7 (And.intro hgr7 hat7))
  have hz8 : w8.heap.size = w7.heap.size := by rw [hw8]; simp
  clear hw8 hown7 hgr7 hO7 hO8
  have zN : (1 : Int) ≤ (ps.length : Int) := by omega
  go_wp2_with fail
  go_quiet (fail)
  have HBQ := Lib.hid (below_drewN w8 nq)
  go_wp2_with fail
  have hs5 := HS.out.2
  have hdone := split_done (BL := BL) (BR := BR) (s1 := w1.heap.size) (s2 := w2.heap.size) (w3 := w3) (w9 := w8.drewN nq) (pb := pb) (po := po) (pc := pc) (cv := cv) (av := av) (i := i) (a := 2) hdt.out hi (p := p) (C := C) (by rw [hlf.out]; exact hq.out) (by rw [hlf.out]; rfl) rfl HS.out.1 (by omega) HRPS.out HF6.out.1 HF6.out.2 hz1 hBL1 hz2 hBR1 (by omega) (by omega) hPBl hOl HRV3.out hRP1.out HO6.out
    ⟨HOS6.out.1.trans (HB5.out.os.trans (HOS4.out.1.trans HB3.out.os)), HOS6.out.2.1.trans (HB5.out.tape.trans (HOS4.out.2.1.trans HB3.out.tape)), HOS6.out.2.2.trans (HB5.out.output.trans (HOS4.out.2.2.trans HB3.out.output))⟩
    (((Below.refl w6.heap.size w6).alloc (Nat.le_refl _) ob).drew) (by simp) (by rw [hlf.out]; exact H7.out.1) H7.out.2.1 H7.out.2.2 HW8.out HBQ.out
  rw [← hs5] at hdone
  exact hret.out _ _ _ _ _ _ _ _ _ _ _ _ _ _ _ _ _ _ _ _ _ _ _ _ _ _ _ _ _ _ _ _ _ _ _ _ _ _ _ _ _ _ _ _ _ _ _ _ _ _ _ _ _ _ _ _ _ _ _ _ _ _ _ _ _ _ _ _ _ _ _ _ _ _ _ _ _ _ _ _ _ _ _ _ _ _ _ _ pb po nsl pc hdone
theorem at32n (Q : Exit → Act → World → Prop)  (w0 : World) (O PB P C BO i : Nat) (root : Int) (ps : List Pg) (p : Pg) (ks' : List Key) (kids' : List Int) (gk ck gd cd nh chh : Nat) (ah : Option Addr) (hdt : Hid (DT w0 BO O PB ps root)) (hi : i < ps.length) (hq : Hid (QB w0 BO O PB C false gk 5 ck gd 6 cd nh chh ah p.next ks' kids' p.high)) (hlf : Hid (p.leaf = false)) (p0 : w0.cell? ⟨P, 0, none⟩ = some (.bool false)) (p3 : w0.cell? ⟨P, 3, none⟩ = some (.slice ah nh chh)) (p4 : w0.cell? ⟨P, 4, none⟩ = some (.int .i64 p.next)) (hPN : P ≠ PB ∧ P ≠ O ∧ P ≠ C) (hks : Hid (∀ s ∈ ks', 1 ≤ s.length ∧ s.length ≤ 100)) (hN : ps.length ≤ 4090)
    (hret : Hid (∀ (u20 u21 u22 u150 u151 u152 u153 u154 u155 u156 u157 u158 u159 u160 u161 u162 u163 u164 u165 u166 u167 u168 u169 u170 u171 u172 u173 u174 u175 u176 u177 u178 u179 u180 u181 u182 u183 u184 u185 u186 u187 u188 u189 u190 u191 u192 u193 u194 u195 u196 u197 u198 u199 u200 u201 u202 u203 u204 u205 u206 u207 u208 u209 u210 u211 u212 u213 u214 u215 u216 u217 u218 u219 u220 u221 u222 u223 u224 u225 u226 u227 u228 u229 u230 u231 u232 u233 : Value) (w' : World) (pb po un pc : Nat), AddIs w0 BO O PB root (putP ps i p ks' kids') (.slice (some ⟨pb, po, none⟩) un pc) (ps.length : Int) w' → Q .ret ⟨List.toArray ((.pointer (some ⟨O, 0, none⟩))::(.int .i64 (i : Int))::c2::c3::c4::c5::c6::c7::(.slice (some ⟨pb, po, none⟩) un pc)::(.int .i64 (ps.length : Int))::(.pointer (some ⟨P, 0, none⟩))::c11::c12::c13::c14::c15::(.pointer (some ⟨C, 0, none⟩))::c17::c18::c19::u20::u21::u22::c23::c24::c25::c26::c27::c28::c29::c30::c31::c32::c33::c34::c35::c36::c37::c38::c39::c40::c41::c42::c43::c44::c45::c46::c47::c48::c49::c50::c51::c52::c53::c54::c55::c56::c57::c58::c59::c60::c61::c62::c63::c64::c65::c66::c67::c68::c69::c70::c71::c72::c73::c74::c75::c76::c77::c78::c79::c80::c81::c82::c83::c84::c85::c86::c87::c88::c89::c90::c91::c92::c93::c94::c95::c96::c97::c98::c99::c100::c101::c102::c103::c104::c105::c106::c107::c108::c109::c110::c111::c112::c113::c114::c115::c116::c117::c118::c119::c120::c121::c122::c123::c124::c125::c126::c127::c128::c129::c130::c131::c132::c133::c134::c135::c136::c137::c138::c139::c140::c141::c142::c143::c144::c145::c146::c147::c148::c149::u150::u151::u152::u153::u154::u155::u156::u157::u158::u159::u160::u161::u162::u163::u164::u165::u166::u167::u168::u169::u170::u171::u172::u173::u174::u175::u176::u177::u178::u179::u180::u181::u182::u183::u184::u185::u186::u187::u188::u189::u190::u191::u192::u193::u194::u195::u196::u197::u198::u199::u200::u201::u202::u203::u204::u205::u206::u207::u208::u209::u210::u211::u212::u213::u214::u215::u216::u217::u218::u219::u220::u221::u222::u223::u224::u225::u226::u227::u228::u229::u230::u231::u232::u233::[]), []⟩ w')) :
    Code.wp Try.prog ((tailOf 32 (Try.f21.body.getD .skip)).getD .skip) Q ⟨List.toArray ((.pointer (some ⟨O, 0, none⟩))::(.int .i64 (i : Int))::c2::c3::c4::c5::c6::c7::c8::c9::(.pointer (some ⟨P, 0, none⟩))::c11::c12::c13::c14::c15::(.pointer (some ⟨C, 0, none⟩))::c17::c18::c19::c20::c21::c22::c23::c24::c25::c26::c27::c28::c29::c30::c31::c32::c33::c34::c35::c36::c37::c38::c39::c40::c41::c42::c43::c44::c45::c46::c47::c48::c49::c50::c51::c52::c53::c54::c55::c56::c57::c58::c59::c60::c61::c62::c63::c64::c65::c66::c67::c68::c69::c70::c71::c72::c73::c74::c75::c76::c77::c78::c79::c80::c81::c82::c83::c84::c85::c86::c87::c88::c89::c90::c91::c92::c93::c94::c95::c96::c97::c98::c99::c100::c101::c102::c103::c104::c105::c106::c107::c108::c109::c110::c111::c112::c113::c114::c115::c116::c117::c118::c119::c120::c121::c122::c123::c124::c125::c126::c127::c128::c129::c130::c131::c132::c133::c134::c135::c136::c137::c138::c139::c140::c141::c142::c143::c144::c145::c146::c147::c148::c149::c150::c151::c152::c153::c154::c155::c156::c157::c158::c159::c160::c161::c162::c163::c164::c165::c166::c167::c168::c169::c170::c171::c172::c173::c174::c175::c176::c177::c178::c179::c180::c181::c182::c183::c184::c185::c186::c187::c188::c189::c190::c191::c192::c193::c194::c195::c196::c197::c198::c199::c200::c201::c202::c203::c204::c205::c206::c207::c208::c209::c210::c211::c212::c213::c214::c215::c216::c217::c218::c219::c220::c221::c222::c223::c224::c225::c226::c227::c228::c229::c230::c231::c232::c233::[]), []⟩ w0 := by
  conv => arg 2; whnf
  obtain ⟨y0, y1, y2, y3, y4, -⟩ := box5 hq.out.box
  obtain ⟨cap, vs, ho, hrow, hrps⟩ := hdt.out.row
  obtain ⟨ow, ow1, -, -⟩ := box2I ho
  have hkl := hq.out.nkl
  have hkc := hq.out.kc
  have hdc := hq.out.dc
  obtain ⟨usk, hrk, -, hek⟩ := hq.out.keys
  obtain ⟨s, hs⟩ : ∃ s, s = ks'.getD 2 [] := ⟨_, rfl⟩
  have hs2 : ks'[2]? = some s := by rw [hs, List.getD_eq_getElem?_getD, List.getElem?_eq_getElem (by omega)]; rfl
  obtain ⟨x, hx1, hx2⟩ := hek 2 s hs2
  obtain ⟨xa, xc, rfl⟩ := hx2.sh
  have hsl := hks.out s (List.mem_of_getElem? hs2)
  have c2 : w0.cell? ⟨gk, 2, none⟩ = some (.slice xa s.length xc) := by
    obtain ⟨_, ao, cc, e, h3, h4, h5, h6⟩ := hrk
    simp only [Value.slice.injEq] at e
    obtain ⟨rfl, -, rfl⟩ := e
    have := h6 _ rfl 2 _ hx1
    rw [Addr.add_lit, Nat.zero_add] at this
    exact this
  obtain ⟨nsl, hnsl⟩ : ∃ n, n = s.length := ⟨_, rfl⟩
  have hcp := bcopy_any w0 (Gx w0 BO O PB) _ s hx2 (by omega)
  rw [← hnsl] at c2 hcp hsl
  have HCP := Lib.hid hcp
  have HX2 := Lib.hid hx2
  have HO := Lib.hid ho
  have HROW := Lib.hid hrow
  have HRPS := Lib.hid hrps
  have HS := Lib.hid (And.intro hs2 hnsl)
  have hPC := hPN.2.2
  have hCat := hq.out.at_
  clear ho hrow hrps hkl hrk hek hs hs2 hx1 hx2 hcp hnsl
  go_wp2_with fail
  refine HCP.out.mono ?_
  rintro e w1 ⟨v1, rfl, hr1, hb1⟩
  obtain ⟨pa, pc, rfl⟩ := hr1.sh
  rw [← HS.out.2]
  obtain ⟨pb, po, rfl⟩ : ∃ pb po, pa = some ⟨pb, po, none⟩ := by
    obtain ⟨b, o, _, e, -⟩ := hr1.1.pos (by have := HS.out.2; omega) (by omega)
    simp only [Value.slice.injEq] at e
    exact ⟨b, o, e.1⟩
  have hz1 := hb1.size
  have HB1 := Lib.hid hb1
  have HR1 := Lib.hid hr1
  have q0 := cell_of_below hb1 p0
  have q3 := cell_of_below hb1 p3
  have q4 := cell_of_below hb1 p4
  have k1 := cell_of_below hb1 y1
  have k2 := cell_of_below hb1 y2
  have o1 := cell_of_below hb1 ow
  have HC1 := Lib.hid ((hb1.block C (Array.getElem?_eq_some_iff.1 hq.out.box).1).trans hq.out.box)
  have hCl := (Array.getElem?_eq_some_iff.1 hq.out.box).1
  have hOl := (Array.getElem?_eq_some_iff.1 HO.out).1
  have hPBl := (HROW.out.lt PB rfl).2
  clear hb1 hr1 c2 y0 y1 y2 y3 y4 ow ow1
  go_wp2_with fail
  change Code.wp _ ((regionOf 36 (Try.f21.body.getD .skip)).getD .skip) _ _ _
  refine ar36 _ w1 O PB P C ps.length cap gk 5 ck gd 6 cd pb po nsl pc false s (by omega) (by omega) (by omega) (by omega) o1 q0 k1 k2 _ (by rw [HS.out.2]; exact HR1.out) (by have := HS.out.2; omega) ?_
  refine Lib.hid ?_
  intro z0 z1 z2 z3 z4 z5 z6 z7 z8 z9 z10 z11 z12 z13 z14 z15 w2 BL av cv hBL1 hBL2 hL hrv hb2
  have hz2 := hb2.size
  have HB2 := Lib.hid hb2
  have HL := Lib.hid hL
  have HRV := Lib.hid hrv
  have r0 := cell_of_below hb2 q0
  have r3 := cell_of_below hb2 q3
  have r4 := cell_of_below hb2 q4
  have l1 := cell_of_below hb2 k1
  have l2 := cell_of_below hb2 k2
  have o2 := cell_of_below hb2 o1
  clear hb2 hL hrv q0 q3 q4 k1 k2 o1
  go_wp2_with fail
  change Code.wp _ ((regionOf 37 (Try.f21.body.getD .skip)).getD .skip) _ _ _
  refine ar37 _ w2 O P C gk 5 ck gd 6 cd nh chh ah p.next false (by omega) (by omega) (by omega) (by omega) (by omega) (by omega) r0 r3 r4 l1 l2 ?_
  refine Lib.hid ?_
  intro z0 z1 z2 z3 z4 z5 z6 z7 z8 z9 z10 z11 z12 w3 BR hBR1 hBR2 hR hb3
  have hz3 := hb3.size
  have HB3 := Lib.hid (into (into HB1.out HB2.out) hb3)
  have HL3 := Lib.hid ((hb3.block BL hBL2).trans HL.out)
  have HRV3 := Lib.hid (RB.mono (HRV.out.below hb3) (ok' := fun b => w0.heap.size ≤ b ∧ b < w2.heap.size ∧ b ≠ BL) fun b g => ⟨by have := g.1; omega, g.2.1, g.2.2⟩)
  have HR3 := Lib.hid hR
  have s0 := cell_of_below hb3 r0
  have o3 := cell_of_below hb3 o2
  have m1 := cell_of_below hb3 l1
  have m2 := cell_of_below hb3 l2
  have hRP1 := Lib.hid (RB.mono ((HR1.out.below HB2.out).below hb3) (ok' := fun b => w0.heap.size ≤ b ∧ b < w1.heap.size) fun b g => g)
  clear hb3 hR r0 r3 r4 l1 l2 o2
  obtain ⟨t0, t1, t2, t3, t4, tf0, tf1, tf2, tf3, tf4⟩ := box5 HL3.out
  obtain ⟨v0, v1, v2, v3, v4, vf0, vf1, vf2, vf3, vf4⟩ := box5 HR3.out
  have zc1 : (3 : Int) ≤ (cd : Int) := by omega
  have zc2 : (5 : Int) ≤ (ck : Int) := by omega
  have zc3 : (6 : Int) ≤ (cd : Int) := by omega
  have zc4 : ¬ (ck = 3) := by omega
  have zc5 : ¬ (cd = 3) := by omega
  have hckm := hkc.2
  have hcdm := hdc.2
  unfold maxLen at hckm hcdm
  have nLC : BL ≠ C := by omega
  have nRC : BR ≠ C := by omega
  have nLR : BL ≠ BR := by omega
  go_upto_region 40 with (fail)
  obtain ⟨wa, hwa⟩ : ∃ wa : World, wa = w3.setCell ⟨BL, 2, none⟩ (.slice (some ⟨gd, 0, none⟩) 3 cd) := ⟨_, rfl⟩
  have HLa := Lib.hid (show wa.heap[BL]? = some (.cells #[.bool false, .slice (some ⟨gk, 0, none⟩) 2 ck, .slice (some ⟨gd, 0, none⟩) 3 cd, .slice av s.length cv, .int .i64 (ps.length : Int)] 43 (0, 0)) by rw [hwa]; exact set2 HL3.out _)
  have hfa : ∀ b, b ≠ BL → wa.heap[b]? = w3.heap[b]? := fun b hb => by rw [hwa]; exact Below.heap_setCell _ _ _ _ hb
  have hza : wa.heap.size = w3.heap.size := by rw [hwa]; simp
  have hosa : wa.os = w3.os ∧ wa.tape = w3.tape ∧ wa.output = w3.output := by rw [hwa]; exact ⟨rfl, rfl, rfl⟩
  rw [← hwa]
  clear hwa
  have m1a : wa.cell? ⟨C, 1, none⟩ = some (.slice (some ⟨gk, 0, none⟩) 5 ck) := (World.cell?_of_block (a := ⟨C, 1, none⟩) (hfa C (by omega))).trans m1
  have m2a : wa.cell? ⟨C, 2, none⟩ = some (.slice (some ⟨gd, 0, none⟩) 6 cd) := (World.cell?_of_block (a := ⟨C, 2, none⟩) (hfa C (by omega))).trans m2
  have HRa := Lib.hid ((hfa BR (by omega)).trans HR3.out)
  have HFA := Lib.hid hfa
  have HOSA := Lib.hid hosa
  clear t0 t1 t2 t3 t4 tf0 tf1 tf2 tf3 tf4 v0 v1 v2 v3 v4 vf0 vf1 vf2 vf3 vf4 m1 m2 hfa hosa
  obtain ⟨v0, v1, v2, v3, v4, vf0, vf1, vf2, vf3, vf4⟩ := box5 HRa.out
  go_upto_region 41 with (fail)
  obtain ⟨wb, hwb⟩ : ∃ wb : World, wb = wa.setCell ⟨BR, 1, none⟩ (.slice (some ⟨gk, 3, none⟩) 2 (ck - 3)) := ⟨_, rfl⟩
  have HRb := Lib.hid (show wb.heap[BR]? = some (.cells #[.bool false, .slice (some ⟨gk, 3, none⟩) 2 (ck - 3), .slice (some ⟨gd, 2, none⟩) 4 (cd - 2), .slice ah nh chh, .int .i64 p.next] 43 (0, 0)) by rw [hwb]; exact set1X HRa.out _)
  have hfb : ∀ b, b ≠ BR → wb.heap[b]? = wa.heap[b]? := fun b hb => by rw [hwb]; exact Below.heap_setCell _ _ _ _ hb
  have hzb : wb.heap.size = wa.heap.size := by rw [hwb]; simp
  have hosb : wb.os = wa.os ∧ wb.tape = wa.tape ∧ wb.output = wa.output := by rw [hwb]; exact ⟨rfl, rfl, rfl⟩
  rw [← hwb]
  clear hwb
  have m2b : wb.cell? ⟨C, 2, none⟩ = some (.slice (some ⟨gd, 0, none⟩) 6 cd) := (World.cell?_of_block (a := ⟨C, 2, none⟩) (hfb C (by omega))).trans m2a
  have HFB := Lib.hid hfb
  have HOSB := Lib.hid hosb
  clear v0 v1 v2 v3 v4 vf0 vf1 vf2 vf3 vf4 m1a m2a hfb hosb
  obtain ⟨v0, v1, v2, v3, v4, vf0, vf1, vf2, vf3, vf4⟩ := box5 HRb.out
  go_wp2_with fail
  obtain ⟨w4, hw4⟩ : ∃ w4 : World, w4 = wb.setCell ⟨BR, 2, none⟩ (.slice (some ⟨gd, 3, none⟩) 3 (cd - 3)) := ⟨_, rfl⟩
  have HR4 := Lib.hid (show w4.heap[BR]? = some (.cells #[.bool false, .slice (some ⟨gk, 3, none⟩) 2 (ck - 3), .slice (some ⟨gd, 3, none⟩) 3 (cd - 3), .slice ah nh chh, .int .i64 p.next] 43 (0, 0)) by rw [hw4]; exact set2 HRb.out _)
  have hfc : ∀ b, b ≠ BR → w4.heap[b]? = wb.heap[b]? := fun b hb => by rw [hw4]; exact Below.heap_setCell _ _ _ _ hb
  have hzc : w4.heap.size = wb.heap.size := by rw [hw4]; simp
  have hosc : w4.os = wb.os ∧ w4.tape = wb.tape ∧ w4.output = wb.output := by rw [hw4]; exact ⟨rfl, rfl, rfl⟩
  rw [← hw4]
  clear hw4
  have HL4 := Lib.hid ((hfc BL nLR).trans ((HFB.out BL nLR).trans HLa.out))
  have hf4 : ∀ b, b ≠ BL → b ≠ BR → w4.heap[b]? = w3.heap[b]? := fun b h1 h2 => (hfc b h2).trans ((HFB.out b h2).trans (HFA.out b h1))
  have hz4 : w4.heap.size = w3.heap.size := by omega
  have hos4 : w4.os = w3.os ∧ w4.tape = w3.tape ∧ w4.output = w3.output := ⟨hosc.1.trans (HOSB.out.1.trans HOSA.out.1), hosc.2.1.trans (HOSB.out.2.1.trans HOSA.out.2.1), hosc.2.2.trans (HOSB.out.2.2.trans HOSA.out.2.2)⟩
  clear hfc hosc v0 v1 v2 v3 v4 vf0 vf1 vf2 vf3 vf4 m2b
  have HF4 := Lib.hid hf4
  have HOS4 := Lib.hid hos4
  have o4 : w4.cell? ⟨O, 0, none⟩ = some (.slice (some ⟨PB, 0, none⟩) ps.length cap) := (World.cell?_of_block (a := ⟨O, 0, none⟩) (hf4 O (by omega) (by omega))).trans o3
  have hrow4 : w4.ownsRow BO 43 5 (.slice (some ⟨PB, 0, none⟩) ps.length cap) ps.length vs := own_far (own_below HROW.out HB3.out) fun b hb => by
    have hb' := own_eq hb
    subst hb'
    exact hf4 _ (by omega) (by omega)
  have HROW4 := Lib.hid hrow4
  clear hf4 hos4 hrow4 o3 s0
  (try clear m1 m2)
  change Code.wp _ ((regionOf 42 (Try.f21.body.getD .skip)).getD .skip) _ _ _
  refine ar42 _ w4 O PB BL ps.length cap i o4 hi false (some ⟨gk, 0, none⟩) (some ⟨gd, 0, none⟩) av 2 ck 3 cd s.length cv (ps.length : Int) HL4.out HROW4.out hdt.out.ne (by omega) ?_
  refine Lib.hid ?_
  intro z0 z1 z2 z3 z4 z5 z6 w5 hb5
  have hz5 := hb5.size
  have HB5 := Lib.hid hb5
  obtain ⟨w6, hw6⟩ : ∃ w6, w6 = setPg w5 PB (i * 5) (.bool false) (.slice (some ⟨gk, 0, none⟩) 2 ck) (.slice (some ⟨gd, 0, none⟩) 3 cd) (.slice av s.length cv) (.int .i64 (ps.length : Int)) := ⟨_, rfl⟩
  have hf6 : ∀ b, b ≠ PB → w6.heap[b]? = w5.heap[b]? := fun b hb => by rw [hw6]; exact setPg_far _ _ _ _ _ _ _ _ hb
  have hz6 : w6.heap.size = w5.heap.size := by rw [hw6]; exact setPg_size _ _ _ _ _ _ _ _
  have hos6 : w6.os = w5.os ∧ w6.tape = w5.tape ∧ w6.output = w5.output := by rw [hw6]; exact ⟨rfl, rfl, rfl⟩
  have hrow6 : w6.ownsRow BO 43 5 (.slice (some ⟨PB, 0, none⟩) ps.length cap) ps.length (vs5 vs (i * 5) (.bool false) (.slice (some ⟨gk, 0, none⟩) 2 ck) (.slice (some ⟨gd, 0, none⟩) 3 cd) (.slice av s.length cv) (.int .i64 (ps.length : Int))) := by rw [hw6]; exact pg_put (own_below HROW4.out hb5) _ _ _ _ _ _
  -- what lay at first lies so still
  have hall : ∀ b, b < w0.heap.size → b ≠ PB → w6.heap[b]? = w0.heap[b]? := fun b h1 h2 => (hf6 b h2).trans ((hb5.block b (by omega)).trans ((HF4.out b (by omega) (by omega)).trans (HB3.out.block b h1)))
  have hnew : ∀ b, w0.heap.size ≤ b → b < w3.heap.size → b ≠ BL → b ≠ BR → w6.heap[b]? = w3.heap[b]? := fun b h1 h2 h3 h4 => (hf6 b (by omega)).trans ((hb5.block b (by omega)).trans (HF4.out b h3 h4))
  have HO6 := Lib.hid ((hall O (by omega) (by have := hdt.out.ne; omega)).trans HO.out)
  have HR6 := Lib.hid ((hf6 BR (by omega)).trans ((hb5.block BR (by omega)).trans HR4.out))
  rw [← hw6]
  have HF6 := Lib.hid (And.intro hall hnew)
  have HOS6 := Lib.hid hos6
  have HROW6 := Lib.hid hrow6
  have HHL := Lib.hid (show ps.length = ps.length from rfl)
  clear hb5 hw6 hf6 hos6 hrow6 hall hnew o4
  go_wp2_with fail
  change Code.wp _ ((regionOf 43 (Try.f21.body.getD .skip)).getD .skip) _ _ _
  refine ar43 _ w6 O PB BR ps.length cap BO root false (some ⟨gk, 3, none⟩) (some ⟨gd, 3, none⟩) ah 2 (ck - 3) 3 (cd - 3) nh chh p.next HO6.out HR6.out _ HROW6.out hdt.out.ne (by omega) (by omega) (by have := hdt.out.pb; omega) ?_
  refine Lib.hid ?_
  intro z0 z1 z2 z3 z4 z5 z6 z7 z8 z9 w7 gg cap5 ob hown7 hgr7 hat7
  have hz7 := hgr7.size
  simp only [World.size_drew, World.size_alloc] at hz7
  have hno : gg ≠ O := by rcases hat7 with rfl | h
                          · exact hdt.out.ne
                          · omega
  obtain ⟨w8, hw8⟩ : ∃ w8, w8 = w7.setCell ⟨O, 0, none⟩ (.slice (some ⟨gg, 0, none⟩) (ps.length + 1) cap5) := ⟨_, rfl⟩
  have hO7 : w7.heap[O]? = some (.cells #[.slice (some ⟨PB, 0, none⟩) ps.length cap, .int .i64 root] 24 (0, 0)) := (hgr7.block O (by simp only [World.size_drew, World.size_alloc]; omega) (fun e => hdt.out.ne (Option.some.inj e).symm)).trans (((((Below.refl w6.heap.size w6).alloc (Nat.le_refl _) ob).drew).block O (by omega)).trans HO6.out)
  have hO8 : w8.heap[O]? = some (.cells #[.slice (some ⟨gg, 0, none⟩) (ps.length + 1) cap5, .int .i64 root] 24 (0, 0)) := by rw [hw8, Lib.heap_setCell_same hO7]; rfl
  obtain ⟨o8, -, -, -⟩ := box2I hO8
  rw [← hw8]
  have HW8 := Lib.hid hw8
  have H7 := Lib.hid (And.intro hown7 (And.intro hgr7 hat7))
  have hz8 : w8.heap.size = w7.heap.size := by rw [hw8]; simp
  clear hw8 hown7 hgr7 hO7 hO8
  have zN : (1 : Int) ≤ (ps.length : Int) := by omega
  go_wp2_with fail
  go_quiet (fail)
  have HBQ := Lib.hid (below_drewN w8 nq)
  go_wp2_with fail
  have hs5 := HS.out.2
  have hdone := split_done (BL := BL) (BR := BR) (s1 := w1.heap.size) (s2 := w2.heap.size) (w3 := w3) (w9 := w8.drewN nq) (pb := pb) (po := po) (pc := pc) (cv := cv) (av := av) (i := i) (a := 3) hdt.out hi (p := p) (C := C) (by rw [hlf.out]; exact hq.out) (by rw [hlf.out]; rfl) rfl HS.out.1 (by omega) HRPS.out HF6.out.1 HF6.out.2 hz1 hBL1 hz2 hBR1 (by omega) (by omega) hPBl hOl HRV3.out hRP1.out HO6.out
    ⟨HOS6.out.1.trans (HB5.out.os.trans (HOS4.out.1.trans HB3.out.os)), HOS6.out.2.1.trans (HB5.out.tape.trans (HOS4.out.2.1.trans HB3.out.tape)), HOS6.out.2.2.trans (HB5.out.output.trans (HOS4.out.2.2.trans HB3.out.output))⟩
    (((Below.refl w6.heap.size w6).alloc (Nat.le_refl _) ob).drew) (by simp) (by rw [hlf.out]; exact H7.out.1) H7.out.2.1 H7.out.2.2 HW8.out HBQ.out
  rw [← hs5] at hdone
  exact hret.out _ _ _ _ _ _ _ _ _ _ _ _ _ _ _ _ _ _ _ _ _ _ _ _ _ _ _ _ _ _ _ _ _ _ _ _ _ _ _ _ _ _ _ _ _ _ _ _ _ _ _ _ _ _ _ _ _ _ _ _ _ _ _ _ _ _ _ _ _ _ _ _ _ _ _ _ _ _ _ _ _ _ _ _ _ _ _ _ pb po nsl pc hdone
end Go.Proofs.Ytahammkjkfdmhaa
/- The document's putting in: the page made. -/
namespace Go.Proofs.Ytahammkjkfdmhaa
open Go.ChangeShapes Go.WideShapes Go.ChangeAt Go.RowKit
set_option linter.unusedVariables false
set_option linter.unusedSimpArgs false
set_option maxHeartbeats 4000000
variable {c2 c3 c4 c5 c6 c7 c8 c9 c12 c14 c15 c17 c18 c19 c20 c21 c22 c23 c24 c25 c26 c27 c28 c29 c30 c31 c32 c33 c34 c35 c36 c37 c38 c39 c40 c41 c42 c43 c44 c45 c46 c47 c48 c49 c50 c51 c52 c53 c54 c55 c56 c57 c58 c59 c60 c61 c62 c63 c64 c65 c66 c67 c68 c69 c70 c71 c72 c73 c74 c75 c76 c77 c78 c79 c80 c81 c82 c83 c84 c85 c86 c87 c88 c89 c90 c91 c92 c93 c94 c95 c96 c97 c98 c99 c100 c101 c102 c103 c104 c105 c106 c107 c108 c109 c110 c111 c112 c113 c114 c115 c116 c117 c118 c119 c120 c121 c122 c123 c124 c125 c126 c127 c128 c129 c130 c131 c132 c133 c134 c135 c136 c137 c138 c139 c140 c141 c142 c143 c144 c145 c146 c147 c148 c149 c150 c151 c152 c153 c154 c155 c156 c157 c158 c159 c160 c161 c162 c163 c164 c165 c166 c167 c168 c169 c170 c171 c172 c173 c174 c175 c176 c177 c178 c179 c180 c181 c182 c183 c184 c185 c186 c187 c188 c189 c190 c191 c192 c193 c194 c195 c196 c197 c198 c199 c200 c201 c202 c203 c204 c205 c206 c207 c208 c209 c210 c211 c212 c213 c214 c215 c216 c217 c218 c219 c220 c221 c222 c223 c224 c225 c226 c227 c228 c229 c230 c231 c232 c233 : Value}
set_option maxRecDepth 1000000
theorem AddIs.base {wb w w' : World} {BO O PB PBb : Nat} {root : Int} {Y : List Pg × Option (Key × Nat)} {v8 : Value} {v9 : Int} (h : AddIs w BO O PB root Y v8 v9 w') (hz : wb.heap.size ≤ w.heap.size) (hp : PB = PBb ∨ wb.heap.size ≤ PB)
    (hf : ∀ b, b < wb.heap.size → b ≠ O → b ≠ PBb → w.heap[b]? = wb.heap[b]?) (ho : w.os = wb.os ∧ w.tape = wb.tape ∧ w.output = wb.output) : AddIs wb BO O PBb root Y v8 v9 w' := by
  obtain ⟨PB', h1, h2, h3, h4, h5, h6, h7, h8⟩ := h
  refine ⟨PB', h1, ?_, by omega, h4.trans ho.1, h5.trans ho.2.1, h6.trans ho.2.2, fun b g1 g2 g3 => ?_, h8⟩
  · rcases h2 with h2 | h2
    · rcases hp with hp | hp
      · exact .inl (h2.trans hp)
      · exact .inr (by omega)
    · exact .inr (by omega)
  · have : b ≠ PB := by rcases hp with hp | hp <;> omega
    exact (h7 b (by omega) g2 this).trans (hf b g1 g2 g3)
theorem Ks.ins {w : World} {ok : Nat → Prop} {us : List Value} {ks : List Key} {x : Value} {k : Key} (h : Ks w ok us ks) (hx : RB w ok x k) (i : Nat) : Ks w ok (insAt us i x) (insAt ks i k) := by
  refine ⟨by simp [insAt, h.1], fun j q hq => ?_⟩
  unfold insAt at hq ⊢
  rw [List.getElem?_append] at hq ⊢
  have hl : (us.take i).length = (ks.take i).length := by simp [h.1]
  rw [hl]
  split at hq
  · rename_i hj
    rw [if_pos hj]
    rw [List.getElem?_take] at hq ⊢
    split at hq
    · rename_i hj2
      rw [if_pos hj2]
      exact h.2 j q hq
    · cases hq
  · rename_i hj
    rw [if_neg hj]
    rcases hjj : j - (ks.take i).length with _ | m
    · rw [hjj] at hq
      simp only [List.getElem?_cons_zero, Option.some.injEq] at hq
      subst hq
      exact ⟨x, rfl, hx⟩
    · rw [hjj] at hq
      simp only [List.getElem?_cons_succ, List.getElem?_drop] at hq ⊢
      exact h.2 _ q hq
/-- What a page in its box reads as. -/
structure PBox (w : World) (BO O PB P : Nat) (p : Pg) (K ck D cd nh chh : Nat) (ak ad ah : Option Addr) (xa : Nat → Option Addr) (xn xc : Nat → Nat) : Prop where
  box : w.heap[P]? = some (.cells #[.bool p.leaf, .slice ak K ck, .slice ad D cd, .slice ah nh chh, .int .i64 p.next] 43 (0, 0))
  kl : K = p.keys.length
  dl : D = p.kids.length
  k4 : K ≤ 4
  d5 : D = if p.leaf then K else K + 1
  keys : ∀ j, j < K → ∃ b o, ak = some ⟨b, o, none⟩ ∧ Gx w BO O PB b ∧ w.cell? ⟨b, o + j, none⟩ = some (.slice (xa j) (xn j) (xc j)) ∧ RB w (Gx w BO O PB) (.slice (xa j) (xn j) (xc j)) (p.keys.getD j [])
  kids : ∀ j, j < D → ∃ b o, ad = some ⟨b, o, none⟩ ∧ Gx w BO O PB b ∧ w.cell? ⟨b, o + j, none⟩ = some (.int .i64 (p.kids.getD j 0))
  high : RB w (Gx w BO O PB) (.slice ah nh chh) p.high
  okk : ∀ s ∈ p.keys, 1 ≤ s.length ∧ s.length ≤ 100
  at_ : BO ≤ P ∧ P ≠ PB ∧ P ≠ O
theorem PBox.to {w w' : World} {BO O PB PB' P : Nat} {p : Pg} {K ck D cd nh chh : Nat} {ak ad ah : Option Addr} {xa : Nat → Option Addr} {xn xc : Nat → Nat} (h : PBox w BO O PB P p K ck D cd nh chh ak ad ah xa xn xc) (hz : w.heap.size ≤ w'.heap.size) (hp : PB' = PB ∨ w.heap.size ≤ PB')
    (hf : ∀ b, b < w.heap.size → b ≠ O → b ≠ PB → w'.heap[b]? = w.heap[b]?) : PBox w' BO O PB' P p K ck D cd nh chh ak ad ah xa xn xc := by
  have hg : ∀ b, Gx w BO O PB b → Gx w' BO O PB' b := fun b g => ⟨g.1, by have := g.2.1; omega, by have := g.2; rcases hp with hp | hp <;> omega, g.2.2.2⟩
  have hag : Agree (Gx w BO O PB) w w' := fun b g hlt => hf b hlt g.2.2.2 g.2.2.1
  have hPl := (Array.getElem?_eq_some_iff.1 h.box).1
  refine ⟨(hf P hPl h.at_.2.2 h.at_.2.1).trans h.box, h.kl, h.dl, h.k4, h.d5, fun j hj => ?_, fun j hj => ?_, RB.mono (h.high.agree hag) hg, h.okk, h.at_.1, by have := h.at_.2.1; rcases hp with hp | hp <;> omega, h.at_.2.2⟩
  · obtain ⟨b, o, e, g, h1, h2⟩ := h.keys j hj
    exact ⟨b, o, e, hg b g, (World.cell?_of_block (a := ⟨b, o + j, none⟩) (hag b g g.2.1)).trans h1, RB.mono (h2.agree hag) hg⟩
  · obtain ⟨b, o, e, g, h1⟩ := h.kids j hj
    exact ⟨b, o, e, hg b g, (World.cell?_of_block (a := ⟨b, o + j, none⟩) (hag b g g.2.1)).trans h1⟩
theorem at22 (Q : Exit → Act → World → Prop) (Kx : Act → World → Prop)  (wb w0 : World) (O PB PBb P C BO i at_ : Nat) (root kid : Int) (ps : List Pg) (p : Pg) (ks' : List Key) (K ck D cd nh chh gk kk : Nat) (ak ad ah : Option Addr) (xa : Nat → Option Addr) (xn xc : Nat → Nat)
    (hdt : Hid (DT w0 BO O PB ps root)) (hi : i < ps.length) (hN : ps.length ≤ 4090) (hpb : Hid (PBox w0 BO O PB P p K ck D cd nh chh ak ad ah xa xn xc)) (hat : at_ ≤ K) (hks : Hid (∀ s ∈ ks', 1 ≤ s.length ∧ s.length ≤ 100)) (hkl : Hid (K + 1 = ks'.length))
    (hbox : Hid (w0.heap[C]? = some (.cells #[.bool p.leaf, .slice (some ⟨gk, 0, none⟩) (K + 1) kk, .slice none 0 0, .slice ah nh chh, .int .i64 p.next] 43 (0, 0)))) (hC : BO ≤ C ∧ C ≠ PB ∧ C ≠ O ∧ C ≠ P)
    (hkr : Hid (RK w0 (fun b => Gx w0 BO O PB b ∧ b ≠ C) (.slice (some ⟨gk, 0, none⟩) (K + 1) kk) ks')) (hkk : K + 1 ≤ kk ∧ kk ≤ maxLen) (hhr : Hid (RB w0 (fun b => Gx w0 BO O PB b ∧ b ≠ C) (.slice ah nh chh) p.high))
    (hD3 : Hid (∀ j, j < D → ∃ b o, ad = some ⟨b, o, none⟩ ∧ b < w0.heap.size ∧ b ≠ C ∧ w0.cell? ⟨b, o + j, none⟩ = some (.int .i64 (p.kids.getD j 0))))
    (hpsC : Hid (∃ cap vs, w0.heap[O]? = some (.cells #[.slice (some ⟨PB, 0, none⟩) ps.length cap, .int .i64 root] 24 (0, 0)) ∧ w0.ownsRow BO 43 5 (.slice (some ⟨PB, 0, none⟩) ps.length cap) ps.length vs ∧ RPs w0 (fun b => Gx w0 BO O PB b ∧ b ≠ C) vs ps)) (hbz : wb.heap.size ≤ w0.heap.size) (hbC : wb.heap.size ≤ C) (hbp : PB = PBb ∨ wb.heap.size ≤ PB) (hbf : Hid (∀ b, b < wb.heap.size → b ≠ O → b ≠ PBb → w0.heap[b]? = wb.heap[b]?)) (hbo : w0.os = wb.os ∧ w0.tape = wb.tape ∧ w0.output = wb.output)
    (hret : Hid (∀ (u18 u19 u20 u21 u22 u113 u114 u115 u116 u117 u118 u119 u120 u121 u122 u123 u124 u125 u126 u127 u128 u129 u130 u131 u132 u133 u134 u135 u136 u137 u138 u139 u140 u141 u142 u143 u144 u145 u146 u147 u148 u149 u150 u151 u152 u153 u154 u155 u156 u157 u158 u159 u160 u161 u162 u163 u164 u165 u166 u167 u168 u169 u170 u171 u172 u173 u174 u175 u176 u177 u178 u179 u180 u181 u182 u183 u184 u185 u186 u187 u188 u189 u190 u191 u192 u193 u194 u195 u196 u197 u198 u199 u200 u201 u202 u203 u204 u205 u206 u207 u208 u209 u210 u211 u212 u213 u214 u215 u216 u217 u218 u219 u220 u221 u222 u223 u224 u225 u226 u227 u228 u229 u230 u231 u232 u233 v8 : Value) (v9 : Int) (w' : World), AddIs wb BO O PBb root (putP ps i p ks' (insAt p.kids (if p.leaf then at_ else at_ + 1) kid)) v8 v9 w' → Q .ret ⟨List.toArray ((.pointer (some ⟨O, 0, none⟩))::(.int .i64 (i : Int))::c2::c3::c4::c5::c6::c7::v8::(.int .i64 v9)::(.pointer (some ⟨P, 0, none⟩))::(.int .i64 (at_ : Int))::c12::(.int .i64 kid)::c14::c15::(.pointer (some ⟨C, 0, none⟩))::c17::u18::u19::u20::u21::u22::c23::c24::c25::c26::c27::c28::c29::c30::c31::c32::c33::c34::c35::c36::c37::c38::c39::c40::c41::c42::c43::c44::c45::c46::c47::c48::c49::c50::c51::c52::c53::c54::c55::c56::c57::c58::c59::c60::c61::c62::c63::c64::c65::c66::c67::c68::c69::c70::c71::c72::c73::c74::c75::c76::c77::c78::c79::c80::c81::c82::c83::c84::c85::c86::c87::c88::c89::c90::c91::c92::c93::c94::c95::c96::c97::c98::c99::c100::c101::c102::c103::c104::c105::c106::c107::c108::c109::c110::c111::c112::u113::u114::u115::u116::u117::u118::u119::u120::u121::u122::u123::u124::u125::u126::u127::u128::u129::u130::u131::u132::u133::u134::u135::u136::u137::u138::u139::u140::u141::u142::u143::u144::u145::u146::u147::u148::u149::u150::u151::u152::u153::u154::u155::u156::u157::u158::u159::u160::u161::u162::u163::u164::u165::u166::u167::u168::u169::u170::u171::u172::u173::u174::u175::u176::u177::u178::u179::u180::u181::u182::u183::u184::u185::u186::u187::u188::u189::u190::u191::u192::u193::u194::u195::u196::u197::u198::u199::u200::u201::u202::u203::u204::u205::u206::u207::u208::u209::u210::u211::u212::u213::u214::u215::u216::u217::u218::u219::u220::u221::u222::u223::u224::u225::u226::u227::u228::u229::u230::u231::u232::u233::[]), []⟩ w'))
    (hK : ∀ a w, Code.wp Try.prog ((tailOf 23 (Try.f21.body.getD .skip)).getD .skip) Q a w → Kx a w) :
    Code.wp Try.prog ((regionOf 22 (Try.f21.body.getD .skip)).getD .skip) (Exit.then Kx Q) ⟨List.toArray ((.pointer (some ⟨O, 0, none⟩))::(.int .i64 (i : Int))::c2::c3::c4::c5::c6::c7::c8::c9::(.pointer (some ⟨P, 0, none⟩))::(.int .i64 (at_ : Int))::c12::(.int .i64 kid)::c14::c15::(.pointer (some ⟨C, 0, none⟩))::c17::c18::c19::c20::c21::c22::c23::c24::c25::c26::c27::c28::c29::c30::c31::c32::c33::c34::c35::c36::c37::c38::c39::c40::c41::c42::c43::c44::c45::c46::c47::c48::c49::c50::c51::c52::c53::c54::c55::c56::c57::c58::c59::c60::c61::c62::c63::c64::c65::c66::c67::c68::c69::c70::c71::c72::c73::c74::c75::c76::c77::c78::c79::c80::c81::c82::c83::c84::c85::c86::c87::c88::c89::c90::c91::c92::c93::c94::c95::c96::c97::c98::c99::c100::c101::c102::c103::c104::c105::c106::c107::c108::c109::c110::c111::c112::c113::c114::c115::c116::c117::c118::c119::c120::c121::c122::c123::c124::c125::c126::c127::c128::c129::c130::c131::c132::c133::c134::c135::c136::c137::c138::c139::c140::c141::c142::c143::c144::c145::c146::c147::c148::c149::c150::c151::c152::c153::c154::c155::c156::c157::c158::c159::c160::c161::c162::c163::c164::c165::c166::c167::c168::c169::c170::c171::c172::c173::c174::c175::c176::c177::c178::c179::c180::c181::c182::c183::c184::c185::c186::c187::c188::c189::c190::c191::c192::c193::c194::c195::c196::c197::c198::c199::c200::c201::c202::c203::c204::c205::c206::c207::c208::c209::c210::c211::c212::c213::c214::c215::c216::c217::c218::c219::c220::c221::c222::c223::c224::c225::c226::c227::c228::c229::c230::c231::c232::c233::[]), []⟩ w0 := by
  conv => arg 2; whnf
  have hbx := hbox.out
  have hPl := (Array.getElem?_eq_some_iff.1 hpb.out.box).1
  have hCl0 := (Array.getElem?_eq_some_iff.1 hbx).1
  have hk4 := hpb.out.k4
  obtain ⟨p0, p1, p2, p3, p4, -⟩ := box5 hpb.out.box
  rcases hpl : p.leaf with _ | _
  · have HPL := Lib.hid hpl
    rw [hpl] at p0 hbx
    have hd : D = K + 1 := by have h9 := hpb.out.d5; rw [hpl] at h9; simpa using h9
    subst hd
    have HBX := Lib.hid hbx
    clear hpl hbx
    have hq1 : IntKind.i64.wrap ((at_ : Int) + 1) = ((at_ + 1 : Nat) : Int) := by rw [IntKind.wrap_i64]; omega
    go_wp2_with fail
    conv => arg 2; whnf
    go_wp2_with fail
    change Code.wp _ (Code.loop (loopAt Try.f21 2)) _ _ _
    refine ad4 _ w0 P C (at_ + 1) (K + 1) cd ad kid p.kids (by omega) (by omega) (Ne.symm hC.2.2.2) (by have := hpb.out.k4; omega) (by omega) (Lib.hid hpb.out.dl) _ _ _ _ p2 hD3 HBX.out ?_
    refine Lib.hid ?_
    iterate 32 intro _
    intro w1 vd hd1 hbx1 hgr1
    obtain ⟨gd, dd, rfl⟩ : ∃ gd dd, vd = .slice (some ⟨gd, 0, none⟩) (K + 1 + 1) dd := by
      rcases hd1 with ⟨-, ⟨-, h0⟩ | ⟨g, c, _, h2, -⟩⟩
      · omega
      · exact ⟨g, c, h2⟩
    have hgd := hd1.lt gd rfl
    have hdc : K + 1 + 1 ≤ dd ∧ dd ≤ maxLen := by obtain ⟨_, _, _, e, h3, h4, _⟩ := Rd.own hd1; cases e; exact ⟨h3, h4⟩
    have hz1 := hgr1.size
    have hf1 : ∀ b, b < w0.heap.size → b ≠ C → w1.heap[b]? = w0.heap[b]? := fun b h1 h2 => hgr1.block b h1 (fun e => h2 (Option.some.inj e))
    have hOl : O < w0.heap.size := by obtain ⟨_, _, h1, -⟩ := hdt.out.row; exact (Array.getElem?_eq_some_iff.1 h1).1
    have hPBl : PB < w0.heap.size := by obtain ⟨_, _, -, h1, -⟩ := hdt.out.row; exact (h1.lt PB rfl).2
    have hCl := (Array.getElem?_eq_some_iff.1 HBX.out).1
    have hg1 : ∀ b, (Gx w0 BO O PB b ∧ b ≠ C) → Gx w1 BO O PB b := fun b g => ⟨g.1.1, by have := g.1.2.1; omega, g.1.2.2⟩
    have hag1 : Agree (fun b => Gx w0 BO O PB b ∧ b ≠ C) w0 w1 := fun b g hlt => hf1 b hlt g.2
    have hdl := hpb.out.dl
    have hQB : QB w1 BO O PB C false gk (K + 1) kk gd (K + 1 + 1) dd nh chh ah p.next ks' (insAt p.kids (at_ + 1) kid) p.high := by
      refine ⟨hbx1, ?_, ⟨?_, fun a m c e g => ?_⟩, RB.mono (hhr.out.agree hag1) hg1, hkl.out, ?_, hkk, hdc, hC.1, hC.2.1, hC.2.2.1⟩
      · obtain ⟨us', m1, m2, m3⟩ := hkr.out.agree hag1
        exact ⟨us', m1, fun a n c e g => hg1 _ (m2 a n c e g), fun j s hs => by obtain ⟨x, x1, x2⟩ := m3 j s hs; exact ⟨x, x1, x2.mono hg1⟩⟩
      · have h9 : (insAt p.kids (at_ + 1) kid).length = K + 1 + 1 := by simp [insAt]; omega
        rw [h9]
        exact Rd.own hd1
      · cases e
        have h8 := hdt.out.pb
        exact ⟨by show BO ≤ gd; omega, hgd.2, by show gd ≠ PB; omega, by show gd ≠ O; omega⟩
      · simp [insAt]; omega
    have hDT : DT w1 BO O PB ps root := by
      obtain ⟨d1, d2, d3, -⟩ := hdt.out
      obtain ⟨cap, vs, d4, d5, d6⟩ := hpsC.out
      refine ⟨d1, d2, d3, cap, vs, (hf1 O hOl (Ne.symm hC.2.2.1)).trans d4, own_far d5 fun b hb => ?_, RPs.mono (d6.agree hag1) hg1⟩
      have hb' := own_eq hb
      subst hb'
      exact hf1 _ hPBl (Ne.symm hC.2.1)
    have HQB := Lib.hid hQB
    have HDT := Lib.hid hDT
    have HB1 : Hid (∀ b, b < wb.heap.size → b ≠ O → b ≠ PBb → w1.heap[b]? = wb.heap[b]?) := Lib.hid fun b h1 h2 h3 => (hf1 b (by omega) (by omega)).trans (hbf.out b h1 h2 h3)
    have HO1 : Hid (w1.os = wb.os ∧ w1.tape = wb.tape ∧ w1.output = wb.output) := Lib.hid ⟨hgr1.os.trans hbo.1, hgr1.tape.trans hbo.2.1, hgr1.output.trans hbo.2.2⟩
    have hPx := (hf1 P hPl (Ne.symm hC.2.2.2)).trans hpb.out.box
    obtain ⟨e0, e1, e2, e3, e4, -⟩ := box5 hPx
    rw [HPL.out] at e0
    have hatP := hpb.out.at_
    clear hd1 hbx1 hgr1 hf1 hg1 hag1 hQB hDT hPx p0 p2
    go_step
    go_step
    change Code.wp _ ((tailOf 32 (Try.f21.body.getD .skip)).getD .skip) _ _ _
    by_cases hk4 : K + 1 ≤ 4
    · refine at32f _ w1 O PB C BO i root ps p ks' (insAt p.kids (at_ + 1) kid) gk (K + 1) kk gd (K + 1 + 1) dd nh chh ah HDT hi (Lib.hid (by rw [HPL.out]; exact HQB.out)) hk4 ?_
      refine Lib.hid ?_
      intro y0 y1 y2 y3 y4 y5 y6 y7 y8 y9 y10 w2 hadd
      refine hret.out _ _ _ _ _ _ _ _ _ _ _ _ _ _ _ _ _ _ _ _ _ _ _ _ _ _ _ _ _ _ _ _ _ _ _ _ _ _ _ _ _ _ _ _ _ _ _ _ _ _ _ _ _ _ _ _ _ _ _ _ _ _ _ _ _ _ _ _ _ _ _ _ _ _ _ _ _ _ _ _ _ _ _ _ _ _ _ _ _ _ _ _ _ _ _ _ _ _ _ _ _ _ _ _ _ _ _ _ _ _ _ _ _ _ _ _ _ _ _ _ _ _ _ _ _ _ _ _ w2 ?_
      rw [HPL.out]
      exact hadd.base (by omega) hbp HB1.out HO1.out
    · obtain rfl : K = 4 := by have := hpb.out.k4; omega
      refine at32n _ w1 O PB P C BO i root ps p ks' (insAt p.kids (at_ + 1) kid) gk kk gd dd nh chh ah HDT hi HQB HPL e0 e3 e4 ⟨hatP.2.1, hatP.2.2, Ne.symm hC.2.2.2⟩ hks hN ?_
      refine Lib.hid ?_
      iterate 87 intro _
      intro w2 pb po un pc hadd
      refine hret.out _ _ _ _ _ _ _ _ _ _ _ _ _ _ _ _ _ _ _ _ _ _ _ _ _ _ _ _ _ _ _ _ _ _ _ _ _ _ _ _ _ _ _ _ _ _ _ _ _ _ _ _ _ _ _ _ _ _ _ _ _ _ _ _ _ _ _ _ _ _ _ _ _ _ _ _ _ _ _ _ _ _ _ _ _ _ _ _ _ _ _ _ _ _ _ _ _ _ _ _ _ _ _ _ _ _ _ _ _ _ _ _ _ _ _ _ _ _ _ _ _ _ _ _ _ _ _ _ w2 ?_
      rw [HPL.out]
      exact hadd.base (by omega) hbp HB1.out HO1.out
  · have HPL := Lib.hid hpl
    rw [hpl] at p0 hbx
    have hd : D = K := by have h9 := hpb.out.d5; rw [hpl] at h9; simpa using h9
    obtain rfl : K = D := hd.symm
    have HBX := Lib.hid hbx
    clear hpl hbx
    have hq0 : at_ ≤ K := hat
    go_wp2_with fail
    conv => arg 2; whnf
    go_wp2_with fail
    change Code.wp _ (Code.loop (loopAt Try.f21 2)) _ _ _
    refine ad4 _ w0 P C at_ (K) cd ad kid p.kids (by omega) (by omega) (Ne.symm hC.2.2.2) (by have := hpb.out.k4; omega) (by omega) (Lib.hid hpb.out.dl) _ _ _ _ p2 hD3 HBX.out ?_
    refine Lib.hid ?_
    iterate 32 intro _
    intro w1 vd hd1 hbx1 hgr1
    obtain ⟨gd, dd, rfl⟩ : ∃ gd dd, vd = .slice (some ⟨gd, 0, none⟩) (K + 1) dd := by
      rcases hd1 with ⟨-, ⟨-, h0⟩ | ⟨g, c, _, h2, -⟩⟩
      · omega
      · exact ⟨g, c, h2⟩
    have hgd := hd1.lt gd rfl
    have hdc : K + 1 ≤ dd ∧ dd ≤ maxLen := by obtain ⟨_, _, _, e, h3, h4, _⟩ := Rd.own hd1; cases e; exact ⟨h3, h4⟩
    have hz1 := hgr1.size
    have hf1 : ∀ b, b < w0.heap.size → b ≠ C → w1.heap[b]? = w0.heap[b]? := fun b h1 h2 => hgr1.block b h1 (fun e => h2 (Option.some.inj e))
    have hOl : O < w0.heap.size := by obtain ⟨_, _, h1, -⟩ := hdt.out.row; exact (Array.getElem?_eq_some_iff.1 h1).1
    have hPBl : PB < w0.heap.size := by obtain ⟨_, _, -, h1, -⟩ := hdt.out.row; exact (h1.lt PB rfl).2
    have hCl := (Array.getElem?_eq_some_iff.1 HBX.out).1
    have hg1 : ∀ b, (Gx w0 BO O PB b ∧ b ≠ C) → Gx w1 BO O PB b := fun b g => ⟨g.1.1, by have := g.1.2.1; omega, g.1.2.2⟩
    have hag1 : Agree (fun b => Gx w0 BO O PB b ∧ b ≠ C) w0 w1 := fun b g hlt => hf1 b hlt g.2
    have hdl := hpb.out.dl
    have hQB : QB w1 BO O PB C true gk (K + 1) kk gd (K + 1) dd nh chh ah p.next ks' (insAt p.kids at_ kid) p.high := by
      refine ⟨hbx1, ?_, ⟨?_, fun a m c e g => ?_⟩, RB.mono (hhr.out.agree hag1) hg1, hkl.out, ?_, hkk, hdc, hC.1, hC.2.1, hC.2.2.1⟩
      · obtain ⟨us', m1, m2, m3⟩ := hkr.out.agree hag1
        exact ⟨us', m1, fun a n c e g => hg1 _ (m2 a n c e g), fun j s hs => by obtain ⟨x, x1, x2⟩ := m3 j s hs; exact ⟨x, x1, x2.mono hg1⟩⟩
      · have h9 : (insAt p.kids at_ kid).length = K + 1 := by simp [insAt]; omega
        rw [h9]
        exact Rd.own hd1
      · cases e
        have h8 := hdt.out.pb
        exact ⟨by show BO ≤ gd; omega, hgd.2, by show gd ≠ PB; omega, by show gd ≠ O; omega⟩
      · simp [insAt]; omega
    have hDT : DT w1 BO O PB ps root := by
      obtain ⟨d1, d2, d3, -⟩ := hdt.out
      obtain ⟨cap, vs, d4, d5, d6⟩ := hpsC.out
      refine ⟨d1, d2, d3, cap, vs, (hf1 O hOl (Ne.symm hC.2.2.1)).trans d4, own_far d5 fun b hb => ?_, RPs.mono (d6.agree hag1) hg1⟩
      have hb' := own_eq hb
      subst hb'
      exact hf1 _ hPBl (Ne.symm hC.2.1)
    have HQB := Lib.hid hQB
    have HDT := Lib.hid hDT
    have HB1 : Hid (∀ b, b < wb.heap.size → b ≠ O → b ≠ PBb → w1.heap[b]? = wb.heap[b]?) := Lib.hid fun b h1 h2 h3 => (hf1 b (by omega) (by omega)).trans (hbf.out b h1 h2 h3)
    have HO1 : Hid (w1.os = wb.os ∧ w1.tape = wb.tape ∧ w1.output = wb.output) := Lib.hid ⟨hgr1.os.trans hbo.1, hgr1.tape.trans hbo.2.1, hgr1.output.trans hbo.2.2⟩
    have hPx := (hf1 P hPl (Ne.symm hC.2.2.2)).trans hpb.out.box
    obtain ⟨e0, e1, e2, e3, e4, -⟩ := box5 hPx
    rw [HPL.out] at e0
    have hatP := hpb.out.at_
    clear hd1 hbx1 hgr1 hf1 hg1 hag1 hQB hDT hPx p0 p2
    go_step
    go_step
    change Code.wp _ ((tailOf 32 (Try.f21.body.getD .skip)).getD .skip) _ _ _
    by_cases hk4 : K + 1 ≤ 4
    · refine at32f _ w1 O PB C BO i root ps p ks' (insAt p.kids at_ kid) gk (K + 1) kk gd (K + 1) dd nh chh ah HDT hi (Lib.hid (by rw [HPL.out]; exact HQB.out)) hk4 ?_
      refine Lib.hid ?_
      intro y0 y1 y2 y3 y4 y5 y6 y7 y8 y9 y10 w2 hadd
      refine hret.out _ _ _ _ _ _ _ _ _ _ _ _ _ _ _ _ _ _ _ _ _ _ _ _ _ _ _ _ _ _ _ _ _ _ _ _ _ _ _ _ _ _ _ _ _ _ _ _ _ _ _ _ _ _ _ _ _ _ _ _ _ _ _ _ _ _ _ _ _ _ _ _ _ _ _ _ _ _ _ _ _ _ _ _ _ _ _ _ _ _ _ _ _ _ _ _ _ _ _ _ _ _ _ _ _ _ _ _ _ _ _ _ _ _ _ _ _ _ _ _ _ _ _ _ _ _ _ _ w2 ?_
      rw [HPL.out]
      exact hadd.base (by omega) hbp HB1.out HO1.out
    · obtain rfl : K = 4 := by have := hpb.out.k4; omega
      refine at32l _ w1 O PB P C BO i root ps p ks' (insAt p.kids at_ kid) gk kk gd dd nh chh ah HDT hi HQB HPL e0 e3 e4 ⟨hatP.2.1, hatP.2.2, Ne.symm hC.2.2.2⟩ hks hN ?_
      refine Lib.hid ?_
      iterate 87 intro _
      intro w2 pb po un pc hadd
      refine hret.out _ _ _ _ _ _ _ _ _ _ _ _ _ _ _ _ _ _ _ _ _ _ _ _ _ _ _ _ _ _ _ _ _ _ _ _ _ _ _ _ _ _ _ _ _ _ _ _ _ _ _ _ _ _ _ _ _ _ _ _ _ _ _ _ _ _ _ _ _ _ _ _ _ _ _ _ _ _ _ _ _ _ _ _ _ _ _ _ _ _ _ _ _ _ _ _ _ _ _ _ _ _ _ _ _ _ _ _ _ _ _ _ _ _ _ _ _ _ _ _ _ _ _ _ _ _ _ _ w2 ?_
      rw [HPL.out]
      exact hadd.base (by omega) hbp HB1.out HO1.out
end Go.Proofs.Ytahammkjkfdmhaa
