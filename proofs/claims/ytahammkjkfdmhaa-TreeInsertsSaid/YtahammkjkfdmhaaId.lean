/- The document's check of a tree: the kids of a page of a level, with their bounds. -/
import Derived.Test.YtahammkjkfdmhaaHs
namespace Go.Proofs.Ytahammkjkfdmhaa
open Go.ChangeShapes Go.WideShapes Go.ChangeAt Go.RowKit
set_option linter.unusedVariables false
set_option linter.unusedSimpArgs false
set_option maxHeartbeats 2000000
set_option maxRecDepth 1000000
/-- The loops of a text, one behind the other. -/
def loopsOf : Code → List Code
  | .loop c => c :: loopsOf c
  | .seq a b => loopsOf a ++ loopsOf b
  | .block _ c => loopsOf c
  | .scope c => loopsOf c
  | .cond _ a b => loopsOf a ++ loopsOf b
  | _ => []
noncomputable def loopAt (f : Func) (i : Nat) : Code := (loopsOf (f.body.getD .skip)).getD i .skip
theorem infoI_ks : (Try.prog.info? 25).map (fun i => (i.zero, i.size, i.bytes)) = some (some (.slice none 0 0), 1, 24) := by kernel_rfl
/-- Cells that are slices of bytes, and read so. -/
def Ks (w : World) (ok : Nat → Prop) (us : List Value) (ks : List Key) : Prop := us.length = ks.length ∧ ∀ (i : Nat) (k : Key), ks[i]? = some k → ∃ x, us[i]? = some x ∧ RB w ok x k
theorem Ks.nil (w : World) (ok : Nat → Prop) : Ks w ok [] [] := ⟨rfl, fun i k h => by simp at h⟩
theorem Ks.agree {w w' : World} {ok : Nat → Prop} {us : List Value} {ks : List Key} (h : Ks w ok us ks) (hag : Agree ok w w') : Ks w' ok us ks := ⟨h.1, fun i k hk => by obtain ⟨x, h1, h2⟩ := h.2 i k hk; exact ⟨x, h1, h2.agree hag⟩⟩
theorem Ks.snoc {w : World} {ok : Nat → Prop} {us : List Value} {ks : List Key} {x : Value} {k : Key} (h : Ks w ok us ks) (hx : RB w ok x k) : Ks w ok (us ++ [x]) (ks ++ [k]) := by
  refine ⟨by simp [h.1], fun i s hs => ?_⟩
  rw [List.getElem?_append] at hs
  split at hs
  · obtain ⟨y, h1, h2⟩ := h.2 i s hs
    refine ⟨y, ?_, h2⟩
    rw [List.getElem?_append, if_pos (by rw [h.1]; assumption)]
    exact h1
  · rename_i hlt
    have : i - ks.length = 0 := by
      have := (List.getElem?_eq_some_iff.1 hs).1
      simp at this
      omega
    rw [this] at hs
    simp only [List.getElem?_cons_zero, Option.some.injEq] at hs
    subst hs
    refine ⟨x, ?_, hx⟩
    rw [List.getElem?_append, if_neg (by rw [h.1]; exact hlt), h.1, this]
    rfl
/-- Places and bounds, in three slices of the call's own. -/
structure Own3 (w : World) (B : Nat) (ok : Nat → Prop) (P : Nat) (v8 v9 v10 : Value) (l : List Spot) : Prop where
  a : w.ownsRow B 3 1 v8 l.length (ic (l.map fun x => (x.1 : Int)))
  b : ∃ us, w.ownsRow B 25 1 v9 l.length us ∧ Ks w ok us (l.map (·.2.1))
  c : ∃ us, w.ownsRow B 25 1 v10 l.length us ∧ Ks w ok us (l.map (·.2.2))
  ab : ∀ g, v8.ownBlock = some g → v9.ownBlock ≠ some g ∧ v10.ownBlock ≠ some g ∧ g ≠ P
  bc : ∀ g, v9.ownBlock = some g → v10.ownBlock ≠ some g ∧ g ≠ P
  cp : ∀ g, v10.ownBlock = some g → g ≠ P
theorem Ks.one {w : World} {ok : Nat → Prop} {us : List Value} {ks : List Key} (h : Ks w ok us ks) : ∀ u ∈ us, u.oneCell' = true := by
  intro u hu
  obtain ⟨i, hi, rfl⟩ := List.mem_iff_getElem.1 hu
  have hi' : i < ks.length := by rw [← h.1]; exact hi
  obtain ⟨x, h1, h2⟩ := h.2 i ks[i] (List.getElem?_eq_getElem hi')
  rw [List.getElem?_eq_getElem hi] at h1
  obtain rfl := Option.some.inj h1
  exact h2.cell
theorem gt_ne {g : Nat} {v : Value} {o : Option Nat} (h : v.ownBlock = o) (hg : v.ownBlock = some g) : o = some g := h ▸ hg
theorem Own3.n9 {w : World} {B P : Nat} {ok : Nat → Prop} {v8 v9 v10 : Value} {l : List Spot} (h : Own3 w B ok P v8 v9 v10 l) : v9.ownBlock = none ∨ v9.ownBlock ≠ v8.ownBlock := by
  rcases he : v8.ownBlock with _ | g
  · rcases he9 : v9.ownBlock with _ | g
    · exact .inl rfl
    · exact .inr (by simp)
  · exact .inr (h.ab g he).1
theorem Own3.n10 {w : World} {B P : Nat} {ok : Nat → Prop} {v8 v9 v10 : Value} {l : List Spot} (h : Own3 w B ok P v8 v9 v10 l) : v10.ownBlock = none ∨ v10.ownBlock ≠ v8.ownBlock := by
  rcases he : v8.ownBlock with _ | g
  · rcases he9 : v10.ownBlock with _ | g
    · exact .inl rfl
    · exact .inr (by simp)
  · exact .inr (h.ab g he).2.1
theorem Own3.m10 {w : World} {B P : Nat} {ok : Nat → Prop} {v8 v9 v10 : Value} {l : List Spot} (h : Own3 w B ok P v8 v9 v10 l) : v10.ownBlock = none ∨ v10.ownBlock ≠ v9.ownBlock := by
  rcases he : v9.ownBlock with _ | g
  · rcases he9 : v10.ownBlock with _ | g
    · exact .inl rfl
    · exact .inr (by simp)
  · exact .inr (h.bc g he).1
/-- One place more, behind the three appends. -/
theorem Own3.step {w w1 w2 w3 : World} {B P : Nat} {ok : Nat → Prop} {v8 v9 v10 y8 y9 y10 : Value} {l : List Spot} {c : Int} {x : Spot} {lo hi : Value} (h : Own3 w B ok P v8 v9 v10 l) (hok : ∀ b, ok b → b < B) (hB : B ≤ w.heap.size) (hP : P < w.heap.size) (hc : c = (x.1 : Int)) (hlo : RB w ok lo x.2.1) (hhi : RB w ok hi x.2.2)
    (b1 : Below B w w1) (b2 : Below B w1 w2) (b3 : Below B w2 w3)
    (o1 : w1.ownsRow B 3 1 y8 (l.length + 1) (ic (l.map fun x => (x.1 : Int)) ++ [.int .i64 c])) (g1 : w.grownBy w1 v8.ownBlock) (e1 : y8.ownBlock = v8.ownBlock ∨ y8.ownBlock = some (w.heap.size + 1))
    (us hs : List Value) (u1 : w.ownsRow B 25 1 v9 l.length us) (u2 : Ks w ok us (l.map (·.2.1))) (k1 : w.ownsRow B 25 1 v10 l.length hs) (k2 : Ks w ok hs (l.map (·.2.2)))
    (r2 : w2.ownsRow B 25 1 y9 (l.length + 1) (us ++ [lo])) (g2 : w1.grownBy w2 v9.ownBlock) (e2 : y9.ownBlock = v9.ownBlock ∨ y9.ownBlock = some (w1.heap.size + 1))
    (r3 : w3.ownsRow B 25 1 y10 (l.length + 1) (hs ++ [hi])) (g3 : w2.grownBy w3 v10.ownBlock) (e3 : y10.ownBlock = v10.ownBlock ∨ y10.ownBlock = some (w2.heap.size + 1)) :
    Own3 w3 B ok P y8 y9 y10 (l ++ [x]) := by
  have z1 := b1.size
  have z2 := b2.size
  have h8 := h.a.lt
  have h9 := u1.lt
  have h10 := k1.lt
  have m8 : y8.ownBlock = none ∨ y8.ownBlock ≠ v9.ownBlock := by
    rcases he : y8.ownBlock with _ | g
    · exact .inl rfl
    · refine .inr fun hh => ?_
      rcases e1 with e | e
      · rw [e] at he
        exact (h.ab g he).1 hh.symm
      · rw [e] at he
        have := h9 g hh.symm
        have := Option.some.inj he
        omega
  have m8' : y8.ownBlock = none ∨ y8.ownBlock ≠ v10.ownBlock := by
    rcases he : y8.ownBlock with _ | g
    · exact .inl rfl
    · refine .inr fun hh => ?_
      rcases e1 with e | e
      · rw [e] at he
        exact (h.ab g he).2.1 hh.symm
      · rw [e] at he
        have := h10 g hh.symm
        have := Option.some.inj he
        omega
  have m9' : y9.ownBlock = none ∨ y9.ownBlock ≠ v10.ownBlock := by
    rcases he : y9.ownBlock with _ | g
    · exact .inl rfl
    · refine .inr fun hh => ?_
      rcases e2 with e | e
      · rw [e] at he
        exact (h.bc g he).1 hh.symm
      · rw [e] at he
        have := h10 g hh.symm
        have := Option.some.inj he
        omega
  have hs1 : y8.ownBlock = some (w.heap.size + 1) → w.heap.size + 1 < w1.heap.size := fun e => (o1.lt _ e).2
  have hs2 : y9.ownBlock = some (w1.heap.size + 1) → w1.heap.size + 1 < w2.heap.size := fun e => (r2.lt _ e).2
  have a13 : Agree ok w w3 := fun b hb _ => ((b1.trans b2).trans b3).block b (hok b hb)
  refine ⟨?_, ⟨us ++ [lo], ?_, ?_⟩, ⟨hs ++ [hi], ?_, ?_⟩, fun g hg => ⟨fun hh => ?_, fun hh => ?_, ?_⟩, fun g hg => ⟨fun hh => ?_, ?_⟩, fun g hg => ?_⟩
  · refine own_to ((o1.kept g2 m8).kept g3 m8') (by simp) ?_
    simp [ic, hc]
  · exact own_to (r2.kept g3 m9') (by simp) rfl
  · rw [List.map_append]
    exact (u2.agree a13).snoc (hlo.agree a13)
  · exact own_to r3 (by simp) rfl
  · rw [List.map_append]
    exact (k2.agree a13).snoc (hhi.agree a13)
  · rcases e1 with e | e <;> rcases e2 with f | f <;> rw [e] at hg <;> rw [f] at hh
    · exact (h.ab g hg).1 hh
    · have := h8 g hg
      have := Option.some.inj hh
      omega
    · have := h9 g hh
      have := Option.some.inj hg
      omega
    · have := Option.some.inj hg
      have := Option.some.inj hh
      have := hs1 e
      omega
  · rcases e1 with e | e <;> rcases e3 with f | f <;> rw [e] at hg <;> rw [f] at hh
    · exact (h.ab g hg).2.1 hh
    · have := h8 g hg
      have := Option.some.inj hh
      omega
    · have := h10 g hh
      have := Option.some.inj hg
      omega
    · have := Option.some.inj hg
      have := Option.some.inj hh
      have := hs1 e
      omega
  · rcases e1 with e | e <;> rw [e] at hg
    · exact (h.ab g hg).2.2
    · have := Option.some.inj hg
      omega
  · rcases e2 with e | e <;> rcases e3 with f | f <;> rw [e] at hg <;> rw [f] at hh
    · exact (h.bc g hg).1 hh
    · have := h9 g hg
      have := Option.some.inj hh
      omega
    · have := h10 g hh
      have := Option.some.inj hg
      omega
    · have := Option.some.inj hg
      have := Option.some.inj hh
      have := hs2 e
      omega
  · rcases e2 with e | e <;> rw [e] at hg
    · exact (h.bc g hg).2
    · have := Option.some.inj hg
      omega
  · rcases e3 with e | e <;> rw [e] at hg
    · exact h.cp g hg
    · have := Option.some.inj hg
      omega
end Go.Proofs.Ytahammkjkfdmhaa
/- The document's check of a tree: the kids of a page of a level, walked. -/
namespace Go.Proofs.Ytahammkjkfdmhaa
open Go.ChangeShapes Go.WideShapes Go.ChangeAt Go.RowKit
set_option linter.unusedVariables false
set_option linter.unusedSimpArgs false
set_option maxHeartbeats 2000000
variable {c0 c1 c2 c3 c4 c5 c7 c13 c16 c17 c18 c19 c20 c21 c22 c23 c24 c25 c26 c27 c28 c29 c30 c31 c32 c33 c34 c35 c36 c37 c38 c39 c40 c41 c42 c43 c44 c45 c46 c47 c48 c49 c50 c51 c52 c53 c54 c55 c56 c57 c58 c59 c60 c61 c62 c63 c64 c65 c66 c67 c68 c69 c70 c71 c72 c73 c74 c75 c76 c77 c78 c79 c80 c81 c82 c83 c84 c85 c86 c87 c88 c89 c90 c91 c92 c93 c94 c95 c96 c97 c98 c99 c100 c101 c102 c103 c104 c105 c106 c107 c108 c109 c110 c111 c112 c113 c114 c115 c116 c117 c118 c119 c120 c121 c122 c123 c124 c125 c126 c127 c128 c129 c130 c131 c132 c133 c134 c135 c136 c137 c138 c139 c140 c141 c142 c143 c144 c145 c146 c147 c148 c149 c150 c151 c152 c153 c154 c155 c156 c157 c158 c159 c160 c161 c162 c163 c164 c165 c166 c167 c168 c169 c170 c171 c172 c173 c174 c175 c176 c177 c178 c179 c180 c181 c182 c183 c184 c185 c186 c187 c188 c189 c190 c191 c192 c193 c194 c195 c196 c197 c198 c199 c200 c201 c202 c203 c204 c205 c206 c207 c208 c209 c210 c211 c212 c213 c214 c215 c216 c217 c218 c219 c220 c221 c222 c223 c224 c225 c226 c227 c228 c229 c230 c231 c232 c233 c234 c235 c236 c237 c238 c239 c240 : Value}
set_option maxRecDepth 1000000
theorem tf4 (Q : Exit → Act → World → Prop)  (w0 : World) (B P : Nat) (ok : Nat → Prop) (hok : ∀ b, ok b → b < B) (hBw : B ≤ w0.heap.size) (hPB : B ≤ P) (hPw : P < w0.heap.size) (leaf : Bool) (ks : List Key) (ds : List Int) (K D : Nat) (hK : K = ks.length) (hD : D = ds.length) (hDK : leaf = false → D = K + 1) (hK4 : K ≤ 4) (hDm : D ≤ 4611686018427387904) (hds : ∀ c ∈ ds, 0 ≤ c)
    (ak ad : Option Addr) (ck cd : Nat) (ff : Nat → Value) (p0 : w0.cell? ⟨P, 0, none⟩ = some (.bool leaf)) (p1 : w0.cell? ⟨P, 1, none⟩ = some (.slice ak K ck)) (p2 : w0.cell? ⟨P, 2, none⟩ = some (.slice ad D cd))
    (K3 : Hid (∀ i, i < K → ∃ b o, ak = some ⟨b, o, none⟩ ∧ ok b ∧ w0.cell? ⟨b, o + i, none⟩ = some (ff i) ∧ RB w0 ok (ff i) (ks.getD i []))) (D3 : Hid (∀ i, i < D → ∃ b o, ad = some ⟨b, o, none⟩ ∧ ok b ∧ w0.cell? ⟨b, o + i, none⟩ = some (.int .i64 (ds.getD i 0))))
    (lo hi : Key) (lv : Value) (hlo : RB w0 ok lv lo) (ah : Option Addr) (nh ch : Nat) (hhi : RB w0 ok (.slice ah nh ch) hi) (b6 o6 L cap6 k : Nat) (hb6 : b6 < B) (hkL : k < L) (h6 : w0.cell? ⟨b6, o6 + k, none⟩ = some (.slice ah nh ch))
    (v8 v9 v10 : Value) (l : List Spot) (hown : Own3 w0 B ok P v8 v9 v10 l) (hl : l.length ≤ 1000000)
    (hexit : ∀ (u8 u9 u10 u14 u15 u16 u139 u140 u141 u142 u143 u144 u145 u146 u147 u148 u149 u150 u151 u152 u153 u154 u155 u156 u157 u158 u159 u160 u161 u162 u163 u164 u165 u166 u167 u168 u169 u170 u171 u172 u173 u174 u175 u176 u177 u178 u179 u180 u181 : Value) (w' : World), Own3 w' B ok P u8 u9 u10 (l ++ if leaf then [] else kidsB lo hi ds ks) → Below B w0 w' → Q (.exit 6) ⟨List.toArray (c0::c1::c2::c3::c4::c5::(.slice (some ⟨b6, o6, none⟩) L cap6)::c7::u8::u9::u10::(.int .i64 (k : Int))::(.pointer (some ⟨P, 0, none⟩))::c13::u14::u15::u16::c17::c18::c19::c20::c21::c22::c23::c24::c25::c26::c27::c28::c29::c30::c31::c32::c33::c34::c35::c36::c37::c38::c39::c40::c41::c42::c43::c44::c45::c46::c47::c48::c49::c50::c51::c52::c53::c54::c55::c56::c57::c58::c59::c60::c61::c62::c63::c64::c65::c66::c67::c68::c69::c70::c71::c72::c73::c74::c75::c76::c77::c78::c79::c80::c81::c82::c83::c84::c85::c86::c87::c88::c89::c90::c91::c92::c93::c94::c95::c96::c97::c98::c99::c100::c101::c102::c103::c104::c105::c106::c107::c108::c109::c110::c111::c112::c113::c114::c115::c116::c117::c118::c119::c120::c121::c122::c123::c124::c125::c126::c127::c128::c129::c130::c131::c132::c133::c134::c135::c136::c137::c138::u139::u140::u141::u142::u143::u144::u145::u146::u147::u148::u149::u150::u151::u152::u153::u154::u155::u156::u157::u158::u159::u160::u161::u162::u163::u164::u165::u166::u167::u168::u169::u170::u171::u172::u173::u174::u175::u176::u177::u178::u179::u180::u181::c182::c183::c184::c185::c186::c187::c188::c189::c190::c191::c192::c193::c194::c195::c196::c197::c198::c199::c200::c201::c202::c203::c204::c205::c206::c207::c208::c209::c210::c211::c212::c213::c214::c215::c216::c217::c218::c219::c220::c221::c222::c223::c224::c225::c226::c227::c228::c229::c230::c231::c232::c233::c234::c235::c236::c237::c238::c239::c240::[]), []⟩ w') :
    Code.wp Try.prog (Code.loop (loopAt Try.f36 3)) Q ⟨List.toArray (c0::c1::c2::c3::c4::c5::(.slice (some ⟨b6, o6, none⟩) L cap6)::c7::v8::v9::v10::(.int .i64 (k : Int))::(.pointer (some ⟨P, 0, none⟩))::c13::lv::(.int .i64 0)::c16::c17::c18::c19::c20::c21::c22::c23::c24::c25::c26::c27::c28::c29::c30::c31::c32::c33::c34::c35::c36::c37::c38::c39::c40::c41::c42::c43::c44::c45::c46::c47::c48::c49::c50::c51::c52::c53::c54::c55::c56::c57::c58::c59::c60::c61::c62::c63::c64::c65::c66::c67::c68::c69::c70::c71::c72::c73::c74::c75::c76::c77::c78::c79::c80::c81::c82::c83::c84::c85::c86::c87::c88::c89::c90::c91::c92::c93::c94::c95::c96::c97::c98::c99::c100::c101::c102::c103::c104::c105::c106::c107::c108::c109::c110::c111::c112::c113::c114::c115::c116::c117::c118::c119::c120::c121::c122::c123::c124::c125::c126::c127::c128::c129::c130::c131::c132::c133::c134::c135::c136::c137::c138::c139::c140::c141::c142::c143::c144::c145::c146::c147::c148::c149::c150::c151::c152::c153::c154::c155::c156::c157::c158::c159::c160::c161::c162::c163::c164::c165::c166::c167::c168::c169::c170::c171::c172::c173::c174::c175::c176::c177::c178::c179::c180::c181::c182::c183::c184::c185::c186::c187::c188::c189::c190::c191::c192::c193::c194::c195::c196::c197::c198::c199::c200::c201::c202::c203::c204::c205::c206::c207::c208::c209::c210::c211::c212::c213::c214::c215::c216::c217::c218::c219::c220::c221::c222::c223::c224::c225::c226::c227::c228::c229::c230::c231::c232::c233::c234::c235::c236::c237::c238::c239::c240::[]), []⟩ w0 := by
  conv => arg 2; arg 1; whnf
  cases leaf with
  | true =>
    have HX := Lib.hid hexit
    have HO := Lib.hid hown
    clear hexit hown hlo hhi hds hDK hK hD
    by_cases hd0 : 0 < D
    all_goals (
      go_rounds 1
      refine HX.out _ _ _ _ _ _ _ _ _ _ _ _ _ _ _ _ _ _ _ _ _ _ _ _ _ _ _ _ _ _ _ _ _ _ _ _ _ _ _ _ _ _ _ _ _ _ _ _ _ _ ?_ (Below.refl _ _)
      simpa using HO.out)
  | false =>
    have hDK' := hDK rfl
    subst hDK'
    have HX := Lib.hid hexit
    have HK := Lib.hid hK
    have HD := Lib.hid hD
    have HDS := Lib.hid hds
    have HHI := Lib.hid hhi
    have HLO := Lib.hid hlo
    have HO0 := Lib.hid hown
    clear hexit hown hlo hhi hds hDK hK hD
    go_loopw [8, 9, 10, 14, 15] (fun v8 v9 v10 lv i wr => ∃ q : Nat, q ≤ K + 1 ∧ i = .int .i64 (q : Int) ∧ Own3 wr B ok P v8 v9 v10 (l ++ (kidsB lo hi ds ks).take q) ∧ (q ≤ K → RB wr ok lv (if q = 0 then lo else ks.getD (q - 1) [])) ∧ Below B w0 wr ∧ P < wr.heap.size ∧ wr.cell? ⟨P, 0, none⟩ = some (.bool false) ∧ wr.cell? ⟨P, 1, none⟩ = some (.slice ak K ck) ∧ wr.cell? ⟨P, 2, none⟩ = some (.slice ad (K + 1) cd)) (fun _ _ _ _ i _ => K + 1 - (intOf i).toNat)
    case atStart => exact ⟨0, by omega, rfl, by simpa using HO0.out, fun _ => HLO.out, Below.refl _ _, hPw, p0, p1, p2⟩
    case round =>
      clear p0 p1 p2
      obtain ⟨q, hq, rfl, ho, hlw, hb, hP, p0, p1, p2⟩ := hrel
      have hz := hb.size
      by_cases hlt : q < K + 1
      · obtain ⟨us, OB', HU'⟩ := ho.b
        obtain ⟨hs, OC', HH'⟩ := ho.c
        have hlen : Hid ((l ++ (kidsB lo hi ds ks).take q).length ≤ 1000005) := by
          rw [List.length_append, List.length_take]
          exact Lib.hid (by omega)
        obtain ⟨m, hm⟩ : ∃ m, m = (l ++ (kidsB lo hi ds ks).take q).length := ⟨_, rfl⟩
        have OA' := ho.a
        rw [← hm] at OA' OB' OC' hlen
        have hml : m ≤ 1000005 := hlen.out
        have HM := Lib.hid hm
        have OA := Lib.hid OA'
        have OB := Lib.hid OB'
        have OC := Lib.hid OC'
        have HU := Lib.hid HU'
        have HH := Lib.hid HH'
        have HO := Lib.hid ho
        have hlw' := hlw (by omega)
        obtain ⟨qs, hqs⟩ : ∃ qs, qs = (if q = 0 then lo else ks.getD (q - 1) []) := ⟨_, rfl⟩
        rw [← hqs] at hlw'
        obtain ⟨aw, cw, ew⟩ := hlw'.sh
        rw [ew] at hlw' ⊢
        obtain ⟨nw, hnw⟩ : ∃ nw, nw = qs.length := ⟨_, rfl⟩
        rw [← hnw] at hlw' ⊢
        have hat := kidsB_at ks ds lo hi q (by rw [← HK.out, ← HD.out]) (by rw [← HK.out]; omega)
        rw [← hqs] at hat
        have HAT := Lib.hid hat
        have HLW := Lib.hid hlw'
        have HB := Lib.hid hb
        obtain ⟨b4, o4, hb4, hk4, d4⟩ := D3.out q hlt
        obtain ⟨c, hc⟩ : ∃ c, c = ds.getD q 0 := ⟨_, rfl⟩
        rw [← hc] at d4
        have hc0' : 0 ≤ c := by
          rw [hc]
          refine HDS.out _ ?_
          have hlt4 : q < ds.length := by rw [← HD.out]; omega
          simp only [List.getD, List.getElem?_eq_getElem hlt4, Option.getD_some]
          exact List.getElem_mem hlt4
        have HC := Lib.hid hc
        have hbb4 := hok _ hk4
        have d4' := (hb.cell (p := ⟨b4, o4 + q, none⟩) (by show b4 < _; omega)).trans d4
        have h6' := (hb.cell (p := ⟨b6, o6 + k, none⟩) (by show b6 < _; omega)).trans h6
        subst hb4
        have q0 : (0 : Int) ≤ (q : Int) := by omega
        have qI : (q : Int) < (K : Int) + 1 := by omega
        clear OA' OB' OC' HU' HH' ho hlw hlw' hqs ew hnw hat hb d4 hc hk4 hlen hm
        by_cases hlt2 : q < K
        · obtain ⟨b3, o3, hb3, hk3, k3, k3'⟩ := K3.out q hlt2
          obtain ⟨s, hs2⟩ : ∃ s, s = ks.getD q [] := ⟨_, rfl⟩
          rw [← hs2] at k3'
          obtain ⟨sa, sc, es⟩ := k3'.sh
          rw [es] at k3 k3'
          obtain ⟨ns, hns⟩ : ∃ ns, ns = s.length := ⟨_, rfl⟩
          rw [← hns] at k3 k3'
          have hbb3 := hok _ hk3
          have k3w := (HB.out.cell (p := ⟨b3, o3 + q, none⟩) (by show b3 < _; omega)).trans k3
          have HS3 := Lib.hid (k3'.agree (Agree.lt hok HB.out))
          have HSS := Lib.hid hs2
          subst hb3
          clear k3 k3' es hs2 hns hk3
          go_wp2_with (first | (at_builtin; refine apx wr 1 rfl (.tmp 165) (.tmp 171) 37 3 _ 1 8 Try.underlying37 Try.info3 rfl (by omega) rfl OA.out (by omega) (by omega) (by unfold maxLen; omega) [.int .i64 c] rfl (by simp [Value.oneCell']) _ rfl rfl rfl ?_; intro y8 w1 o1 b1 g1 e1; have z1 := b1.size; have N9 := Lib.hid (OB.out.kept g1 HO.out.n9); have N10 := Lib.hid (OC.out.kept g1 HO.out.n10); have O1 := Lib.hid o1; have B1 := Lib.hid b1; have G1 := Lib.hid g1; have E1 := Lib.hid e1; clear o1 b1 g1 e1) | (at_builtin; refine apx w1 1 rfl (.tmp 173) (.tmp 175) 41 25 _ 1 24 Try.underlying41 infoI_ks rfl (by omega) rfl N9.out (by omega) (by omega) (by unfold maxLen; omega) [.slice aw nw cw] rfl (by simp [Value.oneCell']) _ rfl rfl rfl ?_; intro y9 w2 o2 b2 g2 e2; have z2 := b2.size; have M10 := Lib.hid (N10.out.kept g2 HO.out.m10); have O2 := Lib.hid o2; have B2 := Lib.hid b2; have G2 := Lib.hid g2; have E2 := Lib.hid e2; clear o2 b2 g2 e2) | (at_builtin; refine apx w2 1 rfl (.tmp 177) (.tmp 179) 41 25 _ 1 24 Try.underlying41 infoI_ks rfl (by omega) rfl M10.out (by omega) (by omega) (by unfold maxLen; omega) [.slice sa ns sc] rfl (by simp [Value.oneCell']) _ rfl rfl rfl ?_; intro y10 w3 o3 b3 g3 e3; have z3 := b3.size; have O3 := Lib.hid o3; have B3 := Lib.hid b3; have G3 := Lib.hid g3; have E3 := Lib.hid e3; clear o3 b3 g3 e3))
          have hb13 : Below B wr w3 := (B1.out.trans B2.out).trans B3.out
          have HB13 := Lib.hid hb13
          clear hb13
          go_roundw
          case rel =>
            have x8 : some P ≠ u8.ownBlock := fun e => (HO.out.ab P e.symm).2.2 rfl
            have x9 : some P ≠ u9.ownBlock := fun e => (HO.out.bc P e.symm).2 rfl
            have x10 : some P ≠ u10.ownBlock := fun e => HO.out.cp P e.symm rfl
            have cP : ∀ {j : Nat} {v : Value}, wr.cell? ⟨P, j, none⟩ = some v → w3.cell? ⟨P, j, none⟩ = some v := fun h => G3.out.cell (G2.out.cell (G1.out.cell h x8) x9) x10
            refine ⟨q + 1, by omega, by go_num, ?_, fun hq => ?_, HB.out.trans HB13.out, by omega, cP p0, cP p1, cP p2⟩
            · rw [take_nextG (d := sp0) (by rw [kidsB_len, ← HD.out]; omega), ← List.append_assoc]
              refine HO.out.step hok (by omega) (by omega) (x := (kidsB lo hi ds ks).getD q sp0) ?_ ?_ ?_ B1.out B2.out B3.out (by rw [← HM.out]; exact O1.out) G1.out E1.out us hs (by rw [← HM.out]; exact OB.out) HU.out (by rw [← HM.out]; exact OC.out) HH.out (by rw [← HM.out]; exact O2.out) G2.out E2.out (by rw [← HM.out]; exact O3.out) G3.out E3.out
              · rw [HAT.out]; show c = ((ds.getD q 0).toNat : Int); rw [← HC.out]; omega
              · rw [HAT.out]; exact HLW.out
              · rw [HAT.out]; rw [if_pos (by rw [← HK.out]; exact hlt2), ← HSS.out]; exact HS3.out
            · rw [if_neg (by omega), Nat.add_sub_cancel, ← HSS.out]; exact HS3.out.agree (Agree.lt hok HB13.out)
          case measure => simp [intOf] <;> omega
        · obtain rfl : q = K := by omega
          go_wp2_with (first | (at_builtin; refine apx wr 1 rfl (.tmp 165) (.tmp 171) 37 3 _ 1 8 Try.underlying37 Try.info3 rfl (by omega) rfl OA.out (by omega) (by omega) (by unfold maxLen; omega) [.int .i64 c] rfl (by simp [Value.oneCell']) _ rfl rfl rfl ?_; intro y8 w1 o1 b1 g1 e1; have z1 := b1.size; have N9 := Lib.hid (OB.out.kept g1 HO.out.n9); have N10 := Lib.hid (OC.out.kept g1 HO.out.n10); have O1 := Lib.hid o1; have B1 := Lib.hid b1; have G1 := Lib.hid g1; have E1 := Lib.hid e1; clear o1 b1 g1 e1) | (at_builtin; refine apx w1 1 rfl (.tmp 173) (.tmp 175) 41 25 _ 1 24 Try.underlying41 infoI_ks rfl (by omega) rfl N9.out (by omega) (by omega) (by unfold maxLen; omega) [.slice aw nw cw] rfl (by simp [Value.oneCell']) _ rfl rfl rfl ?_; intro y9 w2 o2 b2 g2 e2; have z2 := b2.size; have M10 := Lib.hid (N10.out.kept g2 HO.out.m10); have O2 := Lib.hid o2; have B2 := Lib.hid b2; have G2 := Lib.hid g2; have E2 := Lib.hid e2; clear o2 b2 g2 e2) | (at_builtin; refine apx w2 1 rfl (.tmp 177) (.tmp 179) 41 25 _ 1 24 Try.underlying41 infoI_ks rfl (by omega) rfl M10.out (by omega) (by omega) (by unfold maxLen; omega) [.slice ah nh ch] rfl (by simp [Value.oneCell']) _ rfl rfl rfl ?_; intro y10 w3 o3 b3 g3 e3; have z3 := b3.size; have O3 := Lib.hid o3; have B3 := Lib.hid b3; have G3 := Lib.hid g3; have E3 := Lib.hid e3; clear o3 b3 g3 e3))
          have hb13 : Below B wr w3 := (B1.out.trans B2.out).trans B3.out
          have HB13 := Lib.hid hb13
          clear hb13
          go_roundw
          case rel =>
            have x8 : some P ≠ u8.ownBlock := fun e => (HO.out.ab P e.symm).2.2 rfl
            have x9 : some P ≠ u9.ownBlock := fun e => (HO.out.bc P e.symm).2 rfl
            have x10 : some P ≠ u10.ownBlock := fun e => HO.out.cp P e.symm rfl
            have cP : ∀ {j : Nat} {v : Value}, wr.cell? ⟨P, j, none⟩ = some v → w3.cell? ⟨P, j, none⟩ = some v := fun h => G3.out.cell (G2.out.cell (G1.out.cell h x8) x9) x10
            refine ⟨q + 1, by omega, by go_num, ?_, fun hq => ?_, HB.out.trans HB13.out, by omega, cP p0, cP p1, cP p2⟩
            · rw [take_nextG (d := sp0) (by rw [kidsB_len, ← HD.out]; omega), ← List.append_assoc]
              refine HO.out.step hok (by omega) (by omega) (x := (kidsB lo hi ds ks).getD q sp0) ?_ ?_ ?_ B1.out B2.out B3.out (by rw [← HM.out]; exact O1.out) G1.out E1.out us hs (by rw [← HM.out]; exact OB.out) HU.out (by rw [← HM.out]; exact OC.out) HH.out (by rw [← HM.out]; exact O2.out) G2.out E2.out (by rw [← HM.out]; exact O3.out) G3.out E3.out
              · rw [HAT.out]; show c = ((ds.getD q 0).toNat : Int); rw [← HC.out]; omega
              · rw [HAT.out]; exact HLW.out
              · rw [HAT.out]; rw [if_neg (by rw [← HK.out]; exact Nat.lt_irrefl _)]; exact HHI.out.agree (Agree.lt hok HB.out)
            · omega
          case measure => simp [intOf] <;> omega
      · obtain rfl : K + 1 = q := by omega
        have e : (kidsB lo hi ds ks).take (K + 1) = kidsB lo hi ds ks := List.take_of_length_le (by rw [kidsB_len, ← HD.out]; exact Nat.le_refl _)
        rw [e] at ho
        have HO := Lib.hid ho
        have HB := Lib.hid hb
        clear ho hb e hlw
        go_wp2
        exact HX.out _ _ _ _ _ _ _ _ _ _ _ _ _ _ _ _ _ _ _ _ _ _ _ _ _ _ _ _ _ _ _ _ _ _ _ _ _ _ _ _ _ _ _ _ _ _ _ _ _ _ HO.out HB.out

end Go.Proofs.Ytahammkjkfdmhaa
