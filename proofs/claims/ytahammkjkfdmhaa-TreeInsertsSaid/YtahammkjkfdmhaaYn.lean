/- The document's putting in: a page stored, whole or split. -/
import Derived.Test.YtahammkjkfdmhaaYl
import Derived.Test.YtahammkjkfdmhaaYz
import Derived.Deep.AppendLies
namespace Go.Proofs.Ytahammkjkfdmhaa
open Go.ChangeShapes Go.WideShapes Go.ChangeAt Go.RowKit
set_option linter.unusedVariables false
set_option linter.unusedSimpArgs false
set_option maxHeartbeats 4000000
variable {c2 c3 c4 c5 c6 c7 c8 c9 c10 c11 c12 c13 c14 c15 c16 c17 c18 c19 c20 c21 c22 c23 c24 c25 c26 c27 c28 c29 c30 c31 c32 c33 c34 c35 c36 c37 c38 c39 c40 c41 c42 c43 c44 c45 c46 c47 c48 c49 c50 c51 c52 c53 c54 c55 c56 c57 c58 c59 c60 c61 c62 c63 c64 c65 c66 c67 c68 c69 c70 c71 c72 c73 c74 c75 c76 c77 c78 c79 c80 c81 c82 c83 c84 c85 c86 c87 c88 c89 c90 c91 c92 c93 c94 c95 c96 c97 c98 c99 c100 c101 c102 c103 c104 c105 c106 c107 c108 c109 c110 c111 c112 c113 c114 c115 c116 c117 c118 c119 c120 c121 c122 c123 c124 c125 c126 c127 c128 c129 c130 c131 c132 c133 c134 c135 c136 c137 c138 c139 c140 c141 c142 c143 c144 c145 c146 c147 c148 c149 c150 c151 c152 c153 c154 c155 c156 c157 c158 c159 c160 c161 c162 c163 c164 c165 c166 c167 c168 c169 c170 c171 c172 c173 c174 c175 c176 c177 c178 c179 c180 c181 c182 c183 c184 c185 c186 c187 c188 c189 c190 c191 c192 c193 c194 c195 c196 c197 c198 c199 c200 c201 c202 c203 c204 c205 c206 c207 c208 c209 c210 c211 c212 c213 c214 c215 c216 c217 c218 c219 c220 c221 c222 c223 c224 c225 c226 c227 c228 c229 c230 c231 c232 c233 : Value}
set_option maxRecDepth 1000000
theorem wpT_begin2 {P : Program} {ops : Array Oper} {Q : Exit → Act → World → Prop} {S : World → Prop} (L : List Nat) {id : Nat} {a : Act} {w : World} (hm : P.follows .mixedOrders = true) (hS : S w.drew)
    (h : ∀ W : World, S W → wpAnyT P .any ops Q S L ops.size (Array.replicate ops.size false) a W) : (Code.region id ops true).wp P Q a w := wpT_begin L hm hS (h _)
/-- Blocks in which the pages' own lists may lie. -/
abbrev Gx (w : World) (BO O PB : Nat) : Nat → Prop := fun b => BO ≤ b ∧ b < w.heap.size ∧ b ≠ PB ∧ b ≠ O
/-- The document's tree in its box, under way. -/
structure DT (w : World) (BO O PB : Nat) (ps : List Pg) (root : Int) : Prop where
  pb : BO ≤ PB
  ob : BO ≤ O
  ne : PB ≠ O
  row : ∃ cap vs, w.heap[O]? = some (.cells #[.slice (some ⟨PB, 0, none⟩) ps.length cap, .int .i64 root] 24 (0, 0)) ∧ w.ownsRow BO 43 5 (.slice (some ⟨PB, 0, none⟩) ps.length cap) ps.length vs ∧ RPs w (Gx w BO O PB) vs ps
/-- What putting a page in, or two, leaves. -/
def AddIs (w : World) (BO O PB : Nat) (root : Int) (Y : List Pg × Option (Key × Nat)) (v8 : Value) (v9 : Int) (w' : World) : Prop :=
  ∃ PB', DT w' BO O PB' Y.1 root ∧ (PB' = PB ∨ w.heap.size ≤ PB') ∧ w.heap.size ≤ w'.heap.size ∧ w'.os = w.os ∧ w'.tape = w.tape ∧ w'.output = w.output ∧ (∀ b, b < w.heap.size → b ≠ O → b ≠ PB → w'.heap[b]? = w.heap[b]?) ∧
    (Y.2 = none → v8 = .slice none 0 0 ∧ v9 = 0) ∧ (∀ up rt, Y.2 = some (up, rt) → ∃ a c, v8 = .slice (some a) up.length c ∧ v9 = rt ∧ RB w' (Gx w' BO O PB') v8 up)
theorem RPs.put5 {w : World} {ok : Nat → Prop} {vs : List Value} {ps : List Pg} {i : Nat} {p : Pg} {k d h : Value} (hs : RPs w ok vs ps) (hi : i < ps.length) (hp : RP w ok [.bool p.leaf, k, d, h, .int .i64 p.next] p) : RPs w ok (vs5 vs (i * 5) (.bool p.leaf) k d h (.int .i64 p.next)) (ps.set i p) := by
  have hl := hs.1
  obtain ⟨a0, a1, a2, a3, a4⟩ := vs5_at (vs := vs) (o := i * 5) (.bool p.leaf) k d h (.int .i64 p.next) (by omega)
  refine RPs.put (cs := [.bool p.leaf, k, d, h, .int .i64 p.next]) hs hi (by simp [vs5]) (fun j hj => vs5_off _ _ _ _ _ hj) ?_ hp
  apply List.ext_getElem?
  intro j
  rw [List.getElem?_take, List.getElem?_drop]
  rcases j with _ | _ | _ | _ | _ | j
  · rw [if_pos (by omega)]; exact a0
  · rw [if_pos (by omega)]; exact a1
  · rw [if_pos (by omega)]; exact a2
  · rw [if_pos (by omega)]; exact a3
  · rw [if_pos (by omega)]; exact a4
  · rw [if_neg (by omega)]; simp
theorem setPg_far (w : World) (G o : Nat) (a b c d e : Value) {x : Nat} (hx : x ≠ G) : (setPg w G o a b c d e).heap[x]? = w.heap[x]? := by
  unfold setPg
  rw [Below.heap_setCell _ _ _ _ hx, Below.heap_setCell _ _ _ _ hx, Below.heap_setCell _ _ _ _ hx, Below.heap_setCell _ _ _ _ hx, Below.heap_setCell _ _ _ _ hx]
theorem setPg_size (w : World) (G o : Nat) (a b c d e : Value) : (setPg w G o a b c d e).heap.size = w.heap.size := by unfold setPg; simp
theorem RP.to {w w' : World} {ok ok' : Nat → Prop} {cs : List Value} {p : Pg} (h : RP w ok cs p) (hag : Agree ok w w') (hm : ∀ b, ok b → ok' b) : RP w' ok' cs p := by
  obtain ⟨k, d, hh, e, h1, h2, h3⟩ := h
  refine ⟨k, d, hh, e, ?_, ?_, RB.mono (h3.agree hag) hm⟩
  · obtain ⟨us', m1, m2, m3⟩ := h1.agree hag
    exact ⟨us', m1, fun a n c e g => hm _ (m2 a n c e g), fun j s hs => by obtain ⟨x, x1, x2⟩ := m3 j s hs; exact ⟨x, x1, x2.mono hm⟩⟩
  · obtain ⟨m1, m2⟩ := h2.agree hag
    exact ⟨m1, fun a n c e g => hm _ (m2 a n c e g)⟩
/-- One page stored. -/
theorem DT.set {w : World} {BO O PB i : Nat} {ps : List Pg} {root : Int} {p : Pg} {k d h : Value} (hd : DT w BO O PB ps root) (hi : i < ps.length) (hp : RP w (Gx w BO O PB) [.bool p.leaf, k, d, h, .int .i64 p.next] p) :
    DT (setPg w PB (i * 5) (.bool p.leaf) k d h (.int .i64 p.next)) BO O PB (ps.set i p) root := by
  obtain ⟨h1, h2, h3, cap, vs, h4, h5, h6⟩ := hd
  have hz := setPg_size w PB (i * 5) (.bool p.leaf) k d h (.int .i64 p.next)
  refine ⟨h1, h2, h3, cap, vs5 vs (i * 5) (.bool p.leaf) k d h (.int .i64 p.next), ?_, ?_, ?_⟩
  · rw [List.length_set]; exact (setPg_far _ _ _ _ _ _ _ _ (Ne.symm h3)).trans h4
  · rw [List.length_set]; exact pg_put h5 _ _ _ _ _ _
  · have h7 := h6.put5 hi hp
    refine RPs.mono (h7.agree fun b g _ => setPg_far _ _ _ _ _ _ _ _ g.2.2.1) fun b g => ?_
    exact ⟨g.1, by rw [hz]; exact g.2.1, g.2.2⟩
/-- What lies elsewhere may change. -/
theorem DT.to {w w' : World} {BO O PB : Nat} {ps : List Pg} {root : Int} (hd : DT w BO O PB ps root) (hz : w.heap.size ≤ w'.heap.size) (hf : ∀ b, b < w.heap.size → BO ≤ b → w'.heap[b]? = w.heap[b]?) : DT w' BO O PB ps root := by
  obtain ⟨h1, h2, h3, cap, vs, h4, h5, h6⟩ := hd
  refine ⟨h1, h2, h3, cap, vs, (hf O (Array.getElem?_eq_some_iff.1 h4).1 h2).trans h4, own_far h5 fun b hb => ?_, RPs.mono (h6.agree fun b g hlt => hf b hlt g.1) fun b g => ⟨g.1, by have := g.2.1; omega, g.2.2⟩⟩
  have hb' := own_eq hb
  subst hb'
  exact hf _ (h5.lt _ rfl).2 h1
/-- One page more. -/
theorem DT.push {w w5 : World} {BO O PB gg cap5 X : Nat} {cap : Nat} {ps : List Pg} {root : Int} {p : Pg} {k d h : Value} {vs : List Value} {W1 : World} (hW1 : Below w.heap.size w W1) (hW2 : W1.heap.size = w.heap.size + 1) (hd1 : BO ≤ PB) (hd2 : BO ≤ O) (hd3 : PB ≠ O) (hB : BO ≤ w.heap.size)
    (h4 : w.heap[O]? = some (.cells #[.slice (some ⟨PB, 0, none⟩) ps.length cap, .int .i64 root] 24 (0, 0))) (h6 : RPs w (Gx w BO O PB) vs ps)
    (hp : RP w (Gx w BO O PB) [.bool p.leaf, k, d, h, .int .i64 p.next] p)
    (hrow : w5.ownsRow BO 43 5 (.slice (some ⟨gg, 0, none⟩) (ps.length + 1) cap5) (ps.length + 1) (vs ++ [.bool p.leaf, k, d, h, .int .i64 p.next])) (hg : W1.grownBy w5 (some PB)) (hat : gg = PB ∨ gg = w.heap.size + 1) :
    DT (w5.setCell ⟨O, 0, none⟩ (.slice (some ⟨gg, 0, none⟩) (ps.length + 1) cap5)) BO O gg (ps ++ [p]) root := by
  have hO := (Array.getElem?_eq_some_iff.1 h4).1
  have hz := hg.size
  have hne : gg ≠ O := by rcases hat with rfl | rfl <;> omega
  have hO5 : w5.heap[O]? = some (.cells #[.slice (some ⟨PB, 0, none⟩) ps.length cap, .int .i64 root] 24 (0, 0)) := (hg.block O (by omega) (fun e => hd3 (Option.some.inj e).symm)).trans ((hW1.block _ hO).trans h4)
  have hold : ∀ b, b < w.heap.size → b ≠ PB → b ≠ O → (w5.setCell ⟨O, 0, none⟩ (.slice (some ⟨gg, 0, none⟩) (ps.length + 1) cap5)).heap[b]? = w.heap[b]? := fun b h1 h2 h3 =>
    (Below.heap_setCell _ _ _ _ h3).trans ((hg.block b (by omega) (fun e => h2 (Option.some.inj e))).trans (hW1.block _ h1))
  refine ⟨by rcases hat with rfl | rfl <;> omega, hd2, hne, cap5, vs ++ [.bool p.leaf, k, d, h, .int .i64 p.next], ?_, ?_, RPs.snoc (cs := [.bool p.leaf, k, d, h, .int .i64 p.next]) ?_ (hp.to (fun b g hlt => hold b hlt g.2.2.1 g.2.2.2) fun b g => ?_) rfl⟩
  · rw [List.length_append, List.length_singleton, Lib.heap_setCell_same hO5]; rfl
  · rw [List.length_append, List.length_singleton]
    exact own_far hrow fun b hb => by
      have hb' := own_eq hb
      subst hb'
      exact Below.heap_setCell _ _ _ _ hne
  · refine RPs.mono (h6.agree fun b g hlt => hold b hlt g.2.2.1 g.2.2.2) fun b g => ⟨g.1, by have := g.2.1; simp; omega, ?_, g.2.2.2⟩
    rcases hat with rfl | rfl
    · exact g.2.2.1
    · have := g.2.1; omega
  · refine ⟨g.1, by have := g.2.1; simp; omega, ?_, g.2.2.2⟩
    rcases hat with rfl | rfl
    · exact g.2.2.1
    · have := g.2.1; omega
theorem gen_pg {P : World → Prop} {W : World} {PB o : Nat} {a b c d e : Value} (h : ∀ W9, W9 = setPg W PB o a b c d e → P W9) : P (((((W.setCell ⟨PB, o, none⟩ a).setCell ⟨PB, o + 1, none⟩ b).setCell ⟨PB, o + 2, none⟩ c).setCell ⟨PB, o + 3, none⟩ d).setCell ⟨PB, o + 4, none⟩ e) := h _ rfl
theorem gen_new5 {P : World → Prop} {W : World} {a b c d e : Value} {T : TypeId}
    (h : ∀ W9 : World, W9.heap[W.heap.size]? = some (.cells #[a, b, c, d, e] T (0, 0)) → W9.heap.size = W.heap.size + 1 → Below W.heap.size W W9 → P W9) : P (W.alloc (.cells #[a, b, c, d, e] T (0, 0))) :=
  h _ (new0 W _) (by simp) ((Below.refl _ _).alloc (Nat.le_refl _) _)
theorem rk_ownX {w : World} {B g n cap : Nat} {ok ok' : Nat → Prop} {us : List Value} {ks : List Key} (hn : n = ks.length) (h : w.ownsRow B 25 1 (.slice (some ⟨g, 0, none⟩) n cap) n us) (hk : Ks w ok us ks) (hg : ok' g) (hm : ∀ b, ok b → ok' b) : RK w ok' (.slice (some ⟨g, 0, none⟩) n cap) ks :=
  ⟨us, by rw [← hn]; exact Rd.own h, fun a m c e _ => by (cases e; exact hg), fun j q hq => by obtain ⟨x, h1, h2⟩ := hk.2 j q hq; exact ⟨x, h1, h2.mono hm⟩⟩
theorem ri_ownX {w : World} {B g n cap : Nat} {ok : Nat → Prop} {ds : List Int} (hn : n = ds.length) (h : w.ownsRow B 3 1 (.slice (some ⟨g, 0, none⟩) n cap) n (ic ds)) (hg : ok g) : RI w ok (.slice (some ⟨g, 0, none⟩) n cap) ds :=
  ⟨by rw [← hn]; exact Rd.own h, fun a m c e _ => by (cases e; exact hg)⟩
theorem rk_cut {w : World} {ok : Nat → Prop} {g n cap : Nat} {ks : List Key} (h : RK w ok (.slice (some ⟨g, 0, none⟩) n cap) ks) (a m : Nat) (hn : n = ks.length) (ham : a + m ≤ n) (ha : a < cap) (hg : ok g) : RK w ok (.slice (some ⟨g, a, none⟩) m (cap - a)) ((ks.drop a).take m) := by
  obtain ⟨us, ⟨hl, ao, cap', e, h3, h4, h5, h6⟩, h7, h8⟩ := h
  simp only [Value.slice.injEq] at e
  obtain ⟨rfl, -, rfl⟩ := e
  have hkl : ((ks.drop a).take m).length = m := by rw [List.length_take, List.length_drop]; omega
  refine ⟨(us.drop a).take m, ⟨by rw [hkl, List.length_take, List.length_drop]; omega, _, _, by rw [hkl], by omega, by omega, (fun q => by cases q), fun b hb j u hu => ?_⟩, fun _ _ _ e _ => by (cases e; exact hg), fun j k hj => ?_⟩
  · obtain rfl := Option.some.inj hb
    rw [List.getElem?_take] at hu
    split at hu
    · rw [List.getElem?_drop] at hu
      have := h6 _ rfl (a + j) u hu
      rw [Addr.add_lit] at this ⊢
      rw [Nat.zero_add] at this
      exact this
    · cases hu
  · rw [List.getElem?_take] at hj
    split at hj
    · rename_i hjm
      rw [List.getElem?_drop] at hj
      obtain ⟨x, q1, q2⟩ := h8 (a + j) k hj
      exact ⟨x, by rw [List.getElem?_take, if_pos hjm, List.getElem?_drop]; exact q1, q2⟩
    · cases hj
theorem ri_cut {w : World} {ok : Nat → Prop} {g n cap : Nat} {l : List Int} (h : RI w ok (.slice (some ⟨g, 0, none⟩) n cap) l) (a m : Nat) (hn : n = l.length) (ham : a + m ≤ n) (ha : a < cap) (hg : ok g) : RI w ok (.slice (some ⟨g, a, none⟩) m (cap - a)) ((l.drop a).take m) := by
  obtain ⟨⟨hl, ao, cap', e, h3, h4, h5, h6⟩, h7⟩ := h
  simp only [Value.slice.injEq] at e
  obtain ⟨rfl, -, rfl⟩ := e
  have hkl : ((l.drop a).take m).length = m := by rw [List.length_take, List.length_drop]; omega
  refine ⟨⟨by rw [ic_length, hkl]; omega, _, _, by rw [hkl], by omega, by omega, (fun q => by cases q), fun b hb j u hu => ?_⟩, fun _ _ _ e _ => by (cases e; exact hg)⟩
  obtain rfl := Option.some.inj hb
  have e1 : ic ((l.drop a).take m) = ((ic l).drop a).take m := by simp [ic, List.map_take, List.map_drop]
  rw [e1, List.getElem?_take] at hu
  split at hu
  · rw [List.getElem?_drop] at hu
    have := h6 _ rfl (a + j) u hu
    rw [Addr.add_lit] at this ⊢
    rw [Nat.zero_add] at this
    exact this
  · cases hu
theorem ar33 (Q : Exit → Act → World → Prop)  (w0 : World) (O PB C N cap i : Nat) (ow : w0.cell? ⟨O, 0, none⟩ = some (.slice (some ⟨PB, 0, none⟩) N cap)) (hi : i < N) (lf : Bool) (ka da ha : Option Addr) (kn kc dn dc hn hc : Nat) (nx : Int) (hC : w0.heap[C]? = some (.cells #[.bool lf, .slice ka kn kc, .slice da dn dc, .slice ha hn hc, .int .i64 nx] 43 (0, 0))) {B : Nat} {vs : List Value} (hrow : w0.ownsRow B 43 5 (.slice (some ⟨PB, 0, none⟩) N cap) N vs) (hPO : PB ≠ O) (hPC : PB ≠ C)
    (hout : Hid (∀ (u154 u155 u156 u157 u158 u159 u160 : Value) (w' : World), Below w0.heap.size w0 w' → Q .normal ⟨List.toArray ((.pointer (some ⟨O, 0, none⟩))::(.int .i64 (i : Int))::c2::c3::c4::c5::c6::c7::c8::c9::c10::c11::c12::c13::c14::c15::(.pointer (some ⟨C, 0, none⟩))::c17::c18::c19::c20::c21::c22::c23::c24::c25::c26::c27::c28::c29::c30::c31::c32::c33::c34::c35::c36::c37::c38::c39::c40::c41::c42::c43::c44::c45::c46::c47::c48::c49::c50::c51::c52::c53::c54::c55::c56::c57::c58::c59::c60::c61::c62::c63::c64::c65::c66::c67::c68::c69::c70::c71::c72::c73::c74::c75::c76::c77::c78::c79::c80::c81::c82::c83::c84::c85::c86::c87::c88::c89::c90::c91::c92::c93::c94::c95::c96::c97::c98::c99::c100::c101::c102::c103::c104::c105::c106::c107::c108::c109::c110::c111::c112::c113::c114::c115::c116::c117::c118::c119::c120::c121::c122::c123::c124::c125::c126::c127::c128::c129::c130::c131::c132::c133::c134::c135::c136::c137::c138::c139::c140::c141::c142::c143::c144::c145::c146::c147::c148::c149::c150::c151::c152::c153::u154::u155::u156::u157::u158::u159::u160::c161::c162::c163::c164::c165::c166::c167::c168::c169::c170::c171::c172::c173::c174::c175::c176::c177::c178::c179::c180::c181::c182::c183::c184::c185::c186::c187::c188::c189::c190::c191::c192::c193::c194::c195::c196::c197::c198::c199::c200::c201::c202::c203::c204::c205::c206::c207::c208::c209::c210::c211::c212::c213::c214::c215::c216::c217::c218::c219::c220::c221::c222::c223::c224::c225::c226::c227::c228::c229::c230::c231::c232::c233::[]), []⟩ (setPg w' PB (i * 5) (.bool lf) (.slice ka kn kc) (.slice da dn dc) (.slice ha hn hc) (.int .i64 nx)))) :
    Code.wp Try.prog ((regionOf 33 (Try.f21.body.getD .skip)).getD .skip) Q ⟨List.toArray ((.pointer (some ⟨O, 0, none⟩))::(.int .i64 (i : Int))::c2::c3::c4::c5::c6::c7::c8::c9::c10::c11::c12::c13::c14::c15::(.pointer (some ⟨C, 0, none⟩))::c17::c18::c19::c20::c21::c22::c23::c24::c25::c26::c27::c28::c29::c30::c31::c32::c33::c34::c35::c36::c37::c38::c39::c40::c41::c42::c43::c44::c45::c46::c47::c48::c49::c50::c51::c52::c53::c54::c55::c56::c57::c58::c59::c60::c61::c62::c63::c64::c65::c66::c67::c68::c69::c70::c71::c72::c73::c74::c75::c76::c77::c78::c79::c80::c81::c82::c83::c84::c85::c86::c87::c88::c89::c90::c91::c92::c93::c94::c95::c96::c97::c98::c99::c100::c101::c102::c103::c104::c105::c106::c107::c108::c109::c110::c111::c112::c113::c114::c115::c116::c117::c118::c119::c120::c121::c122::c123::c124::c125::c126::c127::c128::c129::c130::c131::c132::c133::c134::c135::c136::c137::c138::c139::c140::c141::c142::c143::c144::c145::c146::c147::c148::c149::c150::c151::c152::c153::c154::c155::c156::c157::c158::c159::c160::c161::c162::c163::c164::c165::c166::c167::c168::c169::c170::c171::c172::c173::c174::c175::c176::c177::c178::c179::c180::c181::c182::c183::c184::c185::c186::c187::c188::c189::c190::c191::c192::c193::c194::c195::c196::c197::c198::c199::c200::c201::c202::c203::c204::c205::c206::c207::c208::c209::c210::c211::c212::c213::c214::c215::c216::c217::c218::c219::c220::c221::c222::c223::c224::c225::c226::c227::c228::c229::c230::c231::c232::c233::[]), []⟩ w0 := by
  refine Code.wp_mono (Q := NQ Q) nq_to ?_
  conv => arg 2; whnf
  obtain ⟨y0, y1, y2, y3, y4, -⟩ := box5 hC
  have i0 : (0 : Int) ≤ (i : Int) := by omega
  have i1 : (i : Int) < (N : Int) := by omega
  refine wpT_begin2 (S := (fun wx => wx.cell? ⟨O, 0, none⟩ = some (.slice (some ⟨PB, 0, none⟩) N cap) ∧ wx.cell? ⟨C, 0, none⟩ = some (.bool lf) ∧ wx.cell? ⟨C, 1, none⟩ = some (.slice ka kn kc) ∧ wx.cell? ⟨C, 2, none⟩ = some (.slice da dn dc) ∧ wx.cell? ⟨C, 3, none⟩ = some (.slice ha hn hc) ∧ wx.cell? ⟨C, 4, none⟩ = some (.int .i64 nx) ∧ Below w0.heap.size w0 wx)) [7] (by kernel_rfl) ?_ (fun Wd hHeld => ?_)
  · (try dsimp only)
    exact ⟨cell_dr ow, cell_dr y0, cell_dr y1, cell_dr y2, cell_dr y3, cell_dr y4, (Below.refl _ _).drew⟩
  refine wpAnyT_pure (i := 0) (oi := _) (v := ?_) rfl (by kernel_rfl) (by kernel_rfl) (by kernel_rfl) (by kernel_rfl) (fun _ _ _ h => h) (Or.inl ⟨by rfl, ?_⟩) (fun _ => by assumption) ?_
  rotate_left
  · (intro w hSw; go_simp)
    all_goals (with_reducible rfl)
  (try simp only [List.getElem_toArray, List.getElem_cons_zero, List.getElem_cons_succ, Act.put, List.setIfInBounds_toArray, List.set_cons_zero, List.set_cons_succ])
  refine wpAnyT_pure (i := 1) (oi := _) (v := ?_) rfl (by kernel_rfl) (by kernel_rfl) (by kernel_rfl) (by kernel_rfl) (fun _ _ _ h => h) (Or.inl ⟨by rfl, ?_⟩) (fun _ => by assumption) ?_
  rotate_left
  · (intro w hSw; go_simp)
    all_goals (with_reducible rfl)
  (try simp only [List.getElem_toArray, List.getElem_cons_zero, List.getElem_cons_succ, Act.put, List.setIfInBounds_toArray, List.set_cons_zero, List.set_cons_succ])
  refine wpAnyT_pure (i := 2) (oi := _) (v := ?_) rfl (by kernel_rfl) (by kernel_rfl) (by kernel_rfl) (by kernel_rfl) (fun _ _ _ h => h) (Or.inl ⟨by rfl, ?_⟩) (fun _ => by assumption) ?_
  rotate_left
  · (intro w hSw; go_simp)
    all_goals (with_reducible rfl)
  (try simp only [List.getElem_toArray, List.getElem_cons_zero, List.getElem_cons_succ, Act.put, List.setIfInBounds_toArray, List.set_cons_zero, List.set_cons_succ])
  refine wpAnyT_take (i := 3) (oi := _) (v := ?_) rfl (by kernel_rfl) (by kernel_rfl) (by kernel_rfl) (by kernel_rfl) (fun _ _ _ h => h) (Or.inl ⟨by rfl, ?_⟩) (by assumption) ?_
  rotate_left
  · (intro w hSw; (try dsimp only at hSw); go_simp)
    all_goals (with_reducible rfl)
  (try simp only [List.getElem_toArray, List.getElem_cons_zero, List.getElem_cons_succ, Act.put, List.setIfInBounds_toArray, List.set_cons_zero, List.set_cons_succ])
  refine wpAnyT_pure (i := 4) (oi := _) (v := ?_) rfl (by kernel_rfl) (by kernel_rfl) (by kernel_rfl) (by kernel_rfl) (fun _ _ _ h => h) (Or.inl ⟨by rfl, ?_⟩) (fun _ => by assumption) ?_
  rotate_left
  · (intro w hSw; go_simp)
    all_goals (with_reducible rfl)
  (try simp only [List.getElem_toArray, List.getElem_cons_zero, List.getElem_cons_succ, Act.put, List.setIfInBounds_toArray, List.set_cons_zero, List.set_cons_succ])
  refine wpAnyT_take (i := 5) (oi := _) (v := ?_) rfl (by kernel_rfl) (by kernel_rfl) (by kernel_rfl) (by kernel_rfl) (fun _ _ _ h => h) (Or.inl ⟨by rfl, ?_⟩) (by assumption) ?_
  rotate_left
  · (intro w hSw; (try dsimp only at hSw); go_simp)
    all_goals (with_reducible rfl)
  (try simp only [List.getElem_toArray, List.getElem_cons_zero, List.getElem_cons_succ, Act.put, List.setIfInBounds_toArray, List.set_cons_zero, List.set_cons_succ])
  refine wpAnyT_pure (i := 6) (oi := _) (v := ?_) rfl (by kernel_rfl) (by kernel_rfl) (by kernel_rfl) (by kernel_rfl) (fun _ _ _ h => h) (Or.inl ⟨by rfl, ?_⟩) (fun _ => by assumption) ?_
  rotate_left
  · (intro w hSw; go_simp)
    all_goals (with_reducible rfl)
  (try simp only [List.getElem_toArray, List.getElem_cons_zero, List.getElem_cons_succ, Act.put, List.setIfInBounds_toArray, List.set_cons_zero, List.set_cons_succ])
  refine wpAnyT_ready (rs := [7]) (by kernel_rfl) (by simp) ?_
  refine AllReadyT.cons rfl (fun K hK => ?_) AllReadyT.nil
  obtain ⟨r0, r1, r2, r3, r4, d0, d1, d2, d3, d4, e0, e1, e2, e3, e4⟩ := row_cells (n := N) (j := i) (own_below hrow hHeld.2.2.2.2.2.2) hi
  go_simp
  refine hK.out _ _ (noneB_off (by kernel_rfl)) (fun _ => ?_)
  clear hK K
  (try simp only [List.getElem_toArray, List.getElem_cons_zero, List.getElem_cons_succ, Act.put, List.setIfInBounds_toArray, List.set_cons_zero, List.set_cons_succ])
  refine wpAnyT_done (by kernel_rfl) ?_ _
  exact hout.out _ _ _ _ _ _ _ _ hHeld.2.2.2.2.2.2
theorem ar42 (Q : Exit → Act → World → Prop)  (w0 : World) (O PB C N cap i : Nat) (ow : w0.cell? ⟨O, 0, none⟩ = some (.slice (some ⟨PB, 0, none⟩) N cap)) (hi : i < N) (lf : Bool) (ka da ha : Option Addr) (kn kc dn dc hn hc : Nat) (nx : Int) (hC : w0.heap[C]? = some (.cells #[.bool lf, .slice ka kn kc, .slice da dn dc, .slice ha hn hc, .int .i64 nx] 43 (0, 0))) {B : Nat} {vs : List Value} (hrow : w0.ownsRow B 43 5 (.slice (some ⟨PB, 0, none⟩) N cap) N vs) (hPO : PB ≠ O) (hPC : PB ≠ C)
    (hout : Hid (∀ (u210 u211 u212 u213 u214 u215 u216 : Value) (w' : World), Below w0.heap.size w0 w' → Q .normal ⟨List.toArray ((.pointer (some ⟨O, 0, none⟩))::(.int .i64 (i : Int))::c2::c3::c4::c5::c6::c7::c8::c9::c10::c11::c12::c13::c14::c15::c16::c17::c18::c19::c20::(.pointer (some ⟨C, 0, none⟩))::c22::c23::c24::c25::c26::c27::c28::c29::c30::c31::c32::c33::c34::c35::c36::c37::c38::c39::c40::c41::c42::c43::c44::c45::c46::c47::c48::c49::c50::c51::c52::c53::c54::c55::c56::c57::c58::c59::c60::c61::c62::c63::c64::c65::c66::c67::c68::c69::c70::c71::c72::c73::c74::c75::c76::c77::c78::c79::c80::c81::c82::c83::c84::c85::c86::c87::c88::c89::c90::c91::c92::c93::c94::c95::c96::c97::c98::c99::c100::c101::c102::c103::c104::c105::c106::c107::c108::c109::c110::c111::c112::c113::c114::c115::c116::c117::c118::c119::c120::c121::c122::c123::c124::c125::c126::c127::c128::c129::c130::c131::c132::c133::c134::c135::c136::c137::c138::c139::c140::c141::c142::c143::c144::c145::c146::c147::c148::c149::c150::c151::c152::c153::c154::c155::c156::c157::c158::c159::c160::c161::c162::c163::c164::c165::c166::c167::c168::c169::c170::c171::c172::c173::c174::c175::c176::c177::c178::c179::c180::c181::c182::c183::c184::c185::c186::c187::c188::c189::c190::c191::c192::c193::c194::c195::c196::c197::c198::c199::c200::c201::c202::c203::c204::c205::c206::c207::c208::c209::u210::u211::u212::u213::u214::u215::u216::c217::c218::c219::c220::c221::c222::c223::c224::c225::c226::c227::c228::c229::c230::c231::c232::c233::[]), []⟩ (setPg w' PB (i * 5) (.bool lf) (.slice ka kn kc) (.slice da dn dc) (.slice ha hn hc) (.int .i64 nx)))) :
    Code.wp Try.prog ((regionOf 42 (Try.f21.body.getD .skip)).getD .skip) Q ⟨List.toArray ((.pointer (some ⟨O, 0, none⟩))::(.int .i64 (i : Int))::c2::c3::c4::c5::c6::c7::c8::c9::c10::c11::c12::c13::c14::c15::c16::c17::c18::c19::c20::(.pointer (some ⟨C, 0, none⟩))::c22::c23::c24::c25::c26::c27::c28::c29::c30::c31::c32::c33::c34::c35::c36::c37::c38::c39::c40::c41::c42::c43::c44::c45::c46::c47::c48::c49::c50::c51::c52::c53::c54::c55::c56::c57::c58::c59::c60::c61::c62::c63::c64::c65::c66::c67::c68::c69::c70::c71::c72::c73::c74::c75::c76::c77::c78::c79::c80::c81::c82::c83::c84::c85::c86::c87::c88::c89::c90::c91::c92::c93::c94::c95::c96::c97::c98::c99::c100::c101::c102::c103::c104::c105::c106::c107::c108::c109::c110::c111::c112::c113::c114::c115::c116::c117::c118::c119::c120::c121::c122::c123::c124::c125::c126::c127::c128::c129::c130::c131::c132::c133::c134::c135::c136::c137::c138::c139::c140::c141::c142::c143::c144::c145::c146::c147::c148::c149::c150::c151::c152::c153::c154::c155::c156::c157::c158::c159::c160::c161::c162::c163::c164::c165::c166::c167::c168::c169::c170::c171::c172::c173::c174::c175::c176::c177::c178::c179::c180::c181::c182::c183::c184::c185::c186::c187::c188::c189::c190::c191::c192::c193::c194::c195::c196::c197::c198::c199::c200::c201::c202::c203::c204::c205::c206::c207::c208::c209::c210::c211::c212::c213::c214::c215::c216::c217::c218::c219::c220::c221::c222::c223::c224::c225::c226::c227::c228::c229::c230::c231::c232::c233::[]), []⟩ w0 := by
  refine Code.wp_mono (Q := NQ Q) nq_to ?_
  conv => arg 2; whnf
  obtain ⟨y0, y1, y2, y3, y4, -⟩ := box5 hC
  have i0 : (0 : Int) ≤ (i : Int) := by omega
  have i1 : (i : Int) < (N : Int) := by omega
  refine wpT_begin2 (S := (fun wx => wx.cell? ⟨O, 0, none⟩ = some (.slice (some ⟨PB, 0, none⟩) N cap) ∧ wx.cell? ⟨C, 0, none⟩ = some (.bool lf) ∧ wx.cell? ⟨C, 1, none⟩ = some (.slice ka kn kc) ∧ wx.cell? ⟨C, 2, none⟩ = some (.slice da dn dc) ∧ wx.cell? ⟨C, 3, none⟩ = some (.slice ha hn hc) ∧ wx.cell? ⟨C, 4, none⟩ = some (.int .i64 nx) ∧ Below w0.heap.size w0 wx)) [7] (by kernel_rfl) ?_ (fun Wd hHeld => ?_)
  · (try dsimp only)
    exact ⟨cell_dr ow, cell_dr y0, cell_dr y1, cell_dr y2, cell_dr y3, cell_dr y4, (Below.refl _ _).drew⟩
  refine wpAnyT_pure (i := 0) (oi := _) (v := ?_) rfl (by kernel_rfl) (by kernel_rfl) (by kernel_rfl) (by kernel_rfl) (fun _ _ _ h => h) (Or.inl ⟨by rfl, ?_⟩) (fun _ => by assumption) ?_
  rotate_left
  · (intro w hSw; go_simp)
    all_goals (with_reducible rfl)
  (try simp only [List.getElem_toArray, List.getElem_cons_zero, List.getElem_cons_succ, Act.put, List.setIfInBounds_toArray, List.set_cons_zero, List.set_cons_succ])
  refine wpAnyT_pure (i := 1) (oi := _) (v := ?_) rfl (by kernel_rfl) (by kernel_rfl) (by kernel_rfl) (by kernel_rfl) (fun _ _ _ h => h) (Or.inl ⟨by rfl, ?_⟩) (fun _ => by assumption) ?_
  rotate_left
  · (intro w hSw; go_simp)
    all_goals (with_reducible rfl)
  (try simp only [List.getElem_toArray, List.getElem_cons_zero, List.getElem_cons_succ, Act.put, List.setIfInBounds_toArray, List.set_cons_zero, List.set_cons_succ])
  refine wpAnyT_pure (i := 2) (oi := _) (v := ?_) rfl (by kernel_rfl) (by kernel_rfl) (by kernel_rfl) (by kernel_rfl) (fun _ _ _ h => h) (Or.inl ⟨by rfl, ?_⟩) (fun _ => by assumption) ?_
  rotate_left
  · (intro w hSw; go_simp)
    all_goals (with_reducible rfl)
  (try simp only [List.getElem_toArray, List.getElem_cons_zero, List.getElem_cons_succ, Act.put, List.setIfInBounds_toArray, List.set_cons_zero, List.set_cons_succ])
  refine wpAnyT_take (i := 3) (oi := _) (v := ?_) rfl (by kernel_rfl) (by kernel_rfl) (by kernel_rfl) (by kernel_rfl) (fun _ _ _ h => h) (Or.inl ⟨by rfl, ?_⟩) (by assumption) ?_
  rotate_left
  · (intro w hSw; (try dsimp only at hSw); go_simp)
    all_goals (with_reducible rfl)
  (try simp only [List.getElem_toArray, List.getElem_cons_zero, List.getElem_cons_succ, Act.put, List.setIfInBounds_toArray, List.set_cons_zero, List.set_cons_succ])
  refine wpAnyT_pure (i := 4) (oi := _) (v := ?_) rfl (by kernel_rfl) (by kernel_rfl) (by kernel_rfl) (by kernel_rfl) (fun _ _ _ h => h) (Or.inl ⟨by rfl, ?_⟩) (fun _ => by assumption) ?_
  rotate_left
  · (intro w hSw; go_simp)
    all_goals (with_reducible rfl)
  (try simp only [List.getElem_toArray, List.getElem_cons_zero, List.getElem_cons_succ, Act.put, List.setIfInBounds_toArray, List.set_cons_zero, List.set_cons_succ])
  refine wpAnyT_take (i := 5) (oi := _) (v := ?_) rfl (by kernel_rfl) (by kernel_rfl) (by kernel_rfl) (by kernel_rfl) (fun _ _ _ h => h) (Or.inl ⟨by rfl, ?_⟩) (by assumption) ?_
  rotate_left
  · (intro w hSw; (try dsimp only at hSw); go_simp)
    all_goals (with_reducible rfl)
  (try simp only [List.getElem_toArray, List.getElem_cons_zero, List.getElem_cons_succ, Act.put, List.setIfInBounds_toArray, List.set_cons_zero, List.set_cons_succ])
  refine wpAnyT_pure (i := 6) (oi := _) (v := ?_) rfl (by kernel_rfl) (by kernel_rfl) (by kernel_rfl) (by kernel_rfl) (fun _ _ _ h => h) (Or.inl ⟨by rfl, ?_⟩) (fun _ => by assumption) ?_
  rotate_left
  · (intro w hSw; go_simp)
    all_goals (with_reducible rfl)
  (try simp only [List.getElem_toArray, List.getElem_cons_zero, List.getElem_cons_succ, Act.put, List.setIfInBounds_toArray, List.set_cons_zero, List.set_cons_succ])
  refine wpAnyT_ready (rs := [7]) (by kernel_rfl) (by simp) ?_
  refine AllReadyT.cons rfl (fun K hK => ?_) AllReadyT.nil
  obtain ⟨r0, r1, r2, r3, r4, d0, d1, d2, d3, d4, e0, e1, e2, e3, e4⟩ := row_cells (n := N) (j := i) (own_below hrow hHeld.2.2.2.2.2.2) hi
  go_simp
  refine hK.out _ _ (noneB_off (by kernel_rfl)) (fun _ => ?_)
  clear hK K
  (try simp only [List.getElem_toArray, List.getElem_cons_zero, List.getElem_cons_succ, Act.put, List.setIfInBounds_toArray, List.set_cons_zero, List.set_cons_succ])
  refine wpAnyT_done (by kernel_rfl) ?_ _
  exact hout.out _ _ _ _ _ _ _ _ hHeld.2.2.2.2.2.2
end Go.Proofs.Ytahammkjkfdmhaa
/- The document's putting in: a page split, region by region. -/
namespace Go.Proofs.Ytahammkjkfdmhaa
open Go.ChangeShapes Go.WideShapes Go.ChangeAt Go.RowKit
set_option linter.unusedVariables false
set_option linter.unusedSimpArgs false
set_option maxHeartbeats 4000000
variable {c1 c2 c3 c4 c5 c6 c7 c8 c9 c10 c11 c12 c13 c14 c15 c16 c17 c18 c19 c20 c21 c22 c23 c24 c25 c26 c27 c28 c29 c30 c31 c32 c33 c34 c35 c36 c37 c38 c39 c40 c41 c42 c43 c44 c45 c46 c47 c48 c49 c50 c51 c52 c53 c54 c55 c56 c57 c58 c59 c60 c61 c62 c63 c64 c65 c66 c67 c68 c69 c70 c71 c72 c73 c74 c75 c76 c77 c78 c79 c80 c81 c82 c83 c84 c85 c86 c87 c88 c89 c90 c91 c92 c93 c94 c95 c96 c97 c98 c99 c100 c101 c102 c103 c104 c105 c106 c107 c108 c109 c110 c111 c112 c113 c114 c115 c116 c117 c118 c119 c120 c121 c122 c123 c124 c125 c126 c127 c128 c129 c130 c131 c132 c133 c134 c135 c136 c137 c138 c139 c140 c141 c142 c143 c144 c145 c146 c147 c148 c149 c150 c151 c152 c153 c154 c155 c156 c157 c158 c159 c160 c161 c162 c163 c164 c165 c166 c167 c168 c169 c170 c171 c172 c173 c174 c175 c176 c177 c178 c179 c180 c181 c182 c183 c184 c185 c186 c187 c188 c189 c190 c191 c192 c193 c194 c195 c196 c197 c198 c199 c200 c201 c202 c203 c204 c205 c206 c207 c208 c209 c210 c211 c212 c213 c214 c215 c216 c217 c218 c219 c220 c221 c222 c223 c224 c225 c226 c227 c228 c229 c230 c231 c232 c233 : Value}
set_option maxRecDepth 1000000
theorem gen_set5 {P : World → Prop} {W : World} {Bx : Nat} {a b c d e u0 u1 u2 u3 u4 : Value} {T : TypeId} (hbx : W.heap[Bx]? = some (.cells #[u0, u1, u2, u3, u4] T (0, 0)))
    (h : ∀ W9 : World, W9.heap[Bx]? = some (.cells #[a, b, c, d, e] T (0, 0)) → W9.heap.size = W.heap.size → (∀ q, q ≠ Bx → W9.heap[q]? = W.heap[q]?) → (∀ n w0, n ≤ Bx → Below n w0 W → Below n w0 W9) → P W9) : P (((((W.setCell ⟨Bx, 0, none⟩ a).setCell ⟨Bx, 1, none⟩ b).setCell ⟨Bx, 2, none⟩ c).setCell ⟨Bx, 3, none⟩ d).setCell ⟨Bx, 4, none⟩ e) := by
  refine h _ (all5 hbx _ _ _ _ _) (by simp) (fun q hq => far5 _ _ _ _ _ _ _ _ hq) fun n w0 hn hb => ?_
  exact ((((hb.setCell (p := ⟨Bx, 0, none⟩) hn _).setCell (p := ⟨Bx, 1, none⟩) hn _).setCell (p := ⟨Bx, 2, none⟩) hn _).setCell (p := ⟨Bx, 3, none⟩) hn _).setCell (p := ⟨Bx, 4, none⟩) hn _
theorem alloc_of {w0 W : World} {n : Nat} {o : Obj} (h : Below n w0 (W.alloc o)) : (W.alloc o).heap[W.heap.size]? = some o := new0 W o
theorem ar36 (Q : Exit → Act → World → Prop)  (w0 : World) (O PB P C N cap gk nk ck gd nd cd pb po pn pc : Nat) (lf : Bool) (k : Key) (hk2 : 2 ≤ nk) (hck : nk ≤ ck) (hd2 : 2 ≤ nd) (hcd : nd ≤ cd) (ow : w0.cell? ⟨O, 0, none⟩ = some (.slice (some ⟨PB, 0, none⟩) N cap)) (p0 : w0.cell? ⟨P, 0, none⟩ = some (.bool lf)) (g1c : w0.cell? ⟨C, 1, none⟩ = some (.slice (some ⟨gk, 0, none⟩) nk ck)) (g2c : w0.cell? ⟨C, 2, none⟩ = some (.slice (some ⟨gd, 0, none⟩) nd cd)) (ok : Nat → Prop) (hr : RB w0 ok (.slice (some ⟨pb, po, none⟩) pn pc) k) (hkl : k.length ≤ 100)
    (hout : Hid (∀ (u166 u167 u168 u169 u170 u171 u172 u173 u174 u175 u176 u177 u178 u179 u180 u181 : Value) (w' : World) (BL : Nat) (av : Option Addr) (cv : Nat), w0.heap.size ≤ BL → BL < w'.heap.size → w'.heap[BL]? = some (.cells #[.bool lf, .slice (some ⟨gk, 0, none⟩) 2 ck, .slice (some ⟨gd, 0, none⟩) 2 cd, .slice av k.length cv, .int .i64 (N : Int)] 43 (0, 0)) → RB w' (fun b => w0.heap.size ≤ b ∧ b < w'.heap.size ∧ b ≠ BL) (.slice av k.length cv) k → Below w0.heap.size w0 w' → Q .normal ⟨List.toArray ((.pointer (some ⟨O, 0, none⟩))::c1::c2::c3::c4::c5::c6::c7::c8::c9::(.pointer (some ⟨P, 0, none⟩))::c11::c12::c13::c14::c15::(.pointer (some ⟨C, 0, none⟩))::c17::c18::c19::(.slice (some ⟨pb, po, none⟩) pn pc)::(.pointer (some ⟨BL, 0, none⟩))::c22::c23::c24::c25::c26::c27::c28::c29::c30::c31::c32::c33::c34::c35::c36::c37::c38::c39::c40::c41::c42::c43::c44::c45::c46::c47::c48::c49::c50::c51::c52::c53::c54::c55::c56::c57::c58::c59::c60::c61::c62::c63::c64::c65::c66::c67::c68::c69::c70::c71::c72::c73::c74::c75::c76::c77::c78::c79::c80::c81::c82::c83::c84::c85::c86::c87::c88::c89::c90::c91::c92::c93::c94::c95::c96::c97::c98::c99::c100::c101::c102::c103::c104::c105::c106::c107::c108::c109::c110::c111::c112::c113::c114::c115::c116::c117::c118::c119::c120::c121::c122::c123::c124::c125::c126::c127::c128::c129::c130::c131::c132::c133::c134::c135::c136::c137::c138::c139::c140::c141::c142::c143::c144::c145::c146::c147::c148::c149::c150::c151::c152::c153::c154::c155::c156::c157::c158::c159::c160::c161::c162::c163::c164::c165::u166::u167::u168::u169::u170::u171::u172::u173::u174::u175::u176::u177::u178::u179::u180::u181::c182::c183::c184::c185::c186::c187::c188::c189::c190::c191::c192::c193::c194::c195::c196::c197::c198::c199::c200::c201::c202::c203::c204::c205::c206::c207::c208::c209::c210::c211::c212::c213::c214::c215::c216::c217::c218::c219::c220::c221::c222::c223::c224::c225::c226::c227::c228::c229::c230::c231::c232::c233::[]), []⟩ w')) :
    Code.wp Try.prog ((regionOf 36 (Try.f21.body.getD .skip)).getD .skip) Q ⟨List.toArray ((.pointer (some ⟨O, 0, none⟩))::c1::c2::c3::c4::c5::c6::c7::c8::c9::(.pointer (some ⟨P, 0, none⟩))::c11::c12::c13::c14::c15::(.pointer (some ⟨C, 0, none⟩))::c17::c18::c19::(.slice (some ⟨pb, po, none⟩) pn pc)::c21::c22::c23::c24::c25::c26::c27::c28::c29::c30::c31::c32::c33::c34::c35::c36::c37::c38::c39::c40::c41::c42::c43::c44::c45::c46::c47::c48::c49::c50::c51::c52::c53::c54::c55::c56::c57::c58::c59::c60::c61::c62::c63::c64::c65::c66::c67::c68::c69::c70::c71::c72::c73::c74::c75::c76::c77::c78::c79::c80::c81::c82::c83::c84::c85::c86::c87::c88::c89::c90::c91::c92::c93::c94::c95::c96::c97::c98::c99::c100::c101::c102::c103::c104::c105::c106::c107::c108::c109::c110::c111::c112::c113::c114::c115::c116::c117::c118::c119::c120::c121::c122::c123::c124::c125::c126::c127::c128::c129::c130::c131::c132::c133::c134::c135::c136::c137::c138::c139::c140::c141::c142::c143::c144::c145::c146::c147::c148::c149::c150::c151::c152::c153::c154::c155::c156::c157::c158::c159::c160::c161::c162::c163::c164::c165::c166::c167::c168::c169::c170::c171::c172::c173::c174::c175::c176::c177::c178::c179::c180::c181::c182::c183::c184::c185::c186::c187::c188::c189::c190::c191::c192::c193::c194::c195::c196::c197::c198::c199::c200::c201::c202::c203::c204::c205::c206::c207::c208::c209::c210::c211::c212::c213::c214::c215::c216::c217::c218::c219::c220::c221::c222::c223::c224::c225::c226::c227::c228::c229::c230::c231::c232::c233::[]), []⟩ w0 := by
  refine Code.wp_mono (Q := NQ Q) nq_to ?_
  conv => arg 2; whnf
  have z1 : (2 : Int) ≤ (nk : Int) := by omega
  have z2 : (2 : Int) ≤ (ck : Int) := by omega
  have z3 : (2 : Int) ≤ (nd : Int) := by omega
  have z4 : (2 : Int) ≤ (cd : Int) := by omega
  have hcp : ∀ W : World, Below w0.heap.size w0 W → Calls Try.prog 28 #[.slice (some ⟨pb, po, none⟩) pn pc] W fun e w' => ∃ av cv, e = .returned (.slice av k.length cv) ∧ RB w' (newOnes W w') (.slice av k.length cv) k ∧ Below W.heap.size W w' := fun W hW =>
    (bcopy_any W ok _ k (hr.below hW) (by omega)).mono fun e w' ⟨v', h1, h2, h3⟩ => by
      obtain ⟨a, c, rfl⟩ := h2.sh
      exact ⟨a, c, h1, h2, h3⟩
  have HCP := Lib.hid hcp
  clear hcp hr
  refine wpT_begin2 (S := (fun wx => wx.cell? ⟨P, 0, none⟩ = some (.bool lf) ∧ wx.cell? ⟨C, 1, none⟩ = some (.slice (some ⟨gk, 0, none⟩) nk ck) ∧ wx.cell? ⟨C, 2, none⟩ = some (.slice (some ⟨gd, 0, none⟩) nd cd) ∧ wx.cell? ⟨O, 0, none⟩ = some (.slice (some ⟨PB, 0, none⟩) N cap) ∧ Below w0.heap.size w0 wx)) [17] (by kernel_rfl) ?_ (fun Wd hHeld => ?_)
  · (try dsimp only)
    exact ⟨cell_dr p0, cell_dr g1c, cell_dr g2c, cell_dr ow, (Below.refl _ _).drew⟩
  have hbd := hHeld.2.2.2.2
  refine wpAnyT_pure (i := 0) (oi := _) (v := ?_) rfl (by kernel_rfl) (by kernel_rfl) (by kernel_rfl) (by kernel_rfl) (fun _ _ _ h => h) (Or.inl ⟨by rfl, ?_⟩) (fun _ => by assumption) ?_
  rotate_left
  · (intro w hSw; go_simp)
    all_goals (with_reducible rfl)
  (try simp only [List.getElem_toArray, List.getElem_cons_zero, List.getElem_cons_succ, Act.put, List.setIfInBounds_toArray, List.set_cons_zero, List.set_cons_succ])
  refine wpAnyT_take (i := 1) (oi := _) (v := ?_) rfl (by kernel_rfl) (by kernel_rfl) (by kernel_rfl) (by kernel_rfl) (fun _ _ _ h => h) (Or.inl ⟨by rfl, ?_⟩) (by assumption) ?_
  rotate_left
  · (intro w hSw; (try dsimp only at hSw); go_simp)
    all_goals (with_reducible rfl)
  (try simp only [List.getElem_toArray, List.getElem_cons_zero, List.getElem_cons_succ, Act.put, List.setIfInBounds_toArray, List.set_cons_zero, List.set_cons_succ])
  refine wpAnyT_pure (i := 2) (oi := _) (v := ?_) rfl (by kernel_rfl) (by kernel_rfl) (by kernel_rfl) (by kernel_rfl) (fun _ _ _ h => h) (Or.inl ⟨by rfl, ?_⟩) (fun _ => by assumption) ?_
  rotate_left
  · (intro w hSw; go_simp)
    all_goals (with_reducible rfl)
  (try simp only [List.getElem_toArray, List.getElem_cons_zero, List.getElem_cons_succ, Act.put, List.setIfInBounds_toArray, List.set_cons_zero, List.set_cons_succ])
  refine wpAnyT_take (i := 3) (oi := _) (v := ?_) rfl (by kernel_rfl) (by kernel_rfl) (by kernel_rfl) (by kernel_rfl) (fun _ _ _ h => h) (Or.inl ⟨by rfl, ?_⟩) (by assumption) ?_
  rotate_left
  · (intro w hSw; (try dsimp only at hSw); go_simp)
    all_goals (with_reducible rfl)
  (try simp only [List.getElem_toArray, List.getElem_cons_zero, List.getElem_cons_succ, Act.put, List.setIfInBounds_toArray, List.set_cons_zero, List.set_cons_succ])
  refine wpAnyT_pure (i := 4) (oi := _) (v := ?_) rfl (by kernel_rfl) (by kernel_rfl) (by kernel_rfl) (by kernel_rfl) (fun _ _ _ h => h) (Or.inl ⟨by rfl, ?_⟩) (fun _ => by assumption) ?_
  rotate_left
  · (intro w hSw; go_simp)
    all_goals (with_reducible rfl)
  (try simp only [List.getElem_toArray, List.getElem_cons_zero, List.getElem_cons_succ, Act.put, List.setIfInBounds_toArray, List.set_cons_zero, List.set_cons_succ])
  refine wpAnyT_pure (i := 5) (oi := _) (v := ?_) rfl (by kernel_rfl) (by kernel_rfl) (by kernel_rfl) (by kernel_rfl) (fun _ _ _ h => h) (Or.inl ⟨by rfl, ?_⟩) (fun _ => by assumption) ?_
  rotate_left
  · (intro w hSw; go_simp)
    all_goals (with_reducible rfl)
  (try simp only [List.getElem_toArray, List.getElem_cons_zero, List.getElem_cons_succ, Act.put, List.setIfInBounds_toArray, List.set_cons_zero, List.set_cons_succ])
  refine wpAnyT_take (i := 6) (oi := _) (v := ?_) rfl (by kernel_rfl) (by kernel_rfl) (by kernel_rfl) (by kernel_rfl) (fun _ _ _ h => h) (Or.inl ⟨by rfl, ?_⟩) (by assumption) ?_
  rotate_left
  · (intro w hSw; (try dsimp only at hSw); go_simp)
    all_goals (with_reducible rfl)
  (try simp only [List.getElem_toArray, List.getElem_cons_zero, List.getElem_cons_succ, Act.put, List.setIfInBounds_toArray, List.set_cons_zero, List.set_cons_succ])
  refine wpAnyT_pure (i := 7) (oi := _) (v := ?_) rfl (by kernel_rfl) (by kernel_rfl) (by kernel_rfl) (by kernel_rfl) (fun _ _ _ h => h) (Or.inl ⟨by rfl, ?_⟩) (fun _ => by assumption) ?_
  rotate_left
  · (intro w hSw; go_simp)
    all_goals (with_reducible rfl)
  (try simp only [List.getElem_toArray, List.getElem_cons_zero, List.getElem_cons_succ, Act.put, List.setIfInBounds_toArray, List.set_cons_zero, List.set_cons_succ])
  refine wpAnyT_pure (i := 8) (oi := _) (v := ?_) rfl (by kernel_rfl) (by kernel_rfl) (by kernel_rfl) (by kernel_rfl) (fun _ _ _ h => h) (Or.inl ⟨by rfl, ?_⟩) (fun _ => by assumption) ?_
  rotate_left
  · (intro w hSw; go_simp)
    all_goals (with_reducible rfl)
  (try simp only [List.getElem_toArray, List.getElem_cons_zero, List.getElem_cons_succ, Act.put, List.setIfInBounds_toArray, List.set_cons_zero, List.set_cons_succ])
  refine wpAnyT_pure (i := 10) (oi := _) (v := ?_) rfl (by kernel_rfl) (by kernel_rfl) (by kernel_rfl) (by kernel_rfl) (fun _ _ _ h => h) (Or.inl ⟨by rfl, ?_⟩) (fun _ => by assumption) ?_
  rotate_left
  · (intro w hSw; go_simp)
    all_goals (with_reducible rfl)
  (try simp only [List.getElem_toArray, List.getElem_cons_zero, List.getElem_cons_succ, Act.put, List.setIfInBounds_toArray, List.set_cons_zero, List.set_cons_succ])
  refine wpAnyT_pure (i := 11) (oi := _) (v := ?_) rfl (by kernel_rfl) (by kernel_rfl) (by kernel_rfl) (by kernel_rfl) (fun _ _ _ h => h) (Or.inl ⟨by rfl, ?_⟩) (fun _ => by assumption) ?_
  rotate_left
  · (intro w hSw; go_simp)
    all_goals (with_reducible rfl)
  (try simp only [List.getElem_toArray, List.getElem_cons_zero, List.getElem_cons_succ, Act.put, List.setIfInBounds_toArray, List.set_cons_zero, List.set_cons_succ])
  refine wpAnyT_pure (i := 12) (oi := _) (v := ?_) rfl (by kernel_rfl) (by kernel_rfl) (by kernel_rfl) (by kernel_rfl) (fun _ _ _ h => h) (Or.inl ⟨by rfl, ?_⟩) (fun _ => by assumption) ?_
  rotate_left
  · (intro w hSw; go_simp)
    all_goals (with_reducible rfl)
  (try simp only [List.getElem_toArray, List.getElem_cons_zero, List.getElem_cons_succ, Act.put, List.setIfInBounds_toArray, List.set_cons_zero, List.set_cons_succ])
  refine wpAnyT_take (i := 13) (oi := _) (v := ?_) rfl (by kernel_rfl) (by kernel_rfl) (by kernel_rfl) (by kernel_rfl) (fun _ _ _ h => h) (Or.inl ⟨by rfl, ?_⟩) (by assumption) ?_
  rotate_left
  · (intro w hSw; (try dsimp only at hSw); go_simp)
    all_goals (with_reducible rfl)
  (try simp only [List.getElem_toArray, List.getElem_cons_zero, List.getElem_cons_succ, Act.put, List.setIfInBounds_toArray, List.set_cons_zero, List.set_cons_succ])
  refine wpAnyT_pure (i := 14) (oi := _) (v := ?_) rfl (by kernel_rfl) (by kernel_rfl) (by kernel_rfl) (by kernel_rfl) (fun _ _ _ h => h) (Or.inl ⟨by rfl, ?_⟩) (fun _ => by assumption) ?_
  rotate_left
  · (intro w hSw; go_simp)
    all_goals (with_reducible rfl)
  (try simp only [List.getElem_toArray, List.getElem_cons_zero, List.getElem_cons_succ, Act.put, List.setIfInBounds_toArray, List.set_cons_zero, List.set_cons_succ])
  refine wpAnyT_ready (rs := [9, 16]) (by kernel_rfl) (by simp) ?_
  refine AllReadyT.cons rfl (fun K hK => ?_) (AllReadyT.cons rfl (fun K hK => ?_) AllReadyT.nil)
  · skip
    go_simp
    (go_at_call 28; refine (HCP.out _ hHeld.2.2.2.2).mono ?_; rintro e w2 ⟨av, cv, rfl, hr2, hbc⟩; have hz2 := hbc.size; (try simp only [World.size_alloc] at hz2); (try replace hbx := (hbc.block _ (Array.getElem?_eq_some_iff.1 hbx).1).trans hbx))
    go_wp2_with fail
    refine hK.out _ _ (fun _ => ?_) (fun hHeld0 => ?_)
    · (try dsimp only)
      exact ⟨cell_bel hbc (hHeld.1), cell_bel hbc (hHeld.2.1), cell_bel hbc (hHeld.2.2.1), cell_bel hbc (hHeld.2.2.2.1), Below.trans (hHeld.2.2.2.2) (hbc.mono (hHeld.2.2.2.2).size)⟩
    have hHeld1 := hHeld0 (by kernel_rfl)
    clear hK K hHeld0
    have hb2 := hHeld1.2.2.2.2
    clear hHeld; have hHeld := hHeld1; clear hHeld1
    (try simp only [List.getElem_toArray, List.getElem_cons_zero, List.getElem_cons_succ, Act.put, List.setIfInBounds_toArray, List.set_cons_zero, List.set_cons_succ])
    refine wpAnyT_pure (i := 15) (oi := _) (v := ?_) rfl (by kernel_rfl) (by kernel_rfl) (by kernel_rfl) (by kernel_rfl) (fun _ _ _ h => h) (Or.inl ⟨by rfl, ?_⟩) (fun _ => by assumption) ?_
    rotate_left
    · (intro w hSw; go_simp)
      all_goals (with_reducible rfl)
    (try simp only [List.getElem_toArray, List.getElem_cons_zero, List.getElem_cons_succ, Act.put, List.setIfInBounds_toArray, List.set_cons_zero, List.set_cons_succ])
    refine wpAnyT_ready (rs := [16]) (by kernel_rfl) (by simp) ?_
    refine AllReadyT.cons rfl (fun K hK => ?_) AllReadyT.nil
    go_simp
    refine hK.out _ _ (fun _ => ?_) (fun hHeld0 => ?_)
    · (try dsimp only)
      (first | (with_reducible exact hHeld) | (with_reducible exact ⟨cell_al _ (hHeld.1), cell_al _ (hHeld.2.1), cell_al _ (hHeld.2.2.1), cell_al _ (hHeld.2.2.2.1), Below.alloc (hHeld.2.2.2.2) (hHeld.2.2.2.2).size _⟩))
    have hHeld1 := hHeld0 (by kernel_rfl)
    clear hK K hHeld0
    (have hbx := alloc_of hHeld1.2.2.2.2)
    clear hHeld; have hHeld := hHeld1; clear hHeld1
    (try simp only [List.getElem_toArray, List.getElem_cons_zero, List.getElem_cons_succ, Act.put, List.setIfInBounds_toArray, List.set_cons_zero, List.set_cons_succ])
    refine wpAnyT_ready (rs := [17]) (by kernel_rfl) (by simp) ?_
    refine AllReadyT.cons rfl (fun K hK => ?_) AllReadyT.nil
    obtain ⟨b0, b1, b2, b3, b4, bf0, bf1, bf2, bf3, bf4⟩ := box5 hbx
    go_simp
    refine hK.out _ _ (noneB_off (by kernel_rfl)) (fun _ => ?_)
    clear hK K
    (try simp only [List.getElem_toArray, List.getElem_cons_zero, List.getElem_cons_succ, Act.put, List.setIfInBounds_toArray, List.set_cons_zero, List.set_cons_succ])
    refine wpAnyT_done (by kernel_rfl) ?_ _
    (try clear b0 b1 b2 b3 b4 bf0 bf1 bf2 bf3 bf4)
    (try dsimp only)
    first
      | refine gen_set5 (P := fun w => (_ : Exit → Act → World → Prop) Exit.normal _ w) hbx (fun W9 hx9 hz9 hf9 hB9 => ?_)
      | refine gen_new5 (P := fun w => (_ : Exit → Act → World → Prop) Exit.normal _ w) (fun W9 hx9 hz9 hB9 => ?_)
    have hzb2 := hb2.size
    have hzbd := hbd.size
    (try simp only [World.size_alloc] at hzb2 hzbd)
    first
      | exact hout.out _ _ _ _ _ _ _ _ _ _ _ _ _ _ _ _ W9 _ av cv (by omega) (by omega) hx9 (RB.mono (hr2.agree fun b g hlt => hB9.block b hlt) fun b g => ⟨by have := g.1; (try simp only [World.size_alloc] at this); omega, by have := g.2; omega, by have := g.2; omega⟩) (hb2.trans (hB9.mono (by omega)))
      | exact hout.out _ _ _ _ _ _ _ _ _ _ _ _ _ _ _ _ W9 _ av cv (by omega) (by have := (Array.getElem?_eq_some_iff.1 hx9).1; omega) hx9 (RB.mono (hr2.agree fun b g hlt => hf9 b (by have := g.1; (try simp only [World.size_alloc] at this); omega)) fun b g => ⟨by have := g.1; (try simp only [World.size_alloc] at this); omega, by have := g.2; omega, by have := g.1; (try simp only [World.size_alloc] at this); omega⟩) (hB9 _ _ (by omega) hb2)
  · skip
    go_simp
    refine hK.out _ _ (fun _ => ?_) (fun hHeld0 => ?_)
    · (try dsimp only)
      (first | (with_reducible exact hHeld) | (with_reducible exact ⟨cell_al _ (hHeld.1), cell_al _ (hHeld.2.1), cell_al _ (hHeld.2.2.1), cell_al _ (hHeld.2.2.2.1), Below.alloc (hHeld.2.2.2.2) (hHeld.2.2.2.2).size _⟩))
    have hHeld1 := hHeld0 (by kernel_rfl)
    clear hK K hHeld0
    (have hbx := alloc_of hHeld1.2.2.2.2)
    clear hHeld; have hHeld := hHeld1; clear hHeld1
    (try simp only [List.getElem_toArray, List.getElem_cons_zero, List.getElem_cons_succ, Act.put, List.setIfInBounds_toArray, List.set_cons_zero, List.set_cons_succ])
    refine wpAnyT_ready (rs := [9]) (by kernel_rfl) (by simp) ?_
    refine AllReadyT.cons rfl (fun K hK => ?_) AllReadyT.nil
    go_simp
    (go_at_call 28; refine (HCP.out _ hHeld.2.2.2.2).mono ?_; rintro e w2 ⟨av, cv, rfl, hr2, hbc⟩; have hz2 := hbc.size; (try simp only [World.size_alloc] at hz2); (try replace hbx := (hbc.block _ (Array.getElem?_eq_some_iff.1 hbx).1).trans hbx))
    go_wp2_with fail
    refine hK.out _ _ (fun _ => ?_) (fun hHeld0 => ?_)
    · (try dsimp only)
      exact ⟨cell_bel hbc (hHeld.1), cell_bel hbc (hHeld.2.1), cell_bel hbc (hHeld.2.2.1), cell_bel hbc (hHeld.2.2.2.1), Below.trans (hHeld.2.2.2.2) (hbc.mono (hHeld.2.2.2.2).size)⟩
    have hHeld1 := hHeld0 (by kernel_rfl)
    clear hK K hHeld0
    have hb2 := hHeld1.2.2.2.2
    clear hHeld; have hHeld := hHeld1; clear hHeld1
    (try simp only [List.getElem_toArray, List.getElem_cons_zero, List.getElem_cons_succ, Act.put, List.setIfInBounds_toArray, List.set_cons_zero, List.set_cons_succ])
    refine wpAnyT_pure (i := 15) (oi := _) (v := ?_) rfl (by kernel_rfl) (by kernel_rfl) (by kernel_rfl) (by kernel_rfl) (fun _ _ _ h => h) (Or.inl ⟨by rfl, ?_⟩) (fun _ => by assumption) ?_
    rotate_left
    · (intro w hSw; go_simp)
      all_goals (with_reducible rfl)
    (try simp only [List.getElem_toArray, List.getElem_cons_zero, List.getElem_cons_succ, Act.put, List.setIfInBounds_toArray, List.set_cons_zero, List.set_cons_succ])
    refine wpAnyT_ready (rs := [17]) (by kernel_rfl) (by simp) ?_
    refine AllReadyT.cons rfl (fun K hK => ?_) AllReadyT.nil
    obtain ⟨b0, b1, b2, b3, b4, bf0, bf1, bf2, bf3, bf4⟩ := box5 hbx
    go_simp
    refine hK.out _ _ (noneB_off (by kernel_rfl)) (fun _ => ?_)
    clear hK K
    (try simp only [List.getElem_toArray, List.getElem_cons_zero, List.getElem_cons_succ, Act.put, List.setIfInBounds_toArray, List.set_cons_zero, List.set_cons_succ])
    refine wpAnyT_done (by kernel_rfl) ?_ _
    (try clear b0 b1 b2 b3 b4 bf0 bf1 bf2 bf3 bf4)
    (try dsimp only)
    first
      | refine gen_set5 (P := fun w => (_ : Exit → Act → World → Prop) Exit.normal _ w) hbx (fun W9 hx9 hz9 hf9 hB9 => ?_)
      | refine gen_new5 (P := fun w => (_ : Exit → Act → World → Prop) Exit.normal _ w) (fun W9 hx9 hz9 hB9 => ?_)
    have hzb2 := hb2.size
    have hzbd := hbd.size
    (try simp only [World.size_alloc] at hzb2 hzbd)
    first
      | exact hout.out _ _ _ _ _ _ _ _ _ _ _ _ _ _ _ _ W9 _ av cv (by omega) (by omega) hx9 (RB.mono (hr2.agree fun b g hlt => hB9.block b hlt) fun b g => ⟨by have := g.1; (try simp only [World.size_alloc] at this); omega, by have := g.2; omega, by have := g.2; omega⟩) (hb2.trans (hB9.mono (by omega)))
      | exact hout.out _ _ _ _ _ _ _ _ _ _ _ _ _ _ _ _ W9 _ av cv (by omega) (by have := (Array.getElem?_eq_some_iff.1 hx9).1; omega) hx9 (RB.mono (hr2.agree fun b g hlt => hf9 b (by have := g.1; (try simp only [World.size_alloc] at this); omega)) fun b g => ⟨by have := g.1; (try simp only [World.size_alloc] at this); omega, by have := g.2; omega, by have := g.1; (try simp only [World.size_alloc] at this); omega⟩) (hB9 _ _ (by omega) hb2)
theorem ar37 (Q : Exit → Act → World → Prop)  (w0 : World) (O P C gk nk ck gd nd cd nh chh : Nat) (ah : Option Addr) (nx : Int) (lf : Bool) (hk2 : 2 < nk) (hck : nk ≤ ck) (hd2 : 2 < nd) (hcd : nd ≤ cd) (hckm : ck ≤ maxLen) (hcdm : cd ≤ maxLen) (p0 : w0.cell? ⟨P, 0, none⟩ = some (.bool lf)) (p3 : w0.cell? ⟨P, 3, none⟩ = some (.slice ah nh chh)) (p4 : w0.cell? ⟨P, 4, none⟩ = some (.int .i64 nx)) (g1c : w0.cell? ⟨C, 1, none⟩ = some (.slice (some ⟨gk, 0, none⟩) nk ck)) (g2c : w0.cell? ⟨C, 2, none⟩ = some (.slice (some ⟨gd, 0, none⟩) nd cd))
    (hout : Hid (∀ (u182 u183 u184 u185 u186 u187 u188 u189 u190 u191 u192 u193 u194 : Value) (w' : World) (BR : Nat), w0.heap.size ≤ BR → BR < w'.heap.size → w'.heap[BR]? = some (.cells #[.bool lf, .slice (some ⟨gk, 2, none⟩) (nk - 2) (ck - 2), .slice (some ⟨gd, 2, none⟩) (nd - 2) (cd - 2), .slice ah nh chh, .int .i64 nx] 43 (0, 0)) → Below w0.heap.size w0 w' → Q .normal ⟨List.toArray ((.pointer (some ⟨O, 0, none⟩))::c1::c2::c3::c4::c5::c6::c7::c8::c9::(.pointer (some ⟨P, 0, none⟩))::c11::c12::c13::c14::c15::(.pointer (some ⟨C, 0, none⟩))::c17::c18::c19::c20::c21::(.pointer (some ⟨BR, 0, none⟩))::c23::c24::c25::c26::c27::c28::c29::c30::c31::c32::c33::c34::c35::c36::c37::c38::c39::c40::c41::c42::c43::c44::c45::c46::c47::c48::c49::c50::c51::c52::c53::c54::c55::c56::c57::c58::c59::c60::c61::c62::c63::c64::c65::c66::c67::c68::c69::c70::c71::c72::c73::c74::c75::c76::c77::c78::c79::c80::c81::c82::c83::c84::c85::c86::c87::c88::c89::c90::c91::c92::c93::c94::c95::c96::c97::c98::c99::c100::c101::c102::c103::c104::c105::c106::c107::c108::c109::c110::c111::c112::c113::c114::c115::c116::c117::c118::c119::c120::c121::c122::c123::c124::c125::c126::c127::c128::c129::c130::c131::c132::c133::c134::c135::c136::c137::c138::c139::c140::c141::c142::c143::c144::c145::c146::c147::c148::c149::c150::c151::c152::c153::c154::c155::c156::c157::c158::c159::c160::c161::c162::c163::c164::c165::c166::c167::c168::c169::c170::c171::c172::c173::c174::c175::c176::c177::c178::c179::c180::c181::u182::u183::u184::u185::u186::u187::u188::u189::u190::u191::u192::u193::u194::c195::c196::c197::c198::c199::c200::c201::c202::c203::c204::c205::c206::c207::c208::c209::c210::c211::c212::c213::c214::c215::c216::c217::c218::c219::c220::c221::c222::c223::c224::c225::c226::c227::c228::c229::c230::c231::c232::c233::[]), []⟩ w')) :
    Code.wp Try.prog ((regionOf 37 (Try.f21.body.getD .skip)).getD .skip) Q ⟨List.toArray ((.pointer (some ⟨O, 0, none⟩))::c1::c2::c3::c4::c5::c6::c7::c8::c9::(.pointer (some ⟨P, 0, none⟩))::c11::c12::c13::c14::c15::(.pointer (some ⟨C, 0, none⟩))::c17::c18::c19::c20::c21::c22::c23::c24::c25::c26::c27::c28::c29::c30::c31::c32::c33::c34::c35::c36::c37::c38::c39::c40::c41::c42::c43::c44::c45::c46::c47::c48::c49::c50::c51::c52::c53::c54::c55::c56::c57::c58::c59::c60::c61::c62::c63::c64::c65::c66::c67::c68::c69::c70::c71::c72::c73::c74::c75::c76::c77::c78::c79::c80::c81::c82::c83::c84::c85::c86::c87::c88::c89::c90::c91::c92::c93::c94::c95::c96::c97::c98::c99::c100::c101::c102::c103::c104::c105::c106::c107::c108::c109::c110::c111::c112::c113::c114::c115::c116::c117::c118::c119::c120::c121::c122::c123::c124::c125::c126::c127::c128::c129::c130::c131::c132::c133::c134::c135::c136::c137::c138::c139::c140::c141::c142::c143::c144::c145::c146::c147::c148::c149::c150::c151::c152::c153::c154::c155::c156::c157::c158::c159::c160::c161::c162::c163::c164::c165::c166::c167::c168::c169::c170::c171::c172::c173::c174::c175::c176::c177::c178::c179::c180::c181::c182::c183::c184::c185::c186::c187::c188::c189::c190::c191::c192::c193::c194::c195::c196::c197::c198::c199::c200::c201::c202::c203::c204::c205::c206::c207::c208::c209::c210::c211::c212::c213::c214::c215::c216::c217::c218::c219::c220::c221::c222::c223::c224::c225::c226::c227::c228::c229::c230::c231::c232::c233::[]), []⟩ w0 := by
  refine Code.wp_mono (Q := NQ Q) nq_to ?_
  conv => arg 2; whnf
  unfold maxLen at hckm hcdm
  have z1 : (2 : Int) ≤ (nk : Int) := by omega
  have z2 : (nk : Int) ≤ (ck : Int) := by omega
  have z3 : (2 : Int) ≤ (nd : Int) := by omega
  have z4 : (nd : Int) ≤ (cd : Int) := by omega
  have z5 : ¬ (ck = 2) := by omega
  have z6 : ¬ (cd = 2) := by omega
  refine wpT_begin2 (S := (fun wx => wx.cell? ⟨P, 0, none⟩ = some (.bool lf) ∧ wx.cell? ⟨C, 1, none⟩ = some (.slice (some ⟨gk, 0, none⟩) nk ck) ∧ wx.cell? ⟨C, 2, none⟩ = some (.slice (some ⟨gd, 0, none⟩) nd cd) ∧ wx.cell? ⟨P, 3, none⟩ = some (.slice ah nh chh) ∧ wx.cell? ⟨P, 4, none⟩ = some (.int .i64 nx) ∧ Below w0.heap.size w0 wx)) [14] (by kernel_rfl) ?_ (fun Wd hHeld => ?_)
  · (try dsimp only)
    exact ⟨cell_dr p0, cell_dr g1c, cell_dr g2c, cell_dr p3, cell_dr p4, (Below.refl _ _).drew⟩
  have hbd := hHeld.2.2.2.2.2
  refine wpAnyT_pure (i := 0) (oi := _) (v := ?_) rfl (by kernel_rfl) (by kernel_rfl) (by kernel_rfl) (by kernel_rfl) (fun _ _ _ h => h) (Or.inl ⟨by rfl, ?_⟩) (fun _ => by assumption) ?_
  rotate_left
  · (intro w hSw; go_simp)
    all_goals (with_reducible rfl)
  (try simp only [List.getElem_toArray, List.getElem_cons_zero, List.getElem_cons_succ, Act.put, List.setIfInBounds_toArray, List.set_cons_zero, List.set_cons_succ])
  refine wpAnyT_take (i := 1) (oi := _) (v := ?_) rfl (by kernel_rfl) (by kernel_rfl) (by kernel_rfl) (by kernel_rfl) (fun _ _ _ h => h) (Or.inl ⟨by rfl, ?_⟩) (by assumption) ?_
  rotate_left
  · (intro w hSw; (try dsimp only at hSw); go_simp)
    all_goals (with_reducible rfl)
  (try simp only [List.getElem_toArray, List.getElem_cons_zero, List.getElem_cons_succ, Act.put, List.setIfInBounds_toArray, List.set_cons_zero, List.set_cons_succ])
  refine wpAnyT_pure (i := 2) (oi := _) (v := ?_) rfl (by kernel_rfl) (by kernel_rfl) (by kernel_rfl) (by kernel_rfl) (fun _ _ _ h => h) (Or.inl ⟨by rfl, ?_⟩) (fun _ => by assumption) ?_
  rotate_left
  · (intro w hSw; go_simp)
    all_goals (with_reducible rfl)
  (try simp only [List.getElem_toArray, List.getElem_cons_zero, List.getElem_cons_succ, Act.put, List.setIfInBounds_toArray, List.set_cons_zero, List.set_cons_succ])
  refine wpAnyT_take (i := 3) (oi := _) (v := ?_) rfl (by kernel_rfl) (by kernel_rfl) (by kernel_rfl) (by kernel_rfl) (fun _ _ _ h => h) (Or.inl ⟨by rfl, ?_⟩) (by assumption) ?_
  rotate_left
  · (intro w hSw; (try dsimp only at hSw); go_simp)
    all_goals (with_reducible rfl)
  (try simp only [List.getElem_toArray, List.getElem_cons_zero, List.getElem_cons_succ, Act.put, List.setIfInBounds_toArray, List.set_cons_zero, List.set_cons_succ])
  refine wpAnyT_pure (i := 4) (oi := _) (v := ?_) rfl (by kernel_rfl) (by kernel_rfl) (by kernel_rfl) (by kernel_rfl) (fun _ _ _ h => h) (Or.inl ⟨by rfl, ?_⟩) (fun _ => by assumption) ?_
  rotate_left
  · (intro w hSw; go_simp)
    all_goals (with_reducible rfl)
  (try simp only [List.getElem_toArray, List.getElem_cons_zero, List.getElem_cons_succ, Act.put, List.setIfInBounds_toArray, List.set_cons_zero, List.set_cons_succ])
  refine wpAnyT_pure (i := 5) (oi := _) (v := ?_) rfl (by kernel_rfl) (by kernel_rfl) (by kernel_rfl) (by kernel_rfl) (fun _ _ _ h => h) (Or.inl ⟨by rfl, ?_⟩) (fun _ => by assumption) ?_
  rotate_left
  · (intro w hSw; go_simp)
    all_goals (with_reducible rfl)
  (try simp only [List.getElem_toArray, List.getElem_cons_zero, List.getElem_cons_succ, Act.put, List.setIfInBounds_toArray, List.set_cons_zero, List.set_cons_succ])
  refine wpAnyT_take (i := 6) (oi := _) (v := ?_) rfl (by kernel_rfl) (by kernel_rfl) (by kernel_rfl) (by kernel_rfl) (fun _ _ _ h => h) (Or.inl ⟨by rfl, ?_⟩) (by assumption) ?_
  rotate_left
  · (intro w hSw; (try dsimp only at hSw); go_simp)
    all_goals (with_reducible rfl)
  (try simp only [List.getElem_toArray, List.getElem_cons_zero, List.getElem_cons_succ, Act.put, List.setIfInBounds_toArray, List.set_cons_zero, List.set_cons_succ])
  refine wpAnyT_pure (i := 7) (oi := _) (v := ?_) rfl (by kernel_rfl) (by kernel_rfl) (by kernel_rfl) (by kernel_rfl) (fun _ _ _ h => h) (Or.inl ⟨by rfl, ?_⟩) (fun _ => by assumption) ?_
  rotate_left
  · (intro w hSw; go_simp)
    all_goals (with_reducible rfl)
  (try simp only [List.getElem_toArray, List.getElem_cons_zero, List.getElem_cons_succ, Act.put, List.setIfInBounds_toArray, List.set_cons_zero, List.set_cons_succ])
  refine wpAnyT_pure (i := 8) (oi := _) (v := ?_) rfl (by kernel_rfl) (by kernel_rfl) (by kernel_rfl) (by kernel_rfl) (fun _ _ _ h => h) (Or.inl ⟨by rfl, ?_⟩) (fun _ => by assumption) ?_
  rotate_left
  · (intro w hSw; go_simp)
    all_goals (with_reducible rfl)
  (try simp only [List.getElem_toArray, List.getElem_cons_zero, List.getElem_cons_succ, Act.put, List.setIfInBounds_toArray, List.set_cons_zero, List.set_cons_succ])
  refine wpAnyT_take (i := 9) (oi := _) (v := ?_) rfl (by kernel_rfl) (by kernel_rfl) (by kernel_rfl) (by kernel_rfl) (fun _ _ _ h => h) (Or.inl ⟨by rfl, ?_⟩) (by assumption) ?_
  rotate_left
  · (intro w hSw; (try dsimp only at hSw); go_simp)
    all_goals (with_reducible rfl)
  (try simp only [List.getElem_toArray, List.getElem_cons_zero, List.getElem_cons_succ, Act.put, List.setIfInBounds_toArray, List.set_cons_zero, List.set_cons_succ])
  refine wpAnyT_pure (i := 10) (oi := _) (v := ?_) rfl (by kernel_rfl) (by kernel_rfl) (by kernel_rfl) (by kernel_rfl) (fun _ _ _ h => h) (Or.inl ⟨by rfl, ?_⟩) (fun _ => by assumption) ?_
  rotate_left
  · (intro w hSw; go_simp)
    all_goals (with_reducible rfl)
  (try simp only [List.getElem_toArray, List.getElem_cons_zero, List.getElem_cons_succ, Act.put, List.setIfInBounds_toArray, List.set_cons_zero, List.set_cons_succ])
  refine wpAnyT_take (i := 11) (oi := _) (v := ?_) rfl (by kernel_rfl) (by kernel_rfl) (by kernel_rfl) (by kernel_rfl) (fun _ _ _ h => h) (Or.inl ⟨by rfl, ?_⟩) (by assumption) ?_
  rotate_left
  · (intro w hSw; (try dsimp only at hSw); go_simp)
    all_goals (with_reducible rfl)
  (try simp only [List.getElem_toArray, List.getElem_cons_zero, List.getElem_cons_succ, Act.put, List.setIfInBounds_toArray, List.set_cons_zero, List.set_cons_succ])
  refine wpAnyT_pure (i := 12) (oi := _) (v := ?_) rfl (by kernel_rfl) (by kernel_rfl) (by kernel_rfl) (by kernel_rfl) (fun _ _ _ h => h) (Or.inl ⟨by rfl, ?_⟩) (fun _ => by assumption) ?_
  rotate_left
  · (intro w hSw; go_simp)
    all_goals (with_reducible rfl)
  (try simp only [List.getElem_toArray, List.getElem_cons_zero, List.getElem_cons_succ, Act.put, List.setIfInBounds_toArray, List.set_cons_zero, List.set_cons_succ])
  refine wpAnyT_ready (rs := [13]) (by kernel_rfl) (by simp) ?_
  refine AllReadyT.cons rfl (fun K hK => ?_) AllReadyT.nil
  go_simp
  refine hK.out _ _ (fun _ => ?_) (fun hHeld0 => ?_)
  · (try dsimp only)
    (first | (with_reducible exact hHeld) | (with_reducible exact ⟨cell_al _ (hHeld.1), cell_al _ (hHeld.2.1), cell_al _ (hHeld.2.2.1), cell_al _ (hHeld.2.2.2.1), cell_al _ (hHeld.2.2.2.2.1), Below.alloc (hHeld.2.2.2.2.2) (hHeld.2.2.2.2.2).size _⟩))
  have hHeld1 := hHeld0 (by kernel_rfl)
  clear hK K hHeld0
  clear hHeld; have hHeld := hHeld1; clear hHeld1
  (try simp only [List.getElem_toArray, List.getElem_cons_zero, List.getElem_cons_succ, Act.put, List.setIfInBounds_toArray, List.set_cons_zero, List.set_cons_succ])
  refine wpAnyT_ready (rs := [14]) (by kernel_rfl) (by simp) ?_
  refine AllReadyT.cons rfl (fun K hK => ?_) AllReadyT.nil
  go_simp
  refine hK.out _ _ (noneB_off (by kernel_rfl)) (fun _ => ?_)
  clear hK K
  (try simp only [List.getElem_toArray, List.getElem_cons_zero, List.getElem_cons_succ, Act.put, List.setIfInBounds_toArray, List.set_cons_zero, List.set_cons_succ])
  refine wpAnyT_done (by kernel_rfl) ?_ _
  (try dsimp only)
  refine gen_new5 (P := fun w => (_ : Exit → Act → World → Prop) Exit.normal _ w) (fun W9 hx9 hz9 hB9 => ?_)
  have hzb := hbd.size
  exact hout.out _ _ _ _ _ _ _ _ _ _ _ _ _ W9 _ hzb (by omega) hx9 (hbd.trans (hB9.mono hzb))
theorem ar43 (Q : Exit → Act → World → Prop)  (w0 : World) (O PB BR N cap BO : Nat) (root : Int) (lf : Bool) (ka da ha : Option Addr) (kn kc dn dc hn hc : Nat) (nx : Int) (hObox : w0.heap[O]? = some (.cells #[.slice (some ⟨PB, 0, none⟩) N cap, .int .i64 root] 24 (0, 0))) (hR : w0.heap[BR]? = some (.cells #[.bool lf, .slice ka kn kc, .slice da dn dc, .slice ha hn hc, .int .i64 nx] 43 (0, 0))) (vs : List Value) (hrow : w0.ownsRow BO 43 5 (.slice (some ⟨PB, 0, none⟩) N cap) N vs) (hPO : PB ≠ O) (hPR : PB ≠ BR) (hN : N ≤ 4100) (hBO : BO ≤ w0.heap.size)
    (hout : Hid (∀ (u217 u218 u219 u220 u221 u222 u223 u224 u225 u226 : Value) (w5 : World) (gg cap5 : Nat) (ob : Obj), w5.ownsRow BO 43 5 (.slice (some ⟨gg, 0, none⟩) (N + 1) cap5) (N + 1) (vs ++ [.bool lf, .slice ka kn kc, .slice da dn dc, .slice ha hn hc, .int .i64 nx]) → (w0.alloc ob).drew.grownBy w5 (some PB) → (gg = PB ∨ gg = w0.heap.size + 1) → Q .normal ⟨List.toArray ((.pointer (some ⟨O, 0, none⟩))::c1::c2::c3::c4::c5::c6::c7::c8::c9::c10::c11::c12::c13::c14::c15::c16::c17::c18::c19::c20::c21::(.pointer (some ⟨BR, 0, none⟩))::c23::c24::c25::c26::c27::c28::c29::c30::c31::c32::c33::c34::c35::c36::c37::c38::c39::c40::c41::c42::c43::c44::c45::c46::c47::c48::c49::c50::c51::c52::c53::c54::c55::c56::c57::c58::c59::c60::c61::c62::c63::c64::c65::c66::c67::c68::c69::c70::c71::c72::c73::c74::c75::c76::c77::c78::c79::c80::c81::c82::c83::c84::c85::c86::c87::c88::c89::c90::c91::c92::c93::c94::c95::c96::c97::c98::c99::c100::c101::c102::c103::c104::c105::c106::c107::c108::c109::c110::c111::c112::c113::c114::c115::c116::c117::c118::c119::c120::c121::c122::c123::c124::c125::c126::c127::c128::c129::c130::c131::c132::c133::c134::c135::c136::c137::c138::c139::c140::c141::c142::c143::c144::c145::c146::c147::c148::c149::c150::c151::c152::c153::c154::c155::c156::c157::c158::c159::c160::c161::c162::c163::c164::c165::c166::c167::c168::c169::c170::c171::c172::c173::c174::c175::c176::c177::c178::c179::c180::c181::c182::c183::c184::c185::c186::c187::c188::c189::c190::c191::c192::c193::c194::c195::c196::c197::c198::c199::c200::c201::c202::c203::c204::c205::c206::c207::c208::c209::c210::c211::c212::c213::c214::c215::c216::u217::u218::u219::u220::u221::u222::u223::u224::u225::u226::c227::c228::c229::c230::c231::c232::c233::[]), []⟩ (w5.setCell ⟨O, 0, none⟩ (.slice (some ⟨gg, 0, none⟩) (N + 1) cap5)))) :
    Code.wp Try.prog ((regionOf 43 (Try.f21.body.getD .skip)).getD .skip) Q ⟨List.toArray ((.pointer (some ⟨O, 0, none⟩))::c1::c2::c3::c4::c5::c6::c7::c8::c9::c10::c11::c12::c13::c14::c15::c16::c17::c18::c19::c20::c21::(.pointer (some ⟨BR, 0, none⟩))::c23::c24::c25::c26::c27::c28::c29::c30::c31::c32::c33::c34::c35::c36::c37::c38::c39::c40::c41::c42::c43::c44::c45::c46::c47::c48::c49::c50::c51::c52::c53::c54::c55::c56::c57::c58::c59::c60::c61::c62::c63::c64::c65::c66::c67::c68::c69::c70::c71::c72::c73::c74::c75::c76::c77::c78::c79::c80::c81::c82::c83::c84::c85::c86::c87::c88::c89::c90::c91::c92::c93::c94::c95::c96::c97::c98::c99::c100::c101::c102::c103::c104::c105::c106::c107::c108::c109::c110::c111::c112::c113::c114::c115::c116::c117::c118::c119::c120::c121::c122::c123::c124::c125::c126::c127::c128::c129::c130::c131::c132::c133::c134::c135::c136::c137::c138::c139::c140::c141::c142::c143::c144::c145::c146::c147::c148::c149::c150::c151::c152::c153::c154::c155::c156::c157::c158::c159::c160::c161::c162::c163::c164::c165::c166::c167::c168::c169::c170::c171::c172::c173::c174::c175::c176::c177::c178::c179::c180::c181::c182::c183::c184::c185::c186::c187::c188::c189::c190::c191::c192::c193::c194::c195::c196::c197::c198::c199::c200::c201::c202::c203::c204::c205::c206::c207::c208::c209::c210::c211::c212::c213::c214::c215::c216::c217::c218::c219::c220::c221::c222::c223::c224::c225::c226::c227::c228::c229::c230::c231::c232::c233::[]), []⟩ w0 := by
  refine Code.wp_mono (Q := NQ Q) nq_to ?_
  conv => arg 2; whnf
  obtain ⟨x0, x1, x2, x3, x4, -⟩ := box5 hR
  obtain ⟨t0, -, tf0, -⟩ := box2I hObox
  obtain ⟨i0, hi0, hz0, hz1, hz2⟩ := info_parts Try.info43
  refine wpT_begin (S := (fun wx => wx.cell? ⟨O, 0, none⟩ = some (.slice (some ⟨PB, 0, none⟩) N cap) ∧ wx.cell? ⟨BR, 0, none⟩ = some (.bool lf) ∧ wx.cell? ⟨BR, 1, none⟩ = some (.slice ka kn kc) ∧ wx.cell? ⟨BR, 2, none⟩ = some (.slice da dn dc) ∧ wx.cell? ⟨BR, 3, none⟩ = some (.slice ha hn hc) ∧ wx.cell? ⟨BR, 4, none⟩ = some (.int .i64 nx))) [10] (by kernel_rfl) ?_ (fun hHeld => ?_)
  · (try dsimp only)
    (first | (with_reducible exact ⟨cell_dr t0, cell_dr x0, cell_dr x1, cell_dr x2, cell_dr x3, cell_dr x4⟩) | (with_reducible exact ⟨s0, s1, s2, s3, s4, s5⟩) | (with_reducible exact ⟨cell_dr (cell_al _ t0), cell_dr (cell_al _ x0), cell_dr (cell_al _ x1), cell_dr (cell_al _ x2), cell_dr (cell_al _ x3), cell_dr (cell_al _ x4)⟩))
  refine wpAnyT_pure (i := 0) (oi := _) (v := ?_) rfl (by kernel_rfl) (by kernel_rfl) (by kernel_rfl) (by kernel_rfl) (fun _ _ _ h => h) (Or.inl ⟨by rfl, ?_⟩) (fun _ => by assumption) ?_
  rotate_left
  · (intro w hSw; go_simp)
    all_goals (with_reducible rfl)
  (try simp only [List.getElem_toArray, List.getElem_cons_zero, List.getElem_cons_succ, Act.put, List.setIfInBounds_toArray, List.set_cons_zero, List.set_cons_succ])
  refine wpAnyT_pure (i := 1) (oi := _) (v := ?_) rfl (by kernel_rfl) (by kernel_rfl) (by kernel_rfl) (by kernel_rfl) (fun _ _ _ h => h) (Or.inl ⟨by rfl, ?_⟩) (fun _ => by assumption) ?_
  rotate_left
  · (intro w hSw; go_simp)
    all_goals (with_reducible rfl)
  (try simp only [List.getElem_toArray, List.getElem_cons_zero, List.getElem_cons_succ, Act.put, List.setIfInBounds_toArray, List.set_cons_zero, List.set_cons_succ])
  refine wpAnyT_pure (i := 2) (oi := _) (v := ?_) rfl (by kernel_rfl) (by kernel_rfl) (by kernel_rfl) (by kernel_rfl) (fun _ _ _ h => h) (Or.inl ⟨by rfl, ?_⟩) (fun _ => by assumption) ?_
  rotate_left
  · (intro w hSw; go_simp)
    all_goals (with_reducible rfl)
  (try simp only [List.getElem_toArray, List.getElem_cons_zero, List.getElem_cons_succ, Act.put, List.setIfInBounds_toArray, List.set_cons_zero, List.set_cons_succ])
  refine wpAnyT_pure (i := 3) (oi := _) (v := ?_) rfl (by kernel_rfl) (by kernel_rfl) (by kernel_rfl) (by kernel_rfl) (fun _ _ _ h => h) (Or.inl ⟨by rfl, ?_⟩) (fun _ => by assumption) ?_
  rotate_left
  · (intro w hSw; go_simp)
    all_goals (with_reducible rfl)
  (try simp only [List.getElem_toArray, List.getElem_cons_zero, List.getElem_cons_succ, Act.put, List.setIfInBounds_toArray, List.set_cons_zero, List.set_cons_succ])
  refine wpAnyT_take (i := 4) (oi := _) (v := ?_) rfl (by kernel_rfl) (by kernel_rfl) (by kernel_rfl) (by kernel_rfl) (fun _ _ _ h => h) (Or.inl ⟨by rfl, ?_⟩) (by assumption) ?_
  rotate_left
  · (intro w hSw; (try dsimp only at hSw); go_simp)
    all_goals (with_reducible rfl)
  (try simp only [List.getElem_toArray, List.getElem_cons_zero, List.getElem_cons_succ, Act.put, List.setIfInBounds_toArray, List.set_cons_zero, List.set_cons_succ])
  refine wpAnyT_take (i := 5) (oi := _) (v := ?_) rfl (by kernel_rfl) (by kernel_rfl) (by kernel_rfl) (by kernel_rfl) (fun _ _ _ h => h) (Or.inl ⟨by rfl, ?_⟩) (by assumption) ?_
  rotate_left
  · (intro w hSw; (try dsimp only at hSw); go_simp)
    all_goals (with_reducible rfl)
  (try simp only [List.getElem_toArray, List.getElem_cons_zero, List.getElem_cons_succ, Act.put, List.setIfInBounds_toArray, List.set_cons_zero, List.set_cons_succ])
  refine wpAnyT_ready (rs := [6]) (by kernel_rfl) (by simp) ?_
  refine AllReadyT.cons rfl (fun K hK => ?_) AllReadyT.nil
  go_simp
  refine hK.out _ _ (fun _ => ?_) (fun hHeld0 => ?_)
  · (try dsimp only)
    (first | (with_reducible exact ⟨cell_dr t0, cell_dr x0, cell_dr x1, cell_dr x2, cell_dr x3, cell_dr x4⟩) | (with_reducible exact ⟨s0, s1, s2, s3, s4, s5⟩) | (with_reducible exact ⟨cell_dr (cell_al _ t0), cell_dr (cell_al _ x0), cell_dr (cell_al _ x1), cell_dr (cell_al _ x2), cell_dr (cell_al _ x3), cell_dr (cell_al _ x4)⟩))
  have hHeld := hHeld0 (by kernel_rfl)
  clear hK K hHeld0
  (try simp only [List.getElem_toArray, List.getElem_cons_zero, List.getElem_cons_succ, Act.put, List.setIfInBounds_toArray, List.set_cons_zero, List.set_cons_succ])
  refine wpAnyT_ready (rs := [7]) (by kernel_rfl) (by simp) ?_
  refine AllReadyT.cons rfl (fun K hK => ?_) AllReadyT.nil
  (refine step_append_lies _ (by rfl) _ _ _ (by rfl) BO 43 i0 _ 5 88 Try.underlying22 hi0 hz0 hz1 hz2 rfl (by omega) (.slice (some ⟨PB, 0, none⟩) N cap) N vs (by rfl) ((hrow.alloc _).drew) ⟨w0.heap.size, 0, none⟩ 1 1 [.bool lf, .slice ka kn kc, .slice da dn dc, .slice ha hn hc, .int .i64 nx] (by rfl) (by rfl) (World.news_of_block (cs := #[.bool lf, .slice ka kn kc, .slice da dn dc, .slice ha hn hc, .int .i64 nx]) (t := 43) (fr := (0, 0)) (heap_alloc_new w0 _)) (by simp [Value.oneCell']) (by omega) (by unfold maxLen; omega) (by omega) (by simp; omega) (w0.heap.size + 1) (by simp) ?_; intro gg cap7 w7 hown7 hgrow7 hat7 hlt7; have HXT7 := Lib.hid (And.intro ((hgrow7.block BR (by have := (Array.getElem?_eq_some_iff.1 hR).1; simp; omega) (own_ne hPR)).trans ((Below.heap_alloc _ _ _ (Array.getElem?_eq_some_iff.1 hR).1).trans hR)) ((hgrow7.block O (by have := (Array.getElem?_eq_some_iff.1 hObox).1; simp; omega) (own_ne hPO)).trans ((Below.heap_alloc _ _ _ (Array.getElem?_eq_some_iff.1 hObox).1).trans hObox))); obtain ⟨s1, s2, s3, s4, s5, -⟩ := box5 HXT7.out.1; obtain ⟨s0, -, sf0, -⟩ := box2I HXT7.out.2; have H7W := Lib.hid (And.intro hown7 (And.intro hgrow7 hat7)); clear hown7 hgrow7 hat7)
  refine hK.out _ _ (fun _ => ?_) (fun hHeld0 => ?_)
  · (try dsimp only)
    (first | (with_reducible exact ⟨cell_dr t0, cell_dr x0, cell_dr x1, cell_dr x2, cell_dr x3, cell_dr x4⟩) | (with_reducible exact ⟨s0, s1, s2, s3, s4, s5⟩) | (with_reducible exact ⟨cell_dr (cell_al _ t0), cell_dr (cell_al _ x0), cell_dr (cell_al _ x1), cell_dr (cell_al _ x2), cell_dr (cell_al _ x3), cell_dr (cell_al _ x4)⟩))
  have hHeld := hHeld0 (by kernel_rfl)
  clear hK K hHeld0
  (try simp only [List.getElem_toArray, List.getElem_cons_zero, List.getElem_cons_succ, Act.put, List.setIfInBounds_toArray, List.set_cons_zero, List.set_cons_succ])
  refine wpAnyT_pure (i := 8) (oi := _) (v := ?_) rfl (by kernel_rfl) (by kernel_rfl) (by kernel_rfl) (by kernel_rfl) (fun _ _ _ h => h) (Or.inl ⟨by rfl, ?_⟩) (fun _ => by assumption) ?_
  rotate_left
  · (intro w hSw; go_simp)
    all_goals (with_reducible rfl)
  (try simp only [List.getElem_toArray, List.getElem_cons_zero, List.getElem_cons_succ, Act.put, List.setIfInBounds_toArray, List.set_cons_zero, List.set_cons_succ])
  refine wpAnyT_pure (i := 9) (oi := _) (v := ?_) rfl (by kernel_rfl) (by kernel_rfl) (by kernel_rfl) (by kernel_rfl) (fun _ _ _ h => h) (Or.inl ⟨by rfl, ?_⟩) (fun _ => by assumption) ?_
  rotate_left
  · (intro w hSw; go_simp)
    all_goals (with_reducible rfl)
  (try simp only [List.getElem_toArray, List.getElem_cons_zero, List.getElem_cons_succ, Act.put, List.setIfInBounds_toArray, List.set_cons_zero, List.set_cons_succ])
  refine wpAnyT_ready (rs := [10]) (by kernel_rfl) (by simp) ?_
  refine AllReadyT.cons rfl (fun K hK => ?_) AllReadyT.nil
  go_simp
  refine hK.out _ _ (noneB_off (by kernel_rfl)) (fun _ => ?_)
  clear hK K
  (try simp only [List.getElem_toArray, List.getElem_cons_zero, List.getElem_cons_succ, Act.put, List.setIfInBounds_toArray, List.set_cons_zero, List.set_cons_succ])
  refine wpAnyT_done (by kernel_rfl) ?_ _
  exact hout.out _ _ _ _ _ _ _ _ _ _ _ gg cap7 _ H7W.out.1 H7W.out.2.1 (H7W.out.2.2.imp (fun h => (Option.some.inj h).symm) id)
end Go.Proofs.Ytahammkjkfdmhaa
