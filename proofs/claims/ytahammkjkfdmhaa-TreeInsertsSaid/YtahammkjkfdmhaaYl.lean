/- The document's putting in: where a key goes; a page's keys and kids, one longer. -/
import Derived.Test.YtahammkjkfdmhaaIr
import Derived.Test.YtahammkjkfdmhaaTn
namespace Go.Proofs.Ytahammkjkfdmhaa
open Go.ChangeShapes Go.WideShapes Go.ChangeAt Go.RowKit
set_option linter.unusedVariables false
set_option linter.unusedSimpArgs false
set_option maxHeartbeats 4000000
set_option maxRecDepth 1000000
variable {c0 c1 c2 c3 c4 c5 c6 c7 c8 c9 c11 c12 c13 c14 c15 c16 c17 c18 c19 c20 c21 c22 c23 c24 c25 c26 c27 c28 c29 c30 c31 c32 c33 c34 c35 c36 c37 c38 c39 c40 c41 c42 c43 c44 c45 c46 c47 c48 c49 c50 c51 c52 c53 c54 c55 c56 c57 c58 c59 c60 c61 c62 c63 c64 c65 c66 c67 c68 c69 c70 c71 c72 c73 c74 c75 c76 c77 c78 c79 c80 c81 c82 c83 c84 c85 c86 c87 c88 c89 c90 c91 c92 c93 c94 c95 c96 c97 c98 c99 c100 c101 c102 c103 c104 c105 c106 c107 c108 c109 c110 c111 c112 c113 c114 c115 c116 c117 c118 c119 c120 c121 c122 c123 c124 c125 c126 c127 c128 c129 c130 c131 c132 c133 c134 c135 c136 c137 c138 c139 c140 c141 c142 c143 c144 c145 c146 c147 c148 c149 c150 c151 c152 c153 c154 c155 c156 c157 c158 c159 c160 c161 c162 c163 c164 c165 c166 c167 c168 c169 c170 c171 c172 c173 c174 c175 c176 c177 c178 c179 c180 c181 c182 c183 c184 c185 c186 c187 c188 c189 c190 c191 c192 c193 c194 c195 c196 c197 c198 c199 c200 c201 c202 c203 c204 c205 c206 c207 c208 c209 c210 c211 c212 c213 c214 c215 c216 c217 c218 c219 c220 c221 c222 c223 c224 c225 c226 c227 c228 c229 c230 c231 c232 c233 : Value}
/-- The first n of a list, with one more at its place. -/
def insN {α : Type} (l : List α) (a : Nat) (x : α) (n : Nat) : List α := (l.take n).take a ++ ((if a < n then [x] else []) ++ (l.take n).drop a)
theorem insN_len {α : Type} {l : List α} {a n : Nat} (x : α) (h : n ≤ l.length) : (insN l a x n).length = if a < n then n + 1 else n := by
  unfold insN
  split <;> simp <;> omega
theorem insN_zero {α : Type} (l : List α) (a : Nat) (x : α) : insN l a x 0 = [] := by simp [insN]
theorem insN_step {α : Type} {l : List α} {a n : Nat} (x d : α) (h : n < l.length) (hne : n ≠ a) : insN l a x (n + 1) = insN l a x n ++ [l.getD n d] := by
  unfold insN
  rw [take_nextG (d := d) h]
  have hl : (l.take n).length = n := by rw [List.length_take]; omega
  generalize l.take n = L at hl ⊢
  generalize l.getD n d = y
  rcases Nat.lt_or_ge a n with g | g
  · rw [if_pos (by omega), if_pos g, List.take_append_of_le_length (by omega), List.drop_append_of_le_length (by omega)]
    simp
  · have t1 : (L ++ [y]).take a = L ++ [y] := List.take_of_length_le (by simp; omega)
    have t2 : L.take a = L := List.take_of_length_le (by omega)
    have t3 : (L ++ [y]).drop a = [] := List.drop_of_length_le (by simp; omega)
    have t4 : L.drop a = [] := List.drop_of_length_le (by omega)
    rw [if_neg (by omega), if_neg (by omega), t1, t2, t3, t4]
    simp
theorem insN_here {α : Type} {l : List α} {a : Nat} (x d : α) (h : a < l.length) : insN l a x (a + 1) = insN l a x a ++ [x] ++ [l.getD a d] := by
  unfold insN
  have hl : (l.take a).length = a := by rw [List.length_take]; omega
  rw [take_nextG (d := d) h]
  generalize l.take a = L at hl ⊢
  generalize l.getD a d = y
  have t2 : L.take a = L := List.take_of_length_le (by omega)
  have t4 : L.drop a = [] := List.drop_of_length_le (by omega)
  rw [if_pos (by omega), if_neg (by omega), List.take_append_of_le_length (by omega), List.drop_append_of_le_length (by omega), t2, t4]
  simp
theorem insN_last {α : Type} {l : List α} {n : Nat} (x : α) (h : l.length = n) : insN l n x (n + 1) = insN l n x n ++ [x] := by
  have t1 : l.take (n + 1) = l := List.take_of_length_le (by omega)
  have t2 : l.take n = l := List.take_of_length_le (by omega)
  have t3 : l.drop n = [] := List.drop_of_length_le (by omega)
  unfold insN
  rw [if_pos (by omega), if_neg (by omega)]
  simp only [t1, t2, t3]
  simp
theorem insN_over {α : Type} {l : List α} {a : Nat} (x : α) (h : a < l.length) : insN l a x (l.length + 1) = insN l a x l.length := by
  have t1 : l.take (l.length + 1) = l := List.take_of_length_le (by omega)
  have t2 : l.take l.length = l := List.take_of_length_le (by omega)
  unfold insN
  rw [if_pos (by omega), if_pos (by omega)]
  simp only [t1, t2]
theorem insN_all {α : Type} {l : List α} {a n : Nat} (x : α) (h : l.length ≤ n) (ha : a < n) : insN l a x n = insAt l a x := by
  unfold insN insAt
  rw [if_pos ha, List.take_of_length_le (l := l) h]
  simp
theorem insN_end {α : Type} {l : List α} {n : Nat} (x : α) (h : l.length = n) : insN l n x n ++ [x] = insAt l n x := by
  unfold insN insAt
  rw [if_neg (by omega), List.take_of_length_le (l := l) (by omega), List.take_of_length_le (by omega), List.drop_of_length_le (by omega)]
  simp
theorem ad0 (Q : Exit → Act → World → Prop) (kv : Value) (w0 : World) (P K ck : Nat) (ak : Option Addr) (k : Key) (ks : List Key) (ff : Nat → Value) (ok : Nat → Prop) (HK : Hid (K = ks.length)) (hK4 : K ≤ 4)
    (p1 : w0.cell? ⟨P, 1, none⟩ = some (.slice ak K ck)) (K3 : Hid (∀ j, j < K → ∃ b o, ak = some ⟨b, o, none⟩ ∧ w0.cell? ⟨b, o + j, none⟩ = some (ff j) ∧ RB w0 ok (ff j) (ks.getD j []))) (hkv : Hid (Rd w0 1 k.length kv (bc k)))
    (hexit : Hid (∀ (u30 u31 u32 u33 u34 u35 u36 u37 u38 u39 u40 u41 u42 u43 u44 u45 u46 : Value) (w' : World) (c : Nat), c = cntK k ks → Below w0.heap.size w0 w' → Q (.exit 0) ⟨List.toArray (c0::c1::kv::c3::c4::c5::c6::c7::c8::c9::(.pointer (some ⟨P, 0, none⟩))::(.int .i64 (c : Int))::c12::c13::c14::c15::c16::c17::c18::c19::c20::c21::c22::c23::c24::c25::c26::c27::c28::c29::u30::u31::u32::u33::u34::u35::u36::u37::u38::u39::u40::u41::u42::u43::u44::u45::u46::c47::c48::c49::c50::c51::c52::c53::c54::c55::c56::c57::c58::c59::c60::c61::c62::c63::c64::c65::c66::c67::c68::c69::c70::c71::c72::c73::c74::c75::c76::c77::c78::c79::c80::c81::c82::c83::c84::c85::c86::c87::c88::c89::c90::c91::c92::c93::c94::c95::c96::c97::c98::c99::c100::c101::c102::c103::c104::c105::c106::c107::c108::c109::c110::c111::c112::c113::c114::c115::c116::c117::c118::c119::c120::c121::c122::c123::c124::c125::c126::c127::c128::c129::c130::c131::c132::c133::c134::c135::c136::c137::c138::c139::c140::c141::c142::c143::c144::c145::c146::c147::c148::c149::c150::c151::c152::c153::c154::c155::c156::c157::c158::c159::c160::c161::c162::c163::c164::c165::c166::c167::c168::c169::c170::c171::c172::c173::c174::c175::c176::c177::c178::c179::c180::c181::c182::c183::c184::c185::c186::c187::c188::c189::c190::c191::c192::c193::c194::c195::c196::c197::c198::c199::c200::c201::c202::c203::c204::c205::c206::c207::c208::c209::c210::c211::c212::c213::c214::c215::c216::c217::c218::c219::c220::c221::c222::c223::c224::c225::c226::c227::c228::c229::c230::c231::c232::c233::[]), []⟩ w')) :
    Code.wp Try.prog (Code.loop (loopAt Try.f21 0)) Q ⟨List.toArray (c0::c1::kv::c3::c4::c5::c6::c7::c8::c9::(.pointer (some ⟨P, 0, none⟩))::(.int .i64 0)::c12::c13::c14::c15::c16::c17::c18::c19::c20::c21::c22::c23::c24::c25::c26::c27::c28::c29::c30::c31::c32::c33::c34::c35::c36::c37::c38::c39::c40::c41::c42::c43::c44::c45::c46::c47::c48::c49::c50::c51::c52::c53::c54::c55::c56::c57::c58::c59::c60::c61::c62::c63::c64::c65::c66::c67::c68::c69::c70::c71::c72::c73::c74::c75::c76::c77::c78::c79::c80::c81::c82::c83::c84::c85::c86::c87::c88::c89::c90::c91::c92::c93::c94::c95::c96::c97::c98::c99::c100::c101::c102::c103::c104::c105::c106::c107::c108::c109::c110::c111::c112::c113::c114::c115::c116::c117::c118::c119::c120::c121::c122::c123::c124::c125::c126::c127::c128::c129::c130::c131::c132::c133::c134::c135::c136::c137::c138::c139::c140::c141::c142::c143::c144::c145::c146::c147::c148::c149::c150::c151::c152::c153::c154::c155::c156::c157::c158::c159::c160::c161::c162::c163::c164::c165::c166::c167::c168::c169::c170::c171::c172::c173::c174::c175::c176::c177::c178::c179::c180::c181::c182::c183::c184::c185::c186::c187::c188::c189::c190::c191::c192::c193::c194::c195::c196::c197::c198::c199::c200::c201::c202::c203::c204::c205::c206::c207::c208::c209::c210::c211::c212::c213::c214::c215::c216::c217::c218::c219::c220::c221::c222::c223::c224::c225::c226::c227::c228::c229::c230::c231::c232::c233::[]), []⟩ w0 := by
  conv => arg 2; arg 1; whnf
  go_loopw [11] (fun t wr => ∃ j : Nat, j ≤ K ∧ t = .int .i64 (j : Int) ∧ Hid (cntK k ks = j + cntK k (ks.drop j)) ∧ Hid (Below w0.heap.size w0 wr)) (fun t _ => K - (intOf t).toNat)
  case atStart => exact ⟨0, by omega, rfl, Lib.hid (by simp), Lib.hid (Below.refl _ _)⟩
  case round =>
    obtain ⟨j, hj, rfl, HJ, HB⟩ := hrel
    have q1 := cell_of_below HB.out p1
    by_cases hlt : j < K
    · have i0 : (0 : Int) ≤ (j : Int) := by omega
      have i1 : (j : Int) < (K : Int) := by omega
      obtain ⟨b, o, rfl, g1, g2⟩ := K3.out j hlt
      have g1' := cell_of_below HB.out g1
      have hjl : j < ks.length := by rw [← HK.out]; exact hlt
      obtain ⟨s, hs⟩ : ∃ s, s = ks.getD j [] := ⟨_, rfl⟩
      have hd : ks.drop j = s :: ks.drop (j + 1) := by
        rw [List.drop_eq_getElem_cons hjl, hs, List.getD_eq_getElem?_getD, List.getElem?_eq_getElem hjl]; rfl
      rw [← hs] at g2
      have hbf := bef_any wr kv (ff j) k s (hkv.out.below HB.out) ((g2.agree (Agree.below HB.out ok)).1)
      have HBF := Lib.hid hbf
      have HD := Lib.hid hd
      clear g1 g2 hbf hd hs
      by_cases hq : kl k s = true
      · have e0 : cntK k (ks.drop j) = 0 := by rw [HD.out]; unfold cntK; rw [if_pos hq]
        have hj2 : cntK k ks = j := by rw [HJ.out, e0]; rfl
        rw [hq] at HBF
        have HJ2 := Lib.hid hj2
        clear hq e0 hj2
        go_wp2_with (go_at_call 39; refine HBF.out.mono ?_; rintro e w4 ⟨rfl, rfl⟩)
        exact hexit.out _ _ _ _ _ _ _ _ _ _ _ _ _ _ _ _ _ wr _ HJ2.out.symm HB.out
      · have hq' : kl k s = false := by simpa using hq
        have e0 : cntK k (ks.drop j) = cntK k (ks.drop (j + 1)) + 1 := by rw [HD.out]; conv => lhs; unfold cntK; rw [if_neg hq]
        rw [hq'] at HBF
        have HE := Lib.hid e0
        clear hq hq' e0
        go_wp2_with (go_at_call 39; refine HBF.out.mono ?_; rintro e w4 ⟨rfl, rfl⟩)
        go_roundw
        case rel => exact ⟨j + 1, by omega, by go_num, Lib.hid (by rw [HJ.out, HE.out]; omega), HB⟩
        case measure => simp [intOf]; omega
    · obtain rfl : j = K := by omega
      have hj2 : cntK k ks = j := by rw [HJ.out, List.drop_of_length_le (by rw [← HK.out]; exact Nat.le_refl _)]; rfl
      have HJ2 := Lib.hid hj2
      clear hj2
      go_wp2_with fail
      exact hexit.out _ _ _ _ _ _ _ _ _ _ _ _ _ _ _ _ _ wr _ HJ2.out.symm HB.out
theorem set1X {w : World} {C : Nat} {x0 x1 x2 x3 x4 : Value} {T : TypeId} (h : w.heap[C]? = some (.cells #[x0, x1, x2, x3, x4] T (0, 0))) (v : Value) : (w.setCell ⟨C, 1, none⟩ v).heap[C]? = some (.cells #[x0, v, x2, x3, x4] T (0, 0)) := by
  rw [Lib.heap_setCell_same h]; rfl
theorem ar19 (Q : Exit → Act → World → Prop)  (w0 : World) (B P C k D b o cd m : Nat) (hBw : B ≤ w0.heap.size) (hP : P < B) (hC : C < B) (hb : b < B) (hPC : P ≠ C) (hk : k < D) (hm : m ≤ 1000) (xa : Option Addr) (xn xc : Nat) (ad : Option Addr) (cap : Nat) (xs : List Value) (x0 x2 x3 x4 : Value)
    (p2 : w0.cell? ⟨P, 1, none⟩ = some (.slice (some ⟨b, o, none⟩) D cd)) (g : w0.cell? ⟨b, o + k, none⟩ = some (.slice xa xn xc)) (hbox : Hid (w0.heap[C]? = some (.cells #[x0, .slice ad m cap, x2, x3, x4] 43 (0, 0)))) (hown : Hid (w0.ownsRow B 25 1 (.slice ad m cap) m xs))
    (hout : Hid (∀ (u92 u93 u94 u95 u96 u97 u98 u99 u100 u101 : Value) (w' : World) (v : Value), w'.ownsRow B 25 1 v (m + 1) (xs ++ [.slice xa xn xc]) → (v.ownBlock = (Value.slice ad m cap).ownBlock ∨ (∀ g, v.ownBlock = some g → w0.heap.size ≤ g)) → w'.heap[C]? = some (.cells #[x0, v, x2, x3, x4] 43 (0, 0)) → w0.heap.size ≤ w'.heap.size → w'.os = w0.os → w'.tape = w0.tape → w'.output = w0.output → (∀ q, q < w0.heap.size → q ≠ C → (Value.slice ad m cap).ownBlock ≠ some q → w'.heap[q]? = w0.heap[q]?) → Q .normal ⟨List.toArray (c0::c1::c2::c3::c4::c5::c6::c7::c8::c9::(.pointer (some ⟨P, 0, none⟩))::c11::c12::c13::c14::c15::(.pointer (some ⟨C, 0, none⟩))::(.int .i64 (k : Int))::c18::c19::c20::c21::c22::c23::c24::c25::c26::c27::c28::c29::c30::c31::c32::c33::c34::c35::c36::c37::c38::c39::c40::c41::c42::c43::c44::c45::c46::c47::c48::c49::c50::c51::c52::c53::c54::c55::c56::c57::c58::c59::c60::c61::c62::c63::c64::c65::c66::c67::c68::c69::c70::c71::c72::c73::c74::c75::c76::c77::c78::c79::c80::c81::c82::c83::c84::c85::c86::c87::c88::c89::c90::c91::u92::u93::u94::u95::u96::u97::u98::u99::u100::u101::c102::c103::c104::c105::c106::c107::c108::c109::c110::c111::c112::c113::c114::c115::c116::c117::c118::c119::c120::c121::c122::c123::c124::c125::c126::c127::c128::c129::c130::c131::c132::c133::c134::c135::c136::c137::c138::c139::c140::c141::c142::c143::c144::c145::c146::c147::c148::c149::c150::c151::c152::c153::c154::c155::c156::c157::c158::c159::c160::c161::c162::c163::c164::c165::c166::c167::c168::c169::c170::c171::c172::c173::c174::c175::c176::c177::c178::c179::c180::c181::c182::c183::c184::c185::c186::c187::c188::c189::c190::c191::c192::c193::c194::c195::c196::c197::c198::c199::c200::c201::c202::c203::c204::c205::c206::c207::c208::c209::c210::c211::c212::c213::c214::c215::c216::c217::c218::c219::c220::c221::c222::c223::c224::c225::c226::c227::c228::c229::c230::c231::c232::c233::[]), []⟩ w')) :
    Code.wp Try.prog ((regionOf 19 (Try.f21.body.getD .skip)).getD .skip) Q ⟨List.toArray (c0::c1::c2::c3::c4::c5::c6::c7::c8::c9::(.pointer (some ⟨P, 0, none⟩))::c11::c12::c13::c14::c15::(.pointer (some ⟨C, 0, none⟩))::(.int .i64 (k : Int))::c18::c19::c20::c21::c22::c23::c24::c25::c26::c27::c28::c29::c30::c31::c32::c33::c34::c35::c36::c37::c38::c39::c40::c41::c42::c43::c44::c45::c46::c47::c48::c49::c50::c51::c52::c53::c54::c55::c56::c57::c58::c59::c60::c61::c62::c63::c64::c65::c66::c67::c68::c69::c70::c71::c72::c73::c74::c75::c76::c77::c78::c79::c80::c81::c82::c83::c84::c85::c86::c87::c88::c89::c90::c91::c92::c93::c94::c95::c96::c97::c98::c99::c100::c101::c102::c103::c104::c105::c106::c107::c108::c109::c110::c111::c112::c113::c114::c115::c116::c117::c118::c119::c120::c121::c122::c123::c124::c125::c126::c127::c128::c129::c130::c131::c132::c133::c134::c135::c136::c137::c138::c139::c140::c141::c142::c143::c144::c145::c146::c147::c148::c149::c150::c151::c152::c153::c154::c155::c156::c157::c158::c159::c160::c161::c162::c163::c164::c165::c166::c167::c168::c169::c170::c171::c172::c173::c174::c175::c176::c177::c178::c179::c180::c181::c182::c183::c184::c185::c186::c187::c188::c189::c190::c191::c192::c193::c194::c195::c196::c197::c198::c199::c200::c201::c202::c203::c204::c205::c206::c207::c208::c209::c210::c211::c212::c213::c214::c215::c216::c217::c218::c219::c220::c221::c222::c223::c224::c225::c226::c227::c228::c229::c230::c231::c232::c233::[]), []⟩ w0 := by
  refine Code.wp_mono (Q := NQ Q) nq_to ?_
  conv => arg 2; whnf
  obtain ⟨y0, y1, y2, y3, y4, f0, f1, f2, f3, f4⟩ := box5 hbox.out
  have i0 : (0 : Int) ≤ (k : Int) := by omega
  have i1 : (k : Int) < (D : Int) := by omega
  have hC2 : C < w0.heap.size := by omega
  have hP2 : P < w0.heap.size := by omega
  have hb2 : b < w0.heap.size := by omega
  obtain ⟨i9, hi0, hz0, hz1, hz2⟩ := info_parts infoI_ks
  have hne : ∀ q, q < B → some q ≠ (Value.slice ad m cap).ownBlock := fun q h e => by have := (hown.out.lt _ e.symm).1; omega
  have HNE := Lib.hid hne
  clear hne
  have f2' : ∀ (W : World), W = (w0.alloc (.cells #[.slice xa xn xc] 25)).drew → W.frozen? ⟨C, 1, none⟩ = false := by
    rintro W rfl
    exact ((((Below.refl w0.heap.size w0).alloc (Nat.le_refl _) (.cells #[.slice xa xn xc] 25)).drew).frozen (p := ⟨C, 1, none⟩) hC2).trans f1
  have F2 := Lib.hid f2'
  have c2' : ∀ (W : World), W = (w0.alloc (.cells #[.slice xa xn xc] 25)).drew → W.cell? ⟨C, 1, none⟩ = some (.slice ad m cap) := by
    rintro W rfl
    exact ((((Below.refl w0.heap.size w0).alloc (Nat.le_refl _) (.cells #[.slice xa xn xc] 25)).drew).cell (p := ⟨C, 1, none⟩) hC2).trans y1
  have C2 := Lib.hid c2'
  clear f2' c2'
  go_region_law ((refine step_append_lies _ (by rfl) _ _ _ (by rfl) B 25 i9 _ 1 24 Try.underlying41 hi0 hz0 hz1 hz2 rfl (by omega) (.slice ad m cap) m xs (by rfl) ((hown.out.alloc _).drew) ⟨w0.heap.size, 0, none⟩ 1 1 [.slice xa xn xc] (by rfl) (by rfl) (World.news_of_block (cs := #[.slice xa xn xc]) (t := 25) (fr := (0, 0)) (heap_alloc_new w0 _)) (by simp [Value.oneCell']) (by omega) (by unfold maxLen; omega) (by omega) (by simp; omega) (w0.heap.size + 1) (by simp) ?_; intro gg cap1 w1 hown1 hgrow hat2 hlt4; have hf1 := (hgrow.frozen_far ⟨C, 1, none⟩ (by simp; omega) (HNE.out _ hC)).trans (F2.out _ rfl); have hc1 := (hgrow.cell_far ⟨C, 1, none⟩ (by simp; omega) (HNE.out _ hC)).trans (C2.out _ rfl)))
  all_goals (
    refine hout.out _ _ _ _ _ _ _ _ _ _ _ (.slice (some ⟨gg, 0, none⟩) (m + 1) cap1) ?_ ?_ ?_ ?_ ?_ ?_ ?_ ?_
    · exact hown1.kept (bt_set _ _ _ _) (.inr fun e => by have := (hown1.lt C e).1; omega)
    · rcases hat2 with h | h
      · exact .inl h.symm
      · exact .inr fun g hg => by (have e9 : gg = g := Option.some.inj hg); omega
    · refine set1X (x1 := .slice ad m cap) ?_ _
      exact (hgrow.block C (by simp only [World.size_alloc, World.size_drew]; omega) (HNE.out _ hC)).trans ((((Below.refl w0.heap.size w0).alloc (Nat.le_refl _) (.cells #[.slice xa xn xc] 25)).drew.block C hC2).trans hbox.out)
    · have h1 := hgrow.size
      simp at h1 ⊢
      omega
    · exact hgrow.os
    · exact hgrow.tape
    · exact hgrow.output
    · intro q hq hqC hqo
      exact (Below.heap_setCell _ _ _ _ hqC).trans ((hgrow.block q (by simp only [World.size_alloc, World.size_drew]; omega) (fun e => hqo e.symm)).trans (((Below.refl w0.heap.size w0).alloc (Nat.le_refl _) (.cells #[.slice xa xn xc] 25)).drew.block q hq)))
theorem ar31 (Q : Exit → Act → World → Prop)  (w0 : World) (B P C k D b o cd m : Nat) (hBw : B ≤ w0.heap.size) (hP : P < B) (hC : C < B) (hb : b < B) (hPC : P ≠ C) (hk : k < D) (hm : m ≤ 1000) (n : Int) (ad : Option Addr) (cap : Nat) (xs : List Value) (x0 x1 x3 x4 : Value)
    (p2 : w0.cell? ⟨P, 2, none⟩ = some (.slice (some ⟨b, o, none⟩) D cd)) (g : w0.cell? ⟨b, o + k, none⟩ = some (.int .i64 n)) (hbox : Hid (w0.heap[C]? = some (.cells #[x0, x1, .slice ad m cap, x3, x4] 43 (0, 0)))) (hown : Hid (w0.ownsRow B 3 1 (.slice ad m cap) m xs))
    (hout : Hid (∀ (u140 u141 u142 u143 u144 u145 u146 u147 u148 u149 : Value) (w' : World) (v : Value), w'.ownsRow B 3 1 v (m + 1) (xs ++ [.int .i64 n]) → (v.ownBlock = (Value.slice ad m cap).ownBlock ∨ (∀ g, v.ownBlock = some g → w0.heap.size ≤ g)) → w'.heap[C]? = some (.cells #[x0, x1, v, x3, x4] 43 (0, 0)) → w0.heap.size ≤ w'.heap.size → w'.os = w0.os → w'.tape = w0.tape → w'.output = w0.output → (∀ q, q < w0.heap.size → q ≠ C → (Value.slice ad m cap).ownBlock ≠ some q → w'.heap[q]? = w0.heap[q]?) → Q .normal ⟨List.toArray (c0::c1::c2::c3::c4::c5::c6::c7::c8::c9::(.pointer (some ⟨P, 0, none⟩))::c11::c12::c13::c14::c15::(.pointer (some ⟨C, 0, none⟩))::c17::c18::(.int .i64 (k : Int))::c20::c21::c22::c23::c24::c25::c26::c27::c28::c29::c30::c31::c32::c33::c34::c35::c36::c37::c38::c39::c40::c41::c42::c43::c44::c45::c46::c47::c48::c49::c50::c51::c52::c53::c54::c55::c56::c57::c58::c59::c60::c61::c62::c63::c64::c65::c66::c67::c68::c69::c70::c71::c72::c73::c74::c75::c76::c77::c78::c79::c80::c81::c82::c83::c84::c85::c86::c87::c88::c89::c90::c91::c92::c93::c94::c95::c96::c97::c98::c99::c100::c101::c102::c103::c104::c105::c106::c107::c108::c109::c110::c111::c112::c113::c114::c115::c116::c117::c118::c119::c120::c121::c122::c123::c124::c125::c126::c127::c128::c129::c130::c131::c132::c133::c134::c135::c136::c137::c138::c139::u140::u141::u142::u143::u144::u145::u146::u147::u148::u149::c150::c151::c152::c153::c154::c155::c156::c157::c158::c159::c160::c161::c162::c163::c164::c165::c166::c167::c168::c169::c170::c171::c172::c173::c174::c175::c176::c177::c178::c179::c180::c181::c182::c183::c184::c185::c186::c187::c188::c189::c190::c191::c192::c193::c194::c195::c196::c197::c198::c199::c200::c201::c202::c203::c204::c205::c206::c207::c208::c209::c210::c211::c212::c213::c214::c215::c216::c217::c218::c219::c220::c221::c222::c223::c224::c225::c226::c227::c228::c229::c230::c231::c232::c233::[]), []⟩ w')) :
    Code.wp Try.prog ((regionOf 31 (Try.f21.body.getD .skip)).getD .skip) Q ⟨List.toArray (c0::c1::c2::c3::c4::c5::c6::c7::c8::c9::(.pointer (some ⟨P, 0, none⟩))::c11::c12::c13::c14::c15::(.pointer (some ⟨C, 0, none⟩))::c17::c18::(.int .i64 (k : Int))::c20::c21::c22::c23::c24::c25::c26::c27::c28::c29::c30::c31::c32::c33::c34::c35::c36::c37::c38::c39::c40::c41::c42::c43::c44::c45::c46::c47::c48::c49::c50::c51::c52::c53::c54::c55::c56::c57::c58::c59::c60::c61::c62::c63::c64::c65::c66::c67::c68::c69::c70::c71::c72::c73::c74::c75::c76::c77::c78::c79::c80::c81::c82::c83::c84::c85::c86::c87::c88::c89::c90::c91::c92::c93::c94::c95::c96::c97::c98::c99::c100::c101::c102::c103::c104::c105::c106::c107::c108::c109::c110::c111::c112::c113::c114::c115::c116::c117::c118::c119::c120::c121::c122::c123::c124::c125::c126::c127::c128::c129::c130::c131::c132::c133::c134::c135::c136::c137::c138::c139::c140::c141::c142::c143::c144::c145::c146::c147::c148::c149::c150::c151::c152::c153::c154::c155::c156::c157::c158::c159::c160::c161::c162::c163::c164::c165::c166::c167::c168::c169::c170::c171::c172::c173::c174::c175::c176::c177::c178::c179::c180::c181::c182::c183::c184::c185::c186::c187::c188::c189::c190::c191::c192::c193::c194::c195::c196::c197::c198::c199::c200::c201::c202::c203::c204::c205::c206::c207::c208::c209::c210::c211::c212::c213::c214::c215::c216::c217::c218::c219::c220::c221::c222::c223::c224::c225::c226::c227::c228::c229::c230::c231::c232::c233::[]), []⟩ w0 := by
  refine Code.wp_mono (Q := NQ Q) nq_to ?_
  conv => arg 2; whnf
  obtain ⟨y0, y1, y2, y3, y4, f0, f1, f2, f3, f4⟩ := box5 hbox.out
  have i0 : (0 : Int) ≤ (k : Int) := by omega
  have i1 : (k : Int) < (D : Int) := by omega
  have hC2 : C < w0.heap.size := by omega
  have hP2 : P < w0.heap.size := by omega
  have hb2 : b < w0.heap.size := by omega
  obtain ⟨i9, hi0, hz0, hz1, hz2⟩ := info_parts Try.info3
  have hne : ∀ q, q < B → some q ≠ (Value.slice ad m cap).ownBlock := fun q h e => by have := (hown.out.lt _ e.symm).1; omega
  have HNE := Lib.hid hne
  clear hne
  have f2' : ∀ (W : World), W = (w0.alloc (.cells #[.int .i64 n] 3)).drew → W.frozen? ⟨C, 2, none⟩ = false := by
    rintro W rfl
    exact ((((Below.refl w0.heap.size w0).alloc (Nat.le_refl _) (.cells #[.int .i64 n] 3)).drew).frozen (p := ⟨C, 2, none⟩) hC2).trans f2
  have F2 := Lib.hid f2'
  have c2' : ∀ (W : World), W = (w0.alloc (.cells #[.int .i64 n] 3)).drew → W.cell? ⟨C, 2, none⟩ = some (.slice ad m cap) := by
    rintro W rfl
    exact ((((Below.refl w0.heap.size w0).alloc (Nat.le_refl _) (.cells #[.int .i64 n] 3)).drew).cell (p := ⟨C, 2, none⟩) hC2).trans y2
  have C2 := Lib.hid c2'
  clear f2' c2'
  go_region_law ((refine step_append_lies _ (by rfl) _ _ _ (by rfl) B 3 i9 _ 1 8 Try.underlying37 hi0 hz0 hz1 hz2 rfl (by omega) (.slice ad m cap) m xs (by rfl) ((hown.out.alloc _).drew) ⟨w0.heap.size, 0, none⟩ 1 1 [.int .i64 n] (by rfl) (by rfl) (World.news_of_block (cs := #[.int .i64 n]) (t := 3) (fr := (0, 0)) (heap_alloc_new w0 _)) (by simp [Value.oneCell']) (by omega) (by unfold maxLen; omega) (by omega) (by simp; omega) (w0.heap.size + 1) (by simp) ?_; intro gg cap1 w1 hown1 hgrow hat2 hlt4; have hf1 := (hgrow.frozen_far ⟨C, 2, none⟩ (by simp; omega) (HNE.out _ hC)).trans (F2.out _ rfl); have hc1 := (hgrow.cell_far ⟨C, 2, none⟩ (by simp; omega) (HNE.out _ hC)).trans (C2.out _ rfl)))
  all_goals (
    refine hout.out _ _ _ _ _ _ _ _ _ _ _ (.slice (some ⟨gg, 0, none⟩) (m + 1) cap1) ?_ ?_ ?_ ?_ ?_ ?_ ?_ ?_
    · exact hown1.kept (bt_set _ _ _ _) (.inr fun e => by have := (hown1.lt C e).1; omega)
    · rcases hat2 with h | h
      · exact .inl h.symm
      · exact .inr fun g hg => by (have e9 : gg = g := Option.some.inj hg); omega
    · refine set2 (x2 := .slice ad m cap) ?_ _
      exact (hgrow.block C (by simp only [World.size_alloc, World.size_drew]; omega) (HNE.out _ hC)).trans ((((Below.refl w0.heap.size w0).alloc (Nat.le_refl _) (.cells #[.int .i64 n] 3)).drew.block C hC2).trans hbox.out)
    · have h1 := hgrow.size
      simp at h1 ⊢
      omega
    · exact hgrow.os
    · exact hgrow.tape
    · exact hgrow.output
    · intro q hq hqC hqo
      exact (Below.heap_setCell _ _ _ _ hqC).trans ((hgrow.block q (by simp only [World.size_alloc, World.size_drew]; omega) (fun e => hqo e.symm)).trans (((Below.refl w0.heap.size w0).alloc (Nat.le_refl _) (.cells #[.int .i64 n] 3)).drew.block q hq)))
theorem ad2 (Q : Exit → Act → World → Prop)  (w0 : World) (P C at_ K ck pn pc : Nat) (pa ak : Option Addr) (xa : Nat → Option Addr) (xn xc : Nat → Nat) (hP : P < w0.heap.size) (hC : C < w0.heap.size) (hPC : P ≠ C) (hK4 : K ≤ 4) (hat : at_ ≤ K) (x0 x2 x3 x4 : Value)
    (p1 : w0.cell? ⟨P, 1, none⟩ = some (.slice ak K ck)) (K3 : Hid (∀ j, j < K → ∃ b o, ak = some ⟨b, o, none⟩ ∧ b < w0.heap.size ∧ b ≠ C ∧ w0.cell? ⟨b, o + j, none⟩ = some (.slice (xa j) (xn j) (xc j))))
    (hbox : w0.heap[C]? = some (.cells #[x0, .slice none 0 0, x2, x3, x4] 43 (0, 0)))
    (hexit : Hid (∀ (u17 u76 u77 u78 u79 u80 u81 u82 u83 u84 u85 u86 u87 u88 u89 u90 u91 u92 u93 u94 u95 u96 u97 u98 u99 u100 u101 : Value) (w' : World) (v : Value) (m : Nat), m = (if at_ < K then K + 1 else K) → w'.ownsRow w0.heap.size 25 1 v m (insN ((List.range K).map fun j => Value.slice (xa j) (xn j) (xc j)) at_ (.slice pa pn pc) K) → w'.heap[C]? = some (.cells #[x0, v, x2, x3, x4] 43 (0, 0)) → w0.grownBy w' (some C) → Q (.exit 2) ⟨List.toArray (c0::c1::c2::c3::c4::c5::c6::c7::c8::c9::(.pointer (some ⟨P, 0, none⟩))::(.int .i64 (at_ : Int))::(.slice pa pn pc)::c13::c14::c15::(.pointer (some ⟨C, 0, none⟩))::u17::c18::c19::c20::c21::c22::c23::c24::c25::c26::c27::c28::c29::c30::c31::c32::c33::c34::c35::c36::c37::c38::c39::c40::c41::c42::c43::c44::c45::c46::c47::c48::c49::c50::c51::c52::c53::c54::c55::c56::c57::c58::c59::c60::c61::c62::c63::c64::c65::c66::c67::c68::c69::c70::c71::c72::c73::c74::c75::u76::u77::u78::u79::u80::u81::u82::u83::u84::u85::u86::u87::u88::u89::u90::u91::u92::u93::u94::u95::u96::u97::u98::u99::u100::u101::c102::c103::c104::c105::c106::c107::c108::c109::c110::c111::c112::c113::c114::c115::c116::c117::c118::c119::c120::c121::c122::c123::c124::c125::c126::c127::c128::c129::c130::c131::c132::c133::c134::c135::c136::c137::c138::c139::c140::c141::c142::c143::c144::c145::c146::c147::c148::c149::c150::c151::c152::c153::c154::c155::c156::c157::c158::c159::c160::c161::c162::c163::c164::c165::c166::c167::c168::c169::c170::c171::c172::c173::c174::c175::c176::c177::c178::c179::c180::c181::c182::c183::c184::c185::c186::c187::c188::c189::c190::c191::c192::c193::c194::c195::c196::c197::c198::c199::c200::c201::c202::c203::c204::c205::c206::c207::c208::c209::c210::c211::c212::c213::c214::c215::c216::c217::c218::c219::c220::c221::c222::c223::c224::c225::c226::c227::c228::c229::c230::c231::c232::c233::[]), []⟩ w')) :
    Code.wp Try.prog (Code.loop (loopAt Try.f21 1)) Q ⟨List.toArray (c0::c1::c2::c3::c4::c5::c6::c7::c8::c9::(.pointer (some ⟨P, 0, none⟩))::(.int .i64 (at_ : Int))::(.slice pa pn pc)::c13::c14::c15::(.pointer (some ⟨C, 0, none⟩))::(.int .i64 0)::c18::c19::c20::c21::c22::c23::c24::c25::c26::c27::c28::c29::c30::c31::c32::c33::c34::c35::c36::c37::c38::c39::c40::c41::c42::c43::c44::c45::c46::c47::c48::c49::c50::c51::c52::c53::c54::c55::c56::c57::c58::c59::c60::c61::c62::c63::c64::c65::c66::c67::c68::c69::c70::c71::c72::c73::c74::c75::c76::c77::c78::c79::c80::c81::c82::c83::c84::c85::c86::c87::c88::c89::c90::c91::c92::c93::c94::c95::c96::c97::c98::c99::c100::c101::c102::c103::c104::c105::c106::c107::c108::c109::c110::c111::c112::c113::c114::c115::c116::c117::c118::c119::c120::c121::c122::c123::c124::c125::c126::c127::c128::c129::c130::c131::c132::c133::c134::c135::c136::c137::c138::c139::c140::c141::c142::c143::c144::c145::c146::c147::c148::c149::c150::c151::c152::c153::c154::c155::c156::c157::c158::c159::c160::c161::c162::c163::c164::c165::c166::c167::c168::c169::c170::c171::c172::c173::c174::c175::c176::c177::c178::c179::c180::c181::c182::c183::c184::c185::c186::c187::c188::c189::c190::c191::c192::c193::c194::c195::c196::c197::c198::c199::c200::c201::c202::c203::c204::c205::c206::c207::c208::c209::c210::c211::c212::c213::c214::c215::c216::c217::c218::c219::c220::c221::c222::c223::c224::c225::c226::c227::c228::c229::c230::c231::c232::c233::[]), []⟩ w0 := by
  conv => arg 2; arg 1; whnf
  obtain ⟨vf, hvf⟩ : ∃ vf, vf = ((List.range K).map fun j => Value.slice (xa j) (xn j) (xc j)) := ⟨_, rfl⟩
  have hvl : vf.length = K := by rw [hvf]; simp
  have hva : ∀ j, j < K → vf.getD j (.bool false) = .slice (xa j) (xn j) (xc j) := fun j hj => by rw [hvf]; simp [List.getD, hj]
  rw [← hvf] at hexit
  have HBOX := Lib.hid hbox
  have HVL := Lib.hid hvl
  have HVA := Lib.hid hva
  clear hbox hvf hvl hva
  go_loopw [17] (fun t wr => ∃ (n m : Nat) (v : Value), n ≤ K ∧ t = .int .i64 (n : Int) ∧ Hid (m = (insN vf at_ (.slice pa pn pc) n).length) ∧ m ≤ 5 ∧ Hid (wr.ownsRow w0.heap.size 25 1 v m (insN vf at_ (.slice pa pn pc) n)) ∧ Hid (wr.heap[C]? = some (.cells #[x0, v, x2, x3, x4] 43 (0, 0))) ∧ Hid (w0.grownBy wr (some C))) (fun t _ => K - (intOf t).toNat)
  case atStart => exact ⟨0, 0, .slice none 0 0, by omega, rfl, Lib.hid (by rw [insN_zero]; rfl), by omega, Lib.hid (by rw [insN_zero]; exact World.ownsRow_nil _ _ _ _), HBOX, Lib.hid (World.grownBy.refl _ _)⟩
  case round =>
    obtain ⟨n, m, v, hn, rfl, HM, hm5, HOWN, HBX, HGR⟩ := hrel
    have hz := HGR.out.size
    have p1' := HGR.out.cell p1 (fun e => hPC (Option.some.inj e))
    have HLT := Lib.hid HOWN.out.lt
    by_cases hlt : n < K
    · obtain ⟨b, o, rfl, hb1, hb2, g1⟩ := K3.out n hlt
      have g1' := HGR.out.cell g1 (fun e => hb2 (Option.some.inj e))
      have i0 : (0 : Int) ≤ (n : Int) := by omega
      have i1 : (n : Int) < (K : Int) := by omega
      obtain ⟨_, ao, co, rfl, _⟩ := Rd.own HOWN.out
      have hnl : n < vf.length := by rw [HVL.out]; exact hlt
      have HNL := Lib.hid hnl
      clear g1 hnl
      by_cases hq : n = at_
      · have e1 : ((n : Int) == (at_ : Int)) = true := by simp; omega
        have HQ := Lib.hid hq
        obtain ⟨y0, y1, y2, y3, y4, f0, f1, f2, f3, f4⟩ := box5 HBX.out
        have hm4 : m ≤ 4 := by have h9 := HM.out; rw [insN_len _ (by rw [HVL.out]; omega), if_neg (by omega)] at h9; omega
        have HMN := Lib.hid (show m = n by have h9 := HM.out; rw [insN_len _ (by rw [HVL.out]; omega), if_neg (by omega)] at h9; exact h9)
        clear hq
        go_wp2_with (at_builtin; refine apx wr 1 rfl (.tmp 87) (.tmp 89) 41 25 _ 1 24 Try.underlying41 infoI_ks rfl (by omega) rfl HOWN.out (by omega) (by omega) (by unfold maxLen; omega) [.slice pa pn pc] rfl (by simp [Value.oneCell']) _ rfl rfl rfl ?_; intro v2 w2 o2 b2 g2 e2; obtain ⟨_, a5, c5, rfl, _⟩ := Rd.own o2; have z2 := b2.size; have hCv : some C ≠ (Value.slice ao m co).ownBlock := (fun e => by have := HLT.out C e.symm; omega); have s1 := g2.cell y1 hCv; have s1f := (g2.frozen_far ⟨C, 1, none⟩ (by show C < _; omega) hCv).trans f1; have HBX2 := Lib.hid ((g2.block C (by omega) hCv).trans HBX.out); have O2 := Lib.hid o2; have B2 := Lib.hid b2; have G2 := Lib.hid g2; have E2 := Lib.hid e2; clear o2 b2 g2 e2)
        have hgS : w0.grownBy (w2.setCell ⟨C, 1, none⟩ (.slice a5 (m + 1) c5)) (some C) := bt_trans (bt_own HGR.out G2.out (fun g hg => (HLT.out g hg).1)) (bt_set _ _ _ _)
        have hbx3 := set1X HBX2.out (.slice a5 (m + 1) c5)
        have ho3 : (w2.setCell ⟨C, 1, none⟩ (.slice a5 (m + 1) c5)).ownsRow w0.heap.size 25 1 (.slice a5 (m + 1) c5) (m + 1) (insN vf at_ (.slice pa pn pc) n ++ [.slice pa pn pc]) :=
          O2.out.kept (bt_set _ _ _ _) (.inr fun e => by have := (O2.out.lt C e).1; omega)
        have hz3 : (w2.setCell ⟨C, 1, none⟩ (.slice a5 (m + 1) c5)).heap.size = w2.heap.size := by simp
        obtain ⟨w3, hw3⟩ : ∃ w3 : World, w3 = w2.setCell ⟨C, 1, none⟩ (.slice a5 (m + 1) c5) := ⟨_, rfl⟩
        rw [← hw3] at hgS hbx3 ho3 hz3 ⊢
        clear hw3
        have r1 := hgS.cell p1 (fun e => hPC (Option.some.inj e))
        have r3 : w3.cell? ⟨b, o + n, none⟩ = some (.slice (xa n) (xn n) (xc n)) := by
          obtain ⟨b', o', h1, -, h2, h3⟩ := K3.out n hlt
          cases h1
          exact hgS.cell h3 (fun e => h2 (Option.some.inj e))
        have HGS := Lib.hid hgS
        have HBX3 := Lib.hid hbx3
        have HO3 := Lib.hid ho3
        have HLT3 := Lib.hid ho3.lt
        clear hgS hbx3 ho3 s1 s1f y0 y1 y2 y3 y4 f0 f1 f2 f3 f4
        change Code.wp _ ((regionOf 19 (Try.f21.body.getD .skip)).getD .skip) _ _ _
        refine ar19 _ w3 w0.heap.size P C n K b o ck (m + 1) (by omega) hP hC hb1 hPC hlt (by omega) (xa n) (xn n) (xc n) a5 c5 _ x0 x2 x3 x4 r1 r3 HBX3 HO3 ?_
        refine Lib.hid ?_
        intro z0 z1 z2 z3 z4 z5 z6 z7 z8 z9 w4 v4 h1 h2 h3 h4 h5 h6 h7 h8
        have H1 := Lib.hid h1
        have H3 := Lib.hid h3
        have HG4 : Hid (w0.grownBy w4 (some C)) := Lib.hid ⟨h5.trans HGS.out.os, h6.trans HGS.out.tape, h7.trans HGS.out.output, by have := HGS.out.size; omega, fun q hq hne => (h8 q (by have := HGS.out.size; omega) (fun e => hne (by rw [e])) (fun e => by have := (HLT3.out q e).1; omega)).trans (HGS.out.block q hq hne)⟩
        clear h1 h2 h3 h4 h5 h6 h7 h8
        go_wp2_with fail
        go_roundw
        case rel =>
          refine ⟨n + 1, m + 2, v4, by omega, by go_num, Lib.hid ?_, by have := HMN.out; omega, Lib.hid ?_, H3, HG4⟩
          · rw [insN_len _ (by rw [HVL.out]; omega), if_pos (by have := HQ.out; omega), HMN.out]
          · have h9 := H1.out
            have h8 := insN_here (l := vf) (a := at_) (.slice pa pn pc) (.bool false) (by rw [HVL.out, ← HQ.out]; exact hlt)
            rw [HQ.out] at h9 ⊢
            rw [h8, HVA.out at_ (by rw [← HQ.out]; exact hlt)]
            exact h9
        case measure => simp [intOf] <;> omega
      · have e1 : ((n : Int) == (at_ : Int)) = false := by simp; omega
        have HQ := Lib.hid hq
        have HMN := Lib.hid (show m = if at_ < n then n + 1 else n by have h9 := HM.out; rw [insN_len _ (by rw [HVL.out]; omega)] at h9; exact h9)
        clear hq
        go_wp2_with fail
        change Code.wp _ ((regionOf 19 (Try.f21.body.getD .skip)).getD .skip) _ _ _
        refine ar19 _ wr w0.heap.size P C n K b o ck m (by omega) hP hC hb1 hPC hlt (by omega) (xa n) (xn n) (xc n) ao co _ x0 x2 x3 x4 p1' g1' HBX HOWN ?_
        refine Lib.hid ?_
        intro z0 z1 z2 z3 z4 z5 z6 z7 z8 z9 w4 v4 h1 h2 h3 h4 h5 h6 h7 h8
        have H1 := Lib.hid h1
        have H3 := Lib.hid h3
        have HG4 : Hid (w0.grownBy w4 (some C)) := Lib.hid ⟨h5.trans HGR.out.os, h6.trans HGR.out.tape, h7.trans HGR.out.output, by omega, fun q hq hne => (h8 q (by omega) (fun e => hne (by rw [e])) (fun e => by have := (HLT.out q e).1; omega)).trans (HGR.out.block q hq hne)⟩
        clear h1 h2 h3 h4 h5 h6 h7 h8
        go_wp2_with fail
        go_roundw
        case rel =>
          refine ⟨n + 1, m + 1, v4, by omega, by go_num, Lib.hid ?_, ?_, Lib.hid ?_, H3, HG4⟩
          · have h9 := HMN.out
            have h8 := HQ.out
            rw [insN_len _ (by rw [HVL.out]; omega)]
            split at h9 <;> split <;> omega
          · have h9 := HMN.out
            split at h9 <;> omega
          · rw [insN_step _ (.bool false) HNL.out HQ.out, HVA.out n hlt]
            exact H1.out
        case measure => simp [intOf] <;> omega
    · obtain rfl : n = K := by omega
      have hm2 : m = if at_ < n then n + 1 else n := by have h9 := HM.out; rw [insN_len _ (by rw [HVL.out]; omega)] at h9; exact h9
      have HM2 := Lib.hid hm2
      clear hm2
      go_wp2_with fail
      exact hexit.out _ _ _ _ _ _ _ _ _ _ _ _ _ _ _ _ _ _ _ _ _ _ _ _ _ _ _ _ _ _ HM2.out HOWN.out HBX.out HGR.out
end Go.Proofs.Ytahammkjkfdmhaa
/- The document's putting in: a page's kids, one longer. -/
namespace Go.Proofs.Ytahammkjkfdmhaa
open Go.ChangeShapes Go.WideShapes Go.ChangeAt Go.RowKit
set_option linter.unusedVariables false
set_option linter.unusedSimpArgs false
set_option maxHeartbeats 4000000
variable {c0 c1 c2 c3 c4 c5 c6 c7 c8 c9 c11 c12 c14 c15 c17 c20 c21 c22 c23 c24 c25 c26 c27 c28 c29 c30 c31 c32 c33 c34 c35 c36 c37 c38 c39 c40 c41 c42 c43 c44 c45 c46 c47 c48 c49 c50 c51 c52 c53 c54 c55 c56 c57 c58 c59 c60 c61 c62 c63 c64 c65 c66 c67 c68 c69 c70 c71 c72 c73 c74 c75 c76 c77 c78 c79 c80 c81 c82 c83 c84 c85 c86 c87 c88 c89 c90 c91 c92 c93 c94 c95 c96 c97 c98 c99 c100 c101 c102 c103 c104 c105 c106 c107 c108 c109 c110 c111 c112 c113 c114 c115 c116 c117 c118 c119 c120 c121 c122 c123 c124 c125 c126 c127 c128 c129 c130 c131 c132 c133 c134 c135 c136 c137 c138 c139 c140 c141 c142 c143 c144 c145 c146 c147 c148 c149 c150 c151 c152 c153 c154 c155 c156 c157 c158 c159 c160 c161 c162 c163 c164 c165 c166 c167 c168 c169 c170 c171 c172 c173 c174 c175 c176 c177 c178 c179 c180 c181 c182 c183 c184 c185 c186 c187 c188 c189 c190 c191 c192 c193 c194 c195 c196 c197 c198 c199 c200 c201 c202 c203 c204 c205 c206 c207 c208 c209 c210 c211 c212 c213 c214 c215 c216 c217 c218 c219 c220 c221 c222 c223 c224 c225 c226 c227 c228 c229 c230 c231 c232 c233 : Value}
set_option maxRecDepth 1000000
theorem ad4 (Q : Exit → Act → World → Prop)  (w0 : World) (P C spot D cd : Nat) (ad : Option Addr) (kid : Int) (ds : List Int) (hP : P < w0.heap.size) (hC : C < w0.heap.size) (hPC : P ≠ C) (hD5 : D ≤ 5) (hsp : spot ≤ D) (HD : Hid (D = ds.length)) (x0 x1 x3 x4 : Value)
    (p2 : w0.cell? ⟨P, 2, none⟩ = some (.slice ad D cd)) (D3 : Hid (∀ j, j < D → ∃ b o, ad = some ⟨b, o, none⟩ ∧ b < w0.heap.size ∧ b ≠ C ∧ w0.cell? ⟨b, o + j, none⟩ = some (.int .i64 (ds.getD j 0))))
    (hbox : w0.heap[C]? = some (.cells #[x0, x1, .slice none 0 0, x3, x4] 43 (0, 0)))
    (hexit : Hid (∀ (u19 u119 u120 u121 u122 u123 u124 u125 u126 u127 u128 u129 u130 u131 u132 u133 u134 u135 u136 u137 u138 u139 u140 u141 u142 u143 u144 u145 u146 u147 u148 u149 : Value) (w' : World) (v : Value), w'.ownsRow w0.heap.size 3 1 v (D + 1) (ic (insAt ds spot kid)) → w'.heap[C]? = some (.cells #[x0, x1, v, x3, x4] 43 (0, 0)) → w0.grownBy w' (some C) → Q (.exit 4) ⟨List.toArray (c0::c1::c2::c3::c4::c5::c6::c7::c8::c9::(.pointer (some ⟨P, 0, none⟩))::c11::c12::(.int .i64 kid)::c14::c15::(.pointer (some ⟨C, 0, none⟩))::c17::(.int .i64 (spot : Int))::u19::c20::c21::c22::c23::c24::c25::c26::c27::c28::c29::c30::c31::c32::c33::c34::c35::c36::c37::c38::c39::c40::c41::c42::c43::c44::c45::c46::c47::c48::c49::c50::c51::c52::c53::c54::c55::c56::c57::c58::c59::c60::c61::c62::c63::c64::c65::c66::c67::c68::c69::c70::c71::c72::c73::c74::c75::c76::c77::c78::c79::c80::c81::c82::c83::c84::c85::c86::c87::c88::c89::c90::c91::c92::c93::c94::c95::c96::c97::c98::c99::c100::c101::c102::c103::c104::c105::c106::c107::c108::c109::c110::c111::c112::c113::c114::c115::c116::c117::c118::u119::u120::u121::u122::u123::u124::u125::u126::u127::u128::u129::u130::u131::u132::u133::u134::u135::u136::u137::u138::u139::u140::u141::u142::u143::u144::u145::u146::u147::u148::u149::c150::c151::c152::c153::c154::c155::c156::c157::c158::c159::c160::c161::c162::c163::c164::c165::c166::c167::c168::c169::c170::c171::c172::c173::c174::c175::c176::c177::c178::c179::c180::c181::c182::c183::c184::c185::c186::c187::c188::c189::c190::c191::c192::c193::c194::c195::c196::c197::c198::c199::c200::c201::c202::c203::c204::c205::c206::c207::c208::c209::c210::c211::c212::c213::c214::c215::c216::c217::c218::c219::c220::c221::c222::c223::c224::c225::c226::c227::c228::c229::c230::c231::c232::c233::[]), []⟩ w')) :
    Code.wp Try.prog (Code.loop (loopAt Try.f21 2)) Q ⟨List.toArray (c0::c1::c2::c3::c4::c5::c6::c7::c8::c9::(.pointer (some ⟨P, 0, none⟩))::c11::c12::(.int .i64 kid)::c14::c15::(.pointer (some ⟨C, 0, none⟩))::c17::(.int .i64 (spot : Int))::(.int .i64 0)::c20::c21::c22::c23::c24::c25::c26::c27::c28::c29::c30::c31::c32::c33::c34::c35::c36::c37::c38::c39::c40::c41::c42::c43::c44::c45::c46::c47::c48::c49::c50::c51::c52::c53::c54::c55::c56::c57::c58::c59::c60::c61::c62::c63::c64::c65::c66::c67::c68::c69::c70::c71::c72::c73::c74::c75::c76::c77::c78::c79::c80::c81::c82::c83::c84::c85::c86::c87::c88::c89::c90::c91::c92::c93::c94::c95::c96::c97::c98::c99::c100::c101::c102::c103::c104::c105::c106::c107::c108::c109::c110::c111::c112::c113::c114::c115::c116::c117::c118::c119::c120::c121::c122::c123::c124::c125::c126::c127::c128::c129::c130::c131::c132::c133::c134::c135::c136::c137::c138::c139::c140::c141::c142::c143::c144::c145::c146::c147::c148::c149::c150::c151::c152::c153::c154::c155::c156::c157::c158::c159::c160::c161::c162::c163::c164::c165::c166::c167::c168::c169::c170::c171::c172::c173::c174::c175::c176::c177::c178::c179::c180::c181::c182::c183::c184::c185::c186::c187::c188::c189::c190::c191::c192::c193::c194::c195::c196::c197::c198::c199::c200::c201::c202::c203::c204::c205::c206::c207::c208::c209::c210::c211::c212::c213::c214::c215::c216::c217::c218::c219::c220::c221::c222::c223::c224::c225::c226::c227::c228::c229::c230::c231::c232::c233::[]), []⟩ w0 := by
  conv => arg 2; arg 1; whnf
  have HBOX := Lib.hid hbox
  clear hbox
  go_loopw [19] (fun t wr => ∃ (n m : Nat) (v : Value), n ≤ D + 1 ∧ t = .int .i64 (n : Int) ∧ Hid (m = (insN ds spot kid n).length) ∧ m ≤ 6 ∧ Hid (wr.ownsRow w0.heap.size 3 1 v m (ic (insN ds spot kid n))) ∧ Hid (wr.heap[C]? = some (.cells #[x0, x1, v, x3, x4] 43 (0, 0))) ∧ Hid (w0.grownBy wr (some C))) (fun t _ => D + 1 - (intOf t).toNat)
  case atStart => exact ⟨0, 0, .slice none 0 0, by omega, rfl, Lib.hid (by rw [insN_zero]; rfl), by omega, Lib.hid (by rw [insN_zero]; exact World.ownsRow_nil _ _ _ _), HBOX, Lib.hid (World.grownBy.refl _ _)⟩
  case round =>
    obtain ⟨n, m, v, hn, rfl, HM, hm5, HOWN, HBX, HGR⟩ := hrel
    have hz := HGR.out.size
    have p2' := HGR.out.cell p2 (fun e => hPC (Option.some.inj e))
    have HLT := Lib.hid HOWN.out.lt
    by_cases hle : n ≤ D
    · have i0 : (0 : Int) ≤ (n : Int) := by omega
      have i1 : (n : Int) ≤ (D : Int) := by omega
      obtain ⟨_, ao, co, rfl, _⟩ := Rd.own HOWN.out
      by_cases hq : n = spot
      · have e1 : ((n : Int) == (spot : Int)) = true := by simp; omega
        have HQ := Lib.hid hq
        obtain ⟨y0, y1, y2, y3, y4, f0, f1, f2, f3, f4⟩ := box5 HBX.out
        have hmn : m = n := by have h9 := HM.out; rw [insN_len _ (by rw [← HD.out]; omega), if_neg (by omega)] at h9; exact h9
        have hm4 : m ≤ 5 := by omega
        have HMN := Lib.hid hmn
        clear hq hmn
        by_cases hlt : n < D
        · have i2 : (n : Int) < (D : Int) := by omega
          obtain ⟨b, o, rfl, hb1, hb2, g1⟩ := D3.out n hlt
          clear g1
          go_wp2_with (at_builtin; refine apx wr 1 rfl (.tmp 130) (.tmp 132) 37 3 _ 1 8 Try.underlying37 Try.info3 rfl (by omega) rfl HOWN.out (by omega) (by omega) (by unfold maxLen; omega) [.int .i64 kid] rfl (by simp [Value.oneCell']) _ rfl rfl rfl ?_; intro v2 w2 o2 b2 g2 e2; obtain ⟨_, a5, c5, rfl, _⟩ := Rd.own o2; have z2 := b2.size; have hCv : some C ≠ (Value.slice ao m co).ownBlock := (fun e => by have := HLT.out C e.symm; omega); have s1 := g2.cell y2 hCv; have s1f := (g2.frozen_far ⟨C, 2, none⟩ (by show C < _; omega) hCv).trans f2; have HBX2 := Lib.hid ((g2.block C (by omega) hCv).trans HBX.out); have q1 := (g2.cell p2' (fun e => by have := HLT.out P e.symm; omega)); have O2 := Lib.hid o2; have B2 := Lib.hid b2; have G2 := Lib.hid g2; have E2 := Lib.hid e2; clear o2 b2 g2 e2)
          have hgS : w0.grownBy (w2.setCell ⟨C, 2, none⟩ (.slice a5 (m + 1) c5)) (some C) := bt_trans (bt_own HGR.out G2.out (fun g hg => (HLT.out g hg).1)) (bt_set _ _ _ _)
          have hbx3 := set2 HBX2.out (.slice a5 (m + 1) c5)
          have ho3 : (w2.setCell ⟨C, 2, none⟩ (.slice a5 (m + 1) c5)).ownsRow w0.heap.size 3 1 (.slice a5 (m + 1) c5) (m + 1) (ic (insN ds spot kid n) ++ [.int .i64 kid]) :=
            O2.out.kept (bt_set _ _ _ _) (.inr fun e => by have := (O2.out.lt C e).1; omega)
          obtain ⟨w3, hw3⟩ : ∃ w3 : World, w3 = w2.setCell ⟨C, 2, none⟩ (.slice a5 (m + 1) c5) := ⟨_, rfl⟩
          rw [← hw3] at hgS hbx3 ho3 ⊢
          clear hw3
          have hz3 := hgS.size
          have r1 := hgS.cell p2 (fun e => hPC (Option.some.inj e))
          have r3 : w3.cell? ⟨b, o + n, none⟩ = some (.int .i64 (ds.getD n 0)) := by
            obtain ⟨b', o', h1, -, h2, h3⟩ := D3.out n hlt
            cases h1
            exact hgS.cell h3 (fun e => h2 (Option.some.inj e))
          have HGS := Lib.hid hgS
          have HBX3 := Lib.hid hbx3
          have HO3 := Lib.hid ho3
          have HLT3 := Lib.hid ho3.lt
          obtain ⟨dn, hdn⟩ : ∃ dn, dn = ds.getD n 0 := ⟨_, rfl⟩
          rw [← hdn] at r3
          have HDN := Lib.hid hdn
          clear hgS hbx3 ho3 s1 s1f y0 y1 y2 y3 y4 f0 f1 f2 f3 f4 hdn
          change Code.wp _ ((regionOf 31 (Try.f21.body.getD .skip)).getD .skip) _ _ _
          refine ar31 _ w3 w0.heap.size P C n D b o cd (m + 1) (by omega) hP hC hb1 hPC hlt (by omega) dn a5 c5 _ x0 x1 x3 x4 r1 r3 HBX3 HO3 ?_
          refine Lib.hid ?_
          intro z0 z1 z2 z3 z4 z5 z6 z7 z8 z9 w4 v4 h1 h2 h3 h4 h5 h6 h7 h8
          have H1 := Lib.hid h1
          have H3 := Lib.hid h3
          have HG4 : Hid (w0.grownBy w4 (some C)) := Lib.hid ⟨h5.trans HGS.out.os, h6.trans HGS.out.tape, h7.trans HGS.out.output, by omega, fun q hq hne => (h8 q (by omega) (fun e => hne (by rw [e])) (fun e => by have := (HLT3.out q e).1; omega)).trans (HGS.out.block q hq hne)⟩
          clear h1 h2 h3 h4 h5 h6 h7 h8
          go_wp2_with fail
          go_roundw
          case rel =>
            refine ⟨n + 1, m + 2, v4, by omega, by go_num, Lib.hid ?_, by have := HMN.out; omega, Lib.hid ?_, H3, HG4⟩
            · rw [insN_len _ (by rw [← HD.out]; omega), if_pos (by have := HQ.out; omega), HMN.out]
            · have h9 := H1.out
              have h8 := insN_here (l := ds) (a := spot) kid 0 (by rw [← HD.out, ← HQ.out]; exact hlt)
              rw [HDN.out] at h9
              rw [HQ.out] at h9 ⊢
              rw [h8, ic_app, ic_app]
              exact h9
          case measure => simp [intOf] <;> omega
        · have i2 : ¬ (n : Int) < (D : Int) := by omega
          go_wp2_with (at_builtin; refine apx wr 1 rfl (.tmp 130) (.tmp 132) 37 3 _ 1 8 Try.underlying37 Try.info3 rfl (by omega) rfl HOWN.out (by omega) (by omega) (by unfold maxLen; omega) [.int .i64 kid] rfl (by simp [Value.oneCell']) _ rfl rfl rfl ?_; intro v2 w2 o2 b2 g2 e2; obtain ⟨_, a5, c5, rfl, _⟩ := Rd.own o2; have z2 := b2.size; have hCv : some C ≠ (Value.slice ao m co).ownBlock := (fun e => by have := HLT.out C e.symm; omega); have s1 := g2.cell y2 hCv; have s1f := (g2.frozen_far ⟨C, 2, none⟩ (by show C < _; omega) hCv).trans f2; have HBX2 := Lib.hid ((g2.block C (by omega) hCv).trans HBX.out); have q1 := (g2.cell p2' (fun e => by have := HLT.out P e.symm; omega)); have O2 := Lib.hid o2; have B2 := Lib.hid b2; have G2 := Lib.hid g2; have E2 := Lib.hid e2; clear o2 b2 g2 e2)
          have hgS : w0.grownBy (w2.setCell ⟨C, 2, none⟩ (.slice a5 (m + 1) c5)) (some C) := bt_trans (bt_own HGR.out G2.out (fun g hg => (HLT.out g hg).1)) (bt_set _ _ _ _)
          have hbx3 := set2 HBX2.out (.slice a5 (m + 1) c5)
          have ho3 : (w2.setCell ⟨C, 2, none⟩ (.slice a5 (m + 1) c5)).ownsRow w0.heap.size 3 1 (.slice a5 (m + 1) c5) (m + 1) (ic (insN ds spot kid n) ++ [.int .i64 kid]) :=
            O2.out.kept (bt_set _ _ _ _) (.inr fun e => by have := (O2.out.lt C e).1; omega)
          obtain ⟨w3, hw3⟩ : ∃ w3 : World, w3 = w2.setCell ⟨C, 2, none⟩ (.slice a5 (m + 1) c5) := ⟨_, rfl⟩
          rw [← hw3] at hgS hbx3 ho3 ⊢
          clear hw3
          have r1 := hgS.cell p2 (fun e => hPC (Option.some.inj e))
          have HGS := Lib.hid hgS
          have HBX3 := Lib.hid hbx3
          have HO3 := Lib.hid ho3
          clear hgS hbx3 ho3 s1 s1f y0 y1 y2 y3 y4 f0 f1 f2 f3 f4
          go_wp2_with fail
          go_roundw
          case rel =>
            refine ⟨n + 1, m + 1, _, by omega, by go_num, Lib.hid ?_, by omega, Lib.hid ?_, HBX3, HGS⟩
            · have h7 := HD.out
              have h6 := HQ.out
              have h8 := insN_last (l := ds) (n := spot) kid (by omega)
              have h9 := HM.out
              rw [h6] at h9
              rw [h6, h8, List.length_append, ← h9]
              rfl
            · have h9 := HO3.out
              have h7 := HD.out
              have h6 := HQ.out
              have h8 := insN_last (l := ds) (n := spot) kid (by omega)
              rw [h6] at h9 ⊢
              rw [h8, ic_app]
              exact h9
          case measure => simp [intOf] <;> omega
      · have e1 : ((n : Int) == (spot : Int)) = false := by simp; omega
        have HQ := Lib.hid hq
        have HMN := Lib.hid (show m = if spot < n then n + 1 else n by have h9 := HM.out; rw [insN_len _ (by rw [← HD.out]; omega)] at h9; exact h9)
        clear hq
        by_cases hlt : n < D
        · have i2 : (n : Int) < (D : Int) := by omega
          obtain ⟨b, o, rfl, hb1, hb2, g1⟩ := D3.out n hlt
          have g1' := HGR.out.cell g1 (fun e => hb2 (Option.some.inj e))
          obtain ⟨dn, hdn⟩ : ∃ dn, dn = ds.getD n 0 := ⟨_, rfl⟩
          rw [← hdn] at g1'
          have HDN := Lib.hid hdn
          clear g1 hdn
          go_wp2_with fail
          change Code.wp _ ((regionOf 31 (Try.f21.body.getD .skip)).getD .skip) _ _ _
          refine ar31 _ wr w0.heap.size P C n D b o cd m (by omega) hP hC hb1 hPC hlt (by omega) dn ao co _ x0 x1 x3 x4 p2' g1' HBX HOWN ?_
          refine Lib.hid ?_
          intro z0 z1 z2 z3 z4 z5 z6 z7 z8 z9 w4 v4 h1 h2 h3 h4 h5 h6 h7 h8
          have H1 := Lib.hid h1
          have H3 := Lib.hid h3
          have HG4 : Hid (w0.grownBy w4 (some C)) := Lib.hid ⟨h5.trans HGR.out.os, h6.trans HGR.out.tape, h7.trans HGR.out.output, by omega, fun q hq hne => (h8 q (by omega) (fun e => hne (by rw [e])) (fun e => by have := (HLT.out q e).1; omega)).trans (HGR.out.block q hq hne)⟩
          clear h1 h2 h3 h4 h5 h6 h7 h8
          go_wp2_with fail
          go_roundw
          case rel =>
            refine ⟨n + 1, m + 1, v4, by omega, by go_num, Lib.hid ?_, ?_, Lib.hid ?_, H3, HG4⟩
            · have h9 := HMN.out
              have h8 := HQ.out
              rw [insN_len _ (by rw [← HD.out]; omega)]
              split at h9 <;> split <;> omega
            · have h9 := HMN.out
              split at h9 <;> omega
            · rw [insN_step _ 0 (by rw [← HD.out]; exact hlt) HQ.out, ic_app, ← HDN.out]
              exact H1.out
          case measure => simp [intOf] <;> omega
        · have i2 : ¬ (n : Int) < (D : Int) := by omega
          go_wp2_with fail
          go_roundw
          case rel =>
            have h6 := HQ.out
            have h7 := HD.out
            have h8 : insN ds spot kid (n + 1) = insN ds spot kid n := by
              obtain rfl : n = ds.length := by omega
              exact insN_over kid (by omega)
            refine ⟨n + 1, m, _, by omega, by go_num, Lib.hid ?_, hm5, Lib.hid ?_, HBX, HGR⟩
            · rw [h8]; exact HM.out
            · rw [h8]; exact HOWN.out
          case measure => simp [intOf] <;> omega
    · have i1 : ¬ (n : Int) ≤ (D : Int) := by omega
      have hnD : n = D + 1 := by omega
      have h7 := HD.out
      have hl : insN ds spot kid n = insAt ds spot kid := insN_all kid (by omega) (by omega)
      have hm2 : m = D + 1 := by
        have h9 := HM.out
        rw [hl] at h9
        rw [h9]
        unfold insAt
        simp
        omega
      have ho := HOWN.out
      rw [hl, hm2] at ho
      have HO2 := Lib.hid ho
      clear hnD h7 hl hm2 ho
      go_wp2_with fail
      exact hexit.out _ _ _ _ _ _ _ _ _ _ _ _ _ _ _ _ _ _ _ _ _ _ _ _ _ _ _ _ _ _ _ _ _ _ HO2.out HBX.out HGR.out
end Go.Proofs.Ytahammkjkfdmhaa
