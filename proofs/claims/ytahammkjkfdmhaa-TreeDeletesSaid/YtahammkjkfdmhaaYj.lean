/- The document's copy of a tree: its row of pages is the copy's own. -/
import Derived.Test.YtahammkjkfdmhaaHg
import Derived.Test.YtahammkjkfdmhaaIr
import Derived.Test.YtahammkjkfdmhaaTq
namespace Go.Proofs.Ytahammkjkfdmhaa
open Go.ChangeShapes Go.WideShapes Go.ChangeAt Go.RowKit
set_option linter.unusedVariables false
set_option linter.unusedSimpArgs false
set_option maxHeartbeats 4000000
set_option maxRecDepth 1000000
/-- A tree whose row of pages is owned; what the pages lead to lies elsewhere, and reads. -/
def CTr (w : World) (B : Nat) (tv : Value) (T : Tr) : Prop := ∃ (a : Option Addr) (c : Nat) (vs : List Value), tv = .agg #[.slice a T.pages.length c, .int .i64 T.root] ∧ w.ownsRow B 43 5 (.slice a T.pages.length c) T.pages.length vs ∧
  RPs w (fun b => B ≤ b ∧ b < w.heap.size ∧ (Value.slice a T.pages.length c).ownBlock ≠ some b) vs T.pages
theorem treeCopy_own (w : World) (ok : Nat → Prop) (hok : ∀ b, ok b → b < w.heap.size) (tv : Value) (T : Tr) (ht : RT w ok tv T) (hcp : Cpy T) :
    Calls Try.prog 12 #[tv] w fun e w' => ∃ v' B, e = .returned v' ∧ w.heap.size + 3 ≤ B ∧ B ≤ w'.heap.size ∧ CTr w' B v' T ∧ Below w.heap.size w w' := by
  obtain ⟨ap, cp, kf, df, gf, rfl, g1, g2, g3⟩ := pagesF ht
  obtain ⟨NP, hNP⟩ : ∃ N, N = T.pages.length := ⟨_, rfl⟩
  obtain ⟨hc1, hc2⟩ := hcp
  rw [← hNP] at g1 g3 hc1
  rw [← hNP]
  obtain ⟨rt, hrt⟩ : ∃ rt : Int, rt = T.root := ⟨_, rfl⟩
  rw [← hrt]
  have HNP := Lib.hid hNP
  have HRT := Lib.hid hrt
  have HP := Lib.hid g3
  have HC := Lib.hid hc2
  unfold maxLen at g2
  clear hNP hrt g3 hc2 ht
  go_enter Try.func12, Try.ntmps12
  go_wp2
  obtain ⟨W0, hW0⟩ : ∃ W0 : World, W0 = ((w.alloc (.cells #[.slice ap NP cp, .int .i64 rt] 24)).alloc (.cells #[.slice none 0 0, .int .i64 0] 24)).alloc (.cells #[.slice none 0 0, .int .i64 rt] 24) := ⟨_, rfl⟩
  have hB0 : Below w.heap.size w W0 := by rw [hW0]; go_grown
  have hz0 : W0.heap.size = w.heap.size + 3 := by rw [hW0]; simp
  have b2 : W0.heap[w.heap.size + 1 + 1]? = some (.cells #[.slice none 0 0, .int .i64 rt] 24 (0, 0)) := by rw [hW0]; exact new2 _ _ _ _
  have hb21 : Below ((w.alloc (.cells #[.slice ap NP cp, .int .i64 rt] 24)).alloc (.cells #[.slice none 0 0, .int .i64 0] 24)).heap.size ((w.alloc (.cells #[.slice ap NP cp, .int .i64 rt] 24)).alloc (.cells #[.slice none 0 0, .int .i64 0] 24)) W0 := by rw [hW0]; exact (Below.refl _ _).alloc (Nat.le_refl _) _
  have hb20 : Below (w.alloc (.cells #[.slice ap NP cp, .int .i64 rt] 24)).heap.size (w.alloc (.cells #[.slice ap NP cp, .int .i64 rt] 24)) ((w.alloc (.cells #[.slice ap NP cp, .int .i64 rt] 24)).alloc (.cells #[.slice none 0 0, .int .i64 0] 24)) := (Below.refl _ _).alloc (Nat.le_refl _) _
  have b1 : W0.heap[w.heap.size + 1]? = some (.cells #[.slice none 0 0, .int .i64 0] 24 (0, 0)) := (hb21.block _ (by simp)).trans (new1 _ _ _)
  have b0 : W0.heap[w.heap.size]? = some (.cells #[.slice ap NP cp, .int .i64 rt] 24 (0, 0)) := (hb21.block _ (by simp; omega)).trans ((hb20.block _ (by simp)).trans (new0 _ _))
  rw [← hW0]
  have HB0 := Lib.hid hB0
  have B2 := Lib.hid b2
  have B1 := Lib.hid b1
  have BX := Lib.hid b0
  clear hW0 hB0 hb21 hb20 b0 b1 b2
  go_loopw [4] (fun v wr => ∃ (k : Nat) (ao : Option Addr) (co : Nat) (vs : List Value) (G : Nat → Prop), k ≤ NP ∧ v = .int .i64 (k : Int) ∧ wr.heap[w.heap.size + 1 + 1]? = some (.cells #[.slice ao k co, .int .i64 rt] 24 (0, 0)) ∧ wr.ownsRow (w.heap.size + 3) 43 5 (.slice ao k co) k vs ∧ RPs wr G vs (T.pages.take k) ∧ (∀ b, G b → b < wr.heap.size ∧ (Value.slice ao k co).ownBlock ≠ some b ∧ w.heap.size + 3 ≤ b) ∧ W0.grownBy wr (some (w.heap.size + 1 + 1))) (fun v _ => NP - (intOf v).toNat)
  case atStart => exact ⟨0, none, 0, [], fun _ => False, by omega, rfl, B2.out, World.ownsRow_nil _ _ _ _, ⟨by simp, fun i p h => by simp at h⟩, fun b h => h.elim, World.grownBy.refl _ _⟩
  case round =>
    obtain ⟨k, ao, co, vs, G, hk, rfl, hbo, hown, hps, hG, hgr⟩ := hrel
    have hz := hgr.size
    have hB : Below w.heap.size w wr := HB0.out.trans (bt_old hgr (by omega) (by omega))
    have hbX := (hgr.block w.heap.size (by omega) (fun e => by have := Option.some.inj e; omega)).trans BX.out
    have hbR := (hgr.block (w.heap.size + 1) (by omega) (fun e => by have := Option.some.inj e; omega)).trans B1.out
    have HBO := Lib.hid hbo
    have HOWN := Lib.hid hown
    have HPS := Lib.hid hps
    have HG := Lib.hid hG
    have HGR := Lib.hid hgr
    have HB := Lib.hid hB
    have x0 := (box2I hbX).1
    have HBR := Lib.hid hbR
    clear hbo hown hps hG hgr hB hbR hbX
    by_cases hlt : k < NP
    · obtain ⟨bp, op, rfl, _, hokb, hpa⟩ := HP.out k hlt
      have hkl : k < T.pages.length := by rw [← HNP.out]; exact hlt
      obtain ⟨s1, s2, s3, s4⟩ := HC.out _ (page_mem hkl)
      have HKL := Lib.hid hkl
      clear hkl
      change Code.wp _ (loopAt Try.f12 0) _ _ _
      refine rndC _ _ _ _ _ _ _ _ _ _ _ _ _ _ _ _ _ _ _ _ _ _ _ _ _ _ _ _ _ _ _ _ _ _ _ _ _ _ _ _ _ _ _ _ _ _ _ _ _ _ _ _ _ _ _ _ _ _ _ _ _ _ _ _ _ _ _ _ _ _ _ _ _ _ wr (w.heap.size + 3) w.heap.size (w.heap.size + 1 + 1) ok (fun b hb => by have := hok b hb; omega) (by omega) (by omega) (by omega) (by omega) k NP bp op cp (kf k) (df k) (gf k) (T.pages.getD k noPg) rt hlt hc1 hokb x0 (hpa.below HB.out) s1 s2 s3 s4 ao co vs HBO.out HOWN ?_
      refine Lib.hid ?_
      intro k5 k6 k7 k8 k9 k13 k14 k15 k16 k17 k18 k19 k20 k21 k22 k23 k24 k25 k26 k27 k28 k29 k30 k31 k32 k33 k34 k35 k36 k37 k38 k39 k40 k41 k42 k43 k44 k45 k46 k47 k48 k49 k50 k51 k52 k53 k54 k55 k56 k57 k58 k59 k60 k61 k62 k63 k64 k65 k66 k67 k68 k69 k70 k71 k72 k73 k74 w2 v cs t1 t2 t3 t4 t5 t6 t7 t8 t9 t10
      obtain ⟨_, a9, c9, rfl, _⟩ := Rd.own t1
      have hg2 : W0.grownBy w2 (some (w.heap.size + 1 + 1)) := ⟨t7.trans HGR.out.os, t8.trans HGR.out.tape, t9.trans HGR.out.output, by omega, fun q hq hne => (t10 q (by omega) (fun e => hne (by rw [e])) (fun e => by have := (HOWN.out.lt q e).1; omega)).trans (HGR.out.block q hq hne)⟩
      have hps2 : RPs w2 (fun b => G b ∨ (wr.heap.size ≤ b ∧ b < w2.heap.size ∧ (Value.slice a9 (k + 1) c9).ownBlock ≠ some b)) (vs ++ cs) (T.pages.take (k + 1)) := by
        rw [take_nextG (d := noPg) HKL.out]
        refine RPs.snoc (RPs.mono (HPS.out.agree fun b g hlt => t10 b hlt (by have := (HG.out b g).2.2; omega) (HG.out b g).2.1) fun b g => .inl g) ?_ t2
        exact t3.mono fun b g => .inr g
      have hG2 : ∀ b, (G b ∨ (wr.heap.size ≤ b ∧ b < w2.heap.size ∧ (Value.slice a9 (k + 1) c9).ownBlock ≠ some b)) → b < w2.heap.size ∧ (Value.slice a9 (k + 1) c9).ownBlock ≠ some b ∧ w.heap.size + 3 ≤ b := by
        rintro b (g | g)
        · obtain ⟨g1, g2, g3⟩ := HG.out b g
          refine ⟨by omega, fun e => ?_, g3⟩
          rcases t4 with f | f
          · rw [f] at e; exact g2 e
          · have := f b e; omega
        · exact ⟨g.2.1, g.2.2, by have := g.1; omega⟩
      have T1 := Lib.hid t1
      have T5 := Lib.hid t5
      have HG2 := Lib.hid hG2
      have HPS2 := Lib.hid hps2
      have HGR2 := Lib.hid hg2
      clear t1 t2 t3 t4 t5 t6 t7 t8 t9 t10 hg2 hps2 hG2
      go_roundw
      case rel => refine ⟨_, _, _, _, _, _, _, _, _, _, _, _, _, _, _, _, _, _, _, _, _, _, _, _, _, _, _, _, _, _, _, _, _, _, _, _, _, _, _, _, _, _, _, _, _, _, _, _, _, _, _, _, _, _, _, _, _, _, _, _, _, _, _, _, _, _, _, _, ⟨k + 1, a9, c9, _, _, by omega, by go_num, T5.out, T1.out, HPS2.out, HG2.out, HGR2.out⟩, rfl⟩
      case measure => simp [intOf] <;> omega
    · obtain rfl : NP = k := by omega
      have e : T.pages.take NP = T.pages := List.take_of_length_le (by rw [← HNP.out]; exact Nat.le_refl _)
      rw [e] at HPS
      obtain ⟨o0, o1, _, _⟩ := box2I HBO.out
      obtain ⟨r0, r1, r2, r3⟩ := box2I HBR.out
      have HE := Lib.hid e
      clear e
      go_wp2
      have h51 : (wr.setCell ⟨w.heap.size + 1, 0, none⟩ (.slice ao NP co)).heap[w.heap.size + 1]? = some (.cells #[.slice ao NP co, .int .i64 0] 24 (0, 0)) := by rw [Lib.heap_setCell_same HBR.out]; rfl
      have h61 : ((wr.setCell ⟨w.heap.size + 1, 0, none⟩ (.slice ao NP co)).setCell ⟨w.heap.size + 1, 1, none⟩ (.int .i64 rt)).heap[w.heap.size + 1]? = some (.cells #[.slice ao NP co, .int .i64 rt] 24 (0, 0)) := by rw [Lib.heap_setCell_same h51]; rfl
      have hf6 : ∀ b, b ≠ w.heap.size + 1 → ((wr.setCell ⟨w.heap.size + 1, 0, none⟩ (.slice ao NP co)).setCell ⟨w.heap.size + 1, 1, none⟩ (.int .i64 rt)).heap[b]? = wr.heap[b]? := fun b hb => (Below.heap_setCell _ _ _ _ hb).trans (Below.heap_setCell _ _ _ _ hb)
      have hz6 : ((wr.setCell ⟨w.heap.size + 1, 0, none⟩ (.slice ao NP co)).setCell ⟨w.heap.size + 1, 1, none⟩ (.int .i64 rt)).heap.size = wr.heap.size := by simp
      have hB6 : Below w.heap.size w ((wr.setCell ⟨w.heap.size + 1, 0, none⟩ (.slice ao NP co)).setCell ⟨w.heap.size + 1, 1, none⟩ (.int .i64 rt)) := (HB.out.setCell (p := ⟨w.heap.size + 1, 0, none⟩) (by show w.heap.size ≤ w.heap.size + 1; omega) _).setCell (p := ⟨w.heap.size + 1, 1, none⟩) (by show w.heap.size ≤ w.heap.size + 1; omega) _
      have ho6 := (HOWN.out.kept (bt_set _ (w.heap.size + 1) 0 (.slice ao NP co)) (.inr fun e => by have := (HOWN.out.lt _ e).1; omega))
      have ho7 := ho6.kept (bt_set _ (w.heap.size + 1) 1 (.int .i64 rt)) (.inr fun e => by have := (ho6.lt _ e).1; omega)
      generalize ((wr.setCell ⟨w.heap.size + 1, 0, none⟩ (.slice ao NP co)).setCell ⟨w.heap.size + 1, 1, none⟩ (.int .i64 rt)) = W6 at *
      obtain ⟨q0, q1, _, _⟩ := box2I h61
      refine bodyPost_ret (v := .agg #[.slice ao NP co, .int .i64 rt]) (by simp [results, Try.results12, go_sem, q0, q1]; try rfl) rfl ⟨_, w.heap.size + 3, rfl, Nat.le_refl _, by omega, ⟨ao, co, vs, by rw [HRT.out, ← HNP.out], by rw [← HNP.out]; exact ho7, ?_⟩, hB6⟩
      rw [← HNP.out]
      refine RPs.mono (HPS.out.agree fun b g hlt => hf6 b (by have := (HG.out b g).2.2; omega)) fun b g => ?_
      have g1 := (HG.out b g).1
      have g2 := (HG.out b g).2
      exact ⟨g2.2, by omega, g2.1⟩
/-- A page of such a tree replaced. -/
theorem RPs.put {w : World} {ok : Nat → Prop} {vs vs' : List Value} {ps : List Pg} {i : Nat} {p : Pg} {cs : List Value} (h : RPs w ok vs ps) (hi : i < ps.length) (hl : vs'.length = vs.length)
    (hf : ∀ j, (j < i * 5 ∨ i * 5 + 5 ≤ j) → vs'[j]? = vs[j]?) (hc : (vs'.drop (i * 5)).take 5 = cs) (hp : RP w ok cs p) : RPs w ok vs' (ps.set i p) := by
  refine ⟨by rw [hl, h.1, List.length_set], fun m q hq => ?_⟩
  by_cases g : m = i
  · subst g
    rw [List.getElem?_set_self hi] at hq
    cases hq
    rw [hc]
    exact hp
  · rw [List.getElem?_set_ne (fun e => g e.symm)] at hq
    have h2 := h.2 m q hq
    have e : (vs'.drop (m * 5)).take 5 = (vs.drop (m * 5)).take 5 := by
      apply List.ext_getElem?
      intro j
      rw [List.getElem?_take, List.getElem?_take]
      split
      · rw [List.getElem?_drop, List.getElem?_drop]
        exact hf _ (by omega)
      · rfl
    rw [e]
    exact h2
end Go.Proofs.Ytahammkjkfdmhaa
/- The document's deletion: a page without one key. -/
namespace Go.Proofs.Ytahammkjkfdmhaa
open Go.ChangeShapes Go.WideShapes Go.ChangeAt Go.RowKit
set_option linter.unusedVariables false
set_option linter.unusedSimpArgs false
set_option maxHeartbeats 4000000
set_option maxRecDepth 1000000
theorem era_next {α : Type} {l : List α} {k n : Nat} {d : α} (hk : k < l.length) (h : k ≠ n) : (l.take (k + 1)).eraseIdx n = (l.take k).eraseIdx n ++ [l.getD k d] := by
  rw [take_nextG (d := d) hk]
  rcases Nat.lt_or_ge n k with g | g
  · exact List.eraseIdx_append_of_lt_length (by rw [List.length_take]; omega) _
  · rw [List.eraseIdx_of_length_le (by simp; omega), List.eraseIdx_of_length_le (by simp; omega)]
theorem era_same {α : Type} {l : List α} {k : Nat} (d : α) (hk : k < l.length) : (l.take (k + 1)).eraseIdx k = (l.take k).eraseIdx k := by
  rw [take_nextG (d := d) hk, List.eraseIdx_append_of_length_le (by rw [List.length_take]; omega), List.eraseIdx_of_length_le (l := l.take k) (by rw [List.length_take]; omega)]
  simp [List.length_take, Nat.min_eq_left (Nat.le_of_lt hk)]
theorem era_len {α β : Type} {l : List α} {m : List β} (h : l.length = m.length) (k n : Nat) : ((l.take k).eraseIdx n).length = ((m.take k).eraseIdx n).length := by
  simp [List.length_eraseIdx, List.length_take, h]
theorem era_le {α : Type} (l : List α) (k n : Nat) : ((l.take k).eraseIdx n).length ≤ k := by
  simp only [List.length_eraseIdx, List.length_take]
  split <;> (have := Nat.min_le_left k l.length; omega)
theorem dr20 (Q : Exit → Act → World → Prop) (c0 c1 c2 c3 c4 c5 c6 c7 c8 c10 c13 c14 c15 c16 c17 c18 c19 c20 c21 c22 c23 c24 c25 c26 c27 c28 c29 c30 c31 c32 c33 c34 c35 c36 c37 c38 c39 c40 c41 c42 c43 c44 c45 c46 c47 c48 c49 c50 c51 c52 c53 c54 c55 c56 c57 c58 c59 c60 c61 c62 c63 c64 c65 c66 c67 c68 c69 c70 c71 c72 c73 c74 c75 c76 c77 c78 c79 c80 c81 c82 c83 c84 c85 c86 c87 c88 c89 c90 c91 c92 c93 c94 c95 c96 c97 c98 c99 c100 c101 : Value) (w0 : World) (B P C k D b o cd m : Nat) (hBw : B ≤ w0.heap.size) (hP : P < B) (hC : C < B) (hb : b < B) (hPC : P ≠ C) (hk : k < D) (hm : m ≤ 17592186044404) (n : Int) (ad : Option Addr) (cap : Nat) (xs : List Value) (x0 x1 x3 x4 : Value)
    (p2 : w0.cell? ⟨P, 2, none⟩ = some (.slice (some ⟨b, o, none⟩) D cd)) (g : w0.cell? ⟨b, o + k, none⟩ = some (.int .i64 n)) (hbox : Hid (w0.heap[C]? = some (.cells #[x0, x1, .slice ad m cap, x3, x4] 43 (0, 0)))) (hown : Hid (w0.ownsRow B 3 1 (.slice ad m cap) m xs))
    (hout : Hid (∀ (u76 u77 u78 u79 u80 u81 u82 u83 u84 u85 : Value) (w' : World) (v : Value), w'.ownsRow B 3 1 v (m + 1) (xs ++ [.int .i64 n]) → (v.ownBlock = (Value.slice ad m cap).ownBlock ∨ (∀ g, v.ownBlock = some g → w0.heap.size ≤ g)) → w'.heap[C]? = some (.cells #[x0, x1, v, x3, x4] 43 (0, 0)) → w0.heap.size ≤ w'.heap.size → w'.os = w0.os → w'.tape = w0.tape → w'.output = w0.output → (∀ q, q < w0.heap.size → q ≠ C → (Value.slice ad m cap).ownBlock ≠ some q → w'.heap[q]? = w0.heap[q]?) → Q .normal ⟨List.toArray (c0 :: c1 :: c2 :: c3 :: c4 :: c5 :: c6 :: c7 :: c8 :: (.pointer (some ⟨P, 0, none⟩)) :: c10 :: (.pointer (some ⟨C, 0, none⟩)) :: (.int .i64 (k : Int)) :: c13 :: c14 :: c15 :: c16 :: c17 :: c18 :: c19 :: c20 :: c21 :: c22 :: c23 :: c24 :: c25 :: c26 :: c27 :: c28 :: c29 :: c30 :: c31 :: c32 :: c33 :: c34 :: c35 :: c36 :: c37 :: c38 :: c39 :: c40 :: c41 :: c42 :: c43 :: c44 :: c45 :: c46 :: c47 :: c48 :: c49 :: c50 :: c51 :: c52 :: c53 :: c54 :: c55 :: c56 :: c57 :: c58 :: c59 :: c60 :: c61 :: c62 :: c63 :: c64 :: c65 :: c66 :: c67 :: c68 :: c69 :: c70 :: c71 :: c72 :: c73 :: c74 :: c75 :: u76 :: u77 :: u78 :: u79 :: u80 :: u81 :: u82 :: u83 :: u84 :: u85 :: c86 :: c87 :: c88 :: c89 :: c90 :: c91 :: c92 :: c93 :: c94 :: c95 :: c96 :: c97 :: c98 :: c99 :: c100 :: c101 :: []), []⟩ w')) :
    Code.wp Try.prog ((regionOf 20 (Try.f11.body.getD .skip)).getD .skip) Q ⟨List.toArray (c0 :: c1 :: c2 :: c3 :: c4 :: c5 :: c6 :: c7 :: c8 :: (.pointer (some ⟨P, 0, none⟩)) :: c10 :: (.pointer (some ⟨C, 0, none⟩)) :: (.int .i64 (k : Int)) :: c13 :: c14 :: c15 :: c16 :: c17 :: c18 :: c19 :: c20 :: c21 :: c22 :: c23 :: c24 :: c25 :: c26 :: c27 :: c28 :: c29 :: c30 :: c31 :: c32 :: c33 :: c34 :: c35 :: c36 :: c37 :: c38 :: c39 :: c40 :: c41 :: c42 :: c43 :: c44 :: c45 :: c46 :: c47 :: c48 :: c49 :: c50 :: c51 :: c52 :: c53 :: c54 :: c55 :: c56 :: c57 :: c58 :: c59 :: c60 :: c61 :: c62 :: c63 :: c64 :: c65 :: c66 :: c67 :: c68 :: c69 :: c70 :: c71 :: c72 :: c73 :: c74 :: c75 :: c76 :: c77 :: c78 :: c79 :: c80 :: c81 :: c82 :: c83 :: c84 :: c85 :: c86 :: c87 :: c88 :: c89 :: c90 :: c91 :: c92 :: c93 :: c94 :: c95 :: c96 :: c97 :: c98 :: c99 :: c100 :: c101 :: []), []⟩ w0 := by
  refine Code.wp_mono (Q := NQ Q) nq_to ?_
  conv => arg 2; whnf
  obtain ⟨y0, y1, y2, y3, y4, f0, f1, f2, f3, f4⟩ := box5 hbox.out
  have i0 : (0 : Int) ≤ (k : Int) := by omega
  have i1 : (k : Int) < (D : Int) := by omega
  have hC2 : C < w0.heap.size := by omega
  have hP2 : P < w0.heap.size := by omega
  have hb2 : b < w0.heap.size := by omega
  obtain ⟨i9, hi0, hz0, hz1, hz2⟩ := info_parts Try.info3
  have hne : ∀ q, q < B → some q ≠ (Value.slice ad m cap).ownBlock := fun q h e => by have := (hown.out.lt _ e.symm).1; omega
  have HNE := Lib.hid hne
  clear hne
  have f2' : ∀ (W : World), W = (w0.alloc (.cells #[.int .i64 n] 3)).drew → W.frozen? ⟨C, 2, none⟩ = false := by
    rintro W rfl
    exact ((((Below.refl w0.heap.size w0).alloc (Nat.le_refl _) (.cells #[.int .i64 n] 3)).drew).frozen (p := ⟨C, 2, none⟩) hC2).trans f2
  have F2 := Lib.hid f2'
  have c2' : ∀ (W : World), W = (w0.alloc (.cells #[.int .i64 n] 3)).drew → W.cell? ⟨C, 2, none⟩ = some (.slice ad m cap) := by
    rintro W rfl
    exact ((((Below.refl w0.heap.size w0).alloc (Nat.le_refl _) (.cells #[.int .i64 n] 3)).drew).cell (p := ⟨C, 2, none⟩) hC2).trans y2
  have C2 := Lib.hid c2'
  clear f2' c2'
  go_region_law ((refine step_append_lies _ (by rfl) _ _ _ (by rfl) B 3 i9 _ 1 8 Try.underlying37 hi0 hz0 hz1 hz2 rfl (by omega) (.slice ad m cap) m xs (by rfl) ((hown.out.alloc _).drew) ⟨w0.heap.size, 0, none⟩ 1 1 [.int .i64 n] (by rfl) (by rfl) (World.news_of_block (cs := #[.int .i64 n]) (t := 3) (fr := (0, 0)) (heap_alloc_new w0 _)) (by simp [Value.oneCell']) (by omega) (by unfold maxLen; omega) (by omega) (by simp; omega) (w0.heap.size + 1) (by simp) ?_; intro gg cap1 w1 hown1 hgrow hat2 hlt4; have hf1 := (hgrow.frozen_far ⟨C, 2, none⟩ (by simp; omega) (HNE.out _ hC)).trans (F2.out _ rfl); have hc1 := (hgrow.cell_far ⟨C, 2, none⟩ (by simp; omega) (HNE.out _ hC)).trans (C2.out _ rfl)))
  all_goals (
    refine hout.out _ _ _ _ _ _ _ _ _ _ _ (.slice (some ⟨gg, 0, none⟩) (m + 1) cap1) ?_ ?_ ?_ ?_ ?_ ?_ ?_ ?_
    · exact hown1.kept (bt_set _ _ _ _) (.inr fun e => by have := (hown1.lt C e).1; omega)
    · rcases hat2 with h | h
      · exact .inl h.symm
      · exact .inr fun g hg => by (have e9 : gg = g := Option.some.inj hg); omega
    · refine set2 (x2 := .slice ad m cap) ?_ _
      exact (hgrow.block C (by simp only [World.size_alloc, World.size_drew]; omega) (HNE.out _ hC)).trans ((((Below.refl w0.heap.size w0).alloc (Nat.le_refl _) (.cells #[.int .i64 n] 3)).drew.block C hC2).trans hbox.out)
    · have h1 := hgrow.size
      simp at h1 ⊢
      omega
    · exact hgrow.os
    · exact hgrow.tape
    · exact hgrow.output
    · intro q hq hqC hqo
      exact (Below.heap_setCell _ _ _ _ hqC).trans ((hgrow.block q (by simp only [World.size_alloc, World.size_drew]; omega) (fun e => hqo e.symm)).trans (((Below.refl w0.heap.size w0).alloc (Nat.le_refl _) (.cells #[.int .i64 n] 3)).drew.block q hq)))
theorem dl4 (Q : Exit → Act → World → Prop) (c0 c1 c2 c3 c4 c5 c6 c7 c8 c13 c14 c15 c16 c17 c18 c19 c20 c21 c22 c23 c24 c25 c26 c27 c28 c29 c30 c31 c32 c33 c34 c35 c36 c37 c38 c39 c40 c41 c42 c43 c44 c45 c46 c47 c48 c49 c50 c51 c52 c53 c54 c55 c56 c57 c58 c59 c60 c61 c62 c63 c64 c65 c66 c67 c68 c69 c70 c71 c72 c73 c74 c75 c76 c77 c78 c79 c80 c81 c82 c83 c84 c85 c86 c87 c88 c89 c90 c91 c92 c93 c94 c95 c96 c97 c98 c99 c100 c101 : Value) (w0 : World) (P C nn : Nat) (ok : Nat → Prop) (hok : ∀ b, ok b → b < w0.heap.size ∧ b ≠ C) (hP : P < w0.heap.size) (hC : C < w0.heap.size) (hPC : P ≠ C) (ks : List Key) (ds : List Int) (K : Nat) (HK : Hid (K = ks.length)) (HD : Hid (K = ds.length)) (hK4 : K ≤ 4) (hkm : Hid (∀ s ∈ ks, s.length ≤ 100))
    (ak : Option Addr) (ck : Nat) (ff : Nat → Value) (p1 : w0.cell? ⟨P, 1, none⟩ = some (.slice ak K ck)) (K3 : Hid (∀ i, i < K → ∃ b o, ak = some ⟨b, o, none⟩ ∧ ok b ∧ w0.cell? ⟨b, o + i, none⟩ = some (ff i) ∧ RB w0 ok (ff i) (ks.getD i [])))
    (ad : Option Addr) (cd : Nat) (p2 : w0.cell? ⟨P, 2, none⟩ = some (.slice ad K cd)) (D3 : Hid (∀ i, i < K → ∃ b o, ad = some ⟨b, o, none⟩ ∧ ok b ∧ w0.cell? ⟨b, o + i, none⟩ = some (.int .i64 (ds.getD i 0))))
    (x0 x3 x4 : Value) (hbox : w0.heap[C]? = some (.cells #[x0, .slice none 0 0, .slice none 0 0, x3, x4] 43 (0, 0)))
    (hexit : Hid (∀ (u12 u13 u54 u55 u56 u57 u58 u59 u60 u61 u62 u63 u64 u65 u66 u67 u68 u69 u70 u71 u72 u73 u74 u75 u76 u77 u78 u79 u80 u81 u82 u83 u84 u85 : Value) (w' : World) (G : Nat → Prop) (kv dv : Value) (us : List Value), (∀ b, G b → w0.heap.size ≤ b ∧ b < w'.heap.size ∧ kv.ownBlock ≠ some b ∧ dv.ownBlock ≠ some b) → w'.ownsRow w0.heap.size 25 1 kv (ks.eraseIdx nn).length us → Ks w' G us (ks.eraseIdx nn) → w'.ownsRow w0.heap.size 3 1 dv (ds.eraseIdx nn).length (ic (ds.eraseIdx nn)) → w'.heap[C]? = some (.cells #[x0, kv, dv, x3, x4] 43 (0, 0)) → w0.grownBy w' (some C) → Q (.exit 4) ⟨List.toArray (c0 :: c1 :: c2 :: c3 :: c4 :: c5 :: c6 :: c7 :: c8 :: (.pointer (some ⟨P, 0, none⟩)) :: (.int .i64 (nn : Int)) :: (.pointer (some ⟨C, 0, none⟩)) :: u12 :: u13 :: c14 :: c15 :: c16 :: c17 :: c18 :: c19 :: c20 :: c21 :: c22 :: c23 :: c24 :: c25 :: c26 :: c27 :: c28 :: c29 :: c30 :: c31 :: c32 :: c33 :: c34 :: c35 :: c36 :: c37 :: c38 :: c39 :: c40 :: c41 :: c42 :: c43 :: c44 :: c45 :: c46 :: c47 :: c48 :: c49 :: c50 :: c51 :: c52 :: c53 :: u54 :: u55 :: u56 :: u57 :: u58 :: u59 :: u60 :: u61 :: u62 :: u63 :: u64 :: u65 :: u66 :: u67 :: u68 :: u69 :: u70 :: u71 :: u72 :: u73 :: u74 :: u75 :: u76 :: u77 :: u78 :: u79 :: u80 :: u81 :: u82 :: u83 :: u84 :: u85 :: c86 :: c87 :: c88 :: c89 :: c90 :: c91 :: c92 :: c93 :: c94 :: c95 :: c96 :: c97 :: c98 :: c99 :: c100 :: c101 :: []), []⟩ w')) :
    Code.wp Try.prog (Code.loop (loopAt Try.f11 2)) Q ⟨List.toArray (c0 :: c1 :: c2 :: c3 :: c4 :: c5 :: c6 :: c7 :: c8 :: (.pointer (some ⟨P, 0, none⟩)) :: (.int .i64 (nn : Int)) :: (.pointer (some ⟨C, 0, none⟩)) :: (.int .i64 0) :: c13 :: c14 :: c15 :: c16 :: c17 :: c18 :: c19 :: c20 :: c21 :: c22 :: c23 :: c24 :: c25 :: c26 :: c27 :: c28 :: c29 :: c30 :: c31 :: c32 :: c33 :: c34 :: c35 :: c36 :: c37 :: c38 :: c39 :: c40 :: c41 :: c42 :: c43 :: c44 :: c45 :: c46 :: c47 :: c48 :: c49 :: c50 :: c51 :: c52 :: c53 :: c54 :: c55 :: c56 :: c57 :: c58 :: c59 :: c60 :: c61 :: c62 :: c63 :: c64 :: c65 :: c66 :: c67 :: c68 :: c69 :: c70 :: c71 :: c72 :: c73 :: c74 :: c75 :: c76 :: c77 :: c78 :: c79 :: c80 :: c81 :: c82 :: c83 :: c84 :: c85 :: c86 :: c87 :: c88 :: c89 :: c90 :: c91 :: c92 :: c93 :: c94 :: c95 :: c96 :: c97 :: c98 :: c99 :: c100 :: c101 :: []), []⟩ w0 := by
  conv => arg 2; arg 1; whnf
  have HBOX := Lib.hid hbox
  clear hbox
  go_loopw [12] (fun i wr => ∃ (k j : Nat) (G : Nat → Prop) (kv dv : Value) (us : List Value), k ≤ K ∧ i = .int .i64 (k : Int) ∧ Hid (j = ((ks.take k).eraseIdx nn).length) ∧ j ≤ k ∧ Hid (∀ b, G b → w0.heap.size ≤ b ∧ b < wr.heap.size ∧ kv.ownBlock ≠ some b ∧ dv.ownBlock ≠ some b) ∧ Hid (∀ b, kv.ownBlock = some b → dv.ownBlock ≠ some b) ∧ Hid (wr.ownsRow w0.heap.size 25 1 kv j us) ∧ Hid (Ks wr G us ((ks.take k).eraseIdx nn)) ∧ Hid (wr.ownsRow w0.heap.size 3 1 dv j (ic ((ds.take k).eraseIdx nn))) ∧ Hid (wr.heap[C]? = some (.cells #[x0, kv, dv, x3, x4] 43 (0, 0))) ∧ Hid (w0.grownBy wr (some C))) (fun i _ => K - (intOf i).toNat)
  case atStart => exact ⟨0, 0, fun _ => False, .slice none 0 0, .slice none 0 0, [], by omega, rfl, Lib.hid (by simp), by omega, Lib.hid (fun b h => h.elim), Lib.hid (fun b h => by cases h), Lib.hid (World.ownsRow_nil _ _ _ _), Lib.hid (by simpa using Ks.nil _ _), Lib.hid (by simpa [ic] using World.ownsRow_nil _ _ _ _), HBOX, Lib.hid (World.grownBy.refl _ _)⟩
  case round =>
    obtain ⟨k, j, G, kv, dv, us, hk, rfl, HJ, hjk, HG, HKD, HOK, HKS, HOD, HBX, HGR⟩ := hrel
    have hz := HGR.out.size
    have p1' := HGR.out.cell p1 (fun e => hPC (Option.some.inj e))
    have p2' := HGR.out.cell p2 (fun e => hPC (Option.some.inj e))
    have HLT := Lib.hid HOK.out.lt
    have HLD := Lib.hid HOD.out.lt
    by_cases hlt : k < K
    · obtain ⟨b, o, rfl, hokb, g1, g2⟩ := K3.out k hlt
      obtain ⟨b2, o2, rfl, hokb2, g3⟩ := D3.out k hlt
      have hb' := hok _ hokb
      have hb2' := hok _ hokb2
      have g1' := HGR.out.cell g1 (fun e => hb'.2 (Option.some.inj e))
      have g3' := HGR.out.cell g3 (fun e => hb2'.2 (Option.some.inj e))
      have hag : Agree ok w0 wr := fun b hb hlt => HGR.out.block b hlt (fun e => (hok b hb).2 (Option.some.inj e))
      have hkl : k < ks.length := by rw [← HK.out]; exact hlt
      have hdl : k < ds.length := by rw [← HD.out]; exact hlt
      have hmem : ks.getD k [] ∈ ks := by
        simp only [List.getD, List.getElem?_eq_getElem hkl, Option.getD_some]
        exact List.getElem_mem hkl
      obtain ⟨s, hs⟩ : ∃ s, s = ks.getD k [] := ⟨_, rfl⟩
      rw [← hs] at g2 hmem
      have hcp := bcopy_any wr ok _ _ (g2.agree hag) (by have := hkm.out _ hmem; omega)
      have HS := Lib.hid hs
      obtain ⟨ns, hns⟩ : ∃ ns, ns = s.length := ⟨_, rfl⟩
      have HNS := Lib.hid hns
      obtain ⟨dk, hdk⟩ : ∃ dk, dk = ds.getD k 0 := ⟨_, rfl⟩
      rw [← hdk] at g3'
      have HDK := Lib.hid hdk
      clear hs
      have HCP := Lib.hid hcp
      have HKL := Lib.hid hkl
      have HDL := Lib.hid hdl
      have q0 : (0 : Int) ≤ (k : Int) := by omega
      have q1 : (k : Int) < (K : Int) := by omega
      clear g1 g2 g3 hag hkl hdl hmem hcp hokb hokb2 hns hdk
      by_cases hq : k = nn
      · have e1 : ((k : Int) != (nn : Int)) = false := by simp; omega
        have e2 : ((k : Int) == (nn : Int)) = true := by simp; omega
        have HQ := Lib.hid hq
        clear hq
        go_wp2_with fail
        go_roundw
        case rel =>
          refine ⟨k + 1, j, G, kv, dv, us, by omega, by go_num, ?_, by omega, HG, HKD, HOK, ?_, ?_, HBX, HGR⟩
          · rw [show (ks.take (k + 1)).eraseIdx nn = (ks.take k).eraseIdx nn from by rw [← HQ.out]; exact era_same [] HKL.out]; exact HJ
          · rw [show (ks.take (k + 1)).eraseIdx nn = (ks.take k).eraseIdx nn from by rw [← HQ.out]; exact era_same [] HKL.out]; exact HKS
          · rw [show (ds.take (k + 1)).eraseIdx nn = (ds.take k).eraseIdx nn from by rw [← HQ.out]; exact era_same 0 HDL.out]; exact HOD
        case measure => simp [intOf] <;> omega
      · have e1 : ((k : Int) != (nn : Int)) = true := by simp; omega
        have e2 : ((k : Int) == (nn : Int)) = false := by simp; omega
        have HQ := Lib.hid hq
        clear hq
        go_wp2_with fail
        refine HCP.out.mono ?_
        rintro e w1 ⟨v1, rfl, hr1, hb1⟩
        have hz1 := hb1.size
        obtain ⟨a1, d1, e1⟩ := hr1.sh
        rw [← HNS.out] at e1
        have hbx1 := (hb1.block C (by omega)).trans HBX.out
        obtain ⟨y0, y1, y2, y3, y4, f0, f1, f2, f3, f4⟩ := box5 hbx1
        have ho1 := own_below HOK.out hb1
        obtain ⟨_, ao, co, rfl, _⟩ := Rd.own ho1
        obtain ⟨_, adv, cdv, rfl, _⟩ := Rd.own HOD.out
        have HR1 := Lib.hid hr1
        have HB1 := Lib.hid hb1
        have HBX1 := Lib.hid hbx1
        have HO1 := Lib.hid ho1
        have r1 := cell_of_below hb1 p2'
        have r3 := cell_of_below hb1 g3'
        clear hr1 hb1 hbx1 ho1
        subst e1
        go_wp2_with (at_builtin; refine apx w1 1 rfl (.tmp 71) (.tmp 73) 41 25 _ 1 24 Try.underlying41 infoI_ks rfl (by omega) rfl HO1.out (by omega) (by omega) (by unfold maxLen; omega) [.slice a1 ns d1] rfl (by simp [Value.oneCell']) _ rfl rfl rfl ?_; intro v2 w2 o2 b2 g2 e2; obtain ⟨_, a5, c5, rfl, _⟩ := Rd.own o2; have z2 := b2.size; have hCv : some C ≠ (Value.slice ao j co).ownBlock := (fun e => by have := HLT.out C e.symm; omega); have s1 := g2.cell y1 hCv; have s1f := (g2.frozen_far ⟨C, 1, none⟩ (by show C < _; omega) hCv).trans f1; have HBX2 := Lib.hid ((g2.block C (by omega) hCv).trans HBX1.out); have O2 := Lib.hid o2; have B2 := Lib.hid b2; have G2 := Lib.hid g2; have E2 := Lib.hid e2; clear o2 b2 g2 e2)
        have hgS : w0.grownBy (w2.setCell ⟨C, 1, none⟩ (.slice a5 (j + 1) c5)) (some C) :=
          bt_trans (bt_own (bt_trans HGR.out (bt_below HB1.out)) G2.out (fun g hg => (HLT.out g hg).1)) (bt_set _ _ _ _)
        have hbx3 := set1 HBX2.out (.slice a5 (j + 1) c5)
        have hwb : ∀ b, b ≠ C → (w2.setCell ⟨C, 1, none⟩ (.slice a5 (j + 1) c5)).heap[b]? = w2.heap[b]? := fun b h => Below.heap_setCell _ _ _ _ h
        have ho3 : (w2.setCell ⟨C, 1, none⟩ (.slice a5 (j + 1) c5)).ownsRow w0.heap.size 25 1 (.slice a5 (j + 1) c5) (j + 1) (us ++ [.slice a1 ns d1]) :=
          O2.out.kept (bt_set _ _ _ _) (.inr fun e => by have := (O2.out.lt C e).1; omega)
        have hz3 : (w2.setCell ⟨C, 1, none⟩ (.slice a5 (j + 1) c5)).heap.size = w2.heap.size := by simp
        obtain ⟨w3, hw3⟩ : ∃ w3 : World, w3 = w2.setCell ⟨C, 1, none⟩ (.slice a5 (j + 1) c5) := ⟨_, rfl⟩
        rw [← hw3] at hgS hbx3 ho3 hz3 hwb ⊢
        clear hw3
        have far3 : ∀ q, q < w1.heap.size → q ≠ C → (Value.slice ao j co).ownBlock ≠ some q → w3.heap[q]? = w1.heap[q]? := fun q hq hqC hqo => (hwb q hqC).trans (G2.out.block q hq (fun e => hqo e.symm))
        have hod3 : w3.ownsRow w0.heap.size 3 1 (.slice adv j cdv) j (ic ((ds.take k).eraseIdx nn)) := own_far (own_below HOD.out HB1.out) fun q hq => by
          have h1 := HLD.out q hq
          exact far3 q (by omega) (by omega) (fun e => HKD.out q e hq)
        have hb2o : (Value.slice ao j co).ownBlock ≠ some b2 := fun e => by have := (HLT.out _ e).1; omega
        have hPo : (Value.slice ao j co).ownBlock ≠ some P := fun e => by have := (HLT.out _ e).1; omega
        have r1' : w3.cell? ⟨P, 2, none⟩ = some (.slice (some ⟨b2, o2, none⟩) K cd) := (World.cell?_of_block (a := ⟨P, 2, none⟩) (far3 P (by omega) hPC hPo)).trans r1
        have r3' : w3.cell? ⟨b2, o2 + k, none⟩ = some (.int .i64 dk) := (World.cell?_of_block (a := ⟨b2, o2 + k, none⟩) (far3 b2 (by omega) hb2'.2 hb2o)).trans r3
        have HGS := Lib.hid hgS
        have HBX3 := Lib.hid hbx3
        have HO3 := Lib.hid ho3
        have HOD3 := Lib.hid hod3
        have HF3 := Lib.hid far3
        clear hgS hbx3 ho3 hod3 far3 r1 r3 hwb s1 s1f y0 y1 y2 y3 y4 f0 f1 f2 f3 f4
        go_wp2_with fail
        change Code.wp _ ((regionOf 20 (Try.f11.body.getD .skip)).getD .skip) _ _ _
        refine dr20 _ _ _ _ _ _ _ _ _ _ _ _ _ _ _ _ _ _ _ _ _ _ _ _ _ _ _ _ _ _ _ _ _ _ _ _ _ _ _ _ _ _ _ _ _ _ _ _ _ _ _ _ _ _ _ _ _ _ _ _ _ _ _ _ _ _ _ _ _ _ _ _ _ _ _ _ _ _ _ _ _ _ _ _ _ _ _ _ _ _ _ _ _ _ _ _ _ _ _ _ w3 w0.heap.size P C k K b2 o2 cd j (by omega) hP hC hb2'.1 hPC hlt (by omega) dk adv cdv (ic ((ds.take k).eraseIdx nn)) x0 (.slice a5 (j + 1) c5) x3 x4 r1' r3' HBX3 HOD3 ?_
        refine Lib.hid ?_
        intro z0 z1 z2 z3 z4 z5 z6 z7 z8 z9 w4 v h1 h2 h3 h4 h5 h6 h7 h8
        have H1 := Lib.hid h1
        have H2 := Lib.hid h2
        have H3 := Lib.hid h3
        have HG4 : Hid (w0.grownBy w4 (some C)) := Lib.hid ⟨h5.trans HGS.out.os, h6.trans HGS.out.tape, h7.trans HGS.out.output, by omega, fun q hq hne => (h8 q (by omega) (fun e => hne (by rw [e])) (fun e => by have := (HLD.out q e).1; omega)).trans (HGS.out.block q hq hne)⟩
        have HF4 : Hid (∀ q, q < w1.heap.size → q ≠ C → (Value.slice ao j co).ownBlock ≠ some q → (Value.slice adv j cdv).ownBlock ≠ some q → w4.heap[q]? = w1.heap[q]?) := Lib.hid fun q hq hqC hqo hqd => (h8 q (by omega) hqC hqd).trans (HF3.out q hq hqC hqo)
        have HO4 : Hid (w4.ownsRow w0.heap.size 25 1 (.slice a5 (j + 1) c5) (j + 1) (us ++ [.slice a1 ns d1])) := Lib.hid (own_far HO3.out fun q hq => by
          have h9 := HO3.out.lt q hq
          refine h8 q h9.2 (by omega) fun e => ?_
          have h10 := HLD.out q e
          rcases E2.out with f | f
          · rw [f] at hq; exact HKD.out q hq e
          · rw [f] at hq; cases hq; omega)
        have hz4 : w3.heap.size ≤ w4.heap.size := h4
        clear h1 h2 h3 h4 h5 h6 h7 h8
        go_wp2_with fail
        go_roundw
        case rel =>
          have hG3 : ∀ b, (G b ∨ newOnes wr w1 b) → w0.heap.size ≤ b ∧ b < w4.heap.size ∧ (Value.slice a5 (j + 1) c5).ownBlock ≠ some b ∧ v.ownBlock ≠ some b := by
            rintro b (g | g)
            · obtain ⟨h1, h2, h3, h4⟩ := HG.out b g
              refine ⟨h1, by omega, fun e => ?_, fun e => ?_⟩
              · rcases E2.out with f | f
                · rw [f] at e; exact h3 e
                · rw [f] at e; cases e; omega
              · rcases H2.out with f | f
                · rw [f] at e; exact h4 e
                · have := f b e; omega
            · have g1 := g.1
              have g2 := g.2
              refine ⟨by omega, by omega, fun e => ?_, fun e => ?_⟩
              · rcases E2.out with f | f
                · rw [f] at e; have := HLT.out b e; omega
                · rw [f] at e; cases e; omega
              · rcases H2.out with f | f
                · rw [f] at e; have := HLD.out b e; omega
                · have := f b e; omega
          have hKD : ∀ b, (Value.slice a5 (j + 1) c5).ownBlock = some b → v.ownBlock ≠ some b := by
            intro b hb1 hb2
            have h9 := HO3.out.lt b hb1
            rcases H2.out with f | f
            · rw [f] at hb2
              have h10 := HLD.out b hb2
              rcases E2.out with f2 | f2
              · rw [f2] at hb1; exact HKD.out b hb1 hb2
              · rw [f2] at hb1; cases hb1; omega
            · have := f b hb2; omega
          have hag : ∀ H : Nat → Prop, (∀ b, H b → b < w1.heap.size ∧ (Value.slice ao j co).ownBlock ≠ some b ∧ (Value.slice adv j cdv).ownBlock ≠ some b ∧ b ≠ C) → Agree H w1 w4 := fun H hH b hb hlt => by
            obtain ⟨h1, h2, h3, h4⟩ := hH b hb
            exact HF4.out b h1 h4 h2 h3
          refine ⟨k + 1, j + 1, fun b => G b ∨ newOnes wr w1 b, _, _, _, by omega, by go_num, Lib.hid ?_, by omega, Lib.hid hG3, Lib.hid hKD, HO4, Lib.hid ?_, Lib.hid ?_, H3, HG4⟩
          · rw [era_next (d := []) HKL.out HQ.out, List.length_append, ← HJ.out]; rfl
          · rw [era_next (d := []) HKL.out HQ.out, ← HS.out]
            refine Ks.snoc (Ks.mono ((HKS.out.agree (Agree.below HB1.out G)).agree (hag G fun b g => ?_)) fun b h => .inl h) (RB.mono (RB.agree HR1.out (hag _ fun b g => ?_)) fun b h => .inr h)
            · obtain ⟨h1, h2, h3, h4⟩ := HG.out b g
              exact ⟨by omega, h3, h4, by omega⟩
            · have g1 := g.1
              have g2 := g.2
              exact ⟨g2, fun e => (by have := HLT.out b e; omega), fun e => (by have := HLD.out b e; omega), by omega⟩
          · rw [era_next (d := 0) HDL.out HQ.out, ic_app, ← HDK.out]
            exact H1.out
        case measure => simp [intOf] <;> omega
    · obtain rfl : K = k := by omega
      have e : ks.take K = ks := List.take_of_length_le (by rw [← HK.out]; exact Nat.le_refl _)
      have e' : ds.take K = ds := List.take_of_length_le (by rw [← HD.out]; exact Nat.le_refl _)
      have hJ := HJ.out
      rw [e] at HKS hJ
      rw [e'] at HOD
      have hj2 : j = (ds.eraseIdx nn).length := by have h9 := era_len (l := ks) (m := ds) (by rw [← HK.out, ← HD.out]) K nn; rw [e, e'] at h9; exact hJ.trans h9
      have hok := HOK.out
      have hod := HOD.out
      rw [hJ] at hok
      rw [hj2] at hod
      have HOK' := Lib.hid hok
      have HOD' := Lib.hid hod
      clear e e' hJ hj2 hok hod
      go_wp2_with fail
      exact hexit.out _ _ _ _ _ _ _ _ _ _ _ _ _ _ _ _ _ _ _ _ _ _ _ _ _ _ _ _ _ _ _ _ _ _ _ _ _ _ _ HG.out HOK'.out HKS.out HOD'.out HBX.out HGR.out
end Go.Proofs.Ytahammkjkfdmhaa
/- Plain trees: a key's page is found by looking at all pages. No program in sight. -/
namespace Go.Proofs.Ytahammkjkfdmhaa
set_option linter.unusedVariables false
set_option linter.unusedSimpArgs false
/-- A page of a tree that is a leaf is one of its leaves. -/
theorem leaf_page {ps : List Pg} : ∀ (h : Nat) (hi : Key) (rs : List Int) (t : Tb h), repT ps h hi rs t → ∀ i ∈ idsT h t, ∀ p, ps[i]? = some p → p.leaf = true →
    ∃ es : List (Key × Int), ((i, es) : Tb 0) ∈ leavesT h t ∧ p.keys = es.map (·.1) ∧ p.kids = es.map (·.2)
  | 0, hi, rs, t, hr, i, hi2, p, hp, hl => by
    have hi3 : i = t.1 := by simpa [idsT] using hi2
    subst hi3
    have e : ps[t.1]? = some _ := hr
    rw [e] at hp
    cases hp
    exact ⟨t.2, List.mem_singleton.2 rfl, rfl, rfl⟩
  | h + 1, hi, rs, t, hr, i, hi2, p, hp, hl => by
    have hi3 : i = t.1 ∨ i ∈ idsT h t.2.1 ++ (t.2.2.map fun x => idsT h x.2).flatten := List.mem_cons.1 hi2
    rcases hi3 with rfl | hi3
    · have e : ps[t.1]? = some _ := hr.1
      rw [e] at hp
      cases hp
      cases hl
    · have main : ∀ (l : List (Key × Tb h)) (c : Tb h) (hi : Key) (rs : List Int), repK (repT ps h) (spine h) hi rs c l → i ∈ idsT h c ++ (l.map fun x => idsT h x.2).flatten →
          ∃ es : List (Key × Int), ((i, es) : Tb 0) ∈ leavesT h c ++ (l.map fun x => leavesT h x.2).flatten ∧ p.keys = es.map (·.1) ∧ p.kids = es.map (·.2) := by
        intro l
        induction l with
        | nil =>
          intro c hi rs hr hm
          rw [List.map_nil, List.flatten_nil, List.append_nil] at hm ⊢
          exact leaf_page h hi rs c hr i hm p hp hl
        | cons x r ih =>
          obtain ⟨s, d⟩ := x
          intro c hi rs hr hm
          rw [List.map_cons, List.flatten_cons] at hm ⊢
          rcases List.mem_append.1 hm with hm | hm
          · obtain ⟨es, h1, h2⟩ := leaf_page h s (spine h d) c hr.1 i hm p hp hl
            exact ⟨es, List.mem_append_left _ h1, h2⟩
          · obtain ⟨es, h1, h2⟩ := ih d hi rs hr.2 hm
            exact ⟨es, List.mem_append_right _ h1, h2⟩
      exact main t.2.2 t.2.1 hi rs.tail hr.2 hi3
/-- In entries that rise, to leave a key out is to leave out the one at its place. -/
theorem off_at {k : Key} : ∀ {l : List (Key × Int)}, Rise l → ∀ n, (l.map (·.1))[n]? = some k → offE k l = l.eraseIdx n
  | [], _, n, h => by simp at h
  | e :: r, hr, 0, h => by
    have hr' := List.pairwise_cons.1 hr
    have hk : e.1 = k := by simpa using h
    have e1 : offE k (e :: r) = offE k r := by simp [offE, hk]
    rw [e1, List.eraseIdx_cons_zero]
    exact offE_same fun x hx => by
      have := hr'.1 x hx
      rw [hk] at this
      rintro rfl
      simp [bl_irr] at this
  | e :: r, hr, n + 1, h => by
    have hr' := List.pairwise_cons.1 hr
    have h' : (r.map (·.1))[n]? = some k := by simpa using h
    obtain ⟨x, hx, hxk⟩ : ∃ x ∈ r, x.1 = k := by
      have := List.mem_of_getElem? h'
      simpa using this
    have hne : ¬ e.1 = k := by
      have := hr'.1 x hx
      rw [hxk] at this
      rintro q
      rw [q] at this
      simp [bl_irr] at this
    have e1 : offE k (e :: r) = e :: offE k r := by simp [offE, hne]
    rw [e1, off_at hr'.2 n h', List.eraseIdx_cons_succ]
theorem map_eraseX {α β : Type} (f : α → β) : ∀ (l : List α) (i : Nat), (l.eraseIdx i).map f = (l.map f).eraseIdx i
  | [], _ => by simp
  | a :: l, 0 => by simp
  | a :: l, i + 1 => by simp [map_eraseX f l i]
/-- The page in which a key stands, left without it, is what deleting makes of the pages. -/
theorem del_page {T : Tr} {h : Nat} {t : Tb h} {k : Key} (hr : Reps T h t) {i n : Nat} {p : Pg} (hp : T.pages[i]? = some p) (hl : p.leaf = true) (hk : p.keys[n]? = some k) :
    takeP h T.pages t k = T.pages.set i ⟨p.leaf, p.keys.eraseIdx n, p.kids.eraseIdx n, p.high, p.next⟩ ∧ ∃ v, lookE k (entT h t) = some v := by
  obtain ⟨h1, h2, h3, h4⟩ := hr
  have hi : i < T.pages.length := (List.getElem?_eq_some_iff.1 hp).1
  have him : i ∈ idsT h t := h4.mem_iff.2 (List.mem_range.2 hi)
  obtain ⟨es, g1, g2, g3⟩ := leaf_page h [] [] t h2 i him p hp hl
  have hkm : ∃ x ∈ es, x.1 = k := by
    rw [g2] at hk
    have := List.mem_of_getElem? hk
    simpa using this
  obtain ⟨x, hx, hxk⟩ := hkm
  obtain ⟨a, b, e1, e2, e3⟩ := leaf_split h [] [] t k h3
  have hmem : x ∈ entL (leavesT h t) := by
    unfold entL
    exact List.mem_flatMap.2 ⟨_, g1, hx⟩
  have hlf : leafT h t k = (i, es) := by
    have g1' : ((i, es) : Tb 0) ∈ a ++ leafT h t k :: b := e1 ▸ g1
    have g2' : ((i, es) : Tb 0) ∈ a ∨ ((i, es) : Tb 0) = leafT h t k ∨ ((i, es) : Tb 0) ∈ b := (List.mem_append.1 g1').imp_right List.mem_cons.1
    rcases g2' with g1 | g1 | g1
    · have := e2 x (by unfold entL; exact List.mem_flatMap.2 ⟨_, g1, hx⟩)
      rw [hxk] at this
      simp [bl_irr] at this
    · exact g1.symm
    · have := e3 x (by unfold entL; exact List.mem_flatMap.2 ⟨_, g1, hx⟩)
      rw [hxk] at this
      simp [bl_irr] at this
  have hrise : Rise es := by
    have := ent_rise h [] [] t h3
    rw [← leaves_ent, e1, entL_app] at this
    have h5 := (List.pairwise_append.1 this).2.1
    have e4 : entL (leafT h t k :: b) = (leafT h t k).2 ++ entL b := by simp [entL]
    rw [e4, hlf] at h5
    exact (List.pairwise_append.1 h5).1
  refine ⟨?_, ?_⟩
  · unfold takeP
    rw [hlf]
    have hd : T.pages.getD i noPg = p := by rw [List.getD_eq_getElem?_getD, hp]; rfl
    rw [g2] at hk
    rw [hd, off_at hrise n hk, map_eraseX, map_eraseX, ← g2, ← g3, hl]
  · rw [leaves_ent] at hmem
    rcases hq : lookE k (entT h t) with _ | v
    · unfold lookE at hq
      rw [Option.map_eq_none_iff, List.find?_eq_none] at hq
      have := hq x hmem
      simp [hxk] at this
    · exact ⟨v, rfl⟩
/-- A key that stands in no leaf's page is not there. -/
theorem del_none {T : Tr} {h : Nat} {t : Tb h} {k : Key} (hr : Reps T h t) (hn : ∀ (i : Nat) (p : Pg), T.pages[i]? = some p → p.leaf = true → ∀ n : Nat, p.keys[n]? ≠ some k) : lookE k (entT h t) = none := by
  obtain ⟨h1, h2, h3, h4⟩ := hr
  unfold lookE
  rw [Option.map_eq_none_iff, List.find?_eq_none]
  intro e he
  rw [← leaves_ent] at he
  obtain ⟨lf, g1, g2⟩ := List.mem_flatMap.1 he
  have hch := leaves_chain h [] [] t h2
  obtain ⟨a, b, e1⟩ := List.append_of_mem g1
  rw [e1, chain_app] at hch
  obtain ⟨hi, g3⟩ := hch.2.1
  intro hk
  have hk : e.1 = k := by simpa using hk
  obtain ⟨n, hlt, hnn⟩ := List.getElem_of_mem g2
  refine hn lf.1 _ g3 rfl n ?_
  simp [List.getElem?_eq_getElem hlt, hnn, hk]
end Go.Proofs.Ytahammkjkfdmhaa
