/- The document's copy of a tree: its row of pages is the copy's own. -/
import Derived.Test.YtahammkjkfdmhaaIr
import Derived.Test.YtahammkjkfdmhaaTn
namespace Go.Proofs.Ytahammkjkfdmhaa
open Go.ChangeShapes Go.WideShapes Go.ChangeAt Go.RowKit
set_option linter.unusedVariables false
set_option linter.unusedSimpArgs false
set_option maxHeartbeats 4000000
set_option maxRecDepth 1000000
/-- A tree whose row of pages is owned; what the pages lead to lies elsewhere, and reads. -/
def CTr (w : World) (B : Nat) (tv : Value) (T : Tr) : Prop := ∃ (a : Option Addr) (c : Nat) (vs : List Value), tv = .agg #[.slice a T.pages.length c, .int .i64 T.root] ∧ w.ownsRow B 43 5 (.slice a T.pages.length c) T.pages.length vs ∧
  RPs w (fun b => B ≤ b ∧ b < w.heap.size ∧ (Value.slice a T.pages.length c).ownBlock ≠ some b) vs T.pages
theorem treeCopy_own (w : World) (ok : Nat → Prop) (hok : ∀ b, ok b → b < w.heap.size) (tv : Value) (T : Tr) (ht : RT w ok tv T) (hcp : Cpy T) :
    Calls Try.prog 12 #[tv] w fun e w' => ∃ v' B, e = .returned v' ∧ w.heap.size + 3 ≤ B ∧ B ≤ w'.heap.size ∧ CTr w' B v' T ∧ Below w.heap.size w w' := by
  obtain ⟨ap, cp, kf, df, gf, rfl, g1, g2, g3⟩ := pagesF ht
  obtain ⟨NP, hNP⟩ : ∃ N, N = T.pages.length := ⟨_, rfl⟩
  obtain ⟨hc1, hc2⟩ := hcp
  rw [← hNP] at g1 g3 hc1
  rw [← hNP]
  obtain ⟨rt, hrt⟩ : ∃ rt : Int, rt = T.root := ⟨_, rfl⟩
  rw [← hrt]
  have HNP := Lib.hid hNP
  have HRT := Lib.hid hrt
  have HP := Lib.hid g3
  have HC := Lib.hid hc2
  unfold maxLen at g2
  clear hNP hrt g3 hc2 ht
  go_enter Try.func12, Try.ntmps12
  go_wp2
  obtain ⟨W0, hW0⟩ : ∃ W0 : World, W0 = ((w.alloc (.cells #[.slice ap NP cp, .int .i64 rt] 24)).alloc (.cells #[.slice none 0 0, .int .i64 0] 24)).alloc (.cells #[.slice none 0 0, .int .i64 rt] 24) := ⟨_, rfl⟩
  have hB0 : Below w.heap.size w W0 := by rw [hW0]; go_grown
  have hz0 : W0.heap.size = w.heap.size + 3 := by rw [hW0]; simp
  have b2 : W0.heap[w.heap.size + 1 + 1]? = some (.cells #[.slice none 0 0, .int .i64 rt] 24 (0, 0)) := by rw [hW0]; exact new2 _ _ _ _
  have hb21 : Below ((w.alloc (.cells #[.slice ap NP cp, .int .i64 rt] 24)).alloc (.cells #[.slice none 0 0, .int .i64 0] 24)).heap.size ((w.alloc (.cells #[.slice ap NP cp, .int .i64 rt] 24)).alloc (.cells #[.slice none 0 0, .int .i64 0] 24)) W0 := by rw [hW0]; exact (Below.refl _ _).alloc (Nat.le_refl _) _
  have hb20 : Below (w.alloc (.cells #[.slice ap NP cp, .int .i64 rt] 24)).heap.size (w.alloc (.cells #[.slice ap NP cp, .int .i64 rt] 24)) ((w.alloc (.cells #[.slice ap NP cp, .int .i64 rt] 24)).alloc (.cells #[.slice none 0 0, .int .i64 0] 24)) := (Below.refl _ _).alloc (Nat.le_refl _) _
  have b1 : W0.heap[w.heap.size + 1]? = some (.cells #[.slice none 0 0, .int .i64 0] 24 (0, 0)) := (hb21.block _ (by simp)).trans (new1 _ _ _)
  have b0 : W0.heap[w.heap.size]? = some (.cells #[.slice ap NP cp, .int .i64 rt] 24 (0, 0)) := (hb21.block _ (by simp; omega)).trans ((hb20.block _ (by simp)).trans (new0 _ _))
  rw [← hW0]
  have HB0 := Lib.hid hB0
  have B2 := Lib.hid b2
  have B1 := Lib.hid b1
  have BX := Lib.hid b0
  clear hW0 hB0 hb21 hb20 b0 b1 b2
  go_loopw [4] (fun v wr => ∃ (k : Nat) (ao : Option Addr) (co : Nat) (vs : List Value) (G : Nat → Prop), k ≤ NP ∧ v = .int .i64 (k : Int) ∧ wr.heap[w.heap.size + 1 + 1]? = some (.cells #[.slice ao k co, .int .i64 rt] 24 (0, 0)) ∧ wr.ownsRow (w.heap.size + 3) 43 5 (.slice ao k co) k vs ∧ RPs wr G vs (T.pages.take k) ∧ (∀ b, G b → b < wr.heap.size ∧ (Value.slice ao k co).ownBlock ≠ some b ∧ w.heap.size + 3 ≤ b) ∧ W0.grownBy wr (some (w.heap.size + 1 + 1))) (fun v _ => NP - (intOf v).toNat)
  case atStart => exact ⟨0, none, 0, [], fun _ => False, by omega, rfl, B2.out, World.ownsRow_nil _ _ _ _, ⟨by simp, fun i p h => by simp at h⟩, fun b h => h.elim, World.grownBy.refl _ _⟩
  case round =>
    obtain ⟨k, ao, co, vs, G, hk, rfl, hbo, hown, hps, hG, hgr⟩ := hrel
    have hz := hgr.size
    have hB : Below w.heap.size w wr := HB0.out.trans (bt_old hgr (by omega) (by omega))
    have hbX := (hgr.block w.heap.size (by omega) (fun e => by have := Option.some.inj e; omega)).trans BX.out
    have hbR := (hgr.block (w.heap.size + 1) (by omega) (fun e => by have := Option.some.inj e; omega)).trans B1.out
    have HBO := Lib.hid hbo
    have HOWN := Lib.hid hown
    have HPS := Lib.hid hps
    have HG := Lib.hid hG
    have HGR := Lib.hid hgr
    have HB := Lib.hid hB
    have x0 := (box2I hbX).1
    have HBR := Lib.hid hbR
    clear hbo hown hps hG hgr hB hbR hbX
    by_cases hlt : k < NP
    · obtain ⟨bp, op, rfl, _, hokb, hpa⟩ := HP.out k hlt
      have hkl : k < T.pages.length := by rw [← HNP.out]; exact hlt
      obtain ⟨s1, s2, s3, s4⟩ := HC.out _ (page_mem hkl)
      have HKL := Lib.hid hkl
      clear hkl
      change Code.wp _ (loopAt Try.f12 0) _ _ _
      refine rndC _ wr (w.heap.size + 3) w.heap.size (w.heap.size + 1 + 1) ok (fun b hb => by have := hok b hb; omega) (by omega) (by omega) (by omega) (by omega) k NP bp op cp (kf k) (df k) (gf k) (T.pages.getD k noPg) rt hlt hc1 hokb x0 (hpa.below HB.out) s1 s2 s3 s4 ao co vs HBO.out HOWN ?_
      refine Lib.hid ?_
      iterate 67 intro _
      intro w2 v cs t1 t2 t3 t4 t5 t6 t7 t8 t9 t10
      obtain ⟨_, a9, c9, rfl, _⟩ := Rd.own t1
      have hg2 : W0.grownBy w2 (some (w.heap.size + 1 + 1)) := ⟨t7.trans HGR.out.os, t8.trans HGR.out.tape, t9.trans HGR.out.output, by omega, fun q hq hne => (t10 q (by omega) (fun e => hne (by rw [e])) (fun e => by have := (HOWN.out.lt q e).1; omega)).trans (HGR.out.block q hq hne)⟩
      have hps2 : RPs w2 (fun b => G b ∨ (wr.heap.size ≤ b ∧ b < w2.heap.size ∧ (Value.slice a9 (k + 1) c9).ownBlock ≠ some b)) (vs ++ cs) (T.pages.take (k + 1)) := by
        rw [take_nextG (d := noPg) HKL.out]
        refine RPs.snoc (RPs.mono (HPS.out.agree fun b g hlt => t10 b hlt (by have := (HG.out b g).2.2; omega) (HG.out b g).2.1) fun b g => .inl g) ?_ t2
        exact t3.mono fun b g => .inr g
      have hG2 : ∀ b, (G b ∨ (wr.heap.size ≤ b ∧ b < w2.heap.size ∧ (Value.slice a9 (k + 1) c9).ownBlock ≠ some b)) → b < w2.heap.size ∧ (Value.slice a9 (k + 1) c9).ownBlock ≠ some b ∧ w.heap.size + 3 ≤ b := by
        rintro b (g | g)
        · obtain ⟨g1, g2, g3⟩ := HG.out b g
          refine ⟨by omega, fun e => ?_, g3⟩
          rcases t4 with f | f
          · rw [f] at e; exact g2 e
          · have := f b e; omega
        · exact ⟨g.2.1, g.2.2, by have := g.1; omega⟩
      have T1 := Lib.hid t1
      have T5 := Lib.hid t5
      have HG2 := Lib.hid hG2
      have HPS2 := Lib.hid hps2
      have HGR2 := Lib.hid hg2
      clear t1 t2 t3 t4 t5 t6 t7 t8 t9 t10 hg2 hps2 hG2
      go_roundw
      case rel => refine ⟨_, _, _, _, _, _, _, _, _, _, _, _, _, _, _, _, _, _, _, _, _, _, _, _, _, _, _, _, _, _, _, _, _, _, _, _, _, _, _, _, _, _, _, _, _, _, _, _, _, _, _, _, _, _, _, _, _, _, _, _, _, _, _, _, _, _, _, _, ⟨k + 1, a9, c9, _, _, by omega, by go_num, T5.out, T1.out, HPS2.out, HG2.out, HGR2.out⟩, rfl⟩
      case measure => simp [intOf] <;> omega
    · obtain rfl : NP = k := by omega
      have e : T.pages.take NP = T.pages := List.take_of_length_le (by rw [← HNP.out]; exact Nat.le_refl _)
      rw [e] at HPS
      obtain ⟨o0, o1, _, _⟩ := box2I HBO.out
      obtain ⟨r0, r1, r2, r3⟩ := box2I HBR.out
      have HE := Lib.hid e
      clear e
      go_wp2
      have h51 : (wr.setCell ⟨w.heap.size + 1, 0, none⟩ (.slice ao NP co)).heap[w.heap.size + 1]? = some (.cells #[.slice ao NP co, .int .i64 0] 24 (0, 0)) := by rw [Lib.heap_setCell_same HBR.out]; rfl
      have h61 : ((wr.setCell ⟨w.heap.size + 1, 0, none⟩ (.slice ao NP co)).setCell ⟨w.heap.size + 1, 1, none⟩ (.int .i64 rt)).heap[w.heap.size + 1]? = some (.cells #[.slice ao NP co, .int .i64 rt] 24 (0, 0)) := by rw [Lib.heap_setCell_same h51]; rfl
      have hf6 : ∀ b, b ≠ w.heap.size + 1 → ((wr.setCell ⟨w.heap.size + 1, 0, none⟩ (.slice ao NP co)).setCell ⟨w.heap.size + 1, 1, none⟩ (.int .i64 rt)).heap[b]? = wr.heap[b]? := fun b hb => (Below.heap_setCell _ _ _ _ hb).trans (Below.heap_setCell _ _ _ _ hb)
      have hz6 : ((wr.setCell ⟨w.heap.size + 1, 0, none⟩ (.slice ao NP co)).setCell ⟨w.heap.size + 1, 1, none⟩ (.int .i64 rt)).heap.size = wr.heap.size := by simp
      have hB6 : Below w.heap.size w ((wr.setCell ⟨w.heap.size + 1, 0, none⟩ (.slice ao NP co)).setCell ⟨w.heap.size + 1, 1, none⟩ (.int .i64 rt)) := (HB.out.setCell (p := ⟨w.heap.size + 1, 0, none⟩) (by show w.heap.size ≤ w.heap.size + 1; omega) _).setCell (p := ⟨w.heap.size + 1, 1, none⟩) (by show w.heap.size ≤ w.heap.size + 1; omega) _
      have ho6 := (HOWN.out.kept (bt_set _ (w.heap.size + 1) 0 (.slice ao NP co)) (.inr fun e => by have := (HOWN.out.lt _ e).1; omega))
      have ho7 := ho6.kept (bt_set _ (w.heap.size + 1) 1 (.int .i64 rt)) (.inr fun e => by have := (ho6.lt _ e).1; omega)
      generalize ((wr.setCell ⟨w.heap.size + 1, 0, none⟩ (.slice ao NP co)).setCell ⟨w.heap.size + 1, 1, none⟩ (.int .i64 rt)) = W6 at *
      obtain ⟨q0, q1, _, _⟩ := box2I h61
      refine bodyPost_ret (v := .agg #[.slice ao NP co, .int .i64 rt]) (by simp [results, Try.results12, go_sem, q0, q1]; try rfl) rfl ⟨_, w.heap.size + 3, rfl, Nat.le_refl _, by omega, ⟨ao, co, vs, by rw [HRT.out, ← HNP.out], by rw [← HNP.out]; exact ho7, ?_⟩, hB6⟩
      rw [← HNP.out]
      refine RPs.mono (HPS.out.agree fun b g hlt => hf6 b (by have := (HG.out b g).2.2; omega)) fun b g => ?_
      have g1 := (HG.out b g).1
      have g2 := (HG.out b g).2
      exact ⟨g2.2, by omega, g2.1⟩
/-- A page of such a tree replaced. -/
theorem RPs.put {w : World} {ok : Nat → Prop} {vs vs' : List Value} {ps : List Pg} {i : Nat} {p : Pg} {cs : List Value} (h : RPs w ok vs ps) (hi : i < ps.length) (hl : vs'.length = vs.length)
    (hf : ∀ j, (j < i * 5 ∨ i * 5 + 5 ≤ j) → vs'[j]? = vs[j]?) (hc : (vs'.drop (i * 5)).take 5 = cs) (hp : RP w ok cs p) : RPs w ok vs' (ps.set i p) := by
  refine ⟨by rw [hl, h.1, List.length_set], fun m q hq => ?_⟩
  by_cases g : m = i
  · subst g
    rw [List.getElem?_set_self hi] at hq
    cases hq
    rw [hc]
    exact hp
  · rw [List.getElem?_set_ne (fun e => g e.symm)] at hq
    have h2 := h.2 m q hq
    have e : (vs'.drop (m * 5)).take 5 = (vs.drop (m * 5)).take 5 := by
      apply List.ext_getElem?
      intro j
      rw [List.getElem?_take, List.getElem?_take]
      split
      · rw [List.getElem?_drop, List.getElem?_drop]
        exact hf _ (by omega)
      · rfl
    rw [e]
    exact h2
end Go.Proofs.Ytahammkjkfdmhaa
