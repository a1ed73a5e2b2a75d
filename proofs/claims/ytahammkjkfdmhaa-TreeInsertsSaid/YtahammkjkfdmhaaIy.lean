/- The entries of a leaf. -/
import Derived.Test.YtahammkjkfdmhaaIx
import Derived.Test.YtahammkjkfdmhaaIw
import Derived.Deep.RegionWith
import Derived.Deep.AppendLies
namespace Go.Proofs.Ytahammkjkfdmhaa
open Go.ChangeShapes Go.WideShapes Go.ChangeAt Go.RowKit
set_option linter.unusedVariables false
set_option linter.unusedSimpArgs false
set_option maxHeartbeats 4000000
set_option maxRecDepth 100000
def EntsIs (es : List (Key × Int)) (w : World) (e : Ending) (w' : World) : Prop := ∃ v cs, e = .returned v ∧ w'.ownsRow w.heap.size 66 2 v es.length cs ∧ EntC w' (KeyOn w.heap.size w' v) cs es ∧ Below w.heap.size w w' ∧ (es = [] → v = .slice none 0 0)
theorem ents_leaf (w : World) (ok : Nat → Prop) (hok : ∀ b, ok b → b < w.heap.size) (tv : Value) (T : Tr) (ht : RT w ok tv T) (i : Nat) (es : List (Key × Int)) (hi : Key) (nx : Int) (hpg : T.pages[i]? = some ⟨true, es.map (·.1), es.map (·.2), hi, nx⟩) (hl4 : es.length ≤ 1000000) (hk4 : ∀ e ∈ es, e.1.length ≤ 1000) (hn4 : T.pages.length ≤ 4000) :
    Calls Try.prog 53 #[tv, .int .i64 (i : Int)] w (EntsIs es w) := by
  obtain ⟨ao, cap, kf, df, gf, rfl, g1, g2, g3⟩ := pagesF ht
  have hil : i < T.pages.length := (List.getElem?_eq_some_iff.1 hpg).1
  obtain ⟨N, hNN⟩ : ∃ N, N = T.pages.length := ⟨_, rfl⟩
  rw [← hNN] at g1 g3 hil hn4
  rw [← hNN]
  obtain ⟨b0, o0, rfl, hb0, hok0, hpa⟩ := g3 i hil
  rw [getD_of hpg] at hpa
  obtain ⟨ak, ck, ad, cd, ag, cg, x1, x2, x3⟩ := page_box hpa
  rw [x1, x2, x3] at hpa
  obtain ⟨a1, a2, a3, a4, a5, a6, a7, a8⟩ := hpa
  simp only [List.length_map] at a1 a2 a3 a4 a5 a6 a7
  obtain ⟨m, hm⟩ : ∃ m, m = es.length := ⟨_, rfl⟩
  obtain ⟨Kg, hKg⟩ : ∃ K, K = hi.length := ⟨_, rfl⟩
  rw [← hm] at a2 a3 a6 a7 hl4
  rw [← hKg] at a4
  have HPG := Lib.hid hpg
  have HM := Lib.hid hm
  have A6 := Lib.hid a6
  have A7 := Lib.hid a7
  have A8 := Lib.hid a8
  have HT := Lib.hid ht
  have HNN := Lib.hid hNN
  have HKG := Lib.hid hKg
  unfold maxLen at g2
  clear hpg hm a6 a7 a8 ht hNN hKg x1 x2 x3 g3
  go_enter Try.func53, Try.ntmps53
  go_wp2_with fail
  obtain ⟨W2, hW2⟩ : ∃ W2, W2 = (w.alloc (.cells #[.slice (some ⟨b0, o0, none⟩) N cap, .int .i64 T.root] 24)).alloc (.cells #[.bool true, .slice ak m ck, .slice ad m cd, .slice ag Kg cg, .int .i64 nx] 43) := ⟨_, rfl⟩
  have hbW : Below w.heap.size w W2 := by rw [hW2]; exact ((Below.refl _ _).alloc (Nat.le_refl _) _).alloc (by simp) _
  have hzW : W2.heap.size = w.heap.size + 2 := by rw [hW2]; simp
  have hpW : W2.heap[w.heap.size + 1]? = some (.cells #[.bool true, .slice ak m ck, .slice ad m cd, .slice ag Kg cg, .int .i64 nx] 43 (0, 0)) := by rw [hW2]; exact new1 _ _ _
  rw [← hW2]
  have HBW := Lib.hid hbW
  have HPW := Lib.hid hpW
  clear hW2 hbW hpW a1 a2 a3 a4 a5
  go_loopw [6, 7] (fun v ji wr => ∃ (j : Nat) (cs : List Value), j ≤ m ∧ ji = .int .i64 (j : Int) ∧ Hid (wr.ownsRow W2.heap.size 66 2 v j cs) ∧ Hid (EntC wr (KeyOn W2.heap.size wr v) cs (es.take j)) ∧ Hid (Below W2.heap.size W2 wr) ∧ Hid (j = 0 → v = .slice none 0 0)) (fun _ ji _ => m - (intOf ji).toNat)
  case atStart => exact ⟨0, [], by omega, rfl, World.ownsRow_nil _ _ _ _, by show EntC _ _ [] (es.take 0); rw [List.take_zero]; trivial, Below.refl _ _, fun _ => rfl⟩
  case round =>
    obtain ⟨j, cs, hj, rfl, HO, HE, HBL, HNIL⟩ := hrel
    have hwz := HBL.out.size
    have hpr := (HBL.out.block _ (by omega)).trans HPW.out
    have p0 : wr.cell? ⟨w.heap.size + 1, 0, none⟩ = some (.bool true) := by simp [World.cell?, hpr]
    have p1 : wr.cell? ⟨w.heap.size + 1, 1, none⟩ = some (.slice ak m ck) := by simp [World.cell?, hpr]
    have p2 : wr.cell? ⟨w.heap.size + 1, 2, none⟩ = some (.slice ad m cd) := by simp [World.cell?, hpr]
    have HPR := Lib.hid hpr
    clear hpr
    by_cases hlt : j < m
    · obtain ⟨ko, kcap, kf2, kq, _, _, kc⟩ := keysF ((A6.out.below HBW.out).below HBL.out)
      obtain ⟨eo, ecap, eq_, _, _, ec⟩ := intsF ((A7.out.below HBW.out).below HBL.out)
      obtain ⟨kb, koff, hak, hkb, hokk, kcell, hrb⟩ := kc j (by rw [List.length_map, ← HM.out]; exact hlt)
      obtain ⟨db, doff, had, hdb, hokd, dcell⟩ := ec j (by rw [List.length_map, ← HM.out]; exact hlt)
      simp only [Value.slice.injEq] at kq eq_
      obtain ⟨rfl, -, rfl⟩ := kq
      obtain ⟨rfl, -, rfl⟩ := eq_
      subst hak had
      have hkw := hok kb hokk
      have hdw := hok db hokd
      have hje : j < es.length := by rw [← HM.out]; exact hlt
      obtain ⟨e, he⟩ : ∃ e, e = es[j] := ⟨_, rfl⟩
      have e1 : (es.map (·.1)).getD j [] = e.1 := by rw [he]; simp [List.getD, hje]
      have e2 : (es.map (·.2)).getD j 0 = e.2 := by rw [he]; simp [List.getD, hje]
      have hkl := hk4 e (by rw [he]; exact List.getElem_mem hje)
      have htk : es.take (j + 1) = es.take j ++ [e] := by rw [he]; exact List.take_succ_eq_append_getElem hje
      rw [e1] at hrb
      rw [e2] at dcell
      obtain ⟨sa, sc, hkf⟩ := hrb.sh
      rw [hkf] at kcell hrb
      obtain ⟨ek, ev⟩ := e
      simp only at hrb hkl dcell
      obtain ⟨ns, hns⟩ : ∃ n, n = ek.length := ⟨_, rfl⟩
      have cc : ∀ W : World, Below wr.heap.size wr W → Calls Try.prog 28 #[.slice sa ek.length sc] W fun e w' => ∃ av nv cv, e = .returned (.slice av nv cv) ∧ RB w' (newOnes W w') (.slice av nv cv) ek ∧ Below W.heap.size W w' := fun W hW =>
        (bcopy_any W ok _ ek (hrb.below hW) (by omega)).mono fun e w' ⟨v', h1, h2, h3⟩ => by
          obtain ⟨a, c, rfl⟩ := h2.sh
          exact ⟨a, _, c, h1, h2, h3⟩
      rw [← hns] at kcell cc
      have CC := Lib.hid cc
      have HTK := Lib.hid htk
      have HBD : Hid (Below wr.heap.size wr wr.drew) := Lib.hid ((Below.refl _ _).drew)
      clear e1 e2 htk hrb hkf cc hns he kc ec hje hkl
      go_wp2_with fail
      obtain ⟨i9, hi0, hz0, hz1, hz2⟩ := info_parts Try.info66
      go_region_held3 (fun wx => wx.cell? ⟨w.heap.size + 1, 1, none⟩ = some (.slice (some ⟨kb, koff, none⟩) m ck) ∧ wx.cell? ⟨w.heap.size + 1, 2, none⟩ = some (.slice (some ⟨db, doff, none⟩) m cd) ∧ wx.cell? ⟨kb, koff + j, none⟩ = some (.slice sa ns sc) ∧ wx.cell? ⟨db, doff + j, none⟩ = some (.int .i64 ev))
        ((first
          | (with_reducible exact ⟨cell_dr p1, cell_dr p2, cell_dr kcell, cell_dr dcell⟩)
          | (with_reducible exact ⟨cell_of_below hb2 (cell_dr p1), cell_of_below hb2 (cell_dr p2), cell_of_below hb2 (cell_dr kcell), cell_of_below hb2 (cell_dr dcell)⟩)
          | (with_reducible exact ⟨cell_al _ (cell_of_below hb2 (cell_dr p1)), cell_al _ (cell_of_below hb2 (cell_dr p2)), cell_al _ (cell_of_below hb2 (cell_dr kcell)), cell_al _ (cell_of_below hb2 (cell_dr dcell))⟩)
          | exact ⟨(hb4.cell (by show w.heap.size + 1 < _; omega)).trans p1, (hb4.cell (by show w.heap.size + 1 < _; omega)).trans p2, (hb4.cell (by show kb < _; omega)).trans kcell, (hb4.cell (by show db < _; omega)).trans dcell⟩))
        ((first
          | (go_at_call 28; ((with_reducible refine (CC.out wr.drew HBD.out).mono ?_); rintro e w2 ⟨av, nv, cv, rfl, hr2, hb2⟩))
          | (refine step_append_lies _ (by rfl) _ _ _ (by rfl) W2.heap.size 66 i9 _ 2 32 Try.underlying63 hi0 hz0 hz1 hz2 rfl (by omega) u6 j cs (by rfl) ((own_below HO.out (into HBD.out hb2)).alloc _) ⟨w2.heap.size, 0, none⟩ 1 1 [.slice av nv cv, .int .i64 ev] (by rfl) (by rfl) (new_cells w2 _ _) (by intro u hu; simp at hu; rcases hu with rfl | rfl <;> rfl) (by omega) (by unfold maxLen; omega) (by omega) (by have := (into HBD.out hb2).size; simp; omega) (w2.heap.size + 1) (by simp) ?_; intro gg cap1 w4 hown4 hgrow hat4 hlt4; have hb4 : Below W2.heap.size wr w4 := ((into HBD.out hb2).mono hwz).trans ((Below.refl _ w2).grown ((World.grownBy_alloc w2 _ _).trans hgrow) (by have := (into HBD.out hb2).size; omega) (own_ge (own_below HO.out (into HBD.out hb2)))))))
      have HO4 := Lib.hid hown4
      have HB4 := Lib.hid hb4
      have HG4 := Lib.hid (And.intro hgrow (And.intro hat4 hlt4))
      have HR2 := Lib.hid (((hr2.below ((Below.refl _ _).alloc (Nat.le_refl _) (.cells #[.slice av nv cv, .int .i64 ev] 66)))))
      have HBI := Lib.hid (into HBD.out hb2)
      go_wp2_with fail
      go_roundw
      case rel =>
        refine ⟨j + 1, cs ++ [.slice av nv cv, .int .i64 ev], by omega, by go_num, HO4, ?_, Lib.hid (HBL.out.trans HB4.out), Lib.hid (fun h => by omega)⟩
        have hz2 := HBI.out.size
        have hg := (World.grownBy_alloc w2 (.cells #[.slice av nv cv, .int .i64 ev] 66) u6.ownBlock).trans HG4.out.1
        have hg2 := hg.size
        have hown := HO.out
        have hat := HG4.out.2.1
        have hlt4' := HG4.out.2.2
        show EntC w4 _ _ _
        rw [HTK.out]
        refine EntC.app ?_ (EntC.single ?_)
        · refine EntC.mono (EntC.agree (HE.out.below HBI.out) fun b hb hlt => ?_) fun b hb => ?_
          · exact hg.block b hlt hb.2.2
          · refine ⟨hb.1, by omega, fun e => ?_⟩
            have e9 : b = gg := Option.some.inj e
            rcases hat with h | h
            · exact hb.2.2 (by rw [h, e9])
            · omega
        · refine RB.mono (RB.agree hr2 fun b hb hlt => ?_) fun b hb => ?_
          · exact hg.block b hlt (fun e => by have := (hown.lt b e.symm).2; have := hb.1; simp at this; omega)
          · have h1 := hb.1
            simp at h1
            refine ⟨by omega, by omega, fun e => ?_⟩
            have e9 : b = gg := Option.some.inj e
            rcases hat with h | h
            · have := (hown.lt gg h).2
              omega
            · omega
      case measure => simp [intOf]; omega
    · obtain rfl : j = m := by omega
      go_wp2_with fail
      go_ret
      refine ⟨_, cs, rfl, ?_, ?_, into HBW.out HBL.out, fun h => HNIL.out (by rw [HM.out, h]; rfl)⟩
      · rw [← HM.out]
        exact own_mono HO.out (by omega)
      · have := HE.out
        rw [HM.out, List.take_length] at this
        exact this.mono fun b hb => ⟨by omega, hb.2⟩
end Go.Proofs.Ytahammkjkfdmhaa
