/- A key put in: the program answers as the document does, at every tree, every key and every row, and changes no tree. No condition. -/
import Derived.Test.YtahammkjkfdmhaaB2
import Derived.Test.YtahammkjkfdmhaaYt
namespace Go.Proofs.Ytahammkjkfdmhaa.lTreeInserts
open Go.ChangeShapes Go.WideShapes Go.ChangeAt Go.RowKit Go.Joins
open Go.ChangeMaps (open_string shut_string)
set_option linter.unusedVariables false
set_option linter.unusedSimpArgs false
set_option maxHeartbeats 400000

set_option maxRecDepth 100000 in
set_option maxHeartbeats 8000000 in
theorem walk (W : World) (tv : Value) (T : Tr) (hT : InT W tv T) (n : Nat) (kv : Value) (l : List UInt8) (hr : Rd W 1 n kv (bc l)) (hz : n * 1 ≤ 140737488351232) (row : Int) (wrow : (Lit.int .i64 row).wf = true) :
    Calls Try.prog 3 #[tv, kv, .int .i64 row] W fun e w' => e = .returned (.bool true) ∧ Below W.heap.size W w' := by
  obtain ⟨ht, hcp, hsz, hrr, -⟩ := hT
  have hnl := len_b hr
  obtain ⟨a1, n1, c1, rfl⟩ := rt_shape ht
  obtain ⟨G, c, hpr, hdo⟩ := ins_both (T := T) l row ⟨hsz, hrr⟩ hcp
  have HT := Lib.hid ht
  have HK := Lib.hid hr
  have HPR := Lib.hid hpr
  have HDO := Lib.hid hdo
  have HCP := Lib.hid hcp
  have HNL := Lib.hid hnl
  clear hpr hdo hcp hnl ht hr
  go_enter Try.func3, Try.ntmps3
  go_wp2_with fail
  have hb0 : Below W.heap.size W (W.alloc (.cells #[.slice a1 n1 c1, .int .i64 T.root] 24)) := bel_al _ _
  have x0 : (W.alloc (.cells #[.slice a1 n1 c1, .int .i64 T.root] 24)).heap[W.heap.size]? = some (.cells #[.slice a1 n1 c1, .int .i64 T.root] 24 (0, 0)) := new0 _ _
  refine (trees_any _ (old W) (fun b hb => by have h1 : b < W.heap.size := hb; simp; omega) _ T (HT.out.below hb0) HCP.out).mono ?_
  rintro e w2 ⟨v2, rfl, hr2, hb2⟩
  obtain ⟨a2, n2, c2, rfl⟩ := rt_shape hr2
  have z2 := hb2.size
  simp only [World.size_alloc] at z2
  obtain ⟨W2, hW2⟩ : ∃ W2 : World, W2 = w2.alloc (.cells #[.slice a2 n2 c2, .int .i64 T.root] 24) := ⟨_, rfl⟩
  obtain ⟨B2, hB2⟩ : ∃ B2, B2 = w2.heap.size := ⟨_, rfl⟩
  have hb3 : Below w2.heap.size w2 W2 := by rw [hW2]; exact bel_al _ _
  have HB2 := Lib.hid (into (into hb0 hb2) hb3)
  have HR2 := Lib.hid ((hr2.below hb3).mono (ok' := fun b => b < W2.heap.size) (fun b hb => by have h1 : b < w2.heap.size := hb.2; have := hb3.size; omega))
  have HX2 := Lib.hid ((hb3.block W.heap.size (by omega)).trans ((hb2.block W.heap.size (by simp)).trans x0))
  have HY2 := Lib.hid (show W2.heap[B2]? = some (.cells #[.slice a2 n2 c2, .int .i64 T.root] 24 (0, 0)) by rw [hW2, hB2]; exact new0 _ _)
  have HW2 := Lib.hid (And.intro hW2 hB2)
  have z3 : W.heap.size < W2.heap.size := by have := hb3.size; omega
  clear hb0 x0 hr2 hb2 hb3 z2 hW2 hB2
  go_wp2_with fail
  rw [← HW2.out.1, ← HW2.out.2]
  obtain ⟨k0, k1, -⟩ := box2 HY2.out
  refine wpT_begin2 (S := (fun wx => wx.cell? ⟨B2, 0, none⟩ = some (.slice a2 n2 c2) ∧ wx.cell? ⟨B2, 1, none⟩ = some (.int .i64 T.root) ∧ Below W2.heap.size W2 wx)) [9] (by kernel_rfl) ?_ (fun Wd hHeld => ?_)
  · (try dsimp only)
    exact ⟨cell_dr k0, cell_dr k1, (Below.refl _ _).drew⟩
  have hbd := hHeld.2.2
  refine wpAnyT_take (i := 0) (oi := _) (v := ?_) rfl (by kernel_rfl) (by kernel_rfl) (by kernel_rfl) (by kernel_rfl) (fun _ _ _ h => h) (Or.inl ⟨by rfl, ?_⟩) (by assumption) ?_
  rotate_left
  · (intro w hSw; (try dsimp only at hSw); go_simp)
    all_goals (with_reducible rfl)
  (try simp only [List.getElem_toArray, List.getElem_cons_zero, List.getElem_cons_succ, Act.put, List.setIfInBounds_toArray, List.set_cons_zero, List.set_cons_succ])
  refine wpAnyT_pure (i := 1) (oi := _) (v := ?_) rfl (by kernel_rfl) (by kernel_rfl) (by kernel_rfl) (by kernel_rfl) (fun _ _ _ h => h) (Or.inl ⟨by rfl, ?_⟩) (fun _ => by assumption) ?_
  rotate_left
  · (intro w hSw; go_simp)
    all_goals (with_reducible rfl)
  (try simp only [List.getElem_toArray, List.getElem_cons_zero, List.getElem_cons_succ, Act.put, List.setIfInBounds_toArray, List.set_cons_zero, List.set_cons_succ])
  refine wpAnyT_pure (i := 3) (oi := _) (v := ?_) rfl (by kernel_rfl) (by kernel_rfl) (by kernel_rfl) (by kernel_rfl) (fun _ _ _ h => h) (Or.inl ⟨by rfl, ?_⟩) (fun _ => by assumption) ?_
  rotate_left
  · (intro w hSw; go_simp)
    all_goals (with_reducible rfl)
  (try simp only [List.getElem_toArray, List.getElem_cons_zero, List.getElem_cons_succ, Act.put, List.setIfInBounds_toArray, List.set_cons_zero, List.set_cons_succ])
  refine wpAnyT_ready (rs := [2, 8]) (by kernel_rfl) (by simp) ?_
  refine AllReadyT.cons rfl (fun K hK => ?_) (AllReadyT.cons rfl (fun K hK => ?_) AllReadyT.nil)
  · skip
    go_simp
    (go_at_call 7; refine (oc_any n kv l _ (by omega) (HK.out.below (into HB2.out hHeld.2.2))).mono ?_; rintro e w5 ⟨v5, rfl, hown5, hbc⟩; have hz5 := hbc.size; (try simp only [World.size_alloc] at hz5); (try replace hbx := (hbc.block _ (Array.getElem?_eq_some_iff.1 hbx).1).trans hbx); have hkr := Rd.own hown5; rw [HNL.out] at hkr; replace hkr : RB w5 (fun _ => True) v5 l := ⟨hkr, fun _ _ _ _ _ => trivial⟩; clear hown5)
    go_wp2_with fail
    refine hK.out _ _ (fun _ => ?_) (fun hHeld0 => ?_)
    · (try dsimp only)
      exact ⟨cell_bel hbc (hHeld.1), cell_bel hbc (hHeld.2.1), Below.trans (hHeld.2.2) (hbc.mono (hHeld.2.2).size)⟩
    have hHeld1 := hHeld0 (by kernel_rfl)
    clear hK K hHeld0
    have hb5 := hHeld1.2.2
    clear hHeld; have hHeld := hHeld1; clear hHeld1
    (try simp only [List.getElem_toArray, List.getElem_cons_zero, List.getElem_cons_succ, Act.put, List.setIfInBounds_toArray, List.set_cons_zero, List.set_cons_succ])
    refine wpAnyT_ready (rs := [4, 8]) (by kernel_rfl) (by simp) ?_
    refine AllReadyT.cons rfl (fun K hK => ?_) (AllReadyT.cons rfl (fun K hK => ?_) AllReadyT.nil)
    · skip
      go_simp
      (go_at_call 6; refine (HPR.out _ (fun b => b < W2.heap.size) _ _ _ (fun b hb => by have h1 : b < W2.heap.size := hb; have h2 := hHeld.2.2.size; omega) (HR2.out.below hHeld.2.2) hkr).mono ?_; rintro e w6 ⟨ga, gn, gc, rfl, hr6, hbc⟩; have hz6 := hbc.size; (try simp only [World.size_alloc] at hz6); (try replace hbx := (hbc.block _ (Array.getElem?_eq_some_iff.1 hbx).1).trans hbx))
      go_wp2_with fail
      refine hK.out _ _ (fun _ => ?_) (fun hHeld0 => ?_)
      · (try dsimp only)
        exact ⟨cell_bel hbc (hHeld.1), cell_bel hbc (hHeld.2.1), Below.trans (hHeld.2.2) (hbc.mono (hHeld.2.2).size)⟩
      have hHeld1 := hHeld0 (by kernel_rfl)
      clear hK K hHeld0
      have hb6 := hHeld1.2.2
      clear hHeld; have hHeld := hHeld1; clear hHeld1
      (try simp only [List.getElem_toArray, List.getElem_cons_zero, List.getElem_cons_succ, Act.put, List.setIfInBounds_toArray, List.set_cons_zero, List.set_cons_succ])
      refine wpAnyT_pure (i := 5) (oi := _) (v := ?_) rfl (by kernel_rfl) (by kernel_rfl) (by kernel_rfl) (by kernel_rfl) (fun _ _ _ h => h) (Or.inl ⟨by rfl, ?_⟩) (fun _ => by assumption) ?_
      rotate_left
      · (intro w hSw; go_simp)
        all_goals (with_reducible rfl)
      (try simp only [List.getElem_toArray, List.getElem_cons_zero, List.getElem_cons_succ, Act.put, List.setIfInBounds_toArray, List.set_cons_zero, List.set_cons_succ])
      refine wpAnyT_pure (i := 6) (oi := _) (v := ?_) rfl (by kernel_rfl) (by kernel_rfl) (by kernel_rfl) (by kernel_rfl) (fun _ _ _ h => h) (Or.inl ⟨by rfl, ?_⟩) (fun _ => by assumption) ?_
      rotate_left
      · (intro w hSw; go_simp)
        all_goals (with_reducible rfl)
      (try simp only [List.getElem_toArray, List.getElem_cons_zero, List.getElem_cons_succ, Act.put, List.setIfInBounds_toArray, List.set_cons_zero, List.set_cons_succ])
      refine wpAnyT_pure (i := 7) (oi := _) (v := ?_) rfl (by kernel_rfl) (by kernel_rfl) (by kernel_rfl) (by kernel_rfl) (fun _ _ _ h => h) (Or.inl ⟨by rfl, ?_⟩) (fun _ => by assumption) ?_
      rotate_left
      · (intro w hSw; go_simp)
        all_goals (with_reducible rfl)
      (try simp only [List.getElem_toArray, List.getElem_cons_zero, List.getElem_cons_succ, Act.put, List.setIfInBounds_toArray, List.set_cons_zero, List.set_cons_succ])
      refine wpAnyT_ready (rs := [8]) (by kernel_rfl) (by simp) ?_
      refine AllReadyT.cons rfl (fun K hK => ?_) AllReadyT.nil
      go_simp
      refine hK.out _ _ (fun _ => ?_) (fun hHeld0 => ?_)
      · (try dsimp only)
        (first | (with_reducible exact hHeld) | (with_reducible exact ⟨cell_al _ (hHeld.1), cell_al _ (hHeld.2.1), Below.alloc (hHeld.2.2) (hHeld.2.2).size _⟩))
      have hHeld1 := hHeld0 (by kernel_rfl)
      clear hK K hHeld0
      (have hbx := alloc_of hHeld1.2.2); (try replace hkr := hkr.below (al_of hHeld1.2.2))
      clear hHeld; have hHeld := hHeld1; clear hHeld1
      (try simp only [List.getElem_toArray, List.getElem_cons_zero, List.getElem_cons_succ, Act.put, List.setIfInBounds_toArray, List.set_cons_zero, List.set_cons_succ])
      refine wpAnyT_ready (rs := [9]) (by kernel_rfl) (by simp) ?_
      refine AllReadyT.cons rfl (fun K hK => ?_) AllReadyT.nil
      obtain ⟨b0, b1, bf0, bf1⟩ := box2 hbx
      go_simp
      refine hK.out _ _ (noneB_off (by kernel_rfl)) (fun _ => ?_)
      clear hK K
      (try simp only [List.getElem_toArray, List.getElem_cons_zero, List.getElem_cons_succ, Act.put, List.setIfInBounds_toArray, List.set_cons_zero, List.set_cons_succ])
      refine wpAnyT_ready (rs := [10]) (by kernel_rfl) (by simp) ?_
      refine AllReadyT.cons rfl (fun K hK => ?_) AllReadyT.nil
      go_simp
      refine hK.out _ _ (noneB_off (by kernel_rfl)) (fun _ => ?_)
      clear hK K
      (try simp only [List.getElem_toArray, List.getElem_cons_zero, List.getElem_cons_succ, Act.put, List.setIfInBounds_toArray, List.set_cons_zero, List.set_cons_succ])
      refine wpAnyT_done (by kernel_rfl) ?_ _
      (try clear b0 b1 bf0 bf1)
      first
        | refine gen_two (P := fun w => (_ : Exit → Act → World → Prop) Exit.normal _ w) hbx (fun W9 hx9 hz9 hf9 hB9 => ?_)
        | refine gen_new (P := fun w => (_ : Exit → Act → World → Prop) Exit.normal _ w) (fun W9 hx9 hz9 hf9 hB9 => ?_)
      have hzb6 := hb6.size
      have hzbd := hbd.size
      have hb9 : Below W2.heap.size W2 W9 := hB9 _ _ (by first | omega | (simp only [World.size_alloc] at hzb6 hzbd; omega)) hb6
      have HB9 := Lib.hid (into HB2.out hb9)
      have HX9 := Lib.hid ((hb9.block _ z3).trans HX2.out)
      have HY9 := Lib.hid ((hb9.block _ (Array.getElem?_eq_some_iff.1 HY2.out).1).trans HY2.out)
      have HR9 := Lib.hid (HR2.out.below hb9)
      have HZ9 := Lib.hid hx9
      have HT9 := Lib.hid (show RT W9 (fun _ => True) (.agg #[.slice ga gn gc, .int .i64 G.root]) G from RT.mono (hr6.agree fun b hb hlt => by
        have hb' := id hb
        (try simp only [World.size_alloc] at hb')
        first
          | exact hf9 b hlt
          | exact hf9 b (by omega)) fun _ _ => trivial)
      obtain ⟨x0, x1, -⟩ := box2 HX9.out
      have hk9 := HK.out.below HB9.out
      rw [HNL.out] at hk9
      have HK9 := Lib.hid hk9
      clear hx9 hz9 hf9 hB9 hb9 hHeld hb6 hbd hbc hz6 hz5 hzb6 hzbd hkr hr6 hb5 k0 k1 hk9
      (try clear hbx)
      go_wp2_with fail
      refine (HDO.out W9 (old W) (fun _ => True) _ _ (fun b hb => by have h1 : b < W.heap.size := hb; have := HB9.out.size; omega) (HT.out.below HB9.out) ⟨HK9.out, fun _ _ _ _ _ => trivial⟩).mono ?_
      rintro e w10 ⟨ya, yn, yc, rfl, hr10, hb10⟩
      obtain ⟨W10, hW10⟩ : ∃ W10 : World, W10 = w10.alloc (.cells #[.slice ya yn yc, .int .i64 G.root] 24) := ⟨_, rfl⟩
      obtain ⟨B10, hB10⟩ : ∃ B, B = w10.heap.size := ⟨_, rfl⟩
      have hb11 : Below W9.heap.size W9 W10 := by rw [hW10]; exact into hb10 (bel_al _ _)
      have HB10 := Lib.hid (into HB9.out hb11)
      have HZ10 := Lib.hid ((hb11.block _ (Array.getElem?_eq_some_iff.1 HZ9.out).1).trans HZ9.out)
      have HX10 := Lib.hid ((hb11.block _ (Array.getElem?_eq_some_iff.1 HX9.out).1).trans HX9.out)
      have HY10 := Lib.hid ((hb11.block _ (Array.getElem?_eq_some_iff.1 HY9.out).1).trans HY9.out)
      have HR10 := Lib.hid (HR9.out.below hb11)
      have HV10 := Lib.hid (show W10.heap[B10]? = some (.cells #[.slice ya yn yc, .int .i64 G.root] 24 (0, 0)) by rw [hW10, hB10]; exact new0 _ _)
      have HSE := Lib.hid (sameTree_yes W10 _ _ _ _ G (HT9.out.below hb11) (by rw [hW10]; exact hr10.below (bel_al _ _)))
      have HW10 := Lib.hid (And.intro hW10 hB10)
      clear hb10 hb11 hr10 hW10 hB10 x0 x1
      simp only
      obtain ⟨x0, x1, -⟩ := box2 HX10.out
      obtain ⟨y0, y1, -⟩ := box2 HY10.out
      obtain ⟨z0, z1, -⟩ := box2 HZ10.out
      obtain ⟨v0, v1, -⟩ := box2 HV10.out
      rw [HW10.out.1] at x0 x1 y0 y1 z0 z1 v0 v1
      rw [HW10.out.2] at v0 v1
      go_wp2_with fail
      rw [← HW10.out.1]
      refine HSE.out.mono ?_
      rintro e w11 ⟨rfl, hb12⟩
      have HB11 := Lib.hid (into HB10.out hb12)
      have HR11 := Lib.hid (HR10.out.below hb12)
      clear x0 x1 y0 y1 z0 z1 v0 v1
      obtain ⟨x0, x1, -⟩ := box2 ((hb12.block _ (Array.getElem?_eq_some_iff.1 HX10.out).1).trans HX10.out)
      obtain ⟨y0, y1, -⟩ := box2 ((hb12.block _ (Array.getElem?_eq_some_iff.1 HY10.out).1).trans HY10.out)
      clear hb12
      go_wp2_with fail
      refine (sameTree_yes w11 _ _ _ _ T HR11.out (HT.out.below HB11.out)).mono ?_
      rintro e w12 ⟨rfl, hb13⟩
      have HB12 := Lib.hid (into HB11.out hb13)
      clear hb13
      go_wp2
      go_ret
      exact ⟨rfl, HB12.out⟩
    · skip
      go_simp
      refine hK.out _ _ (fun _ => ?_) (fun hHeld0 => ?_)
      · (try dsimp only)
        (first | (with_reducible exact hHeld) | (with_reducible exact ⟨cell_al _ (hHeld.1), cell_al _ (hHeld.2.1), Below.alloc (hHeld.2.2) (hHeld.2.2).size _⟩))
      have hHeld1 := hHeld0 (by kernel_rfl)
      clear hK K hHeld0
      (have hbx := alloc_of hHeld1.2.2); (try replace hkr := hkr.below (al_of hHeld1.2.2))
      clear hHeld; have hHeld := hHeld1; clear hHeld1
      (try simp only [List.getElem_toArray, List.getElem_cons_zero, List.getElem_cons_succ, Act.put, List.setIfInBounds_toArray, List.set_cons_zero, List.set_cons_succ])
      refine wpAnyT_ready (rs := [4]) (by kernel_rfl) (by simp) ?_
      refine AllReadyT.cons rfl (fun K hK => ?_) AllReadyT.nil
      go_simp
      (go_at_call 6; refine (HPR.out _ (fun b => b < W2.heap.size) _ _ _ (fun b hb => by have h1 : b < W2.heap.size := hb; have h2 := hHeld.2.2.size; omega) (HR2.out.below hHeld.2.2) hkr).mono ?_; rintro e w6 ⟨ga, gn, gc, rfl, hr6, hbc⟩; have hz6 := hbc.size; (try simp only [World.size_alloc] at hz6); (try replace hbx := (hbc.block _ (Array.getElem?_eq_some_iff.1 hbx).1).trans hbx))
      go_wp2_with fail
      refine hK.out _ _ (fun _ => ?_) (fun hHeld0 => ?_)
      · (try dsimp only)
        exact ⟨cell_bel hbc (hHeld.1), cell_bel hbc (hHeld.2.1), Below.trans (hHeld.2.2) (hbc.mono (hHeld.2.2).size)⟩
      have hHeld1 := hHeld0 (by kernel_rfl)
      clear hK K hHeld0
      have hb6 := hHeld1.2.2
      clear hHeld; have hHeld := hHeld1; clear hHeld1
      (try simp only [List.getElem_toArray, List.getElem_cons_zero, List.getElem_cons_succ, Act.put, List.setIfInBounds_toArray, List.set_cons_zero, List.set_cons_succ])
      refine wpAnyT_pure (i := 5) (oi := _) (v := ?_) rfl (by kernel_rfl) (by kernel_rfl) (by kernel_rfl) (by kernel_rfl) (fun _ _ _ h => h) (Or.inl ⟨by rfl, ?_⟩) (fun _ => by assumption) ?_
      rotate_left
      · (intro w hSw; go_simp)
        all_goals (with_reducible rfl)
      (try simp only [List.getElem_toArray, List.getElem_cons_zero, List.getElem_cons_succ, Act.put, List.setIfInBounds_toArray, List.set_cons_zero, List.set_cons_succ])
      refine wpAnyT_pure (i := 6) (oi := _) (v := ?_) rfl (by kernel_rfl) (by kernel_rfl) (by kernel_rfl) (by kernel_rfl) (fun _ _ _ h => h) (Or.inl ⟨by rfl, ?_⟩) (fun _ => by assumption) ?_
      rotate_left
      · (intro w hSw; go_simp)
        all_goals (with_reducible rfl)
      (try simp only [List.getElem_toArray, List.getElem_cons_zero, List.getElem_cons_succ, Act.put, List.setIfInBounds_toArray, List.set_cons_zero, List.set_cons_succ])
      refine wpAnyT_pure (i := 7) (oi := _) (v := ?_) rfl (by kernel_rfl) (by kernel_rfl) (by kernel_rfl) (by kernel_rfl) (fun _ _ _ h => h) (Or.inl ⟨by rfl, ?_⟩) (fun _ => by assumption) ?_
      rotate_left
      · (intro w hSw; go_simp)
        all_goals (with_reducible rfl)
      (try simp only [List.getElem_toArray, List.getElem_cons_zero, List.getElem_cons_succ, Act.put, List.setIfInBounds_toArray, List.set_cons_zero, List.set_cons_succ])
      refine wpAnyT_ready (rs := [9]) (by kernel_rfl) (by simp) ?_
      refine AllReadyT.cons rfl (fun K hK => ?_) AllReadyT.nil
      obtain ⟨b0, b1, bf0, bf1⟩ := box2 hbx
      go_simp
      refine hK.out _ _ (noneB_off (by kernel_rfl)) (fun _ => ?_)
      clear hK K
      (try simp only [List.getElem_toArray, List.getElem_cons_zero, List.getElem_cons_succ, Act.put, List.setIfInBounds_toArray, List.set_cons_zero, List.set_cons_succ])
      refine wpAnyT_ready (rs := [10]) (by kernel_rfl) (by simp) ?_
      refine AllReadyT.cons rfl (fun K hK => ?_) AllReadyT.nil
      go_simp
      refine hK.out _ _ (noneB_off (by kernel_rfl)) (fun _ => ?_)
      clear hK K
      (try simp only [List.getElem_toArray, List.getElem_cons_zero, List.getElem_cons_succ, Act.put, List.setIfInBounds_toArray, List.set_cons_zero, List.set_cons_succ])
      refine wpAnyT_done (by kernel_rfl) ?_ _
      (try clear b0 b1 bf0 bf1)
      first
        | refine gen_two (P := fun w => (_ : Exit → Act → World → Prop) Exit.normal _ w) hbx (fun W9 hx9 hz9 hf9 hB9 => ?_)
        | refine gen_new (P := fun w => (_ : Exit → Act → World → Prop) Exit.normal _ w) (fun W9 hx9 hz9 hf9 hB9 => ?_)
      have hzb6 := hb6.size
      have hzbd := hbd.size
      have hb9 : Below W2.heap.size W2 W9 := hB9 _ _ (by first | omega | (simp only [World.size_alloc] at hzb6 hzbd; omega)) hb6
      have HB9 := Lib.hid (into HB2.out hb9)
      have HX9 := Lib.hid ((hb9.block _ z3).trans HX2.out)
      have HY9 := Lib.hid ((hb9.block _ (Array.getElem?_eq_some_iff.1 HY2.out).1).trans HY2.out)
      have HR9 := Lib.hid (HR2.out.below hb9)
      have HZ9 := Lib.hid hx9
      have HT9 := Lib.hid (show RT W9 (fun _ => True) (.agg #[.slice ga gn gc, .int .i64 G.root]) G from RT.mono (hr6.agree fun b hb hlt => by
        have hb' := id hb
        (try simp only [World.size_alloc] at hb')
        first
          | exact hf9 b hlt
          | exact hf9 b (by omega)) fun _ _ => trivial)
      obtain ⟨x0, x1, -⟩ := box2 HX9.out
      have hk9 := HK.out.below HB9.out
      rw [HNL.out] at hk9
      have HK9 := Lib.hid hk9
      clear hx9 hz9 hf9 hB9 hb9 hHeld hb6 hbd hbc hz6 hz5 hzb6 hzbd hkr hr6 hb5 k0 k1 hk9
      (try clear hbx)
      go_wp2_with fail
      refine (HDO.out W9 (old W) (fun _ => True) _ _ (fun b hb => by have h1 : b < W.heap.size := hb; have := HB9.out.size; omega) (HT.out.below HB9.out) ⟨HK9.out, fun _ _ _ _ _ => trivial⟩).mono ?_
      rintro e w10 ⟨ya, yn, yc, rfl, hr10, hb10⟩
      obtain ⟨W10, hW10⟩ : ∃ W10 : World, W10 = w10.alloc (.cells #[.slice ya yn yc, .int .i64 G.root] 24) := ⟨_, rfl⟩
      obtain ⟨B10, hB10⟩ : ∃ B, B = w10.heap.size := ⟨_, rfl⟩
      have hb11 : Below W9.heap.size W9 W10 := by rw [hW10]; exact into hb10 (bel_al _ _)
      have HB10 := Lib.hid (into HB9.out hb11)
      have HZ10 := Lib.hid ((hb11.block _ (Array.getElem?_eq_some_iff.1 HZ9.out).1).trans HZ9.out)
      have HX10 := Lib.hid ((hb11.block _ (Array.getElem?_eq_some_iff.1 HX9.out).1).trans HX9.out)
      have HY10 := Lib.hid ((hb11.block _ (Array.getElem?_eq_some_iff.1 HY9.out).1).trans HY9.out)
      have HR10 := Lib.hid (HR9.out.below hb11)
      have HV10 := Lib.hid (show W10.heap[B10]? = some (.cells #[.slice ya yn yc, .int .i64 G.root] 24 (0, 0)) by rw [hW10, hB10]; exact new0 _ _)
      have HSE := Lib.hid (sameTree_yes W10 _ _ _ _ G (HT9.out.below hb11) (by rw [hW10]; exact hr10.below (bel_al _ _)))
      have HW10 := Lib.hid (And.intro hW10 hB10)
      clear hb10 hb11 hr10 hW10 hB10 x0 x1
      simp only
      obtain ⟨x0, x1, -⟩ := box2 HX10.out
      obtain ⟨y0, y1, -⟩ := box2 HY10.out
      obtain ⟨z0, z1, -⟩ := box2 HZ10.out
      obtain ⟨v0, v1, -⟩ := box2 HV10.out
      rw [HW10.out.1] at x0 x1 y0 y1 z0 z1 v0 v1
      rw [HW10.out.2] at v0 v1
      go_wp2_with fail
      rw [← HW10.out.1]
      refine HSE.out.mono ?_
      rintro e w11 ⟨rfl, hb12⟩
      have HB11 := Lib.hid (into HB10.out hb12)
      have HR11 := Lib.hid (HR10.out.below hb12)
      clear x0 x1 y0 y1 z0 z1 v0 v1
      obtain ⟨x0, x1, -⟩ := box2 ((hb12.block _ (Array.getElem?_eq_some_iff.1 HX10.out).1).trans HX10.out)
      obtain ⟨y0, y1, -⟩ := box2 ((hb12.block _ (Array.getElem?_eq_some_iff.1 HY10.out).1).trans HY10.out)
      clear hb12
      go_wp2_with fail
      refine (sameTree_yes w11 _ _ _ _ T HR11.out (HT.out.below HB11.out)).mono ?_
      rintro e w12 ⟨rfl, hb13⟩
      have HB12 := Lib.hid (into HB11.out hb13)
      clear hb13
      go_wp2
      go_ret
      exact ⟨rfl, HB12.out⟩
  · skip
    go_simp
    refine hK.out _ _ (fun _ => ?_) (fun hHeld0 => ?_)
    · (try dsimp only)
      (first | (with_reducible exact hHeld) | (with_reducible exact ⟨cell_al _ (hHeld.1), cell_al _ (hHeld.2.1), Below.alloc (hHeld.2.2) (hHeld.2.2).size _⟩))
    have hHeld1 := hHeld0 (by kernel_rfl)
    clear hK K hHeld0
    (have hbx := alloc_of hHeld1.2.2); (try replace hkr := hkr.below (al_of hHeld1.2.2))
    clear hHeld; have hHeld := hHeld1; clear hHeld1
    (try simp only [List.getElem_toArray, List.getElem_cons_zero, List.getElem_cons_succ, Act.put, List.setIfInBounds_toArray, List.set_cons_zero, List.set_cons_succ])
    refine wpAnyT_ready (rs := [2]) (by kernel_rfl) (by simp) ?_
    refine AllReadyT.cons rfl (fun K hK => ?_) AllReadyT.nil
    go_simp
    (go_at_call 7; refine (oc_any n kv l _ (by omega) (HK.out.below (into HB2.out hHeld.2.2))).mono ?_; rintro e w5 ⟨v5, rfl, hown5, hbc⟩; have hz5 := hbc.size; (try simp only [World.size_alloc] at hz5); (try replace hbx := (hbc.block _ (Array.getElem?_eq_some_iff.1 hbx).1).trans hbx); have hkr := Rd.own hown5; rw [HNL.out] at hkr; replace hkr : RB w5 (fun _ => True) v5 l := ⟨hkr, fun _ _ _ _ _ => trivial⟩; clear hown5)
    go_wp2_with fail
    refine hK.out _ _ (fun _ => ?_) (fun hHeld0 => ?_)
    · (try dsimp only)
      exact ⟨cell_bel hbc (hHeld.1), cell_bel hbc (hHeld.2.1), Below.trans (hHeld.2.2) (hbc.mono (hHeld.2.2).size)⟩
    have hHeld1 := hHeld0 (by kernel_rfl)
    clear hK K hHeld0
    have hb5 := hHeld1.2.2
    clear hHeld; have hHeld := hHeld1; clear hHeld1
    (try simp only [List.getElem_toArray, List.getElem_cons_zero, List.getElem_cons_succ, Act.put, List.setIfInBounds_toArray, List.set_cons_zero, List.set_cons_succ])
    refine wpAnyT_ready (rs := [4]) (by kernel_rfl) (by simp) ?_
    refine AllReadyT.cons rfl (fun K hK => ?_) AllReadyT.nil
    go_simp
    (go_at_call 6; refine (HPR.out _ (fun b => b < W2.heap.size) _ _ _ (fun b hb => by have h1 : b < W2.heap.size := hb; have h2 := hHeld.2.2.size; omega) (HR2.out.below hHeld.2.2) hkr).mono ?_; rintro e w6 ⟨ga, gn, gc, rfl, hr6, hbc⟩; have hz6 := hbc.size; (try simp only [World.size_alloc] at hz6); (try replace hbx := (hbc.block _ (Array.getElem?_eq_some_iff.1 hbx).1).trans hbx))
    go_wp2_with fail
    refine hK.out _ _ (fun _ => ?_) (fun hHeld0 => ?_)
    · (try dsimp only)
      exact ⟨cell_bel hbc (hHeld.1), cell_bel hbc (hHeld.2.1), Below.trans (hHeld.2.2) (hbc.mono (hHeld.2.2).size)⟩
    have hHeld1 := hHeld0 (by kernel_rfl)
    clear hK K hHeld0
    have hb6 := hHeld1.2.2
    clear hHeld; have hHeld := hHeld1; clear hHeld1
    (try simp only [List.getElem_toArray, List.getElem_cons_zero, List.getElem_cons_succ, Act.put, List.setIfInBounds_toArray, List.set_cons_zero, List.set_cons_succ])
    refine wpAnyT_pure (i := 5) (oi := _) (v := ?_) rfl (by kernel_rfl) (by kernel_rfl) (by kernel_rfl) (by kernel_rfl) (fun _ _ _ h => h) (Or.inl ⟨by rfl, ?_⟩) (fun _ => by assumption) ?_
    rotate_left
    · (intro w hSw; go_simp)
      all_goals (with_reducible rfl)
    (try simp only [List.getElem_toArray, List.getElem_cons_zero, List.getElem_cons_succ, Act.put, List.setIfInBounds_toArray, List.set_cons_zero, List.set_cons_succ])
    refine wpAnyT_pure (i := 6) (oi := _) (v := ?_) rfl (by kernel_rfl) (by kernel_rfl) (by kernel_rfl) (by kernel_rfl) (fun _ _ _ h => h) (Or.inl ⟨by rfl, ?_⟩) (fun _ => by assumption) ?_
    rotate_left
    · (intro w hSw; go_simp)
      all_goals (with_reducible rfl)
    (try simp only [List.getElem_toArray, List.getElem_cons_zero, List.getElem_cons_succ, Act.put, List.setIfInBounds_toArray, List.set_cons_zero, List.set_cons_succ])
    refine wpAnyT_pure (i := 7) (oi := _) (v := ?_) rfl (by kernel_rfl) (by kernel_rfl) (by kernel_rfl) (by kernel_rfl) (fun _ _ _ h => h) (Or.inl ⟨by rfl, ?_⟩) (fun _ => by assumption) ?_
    rotate_left
    · (intro w hSw; go_simp)
      all_goals (with_reducible rfl)
    (try simp only [List.getElem_toArray, List.getElem_cons_zero, List.getElem_cons_succ, Act.put, List.setIfInBounds_toArray, List.set_cons_zero, List.set_cons_succ])
    refine wpAnyT_ready (rs := [9]) (by kernel_rfl) (by simp) ?_
    refine AllReadyT.cons rfl (fun K hK => ?_) AllReadyT.nil
    obtain ⟨b0, b1, bf0, bf1⟩ := box2 hbx
    go_simp
    refine hK.out _ _ (noneB_off (by kernel_rfl)) (fun _ => ?_)
    clear hK K
    (try simp only [List.getElem_toArray, List.getElem_cons_zero, List.getElem_cons_succ, Act.put, List.setIfInBounds_toArray, List.set_cons_zero, List.set_cons_succ])
    refine wpAnyT_ready (rs := [10]) (by kernel_rfl) (by simp) ?_
    refine AllReadyT.cons rfl (fun K hK => ?_) AllReadyT.nil
    go_simp
    refine hK.out _ _ (noneB_off (by kernel_rfl)) (fun _ => ?_)
    clear hK K
    (try simp only [List.getElem_toArray, List.getElem_cons_zero, List.getElem_cons_succ, Act.put, List.setIfInBounds_toArray, List.set_cons_zero, List.set_cons_succ])
    refine wpAnyT_done (by kernel_rfl) ?_ _
    (try clear b0 b1 bf0 bf1)
    first
      | refine gen_two (P := fun w => (_ : Exit → Act → World → Prop) Exit.normal _ w) hbx (fun W9 hx9 hz9 hf9 hB9 => ?_)
      | refine gen_new (P := fun w => (_ : Exit → Act → World → Prop) Exit.normal _ w) (fun W9 hx9 hz9 hf9 hB9 => ?_)
    have hzb6 := hb6.size
    have hzbd := hbd.size
    have hb9 : Below W2.heap.size W2 W9 := hB9 _ _ (by first | omega | (simp only [World.size_alloc] at hzb6 hzbd; omega)) hb6
    have HB9 := Lib.hid (into HB2.out hb9)
    have HX9 := Lib.hid ((hb9.block _ z3).trans HX2.out)
    have HY9 := Lib.hid ((hb9.block _ (Array.getElem?_eq_some_iff.1 HY2.out).1).trans HY2.out)
    have HR9 := Lib.hid (HR2.out.below hb9)
    have HZ9 := Lib.hid hx9
    have HT9 := Lib.hid (show RT W9 (fun _ => True) (.agg #[.slice ga gn gc, .int .i64 G.root]) G from RT.mono (hr6.agree fun b hb hlt => by
      have hb' := id hb
      (try simp only [World.size_alloc] at hb')
      first
        | exact hf9 b hlt
        | exact hf9 b (by omega)) fun _ _ => trivial)
    obtain ⟨x0, x1, -⟩ := box2 HX9.out
    have hk9 := HK.out.below HB9.out
    rw [HNL.out] at hk9
    have HK9 := Lib.hid hk9
    clear hx9 hz9 hf9 hB9 hb9 hHeld hb6 hbd hbc hz6 hz5 hzb6 hzbd hkr hr6 hb5 k0 k1 hk9
    (try clear hbx)
    go_wp2_with fail
    refine (HDO.out W9 (old W) (fun _ => True) _ _ (fun b hb => by have h1 : b < W.heap.size := hb; have := HB9.out.size; omega) (HT.out.below HB9.out) ⟨HK9.out, fun _ _ _ _ _ => trivial⟩).mono ?_
    rintro e w10 ⟨ya, yn, yc, rfl, hr10, hb10⟩
    obtain ⟨W10, hW10⟩ : ∃ W10 : World, W10 = w10.alloc (.cells #[.slice ya yn yc, .int .i64 G.root] 24) := ⟨_, rfl⟩
    obtain ⟨B10, hB10⟩ : ∃ B, B = w10.heap.size := ⟨_, rfl⟩
    have hb11 : Below W9.heap.size W9 W10 := by rw [hW10]; exact into hb10 (bel_al _ _)
    have HB10 := Lib.hid (into HB9.out hb11)
    have HZ10 := Lib.hid ((hb11.block _ (Array.getElem?_eq_some_iff.1 HZ9.out).1).trans HZ9.out)
    have HX10 := Lib.hid ((hb11.block _ (Array.getElem?_eq_some_iff.1 HX9.out).1).trans HX9.out)
    have HY10 := Lib.hid ((hb11.block _ (Array.getElem?_eq_some_iff.1 HY9.out).1).trans HY9.out)
    have HR10 := Lib.hid (HR9.out.below hb11)
    have HV10 := Lib.hid (show W10.heap[B10]? = some (.cells #[.slice ya yn yc, .int .i64 G.root] 24 (0, 0)) by rw [hW10, hB10]; exact new0 _ _)
    have HSE := Lib.hid (sameTree_yes W10 _ _ _ _ G (HT9.out.below hb11) (by rw [hW10]; exact hr10.below (bel_al _ _)))
    have HW10 := Lib.hid (And.intro hW10 hB10)
    clear hb10 hb11 hr10 hW10 hB10 x0 x1
    simp only
    obtain ⟨x0, x1, -⟩ := box2 HX10.out
    obtain ⟨y0, y1, -⟩ := box2 HY10.out
    obtain ⟨z0, z1, -⟩ := box2 HZ10.out
    obtain ⟨v0, v1, -⟩ := box2 HV10.out
    rw [HW10.out.1] at x0 x1 y0 y1 z0 z1 v0 v1
    rw [HW10.out.2] at v0 v1
    go_wp2_with fail
    rw [← HW10.out.1]
    refine HSE.out.mono ?_
    rintro e w11 ⟨rfl, hb12⟩
    have HB11 := Lib.hid (into HB10.out hb12)
    have HR11 := Lib.hid (HR10.out.below hb12)
    clear x0 x1 y0 y1 z0 z1 v0 v1
    obtain ⟨x0, x1, -⟩ := box2 ((hb12.block _ (Array.getElem?_eq_some_iff.1 HX10.out).1).trans HX10.out)
    obtain ⟨y0, y1, -⟩ := box2 ((hb12.block _ (Array.getElem?_eq_some_iff.1 HY10.out).1).trans HY10.out)
    clear hb12
    go_wp2_with fail
    refine (sameTree_yes w11 _ _ _ _ T HR11.out (HT.out.below HB11.out)).mono ?_
    rintro e w12 ⟨rfl, hb13⟩
    have HB12 := Lib.hid (into HB11.out hb13)
    clear hb13
    go_wp2
    go_ret
    exact ⟨rfl, HB12.out⟩

set_option maxRecDepth 100000 in
theorem lifted (os : Os) (started : os.Started) (H : Type) (enc : TypeId × Value → H) :
    ReturnsInHanded {} Try.checked os 3 .any (Rows.treeInsertsSpec.pre6 enc Try.prog Try.f3 Rows.treeInsertsRow.domain false) (Rows.treeInsertsSpec.post enc Try.prog Try.f3 false true false false) := by
  refine returnsInHanded_of_change_sized (C := Try.checked) Try.own started (by kernel_rfl) Try.func3
    (ChangeSpec.witness6 (enc := enc) (C := Try.checked) false ⟨#[], #[.agg #[.slice none 0 0, .int .i64 0], .slice none 0 0, .int .i64 0], []⟩ 8 (by kernel_rfl) (by kernel_rfl) (by kernel_rfl) (by kernel_rfl)) ?_
  intro W base args ds gs before hval0 hW hcnd hsz0 _
  have hsz : (DataW.weightsEach Try.prog (Try.f3.params.toList ++ Rows.treeInsertsSpec.plain.varTypes Try.prog) (ds ++ gs)).all (· ≤ reachBytes) = true := hsz0
  have hval : ∀ (j : Nat) t v, Try.f3.params[j]? = some t → args[j]? = some v → Value.okWide Try.prog W .any base t v := hval0
  have hW' := hW
  obtain ⟨p, q, hA0, hV, rfl, hfz, hnd⟩ := hW
  have hA : DataW.TrodAll enc Try.prog W 0 (fun _ => true) true Try.f3.params.toList args.toList ds p := hA0
  rw [Try.params3] at hA hval hsz
  obtain ⟨v0, v1, v2, d0, d1, d2, p0, p1, p2, rfl, rfl, rfl, h0, h1, h2⟩ := trodAll_three hA
  obtain ⟨rfl, rfl⟩ := trodVars_none hV
  have sm0 : small Try.prog 24 d0 := fun q hq => by
    have := List.all_eq_true.1 hsz q (weights_each (j := 0) rfl rfl q hq)
    simpa using this
  obtain ⟨T0, hT0⟩ := open_tree (hval 0 24 v0 rfl rfl) h0 sm0
  obtain ⟨n1, l1, hr1, hs1⟩ := open_by Try.underlying25 Try.underlying5 (by kernel_rfl) (hval 1 25 v1 rfl rfl) h1
  have hz1 : n1 * 1 ≤ 140737488351232 := by
    rcases hs1 with rfl | ⟨es, sp, hd, hl⟩
    · omega
    · subst hd
      have := sized_slice hsz (j := 1) (t := 25) (e := 5) rfl rfl Try.underlying25
      rw [show Try.prog.bytesOf 5 = 1 by kernel_rfl, hl] at this
      simp only [reachBytes] at this
      omega
  obtain ⟨a2, rfl, rfl, rfl, w2⟩ := open_int Try.underlying3 (hval 2 3 v2 rfl rfl) h2
  clear hA0 hval0
  refine (walk W v0 T0 hT0 n1 v1 l1 hr1 hz1 a2 w2).mono fun e W' ⟨he, hg⟩ => ?_
  subst he
  exact ⟨_, rfl, law_post (tb := 4) Try.laidOut (by kernel_rfl) (by kernel_rfl) Try.underlying4 rfl hW' hg rfl rfl rfl⟩

theorem proved : Rows.TreeInsertsSaid :=
  OpenClaim.holds_of_wide 3 Try.f3 rfl rfl rfl rfl rfl rfl rfl ⟨rfl, rfl, rfl, rfl, rfl⟩ rfl rfl rfl rfl rfl (by kernel_rfl) Try.func3 (by kernel_rfl)
    (of_decide_eq_true (by kernel_rfl)) (by unfold Func.isWrapper; first | (rw [if_pos (by decide +kernel)]; kernel_rfl) | (rw [if_neg (by decide +kernel)]; exact ⟨rfl, rfl⟩))
    (fun os started H enc _ => lifted os started H enc)
#print axioms proved
end Go.Proofs.Ytahammkjkfdmhaa.lTreeInserts
