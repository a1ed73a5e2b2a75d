/- Asking: the program, where nothing is wrong. -/
import Derived.Test.YtpddlckkncmlmabDoorMj
import Derived.Test.YtpddlckkncmlmabDoorMb
import Derived.Deep.RegionWith
namespace Go.Proofs.YtpddlckkncmlmabDoor
open Go.ChangeShapes Go.WideShapes Go.ChangeAt Go.RowKit
set_option linter.unusedVariables false
set_option linter.unusedSimpArgs false
set_option maxHeartbeats 8000000
set_option maxRecDepth 100000
theorem ask_good (w : World) (hT : Tog w) (hJ : Jnd w) (nh n : Nat) (hv qv : Value) (held l : List Lk) (x : Lk) (hrh : Rd w 3 nh hv (lkc held)) (hr : Rd w 3 n qv (lkc l)) (h1 : nh ≤ 1000000000000000) (h2 : n ≤ 1000000000000000) (hok : Okl held l) (hx : frm x = 0) (hq : l.any (ofB x.t) = false) :
    Calls Tryd.prog 17 #[.agg #[hv, qv], lkv x] w (AskIs held l x w) := by
  have hR0 : refL held l x = 0 := by rw [refL_ok hok hx, hq]; rfl
  have hA : askL held l x = if (upL held x).m = hmd held x then (held, l, true, 0)
      else if (wts held l (upL held x)).isEmpty = true then (if 200 < (giveL held (upL held x)).length + l.length then ([], [], false, 10) else (giveL held (upL held x), l, true, 0))
      else if 200 < held.length + (l.length + 1) then ([], [], false, 10) else (held, l ++ [upL held x], false, 0) := by unfold askL; rw [if_neg (by simp [hR0])]
  have hlh := len_l hrh
  have hlq := len_l hr
  obtain ⟨_, ah, ch, rfl, _⟩ := id hrh
  obtain ⟨_, aq, cq, rfl, _⟩ := id hr
  have hxs : x.th.size ≤ 120 := (frm_ok.1 hx).2.1
  have hxm := mods hx
  have hup : upL held x = ⟨x.t, x.th, joi (hmd held x) x.m⟩ := rfl
  have hupm := up_m hok.hf hx
  have hHs : ∀ y ∈ held, y.th.size ≤ 1000 := fun y hy => by have := (frm_ok.1 (hok.hf y hy)).2.1; omega
  have hQs : ∀ y ∈ l, y.th.size ≤ 1000 := fun y hy => by have := (frm_ok.1 (hok.qf y hy)).2.1; omega
  have hMd : Mds held := fun y hy => mods (hok.hf y hy)
  have hfew := hok.few
  have hd := hmd_in x hMd
  obtain ⟨xt, xth, xm⟩ := x
  obtain ⟨W0, hW0⟩ : ∃ W0 : World, W0 = ((w.alloc (.cells #[.slice ah nh ch, .slice aq n cq] 24)).alloc (.cells #[.int .i64 xt, .string xth, .int .i64 xm] 33)).alloc (.cells #[.slice none 0 0, .slice none 0 0] 24) := ⟨_, rfl⟩
  have hb0 : Below w.heap.size w W0 := by rw [hW0]; exact three_below _ _ _ _
  have hz0 : W0.heap.size = w.heap.size + 1 + 1 + 1 := by rw [hW0]; simp
  have hbx : Bxs W0 w.heap.size (.slice ah nh ch) (.slice aq n cq) ⟨xt, xth, xm⟩ := by
    rw [hW0]
    obtain ⟨g1, g2, g3⟩ := three_new w (.cells #[.slice ah nh ch, .slice aq n cq] 24) (.cells #[.int .i64 xt, .string xth, .int .i64 xm] 33) (.cells #[.slice none 0 0, .slice none 0 0] 24)
    exact ⟨g1, g2, g3⟩
  have hrf := refusal_any W0 (hT.below hb0) (hJ.below hb0) nh n _ _ held l ⟨xt, xth, xm⟩ (hrh.below hb0) (hr.below hb0) h1 h2
  rw [hR0] at hrf
  have HR := Lib.hid hrf
  have HFR : Hid (∀ W, Below W0.heap.size W0 W → Calls Tryd.prog 19 #[.agg #[.slice ah nh ch, .slice aq n cq]] W fun e w' => ∃ a1 c1 a2 c2, e = .returned (.agg #[.slice a1 nh c1, .slice a2 n c2]) ∧ Two w' W.heap.size (.slice a1 nh c1) (.slice a2 n c2) held l ∧ Below W.heap.size W w') := fun W hW =>
    (fresh_any W nh n _ _ held l (hrh.below (into hb0 hW)) (hr.below (into hb0 hW)) (by omega) (by omega) hHs hQs).mono fun e w' ⟨v1, v2, g1, g2, g3⟩ => by
      obtain ⟨_, a1, c1, rfl, _⟩ := Rd.own g2.h
      obtain ⟨_, a2, c2, rfl, _⟩ := Rd.own g2.q
      rw [← hlh, ← hlq] at g1 g2
      exact ⟨a1, c1, a2, c2, g1, g2, g3⟩
  have HCL : Hid (∀ W, Calls Tryd.prog 35 #[.string xth] W fun e w' => e = .returned (.string xth) ∧ Below W.heap.size W w') := fun W => sclone_any W xth (by simp only at hxs; omega)
  have HHM : Hid (∀ W a1 c1, Rd W 3 nh (.slice a1 nh c1) (lkc held) → Calls Tryd.prog 36 #[.slice a1 nh c1, .agg #[.int .i64 xt, .string xth, .int .i64 xm]] W fun e w' => e = .returned (.int .i64 (hmd held ⟨xt, xth, xm⟩)) ∧ Below W.heap.size W w') := fun W a1 c1 h => heldMode_any W nh _ held ⟨xt, xth, xm⟩ h
  obtain ⟨dn, hdn⟩ : ∃ dn : Nat, hmd held ⟨xt, xth, xm⟩ = (dn : Int) := ⟨(hmd held ⟨xt, xth, xm⟩).toNat, by omega⟩
  obtain ⟨mn, hmn⟩ : ∃ mn : Nat, xm = (mn : Int) := ⟨xm.toNat, by simp only at hxm; omega⟩
  subst hmn
  rw [hdn] at hA hup hd HHM
  simp only at hup hxm
  have hjo : Hid (∀ W, Below w.heap.size w W → W.cell? ⟨0, dn * 6 + mn, none⟩ = some (.int .i64 (joi dn mn))) := fun W hW => by
    have := (hJ.below hW).at (a := (dn : Int)) (b := (mn : Int)) (by omega) (by omega)
    simpa only [Int.toNat_natCast] using this
  obtain ⟨jo, hjoe⟩ : ∃ jo, jo = joi (dn : Int) (mn : Int) := ⟨_, rfl⟩
  rw [← hjoe] at hjo hup
  rw [hup] at hA hupm
  simp only at hA hupm
  have HT := Lib.hid (And.intro hT hMd)
  have HA := Lib.hid hA
  have HBX := Lib.hid hbx
  have HB0 := Lib.hid hb0
  have HW0 := Lib.hid hW0
  have HL := Lib.hid (And.intro hlh hlq)
  have hdI : (dn : Int) < 6 := by omega
  have hmI : (mn : Int) < 6 := by omega
  clear hT hJ hrh hr hA hbx hb0 hW0 hrf hlh hlq hMd hHs hQs hxs hok hx hq hR0 hup hdn hjoe
  obtain ⟨⟨e0, e1, -, -⟩, ⟨b0, b1, b2, -, -, -⟩, -⟩ := HBX.out.cells
  go_enter Tryd.func17, Tryd.ntmps17
  go_wp2_with fail
  rw [← HW0.out]
  refine HR.out.mono ?_
  rintro e w1 ⟨rfl, hb1⟩
  clear e0 e1 b0 b1 b2
  obtain ⟨⟨e0, e1, fe0, fe1⟩, ⟨b0, b1, b2, fb0, fb1, fb2⟩, -⟩ := (HBX.out.below hb1).cells
  have HB1 := Lib.hid hb1
  have HD1 : Hid (Below W0.heap.size W0 w1.drew) := hb1.drew
  clear hb1
  go_wp2_with fail
  have n1 : w.heap.size ≠ w.heap.size + 1 := by omega
  refine wp_region_held_drew (S := (fun wx => wx.cell? ⟨w.heap.size + 1, 1, none⟩ = some (.string xth))) (by kernel_rfl) ?_ (fun hHeld => ?_)
  · (try dsimp only)
    (first | (with_reducible exact cell_dr b1) | (with_reducible exact cell_of_below hb2 (cell_dr b1)) | (with_reducible exact x1) | (with_reducible exact z1) | (simp only [World.cell?_setCell_far, n1, ne_eq, not_false_eq_true]; with_reducible exact z1) | exact World.cell?_setCell_same _ _ _ ((World.cell?_setCell_far _ _ _ _ (by show w.heap.size ≠ w.heap.size + 1; omega)).trans ((World.cell?_setCell_far _ _ _ _ (by show w.heap.size ≠ w.heap.size + 1; omega)).trans z1)))
  refine wpAnyH_take (i := 2) (oi := _) (v := ?_) rfl (by kernel_rfl) (by kernel_rfl) (by kernel_rfl) (fun _ _ _ h => h) (Or.inl ⟨by rfl, ?_⟩) (by assumption) ?_
  rotate_left
  · (intro w hSw; (try dsimp only at hSw); go_simp)
    all_goals (with_reducible rfl)
  (try simp only [Act.put, List.setIfInBounds_toArray, List.set_cons_zero, List.set_cons_succ])
  refine wpAnyH_take (i := 3) (oi := _) (v := ?_) rfl (by kernel_rfl) (by kernel_rfl) (by kernel_rfl) (fun _ _ _ h => h) (Or.inl ⟨by rfl, ?_⟩) (by assumption) ?_
  rotate_left
  · (intro w hSw; (try dsimp only at hSw); go_simp)
    all_goals (with_reducible rfl)
  (try simp only [Act.put, List.setIfInBounds_toArray, List.set_cons_zero, List.set_cons_succ])
  refine wpAnyH_ready (rs := [0]) (by kernel_rfl) (by simp) ?_
  refine AllReadyH.cons rfl (fun K hK => ?_) AllReadyH.nil
  go_simp
  refine hK.out _ _ ?_ (fun hHeld => ?_)
  · (try dsimp only)
    (first | (with_reducible exact cell_dr b1) | (with_reducible exact cell_of_below hb2 (cell_dr b1)) | (with_reducible exact x1) | (with_reducible exact z1) | (simp only [World.cell?_setCell_far, n1, ne_eq, not_false_eq_true]; with_reducible exact z1) | exact World.cell?_setCell_same _ _ _ ((World.cell?_setCell_far _ _ _ _ (by show w.heap.size ≠ w.heap.size + 1; omega)).trans ((World.cell?_setCell_far _ _ _ _ (by show w.heap.size ≠ w.heap.size + 1; omega)).trans z1)))
  clear hK K
  (try simp only [Act.put, List.setIfInBounds_toArray, List.set_cons_zero, List.set_cons_succ])
  refine wpAnyH_ready (rs := [1]) (by kernel_rfl) (by simp) ?_
  refine AllReadyH.cons rfl (fun K hK => ?_) AllReadyH.nil
  go_simp
  (go_at_call 19; (with_reducible refine (HFR.out _ HD1.out).mono ?_); rintro e w2 ⟨a1, c1, a2, c2, rfl, ht2, hb2⟩; have hx2 := HBX.out.below (into HD1.out hb2); obtain ⟨-, ⟨x0, x1, x2, -, -, -⟩, -⟩ := hx2.cells)
  go_wp2_with fail
  refine hK.out _ _ ?_ (fun hHeld => ?_)
  · (try dsimp only)
    (first | (with_reducible exact cell_dr b1) | (with_reducible exact cell_of_below hb2 (cell_dr b1)) | (with_reducible exact x1) | (with_reducible exact z1) | (simp only [World.cell?_setCell_far, n1, ne_eq, not_false_eq_true]; with_reducible exact z1) | exact World.cell?_setCell_same _ _ _ ((World.cell?_setCell_far _ _ _ _ (by show w.heap.size ≠ w.heap.size + 1; omega)).trans ((World.cell?_setCell_far _ _ _ _ (by show w.heap.size ≠ w.heap.size + 1; omega)).trans z1)))
  clear hK K
  (try simp only [Act.put, List.setIfInBounds_toArray, List.set_cons_zero, List.set_cons_succ])
  refine wpAnyH_ready (rs := [4]) (by kernel_rfl) (by simp) ?_
  refine AllReadyH.cons rfl (fun K hK => ?_) AllReadyH.nil
  go_simp
  (go_at_call 35; (with_reducible refine (HCL.out _).mono ?_); rintro e w3 ⟨rfl, hb3⟩; have hx3 := hx2.below hb3; obtain ⟨⟨y0, y1, yf0, yf1⟩, ⟨z0, z1, z2, zf0, zf1, zf2⟩, -⟩ := hx3.cells)
  go_wp2_with fail
  refine hK.out _ _ ?_ (fun hHeld => ?_)
  · (try dsimp only)
    (first | (with_reducible exact cell_dr b1) | (with_reducible exact cell_of_below hb2 (cell_dr b1)) | (with_reducible exact x1) | (with_reducible exact z1) | (simp only [World.cell?_setCell_far, n1, ne_eq, not_false_eq_true]; with_reducible exact z1) | exact World.cell?_setCell_same _ _ _ ((World.cell?_setCell_far _ _ _ _ (by show w.heap.size ≠ w.heap.size + 1; omega)).trans ((World.cell?_setCell_far _ _ _ _ (by show w.heap.size ≠ w.heap.size + 1; omega)).trans z1)))
  clear hK K
  (try simp only [Act.put, List.setIfInBounds_toArray, List.set_cons_zero, List.set_cons_succ])
  refine wpAnyH_ready (rs := [5]) (by kernel_rfl) (by simp) ?_
  refine AllReadyH.cons rfl (fun K hK => ?_) AllReadyH.nil
  go_simp
  refine hK.out _ _ ?_ (fun hHeld => ?_)
  · (try dsimp only)
    (first | (with_reducible exact cell_dr b1) | (with_reducible exact cell_of_below hb2 (cell_dr b1)) | (with_reducible exact x1) | (with_reducible exact z1) | (simp only [World.cell?_setCell_far, n1, ne_eq, not_false_eq_true]; with_reducible exact z1) | exact World.cell?_setCell_same _ _ _ ((World.cell?_setCell_far _ _ _ _ (by show w.heap.size ≠ w.heap.size + 1; omega)).trans ((World.cell?_setCell_far _ _ _ _ (by show w.heap.size ≠ w.heap.size + 1; omega)).trans z1)))
  clear hK K
  (try simp only [Act.put, List.setIfInBounds_toArray, List.set_cons_zero, List.set_cons_succ])
  refine wpAnyH_take (i := 6) (oi := _) (v := ?_) rfl (by kernel_rfl) (by kernel_rfl) (by kernel_rfl) (fun _ _ _ h => h) (Or.inl ⟨by rfl, ?_⟩) (by assumption) ?_
  rotate_left
  · (intro w hSw; (try dsimp only at hSw); go_simp)
    all_goals (with_reducible rfl)
  (try simp only [Act.put, List.setIfInBounds_toArray, List.set_cons_zero, List.set_cons_succ])
  refine wpAnyH_ready (rs := [7]) (by kernel_rfl) (by simp) ?_
  refine AllReadyH.cons rfl (fun K hK => ?_) AllReadyH.nil
  go_simp
  refine hK.out _ _ ?_ (fun hHeld => ?_)
  · (try dsimp only)
    (first | (with_reducible exact cell_dr b1) | (with_reducible exact cell_of_below hb2 (cell_dr b1)) | (with_reducible exact x1) | (with_reducible exact z1) | (simp only [World.cell?_setCell_far, n1, ne_eq, not_false_eq_true]; with_reducible exact z1) | exact World.cell?_setCell_same _ _ _ ((World.cell?_setCell_far _ _ _ _ (by show w.heap.size ≠ w.heap.size + 1; omega)).trans ((World.cell?_setCell_far _ _ _ _ (by show w.heap.size ≠ w.heap.size + 1; omega)).trans z1)))
  clear hK K
  (try simp only [Act.put, List.setIfInBounds_toArray, List.set_cons_zero, List.set_cons_succ])
  refine wpAnyH_done (by kernel_rfl) ?_ _
  have hx4 : Bxs (((w3.setCell ⟨w.heap.size, 0, none⟩ (.slice a1 nh c1)).setCell ⟨w.heap.size, 1, none⟩ (.slice a2 n c2)).setCell ⟨w.heap.size + 1, 1, none⟩ (.string xth)) w.heap.size (.slice a1 nh c1) (.slice a2 n c2) ⟨xt, xth, mn⟩ := ((hx3.set0 _).set1 _).setT xth
  have hz1 := HD1.out.size
  have ht3 := (ht2.below hb3).mono (B' := w.heap.size + 3) (by omega)
  have ht4 := ((ht3.set (a := ⟨w.heap.size, 0, none⟩) (by show w.heap.size < _; omega) (.slice a1 nh c1)).set (a := ⟨w.heap.size, 1, none⟩) (by show w.heap.size < _; omega) (.slice a2 n c2)).set (a := ⟨w.heap.size + 1, 1, none⟩) (by show w.heap.size + 1 < _; omega) (.string xth)
  have hb4 := (((into (into (into HB0.out HD1.out) hb2) hb3).setCell (p := ⟨w.heap.size, 0, none⟩) (Nat.le_refl _) (.slice a1 nh c1)).setCell (p := ⟨w.heap.size, 1, none⟩) (Nat.le_refl _) (.slice a2 n c2)).setCell (p := ⟨w.heap.size + 1, 1, none⟩) (by show w.heap.size ≤ w.heap.size + 1; omega) (.string xth)
  obtain ⟨W4, hW4⟩ : ∃ W4, W4 = ((w3.setCell ⟨w.heap.size, 0, none⟩ (.slice a1 nh c1)).setCell ⟨w.heap.size, 1, none⟩ (.slice a2 n c2)).setCell ⟨w.heap.size + 1, 1, none⟩ (.string xth) := ⟨_, rfl⟩
  rw [← hW4] at hx4 ht4 hb4 ⊢
  have hrd := Rd.own ht4.h
  rw [← HL.out.1] at hrd
  have HRD := Lib.hid hrd
  have HX4 := Lib.hid hx4
  have HT4 := Lib.hid ht4
  have HB4 := Lib.hid hb4
  clear hrd hx4 ht4 hb4 ht3 ht2 hb2 hb3 hx2 hx3 x0 x1 x2 y0 y1 yf0 yf1 z0 z1 z2 zf0 zf1 zf2 e0 e1 fe0 fe1 b0 b1 b2 fb0 fb1 fb2 hW4 HCL HFR HD1 HB1 hz1
  obtain ⟨⟨x0, x1, -, -⟩, ⟨y0, y1, y2, -, -, -⟩, -⟩ := HX4.out.cells
  go_wp2_with fail
  refine (HHM.out _ _ _ HRD.out).mono ?_
  rintro e w5 ⟨rfl, hb5⟩
  have HX5 := Lib.hid (HX4.out.below hb5)
  have HT5 := Lib.hid (HT4.out.below hb5)
  have HB5 := Lib.hid (into HB4.out hb5)
  clear x0 x1 y0 y1 y2 hb5 HX4 HT4 HB4 HRD
  obtain ⟨-, ⟨-, -, y2, -, -, yf2⟩, -⟩ := HX5.out.cells
  have hj5 := hjo.out _ HB5.out
  go_wp2_with fail
  go_region
  have HX6 : Hid (Bxs (w5.setCell ⟨w.heap.size + 1, 2, none⟩ (.int .i64 jo)).drew w.heap.size (.slice a1 nh c1) (.slice a2 n c2) ⟨xt, xth, jo⟩) := (HX5.out.setM jo).below (Below.refl _ _).drew
  have HT6 : Hid (Two (w5.setCell ⟨w.heap.size + 1, 2, none⟩ (.int .i64 jo)).drew (w.heap.size + 3) (.slice a1 nh c1) (.slice a2 n c2) held l) := (HT5.out.set (a := ⟨w.heap.size + 1, 2, none⟩) (by show w.heap.size + 1 < _; omega) (.int .i64 jo)).below (Below.refl _ _).drew
  have HB6 : Hid (Below w.heap.size w (w5.setCell ⟨w.heap.size + 1, 2, none⟩ (.int .i64 jo)).drew) := (HB5.out.setCell (p := ⟨w.heap.size + 1, 2, none⟩) (by show w.heap.size ≤ w.heap.size + 1; omega) (.int .i64 jo)).drew
  obtain ⟨W6, hW6⟩ : ∃ W6, W6 = (w5.setCell ⟨w.heap.size + 1, 2, none⟩ (.int .i64 jo)).drew := ⟨_, rfl⟩
  rw [← hW6] at HX6 HT6 HB6 ⊢
  clear hW6 HX5 HT5 HB5 y2 yf2 hj5 hjo
  obtain ⟨⟨x0, x1, xf0, xf1⟩, ⟨y0, y1, y2, -, -, -⟩, ⟨z0, z1, zf0, zf1⟩⟩ := HX6.out.cells
  by_cases hjd : jo = (dn : Int)
  · have hAA : askL held l ⟨xt, xth, mn⟩ = (held, l, true, 0) := by rw [HA.out, if_pos hjd]
    have HAA := Lib.hid hAA
    subst hjd
    clear HA hAA
    obtain ⟨t0, t1⟩ := box2_set (x := .slice a1 nh c1) (y := .slice a2 n c2) z0 z1
    go_wp2_with fail
    refine bodyPost_ret (by simp [results, Tryd.results17, go_sem, t0, t1]; try rfl) rfl ?_
    have hTT := ((HT6.out.set (a := ⟨w.heap.size + 2, 0, none⟩) (by show w.heap.size + 2 < _; omega) (.slice a1 nh c1)).set (a := ⟨w.heap.size + 2, 1, none⟩) (by show w.heap.size + 2 < _; omega) (.slice a2 n c2))
    unfold AskIs
    rw [HAA.out]
    exact ⟨_, _, rfl, Rd.own hTT.h, Rd.own hTT.q, (HB6.out.setCell (by show w.heap.size ≤ w.heap.size + 2; omega) _).setCell (by show w.heap.size ≤ w.heap.size + 2; omega) _⟩
  · have hjb : (jo == (dn : Int)) = false := by simpa using hjd
    have hA2 : askL held l ⟨xt, xth, mn⟩ = if (wts held l ⟨xt, xth, jo⟩).isEmpty = true then (if 200 < (giveL held ⟨xt, xth, jo⟩).length + l.length then ([], [], false, 10) else (giveL held ⟨xt, xth, jo⟩, l, true, 0)) else if 200 < held.length + (l.length + 1) then ([], [], false, 10) else (held, l ++ [⟨xt, xth, jo⟩], false, 0) := by rw [HA.out, if_neg hjd]
    have hwf := waitsFor_any W6 (HT.out.1.below HB6.out) nh n (.slice a1 nh c1) (.slice a2 n c2) held l ⟨xt, xth, jo⟩ hupm HT.out.2 (by have := Rd.own HT6.out.h; rw [← HL.out.1] at this; exact this) (by have := Rd.own HT6.out.q; rw [← HL.out.2] at this; exact this) (by have := HL.out.1; omega) (by have := HL.out.2; omega)
    have HWF : Hid (Calls Tryd.prog 25 #[.slice a1 nh c1, .slice a2 n c2, .agg #[.int .i64 xt, .string xth, .int .i64 jo]] W6 fun e w' => ∃ (av : Option Addr) (nv cv : Nat), e = .returned (.slice av nv cv) ∧ nv = (onceL (wts held l ⟨xt, xth, jo⟩)).length ∧ Below W6.heap.size W6 w') := hwf.mono fun e w' ⟨v', g1, g2, g3⟩ => by
      obtain ⟨_, av, cv, rfl, _⟩ := Rd.own g2
      exact ⟨av, _, cv, g1, rfl, g3⟩
    have hen : (onceL (wts held l ⟨xt, xth, jo⟩)).length = 0 ↔ (wts held l ⟨xt, xth, jo⟩).isEmpty = true := onceL_len
    obtain ⟨N, hN⟩ : ∃ N, N = (onceL (wts held l ⟨xt, xth, jo⟩)).length := ⟨_, rfl⟩
    rw [← hN] at hen HWF
    have HA2 := Lib.hid hA2
    have HEN := Lib.hid hen
    clear hA2 HA hwf hen hN hjd HT
    go_wp2_with fail
    refine HWF.out.mono ?_
    rintro e w7 ⟨av, nv, cv, rfl, rfl, hb7⟩
    have HX7 := Lib.hid (HX6.out.below hb7)
    have HT7 := Lib.hid (HT6.out.below hb7)
    have HB7 := Lib.hid (into HB6.out hb7)
    clear x0 x1 xf0 xf1 y0 y1 y2 z0 z1 zf0 zf1 hb7 HX6 HT6 HB6 HWF
    obtain ⟨⟨x0, x1, xf0, xf1⟩, ⟨y0, y1, y2, -, -, -⟩, -⟩ := HX7.out.cells
    by_cases hN0 : nv = 0
    · have hA3 : askL held l ⟨xt, xth, mn⟩ = (if 200 < (giveL held ⟨xt, xth, jo⟩).length + l.length then ([], [], false, 10) else (giveL held ⟨xt, xth, jo⟩, l, true, 0)) := by rw [HA2.out, if_pos (HEN.out.1 hN0)]
      have HA3 := Lib.hid hA3
      subst hN0
      clear hA3 HA2 HEN
      have hlt7 := HX7.out.lt
      have hne7 : ∀ k, (Value.slice a1 nh c1).ownBlock = some k → w.heap.size + 3 ≤ k := fun k hk => (HT7.out.h.lt k hk).1
      have hgv := give_any w7 (w.heap.size + 3) (.slice a1 nh c1) held ⟨xt, xth, jo⟩ HT7.out.h (by omega) (by omega)
      have HGV : Hid (Calls Tryd.prog 24 #[.slice a1 nh c1, .agg #[.int .i64 xt, .string xth, .int .i64 jo]] w7 fun e w' => ∃ (a3 : Option Addr) (m3 c3 : Nat), e = .returned (.slice a3 m3 c3) ∧ m3 = (giveL held ⟨xt, xth, jo⟩).length ∧ w'.ownsRow (w.heap.size + 3) 33 3 (.slice a3 m3 c3) m3 (lkc (giveL held ⟨xt, xth, jo⟩)) ∧ w7.grownBy w' (Value.slice a1 nh c1).ownBlock) := hgv.mono fun e w' ⟨v', g1, g2, g3, _⟩ => by
        obtain ⟨_, a3, c3, rfl, _⟩ := Rd.own g2
        exact ⟨a3, _, c3, g1, rfl, g2, g3⟩
      have HGL := Lib.hid (give_len held ⟨xt, xth, jo⟩)
      clear hgv
      go_wp2_with fail
      refine HGV.out.mono ?_
      rintro e w8 ⟨a3, m3, c3, rfl, hm3, hown8, hg8⟩
      have hx8 := HX7.out.grown hg8 hne7
      have hq8 := HT7.out.q.kept hg8 (by
        cases h2 : (Value.slice a2 n c2).ownBlock with
        | none => exact .inl rfl
        | some k => exact .inr fun e => HT7.out.ne k e.symm h2)
      have hb8 := HB7.out.grown hg8 (by omega) (fun k hk => by have := hne7 k hk; omega)
      rw [← HL.out.2] at hq8
      have hx9 := hx8.set0 (.slice a3 m3 c3)
      have hq9 := ownsRow_setCell_below hq8 (a := ⟨w.heap.size, 0, none⟩) (by show w.heap.size < _; omega) (.slice a3 m3 c3)
      have ho9 := ownsRow_setCell_below hown8 (a := ⟨w.heap.size, 0, none⟩) (by show w.heap.size < _; omega) (.slice a3 m3 c3)
      have hb9 := hb8.setCell (p := ⟨w.heap.size, 0, none⟩) (Nat.le_refl _) (.slice a3 m3 c3)
      clear x0 x1 xf0 xf1 y0 y1 y2
      obtain ⟨⟨x0, x1, xf0, xf1⟩, -, -⟩ := hx8.cells
      obtain ⟨W9, hW9⟩ : ∃ W9, W9 = w8.setCell ⟨w.heap.size, 0, none⟩ (.slice a3 m3 c3) := ⟨_, rfl⟩
      rw [← hW9] at hx9 hq9 ho9 hb9
      have HX9 := Lib.hid hx9
      have HQ9 := Lib.hid hq9
      have HO9 := Lib.hid ho9
      have HB9 := Lib.hid hb9
      have HW9 := Lib.hid hW9
      have hm3b : m3 ≤ 201 := by rcases HGL.out with g | ⟨g, _⟩ <;> omega
      have hnb : n ≤ 200 := by have := HL.out.2; omega
      have HM3 := Lib.hid hm3
      clear hx9 hq9 ho9 hb9 hW9 hx8 hq8 hb8 hown8 hg8 HX7 HT7 HB7 HGV HGL hm3
      obtain ⟨⟨x0, x1, -, -⟩, -, -⟩ := HX9.out.cells
      go_wp2_with fail
      rw [← HW9.out]
      refine (tooMany_any W9 a3 a2 m3 c3 n c2 (by omega) (by omega)).mono ?_
      rintro e w10 ⟨rfl, hb10⟩
      clear x0 x1
      obtain ⟨⟨x0, x1, -, -⟩, -, ⟨z0, z1, zf0, zf1⟩⟩ := (HX9.out.below hb10).cells
      have HO10 := Lib.hid (own_below HO9.out hb10)
      have HQ10 := Lib.hid (own_below HQ9.out hb10)
      have HB10 := Lib.hid (into HB9.out hb10)
      clear hb10
      by_cases hfl : 200 < m3 + n
      · have hA4 : askL held l ⟨xt, xth, mn⟩ = ([], [], false, 10) := by rw [HA3.out, if_pos (by rw [← HM3.out, ← HL.out.2]; exact hfl)]
        have HA4 := Lib.hid hA4
        have hd1 : decide (200 < m3 + n) = true := by simp [hfl]
        obtain ⟨t0, t1⟩ := box2_set (x := .slice none 0 0) (y := .slice none 0 0) z0 z1
        clear HA3 hA4
        go_wp2_with fail
        refine bodyPost_ret (by simp [results, Tryd.results17, go_sem, t0, t1]; try rfl) rfl ?_
        unfold AskIs
        rw [HA4.out]
        exact ⟨_, _, rfl, Rd.nil _ _, Rd.nil _ _, (HB10.out.setCell (by show w.heap.size ≤ w.heap.size + 2; omega) _).setCell (by show w.heap.size ≤ w.heap.size + 2; omega) _⟩
      · have hA4 : askL held l ⟨xt, xth, mn⟩ = (giveL held ⟨xt, xth, jo⟩, l, true, 0) := by rw [HA3.out, if_neg (by rw [← HM3.out, ← HL.out.2]; exact hfl)]
        have HA4 := Lib.hid hA4
        have hd1 : decide (200 < m3 + n) = false := by simp [hfl]
        obtain ⟨t0, t1⟩ := box2_set (x := .slice a3 m3 c3) (y := .slice a2 n c2) z0 z1
        clear HA3 hA4
        go_wp2_with fail
        refine bodyPost_ret (by simp [results, Tryd.results17, go_sem, t0, t1]; try rfl) rfl ?_
        have hO := ownsRow_setCell_below (ownsRow_setCell_below HO10.out (a := ⟨w.heap.size + 2, 0, none⟩) (by show w.heap.size + 2 < _; omega) (.slice a3 m3 c3)) (a := ⟨w.heap.size + 2, 1, none⟩) (by show w.heap.size + 2 < _; omega) (.slice a2 n c2)
        have hQ := ownsRow_setCell_below (ownsRow_setCell_below HQ10.out (a := ⟨w.heap.size + 2, 0, none⟩) (by show w.heap.size + 2 < _; omega) (.slice a3 m3 c3)) (a := ⟨w.heap.size + 2, 1, none⟩) (by show w.heap.size + 2 < _; omega) (.slice a2 n c2)
        unfold AskIs
        rw [HA4.out]
        exact ⟨_, _, rfl, by rw [← HM3.out]; exact Rd.own hO, by rw [← HL.out.2]; exact Rd.own hQ, (HB10.out.setCell (by show w.heap.size ≤ w.heap.size + 2; omega) _).setCell (by show w.heap.size ≤ w.heap.size + 2; omega) _⟩
    · have hem : ¬ (wts held l ⟨xt, xth, jo⟩).isEmpty = true := fun h => hN0 (HEN.out.2 h)
      have hA3 : askL held l ⟨xt, xth, mn⟩ = (if 200 < held.length + (l.length + 1) then ([], [], false, 10) else (held, l ++ [⟨xt, xth, jo⟩], false, 0)) := by rw [HA2.out, if_neg hem]
      have HA3 := Lib.hid hA3
      have hnv : ((nv : Int) == 0) = false := by simpa using hN0
      have hnvI : ¬ (nv : Int) = 0 := by omega
      have hlt7 := HX7.out.lt
      have hnb : n ≤ 200 := by have := HL.out.2; omega
      have hnhb : nh ≤ 200 := by have := HL.out.1; omega
      have hq7 := HT7.out.q
      rw [← HL.out.2] at hq7
      have hne7 : ∀ k, (Value.slice a2 n c2).ownBlock = some k → w.heap.size + 3 ≤ k := fun k hk => (hq7.lt k hk).1
      have HQ7 := Lib.hid hq7
      clear hA3 HA2 HEN hem hN0 hq7
      go_wp2_with (at_builtin; refine apx w7 1 rfl _ _ 22 33 _ 3 32 Tryd.underlying22 Tryd.info33 rfl (by omega) rfl HQ7.out (by omega) (by omega) (by unfold maxLen; omega) [.int .i64 xt, .string xth, .int .i64 jo] rfl (by simp [Value.oneCell']) _ rfl rfl rfl ?_; intro v8 w8 hown8 _ hg8 _; obtain ⟨_, a3, c3, rfl, _⟩ := Rd.own hown8; have hx8 := HX7.out.grown hg8 hne7; obtain ⟨⟨u0, u1, uf0, uf1⟩, -, -⟩ := hx8.cells; clear x0 x1 xf0 xf1 y0 y1 y2)
      have hh8 := HT7.out.h.kept hg8 (by
        cases h1 : (Value.slice a1 nh c1).ownBlock with
        | none => exact .inl rfl
        | some k => exact .inr fun e => HT7.out.ne k h1 e.symm)
      have hb8 := HB7.out.grown hg8 (by omega) (fun k hk => by have := hne7 k hk; omega)
      rw [← HL.out.1] at hh8
      have hx9 := hx8.set1 (.slice a3 (n + 1) c3)
      have hh9 := ownsRow_setCell_below hh8 (a := ⟨w.heap.size, 1, none⟩) (by show w.heap.size < _; omega) (.slice a3 (n + 1) c3)
      have ho9 := ownsRow_setCell_below hown8 (a := ⟨w.heap.size, 1, none⟩) (by show w.heap.size < _; omega) (.slice a3 (n + 1) c3)
      have hb9 := hb8.setCell (p := ⟨w.heap.size, 1, none⟩) (Nat.le_refl _) (.slice a3 (n + 1) c3)
      obtain ⟨W9, hW9⟩ : ∃ W9, W9 = w8.setCell ⟨w.heap.size, 1, none⟩ (.slice a3 (n + 1) c3) := ⟨_, rfl⟩
      rw [← hW9] at hx9 hh9 ho9 hb9 ⊢
      have HX9 := Lib.hid hx9
      have HO9 := Lib.hid hh9
      have HQ9 := Lib.hid ho9
      have HB9 := Lib.hid hb9
      clear hx9 hh9 ho9 hb9 hW9 hx8 hh8 hb8 hown8 hg8 HX7 HT7 HB7 HQ7 hne7
      refine (tooMany_any W9 a1 a3 nh c1 (n + 1) c3 (by omega) (by omega)).mono ?_
      rintro e w10 ⟨rfl, hb10⟩
      clear u0 u1 uf0 uf1
      obtain ⟨⟨x0, x1, -, -⟩, -, ⟨z0, z1, zf0, zf1⟩⟩ := (HX9.out.below hb10).cells
      have HO10 := Lib.hid (own_below HO9.out hb10)
      have HQ10 := Lib.hid (own_below HQ9.out hb10)
      have HB10 := Lib.hid (into HB9.out hb10)
      clear hb10
      by_cases hfl : 200 < nh + (n + 1)
      · have hA4 : askL held l ⟨xt, xth, mn⟩ = ([], [], false, 10) := by rw [HA3.out, if_pos (by rw [← HL.out.1, ← HL.out.2]; exact hfl)]
        have HA4 := Lib.hid hA4
        have hd1 : decide (200 < nh + (n + 1)) = true := by simp [hfl]
        obtain ⟨t0, t1⟩ := box2_set (x := .slice none 0 0) (y := .slice none 0 0) z0 z1
        clear HA3 hA4
        go_wp2_with fail
        refine bodyPost_ret (by simp [results, Tryd.results17, go_sem, t0, t1]; try rfl) rfl ?_
        unfold AskIs
        rw [HA4.out]
        exact ⟨_, _, rfl, Rd.nil _ _, Rd.nil _ _, (HB10.out.setCell (by show w.heap.size ≤ w.heap.size + 2; omega) _).setCell (by show w.heap.size ≤ w.heap.size + 2; omega) _⟩
      · have hA4 : askL held l ⟨xt, xth, mn⟩ = (held, l ++ [⟨xt, xth, jo⟩], false, 0) := by rw [HA3.out, if_neg (by rw [← HL.out.1, ← HL.out.2]; exact hfl)]
        have HA4 := Lib.hid hA4
        have hd1 : decide (200 < nh + (n + 1)) = false := by simp [hfl]
        obtain ⟨t0, t1⟩ := box2_set (x := .slice a1 nh c1) (y := .slice a3 (n + 1) c3) z0 z1
        clear HA3 hA4
        go_wp2_with fail
        refine bodyPost_ret (by simp [results, Tryd.results17, go_sem, t0, t1]; try rfl) rfl ?_
        have hO := ownsRow_setCell_below (ownsRow_setCell_below HO10.out (a := ⟨w.heap.size + 2, 0, none⟩) (by show w.heap.size + 2 < _; omega) (.slice a1 nh c1)) (a := ⟨w.heap.size + 2, 1, none⟩) (by show w.heap.size + 2 < _; omega) (.slice a3 (n + 1) c3)
        have hQ := ownsRow_setCell_below (ownsRow_setCell_below HQ10.out (a := ⟨w.heap.size + 2, 0, none⟩) (by show w.heap.size + 2 < _; omega) (.slice a1 nh c1)) (a := ⟨w.heap.size + 2, 1, none⟩) (by show w.heap.size + 2 < _; omega) (.slice a3 (n + 1) c3)
        unfold AskIs
        rw [HA4.out]
        refine ⟨_, _, rfl, by rw [← HL.out.1]; exact Rd.own hO, ?_, (HB10.out.setCell (by show w.heap.size ≤ w.heap.size + 2; omega) _).setCell (by show w.heap.size ≤ w.heap.size + 2; omega) _⟩
        rw [List.length_append, ← HL.out.2, lkc_app]
        exact Rd.own hQ
theorem ask_any (w : World) (hT : Tog w) (hJ : Jnd w) (nh n : Nat) (hv qv : Value) (held l : List Lk) (x : Lk) (hrh : Rd w 3 nh hv (lkc held)) (hr : Rd w 3 n qv (lkc l)) (h1 : nh ≤ 1000000000000000) (h2 : n ≤ 1000000000000000) :
    Calls Tryd.prog 17 #[.agg #[hv, qv], lkv x] w (AskIs held l x w) := by
  by_cases hbad : refL held l x ≠ 0
  · exact ask_bad w hT hJ nh n hv qv held l x hrh hr h1 h2 hbad
  · have hl : lksF held l = 0 := by
      cases Decidable.em (lksF held l = 0) with
      | inl h => exact h
      | inr h => unfold refL at hbad; rw [if_pos h] at hbad; simp at hbad
    have hx : frm x = 0 := by
      cases Decidable.em (frm x = 0) with
      | inl h => exact h
      | inr h => unfold refL at hbad; rw [if_neg (by simp [hl]), if_pos h] at hbad; simp at hbad; exact hbad
    refine ask_good w hT hJ nh n hv qv held l x hrh hr h1 h2 ((okl_iff _ _).1 hl) hx ?_
    cases hq : l.any (ofB x.t)
    · rfl
    · rw [refL_ok ((okl_iff _ _).1 hl) hx, hq] at hbad
      simp at hbad
end Go.Proofs.YtpddlckkncmlmabDoor
