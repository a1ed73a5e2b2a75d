/- A tree whose pages do not know their neighbours is none: at every list of raw numbers and every two raw numbers. No condition. -/
import Derived.Test.YtacpeibkamfibaaB2
import Derived.Test.YtacpeibkamfibaaXc
import Derived.Test.YtacpeibkamfibaaXd
import Derived.Test.YtacpeibkamfibaaXt
namespace Go.Proofs.Ytacpeibkamfibaa.lTreeBad
open Go.ChangeShapes Go.WideShapes Go.ChangeAt Go.RowKit Go.Joins
open Go.ChangeMaps (open_string shut_string)
set_option linter.unusedVariables false
set_option linter.unusedSimpArgs false
set_option maxHeartbeats 400000

set_option maxRecDepth 100000 in
set_option maxHeartbeats 8000000 in
theorem walk (W : World) (n : Nat) (v : Value) (L : List Int) (hr : Rd W 1 n v (ic L)) (hz : n * 8 ≤ 140737488351232) (hs : ∀ o ∈ L, (Lit.int .i64 o).wf = true) (a : Int) (wa : (Lit.int .i64 a).wf = true) (c : Int) (wc : (Lit.int .i64 c).wf = true) :
    Calls Try.prog 12 #[v, .int .i64 a, .int .i64 c] W fun e w' => e = .returned (.bool true) ∧ Below W.heap.size W w' := by
  have HTREE := Lib.hid (tree_any W n v L hr fun x hx => rn_of (hs x hx))
  obtain ⟨_, av, cv, rfl, -⟩ := id hr
  clear hr hs
  go_enter Try.func12, Try.ntmps12
  go_wp2_with fail
  refine HTREE.out.mono ?_
  rintro e w1 ⟨ao, cap, T, rfl, hg1, hb1⟩
  obtain ⟨B', own, tight, pv, vs, hB', e9, g1⟩ := id hg1.own
  have h0 := hg1.pos
  have h3 := hg1.pages
  simp only [Value.agg.injEq, Array.mk.injEq, List.cons.injEq, and_true] at e9
  subst e9
  obtain ⟨P, cap', e8, hBP, hPs, -, -⟩ := own_hd g1.row h0
  simp only [Value.slice.injEq, true_and] at e8
  obtain ⟨rfl, e8⟩ := e8
  clear e8
  obtain ⟨l, hl⟩ : ∃ l, l = runE L (min L.length 70) := ⟨_, rfl⟩
  rw [← hl] at hg1
  obtain ⟨W1, hW1⟩ : ∃ W1 : World, W1 = w1.alloc (.cells #[.slice (some ⟨P, 0, none⟩) T.pages.length cap, .int .i64 T.root] 24) := ⟨_, rfl⟩
  have hX := TBx.new hg1
  obtain ⟨Bt, hBt⟩ : ∃ x, x = w1.heap.size := ⟨_, rfl⟩
  rw [← hW1, ← hBt] at hX
  have HB1 := Lib.hid (show Below W.heap.size W W1 by rw [hW1]; exact into hb1 (bel_al _ _))
  have HX1 := Lib.hid hX
  have HW1 := Lib.hid hW1
  have HBT := Lib.hid hBt
  have HLL := Lib.hid hl
  have HBG := Lib.hid (show W.heap.size ≤ Bt by rw [hBt]; exact hb1.size)
  have HG1 := Lib.hid (g1.below (by rw [hW1]; exact bel_al _ _ : Below w1.heap.size w1 W1) fun _ _ => rfl)
  have HLT := Lib.hid (show ∀ i p, T.pages[i]? = some p → ∀ d, vs[i * 5 + 2]? = some d → ∀ b, d.ownBlock = some b → b < Bt from fun i p hp d hd b hb => by
    obtain ⟨k', d', g', ks', c0', c1', c2', c3', c4', h1', h2', h3', h4', h5', h6', h7'⟩ := g1.pg i p hp
    rw [c2'] at hd
    injection hd with hd
    subst hd
    rw [hBt]
    exact (h5'.lt b hb).2)
  have HBW := Lib.hid (show W.heap.size ≤ B' from hB')
  have HPB := Lib.hid (show P < Bt by rw [hBt]; exact hPs)
  have HBP := Lib.hid (show B' ≤ P from hBP)
  clear g1 hB' hBP hPs hg1 hb1 hX hW1 hBt hl
  have hpa := fun (w : World) => pck_any a (T.pages.length : Int) w (rn_of wa) (by omega) (by omega)
  obtain ⟨p1, p2⟩ := pck_in a (T.pages.length : Int) (by omega)
  obtain ⟨i, hi⟩ : ∃ i : Nat, pck a (T.pages.length : Int) = (i : Int) := ⟨(pck a (T.pages.length : Int)).toNat, by omega⟩
  rw [hi] at hpa p1 p2
  have hpc := fun (w : World) => pck_any c 4 w (rn_of wc) (by omega) (by omega)
  obtain ⟨q1, q2⟩ := pck_in c 4 (by omega)
  obtain ⟨q, hq⟩ : ∃ q, q = pck c 4 := ⟨_, rfl⟩
  rw [← hq] at hpc q1 q2
  have HPA := Lib.hid hpa
  have HPC := Lib.hid hpc
  have hiN : i < T.pages.length := by omega
  have hi0 : (0 : Int) ≤ (i : Int) := by omega
  obtain ⟨pg, hpg⟩ : ∃ pg, pg = T.pages.getD i noPg := ⟨_, rfl⟩
  have hpi : T.pages[i]? = some pg := by rw [hpg, List.getD_eq_getElem?_getD, List.getElem?_eq_getElem hiN]; rfl
  obtain ⟨vk, vd, vg, ks, c0, c1, c2, c3, c4, h1, -, -, -, h5, h6, h7⟩ := HG1.out.pg i pg hpi
  obtain ⟨x0, y0⟩ := pg_cells HG1.out.row c0
  obtain ⟨x2, y2⟩ := pg_cells HG1.out.row c2
  obtain ⟨x3, y3⟩ := pg_cells HG1.out.row c3
  obtain ⟨x4, y4⟩ := pg_cells HG1.out.row c4
  obtain ⟨k0, k1, -⟩ := box2 HX1.out.x
  have hpass : Pass T := by obtain ⟨⟨h', t, r1, r2, r3⟩, r4⟩ := HX1.out.g.grown; exact reps_pass r1
  have hkl : pg.kids.length ≤ 100 := by
    have := hpass.page _ (by rw [hpg]; exact mem_at hiN : pg ∈ T.pages)
    have e1 := this.keys
    have e2 := this.kids
    split at e2 <;> omega
  have hhl : pg.high.length ≤ 100 := (hpass.page _ (by rw [hpg]; exact mem_at hiN : pg ∈ T.pages)).high
  have HBAD := Lib.hid (fun q => spoilt hpass hiN q)
  have HSM := Lib.hid (fun q => small_set HX1.out.g.small hiN (by rw [← hpg]; omega) q)
  have HPI := Lib.hid hpi
  have HPG := Lib.hid hpg
  have HC2 := Lib.hid c2
  have HH6 := Lib.hid h6
  have HDL := Lib.hid (HLT.out i pg hpi vd c2)
  have HH5 := Lib.hid h5
  have HH7 := Lib.hid h7
  obtain ⟨_, da, dc, rfl, -⟩ := Rd.own h5
  obtain ⟨ga, gc, rfl⟩ := h7.sh
  clear hpa hpc hi hq hpass hpi hpg c0 c1 c2 c3 c4 h1 h5 h6 h7
  go_wp2_with fail
  rw [← HW1.out, ← HBT.out]
  refine (HPA.out W1).mono ?_
  rintro e w' ⟨rfl, rfl⟩
  go_wp2_with fail
  refine (HPC.out W1).mono ?_
  rintro e w' ⟨rfl, rfl⟩
  have hq4 : q = 0 ∨ q = 1 ∨ q = 2 ∨ q = 3 := by omega
  clear q1 q2
  have hWP : W.heap.size ≤ P := Nat.le_trans HBW.out HBP.out
  have hPBt : P < Bt := HPB.out
  have hBts : Bt < W1.heap.size := (Array.getElem?_eq_some_iff.1 HX1.out.x).1
  have hBP := HBP.out
  rcases hq4 with rfl | rfl | rfl | rfl
  · have e0 : (W1.setCell ⟨P, i * 5 + 4, none⟩ (.int .i64 (i : Int))).cell? ⟨Bt, 0, none⟩ = some (.slice (some ⟨P, 0, none⟩) T.pages.length cap) := (World.cell?_setCell_other _ _ _ _ (by simp <;> omega)).trans k0
    have e1 : (W1.setCell ⟨P, i * 5 + 4, none⟩ (.int .i64 (i : Int))).cell? ⟨Bt, 1, none⟩ = some (.int .i64 T.root) := (World.cell?_setCell_other _ _ _ _ (by simp <;> omega)).trans k1
    have HO := Lib.hid (show OTr (W1.setCell ⟨P, i * 5 + 4, none⟩ (.int .i64 (i : Int))) W.heap.size (.agg #[.slice (some ⟨P, 0, none⟩) T.pages.length cap, .int .i64 T.root]) (spoilT 0 i T) from ⟨B', own, _, _, _, HBW.out, rfl, by have q := spoil_next HG1.out rfl HPI.out (i : Int); rw [HPG.out] at q; exact q⟩)
    have hb5 := HB1.out.setCell (p := ⟨P, i * 5 + 4, none⟩) hWP (.int .i64 (i : Int))
    obtain ⟨W5, hW5⟩ : ∃ W5, W5 = W1.setCell ⟨P, i * 5 + 4, none⟩ (.int .i64 (i : Int)) := ⟨_, rfl⟩
    have HW5 := Lib.hid hW5
    clear hW5
    go_wp2_with fail
    rw [← HW5.out] at e0 e1 HO hb5 ⊢
    clear HW5
    have HB5 := Lib.hid hb5
    have HALL := Lib.hid (fun (W' : World) (hb : Below W5.heap.size W5 W') => bad_all (HO.out.below hb) (HSM.out 0) (HBAD.out 0))
    clear hb5 x0 x2 x3 x4 y0 y2 y3 y4 k0 k1
    refine ((HALL.out _ (bel_al _ _)).1 _).mono ?_
    rintro e w6 ⟨rfl, hb6⟩
    have HB6 := Lib.hid (show Below W5.heap.size W5 w6 from into (bel_al _ _) hb6)
    have f0 := cell_of_below HB6.out e0
    have f1 := cell_of_below HB6.out e1
    clear hb6
    go_wp2_with fail
    refine ((HALL.out _ (into HB6.out (bel_al _ _))).2.1 _ 0).mono ?_
    rintro e w7 ⟨rfl, hb7⟩
    have HB7 := Lib.hid (show Below W5.heap.size W5 w7 from into (into HB6.out (bel_al _ _)) hb7)
    clear f0 f1 hb7
    have f0 := cell_al (.cells #[.slice none 0 0, .int .i64 0] 24) (cell_of_below HB7.out e0)
    have f1 := cell_al (.cells #[.slice none 0 0, .int .i64 0] 24) (cell_of_below HB7.out e1)
    go_wp2_with fail
    refine ((HALL.out _ (into HB7.out (bel_al _ _))).2.2).mono ?_
    rintro e w8 ⟨rfl, hb8⟩
    have HB8 := Lib.hid (show Below W5.heap.size W5 w8 from into (into HB7.out (bel_al _ _)) hb8)
    clear hb8
    go_wp2_with fail
    go_ret
    exact ⟨rfl, into HB5.out HB8.out⟩
  · have x3a := cell_al (.cells #[.int .u8 122, .int .u8 122, .int .u8 122] 5) x3
    have hl3 : pg.high.length ≤ 100 := hhl
    go_wp2_with (at_builtin; refine apg (W1.alloc (.cells #[.int .u8 122, .int .u8 122, .int .u8 122] 5)) pg.high.length rfl _ _ 25 5 _ 1 1 Try.underlying25 Try.info5 rfl (by omega) rfl (World.ownsRow_lit W1 #[.int .u8 122, .int .u8 122, .int .u8 122] 3 (Nat.le_refl _) (by unfold maxLen; omega) rfl) (by simp) (by omega) (by unfold maxLen; omega) (bc_one _) (HH7.out.1.below (bel_al _ _)) rfl rfl ?_)
    intro v9 w9 hown9 hb9 hg9
    obtain ⟨_, va, vc, rfl, -⟩ := Rd.own hown9
    have hb9' : Below W1.heap.size W1 w9 := (bel_al W1 _).trans hb9
    replace x3 := cell_of_below hb9' x3
    replace y3 : w9.frozen? ⟨P, i * 5 + 3, none⟩ = false := (hb9'.frozen (p := ⟨P, i * 5 + 3, none⟩) (show P < W1.heap.size by omega)).trans y3
    have hu : RB w9 (Fz B' (fun b => if b < W1.heap.size then own b else 0)) (.slice va (3 + pg.high.length) vc) (122 :: 122 :: 122 :: pg.high) := by
      have e9 : 3 + pg.high.length = (122 :: 122 :: 122 :: pg.high : Key).length := by simp; omega
      rw [e9] at hown9 ⊢
      refine ⟨Rd.own hown9, fun a' n' c' e' hn' => ?_⟩
      have q := hown9.lt _ (own_at hown9 a' n' c' e' hn')
      exact ⟨by omega, if_neg (by omega)⟩
    have e0 : (w9.setCell ⟨P, i * 5 + 3, none⟩ (.slice va (3 + pg.high.length) vc)).cell? ⟨Bt, 0, none⟩ = some (.slice (some ⟨P, 0, none⟩) T.pages.length cap) := (World.cell?_setCell_other _ _ _ _ (by simp <;> omega)).trans (cell_of_below hb9' k0)
    have e1 : (w9.setCell ⟨P, i * 5 + 3, none⟩ (.slice va (3 + pg.high.length) vc)).cell? ⟨Bt, 1, none⟩ = some (.int .i64 T.root) := (World.cell?_setCell_other _ _ _ _ (by simp <;> omega)).trans (cell_of_below hb9' k1)
    have HO := Lib.hid (show OTr (w9.setCell ⟨P, i * 5 + 3, none⟩ (.slice va (3 + pg.high.length) vc)) W.heap.size (.agg #[.slice (some ⟨P, 0, none⟩) T.pages.length cap, .int .i64 T.root]) (spoilT 1 i T) from ⟨B', _, _, _, _, HBW.out, rfl, by have q := spoil_high (HG1.out.below hb9' (own' := fun b => if b < W1.heap.size then own b else 0) fun b hb => if_pos hb) rfl HPI.out hu; rw [HPG.out] at q ⊢; exact q⟩)
    have hb5 := (into HB1.out hb9').setCell (p := ⟨P, i * 5 + 3, none⟩) hWP (.slice va (3 + pg.high.length) vc)
    clear hown9 hg9 hu hb9 hb9' x3a
    obtain ⟨W5, hW5⟩ : ∃ W5, W5 = w9.setCell ⟨P, i * 5 + 3, none⟩ (.slice va (3 + pg.high.length) vc) := ⟨_, rfl⟩
    have HW5 := Lib.hid hW5
    clear hW5
    go_wp2_with fail
    rw [← HW5.out] at e0 e1 HO hb5 ⊢
    clear HW5
    have HB5 := Lib.hid hb5
    have HALL := Lib.hid (fun (W' : World) (hb : Below W5.heap.size W5 W') => bad_all (HO.out.below hb) (HSM.out 1) (HBAD.out 1))
    clear hb5 x0 x2 x3 x4 y0 y2 y3 y4 k0 k1
    refine ((HALL.out _ (bel_al _ _)).1 _).mono ?_
    rintro e w6 ⟨rfl, hb6⟩
    have HB6 := Lib.hid (show Below W5.heap.size W5 w6 from into (bel_al _ _) hb6)
    have f0 := cell_of_below HB6.out e0
    have f1 := cell_of_below HB6.out e1
    clear hb6
    go_wp2_with fail
    refine ((HALL.out _ (into HB6.out (bel_al _ _))).2.1 _ 0).mono ?_
    rintro e w7 ⟨rfl, hb7⟩
    have HB7 := Lib.hid (show Below W5.heap.size W5 w7 from into (into HB6.out (bel_al _ _)) hb7)
    clear f0 f1 hb7
    have f0 := cell_al (.cells #[.slice none 0 0, .int .i64 0] 24) (cell_of_below HB7.out e0)
    have f1 := cell_al (.cells #[.slice none 0 0, .int .i64 0] 24) (cell_of_below HB7.out e1)
    go_wp2_with fail
    refine ((HALL.out _ (into HB7.out (bel_al _ _))).2.2).mono ?_
    rintro e w8 ⟨rfl, hb8⟩
    have HB8 := Lib.hid (show Below W5.heap.size W5 w8 from into (into HB7.out (bel_al _ _)) hb8)
    clear hb8
    go_wp2_with fail
    go_ret
    exact ⟨rfl, into HB5.out HB8.out⟩
  · have e0 : (W1.setCell ⟨P, i * 5, none⟩ (.bool !pg.leaf)).cell? ⟨Bt, 0, none⟩ = some (.slice (some ⟨P, 0, none⟩) T.pages.length cap) := (World.cell?_setCell_other _ _ _ _ (by simp <;> omega)).trans k0
    have e1 : (W1.setCell ⟨P, i * 5, none⟩ (.bool !pg.leaf)).cell? ⟨Bt, 1, none⟩ = some (.int .i64 T.root) := (World.cell?_setCell_other _ _ _ _ (by simp <;> omega)).trans k1
    have HO := Lib.hid (show OTr (W1.setCell ⟨P, i * 5, none⟩ (.bool !pg.leaf)) W.heap.size (.agg #[.slice (some ⟨P, 0, none⟩) T.pages.length cap, .int .i64 T.root]) (spoilT 2 i T) from ⟨B', own, _, _, _, HBW.out, rfl, by have q := spoil_leaf HG1.out rfl HPI.out (!pg.leaf); rw [HPG.out] at q ⊢; exact q⟩)
    have hb5 := HB1.out.setCell (p := ⟨P, i * 5, none⟩) hWP (.bool !pg.leaf)
    obtain ⟨W5, hW5⟩ : ∃ W5, W5 = W1.setCell ⟨P, i * 5, none⟩ (.bool !pg.leaf) := ⟨_, rfl⟩
    have HW5 := Lib.hid hW5
    clear hW5
    go_wp2_with fail
    rw [← HW5.out] at e0 e1 HO hb5 ⊢
    clear HW5
    have HB5 := Lib.hid hb5
    have HALL := Lib.hid (fun (W' : World) (hb : Below W5.heap.size W5 W') => bad_all (HO.out.below hb) (HSM.out 2) (HBAD.out 2))
    clear hb5 x0 x2 x3 x4 y0 y2 y3 y4 k0 k1
    refine ((HALL.out _ (bel_al _ _)).1 _).mono ?_
    rintro e w6 ⟨rfl, hb6⟩
    have HB6 := Lib.hid (show Below W5.heap.size W5 w6 from into (bel_al _ _) hb6)
    have f0 := cell_of_below HB6.out e0
    have f1 := cell_of_below HB6.out e1
    clear hb6
    go_wp2_with fail
    refine ((HALL.out _ (into HB6.out (bel_al _ _))).2.1 _ 0).mono ?_
    rintro e w7 ⟨rfl, hb7⟩
    have HB7 := Lib.hid (show Below W5.heap.size W5 w7 from into (into HB6.out (bel_al _ _)) hb7)
    clear f0 f1 hb7
    have f0 := cell_al (.cells #[.slice none 0 0, .int .i64 0] 24) (cell_of_below HB7.out e0)
    have f1 := cell_al (.cells #[.slice none 0 0, .int .i64 0] 24) (cell_of_below HB7.out e1)
    go_wp2_with fail
    refine ((HALL.out _ (into HB7.out (bel_al _ _))).2.2).mono ?_
    rintro e w8 ⟨rfl, hb8⟩
    have HB8 := Lib.hid (show Below W5.heap.size W5 w8 from into (into HB7.out (bel_al _ _)) hb8)
    clear hb8
    go_wp2_with fail
    go_ret
    exact ⟨rfl, into HB5.out HB8.out⟩
  · go_wp2_with (at_builtin; refine apx W1 1 rfl _ _ 45 3 _ 1 8 Try.underlying45 Try.info3 rfl (by omega) rfl HH5.out (show B' ≤ W1.heap.size by omega) (by omega) (by unfold maxLen; omega) [.int .i64 0] rfl (one_one rfl) W1.heap.size rfl rfl rfl ?_)
    intro v9 w9 hown9 hb9 hg9 hat9
    obtain ⟨_, va, vc, rfl, -⟩ := Rd.own hown9
    have hP9 : w9.heap[P]? = W1.heap[P]? := hg9.block P (by omega) (fun e => by
      have q := HH6.out P e.symm
      have q2 := HG1.out.tag P rfl
      omega)
    have hB9 : w9.heap[Bt]? = W1.heap[Bt]? := hg9.block Bt hBts (fun e => by have q := HDL.out Bt e.symm; omega)
    replace x2 := (World.cell?_of_block (w := W1) (w' := w9) (a := ⟨P, i * 5 + 2, none⟩) hP9).trans x2
    replace y2 := (World.frozen?_of_block (w := W1) (w' := w9) (a := ⟨P, i * 5 + 2, none⟩) hP9).trans y2
    have e0 : (w9.setCell ⟨P, i * 5 + 2, none⟩ (.slice va (pg.kids.length + 1) vc)).cell? ⟨Bt, 0, none⟩ = some (.slice (some ⟨P, 0, none⟩) T.pages.length cap) := (World.cell?_setCell_other _ _ _ _ (by simp <;> omega)).trans ((World.cell?_of_block (w := W1) (w' := w9) (a := ⟨Bt, 0, none⟩) hB9).trans k0)
    have e1 : (w9.setCell ⟨P, i * 5 + 2, none⟩ (.slice va (pg.kids.length + 1) vc)).cell? ⟨Bt, 1, none⟩ = some (.int .i64 T.root) := (World.cell?_setCell_other _ _ _ _ (by simp <;> omega)).trans ((World.cell?_of_block (w := W1) (w' := w9) (a := ⟨Bt, 1, none⟩) hB9).trans k1)
    obtain ⟨own9, hk9⟩ := spoil_kids HG1.out rfl HPI.out HC2.out hown9 hg9 hat9
    have HO := Lib.hid (show OTr (w9.setCell ⟨P, i * 5 + 2, none⟩ (.slice va (pg.kids.length + 1) vc)) W.heap.size (.agg #[.slice (some ⟨P, 0, none⟩) T.pages.length cap, .int .i64 T.root]) (spoilT 3 i T) from ⟨B', own9, _, _, _, HBW.out, rfl, by rw [HPG.out] at hk9 ⊢; exact hk9⟩)
    have hb5 := (HB1.out.trans (hb9.mono HBW.out)).setCell (p := ⟨P, i * 5 + 2, none⟩) hWP (.slice va (pg.kids.length + 1) vc)
    clear hown9 hg9 hat9 hb9 hP9 hB9 hk9
    obtain ⟨W5, hW5⟩ : ∃ W5, W5 = w9.setCell ⟨P, i * 5 + 2, none⟩ (.slice va (pg.kids.length + 1) vc) := ⟨_, rfl⟩
    have HW5 := Lib.hid hW5
    clear hW5
    go_wp2_with fail
    rw [← HW5.out] at e0 e1 HO hb5 ⊢
    clear HW5
    have HB5 := Lib.hid hb5
    have HALL := Lib.hid (fun (W' : World) (hb : Below W5.heap.size W5 W') => bad_all (HO.out.below hb) (HSM.out 3) (HBAD.out 3))
    clear hb5 x0 x2 x3 x4 y0 y2 y3 y4 k0 k1
    refine ((HALL.out _ (bel_al _ _)).1 _).mono ?_
    rintro e w6 ⟨rfl, hb6⟩
    have HB6 := Lib.hid (show Below W5.heap.size W5 w6 from into (bel_al _ _) hb6)
    have f0 := cell_of_below HB6.out e0
    have f1 := cell_of_below HB6.out e1
    clear hb6
    go_wp2_with fail
    refine ((HALL.out _ (into HB6.out (bel_al _ _))).2.1 _ 0).mono ?_
    rintro e w7 ⟨rfl, hb7⟩
    have HB7 := Lib.hid (show Below W5.heap.size W5 w7 from into (into HB6.out (bel_al _ _)) hb7)
    clear f0 f1 hb7
    have f0 := cell_al (.cells #[.slice none 0 0, .int .i64 0] 24) (cell_of_below HB7.out e0)
    have f1 := cell_al (.cells #[.slice none 0 0, .int .i64 0] 24) (cell_of_below HB7.out e1)
    go_wp2_with fail
    refine ((HALL.out _ (into HB7.out (bel_al _ _))).2.2).mono ?_
    rintro e w8 ⟨rfl, hb8⟩
    have HB8 := Lib.hid (show Below W5.heap.size W5 w8 from into (into HB7.out (bel_al _ _)) hb8)
    clear hb8
    go_wp2_with fail
    go_ret
    exact ⟨rfl, into HB5.out HB8.out⟩

set_option maxRecDepth 100000 in
theorem lifted (os : Os) (started : os.Started) (H : Type) (enc : TypeId × Value → H) :
    ReturnsInHanded {} Try.checked os 12 .any (Rows.treeBadSpec.pre6 enc Try.prog Try.f12 Rows.treeBadRow.domain false) (Rows.treeBadSpec.post enc Try.prog Try.f12 false true false false) := by
  refine returnsInHanded_of_change_sized (C := Try.checked) Try.own started (by kernel_rfl) Try.func12
    (ChangeSpec.witness6 (enc := enc) (C := Try.checked) false ⟨#[], #[.slice none 0 0, .int .i64 0, .int .i64 0], []⟩ 8 (by kernel_rfl) (by kernel_rfl) (by kernel_rfl) (by kernel_rfl)) ?_
  intro W base args ds gs before hval0 hW hcnd hsz0 _
  have hsz : (DataW.weightsEach Try.prog (Try.f12.params.toList ++ Rows.treeBadSpec.plain.varTypes Try.prog) (ds ++ gs)).all (· ≤ reachBytes) = true := hsz0
  have hval : ∀ (j : Nat) t v, Try.f12.params[j]? = some t → args[j]? = some v → Value.okWide Try.prog W .any base t v := hval0
  have hW' := hW
  obtain ⟨p, q, hA0, hV, rfl, hfz, hnd⟩ := hW
  have hA : DataW.TrodAll enc Try.prog W 0 (fun _ => true) true Try.f12.params.toList args.toList ds p := hA0
  rw [Try.params12] at hA hval hsz
  obtain ⟨v0, v1, v2, d0, d1, d2, p0, p1, p2, rfl, rfl, rfl, h0, h1, h2⟩ := trodAll_three hA
  obtain ⟨rfl, rfl⟩ := trodVars_none hV
  have sm0 : small Try.prog 45 d0 := fun q hq => by
    have := List.all_eq_true.1 hsz q (weights_each (j := 0) rfl rfl q hq)
    simpa using this
  obtain ⟨n0, l0, hr0, hz0, hs0⟩ := open_ints (hval 0 45 v0 rfl rfl) h0 sm0
  obtain ⟨a1, rfl, rfl, rfl, w1⟩ := open_int Try.underlying3 (hval 1 3 v1 rfl rfl) h1
  obtain ⟨a2, rfl, rfl, rfl, w2⟩ := open_int Try.underlying3 (hval 2 3 v2 rfl rfl) h2
  clear hA0 hval0
  refine (walk W n0 v0 l0 hr0 hz0 hs0 a1 w1 a2 w2).mono fun e W' ⟨he, hg⟩ => ?_
  subst he
  exact ⟨_, rfl, law_post (tb := 4) Try.laidOut (by kernel_rfl) (by kernel_rfl) Try.underlying4 rfl hW' hg rfl rfl rfl⟩

theorem proved : Rows.TreeBadSaid :=
  OpenClaim.holds_of_wide 12 Try.f12 rfl rfl rfl rfl rfl rfl rfl ⟨rfl, rfl, rfl, rfl, rfl⟩ rfl rfl rfl rfl rfl (by kernel_rfl) Try.func12 (by kernel_rfl)
    (of_decide_eq_true (by kernel_rfl)) (by unfold Func.isWrapper; first | (rw [if_pos (by decide +kernel)]; kernel_rfl) | (rw [if_neg (by decide +kernel)]; exact ⟨rfl, rfl⟩))
    (fun os started H enc _ => lifted os started H enc)
#print axioms proved
end Go.Proofs.Ytacpeibkamfibaa.lTreeBad
