/- When all is taken out nothing is left; what is put in then is there: at every list of raw numbers and every raw number. No condition. -/
import Derived.Test.YtacpeibkamfibaaB2
import Derived.Test.YtacpeibkamfibaaXc
import Derived.Test.YtacpeibkamfibaaXd
import Derived.Test.YtacpeibkamfibaaXe
import Derived.Test.YtacpeibkamfibaaTz
namespace Go.Proofs.Ytacpeibkamfibaa.lTreeEmpty
open Go.ChangeShapes Go.WideShapes Go.ChangeAt Go.RowKit Go.Joins
open Go.ChangeMaps (open_string shut_string)
set_option linter.unusedVariables false
set_option linter.unusedSimpArgs false
set_option maxHeartbeats 400000

set_option maxRecDepth 100000 in
set_option maxHeartbeats 8000000 in
theorem walk (W : World) (n : Nat) (v : Value) (L : List Int) (hr : Rd W 1 n v (ic L)) (hz : n * 8 ≤ 140737488351232) (hs : ∀ o ∈ L, (Lit.int .i64 o).wf = true) (a : Int) (wa : (Lit.int .i64 a).wf = true) :
    Calls Try.prog 13 #[v, .int .i64 a] W fun e w' => e = .returned (.bool true) ∧ Below W.heap.size W w' := by
  have HTREE := Lib.hid (tree_any W n v L hr fun x hx => rn_of (hs x hx))
  have HKA := Lib.hid (fun (w : World) => key_any a w (rn_of wa))
  obtain ⟨k, hk⟩ : ∃ k, k = keyK a := ⟨_, rfl⟩
  have hok : okK k := by rw [hk]; exact keyK_ok a
  rw [← hk] at HKA
  clear hk
  obtain ⟨_, av, cv, rfl, -⟩ := id hr
  clear hr hs
  go_enter Try.func13, Try.ntmps13
  go_wp2_with fail
  refine HTREE.out.mono ?_
  rintro e w1 ⟨ao, cap, T, rfl, hg1, hb1⟩
  obtain ⟨l, hl⟩ : ∃ l, l = runE L (min L.length 70) := ⟨_, rfl⟩
  rw [← hl] at hg1
  obtain ⟨W1, hW1⟩ : ∃ W1 : World, W1 = w1.alloc (.cells #[.slice ao T.pages.length cap, .int .i64 T.root] 24) := ⟨_, rfl⟩
  have hX := TBx.new hg1
  obtain ⟨Bt, hBt⟩ : ∃ x, x = w1.heap.size := ⟨_, rfl⟩
  rw [← hW1, ← hBt] at hX
  have HB1 := Lib.hid (show Below W.heap.size W W1 by rw [hW1]; exact into hb1 (bel_al _ _))
  have HX1 := Lib.hid hX
  have HW1 := Lib.hid hW1
  have HBT := Lib.hid hBt
  have HLL := Lib.hid hl
  have HBG := Lib.hid (show W.heap.size ≤ Bt by rw [hBt]; exact hb1.size)
  clear hg1 hb1 hX hW1 hBt hl
  obtain ⟨z0, z1, -⟩ := box2 HX1.out.x
  rw [HW1.out, HBT.out] at z0 z1
  go_wp2_with fail
  rw [← HW1.out, ← HBT.out]
  clear z0 z1
  refine (scan_all_o HX1.out.g).mono ?_
  rintro e wo ⟨la, ln, lc, rfl, hv, hb⟩
  have HXO := Lib.hid (HX1.out.below hb)
  have HBO := Lib.hid (into HB1.out hb)
  have HL := Lib.hid hv
  have hln : ln = l.length := by obtain ⟨_, h, -, -⟩ := hv; exact h
  have hl6 : l.length ≤ 1000000 := HXO.out.g.few_ents
  have hrise := HXO.out.g.grown.rise
  have hokk : ∀ e ∈ l, okK e.1 := fun e he => HXO.out.g.kOk he
  have HR := Lib.hid (And.intro hrise (And.intro hokk hln))
  have hln6 : ln ≤ 1000000 := by omega
  have hBW1 : Bt < W1.heap.size := (Array.getElem?_eq_some_iff.1 HX1.out.x).1
  have hWo := hb.size
  clear hv hb hln hl6 hrise hokk
  go_wp2_with fail
  go_loopw [9] (fun i wr => ∃ (j : Nat) (ao : Option Addr) (cap : Nat) (T : Tr), j ≤ ln ∧ i = .int .i64 (j : Int) ∧ Hid (TBx (Bt + 1) 70 wr Bt ao cap T (l.drop j) ∨ (j = 0 ∧ TBx W.heap.size 70 wr Bt ao cap T (l.drop j))) ∧ Hid (Agree (fun b => W1.heap.size ≤ b) wo wr) ∧ Hid (Below W.heap.size W wr) ∧ Hid (wo.heap.size ≤ wr.heap.size)) (fun i _ => ln - (intOf i).toNat)
  case atStart => exact ⟨0, ao, cap, T, by omega, rfl, .inr ⟨rfl, HXO.out⟩, fun _ _ _ => rfl, HBO.out, Nat.le_refl _⟩
  case round =>
    obtain ⟨j, ao, cap, T, hj, rfl, HT, HA, HB, HZ⟩ := hrel
    have hbase : ∃ B, W.heap.size ≤ B ∧ TBx B 70 wr Bt ao cap T (l.drop j) := by
      rcases HT.out with h | ⟨_, h⟩
      · exact ⟨_, by have := HBG.out; omega, h⟩
      · exact ⟨_, Nat.le_refl _, h⟩
    obtain ⟨B, hBw, hTX⟩ := hbase
    have HTX := Lib.hid hTX
    clear hTX
    obtain ⟨k0, k1, kf0, kf1⟩ := box2 HTX.out.x
    have hsz := HB.out.size
    have hXlt : Bt < wr.heap.size := (Array.getElem?_eq_some_iff.1 HTX.out.x).1
    by_cases hlt : (j : Int) < (ln : Int)
    · have hjl : j < l.length := by have := HR.out.2.2; omega
      obtain ⟨b, o, c, e9, -, -, q3⟩ := (HL.out.agree HA.out).v.pos (by omega)
      simp only [Value.slice.injEq] at e9
      obtain ⟨rfl, -, rfl⟩ := e9
      obtain ⟨en, hen⟩ : ∃ en, en = l[j] := ⟨_, rfl⟩
      obtain ⟨ya, yc, d1, y2, y3⟩ := q3 j en (by rw [hen]; exact List.getElem?_eq_getElem hjl)
      have hre := rise_drop HR.out.1 hjl
      have hko := HR.out.2.1 en (by rw [hen]; exact List.getElem_mem hjl)
      rw [← hen] at hre
      obtain ⟨yn, hyn⟩ : ∃ yn, yn = en.1.length := ⟨_, rfl⟩
      rw [← hyn] at d1 y3
      have HY := Lib.hid y3
      have HC := Lib.hid (fun (W' : World) (hW : Below wr.heap.size wr W') => delete_g (HTX.out.g.below hW) (y3.below hW) hko (by rw [hre.1]; rfl))
      rw [hre.2] at HC
      clear q3 y2 y3 hen hyn hre hko
      go_wp2_with fail
      refine wpT_begin2 (S := (fun wx => wx.cell? ⟨Bt, 0, none⟩ = some (.slice ao T.pages.length cap) ∧ wx.cell? ⟨Bt, 1, none⟩ = some (.int .i64 T.root) ∧ wx.cell? ⟨b, o + j * 2, none⟩ = some (.slice ya yn yc) ∧ Below wr.heap.size wr wx)) [11] (by kernel_rfl) ?_ (fun Wd hHeld => ?_)
      · (try dsimp only)
        exact ⟨cell_dr k0, cell_dr k1, cell_dr d1, (Below.refl _ _).drew⟩
      have hbd := hHeld.2.2.2
      refine wpAnyT_take (i := 0) (oi := _) (v := ?_) rfl (by kernel_rfl) (by kernel_rfl) (by kernel_rfl) (by kernel_rfl) (fun _ _ _ h => h) (Or.inl ⟨by rfl, ?_⟩) (by assumption) ?_
      rotate_left
      · (intro w hSw; (try dsimp only at hSw); go_simp)
        all_goals (with_reducible rfl)
      (try simp only [List.getElem_toArray, List.getElem_cons_zero, List.getElem_cons_succ, Act.put, List.setIfInBounds_toArray, List.set_cons_zero, List.set_cons_succ])
      refine wpAnyT_pure (i := 1) (oi := _) (v := ?_) rfl (by kernel_rfl) (by kernel_rfl) (by kernel_rfl) (by kernel_rfl) (fun _ _ _ h => h) (Or.inl ⟨by rfl, ?_⟩) (fun _ => by assumption) ?_
      rotate_left
      · (intro w hSw; go_simp)
        all_goals (with_reducible rfl)
      (try simp only [List.getElem_toArray, List.getElem_cons_zero, List.getElem_cons_succ, Act.put, List.setIfInBounds_toArray, List.set_cons_zero, List.set_cons_succ])
      refine wpAnyT_pure (i := 2) (oi := _) (v := ?_) rfl (by kernel_rfl) (by kernel_rfl) (by kernel_rfl) (by kernel_rfl) (fun _ _ _ h => h) (Or.inl ⟨by rfl, ?_⟩) (fun _ => by assumption) ?_
      rotate_left
      · (intro w hSw; go_simp)
        all_goals (with_reducible rfl)
      (try simp only [List.getElem_toArray, List.getElem_cons_zero, List.getElem_cons_succ, Act.put, List.setIfInBounds_toArray, List.set_cons_zero, List.set_cons_succ])
      refine wpAnyT_pure (i := 3) (oi := _) (v := ?_) rfl (by kernel_rfl) (by kernel_rfl) (by kernel_rfl) (by kernel_rfl) (fun _ _ _ h => h) (Or.inl ⟨by rfl, ?_⟩) (fun _ => by assumption) ?_
      rotate_left
      · (intro w hSw; go_simp)
        all_goals (with_reducible rfl)
      (try simp only [List.getElem_toArray, List.getElem_cons_zero, List.getElem_cons_succ, Act.put, List.setIfInBounds_toArray, List.set_cons_zero, List.set_cons_succ])
      refine wpAnyT_pure (i := 4) (oi := _) (v := ?_) rfl (by kernel_rfl) (by kernel_rfl) (by kernel_rfl) (by kernel_rfl) (fun _ _ _ h => h) (Or.inl ⟨by rfl, ?_⟩) (fun _ => by assumption) ?_
      rotate_left
      · (intro w hSw; go_simp)
        all_goals (with_reducible rfl)
      (try simp only [List.getElem_toArray, List.getElem_cons_zero, List.getElem_cons_succ, Act.put, List.setIfInBounds_toArray, List.set_cons_zero, List.set_cons_succ])
      refine wpAnyT_take (i := 5) (oi := _) (v := ?_) rfl (by kernel_rfl) (by kernel_rfl) (by kernel_rfl) (by kernel_rfl) (fun _ _ _ h => h) (Or.inl ⟨by rfl, ?_⟩) (by assumption) ?_
      rotate_left
      · (intro w hSw; (try dsimp only at hSw); go_simp)
        all_goals (with_reducible rfl)
      (try simp only [List.getElem_toArray, List.getElem_cons_zero, List.getElem_cons_succ, Act.put, List.setIfInBounds_toArray, List.set_cons_zero, List.set_cons_succ])
      refine wpAnyT_ready (rs := [6, 10]) (by kernel_rfl) (by simp) ?_
      refine AllReadyT.cons rfl (fun K hK => ?_) (AllReadyT.cons rfl (fun K hK => ?_) AllReadyT.nil)
      · skip
        go_simp
        (go_at_call 27; refine (HC.out _ hHeld.2.2.2).mono ?_; rintro e w6 ⟨ao6, cap6, T6, rfl, hg6, hbc⟩; have hz6 := hbc.size; (try simp only [World.size_alloc] at hz6); (try replace hbx := (hbc.block _ (Array.getElem?_eq_some_iff.1 hbx).1).trans hbx))
        go_wp2_with fail
        refine hK.out _ _ (fun _ => ?_) (fun hHeld0 => ?_)
        · (try dsimp only)
          exact ⟨cell_bel hbc (hHeld.1), cell_bel hbc (hHeld.2.1), cell_bel hbc (hHeld.2.2.1), Below.trans (hHeld.2.2.2) (hbc.mono (hHeld.2.2.2).size)⟩
        have hHeld1 := hHeld0 (by kernel_rfl)
        clear hK K hHeld0
        have hb6 := hHeld1.2.2.2
        clear hHeld; have hHeld := hHeld1; clear hHeld1
        (try simp only [List.getElem_toArray, List.getElem_cons_zero, List.getElem_cons_succ, Act.put, List.setIfInBounds_toArray, List.set_cons_zero, List.set_cons_succ])
        refine wpAnyT_pure (i := 7) (oi := _) (v := ?_) rfl (by kernel_rfl) (by kernel_rfl) (by kernel_rfl) (by kernel_rfl) (fun _ _ _ h => h) (Or.inl ⟨by rfl, ?_⟩) (fun _ => by assumption) ?_
        rotate_left
        · (intro w hSw; go_simp)
          all_goals (with_reducible rfl)
        (try simp only [List.getElem_toArray, List.getElem_cons_zero, List.getElem_cons_succ, Act.put, List.setIfInBounds_toArray, List.set_cons_zero, List.set_cons_succ])
        refine wpAnyT_pure (i := 8) (oi := _) (v := ?_) rfl (by kernel_rfl) (by kernel_rfl) (by kernel_rfl) (by kernel_rfl) (fun _ _ _ h => h) (Or.inl ⟨by rfl, ?_⟩) (fun _ => by assumption) ?_
        rotate_left
        · (intro w hSw; go_simp)
          all_goals (with_reducible rfl)
        (try simp only [List.getElem_toArray, List.getElem_cons_zero, List.getElem_cons_succ, Act.put, List.setIfInBounds_toArray, List.set_cons_zero, List.set_cons_succ])
        refine wpAnyT_pure (i := 9) (oi := _) (v := ?_) rfl (by kernel_rfl) (by kernel_rfl) (by kernel_rfl) (by kernel_rfl) (fun _ _ _ h => h) (Or.inl ⟨by rfl, ?_⟩) (fun _ => by assumption) ?_
        rotate_left
        · (intro w hSw; go_simp)
          all_goals (with_reducible rfl)
        (try simp only [List.getElem_toArray, List.getElem_cons_zero, List.getElem_cons_succ, Act.put, List.setIfInBounds_toArray, List.set_cons_zero, List.set_cons_succ])
        refine wpAnyT_ready (rs := [10]) (by kernel_rfl) (by simp) ?_
        refine AllReadyT.cons rfl (fun K hK => ?_) AllReadyT.nil
        go_simp
        refine hK.out _ _ (fun _ => ?_) (fun hHeld0 => ?_)
        · (try dsimp only)
          (first | (with_reducible exact hHeld) | (with_reducible exact ⟨cell_al _ (hHeld.1), cell_al _ (hHeld.2.1), cell_al _ (hHeld.2.2.1), Below.alloc (hHeld.2.2.2) (hHeld.2.2.2).size _⟩))
        have hHeld1 := hHeld0 (by kernel_rfl)
        clear hK K hHeld0
        (have hbx := alloc_of hHeld1.2.2.2)
        clear hHeld; have hHeld := hHeld1; clear hHeld1
        (try simp only [List.getElem_toArray, List.getElem_cons_zero, List.getElem_cons_succ, Act.put, List.setIfInBounds_toArray, List.set_cons_zero, List.set_cons_succ])
        refine wpAnyT_ready (rs := [11]) (by kernel_rfl) (by simp) ?_
        refine AllReadyT.cons rfl (fun K hK => ?_) AllReadyT.nil
        obtain ⟨b0, b1, bf0, bf1⟩ := box2 hbx
        go_simp
        refine hK.out _ _ (noneB_off (by kernel_rfl)) (fun _ => ?_)
        clear hK K
        (try simp only [List.getElem_toArray, List.getElem_cons_zero, List.getElem_cons_succ, Act.put, List.setIfInBounds_toArray, List.set_cons_zero, List.set_cons_succ])
        refine wpAnyT_ready (rs := [12]) (by kernel_rfl) (by simp) ?_
        refine AllReadyT.cons rfl (fun K hK => ?_) AllReadyT.nil
        go_simp
        refine hK.out _ _ (noneB_off (by kernel_rfl)) (fun _ => ?_)
        clear hK K
        (try simp only [List.getElem_toArray, List.getElem_cons_zero, List.getElem_cons_succ, Act.put, List.setIfInBounds_toArray, List.set_cons_zero, List.set_cons_succ])
        refine wpAnyT_done (by kernel_rfl) ?_ _
        (try clear b0 b1 bf0 bf1)
        first
          | refine gen_two (P := fun w => (_ : Exit → Act → World → Prop) Exit.normal _ w) hbx (fun W9 hx9 hz9 hf9 hB9 => ?_)
          | refine gen_new (P := fun w => (_ : Exit → Act → World → Prop) Exit.normal _ w) (fun W9 hx9 hz9 hf9 hB9 => ?_)
        have hb9 : Below wr.heap.size wr W9 := hB9 _ _ (by have := hb6.size; have := hbd.size; omega) hb6
        have hxt9 := (hb9.block Bt hXlt).trans HTX.out.x
        obtain ⟨z0, z1, zf0, zf1⟩ := box2 hxt9
        obtain ⟨x90, x91, -⟩ := box2 hx9
        have hg9 : ∀ W' : World, (∀ b, b ≠ Bt → W'.heap[b]? = W9.heap[b]?) → W9.heap.size ≤ W'.heap.size → GT (Bt + 1) 70 W' (.agg #[.slice ao6 T6.pages.length cap6, .int .i64 T6.root]) T6 (l.drop (j + 1)) := fun W' hW hz => by
          have hsz6 := hz6
          have hsd := hbd.size
          exact hg6.land (W := W') (B' := Bt + 1) (by (try simp only [World.size_alloc]); omega) (fun b h1 h2 => (hW b (by (try simp only [World.size_alloc] at h1); omega)).trans (hf9 b (by (try simp only [World.size_alloc] at h1); omega))) (by omega)
        have HG9 := Lib.hid hg9
        have HB9 := Lib.hid hb9
        have HX9 := Lib.hid hxt9
        clear hx9 hz9 hf9 hB9 hb9 hg9 hxt9 hHeld hb6 hbd hg6 hbc hz6
        (try clear hbx)
        go_wp2_with fail
        go_roundw
        case rel => exact ⟨j + 1, ao6, cap6, T6, by omega, by go_num, .inl ⟨HG9.out _ (fun b hb => two_far hb) (by simp), two_heap HX9.out⟩, fun b hb hlt => by have h0 : W1.heap.size ≤ b := hb; have h1 := HZ.out; rw [two_far (show b ≠ Bt by omega)]; exact (HB9.out.block b (by omega)).trans (HA.out b hb hlt), ((HB.out.trans (HB9.out.mono hsz)).setCell (p := ⟨Bt, 0, none⟩) HBG.out _).setCell (p := ⟨Bt, 1, none⟩) HBG.out _, Lib.hid (by have h1 := HZ.out; have h2 := HB9.out.size; simp only [World.size_setCell]; omega)⟩
        case measure => simp [intOf]; omega
      · skip
        go_simp
        refine hK.out _ _ (fun _ => ?_) (fun hHeld0 => ?_)
        · (try dsimp only)
          (first | (with_reducible exact hHeld) | (with_reducible exact ⟨cell_al _ (hHeld.1), cell_al _ (hHeld.2.1), cell_al _ (hHeld.2.2.1), Below.alloc (hHeld.2.2.2) (hHeld.2.2.2).size _⟩))
        have hHeld1 := hHeld0 (by kernel_rfl)
        clear hK K hHeld0
        (have hbx := alloc_of hHeld1.2.2.2)
        clear hHeld; have hHeld := hHeld1; clear hHeld1
        (try simp only [List.getElem_toArray, List.getElem_cons_zero, List.getElem_cons_succ, Act.put, List.setIfInBounds_toArray, List.set_cons_zero, List.set_cons_succ])
        refine wpAnyT_ready (rs := [6]) (by kernel_rfl) (by simp) ?_
        refine AllReadyT.cons rfl (fun K hK => ?_) AllReadyT.nil
        go_simp
        (go_at_call 27; refine (HC.out _ hHeld.2.2.2).mono ?_; rintro e w6 ⟨ao6, cap6, T6, rfl, hg6, hbc⟩; have hz6 := hbc.size; (try simp only [World.size_alloc] at hz6); (try replace hbx := (hbc.block _ (Array.getElem?_eq_some_iff.1 hbx).1).trans hbx))
        go_wp2_with fail
        refine hK.out _ _ (fun _ => ?_) (fun hHeld0 => ?_)
        · (try dsimp only)
          exact ⟨cell_bel hbc (hHeld.1), cell_bel hbc (hHeld.2.1), cell_bel hbc (hHeld.2.2.1), Below.trans (hHeld.2.2.2) (hbc.mono (hHeld.2.2.2).size)⟩
        have hHeld1 := hHeld0 (by kernel_rfl)
        clear hK K hHeld0
        have hb6 := hHeld1.2.2.2
        clear hHeld; have hHeld := hHeld1; clear hHeld1
        (try simp only [List.getElem_toArray, List.getElem_cons_zero, List.getElem_cons_succ, Act.put, List.setIfInBounds_toArray, List.set_cons_zero, List.set_cons_succ])
        refine wpAnyT_pure (i := 7) (oi := _) (v := ?_) rfl (by kernel_rfl) (by kernel_rfl) (by kernel_rfl) (by kernel_rfl) (fun _ _ _ h => h) (Or.inl ⟨by rfl, ?_⟩) (fun _ => by assumption) ?_
        rotate_left
        · (intro w hSw; go_simp)
          all_goals (with_reducible rfl)
        (try simp only [List.getElem_toArray, List.getElem_cons_zero, List.getElem_cons_succ, Act.put, List.setIfInBounds_toArray, List.set_cons_zero, List.set_cons_succ])
        refine wpAnyT_pure (i := 8) (oi := _) (v := ?_) rfl (by kernel_rfl) (by kernel_rfl) (by kernel_rfl) (by kernel_rfl) (fun _ _ _ h => h) (Or.inl ⟨by rfl, ?_⟩) (fun _ => by assumption) ?_
        rotate_left
        · (intro w hSw; go_simp)
          all_goals (with_reducible rfl)
        (try simp only [List.getElem_toArray, List.getElem_cons_zero, List.getElem_cons_succ, Act.put, List.setIfInBounds_toArray, List.set_cons_zero, List.set_cons_succ])
        refine wpAnyT_pure (i := 9) (oi := _) (v := ?_) rfl (by kernel_rfl) (by kernel_rfl) (by kernel_rfl) (by kernel_rfl) (fun _ _ _ h => h) (Or.inl ⟨by rfl, ?_⟩) (fun _ => by assumption) ?_
        rotate_left
        · (intro w hSw; go_simp)
          all_goals (with_reducible rfl)
        (try simp only [List.getElem_toArray, List.getElem_cons_zero, List.getElem_cons_succ, Act.put, List.setIfInBounds_toArray, List.set_cons_zero, List.set_cons_succ])
        refine wpAnyT_ready (rs := [11]) (by kernel_rfl) (by simp) ?_
        refine AllReadyT.cons rfl (fun K hK => ?_) AllReadyT.nil
        obtain ⟨b0, b1, bf0, bf1⟩ := box2 hbx
        go_simp
        refine hK.out _ _ (noneB_off (by kernel_rfl)) (fun _ => ?_)
        clear hK K
        (try simp only [List.getElem_toArray, List.getElem_cons_zero, List.getElem_cons_succ, Act.put, List.setIfInBounds_toArray, List.set_cons_zero, List.set_cons_succ])
        refine wpAnyT_ready (rs := [12]) (by kernel_rfl) (by simp) ?_
        refine AllReadyT.cons rfl (fun K hK => ?_) AllReadyT.nil
        go_simp
        refine hK.out _ _ (noneB_off (by kernel_rfl)) (fun _ => ?_)
        clear hK K
        (try simp only [List.getElem_toArray, List.getElem_cons_zero, List.getElem_cons_succ, Act.put, List.setIfInBounds_toArray, List.set_cons_zero, List.set_cons_succ])
        refine wpAnyT_done (by kernel_rfl) ?_ _
        (try clear b0 b1 bf0 bf1)
        first
          | refine gen_two (P := fun w => (_ : Exit → Act → World → Prop) Exit.normal _ w) hbx (fun W9 hx9 hz9 hf9 hB9 => ?_)
          | refine gen_new (P := fun w => (_ : Exit → Act → World → Prop) Exit.normal _ w) (fun W9 hx9 hz9 hf9 hB9 => ?_)
        have hb9 : Below wr.heap.size wr W9 := hB9 _ _ (by have := hb6.size; have := hbd.size; omega) hb6
        have hxt9 := (hb9.block Bt hXlt).trans HTX.out.x
        obtain ⟨z0, z1, zf0, zf1⟩ := box2 hxt9
        obtain ⟨x90, x91, -⟩ := box2 hx9
        have hg9 : ∀ W' : World, (∀ b, b ≠ Bt → W'.heap[b]? = W9.heap[b]?) → W9.heap.size ≤ W'.heap.size → GT (Bt + 1) 70 W' (.agg #[.slice ao6 T6.pages.length cap6, .int .i64 T6.root]) T6 (l.drop (j + 1)) := fun W' hW hz => by
          have hsz6 := hz6
          have hsd := hbd.size
          exact hg6.land (W := W') (B' := Bt + 1) (by (try simp only [World.size_alloc]); omega) (fun b h1 h2 => (hW b (by (try simp only [World.size_alloc] at h1); omega)).trans (hf9 b (by (try simp only [World.size_alloc] at h1); omega))) (by omega)
        have HG9 := Lib.hid hg9
        have HB9 := Lib.hid hb9
        have HX9 := Lib.hid hxt9
        clear hx9 hz9 hf9 hB9 hb9 hg9 hxt9 hHeld hb6 hbd hg6 hbc hz6
        (try clear hbx)
        go_wp2_with fail
        go_roundw
        case rel => exact ⟨j + 1, ao6, cap6, T6, by omega, by go_num, .inl ⟨HG9.out _ (fun b hb => two_far hb) (by simp), two_heap HX9.out⟩, fun b hb hlt => by have h0 : W1.heap.size ≤ b := hb; have h1 := HZ.out; rw [two_far (show b ≠ Bt by omega)]; exact (HB9.out.block b (by omega)).trans (HA.out b hb hlt), ((HB.out.trans (HB9.out.mono hsz)).setCell (p := ⟨Bt, 0, none⟩) HBG.out _).setCell (p := ⟨Bt, 1, none⟩) HBG.out _, Lib.hid (by have h1 := HZ.out; have h2 := HB9.out.size; simp only [World.size_setCell]; omega)⟩
        case measure => simp [intOf]; omega
    · obtain rfl : j = ln := by omega
      have hnil : l.drop j = [] := List.drop_of_length_le (by rw [HR.out.2.2]; exact Nat.le_refl _)
      rw [hnil] at HTX
      go_wp2_with fail
      refine (scan_all_v HTX.out.g).mono ?_
      rintro e w3 ⟨sa, sn, sc, rfl, hv3, hb3⟩
      obtain ⟨-, hsn, -, -⟩ := hv3
      simp only [List.length_nil] at hsn
      subst hsn
      have HX3 := Lib.hid (HTX.out.below hb3)
      have HB3 := Lib.hid (into HB.out hb3)
      clear hb3 k0 k1 kf0 kf1
      obtain ⟨k0, k1, -⟩ := box2 HX3.out.x
      go_wp2_with fail
      refine (above_none HX3.out.g (rb_nil w3) (by simp) rfl).mono ?_
      rintro e w4 ⟨rfl, hb4⟩
      obtain ⟨W4, hW4⟩ : ∃ W4 : World, W4 = w4.alloc (.cells #[.slice none 0 0, .int .i64 0] 36) := ⟨_, rfl⟩
      have hb5 : Below w3.heap.size w3 W4 := by rw [hW4]; exact into hb4 (bel_al _ _)
      have HX4 := Lib.hid (HX3.out.below hb5)
      have HB4 := Lib.hid (into HB3.out hb5)
      have HW4 := Lib.hid hW4
      clear hb4 hb5 k0 k1
      obtain ⟨k0, k1, -⟩ := box2 HX4.out.x
      rw [hW4] at k0 k1
      clear hW4
      have HC := Lib.hid (fun (W' : World) (kv : Value) (ok' : Nat → Prop) (hW : Below W4.heap.size W4 W') (hk : RB W' ok' kv k) => insert_g (HX4.out.g.below hW) (by omega) hk hok (row := 7) (by omega) rfl)
      go_wp2_with fail
      rw [← HW4.out] at k0 k1 ⊢
      refine wpT_begin2 (S := (fun wx => wx.cell? ⟨Bt, 0, none⟩ = some (.slice ao T.pages.length cap) ∧ wx.cell? ⟨Bt, 1, none⟩ = some (.int .i64 T.root) ∧ Below W4.heap.size W4 wx)) [8] (by kernel_rfl) ?_ (fun Wd hHeld => ?_)
      · (try dsimp only)
        exact ⟨cell_dr k0, cell_dr k1, (Below.refl _ _).drew⟩
      have hbd := hHeld.2.2
      refine wpAnyT_take (i := 0) (oi := _) (v := ?_) rfl (by kernel_rfl) (by kernel_rfl) (by kernel_rfl) (by kernel_rfl) (fun _ _ _ h => h) (Or.inl ⟨by rfl, ?_⟩) (by assumption) ?_
      rotate_left
      · (intro w hSw; (try dsimp only at hSw); go_simp)
        all_goals (with_reducible rfl)
      (try simp only [List.getElem_toArray, List.getElem_cons_zero, List.getElem_cons_succ, Act.put, List.setIfInBounds_toArray, List.set_cons_zero, List.set_cons_succ])
      refine wpAnyT_pure (i := 1) (oi := _) (v := ?_) rfl (by kernel_rfl) (by kernel_rfl) (by kernel_rfl) (by kernel_rfl) (fun _ _ _ h => h) (Or.inl ⟨by rfl, ?_⟩) (fun _ => by assumption) ?_
      rotate_left
      · (intro w hSw; go_simp)
        all_goals (with_reducible rfl)
      (try simp only [List.getElem_toArray, List.getElem_cons_zero, List.getElem_cons_succ, Act.put, List.setIfInBounds_toArray, List.set_cons_zero, List.set_cons_succ])
      refine wpAnyT_ready (rs := [2, 7]) (by kernel_rfl) (by simp) ?_
      refine AllReadyT.cons rfl (fun K hK => ?_) (AllReadyT.cons rfl (fun K hK => ?_) AllReadyT.nil)
      · skip
        go_simp
        (go_at_call 30; refine (HKA.out _).mono ?_; rintro e w5 ⟨ka, kc, rfl, hkr, hbc⟩; have hz5 := hbc.size; (try simp only [World.size_alloc] at hz5); (try replace hbx := (hbc.block _ (Array.getElem?_eq_some_iff.1 hbx).1).trans hbx))
        go_wp2_with fail
        refine hK.out _ _ (fun _ => ?_) (fun hHeld0 => ?_)
        · (try dsimp only)
          exact ⟨cell_bel hbc (hHeld.1), cell_bel hbc (hHeld.2.1), Below.trans (hHeld.2.2) (hbc.mono (hHeld.2.2).size)⟩
        have hHeld1 := hHeld0 (by kernel_rfl)
        clear hK K hHeld0
        have hb5 := hHeld1.2.2
        clear hHeld; have hHeld := hHeld1; clear hHeld1
        (try simp only [List.getElem_toArray, List.getElem_cons_zero, List.getElem_cons_succ, Act.put, List.setIfInBounds_toArray, List.set_cons_zero, List.set_cons_succ])
        refine wpAnyT_ready (rs := [3, 7]) (by kernel_rfl) (by simp) ?_
        refine AllReadyT.cons rfl (fun K hK => ?_) (AllReadyT.cons rfl (fun K hK => ?_) AllReadyT.nil)
        · skip
          go_simp
          (go_at_call 25; refine (HC.out _ _ _ hHeld.2.2 hkr).mono ?_; rintro e w6 ⟨ao6, cap6, T6, rfl, hg6, hbc⟩; have hz6 := hbc.size; (try replace hbx := (hbc.block _ (Array.getElem?_eq_some_iff.1 hbx).1).trans hbx))
          go_wp2_with fail
          refine hK.out _ _ (fun _ => ?_) (fun hHeld0 => ?_)
          · (try dsimp only)
            exact ⟨cell_bel hbc (hHeld.1), cell_bel hbc (hHeld.2.1), Below.trans (hHeld.2.2) (hbc.mono (hHeld.2.2).size)⟩
          have hHeld1 := hHeld0 (by kernel_rfl)
          clear hK K hHeld0
          have hb6 := hHeld1.2.2
          clear hHeld; have hHeld := hHeld1; clear hHeld1
          (try simp only [List.getElem_toArray, List.getElem_cons_zero, List.getElem_cons_succ, Act.put, List.setIfInBounds_toArray, List.set_cons_zero, List.set_cons_succ])
          refine wpAnyT_pure (i := 4) (oi := _) (v := ?_) rfl (by kernel_rfl) (by kernel_rfl) (by kernel_rfl) (by kernel_rfl) (fun _ _ _ h => h) (Or.inl ⟨by rfl, ?_⟩) (fun _ => by assumption) ?_
          rotate_left
          · (intro w hSw; go_simp)
            all_goals (with_reducible rfl)
          (try simp only [List.getElem_toArray, List.getElem_cons_zero, List.getElem_cons_succ, Act.put, List.setIfInBounds_toArray, List.set_cons_zero, List.set_cons_succ])
          refine wpAnyT_pure (i := 5) (oi := _) (v := ?_) rfl (by kernel_rfl) (by kernel_rfl) (by kernel_rfl) (by kernel_rfl) (fun _ _ _ h => h) (Or.inl ⟨by rfl, ?_⟩) (fun _ => by assumption) ?_
          rotate_left
          · (intro w hSw; go_simp)
            all_goals (with_reducible rfl)
          (try simp only [List.getElem_toArray, List.getElem_cons_zero, List.getElem_cons_succ, Act.put, List.setIfInBounds_toArray, List.set_cons_zero, List.set_cons_succ])
          refine wpAnyT_pure (i := 6) (oi := _) (v := ?_) rfl (by kernel_rfl) (by kernel_rfl) (by kernel_rfl) (by kernel_rfl) (fun _ _ _ h => h) (Or.inl ⟨by rfl, ?_⟩) (fun _ => by assumption) ?_
          rotate_left
          · (intro w hSw; go_simp)
            all_goals (with_reducible rfl)
          (try simp only [List.getElem_toArray, List.getElem_cons_zero, List.getElem_cons_succ, Act.put, List.setIfInBounds_toArray, List.set_cons_zero, List.set_cons_succ])
          refine wpAnyT_ready (rs := [7]) (by kernel_rfl) (by simp) ?_
          refine AllReadyT.cons rfl (fun K hK => ?_) AllReadyT.nil
          go_simp
          refine hK.out _ _ (fun _ => ?_) (fun hHeld0 => ?_)
          · (try dsimp only)
            (first | (with_reducible exact hHeld) | (with_reducible exact ⟨cell_al _ (hHeld.1), cell_al _ (hHeld.2.1), Below.alloc (hHeld.2.2) (hHeld.2.2).size _⟩))
          have hHeld1 := hHeld0 (by kernel_rfl)
          clear hK K hHeld0
          (have hbx := alloc_of hHeld1.2.2); (try replace hkr := hkr.below (al_of hHeld1.2.2))
          clear hHeld; have hHeld := hHeld1; clear hHeld1
          (try simp only [List.getElem_toArray, List.getElem_cons_zero, List.getElem_cons_succ, Act.put, List.setIfInBounds_toArray, List.set_cons_zero, List.set_cons_succ])
          refine wpAnyT_ready (rs := [8]) (by kernel_rfl) (by simp) ?_
          refine AllReadyT.cons rfl (fun K hK => ?_) AllReadyT.nil
          obtain ⟨b0, b1, bf0, bf1⟩ := box2 hbx
          go_simp
          refine hK.out _ _ (noneB_off (by kernel_rfl)) (fun _ => ?_)
          clear hK K
          (try simp only [List.getElem_toArray, List.getElem_cons_zero, List.getElem_cons_succ, Act.put, List.setIfInBounds_toArray, List.set_cons_zero, List.set_cons_succ])
          refine wpAnyT_ready (rs := [9]) (by kernel_rfl) (by simp) ?_
          refine AllReadyT.cons rfl (fun K hK => ?_) AllReadyT.nil
          go_simp
          refine hK.out _ _ (noneB_off (by kernel_rfl)) (fun _ => ?_)
          clear hK K
          (try simp only [List.getElem_toArray, List.getElem_cons_zero, List.getElem_cons_succ, Act.put, List.setIfInBounds_toArray, List.set_cons_zero, List.set_cons_succ])
          refine wpAnyT_done (by kernel_rfl) ?_ _
          (try clear b0 b1 bf0 bf1)
          first
            | refine gen_two (P := fun w => (_ : Exit → Act → World → Prop) Exit.normal _ w) hbx (fun W9 hx9 hz9 hf9 hB9 => ?_)
            | refine gen_new (P := fun w => (_ : Exit → Act → World → Prop) Exit.normal _ w) (fun W9 hx9 hz9 hf9 hB9 => ?_)
          have hb9 : Below W4.heap.size W4 W9 := hB9 _ _ (by have := hb6.size; have := hb5.size; have := hbd.size; omega) hb6
          have hg9 : GT W.heap.size 71 W9 (.agg #[.slice ao6 T6.pages.length cap6, .int .i64 T6.root]) T6 (insE k 7 []) := by
            have hsz6 := hz6
            have hsd := hbd.size
            have hs5 := hb5.size
            have hs4 := HB4.out.size
            (try simp only [World.size_alloc] at hsz6)
            exact hg6.land (W := W9) (B' := W.heap.size) (by (try simp only [World.size_alloc]); omega) (fun b h1 h2 => hf9 b (by (try simp only [World.size_alloc] at h1); omega)) (by omega)
          have HG9 := Lib.hid hg9
          have HB9 := Lib.hid (HB4.out.trans (hb9.mono HB4.out.size))
          have HX9 := Lib.hid hx9
          have hlk : lookE k (insE k 7 []) = some 7 := lookE_some (by simp [insE, Rise]) (by simp [insE])
          have HFD := Lib.hid (fun (W' : World) (kv : Value) (ok' : Nat → Prop) (hW : Below W9.heap.size W9 W') (hk : RB W' ok' kv k) => (show Calls Try.prog 31 #[.agg #[.slice ao6 T6.pages.length cap6, .int .i64 T6.root], kv] W' (Two 7 0 W') from by have q := find_g (HG9.out.below hW) hk hok; rw [hlk] at q; exact q))
          obtain ⟨x0, x1, -⟩ := box2 hx9
          clear hlk hx9 hz9 hf9 hB9 hb9 hg9 hHeld hb5 hb6 hbd hg6 hbc hz5 hz6 hkr
          (try clear hbx)
          go_wp2_with fail
          refine wpT_begin2 (S := (fun wx => wx.cell? ⟨w6.heap.size, 0, none⟩ = some (.slice ao6 T6.pages.length cap6) ∧ wx.cell? ⟨w6.heap.size, 1, none⟩ = some (.int .i64 T6.root) ∧ Below W9.heap.size W9 wx)) [] (by kernel_rfl) ?_ (fun Wd hHeld => ?_)
          · (try dsimp only)
            exact ⟨cell_dr x0, cell_dr x1, (Below.refl _ _).drew⟩
          have hbd := hHeld.2.2
          refine wpAnyT_take (i := 0) (oi := _) (v := ?_) rfl (by kernel_rfl) (by kernel_rfl) (by kernel_rfl) (by kernel_rfl) (fun _ _ _ h => h) (Or.inl ⟨by rfl, ?_⟩) (by assumption) ?_
          rotate_left
          · (intro w hSw; (try dsimp only at hSw); go_simp)
            all_goals (with_reducible rfl)
          (try simp only [List.getElem_toArray, List.getElem_cons_zero, List.getElem_cons_succ, Act.put, List.setIfInBounds_toArray, List.set_cons_zero, List.set_cons_succ])
          refine wpAnyT_pure (i := 1) (oi := _) (v := ?_) rfl (by kernel_rfl) (by kernel_rfl) (by kernel_rfl) (by kernel_rfl) (fun _ _ _ h => h) (Or.inl ⟨by rfl, ?_⟩) (fun _ => by assumption) ?_
          rotate_left
          · (intro w hSw; go_simp)
            all_goals (with_reducible rfl)
          (try simp only [List.getElem_toArray, List.getElem_cons_zero, List.getElem_cons_succ, Act.put, List.setIfInBounds_toArray, List.set_cons_zero, List.set_cons_succ])
          refine wpAnyT_ready (rs := [2]) (by kernel_rfl) (by simp) ?_
          refine AllReadyT.cons rfl (fun K hK => ?_) AllReadyT.nil
          go_simp
          (go_at_call 30; refine (HKA.out _).mono ?_; rintro e w7 ⟨ka', kc', rfl, hkr, hbc⟩)
          go_wp2_with fail
          refine hK.out _ _ (fun _ => ?_) (fun hHeld0 => ?_)
          · (try dsimp only)
            exact ⟨cell_bel hbc (hHeld.1), cell_bel hbc (hHeld.2.1), Below.trans (hHeld.2.2) (hbc.mono (hHeld.2.2).size)⟩
          have hHeld1 := hHeld0 (by kernel_rfl)
          clear hK K hHeld0
          have hb7 := hHeld1.2.2
          clear hHeld; have hHeld := hHeld1; clear hHeld1
          (try simp only [List.getElem_toArray, List.getElem_cons_zero, List.getElem_cons_succ, Act.put, List.setIfInBounds_toArray, List.set_cons_zero, List.set_cons_succ])
          refine wpAnyT_ready (rs := [3]) (by kernel_rfl) (by simp) ?_
          refine AllReadyT.cons rfl (fun K hK => ?_) AllReadyT.nil
          go_simp
          (go_at_call 31; refine (HFD.out _ _ _ hHeld.2.2 hkr).mono ?_; rintro e w8 ⟨rfl, hbc⟩)
          go_wp2_with fail
          refine hK.out _ _ (fun _ => ?_) (fun hHeld0 => ?_)
          · (try dsimp only)
            exact ⟨cell_bel hbc (hHeld.1), cell_bel hbc (hHeld.2.1), Below.trans (hHeld.2.2) (hbc.mono (hHeld.2.2).size)⟩
          have hHeld1 := hHeld0 (by kernel_rfl)
          clear hK K hHeld0
          have hb8 := hHeld1.2.2
          clear hHeld; have hHeld := hHeld1; clear hHeld1
          (try simp only [List.getElem_toArray, List.getElem_cons_zero, List.getElem_cons_succ, Act.put, List.setIfInBounds_toArray, List.set_cons_zero, List.set_cons_succ])
          refine wpAnyT_pure (i := 4) (oi := _) (v := ?_) rfl (by kernel_rfl) (by kernel_rfl) (by kernel_rfl) (by kernel_rfl) (fun _ _ _ h => h) (Or.inl ⟨by rfl, ?_⟩) (fun _ => by assumption) ?_
          rotate_left
          · (intro w hSw; go_simp)
            all_goals (with_reducible rfl)
          (try simp only [List.getElem_toArray, List.getElem_cons_zero, List.getElem_cons_succ, Act.put, List.setIfInBounds_toArray, List.set_cons_zero, List.set_cons_succ])
          refine wpAnyT_pure (i := 5) (oi := _) (v := ?_) rfl (by kernel_rfl) (by kernel_rfl) (by kernel_rfl) (by kernel_rfl) (fun _ _ _ h => h) (Or.inl ⟨by rfl, ?_⟩) (fun _ => by assumption) ?_
          rotate_left
          · (intro w hSw; go_simp)
            all_goals (with_reducible rfl)
          (try simp only [List.getElem_toArray, List.getElem_cons_zero, List.getElem_cons_succ, Act.put, List.setIfInBounds_toArray, List.set_cons_zero, List.set_cons_succ])
          refine wpAnyT_pure (i := 6) (oi := _) (v := ?_) rfl (by kernel_rfl) (by kernel_rfl) (by kernel_rfl) (by kernel_rfl) (fun _ _ _ h => h) (Or.inl ⟨by rfl, ?_⟩) (fun _ => by assumption) ?_
          rotate_left
          · (intro w hSw; go_simp)
            all_goals (with_reducible rfl)
          (try simp only [List.getElem_toArray, List.getElem_cons_zero, List.getElem_cons_succ, Act.put, List.setIfInBounds_toArray, List.set_cons_zero, List.set_cons_succ])
          refine wpAnyT_ready (rs := [7]) (by kernel_rfl) (by simp) ?_
          refine AllReadyT.cons rfl (fun K hK => ?_) AllReadyT.nil
          go_simp
          refine hK.out _ _ (fun _ => ?_) (fun hHeld0 => ?_)
          · (try dsimp only)
            exact hHeld
          have hHeld1 := hHeld0 (by kernel_rfl)
          clear hK K hHeld0
          clear hHeld; have hHeld := hHeld1; clear hHeld1
          (try simp only [List.getElem_toArray, List.getElem_cons_zero, List.getElem_cons_succ, Act.put, List.setIfInBounds_toArray, List.set_cons_zero, List.set_cons_succ])
          refine wpAnyT_ready (rs := [8]) (by kernel_rfl) (by simp) ?_
          refine AllReadyT.cons rfl (fun K hK => ?_) AllReadyT.nil
          go_simp
          refine hK.out _ _ (fun _ => ?_) (fun hHeld0 => ?_)
          · (try dsimp only)
            exact hHeld
          have hHeld1 := hHeld0 (by kernel_rfl)
          clear hK K hHeld0
          clear hHeld; have hHeld := hHeld1; clear hHeld1
          (try simp only [List.getElem_toArray, List.getElem_cons_zero, List.getElem_cons_succ, Act.put, List.setIfInBounds_toArray, List.set_cons_zero, List.set_cons_succ])
          refine wpAnyT_done (by kernel_rfl) ?_ _
          obtain ⟨y0, y1, -⟩ := hHeld
          have HG8 := Lib.hid (HG9.out.below hb8)
          have HB8 := Lib.hid (into HB9.out hb8)
          clear hb7 hb8 hbd hkr hbc x0 x1
          (go_wp2_with (go_at_call 33; refine (check_g HG8.out).mono ?_; rintro e w9 ⟨rfl, hb9⟩; have HB9' := Lib.hid (into HB8.out hb9); clear hb9))
          go_ret
          exact ⟨rfl, HB9'.out⟩
        · skip
          go_simp
          refine hK.out _ _ (fun _ => ?_) (fun hHeld0 => ?_)
          · (try dsimp only)
            (first | (with_reducible exact hHeld) | (with_reducible exact ⟨cell_al _ (hHeld.1), cell_al _ (hHeld.2.1), Below.alloc (hHeld.2.2) (hHeld.2.2).size _⟩))
          have hHeld1 := hHeld0 (by kernel_rfl)
          clear hK K hHeld0
          (have hbx := alloc_of hHeld1.2.2); (try replace hkr := hkr.below (al_of hHeld1.2.2))
          clear hHeld; have hHeld := hHeld1; clear hHeld1
          (try simp only [List.getElem_toArray, List.getElem_cons_zero, List.getElem_cons_succ, Act.put, List.setIfInBounds_toArray, List.set_cons_zero, List.set_cons_succ])
          refine wpAnyT_ready (rs := [3]) (by kernel_rfl) (by simp) ?_
          refine AllReadyT.cons rfl (fun K hK => ?_) AllReadyT.nil
          go_simp
          (go_at_call 25; refine (HC.out _ _ _ hHeld.2.2 hkr).mono ?_; rintro e w6 ⟨ao6, cap6, T6, rfl, hg6, hbc⟩; have hz6 := hbc.size; (try replace hbx := (hbc.block _ (Array.getElem?_eq_some_iff.1 hbx).1).trans hbx))
          go_wp2_with fail
          refine hK.out _ _ (fun _ => ?_) (fun hHeld0 => ?_)
          · (try dsimp only)
            exact ⟨cell_bel hbc (hHeld.1), cell_bel hbc (hHeld.2.1), Below.trans (hHeld.2.2) (hbc.mono (hHeld.2.2).size)⟩
          have hHeld1 := hHeld0 (by kernel_rfl)
          clear hK K hHeld0
          have hb6 := hHeld1.2.2
          clear hHeld; have hHeld := hHeld1; clear hHeld1
          (try simp only [List.getElem_toArray, List.getElem_cons_zero, List.getElem_cons_succ, Act.put, List.setIfInBounds_toArray, List.set_cons_zero, List.set_cons_succ])
          refine wpAnyT_pure (i := 4) (oi := _) (v := ?_) rfl (by kernel_rfl) (by kernel_rfl) (by kernel_rfl) (by kernel_rfl) (fun _ _ _ h => h) (Or.inl ⟨by rfl, ?_⟩) (fun _ => by assumption) ?_
          rotate_left
          · (intro w hSw; go_simp)
            all_goals (with_reducible rfl)
          (try simp only [List.getElem_toArray, List.getElem_cons_zero, List.getElem_cons_succ, Act.put, List.setIfInBounds_toArray, List.set_cons_zero, List.set_cons_succ])
          refine wpAnyT_pure (i := 5) (oi := _) (v := ?_) rfl (by kernel_rfl) (by kernel_rfl) (by kernel_rfl) (by kernel_rfl) (fun _ _ _ h => h) (Or.inl ⟨by rfl, ?_⟩) (fun _ => by assumption) ?_
          rotate_left
          · (intro w hSw; go_simp)
            all_goals (with_reducible rfl)
          (try simp only [List.getElem_toArray, List.getElem_cons_zero, List.getElem_cons_succ, Act.put, List.setIfInBounds_toArray, List.set_cons_zero, List.set_cons_succ])
          refine wpAnyT_pure (i := 6) (oi := _) (v := ?_) rfl (by kernel_rfl) (by kernel_rfl) (by kernel_rfl) (by kernel_rfl) (fun _ _ _ h => h) (Or.inl ⟨by rfl, ?_⟩) (fun _ => by assumption) ?_
          rotate_left
          · (intro w hSw; go_simp)
            all_goals (with_reducible rfl)
          (try simp only [List.getElem_toArray, List.getElem_cons_zero, List.getElem_cons_succ, Act.put, List.setIfInBounds_toArray, List.set_cons_zero, List.set_cons_succ])
          refine wpAnyT_ready (rs := [8]) (by kernel_rfl) (by simp) ?_
          refine AllReadyT.cons rfl (fun K hK => ?_) AllReadyT.nil
          obtain ⟨b0, b1, bf0, bf1⟩ := box2 hbx
          go_simp
          refine hK.out _ _ (noneB_off (by kernel_rfl)) (fun _ => ?_)
          clear hK K
          (try simp only [List.getElem_toArray, List.getElem_cons_zero, List.getElem_cons_succ, Act.put, List.setIfInBounds_toArray, List.set_cons_zero, List.set_cons_succ])
          refine wpAnyT_ready (rs := [9]) (by kernel_rfl) (by simp) ?_
          refine AllReadyT.cons rfl (fun K hK => ?_) AllReadyT.nil
          go_simp
          refine hK.out _ _ (noneB_off (by kernel_rfl)) (fun _ => ?_)
          clear hK K
          (try simp only [List.getElem_toArray, List.getElem_cons_zero, List.getElem_cons_succ, Act.put, List.setIfInBounds_toArray, List.set_cons_zero, List.set_cons_succ])
          refine wpAnyT_done (by kernel_rfl) ?_ _
          (try clear b0 b1 bf0 bf1)
          first
            | refine gen_two (P := fun w => (_ : Exit → Act → World → Prop) Exit.normal _ w) hbx (fun W9 hx9 hz9 hf9 hB9 => ?_)
            | refine gen_new (P := fun w => (_ : Exit → Act → World → Prop) Exit.normal _ w) (fun W9 hx9 hz9 hf9 hB9 => ?_)
          have hb9 : Below W4.heap.size W4 W9 := hB9 _ _ (by have := hb6.size; have := hb5.size; have := hbd.size; omega) hb6
          have hg9 : GT W.heap.size 71 W9 (.agg #[.slice ao6 T6.pages.length cap6, .int .i64 T6.root]) T6 (insE k 7 []) := by
            have hsz6 := hz6
            have hsd := hbd.size
            have hs5 := hb5.size
            have hs4 := HB4.out.size
            (try simp only [World.size_alloc] at hsz6)
            exact hg6.land (W := W9) (B' := W.heap.size) (by (try simp only [World.size_alloc]); omega) (fun b h1 h2 => hf9 b (by (try simp only [World.size_alloc] at h1); omega)) (by omega)
          have HG9 := Lib.hid hg9
          have HB9 := Lib.hid (HB4.out.trans (hb9.mono HB4.out.size))
          have HX9 := Lib.hid hx9
          have hlk : lookE k (insE k 7 []) = some 7 := lookE_some (by simp [insE, Rise]) (by simp [insE])
          have HFD := Lib.hid (fun (W' : World) (kv : Value) (ok' : Nat → Prop) (hW : Below W9.heap.size W9 W') (hk : RB W' ok' kv k) => (show Calls Try.prog 31 #[.agg #[.slice ao6 T6.pages.length cap6, .int .i64 T6.root], kv] W' (Two 7 0 W') from by have q := find_g (HG9.out.below hW) hk hok; rw [hlk] at q; exact q))
          obtain ⟨x0, x1, -⟩ := box2 hx9
          clear hlk hx9 hz9 hf9 hB9 hb9 hg9 hHeld hb5 hb6 hbd hg6 hbc hz5 hz6 hkr
          (try clear hbx)
          go_wp2_with fail
          refine wpT_begin2 (S := (fun wx => wx.cell? ⟨w5.heap.size, 0, none⟩ = some (.slice ao6 T6.pages.length cap6) ∧ wx.cell? ⟨w5.heap.size, 1, none⟩ = some (.int .i64 T6.root) ∧ Below W9.heap.size W9 wx)) [] (by kernel_rfl) ?_ (fun Wd hHeld => ?_)
          · (try dsimp only)
            exact ⟨cell_dr x0, cell_dr x1, (Below.refl _ _).drew⟩
          have hbd := hHeld.2.2
          refine wpAnyT_take (i := 0) (oi := _) (v := ?_) rfl (by kernel_rfl) (by kernel_rfl) (by kernel_rfl) (by kernel_rfl) (fun _ _ _ h => h) (Or.inl ⟨by rfl, ?_⟩) (by assumption) ?_
          rotate_left
          · (intro w hSw; (try dsimp only at hSw); go_simp)
            all_goals (with_reducible rfl)
          (try simp only [List.getElem_toArray, List.getElem_cons_zero, List.getElem_cons_succ, Act.put, List.setIfInBounds_toArray, List.set_cons_zero, List.set_cons_succ])
          refine wpAnyT_pure (i := 1) (oi := _) (v := ?_) rfl (by kernel_rfl) (by kernel_rfl) (by kernel_rfl) (by kernel_rfl) (fun _ _ _ h => h) (Or.inl ⟨by rfl, ?_⟩) (fun _ => by assumption) ?_
          rotate_left
          · (intro w hSw; go_simp)
            all_goals (with_reducible rfl)
          (try simp only [List.getElem_toArray, List.getElem_cons_zero, List.getElem_cons_succ, Act.put, List.setIfInBounds_toArray, List.set_cons_zero, List.set_cons_succ])
          refine wpAnyT_ready (rs := [2]) (by kernel_rfl) (by simp) ?_
          refine AllReadyT.cons rfl (fun K hK => ?_) AllReadyT.nil
          go_simp
          (go_at_call 30; refine (HKA.out _).mono ?_; rintro e w7 ⟨ka', kc', rfl, hkr, hbc⟩)
          go_wp2_with fail
          refine hK.out _ _ (fun _ => ?_) (fun hHeld0 => ?_)
          · (try dsimp only)
            exact ⟨cell_bel hbc (hHeld.1), cell_bel hbc (hHeld.2.1), Below.trans (hHeld.2.2) (hbc.mono (hHeld.2.2).size)⟩
          have hHeld1 := hHeld0 (by kernel_rfl)
          clear hK K hHeld0
          have hb7 := hHeld1.2.2
          clear hHeld; have hHeld := hHeld1; clear hHeld1
          (try simp only [List.getElem_toArray, List.getElem_cons_zero, List.getElem_cons_succ, Act.put, List.setIfInBounds_toArray, List.set_cons_zero, List.set_cons_succ])
          refine wpAnyT_ready (rs := [3]) (by kernel_rfl) (by simp) ?_
          refine AllReadyT.cons rfl (fun K hK => ?_) AllReadyT.nil
          go_simp
          (go_at_call 31; refine (HFD.out _ _ _ hHeld.2.2 hkr).mono ?_; rintro e w8 ⟨rfl, hbc⟩)
          go_wp2_with fail
          refine hK.out _ _ (fun _ => ?_) (fun hHeld0 => ?_)
          · (try dsimp only)
            exact ⟨cell_bel hbc (hHeld.1), cell_bel hbc (hHeld.2.1), Below.trans (hHeld.2.2) (hbc.mono (hHeld.2.2).size)⟩
          have hHeld1 := hHeld0 (by kernel_rfl)
          clear hK K hHeld0
          have hb8 := hHeld1.2.2
          clear hHeld; have hHeld := hHeld1; clear hHeld1
          (try simp only [List.getElem_toArray, List.getElem_cons_zero, List.getElem_cons_succ, Act.put, List.setIfInBounds_toArray, List.set_cons_zero, List.set_cons_succ])
          refine wpAnyT_pure (i := 4) (oi := _) (v := ?_) rfl (by kernel_rfl) (by kernel_rfl) (by kernel_rfl) (by kernel_rfl) (fun _ _ _ h => h) (Or.inl ⟨by rfl, ?_⟩) (fun _ => by assumption) ?_
          rotate_left
          · (intro w hSw; go_simp)
            all_goals (with_reducible rfl)
          (try simp only [List.getElem_toArray, List.getElem_cons_zero, List.getElem_cons_succ, Act.put, List.setIfInBounds_toArray, List.set_cons_zero, List.set_cons_succ])
          refine wpAnyT_pure (i := 5) (oi := _) (v := ?_) rfl (by kernel_rfl) (by kernel_rfl) (by kernel_rfl) (by kernel_rfl) (fun _ _ _ h => h) (Or.inl ⟨by rfl, ?_⟩) (fun _ => by assumption) ?_
          rotate_left
          · (intro w hSw; go_simp)
            all_goals (with_reducible rfl)
          (try simp only [List.getElem_toArray, List.getElem_cons_zero, List.getElem_cons_succ, Act.put, List.setIfInBounds_toArray, List.set_cons_zero, List.set_cons_succ])
          refine wpAnyT_pure (i := 6) (oi := _) (v := ?_) rfl (by kernel_rfl) (by kernel_rfl) (by kernel_rfl) (by kernel_rfl) (fun _ _ _ h => h) (Or.inl ⟨by rfl, ?_⟩) (fun _ => by assumption) ?_
          rotate_left
          · (intro w hSw; go_simp)
            all_goals (with_reducible rfl)
          (try simp only [List.getElem_toArray, List.getElem_cons_zero, List.getElem_cons_succ, Act.put, List.setIfInBounds_toArray, List.set_cons_zero, List.set_cons_succ])
          refine wpAnyT_ready (rs := [7]) (by kernel_rfl) (by simp) ?_
          refine AllReadyT.cons rfl (fun K hK => ?_) AllReadyT.nil
          go_simp
          refine hK.out _ _ (fun _ => ?_) (fun hHeld0 => ?_)
          · (try dsimp only)
            exact hHeld
          have hHeld1 := hHeld0 (by kernel_rfl)
          clear hK K hHeld0
          clear hHeld; have hHeld := hHeld1; clear hHeld1
          (try simp only [List.getElem_toArray, List.getElem_cons_zero, List.getElem_cons_succ, Act.put, List.setIfInBounds_toArray, List.set_cons_zero, List.set_cons_succ])
          refine wpAnyT_ready (rs := [8]) (by kernel_rfl) (by simp) ?_
          refine AllReadyT.cons rfl (fun K hK => ?_) AllReadyT.nil
          go_simp
          refine hK.out _ _ (fun _ => ?_) (fun hHeld0 => ?_)
          · (try dsimp only)
            exact hHeld
          have hHeld1 := hHeld0 (by kernel_rfl)
          clear hK K hHeld0
          clear hHeld; have hHeld := hHeld1; clear hHeld1
          (try simp only [List.getElem_toArray, List.getElem_cons_zero, List.getElem_cons_succ, Act.put, List.setIfInBounds_toArray, List.set_cons_zero, List.set_cons_succ])
          refine wpAnyT_done (by kernel_rfl) ?_ _
          obtain ⟨y0, y1, -⟩ := hHeld
          have HG8 := Lib.hid (HG9.out.below hb8)
          have HB8 := Lib.hid (into HB9.out hb8)
          clear hb7 hb8 hbd hkr hbc x0 x1
          (go_wp2_with (go_at_call 33; refine (check_g HG8.out).mono ?_; rintro e w9 ⟨rfl, hb9⟩; have HB9' := Lib.hid (into HB8.out hb9); clear hb9))
          go_ret
          exact ⟨rfl, HB9'.out⟩
      · skip
        go_simp
        refine hK.out _ _ (fun _ => ?_) (fun hHeld0 => ?_)
        · (try dsimp only)
          (first | (with_reducible exact hHeld) | (with_reducible exact ⟨cell_al _ (hHeld.1), cell_al _ (hHeld.2.1), Below.alloc (hHeld.2.2) (hHeld.2.2).size _⟩))
        have hHeld1 := hHeld0 (by kernel_rfl)
        clear hK K hHeld0
        (have hbx := alloc_of hHeld1.2.2); (try replace hkr := hkr.below (al_of hHeld1.2.2))
        clear hHeld; have hHeld := hHeld1; clear hHeld1
        (try simp only [List.getElem_toArray, List.getElem_cons_zero, List.getElem_cons_succ, Act.put, List.setIfInBounds_toArray, List.set_cons_zero, List.set_cons_succ])
        refine wpAnyT_ready (rs := [2]) (by kernel_rfl) (by simp) ?_
        refine AllReadyT.cons rfl (fun K hK => ?_) AllReadyT.nil
        go_simp
        (go_at_call 30; refine (HKA.out _).mono ?_; rintro e w5 ⟨ka, kc, rfl, hkr, hbc⟩; have hz5 := hbc.size; (try simp only [World.size_alloc] at hz5); (try replace hbx := (hbc.block _ (Array.getElem?_eq_some_iff.1 hbx).1).trans hbx))
        go_wp2_with fail
        refine hK.out _ _ (fun _ => ?_) (fun hHeld0 => ?_)
        · (try dsimp only)
          exact ⟨cell_bel hbc (hHeld.1), cell_bel hbc (hHeld.2.1), Below.trans (hHeld.2.2) (hbc.mono (hHeld.2.2).size)⟩
        have hHeld1 := hHeld0 (by kernel_rfl)
        clear hK K hHeld0
        have hb5 := hHeld1.2.2
        clear hHeld; have hHeld := hHeld1; clear hHeld1
        (try simp only [List.getElem_toArray, List.getElem_cons_zero, List.getElem_cons_succ, Act.put, List.setIfInBounds_toArray, List.set_cons_zero, List.set_cons_succ])
        refine wpAnyT_ready (rs := [3]) (by kernel_rfl) (by simp) ?_
        refine AllReadyT.cons rfl (fun K hK => ?_) AllReadyT.nil
        go_simp
        (go_at_call 25; refine (HC.out _ _ _ hHeld.2.2 hkr).mono ?_; rintro e w6 ⟨ao6, cap6, T6, rfl, hg6, hbc⟩; have hz6 := hbc.size; (try replace hbx := (hbc.block _ (Array.getElem?_eq_some_iff.1 hbx).1).trans hbx))
        go_wp2_with fail
        refine hK.out _ _ (fun _ => ?_) (fun hHeld0 => ?_)
        · (try dsimp only)
          exact ⟨cell_bel hbc (hHeld.1), cell_bel hbc (hHeld.2.1), Below.trans (hHeld.2.2) (hbc.mono (hHeld.2.2).size)⟩
        have hHeld1 := hHeld0 (by kernel_rfl)
        clear hK K hHeld0
        have hb6 := hHeld1.2.2
        clear hHeld; have hHeld := hHeld1; clear hHeld1
        (try simp only [List.getElem_toArray, List.getElem_cons_zero, List.getElem_cons_succ, Act.put, List.setIfInBounds_toArray, List.set_cons_zero, List.set_cons_succ])
        refine wpAnyT_pure (i := 4) (oi := _) (v := ?_) rfl (by kernel_rfl) (by kernel_rfl) (by kernel_rfl) (by kernel_rfl) (fun _ _ _ h => h) (Or.inl ⟨by rfl, ?_⟩) (fun _ => by assumption) ?_
        rotate_left
        · (intro w hSw; go_simp)
          all_goals (with_reducible rfl)
        (try simp only [List.getElem_toArray, List.getElem_cons_zero, List.getElem_cons_succ, Act.put, List.setIfInBounds_toArray, List.set_cons_zero, List.set_cons_succ])
        refine wpAnyT_pure (i := 5) (oi := _) (v := ?_) rfl (by kernel_rfl) (by kernel_rfl) (by kernel_rfl) (by kernel_rfl) (fun _ _ _ h => h) (Or.inl ⟨by rfl, ?_⟩) (fun _ => by assumption) ?_
        rotate_left
        · (intro w hSw; go_simp)
          all_goals (with_reducible rfl)
        (try simp only [List.getElem_toArray, List.getElem_cons_zero, List.getElem_cons_succ, Act.put, List.setIfInBounds_toArray, List.set_cons_zero, List.set_cons_succ])
        refine wpAnyT_pure (i := 6) (oi := _) (v := ?_) rfl (by kernel_rfl) (by kernel_rfl) (by kernel_rfl) (by kernel_rfl) (fun _ _ _ h => h) (Or.inl ⟨by rfl, ?_⟩) (fun _ => by assumption) ?_
        rotate_left
        · (intro w hSw; go_simp)
          all_goals (with_reducible rfl)
        (try simp only [List.getElem_toArray, List.getElem_cons_zero, List.getElem_cons_succ, Act.put, List.setIfInBounds_toArray, List.set_cons_zero, List.set_cons_succ])
        refine wpAnyT_ready (rs := [8]) (by kernel_rfl) (by simp) ?_
        refine AllReadyT.cons rfl (fun K hK => ?_) AllReadyT.nil
        obtain ⟨b0, b1, bf0, bf1⟩ := box2 hbx
        go_simp
        refine hK.out _ _ (noneB_off (by kernel_rfl)) (fun _ => ?_)
        clear hK K
        (try simp only [List.getElem_toArray, List.getElem_cons_zero, List.getElem_cons_succ, Act.put, List.setIfInBounds_toArray, List.set_cons_zero, List.set_cons_succ])
        refine wpAnyT_ready (rs := [9]) (by kernel_rfl) (by simp) ?_
        refine AllReadyT.cons rfl (fun K hK => ?_) AllReadyT.nil
        go_simp
        refine hK.out _ _ (noneB_off (by kernel_rfl)) (fun _ => ?_)
        clear hK K
        (try simp only [List.getElem_toArray, List.getElem_cons_zero, List.getElem_cons_succ, Act.put, List.setIfInBounds_toArray, List.set_cons_zero, List.set_cons_succ])
        refine wpAnyT_done (by kernel_rfl) ?_ _
        (try clear b0 b1 bf0 bf1)
        first
          | refine gen_two (P := fun w => (_ : Exit → Act → World → Prop) Exit.normal _ w) hbx (fun W9 hx9 hz9 hf9 hB9 => ?_)
          | refine gen_new (P := fun w => (_ : Exit → Act → World → Prop) Exit.normal _ w) (fun W9 hx9 hz9 hf9 hB9 => ?_)
        have hb9 : Below W4.heap.size W4 W9 := hB9 _ _ (by have := hb6.size; have := hb5.size; have := hbd.size; omega) hb6
        have hg9 : GT W.heap.size 71 W9 (.agg #[.slice ao6 T6.pages.length cap6, .int .i64 T6.root]) T6 (insE k 7 []) := by
          have hsz6 := hz6
          have hsd := hbd.size
          have hs5 := hb5.size
          have hs4 := HB4.out.size
          (try simp only [World.size_alloc] at hsz6)
          exact hg6.land (W := W9) (B' := W.heap.size) (by (try simp only [World.size_alloc]); omega) (fun b h1 h2 => hf9 b (by (try simp only [World.size_alloc] at h1); omega)) (by omega)
        have HG9 := Lib.hid hg9
        have HB9 := Lib.hid (HB4.out.trans (hb9.mono HB4.out.size))
        have HX9 := Lib.hid hx9
        have hlk : lookE k (insE k 7 []) = some 7 := lookE_some (by simp [insE, Rise]) (by simp [insE])
        have HFD := Lib.hid (fun (W' : World) (kv : Value) (ok' : Nat → Prop) (hW : Below W9.heap.size W9 W') (hk : RB W' ok' kv k) => (show Calls Try.prog 31 #[.agg #[.slice ao6 T6.pages.length cap6, .int .i64 T6.root], kv] W' (Two 7 0 W') from by have q := find_g (HG9.out.below hW) hk hok; rw [hlk] at q; exact q))
        obtain ⟨x0, x1, -⟩ := box2 hx9
        clear hlk hx9 hz9 hf9 hB9 hb9 hg9 hHeld hb5 hb6 hbd hg6 hbc hz5 hz6 hkr
        (try clear hbx)
        go_wp2_with fail
        refine wpT_begin2 (S := (fun wx => wx.cell? ⟨Wd.heap.size, 0, none⟩ = some (.slice ao6 T6.pages.length cap6) ∧ wx.cell? ⟨Wd.heap.size, 1, none⟩ = some (.int .i64 T6.root) ∧ Below W9.heap.size W9 wx)) [] (by kernel_rfl) ?_ (fun Wd hHeld => ?_)
        · (try dsimp only)
          exact ⟨cell_dr x0, cell_dr x1, (Below.refl _ _).drew⟩
        have hbd := hHeld.2.2
        refine wpAnyT_take (i := 0) (oi := _) (v := ?_) rfl (by kernel_rfl) (by kernel_rfl) (by kernel_rfl) (by kernel_rfl) (fun _ _ _ h => h) (Or.inl ⟨by rfl, ?_⟩) (by assumption) ?_
        rotate_left
        · (intro w hSw; (try dsimp only at hSw); go_simp)
          all_goals (with_reducible rfl)
        (try simp only [List.getElem_toArray, List.getElem_cons_zero, List.getElem_cons_succ, Act.put, List.setIfInBounds_toArray, List.set_cons_zero, List.set_cons_succ])
        refine wpAnyT_pure (i := 1) (oi := _) (v := ?_) rfl (by kernel_rfl) (by kernel_rfl) (by kernel_rfl) (by kernel_rfl) (fun _ _ _ h => h) (Or.inl ⟨by rfl, ?_⟩) (fun _ => by assumption) ?_
        rotate_left
        · (intro w hSw; go_simp)
          all_goals (with_reducible rfl)
        (try simp only [List.getElem_toArray, List.getElem_cons_zero, List.getElem_cons_succ, Act.put, List.setIfInBounds_toArray, List.set_cons_zero, List.set_cons_succ])
        refine wpAnyT_ready (rs := [2]) (by kernel_rfl) (by simp) ?_
        refine AllReadyT.cons rfl (fun K hK => ?_) AllReadyT.nil
        go_simp
        (go_at_call 30; refine (HKA.out _).mono ?_; rintro e w7 ⟨ka', kc', rfl, hkr, hbc⟩)
        go_wp2_with fail
        refine hK.out _ _ (fun _ => ?_) (fun hHeld0 => ?_)
        · (try dsimp only)
          exact ⟨cell_bel hbc (hHeld.1), cell_bel hbc (hHeld.2.1), Below.trans (hHeld.2.2) (hbc.mono (hHeld.2.2).size)⟩
        have hHeld1 := hHeld0 (by kernel_rfl)
        clear hK K hHeld0
        have hb7 := hHeld1.2.2
        clear hHeld; have hHeld := hHeld1; clear hHeld1
        (try simp only [List.getElem_toArray, List.getElem_cons_zero, List.getElem_cons_succ, Act.put, List.setIfInBounds_toArray, List.set_cons_zero, List.set_cons_succ])
        refine wpAnyT_ready (rs := [3]) (by kernel_rfl) (by simp) ?_
        refine AllReadyT.cons rfl (fun K hK => ?_) AllReadyT.nil
        go_simp
        (go_at_call 31; refine (HFD.out _ _ _ hHeld.2.2 hkr).mono ?_; rintro e w8 ⟨rfl, hbc⟩)
        go_wp2_with fail
        refine hK.out _ _ (fun _ => ?_) (fun hHeld0 => ?_)
        · (try dsimp only)
          exact ⟨cell_bel hbc (hHeld.1), cell_bel hbc (hHeld.2.1), Below.trans (hHeld.2.2) (hbc.mono (hHeld.2.2).size)⟩
        have hHeld1 := hHeld0 (by kernel_rfl)
        clear hK K hHeld0
        have hb8 := hHeld1.2.2
        clear hHeld; have hHeld := hHeld1; clear hHeld1
        (try simp only [List.getElem_toArray, List.getElem_cons_zero, List.getElem_cons_succ, Act.put, List.setIfInBounds_toArray, List.set_cons_zero, List.set_cons_succ])
        refine wpAnyT_pure (i := 4) (oi := _) (v := ?_) rfl (by kernel_rfl) (by kernel_rfl) (by kernel_rfl) (by kernel_rfl) (fun _ _ _ h => h) (Or.inl ⟨by rfl, ?_⟩) (fun _ => by assumption) ?_
        rotate_left
        · (intro w hSw; go_simp)
          all_goals (with_reducible rfl)
        (try simp only [List.getElem_toArray, List.getElem_cons_zero, List.getElem_cons_succ, Act.put, List.setIfInBounds_toArray, List.set_cons_zero, List.set_cons_succ])
        refine wpAnyT_pure (i := 5) (oi := _) (v := ?_) rfl (by kernel_rfl) (by kernel_rfl) (by kernel_rfl) (by kernel_rfl) (fun _ _ _ h => h) (Or.inl ⟨by rfl, ?_⟩) (fun _ => by assumption) ?_
        rotate_left
        · (intro w hSw; go_simp)
          all_goals (with_reducible rfl)
        (try simp only [List.getElem_toArray, List.getElem_cons_zero, List.getElem_cons_succ, Act.put, List.setIfInBounds_toArray, List.set_cons_zero, List.set_cons_succ])
        refine wpAnyT_pure (i := 6) (oi := _) (v := ?_) rfl (by kernel_rfl) (by kernel_rfl) (by kernel_rfl) (by kernel_rfl) (fun _ _ _ h => h) (Or.inl ⟨by rfl, ?_⟩) (fun _ => by assumption) ?_
        rotate_left
        · (intro w hSw; go_simp)
          all_goals (with_reducible rfl)
        (try simp only [List.getElem_toArray, List.getElem_cons_zero, List.getElem_cons_succ, Act.put, List.setIfInBounds_toArray, List.set_cons_zero, List.set_cons_succ])
        refine wpAnyT_ready (rs := [7]) (by kernel_rfl) (by simp) ?_
        refine AllReadyT.cons rfl (fun K hK => ?_) AllReadyT.nil
        go_simp
        refine hK.out _ _ (fun _ => ?_) (fun hHeld0 => ?_)
        · (try dsimp only)
          exact hHeld
        have hHeld1 := hHeld0 (by kernel_rfl)
        clear hK K hHeld0
        clear hHeld; have hHeld := hHeld1; clear hHeld1
        (try simp only [List.getElem_toArray, List.getElem_cons_zero, List.getElem_cons_succ, Act.put, List.setIfInBounds_toArray, List.set_cons_zero, List.set_cons_succ])
        refine wpAnyT_ready (rs := [8]) (by kernel_rfl) (by simp) ?_
        refine AllReadyT.cons rfl (fun K hK => ?_) AllReadyT.nil
        go_simp
        refine hK.out _ _ (fun _ => ?_) (fun hHeld0 => ?_)
        · (try dsimp only)
          exact hHeld
        have hHeld1 := hHeld0 (by kernel_rfl)
        clear hK K hHeld0
        clear hHeld; have hHeld := hHeld1; clear hHeld1
        (try simp only [List.getElem_toArray, List.getElem_cons_zero, List.getElem_cons_succ, Act.put, List.setIfInBounds_toArray, List.set_cons_zero, List.set_cons_succ])
        refine wpAnyT_done (by kernel_rfl) ?_ _
        obtain ⟨y0, y1, -⟩ := hHeld
        have HG8 := Lib.hid (HG9.out.below hb8)
        have HB8 := Lib.hid (into HB9.out hb8)
        clear hb7 hb8 hbd hkr hbc x0 x1
        (go_wp2_with (go_at_call 33; refine (check_g HG8.out).mono ?_; rintro e w9 ⟨rfl, hb9⟩; have HB9' := Lib.hid (into HB8.out hb9); clear hb9))
        go_ret
        exact ⟨rfl, HB9'.out⟩

set_option maxRecDepth 100000 in
theorem lifted (os : Os) (started : os.Started) (H : Type) (enc : TypeId × Value → H) :
    ReturnsInHanded {} Try.checked os 13 .any (Rows.treeEmptySpec.pre6 enc Try.prog Try.f13 Rows.treeEmptyRow.domain false) (Rows.treeEmptySpec.post enc Try.prog Try.f13 false true false false) := by
  refine returnsInHanded_of_change_sized (C := Try.checked) Try.own started (by kernel_rfl) Try.func13
    (ChangeSpec.witness6 (enc := enc) (C := Try.checked) false ⟨#[], #[.slice none 0 0, .int .i64 0], []⟩ 8 (by kernel_rfl) (by kernel_rfl) (by kernel_rfl) (by kernel_rfl)) ?_
  intro W base args ds gs before hval0 hW hcnd hsz0 _
  have hsz : (DataW.weightsEach Try.prog (Try.f13.params.toList ++ Rows.treeEmptySpec.plain.varTypes Try.prog) (ds ++ gs)).all (· ≤ reachBytes) = true := hsz0
  have hval : ∀ (j : Nat) t v, Try.f13.params[j]? = some t → args[j]? = some v → Value.okWide Try.prog W .any base t v := hval0
  have hW' := hW
  obtain ⟨p, q, hA0, hV, rfl, hfz, hnd⟩ := hW
  have hA : DataW.TrodAll enc Try.prog W 0 (fun _ => true) true Try.f13.params.toList args.toList ds p := hA0
  rw [Try.params13] at hA hval hsz
  obtain ⟨v0, v1, d0, d1, p0, p1, rfl, rfl, rfl, h0, h1⟩ := trodAll_two hA
  obtain ⟨rfl, rfl⟩ := trodVars_none hV
  have sm0 : small Try.prog 45 d0 := fun q hq => by
    have := List.all_eq_true.1 hsz q (weights_each (j := 0) rfl rfl q hq)
    simpa using this
  obtain ⟨n0, l0, hr0, hz0, hs0⟩ := open_ints (hval 0 45 v0 rfl rfl) h0 sm0
  obtain ⟨a1, rfl, rfl, rfl, w1⟩ := open_int Try.underlying3 (hval 1 3 v1 rfl rfl) h1
  clear hA0 hval0
  refine (walk W n0 v0 l0 hr0 hz0 hs0 a1 w1).mono fun e W' ⟨he, hg⟩ => ?_
  subst he
  exact ⟨_, rfl, law_post (tb := 4) Try.laidOut (by kernel_rfl) (by kernel_rfl) Try.underlying4 rfl hW' hg rfl rfl rfl⟩

theorem proved : Rows.TreeEmptySaid :=
  OpenClaim.holds_of_wide 13 Try.f13 rfl rfl rfl rfl rfl rfl rfl ⟨rfl, rfl, rfl, rfl, rfl⟩ rfl rfl rfl rfl rfl (by kernel_rfl) Try.func13 (by kernel_rfl)
    (of_decide_eq_true (by kernel_rfl)) (by unfold Func.isWrapper; first | (rw [if_pos (by decide +kernel)]; kernel_rfl) | (rw [if_neg (by decide +kernel)]; exact ⟨rfl, rfl⟩))
    (fun os started H enc _ => lifted os started H enc)
#print axioms proved
end Go.Proofs.Ytacpeibkamfibaa.lTreeEmpty
