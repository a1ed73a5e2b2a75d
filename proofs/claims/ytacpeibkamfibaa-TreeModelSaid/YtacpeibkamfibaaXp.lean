/- A tree has what was put into it and not taken out: at most seventy raw numbers. -/
import Derived.Carry
import Derived.Test.YtacpeibkamfibaaXc
import Derived.Test.YtacpeibkamfibaaXd
import Derived.Test.YtacpeibkamfibaaXo
namespace Go.Proofs.Ytacpeibkamfibaa
open Go.ChangeShapes Go.WideShapes Go.ChangeAt Go.RowKit Go.Joins
set_option linter.unusedVariables false
set_option linter.unusedSimpArgs false
set_option maxHeartbeats 400000
set_option maxRecDepth 100000 in
set_option maxHeartbeats 8000000 in
theorem modelA (W : World) (n : Nat) (v : Value) (L : List Int) (hr : Rd W 1 n v (ic L)) (hz : n * 8 ≤ 140737488351232) (hs : ∀ o ∈ L, (Lit.int .i64 o).wf = true) (hNN : n ≤ 70) :
    Calls Try.prog 7 #[v] W fun e w' => e = .returned (.bool true) ∧ Below W.heap.size W w' := by
  have HTREE := Lib.hid (tree_any W n v L hr fun x hx => rn_of (hs x hx))
  have hnL : n = L.length := by have := hr.1; rw [ic_length] at this; omega
  have HR := Lib.hid hr
  have HRN := Lib.hid (fun x (hx : x ∈ L) => rn_of (hs x hx))
  have HNL := Lib.hid hnL
  have hmm := @run_makeMap Try.prog
  clear hnL
  obtain ⟨_, av, cv, rfl, -, hc2, -⟩ := id hr
  unfold maxLen at hc2
  clear hr hs
  go_enter Try.func7, Try.ntmps7
  go_wp2_with fail
  refine HTREE.out.mono ?_
  rintro e w1 ⟨ao, cap, T, rfl, hg1, hb1⟩
  obtain ⟨l, hl⟩ : ∃ l, l = runE L (min L.length 70) := ⟨_, rfl⟩
  rw [← hl] at hg1
  obtain ⟨W1, hW1⟩ : ∃ W1 : World, W1 = w1.alloc (.cells #[.slice ao T.pages.length cap, .int .i64 T.root] 24) := ⟨_, rfl⟩
  have hX := TBx.new hg1
  obtain ⟨Bt, hBt⟩ : ∃ x, x = w1.heap.size := ⟨_, rfl⟩
  rw [← hW1, ← hBt] at hX
  have HB1 := Lib.hid (show Below W.heap.size W W1 by rw [hW1]; exact into hb1 (bel_al _ _))
  have HX1 := Lib.hid hX
  have HW1 := Lib.hid hW1
  have HBT := Lib.hid hBt
  have HLL := Lib.hid hl
  have HBG := Lib.hid (show W.heap.size ≤ Bt by rw [hBt]; exact hb1.size)
  clear hg1 hb1 hX hW1 hBt hl
  go_wp2_with fail
  rw [← HW1.out, ← HBT.out]
  have hz1 := HB1.out.size
  obtain ⟨W2, hW2⟩ : ∃ W2 : World, W2 = W1.alloc (.map #[] 0) := ⟨_, rfl⟩
  have hM := MapM.new W1
  obtain ⟨bm, hbm⟩ : ∃ b, b = W1.heap.size := ⟨_, rfl⟩
  have hW2b : Below W1.heap.size W1 W2 := by rw [hW2]; exact bel_al _ _
  rw [← hW2] at hM ⊢
  have hbt : bm = Bt + 1 := by rw [hbm, HW1.out, HBT.out]; simp
  rw [← hbm] at hM hW2b hz1
  rw [← hbt]
  have HM2 := Lib.hid hM
  have HB2 := Lib.hid hW2b
  have HBM := Lib.hid hbm
  clear hM hW2b hW2 hbm hbt
  go_loopw [6] (fun i wr => ∃ j : Nat, j ≤ n ∧ j ≤ 70 ∧ i = .int .i64 (j : Int) ∧ Hid (MapM wr bm j (runE L j)) ∧ Hid (Below bm W1 wr)) (fun i _ => n - (intOf i).toNat)
  case atStart => exact ⟨0, by omega, by omega, rfl, HM2, HB2⟩
  case round =>
    obtain ⟨j, hj, hj7, rfl, HM, HB⟩ := hrel
    by_cases hlt : (j : Int) < (n : Int)
    · by_cases h70 : (j : Int) < 70
      · obtain ⟨eb, eo, cap', hv, _, _, hbw, hg⟩ := HR.out.pos (by omega) (by omega)
        simp only [Value.slice.injEq] at hv
        obtain ⟨rfl, -, rfl⟩ := hv
        have hjl : j < L.length := by have := HNL.out; omega
        have HBW := Lib.hid (show Below W.heap.size W wr from HB1.out.trans (HB.out.mono hz1))
        have d1 := (HBW.out.cell (p := ⟨eb, eo + j, none⟩) hbw).trans (hg j _ (ic_at hjl))
        obtain ⟨x, hxe⟩ : ∃ x, x = L.getD j 0 := ⟨_, rfl⟩
        rw [← hxe] at d1
        have hRx : Rn x := HRN.out x (by rw [hxe, List.getD_eq_getElem?_getD, List.getElem?_eq_getElem hjl]; exact List.getElem_mem hjl)
        have hka := fun (w : World) => key_any x w hRx
        have hko := keyK_ok x
        have hrn := fun (h : x < 0) => run_neg (j := j) hxe.symm h
        have hrh := fun (h : 0 ≤ x) => run_has (j := j) hxe.symm (by omega)
        have hrw := fun (h : 0 ≤ x) => run_new (j := j) hxe.symm (by omega)
        obtain ⟨kx, hkx⟩ : ∃ k, k = keyK x := ⟨_, rfl⟩
        rw [← hkx] at hka hko hrn hrh hrw
        obtain ⟨lj, hlj⟩ : ∃ l, l = runE L j := ⟨_, rfl⟩
        have hri : Rise lj := by rw [hlj]; exact run_rise L j
        rw [← hlj] at hrn hrh hrw HM
        have HKA := Lib.hid hka
        have HRN1 := Lib.hid hrn
        have HRH := Lib.hid hrh
        have HRW := Lib.hid hrw
        have HRI := Lib.hid hri
        clear hg hxe hkx hlj hjl hRx hka hrn hrh hrw hri
        go_wp2_with fail
        refine (HKA.out wr).mono ?_
        rintro e w5 ⟨ka, kc, rfl, hkr, hbc⟩
        have t1 : (convert 25 9 (.slice ka _ kc)).run Try.prog w5 = .ok (.string ⟨kx.toArray⟩) w5 := str_drew hkr 0
        have HM5 := Lib.hid (HM.out.below hbc)
        have HB5 := Lib.hid (HB.out.trans (hbc.mono (Nat.le_of_lt HM.out.lt)))
        have hz5 := Nat.le_of_lt HM5.out.lt
        replace d1 := cell_of_below hbc d1
        clear hkr hbc hbw
        by_cases hx : x < 0
        · go_wp2_with (first
            | (at_lookup; refine at_look _ rfl _ _ rfl bm j lj rfl HM5.out kx hko rfl ?_)
            | (at_delete; refine at_del _ rfl _ _ rfl bm j lj rfl HM5.out kx hko HRI.out rfl ?_; intro w8 hm8 ht8))
          have HM8 := Lib.hid (show MapM w8 bm (j + 1) (runE L (j + 1)) by rw [HRN1.out hx]; exact hm8.up (by omega))
          have HB8 := Lib.hid (below_turned HB5.out ht8 (Nat.le_refl _) hz5)
          clear hm8 ht8 d1 t1
          go_wp2_with fail
          go_roundw
          case rel => exact ⟨j + 1, by omega, by omega, by go_num, HM8.out, HB8.out⟩
          case measure => simp [intOf]; omega
        · cases hl : lookE kx lj with
          | some v =>
            have HR8 := Lib.hid (HRH.out (by omega) (by rw [hl]; rfl))
            go_wp2_with (at_lookup; refine at_look _ rfl _ _ rfl bm j lj rfl HM5.out kx hko rfl ?_; rw [hl]; simp only [Option.isSome_some, Option.getD_some])
            go_roundw
            case rel => exact ⟨j + 1, by omega, by omega, by go_num, by rw [HR8.out]; exact HM5.out.up (by omega), HB5.out⟩
            case measure => simp [intOf]; omega
          | none =>
            have HR8 := Lib.hid (HRW.out (by omega) hl)
            go_wp2_with (first
              | (at_lookup; refine at_look _ rfl _ _ rfl bm j lj rfl HM5.out kx hko rfl ?_; rw [hl]; simp only [Option.isSome_none, Option.getD_none])
              | (at_mapUpdate; refine at_put _ rfl _ _ _ rfl bm j lj rfl HM5.out (by unfold maxLen; omega) kx hko (j : Int) rfl rfl (WalkArith.wf_i64 (by omega)) hl ?_; intro w8 hm8 ht8))
            have HM8 := Lib.hid (show MapM w8 bm (j + 1) (runE L (j + 1)) by rw [HR8.out]; exact hm8)
            have HB8 := Lib.hid (below_turned HB5.out ht8 (Nat.le_refl _) hz5)
            clear hm8 ht8 d1 t1
            go_wp2_with fail
            go_roundw
            case rel => exact ⟨j + 1, by omega, by omega, by go_num, HM8.out, HB8.out⟩
            case measure => simp [intOf]; omega
      · omega
    · obtain ⟨l0, hl0⟩ : ∃ l0, l0 = l := ⟨_, rfl⟩
      have hjm : j = min L.length 70 := by have := HNL.out; omega
      have hml := HM.out
      rw [hjm, ← HLL.out] at hml
      have hri : Rise l := by rw [HLL.out]; exact run_rise L _
      have hok : ∀ e ∈ l, okK e.1 := fun e he => run_key L _ e (by rw [← HLL.out]; exact he)
      have HRI := Lib.hid hri
      have HOK := Lib.hid hok
      have HXJ := Lib.hid (HX1.out.below (show Below W1.heap.size W1 wr by rw [← HBM.out]; exact HB.out))
      have HMJ := Lib.hid hml
      have HBJ := Lib.hid (show Below W.heap.size W wr from HB1.out.trans (HB.out.mono hz1))
      obtain ⟨z0, z1, -⟩ := box2 HXJ.out.x
      clear hml hri hok hl0 l0
      obtain ⟨jm, hjmm⟩ : ∃ q : Nat, q = min L.length 70 := ⟨_, rfl⟩
      rw [← hjmm] at HMJ
      clear hjm hjmm HM HB
      go_wp2_with fail
      refine (scan_all_v HXJ.out.g).mono ?_
      rintro e w4 ⟨la, ln, lc, rfl, hv4, hb4⟩
      have HX4 := Lib.hid (HXJ.out.below hb4)
      have HM4 := Lib.hid (HMJ.out.below hb4)
      have HB4 := Lib.hid (into HBJ.out hb4)
      have hln : l.length = ln := by obtain ⟨_, h, -, -⟩ := hv4; exact h.symm
      have HLN := Lib.hid hln
      have HL4 := Lib.hid hv4
      have hln6 : ln ≤ 1000000 := by have := HX4.out.g.few_ents; omega
      clear hv4 hb4 hln z0 z1
      have hlen := HM4.out.len 3
      rw [HLN.out] at hlen
      go_wp2_with fail
      clear hlen
      go_loopw [12] (fun i wr => ∃ x : Nat, x ≤ ln ∧ i = .int .i64 (x : Int) ∧ Hid (Below w4.heap.size w4 wr)) (fun i _ => ln - (intOf i).toNat)
      case atStart => exact ⟨0, by omega, rfl, Below.refl _ _⟩
      case round =>
        obtain ⟨x, hx, rfl, HQ⟩ := hrel
        have HXQ := Lib.hid (HX4.out.below HQ.out)
        have HMQ := Lib.hid (HM4.out.below HQ.out)
        by_cases hlt2 : (x : Int) < (ln : Int)
        · obtain ⟨b1, o1, c1, e9, -, -, p3⟩ := HL4.out.pos (by omega)
          simp only [Value.slice.injEq] at e9
          obtain ⟨rfl, -, rfl⟩ := e9
          have hxl : x < l.length := by have := HLN.out; omega
          obtain ⟨en, hen⟩ : ∃ en, en = l[x] := ⟨_, rfl⟩
          have hat : l[x]? = some en := by rw [hen]; exact List.getElem?_eq_getElem hxl
          have hmem : en ∈ l := by rw [hen]; exact List.getElem_mem hxl
          have hek := HOK.out en hmem
          have hlook : lookE en.1 l = some en.2 := lookE_some HRI.out hmem
          obtain ⟨ya, yc, y1, y2, y3⟩ := p3 x en hat
          have g1 := cell_of_below HQ.out y1
          have g2 := cell_of_below HQ.out y2
          have g3 := y3.below HQ.out
          have t0 := str_drew g3 0
          have t1 := str_drew g3
          have hfind := fun (W' : World) (hb : Below wr.heap.size wr W') => find_g (HXQ.out.below hb).g (g3.below hb) hek
          rw [hlook] at hfind
          simp only [Option.isSome_some, Option.getD_some, if_true] at hfind
          obtain ⟨ek, er⟩ := en
          simp only at g1 g2 g3 t0 t1 hfind hlook hek
          obtain ⟨yn, hyn⟩ : ∃ yn, yn = ek.length := ⟨_, rfl⟩
          rw [← hyn] at g1 t0 t1 hfind
          have HFI := Lib.hid hfind
          have t0' : (convert 25 9 (.slice ya yn yc)).run Try.prog wr = .ok (.string ⟨ek.toArray⟩) wr := t0
          clear y1 y2 y3 g3 hmem hyn hfind t0
          by_cases hx0 : (0 : Int) < (x : Int)
          · obtain ⟨y, rfl⟩ : ∃ y, x = y + 1 := ⟨x - 1, by omega⟩
            have hyl : y < l.length := by omega
            obtain ⟨ep, hep⟩ : ∃ ep, ep = l[y] := ⟨_, rfl⟩
            have hap : l[y]? = some ep := by rw [hep]; exact List.getElem?_eq_getElem hyl
            obtain ⟨xa, xc, x1, -, x3⟩ := p3 y ep hap
            have g4 := cell_of_below HQ.out x1
            have t2 := str_drew (x3.below HQ.out)
            have hlt3 : kl ep.1 ek = true := by
              have q := (List.pairwise_iff_getElem.1 HRI.out) y (y + 1) hyl hxl (by omega)
              rw [← hep, ← hen] at q
              exact q
            have hs1 : Op.bytesLess ek ep.1 = false := kl_not hlt3
            have hs2 : (ek == ep.1) = false := beq_eq_false_iff_ne.2 (fun e => by rw [e, show kl ep.1 ep.1 = false from bl_irr _] at hlt3; cases hlt3)
            obtain ⟨xn, hxn⟩ : ∃ xn, xn = ep.1.length := ⟨_, rfl⟩
            rw [← hxn] at g4 t2
            clear x1 x3 hxn hep hap hen hat hxl hyl hlt3 p3
            go_wp2_with (at_lookup; refine at_look _ rfl _ _ rfl bm jm l rfl HMQ.out ek hek rfl ?_; rw [hlook]; simp only [Option.isSome_some, Option.getD_some])
            go_quiet (fail)
            obtain ⟨x, hxy⟩ : ∃ x : Nat, x = y + 1 := ⟨_, rfl⟩
            have hcx : ((y : Int) + 1) = (x : Int) := by omega
            rw [hcx]
            rw [← hxy] at g1
            have hlt4 : (x : Int) < (ln : Int) := by omega
            have hx4 : x ≤ ln := by omega
            have HXY := Lib.hid hxy
            clear hlt2 hx hx0 hcx hxy
            obtain ⟨W6, hW6⟩ : ∃ W6, W6 = wr.drewN nq := ⟨_, rfl⟩
            have hq6 := below_drewN wr nq
            rw [← hW6] at hq6 ⊢
            replace g1 := cell_of_below hq6 g1
            have HQ6 := Lib.hid (HQ.out.trans (hq6.mono HQ.out.size))
            have HF6 := Lib.hid (fun (W' : World) (hb : Below W6.heap.size W6 W') => HFI.out W' (hq6.trans (hb.mono hq6.size)))
            obtain ⟨k0, k1, -⟩ := box2 (HXQ.out.below hq6).x
            clear hW6 hq6 g2 t0' t1 g4 t2 hs1 hs2 hlook
            go_wp2_with fail
            refine wpT_begin2 (S := (fun wx => wx.cell? ⟨Bt, 0, none⟩ = some (.slice ao T.pages.length cap) ∧ wx.cell? ⟨Bt, 1, none⟩ = some (.int .i64 T.root) ∧ wx.cell? ⟨b1, o1 + x * 2, none⟩ = some (.slice ya yn yc) ∧ Below W6.heap.size W6 wx)) [] (by kernel_rfl) ?_ (fun Wd hHeld => ?_)
            · (try dsimp only)
              exact ⟨cell_dr k0, cell_dr k1, cell_dr g1, (Below.refl _ _).drew⟩
            have hbd := hHeld.2.2.2
            refine wpAnyT_take (i := 0) (oi := _) (v := ?_) rfl (by kernel_rfl) (by kernel_rfl) (by kernel_rfl) (by kernel_rfl) (fun _ _ _ h => h) (Or.inl ⟨by rfl, ?_⟩) (by assumption) ?_
            rotate_left
            · (intro w hSw; (try dsimp only at hSw); go_simp)
              all_goals (with_reducible rfl)
            (try simp only [List.getElem_toArray, List.getElem_cons_zero, List.getElem_cons_succ, Act.put, List.setIfInBounds_toArray, List.set_cons_zero, List.set_cons_succ])
            refine wpAnyT_pure (i := 1) (oi := _) (v := ?_) rfl (by kernel_rfl) (by kernel_rfl) (by kernel_rfl) (by kernel_rfl) (fun _ _ _ h => h) (Or.inl ⟨by rfl, ?_⟩) (fun _ => by assumption) ?_
            rotate_left
            · (intro w hSw; go_simp)
              all_goals (with_reducible rfl)
            (try simp only [List.getElem_toArray, List.getElem_cons_zero, List.getElem_cons_succ, Act.put, List.setIfInBounds_toArray, List.set_cons_zero, List.set_cons_succ])
            refine wpAnyT_pure (i := 2) (oi := _) (v := ?_) rfl (by kernel_rfl) (by kernel_rfl) (by kernel_rfl) (by kernel_rfl) (fun _ _ _ h => h) (Or.inl ⟨by rfl, ?_⟩) (fun _ => by assumption) ?_
            rotate_left
            · (intro w hSw; go_simp)
              all_goals (with_reducible rfl)
            (try simp only [List.getElem_toArray, List.getElem_cons_zero, List.getElem_cons_succ, Act.put, List.setIfInBounds_toArray, List.set_cons_zero, List.set_cons_succ])
            refine wpAnyT_pure (i := 3) (oi := _) (v := ?_) rfl (by kernel_rfl) (by kernel_rfl) (by kernel_rfl) (by kernel_rfl) (fun _ _ _ h => h) (Or.inl ⟨by rfl, ?_⟩) (fun _ => by assumption) ?_
            rotate_left
            · (intro w hSw; go_simp)
              all_goals (with_reducible rfl)
            (try simp only [List.getElem_toArray, List.getElem_cons_zero, List.getElem_cons_succ, Act.put, List.setIfInBounds_toArray, List.set_cons_zero, List.set_cons_succ])
            refine wpAnyT_pure (i := 4) (oi := _) (v := ?_) rfl (by kernel_rfl) (by kernel_rfl) (by kernel_rfl) (by kernel_rfl) (fun _ _ _ h => h) (Or.inl ⟨by rfl, ?_⟩) (fun _ => by assumption) ?_
            rotate_left
            · (intro w hSw; go_simp)
              all_goals (with_reducible rfl)
            (try simp only [List.getElem_toArray, List.getElem_cons_zero, List.getElem_cons_succ, Act.put, List.setIfInBounds_toArray, List.set_cons_zero, List.set_cons_succ])
            refine wpAnyT_take (i := 5) (oi := _) (v := ?_) rfl (by kernel_rfl) (by kernel_rfl) (by kernel_rfl) (by kernel_rfl) (fun _ _ _ h => h) (Or.inl ⟨by rfl, ?_⟩) (by assumption) ?_
            rotate_left
            · (intro w hSw; (try dsimp only at hSw); go_simp)
              all_goals (with_reducible rfl)
            (try simp only [List.getElem_toArray, List.getElem_cons_zero, List.getElem_cons_succ, Act.put, List.setIfInBounds_toArray, List.set_cons_zero, List.set_cons_succ])
            refine wpAnyT_ready (rs := [6]) (by kernel_rfl) (by simp) ?_
            refine AllReadyT.cons rfl (fun K hK => ?_) AllReadyT.nil
            go_simp
            (go_at_call 31; refine (HF6.out _ hHeld.2.2.2).mono ?_; rintro e w8 ⟨rfl, hbc⟩)
            go_wp2_with fail
            refine hK.out _ _ (fun _ => ?_) (fun hHeld0 => ?_)
            · (try dsimp only)
              exact ⟨cell_bel hbc (hHeld.1), cell_bel hbc (hHeld.2.1), cell_bel hbc (hHeld.2.2.1), Below.trans (hHeld.2.2.2) (hbc.mono (hHeld.2.2.2).size)⟩
            have hHeld1 := hHeld0 (by kernel_rfl)
            clear hK K hHeld0
            have hb6 := hHeld1.2.2.2
            clear hHeld; have hHeld := hHeld1; clear hHeld1
            (try simp only [List.getElem_toArray, List.getElem_cons_zero, List.getElem_cons_succ, Act.put, List.setIfInBounds_toArray, List.set_cons_zero, List.set_cons_succ])
            refine wpAnyT_pure (i := 7) (oi := _) (v := ?_) rfl (by kernel_rfl) (by kernel_rfl) (by kernel_rfl) (by kernel_rfl) (fun _ _ _ h => h) (Or.inl ⟨by rfl, ?_⟩) (fun _ => by assumption) ?_
            rotate_left
            · (intro w hSw; go_simp)
              all_goals (with_reducible rfl)
            (try simp only [List.getElem_toArray, List.getElem_cons_zero, List.getElem_cons_succ, Act.put, List.setIfInBounds_toArray, List.set_cons_zero, List.set_cons_succ])
            refine wpAnyT_pure (i := 8) (oi := _) (v := ?_) rfl (by kernel_rfl) (by kernel_rfl) (by kernel_rfl) (by kernel_rfl) (fun _ _ _ h => h) (Or.inl ⟨by rfl, ?_⟩) (fun _ => by assumption) ?_
            rotate_left
            · (intro w hSw; go_simp)
              all_goals (with_reducible rfl)
            (try simp only [List.getElem_toArray, List.getElem_cons_zero, List.getElem_cons_succ, Act.put, List.setIfInBounds_toArray, List.set_cons_zero, List.set_cons_succ])
            refine wpAnyT_pure (i := 9) (oi := _) (v := ?_) rfl (by kernel_rfl) (by kernel_rfl) (by kernel_rfl) (by kernel_rfl) (fun _ _ _ h => h) (Or.inl ⟨by rfl, ?_⟩) (fun _ => by assumption) ?_
            rotate_left
            · (intro w hSw; go_simp)
              all_goals (with_reducible rfl)
            (try simp only [List.getElem_toArray, List.getElem_cons_zero, List.getElem_cons_succ, Act.put, List.setIfInBounds_toArray, List.set_cons_zero, List.set_cons_succ])
            refine wpAnyT_ready (rs := [10]) (by kernel_rfl) (by simp) ?_
            refine AllReadyT.cons rfl (fun K hK => ?_) AllReadyT.nil
            go_simp
            refine hK.out _ _ (fun _ => ?_) (fun hHeld0 => ?_)
            · (try dsimp only)
              (first | (with_reducible exact hHeld) | (with_reducible exact ⟨cell_al _ (hHeld.1), cell_al _ (hHeld.2.1), cell_al _ (hHeld.2.2.1), Below.alloc (hHeld.2.2.2) (hHeld.2.2.2).size _⟩))
            have hHeld1 := hHeld0 (by kernel_rfl)
            clear hK K hHeld0
            clear hHeld; have hHeld := hHeld1; clear hHeld1
            (try simp only [List.getElem_toArray, List.getElem_cons_zero, List.getElem_cons_succ, Act.put, List.setIfInBounds_toArray, List.set_cons_zero, List.set_cons_succ])
            refine wpAnyT_ready (rs := [11]) (by kernel_rfl) (by simp) ?_
            refine AllReadyT.cons rfl (fun K hK => ?_) AllReadyT.nil
            go_simp
            refine hK.out _ _ (fun _ => ?_) (fun hHeld0 => ?_)
            · (try dsimp only)
              (first | (with_reducible exact hHeld) | (with_reducible exact ⟨cell_al _ (hHeld.1), cell_al _ (hHeld.2.1), cell_al _ (hHeld.2.2.1), Below.alloc (hHeld.2.2.2) (hHeld.2.2.2).size _⟩))
            have hHeld1 := hHeld0 (by kernel_rfl)
            clear hK K hHeld0
            clear hHeld; have hHeld := hHeld1; clear hHeld1
            (try simp only [List.getElem_toArray, List.getElem_cons_zero, List.getElem_cons_succ, Act.put, List.setIfInBounds_toArray, List.set_cons_zero, List.set_cons_succ])
            refine wpAnyT_done (by kernel_rfl) ?_ _
            have HQ8 := Lib.hid (HQ6.out.trans (hb6.mono HQ6.out.size))
            clear hHeld hbd hb6 g1 k0 k1
            go_wp2_with fail
            go_roundw
            case rel => exact ⟨x + 1, by omega, by go_num, HQ8.out⟩
            case measure => have := HXY.out; simp [intOf]; omega
          · skip
            clear p3 hen hat hxl
            have hx01 : ¬ (0 < x) := by omega
            go_wp2_with (at_lookup; refine at_look _ rfl _ _ rfl bm jm l rfl HMQ.out ek hek rfl ?_; rw [hlook]; simp only [Option.isSome_some, Option.getD_some])
            go_quiet (fail)
            obtain ⟨W6, hW6⟩ : ∃ W6, W6 = wr.drewN nq := ⟨_, rfl⟩
            have hq6 := below_drewN wr nq
            rw [← hW6] at hq6 ⊢
            replace g1 := cell_of_below hq6 g1
            have HQ6 := Lib.hid (HQ.out.trans (hq6.mono HQ.out.size))
            have HF6 := Lib.hid (fun (W' : World) (hb : Below W6.heap.size W6 W') => HFI.out W' (hq6.trans (hb.mono hq6.size)))
            obtain ⟨k0, k1, -⟩ := box2 (HXQ.out.below hq6).x
            clear hW6 hq6 g2 t0' t1 hlook
            go_wp2_with fail
            refine wpT_begin2 (S := (fun wx => wx.cell? ⟨Bt, 0, none⟩ = some (.slice ao T.pages.length cap) ∧ wx.cell? ⟨Bt, 1, none⟩ = some (.int .i64 T.root) ∧ wx.cell? ⟨b1, o1 + x * 2, none⟩ = some (.slice ya yn yc) ∧ Below W6.heap.size W6 wx)) [] (by kernel_rfl) ?_ (fun Wd hHeld => ?_)
            · (try dsimp only)
              exact ⟨cell_dr k0, cell_dr k1, cell_dr g1, (Below.refl _ _).drew⟩
            have hbd := hHeld.2.2.2
            refine wpAnyT_take (i := 0) (oi := _) (v := ?_) rfl (by kernel_rfl) (by kernel_rfl) (by kernel_rfl) (by kernel_rfl) (fun _ _ _ h => h) (Or.inl ⟨by rfl, ?_⟩) (by assumption) ?_
            rotate_left
            · (intro w hSw; (try dsimp only at hSw); go_simp)
              all_goals (with_reducible rfl)
            (try simp only [List.getElem_toArray, List.getElem_cons_zero, List.getElem_cons_succ, Act.put, List.setIfInBounds_toArray, List.set_cons_zero, List.set_cons_succ])
            refine wpAnyT_pure (i := 1) (oi := _) (v := ?_) rfl (by kernel_rfl) (by kernel_rfl) (by kernel_rfl) (by kernel_rfl) (fun _ _ _ h => h) (Or.inl ⟨by rfl, ?_⟩) (fun _ => by assumption) ?_
            rotate_left
            · (intro w hSw; go_simp)
              all_goals (with_reducible rfl)
            (try simp only [List.getElem_toArray, List.getElem_cons_zero, List.getElem_cons_succ, Act.put, List.setIfInBounds_toArray, List.set_cons_zero, List.set_cons_succ])
            refine wpAnyT_pure (i := 2) (oi := _) (v := ?_) rfl (by kernel_rfl) (by kernel_rfl) (by kernel_rfl) (by kernel_rfl) (fun _ _ _ h => h) (Or.inl ⟨by rfl, ?_⟩) (fun _ => by assumption) ?_
            rotate_left
            · (intro w hSw; go_simp)
              all_goals (with_reducible rfl)
            (try simp only [List.getElem_toArray, List.getElem_cons_zero, List.getElem_cons_succ, Act.put, List.setIfInBounds_toArray, List.set_cons_zero, List.set_cons_succ])
            refine wpAnyT_pure (i := 3) (oi := _) (v := ?_) rfl (by kernel_rfl) (by kernel_rfl) (by kernel_rfl) (by kernel_rfl) (fun _ _ _ h => h) (Or.inl ⟨by rfl, ?_⟩) (fun _ => by assumption) ?_
            rotate_left
            · (intro w hSw; go_simp)
              all_goals (with_reducible rfl)
            (try simp only [List.getElem_toArray, List.getElem_cons_zero, List.getElem_cons_succ, Act.put, List.setIfInBounds_toArray, List.set_cons_zero, List.set_cons_succ])
            refine wpAnyT_pure (i := 4) (oi := _) (v := ?_) rfl (by kernel_rfl) (by kernel_rfl) (by kernel_rfl) (by kernel_rfl) (fun _ _ _ h => h) (Or.inl ⟨by rfl, ?_⟩) (fun _ => by assumption) ?_
            rotate_left
            · (intro w hSw; go_simp)
              all_goals (with_reducible rfl)
            (try simp only [List.getElem_toArray, List.getElem_cons_zero, List.getElem_cons_succ, Act.put, List.setIfInBounds_toArray, List.set_cons_zero, List.set_cons_succ])
            refine wpAnyT_take (i := 5) (oi := _) (v := ?_) rfl (by kernel_rfl) (by kernel_rfl) (by kernel_rfl) (by kernel_rfl) (fun _ _ _ h => h) (Or.inl ⟨by rfl, ?_⟩) (by assumption) ?_
            rotate_left
            · (intro w hSw; (try dsimp only at hSw); go_simp)
              all_goals (with_reducible rfl)
            (try simp only [List.getElem_toArray, List.getElem_cons_zero, List.getElem_cons_succ, Act.put, List.setIfInBounds_toArray, List.set_cons_zero, List.set_cons_succ])
            refine wpAnyT_ready (rs := [6]) (by kernel_rfl) (by simp) ?_
            refine AllReadyT.cons rfl (fun K hK => ?_) AllReadyT.nil
            go_simp
            (go_at_call 31; refine (HF6.out _ hHeld.2.2.2).mono ?_; rintro e w8 ⟨rfl, hbc⟩)
            go_wp2_with fail
            refine hK.out _ _ (fun _ => ?_) (fun hHeld0 => ?_)
            · (try dsimp only)
              exact ⟨cell_bel hbc (hHeld.1), cell_bel hbc (hHeld.2.1), cell_bel hbc (hHeld.2.2.1), Below.trans (hHeld.2.2.2) (hbc.mono (hHeld.2.2.2).size)⟩
            have hHeld1 := hHeld0 (by kernel_rfl)
            clear hK K hHeld0
            have hb6 := hHeld1.2.2.2
            clear hHeld; have hHeld := hHeld1; clear hHeld1
            (try simp only [List.getElem_toArray, List.getElem_cons_zero, List.getElem_cons_succ, Act.put, List.setIfInBounds_toArray, List.set_cons_zero, List.set_cons_succ])
            refine wpAnyT_pure (i := 7) (oi := _) (v := ?_) rfl (by kernel_rfl) (by kernel_rfl) (by kernel_rfl) (by kernel_rfl) (fun _ _ _ h => h) (Or.inl ⟨by rfl, ?_⟩) (fun _ => by assumption) ?_
            rotate_left
            · (intro w hSw; go_simp)
              all_goals (with_reducible rfl)
            (try simp only [List.getElem_toArray, List.getElem_cons_zero, List.getElem_cons_succ, Act.put, List.setIfInBounds_toArray, List.set_cons_zero, List.set_cons_succ])
            refine wpAnyT_pure (i := 8) (oi := _) (v := ?_) rfl (by kernel_rfl) (by kernel_rfl) (by kernel_rfl) (by kernel_rfl) (fun _ _ _ h => h) (Or.inl ⟨by rfl, ?_⟩) (fun _ => by assumption) ?_
            rotate_left
            · (intro w hSw; go_simp)
              all_goals (with_reducible rfl)
            (try simp only [List.getElem_toArray, List.getElem_cons_zero, List.getElem_cons_succ, Act.put, List.setIfInBounds_toArray, List.set_cons_zero, List.set_cons_succ])
            refine wpAnyT_pure (i := 9) (oi := _) (v := ?_) rfl (by kernel_rfl) (by kernel_rfl) (by kernel_rfl) (by kernel_rfl) (fun _ _ _ h => h) (Or.inl ⟨by rfl, ?_⟩) (fun _ => by assumption) ?_
            rotate_left
            · (intro w hSw; go_simp)
              all_goals (with_reducible rfl)
            (try simp only [List.getElem_toArray, List.getElem_cons_zero, List.getElem_cons_succ, Act.put, List.setIfInBounds_toArray, List.set_cons_zero, List.set_cons_succ])
            refine wpAnyT_ready (rs := [10]) (by kernel_rfl) (by simp) ?_
            refine AllReadyT.cons rfl (fun K hK => ?_) AllReadyT.nil
            go_simp
            refine hK.out _ _ (fun _ => ?_) (fun hHeld0 => ?_)
            · (try dsimp only)
              (first | (with_reducible exact hHeld) | (with_reducible exact ⟨cell_al _ (hHeld.1), cell_al _ (hHeld.2.1), cell_al _ (hHeld.2.2.1), Below.alloc (hHeld.2.2.2) (hHeld.2.2.2).size _⟩))
            have hHeld1 := hHeld0 (by kernel_rfl)
            clear hK K hHeld0
            clear hHeld; have hHeld := hHeld1; clear hHeld1
            (try simp only [List.getElem_toArray, List.getElem_cons_zero, List.getElem_cons_succ, Act.put, List.setIfInBounds_toArray, List.set_cons_zero, List.set_cons_succ])
            refine wpAnyT_ready (rs := [11]) (by kernel_rfl) (by simp) ?_
            refine AllReadyT.cons rfl (fun K hK => ?_) AllReadyT.nil
            go_simp
            refine hK.out _ _ (fun _ => ?_) (fun hHeld0 => ?_)
            · (try dsimp only)
              (first | (with_reducible exact hHeld) | (with_reducible exact ⟨cell_al _ (hHeld.1), cell_al _ (hHeld.2.1), cell_al _ (hHeld.2.2.1), Below.alloc (hHeld.2.2.2) (hHeld.2.2.2).size _⟩))
            have hHeld1 := hHeld0 (by kernel_rfl)
            clear hK K hHeld0
            clear hHeld; have hHeld := hHeld1; clear hHeld1
            (try simp only [List.getElem_toArray, List.getElem_cons_zero, List.getElem_cons_succ, Act.put, List.setIfInBounds_toArray, List.set_cons_zero, List.set_cons_succ])
            refine wpAnyT_done (by kernel_rfl) ?_ _
            have HQ8 := Lib.hid (HQ6.out.trans (hb6.mono HQ6.out.size))
            clear hHeld hbd hb6 g1 k0 k1
            go_wp2_with fail
            go_roundw
            case rel => exact ⟨x + 1, by omega, by go_num, HQ8.out⟩
            case measure => simp [intOf]; omega
        · go_wp2_with fail
          go_ret
          exact ⟨rfl, HB4.out.trans (HQ.out.mono HB4.out.size)⟩
end Go.Proofs.Ytacpeibkamfibaa
