/- It does not matter in which order keys are put in: at most sixty raw numbers. -/
import Derived.Deep.DeepCutAuto
import Derived.Test.YtacpeibkamfibaaXc
import Derived.Test.YtacpeibkamfibaaXd
import Derived.Test.YtacpeibkamfibaaXn
namespace Go.Proofs.Ytacpeibkamfibaa
open Go.ChangeShapes Go.WideShapes Go.ChangeAt Go.RowKit Go.Joins
set_option linter.unusedVariables false
set_option linter.unusedSimpArgs false
set_option maxHeartbeats 400000
set_option maxRecDepth 100000 in
set_option maxHeartbeats 8000000 in
theorem turnA (W : World) (n : Nat) (v : Value) (L : List Int) (hr : Rd W 1 n v (ic L)) (hz : n * 8 ≤ 140737488351232) (hs : ∀ o ∈ L, (Lit.int .i64 o).wf = true) (hNN : n ≤ 60) :
    Calls Try.prog 14 #[v] W fun e w' => e = .returned (.bool true) ∧ Below W.heap.size W w' := by
  have hnL : n = L.length := by have := hr.1; rw [ic_length] at this; omega
  obtain ⟨_, av, cv, rfl, hc1, hc2, _⟩ := id hr
  have HR := Lib.hid hr
  have HRN := Lib.hid (fun x (hx : x ∈ L) => rn_of (hs x hx))
  have HNL := Lib.hid hnL
  unfold maxLen at hc2
  clear hr hs hnL
  go_enter Try.func14, Try.ntmps14
  go_wp2_with fail
  go_loopw [3, 4] (fun fv i wr => ∃ (j m : Nat), j ≤ n ∧ j ≤ 60 ∧ m ≤ j ∧ i = .int .i64 (j : Int) ∧ Hid (m = (frL L j).length) ∧ Hid (wr.ownsRow W.heap.size 3 1 fv m (ic (frL L j))) ∧ Hid (Below W.heap.size W wr)) (fun _ i _ => n - (intOf i).toNat)
  case atStart => exact ⟨0, 0, by omega, by omega, by omega, rfl, rfl, World.ownsRow_nil _ _ _ _, Below.refl _ _⟩
  case round =>
    obtain ⟨j, m, hj, hj6, hmj, rfl, HM, HO, HB⟩ := hrel
    obtain ⟨_, fa, fc, rfl, -⟩ := Rd.own HO.out
    by_cases hlt : (j : Int) < (n : Int)
    · by_cases h60 : (j : Int) < 60
      · obtain ⟨eb, eo, cap', hv, _, _, hbw, hg⟩ := HR.out.pos (by omega) (by omega)
        simp only [Value.slice.injEq] at hv
        obtain ⟨rfl, -, rfl⟩ := hv
        have hjl : j < L.length := by have := HNL.out; omega
        have d1 := (HB.out.cell (p := ⟨eb, eo + j, none⟩) hbw).trans (hg j _ (ic_at hjl))
        obtain ⟨x, hxe⟩ : ∃ x, x = L.getD j 0 := ⟨_, rfl⟩
        rw [← hxe] at d1
        have hRx : Rn x := HRN.out x (by rw [hxe, List.getD_eq_getElem?_getD, List.getElem?_eq_getElem hjl]; exact List.getElem_mem hjl)
        have hpx := fun W' => pck_any x 90 W' hRx (by omega) (by omega)
        obtain ⟨q, hq⟩ : ∃ q, q = pck x 90 := ⟨_, rfl⟩
        have HF := Lib.hid (show frL L (j + 1) = if q ∈ frL L j then frL L j else frL L j ++ [q] by rw [hq, hxe]; rfl)
        rw [← hq] at hpx
        have HPX := Lib.hid hpx
        clear hg hbw hq hpx hxe hRx hjl
        go_wp2_with (go_at_call 32; refine (HPX.out _).mono ?_; rintro e w' ⟨rfl, rfl⟩)
        obtain ⟨w7, hw7⟩ : ∃ w7 : World, w7 = wr := ⟨_, rfl⟩
        rw [← hw7] at d1 HO HB ⊢
        clear hw7
        go_loopw [6, 7] (fun o k wq => ∃ (y : Nat), y ≤ m ∧ o = .bool (decide (q ∈ (frL L j).take y)) ∧ k = .int .i64 (y : Int) ∧ Hid (wq = w7)) (fun _ k _ => m - (intOf k).toNat)
        case atStart => exact ⟨0, by omega, by simp, rfl, rfl⟩
        case round =>
          obtain ⟨y, hy, rfl, rfl, HQ⟩ := hrel
          have hwq := HQ.out
          subst hwq
          by_cases hym : (y : Int) < (m : Int)
          · have hyl : y < (frL L j).length := by have := HM.out; omega
            obtain ⟨b2, o2, c2, e8, -, -, -, p4⟩ := (Rd.own HO.out).pos (by omega) (by omega)
            simp only [Value.slice.injEq] at e8
            obtain ⟨rfl, -, rfl⟩ := e8
            obtain ⟨z, hz'⟩ : ∃ z, z = (frL L j)[y] := ⟨_, rfl⟩
            have d2 := p4 y (.int .i64 z) (by rw [ic, List.getElem?_map, List.getElem?_eq_getElem hyl, hz']; rfl)
            have htk : (frL L j).take (y + 1) = (frL L j).take y ++ [z] := by rw [hz']; exact List.take_succ_eq_append_getElem hyl
            have HTK := Lib.hid htk
            clear p4 hz' htk hyl
            by_cases hin : q ∈ (frL L j).take y
            · have hd := decide_eq_true hin
              rw [hd]
              have HD := Lib.hid (show decide (q ∈ (frL L j).take (y + 1)) = true by rw [HTK.out]; simp [hin])
              clear hin hd
              go_wp2_with fail
              refine ⟨⟨y + 1, by omega, by rw [HD.out], by go_num, trivial⟩, ?_⟩
              (simp [intOf]) <;> omega
            · have hd := decide_eq_false hin
              rw [hd]
              by_cases hzq : z = q
              · have HD := Lib.hid (show decide (q ∈ (frL L j).take (y + 1)) = true by rw [HTK.out]; simp [hzq])
                have hb : (z == q) = true := by simpa using hzq
                clear hin hd hzq
                go_wp2_with fail
                refine ⟨⟨y + 1, by omega, by rw [HD.out], by go_num, trivial⟩, ?_⟩
                (simp [intOf]) <;> omega
              · have HD := Lib.hid (show decide (q ∈ (frL L j).take (y + 1)) = false by rw [HTK.out]; simp only [List.mem_append, List.mem_singleton, decide_eq_false_iff_not]; rintro (h | h); exact hin h; exact hzq h.symm)
                have hb : (z == q) = false := by simpa using hzq
                clear hin hd hzq
                go_wp2_with fail
                refine ⟨⟨y + 1, by omega, by rw [HD.out], by go_num, trivial⟩, ?_⟩
                (simp [intOf]) <;> omega
          · obtain rfl : y = m := by omega
            have htl : (frL L j).take y = frL L j := List.take_of_length_le (by rw [HM.out]; exact Nat.le_refl _)
            rw [htl]
            by_cases hin : q ∈ frL L j
            · have hd := decide_eq_true hin
              rw [hd]
              have HF2 := Lib.hid (show frL L (j + 1) = frL L j from HF.out.trans (if_pos hin))
              clear hin hd htl
              go_wp2_with fail
              refine ⟨⟨j + 1, y, by omega, by omega, by omega, by go_num, by rw [HF2.out]; exact HM.out, by rw [HF2.out]; exact HO.out, HB.out⟩, ?_⟩
              (simp [intOf]) <;> omega
            · have hd := decide_eq_false hin
              rw [hd]
              have HF2 := Lib.hid (show frL L (j + 1) = frL L j ++ [q] from HF.out.trans (if_neg hin))
              clear hin hd htl
              go_wp2_with (at_builtin; refine apx wr 1 rfl _ _ 45 3 _ 1 8 Try.underlying45 Try.info3 rfl (by omega) rfl HO.out HB.out.size (by omega) (by unfold maxLen; omega) [.int .i64 q] rfl (one_one rfl) wr.heap.size rfl rfl rfl ?_)
              intro v9 w9 hown9 hb9 hg9 hat9
              have HO9 := Lib.hid hown9
              have HB9 := Lib.hid (HB.out.trans hb9)
              clear hown9 hb9 hg9 hat9
              go_wp2_with fail
              refine ⟨⟨j + 1, y + 1, by omega, by omega, by omega, by go_num, by rw [HF2.out, List.length_append, ← HM.out]; rfl, by rw [HF2.out, ic_app]; exact HO9.out, HB9.out⟩, ?_⟩
              (simp [intOf]) <;> omega
      · skip
        omega
    · skip
      obtain ⟨F, hF⟩ : ∃ F, F = frL L j := ⟨_, rfl⟩
      have hnum : Nums F := by rw [hF]; exact ⟨(frL_ok L j).1, (frL_ok L j).2.1⟩
      have hmF : m = F.length := by rw [hF]; exact HM.out
      have HOF := Lib.hid (show wr.ownsRow W.heap.size 3 1 (.slice fa m fc) m (ic F) by rw [hF]; exact HO.out)
      have HNF := Lib.hid (And.intro hnum hmF)
      have HBF := Lib.hid HB.out
      obtain ⟨wF, hwF⟩ : ∃ wF : World, wF = wr := ⟨_, rfl⟩
      rw [← hwF] at HOF HBF ⊢
      have hm60 : m ≤ 60 := by omega
      clear hF hnum hmF hwF
      go_wp2_with fail
      refine (new_g wF).mono ?_
      rintro e w1 ⟨ao, cap, rfl, hg1, hb1⟩
      have hxa := TBx.new (T := newTr) hg1
      obtain ⟨W2, hW2⟩ : ∃ W2 : World, W2 = w1.alloc (.cells #[.slice ao 1 cap, .int .i64 0] 24) := ⟨_, rfl⟩
      obtain ⟨Ba, hBa⟩ : ∃ x, x = w1.heap.size := ⟨_, rfl⟩
      have hxa' : TBx wF.heap.size 0 W2 Ba ao cap newTr [] := by rw [hW2, hBa]; exact hxa
      have HXA := Lib.hid hxa'
      have hb2 : Below wF.heap.size wF W2 := by rw [hW2]; exact into hb1 (bel_al _ _)
      have HB2 := Lib.hid hb2
      have hBaw : wF.heap.size ≤ Ba := by rw [hBa]; exact hb1.size
      have hBa2 : Ba < W2.heap.size := (Array.getElem?_eq_some_iff.1 hxa'.x).1
      have HW2 := Lib.hid (And.intro hW2 hBa)
      clear hg1 hb1 hb2 hxa hxa' hW2 hBa
      go_wp2_with fail
      rw [← HW2.out.1, ← HW2.out.2]
      refine (new_g W2).mono ?_
      rintro e w3 ⟨bo, bcap, rfl, hg3, hb3⟩
      have hxb := TBx.new (T := newTr) hg3
      obtain ⟨wS, hW4⟩ : ∃ W4 : World, W4 = w3.alloc (.cells #[.slice bo 1 bcap, .int .i64 0] 24) := ⟨_, rfl⟩
      obtain ⟨Bb, hBb⟩ : ∃ x, x = w3.heap.size := ⟨_, rfl⟩
      have hxb' : TBx W2.heap.size 0 wS Bb bo bcap newTr [] := by rw [hW4, hBb]; exact hxb
      have HXB := Lib.hid hxb'
      have hb4 : Below W2.heap.size W2 wS := by rw [hW4]; exact into hb3 (bel_al _ _)
      have HXA4 := Lib.hid (HXA.out.below hb4)
      have HBS := Lib.hid (into HB2.out hb4)
      have hBb2 : W2.heap.size ≤ Bb := by rw [hBb]; exact hb3.size
      have HW4 := Lib.hid (And.intro hW4 hBb)
      have hab : Ba ≠ Bb := by omega
      clear hg3 hb3 hb4 hxb hxb' hW4 hBb
      go_wp2_with fail
      rw [← HW4.out.1, ← HW4.out.2]
      go_loopw [10] (fun iv wq => ∃ (i : Nat) (ao : Option Addr) (cap : Nat) (T : Tr) (bo : Option Addr) (bcap : Nat) (U : Tr), i ≤ m ∧ iv = .int .i64 (i : Int) ∧ Hid (TBx 0 i wq Ba ao cap T (madeE F i)) ∧ Hid (TBx 0 i wq Bb bo bcap U (madeE F.reverse i)) ∧ Hid (Below Ba wS wq)) (fun iv _ => m - (intOf iv).toNat)
      case atStart => exact ⟨0, ao, cap, newTr, bo, bcap, newTr, by omega, rfl, ⟨HXA4.out.g.base (Nat.zero_le _), HXA4.out.x⟩, ⟨HXB.out.g.base (Nat.zero_le _), HXB.out.x⟩, Below.refl _ _⟩
      case round =>
        obtain ⟨i, ao, cap, T, bo, bcap, U, him, rfl, HA, HBX, HBL⟩ := hrel
        obtain ⟨wo, hwo⟩ : ∃ wo : World, wo = wr := ⟨_, rfl⟩
        obtain ⟨k0, k1, kf0, kf1⟩ := box2 HA.out.x
        obtain ⟨j0, j1, jf0, jf1⟩ := box2 HBX.out.x
        by_cases hlm : (i : Int) < (m : Int)
        · obtain ⟨b2, o2, c2, e8, -, -, hfb, p4⟩ := (Rd.own HOF.out).pos (by omega) (by omega)
          simp only [Value.slice.injEq] at e8
          obtain ⟨rfl, -, rfl⟩ := e8
          have hlm' : i < m := by omega
          have hiF : i < F.length := by have := HNF.out.2; omega
          have hiR : i < F.reverse.length := by rw [List.length_reverse]; exact hiF
          obtain ⟨p, hp⟩ : ∃ p, p = F[i] := ⟨_, rfl⟩
          obtain ⟨r, hr⟩ : ∃ r, r = F.reverse[i] := ⟨_, rfl⟩
          have hrF : F[m - 1 - i]'(by have := HNF.out.2; omega) = r := by rw [hr, List.getElem_reverse]; congr 1; have := HNF.out.2; omega
          obtain ⟨y, hy⟩ : ∃ y : Nat, y = m - 1 - i := ⟨_, rfl⟩
          have hsz := HBL.out.size
          have e1 := hfb
          have d1 := (HBL.out.cell (p := ⟨b2, o2 + i, none⟩) (by show b2 < Ba; omega)).trans ((HBS.out.cell (p := ⟨b2, o2 + i, none⟩) hfb).trans (p4 i (.int .i64 p) (by rw [ic, List.getElem?_map, List.getElem?_eq_getElem hiF, hp]; rfl)))
          have d2 := (HBL.out.cell (p := ⟨b2, o2 + y, none⟩) (by show b2 < Ba; omega)).trans ((HBS.out.cell (p := ⟨b2, o2 + y, none⟩) hfb).trans (p4 y (.int .i64 r) (by rw [ic, List.getElem?_map, hy, List.getElem?_eq_getElem (by have := HNF.out.2; omega), hrF]; rfl)))
          have hp90 := HNF.out.1.small p (by rw [hp]; exact List.getElem_mem _)
          have hr90 := HNF.out.1.small r (by rw [hr]; exact List.mem_reverse.1 (List.getElem_mem _))
          have hRp : Rn p := ⟨by omega, by omega⟩
          have hRr : Rn r := ⟨by omega, by omega⟩
          have hna := made_none HNF.out.1 hiF
          have hnb := made_none HNF.out.1.rev hiR
          have hsa := made_step hiF
          have hsb := made_step hiR
          rw [← hp] at hna hsa
          rw [← hr] at hnb hsb
          have hyI : (m : Int) - 1 - (i : Int) = (y : Int) := by omega
          have hyI1 : IntKind.i64.wrap ((m : Int) - 1) = (m : Int) - 1 := by rw [IntKind.wrap_i64]; omega
          have hyI2 : IntKind.i64.wrap ((m : Int) - 1 - (i : Int)) = (y : Int) := by rw [hyI, IntKind.wrap_i64]; omega
          have hym : (y : Int) < (m : Int) := by omega
          have hy0 : (0 : Int) ≤ (y : Int) := by omega
          have HCA := Lib.hid (fun (W' : World) (kv : Value) (ok' : Nat → Prop) (hW : Below wr.heap.size wr W') (hk : RB W' ok' kv (keyK p)) => insert_g (HA.out.g.below hW) (by omega) hk (keyK_ok p) hp90.1 hna)
          have HCB := Lib.hid (fun (W' : World) (kv : Value) (ok' : Nat → Prop) (hW : Below wr.heap.size wr W') (hk : RB W' ok' kv (keyK r)) => insert_g (HBX.out.g.below hW) (by omega) hk (keyK_ok r) hr90.1 hnb)
          rw [← hsa] at HCA
          rw [← hsb] at HCB
          have hBaS : Ba < wr.heap.size := (Array.getElem?_eq_some_iff.1 HA.out.x).1
          have hBbS : Bb < wr.heap.size := (Array.getElem?_eq_some_iff.1 HBX.out.x).1
          have HYI := Lib.hid (And.intro hyI hy)
          clear hna hnb hsa hsb p4 hp hr hrF hp90 hr90 hy hiF hiR hfb hyI
          go_wp2_with fail
          refine wpT_begin2 (S := (fun wx => wx.cell? ⟨Ba, 0, none⟩ = some (.slice ao T.pages.length cap) ∧ wx.cell? ⟨Ba, 1, none⟩ = some (.int .i64 T.root) ∧ wx.cell? ⟨b2, o2 + i, none⟩ = some (.int .i64 p) ∧ Below wr.heap.size wr wx)) [15] (by kernel_rfl) ?_ (fun Wd hHeld => ?_)
          · (try dsimp only)
            exact ⟨cell_dr k0, cell_dr k1, cell_dr d1, (Below.refl _ _).drew⟩
          have hbd := hHeld.2.2.2
          refine wpAnyT_take (i := 0) (oi := _) (v := ?_) rfl (by kernel_rfl) (by kernel_rfl) (by kernel_rfl) (by kernel_rfl) (fun _ _ _ h => h) (Or.inl ⟨by rfl, ?_⟩) (by assumption) ?_
          rotate_left
          · (intro w hSw; (try dsimp only at hSw); go_simp)
            all_goals (with_reducible rfl)
          (try simp only [List.getElem_toArray, List.getElem_cons_zero, List.getElem_cons_succ, Act.put, List.setIfInBounds_toArray, List.set_cons_zero, List.set_cons_succ])
          refine wpAnyT_pure (i := 1) (oi := _) (v := ?_) rfl (by kernel_rfl) (by kernel_rfl) (by kernel_rfl) (by kernel_rfl) (fun _ _ _ h => h) (Or.inl ⟨by rfl, ?_⟩) (fun _ => by assumption) ?_
          rotate_left
          · (intro w hSw; go_simp)
            all_goals (with_reducible rfl)
          (try simp only [List.getElem_toArray, List.getElem_cons_zero, List.getElem_cons_succ, Act.put, List.setIfInBounds_toArray, List.set_cons_zero, List.set_cons_succ])
          refine wpAnyT_pure (i := 2) (oi := _) (v := ?_) rfl (by kernel_rfl) (by kernel_rfl) (by kernel_rfl) (by kernel_rfl) (fun _ _ _ h => h) (Or.inl ⟨by rfl, ?_⟩) (fun _ => by assumption) ?_
          rotate_left
          · (intro w hSw; go_simp)
            all_goals (with_reducible rfl)
          (try simp only [List.getElem_toArray, List.getElem_cons_zero, List.getElem_cons_succ, Act.put, List.setIfInBounds_toArray, List.set_cons_zero, List.set_cons_succ])
          refine wpAnyT_pure (i := 3) (oi := _) (v := ?_) rfl (by kernel_rfl) (by kernel_rfl) (by kernel_rfl) (by kernel_rfl) (fun _ _ _ h => h) (Or.inl ⟨by rfl, ?_⟩) (fun _ => by assumption) ?_
          rotate_left
          · (intro w hSw; go_simp)
            all_goals (with_reducible rfl)
          (try simp only [List.getElem_toArray, List.getElem_cons_zero, List.getElem_cons_succ, Act.put, List.setIfInBounds_toArray, List.set_cons_zero, List.set_cons_succ])
          refine wpAnyT_take (i := 4) (oi := _) (v := ?_) rfl (by kernel_rfl) (by kernel_rfl) (by kernel_rfl) (by kernel_rfl) (fun _ _ _ h => h) (Or.inl ⟨by rfl, ?_⟩) (by assumption) ?_
          rotate_left
          · (intro w hSw; (try dsimp only at hSw); go_simp)
            all_goals (with_reducible rfl)
          (try simp only [List.getElem_toArray, List.getElem_cons_zero, List.getElem_cons_succ, Act.put, List.setIfInBounds_toArray, List.set_cons_zero, List.set_cons_succ])
          refine wpAnyT_pure (i := 6) (oi := _) (v := ?_) rfl (by kernel_rfl) (by kernel_rfl) (by kernel_rfl) (by kernel_rfl) (fun _ _ _ h => h) (Or.inl ⟨by rfl, ?_⟩) (fun _ => by assumption) ?_
          rotate_left
          · (intro w hSw; go_simp)
            all_goals (with_reducible rfl)
          (try simp only [List.getElem_toArray, List.getElem_cons_zero, List.getElem_cons_succ, Act.put, List.setIfInBounds_toArray, List.set_cons_zero, List.set_cons_succ])
          refine wpAnyT_pure (i := 7) (oi := _) (v := ?_) rfl (by kernel_rfl) (by kernel_rfl) (by kernel_rfl) (by kernel_rfl) (fun _ _ _ h => h) (Or.inl ⟨by rfl, ?_⟩) (fun _ => by assumption) ?_
          rotate_left
          · (intro w hSw; go_simp)
            all_goals (with_reducible rfl)
          (try simp only [List.getElem_toArray, List.getElem_cons_zero, List.getElem_cons_succ, Act.put, List.setIfInBounds_toArray, List.set_cons_zero, List.set_cons_succ])
          refine wpAnyT_pure (i := 8) (oi := _) (v := ?_) rfl (by kernel_rfl) (by kernel_rfl) (by kernel_rfl) (by kernel_rfl) (fun _ _ _ h => h) (Or.inl ⟨by rfl, ?_⟩) (fun _ => by assumption) ?_
          rotate_left
          · (intro w hSw; go_simp)
            all_goals (with_reducible rfl)
          (try simp only [List.getElem_toArray, List.getElem_cons_zero, List.getElem_cons_succ, Act.put, List.setIfInBounds_toArray, List.set_cons_zero, List.set_cons_succ])
          refine wpAnyT_take (i := 9) (oi := _) (v := ?_) rfl (by kernel_rfl) (by kernel_rfl) (by kernel_rfl) (by kernel_rfl) (fun _ _ _ h => h) (Or.inl ⟨by rfl, ?_⟩) (by assumption) ?_
          rotate_left
          · (intro w hSw; (try dsimp only at hSw); go_simp)
            all_goals (with_reducible rfl)
          (try simp only [List.getElem_toArray, List.getElem_cons_zero, List.getElem_cons_succ, Act.put, List.setIfInBounds_toArray, List.set_cons_zero, List.set_cons_succ])
          refine wpAnyT_ready (rs := [5, 14]) (by kernel_rfl) (by simp) ?_
          refine AllReadyT.cons rfl (fun K hK => ?_) (AllReadyT.cons rfl (fun K hK => ?_) AllReadyT.nil)
          · skip
            go_simp
            (go_at_call 30; refine (key_any p _ hRp).mono ?_; rintro e w5 ⟨ka, kc, rfl, hkr, hbc⟩; have hz5 := hbc.size; (try simp only [World.size_alloc] at hz5); (try replace hbx := (hbc.block _ (Array.getElem?_eq_some_iff.1 hbx).1).trans hbx))
            go_wp2_with fail
            refine hK.out _ _ (fun _ => ?_) (fun hHeld0 => ?_)
            · (try dsimp only)
              exact ⟨cell_bel hbc (hHeld.1), cell_bel hbc (hHeld.2.1), cell_bel hbc (hHeld.2.2.1), Below.trans (hHeld.2.2.2) (hbc.mono (hHeld.2.2.2).size)⟩
            have hHeld1 := hHeld0 (by kernel_rfl)
            clear hK K hHeld0
            have hb5 := hHeld1.2.2.2
            clear hHeld; have hHeld := hHeld1; clear hHeld1
            (try simp only [List.getElem_toArray, List.getElem_cons_zero, List.getElem_cons_succ, Act.put, List.setIfInBounds_toArray, List.set_cons_zero, List.set_cons_succ])
            refine wpAnyT_ready (rs := [10, 14]) (by kernel_rfl) (by simp) ?_
            refine AllReadyT.cons rfl (fun K hK => ?_) (AllReadyT.cons rfl (fun K hK => ?_) AllReadyT.nil)
            · skip
              go_simp
              (go_at_call 25; refine (HCA.out _ _ _ hHeld.2.2.2 hkr).mono ?_; rintro e w6 ⟨ao6, cap6, T6, rfl, hg6, hbc⟩; have hz6 := hbc.size; (try simp only [World.size_alloc] at hz6); (try replace hbx := (hbc.block _ (Array.getElem?_eq_some_iff.1 hbx).1).trans hbx))
              go_wp2_with fail
              refine hK.out _ _ (fun _ => ?_) (fun hHeld0 => ?_)
              · (try dsimp only)
                exact ⟨cell_bel hbc (hHeld.1), cell_bel hbc (hHeld.2.1), cell_bel hbc (hHeld.2.2.1), Below.trans (hHeld.2.2.2) (hbc.mono (hHeld.2.2.2).size)⟩
              have hHeld1 := hHeld0 (by kernel_rfl)
              clear hK K hHeld0
              have hb6 := hHeld1.2.2.2
              clear hHeld; have hHeld := hHeld1; clear hHeld1
              (try simp only [List.getElem_toArray, List.getElem_cons_zero, List.getElem_cons_succ, Act.put, List.setIfInBounds_toArray, List.set_cons_zero, List.set_cons_succ])
              refine wpAnyT_pure (i := 11) (oi := _) (v := ?_) rfl (by kernel_rfl) (by kernel_rfl) (by kernel_rfl) (by kernel_rfl) (fun _ _ _ h => h) (Or.inl ⟨by rfl, ?_⟩) (fun _ => by assumption) ?_
              rotate_left
              · (intro w hSw; go_simp)
                all_goals (with_reducible rfl)
              (try simp only [List.getElem_toArray, List.getElem_cons_zero, List.getElem_cons_succ, Act.put, List.setIfInBounds_toArray, List.set_cons_zero, List.set_cons_succ])
              refine wpAnyT_pure (i := 12) (oi := _) (v := ?_) rfl (by kernel_rfl) (by kernel_rfl) (by kernel_rfl) (by kernel_rfl) (fun _ _ _ h => h) (Or.inl ⟨by rfl, ?_⟩) (fun _ => by assumption) ?_
              rotate_left
              · (intro w hSw; go_simp)
                all_goals (with_reducible rfl)
              (try simp only [List.getElem_toArray, List.getElem_cons_zero, List.getElem_cons_succ, Act.put, List.setIfInBounds_toArray, List.set_cons_zero, List.set_cons_succ])
              refine wpAnyT_pure (i := 13) (oi := _) (v := ?_) rfl (by kernel_rfl) (by kernel_rfl) (by kernel_rfl) (by kernel_rfl) (fun _ _ _ h => h) (Or.inl ⟨by rfl, ?_⟩) (fun _ => by assumption) ?_
              rotate_left
              · (intro w hSw; go_simp)
                all_goals (with_reducible rfl)
              (try simp only [List.getElem_toArray, List.getElem_cons_zero, List.getElem_cons_succ, Act.put, List.setIfInBounds_toArray, List.set_cons_zero, List.set_cons_succ])
              refine wpAnyT_ready (rs := [14]) (by kernel_rfl) (by simp) ?_
              refine AllReadyT.cons rfl (fun K hK => ?_) AllReadyT.nil
              go_simp
              refine hK.out _ _ (fun _ => ?_) (fun hHeld0 => ?_)
              · (try dsimp only)
                (first | (with_reducible exact hHeld) | (with_reducible exact ⟨cell_al _ (hHeld.1), cell_al _ (hHeld.2.1), cell_al _ (hHeld.2.2.1), Below.alloc (hHeld.2.2.2) (hHeld.2.2.2).size _⟩))
              have hHeld1 := hHeld0 (by kernel_rfl)
              clear hK K hHeld0
              (have hbx := alloc_of hHeld1.2.2.2); (try replace hkr := hkr.below (al_of hHeld1.2.2.2))
              clear hHeld; have hHeld := hHeld1; clear hHeld1
              (try simp only [List.getElem_toArray, List.getElem_cons_zero, List.getElem_cons_succ, Act.put, List.setIfInBounds_toArray, List.set_cons_zero, List.set_cons_succ])
              refine wpAnyT_ready (rs := [15]) (by kernel_rfl) (by simp) ?_
              refine AllReadyT.cons rfl (fun K hK => ?_) AllReadyT.nil
              obtain ⟨b0, b1, bf0, bf1⟩ := box2 hbx
              go_simp
              refine hK.out _ _ (noneB_off (by kernel_rfl)) (fun _ => ?_)
              clear hK K
              (try simp only [List.getElem_toArray, List.getElem_cons_zero, List.getElem_cons_succ, Act.put, List.setIfInBounds_toArray, List.set_cons_zero, List.set_cons_succ])
              refine wpAnyT_ready (rs := [16]) (by kernel_rfl) (by simp) ?_
              refine AllReadyT.cons rfl (fun K hK => ?_) AllReadyT.nil
              go_simp
              refine hK.out _ _ (noneB_off (by kernel_rfl)) (fun _ => ?_)
              clear hK K
              (try simp only [List.getElem_toArray, List.getElem_cons_zero, List.getElem_cons_succ, Act.put, List.setIfInBounds_toArray, List.set_cons_zero, List.set_cons_succ])
              refine wpAnyT_done (by kernel_rfl) ?_ _
              (try clear b0 b1 bf0 bf1)
              first
                | refine gen_two (P := fun w => (_ : Exit → Act → World → Prop) Exit.normal _ w) hbx (fun W9 hx9 hz9 hf9 hB9 => ?_)
                | refine gen_new (P := fun w => (_ : Exit → Act → World → Prop) Exit.normal _ w) (fun W9 hx9 hz9 hf9 hB9 => ?_)
              have hb9 : Below wr.heap.size wr W9 := hB9 _ _ (by have := hb6.size; have := hb5.size; have := hbd.size; omega) hb6
              have hgx : ∀ W' : World, (∀ b, wr.heap.size ≤ b → b < W9.heap.size → W'.heap[b]? = W9.heap[b]?) → W9.heap.size ≤ W'.heap.size → GT 0 (i + 1) W' (.agg #[.slice ao6 T6.pages.length cap6, .int .i64 T6.root]) T6 (madeE F (i + 1)) := fun W' hW hz => by
                have hs5 := hb5.size
                have hsd := hbd.size
                exact hg6.land (W := W') (B' := 0) (Nat.zero_le _) (fun b h1 h2 => (hW b (by (try simp only [World.size_alloc] at h1); omega) (by omega)).trans (hf9 b (by (try simp only [World.size_alloc] at h1); omega))) (by omega)
              have HGX := Lib.hid hgx
              have HB9 := Lib.hid hb9
              have HX9 := Lib.hid hx9
              replace d2 := cell_of_below hb9 d2
              have q0 := cell_of_below hb9 j0
              have q1 := cell_of_below hb9 j1
              clear hx9 hz9 hf9 hB9 hb9 hgx hHeld hb5 hb6 hbd hg6 hbc hz5 hz6 hkr k0 k1 kf0 kf1 j0 j1 jf0 jf1 d1
              (try clear hbx)
              go_wp2_with fail
              refine wpT_begin2 (S := (fun wx => wx.cell? ⟨Bb, 0, none⟩ = some (.slice bo U.pages.length bcap) ∧ wx.cell? ⟨Bb, 1, none⟩ = some (.int .i64 U.root) ∧ wx.cell? ⟨b2, o2 + y, none⟩ = some (.int .i64 r) ∧ Below W9.heap.size W9 wx)) [23] (by kernel_rfl) ?_ (fun Wd hHeld => ?_)
              · (try dsimp only)
                exact ⟨cell_dr q0, cell_dr q1, cell_dr d2, (Below.refl _ _).drew⟩
              have hbd := hHeld.2.2.2
              refine wpAnyT_take (i := 0) (oi := _) (v := ?_) rfl (by kernel_rfl) (by kernel_rfl) (by kernel_rfl) (by kernel_rfl) (fun _ _ _ h => h) (Or.inl ⟨by rfl, ?_⟩) (by assumption) ?_
              rotate_left
              · (intro w hSw; (try dsimp only at hSw); go_simp)
                all_goals (with_reducible rfl)
              (try simp only [List.getElem_toArray, List.getElem_cons_zero, List.getElem_cons_succ, Act.put, List.setIfInBounds_toArray, List.set_cons_zero, List.set_cons_succ])
              refine wpAnyT_pure (i := 1) (oi := _) (v := ?_) rfl (by kernel_rfl) (by kernel_rfl) (by kernel_rfl) (by kernel_rfl) (fun _ _ _ h => h) (Or.inl ⟨by rfl, ?_⟩) (fun _ => by assumption) ?_
              rotate_left
              · (intro w hSw; go_simp)
                all_goals (with_reducible rfl)
              (try simp only [List.getElem_toArray, List.getElem_cons_zero, List.getElem_cons_succ, Act.put, List.setIfInBounds_toArray, List.set_cons_zero, List.set_cons_succ])
              refine wpAnyT_pure (i := 2) (oi := _) (v := ?_) rfl (by kernel_rfl) (by kernel_rfl) (by kernel_rfl) (by kernel_rfl) (fun _ _ _ h => h) (Or.inl ⟨by rfl, ?_⟩) (fun _ => by assumption) ?_
              rotate_left
              · (intro w hSw; go_simp)
                all_goals (with_reducible rfl)
              (try simp only [List.getElem_toArray, List.getElem_cons_zero, List.getElem_cons_succ, Act.put, List.setIfInBounds_toArray, List.set_cons_zero, List.set_cons_succ])
              refine wpAnyT_pure (i := 3) (oi := _) (v := ?_) rfl (by kernel_rfl) (by kernel_rfl) (by kernel_rfl) (by kernel_rfl) (fun _ _ _ h => h) (Or.inl ⟨by rfl, ?_⟩) (fun _ => by assumption) ?_
              rotate_left
              · (intro w hSw; go_simp)
                all_goals (with_reducible rfl)
              (try simp only [List.getElem_toArray, List.getElem_cons_zero, List.getElem_cons_succ, Act.put, List.setIfInBounds_toArray, List.set_cons_zero, List.set_cons_succ])
              refine wpAnyT_pure (i := 4) (oi := _) (v := ?_) rfl (by kernel_rfl) (by kernel_rfl) (by kernel_rfl) (by kernel_rfl) (fun _ _ _ h => h) (Or.inl ⟨by rfl, ?_⟩) (fun _ => by assumption) ?_
              rotate_left
              · (intro w hSw; go_simp)
                all_goals (with_reducible rfl)
              (try simp only [List.getElem_toArray, List.getElem_cons_zero, List.getElem_cons_succ, Act.put, List.setIfInBounds_toArray, List.set_cons_zero, List.set_cons_succ])
              refine wpAnyT_pure (i := 5) (oi := _) (v := ?_) rfl (by kernel_rfl) (by kernel_rfl) (by kernel_rfl) (by kernel_rfl) (fun _ _ _ h => h) (Or.inl ⟨by rfl, ?_⟩) (fun _ => by assumption) ?_
              rotate_left
              · (intro w hSw; go_simp)
                all_goals (with_reducible rfl)
              (try simp only [List.getElem_toArray, List.getElem_cons_zero, List.getElem_cons_succ, Act.put, List.setIfInBounds_toArray, List.set_cons_zero, List.set_cons_succ])
              refine wpAnyT_pure (i := 6) (oi := _) (v := ?_) rfl (by kernel_rfl) (by kernel_rfl) (by kernel_rfl) (by kernel_rfl) (fun _ _ _ h => h) (Or.inl ⟨by rfl, ?_⟩) (fun _ => by assumption) ?_
              rotate_left
              · (intro w hSw; go_simp)
                all_goals (with_reducible rfl)
              (try simp only [List.getElem_toArray, List.getElem_cons_zero, List.getElem_cons_succ, Act.put, List.setIfInBounds_toArray, List.set_cons_zero, List.set_cons_succ])
              refine wpAnyT_pure (i := 7) (oi := _) (v := ?_) rfl (by kernel_rfl) (by kernel_rfl) (by kernel_rfl) (by kernel_rfl) (fun _ _ _ h => h) (Or.inl ⟨by rfl, ?_⟩) (fun _ => by assumption) ?_
              rotate_left
              · (intro w hSw; go_simp)
                all_goals (with_reducible rfl)
              (try simp only [List.getElem_toArray, List.getElem_cons_zero, List.getElem_cons_succ, Act.put, List.setIfInBounds_toArray, List.set_cons_zero, List.set_cons_succ])
              refine wpAnyT_take (i := 8) (oi := _) (v := ?_) rfl (by kernel_rfl) (by kernel_rfl) (by kernel_rfl) (by kernel_rfl) (fun _ _ _ h => h) (Or.inl ⟨by rfl, ?_⟩) (by assumption) ?_
              rotate_left
              · (intro w hSw; (try dsimp only at hSw); go_simp)
                all_goals (with_reducible rfl)
              (try simp only [List.getElem_toArray, List.getElem_cons_zero, List.getElem_cons_succ, Act.put, List.setIfInBounds_toArray, List.set_cons_zero, List.set_cons_succ])
              refine wpAnyT_pure (i := 10) (oi := _) (v := ?_) rfl (by kernel_rfl) (by kernel_rfl) (by kernel_rfl) (by kernel_rfl) (fun _ _ _ h => h) (Or.inl ⟨by rfl, ?_⟩) (fun _ => by assumption) ?_
              rotate_left
              · (intro w hSw; go_simp)
                all_goals (with_reducible rfl)
              (try simp only [List.getElem_toArray, List.getElem_cons_zero, List.getElem_cons_succ, Act.put, List.setIfInBounds_toArray, List.set_cons_zero, List.set_cons_succ])
              refine wpAnyT_pure (i := 11) (oi := _) (v := ?_) rfl (by kernel_rfl) (by kernel_rfl) (by kernel_rfl) (by kernel_rfl) (fun _ _ _ h => h) (Or.inl ⟨by rfl, ?_⟩) (fun _ => by assumption) ?_
              rotate_left
              · (intro w hSw; go_simp)
                all_goals (with_reducible rfl)
              (try simp only [List.getElem_toArray, List.getElem_cons_zero, List.getElem_cons_succ, Act.put, List.setIfInBounds_toArray, List.set_cons_zero, List.set_cons_succ])
              refine wpAnyT_pure (i := 12) (oi := _) (v := ?_) rfl (by kernel_rfl) (by kernel_rfl) (by kernel_rfl) (by kernel_rfl) (fun _ _ _ h => h) (Or.inl ⟨by rfl, ?_⟩) (fun _ => by assumption) ?_
              rotate_left
              · (intro w hSw; go_simp)
                all_goals (with_reducible rfl)
              (try simp only [List.getElem_toArray, List.getElem_cons_zero, List.getElem_cons_succ, Act.put, List.setIfInBounds_toArray, List.set_cons_zero, List.set_cons_succ])
              refine wpAnyT_pure (i := 13) (oi := _) (v := ?_) rfl (by kernel_rfl) (by kernel_rfl) (by kernel_rfl) (by kernel_rfl) (fun _ _ _ h => h) (Or.inl ⟨by rfl, ?_⟩) (fun _ => by assumption) ?_
              rotate_left
              · (intro w hSw; go_simp)
                all_goals (with_reducible rfl)
              (try simp only [List.getElem_toArray, List.getElem_cons_zero, List.getElem_cons_succ, Act.put, List.setIfInBounds_toArray, List.set_cons_zero, List.set_cons_succ])
              refine wpAnyT_pure (i := 14) (oi := _) (v := ?_) rfl (by kernel_rfl) (by kernel_rfl) (by kernel_rfl) (by kernel_rfl) (fun _ _ _ h => h) (Or.inl ⟨by rfl, ?_⟩) (fun _ => by assumption) ?_
              rotate_left
              · (intro w hSw; go_simp)
                all_goals (with_reducible rfl)
              (try simp only [List.getElem_toArray, List.getElem_cons_zero, List.getElem_cons_succ, Act.put, List.setIfInBounds_toArray, List.set_cons_zero, List.set_cons_succ])
              refine wpAnyT_pure (i := 15) (oi := _) (v := ?_) rfl (by kernel_rfl) (by kernel_rfl) (by kernel_rfl) (by kernel_rfl) (fun _ _ _ h => h) (Or.inl ⟨by rfl, ?_⟩) (fun _ => by assumption) ?_
              rotate_left
              · (intro w hSw; go_simp)
                all_goals (with_reducible rfl)
              (try simp only [List.getElem_toArray, List.getElem_cons_zero, List.getElem_cons_succ, Act.put, List.setIfInBounds_toArray, List.set_cons_zero, List.set_cons_succ])
              refine wpAnyT_pure (i := 16) (oi := _) (v := ?_) rfl (by kernel_rfl) (by kernel_rfl) (by kernel_rfl) (by kernel_rfl) (fun _ _ _ h => h) (Or.inl ⟨by rfl, ?_⟩) (fun _ => by assumption) ?_
              rotate_left
              · (intro w hSw; go_simp)
                all_goals (with_reducible rfl)
              (try simp only [List.getElem_toArray, List.getElem_cons_zero, List.getElem_cons_succ, Act.put, List.setIfInBounds_toArray, List.set_cons_zero, List.set_cons_succ])
              refine wpAnyT_take (i := 17) (oi := _) (v := ?_) rfl (by kernel_rfl) (by kernel_rfl) (by kernel_rfl) (by kernel_rfl) (fun _ _ _ h => h) (Or.inl ⟨by rfl, ?_⟩) (by assumption) ?_
              rotate_left
              · (intro w hSw; (try dsimp only at hSw); go_simp)
                all_goals (with_reducible rfl)
              (try simp only [List.getElem_toArray, List.getElem_cons_zero, List.getElem_cons_succ, Act.put, List.setIfInBounds_toArray, List.set_cons_zero, List.set_cons_succ])
              refine wpAnyT_ready (rs := [9, 22]) (by kernel_rfl) (by simp) ?_
              refine AllReadyT.cons rfl (fun K hK => ?_) (AllReadyT.cons rfl (fun K hK => ?_) AllReadyT.nil)
              · skip
                go_simp
                (go_at_call 30; refine (key_any r _ hRr).mono ?_; rintro e w5 ⟨kb, kd, rfl, hkr, hbc⟩; have hz5 := hbc.size; (try simp only [World.size_alloc] at hz5); (try replace hbx := (hbc.block _ (Array.getElem?_eq_some_iff.1 hbx).1).trans hbx))
                go_wp2_with fail
                refine hK.out _ _ (fun _ => ?_) (fun hHeld0 => ?_)
                · (try dsimp only)
                  exact ⟨cell_bel hbc (hHeld.1), cell_bel hbc (hHeld.2.1), cell_bel hbc (hHeld.2.2.1), Below.trans (hHeld.2.2.2) (hbc.mono (hHeld.2.2.2).size)⟩
                have hHeld1 := hHeld0 (by kernel_rfl)
                clear hK K hHeld0
                have hb5 := hHeld1.2.2.2
                clear hHeld; have hHeld := hHeld1; clear hHeld1
                (try simp only [List.getElem_toArray, List.getElem_cons_zero, List.getElem_cons_succ, Act.put, List.setIfInBounds_toArray, List.set_cons_zero, List.set_cons_succ])
                refine wpAnyT_ready (rs := [18, 22]) (by kernel_rfl) (by simp) ?_
                refine AllReadyT.cons rfl (fun K hK => ?_) (AllReadyT.cons rfl (fun K hK => ?_) AllReadyT.nil)
                · skip
                  go_simp
                  (go_at_call 25; refine (HCB.out _ _ _ (HB9.out.trans (hHeld.2.2.2.mono HB9.out.size)) hkr).mono ?_; rintro e w6 ⟨bo6, bcap6, U6, rfl, hg6, hbc⟩; have hz6 := hbc.size; (try simp only [World.size_alloc] at hz6); (try replace hbx := (hbc.block _ (Array.getElem?_eq_some_iff.1 hbx).1).trans hbx))
                  go_wp2_with fail
                  refine hK.out _ _ (fun _ => ?_) (fun hHeld0 => ?_)
                  · (try dsimp only)
                    exact ⟨cell_bel hbc (hHeld.1), cell_bel hbc (hHeld.2.1), cell_bel hbc (hHeld.2.2.1), Below.trans (hHeld.2.2.2) (hbc.mono (hHeld.2.2.2).size)⟩
                  have hHeld1 := hHeld0 (by kernel_rfl)
                  clear hK K hHeld0
                  have hb6 := hHeld1.2.2.2
                  clear hHeld; have hHeld := hHeld1; clear hHeld1
                  (try simp only [List.getElem_toArray, List.getElem_cons_zero, List.getElem_cons_succ, Act.put, List.setIfInBounds_toArray, List.set_cons_zero, List.set_cons_succ])
                  refine wpAnyT_pure (i := 19) (oi := _) (v := ?_) rfl (by kernel_rfl) (by kernel_rfl) (by kernel_rfl) (by kernel_rfl) (fun _ _ _ h => h) (Or.inl ⟨by rfl, ?_⟩) (fun _ => by assumption) ?_
                  rotate_left
                  · (intro w hSw; go_simp)
                    all_goals (with_reducible rfl)
                  (try simp only [List.getElem_toArray, List.getElem_cons_zero, List.getElem_cons_succ, Act.put, List.setIfInBounds_toArray, List.set_cons_zero, List.set_cons_succ])
                  refine wpAnyT_pure (i := 20) (oi := _) (v := ?_) rfl (by kernel_rfl) (by kernel_rfl) (by kernel_rfl) (by kernel_rfl) (fun _ _ _ h => h) (Or.inl ⟨by rfl, ?_⟩) (fun _ => by assumption) ?_
                  rotate_left
                  · (intro w hSw; go_simp)
                    all_goals (with_reducible rfl)
                  (try simp only [List.getElem_toArray, List.getElem_cons_zero, List.getElem_cons_succ, Act.put, List.setIfInBounds_toArray, List.set_cons_zero, List.set_cons_succ])
                  refine wpAnyT_pure (i := 21) (oi := _) (v := ?_) rfl (by kernel_rfl) (by kernel_rfl) (by kernel_rfl) (by kernel_rfl) (fun _ _ _ h => h) (Or.inl ⟨by rfl, ?_⟩) (fun _ => by assumption) ?_
                  rotate_left
                  · (intro w hSw; go_simp)
                    all_goals (with_reducible rfl)
                  (try simp only [List.getElem_toArray, List.getElem_cons_zero, List.getElem_cons_succ, Act.put, List.setIfInBounds_toArray, List.set_cons_zero, List.set_cons_succ])
                  refine wpAnyT_ready (rs := [22]) (by kernel_rfl) (by simp) ?_
                  refine AllReadyT.cons rfl (fun K hK => ?_) AllReadyT.nil
                  go_simp
                  refine hK.out _ _ (fun _ => ?_) (fun hHeld0 => ?_)
                  · (try dsimp only)
                    (first | (with_reducible exact hHeld) | (with_reducible exact ⟨cell_al _ (hHeld.1), cell_al _ (hHeld.2.1), cell_al _ (hHeld.2.2.1), Below.alloc (hHeld.2.2.2) (hHeld.2.2.2).size _⟩))
                  have hHeld1 := hHeld0 (by kernel_rfl)
                  clear hK K hHeld0
                  (have hbx := alloc_of hHeld1.2.2.2); (try replace hkr := hkr.below (al_of hHeld1.2.2.2))
                  clear hHeld; have hHeld := hHeld1; clear hHeld1
                  (try simp only [List.getElem_toArray, List.getElem_cons_zero, List.getElem_cons_succ, Act.put, List.setIfInBounds_toArray, List.set_cons_zero, List.set_cons_succ])
                  refine wpAnyT_ready (rs := [23]) (by kernel_rfl) (by simp) ?_
                  refine AllReadyT.cons rfl (fun K hK => ?_) AllReadyT.nil
                  obtain ⟨b0, b1, bf0, bf1⟩ := box2 hbx
                  go_simp
                  refine hK.out _ _ (noneB_off (by kernel_rfl)) (fun _ => ?_)
                  clear hK K
                  (try simp only [List.getElem_toArray, List.getElem_cons_zero, List.getElem_cons_succ, Act.put, List.setIfInBounds_toArray, List.set_cons_zero, List.set_cons_succ])
                  refine wpAnyT_ready (rs := [24]) (by kernel_rfl) (by simp) ?_
                  refine AllReadyT.cons rfl (fun K hK => ?_) AllReadyT.nil
                  go_simp
                  refine hK.out _ _ (noneB_off (by kernel_rfl)) (fun _ => ?_)
                  clear hK K
                  (try simp only [List.getElem_toArray, List.getElem_cons_zero, List.getElem_cons_succ, Act.put, List.setIfInBounds_toArray, List.set_cons_zero, List.set_cons_succ])
                  refine wpAnyT_done (by kernel_rfl) ?_ _
                  (try clear b0 b1 bf0 bf1)
                  first
                    | refine gen_two (P := fun w => (_ : Exit → Act → World → Prop) Exit.normal _ w) hbx (fun W10 hx10 hz10 hf10 hB10 => ?_)
                    | refine gen_new (P := fun w => (_ : Exit → Act → World → Prop) Exit.normal _ w) (fun W10 hx10 hz10 hf10 hB10 => ?_)
                  have hb10 : Below W9.heap.size W9 W10 := hB10 _ _ (by have := hb6.size; have := hb5.size; have := hbd.size; omega) hb6
                  have hgy : ∀ W' : World, (∀ b, W9.heap.size ≤ b → b < W10.heap.size → W'.heap[b]? = W10.heap[b]?) → W10.heap.size ≤ W'.heap.size → GT 0 (i + 1) W' (.agg #[.slice bo6 U6.pages.length bcap6, .int .i64 U6.root]) U6 (madeE F.reverse (i + 1)) := fun W' hW hz => by
                    have hs5 := hb5.size
                    have hsd := hbd.size
                    exact hg6.land (W := W') (B' := 0) (Nat.zero_le _) (fun b h1 h2 => (hW b (by (try simp only [World.size_alloc] at h1); omega) (by omega)).trans (hf10 b (by (try simp only [World.size_alloc] at h1); omega))) (by omega)
                  have HGY := Lib.hid hgy
                  have HB10 := Lib.hid hb10
                  have HX10 := Lib.hid hx10
                  have HXX := Lib.hid ((hb10.block _ (Array.getElem?_eq_some_iff.1 HX9.out).1).trans HX9.out)
                  have hs9 := HB9.out.size
                  have hs10 := hb10.size
                  have HSZ := Lib.hid (And.intro hb6.size (And.intro hb5.size hbd.size))
                  have hxa := (hb10.block Ba (by omega)).trans ((HB9.out.block Ba hBaS).trans HA.out.x)
                  have hxb := (hb10.block Bb (by omega)).trans ((HB9.out.block Bb hBbS).trans HBX.out.x)
                  clear hx10 hz10 hf10 hB10 hb10 hgy hHeld hb5 hb6 hbd hg6 hbc hz5 hz6 hkr q0 q1 d2
                  (try clear hbx)
                  obtain ⟨x90, x91, -⟩ := box2 HXX.out
                  obtain ⟨z0, z1, zf0, zf1⟩ := box2 hxa
                  have HXA10 := Lib.hid hxa
                  have HXBH := Lib.hid hxb
                  clear hxa hxb
                  go_upto_region 23 with (fail)
                  refine gen_two (P := fun w => Code.wp _ _ _ _ w) HXA10.out (fun W11 hx11 hz11 hf11 hB11 => ?_)
                  have hxy11 := (hf11 _ (by have := HSZ.out; omega)).trans HX10.out
                  have hxb11 := (hf11 Bb hab.symm).trans HXBH.out
                  obtain ⟨x100, x101, -⟩ := box2 hxy11
                  obtain ⟨y0, y1, yf0, yf1⟩ := box2 hxb11
                  have hBL11 := hB11 Ba wS (Nat.le_refl _) ((HBL.out.trans (HB9.out.mono (by omega))).trans (HB10.out.mono (by omega)))
                  have HW11 := Lib.hid (And.intro hx11 (And.intro hz11 (And.intro hf11 hBL11)))
                  clear hx11 hz11 hf11 hB11 hxy11 hxb11 hBL11 z0 z1 zf0 zf1 x90 x91
                  go_wp2_with fail
                  go_roundw
                  case rel =>
                    obtain ⟨hx11, hz11, hf11, hBL11⟩ := HW11.out
                    exact ⟨i + 1, ao6, cap6, T6, bo6, bcap6, U6, by omega, by go_num,
                      ⟨HGX.out _ (fun b h1 h2 => (two_far (show b ≠ Bb by omega)).trans ((hf11 b (by omega)).trans (HB10.out.block b h2))) (by simp only [World.size_setCell]; omega), (two_far hab).trans hx11⟩,
                      ⟨HGY.out _ (fun b h1 h2 => (two_far (show b ≠ Bb by omega)).trans (hf11 b (by omega))) (by simp only [World.size_setCell]; omega), two_heap ((hf11 Bb hab.symm).trans HXBH.out)⟩,
                      (hBL11.setCell (p := ⟨Bb, 0, none⟩) (by show Ba ≤ Bb; omega) _).setCell (p := ⟨Bb, 1, none⟩) (by show Ba ≤ Bb; omega) _⟩
                  case measure => (simp [intOf]) <;> omega
                · skip
                  go_simp
                  refine hK.out _ _ (fun _ => ?_) (fun hHeld0 => ?_)
                  · (try dsimp only)
                    (first | (with_reducible exact hHeld) | (with_reducible exact ⟨cell_al _ (hHeld.1), cell_al _ (hHeld.2.1), cell_al _ (hHeld.2.2.1), Below.alloc (hHeld.2.2.2) (hHeld.2.2.2).size _⟩))
                  have hHeld1 := hHeld0 (by kernel_rfl)
                  clear hK K hHeld0
                  (have hbx := alloc_of hHeld1.2.2.2); (try replace hkr := hkr.below (al_of hHeld1.2.2.2))
                  clear hHeld; have hHeld := hHeld1; clear hHeld1
                  (try simp only [List.getElem_toArray, List.getElem_cons_zero, List.getElem_cons_succ, Act.put, List.setIfInBounds_toArray, List.set_cons_zero, List.set_cons_succ])
                  refine wpAnyT_ready (rs := [18]) (by kernel_rfl) (by simp) ?_
                  refine AllReadyT.cons rfl (fun K hK => ?_) AllReadyT.nil
                  go_simp
                  (go_at_call 25; refine (HCB.out _ _ _ (HB9.out.trans (hHeld.2.2.2.mono HB9.out.size)) hkr).mono ?_; rintro e w6 ⟨bo6, bcap6, U6, rfl, hg6, hbc⟩; have hz6 := hbc.size; (try simp only [World.size_alloc] at hz6); (try replace hbx := (hbc.block _ (Array.getElem?_eq_some_iff.1 hbx).1).trans hbx))
                  go_wp2_with fail
                  refine hK.out _ _ (fun _ => ?_) (fun hHeld0 => ?_)
                  · (try dsimp only)
                    exact ⟨cell_bel hbc (hHeld.1), cell_bel hbc (hHeld.2.1), cell_bel hbc (hHeld.2.2.1), Below.trans (hHeld.2.2.2) (hbc.mono (hHeld.2.2.2).size)⟩
                  have hHeld1 := hHeld0 (by kernel_rfl)
                  clear hK K hHeld0
                  have hb6 := hHeld1.2.2.2
                  clear hHeld; have hHeld := hHeld1; clear hHeld1
                  (try simp only [List.getElem_toArray, List.getElem_cons_zero, List.getElem_cons_succ, Act.put, List.setIfInBounds_toArray, List.set_cons_zero, List.set_cons_succ])
                  refine wpAnyT_pure (i := 19) (oi := _) (v := ?_) rfl (by kernel_rfl) (by kernel_rfl) (by kernel_rfl) (by kernel_rfl) (fun _ _ _ h => h) (Or.inl ⟨by rfl, ?_⟩) (fun _ => by assumption) ?_
                  rotate_left
                  · (intro w hSw; go_simp)
                    all_goals (with_reducible rfl)
                  (try simp only [List.getElem_toArray, List.getElem_cons_zero, List.getElem_cons_succ, Act.put, List.setIfInBounds_toArray, List.set_cons_zero, List.set_cons_succ])
                  refine wpAnyT_pure (i := 20) (oi := _) (v := ?_) rfl (by kernel_rfl) (by kernel_rfl) (by kernel_rfl) (by kernel_rfl) (fun _ _ _ h => h) (Or.inl ⟨by rfl, ?_⟩) (fun _ => by assumption) ?_
                  rotate_left
                  · (intro w hSw; go_simp)
                    all_goals (with_reducible rfl)
                  (try simp only [List.getElem_toArray, List.getElem_cons_zero, List.getElem_cons_succ, Act.put, List.setIfInBounds_toArray, List.set_cons_zero, List.set_cons_succ])
                  refine wpAnyT_pure (i := 21) (oi := _) (v := ?_) rfl (by kernel_rfl) (by kernel_rfl) (by kernel_rfl) (by kernel_rfl) (fun _ _ _ h => h) (Or.inl ⟨by rfl, ?_⟩) (fun _ => by assumption) ?_
                  rotate_left
                  · (intro w hSw; go_simp)
                    all_goals (with_reducible rfl)
                  (try simp only [List.getElem_toArray, List.getElem_cons_zero, List.getElem_cons_succ, Act.put, List.setIfInBounds_toArray, List.set_cons_zero, List.set_cons_succ])
                  refine wpAnyT_ready (rs := [23]) (by kernel_rfl) (by simp) ?_
                  refine AllReadyT.cons rfl (fun K hK => ?_) AllReadyT.nil
                  obtain ⟨b0, b1, bf0, bf1⟩ := box2 hbx
                  go_simp
                  refine hK.out _ _ (noneB_off (by kernel_rfl)) (fun _ => ?_)
                  clear hK K
                  (try simp only [List.getElem_toArray, List.getElem_cons_zero, List.getElem_cons_succ, Act.put, List.setIfInBounds_toArray, List.set_cons_zero, List.set_cons_succ])
                  refine wpAnyT_ready (rs := [24]) (by kernel_rfl) (by simp) ?_
                  refine AllReadyT.cons rfl (fun K hK => ?_) AllReadyT.nil
                  go_simp
                  refine hK.out _ _ (noneB_off (by kernel_rfl)) (fun _ => ?_)
                  clear hK K
                  (try simp only [List.getElem_toArray, List.getElem_cons_zero, List.getElem_cons_succ, Act.put, List.setIfInBounds_toArray, List.set_cons_zero, List.set_cons_succ])
                  refine wpAnyT_done (by kernel_rfl) ?_ _
                  (try clear b0 b1 bf0 bf1)
                  first
                    | refine gen_two (P := fun w => (_ : Exit → Act → World → Prop) Exit.normal _ w) hbx (fun W10 hx10 hz10 hf10 hB10 => ?_)
                    | refine gen_new (P := fun w => (_ : Exit → Act → World → Prop) Exit.normal _ w) (fun W10 hx10 hz10 hf10 hB10 => ?_)
                  have hb10 : Below W9.heap.size W9 W10 := hB10 _ _ (by have := hb6.size; have := hb5.size; have := hbd.size; omega) hb6
                  have hgy : ∀ W' : World, (∀ b, W9.heap.size ≤ b → b < W10.heap.size → W'.heap[b]? = W10.heap[b]?) → W10.heap.size ≤ W'.heap.size → GT 0 (i + 1) W' (.agg #[.slice bo6 U6.pages.length bcap6, .int .i64 U6.root]) U6 (madeE F.reverse (i + 1)) := fun W' hW hz => by
                    have hs5 := hb5.size
                    have hsd := hbd.size
                    exact hg6.land (W := W') (B' := 0) (Nat.zero_le _) (fun b h1 h2 => (hW b (by (try simp only [World.size_alloc] at h1); omega) (by omega)).trans (hf10 b (by (try simp only [World.size_alloc] at h1); omega))) (by omega)
                  have HGY := Lib.hid hgy
                  have HB10 := Lib.hid hb10
                  have HX10 := Lib.hid hx10
                  have HXX := Lib.hid ((hb10.block _ (Array.getElem?_eq_some_iff.1 HX9.out).1).trans HX9.out)
                  have hs9 := HB9.out.size
                  have hs10 := hb10.size
                  have HSZ := Lib.hid (And.intro hb6.size (And.intro hb5.size hbd.size))
                  have hxa := (hb10.block Ba (by omega)).trans ((HB9.out.block Ba hBaS).trans HA.out.x)
                  have hxb := (hb10.block Bb (by omega)).trans ((HB9.out.block Bb hBbS).trans HBX.out.x)
                  clear hx10 hz10 hf10 hB10 hb10 hgy hHeld hb5 hb6 hbd hg6 hbc hz5 hz6 hkr q0 q1 d2
                  (try clear hbx)
                  obtain ⟨x90, x91, -⟩ := box2 HXX.out
                  obtain ⟨z0, z1, zf0, zf1⟩ := box2 hxa
                  have HXA10 := Lib.hid hxa
                  have HXBH := Lib.hid hxb
                  clear hxa hxb
                  go_upto_region 23 with (fail)
                  refine gen_two (P := fun w => Code.wp _ _ _ _ w) HXA10.out (fun W11 hx11 hz11 hf11 hB11 => ?_)
                  have hxy11 := (hf11 _ (by have := HSZ.out; omega)).trans HX10.out
                  have hxb11 := (hf11 Bb hab.symm).trans HXBH.out
                  obtain ⟨x100, x101, -⟩ := box2 hxy11
                  obtain ⟨y0, y1, yf0, yf1⟩ := box2 hxb11
                  have hBL11 := hB11 Ba wS (Nat.le_refl _) ((HBL.out.trans (HB9.out.mono (by omega))).trans (HB10.out.mono (by omega)))
                  have HW11 := Lib.hid (And.intro hx11 (And.intro hz11 (And.intro hf11 hBL11)))
                  clear hx11 hz11 hf11 hB11 hxy11 hxb11 hBL11 z0 z1 zf0 zf1 x90 x91
                  go_wp2_with fail
                  go_roundw
                  case rel =>
                    obtain ⟨hx11, hz11, hf11, hBL11⟩ := HW11.out
                    exact ⟨i + 1, ao6, cap6, T6, bo6, bcap6, U6, by omega, by go_num,
                      ⟨HGX.out _ (fun b h1 h2 => (two_far (show b ≠ Bb by omega)).trans ((hf11 b (by omega)).trans (HB10.out.block b h2))) (by simp only [World.size_setCell]; omega), (two_far hab).trans hx11⟩,
                      ⟨HGY.out _ (fun b h1 h2 => (two_far (show b ≠ Bb by omega)).trans (hf11 b (by omega))) (by simp only [World.size_setCell]; omega), two_heap ((hf11 Bb hab.symm).trans HXBH.out)⟩,
                      (hBL11.setCell (p := ⟨Bb, 0, none⟩) (by show Ba ≤ Bb; omega) _).setCell (p := ⟨Bb, 1, none⟩) (by show Ba ≤ Bb; omega) _⟩
                  case measure => (simp [intOf]) <;> omega
              · skip
                go_simp
                refine hK.out _ _ (fun _ => ?_) (fun hHeld0 => ?_)
                · (try dsimp only)
                  (first | (with_reducible exact hHeld) | (with_reducible exact ⟨cell_al _ (hHeld.1), cell_al _ (hHeld.2.1), cell_al _ (hHeld.2.2.1), Below.alloc (hHeld.2.2.2) (hHeld.2.2.2).size _⟩))
                have hHeld1 := hHeld0 (by kernel_rfl)
                clear hK K hHeld0
                (have hbx := alloc_of hHeld1.2.2.2); (try replace hkr := hkr.below (al_of hHeld1.2.2.2))
                clear hHeld; have hHeld := hHeld1; clear hHeld1
                (try simp only [List.getElem_toArray, List.getElem_cons_zero, List.getElem_cons_succ, Act.put, List.setIfInBounds_toArray, List.set_cons_zero, List.set_cons_succ])
                refine wpAnyT_ready (rs := [9]) (by kernel_rfl) (by simp) ?_
                refine AllReadyT.cons rfl (fun K hK => ?_) AllReadyT.nil
                go_simp
                (go_at_call 30; refine (key_any r _ hRr).mono ?_; rintro e w5 ⟨kb, kd, rfl, hkr, hbc⟩; have hz5 := hbc.size; (try simp only [World.size_alloc] at hz5); (try replace hbx := (hbc.block _ (Array.getElem?_eq_some_iff.1 hbx).1).trans hbx))
                go_wp2_with fail
                refine hK.out _ _ (fun _ => ?_) (fun hHeld0 => ?_)
                · (try dsimp only)
                  exact ⟨cell_bel hbc (hHeld.1), cell_bel hbc (hHeld.2.1), cell_bel hbc (hHeld.2.2.1), Below.trans (hHeld.2.2.2) (hbc.mono (hHeld.2.2.2).size)⟩
                have hHeld1 := hHeld0 (by kernel_rfl)
                clear hK K hHeld0
                have hb5 := hHeld1.2.2.2
                clear hHeld; have hHeld := hHeld1; clear hHeld1
                (try simp only [List.getElem_toArray, List.getElem_cons_zero, List.getElem_cons_succ, Act.put, List.setIfInBounds_toArray, List.set_cons_zero, List.set_cons_succ])
                refine wpAnyT_ready (rs := [18]) (by kernel_rfl) (by simp) ?_
                refine AllReadyT.cons rfl (fun K hK => ?_) AllReadyT.nil
                go_simp
                (go_at_call 25; refine (HCB.out _ _ _ (HB9.out.trans (hHeld.2.2.2.mono HB9.out.size)) hkr).mono ?_; rintro e w6 ⟨bo6, bcap6, U6, rfl, hg6, hbc⟩; have hz6 := hbc.size; (try simp only [World.size_alloc] at hz6); (try replace hbx := (hbc.block _ (Array.getElem?_eq_some_iff.1 hbx).1).trans hbx))
                go_wp2_with fail
                refine hK.out _ _ (fun _ => ?_) (fun hHeld0 => ?_)
                · (try dsimp only)
                  exact ⟨cell_bel hbc (hHeld.1), cell_bel hbc (hHeld.2.1), cell_bel hbc (hHeld.2.2.1), Below.trans (hHeld.2.2.2) (hbc.mono (hHeld.2.2.2).size)⟩
                have hHeld1 := hHeld0 (by kernel_rfl)
                clear hK K hHeld0
                have hb6 := hHeld1.2.2.2
                clear hHeld; have hHeld := hHeld1; clear hHeld1
                (try simp only [List.getElem_toArray, List.getElem_cons_zero, List.getElem_cons_succ, Act.put, List.setIfInBounds_toArray, List.set_cons_zero, List.set_cons_succ])
                refine wpAnyT_pure (i := 19) (oi := _) (v := ?_) rfl (by kernel_rfl) (by kernel_rfl) (by kernel_rfl) (by kernel_rfl) (fun _ _ _ h => h) (Or.inl ⟨by rfl, ?_⟩) (fun _ => by assumption) ?_
                rotate_left
                · (intro w hSw; go_simp)
                  all_goals (with_reducible rfl)
                (try simp only [List.getElem_toArray, List.getElem_cons_zero, List.getElem_cons_succ, Act.put, List.setIfInBounds_toArray, List.set_cons_zero, List.set_cons_succ])
                refine wpAnyT_pure (i := 20) (oi := _) (v := ?_) rfl (by kernel_rfl) (by kernel_rfl) (by kernel_rfl) (by kernel_rfl) (fun _ _ _ h => h) (Or.inl ⟨by rfl, ?_⟩) (fun _ => by assumption) ?_
                rotate_left
                · (intro w hSw; go_simp)
                  all_goals (with_reducible rfl)
                (try simp only [List.getElem_toArray, List.getElem_cons_zero, List.getElem_cons_succ, Act.put, List.setIfInBounds_toArray, List.set_cons_zero, List.set_cons_succ])
                refine wpAnyT_pure (i := 21) (oi := _) (v := ?_) rfl (by kernel_rfl) (by kernel_rfl) (by kernel_rfl) (by kernel_rfl) (fun _ _ _ h => h) (Or.inl ⟨by rfl, ?_⟩) (fun _ => by assumption) ?_
                rotate_left
                · (intro w hSw; go_simp)
                  all_goals (with_reducible rfl)
                (try simp only [List.getElem_toArray, List.getElem_cons_zero, List.getElem_cons_succ, Act.put, List.setIfInBounds_toArray, List.set_cons_zero, List.set_cons_succ])
                refine wpAnyT_ready (rs := [23]) (by kernel_rfl) (by simp) ?_
                refine AllReadyT.cons rfl (fun K hK => ?_) AllReadyT.nil
                obtain ⟨b0, b1, bf0, bf1⟩ := box2 hbx
                go_simp
                refine hK.out _ _ (noneB_off (by kernel_rfl)) (fun _ => ?_)
                clear hK K
                (try simp only [List.getElem_toArray, List.getElem_cons_zero, List.getElem_cons_succ, Act.put, List.setIfInBounds_toArray, List.set_cons_zero, List.set_cons_succ])
                refine wpAnyT_ready (rs := [24]) (by kernel_rfl) (by simp) ?_
                refine AllReadyT.cons rfl (fun K hK => ?_) AllReadyT.nil
                go_simp
                refine hK.out _ _ (noneB_off (by kernel_rfl)) (fun _ => ?_)
                clear hK K
                (try simp only [List.getElem_toArray, List.getElem_cons_zero, List.getElem_cons_succ, Act.put, List.setIfInBounds_toArray, List.set_cons_zero, List.set_cons_succ])
                refine wpAnyT_done (by kernel_rfl) ?_ _
                (try clear b0 b1 bf0 bf1)
                first
                  | refine gen_two (P := fun w => (_ : Exit → Act → World → Prop) Exit.normal _ w) hbx (fun W10 hx10 hz10 hf10 hB10 => ?_)
                  | refine gen_new (P := fun w => (_ : Exit → Act → World → Prop) Exit.normal _ w) (fun W10 hx10 hz10 hf10 hB10 => ?_)
                have hb10 : Below W9.heap.size W9 W10 := hB10 _ _ (by have := hb6.size; have := hb5.size; have := hbd.size; omega) hb6
                have hgy : ∀ W' : World, (∀ b, W9.heap.size ≤ b → b < W10.heap.size → W'.heap[b]? = W10.heap[b]?) → W10.heap.size ≤ W'.heap.size → GT 0 (i + 1) W' (.agg #[.slice bo6 U6.pages.length bcap6, .int .i64 U6.root]) U6 (madeE F.reverse (i + 1)) := fun W' hW hz => by
                  have hs5 := hb5.size
                  have hsd := hbd.size
                  exact hg6.land (W := W') (B' := 0) (Nat.zero_le _) (fun b h1 h2 => (hW b (by (try simp only [World.size_alloc] at h1); omega) (by omega)).trans (hf10 b (by (try simp only [World.size_alloc] at h1); omega))) (by omega)
                have HGY := Lib.hid hgy
                have HB10 := Lib.hid hb10
                have HX10 := Lib.hid hx10
                have HXX := Lib.hid ((hb10.block _ (Array.getElem?_eq_some_iff.1 HX9.out).1).trans HX9.out)
                have hs9 := HB9.out.size
                have hs10 := hb10.size
                have HSZ := Lib.hid (And.intro hb6.size (And.intro hb5.size hbd.size))
                have hxa := (hb10.block Ba (by omega)).trans ((HB9.out.block Ba hBaS).trans HA.out.x)
                have hxb := (hb10.block Bb (by omega)).trans ((HB9.out.block Bb hBbS).trans HBX.out.x)
                clear hx10 hz10 hf10 hB10 hb10 hgy hHeld hb5 hb6 hbd hg6 hbc hz5 hz6 hkr q0 q1 d2
                (try clear hbx)
                obtain ⟨x90, x91, -⟩ := box2 HXX.out
                obtain ⟨z0, z1, zf0, zf1⟩ := box2 hxa
                have HXA10 := Lib.hid hxa
                have HXBH := Lib.hid hxb
                clear hxa hxb
                go_upto_region 23 with (fail)
                refine gen_two (P := fun w => Code.wp _ _ _ _ w) HXA10.out (fun W11 hx11 hz11 hf11 hB11 => ?_)
                have hxy11 := (hf11 _ (by have := HSZ.out; omega)).trans HX10.out
                have hxb11 := (hf11 Bb hab.symm).trans HXBH.out
                obtain ⟨x100, x101, -⟩ := box2 hxy11
                obtain ⟨y0, y1, yf0, yf1⟩ := box2 hxb11
                have hBL11 := hB11 Ba wS (Nat.le_refl _) ((HBL.out.trans (HB9.out.mono (by omega))).trans (HB10.out.mono (by omega)))
                have HW11 := Lib.hid (And.intro hx11 (And.intro hz11 (And.intro hf11 hBL11)))
                clear hx11 hz11 hf11 hB11 hxy11 hxb11 hBL11 z0 z1 zf0 zf1 x90 x91
                go_wp2_with fail
                go_roundw
                case rel =>
                  obtain ⟨hx11, hz11, hf11, hBL11⟩ := HW11.out
                  exact ⟨i + 1, ao6, cap6, T6, bo6, bcap6, U6, by omega, by go_num,
                    ⟨HGX.out _ (fun b h1 h2 => (two_far (show b ≠ Bb by omega)).trans ((hf11 b (by omega)).trans (HB10.out.block b h2))) (by simp only [World.size_setCell]; omega), (two_far hab).trans hx11⟩,
                    ⟨HGY.out _ (fun b h1 h2 => (two_far (show b ≠ Bb by omega)).trans (hf11 b (by omega))) (by simp only [World.size_setCell]; omega), two_heap ((hf11 Bb hab.symm).trans HXBH.out)⟩,
                    (hBL11.setCell (p := ⟨Bb, 0, none⟩) (by show Ba ≤ Bb; omega) _).setCell (p := ⟨Bb, 1, none⟩) (by show Ba ≤ Bb; omega) _⟩
                case measure => (simp [intOf]) <;> omega
            · skip
              go_simp
              refine hK.out _ _ (fun _ => ?_) (fun hHeld0 => ?_)
              · (try dsimp only)
                (first | (with_reducible exact hHeld) | (with_reducible exact ⟨cell_al _ (hHeld.1), cell_al _ (hHeld.2.1), cell_al _ (hHeld.2.2.1), Below.alloc (hHeld.2.2.2) (hHeld.2.2.2).size _⟩))
              have hHeld1 := hHeld0 (by kernel_rfl)
              clear hK K hHeld0
              (have hbx := alloc_of hHeld1.2.2.2); (try replace hkr := hkr.below (al_of hHeld1.2.2.2))
              clear hHeld; have hHeld := hHeld1; clear hHeld1
              (try simp only [List.getElem_toArray, List.getElem_cons_zero, List.getElem_cons_succ, Act.put, List.setIfInBounds_toArray, List.set_cons_zero, List.set_cons_succ])
              refine wpAnyT_ready (rs := [10]) (by kernel_rfl) (by simp) ?_
              refine AllReadyT.cons rfl (fun K hK => ?_) AllReadyT.nil
              go_simp
              (go_at_call 25; refine (HCA.out _ _ _ hHeld.2.2.2 hkr).mono ?_; rintro e w6 ⟨ao6, cap6, T6, rfl, hg6, hbc⟩; have hz6 := hbc.size; (try simp only [World.size_alloc] at hz6); (try replace hbx := (hbc.block _ (Array.getElem?_eq_some_iff.1 hbx).1).trans hbx))
              go_wp2_with fail
              refine hK.out _ _ (fun _ => ?_) (fun hHeld0 => ?_)
              · (try dsimp only)
                exact ⟨cell_bel hbc (hHeld.1), cell_bel hbc (hHeld.2.1), cell_bel hbc (hHeld.2.2.1), Below.trans (hHeld.2.2.2) (hbc.mono (hHeld.2.2.2).size)⟩
              have hHeld1 := hHeld0 (by kernel_rfl)
              clear hK K hHeld0
              have hb6 := hHeld1.2.2.2
              clear hHeld; have hHeld := hHeld1; clear hHeld1
              (try simp only [List.getElem_toArray, List.getElem_cons_zero, List.getElem_cons_succ, Act.put, List.setIfInBounds_toArray, List.set_cons_zero, List.set_cons_succ])
              refine wpAnyT_pure (i := 11) (oi := _) (v := ?_) rfl (by kernel_rfl) (by kernel_rfl) (by kernel_rfl) (by kernel_rfl) (fun _ _ _ h => h) (Or.inl ⟨by rfl, ?_⟩) (fun _ => by assumption) ?_
              rotate_left
              · (intro w hSw; go_simp)
                all_goals (with_reducible rfl)
              (try simp only [List.getElem_toArray, List.getElem_cons_zero, List.getElem_cons_succ, Act.put, List.setIfInBounds_toArray, List.set_cons_zero, List.set_cons_succ])
              refine wpAnyT_pure (i := 12) (oi := _) (v := ?_) rfl (by kernel_rfl) (by kernel_rfl) (by kernel_rfl) (by kernel_rfl) (fun _ _ _ h => h) (Or.inl ⟨by rfl, ?_⟩) (fun _ => by assumption) ?_
              rotate_left
              · (intro w hSw; go_simp)
                all_goals (with_reducible rfl)
              (try simp only [List.getElem_toArray, List.getElem_cons_zero, List.getElem_cons_succ, Act.put, List.setIfInBounds_toArray, List.set_cons_zero, List.set_cons_succ])
              refine wpAnyT_pure (i := 13) (oi := _) (v := ?_) rfl (by kernel_rfl) (by kernel_rfl) (by kernel_rfl) (by kernel_rfl) (fun _ _ _ h => h) (Or.inl ⟨by rfl, ?_⟩) (fun _ => by assumption) ?_
              rotate_left
              · (intro w hSw; go_simp)
                all_goals (with_reducible rfl)
              (try simp only [List.getElem_toArray, List.getElem_cons_zero, List.getElem_cons_succ, Act.put, List.setIfInBounds_toArray, List.set_cons_zero, List.set_cons_succ])
              refine wpAnyT_ready (rs := [15]) (by kernel_rfl) (by simp) ?_
              refine AllReadyT.cons rfl (fun K hK => ?_) AllReadyT.nil
              obtain ⟨b0, b1, bf0, bf1⟩ := box2 hbx
              go_simp
              refine hK.out _ _ (noneB_off (by kernel_rfl)) (fun _ => ?_)
              clear hK K
              (try simp only [List.getElem_toArray, List.getElem_cons_zero, List.getElem_cons_succ, Act.put, List.setIfInBounds_toArray, List.set_cons_zero, List.set_cons_succ])
              refine wpAnyT_ready (rs := [16]) (by kernel_rfl) (by simp) ?_
              refine AllReadyT.cons rfl (fun K hK => ?_) AllReadyT.nil
              go_simp
              refine hK.out _ _ (noneB_off (by kernel_rfl)) (fun _ => ?_)
              clear hK K
              (try simp only [List.getElem_toArray, List.getElem_cons_zero, List.getElem_cons_succ, Act.put, List.setIfInBounds_toArray, List.set_cons_zero, List.set_cons_succ])
              refine wpAnyT_done (by kernel_rfl) ?_ _
              (try clear b0 b1 bf0 bf1)
              first
                | refine gen_two (P := fun w => (_ : Exit → Act → World → Prop) Exit.normal _ w) hbx (fun W9 hx9 hz9 hf9 hB9 => ?_)
                | refine gen_new (P := fun w => (_ : Exit → Act → World → Prop) Exit.normal _ w) (fun W9 hx9 hz9 hf9 hB9 => ?_)
              have hb9 : Below wr.heap.size wr W9 := hB9 _ _ (by have := hb6.size; have := hb5.size; have := hbd.size; omega) hb6
              have hgx : ∀ W' : World, (∀ b, wr.heap.size ≤ b → b < W9.heap.size → W'.heap[b]? = W9.heap[b]?) → W9.heap.size ≤ W'.heap.size → GT 0 (i + 1) W' (.agg #[.slice ao6 T6.pages.length cap6, .int .i64 T6.root]) T6 (madeE F (i + 1)) := fun W' hW hz => by
                have hs5 := hb5.size
                have hsd := hbd.size
                exact hg6.land (W := W') (B' := 0) (Nat.zero_le _) (fun b h1 h2 => (hW b (by (try simp only [World.size_alloc] at h1); omega) (by omega)).trans (hf9 b (by (try simp only [World.size_alloc] at h1); omega))) (by omega)
              have HGX := Lib.hid hgx
              have HB9 := Lib.hid hb9
              have HX9 := Lib.hid hx9
              replace d2 := cell_of_below hb9 d2
              have q0 := cell_of_below hb9 j0
              have q1 := cell_of_below hb9 j1
              clear hx9 hz9 hf9 hB9 hb9 hgx hHeld hb5 hb6 hbd hg6 hbc hz5 hz6 hkr k0 k1 kf0 kf1 j0 j1 jf0 jf1 d1
              (try clear hbx)
              go_wp2_with fail
              refine wpT_begin2 (S := (fun wx => wx.cell? ⟨Bb, 0, none⟩ = some (.slice bo U.pages.length bcap) ∧ wx.cell? ⟨Bb, 1, none⟩ = some (.int .i64 U.root) ∧ wx.cell? ⟨b2, o2 + y, none⟩ = some (.int .i64 r) ∧ Below W9.heap.size W9 wx)) [23] (by kernel_rfl) ?_ (fun Wd hHeld => ?_)
              · (try dsimp only)
                exact ⟨cell_dr q0, cell_dr q1, cell_dr d2, (Below.refl _ _).drew⟩
              have hbd := hHeld.2.2.2
              refine wpAnyT_take (i := 0) (oi := _) (v := ?_) rfl (by kernel_rfl) (by kernel_rfl) (by kernel_rfl) (by kernel_rfl) (fun _ _ _ h => h) (Or.inl ⟨by rfl, ?_⟩) (by assumption) ?_
              rotate_left
              · (intro w hSw; (try dsimp only at hSw); go_simp)
                all_goals (with_reducible rfl)
              (try simp only [List.getElem_toArray, List.getElem_cons_zero, List.getElem_cons_succ, Act.put, List.setIfInBounds_toArray, List.set_cons_zero, List.set_cons_succ])
              refine wpAnyT_pure (i := 1) (oi := _) (v := ?_) rfl (by kernel_rfl) (by kernel_rfl) (by kernel_rfl) (by kernel_rfl) (fun _ _ _ h => h) (Or.inl ⟨by rfl, ?_⟩) (fun _ => by assumption) ?_
              rotate_left
              · (intro w hSw; go_simp)
                all_goals (with_reducible rfl)
              (try simp only [List.getElem_toArray, List.getElem_cons_zero, List.getElem_cons_succ, Act.put, List.setIfInBounds_toArray, List.set_cons_zero, List.set_cons_succ])
              refine wpAnyT_pure (i := 2) (oi := _) (v := ?_) rfl (by kernel_rfl) (by kernel_rfl) (by kernel_rfl) (by kernel_rfl) (fun _ _ _ h => h) (Or.inl ⟨by rfl, ?_⟩) (fun _ => by assumption) ?_
              rotate_left
              · (intro w hSw; go_simp)
                all_goals (with_reducible rfl)
              (try simp only [List.getElem_toArray, List.getElem_cons_zero, List.getElem_cons_succ, Act.put, List.setIfInBounds_toArray, List.set_cons_zero, List.set_cons_succ])
              refine wpAnyT_pure (i := 3) (oi := _) (v := ?_) rfl (by kernel_rfl) (by kernel_rfl) (by kernel_rfl) (by kernel_rfl) (fun _ _ _ h => h) (Or.inl ⟨by rfl, ?_⟩) (fun _ => by assumption) ?_
              rotate_left
              · (intro w hSw; go_simp)
                all_goals (with_reducible rfl)
              (try simp only [List.getElem_toArray, List.getElem_cons_zero, List.getElem_cons_succ, Act.put, List.setIfInBounds_toArray, List.set_cons_zero, List.set_cons_succ])
              refine wpAnyT_pure (i := 4) (oi := _) (v := ?_) rfl (by kernel_rfl) (by kernel_rfl) (by kernel_rfl) (by kernel_rfl) (fun _ _ _ h => h) (Or.inl ⟨by rfl, ?_⟩) (fun _ => by assumption) ?_
              rotate_left
              · (intro w hSw; go_simp)
                all_goals (with_reducible rfl)
              (try simp only [List.getElem_toArray, List.getElem_cons_zero, List.getElem_cons_succ, Act.put, List.setIfInBounds_toArray, List.set_cons_zero, List.set_cons_succ])
              refine wpAnyT_pure (i := 5) (oi := _) (v := ?_) rfl (by kernel_rfl) (by kernel_rfl) (by kernel_rfl) (by kernel_rfl) (fun _ _ _ h => h) (Or.inl ⟨by rfl, ?_⟩) (fun _ => by assumption) ?_
              rotate_left
              · (intro w hSw; go_simp)
                all_goals (with_reducible rfl)
              (try simp only [List.getElem_toArray, List.getElem_cons_zero, List.getElem_cons_succ, Act.put, List.setIfInBounds_toArray, List.set_cons_zero, List.set_cons_succ])
              refine wpAnyT_pure (i := 6) (oi := _) (v := ?_) rfl (by kernel_rfl) (by kernel_rfl) (by kernel_rfl) (by kernel_rfl) (fun _ _ _ h => h) (Or.inl ⟨by rfl, ?_⟩) (fun _ => by assumption) ?_
              rotate_left
              · (intro w hSw; go_simp)
                all_goals (with_reducible rfl)
              (try simp only [List.getElem_toArray, List.getElem_cons_zero, List.getElem_cons_succ, Act.put, List.setIfInBounds_toArray, List.set_cons_zero, List.set_cons_succ])
              refine wpAnyT_pure (i := 7) (oi := _) (v := ?_) rfl (by kernel_rfl) (by kernel_rfl) (by kernel_rfl) (by kernel_rfl) (fun _ _ _ h => h) (Or.inl ⟨by rfl, ?_⟩) (fun _ => by assumption) ?_
              rotate_left
              · (intro w hSw; go_simp)
                all_goals (with_reducible rfl)
              (try simp only [List.getElem_toArray, List.getElem_cons_zero, List.getElem_cons_succ, Act.put, List.setIfInBounds_toArray, List.set_cons_zero, List.set_cons_succ])
              refine wpAnyT_take (i := 8) (oi := _) (v := ?_) rfl (by kernel_rfl) (by kernel_rfl) (by kernel_rfl) (by kernel_rfl) (fun _ _ _ h => h) (Or.inl ⟨by rfl, ?_⟩) (by assumption) ?_
              rotate_left
              · (intro w hSw; (try dsimp only at hSw); go_simp)
                all_goals (with_reducible rfl)
              (try simp only [List.getElem_toArray, List.getElem_cons_zero, List.getElem_cons_succ, Act.put, List.setIfInBounds_toArray, List.set_cons_zero, List.set_cons_succ])
              refine wpAnyT_pure (i := 10) (oi := _) (v := ?_) rfl (by kernel_rfl) (by kernel_rfl) (by kernel_rfl) (by kernel_rfl) (fun _ _ _ h => h) (Or.inl ⟨by rfl, ?_⟩) (fun _ => by assumption) ?_
              rotate_left
              · (intro w hSw; go_simp)
                all_goals (with_reducible rfl)
              (try simp only [List.getElem_toArray, List.getElem_cons_zero, List.getElem_cons_succ, Act.put, List.setIfInBounds_toArray, List.set_cons_zero, List.set_cons_succ])
              refine wpAnyT_pure (i := 11) (oi := _) (v := ?_) rfl (by kernel_rfl) (by kernel_rfl) (by kernel_rfl) (by kernel_rfl) (fun _ _ _ h => h) (Or.inl ⟨by rfl, ?_⟩) (fun _ => by assumption) ?_
              rotate_left
              · (intro w hSw; go_simp)
                all_goals (with_reducible rfl)
              (try simp only [List.getElem_toArray, List.getElem_cons_zero, List.getElem_cons_succ, Act.put, List.setIfInBounds_toArray, List.set_cons_zero, List.set_cons_succ])
              refine wpAnyT_pure (i := 12) (oi := _) (v := ?_) rfl (by kernel_rfl) (by kernel_rfl) (by kernel_rfl) (by kernel_rfl) (fun _ _ _ h => h) (Or.inl ⟨by rfl, ?_⟩) (fun _ => by assumption) ?_
              rotate_left
              · (intro w hSw; go_simp)
                all_goals (with_reducible rfl)
              (try simp only [List.getElem_toArray, List.getElem_cons_zero, List.getElem_cons_succ, Act.put, List.setIfInBounds_toArray, List.set_cons_zero, List.set_cons_succ])
              refine wpAnyT_pure (i := 13) (oi := _) (v := ?_) rfl (by kernel_rfl) (by kernel_rfl) (by kernel_rfl) (by kernel_rfl) (fun _ _ _ h => h) (Or.inl ⟨by rfl, ?_⟩) (fun _ => by assumption) ?_
              rotate_left
              · (intro w hSw; go_simp)
                all_goals (with_reducible rfl)
              (try simp only [List.getElem_toArray, List.getElem_cons_zero, List.getElem_cons_succ, Act.put, List.setIfInBounds_toArray, List.set_cons_zero, List.set_cons_succ])
              refine wpAnyT_pure (i := 14) (oi := _) (v := ?_) rfl (by kernel_rfl) (by kernel_rfl) (by kernel_rfl) (by kernel_rfl) (fun _ _ _ h => h) (Or.inl ⟨by rfl, ?_⟩) (fun _ => by assumption) ?_
              rotate_left
              · (intro w hSw; go_simp)
                all_goals (with_reducible rfl)
              (try simp only [List.getElem_toArray, List.getElem_cons_zero, List.getElem_cons_succ, Act.put, List.setIfInBounds_toArray, List.set_cons_zero, List.set_cons_succ])
              refine wpAnyT_pure (i := 15) (oi := _) (v := ?_) rfl (by kernel_rfl) (by kernel_rfl) (by kernel_rfl) (by kernel_rfl) (fun _ _ _ h => h) (Or.inl ⟨by rfl, ?_⟩) (fun _ => by assumption) ?_
              rotate_left
              · (intro w hSw; go_simp)
                all_goals (with_reducible rfl)
              (try simp only [List.getElem_toArray, List.getElem_cons_zero, List.getElem_cons_succ, Act.put, List.setIfInBounds_toArray, List.set_cons_zero, List.set_cons_succ])
              refine wpAnyT_pure (i := 16) (oi := _) (v := ?_) rfl (by kernel_rfl) (by kernel_rfl) (by kernel_rfl) (by kernel_rfl) (fun _ _ _ h => h) (Or.inl ⟨by rfl, ?_⟩) (fun _ => by assumption) ?_
              rotate_left
              · (intro w hSw; go_simp)
                all_goals (with_reducible rfl)
              (try simp only [List.getElem_toArray, List.getElem_cons_zero, List.getElem_cons_succ, Act.put, List.setIfInBounds_toArray, List.set_cons_zero, List.set_cons_succ])
              refine wpAnyT_take (i := 17) (oi := _) (v := ?_) rfl (by kernel_rfl) (by kernel_rfl) (by kernel_rfl) (by kernel_rfl) (fun _ _ _ h => h) (Or.inl ⟨by rfl, ?_⟩) (by assumption) ?_
              rotate_left
              · (intro w hSw; (try dsimp only at hSw); go_simp)
                all_goals (with_reducible rfl)
              (try simp only [List.getElem_toArray, List.getElem_cons_zero, List.getElem_cons_succ, Act.put, List.setIfInBounds_toArray, List.set_cons_zero, List.set_cons_succ])
              refine wpAnyT_ready (rs := [9, 22]) (by kernel_rfl) (by simp) ?_
              refine AllReadyT.cons rfl (fun K hK => ?_) (AllReadyT.cons rfl (fun K hK => ?_) AllReadyT.nil)
              · skip
                go_simp
                (go_at_call 30; refine (key_any r _ hRr).mono ?_; rintro e w5 ⟨kb, kd, rfl, hkr, hbc⟩; have hz5 := hbc.size; (try simp only [World.size_alloc] at hz5); (try replace hbx := (hbc.block _ (Array.getElem?_eq_some_iff.1 hbx).1).trans hbx))
                go_wp2_with fail
                refine hK.out _ _ (fun _ => ?_) (fun hHeld0 => ?_)
                · (try dsimp only)
                  exact ⟨cell_bel hbc (hHeld.1), cell_bel hbc (hHeld.2.1), cell_bel hbc (hHeld.2.2.1), Below.trans (hHeld.2.2.2) (hbc.mono (hHeld.2.2.2).size)⟩
                have hHeld1 := hHeld0 (by kernel_rfl)
                clear hK K hHeld0
                have hb5 := hHeld1.2.2.2
                clear hHeld; have hHeld := hHeld1; clear hHeld1
                (try simp only [List.getElem_toArray, List.getElem_cons_zero, List.getElem_cons_succ, Act.put, List.setIfInBounds_toArray, List.set_cons_zero, List.set_cons_succ])
                refine wpAnyT_ready (rs := [18, 22]) (by kernel_rfl) (by simp) ?_
                refine AllReadyT.cons rfl (fun K hK => ?_) (AllReadyT.cons rfl (fun K hK => ?_) AllReadyT.nil)
                · skip
                  go_simp
                  (go_at_call 25; refine (HCB.out _ _ _ (HB9.out.trans (hHeld.2.2.2.mono HB9.out.size)) hkr).mono ?_; rintro e w6 ⟨bo6, bcap6, U6, rfl, hg6, hbc⟩; have hz6 := hbc.size; (try simp only [World.size_alloc] at hz6); (try replace hbx := (hbc.block _ (Array.getElem?_eq_some_iff.1 hbx).1).trans hbx))
                  go_wp2_with fail
                  refine hK.out _ _ (fun _ => ?_) (fun hHeld0 => ?_)
                  · (try dsimp only)
                    exact ⟨cell_bel hbc (hHeld.1), cell_bel hbc (hHeld.2.1), cell_bel hbc (hHeld.2.2.1), Below.trans (hHeld.2.2.2) (hbc.mono (hHeld.2.2.2).size)⟩
                  have hHeld1 := hHeld0 (by kernel_rfl)
                  clear hK K hHeld0
                  have hb6 := hHeld1.2.2.2
                  clear hHeld; have hHeld := hHeld1; clear hHeld1
                  (try simp only [List.getElem_toArray, List.getElem_cons_zero, List.getElem_cons_succ, Act.put, List.setIfInBounds_toArray, List.set_cons_zero, List.set_cons_succ])
                  refine wpAnyT_pure (i := 19) (oi := _) (v := ?_) rfl (by kernel_rfl) (by kernel_rfl) (by kernel_rfl) (by kernel_rfl) (fun _ _ _ h => h) (Or.inl ⟨by rfl, ?_⟩) (fun _ => by assumption) ?_
                  rotate_left
                  · (intro w hSw; go_simp)
                    all_goals (with_reducible rfl)
                  (try simp only [List.getElem_toArray, List.getElem_cons_zero, List.getElem_cons_succ, Act.put, List.setIfInBounds_toArray, List.set_cons_zero, List.set_cons_succ])
                  refine wpAnyT_pure (i := 20) (oi := _) (v := ?_) rfl (by kernel_rfl) (by kernel_rfl) (by kernel_rfl) (by kernel_rfl) (fun _ _ _ h => h) (Or.inl ⟨by rfl, ?_⟩) (fun _ => by assumption) ?_
                  rotate_left
                  · (intro w hSw; go_simp)
                    all_goals (with_reducible rfl)
                  (try simp only [List.getElem_toArray, List.getElem_cons_zero, List.getElem_cons_succ, Act.put, List.setIfInBounds_toArray, List.set_cons_zero, List.set_cons_succ])
                  refine wpAnyT_pure (i := 21) (oi := _) (v := ?_) rfl (by kernel_rfl) (by kernel_rfl) (by kernel_rfl) (by kernel_rfl) (fun _ _ _ h => h) (Or.inl ⟨by rfl, ?_⟩) (fun _ => by assumption) ?_
                  rotate_left
                  · (intro w hSw; go_simp)
                    all_goals (with_reducible rfl)
                  (try simp only [List.getElem_toArray, List.getElem_cons_zero, List.getElem_cons_succ, Act.put, List.setIfInBounds_toArray, List.set_cons_zero, List.set_cons_succ])
                  refine wpAnyT_ready (rs := [22]) (by kernel_rfl) (by simp) ?_
                  refine AllReadyT.cons rfl (fun K hK => ?_) AllReadyT.nil
                  go_simp
                  refine hK.out _ _ (fun _ => ?_) (fun hHeld0 => ?_)
                  · (try dsimp only)
                    (first | (with_reducible exact hHeld) | (with_reducible exact ⟨cell_al _ (hHeld.1), cell_al _ (hHeld.2.1), cell_al _ (hHeld.2.2.1), Below.alloc (hHeld.2.2.2) (hHeld.2.2.2).size _⟩))
                  have hHeld1 := hHeld0 (by kernel_rfl)
                  clear hK K hHeld0
                  (have hbx := alloc_of hHeld1.2.2.2); (try replace hkr := hkr.below (al_of hHeld1.2.2.2))
                  clear hHeld; have hHeld := hHeld1; clear hHeld1
                  (try simp only [List.getElem_toArray, List.getElem_cons_zero, List.getElem_cons_succ, Act.put, List.setIfInBounds_toArray, List.set_cons_zero, List.set_cons_succ])
                  refine wpAnyT_ready (rs := [23]) (by kernel_rfl) (by simp) ?_
                  refine AllReadyT.cons rfl (fun K hK => ?_) AllReadyT.nil
                  obtain ⟨b0, b1, bf0, bf1⟩ := box2 hbx
                  go_simp
                  refine hK.out _ _ (noneB_off (by kernel_rfl)) (fun _ => ?_)
                  clear hK K
                  (try simp only [List.getElem_toArray, List.getElem_cons_zero, List.getElem_cons_succ, Act.put, List.setIfInBounds_toArray, List.set_cons_zero, List.set_cons_succ])
                  refine wpAnyT_ready (rs := [24]) (by kernel_rfl) (by simp) ?_
                  refine AllReadyT.cons rfl (fun K hK => ?_) AllReadyT.nil
                  go_simp
                  refine hK.out _ _ (noneB_off (by kernel_rfl)) (fun _ => ?_)
                  clear hK K
                  (try simp only [List.getElem_toArray, List.getElem_cons_zero, List.getElem_cons_succ, Act.put, List.setIfInBounds_toArray, List.set_cons_zero, List.set_cons_succ])
                  refine wpAnyT_done (by kernel_rfl) ?_ _
                  (try clear b0 b1 bf0 bf1)
                  first
                    | refine gen_two (P := fun w => (_ : Exit → Act → World → Prop) Exit.normal _ w) hbx (fun W10 hx10 hz10 hf10 hB10 => ?_)
                    | refine gen_new (P := fun w => (_ : Exit → Act → World → Prop) Exit.normal _ w) (fun W10 hx10 hz10 hf10 hB10 => ?_)
                  have hb10 : Below W9.heap.size W9 W10 := hB10 _ _ (by have := hb6.size; have := hb5.size; have := hbd.size; omega) hb6
                  have hgy : ∀ W' : World, (∀ b, W9.heap.size ≤ b → b < W10.heap.size → W'.heap[b]? = W10.heap[b]?) → W10.heap.size ≤ W'.heap.size → GT 0 (i + 1) W' (.agg #[.slice bo6 U6.pages.length bcap6, .int .i64 U6.root]) U6 (madeE F.reverse (i + 1)) := fun W' hW hz => by
                    have hs5 := hb5.size
                    have hsd := hbd.size
                    exact hg6.land (W := W') (B' := 0) (Nat.zero_le _) (fun b h1 h2 => (hW b (by (try simp only [World.size_alloc] at h1); omega) (by omega)).trans (hf10 b (by (try simp only [World.size_alloc] at h1); omega))) (by omega)
                  have HGY := Lib.hid hgy
                  have HB10 := Lib.hid hb10
                  have HX10 := Lib.hid hx10
                  have HXX := Lib.hid ((hb10.block _ (Array.getElem?_eq_some_iff.1 HX9.out).1).trans HX9.out)
                  have hs9 := HB9.out.size
                  have hs10 := hb10.size
                  have HSZ := Lib.hid (And.intro hb6.size (And.intro hb5.size hbd.size))
                  have hxa := (hb10.block Ba (by omega)).trans ((HB9.out.block Ba hBaS).trans HA.out.x)
                  have hxb := (hb10.block Bb (by omega)).trans ((HB9.out.block Bb hBbS).trans HBX.out.x)
                  clear hx10 hz10 hf10 hB10 hb10 hgy hHeld hb5 hb6 hbd hg6 hbc hz5 hz6 hkr q0 q1 d2
                  (try clear hbx)
                  obtain ⟨x90, x91, -⟩ := box2 HXX.out
                  obtain ⟨z0, z1, zf0, zf1⟩ := box2 hxa
                  have HXA10 := Lib.hid hxa
                  have HXBH := Lib.hid hxb
                  clear hxa hxb
                  go_upto_region 23 with (fail)
                  refine gen_two (P := fun w => Code.wp _ _ _ _ w) HXA10.out (fun W11 hx11 hz11 hf11 hB11 => ?_)
                  have hxy11 := (hf11 _ (by have := HSZ.out; omega)).trans HX10.out
                  have hxb11 := (hf11 Bb hab.symm).trans HXBH.out
                  obtain ⟨x100, x101, -⟩ := box2 hxy11
                  obtain ⟨y0, y1, yf0, yf1⟩ := box2 hxb11
                  have hBL11 := hB11 Ba wS (Nat.le_refl _) ((HBL.out.trans (HB9.out.mono (by omega))).trans (HB10.out.mono (by omega)))
                  have HW11 := Lib.hid (And.intro hx11 (And.intro hz11 (And.intro hf11 hBL11)))
                  clear hx11 hz11 hf11 hB11 hxy11 hxb11 hBL11 z0 z1 zf0 zf1 x90 x91
                  go_wp2_with fail
                  go_roundw
                  case rel =>
                    obtain ⟨hx11, hz11, hf11, hBL11⟩ := HW11.out
                    exact ⟨i + 1, ao6, cap6, T6, bo6, bcap6, U6, by omega, by go_num,
                      ⟨HGX.out _ (fun b h1 h2 => (two_far (show b ≠ Bb by omega)).trans ((hf11 b (by omega)).trans (HB10.out.block b h2))) (by simp only [World.size_setCell]; omega), (two_far hab).trans hx11⟩,
                      ⟨HGY.out _ (fun b h1 h2 => (two_far (show b ≠ Bb by omega)).trans (hf11 b (by omega))) (by simp only [World.size_setCell]; omega), two_heap ((hf11 Bb hab.symm).trans HXBH.out)⟩,
                      (hBL11.setCell (p := ⟨Bb, 0, none⟩) (by show Ba ≤ Bb; omega) _).setCell (p := ⟨Bb, 1, none⟩) (by show Ba ≤ Bb; omega) _⟩
                  case measure => (simp [intOf]) <;> omega
                · skip
                  go_simp
                  refine hK.out _ _ (fun _ => ?_) (fun hHeld0 => ?_)
                  · (try dsimp only)
                    (first | (with_reducible exact hHeld) | (with_reducible exact ⟨cell_al _ (hHeld.1), cell_al _ (hHeld.2.1), cell_al _ (hHeld.2.2.1), Below.alloc (hHeld.2.2.2) (hHeld.2.2.2).size _⟩))
                  have hHeld1 := hHeld0 (by kernel_rfl)
                  clear hK K hHeld0
                  (have hbx := alloc_of hHeld1.2.2.2); (try replace hkr := hkr.below (al_of hHeld1.2.2.2))
                  clear hHeld; have hHeld := hHeld1; clear hHeld1
                  (try simp only [List.getElem_toArray, List.getElem_cons_zero, List.getElem_cons_succ, Act.put, List.setIfInBounds_toArray, List.set_cons_zero, List.set_cons_succ])
                  refine wpAnyT_ready (rs := [18]) (by kernel_rfl) (by simp) ?_
                  refine AllReadyT.cons rfl (fun K hK => ?_) AllReadyT.nil
                  go_simp
                  (go_at_call 25; refine (HCB.out _ _ _ (HB9.out.trans (hHeld.2.2.2.mono HB9.out.size)) hkr).mono ?_; rintro e w6 ⟨bo6, bcap6, U6, rfl, hg6, hbc⟩; have hz6 := hbc.size; (try simp only [World.size_alloc] at hz6); (try replace hbx := (hbc.block _ (Array.getElem?_eq_some_iff.1 hbx).1).trans hbx))
                  go_wp2_with fail
                  refine hK.out _ _ (fun _ => ?_) (fun hHeld0 => ?_)
                  · (try dsimp only)
                    exact ⟨cell_bel hbc (hHeld.1), cell_bel hbc (hHeld.2.1), cell_bel hbc (hHeld.2.2.1), Below.trans (hHeld.2.2.2) (hbc.mono (hHeld.2.2.2).size)⟩
                  have hHeld1 := hHeld0 (by kernel_rfl)
                  clear hK K hHeld0
                  have hb6 := hHeld1.2.2.2
                  clear hHeld; have hHeld := hHeld1; clear hHeld1
                  (try simp only [List.getElem_toArray, List.getElem_cons_zero, List.getElem_cons_succ, Act.put, List.setIfInBounds_toArray, List.set_cons_zero, List.set_cons_succ])
                  refine wpAnyT_pure (i := 19) (oi := _) (v := ?_) rfl (by kernel_rfl) (by kernel_rfl) (by kernel_rfl) (by kernel_rfl) (fun _ _ _ h => h) (Or.inl ⟨by rfl, ?_⟩) (fun _ => by assumption) ?_
                  rotate_left
                  · (intro w hSw; go_simp)
                    all_goals (with_reducible rfl)
                  (try simp only [List.getElem_toArray, List.getElem_cons_zero, List.getElem_cons_succ, Act.put, List.setIfInBounds_toArray, List.set_cons_zero, List.set_cons_succ])
                  refine wpAnyT_pure (i := 20) (oi := _) (v := ?_) rfl (by kernel_rfl) (by kernel_rfl) (by kernel_rfl) (by kernel_rfl) (fun _ _ _ h => h) (Or.inl ⟨by rfl, ?_⟩) (fun _ => by assumption) ?_
                  rotate_left
                  · (intro w hSw; go_simp)
                    all_goals (with_reducible rfl)
                  (try simp only [List.getElem_toArray, List.getElem_cons_zero, List.getElem_cons_succ, Act.put, List.setIfInBounds_toArray, List.set_cons_zero, List.set_cons_succ])
                  refine wpAnyT_pure (i := 21) (oi := _) (v := ?_) rfl (by kernel_rfl) (by kernel_rfl) (by kernel_rfl) (by kernel_rfl) (fun _ _ _ h => h) (Or.inl ⟨by rfl, ?_⟩) (fun _ => by assumption) ?_
                  rotate_left
                  · (intro w hSw; go_simp)
                    all_goals (with_reducible rfl)
                  (try simp only [List.getElem_toArray, List.getElem_cons_zero, List.getElem_cons_succ, Act.put, List.setIfInBounds_toArray, List.set_cons_zero, List.set_cons_succ])
                  refine wpAnyT_ready (rs := [23]) (by kernel_rfl) (by simp) ?_
                  refine AllReadyT.cons rfl (fun K hK => ?_) AllReadyT.nil
                  obtain ⟨b0, b1, bf0, bf1⟩ := box2 hbx
                  go_simp
                  refine hK.out _ _ (noneB_off (by kernel_rfl)) (fun _ => ?_)
                  clear hK K
                  (try simp only [List.getElem_toArray, List.getElem_cons_zero, List.getElem_cons_succ, Act.put, List.setIfInBounds_toArray, List.set_cons_zero, List.set_cons_succ])
                  refine wpAnyT_ready (rs := [24]) (by kernel_rfl) (by simp) ?_
                  refine AllReadyT.cons rfl (fun K hK => ?_) AllReadyT.nil
                  go_simp
                  refine hK.out _ _ (noneB_off (by kernel_rfl)) (fun _ => ?_)
                  clear hK K
                  (try simp only [List.getElem_toArray, List.getElem_cons_zero, List.getElem_cons_succ, Act.put, List.setIfInBounds_toArray, List.set_cons_zero, List.set_cons_succ])
                  refine wpAnyT_done (by kernel_rfl) ?_ _
                  (try clear b0 b1 bf0 bf1)
                  first
                    | refine gen_two (P := fun w => (_ : Exit → Act → World → Prop) Exit.normal _ w) hbx (fun W10 hx10 hz10 hf10 hB10 => ?_)
                    | refine gen_new (P := fun w => (_ : Exit → Act → World → Prop) Exit.normal _ w) (fun W10 hx10 hz10 hf10 hB10 => ?_)
                  have hb10 : Below W9.heap.size W9 W10 := hB10 _ _ (by have := hb6.size; have := hb5.size; have := hbd.size; omega) hb6
                  have hgy : ∀ W' : World, (∀ b, W9.heap.size ≤ b → b < W10.heap.size → W'.heap[b]? = W10.heap[b]?) → W10.heap.size ≤ W'.heap.size → GT 0 (i + 1) W' (.agg #[.slice bo6 U6.pages.length bcap6, .int .i64 U6.root]) U6 (madeE F.reverse (i + 1)) := fun W' hW hz => by
                    have hs5 := hb5.size
                    have hsd := hbd.size
                    exact hg6.land (W := W') (B' := 0) (Nat.zero_le _) (fun b h1 h2 => (hW b (by (try simp only [World.size_alloc] at h1); omega) (by omega)).trans (hf10 b (by (try simp only [World.size_alloc] at h1); omega))) (by omega)
                  have HGY := Lib.hid hgy
                  have HB10 := Lib.hid hb10
                  have HX10 := Lib.hid hx10
                  have HXX := Lib.hid ((hb10.block _ (Array.getElem?_eq_some_iff.1 HX9.out).1).trans HX9.out)
                  have hs9 := HB9.out.size
                  have hs10 := hb10.size
                  have HSZ := Lib.hid (And.intro hb6.size (And.intro hb5.size hbd.size))
                  have hxa := (hb10.block Ba (by omega)).trans ((HB9.out.block Ba hBaS).trans HA.out.x)
                  have hxb := (hb10.block Bb (by omega)).trans ((HB9.out.block Bb hBbS).trans HBX.out.x)
                  clear hx10 hz10 hf10 hB10 hb10 hgy hHeld hb5 hb6 hbd hg6 hbc hz5 hz6 hkr q0 q1 d2
                  (try clear hbx)
                  obtain ⟨x90, x91, -⟩ := box2 HXX.out
                  obtain ⟨z0, z1, zf0, zf1⟩ := box2 hxa
                  have HXA10 := Lib.hid hxa
                  have HXBH := Lib.hid hxb
                  clear hxa hxb
                  go_upto_region 23 with (fail)
                  refine gen_two (P := fun w => Code.wp _ _ _ _ w) HXA10.out (fun W11 hx11 hz11 hf11 hB11 => ?_)
                  have hxy11 := (hf11 _ (by have := HSZ.out; omega)).trans HX10.out
                  have hxb11 := (hf11 Bb hab.symm).trans HXBH.out
                  obtain ⟨x100, x101, -⟩ := box2 hxy11
                  obtain ⟨y0, y1, yf0, yf1⟩ := box2 hxb11
                  have hBL11 := hB11 Ba wS (Nat.le_refl _) ((HBL.out.trans (HB9.out.mono (by omega))).trans (HB10.out.mono (by omega)))
                  have HW11 := Lib.hid (And.intro hx11 (And.intro hz11 (And.intro hf11 hBL11)))
                  clear hx11 hz11 hf11 hB11 hxy11 hxb11 hBL11 z0 z1 zf0 zf1 x90 x91
                  go_wp2_with fail
                  go_roundw
                  case rel =>
                    obtain ⟨hx11, hz11, hf11, hBL11⟩ := HW11.out
                    exact ⟨i + 1, ao6, cap6, T6, bo6, bcap6, U6, by omega, by go_num,
                      ⟨HGX.out _ (fun b h1 h2 => (two_far (show b ≠ Bb by omega)).trans ((hf11 b (by omega)).trans (HB10.out.block b h2))) (by simp only [World.size_setCell]; omega), (two_far hab).trans hx11⟩,
                      ⟨HGY.out _ (fun b h1 h2 => (two_far (show b ≠ Bb by omega)).trans (hf11 b (by omega))) (by simp only [World.size_setCell]; omega), two_heap ((hf11 Bb hab.symm).trans HXBH.out)⟩,
                      (hBL11.setCell (p := ⟨Bb, 0, none⟩) (by show Ba ≤ Bb; omega) _).setCell (p := ⟨Bb, 1, none⟩) (by show Ba ≤ Bb; omega) _⟩
                  case measure => (simp [intOf]) <;> omega
              · skip
                go_simp
                refine hK.out _ _ (fun _ => ?_) (fun hHeld0 => ?_)
                · (try dsimp only)
                  (first | (with_reducible exact hHeld) | (with_reducible exact ⟨cell_al _ (hHeld.1), cell_al _ (hHeld.2.1), cell_al _ (hHeld.2.2.1), Below.alloc (hHeld.2.2.2) (hHeld.2.2.2).size _⟩))
                have hHeld1 := hHeld0 (by kernel_rfl)
                clear hK K hHeld0
                (have hbx := alloc_of hHeld1.2.2.2); (try replace hkr := hkr.below (al_of hHeld1.2.2.2))
                clear hHeld; have hHeld := hHeld1; clear hHeld1
                (try simp only [List.getElem_toArray, List.getElem_cons_zero, List.getElem_cons_succ, Act.put, List.setIfInBounds_toArray, List.set_cons_zero, List.set_cons_succ])
                refine wpAnyT_ready (rs := [9]) (by kernel_rfl) (by simp) ?_
                refine AllReadyT.cons rfl (fun K hK => ?_) AllReadyT.nil
                go_simp
                (go_at_call 30; refine (key_any r _ hRr).mono ?_; rintro e w5 ⟨kb, kd, rfl, hkr, hbc⟩; have hz5 := hbc.size; (try simp only [World.size_alloc] at hz5); (try replace hbx := (hbc.block _ (Array.getElem?_eq_some_iff.1 hbx).1).trans hbx))
                go_wp2_with fail
                refine hK.out _ _ (fun _ => ?_) (fun hHeld0 => ?_)
                · (try dsimp only)
                  exact ⟨cell_bel hbc (hHeld.1), cell_bel hbc (hHeld.2.1), cell_bel hbc (hHeld.2.2.1), Below.trans (hHeld.2.2.2) (hbc.mono (hHeld.2.2.2).size)⟩
                have hHeld1 := hHeld0 (by kernel_rfl)
                clear hK K hHeld0
                have hb5 := hHeld1.2.2.2
                clear hHeld; have hHeld := hHeld1; clear hHeld1
                (try simp only [List.getElem_toArray, List.getElem_cons_zero, List.getElem_cons_succ, Act.put, List.setIfInBounds_toArray, List.set_cons_zero, List.set_cons_succ])
                refine wpAnyT_ready (rs := [18]) (by kernel_rfl) (by simp) ?_
                refine AllReadyT.cons rfl (fun K hK => ?_) AllReadyT.nil
                go_simp
                (go_at_call 25; refine (HCB.out _ _ _ (HB9.out.trans (hHeld.2.2.2.mono HB9.out.size)) hkr).mono ?_; rintro e w6 ⟨bo6, bcap6, U6, rfl, hg6, hbc⟩; have hz6 := hbc.size; (try simp only [World.size_alloc] at hz6); (try replace hbx := (hbc.block _ (Array.getElem?_eq_some_iff.1 hbx).1).trans hbx))
                go_wp2_with fail
                refine hK.out _ _ (fun _ => ?_) (fun hHeld0 => ?_)
                · (try dsimp only)
                  exact ⟨cell_bel hbc (hHeld.1), cell_bel hbc (hHeld.2.1), cell_bel hbc (hHeld.2.2.1), Below.trans (hHeld.2.2.2) (hbc.mono (hHeld.2.2.2).size)⟩
                have hHeld1 := hHeld0 (by kernel_rfl)
                clear hK K hHeld0
                have hb6 := hHeld1.2.2.2
                clear hHeld; have hHeld := hHeld1; clear hHeld1
                (try simp only [List.getElem_toArray, List.getElem_cons_zero, List.getElem_cons_succ, Act.put, List.setIfInBounds_toArray, List.set_cons_zero, List.set_cons_succ])
                refine wpAnyT_pure (i := 19) (oi := _) (v := ?_) rfl (by kernel_rfl) (by kernel_rfl) (by kernel_rfl) (by kernel_rfl) (fun _ _ _ h => h) (Or.inl ⟨by rfl, ?_⟩) (fun _ => by assumption) ?_
                rotate_left
                · (intro w hSw; go_simp)
                  all_goals (with_reducible rfl)
                (try simp only [List.getElem_toArray, List.getElem_cons_zero, List.getElem_cons_succ, Act.put, List.setIfInBounds_toArray, List.set_cons_zero, List.set_cons_succ])
                refine wpAnyT_pure (i := 20) (oi := _) (v := ?_) rfl (by kernel_rfl) (by kernel_rfl) (by kernel_rfl) (by kernel_rfl) (fun _ _ _ h => h) (Or.inl ⟨by rfl, ?_⟩) (fun _ => by assumption) ?_
                rotate_left
                · (intro w hSw; go_simp)
                  all_goals (with_reducible rfl)
                (try simp only [List.getElem_toArray, List.getElem_cons_zero, List.getElem_cons_succ, Act.put, List.setIfInBounds_toArray, List.set_cons_zero, List.set_cons_succ])
                refine wpAnyT_pure (i := 21) (oi := _) (v := ?_) rfl (by kernel_rfl) (by kernel_rfl) (by kernel_rfl) (by kernel_rfl) (fun _ _ _ h => h) (Or.inl ⟨by rfl, ?_⟩) (fun _ => by assumption) ?_
                rotate_left
                · (intro w hSw; go_simp)
                  all_goals (with_reducible rfl)
                (try simp only [List.getElem_toArray, List.getElem_cons_zero, List.getElem_cons_succ, Act.put, List.setIfInBounds_toArray, List.set_cons_zero, List.set_cons_succ])
                refine wpAnyT_ready (rs := [23]) (by kernel_rfl) (by simp) ?_
                refine AllReadyT.cons rfl (fun K hK => ?_) AllReadyT.nil
                obtain ⟨b0, b1, bf0, bf1⟩ := box2 hbx
                go_simp
                refine hK.out _ _ (noneB_off (by kernel_rfl)) (fun _ => ?_)
                clear hK K
                (try simp only [List.getElem_toArray, List.getElem_cons_zero, List.getElem_cons_succ, Act.put, List.setIfInBounds_toArray, List.set_cons_zero, List.set_cons_succ])
                refine wpAnyT_ready (rs := [24]) (by kernel_rfl) (by simp) ?_
                refine AllReadyT.cons rfl (fun K hK => ?_) AllReadyT.nil
                go_simp
                refine hK.out _ _ (noneB_off (by kernel_rfl)) (fun _ => ?_)
                clear hK K
                (try simp only [List.getElem_toArray, List.getElem_cons_zero, List.getElem_cons_succ, Act.put, List.setIfInBounds_toArray, List.set_cons_zero, List.set_cons_succ])
                refine wpAnyT_done (by kernel_rfl) ?_ _
                (try clear b0 b1 bf0 bf1)
                first
                  | refine gen_two (P := fun w => (_ : Exit → Act → World → Prop) Exit.normal _ w) hbx (fun W10 hx10 hz10 hf10 hB10 => ?_)
                  | refine gen_new (P := fun w => (_ : Exit → Act → World → Prop) Exit.normal _ w) (fun W10 hx10 hz10 hf10 hB10 => ?_)
                have hb10 : Below W9.heap.size W9 W10 := hB10 _ _ (by have := hb6.size; have := hb5.size; have := hbd.size; omega) hb6
                have hgy : ∀ W' : World, (∀ b, W9.heap.size ≤ b → b < W10.heap.size → W'.heap[b]? = W10.heap[b]?) → W10.heap.size ≤ W'.heap.size → GT 0 (i + 1) W' (.agg #[.slice bo6 U6.pages.length bcap6, .int .i64 U6.root]) U6 (madeE F.reverse (i + 1)) := fun W' hW hz => by
                  have hs5 := hb5.size
                  have hsd := hbd.size
                  exact hg6.land (W := W') (B' := 0) (Nat.zero_le _) (fun b h1 h2 => (hW b (by (try simp only [World.size_alloc] at h1); omega) (by omega)).trans (hf10 b (by (try simp only [World.size_alloc] at h1); omega))) (by omega)
                have HGY := Lib.hid hgy
                have HB10 := Lib.hid hb10
                have HX10 := Lib.hid hx10
                have HXX := Lib.hid ((hb10.block _ (Array.getElem?_eq_some_iff.1 HX9.out).1).trans HX9.out)
                have hs9 := HB9.out.size
                have hs10 := hb10.size
                have HSZ := Lib.hid (And.intro hb6.size (And.intro hb5.size hbd.size))
                have hxa := (hb10.block Ba (by omega)).trans ((HB9.out.block Ba hBaS).trans HA.out.x)
                have hxb := (hb10.block Bb (by omega)).trans ((HB9.out.block Bb hBbS).trans HBX.out.x)
                clear hx10 hz10 hf10 hB10 hb10 hgy hHeld hb5 hb6 hbd hg6 hbc hz5 hz6 hkr q0 q1 d2
                (try clear hbx)
                obtain ⟨x90, x91, -⟩ := box2 HXX.out
                obtain ⟨z0, z1, zf0, zf1⟩ := box2 hxa
                have HXA10 := Lib.hid hxa
                have HXBH := Lib.hid hxb
                clear hxa hxb
                go_upto_region 23 with (fail)
                refine gen_two (P := fun w => Code.wp _ _ _ _ w) HXA10.out (fun W11 hx11 hz11 hf11 hB11 => ?_)
                have hxy11 := (hf11 _ (by have := HSZ.out; omega)).trans HX10.out
                have hxb11 := (hf11 Bb hab.symm).trans HXBH.out
                obtain ⟨x100, x101, -⟩ := box2 hxy11
                obtain ⟨y0, y1, yf0, yf1⟩ := box2 hxb11
                have hBL11 := hB11 Ba wS (Nat.le_refl _) ((HBL.out.trans (HB9.out.mono (by omega))).trans (HB10.out.mono (by omega)))
                have HW11 := Lib.hid (And.intro hx11 (And.intro hz11 (And.intro hf11 hBL11)))
                clear hx11 hz11 hf11 hB11 hxy11 hxb11 hBL11 z0 z1 zf0 zf1 x90 x91
                go_wp2_with fail
                go_roundw
                case rel =>
                  obtain ⟨hx11, hz11, hf11, hBL11⟩ := HW11.out
                  exact ⟨i + 1, ao6, cap6, T6, bo6, bcap6, U6, by omega, by go_num,
                    ⟨HGX.out _ (fun b h1 h2 => (two_far (show b ≠ Bb by omega)).trans ((hf11 b (by omega)).trans (HB10.out.block b h2))) (by simp only [World.size_setCell]; omega), (two_far hab).trans hx11⟩,
                    ⟨HGY.out _ (fun b h1 h2 => (two_far (show b ≠ Bb by omega)).trans (hf11 b (by omega))) (by simp only [World.size_setCell]; omega), two_heap ((hf11 Bb hab.symm).trans HXBH.out)⟩,
                    (hBL11.setCell (p := ⟨Bb, 0, none⟩) (by show Ba ≤ Bb; omega) _).setCell (p := ⟨Bb, 1, none⟩) (by show Ba ≤ Bb; omega) _⟩
                case measure => (simp [intOf]) <;> omega
          · skip
            go_simp
            refine hK.out _ _ (fun _ => ?_) (fun hHeld0 => ?_)
            · (try dsimp only)
              (first | (with_reducible exact hHeld) | (with_reducible exact ⟨cell_al _ (hHeld.1), cell_al _ (hHeld.2.1), cell_al _ (hHeld.2.2.1), Below.alloc (hHeld.2.2.2) (hHeld.2.2.2).size _⟩))
            have hHeld1 := hHeld0 (by kernel_rfl)
            clear hK K hHeld0
            (have hbx := alloc_of hHeld1.2.2.2); (try replace hkr := hkr.below (al_of hHeld1.2.2.2))
            clear hHeld; have hHeld := hHeld1; clear hHeld1
            (try simp only [List.getElem_toArray, List.getElem_cons_zero, List.getElem_cons_succ, Act.put, List.setIfInBounds_toArray, List.set_cons_zero, List.set_cons_succ])
            refine wpAnyT_ready (rs := [5]) (by kernel_rfl) (by simp) ?_
            refine AllReadyT.cons rfl (fun K hK => ?_) AllReadyT.nil
            go_simp
            (go_at_call 30; refine (key_any p _ hRp).mono ?_; rintro e w5 ⟨ka, kc, rfl, hkr, hbc⟩; have hz5 := hbc.size; (try simp only [World.size_alloc] at hz5); (try replace hbx := (hbc.block _ (Array.getElem?_eq_some_iff.1 hbx).1).trans hbx))
            go_wp2_with fail
            refine hK.out _ _ (fun _ => ?_) (fun hHeld0 => ?_)
            · (try dsimp only)
              exact ⟨cell_bel hbc (hHeld.1), cell_bel hbc (hHeld.2.1), cell_bel hbc (hHeld.2.2.1), Below.trans (hHeld.2.2.2) (hbc.mono (hHeld.2.2.2).size)⟩
            have hHeld1 := hHeld0 (by kernel_rfl)
            clear hK K hHeld0
            have hb5 := hHeld1.2.2.2
            clear hHeld; have hHeld := hHeld1; clear hHeld1
            (try simp only [List.getElem_toArray, List.getElem_cons_zero, List.getElem_cons_succ, Act.put, List.setIfInBounds_toArray, List.set_cons_zero, List.set_cons_succ])
            refine wpAnyT_ready (rs := [10]) (by kernel_rfl) (by simp) ?_
            refine AllReadyT.cons rfl (fun K hK => ?_) AllReadyT.nil
            go_simp
            (go_at_call 25; refine (HCA.out _ _ _ hHeld.2.2.2 hkr).mono ?_; rintro e w6 ⟨ao6, cap6, T6, rfl, hg6, hbc⟩; have hz6 := hbc.size; (try simp only [World.size_alloc] at hz6); (try replace hbx := (hbc.block _ (Array.getElem?_eq_some_iff.1 hbx).1).trans hbx))
            go_wp2_with fail
            refine hK.out _ _ (fun _ => ?_) (fun hHeld0 => ?_)
            · (try dsimp only)
              exact ⟨cell_bel hbc (hHeld.1), cell_bel hbc (hHeld.2.1), cell_bel hbc (hHeld.2.2.1), Below.trans (hHeld.2.2.2) (hbc.mono (hHeld.2.2.2).size)⟩
            have hHeld1 := hHeld0 (by kernel_rfl)
            clear hK K hHeld0
            have hb6 := hHeld1.2.2.2
            clear hHeld; have hHeld := hHeld1; clear hHeld1
            (try simp only [List.getElem_toArray, List.getElem_cons_zero, List.getElem_cons_succ, Act.put, List.setIfInBounds_toArray, List.set_cons_zero, List.set_cons_succ])
            refine wpAnyT_pure (i := 11) (oi := _) (v := ?_) rfl (by kernel_rfl) (by kernel_rfl) (by kernel_rfl) (by kernel_rfl) (fun _ _ _ h => h) (Or.inl ⟨by rfl, ?_⟩) (fun _ => by assumption) ?_
            rotate_left
            · (intro w hSw; go_simp)
              all_goals (with_reducible rfl)
            (try simp only [List.getElem_toArray, List.getElem_cons_zero, List.getElem_cons_succ, Act.put, List.setIfInBounds_toArray, List.set_cons_zero, List.set_cons_succ])
            refine wpAnyT_pure (i := 12) (oi := _) (v := ?_) rfl (by kernel_rfl) (by kernel_rfl) (by kernel_rfl) (by kernel_rfl) (fun _ _ _ h => h) (Or.inl ⟨by rfl, ?_⟩) (fun _ => by assumption) ?_
            rotate_left
            · (intro w hSw; go_simp)
              all_goals (with_reducible rfl)
            (try simp only [List.getElem_toArray, List.getElem_cons_zero, List.getElem_cons_succ, Act.put, List.setIfInBounds_toArray, List.set_cons_zero, List.set_cons_succ])
            refine wpAnyT_pure (i := 13) (oi := _) (v := ?_) rfl (by kernel_rfl) (by kernel_rfl) (by kernel_rfl) (by kernel_rfl) (fun _ _ _ h => h) (Or.inl ⟨by rfl, ?_⟩) (fun _ => by assumption) ?_
            rotate_left
            · (intro w hSw; go_simp)
              all_goals (with_reducible rfl)
            (try simp only [List.getElem_toArray, List.getElem_cons_zero, List.getElem_cons_succ, Act.put, List.setIfInBounds_toArray, List.set_cons_zero, List.set_cons_succ])
            refine wpAnyT_ready (rs := [15]) (by kernel_rfl) (by simp) ?_
            refine AllReadyT.cons rfl (fun K hK => ?_) AllReadyT.nil
            obtain ⟨b0, b1, bf0, bf1⟩ := box2 hbx
            go_simp
            refine hK.out _ _ (noneB_off (by kernel_rfl)) (fun _ => ?_)
            clear hK K
            (try simp only [List.getElem_toArray, List.getElem_cons_zero, List.getElem_cons_succ, Act.put, List.setIfInBounds_toArray, List.set_cons_zero, List.set_cons_succ])
            refine wpAnyT_ready (rs := [16]) (by kernel_rfl) (by simp) ?_
            refine AllReadyT.cons rfl (fun K hK => ?_) AllReadyT.nil
            go_simp
            refine hK.out _ _ (noneB_off (by kernel_rfl)) (fun _ => ?_)
            clear hK K
            (try simp only [List.getElem_toArray, List.getElem_cons_zero, List.getElem_cons_succ, Act.put, List.setIfInBounds_toArray, List.set_cons_zero, List.set_cons_succ])
            refine wpAnyT_done (by kernel_rfl) ?_ _
            (try clear b0 b1 bf0 bf1)
            first
              | refine gen_two (P := fun w => (_ : Exit → Act → World → Prop) Exit.normal _ w) hbx (fun W9 hx9 hz9 hf9 hB9 => ?_)
              | refine gen_new (P := fun w => (_ : Exit → Act → World → Prop) Exit.normal _ w) (fun W9 hx9 hz9 hf9 hB9 => ?_)
            have hb9 : Below wr.heap.size wr W9 := hB9 _ _ (by have := hb6.size; have := hb5.size; have := hbd.size; omega) hb6
            have hgx : ∀ W' : World, (∀ b, wr.heap.size ≤ b → b < W9.heap.size → W'.heap[b]? = W9.heap[b]?) → W9.heap.size ≤ W'.heap.size → GT 0 (i + 1) W' (.agg #[.slice ao6 T6.pages.length cap6, .int .i64 T6.root]) T6 (madeE F (i + 1)) := fun W' hW hz => by
              have hs5 := hb5.size
              have hsd := hbd.size
              exact hg6.land (W := W') (B' := 0) (Nat.zero_le _) (fun b h1 h2 => (hW b (by (try simp only [World.size_alloc] at h1); omega) (by omega)).trans (hf9 b (by (try simp only [World.size_alloc] at h1); omega))) (by omega)
            have HGX := Lib.hid hgx
            have HB9 := Lib.hid hb9
            have HX9 := Lib.hid hx9
            replace d2 := cell_of_below hb9 d2
            have q0 := cell_of_below hb9 j0
            have q1 := cell_of_below hb9 j1
            clear hx9 hz9 hf9 hB9 hb9 hgx hHeld hb5 hb6 hbd hg6 hbc hz5 hz6 hkr k0 k1 kf0 kf1 j0 j1 jf0 jf1 d1
            (try clear hbx)
            go_wp2_with fail
            refine wpT_begin2 (S := (fun wx => wx.cell? ⟨Bb, 0, none⟩ = some (.slice bo U.pages.length bcap) ∧ wx.cell? ⟨Bb, 1, none⟩ = some (.int .i64 U.root) ∧ wx.cell? ⟨b2, o2 + y, none⟩ = some (.int .i64 r) ∧ Below W9.heap.size W9 wx)) [23] (by kernel_rfl) ?_ (fun Wd hHeld => ?_)
            · (try dsimp only)
              exact ⟨cell_dr q0, cell_dr q1, cell_dr d2, (Below.refl _ _).drew⟩
            have hbd := hHeld.2.2.2
            refine wpAnyT_take (i := 0) (oi := _) (v := ?_) rfl (by kernel_rfl) (by kernel_rfl) (by kernel_rfl) (by kernel_rfl) (fun _ _ _ h => h) (Or.inl ⟨by rfl, ?_⟩) (by assumption) ?_
            rotate_left
            · (intro w hSw; (try dsimp only at hSw); go_simp)
              all_goals (with_reducible rfl)
            (try simp only [List.getElem_toArray, List.getElem_cons_zero, List.getElem_cons_succ, Act.put, List.setIfInBounds_toArray, List.set_cons_zero, List.set_cons_succ])
            refine wpAnyT_pure (i := 1) (oi := _) (v := ?_) rfl (by kernel_rfl) (by kernel_rfl) (by kernel_rfl) (by kernel_rfl) (fun _ _ _ h => h) (Or.inl ⟨by rfl, ?_⟩) (fun _ => by assumption) ?_
            rotate_left
            · (intro w hSw; go_simp)
              all_goals (with_reducible rfl)
            (try simp only [List.getElem_toArray, List.getElem_cons_zero, List.getElem_cons_succ, Act.put, List.setIfInBounds_toArray, List.set_cons_zero, List.set_cons_succ])
            refine wpAnyT_pure (i := 2) (oi := _) (v := ?_) rfl (by kernel_rfl) (by kernel_rfl) (by kernel_rfl) (by kernel_rfl) (fun _ _ _ h => h) (Or.inl ⟨by rfl, ?_⟩) (fun _ => by assumption) ?_
            rotate_left
            · (intro w hSw; go_simp)
              all_goals (with_reducible rfl)
            (try simp only [List.getElem_toArray, List.getElem_cons_zero, List.getElem_cons_succ, Act.put, List.setIfInBounds_toArray, List.set_cons_zero, List.set_cons_succ])
            refine wpAnyT_pure (i := 3) (oi := _) (v := ?_) rfl (by kernel_rfl) (by kernel_rfl) (by kernel_rfl) (by kernel_rfl) (fun _ _ _ h => h) (Or.inl ⟨by rfl, ?_⟩) (fun _ => by assumption) ?_
            rotate_left
            · (intro w hSw; go_simp)
              all_goals (with_reducible rfl)
            (try simp only [List.getElem_toArray, List.getElem_cons_zero, List.getElem_cons_succ, Act.put, List.setIfInBounds_toArray, List.set_cons_zero, List.set_cons_succ])
            refine wpAnyT_pure (i := 4) (oi := _) (v := ?_) rfl (by kernel_rfl) (by kernel_rfl) (by kernel_rfl) (by kernel_rfl) (fun _ _ _ h => h) (Or.inl ⟨by rfl, ?_⟩) (fun _ => by assumption) ?_
            rotate_left
            · (intro w hSw; go_simp)
              all_goals (with_reducible rfl)
            (try simp only [List.getElem_toArray, List.getElem_cons_zero, List.getElem_cons_succ, Act.put, List.setIfInBounds_toArray, List.set_cons_zero, List.set_cons_succ])
            refine wpAnyT_pure (i := 5) (oi := _) (v := ?_) rfl (by kernel_rfl) (by kernel_rfl) (by kernel_rfl) (by kernel_rfl) (fun _ _ _ h => h) (Or.inl ⟨by rfl, ?_⟩) (fun _ => by assumption) ?_
            rotate_left
            · (intro w hSw; go_simp)
              all_goals (with_reducible rfl)
            (try simp only [List.getElem_toArray, List.getElem_cons_zero, List.getElem_cons_succ, Act.put, List.setIfInBounds_toArray, List.set_cons_zero, List.set_cons_succ])
            refine wpAnyT_pure (i := 6) (oi := _) (v := ?_) rfl (by kernel_rfl) (by kernel_rfl) (by kernel_rfl) (by kernel_rfl) (fun _ _ _ h => h) (Or.inl ⟨by rfl, ?_⟩) (fun _ => by assumption) ?_
            rotate_left
            · (intro w hSw; go_simp)
              all_goals (with_reducible rfl)
            (try simp only [List.getElem_toArray, List.getElem_cons_zero, List.getElem_cons_succ, Act.put, List.setIfInBounds_toArray, List.set_cons_zero, List.set_cons_succ])
            refine wpAnyT_pure (i := 7) (oi := _) (v := ?_) rfl (by kernel_rfl) (by kernel_rfl) (by kernel_rfl) (by kernel_rfl) (fun _ _ _ h => h) (Or.inl ⟨by rfl, ?_⟩) (fun _ => by assumption) ?_
            rotate_left
            · (intro w hSw; go_simp)
              all_goals (with_reducible rfl)
            (try simp only [List.getElem_toArray, List.getElem_cons_zero, List.getElem_cons_succ, Act.put, List.setIfInBounds_toArray, List.set_cons_zero, List.set_cons_succ])
            refine wpAnyT_take (i := 8) (oi := _) (v := ?_) rfl (by kernel_rfl) (by kernel_rfl) (by kernel_rfl) (by kernel_rfl) (fun _ _ _ h => h) (Or.inl ⟨by rfl, ?_⟩) (by assumption) ?_
            rotate_left
            · (intro w hSw; (try dsimp only at hSw); go_simp)
              all_goals (with_reducible rfl)
            (try simp only [List.getElem_toArray, List.getElem_cons_zero, List.getElem_cons_succ, Act.put, List.setIfInBounds_toArray, List.set_cons_zero, List.set_cons_succ])
            refine wpAnyT_pure (i := 10) (oi := _) (v := ?_) rfl (by kernel_rfl) (by kernel_rfl) (by kernel_rfl) (by kernel_rfl) (fun _ _ _ h => h) (Or.inl ⟨by rfl, ?_⟩) (fun _ => by assumption) ?_
            rotate_left
            · (intro w hSw; go_simp)
              all_goals (with_reducible rfl)
            (try simp only [List.getElem_toArray, List.getElem_cons_zero, List.getElem_cons_succ, Act.put, List.setIfInBounds_toArray, List.set_cons_zero, List.set_cons_succ])
            refine wpAnyT_pure (i := 11) (oi := _) (v := ?_) rfl (by kernel_rfl) (by kernel_rfl) (by kernel_rfl) (by kernel_rfl) (fun _ _ _ h => h) (Or.inl ⟨by rfl, ?_⟩) (fun _ => by assumption) ?_
            rotate_left
            · (intro w hSw; go_simp)
              all_goals (with_reducible rfl)
            (try simp only [List.getElem_toArray, List.getElem_cons_zero, List.getElem_cons_succ, Act.put, List.setIfInBounds_toArray, List.set_cons_zero, List.set_cons_succ])
            refine wpAnyT_pure (i := 12) (oi := _) (v := ?_) rfl (by kernel_rfl) (by kernel_rfl) (by kernel_rfl) (by kernel_rfl) (fun _ _ _ h => h) (Or.inl ⟨by rfl, ?_⟩) (fun _ => by assumption) ?_
            rotate_left
            · (intro w hSw; go_simp)
              all_goals (with_reducible rfl)
            (try simp only [List.getElem_toArray, List.getElem_cons_zero, List.getElem_cons_succ, Act.put, List.setIfInBounds_toArray, List.set_cons_zero, List.set_cons_succ])
            refine wpAnyT_pure (i := 13) (oi := _) (v := ?_) rfl (by kernel_rfl) (by kernel_rfl) (by kernel_rfl) (by kernel_rfl) (fun _ _ _ h => h) (Or.inl ⟨by rfl, ?_⟩) (fun _ => by assumption) ?_
            rotate_left
            · (intro w hSw; go_simp)
              all_goals (with_reducible rfl)
            (try simp only [List.getElem_toArray, List.getElem_cons_zero, List.getElem_cons_succ, Act.put, List.setIfInBounds_toArray, List.set_cons_zero, List.set_cons_succ])
            refine wpAnyT_pure (i := 14) (oi := _) (v := ?_) rfl (by kernel_rfl) (by kernel_rfl) (by kernel_rfl) (by kernel_rfl) (fun _ _ _ h => h) (Or.inl ⟨by rfl, ?_⟩) (fun _ => by assumption) ?_
            rotate_left
            · (intro w hSw; go_simp)
              all_goals (with_reducible rfl)
            (try simp only [List.getElem_toArray, List.getElem_cons_zero, List.getElem_cons_succ, Act.put, List.setIfInBounds_toArray, List.set_cons_zero, List.set_cons_succ])
            refine wpAnyT_pure (i := 15) (oi := _) (v := ?_) rfl (by kernel_rfl) (by kernel_rfl) (by kernel_rfl) (by kernel_rfl) (fun _ _ _ h => h) (Or.inl ⟨by rfl, ?_⟩) (fun _ => by assumption) ?_
            rotate_left
            · (intro w hSw; go_simp)
              all_goals (with_reducible rfl)
            (try simp only [List.getElem_toArray, List.getElem_cons_zero, List.getElem_cons_succ, Act.put, List.setIfInBounds_toArray, List.set_cons_zero, List.set_cons_succ])
            refine wpAnyT_pure (i := 16) (oi := _) (v := ?_) rfl (by kernel_rfl) (by kernel_rfl) (by kernel_rfl) (by kernel_rfl) (fun _ _ _ h => h) (Or.inl ⟨by rfl, ?_⟩) (fun _ => by assumption) ?_
            rotate_left
            · (intro w hSw; go_simp)
              all_goals (with_reducible rfl)
            (try simp only [List.getElem_toArray, List.getElem_cons_zero, List.getElem_cons_succ, Act.put, List.setIfInBounds_toArray, List.set_cons_zero, List.set_cons_succ])
            refine wpAnyT_take (i := 17) (oi := _) (v := ?_) rfl (by kernel_rfl) (by kernel_rfl) (by kernel_rfl) (by kernel_rfl) (fun _ _ _ h => h) (Or.inl ⟨by rfl, ?_⟩) (by assumption) ?_
            rotate_left
            · (intro w hSw; (try dsimp only at hSw); go_simp)
              all_goals (with_reducible rfl)
            (try simp only [List.getElem_toArray, List.getElem_cons_zero, List.getElem_cons_succ, Act.put, List.setIfInBounds_toArray, List.set_cons_zero, List.set_cons_succ])
            refine wpAnyT_ready (rs := [9, 22]) (by kernel_rfl) (by simp) ?_
            refine AllReadyT.cons rfl (fun K hK => ?_) (AllReadyT.cons rfl (fun K hK => ?_) AllReadyT.nil)
            · skip
              go_simp
              (go_at_call 30; refine (key_any r _ hRr).mono ?_; rintro e w5 ⟨kb, kd, rfl, hkr, hbc⟩; have hz5 := hbc.size; (try simp only [World.size_alloc] at hz5); (try replace hbx := (hbc.block _ (Array.getElem?_eq_some_iff.1 hbx).1).trans hbx))
              go_wp2_with fail
              refine hK.out _ _ (fun _ => ?_) (fun hHeld0 => ?_)
              · (try dsimp only)
                exact ⟨cell_bel hbc (hHeld.1), cell_bel hbc (hHeld.2.1), cell_bel hbc (hHeld.2.2.1), Below.trans (hHeld.2.2.2) (hbc.mono (hHeld.2.2.2).size)⟩
              have hHeld1 := hHeld0 (by kernel_rfl)
              clear hK K hHeld0
              have hb5 := hHeld1.2.2.2
              clear hHeld; have hHeld := hHeld1; clear hHeld1
              (try simp only [List.getElem_toArray, List.getElem_cons_zero, List.getElem_cons_succ, Act.put, List.setIfInBounds_toArray, List.set_cons_zero, List.set_cons_succ])
              refine wpAnyT_ready (rs := [18, 22]) (by kernel_rfl) (by simp) ?_
              refine AllReadyT.cons rfl (fun K hK => ?_) (AllReadyT.cons rfl (fun K hK => ?_) AllReadyT.nil)
              · skip
                go_simp
                (go_at_call 25; refine (HCB.out _ _ _ (HB9.out.trans (hHeld.2.2.2.mono HB9.out.size)) hkr).mono ?_; rintro e w6 ⟨bo6, bcap6, U6, rfl, hg6, hbc⟩; have hz6 := hbc.size; (try simp only [World.size_alloc] at hz6); (try replace hbx := (hbc.block _ (Array.getElem?_eq_some_iff.1 hbx).1).trans hbx))
                go_wp2_with fail
                refine hK.out _ _ (fun _ => ?_) (fun hHeld0 => ?_)
                · (try dsimp only)
                  exact ⟨cell_bel hbc (hHeld.1), cell_bel hbc (hHeld.2.1), cell_bel hbc (hHeld.2.2.1), Below.trans (hHeld.2.2.2) (hbc.mono (hHeld.2.2.2).size)⟩
                have hHeld1 := hHeld0 (by kernel_rfl)
                clear hK K hHeld0
                have hb6 := hHeld1.2.2.2
                clear hHeld; have hHeld := hHeld1; clear hHeld1
                (try simp only [List.getElem_toArray, List.getElem_cons_zero, List.getElem_cons_succ, Act.put, List.setIfInBounds_toArray, List.set_cons_zero, List.set_cons_succ])
                refine wpAnyT_pure (i := 19) (oi := _) (v := ?_) rfl (by kernel_rfl) (by kernel_rfl) (by kernel_rfl) (by kernel_rfl) (fun _ _ _ h => h) (Or.inl ⟨by rfl, ?_⟩) (fun _ => by assumption) ?_
                rotate_left
                · (intro w hSw; go_simp)
                  all_goals (with_reducible rfl)
                (try simp only [List.getElem_toArray, List.getElem_cons_zero, List.getElem_cons_succ, Act.put, List.setIfInBounds_toArray, List.set_cons_zero, List.set_cons_succ])
                refine wpAnyT_pure (i := 20) (oi := _) (v := ?_) rfl (by kernel_rfl) (by kernel_rfl) (by kernel_rfl) (by kernel_rfl) (fun _ _ _ h => h) (Or.inl ⟨by rfl, ?_⟩) (fun _ => by assumption) ?_
                rotate_left
                · (intro w hSw; go_simp)
                  all_goals (with_reducible rfl)
                (try simp only [List.getElem_toArray, List.getElem_cons_zero, List.getElem_cons_succ, Act.put, List.setIfInBounds_toArray, List.set_cons_zero, List.set_cons_succ])
                refine wpAnyT_pure (i := 21) (oi := _) (v := ?_) rfl (by kernel_rfl) (by kernel_rfl) (by kernel_rfl) (by kernel_rfl) (fun _ _ _ h => h) (Or.inl ⟨by rfl, ?_⟩) (fun _ => by assumption) ?_
                rotate_left
                · (intro w hSw; go_simp)
                  all_goals (with_reducible rfl)
                (try simp only [List.getElem_toArray, List.getElem_cons_zero, List.getElem_cons_succ, Act.put, List.setIfInBounds_toArray, List.set_cons_zero, List.set_cons_succ])
                refine wpAnyT_ready (rs := [22]) (by kernel_rfl) (by simp) ?_
                refine AllReadyT.cons rfl (fun K hK => ?_) AllReadyT.nil
                go_simp
                refine hK.out _ _ (fun _ => ?_) (fun hHeld0 => ?_)
                · (try dsimp only)
                  (first | (with_reducible exact hHeld) | (with_reducible exact ⟨cell_al _ (hHeld.1), cell_al _ (hHeld.2.1), cell_al _ (hHeld.2.2.1), Below.alloc (hHeld.2.2.2) (hHeld.2.2.2).size _⟩))
                have hHeld1 := hHeld0 (by kernel_rfl)
                clear hK K hHeld0
                (have hbx := alloc_of hHeld1.2.2.2); (try replace hkr := hkr.below (al_of hHeld1.2.2.2))
                clear hHeld; have hHeld := hHeld1; clear hHeld1
                (try simp only [List.getElem_toArray, List.getElem_cons_zero, List.getElem_cons_succ, Act.put, List.setIfInBounds_toArray, List.set_cons_zero, List.set_cons_succ])
                refine wpAnyT_ready (rs := [23]) (by kernel_rfl) (by simp) ?_
                refine AllReadyT.cons rfl (fun K hK => ?_) AllReadyT.nil
                obtain ⟨b0, b1, bf0, bf1⟩ := box2 hbx
                go_simp
                refine hK.out _ _ (noneB_off (by kernel_rfl)) (fun _ => ?_)
                clear hK K
                (try simp only [List.getElem_toArray, List.getElem_cons_zero, List.getElem_cons_succ, Act.put, List.setIfInBounds_toArray, List.set_cons_zero, List.set_cons_succ])
                refine wpAnyT_ready (rs := [24]) (by kernel_rfl) (by simp) ?_
                refine AllReadyT.cons rfl (fun K hK => ?_) AllReadyT.nil
                go_simp
                refine hK.out _ _ (noneB_off (by kernel_rfl)) (fun _ => ?_)
                clear hK K
                (try simp only [List.getElem_toArray, List.getElem_cons_zero, List.getElem_cons_succ, Act.put, List.setIfInBounds_toArray, List.set_cons_zero, List.set_cons_succ])
                refine wpAnyT_done (by kernel_rfl) ?_ _
                (try clear b0 b1 bf0 bf1)
                first
                  | refine gen_two (P := fun w => (_ : Exit → Act → World → Prop) Exit.normal _ w) hbx (fun W10 hx10 hz10 hf10 hB10 => ?_)
                  | refine gen_new (P := fun w => (_ : Exit → Act → World → Prop) Exit.normal _ w) (fun W10 hx10 hz10 hf10 hB10 => ?_)
                have hb10 : Below W9.heap.size W9 W10 := hB10 _ _ (by have := hb6.size; have := hb5.size; have := hbd.size; omega) hb6
                have hgy : ∀ W' : World, (∀ b, W9.heap.size ≤ b → b < W10.heap.size → W'.heap[b]? = W10.heap[b]?) → W10.heap.size ≤ W'.heap.size → GT 0 (i + 1) W' (.agg #[.slice bo6 U6.pages.length bcap6, .int .i64 U6.root]) U6 (madeE F.reverse (i + 1)) := fun W' hW hz => by
                  have hs5 := hb5.size
                  have hsd := hbd.size
                  exact hg6.land (W := W') (B' := 0) (Nat.zero_le _) (fun b h1 h2 => (hW b (by (try simp only [World.size_alloc] at h1); omega) (by omega)).trans (hf10 b (by (try simp only [World.size_alloc] at h1); omega))) (by omega)
                have HGY := Lib.hid hgy
                have HB10 := Lib.hid hb10
                have HX10 := Lib.hid hx10
                have HXX := Lib.hid ((hb10.block _ (Array.getElem?_eq_some_iff.1 HX9.out).1).trans HX9.out)
                have hs9 := HB9.out.size
                have hs10 := hb10.size
                have HSZ := Lib.hid (And.intro hb6.size (And.intro hb5.size hbd.size))
                have hxa := (hb10.block Ba (by omega)).trans ((HB9.out.block Ba hBaS).trans HA.out.x)
                have hxb := (hb10.block Bb (by omega)).trans ((HB9.out.block Bb hBbS).trans HBX.out.x)
                clear hx10 hz10 hf10 hB10 hb10 hgy hHeld hb5 hb6 hbd hg6 hbc hz5 hz6 hkr q0 q1 d2
                (try clear hbx)
                obtain ⟨x90, x91, -⟩ := box2 HXX.out
                obtain ⟨z0, z1, zf0, zf1⟩ := box2 hxa
                have HXA10 := Lib.hid hxa
                have HXBH := Lib.hid hxb
                clear hxa hxb
                go_upto_region 23 with (fail)
                refine gen_two (P := fun w => Code.wp _ _ _ _ w) HXA10.out (fun W11 hx11 hz11 hf11 hB11 => ?_)
                have hxy11 := (hf11 _ (by have := HSZ.out; omega)).trans HX10.out
                have hxb11 := (hf11 Bb hab.symm).trans HXBH.out
                obtain ⟨x100, x101, -⟩ := box2 hxy11
                obtain ⟨y0, y1, yf0, yf1⟩ := box2 hxb11
                have hBL11 := hB11 Ba wS (Nat.le_refl _) ((HBL.out.trans (HB9.out.mono (by omega))).trans (HB10.out.mono (by omega)))
                have HW11 := Lib.hid (And.intro hx11 (And.intro hz11 (And.intro hf11 hBL11)))
                clear hx11 hz11 hf11 hB11 hxy11 hxb11 hBL11 z0 z1 zf0 zf1 x90 x91
                go_wp2_with fail
                go_roundw
                case rel =>
                  obtain ⟨hx11, hz11, hf11, hBL11⟩ := HW11.out
                  exact ⟨i + 1, ao6, cap6, T6, bo6, bcap6, U6, by omega, by go_num,
                    ⟨HGX.out _ (fun b h1 h2 => (two_far (show b ≠ Bb by omega)).trans ((hf11 b (by omega)).trans (HB10.out.block b h2))) (by simp only [World.size_setCell]; omega), (two_far hab).trans hx11⟩,
                    ⟨HGY.out _ (fun b h1 h2 => (two_far (show b ≠ Bb by omega)).trans (hf11 b (by omega))) (by simp only [World.size_setCell]; omega), two_heap ((hf11 Bb hab.symm).trans HXBH.out)⟩,
                    (hBL11.setCell (p := ⟨Bb, 0, none⟩) (by show Ba ≤ Bb; omega) _).setCell (p := ⟨Bb, 1, none⟩) (by show Ba ≤ Bb; omega) _⟩
                case measure => (simp [intOf]) <;> omega
              · skip
                go_simp
                refine hK.out _ _ (fun _ => ?_) (fun hHeld0 => ?_)
                · (try dsimp only)
                  (first | (with_reducible exact hHeld) | (with_reducible exact ⟨cell_al _ (hHeld.1), cell_al _ (hHeld.2.1), cell_al _ (hHeld.2.2.1), Below.alloc (hHeld.2.2.2) (hHeld.2.2.2).size _⟩))
                have hHeld1 := hHeld0 (by kernel_rfl)
                clear hK K hHeld0
                (have hbx := alloc_of hHeld1.2.2.2); (try replace hkr := hkr.below (al_of hHeld1.2.2.2))
                clear hHeld; have hHeld := hHeld1; clear hHeld1
                (try simp only [List.getElem_toArray, List.getElem_cons_zero, List.getElem_cons_succ, Act.put, List.setIfInBounds_toArray, List.set_cons_zero, List.set_cons_succ])
                refine wpAnyT_ready (rs := [18]) (by kernel_rfl) (by simp) ?_
                refine AllReadyT.cons rfl (fun K hK => ?_) AllReadyT.nil
                go_simp
                (go_at_call 25; refine (HCB.out _ _ _ (HB9.out.trans (hHeld.2.2.2.mono HB9.out.size)) hkr).mono ?_; rintro e w6 ⟨bo6, bcap6, U6, rfl, hg6, hbc⟩; have hz6 := hbc.size; (try simp only [World.size_alloc] at hz6); (try replace hbx := (hbc.block _ (Array.getElem?_eq_some_iff.1 hbx).1).trans hbx))
                go_wp2_with fail
                refine hK.out _ _ (fun _ => ?_) (fun hHeld0 => ?_)
                · (try dsimp only)
                  exact ⟨cell_bel hbc (hHeld.1), cell_bel hbc (hHeld.2.1), cell_bel hbc (hHeld.2.2.1), Below.trans (hHeld.2.2.2) (hbc.mono (hHeld.2.2.2).size)⟩
                have hHeld1 := hHeld0 (by kernel_rfl)
                clear hK K hHeld0
                have hb6 := hHeld1.2.2.2
                clear hHeld; have hHeld := hHeld1; clear hHeld1
                (try simp only [List.getElem_toArray, List.getElem_cons_zero, List.getElem_cons_succ, Act.put, List.setIfInBounds_toArray, List.set_cons_zero, List.set_cons_succ])
                refine wpAnyT_pure (i := 19) (oi := _) (v := ?_) rfl (by kernel_rfl) (by kernel_rfl) (by kernel_rfl) (by kernel_rfl) (fun _ _ _ h => h) (Or.inl ⟨by rfl, ?_⟩) (fun _ => by assumption) ?_
                rotate_left
                · (intro w hSw; go_simp)
                  all_goals (with_reducible rfl)
                (try simp only [List.getElem_toArray, List.getElem_cons_zero, List.getElem_cons_succ, Act.put, List.setIfInBounds_toArray, List.set_cons_zero, List.set_cons_succ])
                refine wpAnyT_pure (i := 20) (oi := _) (v := ?_) rfl (by kernel_rfl) (by kernel_rfl) (by kernel_rfl) (by kernel_rfl) (fun _ _ _ h => h) (Or.inl ⟨by rfl, ?_⟩) (fun _ => by assumption) ?_
                rotate_left
                · (intro w hSw; go_simp)
                  all_goals (with_reducible rfl)
                (try simp only [List.getElem_toArray, List.getElem_cons_zero, List.getElem_cons_succ, Act.put, List.setIfInBounds_toArray, List.set_cons_zero, List.set_cons_succ])
                refine wpAnyT_pure (i := 21) (oi := _) (v := ?_) rfl (by kernel_rfl) (by kernel_rfl) (by kernel_rfl) (by kernel_rfl) (fun _ _ _ h => h) (Or.inl ⟨by rfl, ?_⟩) (fun _ => by assumption) ?_
                rotate_left
                · (intro w hSw; go_simp)
                  all_goals (with_reducible rfl)
                (try simp only [List.getElem_toArray, List.getElem_cons_zero, List.getElem_cons_succ, Act.put, List.setIfInBounds_toArray, List.set_cons_zero, List.set_cons_succ])
                refine wpAnyT_ready (rs := [23]) (by kernel_rfl) (by simp) ?_
                refine AllReadyT.cons rfl (fun K hK => ?_) AllReadyT.nil
                obtain ⟨b0, b1, bf0, bf1⟩ := box2 hbx
                go_simp
                refine hK.out _ _ (noneB_off (by kernel_rfl)) (fun _ => ?_)
                clear hK K
                (try simp only [List.getElem_toArray, List.getElem_cons_zero, List.getElem_cons_succ, Act.put, List.setIfInBounds_toArray, List.set_cons_zero, List.set_cons_succ])
                refine wpAnyT_ready (rs := [24]) (by kernel_rfl) (by simp) ?_
                refine AllReadyT.cons rfl (fun K hK => ?_) AllReadyT.nil
                go_simp
                refine hK.out _ _ (noneB_off (by kernel_rfl)) (fun _ => ?_)
                clear hK K
                (try simp only [List.getElem_toArray, List.getElem_cons_zero, List.getElem_cons_succ, Act.put, List.setIfInBounds_toArray, List.set_cons_zero, List.set_cons_succ])
                refine wpAnyT_done (by kernel_rfl) ?_ _
                (try clear b0 b1 bf0 bf1)
                first
                  | refine gen_two (P := fun w => (_ : Exit → Act → World → Prop) Exit.normal _ w) hbx (fun W10 hx10 hz10 hf10 hB10 => ?_)
                  | refine gen_new (P := fun w => (_ : Exit → Act → World → Prop) Exit.normal _ w) (fun W10 hx10 hz10 hf10 hB10 => ?_)
                have hb10 : Below W9.heap.size W9 W10 := hB10 _ _ (by have := hb6.size; have := hb5.size; have := hbd.size; omega) hb6
                have hgy : ∀ W' : World, (∀ b, W9.heap.size ≤ b → b < W10.heap.size → W'.heap[b]? = W10.heap[b]?) → W10.heap.size ≤ W'.heap.size → GT 0 (i + 1) W' (.agg #[.slice bo6 U6.pages.length bcap6, .int .i64 U6.root]) U6 (madeE F.reverse (i + 1)) := fun W' hW hz => by
                  have hs5 := hb5.size
                  have hsd := hbd.size
                  exact hg6.land (W := W') (B' := 0) (Nat.zero_le _) (fun b h1 h2 => (hW b (by (try simp only [World.size_alloc] at h1); omega) (by omega)).trans (hf10 b (by (try simp only [World.size_alloc] at h1); omega))) (by omega)
                have HGY := Lib.hid hgy
                have HB10 := Lib.hid hb10
                have HX10 := Lib.hid hx10
                have HXX := Lib.hid ((hb10.block _ (Array.getElem?_eq_some_iff.1 HX9.out).1).trans HX9.out)
                have hs9 := HB9.out.size
                have hs10 := hb10.size
                have HSZ := Lib.hid (And.intro hb6.size (And.intro hb5.size hbd.size))
                have hxa := (hb10.block Ba (by omega)).trans ((HB9.out.block Ba hBaS).trans HA.out.x)
                have hxb := (hb10.block Bb (by omega)).trans ((HB9.out.block Bb hBbS).trans HBX.out.x)
                clear hx10 hz10 hf10 hB10 hb10 hgy hHeld hb5 hb6 hbd hg6 hbc hz5 hz6 hkr q0 q1 d2
                (try clear hbx)
                obtain ⟨x90, x91, -⟩ := box2 HXX.out
                obtain ⟨z0, z1, zf0, zf1⟩ := box2 hxa
                have HXA10 := Lib.hid hxa
                have HXBH := Lib.hid hxb
                clear hxa hxb
                go_upto_region 23 with (fail)
                refine gen_two (P := fun w => Code.wp _ _ _ _ w) HXA10.out (fun W11 hx11 hz11 hf11 hB11 => ?_)
                have hxy11 := (hf11 _ (by have := HSZ.out; omega)).trans HX10.out
                have hxb11 := (hf11 Bb hab.symm).trans HXBH.out
                obtain ⟨x100, x101, -⟩ := box2 hxy11
                obtain ⟨y0, y1, yf0, yf1⟩ := box2 hxb11
                have hBL11 := hB11 Ba wS (Nat.le_refl _) ((HBL.out.trans (HB9.out.mono (by omega))).trans (HB10.out.mono (by omega)))
                have HW11 := Lib.hid (And.intro hx11 (And.intro hz11 (And.intro hf11 hBL11)))
                clear hx11 hz11 hf11 hB11 hxy11 hxb11 hBL11 z0 z1 zf0 zf1 x90 x91
                go_wp2_with fail
                go_roundw
                case rel =>
                  obtain ⟨hx11, hz11, hf11, hBL11⟩ := HW11.out
                  exact ⟨i + 1, ao6, cap6, T6, bo6, bcap6, U6, by omega, by go_num,
                    ⟨HGX.out _ (fun b h1 h2 => (two_far (show b ≠ Bb by omega)).trans ((hf11 b (by omega)).trans (HB10.out.block b h2))) (by simp only [World.size_setCell]; omega), (two_far hab).trans hx11⟩,
                    ⟨HGY.out _ (fun b h1 h2 => (two_far (show b ≠ Bb by omega)).trans (hf11 b (by omega))) (by simp only [World.size_setCell]; omega), two_heap ((hf11 Bb hab.symm).trans HXBH.out)⟩,
                    (hBL11.setCell (p := ⟨Bb, 0, none⟩) (by show Ba ≤ Bb; omega) _).setCell (p := ⟨Bb, 1, none⟩) (by show Ba ≤ Bb; omega) _⟩
                case measure => (simp [intOf]) <;> omega
            · skip
              go_simp
              refine hK.out _ _ (fun _ => ?_) (fun hHeld0 => ?_)
              · (try dsimp only)
                (first | (with_reducible exact hHeld) | (with_reducible exact ⟨cell_al _ (hHeld.1), cell_al _ (hHeld.2.1), cell_al _ (hHeld.2.2.1), Below.alloc (hHeld.2.2.2) (hHeld.2.2.2).size _⟩))
              have hHeld1 := hHeld0 (by kernel_rfl)
              clear hK K hHeld0
              (have hbx := alloc_of hHeld1.2.2.2); (try replace hkr := hkr.below (al_of hHeld1.2.2.2))
              clear hHeld; have hHeld := hHeld1; clear hHeld1
              (try simp only [List.getElem_toArray, List.getElem_cons_zero, List.getElem_cons_succ, Act.put, List.setIfInBounds_toArray, List.set_cons_zero, List.set_cons_succ])
              refine wpAnyT_ready (rs := [9]) (by kernel_rfl) (by simp) ?_
              refine AllReadyT.cons rfl (fun K hK => ?_) AllReadyT.nil
              go_simp
              (go_at_call 30; refine (key_any r _ hRr).mono ?_; rintro e w5 ⟨kb, kd, rfl, hkr, hbc⟩; have hz5 := hbc.size; (try simp only [World.size_alloc] at hz5); (try replace hbx := (hbc.block _ (Array.getElem?_eq_some_iff.1 hbx).1).trans hbx))
              go_wp2_with fail
              refine hK.out _ _ (fun _ => ?_) (fun hHeld0 => ?_)
              · (try dsimp only)
                exact ⟨cell_bel hbc (hHeld.1), cell_bel hbc (hHeld.2.1), cell_bel hbc (hHeld.2.2.1), Below.trans (hHeld.2.2.2) (hbc.mono (hHeld.2.2.2).size)⟩
              have hHeld1 := hHeld0 (by kernel_rfl)
              clear hK K hHeld0
              have hb5 := hHeld1.2.2.2
              clear hHeld; have hHeld := hHeld1; clear hHeld1
              (try simp only [List.getElem_toArray, List.getElem_cons_zero, List.getElem_cons_succ, Act.put, List.setIfInBounds_toArray, List.set_cons_zero, List.set_cons_succ])
              refine wpAnyT_ready (rs := [18]) (by kernel_rfl) (by simp) ?_
              refine AllReadyT.cons rfl (fun K hK => ?_) AllReadyT.nil
              go_simp
              (go_at_call 25; refine (HCB.out _ _ _ (HB9.out.trans (hHeld.2.2.2.mono HB9.out.size)) hkr).mono ?_; rintro e w6 ⟨bo6, bcap6, U6, rfl, hg6, hbc⟩; have hz6 := hbc.size; (try simp only [World.size_alloc] at hz6); (try replace hbx := (hbc.block _ (Array.getElem?_eq_some_iff.1 hbx).1).trans hbx))
              go_wp2_with fail
              refine hK.out _ _ (fun _ => ?_) (fun hHeld0 => ?_)
              · (try dsimp only)
                exact ⟨cell_bel hbc (hHeld.1), cell_bel hbc (hHeld.2.1), cell_bel hbc (hHeld.2.2.1), Below.trans (hHeld.2.2.2) (hbc.mono (hHeld.2.2.2).size)⟩
              have hHeld1 := hHeld0 (by kernel_rfl)
              clear hK K hHeld0
              have hb6 := hHeld1.2.2.2
              clear hHeld; have hHeld := hHeld1; clear hHeld1
              (try simp only [List.getElem_toArray, List.getElem_cons_zero, List.getElem_cons_succ, Act.put, List.setIfInBounds_toArray, List.set_cons_zero, List.set_cons_succ])
              refine wpAnyT_pure (i := 19) (oi := _) (v := ?_) rfl (by kernel_rfl) (by kernel_rfl) (by kernel_rfl) (by kernel_rfl) (fun _ _ _ h => h) (Or.inl ⟨by rfl, ?_⟩) (fun _ => by assumption) ?_
              rotate_left
              · (intro w hSw; go_simp)
                all_goals (with_reducible rfl)
              (try simp only [List.getElem_toArray, List.getElem_cons_zero, List.getElem_cons_succ, Act.put, List.setIfInBounds_toArray, List.set_cons_zero, List.set_cons_succ])
              refine wpAnyT_pure (i := 20) (oi := _) (v := ?_) rfl (by kernel_rfl) (by kernel_rfl) (by kernel_rfl) (by kernel_rfl) (fun _ _ _ h => h) (Or.inl ⟨by rfl, ?_⟩) (fun _ => by assumption) ?_
              rotate_left
              · (intro w hSw; go_simp)
                all_goals (with_reducible rfl)
              (try simp only [List.getElem_toArray, List.getElem_cons_zero, List.getElem_cons_succ, Act.put, List.setIfInBounds_toArray, List.set_cons_zero, List.set_cons_succ])
              refine wpAnyT_pure (i := 21) (oi := _) (v := ?_) rfl (by kernel_rfl) (by kernel_rfl) (by kernel_rfl) (by kernel_rfl) (fun _ _ _ h => h) (Or.inl ⟨by rfl, ?_⟩) (fun _ => by assumption) ?_
              rotate_left
              · (intro w hSw; go_simp)
                all_goals (with_reducible rfl)
              (try simp only [List.getElem_toArray, List.getElem_cons_zero, List.getElem_cons_succ, Act.put, List.setIfInBounds_toArray, List.set_cons_zero, List.set_cons_succ])
              refine wpAnyT_ready (rs := [23]) (by kernel_rfl) (by simp) ?_
              refine AllReadyT.cons rfl (fun K hK => ?_) AllReadyT.nil
              obtain ⟨b0, b1, bf0, bf1⟩ := box2 hbx
              go_simp
              refine hK.out _ _ (noneB_off (by kernel_rfl)) (fun _ => ?_)
              clear hK K
              (try simp only [List.getElem_toArray, List.getElem_cons_zero, List.getElem_cons_succ, Act.put, List.setIfInBounds_toArray, List.set_cons_zero, List.set_cons_succ])
              refine wpAnyT_ready (rs := [24]) (by kernel_rfl) (by simp) ?_
              refine AllReadyT.cons rfl (fun K hK => ?_) AllReadyT.nil
              go_simp
              refine hK.out _ _ (noneB_off (by kernel_rfl)) (fun _ => ?_)
              clear hK K
              (try simp only [List.getElem_toArray, List.getElem_cons_zero, List.getElem_cons_succ, Act.put, List.setIfInBounds_toArray, List.set_cons_zero, List.set_cons_succ])
              refine wpAnyT_done (by kernel_rfl) ?_ _
              (try clear b0 b1 bf0 bf1)
              first
                | refine gen_two (P := fun w => (_ : Exit → Act → World → Prop) Exit.normal _ w) hbx (fun W10 hx10 hz10 hf10 hB10 => ?_)
                | refine gen_new (P := fun w => (_ : Exit → Act → World → Prop) Exit.normal _ w) (fun W10 hx10 hz10 hf10 hB10 => ?_)
              have hb10 : Below W9.heap.size W9 W10 := hB10 _ _ (by have := hb6.size; have := hb5.size; have := hbd.size; omega) hb6
              have hgy : ∀ W' : World, (∀ b, W9.heap.size ≤ b → b < W10.heap.size → W'.heap[b]? = W10.heap[b]?) → W10.heap.size ≤ W'.heap.size → GT 0 (i + 1) W' (.agg #[.slice bo6 U6.pages.length bcap6, .int .i64 U6.root]) U6 (madeE F.reverse (i + 1)) := fun W' hW hz => by
                have hs5 := hb5.size
                have hsd := hbd.size
                exact hg6.land (W := W') (B' := 0) (Nat.zero_le _) (fun b h1 h2 => (hW b (by (try simp only [World.size_alloc] at h1); omega) (by omega)).trans (hf10 b (by (try simp only [World.size_alloc] at h1); omega))) (by omega)
              have HGY := Lib.hid hgy
              have HB10 := Lib.hid hb10
              have HX10 := Lib.hid hx10
              have HXX := Lib.hid ((hb10.block _ (Array.getElem?_eq_some_iff.1 HX9.out).1).trans HX9.out)
              have hs9 := HB9.out.size
              have hs10 := hb10.size
              have HSZ := Lib.hid (And.intro hb6.size (And.intro hb5.size hbd.size))
              have hxa := (hb10.block Ba (by omega)).trans ((HB9.out.block Ba hBaS).trans HA.out.x)
              have hxb := (hb10.block Bb (by omega)).trans ((HB9.out.block Bb hBbS).trans HBX.out.x)
              clear hx10 hz10 hf10 hB10 hb10 hgy hHeld hb5 hb6 hbd hg6 hbc hz5 hz6 hkr q0 q1 d2
              (try clear hbx)
              obtain ⟨x90, x91, -⟩ := box2 HXX.out
              obtain ⟨z0, z1, zf0, zf1⟩ := box2 hxa
              have HXA10 := Lib.hid hxa
              have HXBH := Lib.hid hxb
              clear hxa hxb
              go_upto_region 23 with (fail)
              refine gen_two (P := fun w => Code.wp _ _ _ _ w) HXA10.out (fun W11 hx11 hz11 hf11 hB11 => ?_)
              have hxy11 := (hf11 _ (by have := HSZ.out; omega)).trans HX10.out
              have hxb11 := (hf11 Bb hab.symm).trans HXBH.out
              obtain ⟨x100, x101, -⟩ := box2 hxy11
              obtain ⟨y0, y1, yf0, yf1⟩ := box2 hxb11
              have hBL11 := hB11 Ba wS (Nat.le_refl _) ((HBL.out.trans (HB9.out.mono (by omega))).trans (HB10.out.mono (by omega)))
              have HW11 := Lib.hid (And.intro hx11 (And.intro hz11 (And.intro hf11 hBL11)))
              clear hx11 hz11 hf11 hB11 hxy11 hxb11 hBL11 z0 z1 zf0 zf1 x90 x91
              go_wp2_with fail
              go_roundw
              case rel =>
                obtain ⟨hx11, hz11, hf11, hBL11⟩ := HW11.out
                exact ⟨i + 1, ao6, cap6, T6, bo6, bcap6, U6, by omega, by go_num,
                  ⟨HGX.out _ (fun b h1 h2 => (two_far (show b ≠ Bb by omega)).trans ((hf11 b (by omega)).trans (HB10.out.block b h2))) (by simp only [World.size_setCell]; omega), (two_far hab).trans hx11⟩,
                  ⟨HGY.out _ (fun b h1 h2 => (two_far (show b ≠ Bb by omega)).trans (hf11 b (by omega))) (by simp only [World.size_setCell]; omega), two_heap ((hf11 Bb hab.symm).trans HXBH.out)⟩,
                  (hBL11.setCell (p := ⟨Bb, 0, none⟩) (by show Ba ≤ Bb; omega) _).setCell (p := ⟨Bb, 1, none⟩) (by show Ba ≤ Bb; omega) _⟩
              case measure => (simp [intOf]) <;> omega
        · obtain rfl : i = m := by omega
          have HXAE := Lib.hid (HA.out)
          have HBW := Lib.hid (show Below W.heap.size W wr from HBF.out.trans ((HBS.out.mono HBF.out.size).trans (HBL.out.mono (by have := HBF.out.size; omega))))
          have hme := made_all F
          have hmt := made_turn HNF.out.1
          rw [← HNF.out.2] at hme hmt
          rw [← hmt] at HBX
          have HME := Lib.hid hme
          clear hme hmt jf0 jf1 kf0 kf1
          go_wp2_with fail
          refine (scan_all_v HA.out.g).mono ?_
          rintro e w6 ⟨ga, gn, gc, rfl, hv6, hb6⟩
          have HB6 := Lib.hid (into HBW.out hb6)
          have HXB6 := Lib.hid (HBX.out.below hb6)
          have HG6 := Lib.hid hv6
          clear hb6 hv6 k0 k1 j0 j1
          obtain ⟨j0, j1, -⟩ := box2 HXB6.out.x
          go_wp2_with fail
          refine (scan_all_v HXB6.out.g).mono ?_
          rintro e w7 ⟨la, ln, lc, rfl, hv7, hb7⟩
          have HB7 := Lib.hid (into HB6.out hb7)
          have HG7 := Lib.hid (HG6.out.below hb7)
          have HL7 := Lib.hid hv7
          have hgn : gn = i := by obtain ⟨_, h, -, -⟩ := HG6.out; rw [h, HME.out]
          have hln : ln = i := by obtain ⟨_, h, -, -⟩ := hv7; rw [h, HME.out]
          subst hgn
          subst hln
          clear hb7 hv7 j0 j1
          go_wp2_with fail
          obtain ⟨wo, hwo⟩ : ∃ wo : World, wo = w7 := ⟨_, rfl⟩
          rw [← hwo] at HB7 HG7 HL7 ⊢
          clear hwo
          have hln6 : ln ≤ 1000000 := by omega
          go_loopw [19] (fun i wq => ∃ x : Nat, x ≤ ln ∧ i = .int .i64 (x : Int) ∧ Hid (Below wo.heap.size wo wq)) (fun i _ => ln - (intOf i).toNat)
          case atStart => exact ⟨0, by omega, rfl, Below.refl _ _⟩
          case round =>
            obtain ⟨x, hx, rfl, HQ⟩ := hrel
            by_cases hlt2 : (x : Int) < (ln : Int)
            · obtain ⟨b1, o1, c1, e9, -, -, p3⟩ := HG7.out.pos (by omega)
              simp only [Value.slice.injEq] at e9
              obtain ⟨rfl, -, rfl⟩ := e9
              obtain ⟨b2, o2, c2, e8, -, -, p4⟩ := HL7.out.pos (by omega)
              simp only [Value.slice.injEq] at e8
              obtain ⟨rfl, -, rfl⟩ := e8
              have hxl : x < (madeE F ln).length := by have := HME.out; omega
              obtain ⟨en, hen⟩ : ∃ en, en = (madeE F ln)[x] := ⟨_, rfl⟩
              have hat : (madeE F ln)[x]? = some en := by rw [hen]; exact List.getElem?_eq_getElem hxl
              obtain ⟨ya, yc, y1, y2, y3⟩ := p3 x en hat
              obtain ⟨ua, uc, u1, u2, u3⟩ := p4 x en hat
              have g1 := cell_of_below HQ.out y1
              have g2 := cell_of_below HQ.out y2
              have g3 := cell_of_below HQ.out u1
              have g4 := cell_of_below HQ.out u2
              have t1 := str_drew (y3.below HQ.out)
              have t2 := str_drew (u3.below HQ.out)
              obtain ⟨ek, er⟩ := en
              simp only at g1 g2 g3 g4 t1 t2
              obtain ⟨yn, hyn⟩ : ∃ yn, yn = ek.length := ⟨_, rfl⟩
              rw [← hyn] at g1 g3 t1 t2
              clear y1 y2 y3 u1 u2 u3 p3 p4 hen hat hyn hxl
              go_wp2_with fail
              go_quiet (fail)
              have HQ6 := Lib.hid (HQ.out.trans ((below_drewN wr nq).mono HQ.out.size))
              clear g1 g2 g3 g4 t1 t2
              go_wp2_with fail
              go_roundw
              case rel => exact ⟨x + 1, by omega, by go_num, HQ6.out⟩
              case measure => simp [intOf]; omega
            · go_wp2_with fail
              go_ret
              exact ⟨rfl, HB7.out.trans (HQ.out.mono HB7.out.size)⟩
end Go.Proofs.Ytacpeibkamfibaa
