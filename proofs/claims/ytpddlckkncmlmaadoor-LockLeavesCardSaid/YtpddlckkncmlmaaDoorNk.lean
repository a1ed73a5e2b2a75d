/- What locks lack: the document. -/
import Derived.Test.YtpddlckkncmlmaaDoorNl
import Derived.Test.YtpddlckkncmlmaaDoorJc
import Derived.Shelf.SlSortCmp.QuietGrown
namespace Go.Proofs.YtpddlckkncmlmaaDoor
open Go.ChangeShapes Go.WideShapes Go.ChangeAt Go.RowKit
set_option linter.unusedVariables false
set_option linter.unusedSimpArgs false
set_option maxHeartbeats 40000000
set_option maxRecDepth 100000
theorem belowd (w : World) (n : Nat) : Below w.heap.size w (w.drewN n) := ⟨rfl, rfl, rfl, Nat.le_refl _, fun k _ => rfl⟩
theorem len_emp {l : List Int} : (l.length = 0) ↔ l.isEmpty = true := by cases l <;> simp
theorem below_grow (w : World) (n : Nat) (os : Array Obj) : Below w.heap.size w (Go.Sort.grow (w.drewN n) os) :=
  ⟨rfl, rfl, rfl, by simp [Go.Sort.grow], fun k hk => by simp [Go.Sort.grow, Array.getElem?_append_left hk]⟩
theorem lockFault_x (w : World) (x : Lk) : Calls Tryd.prog 24 #[lkv x] w fun e w' => e = .returned (.int .i64 (frm x)) ∧ w' = w.alloc (.cells #[.int .i64 x.t, .string x.th, .int .i64 x.m] 26) := by
  obtain ⟨t, th, m⟩ := x
  obtain ⟨q, hq⟩ : ∃ q, q = (decide (1 ≤ t) && decide (t ≤ 1048576)) := ⟨_, rfl⟩
  obtain ⟨r, hr⟩ : ∃ r, r = (decide (1 ≤ m) && decide (m ≤ 5)) := ⟨_, rfl⟩
  have H1 := Lib.hid (fun w => inq_is w t 1 1048576 q hq.symm)
  have H2 := Lib.hid (fun w => inq_is w m 1 5 r hr.symm)
  have hF : frm ⟨t, th, m⟩ = if q = false then 3 else if 120 < th.size then 1 else if r = false then 2 else 0 := by
    unfold frm
    have e1 : (t < 1 ∨ 1048576 < t) ↔ q = false := by rw [hq]; simp; omega
    have e2 : (m < 1 ∨ 5 < m) ↔ r = false := by rw [hr]; simp; omega
    simp only [e1, e2]
  have HF := Lib.hid hF
  clear hF hq hr
  cases q <;> cases r
  all_goals (
    by_cases hs : 120 < th.size
    all_goals (
      go_enter Tryd.func24, Tryd.ntmps24
      go_wp2_with (first | (go_at_call 35; ((with_reducible refine (H1.out _).mono ?_); rintro e w' ⟨rfl, rfl⟩)) | (go_at_call 35; ((with_reducible refine (H2.out _).mono ?_); rintro e w' ⟨rfl, rfl⟩)))
      go_ret
      refine ⟨ri ?_, rfl⟩
      rw [HF.out]
      simp
      try omega))
theorem fault_any (w : World) (nh n : Nat) (hv qv : Value) (held l : List Lk) (hrh : Rd w 3 nh hv (lkc held)) (hr : Rd w 3 n qv (lkc l)) (h1 : nh ≤ 1000000000000000) (h2 : n ≤ 1000000000000000) :
    Calls Tryd.prog 23 #[.agg #[hv, qv]] w fun e w' => e = .returned (.int .i64 (lksD held l)) ∧ Below w.heap.size w w' := by
  have hmh := len_l hrh
  have hml := len_l hr
  obtain ⟨_, ah, ch, rfl, _⟩ := id hrh
  obtain ⟨_, aq, cq, rfl, _⟩ := id hr
  have hF : lksD held l = if 200 < nh + n then 11 else if (List.range nh).any (heldD held) = true then 11 else if (List.range n).any (queD held l) = true then 11 else 0 := by unfold lksD; rw [hmh, hml]
  have hw : wrap64 ((nh : Int) + (n : Int)) = (nh : Int) + (n : Int) := by unfold wrap64; omega
  have HF := Lib.hid hF
  have HMH := Lib.hid hmh
  have HML := Lib.hid hml
  have HRH := Lib.hid hrh
  have HR := Lib.hid hr
  clear hF hmh hml hrh hr
  by_cases hbig : 200 < nh + n
  · have hI : (200 : Int) < (nh : Int) + (n : Int) := by omega
    go_enter Tryd.func23, Tryd.ntmps23
    go_wp2_with fail
    go_ret
    exact ⟨ri (by rw [HF.out, if_pos hbig]), (Below.refl _ _).alloc (Nat.le_refl _) _⟩
  · have hI : ¬ (200 : Int) < (nh : Int) + (n : Int) := by omega
    have hF2 : lksD held l = if (List.range nh).any (heldD held) = true then 11 else if (List.range n).any (queD held l) = true then 11 else 0 := by rw [HF.out, if_neg hbig]
    have HF2 := Lib.hid hF2
    clear hF2 HF
    go_enter Tryd.func23, Tryd.ntmps23
    go_wp2_with fail
    obtain ⟨Wb, hWb⟩ : ∃ Wb : World, Wb = w.alloc (.cells #[.slice ah nh ch, .slice aq n cq] 24) := ⟨_, rfl⟩
    have hbb : Below w.heap.size w Wb := by rw [hWb]; exact (Below.refl _ _).alloc (Nat.le_refl _) _
    have s0 : Wb.cell? ⟨w.heap.size, 0, none⟩ = some (.slice ah nh ch) := by rw [hWb]; go_simp
    have s1 : Wb.cell? ⟨w.heap.size, 1, none⟩ = some (.slice aq n cq) := by rw [hWb]; go_simp
    rw [← hWb]
    have HS := Lib.hid (And.intro s0 s1)
    have HBB := Lib.hid hbb
    have hzb : Wb.heap.size = w.heap.size + 1 := by rw [hWb]; simp
    clear hWb hbb s0 s1
    go_loopw [3] (fun i wr => ∃ k : Nat, k ≤ nh ∧ i = .int .i64 (k : Int) ∧ Hid (∀ j, j < k → heldD held j = false) ∧ Hid (Below Wb.heap.size Wb wr)) (fun i _ => nh - (intOf i).toNat)
    case atStart => exact ⟨0, by omega, rfl, (fun j hj => absurd hj (by omega)), Below.refl _ _⟩
    case round =>
      obtain ⟨k, hk, rfl, HA, HB⟩ := hrel
      have hB := into HBB.out HB.out
      have y0 := cell_of_below HB.out HS.out.1
      have y1 := cell_of_below HB.out HS.out.2
      by_cases hlt : k < nh
      · obtain ⟨b, o, cap, hsh, hcap, hcm, hbw, hcell⟩ := lks_of HRH.out (by omega)
        simp only [Value.slice.injEq] at hsh
        obtain ⟨rfl, -, rfl⟩ := hsh
        unfold maxLen at hcm
        obtain ⟨g0, g1, g2⟩ := hcell k hlt
        have c0 := (hB.cell (p := ⟨b, o + k * 3, none⟩) hbw).trans g0
        have c1 := (hB.cell (p := ⟨b, o + k * 3 + 1, none⟩) hbw).trans g1
        have c2 := (hB.cell (p := ⟨b, o + k * 3 + 2, none⟩) hbw).trans g2
        have hFk : heldD held k = ((bad (held.getD k nlk) || decide (0 < hmd (held.take k) (held.getD k nlk))) || !(txs (agD (held.getD k nlk)) held).isEmpty) := rfl
        obtain ⟨u, hu⟩ : ∃ u, u = held.getD k nlk := ⟨_, rfl⟩
        rw [← hu] at c0 c1 c2 hFk
        have hrt := HRH.out.take k (by omega)
        rw [lkc_take] at hrt
        have hb0 : Below Wb.heap.size Wb (wr.alloc (.cells #[.int .i64 u.t, .string u.th, .int .i64 u.m] 26)) := HB.out.alloc HB.out.size _
        obtain ⟨p0, p1, p2⟩ := BxL.new wr u
        obtain ⟨W0, hW0⟩ : ∃ W0 : World, W0 = wr.alloc (.cells #[.int .i64 u.t, .string u.th, .int .i64 u.m] 26) := ⟨_, rfl⟩
        rw [← hW0] at hb0 p0 p1 p2
        have q0 := cell_of_below hb0 HS.out.1
        have q1 := cell_of_below hb0 HS.out.2
        have hb0w : Below w.heap.size w W0 := into HBB.out hb0
        have hbd : Below W0.heap.size W0 W0.drew := (Below.refl _ _).drew
        have HLF : Hid (Calls Tryd.prog 24 #[lkv u] W0.drew fun e w' => e = .returned (.int .i64 (frm u)) ∧ Below W0.heap.size W0 w') := (lockFault_any W0.drew u).mono fun e w' h => ⟨h.1, into hbd h.2⟩
        have HMO : Hid (∀ W, Below W0.heap.size W0 W → Calls Tryd.prog 25 #[.slice (some ⟨b, o, none⟩) k ch, .int .i64 u.t, .string u.th] W fun e w' => e = .returned (.int .i64 (hmd (held.take k) u)) ∧ W = w') := fun W hW => modeOf_any W k _ (held.take k) u (hrt.below (into hb0w hW))
        have HAG : Hid (∀ W, Below W0.heap.size W0 W → Calls Tryd.prog 47 #[.slice (some ⟨b, o, none⟩) nh ch, lkv u] W fun e w' => ∃ (av : Option Addr) (nv cv : Nat), e = .returned (.slice av nv cv) ∧ nv = (txs (agD u) held).length ∧ Below W0.heap.size W0 w') := by
          intro W hW
          refine (against_any W nh _ held u (by omega) (HRH.out.below (into hb0w hW))).mono ?_
          rintro e w' ⟨v', rfl, hown, hb'⟩
          obtain ⟨_, av, cv, rfl, _⟩ := Rd.own hown
          exact ⟨av, _, cv, rfl, rfl, into hW hb'⟩
        have hen : (txs (agD u) held).length = 0 ↔ (txs (agD u) held).isEmpty = true := len_emp
        obtain ⟨N, hN⟩ : ∃ N, N = (txs (agD u) held).length := ⟨_, rfl⟩
        obtain ⟨em, hem⟩ : ∃ em, em = (txs (agD u) held).isEmpty := ⟨_, rfl⟩
        obtain ⟨m, hm⟩ : ∃ m, m = hmd (held.take k) u := ⟨_, rfl⟩
        have hbd' : bad u = (frm u != 0) := rfl
        obtain ⟨fr, hfr⟩ : ∃ fr, fr = frm u := ⟨_, rfl⟩
        rw [← hN, ← hem] at hen
        rw [← hN] at HAG
        rw [← hm] at HMO
        rw [← hfr] at HLF hbd'
        rw [← hem, ← hm, hbd'] at hFk
        have HFR := Lib.hid hfr
        obtain ⟨ut, uth, um⟩ := u
        simp only at c0 c1 c2 p0 p1 p2 HMO
        have HFK := Lib.hid hFk
        have HB0 := Lib.hid (And.intro hb0w hb0)
        have HW0 := Lib.hid hW0
        have HEN := Lib.hid hen
        have hkc : (k : Int) ≤ (ch : Int) := by omega
        clear g0 g1 g2 hcell hu hFk hrt hb0 hb0w hbd hen hN hem hm hbd' hfr hW0 hB
        have HLG : Hid (∀ (n : Nat) (os : Array Obj), Calls Tryd.prog 24 #[.agg #[.int .i64 ut, .string uth, .int .i64 um]] (Go.Sort.grow (W0.drewN n) os) fun e w'' => e = .returned (.int .i64 fr) ∧ ∃ p : GrownBy, w'' = Go.Sort.grow (W0.drewN p.n) p.os) := fun n os =>
          (lockFault_x (Go.Sort.grow (W0.drewN n) os) ⟨ut, uth, um⟩).mono fun e w' h => ⟨by rw [HFR.out]; exact h.1, ⟨n, os ++ #[.cells #[.int .i64 ut, .string uth, .int .i64 um] 26]⟩, by rw [h.2, Go.Sort.alloc_eq_grow, Go.Sort.grow_grow]⟩
        have HMG : Hid (∀ (n : Nat) (os : Array Obj), Calls Tryd.prog 25 #[.slice (some ⟨b, o, none⟩) k ch, .int .i64 ut, .string uth] (Go.Sort.grow (W0.drewN n) os) fun e w'' => e = .returned (.int .i64 m) ∧ ∃ p : GrownBy, w'' = Go.Sort.grow (W0.drewN p.n) p.os) := fun n os =>
          (HMO.out _ (below_grow W0 n os)).mono fun e w' h => ⟨h.1, ⟨n, os⟩, h.2.symm⟩
        by_cases hsk : fr ≠ 0 ∨ 0 < m
        · have hYES : heldD held k = true := by rw [HFK.out]; rcases hsk with h | h <;> simp [h]
          have HY := Lib.hid hYES
          have r0 := cell_grown (lt_cell q0) q0
          have p0' := cell_grown (lt_cell p0) p0
          have p1' := cell_grown (lt_cell p1) p1
          have p2' := cell_grown (lt_cell p2) p2
          have hm : Tryd.prog.follows .mixedOrders = true := by kernel_rfl
          clear hYES HFK p0 p1 p2 q0 q1
          by_cases hf0 : fr = 0
          · subst hf0
            have hm0 : 0 < m := by omega
            clear hsk
            go_wp2_with fail
            rw [← HW0.out]
            go_quiet_grown (first | (go_at_call 24; exact HLG.out _ _) | (go_at_call 25; exact HMG.out _ _))
            have HB2 := Lib.hid (into HB0.out.1 (below_grow W0 nq osq))
            clear r0 p0' p1' p2'
            go_wp2_with fail
            go_ret
            exact ⟨ri (by rw [HF2.out, if_pos (any_hit hlt HY.out)]), HB2.out⟩
          · have hf1 : (fr == 0) = false := by simpa using hf0
            clear hsk
            go_wp2_with fail
            rw [← HW0.out]
            go_quiet_grown (first | (go_at_call 24; exact HLG.out _ _) | (go_at_call 25; exact HMG.out _ _))
            have HB2 := Lib.hid (into HB0.out.1 (below_grow W0 nq osq))
            clear r0 p0' p1' p2'
            go_wp2_with fail
            go_ret
            exact ⟨ri (by rw [HF2.out, if_pos (any_hit hlt HY.out)]), HB2.out⟩
        · obtain ⟨hf0, hm0⟩ : fr = 0 ∧ ¬ 0 < m := by omega
          subst hf0
          clear hsk HLG HMG HFR
          have hNO : heldD held k = !em := by rw [HFK.out]; simp [hm0]
          have HNO := Lib.hid hNO
          clear hNO HFK
          go_wp2_with fail
          rw [← HW0.out]
          have hmd0 : decide (0 < m) = false := by simpa using hm0
          refine wp_region_held_drew (S := (fun wx => wx.cell? ⟨w.heap.size, 0, none⟩ = some (.slice (some ⟨b, o, none⟩) nh ch) ∧ wx.cell? ⟨wr.heap.size, 0, none⟩ = some (.int .i64 ut) ∧ wx.cell? ⟨wr.heap.size, 1, none⟩ = some (.string uth) ∧ wx.cell? ⟨wr.heap.size, 2, none⟩ = some (.int .i64 um))) (by kernel_rfl) ?_ (fun hHeld => ?_)
          · (try dsimp only)
            (first | (with_reducible exact ⟨cell_dr q0, cell_dr p0, cell_dr p1, cell_dr p2⟩) | (with_reducible exact ⟨cell_of_below hb4 q0, cell_of_below hb4 p0, cell_of_below hb4 p1, cell_of_below hb4 p2⟩) | (with_reducible exact ⟨cell_of_below hb2 q0, cell_of_below hb2 p0, cell_of_below hb2 p1, cell_of_below hb2 p2⟩))
          refine wpAnyH_take (i := 0) (oi := _) (v := ?_) rfl (by kernel_rfl) (by kernel_rfl) (by kernel_rfl) (fun _ _ _ h => h) (Or.inl ⟨by rfl, ?_⟩) (by assumption) ?_
          rotate_left
          · (intro w hSw; (try dsimp only at hSw); go_simp)
            all_goals (with_reducible rfl)
          (try simp only [List.getElem_toArray, List.getElem_cons_zero, List.getElem_cons_succ, Act.put, List.setIfInBounds_toArray, List.set_cons_zero, List.set_cons_succ])
          refine wpAnyH_ready (rs := [1]) (by kernel_rfl) (by simp) ?_
          refine AllReadyH.cons rfl (fun K hK => ?_) AllReadyH.nil
          go_simp
          (go_at_call 24; ((with_reducible refine HLF.out.mono ?_); rintro e w2 ⟨rfl, hb2⟩))
          go_wp2_with fail
          refine hK.out _ _ ?_ (fun hHeld => ?_)
          · (try dsimp only)
            (first | (with_reducible exact ⟨cell_dr q0, cell_dr p0, cell_dr p1, cell_dr p2⟩) | (with_reducible exact ⟨cell_of_below hb4 q0, cell_of_below hb4 p0, cell_of_below hb4 p1, cell_of_below hb4 p2⟩) | (with_reducible exact ⟨cell_of_below hb2 q0, cell_of_below hb2 p0, cell_of_below hb2 p1, cell_of_below hb2 p2⟩))
          clear hK K
          (try simp only [List.getElem_toArray, List.getElem_cons_zero, List.getElem_cons_succ, Act.put, List.setIfInBounds_toArray, List.set_cons_zero, List.set_cons_succ])
          refine wpAnyH_take (i := 2) (oi := _) (v := ?_) rfl (by kernel_rfl) (by kernel_rfl) (by kernel_rfl) (fun _ _ _ h => h) (Or.inl ⟨by rfl, ?_⟩) (by assumption) ?_
          rotate_left
          · (intro w hSw; (try dsimp only at hSw); go_simp)
            all_goals (with_reducible rfl)
          (try simp only [List.getElem_toArray, List.getElem_cons_zero, List.getElem_cons_succ, Act.put, List.setIfInBounds_toArray, List.set_cons_zero, List.set_cons_succ])
          refine wpAnyH_take (i := 3) (oi := _) (v := ?_) rfl (by kernel_rfl) (by kernel_rfl) (by kernel_rfl) (fun _ _ _ h => h) (Or.inl ⟨by rfl, ?_⟩) (by assumption) ?_
          rotate_left
          · (intro w hSw; (try dsimp only at hSw); go_simp)
            all_goals (with_reducible rfl)
          (try simp only [List.getElem_toArray, List.getElem_cons_zero, List.getElem_cons_succ, Act.put, List.setIfInBounds_toArray, List.set_cons_zero, List.set_cons_succ])
          refine wpAnyH_take (i := 4) (oi := _) (v := ?_) rfl (by kernel_rfl) (by kernel_rfl) (by kernel_rfl) (fun _ _ _ h => h) (Or.inl ⟨by rfl, ?_⟩) (by assumption) ?_
          rotate_left
          · (intro w hSw; (try dsimp only at hSw); go_simp)
            all_goals (with_reducible rfl)
          (try simp only [List.getElem_toArray, List.getElem_cons_zero, List.getElem_cons_succ, Act.put, List.setIfInBounds_toArray, List.set_cons_zero, List.set_cons_succ])
          refine wpAnyH_take (i := 5) (oi := _) (v := ?_) rfl (by kernel_rfl) (by kernel_rfl) (by kernel_rfl) (fun _ _ _ h => h) (Or.inl ⟨by rfl, ?_⟩) (by assumption) ?_
          rotate_left
          · (intro w hSw; (try dsimp only at hSw); go_simp)
            all_goals (with_reducible rfl)
          (try simp only [List.getElem_toArray, List.getElem_cons_zero, List.getElem_cons_succ, Act.put, List.setIfInBounds_toArray, List.set_cons_zero, List.set_cons_succ])
          refine wpAnyH_take (i := 6) (oi := _) (v := ?_) rfl (by kernel_rfl) (by kernel_rfl) (by kernel_rfl) (fun _ _ _ h => h) (Or.inl ⟨by rfl, ?_⟩) (by assumption) ?_
          rotate_left
          · (intro w hSw; (try dsimp only at hSw); go_simp)
            all_goals (with_reducible rfl)
          (try simp only [List.getElem_toArray, List.getElem_cons_zero, List.getElem_cons_succ, Act.put, List.setIfInBounds_toArray, List.set_cons_zero, List.set_cons_succ])
          refine wpAnyH_take (i := 7) (oi := _) (v := ?_) rfl (by kernel_rfl) (by kernel_rfl) (by kernel_rfl) (fun _ _ _ h => h) (Or.inl ⟨by rfl, ?_⟩) (by assumption) ?_
          rotate_left
          · (intro w hSw; (try dsimp only at hSw); go_simp)
            all_goals (with_reducible rfl)
          (try simp only [List.getElem_toArray, List.getElem_cons_zero, List.getElem_cons_succ, Act.put, List.setIfInBounds_toArray, List.set_cons_zero, List.set_cons_succ])
          refine wpAnyH_take (i := 8) (oi := _) (v := ?_) rfl (by kernel_rfl) (by kernel_rfl) (by kernel_rfl) (fun _ _ _ h => h) (Or.inl ⟨by rfl, ?_⟩) (by assumption) ?_
          rotate_left
          · (intro w hSw; (try dsimp only at hSw); go_simp)
            all_goals (with_reducible rfl)
          (try simp only [List.getElem_toArray, List.getElem_cons_zero, List.getElem_cons_succ, Act.put, List.setIfInBounds_toArray, List.set_cons_zero, List.set_cons_succ])
          refine wpAnyH_take (i := 9) (oi := _) (v := ?_) rfl (by kernel_rfl) (by kernel_rfl) (by kernel_rfl) (fun _ _ _ h => h) (Or.inl ⟨by rfl, ?_⟩) (by assumption) ?_
          rotate_left
          · (intro w hSw; (try dsimp only at hSw); go_simp)
            all_goals (with_reducible rfl)
          (try simp only [List.getElem_toArray, List.getElem_cons_zero, List.getElem_cons_succ, Act.put, List.setIfInBounds_toArray, List.set_cons_zero, List.set_cons_succ])
          refine wpAnyH_take (i := 10) (oi := _) (v := ?_) rfl (by kernel_rfl) (by kernel_rfl) (by kernel_rfl) (fun _ _ _ h => h) (Or.inl ⟨by rfl, ?_⟩) (by assumption) ?_
          rotate_left
          · (intro w hSw; (try dsimp only at hSw); go_simp)
            all_goals (with_reducible rfl)
          (try simp only [List.getElem_toArray, List.getElem_cons_zero, List.getElem_cons_succ, Act.put, List.setIfInBounds_toArray, List.set_cons_zero, List.set_cons_succ])
          refine wpAnyH_take (i := 11) (oi := _) (v := ?_) rfl (by kernel_rfl) (by kernel_rfl) (by kernel_rfl) (fun _ _ _ h => h) (Or.inl ⟨by rfl, ?_⟩) (by assumption) ?_
          rotate_left
          · (intro w hSw; (try dsimp only at hSw); go_simp)
            all_goals (with_reducible rfl)
          (try simp only [List.getElem_toArray, List.getElem_cons_zero, List.getElem_cons_succ, Act.put, List.setIfInBounds_toArray, List.set_cons_zero, List.set_cons_succ])
          refine wpAnyH_ready (rs := [12]) (by kernel_rfl) (by simp) ?_
          refine AllReadyH.cons rfl (fun K hK => ?_) AllReadyH.nil
          go_simp
          (go_at_call 25; ((with_reducible refine (HMO.out _ hb2).mono ?_); rintro e w3 ⟨rfl, rfl⟩))
          go_wp2_with fail
          refine hK.out _ _ ?_ (fun hHeld => ?_)
          · (try dsimp only)
            (first | (with_reducible exact ⟨cell_dr q0, cell_dr p0, cell_dr p1, cell_dr p2⟩) | (with_reducible exact ⟨cell_of_below hb4 q0, cell_of_below hb4 p0, cell_of_below hb4 p1, cell_of_below hb4 p2⟩) | (with_reducible exact ⟨cell_of_below hb2 q0, cell_of_below hb2 p0, cell_of_below hb2 p1, cell_of_below hb2 p2⟩))
          clear hK K
          (try simp only [List.getElem_toArray, List.getElem_cons_zero, List.getElem_cons_succ, Act.put, List.setIfInBounds_toArray, List.set_cons_zero, List.set_cons_succ])
          refine wpAnyH_take (i := 13) (oi := _) (v := ?_) rfl (by kernel_rfl) (by kernel_rfl) (by kernel_rfl) (fun _ _ _ h => h) (Or.inl ⟨by rfl, ?_⟩) (by assumption) ?_
          rotate_left
          · (intro w hSw; (try dsimp only at hSw); go_simp)
            all_goals (with_reducible rfl)
          (try simp only [List.getElem_toArray, List.getElem_cons_zero, List.getElem_cons_succ, Act.put, List.setIfInBounds_toArray, List.set_cons_zero, List.set_cons_succ])
          refine wpAnyH_take (i := 14) (oi := _) (v := ?_) rfl (by kernel_rfl) (by kernel_rfl) (by kernel_rfl) (fun _ _ _ h => h) (Or.inl ⟨by rfl, ?_⟩) (by assumption) ?_
          rotate_left
          · (intro w hSw; (try dsimp only at hSw); go_simp)
            all_goals (with_reducible rfl)
          (try simp only [List.getElem_toArray, List.getElem_cons_zero, List.getElem_cons_succ, Act.put, List.setIfInBounds_toArray, List.set_cons_zero, List.set_cons_succ])
          refine wpAnyH_take (i := 15) (oi := _) (v := ?_) rfl (by kernel_rfl) (by kernel_rfl) (by kernel_rfl) (fun _ _ _ h => h) (Or.inl ⟨by rfl, ?_⟩) (by assumption) ?_
          rotate_left
          · (intro w hSw; (try dsimp only at hSw); go_simp)
            all_goals (with_reducible rfl)
          (try simp only [List.getElem_toArray, List.getElem_cons_zero, List.getElem_cons_succ, Act.put, List.setIfInBounds_toArray, List.set_cons_zero, List.set_cons_succ])
          refine wpAnyH_take (i := 16) (oi := _) (v := ?_) rfl (by kernel_rfl) (by kernel_rfl) (by kernel_rfl) (fun _ _ _ h => h) (Or.inl ⟨by rfl, ?_⟩) (by assumption) ?_
          rotate_left
          · (intro w hSw; (try dsimp only at hSw); go_simp)
            all_goals (with_reducible rfl)
          (try simp only [List.getElem_toArray, List.getElem_cons_zero, List.getElem_cons_succ, Act.put, List.setIfInBounds_toArray, List.set_cons_zero, List.set_cons_succ])
          refine wpAnyH_take (i := 17) (oi := _) (v := ?_) rfl (by kernel_rfl) (by kernel_rfl) (by kernel_rfl) (fun _ _ _ h => h) (Or.inl ⟨by rfl, ?_⟩) (by assumption) ?_
          rotate_left
          · (intro w hSw; (try dsimp only at hSw); go_simp)
            all_goals (with_reducible rfl)
          (try simp only [List.getElem_toArray, List.getElem_cons_zero, List.getElem_cons_succ, Act.put, List.setIfInBounds_toArray, List.set_cons_zero, List.set_cons_succ])
          refine wpAnyH_take (i := 18) (oi := _) (v := ?_) rfl (by kernel_rfl) (by kernel_rfl) (by kernel_rfl) (fun _ _ _ h => h) (Or.inl ⟨by rfl, ?_⟩) (by assumption) ?_
          rotate_left
          · (intro w hSw; (try dsimp only at hSw); go_simp)
            all_goals (with_reducible rfl)
          (try simp only [List.getElem_toArray, List.getElem_cons_zero, List.getElem_cons_succ, Act.put, List.setIfInBounds_toArray, List.set_cons_zero, List.set_cons_succ])
          refine wpAnyH_ready (rs := [19]) (by kernel_rfl) (by simp) ?_
          refine AllReadyH.cons rfl (fun K hK => ?_) AllReadyH.nil
          go_simp
          (go_at_call 47; ((with_reducible refine (HAG.out _ hb2).mono ?_); rintro e w4 ⟨av, nv, cv, rfl, rfl, hb4⟩))
          go_wp2_with fail
          refine hK.out _ _ ?_ (fun hHeld => ?_)
          · (try dsimp only)
            (first | (with_reducible exact ⟨cell_dr q0, cell_dr p0, cell_dr p1, cell_dr p2⟩) | (with_reducible exact ⟨cell_of_below hb4 q0, cell_of_below hb4 p0, cell_of_below hb4 p1, cell_of_below hb4 p2⟩) | (with_reducible exact ⟨cell_of_below hb2 q0, cell_of_below hb2 p0, cell_of_below hb2 p1, cell_of_below hb2 p2⟩))
          clear hK K
          (try simp only [List.getElem_toArray, List.getElem_cons_zero, List.getElem_cons_succ, Act.put, List.setIfInBounds_toArray, List.set_cons_zero, List.set_cons_succ])
          refine wpAnyH_take (i := 20) (oi := _) (v := ?_) rfl (by kernel_rfl) (by kernel_rfl) (by kernel_rfl) (fun _ _ _ h => h) (Or.inl ⟨by rfl, ?_⟩) (by assumption) ?_
          rotate_left
          · (intro w hSw; (try dsimp only at hSw); go_simp)
            all_goals (with_reducible rfl)
          (try simp only [List.getElem_toArray, List.getElem_cons_zero, List.getElem_cons_succ, Act.put, List.setIfInBounds_toArray, List.set_cons_zero, List.set_cons_succ])
          refine wpAnyH_take (i := 21) (oi := _) (v := ?_) rfl (by kernel_rfl) (by kernel_rfl) (by kernel_rfl) (fun _ _ _ h => h) (Or.inl ⟨by rfl, ?_⟩) (by assumption) ?_
          rotate_left
          · (intro w hSw; (try dsimp only at hSw); go_simp)
            all_goals (with_reducible rfl)
          (try simp only [List.getElem_toArray, List.getElem_cons_zero, List.getElem_cons_succ, Act.put, List.setIfInBounds_toArray, List.set_cons_zero, List.set_cons_succ])
          refine wpAnyH_take (i := 22) (oi := _) (v := ?_) rfl (by kernel_rfl) (by kernel_rfl) (by kernel_rfl) (fun _ _ _ h => h) (Or.inl ⟨by rfl, ?_⟩) (by assumption) ?_
          rotate_left
          · (intro w hSw; (try dsimp only at hSw); go_simp)
            all_goals (with_reducible rfl)
          (try simp only [List.getElem_toArray, List.getElem_cons_zero, List.getElem_cons_succ, Act.put, List.setIfInBounds_toArray, List.set_cons_zero, List.set_cons_succ])
          refine wpAnyH_done (by kernel_rfl) ?_ _
          all_goals (
            have HB4 := Lib.hid (into HB0.out.1 hb4)
            have HB4b := Lib.hid (into HB0.out.2 hb4)
            clear hb2 hb4
            by_cases hN0 : nv = 0
            · have hem : em = true := HEN.out.1 hN0
              have HEM := Lib.hid hem
              clear hem HEN
              subst hN0
              go_wp2_with fail
              go_roundw
              case rel =>
                refine ⟨k + 1, by omega, by go_num, fun j hj => ?_, HB4b.out⟩
                rcases Nat.lt_or_ge j k with h | h
                · exact HA.out j h
                · obtain rfl : j = k := by omega
                  rw [HNO.out, HEM.out]
                  rfl
              case measure => simp [intOf]; omega
            · have hpos : (0 : Int) < (nv : Int) := by omega
              have hem : em = false := by
                cases em
                · rfl
                · exact absurd (HEN.out.2 rfl) hN0
              have HEM := Lib.hid hem
              clear hem HEN
              go_wp2_with fail
              go_ret
              exact ⟨ri (by rw [HF2.out, if_pos (any_hit hlt (by rw [HNO.out, HEM.out]; rfl))]), HB4.out⟩)
      · obtain rfl : k = nh := by omega
        have hALL : (List.range k).any (heldD held) = false := any_none HA.out
        have hF3 : lksD held l = if (List.range n).any (queD held l) = true then 11 else 0 := by rw [HF2.out, hALL]; simp
        have HF3 := Lib.hid hF3
        clear hALL hF3 HF2 HA hB
        go_wp2_with fail
        clear y0 y1
        go_loopw [5] (fun i wx => ∃ k : Nat, k ≤ n ∧ i = .int .i64 (k : Int) ∧ Hid (∀ j, j < k → queD held l j = false) ∧ Hid (Below Wb.heap.size Wb wx)) (fun i _ => n - (intOf i).toNat)
        case atStart => exact ⟨0, by omega, rfl, (fun j hj => absurd hj (by omega)), HB.out⟩
        case round =>
          obtain ⟨kq, hkq, rfl, HAq, HBq⟩ := hrel
          have hB := into HBB.out HBq.out
          have y0 := cell_of_below HBq.out HS.out.1
          have y1 := cell_of_below HBq.out HS.out.2
          by_cases hltq : kq < n
          · obtain ⟨b, o, cap, hsh, hcap, hcm, hbw, hcell⟩ := lks_of HR.out (by omega)
            simp only [Value.slice.injEq] at hsh
            obtain ⟨rfl, -, hcc⟩ := hsh
            subst hcc
            unfold maxLen at hcm
            obtain ⟨g0, g1, g2⟩ := hcell kq hltq
            have c0 := (hB.cell (p := ⟨b, o + kq * 3, none⟩) hbw).trans g0
            have c1 := (hB.cell (p := ⟨b, o + kq * 3 + 1, none⟩) hbw).trans g1
            have c2 := (hB.cell (p := ⟨b, o + kq * 3 + 2, none⟩) hbw).trans g2
            have HCELL := Lib.hid hcell
            have hFq : queD held l kq = (((bad (l.getD kq nlk) || (l.take kq).any (ofB (l.getD kq nlk).t)) || faultM (hmd held (l.getD kq nlk)) (l.getD kq nlk)) || (wtsD held l kq).isEmpty) := rfl
            obtain ⟨u, hu⟩ : ∃ u, u = l.getD kq nlk := ⟨_, rfl⟩
            rw [← hu] at c0 c1 c2 hFq
            have hb0 : Below Wb.heap.size Wb (wr.alloc (.cells #[.int .i64 u.t, .string u.th, .int .i64 u.m] 26)) := HBq.out.alloc HBq.out.size _
            obtain ⟨p0, p1, p2⟩ := BxL.new wr u
            obtain ⟨W0, hW0⟩ : ∃ W0 : World, W0 = wr.alloc (.cells #[.int .i64 u.t, .string u.th, .int .i64 u.m] 26) := ⟨_, rfl⟩
            rw [← hW0] at hb0 p0 p1 p2
            have hb0w : Below w.heap.size w W0 := into HBB.out hb0
            have hbd : Below W0.heap.size W0 W0.drew := (Below.refl _ _).drew
            have HLF : Hid (Calls Tryd.prog 24 #[lkv u] W0 fun e w' => e = .returned (.int .i64 (frm u)) ∧ Below W0.heap.size W0 w') := lockFault_any W0 u
            have hbd' : bad u = (frm u != 0) := rfl
            obtain ⟨fr, hfr⟩ : ∃ fr, fr = frm u := ⟨_, rfl⟩
            rw [← hfr] at HLF hbd'
            rw [hbd'] at hFq
            obtain ⟨ut, uth, um⟩ := u
            simp only at c0 c1 c2 p0 p1 p2 hFq
            have HFQ := Lib.hid hFq
            have HB0 := Lib.hid (And.intro hb0w hb0)
            have HW0 := Lib.hid hW0
            have HU := Lib.hid hu
            have hkc : (kq : Int) ≤ (cq : Int) := by omega
            clear g0 g1 g2 hcell hu hFq hb0 hb0w hbd hbd' hfr hB
            by_cases hf0 : fr = 0
            · subst hf0
              go_wp2_with (go_at_call 24; rw [← HW0.out]; ((with_reducible refine HLF.out.mono ?_); rintro e w2 ⟨rfl, hb2⟩))
              have HB2 := Lib.hid hb2
              clear hb2 y0 y1 c0 c1 c2
              go_loopw [7] (fun i wx => ∃ j : Nat, j ≤ kq ∧ i = .int .i64 (j : Int) ∧ Hid (∀ x, x < j → ofB ut (l.getD x nlk) = false) ∧ Hid (Below W0.heap.size W0 wx)) (fun i _ => kq - (intOf i).toNat)
              case atStart => exact ⟨0, by omega, rfl, (fun x hx => absurd hx (by omega)), HB2.out⟩
              case round =>
                obtain ⟨j, hj, rfl, HJ, HBj⟩ := hrel
                have z1 := cell_of_below (into HB0.out.2 HBj.out) HS.out.2
                have zp0 := cell_of_below HBj.out p0
                by_cases hlj : j < kq
                · obtain ⟨d0, -, -⟩ := HCELL.out j (by omega)
                  have e0 := ((into HB0.out.1 HBj.out).cell (p := ⟨b, o + j * 3, none⟩) hbw).trans d0
                  obtain ⟨v, hv⟩ : ∃ v, v = (l.getD j nlk).t := ⟨_, rfl⟩
                  rw [← hv] at e0
                  have HV := Lib.hid hv
                  have hjn : (j : Int) < (n : Int) := by omega
                  clear d0 hv p0 p1 p2
                  have hlen : n = l.length := HML.out
                  by_cases hev : v = ut
                  · have hANY : (l.take kq).any (ofB ut) = true := take_hit (by omega) hlj (by rw [ofB, ← HV.out, hev]; simp)
                    have HANY := Lib.hid hANY
                    clear hANY hlen
                    subst hev
                    go_wp2_with fail
                    go_quiet (fail)
                    have HBn : Hid (Below W0.heap.size W0 (wr.drewN nq)) := HBj.out.trans ((belowd _ _).mono HBj.out.size)
                    go_wp2_with fail
                    go_ret
                    exact ⟨ri (by rw [HF3.out, if_pos (any_hit hltq (by rw [HFQ.out, HANY.out]; simp))]), into HB0.out.1 HBn.out⟩
                  · have hNEV : ofB ut (l.getD j nlk) = false := by rw [ofB, ← HV.out]; simpa using hev
                    have HNEV := Lib.hid hNEV
                    clear hNEV hlen
                    go_wp2_with fail
                    go_quiet (fail)
                    have HBn : Hid (Below W0.heap.size W0 (wr.drewN nq)) := HBj.out.trans ((belowd _ _).mono HBj.out.size)
                    go_wp2_with fail
                    go_roundw
                    case rel =>
                      refine ⟨j + 1, by omega, by go_num, fun x hx => ?_, HBn.out⟩
                      rcases Nat.lt_or_ge x j with h | h
                      · exact HJ.out x h
                      · obtain rfl : x = j := by omega
                        exact HNEV.out
                    case measure => simp [intOf]; omega
                · obtain rfl : j = kq := by omega
                  have z0 := cell_of_below (into HB0.out.2 HBj.out) HS.out.1
                  have zp1 := cell_of_below HBj.out p1
                  have hNA : (l.take j).any (ofB ut) = false := take_none (by have := HML.out; omega) HJ.out
                  have HNA := Lib.hid hNA
                  have HMO : Hid (∀ W, Below W0.heap.size W0 W → Calls Tryd.prog 25 #[.slice ah k ch, .int .i64 ut, .string uth] W fun e w' => e = .returned (.int .i64 (hmd held ⟨ut, uth, um⟩)) ∧ W = w') := fun W hW => modeOf_any W k _ held ⟨ut, uth, um⟩ (HRH.out.below (into HB0.out.1 hW))
                  obtain ⟨m, hm⟩ : ∃ m, m = hmd held ⟨ut, uth, um⟩ := ⟨_, rfl⟩
                  rw [← hm] at HMO
                  have HM := Lib.hid hm
                  clear hNA hm HJ
                  go_wp2_with (go_at_call 25; ((with_reducible refine (HMO.out _ HBj.out).mono ?_); rintro e w3 ⟨rfl, rfl⟩))
                  have HB3 := HBj
                  have zp2 := cell_of_below HBj.out p2
                  have HJO : Hid (∀ W, Calls Tryd.prog 26 #[.int .i64 m, .int .i64 um] W fun e w' => e = .returned (.int .i64 (firI m um)) ∧ w' = W) := fun W => (joined_any W m um).mono fun e w' h => ⟨h.1, h.2.symm⟩
                  have HWT : Hid (∀ W, Below W0.heap.size W0 W → Calls Tryd.prog 27 #[.agg #[.slice ah k ch, .slice (some ⟨b, o, none⟩) n cq], .int .i64 (j : Int)] W fun e w' => ∃ (av : Option Addr) (cv : Nat), e = .returned (.slice av (wtsD held l j).length cv) ∧ Below W0.heap.size W0 w') := by
                    intro W hW
                    refine (dwaits_any W k n j _ _ held l (by omega) (by omega) (by omega) (HRH.out.below (into HB0.out.1 hW)) (HR.out.below (into HB0.out.1 hW))).mono ?_
                    rintro e w' ⟨v', rfl, hown, hb'⟩
                    obtain ⟨_, av, cv, rfl, _⟩ := Rd.own hown
                    exact ⟨av, cv, rfl, into hW hb'⟩
                  obtain ⟨fi, hfi⟩ : ∃ fi, fi = firI m um := ⟨_, rfl⟩
                  rw [← hfi] at HJO
                  have hFM : faultM m ⟨ut, uth, um⟩ = (decide (0 < m) && (m == um || fi != um)) := by rw [hfi]; rfl
                  have hFQ2 : queD held l j = (faultM m ⟨ut, uth, um⟩ || (wtsD held l j).isEmpty) := by rw [HFQ.out, HNA.out, ← HM.out]; simp
                  rw [hFM] at hFQ2
                  have hen : (wtsD held l j).length = 0 ↔ (wtsD held l j).isEmpty = true := len_emp
                  obtain ⟨N, hN⟩ : ∃ N, N = (wtsD held l j).length := ⟨_, rfl⟩
                  obtain ⟨em, hem⟩ : ∃ em, em = (wtsD held l j).isEmpty := ⟨_, rfl⟩
                  rw [← hN, ← hem] at hen
                  rw [← hN] at HWT
                  rw [← hem] at hFQ2
                  have HFQ2 := Lib.hid hFQ2
                  have HEN := Lib.hid hen
                  clear hFM hFQ2 hfi hN hem hen HNA HM HMO HFQ HLF HCELL HR HRH
                  by_cases hbd : 0 < m ∧ (m = um ∨ fi ≠ um)
                  · obtain ⟨hm0, hor⟩ := hbd
                    have hY : queD held l j = true := by rw [HFQ2.out, decide_eq_true hm0, Bool.true_and]; rcases hor with h | h <;> simp [h]
                    have HY := Lib.hid hY
                    clear hY HFQ2
                    by_cases hme : m = um
                    all_goals (
                      first | subst hme | have hfe : fi ≠ um := hor.resolve_left hme
                      clear hor
                      go_quiet ((go_at_call 26; exact Calls.quiet_of_same (HJO.out _)))
                      have HBn : Hid (Below W0.heap.size W0 (wr.drewN nq)) := HBj.out.trans ((belowd _ _).mono HBj.out.size)
                      go_wp2_with fail
                      go_ret
                      exact ⟨ri (by rw [HF3.out, if_pos (any_hit hltq HY.out)]), into HB0.out.1 HBn.out⟩
                      all_goals exact absurd (by assumption : (m == um) = false ∧ (fi != um) = false).2 (by rw [bne_eq_false_iff_eq]; exact hfe))
                  · have hEQ : queD held l j = em := by
                      rw [HFQ2.out]
                      by_cases hm0 : 0 < m
                      · have hor : ¬ (m = um ∨ fi ≠ um) := fun h => hbd ⟨hm0, h⟩
                        have hme : ¬ m = um := fun h => hor (.inl h)
                        have hfe : fi = um := Decidable.not_not.1 fun h => hor (.inr h)
                        simp [hme, hfe]
                      · simp [hm0]
                    have HEQ := Lib.hid hEQ
                    clear hEQ HFQ2
                    by_cases hN0 : N = 0
                    · have hem : em = true := HEN.out.1 hN0
                      have HEM := Lib.hid hem
                      clear hem HEN
                      subst hN0
                      by_cases hm0 : 0 < m
                      all_goals (
                        first | (have hme : ¬ m = um := fun h => hbd ⟨hm0, .inl h⟩; have hfe : fi = um := Decidable.not_not.1 fun h => hbd ⟨hm0, .inr h⟩; subst hfe) | skip
                        clear hbd
                        go_quiet ((go_at_call 26; exact Calls.quiet_of_same (HJO.out _)))
                        have HBn : Hid (Below W0.heap.size W0 (wr.drewN nq)) := HBj.out.trans ((belowd _ _).mono HBj.out.size)
                        have zn0 := cell_of_below (into HB0.out.2 HBn.out) HS.out.1
                        have zn1 := cell_of_below (into HB0.out.2 HBn.out) HS.out.2
                        clear z0 z1 zp0 zp1 zp2
                        go_wp2_with (go_at_call 27; ((with_reducible refine (HWT.out _ HBn.out).mono ?_); rintro e w4 ⟨av, cv, rfl, hb4⟩))
                        go_ret
                        exact ⟨ri (by rw [HF3.out, if_pos (any_hit hltq (by rw [HEQ.out, HEM.out]))]), into HB0.out.1 hb4⟩)
                    · have hem : em = false := by
                        cases em
                        · rfl
                        · exact absurd (HEN.out.2 rfl) hN0
                      have HEM := Lib.hid hem
                      have hpos : (0 : Int) < (N : Int) := by omega
                      clear hem HEN
                      by_cases hm0 : 0 < m
                      all_goals (
                        first | (have hme : ¬ m = um := fun h => hbd ⟨hm0, .inl h⟩; have hfe : fi = um := Decidable.not_not.1 fun h => hbd ⟨hm0, .inr h⟩; subst hfe) | skip
                        clear hbd
                        go_quiet ((go_at_call 26; exact Calls.quiet_of_same (HJO.out _)))
                        have HBn : Hid (Below W0.heap.size W0 (wr.drewN nq)) := HBj.out.trans ((belowd _ _).mono HBj.out.size)
                        have zn0 := cell_of_below (into HB0.out.2 HBn.out) HS.out.1
                        have zn1 := cell_of_below (into HB0.out.2 HBn.out) HS.out.2
                        clear z0 z1 zp0 zp1 zp2
                        go_wp2_with (go_at_call 27; ((with_reducible refine (HWT.out _ HBn.out).mono ?_); rintro e w4 ⟨av, cv, rfl, hb4⟩))
                        go_roundw
                        case rel =>
                          refine ⟨j + 1, by omega, by go_num, fun x hx => ?_, into HB0.out.2 hb4⟩
                          rcases Nat.lt_or_ge x j with h | h
                          · exact HAq.out x h
                          · obtain rfl : x = j := by omega
                            rw [HEQ.out, HEM.out]
                        case measure => simp [intOf]; omega)
            · have hf1 : (fr == 0) = false := by simpa using hf0
              go_wp2_with (go_at_call 24; rw [← HW0.out]; ((with_reducible refine HLF.out.mono ?_); rintro e w2 ⟨rfl, hb2⟩))
              go_ret
              exact ⟨ri (by rw [HF3.out, if_pos (any_hit hltq (by rw [HFQ.out]; simp [hf0]))]), into HB0.out.1 hb2⟩
          · obtain rfl : kq = n := by omega
            have hALLq : (List.range kq).any (queD held l) = false := any_none HAq.out
            have HAL := Lib.hid hALLq
            clear hALLq
            go_wp2_with fail
            go_ret
            exact ⟨ri (by rw [HF3.out, HAL.out]; simp), into HBB.out HBq.out⟩
end Go.Proofs.YtpddlckkncmlmaaDoor
