/- What locks lack: the program. -/
import Derived.Test.YtpddlckkncmlmaaDoorNg
namespace Go.Proofs.YtpddlckkncmlmaaDoor
open Go.ChangeShapes Go.WideShapes Go.ChangeAt Go.RowKit
set_option linter.unusedVariables false
set_option linter.unusedSimpArgs false
set_option maxHeartbeats 4000000
theorem tooMany_any (w : World) (ah aq : Option Addr) (nh ch nq cq : Nat) (h1 : nh ≤ 1000000000000000) (h2 : nq ≤ 1000000000000000) :
    Calls Tryd.prog 22 #[.agg #[.slice ah nh ch, .slice aq nq cq]] w fun e w' => e = .returned (.bool (decide (200 < nh + nq))) ∧ Below w.heap.size w w' := by
  have hw : wrap64 ((nh : Int) + (nq : Int)) = (nh : Int) + (nq : Int) := by unfold wrap64; omega
  by_cases h : 200 < nh + nq
  · have hI : (200 : Int) < (nh : Int) + (nq : Int) := by omega
    go_enter Tryd.func22, Tryd.ntmps22
    go_wp2
    go_ret
    exact ⟨rb (by simp [h, hw]; try omega), (Below.refl _ _).alloc (Nat.le_refl _) _⟩
  · have hI : ¬ (200 : Int) < (nh : Int) + (nq : Int) := by omega
    go_enter Tryd.func22, Tryd.ntmps22
    go_wp2
    go_ret
    exact ⟨rb (by simp [h, hw]; try omega), (Below.refl _ _).alloc (Nat.le_refl _) _⟩
theorem mds_of {l : List Lk} (h : l.any bad = false) : Mds l := fun y hy => by
  rw [List.any_eq_false] at h
  have := h y hy
  have h0 : frm y = 0 := by simpa [bad] using this
  exact (frm_ok.1 h0).2.2
theorem check_any (w : World) (hT : Tog w) (hJ : Jnd w) (nh n : Nat) (hv qv : Value) (held l : List Lk) (hrh : Rd w 3 nh hv (lkc held)) (hr : Rd w 3 n qv (lkc l)) (h1 : nh ≤ 1000000000000000) (h2 : n ≤ 1000000000000000) :
    Calls Tryd.prog 29 #[.agg #[hv, qv]] w fun e w' => e = .returned (.int .i64 (lksF held l)) ∧ Below w.heap.size w w' := by
  have hlh := len_l hrh
  have hlq := len_l hr
  obtain ⟨_, ah, ch, rfl, _⟩ := id hrh
  obtain ⟨_, aq, cq, rfl, _⟩ := id hr
  obtain ⟨W0, hW0⟩ : ∃ W0 : World, W0 = w.alloc (.cells #[.slice ah nh ch, .slice aq n cq] 24) := ⟨_, rfl⟩
  have hb0 : Below w.heap.size w W0 := by rw [hW0]; exact (Below.refl _ _).alloc (Nat.le_refl _) _
  have s0 : W0.cell? ⟨w.heap.size, 0, none⟩ = some (.slice ah nh ch) := by rw [hW0]; go_simp
  have s1 : W0.cell? ⟨w.heap.size, 1, none⟩ = some (.slice aq n cq) := by rw [hW0]; go_simp
  have hF : lksF held l = if 200 < nh + n then 11 else if held.any bad = true then 11 else if l.any bad = true then 11 else if heldOk held = false then 11 else if queOk held l = false then 11 else 0 := by unfold lksF; rw [hlh, hlq]
  have HTM := Lib.hid (tooMany_any W0 ah aq nh ch n cq h1 h2)
  have HFH : Hid (∀ W, Below W0.heap.size W0 W → Calls Tryd.prog 50 #[.slice ah nh ch] W fun e w' => e = .returned (.bool (!held.any bad)) ∧ Below W.heap.size W w') := fun W hW => formed_any W nh _ held (hrh.below (into hb0 hW))
  have HFQ : Hid (∀ W, Below W0.heap.size W0 W → Calls Tryd.prog 50 #[.slice aq n cq] W fun e w' => e = .returned (.bool (!l.any bad)) ∧ Below W.heap.size W w') := fun W hW => formed_any W n _ l (hr.below (into hb0 hW))
  have HHM : Hid (held.any bad = false → ∀ W, Below W0.heap.size W0 W → Calls Tryd.prog 51 #[.slice ah nh ch] W fun e w' => e = .returned (.bool (heldOk held)) ∧ Below W.heap.size W w') := fun hb W hW => heldMayBe_any W (hT.below (into hb0 hW)) nh _ held (hrh.below (into hb0 hW)) (mds_of hb)
  have HQM : Hid (held.any bad = false → l.any bad = false → ¬ 200 < nh + n → ∀ W, Below W0.heap.size W0 W → Calls Tryd.prog 52 #[.agg #[.slice ah nh ch, .slice aq n cq]] W fun e w' => e = .returned (.bool (queOk held l)) ∧ Below W.heap.size W w') := fun hb hb' hle W hW =>
    queueMayBe_any W (hT.below (into hb0 hW)) (hJ.below (into hb0 hW)) nh n _ _ held l (hrh.below (into hb0 hW)) (hr.below (into hb0 hW)) (mds_of hb) (mds_of hb') (by omega) (by omega)
  obtain ⟨bh, hbh⟩ : ∃ b, b = held.any bad := ⟨_, rfl⟩
  obtain ⟨bq, hbq⟩ : ∃ b, b = l.any bad := ⟨_, rfl⟩
  obtain ⟨oh, hoh⟩ : ∃ b, b = heldOk held := ⟨_, rfl⟩
  obtain ⟨oq, hoq⟩ : ∃ b, b = queOk held l := ⟨_, rfl⟩
  rw [← hbh, ← hbq, ← hoh, ← hoq] at hF
  rw [← hbh] at HFH HHM HQM
  rw [← hbq] at HFQ HQM
  rw [← hoh] at HHM
  rw [← hoq] at HQM
  have HF := Lib.hid hF
  have HS := Lib.hid (And.intro s0 s1)
  have HB0 := Lib.hid hb0
  have HW0 := Lib.hid hW0
  clear hlh hlq hF s0 s1 hb0 hW0 hbh hbq hoh hoq hrh hr hT hJ h1 h2
  by_cases hbig : 200 < nh + n
  · have hd : decide (200 < nh + n) = true := by simp [hbig]
    rw [hd] at HTM
    have HFN : Hid (lksF held l = 11) := by show _ = _; rw [HF.out, if_pos hbig]
    clear hd hbig HF
    go_enter Tryd.func29, Tryd.ntmps29
    go_wp2_with fail
    rw [← HW0.out]
    refine HTM.out.mono ?_
    rintro e w1 ⟨rfl, hb1⟩
    have HB1 := Lib.hid (into HB0.out hb1)
    clear hb1
    go_wp2_with fail
    go_ret
    exact ⟨ri HFN.out.symm, HB1.out⟩
  · have hd : decide (200 < nh + n) = false := by simp [hbig]
    rw [hd] at HTM
    have HBG := Lib.hid hbig
    clear hd hbig
    have start : ∀ {P : Prop}, P → P := fun h => h
    clear start
    cases bh
    · cases bq
      · cases oh
        · have HFN : Hid (lksF held l = 11) := by show _ = _; rw [HF.out, if_neg HBG.out]; simp
          clear HF
          go_enter Tryd.func29, Tryd.ntmps29
          go_wp2_with fail
          rw [← HW0.out]
          refine HTM.out.mono ?_
          rintro e w1 ⟨rfl, hb1⟩
          have HB1 := Lib.hid hb1
          have y0 := cell_of_below hb1 HS.out.1
          have y1 := cell_of_below hb1 HS.out.2
          clear hb1
          go_wp2_with fail
          refine (HFH.out _ HB1.out).mono ?_
          rintro e w2 ⟨rfl, hb2⟩
          have HB2 := Lib.hid (into HB1.out hb2)
          have y0' := cell_of_below hb2 y0
          have y1' := cell_of_below hb2 y1
          clear hb2 y0 y1
          go_wp2_with fail
          refine (HFQ.out _ HB2.out).mono ?_
          rintro e w3 ⟨rfl, hb3⟩
          have HB3 := Lib.hid (into HB2.out hb3)
          have y0 := cell_of_below hb3 y0'
          have y1 := cell_of_below hb3 y1'
          clear hb3 y0' y1'
          go_wp2_with fail
          refine (HHM.out (by simp) _ HB3.out).mono ?_
          rintro e w4 ⟨rfl, hb4⟩
          have HB4 := Lib.hid (into HB0.out (into HB3.out hb4))
          clear hb4 y0 y1
          go_wp2_with fail
          go_ret
          exact ⟨ri HFN.out.symm, HB4.out⟩
        · have HFN : Hid (lksF held l = if oq = false then 11 else 0) := by show _ = _; rw [HF.out, if_neg HBG.out]; simp
          clear HF
          have HQN := Lib.hid (HQM.out (by simp) (by simp) HBG.out)
          cases oq
          all_goals (
            go_enter Tryd.func29, Tryd.ntmps29
            go_wp2_with fail
            rw [← HW0.out]
            refine HTM.out.mono ?_
            rintro e w1 ⟨rfl, hb1⟩
            have HB1 := Lib.hid hb1
            have y0 := cell_of_below hb1 HS.out.1
            have y1 := cell_of_below hb1 HS.out.2
            clear hb1
            go_wp2_with fail
            refine (HFH.out _ HB1.out).mono ?_
            rintro e w2 ⟨rfl, hb2⟩
            have HB2 := Lib.hid (into HB1.out hb2)
            have y0' := cell_of_below hb2 y0
            have y1' := cell_of_below hb2 y1
            clear hb2 y0 y1
            go_wp2_with fail
            refine (HFQ.out _ HB2.out).mono ?_
            rintro e w3 ⟨rfl, hb3⟩
            have HB3 := Lib.hid (into HB2.out hb3)
            have y0 := cell_of_below hb3 y0'
            have y1 := cell_of_below hb3 y1'
            clear hb3 y0' y1'
            go_wp2_with fail
            refine (HHM.out (by simp) _ HB3.out).mono ?_
            rintro e w4 ⟨rfl, hb4⟩
            have HB4 := Lib.hid (into HB3.out hb4)
            have y0' := cell_of_below hb4 y0
            have y1' := cell_of_below hb4 y1
            clear hb4 y0 y1
            go_wp2_with fail
            refine (HQN.out _ HB4.out).mono ?_
            rintro e w5 ⟨rfl, hb5⟩
            have HB5 := Lib.hid (into HB0.out (into HB4.out hb5))
            clear hb5 y0' y1'
            go_wp2_with fail
            go_ret
            exact ⟨ri (by rw [HFN.out]; rfl), HB5.out⟩)
      · have HFN : Hid (lksF held l = 11) := by show _ = _; rw [HF.out, if_neg HBG.out]; simp
        clear HF
        go_enter Tryd.func29, Tryd.ntmps29
        go_wp2_with fail
        rw [← HW0.out]
        refine HTM.out.mono ?_
        rintro e w1 ⟨rfl, hb1⟩
        have HB1 := Lib.hid hb1
        have y0 := cell_of_below hb1 HS.out.1
        have y1 := cell_of_below hb1 HS.out.2
        clear hb1
        go_wp2_with fail
        refine (HFH.out _ HB1.out).mono ?_
        rintro e w2 ⟨rfl, hb2⟩
        have HB2 := Lib.hid (into HB1.out hb2)
        have y0' := cell_of_below hb2 y0
        have y1' := cell_of_below hb2 y1
        clear hb2 y0 y1
        go_wp2_with fail
        refine (HFQ.out _ HB2.out).mono ?_
        rintro e w3 ⟨rfl, hb3⟩
        have HB3 := Lib.hid (into HB0.out (into HB2.out hb3))
        clear hb3 y0' y1'
        go_wp2_with fail
        go_ret
        exact ⟨ri HFN.out.symm, HB3.out⟩
    · have HFN : Hid (lksF held l = 11) := by show _ = _; rw [HF.out, if_neg HBG.out]; simp
      clear HF
      go_enter Tryd.func29, Tryd.ntmps29
      go_wp2_with fail
      rw [← HW0.out]
      refine HTM.out.mono ?_
      rintro e w1 ⟨rfl, hb1⟩
      have HB1 := Lib.hid hb1
      have y0 := cell_of_below hb1 HS.out.1
      have y1 := cell_of_below hb1 HS.out.2
      clear hb1
      go_wp2_with fail
      refine (HFH.out _ HB1.out).mono ?_
      rintro e w2 ⟨rfl, hb2⟩
      have HB2 := Lib.hid (into HB0.out (into HB1.out hb2))
      clear hb2 y0 y1
      go_wp2_with fail
      go_ret
      exact ⟨ri HFN.out.symm, HB2.out⟩
end Go.Proofs.YtpddlckkncmlmaaDoor
