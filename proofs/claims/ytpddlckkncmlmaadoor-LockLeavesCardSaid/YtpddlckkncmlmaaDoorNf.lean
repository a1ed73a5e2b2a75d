/- May all that are held be held at once: the program. -/
import Derived.Test.YtpddlckkncmlmaaDoorNe
import Derived.Deep.RegionHeld3
import Derived.Deep.RegionWith
namespace Go.Proofs.YtpddlckkncmlmaaDoor
open Go.ChangeShapes Go.WideShapes Go.ChangeAt Go.RowKit
set_option linter.unusedVariables false
set_option linter.unusedSimpArgs false
set_option maxHeartbeats 4000000
theorem cell_of_below {W W' : World} {a : Addr} {v : Value} (hb : Below W.heap.size W W') (h : W.cell? a = some v) : W'.cell? a = some v := (hb.cell (lt_cell h)).trans h
theorem cell_dr {W : World} {a : Addr} {v : Value} (h : W.cell? a = some v) : W.drew.cell? a = some v := by simpa using h
theorem heldOk_no {l : List Lk} {k : Nat} (hk : k < l.length) (h : heldF l k = true) : heldOk l = false := by
  unfold heldOk
  rw [List.all_eq_false]
  exact ⟨k, List.mem_range.2 hk, by simp [h]⟩
theorem heldOk_yes {l : List Lk} (h : ∀ k, k < l.length → heldF l k = false) : heldOk l = true := by
  unfold heldOk
  rw [List.all_eq_true]
  exact fun k hk => by simp [h k (List.mem_range.1 hk)]
theorem heldMayBe_any (w : World) (hT : Tog w) (n : Nat) (v : Value) (l : List Lk) (hr : Rd w 3 n v (lkc l)) (hm : Mds l) :
    Calls Tryd.prog 51 #[v] w fun e w' => e = .returned (.bool (heldOk l)) ∧ Below w.heap.size w w' := by
  have hml := len_l hr
  have hmax := hr.len
  unfold maxLen at hmax
  by_cases h0 : n = 0
  · have hl0 : l = [] := List.eq_nil_of_length_eq_zero (by omega)
    subst hl0 h0
    obtain ⟨_, ao, cap, rfl, _⟩ := hr.zero
    clear hml
    go_enter Tryd.func51, Tryd.ntmps51
    go_wp2
    go_rounds 1
    go_ret
    exact ⟨rfl, Below.refl _ _⟩
  · obtain ⟨b, o, cap, rfl, hcap, hcm, hbw, hcell⟩ := lks_of hr (by omega)
    unfold maxLen at hcm
    have HC := Lib.hid hcell
    have HR := Lib.hid hr
    have HM := Lib.hid hm
    have HN := Lib.hid hml
    have HT := Lib.hid hT
    clear hcell hr hml hm hT
    go_enter Tryd.func51, Tryd.ntmps51
    go_wp2
    go_loopw [7] (fun i wr => ∃ k : Nat, k ≤ n ∧ i = .int .i64 (k : Int) ∧ Hid (∀ j, j < k → heldF l j = false) ∧ Hid (Below w.heap.size w wr)) (fun i _ => n - (intOf i).toNat)
    case atStart => exact ⟨0, by omega, rfl, (fun j hj => absurd hj (by omega)), Below.refl _ _⟩
    case round =>
      obtain ⟨k, hk, rfl, HA, HB⟩ := hrel
      by_cases hlt : k < n
      · obtain ⟨g0, g1, g2⟩ := HC.out k hlt
        have c0 := (HB.out.cell (p := ⟨b, o + k * 3, none⟩) hbw).trans g0
        have c1 := (HB.out.cell (p := ⟨b, o + k * 3 + 1, none⟩) hbw).trans g1
        have c2 := (HB.out.cell (p := ⟨b, o + k * 3 + 2, none⟩) hbw).trans g2
        have hkl : k < l.length := by rw [← HN.out]; exact hlt
        have hxm := HM.out _ (mem_getD hkl)
        have hF : heldF l k = ((l.take k).any (onB (l.getD k nlk)) || (l.take k).any (agB (l.getD k nlk))) := rfl
        obtain ⟨u, hu⟩ : ∃ u, u = l.getD k nlk := ⟨_, rfl⟩
        rw [← hu] at c0 c1 c2 hxm hF
        have hrt := HR.out.take k (by omega)
        rw [lkc_take] at hrt
        have hmt : Mds (l.take k) := fun y hy => HM.out y (List.mem_of_mem_take hy)
        have hwz := HB.out.size
        have hb0 : Below w.heap.size w (wr.alloc (.cells #[.int .i64 u.t, .string u.th, .int .i64 u.m] 26)) := HB.out.alloc hwz _
        obtain ⟨p0, p1, p2⟩ := BxL.new wr u
        obtain ⟨b1, hb1⟩ : ∃ b1, b1 = (l.take k).any (onB u) := ⟨_, rfl⟩
        obtain ⟨b2, hb2⟩ : ∃ b2, b2 = (l.take k).any (agB u) := ⟨_, rfl⟩
        obtain ⟨ut, uth, um⟩ := u
        simp only at c0 c1 c2 p0 p1 p2
        obtain ⟨W0, hW0⟩ : ∃ W0 : World, W0 = wr.alloc (.cells #[.int .i64 ut, .string uth, .int .i64 um] 26) := ⟨_, rfl⟩
        have hz0 : W0.heap.size = wr.heap.size + 1 := by rw [hW0]; simp
        rw [← hW0] at hb0 p0 p1 p2
        have hbd : Below W0.heap.size W0 W0.drew := (Below.refl _ _).drew
        have HON : Hid (Calls Tryd.prog 41 #[.agg #[.int .i64 ut, .string uth, .int .i64 um]] W0.drew fun e w' => e = .returned (.func (.func 56) #[] #[.pointer (some ⟨wr.heap.size + 1, 0, none⟩)]) ∧ Below W0.heap.size W0 w' ∧
            Calls Tryd.prog 37 #[.slice (some ⟨b, o, none⟩) k cap, .func (.func 56) #[] #[.pointer (some ⟨wr.heap.size + 1, 0, none⟩)]] w' fun e w' => e = .returned (.bool b1) ∧ Below W0.heap.size W0 w') := by
          have hs := on_says W0.drew ⟨ut, uth, um⟩ (l.take k)
          have hzd : W0.drew.heap.size = wr.heap.size + 1 := by rw [← hz0]; rfl
          have hm := on_maker W0.drew ⟨ut, uth, um⟩
          rw [hzd] at hs hm
          refine hm.mono ?_
          rintro e w' ⟨rfl, rfl⟩
          have hbn : Below W0.heap.size W0 (W0.drew.alloc (.cells #[.int .i64 ut, .string uth, .int .i64 um] 26)) := hbd.alloc (by rw [hzd, hz0]; omega) _
          refine ⟨rfl, hbn, (con_on _ k _ (l.take k) (onB ⟨ut, uth, um⟩) _ (hrt.below (into hb0 hbn)) hs).mono ?_⟩
          rintro e w2 ⟨rfl, hb2'⟩
          exact ⟨by rw [hb1], into hbn hb2'⟩
        have HAG : Hid (∀ W, Below W0.heap.size W0 W → Calls Tryd.prog 43 #[.agg #[.int .i64 ut, .string uth, .int .i64 um]] W fun e w' => ∃ P : Nat, e = .returned (.func (.func 57) #[] #[.pointer (some ⟨P, 0, none⟩)]) ∧ Below W0.heap.size W0 w' ∧
            Calls Tryd.prog 37 #[.slice (some ⟨b, o, none⟩) k cap, .func (.func 57) #[] #[.pointer (some ⟨P, 0, none⟩)]] w' fun e w' => e = .returned (.bool b2) ∧ Below W0.heap.size W0 w') := by
          intro W hW
          have hs := ag_says W (HT.out.below (into hb0 hW)) ⟨ut, uth, um⟩ hxm (l.take k) hmt
          refine (ag_maker W ⟨ut, uth, um⟩).mono ?_
          rintro e w' ⟨rfl, rfl⟩
          have hbn : Below W0.heap.size W0 (W.alloc (.cells #[.int .i64 ut, .string uth, .int .i64 um] 26)) := hW.alloc hW.size _
          refine ⟨_, rfl, hbn, (con_ag _ k _ (l.take k) (agB ⟨ut, uth, um⟩) _ (hrt.below (into hb0 hbn)) hs).mono ?_⟩
          rintro e w2 ⟨rfl, hb2'⟩
          exact ⟨by rw [hb2], into hbn hb2'⟩
        rw [← hb1, ← hb2] at hF
        have HF := Lib.hid hF
        have HB0 := Lib.hid hb0
        have HW0 := Lib.hid hW0
        have hkc : (k : Int) ≤ (cap : Int) := by omega
        clear g0 g1 g2 hu hF hrt hmt hb0 hb1 hb2 hW0 hbd hxm
        go_wp2_with fail
        rw [← HW0.out]
        cases b1
        · cases b2
          · go_region_held3 (fun wx => wx.cell? ⟨wr.heap.size, 0, none⟩ = some (.int .i64 ut) ∧ wx.cell? ⟨wr.heap.size, 1, none⟩ = some (.string uth) ∧ wx.cell? ⟨wr.heap.size, 2, none⟩ = some (.int .i64 um))
              ((first
                | (with_reducible exact ⟨cell_dr p0, cell_dr p1, cell_dr p2⟩)
                | (with_reducible exact ⟨cell_of_below hb5 p0, cell_of_below hb5 p1, cell_of_below hb5 p2⟩)
                | (with_reducible exact ⟨cell_of_below hb4 p0, cell_of_below hb4 p1, cell_of_below hb4 p2⟩)
                | (with_reducible exact ⟨cell_of_below hb3 p0, cell_of_below hb3 p1, cell_of_below hb3 p2⟩)
                | (with_reducible exact ⟨cell_of_below hb2 p0, cell_of_below hb2 p1, cell_of_below hb2 p2⟩)))
              ((first
                | (go_at_call 41; ((with_reducible refine HON.out.mono ?_); rintro e w2 ⟨rfl, hb2, hc2⟩))
                | (go_at_call 37; ((with_reducible refine hc2.mono ?_); rintro e w3 ⟨rfl, hb3⟩))
                | (go_at_call 43; ((with_reducible refine (HAG.out _ hb3).mono ?_); rintro e w4 ⟨P, rfl, hb4, hc4⟩))
                | (go_at_call 37; ((with_reducible refine hc4.mono ?_); rintro e w5 ⟨rfl, hb5⟩))))
            have HB5 := Lib.hid (into HB0.out hb5)
            clear hb2 hb3 hb4 hb5 hc2 hc4
            go_wp2_with fail
            go_roundw
            case rel =>
              refine ⟨k + 1, by omega, by go_num, fun j hj => ?_, HB5.out⟩
              rcases Nat.lt_or_ge j k with h | h
              · exact HA.out j h
              · obtain rfl : j = k := by omega
                rw [HF.out]
                rfl
            case measure => simp [intOf]; omega
          · go_region_held3 (fun wx => wx.cell? ⟨wr.heap.size, 0, none⟩ = some (.int .i64 ut) ∧ wx.cell? ⟨wr.heap.size, 1, none⟩ = some (.string uth) ∧ wx.cell? ⟨wr.heap.size, 2, none⟩ = some (.int .i64 um))
              ((first
                | (with_reducible exact ⟨cell_dr p0, cell_dr p1, cell_dr p2⟩)
                | (with_reducible exact ⟨cell_of_below hb5 p0, cell_of_below hb5 p1, cell_of_below hb5 p2⟩)
                | (with_reducible exact ⟨cell_of_below hb4 p0, cell_of_below hb4 p1, cell_of_below hb4 p2⟩)
                | (with_reducible exact ⟨cell_of_below hb3 p0, cell_of_below hb3 p1, cell_of_below hb3 p2⟩)
                | (with_reducible exact ⟨cell_of_below hb2 p0, cell_of_below hb2 p1, cell_of_below hb2 p2⟩)))
              ((first
                | (go_at_call 41; ((with_reducible refine HON.out.mono ?_); rintro e w2 ⟨rfl, hb2, hc2⟩))
                | (go_at_call 37; ((with_reducible refine hc2.mono ?_); rintro e w3 ⟨rfl, hb3⟩))
                | (go_at_call 43; ((with_reducible refine (HAG.out _ hb3).mono ?_); rintro e w4 ⟨P, rfl, hb4, hc4⟩))
                | (go_at_call 37; ((with_reducible refine hc4.mono ?_); rintro e w5 ⟨rfl, hb5⟩))))
            have HB5 := Lib.hid (into HB0.out hb5)
            clear hb2 hb3 hb4 hb5 hc2 hc4
            go_wp2_with fail
            go_ret
            exact ⟨rb (by rw [heldOk_no hkl (by rw [HF.out]; rfl)]), HB5.out⟩
        · first
          | (go_region_with ((first | (go_at_call 41; ((with_reducible refine HON.out.mono ?_); rintro e w2 ⟨rfl, hb2, hc2⟩; have q0 := cell_of_below hb2 p0; have q1 := cell_of_below hb2 p1; have q2 := cell_of_below hb2 p2)) | (go_at_call 37; ((with_reducible refine hc2.mono ?_); rintro e w3 ⟨rfl, hb3⟩)))))
          | fail
          all_goals (
            have HB3 := Lib.hid (into HB0.out hb3)
            clear hb2 hb3 hc2
            go_wp2_with fail
            go_ret
            exact ⟨rb (by rw [heldOk_no hkl (by rw [HF.out]; rfl)]), HB3.out⟩)
      · obtain rfl : k = n := by omega
        go_wp2_with fail
        go_ret
        exact ⟨rb (by rw [heldOk_yes (fun j hj => HA.out j (by rw [HN.out]; exact hj))]), HB.out⟩
end Go.Proofs.YtpddlckkncmlmaaDoor
