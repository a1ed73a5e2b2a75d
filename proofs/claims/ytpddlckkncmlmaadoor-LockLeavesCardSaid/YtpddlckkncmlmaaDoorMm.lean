/- The first one that waits for nobody: the program. -/
import Derived.Test.YtpddlckkncmlmaaDoorMh
import Derived.Test.YtpddlckkncmlmaaDoorMb
namespace Go.Proofs.YtpddlckkncmlmaaDoor
open Go.ChangeShapes Go.WideShapes Go.ChangeAt Go.RowKit
set_option linter.unusedVariables false
set_option linter.unusedSimpArgs false
set_option maxHeartbeats 8000000
set_option maxRecDepth 100000
theorem firstFree_any (w : World) (hT : Tog w) (nh n : Nat) (hv qv : Value) (held l : List Lk) (hrh : Rd w 3 nh hv (lkc held)) (hr : Rd w 3 n qv (lkc l)) (hmh : Mds held) (hm : Mds l) (hnh : nh ≤ 1000) (hn : n ≤ 1000) :
    Calls Tryd.prog 33 #[.agg #[hv, qv]] w fun e w' => e = .returned (.int .i64 (freeI held l)) ∧ Below w.heap.size w w' := by
  have hml := len_l hr
  obtain ⟨_, ah, ch, rfl, _⟩ := id hrh
  by_cases h0 : n = 0
  · have hl0 : l = [] := List.eq_nil_of_length_eq_zero (by omega)
    subst hl0 h0
    obtain ⟨_, ao, cap, rfl, _⟩ := hr.zero
    clear hml hrh
    go_enter Tryd.func33, Tryd.ntmps33
    go_wp2
    go_rounds 1
    go_ret
    exact ⟨rfl, (Below.refl _ _).alloc (Nat.le_refl _) _⟩
  · obtain ⟨b, o, cap, rfl, hcap, hcm, hbw, hcell⟩ := lks_of hr (by omega)
    unfold maxLen at hcm
    have HC := Lib.hid hcell
    have HR := Lib.hid hr
    have HRH := Lib.hid hrh
    have HM := Lib.hid hm
    have HMH := Lib.hid hmh
    have HN := Lib.hid hml
    have HT := Lib.hid hT
    clear hcell hr hml hm hT hrh hmh
    go_enter Tryd.func33, Tryd.ntmps33
    go_wp2
    obtain ⟨Wb, hWb⟩ : ∃ Wb : World, Wb = w.alloc (.cells #[.slice ah nh ch, .slice (some ⟨b, o, none⟩) n cap] 24) := ⟨_, rfl⟩
    have hbb : Below w.heap.size w Wb := by rw [hWb]; exact (Below.refl _ _).alloc (Nat.le_refl _) _
    have s0 : Wb.cell? ⟨w.heap.size, 0, none⟩ = some (.slice ah nh ch) := by rw [hWb]; go_simp
    have s1 : Wb.cell? ⟨w.heap.size, 1, none⟩ = some (.slice (some ⟨b, o, none⟩) n cap) := by rw [hWb]; go_simp
    rw [← hWb]
    have HS := Lib.hid (And.intro s0 s1)
    have HBB := Lib.hid hbb
    have hzb : Wb.heap.size = w.heap.size + 1 := by rw [hWb]; simp
    clear hWb hbb s0 s1
    go_loopw [8] (fun i wr => ∃ k : Nat, k ≤ n ∧ i = .int .i64 (k : Int) ∧ Hid (∀ j, j < k → freeP held l j = false) ∧ Hid (Below Wb.heap.size Wb wr)) (fun i _ => n - (intOf i).toNat)
    case atStart => exact ⟨0, by omega, rfl, (fun j hj => absurd hj (by omega)), Below.refl _ _⟩
    case round =>
      obtain ⟨k, hk, rfl, HA, HB⟩ := hrel
      by_cases hlt : k < n
      · obtain ⟨g0, g1, g2⟩ := HC.out k hlt
        have hB := into HBB.out HB.out
        have c0 := (hB.cell (p := ⟨b, o + k * 3, none⟩) hbw).trans g0
        have c1 := (hB.cell (p := ⟨b, o + k * 3 + 1, none⟩) hbw).trans g1
        have c2 := (hB.cell (p := ⟨b, o + k * 3 + 2, none⟩) hbw).trans g2
        have hkl : k < l.length := by rw [← HN.out]; exact hlt
        have hxm := HM.out _ (mem_getD hkl)
        have hF : freeP held l k = (wts held (l.take k) (l.getD k nlk)).isEmpty := rfl
        obtain ⟨u, hu⟩ : ∃ u, u = l.getD k nlk := ⟨_, rfl⟩
        rw [← hu] at c0 c1 c2 hxm hF
        have hrt := HR.out.take k (by omega)
        rw [lkc_take] at hrt
        have hwz := HB.out.size
        have hb0 : Below Wb.heap.size Wb (wr.alloc (.cells #[.int .i64 u.t, .string u.th, .int .i64 u.m] 26)) := HB.out.alloc hwz _
        obtain ⟨p0, p1, p2⟩ := BxL.new wr u
        obtain ⟨W0, hW0⟩ : ∃ W0 : World, W0 = wr.alloc (.cells #[.int .i64 u.t, .string u.th, .int .i64 u.m] 26) := ⟨_, rfl⟩
        rw [← hW0] at hb0 p0 p1 p2
        have q0 := cell_of_below hb0 HS.out.1
        have q1 := cell_of_below hb0 HS.out.2
        have hb0w : Below w.heap.size w W0 := into HBB.out hb0
        have hbd : Below W0.heap.size W0 W0.drew := (Below.refl _ _).drew
        have HWF : Hid (Calls Tryd.prog 20 #[.slice ah nh ch, .slice (some ⟨b, o, none⟩) k cap, lkv u] W0.drew fun e w' => ∃ (av : Option Addr) (nv cv : Nat), e = .returned (.slice av nv cv) ∧ nv = (onceL (wts held (l.take k) u)).length ∧ Below W0.heap.size W0 w') := by
          refine (waitsFor_any W0.drew (HT.out.below (into hb0w hbd)) nh k _ _ held (l.take k) u hxm HMH.out (HRH.out.below (into hb0w hbd)) (hrt.below (into hb0w hbd)) (by omega) (by omega)).mono ?_
          rintro e w' ⟨v', rfl, hown, hb'⟩
          obtain ⟨_, av, cv, rfl, _⟩ := Rd.own hown
          exact ⟨av, _, cv, rfl, rfl, into hbd hb'⟩
        have hen : (onceL (wts held (l.take k) u)).length = 0 ↔ (wts held (l.take k) u).isEmpty = true := onceL_len
        obtain ⟨N, hN⟩ : ∃ N, N = (onceL (wts held (l.take k) u)).length := ⟨_, rfl⟩
        obtain ⟨em, hem⟩ : ∃ em, em = (wts held (l.take k) u).isEmpty := ⟨_, rfl⟩
        rw [← hN, ← hem] at hen
        rw [← hN] at HWF
        rw [← hem] at hF
        obtain ⟨ut, uth, um⟩ := u
        simp only at c0 c1 c2 p0 p1 p2
        have HF := Lib.hid hF
        have HB0 := Lib.hid hb0w
        have HBW0 := Lib.hid hb0
        have HW0 := Lib.hid hW0
        have HEN := Lib.hid hen
        have hkc : (k : Int) ≤ (cap : Int) := by omega
        clear g0 g1 g2 hu hF hrt hb0 hb0w hW0 hB hxm hN hem hen hbd
        go_wp2_with fail
        rw [← HW0.out]
        go_region_held3 (fun wx => wx.cell? ⟨w.heap.size, 0, none⟩ = some (.slice ah nh ch) ∧ wx.cell? ⟨w.heap.size, 1, none⟩ = some (.slice (some ⟨b, o, none⟩) n cap) ∧ wx.cell? ⟨wr.heap.size, 0, none⟩ = some (.int .i64 ut) ∧ wx.cell? ⟨wr.heap.size, 1, none⟩ = some (.string uth) ∧ wx.cell? ⟨wr.heap.size, 2, none⟩ = some (.int .i64 um))
          ((first
            | (with_reducible exact ⟨cell_dr q0, cell_dr q1, cell_dr p0, cell_dr p1, cell_dr p2⟩)
            | (with_reducible exact ⟨cell_of_below hb2 q0, cell_of_below hb2 q1, cell_of_below hb2 p0, cell_of_below hb2 p1, cell_of_below hb2 p2⟩)))
          ((first
            | (go_at_call 20; ((with_reducible refine HWF.out.mono ?_); rintro e w2 ⟨av, nv, cv, rfl, rfl, hb2⟩))))
        have HB2 := Lib.hid (into HBW0.out hb2)
        clear hb2 p0 p1 p2 q0 q1 c0 c1 c2 HWF
        by_cases hN0 : nv = 0
        · have hY : freeP held l k = true := by rw [HF.out]; exact HEN.out.1 hN0
          have HY := Lib.hid hY
          subst hN0
          clear hY
          go_wp2_with fail
          go_ret
          exact ⟨ri (freeI_hit (by rw [← HN.out]; exact hlt) HA.out HY.out).symm, into HBB.out HB2.out⟩
        · have hY : freeP held l k = false := by
            rw [HF.out]
            cases em
            · rfl
            · exact absurd (HEN.out.2 rfl) hN0
          have HY := Lib.hid hY
          have hnv : ((nv : Int) == 0) = false := by simpa using hN0
          have hnvI : ¬ (nv : Int) = 0 := by omega
          clear hY
          go_wp2_with fail
          go_roundw
          case rel =>
            refine ⟨k + 1, by omega, by go_num, fun j hj => ?_, HB2.out⟩
            rcases Nat.lt_or_ge j k with h | h
            · exact HA.out j h
            · obtain rfl : j = k := by omega
              exact HY.out
          case measure => (simp [intOf]) <;> omega
      · obtain rfl : k = n := by omega
        go_wp2_with fail
        go_ret
        exact ⟨ri (freeI_none (fun j hj => HA.out j (by rw [HN.out]; exact hj))).symm, into HBB.out HB.out⟩
end Go.Proofs.YtpddlckkncmlmaaDoor
