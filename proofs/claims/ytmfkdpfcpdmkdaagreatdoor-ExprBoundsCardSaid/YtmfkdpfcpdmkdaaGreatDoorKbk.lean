import Derived.Test.YtmfkdpfcpdmkdaaGreatDoorKak
/- The kind of an expression: the document, at a node of two things. -/
namespace Go.Proofs.YtmfkdpfcpdmkdaaGreatDoor
open Go.ChangeShapes Go.WideShapes Go.ChangeAt Go.RowKit
set_option linter.unusedVariables false
set_option linter.unusedSimpArgs false
set_option maxHeartbeats 4000000
set_option maxRecDepth 100000
theorem kd_bi (w : World) (n m : Nat) (v u : Value) (l : List Cq) (o : Oq) (a c : Tx) (ho : wks o.k = 2) (hcok : c.ok) (hm : m = a.flat.length + c.flat.length + 1) (hm2 : m ≤ 1000) (hr : Rd w 2 n v (ccs l)) (hu : Rd w 5 m u (ocs (a.flat ++ c.flat ++ [o])))
    (ih : ∀ W u', Below w.heap.size w W → Rd W 5 a.flat.length u' (ocs a.flat) → Calls Tryz.prog 37 #[v, u'] W (LeafIs (evT (lfK l) onK twK a) W))
    (ih2 : ∀ W u', Below w.heap.size w W → Rd W 5 c.flat.length u' (ocs c.flat) → Calls Tryz.prog 37 #[v, u'] W (LeafIs (evT (lfK l) onK twK c) W)) :
    Calls Tryz.prog 37 #[v, u] w (LeafIs (evT (lfK l) onK twK (.bi o a c)) w) := by
  have hap := a.flat_pos
  have hcp := c.flat_pos
  obtain ⟨b, p, cap, rfl, hmc, hcm, hbw, hcell⟩ := ops_of hu (by omega)
  have hb0 := fun (W : World) (hW : Below w.heap.size w W) => begins_any W m _ (a.flat ++ c.flat ++ [o]) (hu.below hW) hm2 (a.flat.length + c.flat.length) (by omega) a.flat c hcok (by rw [List.take_left' (by simp)])
  obtain ⟨A, hA⟩ : ∃ N, N = a.flat.length := ⟨_, rfl⟩
  obtain ⟨C, hC⟩ : ∃ N, N = c.flat.length := ⟨_, rfl⟩
  obtain ⟨N, hN⟩ : ∃ N, N = A + C := ⟨_, rfl⟩
  rw [← hA, ← hC, ← hN] at hm hb0
  rw [← hA] at ih hap
  rw [← hC] at ih2 hcp
  obtain ⟨g0, g1, g2, g3, g4⟩ := hcell N (by omega)
  have hg : (a.flat ++ c.flat ++ [o]).getD N noq = o := by
    have : N = (a.flat ++ c.flat).length := by rw [List.length_append]; omega
    rw [this]; exact getD_last _ _
  rw [hg] at g0 g1 g2 g3 g4
  have ht := hu.take A (by omega)
  have e1 : (ocs (a.flat ++ c.flat ++ [o])).take (A * 5) = ocs a.flat := by rw [List.append_assoc, ocs_app, List.take_left' (by rw [ocs_len, hA])]
  rw [e1] at ht
  have hd := (hu.take N (by omega)).drop A (by omega)
  have e2 : ((ocs (a.flat ++ c.flat ++ [o])).take (N * 5)).drop (A * 5) = ocs c.flat := by
    rw [ocs_app (a.flat ++ c.flat), List.take_left' (by rw [ocs_len, List.length_append]; omega), ocs_app, List.drop_left' (by rw [ocs_len, hA])]
  rw [e2] at hd
  have hNA : N - A = C := by omega
  rw [hNA] at hd
  have hsl : sliced (some ⟨b, p, none⟩) A N cap 5 = .slice (some ⟨b, p + A * 5, none⟩) C (cap - A) := by
    unfold sliced
    rw [if_neg (by omega), hNA]
    simp [Addr.add]
    omega
  rw [hsl] at hd
  obtain ⟨k, ⟨vk, vn, vt⟩, t⟩ := o
  simp only at g0 g1 g2 g3 g4 ho
  have hb : Below w.heap.size w (w.alloc (.cells #[.int .i64 k, .int .i64 vk, .int .i64 vn, .string vt, .string t] 45)) := (Below.refl _ _).alloc (Nat.le_refl _) _
  have hbg := hb0 _ hb
  have hca := ih _ _ hb (ht.below hb)
  have hcb := fun (W : World) (hW : Below w.heap.size w W) => ih2 W _ hW (hd.below hW)
  obtain ⟨R1, hR1⟩ : ∃ R, R = (evT (lfK l) onK twK a).1 := ⟨_, rfl⟩
  obtain ⟨x, hR2⟩ : ∃ R, R = (evT (lfK l) onK twK a).2 := ⟨_, rfl⟩
  obtain ⟨S1, hS1⟩ : ∃ R, R = (evT (lfK l) onK twK c).1 := ⟨_, rfl⟩
  obtain ⟨y, hS2⟩ : ∃ R, R = (evT (lfK l) onK twK c).2 := ⟨_, rfl⟩
  have hz : R1 ≠ 0 → x = 0 := by rw [hR1, hR2]; exact evK_zero l a
  have hz2 : S1 ≠ 0 → y = 0 := by rw [hS1, hS2]; exact evK_zero l c
  have hev : evT (lfK l) onK twK (.bi ⟨k, ⟨vk, vn, vt⟩, t⟩ a c) = if R1 ≠ 0 then (R1, x) else if S1 ≠ 0 then (S1, y) else twK k x y := by
    rw [hR1, hR2, hS1, hS2]
    by_cases h : (evT (lfK l) onK twK a).1 = 0
    · rw [if_neg (by simpa using h)]
      by_cases h2 : (evT (lfK l) onK twK c).1 = 0
      · rw [ev_bi _ _ _ h h2, if_neg (by simpa using h2)]
      · rw [ev_bi_bad2 _ _ _ h h2, if_pos h2]
    · rw [ev_bi_bad _ _ _ h, if_pos h]
  unfold LeafIs at hca hcb
  rw [← hR1, ← hR2] at hca
  simp only [← hS1, ← hS2] at hcb
  have hi0 : (0 : Int) ≤ (N : Int) := by omega
  have hi1 : (N : Int) < (m : Int) := by omega
  have hi2 : (A : Int) ≤ (cap : Int) := by omega
  have hi3 : (A : Int) ≤ (N : Int) := by omega
  have hi4 : (N : Int) ≤ (cap : Int) := by omega
  have hi5 : (0 : Int) ≤ (A : Int) := by omega
  have hi6 : ¬ A = cap := by omega
  have hi7 : ¬ cap = A := by omega
  have hmi : (m : Int) - 1 = (N : Int) := by omega
  have hsub : N - A = C := by omega
  have HBG := Lib.hid hbg
  have HCA := Lib.hid hca
  have HCB := Lib.hid hcb
  have HB := Lib.hid hb
  have HEV := Lib.hid hev
  have HZ := Lib.hid (And.intro hz hz2)
  have HK0 : Hid ((w.alloc (.cells #[.int .i64 k, .int .i64 vk, .int .i64 vn, .string vt, .string t] 45)).cell? ⟨w.heap.size, 0, none⟩ = some (.int .i64 k)) := Lib.hid (by simp)
  have HWK : Hid (∀ W : World, Calls Tryz.prog 59 #[.int .i64 k] W fun e w' => e = .returned (.int .i64 2) ∧ W = w') := Lib.hid fun W => by
    have := works_any W k
    rw [ho] at this
    exact this
  clear hcell hg hu ht hd e1 e2 hsl ih ih2 hb0 hbg hca hcb hb hev hz hz2 hR1 hR2 hS1 hS2 hr hN hm hA hC hNA hmc
  obtain ⟨k1, k2, k5, k11⟩ := wks_2 ho
  have f1 : (k == 1) = false := by simpa using k1
  have f2 : (k == 2) = false := by simpa using k2
  have f5 : (k == 5) = false := by simpa using k5
  have f11 : (k == 11) = false := by simpa using k11
  by_cases h1 : R1 = 0
  · subst h1
    by_cases h2 : S1 = 0
    · subst h2
      by_cases k3 : k = 3
      · subst k3
        by_cases a1 : x = 1
        · subst a1
          by_cases b1 : y = 1
          · subst b1
            have HE : Hid (evT (lfK l) onK twK (.bi ⟨3, ⟨vk, vn, vt⟩, t⟩ a c) = (0, 1)) := Lib.hid (by rw [HEV.out, if_neg (by simp), if_neg (by simp)]; unfold twK; rw [if_pos (by omega)]; rfl)
            go_enter Tryz.func37, Tryz.ntmps37
            go_wp2_with fail
            refine (HWK.out _).mono ?_
            rintro e w1 ⟨rfl, rfl⟩
            go_wp2_with fail
            refine HBG.out.mono ?_
            rintro e w1 ⟨rfl, rfl⟩
            go_wp2_with fail
            refine HCA.out.mono ?_
            rintro e w2 ⟨rfl, hb2⟩
            have HB2 := Lib.hid (into HB.out hb2)
            have y0 := cell_blz hb2 HK0.out
            clear hb2
            go_wp2_with fail
            refine (HCB.out _ HB2.out).mono ?_
            rintro e w3 ⟨rfl, hb3⟩
            have HB3 := Lib.hid (into HB2.out hb3)
            have y1 := cell_blz hb3 y0
            clear hb3 y0
            go_wp2_with fail
            go_returns
            rw [HE.out]
            exact ⟨rfl, HB3.out⟩
          · by_cases b0 : y = 0
            · subst b0
              have HE : Hid (evT (lfK l) onK twK (.bi ⟨3, ⟨vk, vn, vt⟩, t⟩ a c) = (0, 1)) := Lib.hid (by rw [HEV.out, if_neg (by simp), if_neg (by simp)]; unfold twK; rw [if_pos (by omega)]; rfl)
              go_enter Tryz.func37, Tryz.ntmps37
              go_wp2_with fail
              refine (HWK.out _).mono ?_
              rintro e w1 ⟨rfl, rfl⟩
              go_wp2_with fail
              refine HBG.out.mono ?_
              rintro e w1 ⟨rfl, rfl⟩
              go_wp2_with fail
              refine HCA.out.mono ?_
              rintro e w2 ⟨rfl, hb2⟩
              have HB2 := Lib.hid (into HB.out hb2)
              have y0 := cell_blz hb2 HK0.out
              clear hb2
              go_wp2_with fail
              refine (HCB.out _ HB2.out).mono ?_
              rintro e w3 ⟨rfl, hb3⟩
              have HB3 := Lib.hid (into HB2.out hb3)
              have y1 := cell_blz hb3 y0
              clear hb3 y0
              go_wp2_with fail
              go_returns
              rw [HE.out]
              exact ⟨rfl, HB3.out⟩
            · have HE : Hid (evT (lfK l) onK twK (.bi ⟨3, ⟨vk, vn, vt⟩, t⟩ a c) = (4, 0)) := Lib.hid (by rw [HEV.out, if_neg (by simp), if_neg (by simp)]; unfold twK; rw [if_pos (by omega)]; unfold ifK; rw [if_pos (.inr (by omega))])
              have qe : (y == 1) = false := by simpa using b1
              have qn : (y != 1) = true := by simpa using b1
              have re : (y == 0) = false := by simpa using b0
              have rn : (y != 0) = true := by simpa using b0
              clear b1 b0
              go_enter Tryz.func37, Tryz.ntmps37
              go_wp2_with fail
              refine (HWK.out _).mono ?_
              rintro e w1 ⟨rfl, rfl⟩
              go_wp2_with fail
              refine HBG.out.mono ?_
              rintro e w1 ⟨rfl, rfl⟩
              go_wp2_with fail
              refine HCA.out.mono ?_
              rintro e w2 ⟨rfl, hb2⟩
              have HB2 := Lib.hid (into HB.out hb2)
              have y0 := cell_blz hb2 HK0.out
              clear hb2
              go_wp2_with fail
              refine (HCB.out _ HB2.out).mono ?_
              rintro e w3 ⟨rfl, hb3⟩
              have HB3 := Lib.hid (into HB2.out hb3)
              have y1 := cell_blz hb3 y0
              clear hb3 y0
              go_wp2_with fail
              go_returns
              rw [HE.out]
              exact ⟨rfl, HB3.out⟩
        · by_cases a0 : x = 0
          · subst a0
            by_cases b1 : y = 1
            · subst b1
              have HE : Hid (evT (lfK l) onK twK (.bi ⟨3, ⟨vk, vn, vt⟩, t⟩ a c) = (0, 1)) := Lib.hid (by rw [HEV.out, if_neg (by simp), if_neg (by simp)]; unfold twK; rw [if_pos (by omega)]; rfl)
              go_enter Tryz.func37, Tryz.ntmps37
              go_wp2_with fail
              refine (HWK.out _).mono ?_
              rintro e w1 ⟨rfl, rfl⟩
              go_wp2_with fail
              refine HBG.out.mono ?_
              rintro e w1 ⟨rfl, rfl⟩
              go_wp2_with fail
              refine HCA.out.mono ?_
              rintro e w2 ⟨rfl, hb2⟩
              have HB2 := Lib.hid (into HB.out hb2)
              have y0 := cell_blz hb2 HK0.out
              clear hb2
              go_wp2_with fail
              refine (HCB.out _ HB2.out).mono ?_
              rintro e w3 ⟨rfl, hb3⟩
              have HB3 := Lib.hid (into HB2.out hb3)
              have y1 := cell_blz hb3 y0
              clear hb3 y0
              go_wp2_with fail
              go_returns
              rw [HE.out]
              exact ⟨rfl, HB3.out⟩
            · by_cases b0 : y = 0
              · subst b0
                have HE : Hid (evT (lfK l) onK twK (.bi ⟨3, ⟨vk, vn, vt⟩, t⟩ a c) = (0, 1)) := Lib.hid (by rw [HEV.out, if_neg (by simp), if_neg (by simp)]; unfold twK; rw [if_pos (by omega)]; rfl)
                go_enter Tryz.func37, Tryz.ntmps37
                go_wp2_with fail
                refine (HWK.out _).mono ?_
                rintro e w1 ⟨rfl, rfl⟩
                go_wp2_with fail
                refine HBG.out.mono ?_
                rintro e w1 ⟨rfl, rfl⟩
                go_wp2_with fail
                refine HCA.out.mono ?_
                rintro e w2 ⟨rfl, hb2⟩
                have HB2 := Lib.hid (into HB.out hb2)
                have y0 := cell_blz hb2 HK0.out
                clear hb2
                go_wp2_with fail
                refine (HCB.out _ HB2.out).mono ?_
                rintro e w3 ⟨rfl, hb3⟩
                have HB3 := Lib.hid (into HB2.out hb3)
                have y1 := cell_blz hb3 y0
                clear hb3 y0
                go_wp2_with fail
                go_returns
                rw [HE.out]
                exact ⟨rfl, HB3.out⟩
              · have HE : Hid (evT (lfK l) onK twK (.bi ⟨3, ⟨vk, vn, vt⟩, t⟩ a c) = (4, 0)) := Lib.hid (by rw [HEV.out, if_neg (by simp), if_neg (by simp)]; unfold twK; rw [if_pos (by omega)]; unfold ifK; rw [if_pos (.inr (by omega))])
                have qe : (y == 1) = false := by simpa using b1
                have qn : (y != 1) = true := by simpa using b1
                have re : (y == 0) = false := by simpa using b0
                have rn : (y != 0) = true := by simpa using b0
                clear b1 b0
                go_enter Tryz.func37, Tryz.ntmps37
                go_wp2_with fail
                refine (HWK.out _).mono ?_
                rintro e w1 ⟨rfl, rfl⟩
                go_wp2_with fail
                refine HBG.out.mono ?_
                rintro e w1 ⟨rfl, rfl⟩
                go_wp2_with fail
                refine HCA.out.mono ?_
                rintro e w2 ⟨rfl, hb2⟩
                have HB2 := Lib.hid (into HB.out hb2)
                have y0 := cell_blz hb2 HK0.out
                clear hb2
                go_wp2_with fail
                refine (HCB.out _ HB2.out).mono ?_
                rintro e w3 ⟨rfl, hb3⟩
                have HB3 := Lib.hid (into HB2.out hb3)
                have y1 := cell_blz hb3 y0
                clear hb3 y0
                go_wp2_with fail
                go_returns
                rw [HE.out]
                exact ⟨rfl, HB3.out⟩
          · have HE : Hid (evT (lfK l) onK twK (.bi ⟨3, ⟨vk, vn, vt⟩, t⟩ a c) = (4, 0)) := Lib.hid (by rw [HEV.out, if_neg (by simp), if_neg (by simp)]; unfold twK; rw [if_pos (by omega)]; unfold ifK; rw [if_pos (.inl (by omega))])
            have qe : (x == 1) = false := by simpa using a1
            have qn : (x != 1) = true := by simpa using a1
            have re : (x == 0) = false := by simpa using a0
            have rn : (x != 0) = true := by simpa using a0
            clear a1 a0
            go_enter Tryz.func37, Tryz.ntmps37
            go_wp2_with fail
            refine (HWK.out _).mono ?_
            rintro e w1 ⟨rfl, rfl⟩
            go_wp2_with fail
            refine HBG.out.mono ?_
            rintro e w1 ⟨rfl, rfl⟩
            go_wp2_with fail
            refine HCA.out.mono ?_
            rintro e w2 ⟨rfl, hb2⟩
            have HB2 := Lib.hid (into HB.out hb2)
            have y0 := cell_blz hb2 HK0.out
            clear hb2
            go_wp2_with fail
            refine (HCB.out _ HB2.out).mono ?_
            rintro e w3 ⟨rfl, hb3⟩
            have HB3 := Lib.hid (into HB2.out hb3)
            have y1 := cell_blz hb3 y0
            clear hb3 y0
            go_wp2_with fail
            go_returns
            rw [HE.out]
            exact ⟨rfl, HB3.out⟩
      · by_cases k4 : k = 4
        · subst k4
          by_cases a1 : x = 1
          · subst a1
            by_cases b1 : y = 1
            · subst b1
              have HE : Hid (evT (lfK l) onK twK (.bi ⟨4, ⟨vk, vn, vt⟩, t⟩ a c) = (0, 1)) := Lib.hid (by rw [HEV.out, if_neg (by simp), if_neg (by simp)]; unfold twK; rw [if_pos (by omega)]; rfl)
              go_enter Tryz.func37, Tryz.ntmps37
              go_wp2_with fail
              refine (HWK.out _).mono ?_
              rintro e w1 ⟨rfl, rfl⟩
              go_wp2_with fail
              refine HBG.out.mono ?_
              rintro e w1 ⟨rfl, rfl⟩
              go_wp2_with fail
              refine HCA.out.mono ?_
              rintro e w2 ⟨rfl, hb2⟩
              have HB2 := Lib.hid (into HB.out hb2)
              have y0 := cell_blz hb2 HK0.out
              clear hb2
              go_wp2_with fail
              refine (HCB.out _ HB2.out).mono ?_
              rintro e w3 ⟨rfl, hb3⟩
              have HB3 := Lib.hid (into HB2.out hb3)
              have y1 := cell_blz hb3 y0
              clear hb3 y0
              go_wp2_with fail
              go_returns
              rw [HE.out]
              exact ⟨rfl, HB3.out⟩
            · by_cases b0 : y = 0
              · subst b0
                have HE : Hid (evT (lfK l) onK twK (.bi ⟨4, ⟨vk, vn, vt⟩, t⟩ a c) = (0, 1)) := Lib.hid (by rw [HEV.out, if_neg (by simp), if_neg (by simp)]; unfold twK; rw [if_pos (by omega)]; rfl)
                go_enter Tryz.func37, Tryz.ntmps37
                go_wp2_with fail
                refine (HWK.out _).mono ?_
                rintro e w1 ⟨rfl, rfl⟩
                go_wp2_with fail
                refine HBG.out.mono ?_
                rintro e w1 ⟨rfl, rfl⟩
                go_wp2_with fail
                refine HCA.out.mono ?_
                rintro e w2 ⟨rfl, hb2⟩
                have HB2 := Lib.hid (into HB.out hb2)
                have y0 := cell_blz hb2 HK0.out
                clear hb2
                go_wp2_with fail
                refine (HCB.out _ HB2.out).mono ?_
                rintro e w3 ⟨rfl, hb3⟩
                have HB3 := Lib.hid (into HB2.out hb3)
                have y1 := cell_blz hb3 y0
                clear hb3 y0
                go_wp2_with fail
                go_returns
                rw [HE.out]
                exact ⟨rfl, HB3.out⟩
              · have HE : Hid (evT (lfK l) onK twK (.bi ⟨4, ⟨vk, vn, vt⟩, t⟩ a c) = (4, 0)) := Lib.hid (by rw [HEV.out, if_neg (by simp), if_neg (by simp)]; unfold twK; rw [if_pos (by omega)]; unfold ifK; rw [if_pos (.inr (by omega))])
                have qe : (y == 1) = false := by simpa using b1
                have qn : (y != 1) = true := by simpa using b1
                have re : (y == 0) = false := by simpa using b0
                have rn : (y != 0) = true := by simpa using b0
                clear b1 b0
                go_enter Tryz.func37, Tryz.ntmps37
                go_wp2_with fail
                refine (HWK.out _).mono ?_
                rintro e w1 ⟨rfl, rfl⟩
                go_wp2_with fail
                refine HBG.out.mono ?_
                rintro e w1 ⟨rfl, rfl⟩
                go_wp2_with fail
                refine HCA.out.mono ?_
                rintro e w2 ⟨rfl, hb2⟩
                have HB2 := Lib.hid (into HB.out hb2)
                have y0 := cell_blz hb2 HK0.out
                clear hb2
                go_wp2_with fail
                refine (HCB.out _ HB2.out).mono ?_
                rintro e w3 ⟨rfl, hb3⟩
                have HB3 := Lib.hid (into HB2.out hb3)
                have y1 := cell_blz hb3 y0
                clear hb3 y0
                go_wp2_with fail
                go_returns
                rw [HE.out]
                exact ⟨rfl, HB3.out⟩
          · by_cases a0 : x = 0
            · subst a0
              by_cases b1 : y = 1
              · subst b1
                have HE : Hid (evT (lfK l) onK twK (.bi ⟨4, ⟨vk, vn, vt⟩, t⟩ a c) = (0, 1)) := Lib.hid (by rw [HEV.out, if_neg (by simp), if_neg (by simp)]; unfold twK; rw [if_pos (by omega)]; rfl)
                go_enter Tryz.func37, Tryz.ntmps37
                go_wp2_with fail
                refine (HWK.out _).mono ?_
                rintro e w1 ⟨rfl, rfl⟩
                go_wp2_with fail
                refine HBG.out.mono ?_
                rintro e w1 ⟨rfl, rfl⟩
                go_wp2_with fail
                refine HCA.out.mono ?_
                rintro e w2 ⟨rfl, hb2⟩
                have HB2 := Lib.hid (into HB.out hb2)
                have y0 := cell_blz hb2 HK0.out
                clear hb2
                go_wp2_with fail
                refine (HCB.out _ HB2.out).mono ?_
                rintro e w3 ⟨rfl, hb3⟩
                have HB3 := Lib.hid (into HB2.out hb3)
                have y1 := cell_blz hb3 y0
                clear hb3 y0
                go_wp2_with fail
                go_returns
                rw [HE.out]
                exact ⟨rfl, HB3.out⟩
              · by_cases b0 : y = 0
                · subst b0
                  have HE : Hid (evT (lfK l) onK twK (.bi ⟨4, ⟨vk, vn, vt⟩, t⟩ a c) = (0, 1)) := Lib.hid (by rw [HEV.out, if_neg (by simp), if_neg (by simp)]; unfold twK; rw [if_pos (by omega)]; rfl)
                  go_enter Tryz.func37, Tryz.ntmps37
                  go_wp2_with fail
                  refine (HWK.out _).mono ?_
                  rintro e w1 ⟨rfl, rfl⟩
                  go_wp2_with fail
                  refine HBG.out.mono ?_
                  rintro e w1 ⟨rfl, rfl⟩
                  go_wp2_with fail
                  refine HCA.out.mono ?_
                  rintro e w2 ⟨rfl, hb2⟩
                  have HB2 := Lib.hid (into HB.out hb2)
                  have y0 := cell_blz hb2 HK0.out
                  clear hb2
                  go_wp2_with fail
                  refine (HCB.out _ HB2.out).mono ?_
                  rintro e w3 ⟨rfl, hb3⟩
                  have HB3 := Lib.hid (into HB2.out hb3)
                  have y1 := cell_blz hb3 y0
                  clear hb3 y0
                  go_wp2_with fail
                  go_returns
                  rw [HE.out]
                  exact ⟨rfl, HB3.out⟩
                · have HE : Hid (evT (lfK l) onK twK (.bi ⟨4, ⟨vk, vn, vt⟩, t⟩ a c) = (4, 0)) := Lib.hid (by rw [HEV.out, if_neg (by simp), if_neg (by simp)]; unfold twK; rw [if_pos (by omega)]; unfold ifK; rw [if_pos (.inr (by omega))])
                  have qe : (y == 1) = false := by simpa using b1
                  have qn : (y != 1) = true := by simpa using b1
                  have re : (y == 0) = false := by simpa using b0
                  have rn : (y != 0) = true := by simpa using b0
                  clear b1 b0
                  go_enter Tryz.func37, Tryz.ntmps37
                  go_wp2_with fail
                  refine (HWK.out _).mono ?_
                  rintro e w1 ⟨rfl, rfl⟩
                  go_wp2_with fail
                  refine HBG.out.mono ?_
                  rintro e w1 ⟨rfl, rfl⟩
                  go_wp2_with fail
                  refine HCA.out.mono ?_
                  rintro e w2 ⟨rfl, hb2⟩
                  have HB2 := Lib.hid (into HB.out hb2)
                  have y0 := cell_blz hb2 HK0.out
                  clear hb2
                  go_wp2_with fail
                  refine (HCB.out _ HB2.out).mono ?_
                  rintro e w3 ⟨rfl, hb3⟩
                  have HB3 := Lib.hid (into HB2.out hb3)
                  have y1 := cell_blz hb3 y0
                  clear hb3 y0
                  go_wp2_with fail
                  go_returns
                  rw [HE.out]
                  exact ⟨rfl, HB3.out⟩
            · have HE : Hid (evT (lfK l) onK twK (.bi ⟨4, ⟨vk, vn, vt⟩, t⟩ a c) = (4, 0)) := Lib.hid (by rw [HEV.out, if_neg (by simp), if_neg (by simp)]; unfold twK; rw [if_pos (by omega)]; unfold ifK; rw [if_pos (.inl (by omega))])
              have qe : (x == 1) = false := by simpa using a1
              have qn : (x != 1) = true := by simpa using a1
              have re : (x == 0) = false := by simpa using a0
              have rn : (x != 0) = true := by simpa using a0
              clear a1 a0
              go_enter Tryz.func37, Tryz.ntmps37
              go_wp2_with fail
              refine (HWK.out _).mono ?_
              rintro e w1 ⟨rfl, rfl⟩
              go_wp2_with fail
              refine HBG.out.mono ?_
              rintro e w1 ⟨rfl, rfl⟩
              go_wp2_with fail
              refine HCA.out.mono ?_
              rintro e w2 ⟨rfl, hb2⟩
              have HB2 := Lib.hid (into HB.out hb2)
              have y0 := cell_blz hb2 HK0.out
              clear hb2
              go_wp2_with fail
              refine (HCB.out _ HB2.out).mono ?_
              rintro e w3 ⟨rfl, hb3⟩
              have HB3 := Lib.hid (into HB2.out hb3)
              have y1 := cell_blz hb3 y0
              clear hb3 y0
              go_wp2_with fail
              go_returns
              rw [HE.out]
              exact ⟨rfl, HB3.out⟩
        · by_cases k6 : k = 6
          · subst k6
            by_cases a1 : x = y
            · subst a1
              have q1 : (x != x) = false := by simp
              have HE : Hid (evT (lfK l) onK twK (.bi ⟨6, ⟨vk, vn, vt⟩, t⟩ a c) = (0, 1)) := Lib.hid (by rw [HEV.out, if_neg (by simp), if_neg (by simp)]; unfold twK; rw [if_neg (by omega), if_pos (by omega), if_neg (by simp)])
              go_enter Tryz.func37, Tryz.ntmps37
              go_wp2_with fail
              refine (HWK.out _).mono ?_
              rintro e w1 ⟨rfl, rfl⟩
              go_wp2_with fail
              refine HBG.out.mono ?_
              rintro e w1 ⟨rfl, rfl⟩
              go_wp2_with fail
              refine HCA.out.mono ?_
              rintro e w2 ⟨rfl, hb2⟩
              have HB2 := Lib.hid (into HB.out hb2)
              have y0 := cell_blz hb2 HK0.out
              clear hb2
              go_wp2_with fail
              refine (HCB.out _ HB2.out).mono ?_
              rintro e w3 ⟨rfl, hb3⟩
              have HB3 := Lib.hid (into HB2.out hb3)
              have y1 := cell_blz hb3 y0
              clear hb3 y0
              go_wp2_with fail
              go_returns
              rw [HE.out]
              exact ⟨rfl, HB3.out⟩
            · by_cases a0 : x = 0
              · subst a0
                have HE : Hid (evT (lfK l) onK twK (.bi ⟨6, ⟨vk, vn, vt⟩, t⟩ a c) = (0, 1)) := Lib.hid (by rw [HEV.out, if_neg (by simp), if_neg (by simp)]; unfold twK; rw [if_neg (by omega), if_pos (by omega), if_neg (by simp)])
                have qe : ((0 : Int) == y) = false := by simpa using a1
                have qn : ((0 : Int) != y) = true := by simpa using a1
                go_enter Tryz.func37, Tryz.ntmps37
                go_wp2_with fail
                refine (HWK.out _).mono ?_
                rintro e w1 ⟨rfl, rfl⟩
                go_wp2_with fail
                refine HBG.out.mono ?_
                rintro e w1 ⟨rfl, rfl⟩
                go_wp2_with fail
                refine HCA.out.mono ?_
                rintro e w2 ⟨rfl, hb2⟩
                have HB2 := Lib.hid (into HB.out hb2)
                have y0 := cell_blz hb2 HK0.out
                clear hb2
                go_wp2_with fail
                refine (HCB.out _ HB2.out).mono ?_
                rintro e w3 ⟨rfl, hb3⟩
                have HB3 := Lib.hid (into HB2.out hb3)
                have y1 := cell_blz hb3 y0
                clear hb3 y0
                go_wp2_with fail
                go_returns
                rw [HE.out]
                exact ⟨rfl, HB3.out⟩
              · by_cases b0 : y = 0
                · subst b0
                  have HE : Hid (evT (lfK l) onK twK (.bi ⟨6, ⟨vk, vn, vt⟩, t⟩ a c) = (0, 1)) := Lib.hid (by rw [HEV.out, if_neg (by simp), if_neg (by simp)]; unfold twK; rw [if_neg (by omega), if_pos (by omega), if_neg (by simp)])
                  have qe : (x == 0) = false := by simpa using a0
                  have qn : (x != 0) = true := by simpa using a0
                  go_enter Tryz.func37, Tryz.ntmps37
                  go_wp2_with fail
                  refine (HWK.out _).mono ?_
                  rintro e w1 ⟨rfl, rfl⟩
                  go_wp2_with fail
                  refine HBG.out.mono ?_
                  rintro e w1 ⟨rfl, rfl⟩
                  go_wp2_with fail
                  refine HCA.out.mono ?_
                  rintro e w2 ⟨rfl, hb2⟩
                  have HB2 := Lib.hid (into HB.out hb2)
                  have y0 := cell_blz hb2 HK0.out
                  clear hb2
                  go_wp2_with fail
                  refine (HCB.out _ HB2.out).mono ?_
                  rintro e w3 ⟨rfl, hb3⟩
                  have HB3 := Lib.hid (into HB2.out hb3)
                  have y1 := cell_blz hb3 y0
                  clear hb3 y0
                  go_wp2_with fail
                  go_returns
                  rw [HE.out]
                  exact ⟨rfl, HB3.out⟩
                · have HE : Hid (evT (lfK l) onK twK (.bi ⟨6, ⟨vk, vn, vt⟩, t⟩ a c) = (4, 0)) := Lib.hid (by rw [HEV.out, if_neg (by simp), if_neg (by simp)]; unfold twK; rw [if_neg (by omega), if_pos (by omega), if_pos ⟨by omega, b0⟩])
                  have qe : (x == y) = false := by simpa using a1
                  have qn : (x != y) = true := by simpa using a1
                  have re : (x == 0) = false := by simpa using a0
                  have rn : (x != 0) = true := by simpa using a0
                  have se : (y == 0) = false := by simpa using b0
                  have sn : (y != 0) = true := by simpa using b0
                  clear a1 a0 b0
                  go_enter Tryz.func37, Tryz.ntmps37
                  go_wp2_with fail
                  refine (HWK.out _).mono ?_
                  rintro e w1 ⟨rfl, rfl⟩
                  go_wp2_with fail
                  refine HBG.out.mono ?_
                  rintro e w1 ⟨rfl, rfl⟩
                  go_wp2_with fail
                  refine HCA.out.mono ?_
                  rintro e w2 ⟨rfl, hb2⟩
                  have HB2 := Lib.hid (into HB.out hb2)
                  have y0 := cell_blz hb2 HK0.out
                  clear hb2
                  go_wp2_with fail
                  refine (HCB.out _ HB2.out).mono ?_
                  rintro e w3 ⟨rfl, hb3⟩
                  have HB3 := Lib.hid (into HB2.out hb3)
                  have y1 := cell_blz hb3 y0
                  clear hb3 y0
                  go_wp2_with fail
                  go_returns
                  rw [HE.out]
                  exact ⟨rfl, HB3.out⟩
          · by_cases k7 : k = 7
            · subst k7
              by_cases a1 : x = y
              · subst a1
                have q1 : (x != x) = false := by simp
                have HE : Hid (evT (lfK l) onK twK (.bi ⟨7, ⟨vk, vn, vt⟩, t⟩ a c) = (0, 1)) := Lib.hid (by rw [HEV.out, if_neg (by simp), if_neg (by simp)]; unfold twK; rw [if_neg (by omega), if_pos (by omega), if_neg (by simp)])
                go_enter Tryz.func37, Tryz.ntmps37
                go_wp2_with fail
                refine (HWK.out _).mono ?_
                rintro e w1 ⟨rfl, rfl⟩
                go_wp2_with fail
                refine HBG.out.mono ?_
                rintro e w1 ⟨rfl, rfl⟩
                go_wp2_with fail
                refine HCA.out.mono ?_
                rintro e w2 ⟨rfl, hb2⟩
                have HB2 := Lib.hid (into HB.out hb2)
                have y0 := cell_blz hb2 HK0.out
                clear hb2
                go_wp2_with fail
                refine (HCB.out _ HB2.out).mono ?_
                rintro e w3 ⟨rfl, hb3⟩
                have HB3 := Lib.hid (into HB2.out hb3)
                have y1 := cell_blz hb3 y0
                clear hb3 y0
                go_wp2_with fail
                go_returns
                rw [HE.out]
                exact ⟨rfl, HB3.out⟩
              · by_cases a0 : x = 0
                · subst a0
                  have HE : Hid (evT (lfK l) onK twK (.bi ⟨7, ⟨vk, vn, vt⟩, t⟩ a c) = (0, 1)) := Lib.hid (by rw [HEV.out, if_neg (by simp), if_neg (by simp)]; unfold twK; rw [if_neg (by omega), if_pos (by omega), if_neg (by simp)])
                  have qe : ((0 : Int) == y) = false := by simpa using a1
                  have qn : ((0 : Int) != y) = true := by simpa using a1
                  go_enter Tryz.func37, Tryz.ntmps37
                  go_wp2_with fail
                  refine (HWK.out _).mono ?_
                  rintro e w1 ⟨rfl, rfl⟩
                  go_wp2_with fail
                  refine HBG.out.mono ?_
                  rintro e w1 ⟨rfl, rfl⟩
                  go_wp2_with fail
                  refine HCA.out.mono ?_
                  rintro e w2 ⟨rfl, hb2⟩
                  have HB2 := Lib.hid (into HB.out hb2)
                  have y0 := cell_blz hb2 HK0.out
                  clear hb2
                  go_wp2_with fail
                  refine (HCB.out _ HB2.out).mono ?_
                  rintro e w3 ⟨rfl, hb3⟩
                  have HB3 := Lib.hid (into HB2.out hb3)
                  have y1 := cell_blz hb3 y0
                  clear hb3 y0
                  go_wp2_with fail
                  go_returns
                  rw [HE.out]
                  exact ⟨rfl, HB3.out⟩
                · by_cases b0 : y = 0
                  · subst b0
                    have HE : Hid (evT (lfK l) onK twK (.bi ⟨7, ⟨vk, vn, vt⟩, t⟩ a c) = (0, 1)) := Lib.hid (by rw [HEV.out, if_neg (by simp), if_neg (by simp)]; unfold twK; rw [if_neg (by omega), if_pos (by omega), if_neg (by simp)])
                    have qe : (x == 0) = false := by simpa using a0
                    have qn : (x != 0) = true := by simpa using a0
                    go_enter Tryz.func37, Tryz.ntmps37
                    go_wp2_with fail
                    refine (HWK.out _).mono ?_
                    rintro e w1 ⟨rfl, rfl⟩
                    go_wp2_with fail
                    refine HBG.out.mono ?_
                    rintro e w1 ⟨rfl, rfl⟩
                    go_wp2_with fail
                    refine HCA.out.mono ?_
                    rintro e w2 ⟨rfl, hb2⟩
                    have HB2 := Lib.hid (into HB.out hb2)
                    have y0 := cell_blz hb2 HK0.out
                    clear hb2
                    go_wp2_with fail
                    refine (HCB.out _ HB2.out).mono ?_
                    rintro e w3 ⟨rfl, hb3⟩
                    have HB3 := Lib.hid (into HB2.out hb3)
                    have y1 := cell_blz hb3 y0
                    clear hb3 y0
                    go_wp2_with fail
                    go_returns
                    rw [HE.out]
                    exact ⟨rfl, HB3.out⟩
                  · have HE : Hid (evT (lfK l) onK twK (.bi ⟨7, ⟨vk, vn, vt⟩, t⟩ a c) = (4, 0)) := Lib.hid (by rw [HEV.out, if_neg (by simp), if_neg (by simp)]; unfold twK; rw [if_neg (by omega), if_pos (by omega), if_pos ⟨by omega, b0⟩])
                    have qe : (x == y) = false := by simpa using a1
                    have qn : (x != y) = true := by simpa using a1
                    have re : (x == 0) = false := by simpa using a0
                    have rn : (x != 0) = true := by simpa using a0
                    have se : (y == 0) = false := by simpa using b0
                    have sn : (y != 0) = true := by simpa using b0
                    clear a1 a0 b0
                    go_enter Tryz.func37, Tryz.ntmps37
                    go_wp2_with fail
                    refine (HWK.out _).mono ?_
                    rintro e w1 ⟨rfl, rfl⟩
                    go_wp2_with fail
                    refine HBG.out.mono ?_
                    rintro e w1 ⟨rfl, rfl⟩
                    go_wp2_with fail
                    refine HCA.out.mono ?_
                    rintro e w2 ⟨rfl, hb2⟩
                    have HB2 := Lib.hid (into HB.out hb2)
                    have y0 := cell_blz hb2 HK0.out
                    clear hb2
                    go_wp2_with fail
                    refine (HCB.out _ HB2.out).mono ?_
                    rintro e w3 ⟨rfl, hb3⟩
                    have HB3 := Lib.hid (into HB2.out hb3)
                    have y1 := cell_blz hb3 y0
                    clear hb3 y0
                    go_wp2_with fail
                    go_returns
                    rw [HE.out]
                    exact ⟨rfl, HB3.out⟩
            · have f3 : (k == 3) = false := by simpa using k3
              have f4 : (k == 4) = false := by simpa using k4
              have f6 : (k == 6) = false := by simpa using k6
              have f7 : (k == 7) = false := by simpa using k7
              by_cases a1 : x = 2
              · subst a1
                by_cases b1 : y = 2
                · subst b1
                  have HE : Hid (evT (lfK l) onK twK (.bi ⟨k, ⟨vk, vn, vt⟩, t⟩ a c) = (0, 2)) := Lib.hid (by rw [HEV.out, if_neg (by simp), if_neg (by simp)]; unfold twK; rw [if_neg (by omega), if_neg (by omega)]; rfl)
                  go_enter Tryz.func37, Tryz.ntmps37
                  go_wp2_with fail
                  refine (HWK.out _).mono ?_
                  rintro e w1 ⟨rfl, rfl⟩
                  go_wp2_with fail
                  refine HBG.out.mono ?_
                  rintro e w1 ⟨rfl, rfl⟩
                  go_wp2_with fail
                  refine HCA.out.mono ?_
                  rintro e w2 ⟨rfl, hb2⟩
                  have HB2 := Lib.hid (into HB.out hb2)
                  have y0 := cell_blz hb2 HK0.out
                  clear hb2
                  go_wp2_with fail
                  refine (HCB.out _ HB2.out).mono ?_
                  rintro e w3 ⟨rfl, hb3⟩
                  have HB3 := Lib.hid (into HB2.out hb3)
                  have y1 := cell_blz hb3 y0
                  clear hb3 y0
                  go_wp2_with fail
                  go_returns
                  rw [HE.out]
                  exact ⟨rfl, HB3.out⟩
                · by_cases b0 : y = 0
                  · subst b0
                    have HE : Hid (evT (lfK l) onK twK (.bi ⟨k, ⟨vk, vn, vt⟩, t⟩ a c) = (0, 2)) := Lib.hid (by rw [HEV.out, if_neg (by simp), if_neg (by simp)]; unfold twK; rw [if_neg (by omega), if_neg (by omega)]; rfl)
                    go_enter Tryz.func37, Tryz.ntmps37
                    go_wp2_with fail
                    refine (HWK.out _).mono ?_
                    rintro e w1 ⟨rfl, rfl⟩
                    go_wp2_with fail
                    refine HBG.out.mono ?_
                    rintro e w1 ⟨rfl, rfl⟩
                    go_wp2_with fail
                    refine HCA.out.mono ?_
                    rintro e w2 ⟨rfl, hb2⟩
                    have HB2 := Lib.hid (into HB.out hb2)
                    have y0 := cell_blz hb2 HK0.out
                    clear hb2
                    go_wp2_with fail
                    refine (HCB.out _ HB2.out).mono ?_
                    rintro e w3 ⟨rfl, hb3⟩
                    have HB3 := Lib.hid (into HB2.out hb3)
                    have y1 := cell_blz hb3 y0
                    clear hb3 y0
                    go_wp2_with fail
                    go_returns
                    rw [HE.out]
                    exact ⟨rfl, HB3.out⟩
                  · have HE : Hid (evT (lfK l) onK twK (.bi ⟨k, ⟨vk, vn, vt⟩, t⟩ a c) = (4, 0)) := Lib.hid (by rw [HEV.out, if_neg (by simp), if_neg (by simp)]; unfold twK; rw [if_neg (by omega), if_neg (by omega)]; unfold ifK; rw [if_pos (.inr (by omega))])
                    have qe : (y == 2) = false := by simpa using b1
                    have qn : (y != 2) = true := by simpa using b1
                    have re : (y == 0) = false := by simpa using b0
                    have rn : (y != 0) = true := by simpa using b0
                    clear b1 b0
                    go_enter Tryz.func37, Tryz.ntmps37
                    go_wp2_with fail
                    refine (HWK.out _).mono ?_
                    rintro e w1 ⟨rfl, rfl⟩
                    go_wp2_with fail
                    refine HBG.out.mono ?_
                    rintro e w1 ⟨rfl, rfl⟩
                    go_wp2_with fail
                    refine HCA.out.mono ?_
                    rintro e w2 ⟨rfl, hb2⟩
                    have HB2 := Lib.hid (into HB.out hb2)
                    have y0 := cell_blz hb2 HK0.out
                    clear hb2
                    go_wp2_with fail
                    refine (HCB.out _ HB2.out).mono ?_
                    rintro e w3 ⟨rfl, hb3⟩
                    have HB3 := Lib.hid (into HB2.out hb3)
                    have y1 := cell_blz hb3 y0
                    clear hb3 y0
                    go_wp2_with fail
                    go_returns
                    rw [HE.out]
                    exact ⟨rfl, HB3.out⟩
              · by_cases a0 : x = 0
                · subst a0
                  by_cases b1 : y = 2
                  · subst b1
                    have HE : Hid (evT (lfK l) onK twK (.bi ⟨k, ⟨vk, vn, vt⟩, t⟩ a c) = (0, 2)) := Lib.hid (by rw [HEV.out, if_neg (by simp), if_neg (by simp)]; unfold twK; rw [if_neg (by omega), if_neg (by omega)]; rfl)
                    go_enter Tryz.func37, Tryz.ntmps37
                    go_wp2_with fail
                    refine (HWK.out _).mono ?_
                    rintro e w1 ⟨rfl, rfl⟩
                    go_wp2_with fail
                    refine HBG.out.mono ?_
                    rintro e w1 ⟨rfl, rfl⟩
                    go_wp2_with fail
                    refine HCA.out.mono ?_
                    rintro e w2 ⟨rfl, hb2⟩
                    have HB2 := Lib.hid (into HB.out hb2)
                    have y0 := cell_blz hb2 HK0.out
                    clear hb2
                    go_wp2_with fail
                    refine (HCB.out _ HB2.out).mono ?_
                    rintro e w3 ⟨rfl, hb3⟩
                    have HB3 := Lib.hid (into HB2.out hb3)
                    have y1 := cell_blz hb3 y0
                    clear hb3 y0
                    go_wp2_with fail
                    go_returns
                    rw [HE.out]
                    exact ⟨rfl, HB3.out⟩
                  · by_cases b0 : y = 0
                    · subst b0
                      have HE : Hid (evT (lfK l) onK twK (.bi ⟨k, ⟨vk, vn, vt⟩, t⟩ a c) = (0, 2)) := Lib.hid (by rw [HEV.out, if_neg (by simp), if_neg (by simp)]; unfold twK; rw [if_neg (by omega), if_neg (by omega)]; rfl)
                      go_enter Tryz.func37, Tryz.ntmps37
                      go_wp2_with fail
                      refine (HWK.out _).mono ?_
                      rintro e w1 ⟨rfl, rfl⟩
                      go_wp2_with fail
                      refine HBG.out.mono ?_
                      rintro e w1 ⟨rfl, rfl⟩
                      go_wp2_with fail
                      refine HCA.out.mono ?_
                      rintro e w2 ⟨rfl, hb2⟩
                      have HB2 := Lib.hid (into HB.out hb2)
                      have y0 := cell_blz hb2 HK0.out
                      clear hb2
                      go_wp2_with fail
                      refine (HCB.out _ HB2.out).mono ?_
                      rintro e w3 ⟨rfl, hb3⟩
                      have HB3 := Lib.hid (into HB2.out hb3)
                      have y1 := cell_blz hb3 y0
                      clear hb3 y0
                      go_wp2_with fail
                      go_returns
                      rw [HE.out]
                      exact ⟨rfl, HB3.out⟩
                    · have HE : Hid (evT (lfK l) onK twK (.bi ⟨k, ⟨vk, vn, vt⟩, t⟩ a c) = (4, 0)) := Lib.hid (by rw [HEV.out, if_neg (by simp), if_neg (by simp)]; unfold twK; rw [if_neg (by omega), if_neg (by omega)]; unfold ifK; rw [if_pos (.inr (by omega))])
                      have qe : (y == 2) = false := by simpa using b1
                      have qn : (y != 2) = true := by simpa using b1
                      have re : (y == 0) = false := by simpa using b0
                      have rn : (y != 0) = true := by simpa using b0
                      clear b1 b0
                      go_enter Tryz.func37, Tryz.ntmps37
                      go_wp2_with fail
                      refine (HWK.out _).mono ?_
                      rintro e w1 ⟨rfl, rfl⟩
                      go_wp2_with fail
                      refine HBG.out.mono ?_
                      rintro e w1 ⟨rfl, rfl⟩
                      go_wp2_with fail
                      refine HCA.out.mono ?_
                      rintro e w2 ⟨rfl, hb2⟩
                      have HB2 := Lib.hid (into HB.out hb2)
                      have y0 := cell_blz hb2 HK0.out
                      clear hb2
                      go_wp2_with fail
                      refine (HCB.out _ HB2.out).mono ?_
                      rintro e w3 ⟨rfl, hb3⟩
                      have HB3 := Lib.hid (into HB2.out hb3)
                      have y1 := cell_blz hb3 y0
                      clear hb3 y0
                      go_wp2_with fail
                      go_returns
                      rw [HE.out]
                      exact ⟨rfl, HB3.out⟩
                · have HE : Hid (evT (lfK l) onK twK (.bi ⟨k, ⟨vk, vn, vt⟩, t⟩ a c) = (4, 0)) := Lib.hid (by rw [HEV.out, if_neg (by simp), if_neg (by simp)]; unfold twK; rw [if_neg (by omega), if_neg (by omega)]; unfold ifK; rw [if_pos (.inl (by omega))])
                  have qe : (x == 2) = false := by simpa using a1
                  have qn : (x != 2) = true := by simpa using a1
                  have re : (x == 0) = false := by simpa using a0
                  have rn : (x != 0) = true := by simpa using a0
                  clear a1 a0
                  go_enter Tryz.func37, Tryz.ntmps37
                  go_wp2_with fail
                  refine (HWK.out _).mono ?_
                  rintro e w1 ⟨rfl, rfl⟩
                  go_wp2_with fail
                  refine HBG.out.mono ?_
                  rintro e w1 ⟨rfl, rfl⟩
                  go_wp2_with fail
                  refine HCA.out.mono ?_
                  rintro e w2 ⟨rfl, hb2⟩
                  have HB2 := Lib.hid (into HB.out hb2)
                  have y0 := cell_blz hb2 HK0.out
                  clear hb2
                  go_wp2_with fail
                  refine (HCB.out _ HB2.out).mono ?_
                  rintro e w3 ⟨rfl, hb3⟩
                  have HB3 := Lib.hid (into HB2.out hb3)
                  have y1 := cell_blz hb3 y0
                  clear hb3 y0
                  go_wp2_with fail
                  go_returns
                  rw [HE.out]
                  exact ⟨rfl, HB3.out⟩
    · have hz0 := HZ.out.2 h2
      subst hz0
      have HE : Hid (evT (lfK l) onK twK (.bi ⟨k, ⟨vk, vn, vt⟩, t⟩ a c) = (S1, 0)) := Lib.hid (by rw [HEV.out, if_neg (by simp), if_pos h2])
      have b1 : (S1 == 0) = false := by simpa using h2
      have b2 : (S1 != 0) = true := by simpa using h2
      clear h2 HZ HEV
      go_enter Tryz.func37, Tryz.ntmps37
      go_wp2_with fail
      refine (HWK.out _).mono ?_
      rintro e w1 ⟨rfl, rfl⟩
      go_wp2_with fail
      refine HBG.out.mono ?_
      rintro e w1 ⟨rfl, rfl⟩
      go_wp2_with fail
      refine HCA.out.mono ?_
      rintro e w2 ⟨rfl, hb2⟩
      have HB2 := Lib.hid (into HB.out hb2)
      have y0 := cell_blz hb2 HK0.out
      clear hb2
      go_wp2_with fail
      refine (HCB.out _ HB2.out).mono ?_
      rintro e w3 ⟨rfl, hb3⟩
      have HB3 := Lib.hid (into HB2.out hb3)
      have y1 := cell_blz hb3 y0
      clear hb3 y0
      go_wp2_with fail
      go_returns
      rw [HE.out]
      exact ⟨rfl, HB3.out⟩
  · have hz0 := HZ.out.1 h1
    subst hz0
    have HE : Hid (evT (lfK l) onK twK (.bi ⟨k, ⟨vk, vn, vt⟩, t⟩ a c) = (R1, 0)) := Lib.hid (by rw [HEV.out, if_pos h1])
    have b1 : (R1 == 0) = false := by simpa using h1
    have b2 : (R1 != 0) = true := by simpa using h1
    clear h1 HZ HEV
    go_enter Tryz.func37, Tryz.ntmps37
    go_wp2_with fail
    refine (HWK.out _).mono ?_
    rintro e w1 ⟨rfl, rfl⟩
    go_wp2_with fail
    refine HBG.out.mono ?_
    rintro e w1 ⟨rfl, rfl⟩
    go_wp2_with fail
    refine HCA.out.mono ?_
    rintro e w2 ⟨rfl, hb2⟩
    have HB2 := Lib.hid (into HB.out hb2)
    have y0 := cell_blz hb2 HK0.out
    clear hb2
    go_wp2_with fail
    go_returns
    rw [HE.out]
    exact ⟨rfl, HB2.out⟩
end Go.Proofs.YtmfkdpfcpdmkdaaGreatDoor
