import Derived.Test.YtmfkdpfcpdmkdaaGreatDoorYfk
import Derived.Test.YtmfkdpfcpdmkdaaGreatDoorUik
/- The kind of an expression: the document, at a node of one thing. -/
namespace Go.Proofs.YtmfkdpfcpdmkdaaGreatDoor
open Go.ChangeShapes Go.WideShapes Go.ChangeAt Go.RowKit
set_option linter.unusedVariables false
set_option linter.unusedSimpArgs false
set_option maxHeartbeats 4000000
set_option maxRecDepth 100000
theorem ocs_len (a : List Oq) : (ocs a).length = a.length * 5 := by
  induction a with
  | nil => rfl
  | cons x r ih => rw [show x :: r = [x] ++ r from rfl, ocs_app, List.length_append, ih, List.length_append]; simp [ocs]; omega
theorem kd_un (w : World) (n m : Nat) (v u : Value) (l : List Cq) (o : Oq) (a : Tx) (ho : wks o.k = 1) (hm : m = a.flat.length + 1) (hm2 : m ≤ 1000) (hr : Rd w 2 n v (ccs l)) (hu : Rd w 5 m u (ocs (a.flat ++ [o])))
    (ih : ∀ W u', Below w.heap.size w W → Rd W 5 a.flat.length u' (ocs a.flat) → Calls Tryz.prog 37 #[v, u'] W (LeafIs (evT (lfK l) onK twK a) W)) :
    Calls Tryz.prog 37 #[v, u] w (LeafIs (evT (lfK l) onK twK (.un o a)) w) := by
  obtain ⟨b, p, cap, rfl, hmc, hcm, hbw, hcell⟩ := ops_of hu (by omega)
  obtain ⟨N, hN⟩ : ∃ N, N = a.flat.length := ⟨_, rfl⟩
  rw [← hN] at hm ih
  obtain ⟨g0, g1, g2, g3, g4⟩ := hcell N (by omega)
  have hg : (a.flat ++ [o]).getD N noq = o := by rw [hN]; exact getD_last _ _
  rw [hg] at g0 g1 g2 g3 g4
  have ht := hu.take N (by omega)
  have e1 : (ocs (a.flat ++ [o])).take (N * 5) = ocs a.flat := by rw [ocs_app, List.take_left' (by rw [ocs_len, hN])]
  rw [e1] at ht
  obtain ⟨k, ⟨vk, vn, vt⟩, t⟩ := o
  simp only at g0 g1 g2 g3 g4 ho
  have hb : Below w.heap.size w (w.alloc (.cells #[.int .i64 k, .int .i64 vk, .int .i64 vn, .string vt, .string t] 45)) := (Below.refl _ _).alloc (Nat.le_refl _) _
  have hc := ih _ _ hb (ht.below hb)
  obtain ⟨R1, hR1⟩ : ∃ R, R = (evT (lfK l) onK twK a).1 := ⟨_, rfl⟩
  obtain ⟨R2, hR2⟩ : ∃ R, R = (evT (lfK l) onK twK a).2 := ⟨_, rfl⟩
  have hz : R1 ≠ 0 → R2 = 0 := by rw [hR1, hR2]; exact evK_zero l a
  have hev : evT (lfK l) onK twK (.un ⟨k, ⟨vk, vn, vt⟩, t⟩ a) = if R1 ≠ 0 then (R1, R2) else onK k R2 := by
    rw [hR1, hR2]
    by_cases h : (evT (lfK l) onK twK a).1 = 0
    · rw [ev_un _ _ _ h, if_neg (by simpa using h)]
    · rw [ev_un_bad _ _ _ h, if_pos h]
  unfold LeafIs at hc
  rw [← hR1, ← hR2] at hc
  have hi0 : (0 : Int) ≤ (N : Int) := by omega
  have hi1 : (N : Int) < (m : Int) := by omega
  have hi2 : (N : Int) ≤ (cap : Int) := by omega
  have hmi : (m : Int) - 1 = (N : Int) := by omega
  have HC := Lib.hid hc
  have HB := Lib.hid hb
  have HEV := Lib.hid hev
  have HZ := Lib.hid hz
  clear hcell hg hu ht e1 ih hc hb hev hz hR1 hR2 hr hN hm
  have HK0 : Hid ((w.alloc (.cells #[.int .i64 k, .int .i64 vk, .int .i64 vn, .string vt, .string t] 45)).cell? ⟨w.heap.size, 0, none⟩ = some (.int .i64 k)) := Lib.hid (by simp)
  have HWK : Hid (∀ W : World, Calls Tryz.prog 59 #[.int .i64 k] W fun e w' => e = .returned (.int .i64 1) ∧ W = w') := Lib.hid fun W => by
    have := works_any W k
    rw [ho] at this
    exact this
  rcases wks_1 ho with rfl | rfl
  · clear ho
    by_cases h1 : R1 = 0
    · subst h1
      by_cases x1 : R2 = 1
      · subst x1
        have HE : Hid (evT (lfK l) onK twK (.un ⟨5, ⟨vk, vn, vt⟩, t⟩ a) = (0, 1)) := Lib.hid (by rw [HEV.out]; rfl)
        go_enter Tryz.func37, Tryz.ntmps37
        go_wp2_with fail
        refine (HWK.out _).mono ?_
        rintro e w1 ⟨rfl, rfl⟩
        go_wp2_with fail
        refine HC.out.mono ?_
        rintro e w2 ⟨rfl, hb2⟩
        have HB2 := Lib.hid (into HB.out hb2)
        have y0 := cell_blz hb2 HK0.out
        clear hb2
        go_wp2_with fail
        go_returns
        rw [HE.out]
        exact ⟨rfl, HB2.out⟩
      · by_cases x0 : R2 = 0
        · subst x0
          have HE : Hid (evT (lfK l) onK twK (.un ⟨5, ⟨vk, vn, vt⟩, t⟩ a) = (0, 1)) := Lib.hid (by rw [HEV.out]; rfl)
          go_enter Tryz.func37, Tryz.ntmps37
          go_wp2_with fail
          refine (HWK.out _).mono ?_
          rintro e w1 ⟨rfl, rfl⟩
          go_wp2_with fail
          refine HC.out.mono ?_
          rintro e w2 ⟨rfl, hb2⟩
          have HB2 := Lib.hid (into HB.out hb2)
          have y0 := cell_blz hb2 HK0.out
          clear hb2
          go_wp2_with fail
          go_returns
          rw [HE.out]
          exact ⟨rfl, HB2.out⟩
        · have HE : Hid (evT (lfK l) onK twK (.un ⟨5, ⟨vk, vn, vt⟩, t⟩ a) = (4, 0)) := Lib.hid (by rw [HEV.out, if_neg (by simp)]; unfold onK; rw [if_pos ⟨rfl, by omega⟩])
          have b1 : (R2 == 1) = false := by simpa using x1
          have b2 : (R2 == 0) = false := by simpa using x0
          have b3 : (R2 != 1) = true := by simpa using x1
          have b4 : (R2 != 0) = true := by simpa using x0
          clear x1 x0
          go_enter Tryz.func37, Tryz.ntmps37
          go_wp2_with fail
          refine (HWK.out _).mono ?_
          rintro e w1 ⟨rfl, rfl⟩
          go_wp2_with fail
          refine HC.out.mono ?_
          rintro e w2 ⟨rfl, hb2⟩
          have HB2 := Lib.hid (into HB.out hb2)
          have y0 := cell_blz hb2 HK0.out
          clear hb2
          go_wp2_with fail
          go_returns
          rw [HE.out]
          exact ⟨rfl, HB2.out⟩
    · have hz0 := HZ.out h1
      subst hz0
      have HE : Hid (evT (lfK l) onK twK (.un ⟨5, ⟨vk, vn, vt⟩, t⟩ a) = (R1, 0)) := Lib.hid (by rw [HEV.out, if_pos h1])
      have b1 : (R1 == 0) = false := by simpa using h1
      have b2 : (R1 != 0) = true := by simpa using h1
      clear h1 HZ HEV
      go_enter Tryz.func37, Tryz.ntmps37
      go_wp2_with fail
      refine (HWK.out _).mono ?_
      rintro e w1 ⟨rfl, rfl⟩
      go_wp2_with fail
      refine HC.out.mono ?_
      rintro e w2 ⟨rfl, hb2⟩
      have HB2 := Lib.hid (into HB.out hb2)
      have y0 := cell_blz hb2 HK0.out
      clear hb2
      go_wp2_with fail
      go_returns
      rw [HE.out]
      exact ⟨rfl, HB2.out⟩
  · clear ho
    by_cases h1 : R1 = 0
    · subst h1
      have HE : Hid (evT (lfK l) onK twK (.un ⟨11, ⟨vk, vn, vt⟩, t⟩ a) = (0, 1)) := Lib.hid (by rw [HEV.out]; simp [onK])
      go_enter Tryz.func37, Tryz.ntmps37
      go_wp2_with fail
      refine (HWK.out _).mono ?_
      rintro e w1 ⟨rfl, rfl⟩
      go_wp2_with fail
      refine HC.out.mono ?_
      rintro e w2 ⟨rfl, hb2⟩
      have HB2 := Lib.hid (into HB.out hb2)
      have y0 := cell_blz hb2 HK0.out
      clear hb2
      go_wp2_with fail
      go_returns
      rw [HE.out]
      exact ⟨rfl, HB2.out⟩
    · have hz0 := HZ.out h1
      subst hz0
      have HE : Hid (evT (lfK l) onK twK (.un ⟨11, ⟨vk, vn, vt⟩, t⟩ a) = (R1, 0)) := Lib.hid (by rw [HEV.out, if_pos h1])
      have b1 : (R1 == 0) = false := by simpa using h1
      have b2 : (R1 != 0) = true := by simpa using h1
      clear h1 HZ HEV
      go_enter Tryz.func37, Tryz.ntmps37
      go_wp2_with fail
      refine (HWK.out _).mono ?_
      rintro e w1 ⟨rfl, rfl⟩
      go_wp2_with fail
      refine HC.out.mono ?_
      rintro e w2 ⟨rfl, hb2⟩
      have HB2 := Lib.hid (into HB.out hb2)
      have y0 := cell_blz hb2 HK0.out
      clear hb2
      go_wp2_with fail
      go_returns
      rw [HE.out]
      exact ⟨rfl, HB2.out⟩
end Go.Proofs.YtmfkdpfcpdmkdaaGreatDoor
