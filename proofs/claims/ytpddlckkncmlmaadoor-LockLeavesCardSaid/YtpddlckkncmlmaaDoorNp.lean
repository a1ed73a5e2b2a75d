/- Locks, compared. -/
import Derived.Test.YtpddlckkncmlmaaDoorMj
import Derived.BigQuiet
namespace Go.Proofs.YtpddlckkncmlmaaDoor
open Go.ChangeShapes Go.WideShapes Go.ChangeAt Go.RowKit Go.Deep
set_option linter.unusedVariables false
set_option linter.unusedSimpArgs false
set_option maxHeartbeats 8000000
set_option maxRecDepth 100000
theorem bdN (w : World) (n : Nat) : Below w.heap.size w (w.drewN n) := ⟨rfl, rfl, rfl, Nat.le_refl _, fun k _ => rfl⟩
theorem sl_any (w : World) (nh n : Nat) (hv qv hv' qv' : Value) (held l : List Lk) (hrh : Rd w 3 nh hv (lkc held)) (hr : Rd w 3 n qv (lkc l)) (hrh' : Rd w 3 nh hv' (lkc held)) (hr' : Rd w 3 n qv' (lkc l)) (h1 : nh ≤ 1000000000000000) (h2 : n ≤ 1000000000000000) :
    Calls Tryd.prog 9 #[.agg #[hv, qv], .agg #[hv', qv']] w fun e w' => e = .returned (.bool true) ∧ Below w.heap.size w w' := by
  obtain ⟨_, ah, ch, rfl, _⟩ := id hrh
  obtain ⟨_, aq, cq, rfl, _⟩ := id hr
  obtain ⟨_, ah', ch', rfl, _⟩ := id hrh'
  obtain ⟨_, aq', cq', rfl, _⟩ := id hr'
  obtain ⟨Wb, hWb⟩ : ∃ Wb : World, Wb = (w.alloc (.cells #[.slice ah nh ch, .slice aq n cq] 24)).alloc (.cells #[.slice ah' nh ch', .slice aq' n cq'] 24) := ⟨_, rfl⟩
  have hbb : Below w.heap.size w Wb := by rw [hWb]; exact ((Below.refl _ _).alloc (Nat.le_refl _) _).alloc (by simp) _
  have s0 : Wb.cell? ⟨w.heap.size, 0, none⟩ = some (.slice ah nh ch) := by rw [hWb]; go_simp
  have s1 : Wb.cell? ⟨w.heap.size, 1, none⟩ = some (.slice aq n cq) := by rw [hWb]; go_simp
  have s2 : Wb.cell? ⟨w.heap.size + 1, 0, none⟩ = some (.slice ah' nh ch') := by rw [hWb]; go_simp
  have s3 : Wb.cell? ⟨w.heap.size + 1, 1, none⟩ = some (.slice aq' n cq') := by rw [hWb]; go_simp
  have HWB := Lib.hid hWb
  have HBB := Lib.hid hbb
  have HRH := Lib.hid hrh
  have HRQ := Lib.hid hr
  have HRH' := Lib.hid hrh'
  have HRQ' := Lib.hid hr'
  have HS := Lib.hid (And.intro s0 (And.intro s1 (And.intro s2 s3)))
  clear hWb hbb hrh hr hrh' hr' s0 s1 s2 s3
  go_enter Tryd.func9, Tryd.ntmps9
  go_wp2_with fail
  rw [← HWB.out]
  go_loopw [5] (fun i wr => ∃ k : Nat, k ≤ nh ∧ i = .int .i64 (k : Int) ∧ Hid (Below Wb.heap.size Wb wr)) (fun i _ => nh - (intOf i).toNat)
  case atStart => exact ⟨0, by omega, rfl, Below.refl _ _⟩
  case round =>
    obtain ⟨k, hk, rfl, HB⟩ := hrel
    have y0 := cell_of_below HB.out HS.out.1
    have y1 := cell_of_below HB.out HS.out.2.1
    have y2 := cell_of_below HB.out HS.out.2.2.1
    have y3 := cell_of_below HB.out HS.out.2.2.2
    by_cases hlt : k < nh
    · obtain ⟨b, o, cap, hsh, hcap, hcm, hbw, hcell⟩ := lks_of HRH.out (by omega)
      obtain ⟨b2, o2, cap2, hsh2, hcap2, hcm2, hbw2, hcell2⟩ := lks_of HRH'.out (by omega)
      simp only [Value.slice.injEq] at hsh hsh2
      obtain ⟨rfl, -, hcc⟩ := hsh
      obtain ⟨rfl, -, hcc2⟩ := hsh2
      subst hcc hcc2
      obtain ⟨e0, e1, e2⟩ := hcell k hlt
      obtain ⟨d0, d1, d2⟩ := hcell2 k hlt
      obtain ⟨u, hu⟩ : ∃ u, u = held.getD k nlk := ⟨_, rfl⟩
      rw [← hu] at e0 e1 e2 d0 d1 d2
      have c0 := ((HBB.out.trans (HB.out.mono HBB.out.size)).cell (p := ⟨b, o + k * 3, none⟩) hbw).trans e0
      have c1 := ((HBB.out.trans (HB.out.mono HBB.out.size)).cell (p := ⟨b, o + k * 3 + 1, none⟩) hbw).trans e1
      have c2 := ((HBB.out.trans (HB.out.mono HBB.out.size)).cell (p := ⟨b, o + k * 3 + 2, none⟩) hbw).trans e2
      have g0 := ((HBB.out.trans (HB.out.mono HBB.out.size)).cell (p := ⟨b2, o2 + k * 3, none⟩) hbw2).trans d0
      have g1 := ((HBB.out.trans (HB.out.mono HBB.out.size)).cell (p := ⟨b2, o2 + k * 3 + 1, none⟩) hbw2).trans d1
      have g2 := ((HBB.out.trans (HB.out.mono HBB.out.size)).cell (p := ⟨b2, o2 + k * 3 + 2, none⟩) hbw2).trans d2
      have i0 : (0 : Int) ≤ (k : Int) := by omega
      have i1 : (k : Int) < (nh : Int) := by omega
      obtain ⟨ut, uth, um⟩ := u
      simp only at c0 c1 c2 g0 g1 g2
      clear e0 e1 e2 d0 d1 d2 hcell hcell2 hu
      go_wp2_with fail
      go_quiet (fail)
      have HBn : Hid (Below Wb.heap.size Wb (wr.drewN nq)) := HB.out.trans ((bdN _ _).mono HB.out.size)
      clear c0 c1 c2 g0 g1 g2 y0 y1 y2 y3
      go_wp2_with fail
      go_roundw
      case rel => exact ⟨k + 1, by omega, by go_num, HBn.out⟩
      case measure => simp [intOf]; omega
    · obtain rfl : nh = k := by omega
      go_wp2_with fail
      clear y0 y1 y2 y3
      go_loopw [6] (fun i wr => ∃ k : Nat, k ≤ n ∧ i = .int .i64 (k : Int) ∧ Hid (Below Wb.heap.size Wb wr)) (fun i _ => n - (intOf i).toNat)
      case atStart => exact ⟨0, by omega, rfl, HB.out⟩
      case round =>
        obtain ⟨k, hk, rfl, HB⟩ := hrel
        have y0 := cell_of_below HB.out HS.out.1
        have y1 := cell_of_below HB.out HS.out.2.1
        have y2 := cell_of_below HB.out HS.out.2.2.1
        have y3 := cell_of_below HB.out HS.out.2.2.2
        by_cases hlt : k < n
        · obtain ⟨b, o, cap, hsh, hcap, hcm, hbw, hcell⟩ := lks_of HRQ.out (by omega)
          obtain ⟨b2, o2, cap2, hsh2, hcap2, hcm2, hbw2, hcell2⟩ := lks_of HRQ'.out (by omega)
          simp only [Value.slice.injEq] at hsh hsh2
          obtain ⟨rfl, -, hcc⟩ := hsh
          obtain ⟨rfl, -, hcc2⟩ := hsh2
          subst hcc hcc2
          obtain ⟨e0, e1, e2⟩ := hcell k hlt
          obtain ⟨d0, d1, d2⟩ := hcell2 k hlt
          obtain ⟨u, hu⟩ : ∃ u, u = l.getD k nlk := ⟨_, rfl⟩
          rw [← hu] at e0 e1 e2 d0 d1 d2
          have c0 := ((HBB.out.trans (HB.out.mono HBB.out.size)).cell (p := ⟨b, o + k * 3, none⟩) hbw).trans e0
          have c1 := ((HBB.out.trans (HB.out.mono HBB.out.size)).cell (p := ⟨b, o + k * 3 + 1, none⟩) hbw).trans e1
          have c2 := ((HBB.out.trans (HB.out.mono HBB.out.size)).cell (p := ⟨b, o + k * 3 + 2, none⟩) hbw).trans e2
          have g0 := ((HBB.out.trans (HB.out.mono HBB.out.size)).cell (p := ⟨b2, o2 + k * 3, none⟩) hbw2).trans d0
          have g1 := ((HBB.out.trans (HB.out.mono HBB.out.size)).cell (p := ⟨b2, o2 + k * 3 + 1, none⟩) hbw2).trans d1
          have g2 := ((HBB.out.trans (HB.out.mono HBB.out.size)).cell (p := ⟨b2, o2 + k * 3 + 2, none⟩) hbw2).trans d2
          have i0 : (0 : Int) ≤ (k : Int) := by omega
          have i1 : (k : Int) < (n : Int) := by omega
          obtain ⟨ut, uth, um⟩ := u
          simp only at c0 c1 c2 g0 g1 g2
          clear e0 e1 e2 d0 d1 d2 hcell hcell2 hu
          go_wp2_with fail
          go_quiet (fail)
          have HBn : Hid (Below Wb.heap.size Wb (wr.drewN nq)) := HB.out.trans ((bdN _ _).mono HB.out.size)
          clear c0 c1 c2 g0 g1 g2 y0 y1 y2 y3
          go_wp2_with fail
          go_roundw
          case rel => exact ⟨k + 1, by omega, by go_num, HBn.out⟩
          case measure => simp [intOf]; omega
        · obtain rfl : n = k := by omega
          go_wp2_with fail
          go_ret
          exact ⟨rfl, into HBB.out HB.out⟩
end Go.Proofs.YtpddlckkncmlmaaDoor
