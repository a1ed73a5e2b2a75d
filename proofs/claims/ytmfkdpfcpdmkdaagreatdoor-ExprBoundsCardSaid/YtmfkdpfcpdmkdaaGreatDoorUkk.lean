import Derived.Test.YtmfkdpfcpdmkdaaGreatDoorQok
import Derived.Deep.Strs
/- Ops, compared. -/
namespace Go.Proofs.YtmfkdpfcpdmkdaaGreatDoor
open Go.ChangeShapes Go.WideShapes Go.ChangeAt Go.RowKit Go.Deep
set_option linter.unusedVariables false
set_option linter.unusedSimpArgs false
set_option maxHeartbeats 1000000
set_option maxRecDepth 10000 in
/-- Two lists of ops, compared. -/
theorem so_any (m : Nat) (v v' : Value) (l : List Oq) (w : World) (hr : Rd w 5 m v (ocs l)) (hr' : Rd w 5 m v' (ocs l)) :
    Calls Tryz.prog 8 #[v, v'] w fun e w' => e = .returned (.bool true) ∧ Below w.heap.size w w' := by
  have hml := len_o hr
  subst hml
  have hmax := hr.len
  unfold maxLen at hmax
  by_cases h0 : l.length = 0
  · have hl0 : l = [] := List.eq_nil_of_length_eq_zero h0
    subst hl0
    obtain ⟨_, ao, cap, rfl, _⟩ := hr.zero
    obtain ⟨_, ao', cap', rfl, _⟩ := hr'.zero
    go_enter Tryz.func8, Tryz.ntmps8
    go_wp2
    go_rounds 1
    go_ret
    exact ⟨rfl, Below.refl _ _⟩
  · obtain ⟨b, o, cap, rfl, _, _, hbw, hcell⟩ := ops_of hr (by omega)
    obtain ⟨b', o', cap', rfl, _, _, hbw', hcell'⟩ := ops_of hr' (by omega)
    obtain ⟨n, hn⟩ : ∃ n, n = l.length := ⟨_, rfl⟩
    rw [← hn] at h0 hcell hcell' hmax ⊢
    have HC := Lib.hid hcell
    have HC' := Lib.hid hcell'
    clear hcell hcell' hr hr' hn
    go_enter Tryz.func8, Tryz.ntmps8
    go_wp2
    go_loopw [5] (fun i wr => ∃ k : Nat, k ≤ n ∧ i = .int .i64 (k : Int) ∧ Below w.heap.size w wr) (fun i _ => n - (intOf i).toNat)
    case atStart => exact ⟨0, by omega, rfl, Below.refl _ _⟩
    case round =>
      obtain ⟨k, hk, rfl, hb⟩ := hrel
      by_cases hlt : k < n
      · obtain ⟨g1, g2, g3, g4, g5⟩ := HC.out k hlt
        obtain ⟨g1', g2', g3', g4', g5'⟩ := HC'.out k hlt
        have c1 := (hb.cell (p := ⟨b, o + k * 5, none⟩) hbw).trans g1
        have c2 := (hb.cell (p := ⟨b, o + k * 5 + 1, none⟩) hbw).trans g2
        have c3 := (hb.cell (p := ⟨b, o + k * 5 + 2, none⟩) hbw).trans g3
        have c4 := (hb.cell (p := ⟨b, o + k * 5 + 3, none⟩) hbw).trans g4
        have c5 := (hb.cell (p := ⟨b, o + k * 5 + 4, none⟩) hbw).trans g5
        have c1' := (hb.cell (p := ⟨b', o' + k * 5, none⟩) hbw').trans g1'
        have c2' := (hb.cell (p := ⟨b', o' + k * 5 + 1, none⟩) hbw').trans g2'
        have c3' := (hb.cell (p := ⟨b', o' + k * 5 + 2, none⟩) hbw').trans g3'
        have c4' := (hb.cell (p := ⟨b', o' + k * 5 + 3, none⟩) hbw').trans g4'
        have c5' := (hb.cell (p := ⟨b', o' + k * 5 + 4, none⟩) hbw').trans g5'
        obtain ⟨u, hu⟩ : ∃ u, u = l.getD k noq := ⟨_, rfl⟩
        rw [← hu] at c1 c2 c3 c4 c5 c1' c2' c3' c4' c5'
        clear g1 g2 g3 g4 g5 g1' g2' g3' g4' g5' hu
        obtain ⟨uk, ⟨vk, vn, vt⟩, ut⟩ := u
        simp only at c1 c2 c3 c4 c5 c1' c2' c3' c4' c5'
        go_wp2_with fail
        go_quiet (fail)
        go_wp2_with fail
        go_roundw
        case rel => exact ⟨k + 1, by omega, by go_num, hb.trans ((below_drewN _ _).mono hb.size)⟩
        case measure => simp [intOf]; omega
      · obtain rfl : k = n := by omega
        go_wp2_with fail
        go_ret
        exact ⟨rfl, hb⟩
end Go.Proofs.YtmfkdpfcpdmkdaaGreatDoor
