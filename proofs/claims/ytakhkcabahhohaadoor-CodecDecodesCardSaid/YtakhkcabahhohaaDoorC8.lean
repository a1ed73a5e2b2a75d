import Derived.Test.YtakhkcabahhohaaDoorCw
namespace Go.Proofs.YtakhkcabahhohaaDoor
open Go.ChangeShapes Go.WideShapes Go.ChangeAt Go.RowKit
set_option linter.unusedVariables false
set_option linter.unusedSimpArgs false
set_option maxHeartbeats 1000000
/-- Two values, compared. -/
theorem sv_any (m : Nat) (v v' : Value) (l : List V) (w : World) (hr : Rd w 3 m v (vc l)) (hr' : Rd w 3 m v' (vc l)) :
    Calls Tryd.prog 11 #[v, v'] w fun e w' => e = .returned (.bool true) ∧ Below w.heap.size w w' := by
  have hml := len_v hr
  subst hml
  have hmax := hr.len
  unfold maxLen at hmax
  by_cases h0 : l.length = 0
  · have hl0 : l = [] := List.eq_nil_of_length_eq_zero h0
    subst hl0
    obtain ⟨_, ao, cap, rfl, _⟩ := hr.zero
    obtain ⟨_, ao', cap', rfl, _⟩ := hr'.zero
    go_enter Tryd.func11, Tryd.ntmps11
    go_wp2
    go_rounds 1
    go_ret
    exact ⟨rfl, Below.refl _ _⟩
  · obtain ⟨_, b, o, cap, rfl, _, _, hbw, hcell⟩ := vals_of hr (by omega)
    obtain ⟨_, b', o', cap', rfl, _, _, hbw', hcell'⟩ := vals_of hr' (by omega)
    obtain ⟨n, hn⟩ : ∃ n, n = l.length := ⟨_, rfl⟩
    rw [← hn] at h0 hcell hcell' hmax ⊢
    have HC := Lib.hid hcell
    have HC' := Lib.hid hcell'
    clear hcell hcell' hr hr' hn
    go_enter Tryd.func11, Tryd.ntmps11
    go_wp2
    go_loopw [5] (fun i wr => ∃ k : Nat, k ≤ n ∧ i = .int .i64 (k : Int) ∧ Below w.heap.size w wr) (fun i _ => n - (intOf i).toNat)
    case atStart => exact ⟨0, by omega, rfl, Below.refl _ _⟩
    case round =>
      obtain ⟨k, hk, rfl, hb⟩ := hrel
      by_cases hlt : k < n
      · obtain ⟨g1, g2, g3⟩ := HC.out k hlt
        obtain ⟨g1', g2', g3'⟩ := HC'.out k hlt
        have c1 := (hb.cell (p := ⟨b, o + k * 3, none⟩) hbw).trans g1
        have c2 := (hb.cell (p := ⟨b, o + k * 3 + 1, none⟩) hbw).trans g2
        have c3 := (hb.cell (p := ⟨b, o + k * 3 + 2, none⟩) hbw).trans g3
        have c1' := (hb.cell (p := ⟨b', o' + k * 3, none⟩) hbw').trans g1'
        have c2' := (hb.cell (p := ⟨b', o' + k * 3 + 1, none⟩) hbw').trans g2'
        have c3' := (hb.cell (p := ⟨b', o' + k * 3 + 2, none⟩) hbw').trans g3'
        obtain ⟨u, hu⟩ : ∃ u, u = l.getD k nul := ⟨_, rfl⟩
        rw [← hu] at c1 c2 c3 c1' c2' c3'
        clear g1 g2 g3 g1' g2' g3' hu
        obtain ⟨uk, un, ut⟩ := u
        simp only at c1 c2 c3 c1' c2' c3'
        go_wp2_with fail
        go_quiet (fail)
        go_wp2_with fail
        go_roundw
        case rel => exact ⟨k + 1, by omega, by go_num, below_drewN hb _⟩
        case measure => simp [intOf]; omega
      · obtain rfl : k = n := by omega
        go_wp2_with fail
        go_ret
        exact ⟨rfl, hb⟩
end Go.Proofs.YtakhkcabahhohaaDoor
