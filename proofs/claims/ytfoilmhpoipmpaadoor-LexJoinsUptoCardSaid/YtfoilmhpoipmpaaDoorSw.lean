/- Tokens compared; a statement cut, whole. -/
import Derived.Test.YtfoilmhpoipmpaaDoorSv
namespace Go.Proofs.YtfoilmhpoipmpaaDoor
open Go.ChangeShapes Go.WideShapes Go.ChangeAt Go.RowKit
set_option linter.unusedVariables false
set_option linter.unusedSimpArgs false
set_option maxHeartbeats 1000000
theorem cut_any (w : World) (hx : Lx w) (s : ByteArray) (hs : s.size ≤ maxLen) : Calls Tryd.prog 11 #[.string s] w (CutIs w (cutL s.data.toList)) := by
  by_cases h : s.size ≤ 400
  · exact cut_short w hx s h
  · exact cut_long w s (by omega) hs
theorem rcut_any (w : World) (s : ByteArray) (hs : s.size ≤ maxLen) : Calls Tryd.prog 12 #[.string s] w (CutIs w (cutL s.data.toList)) := by
  by_cases h : s.size ≤ 400
  · exact rcut_short w s h
  · exact rcut_long w s (by omega) hs
/-- Two lists of the same tokens, compared. -/
theorem stk_law (m : Nat) (v v' : Value) (l : List Tk) (w : World) (hr : Rd w 3 m v (tkc l)) (hr' : Rd w 3 m v' (tkc l)) :
    Calls Tryd.prog 13 #[v, v'] w fun e w' => e = .returned (.bool true) ∧ Below w.heap.size w w' := by
  have hml := len_t hr
  subst hml
  have hmax := hr.len
  unfold maxLen at hmax
  by_cases h0 : l.length = 0
  · have hl0 : l = [] := List.eq_nil_of_length_eq_zero h0
    subst hl0
    obtain ⟨_, ao, cap, rfl, _⟩ := hr.zero
    obtain ⟨_, ao', cap', rfl, _⟩ := hr'.zero
    go_enter Tryd.func13, Tryd.ntmps13
    go_wp2
    go_rounds 1
    go_ret
    exact ⟨rfl, Below.refl _ _⟩
  · obtain ⟨_, b, o, cap, rfl, _, _, hbw, hcell⟩ := toks_of hr (by omega)
    obtain ⟨_, b', o', cap', rfl, _, _, hbw', hcell'⟩ := toks_of hr' (by omega)
    obtain ⟨n, hn⟩ : ∃ n, n = l.length := ⟨_, rfl⟩
    rw [← hn] at h0 hcell hcell' hmax ⊢
    have HC := Lib.hid hcell
    have HC' := Lib.hid hcell'
    clear hcell hcell' hr hr' hn
    go_enter Tryd.func13, Tryd.ntmps13
    go_wp2
    go_loopw [5] (fun i wr => ∃ k : Nat, k ≤ n ∧ i = .int .i64 (k : Int) ∧ Below w.heap.size w wr) (fun i _ => n - (intOf i).toNat)
    case atStart => exact ⟨0, by omega, rfl, Below.refl _ _⟩
    case round =>
      obtain ⟨k, hk, rfl, hb⟩ := hrel
      by_cases hlt : k < n
      · obtain ⟨g1, g2, g3⟩ := HC.out k hlt
        obtain ⟨g1', g2', g3'⟩ := HC'.out k hlt
        have c1 := (hb.cell (p := ⟨b, o + k * 3, none⟩) hbw).trans g1
        have c2 := (hb.cell (p := ⟨b, o + k * 3 + 1, none⟩) hbw).trans g2
        have c3 := (hb.cell (p := ⟨b, o + k * 3 + 2, none⟩) hbw).trans g3
        have c1' := (hb.cell (p := ⟨b', o' + k * 3, none⟩) hbw').trans g1'
        have c2' := (hb.cell (p := ⟨b', o' + k * 3 + 1, none⟩) hbw').trans g2'
        have c3' := (hb.cell (p := ⟨b', o' + k * 3 + 2, none⟩) hbw').trans g3'
        obtain ⟨u, hu⟩ : ∃ u, u = l.getD k tk0 := ⟨_, rfl⟩
        rw [← hu] at c1 c2 c3 c1' c2' c3'
        clear g1 g2 g3 g1' g2' g3' hu
        obtain ⟨uk, ut, un⟩ := u
        simp only at c1 c2 c3 c1' c2' c3'
        obtain ⟨us, hus⟩ : ∃ us : ByteArray, us = ⟨ut.toArray⟩ := ⟨_, rfl⟩
        rw [← hus] at c2 c2'
        clear hus
        go_wp2_with fail
        go_quiet (fail)
        go_wp2_with fail
        go_roundw
        case rel => exact ⟨k + 1, by omega, by go_num, hb.trans ((below_drewN _ _).mono hb.size)⟩
        case measure => simp [intOf]; omega
      · obtain rfl : k = n := by omega
        go_wp2_with fail
        go_ret
        exact ⟨rfl, hb⟩
end Go.Proofs.YtfoilmhpoipmpaaDoor
