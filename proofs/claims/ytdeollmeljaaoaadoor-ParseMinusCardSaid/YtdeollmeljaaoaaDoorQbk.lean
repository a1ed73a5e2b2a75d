import Derived.Test.YtdeollmeljaaoaaDoorQck
import Derived.Test.YtdeollmeljaaoaaDoorUbk
import Derived.Test.YtdeollmeljaaoaaDoorB0k
import Derived.Deep.RegionWith
/- Columns: what they lack, by the program. -/
namespace Go.Proofs.YtdeollmeljaaoaaDoor
open Go.ChangeShapes Go.WideShapes Go.ChangeAt Go.RowKit
set_option linter.unusedVariables false
set_option linter.unusedSimpArgs false
set_option maxHeartbeats 2000000
theorem len_c {w : World} {n : Nat} {v : Value} {l : List Cq} (h : Rd w 2 n v (ccs l)) : n = l.length := by have := h.1; rw [ccs_length] at this; omega
theorem cols_of {w : World} {n : Nat} {v : Value} {l : List Cq} (h : Rd w 2 n v (ccs l)) (hn : 0 < n) :
    ∃ b o cap, v = .slice (some ⟨b, o, none⟩) n cap ∧ n ≤ cap ∧ cap ≤ maxLen ∧ b < w.heap.size ∧ ∀ k, k < n → w.cell? ⟨b, o + k * 2, none⟩ = some (.string (l.getD k ncq).t) ∧ w.cell? ⟨b, o + k * 2 + 1, none⟩ = some (.int .i64 (l.getD k ncq).k) := by
  have hl := len_c h
  obtain ⟨b, o, cap, h1, h2, h3, h4, h5⟩ := h.pos hn (by omega)
  refine ⟨b, o, cap, h1, h2, h3, h4, fun k hk => ?_⟩
  obtain ⟨g0, g1⟩ := ccs_at (l := l) (k := k) (by omega)
  refine ⟨h5 _ _ g0, ?_⟩
  have := h5 _ _ g1; rwa [← Nat.add_assoc] at this
theorem hasC_at {l : List Cq} {k : Nat} {t : ByteArray} (h : k < l.length) (e : (l.getD k ncq).t = t) : hasC l t = true := by
  unfold hasC
  rw [List.any_eq_true]
  refine ⟨_, cgetD_mem h, ?_⟩
  rw [e]
  simp
theorem hasC_none {l : List Cq} {t : ByteArray} (h : ∀ j, j < l.length → (l.getD j ncq).t ≠ t) : hasC l t = false := by
  unfold hasC
  rw [List.any_eq_false]
  intro c hc
  obtain ⟨j, hj, e⟩ := List.getElem_of_mem hc
  have := h j hj
  rw [List.getD, List.getElem?_eq_getElem hj] at this
  simp only [Option.getD_some] at this
  rw [e] at this
  rw [Bool.not_eq_true]
  exact st_beq this
theorem hasColumn_any (w : World) (n : Nat) (v : Value) (l : List Cq) (t : ByteArray) (hr : Rd w 2 n v (ccs l)) :
    Calls Tryd.prog 65 #[v, .string t] w fun e w' => e = .returned (.bool (hasC l t)) ∧ Below w.heap.size w w' := by
  have hml := len_c hr
  have hmax := hr.len
  unfold maxLen at hmax
  by_cases h0 : n = 0
  · have hl0 : l = [] := List.eq_nil_of_length_eq_zero (by omega)
    subst hl0 h0
    obtain ⟨_, ao, cap, rfl, _⟩ := hr.zero
    clear hml
    go_enter Tryd.func65, Tryd.ntmps65
    go_wp2_with fail
    go_rounds 1
    go_ret
    exact ⟨rfl, Below.refl _ _⟩
  · obtain ⟨b, o, cap, rfl, _, _, hbw, hcell⟩ := cols_of hr (by omega)
    have HC := Lib.hid hcell
    have HN := Lib.hid hml
    clear hcell hr hml
    go_enter Tryd.func65, Tryd.ntmps65
    go_wp2_with fail
    go_loopw [9] (fun i wr => ∃ k : Nat, k ≤ n ∧ i = .int .i64 (k : Int) ∧ Hid (∀ j, j < k → (l.getD j ncq).t ≠ t) ∧ Hid (Below w.heap.size w wr)) (fun i _ => n - (intOf i).toNat)
    case atStart => exact ⟨0, by omega, rfl, (fun j hj => absurd hj (by omega)), Below.refl _ _⟩
    case round =>
      obtain ⟨k, hk, rfl, HA, HB⟩ := hrel
      by_cases hlt : k < n
      · obtain ⟨g0, g1⟩ := HC.out k hlt
        have c0 := (HB.out.cell (p := ⟨b, o + k * 2, none⟩) hbw).trans g0
        have c1 := (HB.out.cell (p := ⟨b, o + k * 2 + 1, none⟩) hbw).trans g1
        obtain ⟨u, hu⟩ : ∃ u, u = l.getD k ncq := ⟨_, rfl⟩
        have HU := Lib.hid hu
        rw [← hu] at c0 c1
        clear g0 g1 hu
        obtain ⟨ut, uk⟩ := u
        simp only at c0 c1
        by_cases he : ut = t
        · subst he
          go_wp2_with fail
          go_ret
          exact ⟨rb (hasC_at (by rw [← HN.out]; exact hlt) (by rw [← HU.out])).symm, HB.out.alloc HB.out.size _⟩
        · have hne := st_beq he
          have HE := Lib.hid he
          clear he
          go_wp2_with fail
          go_roundw
          case rel =>
            refine ⟨k + 1, by omega, by go_num, fun j hj => ?_, HB.out.alloc HB.out.size _⟩
            rcases Nat.lt_or_ge j k with h | h
            · exact HA.out j h
            · obtain rfl : j = k := by omega
              rw [← HU.out]
              exact HE.out
          case measure => simp [intOf]; omega
      · obtain rfl : k = n := by omega
        go_wp2_with fail
        go_ret
        exact ⟨rb (hasC_none (fun j hj => HA.out j (by rw [HN.out]; exact hj))).symm, HB.out⟩
end Go.Proofs.YtdeollmeljaaoaaDoor
