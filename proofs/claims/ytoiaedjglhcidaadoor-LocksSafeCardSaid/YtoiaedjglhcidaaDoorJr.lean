/- Locks: the call Fits, the program's. -/
import Derived.Test.YtoiaedjglhcidaaDoorJq
namespace Go.Proofs.YtoiaedjglhcidaaDoor
open Go.ChangeShapes Go.WideShapes Go.ChangeAt Go.RowKit
set_option linter.unusedVariables false
set_option linter.unusedSimpArgs false
set_option maxHeartbeats 1000000
theorem fits_any (w : World) (hT : Tog w) (a b : Int) : Calls Tryd.prog 9 #[.int .i64 a, .int .i64 b] w fun e w' => e = .returned (.tuple #[.bool (fitsV a b), .int .i64 (kindE a b)]) ∧ w = w' := by
  have ia := isMode_any w a
  have ib := isMode_any w b
  have e1 : Hid (fitsV a b = (isM a && isM b && tog a b)) := rfl
  have e2 : Hid (kindE a b = if isM a && isM b then 0 else 2) := rfl
  by_cases h : (1 ≤ a ∧ a ≤ 5) ∧ (1 ≤ b ∧ b ≤ 5)
  · obtain ⟨ha, hb⟩ := h
    have c := hT.at ha hb
    rw [isM_iff.2 ha] at ia e1 e2
    rw [isM_iff.2 hb] at ib e1 e2
    have IA := Lib.hid ia
    have IB := Lib.hid ib
    obtain ⟨ha1, ha2⟩ := ha
    obtain ⟨hb1, hb2⟩ := hb
    have a1 : a.toNat < 6 := by omega
    have b1 : b.toNat < 6 := by omega
    generalize tog a b = t at *
    clear ia ib hT
    go_enter Tryd.func9, Tryd.ntmps9
    go_wp2_with (first | (go_at_call 17; ((with_reducible refine IA.out.mono ?_); rintro e w' ⟨rfl, rfl⟩)) | (go_at_call 17; ((with_reducible refine IB.out.mono ?_); rintro e w' ⟨rfl, rfl⟩)))
    go_ret2
    exact ⟨rt2b e1.out.symm e2.out.symm, rfl⟩
  · by_cases ha : 1 ≤ a ∧ a ≤ 5
    · have hb : isM b = false := isM_no fun g => h ⟨ha, g⟩
      rw [isM_iff.2 ha] at ia e1 e2
      rw [hb] at ib e1 e2
      have IA := Lib.hid ia
      have IB := Lib.hid ib
      clear ia ib hT h ha hb
      go_enter Tryd.func9, Tryd.ntmps9
      go_wp2_with (first | (go_at_call 17; ((with_reducible refine IA.out.mono ?_); rintro e w' ⟨rfl, rfl⟩)) | (go_at_call 17; ((with_reducible refine IB.out.mono ?_); rintro e w' ⟨rfl, rfl⟩)))
      go_ret2
      exact ⟨rt2b e1.out.symm e2.out.symm, rfl⟩
    · have hb : isM a = false := isM_no ha
      rw [hb] at ia e1 e2
      have IA := Lib.hid ia
      have IB := Lib.hid ib
      clear ia ib hT h ha hb
      go_enter Tryd.func9, Tryd.ntmps9
      go_wp2_with (first | (go_at_call 17; ((with_reducible refine IA.out.mono ?_); rintro e w' ⟨rfl, rfl⟩)) | (go_at_call 17; ((with_reducible refine IB.out.mono ?_); rintro e w' ⟨rfl, rfl⟩)))
      go_ret2
      exact ⟨rt2b e1.out.symm e2.out.symm, rfl⟩
end Go.Proofs.YtoiaedjglhcidaaDoor
