/- Locks: the call Join, the program's. -/
import Derived.Test.YtoiaedjglhcidaaDoorJp
namespace Go.Proofs.YtoiaedjglhcidaaDoor
open Go.ChangeShapes Go.WideShapes Go.ChangeAt Go.RowKit
set_option linter.unusedVariables false
set_option linter.unusedSimpArgs false
set_option maxHeartbeats 1000000
def fitsV (a b : Int) : Bool := isM a && isM b && tog a b
def joinV (a b : Int) : Int := if isM a && isM b then joi a b else 0
def kindE (a b : Int) : Int := if isM a && isM b then 0 else 2
theorem isM_no {m : Int} (h : ¬ (1 ≤ m ∧ m ≤ 5)) : isM m = false := by
  rw [← Bool.not_eq_true, isM_iff]; exact h
theorem join_any (w : World) (hT : Jnd w) (a b : Int) : Calls Tryd.prog 14 #[.int .i64 a, .int .i64 b] w fun e w' => e = .returned (.tuple #[.int .i64 (joinV a b), .int .i64 (kindE a b)]) ∧ w = w' := by
  have ia := isMode_any w a
  have ib := isMode_any w b
  have e1 : Hid (joinV a b = if isM a && isM b then joi a b else 0) := rfl
  have e2 : Hid (kindE a b = if isM a && isM b then 0 else 2) := rfl
  by_cases h : (1 ≤ a ∧ a ≤ 5) ∧ (1 ≤ b ∧ b ≤ 5)
  · obtain ⟨ha, hb⟩ := h
    have c := hT.at ⟨by omega, ha.2⟩ hb
    rw [isM_iff.2 ha] at ia e1 e2
    rw [isM_iff.2 hb] at ib e1 e2
    have IA := Lib.hid ia
    have IB := Lib.hid ib
    obtain ⟨ha1, ha2⟩ := ha
    obtain ⟨hb1, hb2⟩ := hb
    have a1 : a.toNat < 6 := by omega
    have b1 : b.toNat < 6 := by omega
    generalize joi a b = t at *
    clear ia ib hT
    go_enter Tryd.func14, Tryd.ntmps14
    go_wp2_with (first | (go_at_call 17; ((with_reducible refine IA.out.mono ?_); rintro e w' ⟨rfl, rfl⟩)) | (go_at_call 17; ((with_reducible refine IB.out.mono ?_); rintro e w' ⟨rfl, rfl⟩)))
    go_ret2
    exact ⟨rt2i e1.out.symm e2.out.symm, rfl⟩
  · by_cases ha : 1 ≤ a ∧ a ≤ 5
    · have hb : isM b = false := isM_no fun g => h ⟨ha, g⟩
      rw [isM_iff.2 ha] at ia e1 e2
      rw [hb] at ib e1 e2
      have IA := Lib.hid ia
      have IB := Lib.hid ib
      clear ia ib hT h ha hb
      go_enter Tryd.func14, Tryd.ntmps14
      go_wp2_with (first | (go_at_call 17; ((with_reducible refine IA.out.mono ?_); rintro e w' ⟨rfl, rfl⟩)) | (go_at_call 17; ((with_reducible refine IB.out.mono ?_); rintro e w' ⟨rfl, rfl⟩)))
      go_ret2
      exact ⟨rt2i e1.out.symm e2.out.symm, rfl⟩
    · have hb : isM a = false := isM_no ha
      rw [hb] at ia e1 e2
      have IA := Lib.hid ia
      have IB := Lib.hid ib
      clear ia ib hT h ha hb
      go_enter Tryd.func14, Tryd.ntmps14
      go_wp2_with (first | (go_at_call 17; ((with_reducible refine IA.out.mono ?_); rintro e w' ⟨rfl, rfl⟩)) | (go_at_call 17; ((with_reducible refine IB.out.mono ?_); rintro e w' ⟨rfl, rfl⟩)))
      go_ret2
      exact ⟨rt2i e1.out.symm e2.out.symm, rfl⟩
end Go.Proofs.YtoiaedjglhcidaaDoor
