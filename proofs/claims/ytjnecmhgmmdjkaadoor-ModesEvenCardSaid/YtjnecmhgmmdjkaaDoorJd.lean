/- Locks: the calls Fits and Join, the program's and the document's. -/
import Derived.Test.YtjnecmhgmmdjkaaDoorJc
namespace Go.Proofs.YtjnecmhgmmdjkaaDoor
open Go.ChangeShapes Go.WideShapes Go.ChangeAt Go.RowKit
set_option linter.unusedVariables false
set_option linter.unusedSimpArgs false
set_option maxHeartbeats 1000000
def fitsV (a b : Int) : Bool := isM a && isM b && tog a b
def joinV (a b : Int) : Int := if isM a && isM b then joi a b else 0
def kindE (a b : Int) : Int := if isM a && isM b then 0 else 2
theorem isM_no {m : Int} (h : ¬ (1 ≤ m ∧ m ≤ 5)) : isM m = false := by
  rw [← Bool.not_eq_true, isM_iff]; exact h
theorem in_mode (w : World) (m : Int) : Calls Tryd.prog 46 #[.int .i64 m, .int .i64 1, .int .i64 5] w fun e w' => e = .returned (.bool (isM m)) ∧ w = w' := in_any w m 1 5
theorem fits_any (w : World) (hT : Tog w) (a b : Int) : Calls Tryd.prog 23 #[.int .i64 a, .int .i64 b] w fun e w' => e = .returned (.tuple #[.bool (fitsV a b), .int .i64 (kindE a b)]) ∧ w = w' := by
  have ia := isMode_any w a
  have ib := isMode_any w b
  have e1 : Hid (fitsV a b = (isM a && isM b && tog a b)) := rfl
  have e2 : Hid (kindE a b = if isM a && isM b then 0 else 2) := rfl
  by_cases h : (1 ≤ a ∧ a ≤ 5) ∧ (1 ≤ b ∧ b ≤ 5)
  · obtain ⟨ha, hb⟩ := h
    have c := hT.at ha hb
    rw [isM_iff.2 ha] at ia e1 e2
    rw [isM_iff.2 hb] at ib e1 e2
    have IA := Lib.hid ia
    have IB := Lib.hid ib
    obtain ⟨ha1, ha2⟩ := ha
    obtain ⟨hb1, hb2⟩ := hb
    have a1 : a.toNat < 6 := by omega
    have b1 : b.toNat < 6 := by omega
    generalize tog a b = t at *
    clear ia ib hT
    go_enter Tryd.func23, Tryd.ntmps23
    go_wp2_with (first | (go_at_call 45; ((with_reducible refine IA.out.mono ?_); rintro e w' ⟨rfl, rfl⟩)) | (go_at_call 45; ((with_reducible refine IB.out.mono ?_); rintro e w' ⟨rfl, rfl⟩)))
    go_ret2
    exact ⟨rt2b e1.out.symm e2.out.symm, rfl⟩
  · by_cases ha : 1 ≤ a ∧ a ≤ 5
    · have hb : isM b = false := isM_no fun g => h ⟨ha, g⟩
      rw [isM_iff.2 ha] at ia e1 e2
      rw [hb] at ib e1 e2
      have IA := Lib.hid ia
      have IB := Lib.hid ib
      clear ia ib hT h ha hb
      go_enter Tryd.func23, Tryd.ntmps23
      go_wp2_with (first | (go_at_call 45; ((with_reducible refine IA.out.mono ?_); rintro e w' ⟨rfl, rfl⟩)) | (go_at_call 45; ((with_reducible refine IB.out.mono ?_); rintro e w' ⟨rfl, rfl⟩)))
      go_ret2
      exact ⟨rt2b e1.out.symm e2.out.symm, rfl⟩
    · have hb : isM a = false := isM_no ha
      rw [hb] at ia e1 e2
      have IA := Lib.hid ia
      have IB := Lib.hid ib
      clear ia ib hT h ha hb
      go_enter Tryd.func23, Tryd.ntmps23
      go_wp2_with (first | (go_at_call 45; ((with_reducible refine IA.out.mono ?_); rintro e w' ⟨rfl, rfl⟩)) | (go_at_call 45; ((with_reducible refine IB.out.mono ?_); rintro e w' ⟨rfl, rfl⟩)))
      go_ret2
      exact ⟨rt2b e1.out.symm e2.out.symm, rfl⟩
theorem join_any (w : World) (hT : Jnd w) (a b : Int) : Calls Tryd.prog 25 #[.int .i64 a, .int .i64 b] w fun e w' => e = .returned (.tuple #[.int .i64 (joinV a b), .int .i64 (kindE a b)]) ∧ w = w' := by
  have ia := isMode_any w a
  have ib := isMode_any w b
  have e1 : Hid (joinV a b = if isM a && isM b then joi a b else 0) := rfl
  have e2 : Hid (kindE a b = if isM a && isM b then 0 else 2) := rfl
  by_cases h : (1 ≤ a ∧ a ≤ 5) ∧ (1 ≤ b ∧ b ≤ 5)
  · obtain ⟨ha, hb⟩ := h
    have c := hT.at ⟨by omega, ha.2⟩ hb
    rw [isM_iff.2 ha] at ia e1 e2
    rw [isM_iff.2 hb] at ib e1 e2
    have IA := Lib.hid ia
    have IB := Lib.hid ib
    obtain ⟨ha1, ha2⟩ := ha
    obtain ⟨hb1, hb2⟩ := hb
    have a1 : a.toNat < 6 := by omega
    have b1 : b.toNat < 6 := by omega
    generalize joi a b = t at *
    clear ia ib hT
    go_enter Tryd.func25, Tryd.ntmps25
    go_wp2_with (first | (go_at_call 45; ((with_reducible refine IA.out.mono ?_); rintro e w' ⟨rfl, rfl⟩)) | (go_at_call 45; ((with_reducible refine IB.out.mono ?_); rintro e w' ⟨rfl, rfl⟩)))
    go_ret2
    exact ⟨rt2i e1.out.symm e2.out.symm, rfl⟩
  · by_cases ha : 1 ≤ a ∧ a ≤ 5
    · have hb : isM b = false := isM_no fun g => h ⟨ha, g⟩
      rw [isM_iff.2 ha] at ia e1 e2
      rw [hb] at ib e1 e2
      have IA := Lib.hid ia
      have IB := Lib.hid ib
      clear ia ib hT h ha hb
      go_enter Tryd.func25, Tryd.ntmps25
      go_wp2_with (first | (go_at_call 45; ((with_reducible refine IA.out.mono ?_); rintro e w' ⟨rfl, rfl⟩)) | (go_at_call 45; ((with_reducible refine IB.out.mono ?_); rintro e w' ⟨rfl, rfl⟩)))
      go_ret2
      exact ⟨rt2i e1.out.symm e2.out.symm, rfl⟩
    · have hb : isM a = false := isM_no ha
      rw [hb] at ia e1 e2
      have IA := Lib.hid ia
      have IB := Lib.hid ib
      clear ia ib hT h ha hb
      go_enter Tryd.func25, Tryd.ntmps25
      go_wp2_with (first | (go_at_call 45; ((with_reducible refine IA.out.mono ?_); rintro e w' ⟨rfl, rfl⟩)) | (go_at_call 45; ((with_reducible refine IB.out.mono ?_); rintro e w' ⟨rfl, rfl⟩)))
      go_ret2
      exact ⟨rt2i e1.out.symm e2.out.symm, rfl⟩
theorem fitsOf_any (w : World) (a b : Int) : Calls Tryd.prog 24 #[.int .i64 a, .int .i64 b] w fun e w' => e = .returned (.tuple #[.bool (fitsV a b), .int .i64 (kindE a b)]) ∧ w = w' := by
  have ia := in_mode w a
  have ib := in_mode w b
  have ff := fitting_any w a b
  have e2 : Hid (kindE a b = if isM a && isM b then 0 else 2) := rfl
  have e1 : Hid (fitsV a b = (isM a && isM b && fitI a b)) := by
    show (isM a && isM b && tog a b) = _
    by_cases h : (1 ≤ a ∧ a ≤ 5) ∧ (1 ≤ b ∧ b ≤ 5)
    · rw [tog_is h.1 h.2]
    · by_cases ha : 1 ≤ a ∧ a ≤ 5
      · rw [isM_no (m := b) fun g => h ⟨ha, g⟩]; simp
      · rw [isM_no ha]; simp
  generalize isM a = xa at *
  generalize isM b = xb at *
  generalize fitI a b = xf at *
  have IA := Lib.hid ia
  have IB := Lib.hid ib
  have FF := Lib.hid ff
  clear ia ib ff
  cases xa <;> cases xb
  all_goals (
    go_enter Tryd.func24, Tryd.ntmps24
    go_wp2_with (first | (go_at_call 46; ((with_reducible refine IA.out.mono ?_); rintro e w' ⟨rfl, rfl⟩)) | (go_at_call 46; ((with_reducible refine IB.out.mono ?_); rintro e w' ⟨rfl, rfl⟩)) | (go_at_call 47; ((with_reducible refine FF.out.mono ?_); rintro e w' ⟨rfl, rfl⟩)))
    go_ret2
    exact ⟨rt2b e1.out.symm e2.out.symm, rfl⟩)
theorem joinOf_any (w : World) (a b : Int) : Calls Tryd.prog 26 #[.int .i64 a, .int .i64 b] w fun e w' => e = .returned (.tuple #[.int .i64 (joinV a b), .int .i64 (kindE a b)]) ∧ w = w' := by
  have ia := in_mode w a
  have ib := in_mode w b
  have ff := joined_any w a b
  have e2 : Hid (kindE a b = if isM a && isM b then 0 else 2) := rfl
  have e1 : Hid (joinV a b = if isM a && isM b then firI a b else 0) := by
    show (if isM a && isM b then joi a b else 0) = _
    by_cases h : (1 ≤ a ∧ a ≤ 5) ∧ (1 ≤ b ∧ b ≤ 5)
    · rw [joi_is h.1 h.2]
    · by_cases ha : 1 ≤ a ∧ a ≤ 5
      · rw [isM_no (m := b) fun g => h ⟨ha, g⟩]; simp
      · rw [isM_no ha]; simp
  generalize isM a = xa at *
  generalize isM b = xb at *
  generalize firI a b = xf at *
  have IA := Lib.hid ia
  have IB := Lib.hid ib
  have FF := Lib.hid ff
  clear ia ib ff
  cases xa <;> cases xb
  all_goals (
    go_enter Tryd.func26, Tryd.ntmps26
    go_wp2_with (first | (go_at_call 46; ((with_reducible refine IA.out.mono ?_); rintro e w' ⟨rfl, rfl⟩)) | (go_at_call 46; ((with_reducible refine IB.out.mono ?_); rintro e w' ⟨rfl, rfl⟩)) | (go_at_call 48; ((with_reducible refine FF.out.mono ?_); rintro e w' ⟨rfl, rfl⟩)))
    go_ret2
    exact ⟨rt2i e1.out.symm e2.out.symm, rfl⟩)
end Go.Proofs.YtjnecmhgmmdjkaaDoor
