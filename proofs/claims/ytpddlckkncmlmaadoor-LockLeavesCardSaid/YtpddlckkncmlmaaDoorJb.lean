/- Locks: what the document's answer knows of modes; the program's two tables, read. -/
import Derived.Test.YtpddlckkncmlmaaDoorJp
import Derived.Deep.LoopGhost
namespace Go.Proofs.YtpddlckkncmlmaaDoor
open Go.ChangeShapes Go.WideShapes Go.ChangeAt Go.RowKit
set_option linter.unusedVariables false
set_option linter.unusedSimpArgs false
set_option maxHeartbeats 1000000
theorem in_any (w : World) (a b c : Int) : Calls Tryd.prog 35 #[.int .i64 a, .int .i64 b, .int .i64 c] w fun e w' => e = .returned (.bool (decide (b ≤ a) && decide (a ≤ c))) ∧ w = w' := by
  by_cases h : b ≤ a
  all_goals (
    go_enter Tryd.func35, Tryd.ntmps35
    go_wp2
    go_ret
    refine ⟨rb ?_, rfl⟩
    simp [h]
    try omega)
theorem does_any (w : World) (m : Int) : Calls Tryd.prog 61 #[.int .i64 m] w fun e w' => e = .returned (.int .i64 (doesI m)) ∧ w = w' := by
  go_enter Tryd.func61, Tryd.ntmps61
  go_wp2
  all_goals (
    go_ret
    refine ⟨ri ?_, rfl⟩
    simp_all [doesI])
theorem doesI_in (m : Int) : 1 ≤ doesI m ∧ doesI m ≤ 15 := by
  unfold doesI
  repeat' split
  all_goals omega
theorem has_any (w : World) (m u : Int) (hu : 1 ≤ u ∧ u ≤ 8) : Calls Tryd.prog 48 #[.int .i64 m, .int .i64 u] w fun e w' => e = .returned (.bool (hasI m u)) ∧ w = w' := by
  obtain ⟨h1, h2⟩ := hu
  have hm0 : (u == 0) = false := by simp; omega
  have hm1 : (u == -1) = false := by simp; omega
  obtain ⟨d1, d2⟩ := doesI_in m
  have he : Hid (hasI m u = decide (doesI m / u % 2 = 1)) := rfl
  have hd := does_any w m
  obtain ⟨d, hdd⟩ : ∃ d, d = doesI m := ⟨_, rfl⟩
  rw [← hdd] at hd d1 d2 he
  have hq1 : 0 ≤ d / u := Int.ediv_nonneg (by omega) (by omega)
  have hq2 : d / u ≤ 15 := Int.le_trans (Int.ediv_le_self _ (by omega)) d2
  have HD := Lib.hid hd
  clear hd hdd
  go_enter Tryd.func48, Tryd.ntmps48
  go_wp2_with (go_at_call 61; refine HD.out.mono ?_; rintro e w' ⟨rfl, rfl⟩)
  go_ret
  exact ⟨rb he.out.symm, rfl⟩
theorem fitting_any (w : World) (a b : Int) : Calls Tryd.prog 60 #[.int .i64 a, .int .i64 b] w fun e w' => e = .returned (.bool (fitI a b)) ∧ w = w' := by
  have he : Hid (fitI a b = if (hasI a 8 || hasI b 8) = true then false else !(hasI a 4 && hasI b 2) && !(hasI b 4 && hasI a 2)) := rfl
  have a8 := has_any w a 8 (by omega)
  have b8 := has_any w b 8 (by omega)
  have a4 := has_any w a 4 (by omega)
  have b4 := has_any w b 4 (by omega)
  have a2 := has_any w a 2 (by omega)
  have b2 := has_any w b 2 (by omega)
  generalize hasI a 8 = x8 at *
  generalize hasI b 8 = y8 at *
  generalize hasI a 4 = x4 at *
  generalize hasI b 4 = y4 at *
  generalize hasI a 2 = x2 at *
  generalize hasI b 2 = y2 at *
  have A8 := Lib.hid a8
  have B8 := Lib.hid b8
  have A4 := Lib.hid a4
  have B4 := Lib.hid b4
  have A2 := Lib.hid a2
  have B2 := Lib.hid b2
  clear a8 b8 a4 b4 a2 b2
  rw [he.out]
  clear he
  go_enter Tryd.func60, Tryd.ntmps60
  cases x8 <;> cases y8 <;> cases x4 <;> cases y4 <;> cases x2 <;> cases y2
  all_goals (
    go_wp2_with (first | (go_at_call 48; ((with_reducible refine A8.out.mono ?_); rintro e w' ⟨rfl, rfl⟩)) | (go_at_call 48; ((with_reducible refine B8.out.mono ?_); rintro e w' ⟨rfl, rfl⟩)) | (go_at_call 48; ((with_reducible refine A4.out.mono ?_); rintro e w' ⟨rfl, rfl⟩)) | (go_at_call 48; ((with_reducible refine B4.out.mono ?_); rintro e w' ⟨rfl, rfl⟩)) | (go_at_call 48; ((with_reducible refine A2.out.mono ?_); rintro e w' ⟨rfl, rfl⟩)) | (go_at_call 48; ((with_reducible refine B2.out.mono ?_); rintro e w' ⟨rfl, rfl⟩)))
    go_ret
    exact ⟨rb rfl, rfl⟩)
end Go.Proofs.YtpddlckkncmlmaaDoor
