/- TwoOf: the document, the ands and the ors (stage 1's texts). -/
import Derived.Test.YtjnfhhmhbeobbaaGreatDoorVy
import Derived.Deep.RegionWith
import Derived.Deep.CutRange
namespace Go.Proofs.YtjnfhhmhbeobbaaGreatDoor.vv
open Go.ChangeShapes Go.WideShapes Go.ChangeAt Go.RowKit
set_option linter.unusedVariables false
set_option linter.unusedSimpArgs false
set_option maxHeartbeats 1000000
set_option maxRecDepth 100000
theorem rt3_0 (w : World) (hc : chk2 ⟨0, 0, ⟨#[]⟩⟩ ⟨0, 0, ⟨#[]⟩⟩ = 0) (ht : two 3 ⟨0, 0, ⟨#[]⟩⟩ ⟨0, 0, ⟨#[]⟩⟩ = (⟨0, 0, ⟨#[]⟩⟩, 0)) :
    Calls Tryz.prog 45 #[.int .i64 3, .agg #[.int .i64 0, .int .i64 0, .string ⟨#[]⟩], .agg #[.int .i64 0, .int .i64 0, .string ⟨#[]⟩]] w fun e w' => e = .returned (.tuple #[.agg #[.int .i64 0, .int .i64 0, .string ⟨#[]⟩], .int .i64 0]) ∧ Below w.heap.size w w' := by
  go_enter Tryz.func45, Tryz.ntmps45
  go_wp2_with fail
  refine (both_any _ _ _ _ _ _ _).mono ?_
  rintro e w1 ⟨rfl, hb⟩
  obtain ⟨hz1, hB1, S_x, S_y, S_r⟩ := behind1c hb
  clear hb
  obtain ⟨u_x, x0, x1, x2, -⟩ := id S_x
  obtain ⟨u_y, y0, y1, y2, -⟩ := id S_y
  obtain ⟨u_r, r0, r1, r2, q0, q1, q2⟩ := id S_r
  go_wp2_with (go_at_call 55; refine (in_any _ _ _ _).mono ?_; rintro e we ⟨rfl, rfl⟩)
  go_cut [97] from 86 to 97 (fun c wx => c = .bool false ∧ Slot wx w.heap.size (.int .i64 0) (.int .i64 0) (.string ⟨#[]⟩) ∧ Slot wx (w.heap.size + 1) (.int .i64 0) (.int .i64 0) (.string ⟨#[]⟩) ∧ Slot wx (w.heap.size + 1 + 1) (.int .i64 0) (.int .i64 0) (.string ⟨#[]⟩) ∧ Below w.heap.size w wx)
  case first =>
    go_region_with (go_at_call 57; ((with_reducible refine (yesb_no _).mono ?_); rintro e we ⟨rfl, hby⟩); (first | (replace S_x := S_x.below hby; replace S_y := S_y.below hby; replace S_r := S_r.below hby; replace hB1 := into hB1 hby) | (replace S_x := slot_drew S_x hby; replace S_y := slot_drew S_y hby; replace S_r := slot_drew S_r hby; replace hB1 := into_drew hB1 hby)); clear hby; (obtain ⟨u_x, x0, x1, x2, -⟩ := id S_x); (obtain ⟨u_y, y0, y1, y2, -⟩ := id S_y); (obtain ⟨u_r, r0, r1, r2, q0, q1, q2⟩ := id S_r))
    all_goals (
      go_wp2_with fail
      go_meet
      exact ⟨rfl, S_x, S_y, S_r, hB1⟩)
  case rest =>
    clear u_x x0 x1 x2 u_y y0 y1 y2 u_r r0 r1 r2 q0 q1 q2 S_x S_y S_r hB1
    obtain ⟨rfl, S_x, S_y, S_r, hB1⟩ := hcut
    obtain ⟨u_x, x0, x1, x2, -⟩ := id S_x
    obtain ⟨u_y, y0, y1, y2, -⟩ := id S_y
    obtain ⟨u_r, r0, r1, r2, q0, q1, q2⟩ := id S_r
    go_wp2_with fail
    go_quiet (fail)
    clear u_x x0 x1 x2 u_y y0 y1 y2 u_r r0 r1 r2 q0 q1 q2
    have hB2 : Below w.heap.size w (wc.drewN nq) := belowN hB1 _
    replace S_x : Slot (wc.drewN nq) _ _ _ _ := S_x
    replace S_y : Slot (wc.drewN nq) _ _ _ _ := S_y
    replace S_r : Slot (wc.drewN nq) _ _ _ _ := S_r
    clear hB1
    generalize wc.drewN nq = w2 at *
    have hB1 := hB2
    clear hB2
    obtain ⟨u_x, x0, x1, x2, -⟩ := id S_x
    obtain ⟨u_y, y0, y1, y2, -⟩ := id S_y
    obtain ⟨u_r, r0, r1, r2, q0, q1, q2⟩ := id S_r
    go_wp2_with (first | (go_at_call 57; ((with_reducible refine (yesb_no _).mono ?_); rintro e we ⟨rfl, hby⟩); (first | (replace S_x := S_x.below hby; replace S_y := S_y.below hby; replace S_r := S_r.below hby; replace hB1 := into hB1 hby) | (replace S_x := slot_drew S_x hby; replace S_y := slot_drew S_y hby; replace S_r := slot_drew S_r hby; replace hB1 := into_drew hB1 hby)); clear hby; (obtain ⟨u_x, x0, x1, x2, -⟩ := id S_x); (obtain ⟨u_y, y0, y1, y2, -⟩ := id S_y); (obtain ⟨u_r, r0, r1, r2, q0, q1, q2⟩ := id S_r)) | (go_at_call 57; ((with_reducible refine (yesb_yes _).mono ?_); rintro e we ⟨rfl, hby⟩); (first | (replace S_x := S_x.below hby; replace S_y := S_y.below hby; replace S_r := S_r.below hby; replace hB1 := into hB1 hby) | (replace S_x := slot_drew S_x hby; replace S_y := slot_drew S_y hby; replace S_r := slot_drew S_r hby; replace hB1 := into_drew hB1 hby)); clear hby; (obtain ⟨u_x, x0, x1, x2, -⟩ := id S_x); (obtain ⟨u_y, y0, y1, y2, -⟩ := id S_y); (obtain ⟨u_r, r0, r1, r2, q0, q1, q2⟩ := id S_r)))
    refine bodyPost_ret (by simp [results, Tryz.results45, go_sem, r0, r1, r2]; try rfl) rfl ?_
    refine ⟨rfl, ?_⟩
    go_grown
theorem rt3_1 (w : World) (hc : chk2 ⟨0, 0, ⟨#[]⟩⟩ ⟨1, 0, ⟨#[]⟩⟩ = 0) (ht : two 3 ⟨0, 0, ⟨#[]⟩⟩ ⟨1, 0, ⟨#[]⟩⟩ = (⟨1, 0, ⟨#[]⟩⟩, 0)) :
    Calls Tryz.prog 45 #[.int .i64 3, .agg #[.int .i64 0, .int .i64 0, .string ⟨#[]⟩], .agg #[.int .i64 1, .int .i64 0, .string ⟨#[]⟩]] w fun e w' => e = .returned (.tuple #[.agg #[.int .i64 1, .int .i64 0, .string ⟨#[]⟩], .int .i64 0]) ∧ Below w.heap.size w w' := by
  go_enter Tryz.func45, Tryz.ntmps45
  go_wp2_with fail
  refine (both_any _ _ _ _ _ _ _).mono ?_
  rintro e w1 ⟨rfl, hb⟩
  obtain ⟨hz1, hB1, S_x, S_y, S_r⟩ := behind1c hb
  clear hb
  obtain ⟨u_x, x0, x1, x2, -⟩ := id S_x
  obtain ⟨u_y, y0, y1, y2, -⟩ := id S_y
  obtain ⟨u_r, r0, r1, r2, q0, q1, q2⟩ := id S_r
  go_wp2_with (go_at_call 55; refine (in_any _ _ _ _).mono ?_; rintro e we ⟨rfl, rfl⟩)
  go_cut [97] from 86 to 97 (fun c wx => c = .bool true ∧ Slot wx w.heap.size (.int .i64 0) (.int .i64 0) (.string ⟨#[]⟩) ∧ Slot wx (w.heap.size + 1) (.int .i64 1) (.int .i64 0) (.string ⟨#[]⟩) ∧ Slot wx (w.heap.size + 1 + 1) (.int .i64 0) (.int .i64 0) (.string ⟨#[]⟩) ∧ Below w.heap.size w wx)
  case first =>
    go_region_with (go_at_call 57; ((with_reducible refine (yesb_no _).mono ?_); rintro e we ⟨rfl, hby⟩); (first | (replace S_x := S_x.below hby; replace S_y := S_y.below hby; replace S_r := S_r.below hby; replace hB1 := into hB1 hby) | (replace S_x := slot_drew S_x hby; replace S_y := slot_drew S_y hby; replace S_r := slot_drew S_r hby; replace hB1 := into_drew hB1 hby)); clear hby; (obtain ⟨u_x, x0, x1, x2, -⟩ := id S_x); (obtain ⟨u_y, y0, y1, y2, -⟩ := id S_y); (obtain ⟨u_r, r0, r1, r2, q0, q1, q2⟩ := id S_r))
    all_goals (
      go_wp2_with fail
      go_meet
      exact ⟨rfl, S_x, S_y, S_r, hB1⟩)
  case rest =>
    clear u_x x0 x1 x2 u_y y0 y1 y2 u_r r0 r1 r2 q0 q1 q2 S_x S_y S_r hB1
    obtain ⟨rfl, S_x, S_y, S_r, hB1⟩ := hcut
    obtain ⟨u_x, x0, x1, x2, -⟩ := id S_x
    obtain ⟨u_y, y0, y1, y2, -⟩ := id S_y
    obtain ⟨u_r, r0, r1, r2, q0, q1, q2⟩ := id S_r
    go_wp2_with (first | (go_at_call 57; ((with_reducible refine (yesb_no _).mono ?_); rintro e we ⟨rfl, hby⟩); (first | (replace S_x := S_x.below hby; replace S_y := S_y.below hby; replace S_r := S_r.below hby; replace hB1 := into hB1 hby) | (replace S_x := slot_drew S_x hby; replace S_y := slot_drew S_y hby; replace S_r := slot_drew S_r hby; replace hB1 := into_drew hB1 hby)); clear hby; (obtain ⟨u_x, x0, x1, x2, -⟩ := id S_x); (obtain ⟨u_y, y0, y1, y2, -⟩ := id S_y); (obtain ⟨u_r, r0, r1, r2, q0, q1, q2⟩ := id S_r)) | (go_at_call 57; ((with_reducible refine (yesb_yes _).mono ?_); rintro e we ⟨rfl, hby⟩); (first | (replace S_x := S_x.below hby; replace S_y := S_y.below hby; replace S_r := S_r.below hby; replace hB1 := into hB1 hby) | (replace S_x := slot_drew S_x hby; replace S_y := slot_drew S_y hby; replace S_r := slot_drew S_r hby; replace hB1 := into_drew hB1 hby)); clear hby; (obtain ⟨u_x, x0, x1, x2, -⟩ := id S_x); (obtain ⟨u_y, y0, y1, y2, -⟩ := id S_y); (obtain ⟨u_r, r0, r1, r2, q0, q1, q2⟩ := id S_r)))
    refine bodyPost_ret (by simp [results, Tryz.results45, go_sem, r0, r1, r2]; try rfl) rfl ?_
    refine ⟨rfl, ?_⟩
    go_grown
end Go.Proofs.YtjnfhhmhbeobbaaGreatDoor.vv
namespace Go.Proofs.YtjnfhhmhbeobbaaGreatDoor.vv
open Go.ChangeShapes Go.WideShapes Go.ChangeAt Go.RowKit
set_option linter.unusedVariables false
set_option linter.unusedSimpArgs false
set_option maxHeartbeats 1000000
set_option maxRecDepth 100000
theorem rt3_2 (w : World) (hc : chk2 ⟨0, 0, ⟨#[]⟩⟩ ⟨1, 1, ⟨#[]⟩⟩ = 0) (ht : two 3 ⟨0, 0, ⟨#[]⟩⟩ ⟨1, 1, ⟨#[]⟩⟩ = (⟨0, 0, ⟨#[]⟩⟩, 0)) :
    Calls Tryz.prog 45 #[.int .i64 3, .agg #[.int .i64 0, .int .i64 0, .string ⟨#[]⟩], .agg #[.int .i64 1, .int .i64 1, .string ⟨#[]⟩]] w fun e w' => e = .returned (.tuple #[.agg #[.int .i64 0, .int .i64 0, .string ⟨#[]⟩], .int .i64 0]) ∧ Below w.heap.size w w' := by
  go_enter Tryz.func45, Tryz.ntmps45
  go_wp2_with fail
  refine (both_any _ _ _ _ _ _ _).mono ?_
  rintro e w1 ⟨rfl, hb⟩
  obtain ⟨hz1, hB1, S_x, S_y, S_r⟩ := behind1c hb
  clear hb
  obtain ⟨u_x, x0, x1, x2, -⟩ := id S_x
  obtain ⟨u_y, y0, y1, y2, -⟩ := id S_y
  obtain ⟨u_r, r0, r1, r2, q0, q1, q2⟩ := id S_r
  go_wp2_with (go_at_call 55; refine (in_any _ _ _ _).mono ?_; rintro e we ⟨rfl, rfl⟩)
  go_cut [97] from 86 to 97 (fun c wx => c = .bool false ∧ Slot wx w.heap.size (.int .i64 0) (.int .i64 0) (.string ⟨#[]⟩) ∧ Slot wx (w.heap.size + 1) (.int .i64 1) (.int .i64 1) (.string ⟨#[]⟩) ∧ Slot wx (w.heap.size + 1 + 1) (.int .i64 0) (.int .i64 0) (.string ⟨#[]⟩) ∧ Below w.heap.size w wx)
  case first =>
    go_region_with (go_at_call 57; ((with_reducible refine (yesb_no _).mono ?_); rintro e we ⟨rfl, hby⟩); (first | (replace S_x := S_x.below hby; replace S_y := S_y.below hby; replace S_r := S_r.below hby; replace hB1 := into hB1 hby) | (replace S_x := slot_drew S_x hby; replace S_y := slot_drew S_y hby; replace S_r := slot_drew S_r hby; replace hB1 := into_drew hB1 hby)); clear hby; (obtain ⟨u_x, x0, x1, x2, -⟩ := id S_x); (obtain ⟨u_y, y0, y1, y2, -⟩ := id S_y); (obtain ⟨u_r, r0, r1, r2, q0, q1, q2⟩ := id S_r))
    all_goals (
      go_wp2_with fail
      go_meet
      exact ⟨rfl, S_x, S_y, S_r, hB1⟩)
  case rest =>
    clear u_x x0 x1 x2 u_y y0 y1 y2 u_r r0 r1 r2 q0 q1 q2 S_x S_y S_r hB1
    obtain ⟨rfl, S_x, S_y, S_r, hB1⟩ := hcut
    obtain ⟨u_x, x0, x1, x2, -⟩ := id S_x
    obtain ⟨u_y, y0, y1, y2, -⟩ := id S_y
    obtain ⟨u_r, r0, r1, r2, q0, q1, q2⟩ := id S_r
    go_wp2_with fail
    go_quiet (fail)
    clear u_x x0 x1 x2 u_y y0 y1 y2 u_r r0 r1 r2 q0 q1 q2
    have hB2 : Below w.heap.size w (wc.drewN nq) := belowN hB1 _
    replace S_x : Slot (wc.drewN nq) _ _ _ _ := S_x
    replace S_y : Slot (wc.drewN nq) _ _ _ _ := S_y
    replace S_r : Slot (wc.drewN nq) _ _ _ _ := S_r
    clear hB1
    generalize wc.drewN nq = w2 at *
    have hB1 := hB2
    clear hB2
    obtain ⟨u_x, x0, x1, x2, -⟩ := id S_x
    obtain ⟨u_y, y0, y1, y2, -⟩ := id S_y
    obtain ⟨u_r, r0, r1, r2, q0, q1, q2⟩ := id S_r
    go_wp2_with (first | (go_at_call 57; ((with_reducible refine (yesb_no _).mono ?_); rintro e we ⟨rfl, hby⟩); (first | (replace S_x := S_x.below hby; replace S_y := S_y.below hby; replace S_r := S_r.below hby; replace hB1 := into hB1 hby) | (replace S_x := slot_drew S_x hby; replace S_y := slot_drew S_y hby; replace S_r := slot_drew S_r hby; replace hB1 := into_drew hB1 hby)); clear hby; (obtain ⟨u_x, x0, x1, x2, -⟩ := id S_x); (obtain ⟨u_y, y0, y1, y2, -⟩ := id S_y); (obtain ⟨u_r, r0, r1, r2, q0, q1, q2⟩ := id S_r)) | (go_at_call 57; ((with_reducible refine (yesb_yes _).mono ?_); rintro e we ⟨rfl, hby⟩); (first | (replace S_x := S_x.below hby; replace S_y := S_y.below hby; replace S_r := S_r.below hby; replace hB1 := into hB1 hby) | (replace S_x := slot_drew S_x hby; replace S_y := slot_drew S_y hby; replace S_r := slot_drew S_r hby; replace hB1 := into_drew hB1 hby)); clear hby; (obtain ⟨u_x, x0, x1, x2, -⟩ := id S_x); (obtain ⟨u_y, y0, y1, y2, -⟩ := id S_y); (obtain ⟨u_r, r0, r1, r2, q0, q1, q2⟩ := id S_r)))
    refine bodyPost_ret (by simp [results, Tryz.results45, go_sem, r0, r1, r2]; try rfl) rfl ?_
    refine ⟨rfl, ?_⟩
    go_grown
theorem rt3_3 (w : World) (hc : chk2 ⟨1, 0, ⟨#[]⟩⟩ ⟨0, 0, ⟨#[]⟩⟩ = 0) (ht : two 3 ⟨1, 0, ⟨#[]⟩⟩ ⟨0, 0, ⟨#[]⟩⟩ = (⟨1, 0, ⟨#[]⟩⟩, 0)) :
    Calls Tryz.prog 45 #[.int .i64 3, .agg #[.int .i64 1, .int .i64 0, .string ⟨#[]⟩], .agg #[.int .i64 0, .int .i64 0, .string ⟨#[]⟩]] w fun e w' => e = .returned (.tuple #[.agg #[.int .i64 1, .int .i64 0, .string ⟨#[]⟩], .int .i64 0]) ∧ Below w.heap.size w w' := by
  go_enter Tryz.func45, Tryz.ntmps45
  go_wp2_with fail
  refine (both_any _ _ _ _ _ _ _).mono ?_
  rintro e w1 ⟨rfl, hb⟩
  obtain ⟨hz1, hB1, S_x, S_y, S_r⟩ := behind1c hb
  clear hb
  obtain ⟨u_x, x0, x1, x2, -⟩ := id S_x
  obtain ⟨u_y, y0, y1, y2, -⟩ := id S_y
  obtain ⟨u_r, r0, r1, r2, q0, q1, q2⟩ := id S_r
  go_wp2_with (go_at_call 55; refine (in_any _ _ _ _).mono ?_; rintro e we ⟨rfl, rfl⟩)
  go_cut [97] from 86 to 97 (fun c wx => c = .bool true ∧ Slot wx w.heap.size (.int .i64 1) (.int .i64 0) (.string ⟨#[]⟩) ∧ Slot wx (w.heap.size + 1) (.int .i64 0) (.int .i64 0) (.string ⟨#[]⟩) ∧ Slot wx (w.heap.size + 1 + 1) (.int .i64 0) (.int .i64 0) (.string ⟨#[]⟩) ∧ Below w.heap.size w wx)
  case first =>
    go_region_with (go_at_call 57; ((with_reducible refine (yesb_no _).mono ?_); rintro e we ⟨rfl, hby⟩); (first | (replace S_x := S_x.below hby; replace S_y := S_y.below hby; replace S_r := S_r.below hby; replace hB1 := into hB1 hby) | (replace S_x := slot_drew S_x hby; replace S_y := slot_drew S_y hby; replace S_r := slot_drew S_r hby; replace hB1 := into_drew hB1 hby)); clear hby; (obtain ⟨u_x, x0, x1, x2, -⟩ := id S_x); (obtain ⟨u_y, y0, y1, y2, -⟩ := id S_y); (obtain ⟨u_r, r0, r1, r2, q0, q1, q2⟩ := id S_r))
    all_goals (
      go_wp2_with fail
      go_meet
      exact ⟨rfl, S_x, S_y, S_r, hB1⟩)
  case rest =>
    clear u_x x0 x1 x2 u_y y0 y1 y2 u_r r0 r1 r2 q0 q1 q2 S_x S_y S_r hB1
    obtain ⟨rfl, S_x, S_y, S_r, hB1⟩ := hcut
    obtain ⟨u_x, x0, x1, x2, -⟩ := id S_x
    obtain ⟨u_y, y0, y1, y2, -⟩ := id S_y
    obtain ⟨u_r, r0, r1, r2, q0, q1, q2⟩ := id S_r
    go_wp2_with (first | (go_at_call 57; ((with_reducible refine (yesb_no _).mono ?_); rintro e we ⟨rfl, hby⟩); (first | (replace S_x := S_x.below hby; replace S_y := S_y.below hby; replace S_r := S_r.below hby; replace hB1 := into hB1 hby) | (replace S_x := slot_drew S_x hby; replace S_y := slot_drew S_y hby; replace S_r := slot_drew S_r hby; replace hB1 := into_drew hB1 hby)); clear hby; (obtain ⟨u_x, x0, x1, x2, -⟩ := id S_x); (obtain ⟨u_y, y0, y1, y2, -⟩ := id S_y); (obtain ⟨u_r, r0, r1, r2, q0, q1, q2⟩ := id S_r)) | (go_at_call 57; ((with_reducible refine (yesb_yes _).mono ?_); rintro e we ⟨rfl, hby⟩); (first | (replace S_x := S_x.below hby; replace S_y := S_y.below hby; replace S_r := S_r.below hby; replace hB1 := into hB1 hby) | (replace S_x := slot_drew S_x hby; replace S_y := slot_drew S_y hby; replace S_r := slot_drew S_r hby; replace hB1 := into_drew hB1 hby)); clear hby; (obtain ⟨u_x, x0, x1, x2, -⟩ := id S_x); (obtain ⟨u_y, y0, y1, y2, -⟩ := id S_y); (obtain ⟨u_r, r0, r1, r2, q0, q1, q2⟩ := id S_r)))
    refine bodyPost_ret (by simp [results, Tryz.results45, go_sem, r0, r1, r2]; try rfl) rfl ?_
    refine ⟨rfl, ?_⟩
    go_grown
end Go.Proofs.YtjnfhhmhbeobbaaGreatDoor.vv
namespace Go.Proofs.YtjnfhhmhbeobbaaGreatDoor.vv
open Go.ChangeShapes Go.WideShapes Go.ChangeAt Go.RowKit
set_option linter.unusedVariables false
set_option linter.unusedSimpArgs false
set_option maxHeartbeats 1000000
set_option maxRecDepth 100000
theorem rt3_4 (w : World) (hc : chk2 ⟨1, 0, ⟨#[]⟩⟩ ⟨1, 0, ⟨#[]⟩⟩ = 0) (ht : two 3 ⟨1, 0, ⟨#[]⟩⟩ ⟨1, 0, ⟨#[]⟩⟩ = (⟨1, 0, ⟨#[]⟩⟩, 0)) :
    Calls Tryz.prog 45 #[.int .i64 3, .agg #[.int .i64 1, .int .i64 0, .string ⟨#[]⟩], .agg #[.int .i64 1, .int .i64 0, .string ⟨#[]⟩]] w fun e w' => e = .returned (.tuple #[.agg #[.int .i64 1, .int .i64 0, .string ⟨#[]⟩], .int .i64 0]) ∧ Below w.heap.size w w' := by
  go_enter Tryz.func45, Tryz.ntmps45
  go_wp2_with fail
  refine (both_any _ _ _ _ _ _ _).mono ?_
  rintro e w1 ⟨rfl, hb⟩
  obtain ⟨hz1, hB1, S_x, S_y, S_r⟩ := behind1c hb
  clear hb
  obtain ⟨u_x, x0, x1, x2, -⟩ := id S_x
  obtain ⟨u_y, y0, y1, y2, -⟩ := id S_y
  obtain ⟨u_r, r0, r1, r2, q0, q1, q2⟩ := id S_r
  go_wp2_with (go_at_call 55; refine (in_any _ _ _ _).mono ?_; rintro e we ⟨rfl, rfl⟩)
  go_cut [97] from 86 to 97 (fun c wx => c = .bool true ∧ Slot wx w.heap.size (.int .i64 1) (.int .i64 0) (.string ⟨#[]⟩) ∧ Slot wx (w.heap.size + 1) (.int .i64 1) (.int .i64 0) (.string ⟨#[]⟩) ∧ Slot wx (w.heap.size + 1 + 1) (.int .i64 0) (.int .i64 0) (.string ⟨#[]⟩) ∧ Below w.heap.size w wx)
  case first =>
    go_region_with (go_at_call 57; ((with_reducible refine (yesb_no _).mono ?_); rintro e we ⟨rfl, hby⟩); (first | (replace S_x := S_x.below hby; replace S_y := S_y.below hby; replace S_r := S_r.below hby; replace hB1 := into hB1 hby) | (replace S_x := slot_drew S_x hby; replace S_y := slot_drew S_y hby; replace S_r := slot_drew S_r hby; replace hB1 := into_drew hB1 hby)); clear hby; (obtain ⟨u_x, x0, x1, x2, -⟩ := id S_x); (obtain ⟨u_y, y0, y1, y2, -⟩ := id S_y); (obtain ⟨u_r, r0, r1, r2, q0, q1, q2⟩ := id S_r))
    all_goals (
      go_wp2_with fail
      go_meet
      exact ⟨rfl, S_x, S_y, S_r, hB1⟩)
  case rest =>
    clear u_x x0 x1 x2 u_y y0 y1 y2 u_r r0 r1 r2 q0 q1 q2 S_x S_y S_r hB1
    obtain ⟨rfl, S_x, S_y, S_r, hB1⟩ := hcut
    obtain ⟨u_x, x0, x1, x2, -⟩ := id S_x
    obtain ⟨u_y, y0, y1, y2, -⟩ := id S_y
    obtain ⟨u_r, r0, r1, r2, q0, q1, q2⟩ := id S_r
    go_wp2_with (first | (go_at_call 57; ((with_reducible refine (yesb_no _).mono ?_); rintro e we ⟨rfl, hby⟩); (first | (replace S_x := S_x.below hby; replace S_y := S_y.below hby; replace S_r := S_r.below hby; replace hB1 := into hB1 hby) | (replace S_x := slot_drew S_x hby; replace S_y := slot_drew S_y hby; replace S_r := slot_drew S_r hby; replace hB1 := into_drew hB1 hby)); clear hby; (obtain ⟨u_x, x0, x1, x2, -⟩ := id S_x); (obtain ⟨u_y, y0, y1, y2, -⟩ := id S_y); (obtain ⟨u_r, r0, r1, r2, q0, q1, q2⟩ := id S_r)) | (go_at_call 57; ((with_reducible refine (yesb_yes _).mono ?_); rintro e we ⟨rfl, hby⟩); (first | (replace S_x := S_x.below hby; replace S_y := S_y.below hby; replace S_r := S_r.below hby; replace hB1 := into hB1 hby) | (replace S_x := slot_drew S_x hby; replace S_y := slot_drew S_y hby; replace S_r := slot_drew S_r hby; replace hB1 := into_drew hB1 hby)); clear hby; (obtain ⟨u_x, x0, x1, x2, -⟩ := id S_x); (obtain ⟨u_y, y0, y1, y2, -⟩ := id S_y); (obtain ⟨u_r, r0, r1, r2, q0, q1, q2⟩ := id S_r)))
    refine bodyPost_ret (by simp [results, Tryz.results45, go_sem, r0, r1, r2]; try rfl) rfl ?_
    refine ⟨rfl, ?_⟩
    go_grown
theorem rt3_5 (w : World) (hc : chk2 ⟨1, 0, ⟨#[]⟩⟩ ⟨1, 1, ⟨#[]⟩⟩ = 0) (ht : two 3 ⟨1, 0, ⟨#[]⟩⟩ ⟨1, 1, ⟨#[]⟩⟩ = (⟨1, 0, ⟨#[]⟩⟩, 0)) :
    Calls Tryz.prog 45 #[.int .i64 3, .agg #[.int .i64 1, .int .i64 0, .string ⟨#[]⟩], .agg #[.int .i64 1, .int .i64 1, .string ⟨#[]⟩]] w fun e w' => e = .returned (.tuple #[.agg #[.int .i64 1, .int .i64 0, .string ⟨#[]⟩], .int .i64 0]) ∧ Below w.heap.size w w' := by
  go_enter Tryz.func45, Tryz.ntmps45
  go_wp2_with fail
  refine (both_any _ _ _ _ _ _ _).mono ?_
  rintro e w1 ⟨rfl, hb⟩
  obtain ⟨hz1, hB1, S_x, S_y, S_r⟩ := behind1c hb
  clear hb
  obtain ⟨u_x, x0, x1, x2, -⟩ := id S_x
  obtain ⟨u_y, y0, y1, y2, -⟩ := id S_y
  obtain ⟨u_r, r0, r1, r2, q0, q1, q2⟩ := id S_r
  go_wp2_with (go_at_call 55; refine (in_any _ _ _ _).mono ?_; rintro e we ⟨rfl, rfl⟩)
  go_cut [97] from 86 to 97 (fun c wx => c = .bool true ∧ Slot wx w.heap.size (.int .i64 1) (.int .i64 0) (.string ⟨#[]⟩) ∧ Slot wx (w.heap.size + 1) (.int .i64 1) (.int .i64 1) (.string ⟨#[]⟩) ∧ Slot wx (w.heap.size + 1 + 1) (.int .i64 0) (.int .i64 0) (.string ⟨#[]⟩) ∧ Below w.heap.size w wx)
  case first =>
    go_region_with (go_at_call 57; ((with_reducible refine (yesb_no _).mono ?_); rintro e we ⟨rfl, hby⟩); (first | (replace S_x := S_x.below hby; replace S_y := S_y.below hby; replace S_r := S_r.below hby; replace hB1 := into hB1 hby) | (replace S_x := slot_drew S_x hby; replace S_y := slot_drew S_y hby; replace S_r := slot_drew S_r hby; replace hB1 := into_drew hB1 hby)); clear hby; (obtain ⟨u_x, x0, x1, x2, -⟩ := id S_x); (obtain ⟨u_y, y0, y1, y2, -⟩ := id S_y); (obtain ⟨u_r, r0, r1, r2, q0, q1, q2⟩ := id S_r))
    all_goals (
      go_wp2_with fail
      go_meet
      exact ⟨rfl, S_x, S_y, S_r, hB1⟩)
  case rest =>
    clear u_x x0 x1 x2 u_y y0 y1 y2 u_r r0 r1 r2 q0 q1 q2 S_x S_y S_r hB1
    obtain ⟨rfl, S_x, S_y, S_r, hB1⟩ := hcut
    obtain ⟨u_x, x0, x1, x2, -⟩ := id S_x
    obtain ⟨u_y, y0, y1, y2, -⟩ := id S_y
    obtain ⟨u_r, r0, r1, r2, q0, q1, q2⟩ := id S_r
    go_wp2_with (first | (go_at_call 57; ((with_reducible refine (yesb_no _).mono ?_); rintro e we ⟨rfl, hby⟩); (first | (replace S_x := S_x.below hby; replace S_y := S_y.below hby; replace S_r := S_r.below hby; replace hB1 := into hB1 hby) | (replace S_x := slot_drew S_x hby; replace S_y := slot_drew S_y hby; replace S_r := slot_drew S_r hby; replace hB1 := into_drew hB1 hby)); clear hby; (obtain ⟨u_x, x0, x1, x2, -⟩ := id S_x); (obtain ⟨u_y, y0, y1, y2, -⟩ := id S_y); (obtain ⟨u_r, r0, r1, r2, q0, q1, q2⟩ := id S_r)) | (go_at_call 57; ((with_reducible refine (yesb_yes _).mono ?_); rintro e we ⟨rfl, hby⟩); (first | (replace S_x := S_x.below hby; replace S_y := S_y.below hby; replace S_r := S_r.below hby; replace hB1 := into hB1 hby) | (replace S_x := slot_drew S_x hby; replace S_y := slot_drew S_y hby; replace S_r := slot_drew S_r hby; replace hB1 := into_drew hB1 hby)); clear hby; (obtain ⟨u_x, x0, x1, x2, -⟩ := id S_x); (obtain ⟨u_y, y0, y1, y2, -⟩ := id S_y); (obtain ⟨u_r, r0, r1, r2, q0, q1, q2⟩ := id S_r)))
    refine bodyPost_ret (by simp [results, Tryz.results45, go_sem, r0, r1, r2]; try rfl) rfl ?_
    refine ⟨rfl, ?_⟩
    go_grown
end Go.Proofs.YtjnfhhmhbeobbaaGreatDoor.vv
namespace Go.Proofs.YtjnfhhmhbeobbaaGreatDoor.vv
open Go.ChangeShapes Go.WideShapes Go.ChangeAt Go.RowKit
set_option linter.unusedVariables false
set_option linter.unusedSimpArgs false
set_option maxHeartbeats 1000000
set_option maxRecDepth 100000
theorem rt3_6 (w : World) (hc : chk2 ⟨1, 1, ⟨#[]⟩⟩ ⟨0, 0, ⟨#[]⟩⟩ = 0) (ht : two 3 ⟨1, 1, ⟨#[]⟩⟩ ⟨0, 0, ⟨#[]⟩⟩ = (⟨0, 0, ⟨#[]⟩⟩, 0)) :
    Calls Tryz.prog 45 #[.int .i64 3, .agg #[.int .i64 1, .int .i64 1, .string ⟨#[]⟩], .agg #[.int .i64 0, .int .i64 0, .string ⟨#[]⟩]] w fun e w' => e = .returned (.tuple #[.agg #[.int .i64 0, .int .i64 0, .string ⟨#[]⟩], .int .i64 0]) ∧ Below w.heap.size w w' := by
  go_enter Tryz.func45, Tryz.ntmps45
  go_wp2_with fail
  refine (both_any _ _ _ _ _ _ _).mono ?_
  rintro e w1 ⟨rfl, hb⟩
  obtain ⟨hz1, hB1, S_x, S_y, S_r⟩ := behind1c hb
  clear hb
  obtain ⟨u_x, x0, x1, x2, -⟩ := id S_x
  obtain ⟨u_y, y0, y1, y2, -⟩ := id S_y
  obtain ⟨u_r, r0, r1, r2, q0, q1, q2⟩ := id S_r
  go_wp2_with (go_at_call 55; refine (in_any _ _ _ _).mono ?_; rintro e we ⟨rfl, rfl⟩)
  go_cut [97] from 86 to 97 (fun c wx => c = .bool false ∧ Slot wx w.heap.size (.int .i64 1) (.int .i64 1) (.string ⟨#[]⟩) ∧ Slot wx (w.heap.size + 1) (.int .i64 0) (.int .i64 0) (.string ⟨#[]⟩) ∧ Slot wx (w.heap.size + 1 + 1) (.int .i64 0) (.int .i64 0) (.string ⟨#[]⟩) ∧ Below w.heap.size w wx)
  case first =>
    go_region_with (go_at_call 57; ((with_reducible refine (yesb_no _).mono ?_); rintro e we ⟨rfl, hby⟩); (first | (replace S_x := S_x.below hby; replace S_y := S_y.below hby; replace S_r := S_r.below hby; replace hB1 := into hB1 hby) | (replace S_x := slot_drew S_x hby; replace S_y := slot_drew S_y hby; replace S_r := slot_drew S_r hby; replace hB1 := into_drew hB1 hby)); clear hby; (obtain ⟨u_x, x0, x1, x2, -⟩ := id S_x); (obtain ⟨u_y, y0, y1, y2, -⟩ := id S_y); (obtain ⟨u_r, r0, r1, r2, q0, q1, q2⟩ := id S_r))
    all_goals (
      go_wp2_with fail
      go_meet
      exact ⟨rfl, S_x, S_y, S_r, hB1⟩)
  case rest =>
    clear u_x x0 x1 x2 u_y y0 y1 y2 u_r r0 r1 r2 q0 q1 q2 S_x S_y S_r hB1
    obtain ⟨rfl, S_x, S_y, S_r, hB1⟩ := hcut
    obtain ⟨u_x, x0, x1, x2, -⟩ := id S_x
    obtain ⟨u_y, y0, y1, y2, -⟩ := id S_y
    obtain ⟨u_r, r0, r1, r2, q0, q1, q2⟩ := id S_r
    go_wp2_with fail
    go_quiet (fail)
    clear u_x x0 x1 x2 u_y y0 y1 y2 u_r r0 r1 r2 q0 q1 q2
    have hB2 : Below w.heap.size w (wc.drewN nq) := belowN hB1 _
    replace S_x : Slot (wc.drewN nq) _ _ _ _ := S_x
    replace S_y : Slot (wc.drewN nq) _ _ _ _ := S_y
    replace S_r : Slot (wc.drewN nq) _ _ _ _ := S_r
    clear hB1
    generalize wc.drewN nq = w2 at *
    have hB1 := hB2
    clear hB2
    obtain ⟨u_x, x0, x1, x2, -⟩ := id S_x
    obtain ⟨u_y, y0, y1, y2, -⟩ := id S_y
    obtain ⟨u_r, r0, r1, r2, q0, q1, q2⟩ := id S_r
    go_wp2_with (first | (go_at_call 57; ((with_reducible refine (yesb_no _).mono ?_); rintro e we ⟨rfl, hby⟩); (first | (replace S_x := S_x.below hby; replace S_y := S_y.below hby; replace S_r := S_r.below hby; replace hB1 := into hB1 hby) | (replace S_x := slot_drew S_x hby; replace S_y := slot_drew S_y hby; replace S_r := slot_drew S_r hby; replace hB1 := into_drew hB1 hby)); clear hby; (obtain ⟨u_x, x0, x1, x2, -⟩ := id S_x); (obtain ⟨u_y, y0, y1, y2, -⟩ := id S_y); (obtain ⟨u_r, r0, r1, r2, q0, q1, q2⟩ := id S_r)) | (go_at_call 57; ((with_reducible refine (yesb_yes _).mono ?_); rintro e we ⟨rfl, hby⟩); (first | (replace S_x := S_x.below hby; replace S_y := S_y.below hby; replace S_r := S_r.below hby; replace hB1 := into hB1 hby) | (replace S_x := slot_drew S_x hby; replace S_y := slot_drew S_y hby; replace S_r := slot_drew S_r hby; replace hB1 := into_drew hB1 hby)); clear hby; (obtain ⟨u_x, x0, x1, x2, -⟩ := id S_x); (obtain ⟨u_y, y0, y1, y2, -⟩ := id S_y); (obtain ⟨u_r, r0, r1, r2, q0, q1, q2⟩ := id S_r)))
    refine bodyPost_ret (by simp [results, Tryz.results45, go_sem, r0, r1, r2]; try rfl) rfl ?_
    refine ⟨rfl, ?_⟩
    go_grown
theorem rt3_7 (w : World) (hc : chk2 ⟨1, 1, ⟨#[]⟩⟩ ⟨1, 0, ⟨#[]⟩⟩ = 0) (ht : two 3 ⟨1, 1, ⟨#[]⟩⟩ ⟨1, 0, ⟨#[]⟩⟩ = (⟨1, 0, ⟨#[]⟩⟩, 0)) :
    Calls Tryz.prog 45 #[.int .i64 3, .agg #[.int .i64 1, .int .i64 1, .string ⟨#[]⟩], .agg #[.int .i64 1, .int .i64 0, .string ⟨#[]⟩]] w fun e w' => e = .returned (.tuple #[.agg #[.int .i64 1, .int .i64 0, .string ⟨#[]⟩], .int .i64 0]) ∧ Below w.heap.size w w' := by
  go_enter Tryz.func45, Tryz.ntmps45
  go_wp2_with fail
  refine (both_any _ _ _ _ _ _ _).mono ?_
  rintro e w1 ⟨rfl, hb⟩
  obtain ⟨hz1, hB1, S_x, S_y, S_r⟩ := behind1c hb
  clear hb
  obtain ⟨u_x, x0, x1, x2, -⟩ := id S_x
  obtain ⟨u_y, y0, y1, y2, -⟩ := id S_y
  obtain ⟨u_r, r0, r1, r2, q0, q1, q2⟩ := id S_r
  go_wp2_with (go_at_call 55; refine (in_any _ _ _ _).mono ?_; rintro e we ⟨rfl, rfl⟩)
  go_cut [97] from 86 to 97 (fun c wx => c = .bool true ∧ Slot wx w.heap.size (.int .i64 1) (.int .i64 1) (.string ⟨#[]⟩) ∧ Slot wx (w.heap.size + 1) (.int .i64 1) (.int .i64 0) (.string ⟨#[]⟩) ∧ Slot wx (w.heap.size + 1 + 1) (.int .i64 0) (.int .i64 0) (.string ⟨#[]⟩) ∧ Below w.heap.size w wx)
  case first =>
    go_region_with (go_at_call 57; ((with_reducible refine (yesb_no _).mono ?_); rintro e we ⟨rfl, hby⟩); (first | (replace S_x := S_x.below hby; replace S_y := S_y.below hby; replace S_r := S_r.below hby; replace hB1 := into hB1 hby) | (replace S_x := slot_drew S_x hby; replace S_y := slot_drew S_y hby; replace S_r := slot_drew S_r hby; replace hB1 := into_drew hB1 hby)); clear hby; (obtain ⟨u_x, x0, x1, x2, -⟩ := id S_x); (obtain ⟨u_y, y0, y1, y2, -⟩ := id S_y); (obtain ⟨u_r, r0, r1, r2, q0, q1, q2⟩ := id S_r))
    all_goals (
      go_wp2_with fail
      go_meet
      exact ⟨rfl, S_x, S_y, S_r, hB1⟩)
  case rest =>
    clear u_x x0 x1 x2 u_y y0 y1 y2 u_r r0 r1 r2 q0 q1 q2 S_x S_y S_r hB1
    obtain ⟨rfl, S_x, S_y, S_r, hB1⟩ := hcut
    obtain ⟨u_x, x0, x1, x2, -⟩ := id S_x
    obtain ⟨u_y, y0, y1, y2, -⟩ := id S_y
    obtain ⟨u_r, r0, r1, r2, q0, q1, q2⟩ := id S_r
    go_wp2_with (first | (go_at_call 57; ((with_reducible refine (yesb_no _).mono ?_); rintro e we ⟨rfl, hby⟩); (first | (replace S_x := S_x.below hby; replace S_y := S_y.below hby; replace S_r := S_r.below hby; replace hB1 := into hB1 hby) | (replace S_x := slot_drew S_x hby; replace S_y := slot_drew S_y hby; replace S_r := slot_drew S_r hby; replace hB1 := into_drew hB1 hby)); clear hby; (obtain ⟨u_x, x0, x1, x2, -⟩ := id S_x); (obtain ⟨u_y, y0, y1, y2, -⟩ := id S_y); (obtain ⟨u_r, r0, r1, r2, q0, q1, q2⟩ := id S_r)) | (go_at_call 57; ((with_reducible refine (yesb_yes _).mono ?_); rintro e we ⟨rfl, hby⟩); (first | (replace S_x := S_x.below hby; replace S_y := S_y.below hby; replace S_r := S_r.below hby; replace hB1 := into hB1 hby) | (replace S_x := slot_drew S_x hby; replace S_y := slot_drew S_y hby; replace S_r := slot_drew S_r hby; replace hB1 := into_drew hB1 hby)); clear hby; (obtain ⟨u_x, x0, x1, x2, -⟩ := id S_x); (obtain ⟨u_y, y0, y1, y2, -⟩ := id S_y); (obtain ⟨u_r, r0, r1, r2, q0, q1, q2⟩ := id S_r)))
    refine bodyPost_ret (by simp [results, Tryz.results45, go_sem, r0, r1, r2]; try rfl) rfl ?_
    refine ⟨rfl, ?_⟩
    go_grown
end Go.Proofs.YtjnfhhmhbeobbaaGreatDoor.vv
namespace Go.Proofs.YtjnfhhmhbeobbaaGreatDoor.vv
open Go.ChangeShapes Go.WideShapes Go.ChangeAt Go.RowKit
set_option linter.unusedVariables false
set_option linter.unusedSimpArgs false
set_option maxHeartbeats 1000000
set_option maxRecDepth 100000
theorem rt3_8 (w : World) (hc : chk2 ⟨1, 1, ⟨#[]⟩⟩ ⟨1, 1, ⟨#[]⟩⟩ = 0) (ht : two 3 ⟨1, 1, ⟨#[]⟩⟩ ⟨1, 1, ⟨#[]⟩⟩ = (⟨1, 1, ⟨#[]⟩⟩, 0)) :
    Calls Tryz.prog 45 #[.int .i64 3, .agg #[.int .i64 1, .int .i64 1, .string ⟨#[]⟩], .agg #[.int .i64 1, .int .i64 1, .string ⟨#[]⟩]] w fun e w' => e = .returned (.tuple #[.agg #[.int .i64 1, .int .i64 1, .string ⟨#[]⟩], .int .i64 0]) ∧ Below w.heap.size w w' := by
  go_enter Tryz.func45, Tryz.ntmps45
  go_wp2_with fail
  refine (both_any _ _ _ _ _ _ _).mono ?_
  rintro e w1 ⟨rfl, hb⟩
  obtain ⟨hz1, hB1, S_x, S_y, S_r⟩ := behind1c hb
  clear hb
  obtain ⟨u_x, x0, x1, x2, -⟩ := id S_x
  obtain ⟨u_y, y0, y1, y2, -⟩ := id S_y
  obtain ⟨u_r, r0, r1, r2, q0, q1, q2⟩ := id S_r
  go_wp2_with (go_at_call 55; refine (in_any _ _ _ _).mono ?_; rintro e we ⟨rfl, rfl⟩)
  go_cut [97] from 86 to 97 (fun c wx => c = .bool false ∧ Slot wx w.heap.size (.int .i64 1) (.int .i64 1) (.string ⟨#[]⟩) ∧ Slot wx (w.heap.size + 1) (.int .i64 1) (.int .i64 1) (.string ⟨#[]⟩) ∧ Slot wx (w.heap.size + 1 + 1) (.int .i64 0) (.int .i64 0) (.string ⟨#[]⟩) ∧ Below w.heap.size w wx)
  case first =>
    go_region_with (go_at_call 57; ((with_reducible refine (yesb_no _).mono ?_); rintro e we ⟨rfl, hby⟩); (first | (replace S_x := S_x.below hby; replace S_y := S_y.below hby; replace S_r := S_r.below hby; replace hB1 := into hB1 hby) | (replace S_x := slot_drew S_x hby; replace S_y := slot_drew S_y hby; replace S_r := slot_drew S_r hby; replace hB1 := into_drew hB1 hby)); clear hby; (obtain ⟨u_x, x0, x1, x2, -⟩ := id S_x); (obtain ⟨u_y, y0, y1, y2, -⟩ := id S_y); (obtain ⟨u_r, r0, r1, r2, q0, q1, q2⟩ := id S_r))
    all_goals (
      go_wp2_with fail
      go_meet
      exact ⟨rfl, S_x, S_y, S_r, hB1⟩)
  case rest =>
    clear u_x x0 x1 x2 u_y y0 y1 y2 u_r r0 r1 r2 q0 q1 q2 S_x S_y S_r hB1
    obtain ⟨rfl, S_x, S_y, S_r, hB1⟩ := hcut
    obtain ⟨u_x, x0, x1, x2, -⟩ := id S_x
    obtain ⟨u_y, y0, y1, y2, -⟩ := id S_y
    obtain ⟨u_r, r0, r1, r2, q0, q1, q2⟩ := id S_r
    go_wp2_with fail
    go_quiet (fail)
    clear u_x x0 x1 x2 u_y y0 y1 y2 u_r r0 r1 r2 q0 q1 q2
    have hB2 : Below w.heap.size w (wc.drewN nq) := belowN hB1 _
    replace S_x : Slot (wc.drewN nq) _ _ _ _ := S_x
    replace S_y : Slot (wc.drewN nq) _ _ _ _ := S_y
    replace S_r : Slot (wc.drewN nq) _ _ _ _ := S_r
    clear hB1
    generalize wc.drewN nq = w2 at *
    have hB1 := hB2
    clear hB2
    obtain ⟨u_x, x0, x1, x2, -⟩ := id S_x
    obtain ⟨u_y, y0, y1, y2, -⟩ := id S_y
    obtain ⟨u_r, r0, r1, r2, q0, q1, q2⟩ := id S_r
    go_wp2_with (first | (go_at_call 57; ((with_reducible refine (yesb_no _).mono ?_); rintro e we ⟨rfl, hby⟩); (first | (replace S_x := S_x.below hby; replace S_y := S_y.below hby; replace S_r := S_r.below hby; replace hB1 := into hB1 hby) | (replace S_x := slot_drew S_x hby; replace S_y := slot_drew S_y hby; replace S_r := slot_drew S_r hby; replace hB1 := into_drew hB1 hby)); clear hby; (obtain ⟨u_x, x0, x1, x2, -⟩ := id S_x); (obtain ⟨u_y, y0, y1, y2, -⟩ := id S_y); (obtain ⟨u_r, r0, r1, r2, q0, q1, q2⟩ := id S_r)) | (go_at_call 57; ((with_reducible refine (yesb_yes _).mono ?_); rintro e we ⟨rfl, hby⟩); (first | (replace S_x := S_x.below hby; replace S_y := S_y.below hby; replace S_r := S_r.below hby; replace hB1 := into hB1 hby) | (replace S_x := slot_drew S_x hby; replace S_y := slot_drew S_y hby; replace S_r := slot_drew S_r hby; replace hB1 := into_drew hB1 hby)); clear hby; (obtain ⟨u_x, x0, x1, x2, -⟩ := id S_x); (obtain ⟨u_y, y0, y1, y2, -⟩ := id S_y); (obtain ⟨u_r, r0, r1, r2, q0, q1, q2⟩ := id S_r)))
    refine bodyPost_ret (by simp [results, Tryz.results45, go_sem, r0, r1, r2]; try rfl) rfl ?_
    refine ⟨rfl, ?_⟩
    go_grown
end Go.Proofs.YtjnfhhmhbeobbaaGreatDoor.vv
namespace Go.Proofs.YtjnfhhmhbeobbaaGreatDoor.vv
open Go.ChangeShapes Go.WideShapes Go.ChangeAt Go.RowKit
set_option linter.unusedVariables false
set_option linter.unusedSimpArgs false
set_option maxHeartbeats 1000000
set_option maxRecDepth 100000
theorem rt4_0 (w : World) (hc : chk2 ⟨0, 0, ⟨#[]⟩⟩ ⟨0, 0, ⟨#[]⟩⟩ = 0) (ht : two 4 ⟨0, 0, ⟨#[]⟩⟩ ⟨0, 0, ⟨#[]⟩⟩ = (⟨0, 0, ⟨#[]⟩⟩, 0)) :
    Calls Tryz.prog 45 #[.int .i64 4, .agg #[.int .i64 0, .int .i64 0, .string ⟨#[]⟩], .agg #[.int .i64 0, .int .i64 0, .string ⟨#[]⟩]] w fun e w' => e = .returned (.tuple #[.agg #[.int .i64 0, .int .i64 0, .string ⟨#[]⟩], .int .i64 0]) ∧ Below w.heap.size w w' := by
  go_enter Tryz.func45, Tryz.ntmps45
  go_wp2_with fail
  refine (both_any _ _ _ _ _ _ _).mono ?_
  rintro e w1 ⟨rfl, hb⟩
  obtain ⟨hz1, hB1, S_x, S_y, S_r⟩ := behind1c hb
  clear hb
  obtain ⟨u_x, x0, x1, x2, -⟩ := id S_x
  obtain ⟨u_y, y0, y1, y2, -⟩ := id S_y
  obtain ⟨u_r, r0, r1, r2, q0, q1, q2⟩ := id S_r
  go_wp2_with (go_at_call 55; refine (in_any _ _ _ _).mono ?_; rintro e we ⟨rfl, rfl⟩)
  go_quiet (fail)
  clear u_x x0 x1 x2 u_y y0 y1 y2 u_r r0 r1 r2 q0 q1 q2
  have hB2 : Below w.heap.size w (w1.drewN nq) := belowN hB1 _
  replace S_x : Slot (w1.drewN nq) _ _ _ _ := S_x
  replace S_y : Slot (w1.drewN nq) _ _ _ _ := S_y
  replace S_r : Slot (w1.drewN nq) _ _ _ _ := S_r
  clear hB1 hz1
  generalize w1.drewN nq = w2 at *
  have hB1 := hB2
  clear hB2
  obtain ⟨u_x, x0, x1, x2, -⟩ := id S_x
  obtain ⟨u_y, y0, y1, y2, -⟩ := id S_y
  obtain ⟨u_r, r0, r1, r2, q0, q1, q2⟩ := id S_r
  go_wp2_with fail
  go_region_with (go_at_call 57; ((with_reducible refine (yesb_yes _).mono ?_); rintro e we ⟨rfl, hby⟩); (first | (replace S_x := S_x.below hby; replace S_y := S_y.below hby; replace S_r := S_r.below hby; replace hB1 := into hB1 hby) | (replace S_x := slot_drew S_x hby; replace S_y := slot_drew S_y hby; replace S_r := slot_drew S_r hby; replace hB1 := into_drew hB1 hby)); clear hby; (obtain ⟨u_x, x0, x1, x2, -⟩ := id S_x); (obtain ⟨u_y, y0, y1, y2, -⟩ := id S_y); (obtain ⟨u_r, r0, r1, r2, q0, q1, q2⟩ := id S_r))
  all_goals (
    go_wp2_with (first | (go_at_call 57; ((with_reducible refine (yesb_no _).mono ?_); rintro e we ⟨rfl, hby⟩); (first | (replace S_x := S_x.below hby; replace S_y := S_y.below hby; replace S_r := S_r.below hby; replace hB1 := into hB1 hby) | (replace S_x := slot_drew S_x hby; replace S_y := slot_drew S_y hby; replace S_r := slot_drew S_r hby; replace hB1 := into_drew hB1 hby)); clear hby; (obtain ⟨u_x, x0, x1, x2, -⟩ := id S_x); (obtain ⟨u_y, y0, y1, y2, -⟩ := id S_y); (obtain ⟨u_r, r0, r1, r2, q0, q1, q2⟩ := id S_r)) | (go_at_call 57; ((with_reducible refine (yesb_yes _).mono ?_); rintro e we ⟨rfl, hby⟩); (first | (replace S_x := S_x.below hby; replace S_y := S_y.below hby; replace S_r := S_r.below hby; replace hB1 := into hB1 hby) | (replace S_x := slot_drew S_x hby; replace S_y := slot_drew S_y hby; replace S_r := slot_drew S_r hby; replace hB1 := into_drew hB1 hby)); clear hby; (obtain ⟨u_x, x0, x1, x2, -⟩ := id S_x); (obtain ⟨u_y, y0, y1, y2, -⟩ := id S_y); (obtain ⟨u_r, r0, r1, r2, q0, q1, q2⟩ := id S_r))))
  all_goals (try (
    go_quiet (fail)
    go_wp2_with (first | (go_at_call 57; ((with_reducible refine (yesb_no _).mono ?_); rintro e we ⟨rfl, hby⟩); (first | (replace S_x := S_x.below hby; replace S_y := S_y.below hby; replace S_r := S_r.below hby; replace hB1 := into hB1 hby) | (replace S_x := slot_drew S_x hby; replace S_y := slot_drew S_y hby; replace S_r := slot_drew S_r hby; replace hB1 := into_drew hB1 hby)); clear hby; (obtain ⟨u_x, x0, x1, x2, -⟩ := id S_x); (obtain ⟨u_y, y0, y1, y2, -⟩ := id S_y); (obtain ⟨u_r, r0, r1, r2, q0, q1, q2⟩ := id S_r)) | (go_at_call 57; ((with_reducible refine (yesb_yes _).mono ?_); rintro e we ⟨rfl, hby⟩); (first | (replace S_x := S_x.below hby; replace S_y := S_y.below hby; replace S_r := S_r.below hby; replace hB1 := into hB1 hby) | (replace S_x := slot_drew S_x hby; replace S_y := slot_drew S_y hby; replace S_r := slot_drew S_r hby; replace hB1 := into_drew hB1 hby)); clear hby; (obtain ⟨u_x, x0, x1, x2, -⟩ := id S_x); (obtain ⟨u_y, y0, y1, y2, -⟩ := id S_y); (obtain ⟨u_r, r0, r1, r2, q0, q1, q2⟩ := id S_r)))))
  all_goals (
    refine bodyPost_ret (by simp [results, Tryz.results45, go_sem, r0, r1, r2]; try rfl) rfl ?_
    refine ⟨rfl, ?_⟩
    first | (go_grown; done) | (go_grown; exact belowN hB1 _))
theorem rt4_1 (w : World) (hc : chk2 ⟨0, 0, ⟨#[]⟩⟩ ⟨1, 0, ⟨#[]⟩⟩ = 0) (ht : two 4 ⟨0, 0, ⟨#[]⟩⟩ ⟨1, 0, ⟨#[]⟩⟩ = (⟨0, 0, ⟨#[]⟩⟩, 0)) :
    Calls Tryz.prog 45 #[.int .i64 4, .agg #[.int .i64 0, .int .i64 0, .string ⟨#[]⟩], .agg #[.int .i64 1, .int .i64 0, .string ⟨#[]⟩]] w fun e w' => e = .returned (.tuple #[.agg #[.int .i64 0, .int .i64 0, .string ⟨#[]⟩], .int .i64 0]) ∧ Below w.heap.size w w' := by
  go_enter Tryz.func45, Tryz.ntmps45
  go_wp2_with fail
  refine (both_any _ _ _ _ _ _ _).mono ?_
  rintro e w1 ⟨rfl, hb⟩
  obtain ⟨hz1, hB1, S_x, S_y, S_r⟩ := behind1c hb
  clear hb
  obtain ⟨u_x, x0, x1, x2, -⟩ := id S_x
  obtain ⟨u_y, y0, y1, y2, -⟩ := id S_y
  obtain ⟨u_r, r0, r1, r2, q0, q1, q2⟩ := id S_r
  go_wp2_with (go_at_call 55; refine (in_any _ _ _ _).mono ?_; rintro e we ⟨rfl, rfl⟩)
  go_quiet (fail)
  clear u_x x0 x1 x2 u_y y0 y1 y2 u_r r0 r1 r2 q0 q1 q2
  have hB2 : Below w.heap.size w (w1.drewN nq) := belowN hB1 _
  replace S_x : Slot (w1.drewN nq) _ _ _ _ := S_x
  replace S_y : Slot (w1.drewN nq) _ _ _ _ := S_y
  replace S_r : Slot (w1.drewN nq) _ _ _ _ := S_r
  clear hB1 hz1
  generalize w1.drewN nq = w2 at *
  have hB1 := hB2
  clear hB2
  obtain ⟨u_x, x0, x1, x2, -⟩ := id S_x
  obtain ⟨u_y, y0, y1, y2, -⟩ := id S_y
  obtain ⟨u_r, r0, r1, r2, q0, q1, q2⟩ := id S_r
  go_wp2_with fail
  go_region_with (go_at_call 57; ((with_reducible refine (yesb_yes _).mono ?_); rintro e we ⟨rfl, hby⟩); (first | (replace S_x := S_x.below hby; replace S_y := S_y.below hby; replace S_r := S_r.below hby; replace hB1 := into hB1 hby) | (replace S_x := slot_drew S_x hby; replace S_y := slot_drew S_y hby; replace S_r := slot_drew S_r hby; replace hB1 := into_drew hB1 hby)); clear hby; (obtain ⟨u_x, x0, x1, x2, -⟩ := id S_x); (obtain ⟨u_y, y0, y1, y2, -⟩ := id S_y); (obtain ⟨u_r, r0, r1, r2, q0, q1, q2⟩ := id S_r))
  all_goals (
    go_wp2_with (first | (go_at_call 57; ((with_reducible refine (yesb_no _).mono ?_); rintro e we ⟨rfl, hby⟩); (first | (replace S_x := S_x.below hby; replace S_y := S_y.below hby; replace S_r := S_r.below hby; replace hB1 := into hB1 hby) | (replace S_x := slot_drew S_x hby; replace S_y := slot_drew S_y hby; replace S_r := slot_drew S_r hby; replace hB1 := into_drew hB1 hby)); clear hby; (obtain ⟨u_x, x0, x1, x2, -⟩ := id S_x); (obtain ⟨u_y, y0, y1, y2, -⟩ := id S_y); (obtain ⟨u_r, r0, r1, r2, q0, q1, q2⟩ := id S_r)) | (go_at_call 57; ((with_reducible refine (yesb_yes _).mono ?_); rintro e we ⟨rfl, hby⟩); (first | (replace S_x := S_x.below hby; replace S_y := S_y.below hby; replace S_r := S_r.below hby; replace hB1 := into hB1 hby) | (replace S_x := slot_drew S_x hby; replace S_y := slot_drew S_y hby; replace S_r := slot_drew S_r hby; replace hB1 := into_drew hB1 hby)); clear hby; (obtain ⟨u_x, x0, x1, x2, -⟩ := id S_x); (obtain ⟨u_y, y0, y1, y2, -⟩ := id S_y); (obtain ⟨u_r, r0, r1, r2, q0, q1, q2⟩ := id S_r))))
  all_goals (try (
    go_quiet (fail)
    go_wp2_with (first | (go_at_call 57; ((with_reducible refine (yesb_no _).mono ?_); rintro e we ⟨rfl, hby⟩); (first | (replace S_x := S_x.below hby; replace S_y := S_y.below hby; replace S_r := S_r.below hby; replace hB1 := into hB1 hby) | (replace S_x := slot_drew S_x hby; replace S_y := slot_drew S_y hby; replace S_r := slot_drew S_r hby; replace hB1 := into_drew hB1 hby)); clear hby; (obtain ⟨u_x, x0, x1, x2, -⟩ := id S_x); (obtain ⟨u_y, y0, y1, y2, -⟩ := id S_y); (obtain ⟨u_r, r0, r1, r2, q0, q1, q2⟩ := id S_r)) | (go_at_call 57; ((with_reducible refine (yesb_yes _).mono ?_); rintro e we ⟨rfl, hby⟩); (first | (replace S_x := S_x.below hby; replace S_y := S_y.below hby; replace S_r := S_r.below hby; replace hB1 := into hB1 hby) | (replace S_x := slot_drew S_x hby; replace S_y := slot_drew S_y hby; replace S_r := slot_drew S_r hby; replace hB1 := into_drew hB1 hby)); clear hby; (obtain ⟨u_x, x0, x1, x2, -⟩ := id S_x); (obtain ⟨u_y, y0, y1, y2, -⟩ := id S_y); (obtain ⟨u_r, r0, r1, r2, q0, q1, q2⟩ := id S_r)))))
  all_goals (
    refine bodyPost_ret (by simp [results, Tryz.results45, go_sem, r0, r1, r2]; try rfl) rfl ?_
    refine ⟨rfl, ?_⟩
    first | (go_grown; done) | (go_grown; exact belowN hB1 _))
end Go.Proofs.YtjnfhhmhbeobbaaGreatDoor.vv
namespace Go.Proofs.YtjnfhhmhbeobbaaGreatDoor.vv
open Go.ChangeShapes Go.WideShapes Go.ChangeAt Go.RowKit
set_option linter.unusedVariables false
set_option linter.unusedSimpArgs false
set_option maxHeartbeats 1000000
set_option maxRecDepth 100000
theorem rt4_2 (w : World) (hc : chk2 ⟨0, 0, ⟨#[]⟩⟩ ⟨1, 1, ⟨#[]⟩⟩ = 0) (ht : two 4 ⟨0, 0, ⟨#[]⟩⟩ ⟨1, 1, ⟨#[]⟩⟩ = (⟨1, 1, ⟨#[]⟩⟩, 0)) :
    Calls Tryz.prog 45 #[.int .i64 4, .agg #[.int .i64 0, .int .i64 0, .string ⟨#[]⟩], .agg #[.int .i64 1, .int .i64 1, .string ⟨#[]⟩]] w fun e w' => e = .returned (.tuple #[.agg #[.int .i64 1, .int .i64 1, .string ⟨#[]⟩], .int .i64 0]) ∧ Below w.heap.size w w' := by
  go_enter Tryz.func45, Tryz.ntmps45
  go_wp2_with fail
  refine (both_any _ _ _ _ _ _ _).mono ?_
  rintro e w1 ⟨rfl, hb⟩
  obtain ⟨hz1, hB1, S_x, S_y, S_r⟩ := behind1c hb
  clear hb
  obtain ⟨u_x, x0, x1, x2, -⟩ := id S_x
  obtain ⟨u_y, y0, y1, y2, -⟩ := id S_y
  obtain ⟨u_r, r0, r1, r2, q0, q1, q2⟩ := id S_r
  go_wp2_with (go_at_call 55; refine (in_any _ _ _ _).mono ?_; rintro e we ⟨rfl, rfl⟩)
  go_quiet (fail)
  clear u_x x0 x1 x2 u_y y0 y1 y2 u_r r0 r1 r2 q0 q1 q2
  have hB2 : Below w.heap.size w (w1.drewN nq) := belowN hB1 _
  replace S_x : Slot (w1.drewN nq) _ _ _ _ := S_x
  replace S_y : Slot (w1.drewN nq) _ _ _ _ := S_y
  replace S_r : Slot (w1.drewN nq) _ _ _ _ := S_r
  clear hB1 hz1
  generalize w1.drewN nq = w2 at *
  have hB1 := hB2
  clear hB2
  obtain ⟨u_x, x0, x1, x2, -⟩ := id S_x
  obtain ⟨u_y, y0, y1, y2, -⟩ := id S_y
  obtain ⟨u_r, r0, r1, r2, q0, q1, q2⟩ := id S_r
  go_wp2_with fail
  go_region_with (go_at_call 57; ((with_reducible refine (yesb_yes _).mono ?_); rintro e we ⟨rfl, hby⟩); (first | (replace S_x := S_x.below hby; replace S_y := S_y.below hby; replace S_r := S_r.below hby; replace hB1 := into hB1 hby) | (replace S_x := slot_drew S_x hby; replace S_y := slot_drew S_y hby; replace S_r := slot_drew S_r hby; replace hB1 := into_drew hB1 hby)); clear hby; (obtain ⟨u_x, x0, x1, x2, -⟩ := id S_x); (obtain ⟨u_y, y0, y1, y2, -⟩ := id S_y); (obtain ⟨u_r, r0, r1, r2, q0, q1, q2⟩ := id S_r))
  all_goals (
    go_wp2_with (first | (go_at_call 57; ((with_reducible refine (yesb_no _).mono ?_); rintro e we ⟨rfl, hby⟩); (first | (replace S_x := S_x.below hby; replace S_y := S_y.below hby; replace S_r := S_r.below hby; replace hB1 := into hB1 hby) | (replace S_x := slot_drew S_x hby; replace S_y := slot_drew S_y hby; replace S_r := slot_drew S_r hby; replace hB1 := into_drew hB1 hby)); clear hby; (obtain ⟨u_x, x0, x1, x2, -⟩ := id S_x); (obtain ⟨u_y, y0, y1, y2, -⟩ := id S_y); (obtain ⟨u_r, r0, r1, r2, q0, q1, q2⟩ := id S_r)) | (go_at_call 57; ((with_reducible refine (yesb_yes _).mono ?_); rintro e we ⟨rfl, hby⟩); (first | (replace S_x := S_x.below hby; replace S_y := S_y.below hby; replace S_r := S_r.below hby; replace hB1 := into hB1 hby) | (replace S_x := slot_drew S_x hby; replace S_y := slot_drew S_y hby; replace S_r := slot_drew S_r hby; replace hB1 := into_drew hB1 hby)); clear hby; (obtain ⟨u_x, x0, x1, x2, -⟩ := id S_x); (obtain ⟨u_y, y0, y1, y2, -⟩ := id S_y); (obtain ⟨u_r, r0, r1, r2, q0, q1, q2⟩ := id S_r))))
  all_goals (try (
    go_quiet (fail)
    go_wp2_with (first | (go_at_call 57; ((with_reducible refine (yesb_no _).mono ?_); rintro e we ⟨rfl, hby⟩); (first | (replace S_x := S_x.below hby; replace S_y := S_y.below hby; replace S_r := S_r.below hby; replace hB1 := into hB1 hby) | (replace S_x := slot_drew S_x hby; replace S_y := slot_drew S_y hby; replace S_r := slot_drew S_r hby; replace hB1 := into_drew hB1 hby)); clear hby; (obtain ⟨u_x, x0, x1, x2, -⟩ := id S_x); (obtain ⟨u_y, y0, y1, y2, -⟩ := id S_y); (obtain ⟨u_r, r0, r1, r2, q0, q1, q2⟩ := id S_r)) | (go_at_call 57; ((with_reducible refine (yesb_yes _).mono ?_); rintro e we ⟨rfl, hby⟩); (first | (replace S_x := S_x.below hby; replace S_y := S_y.below hby; replace S_r := S_r.below hby; replace hB1 := into hB1 hby) | (replace S_x := slot_drew S_x hby; replace S_y := slot_drew S_y hby; replace S_r := slot_drew S_r hby; replace hB1 := into_drew hB1 hby)); clear hby; (obtain ⟨u_x, x0, x1, x2, -⟩ := id S_x); (obtain ⟨u_y, y0, y1, y2, -⟩ := id S_y); (obtain ⟨u_r, r0, r1, r2, q0, q1, q2⟩ := id S_r)))))
  all_goals (
    refine bodyPost_ret (by simp [results, Tryz.results45, go_sem, r0, r1, r2]; try rfl) rfl ?_
    refine ⟨rfl, ?_⟩
    first | (go_grown; done) | (go_grown; exact belowN hB1 _))
theorem rt4_3 (w : World) (hc : chk2 ⟨1, 0, ⟨#[]⟩⟩ ⟨0, 0, ⟨#[]⟩⟩ = 0) (ht : two 4 ⟨1, 0, ⟨#[]⟩⟩ ⟨0, 0, ⟨#[]⟩⟩ = (⟨0, 0, ⟨#[]⟩⟩, 0)) :
    Calls Tryz.prog 45 #[.int .i64 4, .agg #[.int .i64 1, .int .i64 0, .string ⟨#[]⟩], .agg #[.int .i64 0, .int .i64 0, .string ⟨#[]⟩]] w fun e w' => e = .returned (.tuple #[.agg #[.int .i64 0, .int .i64 0, .string ⟨#[]⟩], .int .i64 0]) ∧ Below w.heap.size w w' := by
  go_enter Tryz.func45, Tryz.ntmps45
  go_wp2_with fail
  refine (both_any _ _ _ _ _ _ _).mono ?_
  rintro e w1 ⟨rfl, hb⟩
  obtain ⟨hz1, hB1, S_x, S_y, S_r⟩ := behind1c hb
  clear hb
  obtain ⟨u_x, x0, x1, x2, -⟩ := id S_x
  obtain ⟨u_y, y0, y1, y2, -⟩ := id S_y
  obtain ⟨u_r, r0, r1, r2, q0, q1, q2⟩ := id S_r
  go_wp2_with (go_at_call 55; refine (in_any _ _ _ _).mono ?_; rintro e we ⟨rfl, rfl⟩)
  go_quiet (fail)
  clear u_x x0 x1 x2 u_y y0 y1 y2 u_r r0 r1 r2 q0 q1 q2
  have hB2 : Below w.heap.size w (w1.drewN nq) := belowN hB1 _
  replace S_x : Slot (w1.drewN nq) _ _ _ _ := S_x
  replace S_y : Slot (w1.drewN nq) _ _ _ _ := S_y
  replace S_r : Slot (w1.drewN nq) _ _ _ _ := S_r
  clear hB1 hz1
  generalize w1.drewN nq = w2 at *
  have hB1 := hB2
  clear hB2
  obtain ⟨u_x, x0, x1, x2, -⟩ := id S_x
  obtain ⟨u_y, y0, y1, y2, -⟩ := id S_y
  obtain ⟨u_r, r0, r1, r2, q0, q1, q2⟩ := id S_r
  go_wp2_with fail
  go_region_with (go_at_call 57; ((with_reducible refine (yesb_yes _).mono ?_); rintro e we ⟨rfl, hby⟩); (first | (replace S_x := S_x.below hby; replace S_y := S_y.below hby; replace S_r := S_r.below hby; replace hB1 := into hB1 hby) | (replace S_x := slot_drew S_x hby; replace S_y := slot_drew S_y hby; replace S_r := slot_drew S_r hby; replace hB1 := into_drew hB1 hby)); clear hby; (obtain ⟨u_x, x0, x1, x2, -⟩ := id S_x); (obtain ⟨u_y, y0, y1, y2, -⟩ := id S_y); (obtain ⟨u_r, r0, r1, r2, q0, q1, q2⟩ := id S_r))
  all_goals (
    go_wp2_with (first | (go_at_call 57; ((with_reducible refine (yesb_no _).mono ?_); rintro e we ⟨rfl, hby⟩); (first | (replace S_x := S_x.below hby; replace S_y := S_y.below hby; replace S_r := S_r.below hby; replace hB1 := into hB1 hby) | (replace S_x := slot_drew S_x hby; replace S_y := slot_drew S_y hby; replace S_r := slot_drew S_r hby; replace hB1 := into_drew hB1 hby)); clear hby; (obtain ⟨u_x, x0, x1, x2, -⟩ := id S_x); (obtain ⟨u_y, y0, y1, y2, -⟩ := id S_y); (obtain ⟨u_r, r0, r1, r2, q0, q1, q2⟩ := id S_r)) | (go_at_call 57; ((with_reducible refine (yesb_yes _).mono ?_); rintro e we ⟨rfl, hby⟩); (first | (replace S_x := S_x.below hby; replace S_y := S_y.below hby; replace S_r := S_r.below hby; replace hB1 := into hB1 hby) | (replace S_x := slot_drew S_x hby; replace S_y := slot_drew S_y hby; replace S_r := slot_drew S_r hby; replace hB1 := into_drew hB1 hby)); clear hby; (obtain ⟨u_x, x0, x1, x2, -⟩ := id S_x); (obtain ⟨u_y, y0, y1, y2, -⟩ := id S_y); (obtain ⟨u_r, r0, r1, r2, q0, q1, q2⟩ := id S_r))))
  all_goals (try (
    go_quiet (fail)
    go_wp2_with (first | (go_at_call 57; ((with_reducible refine (yesb_no _).mono ?_); rintro e we ⟨rfl, hby⟩); (first | (replace S_x := S_x.below hby; replace S_y := S_y.below hby; replace S_r := S_r.below hby; replace hB1 := into hB1 hby) | (replace S_x := slot_drew S_x hby; replace S_y := slot_drew S_y hby; replace S_r := slot_drew S_r hby; replace hB1 := into_drew hB1 hby)); clear hby; (obtain ⟨u_x, x0, x1, x2, -⟩ := id S_x); (obtain ⟨u_y, y0, y1, y2, -⟩ := id S_y); (obtain ⟨u_r, r0, r1, r2, q0, q1, q2⟩ := id S_r)) | (go_at_call 57; ((with_reducible refine (yesb_yes _).mono ?_); rintro e we ⟨rfl, hby⟩); (first | (replace S_x := S_x.below hby; replace S_y := S_y.below hby; replace S_r := S_r.below hby; replace hB1 := into hB1 hby) | (replace S_x := slot_drew S_x hby; replace S_y := slot_drew S_y hby; replace S_r := slot_drew S_r hby; replace hB1 := into_drew hB1 hby)); clear hby; (obtain ⟨u_x, x0, x1, x2, -⟩ := id S_x); (obtain ⟨u_y, y0, y1, y2, -⟩ := id S_y); (obtain ⟨u_r, r0, r1, r2, q0, q1, q2⟩ := id S_r)))))
  all_goals (
    refine bodyPost_ret (by simp [results, Tryz.results45, go_sem, r0, r1, r2]; try rfl) rfl ?_
    refine ⟨rfl, ?_⟩
    first | (go_grown; done) | (go_grown; exact belowN hB1 _))
end Go.Proofs.YtjnfhhmhbeobbaaGreatDoor.vv
namespace Go.Proofs.YtjnfhhmhbeobbaaGreatDoor.vv
open Go.ChangeShapes Go.WideShapes Go.ChangeAt Go.RowKit
set_option linter.unusedVariables false
set_option linter.unusedSimpArgs false
set_option maxHeartbeats 1000000
set_option maxRecDepth 100000
theorem rt4_4 (w : World) (hc : chk2 ⟨1, 0, ⟨#[]⟩⟩ ⟨1, 0, ⟨#[]⟩⟩ = 0) (ht : two 4 ⟨1, 0, ⟨#[]⟩⟩ ⟨1, 0, ⟨#[]⟩⟩ = (⟨1, 0, ⟨#[]⟩⟩, 0)) :
    Calls Tryz.prog 45 #[.int .i64 4, .agg #[.int .i64 1, .int .i64 0, .string ⟨#[]⟩], .agg #[.int .i64 1, .int .i64 0, .string ⟨#[]⟩]] w fun e w' => e = .returned (.tuple #[.agg #[.int .i64 1, .int .i64 0, .string ⟨#[]⟩], .int .i64 0]) ∧ Below w.heap.size w w' := by
  go_enter Tryz.func45, Tryz.ntmps45
  go_wp2_with fail
  refine (both_any _ _ _ _ _ _ _).mono ?_
  rintro e w1 ⟨rfl, hb⟩
  obtain ⟨hz1, hB1, S_x, S_y, S_r⟩ := behind1c hb
  clear hb
  obtain ⟨u_x, x0, x1, x2, -⟩ := id S_x
  obtain ⟨u_y, y0, y1, y2, -⟩ := id S_y
  obtain ⟨u_r, r0, r1, r2, q0, q1, q2⟩ := id S_r
  go_wp2_with (go_at_call 55; refine (in_any _ _ _ _).mono ?_; rintro e we ⟨rfl, rfl⟩)
  go_quiet (fail)
  clear u_x x0 x1 x2 u_y y0 y1 y2 u_r r0 r1 r2 q0 q1 q2
  have hB2 : Below w.heap.size w (w1.drewN nq) := belowN hB1 _
  replace S_x : Slot (w1.drewN nq) _ _ _ _ := S_x
  replace S_y : Slot (w1.drewN nq) _ _ _ _ := S_y
  replace S_r : Slot (w1.drewN nq) _ _ _ _ := S_r
  clear hB1 hz1
  generalize w1.drewN nq = w2 at *
  have hB1 := hB2
  clear hB2
  obtain ⟨u_x, x0, x1, x2, -⟩ := id S_x
  obtain ⟨u_y, y0, y1, y2, -⟩ := id S_y
  obtain ⟨u_r, r0, r1, r2, q0, q1, q2⟩ := id S_r
  go_wp2_with fail
  go_region_with (go_at_call 57; ((with_reducible refine (yesb_yes _).mono ?_); rintro e we ⟨rfl, hby⟩); (first | (replace S_x := S_x.below hby; replace S_y := S_y.below hby; replace S_r := S_r.below hby; replace hB1 := into hB1 hby) | (replace S_x := slot_drew S_x hby; replace S_y := slot_drew S_y hby; replace S_r := slot_drew S_r hby; replace hB1 := into_drew hB1 hby)); clear hby; (obtain ⟨u_x, x0, x1, x2, -⟩ := id S_x); (obtain ⟨u_y, y0, y1, y2, -⟩ := id S_y); (obtain ⟨u_r, r0, r1, r2, q0, q1, q2⟩ := id S_r))
  all_goals (
    go_wp2_with (first | (go_at_call 57; ((with_reducible refine (yesb_no _).mono ?_); rintro e we ⟨rfl, hby⟩); (first | (replace S_x := S_x.below hby; replace S_y := S_y.below hby; replace S_r := S_r.below hby; replace hB1 := into hB1 hby) | (replace S_x := slot_drew S_x hby; replace S_y := slot_drew S_y hby; replace S_r := slot_drew S_r hby; replace hB1 := into_drew hB1 hby)); clear hby; (obtain ⟨u_x, x0, x1, x2, -⟩ := id S_x); (obtain ⟨u_y, y0, y1, y2, -⟩ := id S_y); (obtain ⟨u_r, r0, r1, r2, q0, q1, q2⟩ := id S_r)) | (go_at_call 57; ((with_reducible refine (yesb_yes _).mono ?_); rintro e we ⟨rfl, hby⟩); (first | (replace S_x := S_x.below hby; replace S_y := S_y.below hby; replace S_r := S_r.below hby; replace hB1 := into hB1 hby) | (replace S_x := slot_drew S_x hby; replace S_y := slot_drew S_y hby; replace S_r := slot_drew S_r hby; replace hB1 := into_drew hB1 hby)); clear hby; (obtain ⟨u_x, x0, x1, x2, -⟩ := id S_x); (obtain ⟨u_y, y0, y1, y2, -⟩ := id S_y); (obtain ⟨u_r, r0, r1, r2, q0, q1, q2⟩ := id S_r))))
  all_goals (try (
    go_quiet (fail)
    go_wp2_with (first | (go_at_call 57; ((with_reducible refine (yesb_no _).mono ?_); rintro e we ⟨rfl, hby⟩); (first | (replace S_x := S_x.below hby; replace S_y := S_y.below hby; replace S_r := S_r.below hby; replace hB1 := into hB1 hby) | (replace S_x := slot_drew S_x hby; replace S_y := slot_drew S_y hby; replace S_r := slot_drew S_r hby; replace hB1 := into_drew hB1 hby)); clear hby; (obtain ⟨u_x, x0, x1, x2, -⟩ := id S_x); (obtain ⟨u_y, y0, y1, y2, -⟩ := id S_y); (obtain ⟨u_r, r0, r1, r2, q0, q1, q2⟩ := id S_r)) | (go_at_call 57; ((with_reducible refine (yesb_yes _).mono ?_); rintro e we ⟨rfl, hby⟩); (first | (replace S_x := S_x.below hby; replace S_y := S_y.below hby; replace S_r := S_r.below hby; replace hB1 := into hB1 hby) | (replace S_x := slot_drew S_x hby; replace S_y := slot_drew S_y hby; replace S_r := slot_drew S_r hby; replace hB1 := into_drew hB1 hby)); clear hby; (obtain ⟨u_x, x0, x1, x2, -⟩ := id S_x); (obtain ⟨u_y, y0, y1, y2, -⟩ := id S_y); (obtain ⟨u_r, r0, r1, r2, q0, q1, q2⟩ := id S_r)))))
  all_goals (
    refine bodyPost_ret (by simp [results, Tryz.results45, go_sem, r0, r1, r2]; try rfl) rfl ?_
    refine ⟨rfl, ?_⟩
    first | (go_grown; done) | (go_grown; exact belowN hB1 _))
theorem rt4_5 (w : World) (hc : chk2 ⟨1, 0, ⟨#[]⟩⟩ ⟨1, 1, ⟨#[]⟩⟩ = 0) (ht : two 4 ⟨1, 0, ⟨#[]⟩⟩ ⟨1, 1, ⟨#[]⟩⟩ = (⟨1, 1, ⟨#[]⟩⟩, 0)) :
    Calls Tryz.prog 45 #[.int .i64 4, .agg #[.int .i64 1, .int .i64 0, .string ⟨#[]⟩], .agg #[.int .i64 1, .int .i64 1, .string ⟨#[]⟩]] w fun e w' => e = .returned (.tuple #[.agg #[.int .i64 1, .int .i64 1, .string ⟨#[]⟩], .int .i64 0]) ∧ Below w.heap.size w w' := by
  go_enter Tryz.func45, Tryz.ntmps45
  go_wp2_with fail
  refine (both_any _ _ _ _ _ _ _).mono ?_
  rintro e w1 ⟨rfl, hb⟩
  obtain ⟨hz1, hB1, S_x, S_y, S_r⟩ := behind1c hb
  clear hb
  obtain ⟨u_x, x0, x1, x2, -⟩ := id S_x
  obtain ⟨u_y, y0, y1, y2, -⟩ := id S_y
  obtain ⟨u_r, r0, r1, r2, q0, q1, q2⟩ := id S_r
  go_wp2_with (go_at_call 55; refine (in_any _ _ _ _).mono ?_; rintro e we ⟨rfl, rfl⟩)
  go_quiet (fail)
  clear u_x x0 x1 x2 u_y y0 y1 y2 u_r r0 r1 r2 q0 q1 q2
  have hB2 : Below w.heap.size w (w1.drewN nq) := belowN hB1 _
  replace S_x : Slot (w1.drewN nq) _ _ _ _ := S_x
  replace S_y : Slot (w1.drewN nq) _ _ _ _ := S_y
  replace S_r : Slot (w1.drewN nq) _ _ _ _ := S_r
  clear hB1 hz1
  generalize w1.drewN nq = w2 at *
  have hB1 := hB2
  clear hB2
  obtain ⟨u_x, x0, x1, x2, -⟩ := id S_x
  obtain ⟨u_y, y0, y1, y2, -⟩ := id S_y
  obtain ⟨u_r, r0, r1, r2, q0, q1, q2⟩ := id S_r
  go_wp2_with fail
  go_region_with (go_at_call 57; ((with_reducible refine (yesb_yes _).mono ?_); rintro e we ⟨rfl, hby⟩); (first | (replace S_x := S_x.below hby; replace S_y := S_y.below hby; replace S_r := S_r.below hby; replace hB1 := into hB1 hby) | (replace S_x := slot_drew S_x hby; replace S_y := slot_drew S_y hby; replace S_r := slot_drew S_r hby; replace hB1 := into_drew hB1 hby)); clear hby; (obtain ⟨u_x, x0, x1, x2, -⟩ := id S_x); (obtain ⟨u_y, y0, y1, y2, -⟩ := id S_y); (obtain ⟨u_r, r0, r1, r2, q0, q1, q2⟩ := id S_r))
  all_goals (
    go_wp2_with (first | (go_at_call 57; ((with_reducible refine (yesb_no _).mono ?_); rintro e we ⟨rfl, hby⟩); (first | (replace S_x := S_x.below hby; replace S_y := S_y.below hby; replace S_r := S_r.below hby; replace hB1 := into hB1 hby) | (replace S_x := slot_drew S_x hby; replace S_y := slot_drew S_y hby; replace S_r := slot_drew S_r hby; replace hB1 := into_drew hB1 hby)); clear hby; (obtain ⟨u_x, x0, x1, x2, -⟩ := id S_x); (obtain ⟨u_y, y0, y1, y2, -⟩ := id S_y); (obtain ⟨u_r, r0, r1, r2, q0, q1, q2⟩ := id S_r)) | (go_at_call 57; ((with_reducible refine (yesb_yes _).mono ?_); rintro e we ⟨rfl, hby⟩); (first | (replace S_x := S_x.below hby; replace S_y := S_y.below hby; replace S_r := S_r.below hby; replace hB1 := into hB1 hby) | (replace S_x := slot_drew S_x hby; replace S_y := slot_drew S_y hby; replace S_r := slot_drew S_r hby; replace hB1 := into_drew hB1 hby)); clear hby; (obtain ⟨u_x, x0, x1, x2, -⟩ := id S_x); (obtain ⟨u_y, y0, y1, y2, -⟩ := id S_y); (obtain ⟨u_r, r0, r1, r2, q0, q1, q2⟩ := id S_r))))
  all_goals (try (
    go_quiet (fail)
    go_wp2_with (first | (go_at_call 57; ((with_reducible refine (yesb_no _).mono ?_); rintro e we ⟨rfl, hby⟩); (first | (replace S_x := S_x.below hby; replace S_y := S_y.below hby; replace S_r := S_r.below hby; replace hB1 := into hB1 hby) | (replace S_x := slot_drew S_x hby; replace S_y := slot_drew S_y hby; replace S_r := slot_drew S_r hby; replace hB1 := into_drew hB1 hby)); clear hby; (obtain ⟨u_x, x0, x1, x2, -⟩ := id S_x); (obtain ⟨u_y, y0, y1, y2, -⟩ := id S_y); (obtain ⟨u_r, r0, r1, r2, q0, q1, q2⟩ := id S_r)) | (go_at_call 57; ((with_reducible refine (yesb_yes _).mono ?_); rintro e we ⟨rfl, hby⟩); (first | (replace S_x := S_x.below hby; replace S_y := S_y.below hby; replace S_r := S_r.below hby; replace hB1 := into hB1 hby) | (replace S_x := slot_drew S_x hby; replace S_y := slot_drew S_y hby; replace S_r := slot_drew S_r hby; replace hB1 := into_drew hB1 hby)); clear hby; (obtain ⟨u_x, x0, x1, x2, -⟩ := id S_x); (obtain ⟨u_y, y0, y1, y2, -⟩ := id S_y); (obtain ⟨u_r, r0, r1, r2, q0, q1, q2⟩ := id S_r)))))
  all_goals (
    refine bodyPost_ret (by simp [results, Tryz.results45, go_sem, r0, r1, r2]; try rfl) rfl ?_
    refine ⟨rfl, ?_⟩
    first | (go_grown; done) | (go_grown; exact belowN hB1 _))
end Go.Proofs.YtjnfhhmhbeobbaaGreatDoor.vv
namespace Go.Proofs.YtjnfhhmhbeobbaaGreatDoor.vv
open Go.ChangeShapes Go.WideShapes Go.ChangeAt Go.RowKit
set_option linter.unusedVariables false
set_option linter.unusedSimpArgs false
set_option maxHeartbeats 1000000
set_option maxRecDepth 100000
theorem rt4_6 (w : World) (hc : chk2 ⟨1, 1, ⟨#[]⟩⟩ ⟨0, 0, ⟨#[]⟩⟩ = 0) (ht : two 4 ⟨1, 1, ⟨#[]⟩⟩ ⟨0, 0, ⟨#[]⟩⟩ = (⟨1, 1, ⟨#[]⟩⟩, 0)) :
    Calls Tryz.prog 45 #[.int .i64 4, .agg #[.int .i64 1, .int .i64 1, .string ⟨#[]⟩], .agg #[.int .i64 0, .int .i64 0, .string ⟨#[]⟩]] w fun e w' => e = .returned (.tuple #[.agg #[.int .i64 1, .int .i64 1, .string ⟨#[]⟩], .int .i64 0]) ∧ Below w.heap.size w w' := by
  go_enter Tryz.func45, Tryz.ntmps45
  go_wp2_with fail
  refine (both_any _ _ _ _ _ _ _).mono ?_
  rintro e w1 ⟨rfl, hb⟩
  obtain ⟨hz1, hB1, S_x, S_y, S_r⟩ := behind1c hb
  clear hb
  obtain ⟨u_x, x0, x1, x2, -⟩ := id S_x
  obtain ⟨u_y, y0, y1, y2, -⟩ := id S_y
  obtain ⟨u_r, r0, r1, r2, q0, q1, q2⟩ := id S_r
  go_wp2_with (go_at_call 55; refine (in_any _ _ _ _).mono ?_; rintro e we ⟨rfl, rfl⟩)
  go_quiet (fail)
  clear u_x x0 x1 x2 u_y y0 y1 y2 u_r r0 r1 r2 q0 q1 q2
  have hB2 : Below w.heap.size w (w1.drewN nq) := belowN hB1 _
  replace S_x : Slot (w1.drewN nq) _ _ _ _ := S_x
  replace S_y : Slot (w1.drewN nq) _ _ _ _ := S_y
  replace S_r : Slot (w1.drewN nq) _ _ _ _ := S_r
  clear hB1 hz1
  generalize w1.drewN nq = w2 at *
  have hB1 := hB2
  clear hB2
  obtain ⟨u_x, x0, x1, x2, -⟩ := id S_x
  obtain ⟨u_y, y0, y1, y2, -⟩ := id S_y
  obtain ⟨u_r, r0, r1, r2, q0, q1, q2⟩ := id S_r
  go_wp2_with fail
  go_region_with (go_at_call 57; ((with_reducible refine (yesb_yes _).mono ?_); rintro e we ⟨rfl, hby⟩); (first | (replace S_x := S_x.below hby; replace S_y := S_y.below hby; replace S_r := S_r.below hby; replace hB1 := into hB1 hby) | (replace S_x := slot_drew S_x hby; replace S_y := slot_drew S_y hby; replace S_r := slot_drew S_r hby; replace hB1 := into_drew hB1 hby)); clear hby; (obtain ⟨u_x, x0, x1, x2, -⟩ := id S_x); (obtain ⟨u_y, y0, y1, y2, -⟩ := id S_y); (obtain ⟨u_r, r0, r1, r2, q0, q1, q2⟩ := id S_r))
  all_goals (
    go_wp2_with (first | (go_at_call 57; ((with_reducible refine (yesb_no _).mono ?_); rintro e we ⟨rfl, hby⟩); (first | (replace S_x := S_x.below hby; replace S_y := S_y.below hby; replace S_r := S_r.below hby; replace hB1 := into hB1 hby) | (replace S_x := slot_drew S_x hby; replace S_y := slot_drew S_y hby; replace S_r := slot_drew S_r hby; replace hB1 := into_drew hB1 hby)); clear hby; (obtain ⟨u_x, x0, x1, x2, -⟩ := id S_x); (obtain ⟨u_y, y0, y1, y2, -⟩ := id S_y); (obtain ⟨u_r, r0, r1, r2, q0, q1, q2⟩ := id S_r)) | (go_at_call 57; ((with_reducible refine (yesb_yes _).mono ?_); rintro e we ⟨rfl, hby⟩); (first | (replace S_x := S_x.below hby; replace S_y := S_y.below hby; replace S_r := S_r.below hby; replace hB1 := into hB1 hby) | (replace S_x := slot_drew S_x hby; replace S_y := slot_drew S_y hby; replace S_r := slot_drew S_r hby; replace hB1 := into_drew hB1 hby)); clear hby; (obtain ⟨u_x, x0, x1, x2, -⟩ := id S_x); (obtain ⟨u_y, y0, y1, y2, -⟩ := id S_y); (obtain ⟨u_r, r0, r1, r2, q0, q1, q2⟩ := id S_r))))
  all_goals (try (
    go_quiet (fail)
    go_wp2_with (first | (go_at_call 57; ((with_reducible refine (yesb_no _).mono ?_); rintro e we ⟨rfl, hby⟩); (first | (replace S_x := S_x.below hby; replace S_y := S_y.below hby; replace S_r := S_r.below hby; replace hB1 := into hB1 hby) | (replace S_x := slot_drew S_x hby; replace S_y := slot_drew S_y hby; replace S_r := slot_drew S_r hby; replace hB1 := into_drew hB1 hby)); clear hby; (obtain ⟨u_x, x0, x1, x2, -⟩ := id S_x); (obtain ⟨u_y, y0, y1, y2, -⟩ := id S_y); (obtain ⟨u_r, r0, r1, r2, q0, q1, q2⟩ := id S_r)) | (go_at_call 57; ((with_reducible refine (yesb_yes _).mono ?_); rintro e we ⟨rfl, hby⟩); (first | (replace S_x := S_x.below hby; replace S_y := S_y.below hby; replace S_r := S_r.below hby; replace hB1 := into hB1 hby) | (replace S_x := slot_drew S_x hby; replace S_y := slot_drew S_y hby; replace S_r := slot_drew S_r hby; replace hB1 := into_drew hB1 hby)); clear hby; (obtain ⟨u_x, x0, x1, x2, -⟩ := id S_x); (obtain ⟨u_y, y0, y1, y2, -⟩ := id S_y); (obtain ⟨u_r, r0, r1, r2, q0, q1, q2⟩ := id S_r)))))
  all_goals (
    refine bodyPost_ret (by simp [results, Tryz.results45, go_sem, r0, r1, r2]; try rfl) rfl ?_
    refine ⟨rfl, ?_⟩
    first | (go_grown; done) | (go_grown; exact belowN hB1 _))
theorem rt4_7 (w : World) (hc : chk2 ⟨1, 1, ⟨#[]⟩⟩ ⟨1, 0, ⟨#[]⟩⟩ = 0) (ht : two 4 ⟨1, 1, ⟨#[]⟩⟩ ⟨1, 0, ⟨#[]⟩⟩ = (⟨1, 1, ⟨#[]⟩⟩, 0)) :
    Calls Tryz.prog 45 #[.int .i64 4, .agg #[.int .i64 1, .int .i64 1, .string ⟨#[]⟩], .agg #[.int .i64 1, .int .i64 0, .string ⟨#[]⟩]] w fun e w' => e = .returned (.tuple #[.agg #[.int .i64 1, .int .i64 1, .string ⟨#[]⟩], .int .i64 0]) ∧ Below w.heap.size w w' := by
  go_enter Tryz.func45, Tryz.ntmps45
  go_wp2_with fail
  refine (both_any _ _ _ _ _ _ _).mono ?_
  rintro e w1 ⟨rfl, hb⟩
  obtain ⟨hz1, hB1, S_x, S_y, S_r⟩ := behind1c hb
  clear hb
  obtain ⟨u_x, x0, x1, x2, -⟩ := id S_x
  obtain ⟨u_y, y0, y1, y2, -⟩ := id S_y
  obtain ⟨u_r, r0, r1, r2, q0, q1, q2⟩ := id S_r
  go_wp2_with (go_at_call 55; refine (in_any _ _ _ _).mono ?_; rintro e we ⟨rfl, rfl⟩)
  go_quiet (fail)
  clear u_x x0 x1 x2 u_y y0 y1 y2 u_r r0 r1 r2 q0 q1 q2
  have hB2 : Below w.heap.size w (w1.drewN nq) := belowN hB1 _
  replace S_x : Slot (w1.drewN nq) _ _ _ _ := S_x
  replace S_y : Slot (w1.drewN nq) _ _ _ _ := S_y
  replace S_r : Slot (w1.drewN nq) _ _ _ _ := S_r
  clear hB1 hz1
  generalize w1.drewN nq = w2 at *
  have hB1 := hB2
  clear hB2
  obtain ⟨u_x, x0, x1, x2, -⟩ := id S_x
  obtain ⟨u_y, y0, y1, y2, -⟩ := id S_y
  obtain ⟨u_r, r0, r1, r2, q0, q1, q2⟩ := id S_r
  go_wp2_with fail
  go_region_with (go_at_call 57; ((with_reducible refine (yesb_yes _).mono ?_); rintro e we ⟨rfl, hby⟩); (first | (replace S_x := S_x.below hby; replace S_y := S_y.below hby; replace S_r := S_r.below hby; replace hB1 := into hB1 hby) | (replace S_x := slot_drew S_x hby; replace S_y := slot_drew S_y hby; replace S_r := slot_drew S_r hby; replace hB1 := into_drew hB1 hby)); clear hby; (obtain ⟨u_x, x0, x1, x2, -⟩ := id S_x); (obtain ⟨u_y, y0, y1, y2, -⟩ := id S_y); (obtain ⟨u_r, r0, r1, r2, q0, q1, q2⟩ := id S_r))
  all_goals (
    go_wp2_with (first | (go_at_call 57; ((with_reducible refine (yesb_no _).mono ?_); rintro e we ⟨rfl, hby⟩); (first | (replace S_x := S_x.below hby; replace S_y := S_y.below hby; replace S_r := S_r.below hby; replace hB1 := into hB1 hby) | (replace S_x := slot_drew S_x hby; replace S_y := slot_drew S_y hby; replace S_r := slot_drew S_r hby; replace hB1 := into_drew hB1 hby)); clear hby; (obtain ⟨u_x, x0, x1, x2, -⟩ := id S_x); (obtain ⟨u_y, y0, y1, y2, -⟩ := id S_y); (obtain ⟨u_r, r0, r1, r2, q0, q1, q2⟩ := id S_r)) | (go_at_call 57; ((with_reducible refine (yesb_yes _).mono ?_); rintro e we ⟨rfl, hby⟩); (first | (replace S_x := S_x.below hby; replace S_y := S_y.below hby; replace S_r := S_r.below hby; replace hB1 := into hB1 hby) | (replace S_x := slot_drew S_x hby; replace S_y := slot_drew S_y hby; replace S_r := slot_drew S_r hby; replace hB1 := into_drew hB1 hby)); clear hby; (obtain ⟨u_x, x0, x1, x2, -⟩ := id S_x); (obtain ⟨u_y, y0, y1, y2, -⟩ := id S_y); (obtain ⟨u_r, r0, r1, r2, q0, q1, q2⟩ := id S_r))))
  all_goals (try (
    go_quiet (fail)
    go_wp2_with (first | (go_at_call 57; ((with_reducible refine (yesb_no _).mono ?_); rintro e we ⟨rfl, hby⟩); (first | (replace S_x := S_x.below hby; replace S_y := S_y.below hby; replace S_r := S_r.below hby; replace hB1 := into hB1 hby) | (replace S_x := slot_drew S_x hby; replace S_y := slot_drew S_y hby; replace S_r := slot_drew S_r hby; replace hB1 := into_drew hB1 hby)); clear hby; (obtain ⟨u_x, x0, x1, x2, -⟩ := id S_x); (obtain ⟨u_y, y0, y1, y2, -⟩ := id S_y); (obtain ⟨u_r, r0, r1, r2, q0, q1, q2⟩ := id S_r)) | (go_at_call 57; ((with_reducible refine (yesb_yes _).mono ?_); rintro e we ⟨rfl, hby⟩); (first | (replace S_x := S_x.below hby; replace S_y := S_y.below hby; replace S_r := S_r.below hby; replace hB1 := into hB1 hby) | (replace S_x := slot_drew S_x hby; replace S_y := slot_drew S_y hby; replace S_r := slot_drew S_r hby; replace hB1 := into_drew hB1 hby)); clear hby; (obtain ⟨u_x, x0, x1, x2, -⟩ := id S_x); (obtain ⟨u_y, y0, y1, y2, -⟩ := id S_y); (obtain ⟨u_r, r0, r1, r2, q0, q1, q2⟩ := id S_r)))))
  all_goals (
    refine bodyPost_ret (by simp [results, Tryz.results45, go_sem, r0, r1, r2]; try rfl) rfl ?_
    refine ⟨rfl, ?_⟩
    first | (go_grown; done) | (go_grown; exact belowN hB1 _))
end Go.Proofs.YtjnfhhmhbeobbaaGreatDoor.vv
namespace Go.Proofs.YtjnfhhmhbeobbaaGreatDoor.vv
open Go.ChangeShapes Go.WideShapes Go.ChangeAt Go.RowKit
set_option linter.unusedVariables false
set_option linter.unusedSimpArgs false
set_option maxHeartbeats 1000000
set_option maxRecDepth 100000
theorem rt4_8 (w : World) (hc : chk2 ⟨1, 1, ⟨#[]⟩⟩ ⟨1, 1, ⟨#[]⟩⟩ = 0) (ht : two 4 ⟨1, 1, ⟨#[]⟩⟩ ⟨1, 1, ⟨#[]⟩⟩ = (⟨1, 1, ⟨#[]⟩⟩, 0)) :
    Calls Tryz.prog 45 #[.int .i64 4, .agg #[.int .i64 1, .int .i64 1, .string ⟨#[]⟩], .agg #[.int .i64 1, .int .i64 1, .string ⟨#[]⟩]] w fun e w' => e = .returned (.tuple #[.agg #[.int .i64 1, .int .i64 1, .string ⟨#[]⟩], .int .i64 0]) ∧ Below w.heap.size w w' := by
  go_enter Tryz.func45, Tryz.ntmps45
  go_wp2_with fail
  refine (both_any _ _ _ _ _ _ _).mono ?_
  rintro e w1 ⟨rfl, hb⟩
  obtain ⟨hz1, hB1, S_x, S_y, S_r⟩ := behind1c hb
  clear hb
  obtain ⟨u_x, x0, x1, x2, -⟩ := id S_x
  obtain ⟨u_y, y0, y1, y2, -⟩ := id S_y
  obtain ⟨u_r, r0, r1, r2, q0, q1, q2⟩ := id S_r
  go_wp2_with (go_at_call 55; refine (in_any _ _ _ _).mono ?_; rintro e we ⟨rfl, rfl⟩)
  go_quiet (fail)
  clear u_x x0 x1 x2 u_y y0 y1 y2 u_r r0 r1 r2 q0 q1 q2
  have hB2 : Below w.heap.size w (w1.drewN nq) := belowN hB1 _
  replace S_x : Slot (w1.drewN nq) _ _ _ _ := S_x
  replace S_y : Slot (w1.drewN nq) _ _ _ _ := S_y
  replace S_r : Slot (w1.drewN nq) _ _ _ _ := S_r
  clear hB1 hz1
  generalize w1.drewN nq = w2 at *
  have hB1 := hB2
  clear hB2
  obtain ⟨u_x, x0, x1, x2, -⟩ := id S_x
  obtain ⟨u_y, y0, y1, y2, -⟩ := id S_y
  obtain ⟨u_r, r0, r1, r2, q0, q1, q2⟩ := id S_r
  go_wp2_with fail
  go_region_with (go_at_call 57; ((with_reducible refine (yesb_yes _).mono ?_); rintro e we ⟨rfl, hby⟩); (first | (replace S_x := S_x.below hby; replace S_y := S_y.below hby; replace S_r := S_r.below hby; replace hB1 := into hB1 hby) | (replace S_x := slot_drew S_x hby; replace S_y := slot_drew S_y hby; replace S_r := slot_drew S_r hby; replace hB1 := into_drew hB1 hby)); clear hby; (obtain ⟨u_x, x0, x1, x2, -⟩ := id S_x); (obtain ⟨u_y, y0, y1, y2, -⟩ := id S_y); (obtain ⟨u_r, r0, r1, r2, q0, q1, q2⟩ := id S_r))
  all_goals (
    go_wp2_with (first | (go_at_call 57; ((with_reducible refine (yesb_no _).mono ?_); rintro e we ⟨rfl, hby⟩); (first | (replace S_x := S_x.below hby; replace S_y := S_y.below hby; replace S_r := S_r.below hby; replace hB1 := into hB1 hby) | (replace S_x := slot_drew S_x hby; replace S_y := slot_drew S_y hby; replace S_r := slot_drew S_r hby; replace hB1 := into_drew hB1 hby)); clear hby; (obtain ⟨u_x, x0, x1, x2, -⟩ := id S_x); (obtain ⟨u_y, y0, y1, y2, -⟩ := id S_y); (obtain ⟨u_r, r0, r1, r2, q0, q1, q2⟩ := id S_r)) | (go_at_call 57; ((with_reducible refine (yesb_yes _).mono ?_); rintro e we ⟨rfl, hby⟩); (first | (replace S_x := S_x.below hby; replace S_y := S_y.below hby; replace S_r := S_r.below hby; replace hB1 := into hB1 hby) | (replace S_x := slot_drew S_x hby; replace S_y := slot_drew S_y hby; replace S_r := slot_drew S_r hby; replace hB1 := into_drew hB1 hby)); clear hby; (obtain ⟨u_x, x0, x1, x2, -⟩ := id S_x); (obtain ⟨u_y, y0, y1, y2, -⟩ := id S_y); (obtain ⟨u_r, r0, r1, r2, q0, q1, q2⟩ := id S_r))))
  all_goals (try (
    go_quiet (fail)
    go_wp2_with (first | (go_at_call 57; ((with_reducible refine (yesb_no _).mono ?_); rintro e we ⟨rfl, hby⟩); (first | (replace S_x := S_x.below hby; replace S_y := S_y.below hby; replace S_r := S_r.below hby; replace hB1 := into hB1 hby) | (replace S_x := slot_drew S_x hby; replace S_y := slot_drew S_y hby; replace S_r := slot_drew S_r hby; replace hB1 := into_drew hB1 hby)); clear hby; (obtain ⟨u_x, x0, x1, x2, -⟩ := id S_x); (obtain ⟨u_y, y0, y1, y2, -⟩ := id S_y); (obtain ⟨u_r, r0, r1, r2, q0, q1, q2⟩ := id S_r)) | (go_at_call 57; ((with_reducible refine (yesb_yes _).mono ?_); rintro e we ⟨rfl, hby⟩); (first | (replace S_x := S_x.below hby; replace S_y := S_y.below hby; replace S_r := S_r.below hby; replace hB1 := into hB1 hby) | (replace S_x := slot_drew S_x hby; replace S_y := slot_drew S_y hby; replace S_r := slot_drew S_r hby; replace hB1 := into_drew hB1 hby)); clear hby; (obtain ⟨u_x, x0, x1, x2, -⟩ := id S_x); (obtain ⟨u_y, y0, y1, y2, -⟩ := id S_y); (obtain ⟨u_r, r0, r1, r2, q0, q1, q2⟩ := id S_r)))))
  all_goals (
    refine bodyPost_ret (by simp [results, Tryz.results45, go_sem, r0, r1, r2]; try rfl) rfl ?_
    refine ⟨rfl, ?_⟩
    first | (go_grown; done) | (go_grown; exact belowN hB1 _))
end Go.Proofs.YtjnfhhmhbeobbaaGreatDoor.vv
namespace Go.Proofs.YtjnfhhmhbeobbaaGreatDoor.vv
open Go.ChangeShapes Go.WideShapes Go.ChangeAt Go.RowKit
set_option linter.unusedVariables false
set_option linter.unusedSimpArgs false
set_option maxHeartbeats 400000
theorem tms_wrap (a b : Int) : (tms a b).1 = wrap64 (a * b) := by
  unfold tms
  by_cases h0 : a = 0
  · subst h0; simp [wrap64]
  by_cases h1 : a = -1
  · subst h1
    have e : (-1 : Int) * b = -b := by omega
    simp [e]
  simp [h0, h1]
theorem lg_of {k n : Int} {s : ByteArray} (h : chk k n s = 0) (hk : k = 0 ∨ k = 1) : (k = 0 ∧ n = 0 ∧ s = ⟨#[]⟩) ∨ (k = 1 ∧ n = 0 ∧ s = ⟨#[]⟩) ∨ (k = 1 ∧ n = 1 ∧ s = ⟨#[]⟩) := by
  obtain ⟨_, _, h1, h2, h3, _⟩ := chk0 h
  rcases hk with rfl | rfl
  · exact .inl ⟨rfl, h2 rfl, h1 (by omega)⟩
  · rcases h3 rfl with g | g
    · exact .inr (.inl ⟨rfl, g, h1 (by omega)⟩)
    · exact .inr (.inr ⟨rfl, g, h1 (by omega)⟩)
theorem rtwo_any (d k n k' n' : Int) (s s' : ByteArray) (w : World) (hn : Rng n) (hn' : Rng n') :
    Calls Tryz.prog 45 #[.int .i64 d, .agg #[.int .i64 k, .int .i64 n, .string s], .agg #[.int .i64 k', .int .i64 n', .string s']] w fun e w' => e = .returned (.tuple #[.agg #[.int .i64 (two d ⟨k, n, s⟩ ⟨k', n', s'⟩).1.k, .int .i64 (two d ⟨k, n, s⟩ ⟨k', n', s'⟩).1.n, .string (two d ⟨k, n, s⟩ ⟨k', n', s'⟩).1.t], .int .i64 (two d ⟨k, n, s⟩ ⟨k', n', s'⟩).2]) ∧ Below w.heap.size w w' := by
  by_cases hc : chk2 ⟨k, n, s⟩ ⟨k', n', s'⟩ = 0
  case neg => exact rtE d k n k' n' s s' w hc
  obtain ⟨g1, g2⟩ := chk20 hc
  simp only at g1 g2
  by_cases h3 : d = 3
  · subst h3
    by_cases hk : k = 0 ∨ k = 1
    case neg => exact rt3x k n k' n' s s' w hc (fun q => hk (.inl q)) (fun q => hk (.inr q))
    by_cases hk' : k' = 0 ∨ k' = 1
    case neg => exact rt3y k n k' n' s s' w hc (fun q => hk' (.inl q)) (fun q => hk' (.inr q))
    rcases lg_of g1 hk with ⟨rfl, rfl, rfl⟩ | ⟨rfl, rfl, rfl⟩ | ⟨rfl, rfl, rfl⟩ <;> rcases lg_of g2 hk' with ⟨rfl, rfl, rfl⟩ | ⟨rfl, rfl, rfl⟩ | ⟨rfl, rfl, rfl⟩
    · have ht : two 3 ⟨0, 0, ⟨#[]⟩⟩ ⟨0, 0, ⟨#[]⟩⟩ = (⟨0, 0, ⟨#[]⟩⟩, 0) := by simp [two, chk2, chk, nmb, join, known, unk, tru, nul, e_list, e_size]
      refine (rt3_0 w hc ht).mono ?_
      rintro e w' ⟨rfl, hb⟩
      exact ⟨rt ht, hb⟩
    · have ht : two 3 ⟨0, 0, ⟨#[]⟩⟩ ⟨1, 0, ⟨#[]⟩⟩ = (⟨1, 0, ⟨#[]⟩⟩, 0) := by simp [two, chk2, chk, nmb, join, known, unk, tru, nul, e_list, e_size]
      refine (rt3_1 w hc ht).mono ?_
      rintro e w' ⟨rfl, hb⟩
      exact ⟨rt ht, hb⟩
    · have ht : two 3 ⟨0, 0, ⟨#[]⟩⟩ ⟨1, 1, ⟨#[]⟩⟩ = (⟨0, 0, ⟨#[]⟩⟩, 0) := by simp [two, chk2, chk, nmb, join, known, unk, tru, nul, e_list, e_size]
      refine (rt3_2 w hc ht).mono ?_
      rintro e w' ⟨rfl, hb⟩
      exact ⟨rt ht, hb⟩
    · have ht : two 3 ⟨1, 0, ⟨#[]⟩⟩ ⟨0, 0, ⟨#[]⟩⟩ = (⟨1, 0, ⟨#[]⟩⟩, 0) := by simp [two, chk2, chk, nmb, join, known, unk, tru, nul, e_list, e_size]
      refine (rt3_3 w hc ht).mono ?_
      rintro e w' ⟨rfl, hb⟩
      exact ⟨rt ht, hb⟩
    · have ht : two 3 ⟨1, 0, ⟨#[]⟩⟩ ⟨1, 0, ⟨#[]⟩⟩ = (⟨1, 0, ⟨#[]⟩⟩, 0) := by simp [two, chk2, chk, nmb, join, known, unk, tru, nul, e_list, e_size]
      refine (rt3_4 w hc ht).mono ?_
      rintro e w' ⟨rfl, hb⟩
      exact ⟨rt ht, hb⟩
    · have ht : two 3 ⟨1, 0, ⟨#[]⟩⟩ ⟨1, 1, ⟨#[]⟩⟩ = (⟨1, 0, ⟨#[]⟩⟩, 0) := by simp [two, chk2, chk, nmb, join, known, unk, tru, nul, e_list, e_size]
      refine (rt3_5 w hc ht).mono ?_
      rintro e w' ⟨rfl, hb⟩
      exact ⟨rt ht, hb⟩
    · have ht : two 3 ⟨1, 1, ⟨#[]⟩⟩ ⟨0, 0, ⟨#[]⟩⟩ = (⟨0, 0, ⟨#[]⟩⟩, 0) := by simp [two, chk2, chk, nmb, join, known, unk, tru, nul, e_list, e_size]
      refine (rt3_6 w hc ht).mono ?_
      rintro e w' ⟨rfl, hb⟩
      exact ⟨rt ht, hb⟩
    · have ht : two 3 ⟨1, 1, ⟨#[]⟩⟩ ⟨1, 0, ⟨#[]⟩⟩ = (⟨1, 0, ⟨#[]⟩⟩, 0) := by simp [two, chk2, chk, nmb, join, known, unk, tru, nul, e_list, e_size]
      refine (rt3_7 w hc ht).mono ?_
      rintro e w' ⟨rfl, hb⟩
      exact ⟨rt ht, hb⟩
    · have ht : two 3 ⟨1, 1, ⟨#[]⟩⟩ ⟨1, 1, ⟨#[]⟩⟩ = (⟨1, 1, ⟨#[]⟩⟩, 0) := by simp [two, chk2, chk, nmb, join, known, unk, tru, nul, e_list, e_size]
      refine (rt3_8 w hc ht).mono ?_
      rintro e w' ⟨rfl, hb⟩
      exact ⟨rt ht, hb⟩
  by_cases h4 : d = 4
  · subst h4
    by_cases hk : k = 0 ∨ k = 1
    case neg => exact rt4x k n k' n' s s' w hc (fun q => hk (.inl q)) (fun q => hk (.inr q))
    by_cases hk' : k' = 0 ∨ k' = 1
    case neg => exact rt4y k n k' n' s s' w hc (fun q => hk' (.inl q)) (fun q => hk' (.inr q))
    rcases lg_of g1 hk with ⟨rfl, rfl, rfl⟩ | ⟨rfl, rfl, rfl⟩ | ⟨rfl, rfl, rfl⟩ <;> rcases lg_of g2 hk' with ⟨rfl, rfl, rfl⟩ | ⟨rfl, rfl, rfl⟩ | ⟨rfl, rfl, rfl⟩
    · have ht : two 4 ⟨0, 0, ⟨#[]⟩⟩ ⟨0, 0, ⟨#[]⟩⟩ = (⟨0, 0, ⟨#[]⟩⟩, 0) := by simp [two, chk2, chk, nmb, join, known, unk, tru, nul, e_list, e_size]
      refine (rt4_0 w hc ht).mono ?_
      rintro e w' ⟨rfl, hb⟩
      exact ⟨rt ht, hb⟩
    · have ht : two 4 ⟨0, 0, ⟨#[]⟩⟩ ⟨1, 0, ⟨#[]⟩⟩ = (⟨0, 0, ⟨#[]⟩⟩, 0) := by simp [two, chk2, chk, nmb, join, known, unk, tru, nul, e_list, e_size]
      refine (rt4_1 w hc ht).mono ?_
      rintro e w' ⟨rfl, hb⟩
      exact ⟨rt ht, hb⟩
    · have ht : two 4 ⟨0, 0, ⟨#[]⟩⟩ ⟨1, 1, ⟨#[]⟩⟩ = (⟨1, 1, ⟨#[]⟩⟩, 0) := by simp [two, chk2, chk, nmb, join, known, unk, tru, nul, e_list, e_size]
      refine (rt4_2 w hc ht).mono ?_
      rintro e w' ⟨rfl, hb⟩
      exact ⟨rt ht, hb⟩
    · have ht : two 4 ⟨1, 0, ⟨#[]⟩⟩ ⟨0, 0, ⟨#[]⟩⟩ = (⟨0, 0, ⟨#[]⟩⟩, 0) := by simp [two, chk2, chk, nmb, join, known, unk, tru, nul, e_list, e_size]
      refine (rt4_3 w hc ht).mono ?_
      rintro e w' ⟨rfl, hb⟩
      exact ⟨rt ht, hb⟩
    · have ht : two 4 ⟨1, 0, ⟨#[]⟩⟩ ⟨1, 0, ⟨#[]⟩⟩ = (⟨1, 0, ⟨#[]⟩⟩, 0) := by simp [two, chk2, chk, nmb, join, known, unk, tru, nul, e_list, e_size]
      refine (rt4_4 w hc ht).mono ?_
      rintro e w' ⟨rfl, hb⟩
      exact ⟨rt ht, hb⟩
    · have ht : two 4 ⟨1, 0, ⟨#[]⟩⟩ ⟨1, 1, ⟨#[]⟩⟩ = (⟨1, 1, ⟨#[]⟩⟩, 0) := by simp [two, chk2, chk, nmb, join, known, unk, tru, nul, e_list, e_size]
      refine (rt4_5 w hc ht).mono ?_
      rintro e w' ⟨rfl, hb⟩
      exact ⟨rt ht, hb⟩
    · have ht : two 4 ⟨1, 1, ⟨#[]⟩⟩ ⟨0, 0, ⟨#[]⟩⟩ = (⟨1, 1, ⟨#[]⟩⟩, 0) := by simp [two, chk2, chk, nmb, join, known, unk, tru, nul, e_list, e_size]
      refine (rt4_6 w hc ht).mono ?_
      rintro e w' ⟨rfl, hb⟩
      exact ⟨rt ht, hb⟩
    · have ht : two 4 ⟨1, 1, ⟨#[]⟩⟩ ⟨1, 0, ⟨#[]⟩⟩ = (⟨1, 1, ⟨#[]⟩⟩, 0) := by simp [two, chk2, chk, nmb, join, known, unk, tru, nul, e_list, e_size]
      refine (rt4_7 w hc ht).mono ?_
      rintro e w' ⟨rfl, hb⟩
      exact ⟨rt ht, hb⟩
    · have ht : two 4 ⟨1, 1, ⟨#[]⟩⟩ ⟨1, 1, ⟨#[]⟩⟩ = (⟨1, 1, ⟨#[]⟩⟩, 0) := by simp [two, chk2, chk, nmb, join, known, unk, tru, nul, e_list, e_size]
      refine (rt4_8 w hc ht).mono ?_
      rintro e w' ⟨rfl, hb⟩
      exact ⟨rt ht, hb⟩
  by_cases h6 : d = 6
  · subst h6; exact rt6 k n k' n' s s' w hc
  by_cases h7 : d = 7
  · subst h7; exact rt7 k n k' n' s s' w hc
  by_cases h8 : d = 8
  · subst h8
    obtain ⟨p, q⟩ := cpt8 n n' hn hn'
    exact rt8 k n k' n' s s' w hc ⟨by rw [p, q]; simp, rfl⟩
  by_cases h9 : d = 9
  · subst h9
    obtain ⟨p, q⟩ := cpt9 n n' hn hn'
    exact rt9 k n k' n' s s' w hc ⟨by rw [p, q]; simp, rfl⟩
  by_cases h10 : d = 10
  · subst h10
    have e : cpt 10 n n' = tms n n' := by simp [cpt]
    have p := tms_fits n n' hn hn'
    have q := tms_lvs n n' hn hn'
    exact rt10 k n k' n' s s' w hc ⟨by rw [e, p, q]; simp, by rw [e]; exact tms_wrap n n'⟩
  exact rtB d k n k' n' s s' w hc ⟨h3, h4, h6, h7, h8, h9, h10⟩
end Go.Proofs.YtjnfhhmhbeobbaaGreatDoor.vv
