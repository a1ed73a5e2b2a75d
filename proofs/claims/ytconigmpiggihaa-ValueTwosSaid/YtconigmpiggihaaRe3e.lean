import Derived.Deep.RegionWith
import Derived.Deep.CutRange
import Derived.Test.YtconigmpiggihaaR4
import Derived.Test.YtconigmpiggihaaPo
import Derived.Test.YtconigmpiggihaaPa
import Derived.Test.YtconigmpiggihaaRd
namespace Go.Proofs.Ytconigmpiggihaa
open Go.ChangeShapes Go.WideShapes Go.ChangeAt Go.RowKit
set_option linter.unusedVariables false
set_option linter.unusedSimpArgs false
set_option maxHeartbeats 1000000
set_option maxRecDepth 100000
theorem rt3_8 (w : World) (hc : chk2 ⟨1, 1, ⟨#[]⟩⟩ ⟨1, 1, ⟨#[]⟩⟩ = 0) (ht : two 3 ⟨1, 1, ⟨#[]⟩⟩ ⟨1, 1, ⟨#[]⟩⟩ = (⟨1, 1, ⟨#[]⟩⟩, 0)) :
    Calls Try.prog 20 #[.int .i64 3, .agg #[.int .i64 1, .int .i64 1, .string ⟨#[]⟩], .agg #[.int .i64 1, .int .i64 1, .string ⟨#[]⟩]] w fun e w' => e = .returned (.tuple #[.agg #[.int .i64 1, .int .i64 1, .string ⟨#[]⟩], .int .i64 0]) ∧ Below w.heap.size w w' := by
  go_enter Try.func20, Try.ntmps20
  go_wp2_with fail
  refine (both_any _ _ _ _ _ _ _).mono ?_
  rintro e w1 ⟨rfl, hb⟩
  obtain ⟨hz1, hB1, S_x, S_y, S_r⟩ := behind1c hb
  clear hb
  obtain ⟨u_x, x0, x1, x2, -⟩ := id S_x
  obtain ⟨u_y, y0, y1, y2, -⟩ := id S_y
  obtain ⟨u_r, r0, r1, r2, q0, q1, q2⟩ := id S_r
  go_wp2_with (go_at_call 27; refine (in_any _ _ _ _).mono ?_; rintro e we ⟨rfl, rfl⟩)
  go_cut [97] from 86 to 97 (fun c wx => c = .bool false ∧ Slot wx w.heap.size (.int .i64 1) (.int .i64 1) (.string ⟨#[]⟩) ∧ Slot wx (w.heap.size + 1) (.int .i64 1) (.int .i64 1) (.string ⟨#[]⟩) ∧ Slot wx (w.heap.size + 1 + 1) (.int .i64 0) (.int .i64 0) (.string ⟨#[]⟩) ∧ Below w.heap.size w wx)
  case first =>
    go_region_with (go_at_call 35; ((with_reducible refine (yesb_no _).mono ?_); rintro e we ⟨rfl, hby⟩); (first | (replace S_x := S_x.below hby; replace S_y := S_y.below hby; replace S_r := S_r.below hby; replace hB1 := into hB1 hby) | (replace S_x := slot_drew S_x hby; replace S_y := slot_drew S_y hby; replace S_r := slot_drew S_r hby; replace hB1 := into_drew hB1 hby)); clear hby; (obtain ⟨u_x, x0, x1, x2, -⟩ := id S_x); (obtain ⟨u_y, y0, y1, y2, -⟩ := id S_y); (obtain ⟨u_r, r0, r1, r2, q0, q1, q2⟩ := id S_r))
    all_goals (
      go_wp2_with fail
      go_meet
      exact ⟨rfl, S_x, S_y, S_r, hB1⟩)
  case rest =>
    clear u_x x0 x1 x2 u_y y0 y1 y2 u_r r0 r1 r2 q0 q1 q2 S_x S_y S_r hB1
    obtain ⟨rfl, S_x, S_y, S_r, hB1⟩ := hcut
    obtain ⟨u_x, x0, x1, x2, -⟩ := id S_x
    obtain ⟨u_y, y0, y1, y2, -⟩ := id S_y
    obtain ⟨u_r, r0, r1, r2, q0, q1, q2⟩ := id S_r
    go_wp2_with fail
    go_quiet (fail)
    clear u_x x0 x1 x2 u_y y0 y1 y2 u_r r0 r1 r2 q0 q1 q2
    have hB2 : Below w.heap.size w (wc.drewN nq) := belowN hB1 _
    replace S_x : Slot (wc.drewN nq) _ _ _ _ := S_x
    replace S_y : Slot (wc.drewN nq) _ _ _ _ := S_y
    replace S_r : Slot (wc.drewN nq) _ _ _ _ := S_r
    clear hB1
    generalize wc.drewN nq = w2 at *
    have hB1 := hB2
    clear hB2
    obtain ⟨u_x, x0, x1, x2, -⟩ := id S_x
    obtain ⟨u_y, y0, y1, y2, -⟩ := id S_y
    obtain ⟨u_r, r0, r1, r2, q0, q1, q2⟩ := id S_r
    go_wp2_with (first | (go_at_call 35; ((with_reducible refine (yesb_no _).mono ?_); rintro e we ⟨rfl, hby⟩); (first | (replace S_x := S_x.below hby; replace S_y := S_y.below hby; replace S_r := S_r.below hby; replace hB1 := into hB1 hby) | (replace S_x := slot_drew S_x hby; replace S_y := slot_drew S_y hby; replace S_r := slot_drew S_r hby; replace hB1 := into_drew hB1 hby)); clear hby; (obtain ⟨u_x, x0, x1, x2, -⟩ := id S_x); (obtain ⟨u_y, y0, y1, y2, -⟩ := id S_y); (obtain ⟨u_r, r0, r1, r2, q0, q1, q2⟩ := id S_r)) | (go_at_call 35; ((with_reducible refine (yesb_yes _).mono ?_); rintro e we ⟨rfl, hby⟩); (first | (replace S_x := S_x.below hby; replace S_y := S_y.below hby; replace S_r := S_r.below hby; replace hB1 := into hB1 hby) | (replace S_x := slot_drew S_x hby; replace S_y := slot_drew S_y hby; replace S_r := slot_drew S_r hby; replace hB1 := into_drew hB1 hby)); clear hby; (obtain ⟨u_x, x0, x1, x2, -⟩ := id S_x); (obtain ⟨u_y, y0, y1, y2, -⟩ := id S_y); (obtain ⟨u_r, r0, r1, r2, q0, q1, q2⟩ := id S_r)))
    refine bodyPost_ret (by simp [results, Try.results20, go_sem, r0, r1, r2]; try rfl) rfl ?_
    refine ⟨rfl, ?_⟩
    go_grown
end Go.Proofs.Ytconigmpiggihaa
