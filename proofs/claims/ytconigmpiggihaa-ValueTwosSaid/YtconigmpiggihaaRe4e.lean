import Derived.Deep.RegionWith
import Derived.Test.YtconigmpiggihaaR4
import Derived.Test.YtconigmpiggihaaPo
import Derived.Test.YtconigmpiggihaaPa
import Derived.Test.YtconigmpiggihaaRd
namespace Go.Proofs.Ytconigmpiggihaa
open Go.ChangeShapes Go.WideShapes Go.ChangeAt Go.RowKit
set_option linter.unusedVariables false
set_option linter.unusedSimpArgs false
set_option maxHeartbeats 1000000
set_option maxRecDepth 100000
theorem rt4_8 (w : World) (hc : chk2 ⟨1, 1, ⟨#[]⟩⟩ ⟨1, 1, ⟨#[]⟩⟩ = 0) (ht : two 4 ⟨1, 1, ⟨#[]⟩⟩ ⟨1, 1, ⟨#[]⟩⟩ = (⟨1, 1, ⟨#[]⟩⟩, 0)) :
    Calls Try.prog 20 #[.int .i64 4, .agg #[.int .i64 1, .int .i64 1, .string ⟨#[]⟩], .agg #[.int .i64 1, .int .i64 1, .string ⟨#[]⟩]] w fun e w' => e = .returned (.tuple #[.agg #[.int .i64 1, .int .i64 1, .string ⟨#[]⟩], .int .i64 0]) ∧ Below w.heap.size w w' := by
  go_enter Try.func20, Try.ntmps20
  go_wp2_with fail
  refine (both_any _ _ _ _ _ _ _).mono ?_
  rintro e w1 ⟨rfl, hb⟩
  obtain ⟨hz1, hB1, S_x, S_y, S_r⟩ := behind1c hb
  clear hb
  obtain ⟨u_x, x0, x1, x2, -⟩ := id S_x
  obtain ⟨u_y, y0, y1, y2, -⟩ := id S_y
  obtain ⟨u_r, r0, r1, r2, q0, q1, q2⟩ := id S_r
  go_wp2_with (go_at_call 27; refine (in_any _ _ _ _).mono ?_; rintro e we ⟨rfl, rfl⟩)
  go_quiet (fail)
  clear u_x x0 x1 x2 u_y y0 y1 y2 u_r r0 r1 r2 q0 q1 q2
  have hB2 : Below w.heap.size w (w1.drewN nq) := belowN hB1 _
  replace S_x : Slot (w1.drewN nq) _ _ _ _ := S_x
  replace S_y : Slot (w1.drewN nq) _ _ _ _ := S_y
  replace S_r : Slot (w1.drewN nq) _ _ _ _ := S_r
  clear hB1 hz1
  generalize w1.drewN nq = w2 at *
  have hB1 := hB2
  clear hB2
  obtain ⟨u_x, x0, x1, x2, -⟩ := id S_x
  obtain ⟨u_y, y0, y1, y2, -⟩ := id S_y
  obtain ⟨u_r, r0, r1, r2, q0, q1, q2⟩ := id S_r
  go_wp2_with fail
  go_region_with (go_at_call 35; ((with_reducible refine (yesb_yes _).mono ?_); rintro e we ⟨rfl, hby⟩); (first | (replace S_x := S_x.below hby; replace S_y := S_y.below hby; replace S_r := S_r.below hby; replace hB1 := into hB1 hby) | (replace S_x := slot_drew S_x hby; replace S_y := slot_drew S_y hby; replace S_r := slot_drew S_r hby; replace hB1 := into_drew hB1 hby)); clear hby; (obtain ⟨u_x, x0, x1, x2, -⟩ := id S_x); (obtain ⟨u_y, y0, y1, y2, -⟩ := id S_y); (obtain ⟨u_r, r0, r1, r2, q0, q1, q2⟩ := id S_r))
  all_goals (
    go_wp2_with (first | (go_at_call 35; ((with_reducible refine (yesb_no _).mono ?_); rintro e we ⟨rfl, hby⟩); (first | (replace S_x := S_x.below hby; replace S_y := S_y.below hby; replace S_r := S_r.below hby; replace hB1 := into hB1 hby) | (replace S_x := slot_drew S_x hby; replace S_y := slot_drew S_y hby; replace S_r := slot_drew S_r hby; replace hB1 := into_drew hB1 hby)); clear hby; (obtain ⟨u_x, x0, x1, x2, -⟩ := id S_x); (obtain ⟨u_y, y0, y1, y2, -⟩ := id S_y); (obtain ⟨u_r, r0, r1, r2, q0, q1, q2⟩ := id S_r)) | (go_at_call 35; ((with_reducible refine (yesb_yes _).mono ?_); rintro e we ⟨rfl, hby⟩); (first | (replace S_x := S_x.below hby; replace S_y := S_y.below hby; replace S_r := S_r.below hby; replace hB1 := into hB1 hby) | (replace S_x := slot_drew S_x hby; replace S_y := slot_drew S_y hby; replace S_r := slot_drew S_r hby; replace hB1 := into_drew hB1 hby)); clear hby; (obtain ⟨u_x, x0, x1, x2, -⟩ := id S_x); (obtain ⟨u_y, y0, y1, y2, -⟩ := id S_y); (obtain ⟨u_r, r0, r1, r2, q0, q1, q2⟩ := id S_r))))
  all_goals (try (
    go_quiet (fail)
    go_wp2_with (first | (go_at_call 35; ((with_reducible refine (yesb_no _).mono ?_); rintro e we ⟨rfl, hby⟩); (first | (replace S_x := S_x.below hby; replace S_y := S_y.below hby; replace S_r := S_r.below hby; replace hB1 := into hB1 hby) | (replace S_x := slot_drew S_x hby; replace S_y := slot_drew S_y hby; replace S_r := slot_drew S_r hby; replace hB1 := into_drew hB1 hby)); clear hby; (obtain ⟨u_x, x0, x1, x2, -⟩ := id S_x); (obtain ⟨u_y, y0, y1, y2, -⟩ := id S_y); (obtain ⟨u_r, r0, r1, r2, q0, q1, q2⟩ := id S_r)) | (go_at_call 35; ((with_reducible refine (yesb_yes _).mono ?_); rintro e we ⟨rfl, hby⟩); (first | (replace S_x := S_x.below hby; replace S_y := S_y.below hby; replace S_r := S_r.below hby; replace hB1 := into hB1 hby) | (replace S_x := slot_drew S_x hby; replace S_y := slot_drew S_y hby; replace S_r := slot_drew S_r hby; replace hB1 := into_drew hB1 hby)); clear hby; (obtain ⟨u_x, x0, x1, x2, -⟩ := id S_x); (obtain ⟨u_y, y0, y1, y2, -⟩ := id S_y); (obtain ⟨u_r, r0, r1, r2, q0, q1, q2⟩ := id S_r)))))
  all_goals (
    refine bodyPost_ret (by simp [results, Try.results20, go_sem, r0, r1, r2]; try rfl) rfl ?_
    refine ⟨rfl, ?_⟩
    first | (go_grown; done) | (go_grown; exact belowN hB1 _))
end Go.Proofs.Ytconigmpiggihaa
