/- With a value that is not known And and Or stay unknown unless it does not matter, at every raw number. No condition. -/
import Derived.Test.YtconigmpiggihaaFr
import Derived.Test.YtconigmpiggihaaW8
import Derived.Test.YtconigmpiggihaaK1
namespace Go.Proofs.Ytconigmpiggihaa.lLogicNull
open Go.ChangeShapes Go.WideShapes Go.ChangeAt Go.RowKit Go.Joins
open Go.ChangeMaps (open_string shut_string)
set_option linter.unusedVariables false
set_option linter.unusedSimpArgs false
set_option maxHeartbeats 400000

theorem core0 (x : Int) (hx : Rng x) (T1 : trv x = ⟨0, 0, ⟨#[]⟩⟩) (E1 : two 3 ⟨0, 0, ⟨#[]⟩⟩ ⟨0, 0, ⟨#[]⟩⟩ = (⟨0, 0, ⟨#[]⟩⟩, 0)) (E2 : two 4 ⟨0, 0, ⟨#[]⟩⟩ ⟨0, 0, ⟨#[]⟩⟩ = (⟨0, 0, ⟨#[]⟩⟩, 0)) (E3 : one 11 ⟨0, 0, ⟨#[]⟩⟩ = (⟨1, 1, ⟨#[]⟩⟩, 0)) (E4 : two 6 ⟨0, 0, ⟨#[]⟩⟩ ⟨0, 0, ⟨#[]⟩⟩ = (⟨0, 0, ⟨#[]⟩⟩, 0)) (w : World) :
    Calls Try.prog 9 #[.int .i64 x] w fun e w' => e = .returned (.bool true) ∧ Below w.heap.size w w' := by
  go_enter Try.func9, Try.ntmps9
  go_wp2_with fail
  refine (trv_any _ _ hx).mono ?_
  rintro e w1 ⟨rfl, hb⟩
  have hB1 : Below w.heap.size w w1 := into (by go_grown) hb
  clear hb
  go_wp2_with fail
  refine (two_any 3 _ _ _ _ _ _ _).mono ?_
  rintro e w2 ⟨rfl, hb⟩
  obtain ⟨hz2, hb1, S_a, S_no, S_yes⟩ := behind1c hb
  have hB2 : Below w.heap.size w w2 := into hB1 hb1
  clear hb hb1
  obtain ⟨u_a, x0_a, x1_a, x2_a, -⟩ := id S_a
  go_wp2_with fail
  clear u_a x0_a x1_a x2_a
  refine (two_any 4 _ _ _ _ _ _ _).mono ?_
  rintro e w3 ⟨rfl, hb⟩
  obtain ⟨hz3, hb1, S_c⟩ := behind1 hb
  have hB3 : Below w.heap.size w w3 := into hB2 hb1
  replace S_a := (S_a.alloc _).below hb
  replace S_no := (S_no.alloc _).below hb
  replace S_yes := (S_yes.alloc _).below hb
  clear hb hb1
  obtain ⟨u_a, x0_a, x1_a, x2_a, -⟩ := id S_a
  go_wp2_with fail
  clear u_a x0_a x1_a x2_a
  refine (one_any _ _ _ _ _).mono ?_
  rintro e w4 ⟨rfl, hb⟩
  obtain ⟨hz4, hb1, S_d⟩ := behind1 hb
  have hB4 : Below w.heap.size w w4 := into hB3 hb1
  replace S_a := (S_a.alloc _).below hb
  replace S_no := (S_no.alloc _).below hb
  replace S_yes := (S_yes.alloc _).below hb
  replace S_c := (S_c.alloc _).below hb
  clear hb hb1
  obtain ⟨u_a, x0_a, x1_a, x2_a, -⟩ := id S_a
  go_wp2_with fail
  clear u_a x0_a x1_a x2_a
  refine (two_any 6 _ _ _ _ _ _ _).mono ?_
  rintro e w5 ⟨rfl, hb⟩
  obtain ⟨hz5, hb1, S_e⟩ := behind1 hb
  have hB5 : Below w.heap.size w w5 := into hB4 hb1
  replace S_a := (S_a.alloc _).below hb
  replace S_no := (S_no.alloc _).below hb
  replace S_yes := (S_yes.alloc _).below hb
  replace S_c := (S_c.alloc _).below hb
  replace S_d := (S_d.alloc _).below hb
  clear hb hb1
  obtain ⟨u_a, x0_a, x1_a, x2_a, -⟩ := id S_a
  obtain ⟨u_no, x0_no, x1_no, x2_no, -⟩ := id S_no
  obtain ⟨u_yes, x0_yes, x1_yes, x2_yes, -⟩ := id S_yes
  obtain ⟨u_c, x0_c, x1_c, x2_c, -⟩ := id S_c
  obtain ⟨u_d, x0_d, x1_d, x2_d, -⟩ := id S_d
  obtain ⟨u_e, x0_e, x1_e, x2_e, -⟩ := id S_e
  have hBz := hB5.size
  go_wp2_with fail
  go_quiet (fail)
  go_wp2_with fail
  go_quiet (fail)
  go_wp2_with fail
  go_ret
  exact ⟨rb (by simp), belowN (belowN (by go_grown) _) _⟩

theorem core1 (x : Int) (hx : Rng x) (T1 : trv x = ⟨1, 0, ⟨#[]⟩⟩) (E1 : two 3 ⟨1, 0, ⟨#[]⟩⟩ ⟨0, 0, ⟨#[]⟩⟩ = (⟨1, 0, ⟨#[]⟩⟩, 0)) (E2 : two 4 ⟨1, 0, ⟨#[]⟩⟩ ⟨0, 0, ⟨#[]⟩⟩ = (⟨0, 0, ⟨#[]⟩⟩, 0)) (E3 : one 11 ⟨1, 0, ⟨#[]⟩⟩ = (⟨1, 0, ⟨#[]⟩⟩, 0)) (E4 : two 6 ⟨1, 0, ⟨#[]⟩⟩ ⟨0, 0, ⟨#[]⟩⟩ = (⟨0, 0, ⟨#[]⟩⟩, 0)) (w : World) :
    Calls Try.prog 9 #[.int .i64 x] w fun e w' => e = .returned (.bool true) ∧ Below w.heap.size w w' := by
  go_enter Try.func9, Try.ntmps9
  go_wp2_with fail
  refine (trv_any _ _ hx).mono ?_
  rintro e w1 ⟨rfl, hb⟩
  have hB1 : Below w.heap.size w w1 := into (by go_grown) hb
  clear hb
  go_wp2_with fail
  refine (two_any 3 _ _ _ _ _ _ _).mono ?_
  rintro e w2 ⟨rfl, hb⟩
  obtain ⟨hz2, hb1, S_a, S_no, S_yes⟩ := behind1c hb
  have hB2 : Below w.heap.size w w2 := into hB1 hb1
  clear hb hb1
  obtain ⟨u_a, x0_a, x1_a, x2_a, -⟩ := id S_a
  go_wp2_with fail
  clear u_a x0_a x1_a x2_a
  refine (two_any 4 _ _ _ _ _ _ _).mono ?_
  rintro e w3 ⟨rfl, hb⟩
  obtain ⟨hz3, hb1, S_c⟩ := behind1 hb
  have hB3 : Below w.heap.size w w3 := into hB2 hb1
  replace S_a := (S_a.alloc _).below hb
  replace S_no := (S_no.alloc _).below hb
  replace S_yes := (S_yes.alloc _).below hb
  clear hb hb1
  obtain ⟨u_a, x0_a, x1_a, x2_a, -⟩ := id S_a
  go_wp2_with fail
  clear u_a x0_a x1_a x2_a
  refine (one_any _ _ _ _ _).mono ?_
  rintro e w4 ⟨rfl, hb⟩
  obtain ⟨hz4, hb1, S_d⟩ := behind1 hb
  have hB4 : Below w.heap.size w w4 := into hB3 hb1
  replace S_a := (S_a.alloc _).below hb
  replace S_no := (S_no.alloc _).below hb
  replace S_yes := (S_yes.alloc _).below hb
  replace S_c := (S_c.alloc _).below hb
  clear hb hb1
  obtain ⟨u_a, x0_a, x1_a, x2_a, -⟩ := id S_a
  go_wp2_with fail
  clear u_a x0_a x1_a x2_a
  refine (two_any 6 _ _ _ _ _ _ _).mono ?_
  rintro e w5 ⟨rfl, hb⟩
  obtain ⟨hz5, hb1, S_e⟩ := behind1 hb
  have hB5 : Below w.heap.size w w5 := into hB4 hb1
  replace S_a := (S_a.alloc _).below hb
  replace S_no := (S_no.alloc _).below hb
  replace S_yes := (S_yes.alloc _).below hb
  replace S_c := (S_c.alloc _).below hb
  replace S_d := (S_d.alloc _).below hb
  clear hb hb1
  obtain ⟨u_a, x0_a, x1_a, x2_a, -⟩ := id S_a
  obtain ⟨u_no, x0_no, x1_no, x2_no, -⟩ := id S_no
  obtain ⟨u_yes, x0_yes, x1_yes, x2_yes, -⟩ := id S_yes
  obtain ⟨u_c, x0_c, x1_c, x2_c, -⟩ := id S_c
  obtain ⟨u_d, x0_d, x1_d, x2_d, -⟩ := id S_d
  obtain ⟨u_e, x0_e, x1_e, x2_e, -⟩ := id S_e
  have hBz := hB5.size
  go_wp2_with fail
  go_quiet (fail)
  go_wp2_with fail
  go_quiet (fail)
  go_wp2_with fail
  go_ret
  exact ⟨rb (by simp), belowN (belowN (by go_grown) _) _⟩

theorem core2 (x : Int) (hx : Rng x) (T1 : trv x = ⟨1, 1, ⟨#[]⟩⟩) (E1 : two 3 ⟨1, 1, ⟨#[]⟩⟩ ⟨0, 0, ⟨#[]⟩⟩ = (⟨0, 0, ⟨#[]⟩⟩, 0)) (E2 : two 4 ⟨1, 1, ⟨#[]⟩⟩ ⟨0, 0, ⟨#[]⟩⟩ = (⟨1, 1, ⟨#[]⟩⟩, 0)) (E3 : one 11 ⟨1, 1, ⟨#[]⟩⟩ = (⟨1, 0, ⟨#[]⟩⟩, 0)) (E4 : two 6 ⟨1, 1, ⟨#[]⟩⟩ ⟨0, 0, ⟨#[]⟩⟩ = (⟨0, 0, ⟨#[]⟩⟩, 0)) (w : World) :
    Calls Try.prog 9 #[.int .i64 x] w fun e w' => e = .returned (.bool true) ∧ Below w.heap.size w w' := by
  go_enter Try.func9, Try.ntmps9
  go_wp2_with fail
  refine (trv_any _ _ hx).mono ?_
  rintro e w1 ⟨rfl, hb⟩
  have hB1 : Below w.heap.size w w1 := into (by go_grown) hb
  clear hb
  go_wp2_with fail
  refine (two_any 3 _ _ _ _ _ _ _).mono ?_
  rintro e w2 ⟨rfl, hb⟩
  obtain ⟨hz2, hb1, S_a, S_no, S_yes⟩ := behind1c hb
  have hB2 : Below w.heap.size w w2 := into hB1 hb1
  clear hb hb1
  obtain ⟨u_a, x0_a, x1_a, x2_a, -⟩ := id S_a
  go_wp2_with fail
  clear u_a x0_a x1_a x2_a
  refine (two_any 4 _ _ _ _ _ _ _).mono ?_
  rintro e w3 ⟨rfl, hb⟩
  obtain ⟨hz3, hb1, S_c⟩ := behind1 hb
  have hB3 : Below w.heap.size w w3 := into hB2 hb1
  replace S_a := (S_a.alloc _).below hb
  replace S_no := (S_no.alloc _).below hb
  replace S_yes := (S_yes.alloc _).below hb
  clear hb hb1
  obtain ⟨u_a, x0_a, x1_a, x2_a, -⟩ := id S_a
  go_wp2_with fail
  clear u_a x0_a x1_a x2_a
  refine (one_any _ _ _ _ _).mono ?_
  rintro e w4 ⟨rfl, hb⟩
  obtain ⟨hz4, hb1, S_d⟩ := behind1 hb
  have hB4 : Below w.heap.size w w4 := into hB3 hb1
  replace S_a := (S_a.alloc _).below hb
  replace S_no := (S_no.alloc _).below hb
  replace S_yes := (S_yes.alloc _).below hb
  replace S_c := (S_c.alloc _).below hb
  clear hb hb1
  obtain ⟨u_a, x0_a, x1_a, x2_a, -⟩ := id S_a
  go_wp2_with fail
  clear u_a x0_a x1_a x2_a
  refine (two_any 6 _ _ _ _ _ _ _).mono ?_
  rintro e w5 ⟨rfl, hb⟩
  obtain ⟨hz5, hb1, S_e⟩ := behind1 hb
  have hB5 : Below w.heap.size w w5 := into hB4 hb1
  replace S_a := (S_a.alloc _).below hb
  replace S_no := (S_no.alloc _).below hb
  replace S_yes := (S_yes.alloc _).below hb
  replace S_c := (S_c.alloc _).below hb
  replace S_d := (S_d.alloc _).below hb
  clear hb hb1
  obtain ⟨u_a, x0_a, x1_a, x2_a, -⟩ := id S_a
  obtain ⟨u_no, x0_no, x1_no, x2_no, -⟩ := id S_no
  obtain ⟨u_yes, x0_yes, x1_yes, x2_yes, -⟩ := id S_yes
  obtain ⟨u_c, x0_c, x1_c, x2_c, -⟩ := id S_c
  obtain ⟨u_d, x0_d, x1_d, x2_d, -⟩ := id S_d
  obtain ⟨u_e, x0_e, x1_e, x2_e, -⟩ := id S_e
  have hBz := hB5.size
  go_wp2_with fail
  go_quiet (fail)
  go_wp2_with fail
  go_quiet (fail)
  go_wp2_with fail
  go_ret
  exact ⟨rb (by simp), belowN (belowN (by go_grown) _) _⟩

theorem walk (x : Int) (wx : (Lit.int .i64 x).wf = true) (w : World) :
    Calls Try.prog 9 #[.int .i64 x] w fun e w' => e = .returned (.bool true) ∧ Below w.heap.size w w' := by
  have D : ∀ a, lg a → trv x = a → Calls Try.prog 9 #[.int .i64 x] w fun e w' => e = .returned (.bool true) ∧ Below w.heap.size w w' := fun a ha hT => by
    rcases ha with rfl | rfl | rfl
    · exact core0 x (rng_of wx) hT (by simp [two, one, turn, hold, chk2, chk, nmb, join, known, unk, tru, nul, e_list, e_size]) (by simp [two, one, turn, hold, chk2, chk, nmb, join, known, unk, tru, nul, e_list, e_size]) (by simp [two, one, turn, hold, chk2, chk, nmb, join, known, unk, tru, nul, e_list, e_size]) (by simp [two, one, turn, hold, chk2, chk, nmb, join, known, unk, tru, nul, e_list, e_size]) w
    · exact core1 x (rng_of wx) hT (by simp [two, one, turn, hold, chk2, chk, nmb, join, known, unk, tru, nul, e_list, e_size]) (by simp [two, one, turn, hold, chk2, chk, nmb, join, known, unk, tru, nul, e_list, e_size]) (by simp [two, one, turn, hold, chk2, chk, nmb, join, known, unk, tru, nul, e_list, e_size]) (by simp [two, one, turn, hold, chk2, chk, nmb, join, known, unk, tru, nul, e_list, e_size]) w
    · exact core2 x (rng_of wx) hT (by simp [two, one, turn, hold, chk2, chk, nmb, join, known, unk, tru, nul, e_list, e_size]) (by simp [two, one, turn, hold, chk2, chk, nmb, join, known, unk, tru, nul, e_list, e_size]) (by simp [two, one, turn, hold, chk2, chk, nmb, join, known, unk, tru, nul, e_list, e_size]) (by simp [two, one, turn, hold, chk2, chk, nmb, join, known, unk, tru, nul, e_list, e_size]) w
  exact D _ (trv_is x) rfl

theorem lifted (os : Os) (started : os.Started) (H : Type) (enc : TypeId × Value → H) :
    ReturnsInHanded {} Try.checked os 9 .any (Rows.logicNullSpec.pre6 enc Try.prog Try.f9 Rows.logicNullRow.domain false) (Rows.logicNullSpec.post enc Try.prog Try.f9 false true false false) := by
  refine returnsInHanded_of_change (C := Try.checked) Try.own started (by kernel_rfl) Try.func9
    (ChangeSpec.witness6 (enc := enc) (C := Try.checked) false ⟨#[], #[.int .i64 0], []⟩ 8 (by kernel_rfl) (by kernel_rfl) (by kernel_rfl) (by kernel_rfl)) ?_
  intro W base args ds gs before hval0 hW hcnd _
  have hval : ∀ (j : Nat) t v, Try.f9.params[j]? = some t → args[j]? = some v → Value.okWide Try.prog W .any base t v := hval0
  have hW' := hW
  obtain ⟨p, q, hA0, hV, rfl, hfz, hnd⟩ := hW
  have hA : DataW.TrodAll enc Try.prog W 0 (fun _ => true) true Try.f9.params.toList args.toList ds p := hA0
  rw [Try.params9] at hA hval
  obtain ⟨v0, d0, rfl, rfl, h0⟩ := trodAll_one hA
  obtain ⟨rfl, rfl⟩ := trodVars_none hV
  obtain ⟨a0, rfl, rfl, rfl, w0⟩ := open_int Try.underlying3 (hval 0 3 v0 rfl rfl) h0
  clear hA0 hval0
  refine (walk a0 w0 W).mono fun e W' ⟨he, hg⟩ => ?_
  subst he
  exact ⟨_, rfl, law_post (tb := 4) Try.laidOut (by kernel_rfl) (by kernel_rfl) Try.underlying4 rfl hW' hg rfl rfl rfl⟩

theorem proved : Rows.LogicNullSaid :=
  OpenClaim.holds_of_wide 9 Try.f9 rfl rfl rfl rfl rfl rfl rfl ⟨rfl, rfl, rfl, rfl, rfl⟩ rfl rfl rfl rfl rfl (by kernel_rfl) Try.func9 (by kernel_rfl)
    (of_decide_eq_true (by kernel_rfl)) (by unfold Func.isWrapper; first | (rw [if_pos (by decide +kernel)]; kernel_rfl) | (rw [if_neg (by decide +kernel)]; exact ⟨rfl, rfl⟩))
    (fun os started H enc _ => lifted os started H enc)
#print axioms proved
end Go.Proofs.Ytconigmpiggihaa.lLogicNull
