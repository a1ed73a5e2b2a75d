/- And and Or over Bools and Null are what they are, whichever comes first, and Not turns the one into the other: at every two raw numbers. No condition. -/
import Derived.Test.YtconigmpiggihaaFr
import Derived.Test.YtconigmpiggihaaW8
import Derived.Test.YtconigmpiggihaaK1
namespace Go.Proofs.Ytconigmpiggihaa.lLogicTable
open Go.ChangeShapes Go.WideShapes Go.ChangeAt Go.RowKit Go.Joins
open Go.ChangeMaps (open_string shut_string)
set_option linter.unusedVariables false
set_option linter.unusedSimpArgs false
set_option maxHeartbeats 400000

theorem core (x y : Int) (a0 a1 : Int) (a2 : ByteArray) (b0 b1 : Int) (b2 : ByteArray) (c0 c1 : Int) (c2 : ByteArray) (na0 na1 : Int) (na2 : ByteArray) (nb0 nb1 : Int) (nb2 : ByteArray) (d0 d1 : Int) (d2 : ByteArray)
    (hx : Rng x) (hy : Rng y) (T1 : trv x = ⟨a0, a1, a2⟩) (T2 : trv y = ⟨b0, b1, b2⟩) (E1 : two 3 ⟨a0, a1, a2⟩ ⟨b0, b1, b2⟩ = (⟨c0, c1, c2⟩, 0)) (E2 : two 3 ⟨b0, b1, b2⟩ ⟨a0, a1, a2⟩ = (⟨c0, c1, c2⟩, 0)) (E3 : one 5 ⟨a0, a1, a2⟩ = (⟨na0, na1, na2⟩, 0)) (E4 : one 5 ⟨b0, b1, b2⟩ = (⟨nb0, nb1, nb2⟩, 0))
    (E5 : two 4 ⟨na0, na1, na2⟩ ⟨nb0, nb1, nb2⟩ = (⟨d0, d1, d2⟩, 0)) (E6 : one 5 ⟨c0, c1, c2⟩ = (⟨d0, d1, d2⟩, 0)) (E7 : one 5 ⟨na0, na1, na2⟩ = (⟨a0, a1, a2⟩, 0)) (E8 : two 4 ⟨a0, a1, a2⟩ ⟨1, 1, ⟨#[]⟩⟩ = (⟨1, 1, ⟨#[]⟩⟩, 0)) (w : World) :
    Calls Try.prog 8 #[.int .i64 x, .int .i64 y] w fun e w' => e = .returned (.bool true) ∧ Below w.heap.size w w' := by
  go_enter Try.func8, Try.ntmps8
  go_wp2_with fail
  refine (trv_any _ _ hx).mono ?_
  rintro e w1 ⟨rfl, hb⟩
  have hB1 : Below w.heap.size w w1 := into (by go_grown) hb
  clear hb
  go_wp2_with fail
  refine (trv_any _ _ hy).mono ?_
  rintro e w2 ⟨rfl, hb⟩
  obtain ⟨hz2, hb1, S_a⟩ := behind1 hb
  have hB2 : Below w.heap.size w w2 := into hB1 hb1
  clear hb hb1
  obtain ⟨u_a, x0_a, x1_a, x2_a, -⟩ := id S_a
  go_wp2_with fail
  clear u_a x0_a x1_a x2_a
  refine (two_any 3 _ _ _ _ _ _ _).mono ?_
  rintro e w3 ⟨rfl, hb⟩
  obtain ⟨hz3, hb1, S_b⟩ := behind1 hb
  have hB3 : Below w.heap.size w w3 := into hB2 hb1
  replace S_a := (S_a.alloc _).below hb
  clear hb hb1
  obtain ⟨u_a, x0_a, x1_a, x2_a, -⟩ := id S_a
  obtain ⟨u_b, x0_b, x1_b, x2_b, -⟩ := id S_b
  go_wp2_with fail
  clear u_a x0_a x1_a x2_a
  clear u_b x0_b x1_b x2_b
  refine (two_any 3 _ _ _ _ _ _ _).mono ?_
  rintro e w4 ⟨rfl, hb⟩
  obtain ⟨hz4, hb1, S_c⟩ := behind1 hb
  have hB4 : Below w.heap.size w w4 := into hB3 hb1
  replace S_a := (S_a.alloc _).below hb
  replace S_b := (S_b.alloc _).below hb
  clear hb hb1
  obtain ⟨u_a, x0_a, x1_a, x2_a, -⟩ := id S_a
  go_wp2_with fail
  clear u_a x0_a x1_a x2_a
  refine (one_any _ _ _ _ _).mono ?_
  rintro e w5 ⟨rfl, hb⟩
  obtain ⟨hz5, hb1, S_c2⟩ := behind1 hb
  have hB5 : Below w.heap.size w w5 := into hB4 hb1
  replace S_a := (S_a.alloc _).below hb
  replace S_b := (S_b.alloc _).below hb
  replace S_c := (S_c.alloc _).below hb
  clear hb hb1
  obtain ⟨u_b, x0_b, x1_b, x2_b, -⟩ := id S_b
  go_wp2_with fail
  clear u_b x0_b x1_b x2_b
  refine (one_any _ _ _ _ _).mono ?_
  rintro e w6 ⟨rfl, hb⟩
  obtain ⟨hz6, hb1, S_na⟩ := behind1 hb
  have hB6 : Below w.heap.size w w6 := into hB5 hb1
  replace S_a := (S_a.alloc _).below hb
  replace S_b := (S_b.alloc _).below hb
  replace S_c := (S_c.alloc _).below hb
  replace S_c2 := (S_c2.alloc _).below hb
  clear hb hb1
  obtain ⟨u_na, x0_na, x1_na, x2_na, -⟩ := id S_na
  go_wp2_with fail
  clear u_na x0_na x1_na x2_na
  refine (two_any 4 _ _ _ _ _ _ _).mono ?_
  rintro e w7 ⟨rfl, hb⟩
  obtain ⟨hz7, hb1, S_nb⟩ := behind1 hb
  have hB7 : Below w.heap.size w w7 := into hB6 hb1
  replace S_a := (S_a.alloc _).below hb
  replace S_b := (S_b.alloc _).below hb
  replace S_c := (S_c.alloc _).below hb
  replace S_c2 := (S_c2.alloc _).below hb
  replace S_na := (S_na.alloc _).below hb
  clear hb hb1
  obtain ⟨u_c, x0_c, x1_c, x2_c, -⟩ := id S_c
  go_wp2_with fail
  clear u_c x0_c x1_c x2_c
  refine (one_any _ _ _ _ _).mono ?_
  rintro e w8 ⟨rfl, hb⟩
  obtain ⟨hz8, hb1, S_d⟩ := behind1 hb
  have hB8 : Below w.heap.size w w8 := into hB7 hb1
  replace S_a := (S_a.alloc _).below hb
  replace S_b := (S_b.alloc _).below hb
  replace S_c := (S_c.alloc _).below hb
  replace S_c2 := (S_c2.alloc _).below hb
  replace S_na := (S_na.alloc _).below hb
  replace S_nb := (S_nb.alloc _).below hb
  clear hb hb1
  obtain ⟨u_na, x0_na, x1_na, x2_na, -⟩ := id S_na
  go_wp2_with fail
  clear u_na x0_na x1_na x2_na
  refine (one_any _ _ _ _ _).mono ?_
  rintro e w9 ⟨rfl, hb⟩
  obtain ⟨hz9, hb1, S_d2⟩ := behind1 hb
  have hB9 : Below w.heap.size w w9 := into hB8 hb1
  replace S_a := (S_a.alloc _).below hb
  replace S_b := (S_b.alloc _).below hb
  replace S_c := (S_c.alloc _).below hb
  replace S_c2 := (S_c2.alloc _).below hb
  replace S_na := (S_na.alloc _).below hb
  replace S_nb := (S_nb.alloc _).below hb
  replace S_d := (S_d.alloc _).below hb
  clear hb hb1
  obtain ⟨u_a, x0_a, x1_a, x2_a, -⟩ := id S_a
  go_wp2_with fail
  clear u_a x0_a x1_a x2_a
  refine (two_any 4 _ _ _ _ _ _ _).mono ?_
  rintro e w10 ⟨rfl, hb⟩
  obtain ⟨hz10, hb1, S_a2⟩ := behind1 hb
  have hB10 : Below w.heap.size w w10 := into hB9 hb1
  replace S_a := (S_a.alloc _).below hb
  replace S_b := (S_b.alloc _).below hb
  replace S_c := (S_c.alloc _).below hb
  replace S_c2 := (S_c2.alloc _).below hb
  replace S_na := (S_na.alloc _).below hb
  replace S_nb := (S_nb.alloc _).below hb
  replace S_d := (S_d.alloc _).below hb
  replace S_d2 := (S_d2.alloc _).below hb
  clear hb hb1
  obtain ⟨u_a, x0_a, x1_a, x2_a, -⟩ := id S_a
  obtain ⟨u_a2, x0_a2, x1_a2, x2_a2, -⟩ := id S_a2
  obtain ⟨u_c, x0_c, x1_c, x2_c, -⟩ := id S_c
  obtain ⟨u_c2, x0_c2, x1_c2, x2_c2, -⟩ := id S_c2
  obtain ⟨u_d, x0_d, x1_d, x2_d, -⟩ := id S_d
  obtain ⟨u_d2, x0_d2, x1_d2, x2_d2, -⟩ := id S_d2
  have hBz := hB10.size
  go_wp2_with fail
  go_ret
  exact ⟨rb (by simp), by go_grown⟩

theorem walk (x : Int) (wx : (Lit.int .i64 x).wf = true) (y : Int) (wy : (Lit.int .i64 y).wf = true) (w : World) :
    Calls Try.prog 8 #[.int .i64 x, .int .i64 y] w fun e w' => e = .returned (.bool true) ∧ Below w.heap.size w w' := by
  obtain ⟨c, na, nb, d, h1, h2, h3, h4, h5, h6, h7, h8⟩ := logic_table (trv_is x) (trv_is y)
  exact core x y _ _ _ _ _ _ _ _ _ _ _ _ _ _ _ _ _ _ (rng_of wx) (rng_of wy) rfl rfl h1 h2 h3 h4 h5 h6 h7 h8 w

theorem lifted (os : Os) (started : os.Started) (H : Type) (enc : TypeId × Value → H) :
    ReturnsInHanded {} Try.checked os 8 .any (Rows.logicTableSpec.pre6 enc Try.prog Try.f8 Rows.logicTableRow.domain false) (Rows.logicTableSpec.post enc Try.prog Try.f8 false true false false) := by
  refine returnsInHanded_of_change (C := Try.checked) Try.own started (by kernel_rfl) Try.func8
    (ChangeSpec.witness6 (enc := enc) (C := Try.checked) false ⟨#[], #[.int .i64 0, .int .i64 0], []⟩ 8 (by kernel_rfl) (by kernel_rfl) (by kernel_rfl) (by kernel_rfl)) ?_
  intro W base args ds gs before hval0 hW hcnd _
  have hval : ∀ (j : Nat) t v, Try.f8.params[j]? = some t → args[j]? = some v → Value.okWide Try.prog W .any base t v := hval0
  have hW' := hW
  obtain ⟨p, q, hA0, hV, rfl, hfz, hnd⟩ := hW
  have hA : DataW.TrodAll enc Try.prog W 0 (fun _ => true) true Try.f8.params.toList args.toList ds p := hA0
  rw [Try.params8] at hA hval
  obtain ⟨v0, v1, d0, d1, p0, p1, rfl, rfl, rfl, h0, h1⟩ := trodAll_two hA
  obtain ⟨rfl, rfl⟩ := trodVars_none hV
  obtain ⟨a0, rfl, rfl, rfl, w0⟩ := open_int Try.underlying3 (hval 0 3 v0 rfl rfl) h0
  obtain ⟨a1, rfl, rfl, rfl, w1⟩ := open_int Try.underlying3 (hval 1 3 v1 rfl rfl) h1
  clear hA0 hval0
  refine (walk a0 w0 a1 w1 W).mono fun e W' ⟨he, hg⟩ => ?_
  subst he
  exact ⟨_, rfl, law_post (tb := 4) Try.laidOut (by kernel_rfl) (by kernel_rfl) Try.underlying4 rfl hW' hg rfl rfl rfl⟩

theorem proved : Rows.LogicTableSaid :=
  OpenClaim.holds_of_wide 8 Try.f8 rfl rfl rfl rfl rfl rfl rfl ⟨rfl, rfl, rfl, rfl, rfl⟩ rfl rfl rfl rfl rfl (by kernel_rfl) Try.func8 (by kernel_rfl)
    (of_decide_eq_true (by kernel_rfl)) (by unfold Func.isWrapper; first | (rw [if_pos (by decide +kernel)]; kernel_rfl) | (rw [if_neg (by decide +kernel)]; exact ⟨rfl, rfl⟩))
    (fun os started H enc _ => lifted os started H enc)
#print axioms proved
end Go.Proofs.Ytconigmpiggihaa.lLogicTable
