/- Of three Bools or Nulls it does not matter which two come first, and And spreads over Or: at every three raw numbers. No condition. -/
import Derived.Test.YtconigmpiggihabFr
import Derived.Test.YtconigmpiggihabW8
import Derived.Test.YtconigmpiggihabK1
namespace Go.Proofs.Ytconigmpiggihab.lLogicThree
open Go.ChangeShapes Go.WideShapes Go.ChangeAt Go.RowKit Go.Joins
open Go.ChangeMaps (open_string shut_string)
set_option linter.unusedVariables false
set_option linter.unusedSimpArgs false
set_option maxHeartbeats 400000

theorem core (x y z : Int) (a0 a1 : Int) (a2 : ByteArray) (b0 b1 : Int) (b2 : ByteArray) (c0 c1 : Int) (c2 : ByteArray) (p0 p1 : Int) (p2 : ByteArray) (q0 q1 : Int) (q2 : ByteArray) (l0 l1 : Int) (l2 : ByteArray) (o0 o1 : Int) (o2 : ByteArray) (m0 m1 : Int) (m2 : ByteArray) (s0 s1 : Int) (s2 : ByteArray)
    (hx : Rng x) (hy : Rng y) (hz : Rng z) (T1 : trv x = ⟨a0, a1, a2⟩) (T2 : trv y = ⟨b0, b1, b2⟩) (T3 : trv z = ⟨c0, c1, c2⟩)
    (E1 : two 3 ⟨a0, a1, a2⟩ ⟨b0, b1, b2⟩ = (⟨p0, p1, p2⟩, 0)) (E2 : two 3 ⟨b0, b1, b2⟩ ⟨c0, c1, c2⟩ = (⟨q0, q1, q2⟩, 0)) (E3 : two 3 ⟨p0, p1, p2⟩ ⟨c0, c1, c2⟩ = (⟨l0, l1, l2⟩, 0)) (E4 : two 3 ⟨a0, a1, a2⟩ ⟨q0, q1, q2⟩ = (⟨l0, l1, l2⟩, 0)) (E5 : two 4 ⟨b0, b1, b2⟩ ⟨c0, c1, c2⟩ = (⟨o0, o1, o2⟩, 0)) (E6 : two 3 ⟨a0, a1, a2⟩ ⟨o0, o1, o2⟩ = (⟨m0, m1, m2⟩, 0)) (E7 : two 3 ⟨a0, a1, a2⟩ ⟨c0, c1, c2⟩ = (⟨s0, s1, s2⟩, 0)) (E8 : two 4 ⟨p0, p1, p2⟩ ⟨s0, s1, s2⟩ = (⟨m0, m1, m2⟩, 0)) (E9 : two 3 ⟨a0, a1, a2⟩ ⟨1, 0, ⟨#[]⟩⟩ = (⟨1, 0, ⟨#[]⟩⟩, 0)) (w : World) :
    Calls Try.prog 4 #[.int .i64 x, .int .i64 y, .int .i64 z] w fun e w' => e = .returned (.bool true) ∧ Below w.heap.size w w' := by
  go_enter Try.func4, Try.ntmps4
  go_wp2_with fail
  refine (trv_any _ _ hx).mono ?_
  rintro e w1 ⟨rfl, hb⟩
  have hB1 : Below w.heap.size w w1 := into (by go_grown) hb
  clear hb
  go_wp2_with fail
  refine (trv_any _ _ hy).mono ?_
  rintro e w2 ⟨rfl, hb⟩
  obtain ⟨hz2, hb1, S_a⟩ := behind1 hb
  have hB2 : Below w.heap.size w w2 := into hB1 hb1
  clear hb hb1
  go_wp2_with fail
  refine (trv_any _ _ hz).mono ?_
  rintro e w3 ⟨rfl, hb⟩
  obtain ⟨hz3, hb1, S_b⟩ := behind1 hb
  have hB3 : Below w.heap.size w w3 := into hB2 hb1
  replace S_a := (S_a.alloc _).below hb
  clear hb hb1
  obtain ⟨u_a, x0_a, x1_a, x2_a, -⟩ := id S_a
  obtain ⟨u_b, x0_b, x1_b, x2_b, -⟩ := id S_b
  go_wp2_with fail
  clear u_a x0_a x1_a x2_a
  clear u_b x0_b x1_b x2_b
  refine (two_any 3 _ _ _ _ _ _ _).mono ?_
  rintro e w4 ⟨rfl, hb⟩
  obtain ⟨hz4, hb1, S_c⟩ := behind1 hb
  have hB4 : Below w.heap.size w w4 := into hB3 hb1
  replace S_a := (S_a.alloc _).below hb
  replace S_b := (S_b.alloc _).below hb
  clear hb hb1
  obtain ⟨u_b, x0_b, x1_b, x2_b, -⟩ := id S_b
  obtain ⟨u_c, x0_c, x1_c, x2_c, -⟩ := id S_c
  go_wp2_with fail
  clear u_b x0_b x1_b x2_b
  clear u_c x0_c x1_c x2_c
  refine (two_any 3 _ _ _ _ _ _ _).mono ?_
  rintro e w5 ⟨rfl, hb⟩
  obtain ⟨hz5, hb1, S_p⟩ := behind1 hb
  have hB5 : Below w.heap.size w w5 := into hB4 hb1
  replace S_a := (S_a.alloc _).below hb
  replace S_b := (S_b.alloc _).below hb
  replace S_c := (S_c.alloc _).below hb
  clear hb hb1
  obtain ⟨u_p, x0_p, x1_p, x2_p, -⟩ := id S_p
  obtain ⟨u_c, x0_c, x1_c, x2_c, -⟩ := id S_c
  go_wp2_with fail
  clear u_p x0_p x1_p x2_p
  clear u_c x0_c x1_c x2_c
  refine (two_any 3 _ _ _ _ _ _ _).mono ?_
  rintro e w6 ⟨rfl, hb⟩
  obtain ⟨hz6, hb1, S_q⟩ := behind1 hb
  have hB6 : Below w.heap.size w w6 := into hB5 hb1
  replace S_a := (S_a.alloc _).below hb
  replace S_b := (S_b.alloc _).below hb
  replace S_c := (S_c.alloc _).below hb
  replace S_p := (S_p.alloc _).below hb
  clear hb hb1
  obtain ⟨u_a, x0_a, x1_a, x2_a, -⟩ := id S_a
  obtain ⟨u_q, x0_q, x1_q, x2_q, -⟩ := id S_q
  go_wp2_with fail
  clear u_a x0_a x1_a x2_a
  clear u_q x0_q x1_q x2_q
  refine (two_any 3 _ _ _ _ _ _ _).mono ?_
  rintro e w7 ⟨rfl, hb⟩
  obtain ⟨hz7, hb1, S_l⟩ := behind1 hb
  have hB7 : Below w.heap.size w w7 := into hB6 hb1
  replace S_a := (S_a.alloc _).below hb
  replace S_b := (S_b.alloc _).below hb
  replace S_c := (S_c.alloc _).below hb
  replace S_p := (S_p.alloc _).below hb
  replace S_q := (S_q.alloc _).below hb
  clear hb hb1
  obtain ⟨u_b, x0_b, x1_b, x2_b, -⟩ := id S_b
  obtain ⟨u_c, x0_c, x1_c, x2_c, -⟩ := id S_c
  go_wp2_with fail
  clear u_b x0_b x1_b x2_b
  clear u_c x0_c x1_c x2_c
  refine (two_any 4 _ _ _ _ _ _ _).mono ?_
  rintro e w8 ⟨rfl, hb⟩
  obtain ⟨hz8, hb1, S_r⟩ := behind1 hb
  have hB8 : Below w.heap.size w w8 := into hB7 hb1
  replace S_a := (S_a.alloc _).below hb
  replace S_b := (S_b.alloc _).below hb
  replace S_c := (S_c.alloc _).below hb
  replace S_p := (S_p.alloc _).below hb
  replace S_q := (S_q.alloc _).below hb
  replace S_l := (S_l.alloc _).below hb
  clear hb hb1
  obtain ⟨u_a, x0_a, x1_a, x2_a, -⟩ := id S_a
  go_wp2_with fail
  clear u_a x0_a x1_a x2_a
  refine (two_any 3 _ _ _ _ _ _ _).mono ?_
  rintro e w9 ⟨rfl, hb⟩
  obtain ⟨hz9, hb1, S_o⟩ := behind1 hb
  have hB9 : Below w.heap.size w w9 := into hB8 hb1
  replace S_a := (S_a.alloc _).below hb
  replace S_b := (S_b.alloc _).below hb
  replace S_c := (S_c.alloc _).below hb
  replace S_p := (S_p.alloc _).below hb
  replace S_q := (S_q.alloc _).below hb
  replace S_l := (S_l.alloc _).below hb
  replace S_r := (S_r.alloc _).below hb
  clear hb hb1
  obtain ⟨u_a, x0_a, x1_a, x2_a, -⟩ := id S_a
  obtain ⟨u_c, x0_c, x1_c, x2_c, -⟩ := id S_c
  go_wp2_with fail
  clear u_a x0_a x1_a x2_a
  clear u_c x0_c x1_c x2_c
  refine (two_any 3 _ _ _ _ _ _ _).mono ?_
  rintro e w10 ⟨rfl, hb⟩
  obtain ⟨hz10, hb1, S_m⟩ := behind1 hb
  have hB10 : Below w.heap.size w w10 := into hB9 hb1
  replace S_a := (S_a.alloc _).below hb
  replace S_b := (S_b.alloc _).below hb
  replace S_c := (S_c.alloc _).below hb
  replace S_p := (S_p.alloc _).below hb
  replace S_q := (S_q.alloc _).below hb
  replace S_l := (S_l.alloc _).below hb
  replace S_r := (S_r.alloc _).below hb
  replace S_o := (S_o.alloc _).below hb
  clear hb hb1
  obtain ⟨u_p, x0_p, x1_p, x2_p, -⟩ := id S_p
  go_wp2_with fail
  clear u_p x0_p x1_p x2_p
  refine (two_any 4 _ _ _ _ _ _ _).mono ?_
  rintro e w11 ⟨rfl, hb⟩
  obtain ⟨hz11, hb1, S_s⟩ := behind1 hb
  have hB11 : Below w.heap.size w w11 := into hB10 hb1
  replace S_a := (S_a.alloc _).below hb
  replace S_b := (S_b.alloc _).below hb
  replace S_c := (S_c.alloc _).below hb
  replace S_p := (S_p.alloc _).below hb
  replace S_q := (S_q.alloc _).below hb
  replace S_l := (S_l.alloc _).below hb
  replace S_r := (S_r.alloc _).below hb
  replace S_o := (S_o.alloc _).below hb
  replace S_m := (S_m.alloc _).below hb
  clear hb hb1
  obtain ⟨u_a, x0_a, x1_a, x2_a, -⟩ := id S_a
  go_wp2_with fail
  clear u_a x0_a x1_a x2_a
  refine (two_any 3 _ _ _ _ _ _ _).mono ?_
  rintro e w12 ⟨rfl, hb⟩
  obtain ⟨hz12, hb1, S_u⟩ := behind1 hb
  have hB12 : Below w.heap.size w w12 := into hB11 hb1
  replace S_a := (S_a.alloc _).below hb
  replace S_b := (S_b.alloc _).below hb
  replace S_c := (S_c.alloc _).below hb
  replace S_p := (S_p.alloc _).below hb
  replace S_q := (S_q.alloc _).below hb
  replace S_l := (S_l.alloc _).below hb
  replace S_r := (S_r.alloc _).below hb
  replace S_o := (S_o.alloc _).below hb
  replace S_m := (S_m.alloc _).below hb
  replace S_s := (S_s.alloc _).below hb
  clear hb hb1
  obtain ⟨u_l, x0_l, x1_l, x2_l, -⟩ := id S_l
  obtain ⟨u_r, x0_r, x1_r, x2_r, -⟩ := id S_r
  obtain ⟨u_m, x0_m, x1_m, x2_m, -⟩ := id S_m
  obtain ⟨u_u, x0_u, x1_u, x2_u, -⟩ := id S_u
  have hBz := hB12.size
  go_wp2_with fail
  go_ret
  exact ⟨rb (by simp), by go_grown⟩

theorem logic_three {a b c : V} (ha : lg a) (hb : lg b) (hc : lg c) : ∃ p q l o m s : V, two 3 a b = (p, 0) ∧ two 3 b c = (q, 0) ∧ two 3 p c = (l, 0) ∧ two 3 a q = (l, 0) ∧ two 4 b c = (o, 0) ∧ two 3 a o = (m, 0) ∧ two 3 a c = (s, 0) ∧ two 4 p s = (m, 0) ∧
    two 3 a ⟨1, 0, ⟨#[]⟩⟩ = (⟨1, 0, ⟨#[]⟩⟩, 0) := by
  refine ⟨(two 3 a b).1, (two 3 b c).1, (two 3 (two 3 a b).1 c).1, (two 4 b c).1, (two 3 a (two 4 b c).1).1, (two 3 a c).1, ?_⟩
  rcases ha with rfl | rfl | rfl <;> rcases hb with rfl | rfl | rfl <;> rcases hc with rfl | rfl | rfl <;>
    simp [two, chk2, chk, nmb, join, known, unk, tru, nul, e_list, e_size]

theorem walk (x : Int) (wx : (Lit.int .i64 x).wf = true) (y : Int) (wy : (Lit.int .i64 y).wf = true) (z : Int) (wz : (Lit.int .i64 z).wf = true) (w : World) :
    Calls Try.prog 4 #[.int .i64 x, .int .i64 y, .int .i64 z] w fun e w' => e = .returned (.bool true) ∧ Below w.heap.size w w' := by
  obtain ⟨p, q, l, o, m, s, h1, h2, h3, h4, h5, h6, h7, h8, h9⟩ := logic_three (trv_is x) (trv_is y) (trv_is z)
  exact core x y z _ _ _ _ _ _ _ _ _ _ _ _ _ _ _ _ _ _ _ _ _ _ _ _ _ _ _  (rng_of wx) (rng_of wy) (rng_of wz) rfl rfl rfl h1 h2 h3 h4 h5 h6 h7 h8 h9 w

theorem lifted (os : Os) (started : os.Started) (H : Type) (enc : TypeId × Value → H) :
    ReturnsInHanded {} Try.checked os 4 .any (Rows.logicThreeSpec.pre6 enc Try.prog Try.f4 Rows.logicThreeRow.domain false) (Rows.logicThreeSpec.post enc Try.prog Try.f4 false true false false) := by
  refine returnsInHanded_of_change (C := Try.checked) Try.own started (by kernel_rfl) Try.func4
    (ChangeSpec.witness6 (enc := enc) (C := Try.checked) false ⟨#[], #[.int .i64 0, .int .i64 0, .int .i64 0], []⟩ 8 (by kernel_rfl) (by kernel_rfl) (by kernel_rfl) (by kernel_rfl)) ?_
  intro W base args ds gs before hval0 hW hcnd _
  have hval : ∀ (j : Nat) t v, Try.f4.params[j]? = some t → args[j]? = some v → Value.okWide Try.prog W .any base t v := hval0
  have hW' := hW
  obtain ⟨p, q, hA0, hV, rfl, hfz, hnd⟩ := hW
  have hA : DataW.TrodAll enc Try.prog W 0 (fun _ => true) true Try.f4.params.toList args.toList ds p := hA0
  rw [Try.params4] at hA hval
  obtain ⟨v0, v1, v2, d0, d1, d2, p0, p1, p2, rfl, rfl, rfl, h0, h1, h2⟩ := trodAll_three hA
  obtain ⟨rfl, rfl⟩ := trodVars_none hV
  obtain ⟨a0, rfl, rfl, rfl, w0⟩ := open_int Try.underlying3 (hval 0 3 v0 rfl rfl) h0
  obtain ⟨a1, rfl, rfl, rfl, w1⟩ := open_int Try.underlying3 (hval 1 3 v1 rfl rfl) h1
  obtain ⟨a2, rfl, rfl, rfl, w2⟩ := open_int Try.underlying3 (hval 2 3 v2 rfl rfl) h2
  clear hA0 hval0
  refine (walk a0 w0 a1 w1 a2 w2 W).mono fun e W' ⟨he, hg⟩ => ?_
  subst he
  exact ⟨_, rfl, law_post (tb := 4) Try.laidOut (by kernel_rfl) (by kernel_rfl) Try.underlying4 rfl hW' hg rfl rfl rfl⟩

theorem proved : Rows.LogicThreeSaid :=
  OpenClaim.holds_of_wide 4 Try.f4 rfl rfl rfl rfl rfl rfl rfl ⟨rfl, rfl, rfl, rfl, rfl⟩ rfl rfl rfl rfl rfl (by kernel_rfl) Try.func4 (by kernel_rfl)
    (of_decide_eq_true (by kernel_rfl)) (by unfold Func.isWrapper; first | (rw [if_pos (by decide +kernel)]; kernel_rfl) | (rw [if_neg (by decide +kernel)]; exact ⟨rfl, rfl⟩))
    (fun os started H enc _ => lifted os started H enc)
#print axioms proved
end Go.Proofs.Ytconigmpiggihab.lLogicThree
