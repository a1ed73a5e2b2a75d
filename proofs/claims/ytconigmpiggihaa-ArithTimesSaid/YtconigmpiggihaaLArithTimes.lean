/- A product is the same either way, spreads over sums, and is told when it does not fit: at every three numbers. No condition. -/
import Derived.Test.YtconigmpiggihaaFr
import Derived.Test.YtconigmpiggihaaW8
import Derived.Test.YtconigmpiggihaaK1
import Derived.Test.YtconigmpiggihaaPa
namespace Go.Proofs.Ytconigmpiggihaa.lArithTimes
open Go.ChangeShapes Go.WideShapes Go.ChangeAt Go.RowKit Go.Joins
open Go.ChangeMaps (open_string shut_string)
set_option linter.unusedVariables false
set_option linter.unusedSimpArgs false
set_option maxHeartbeats 400000

theorem core (a b c m n o s u v z p0 p1 ep : Int) (p2 : ByteArray) (ha : Rng a) (hb : Rng b) (hc : Rng c) (T1 : pck a 1048576 = m) (T2 : pck b 1048576 = n) (T3 : pck c 1048576 = o)
    (E1 : two 10 ⟨2, a, ⟨#[]⟩⟩ ⟨2, b, ⟨#[]⟩⟩ = (⟨p0, p1, p2⟩, ep)) (E2 : two 10 ⟨2, b, ⟨#[]⟩⟩ ⟨2, a, ⟨#[]⟩⟩ = (⟨p0, p1, p2⟩, ep)) (E3 : two 8 ⟨2, n, ⟨#[]⟩⟩ ⟨2, o, ⟨#[]⟩⟩ = (⟨2, s, ⟨#[]⟩⟩, 0)) (E4 : two 10 ⟨2, m, ⟨#[]⟩⟩ ⟨2, s, ⟨#[]⟩⟩ = (⟨2, u, ⟨#[]⟩⟩, 0)) (E5 : two 10 ⟨2, m, ⟨#[]⟩⟩ ⟨2, n, ⟨#[]⟩⟩ = (⟨2, v, ⟨#[]⟩⟩, 0)) (E6 : two 10 ⟨2, m, ⟨#[]⟩⟩ ⟨2, o, ⟨#[]⟩⟩ = (⟨2, z, ⟨#[]⟩⟩, 0)) (E7 : two 8 ⟨2, v, ⟨#[]⟩⟩ ⟨2, z, ⟨#[]⟩⟩ = (⟨2, u, ⟨#[]⟩⟩, 0)) (E8 : two 10 ⟨2, 4611686018427387904, ⟨#[]⟩⟩ ⟨2, 2, ⟨#[]⟩⟩ = (⟨0, 0, ⟨#[]⟩⟩, 5)) (w : World) :
    Calls Try.prog 11 #[.int .i64 a, .int .i64 b, .int .i64 c] w fun e w' => e = .returned (.bool true) ∧ Below w.heap.size w w' := by
  go_enter Try.func11, Try.ntmps11
  go_wp2_with fail
  refine (two_any 10 _ _ _ _ _ _ _).mono ?_
  rintro e w1 ⟨rfl, hb⟩
  obtain ⟨hz1, hb1, S_x, S_y⟩ := behind1b hb
  have hB1 : Below w.heap.size w w1 := hb1
  clear hb
  obtain ⟨u_x, x0_x, x1_x, x2_x, -⟩ := id S_x
  obtain ⟨u_y, x0_y, x1_y, x2_y, -⟩ := id S_y
  go_wp2_with fail
  clear u_x x0_x x1_x x2_x
  clear u_y x0_y x1_y x2_y
  refine (two_any 10 _ _ _ _ _ _ _).mono ?_
  rintro e w2 ⟨rfl, hb⟩
  obtain ⟨hz2, hb1, S_p⟩ := behind1 hb
  have hB2 : Below w.heap.size w w2 := into hB1 hb1
  replace S_x := (S_x.alloc _).below hb
  replace S_y := (S_y.alloc _).below hb
  clear hb hb1
  obtain ⟨u_p, x0_p, x1_p, x2_p, -⟩ := id S_p
  go_wp2_with fail
  clear u_p x0_p x1_p x2_p
  refine (pckb_any _ _ _ ha (by omega) (by omega)).mono ?_
  rintro e w3 ⟨rfl, hb⟩
  obtain ⟨hz3, hb1, S_q⟩ := behind1 hb
  have hB3 : Below w.heap.size w w3 := into hB2 hb1
  replace S_x := (S_x.alloc _).below hb
  replace S_y := (S_y.alloc _).below hb
  replace S_p := (S_p.alloc _).below hb
  clear hb hb1
  go_wp2_with fail
  refine (pckb_any _ _ _ hb (by omega) (by omega)).mono ?_
  rintro e w4 ⟨rfl, hb⟩
  obtain ⟨hz4, hb1, S_m⟩ := behind1 hb
  have hB4 : Below w.heap.size w w4 := into hB3 hb1
  replace S_x := (S_x.alloc _).below hb
  replace S_y := (S_y.alloc _).below hb
  replace S_p := (S_p.alloc _).below hb
  replace S_q := (S_q.alloc _).below hb
  clear hb hb1
  go_wp2_with fail
  refine (pckb_any _ _ _ hc (by omega) (by omega)).mono ?_
  rintro e w5 ⟨rfl, hb⟩
  obtain ⟨hz5, hb1, S_n⟩ := behind1 hb
  have hB5 : Below w.heap.size w w5 := into hB4 hb1
  replace S_x := (S_x.alloc _).below hb
  replace S_y := (S_y.alloc _).below hb
  replace S_p := (S_p.alloc _).below hb
  replace S_q := (S_q.alloc _).below hb
  replace S_m := (S_m.alloc _).below hb
  clear hb hb1
  obtain ⟨u_n, x0_n, x1_n, x2_n, -⟩ := id S_n
  go_wp2_with fail
  clear u_n x0_n x1_n x2_n
  refine (two_any 8 _ _ _ _ _ _ _).mono ?_
  rintro e w6 ⟨rfl, hb⟩
  obtain ⟨hz6, hb1, S_o⟩ := behind1 hb
  have hB6 : Below w.heap.size w w6 := into hB5 hb1
  replace S_x := (S_x.alloc _).below hb
  replace S_y := (S_y.alloc _).below hb
  replace S_p := (S_p.alloc _).below hb
  replace S_q := (S_q.alloc _).below hb
  replace S_m := (S_m.alloc _).below hb
  replace S_n := (S_n.alloc _).below hb
  clear hb hb1
  obtain ⟨u_m, x0_m, x1_m, x2_m, -⟩ := id S_m
  go_wp2_with fail
  clear u_m x0_m x1_m x2_m
  refine (two_any 10 _ _ _ _ _ _ _).mono ?_
  rintro e w7 ⟨rfl, hb⟩
  obtain ⟨hz7, hb1, S_s⟩ := behind1 hb
  have hB7 : Below w.heap.size w w7 := into hB6 hb1
  replace S_x := (S_x.alloc _).below hb
  replace S_y := (S_y.alloc _).below hb
  replace S_p := (S_p.alloc _).below hb
  replace S_q := (S_q.alloc _).below hb
  replace S_m := (S_m.alloc _).below hb
  replace S_n := (S_n.alloc _).below hb
  replace S_o := (S_o.alloc _).below hb
  clear hb hb1
  obtain ⟨u_m, x0_m, x1_m, x2_m, -⟩ := id S_m
  obtain ⟨u_n, x0_n, x1_n, x2_n, -⟩ := id S_n
  go_wp2_with fail
  clear u_m x0_m x1_m x2_m
  clear u_n x0_n x1_n x2_n
  refine (two_any 10 _ _ _ _ _ _ _).mono ?_
  rintro e w8 ⟨rfl, hb⟩
  obtain ⟨hz8, hb1, S_u⟩ := behind1 hb
  have hB8 : Below w.heap.size w w8 := into hB7 hb1
  replace S_x := (S_x.alloc _).below hb
  replace S_y := (S_y.alloc _).below hb
  replace S_p := (S_p.alloc _).below hb
  replace S_q := (S_q.alloc _).below hb
  replace S_m := (S_m.alloc _).below hb
  replace S_n := (S_n.alloc _).below hb
  replace S_o := (S_o.alloc _).below hb
  replace S_s := (S_s.alloc _).below hb
  clear hb hb1
  obtain ⟨u_m, x0_m, x1_m, x2_m, -⟩ := id S_m
  obtain ⟨u_o, x0_o, x1_o, x2_o, -⟩ := id S_o
  go_wp2_with fail
  clear u_m x0_m x1_m x2_m
  clear u_o x0_o x1_o x2_o
  refine (two_any 10 _ _ _ _ _ _ _).mono ?_
  rintro e w9 ⟨rfl, hb⟩
  obtain ⟨hz9, hb1, S_v⟩ := behind1 hb
  have hB9 : Below w.heap.size w w9 := into hB8 hb1
  replace S_x := (S_x.alloc _).below hb
  replace S_y := (S_y.alloc _).below hb
  replace S_p := (S_p.alloc _).below hb
  replace S_q := (S_q.alloc _).below hb
  replace S_m := (S_m.alloc _).below hb
  replace S_n := (S_n.alloc _).below hb
  replace S_o := (S_o.alloc _).below hb
  replace S_s := (S_s.alloc _).below hb
  replace S_u := (S_u.alloc _).below hb
  clear hb hb1
  obtain ⟨u_v, x0_v, x1_v, x2_v, -⟩ := id S_v
  go_wp2_with fail
  clear u_v x0_v x1_v x2_v
  refine (two_any 8 _ _ _ _ _ _ _).mono ?_
  rintro e w10 ⟨rfl, hb⟩
  obtain ⟨hz10, hb1, S_z⟩ := behind1 hb
  have hB10 : Below w.heap.size w w10 := into hB9 hb1
  replace S_x := (S_x.alloc _).below hb
  replace S_y := (S_y.alloc _).below hb
  replace S_p := (S_p.alloc _).below hb
  replace S_q := (S_q.alloc _).below hb
  replace S_m := (S_m.alloc _).below hb
  replace S_n := (S_n.alloc _).below hb
  replace S_o := (S_o.alloc _).below hb
  replace S_s := (S_s.alloc _).below hb
  replace S_u := (S_u.alloc _).below hb
  replace S_v := (S_v.alloc _).below hb
  clear hb hb1
  go_wp2_with fail
  refine (two_any 10 _ _ _ _ _ _ _).mono ?_
  rintro e w11 ⟨rfl, hb⟩
  obtain ⟨hz11, hb1, S_t⟩ := behind1 hb
  have hB11 : Below w.heap.size w w11 := into hB10 hb1
  replace S_x := (S_x.alloc _).below hb
  replace S_y := (S_y.alloc _).below hb
  replace S_p := (S_p.alloc _).below hb
  replace S_q := (S_q.alloc _).below hb
  replace S_m := (S_m.alloc _).below hb
  replace S_n := (S_n.alloc _).below hb
  replace S_o := (S_o.alloc _).below hb
  replace S_s := (S_s.alloc _).below hb
  replace S_u := (S_u.alloc _).below hb
  replace S_v := (S_v.alloc _).below hb
  replace S_z := (S_z.alloc _).below hb
  clear hb hb1
  obtain ⟨u_u, x0_u, x1_u, x2_u, -⟩ := id S_u
  obtain ⟨u_t, x0_t, x1_t, x2_t, -⟩ := id S_t
  have hBz := hB11.size
  go_wp2_with fail
  go_ret
  exact ⟨rb (by simp), by go_grown⟩

theorem small (x y : Int) (hx : 0 ≤ x ∧ x < 2097152) (hy : 0 ≤ y ∧ y < 2097152) : 0 ≤ x * y ∧ x * y ≤ 4398046511104 := by
  have h1 : 0 ≤ x * y := Int.mul_nonneg hx.1 hy.1
  have h2 : x * y ≤ 2097152 * 2097152 := Int.mul_le_mul (by omega) (by omega) hy.1 (by omega)
  omega

theorem walk (a : Int) (wa : (Lit.int .i64 a).wf = true) (b : Int) (wb : (Lit.int .i64 b).wf = true) (c : Int) (wc : (Lit.int .i64 c).wf = true) (w : World) :
    Calls Try.prog 11 #[.int .i64 a, .int .i64 b, .int .i64 c] w fun e w' => e = .returned (.bool true) ∧ Below w.heap.size w w' := by
  have ha := rng_of wa
  have hb := rng_of wb
  have hc := rng_of wc
  have hm := pck_in a 1048576 (by omega)
  have hn := pck_in b 1048576 (by omega)
  have ho := pck_in c 1048576 (by omega)
  have e2 : two 10 ⟨2, b, ⟨#[]⟩⟩ ⟨2, a, ⟨#[]⟩⟩ = two 10 ⟨2, a, ⟨#[]⟩⟩ ⟨2, b, ⟨#[]⟩⟩ := by rw [two_mul b a hb ha, two_mul a b ha hb, Int.mul_comm b a]
  generalize hm' : pck a 1048576 = m at hm
  generalize hn' : pck b 1048576 = n at hn
  generalize ho' : pck c 1048576 = o at ho
  have rm : Rng m := rng_small (by omega) (by omega)
  have rn : Rng n := rng_small (by omega) (by omega)
  have ro : Rng o := rng_small (by omega) (by omega)
  have rs : Rng (n + o) := rng_small (by omega) (by omega)
  have s1 := small m (n + o) (by omega) (by omega)
  have s2 := small m n (by omega) (by omega)
  have s3 := small m o (by omega) (by omega)
  have ru : Rng (m * (n + o)) := rng_small (by omega) (by omega)
  have rv : Rng (m * n) := rng_small (by omega) (by omega)
  have rz : Rng (m * o) := rng_small (by omega) (by omega)
  have ed : m * n + m * o = m * (n + o) := (Int.mul_add m n o).symm
  refine core a b c m n o (n + o) (m * (n + o)) (m * n) (m * o) _ _ _ _ ha hb hc hm' hn' ho' rfl e2 ?_ ?_ ?_ ?_ ?_ ?_ w
  · rw [two_add n o rn ro, if_pos rs]
  · rw [two_mul m (n + o) rm rs, if_pos ru]
  · rw [two_mul m n rm rn, if_pos rv]
  · rw [two_mul m o rm ro, if_pos rz]
  · rw [two_add _ _ rv rz, ed, if_pos ru]
  · rw [two_mul _ _ (by decide) (by decide), if_neg (by decide)]

theorem lifted (os : Os) (started : os.Started) (H : Type) (enc : TypeId × Value → H) :
    ReturnsInHanded {} Try.checked os 11 .any (Rows.arithTimesSpec.pre6 enc Try.prog Try.f11 Rows.arithTimesRow.domain false) (Rows.arithTimesSpec.post enc Try.prog Try.f11 false true false false) := by
  refine returnsInHanded_of_change (C := Try.checked) Try.own started (by kernel_rfl) Try.func11
    (ChangeSpec.witness6 (enc := enc) (C := Try.checked) false ⟨#[], #[.int .i64 0, .int .i64 0, .int .i64 0], []⟩ 8 (by kernel_rfl) (by kernel_rfl) (by kernel_rfl) (by kernel_rfl)) ?_
  intro W base args ds gs before hval0 hW hcnd _
  have hval : ∀ (j : Nat) t v, Try.f11.params[j]? = some t → args[j]? = some v → Value.okWide Try.prog W .any base t v := hval0
  have hW' := hW
  obtain ⟨p, q, hA0, hV, rfl, hfz, hnd⟩ := hW
  have hA : DataW.TrodAll enc Try.prog W 0 (fun _ => true) true Try.f11.params.toList args.toList ds p := hA0
  rw [Try.params11] at hA hval
  obtain ⟨v0, v1, v2, d0, d1, d2, p0, p1, p2, rfl, rfl, rfl, h0, h1, h2⟩ := trodAll_three hA
  obtain ⟨rfl, rfl⟩ := trodVars_none hV
  obtain ⟨a0, rfl, rfl, rfl, w0⟩ := open_int Try.underlying3 (hval 0 3 v0 rfl rfl) h0
  obtain ⟨a1, rfl, rfl, rfl, w1⟩ := open_int Try.underlying3 (hval 1 3 v1 rfl rfl) h1
  obtain ⟨a2, rfl, rfl, rfl, w2⟩ := open_int Try.underlying3 (hval 2 3 v2 rfl rfl) h2
  clear hA0 hval0
  refine (walk a0 w0 a1 w1 a2 w2 W).mono fun e W' ⟨he, hg⟩ => ?_
  subst he
  exact ⟨_, rfl, law_post (tb := 4) Try.laidOut (by kernel_rfl) (by kernel_rfl) Try.underlying4 rfl hW' hg rfl rfl rfl⟩

theorem proved : Rows.ArithTimesSaid :=
  OpenClaim.holds_of_wide 11 Try.f11 rfl rfl rfl rfl rfl rfl rfl ⟨rfl, rfl, rfl, rfl, rfl⟩ rfl rfl rfl rfl rfl (by kernel_rfl) Try.func11 (by kernel_rfl)
    (of_decide_eq_true (by kernel_rfl)) (by unfold Func.isWrapper; first | (rw [if_pos (by decide +kernel)]; kernel_rfl) | (rw [if_neg (by decide +kernel)]; exact ⟨rfl, rfl⟩))
    (fun os started H enc _ => lifted os started H enc)
#print axioms proved
end Go.Proofs.Ytconigmpiggihaa.lArithTimes
