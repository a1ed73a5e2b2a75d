/- Values stand in one order, there and back and over a third one: at every three raw values. No condition. -/
import Derived.Test.YtconigmpiggihaaFr
import Derived.Test.YtconigmpiggihaaWA
import Derived.Test.YtconigmpiggihaaW5
import Derived.Test.YtconigmpiggihaaK3
namespace Go.Proofs.Ytconigmpiggihaa.lValueOrder
open Go.ChangeShapes Go.WideShapes Go.ChangeAt Go.RowKit Go.Joins
open Go.ChangeMaps (open_string shut_string)
set_option linter.unusedVariables false
set_option linter.unusedSimpArgs false
set_option maxHeartbeats 400000

theorem core (k1 n1 : Int) (s1 : ByteArray) (hk1 : Rng k1) (hn1 : Rng n1) (hs1 : Hid (s1.size ≤ maxLen)) (k2 n2 : Int) (s2 : ByteArray) (hk2 : Rng k2) (hn2 : Rng n2) (hs2 : Hid (s2.size ≤ maxLen)) (k3 n3 : Int) (s3 : ByteArray) (hk3 : Rng k3) (hn3 : Rng n3) (hs3 : Hid (s3.size ≤ maxLen)) (a0 a1 : Int) (a2 : ByteArray) (b0 b1 : Int) (b2 : ByteArray) (c0 c1 : Int) (c2 : ByteArray) (ab ba bc ac : Int) (l1 : -1 ≤ ba) (l2 : ba ≤ 1) (T1 : rawV k1 n1 s1 = ⟨a0, a1, a2⟩) (T2 : rawV k2 n2 s2 = ⟨b0, b1, b2⟩) (T3 : rawV k3 n3 s3 = ⟨c0, c1, c2⟩)
    (C1 : cmp2 ⟨a0, a1, a2⟩ ⟨b0, b1, b2⟩ = ab) (K1 : chk2 ⟨a0, a1, a2⟩ ⟨b0, b1, b2⟩ = 0) (C2 : cmp2 ⟨b0, b1, b2⟩ ⟨a0, a1, a2⟩ = ba) (K2 : chk2 ⟨b0, b1, b2⟩ ⟨a0, a1, a2⟩ = 0) (C3 : cmp2 ⟨b0, b1, b2⟩ ⟨c0, c1, c2⟩ = bc) (K3 : chk2 ⟨b0, b1, b2⟩ ⟨c0, c1, c2⟩ = 0) (C4 : cmp2 ⟨a0, a1, a2⟩ ⟨c0, c1, c2⟩ = ac) (K4 : chk2 ⟨a0, a1, a2⟩ ⟨c0, c1, c2⟩ = 0) (C5 : cmp2 ⟨0, 0, ⟨#[]⟩⟩ ⟨1, 0, ⟨#[]⟩⟩ = -1) (K5 : chk2 ⟨0, 0, ⟨#[]⟩⟩ ⟨1, 0, ⟨#[]⟩⟩ = 0)
    (HH : Hid (ab = -ba ∧ (ab = 0 ↔ (a0 = b0 ∧ a1 = b1 ∧ a2.toList = b2.toList)) ∧ (0 < ab ∨ 0 < bc ∨ (ac ≤ 0 ∧ (ac < 0 ↔ ab < 0 ∨ bc < 0))))) (w : World) :
    Calls Try.prog 7 #[.agg #[.int .i64 k1, .int .i64 n1, .string s1], .agg #[.int .i64 k2, .int .i64 n2, .string s2], .agg #[.int .i64 k3, .int .i64 n3, .string s3]] w fun e w' => e = .returned (.bool true) ∧ Below w.heap.size w w' := by
  go_enter Try.func7, Try.ntmps7
  go_wp2_with fail
  refine (val_any _ _ _ _ hk1 hn1 hs1.out).mono ?_
  rintro e w1 ⟨rfl, hb⟩
  obtain ⟨hz1, hb1, S_bx, S_by, S_bz⟩ := behind1c hb
  have hB1 : Below w.heap.size w w1 := hb1
  clear hb
  obtain ⟨u_by, x0_by, x1_by, x2_by, -⟩ := id S_by
  go_wp2_with fail
  clear u_by x0_by x1_by x2_by
  refine (val_any _ _ _ _ hk2 hn2 hs2.out).mono ?_
  rintro e w2 ⟨rfl, hb⟩
  obtain ⟨hz2, hb1, S_a⟩ := behind1 hb
  have hB2 : Below w.heap.size w w2 := into hB1 hb1
  replace S_bx := (S_bx.alloc _).below hb
  replace S_by := (S_by.alloc _).below hb
  replace S_bz := (S_bz.alloc _).below hb
  clear hb hb1
  obtain ⟨u_bz, x0_bz, x1_bz, x2_bz, -⟩ := id S_bz
  go_wp2_with fail
  clear u_bz x0_bz x1_bz x2_bz
  refine (val_any _ _ _ _ hk3 hn3 hs3.out).mono ?_
  rintro e w3 ⟨rfl, hb⟩
  obtain ⟨hz3, hb1, S_b⟩ := behind1 hb
  have hB3 : Below w.heap.size w w3 := into hB2 hb1
  replace S_bx := (S_bx.alloc _).below hb
  replace S_by := (S_by.alloc _).below hb
  replace S_bz := (S_bz.alloc _).below hb
  replace S_a := (S_a.alloc _).below hb
  clear hb hb1
  obtain ⟨u_a, x0_a, x1_a, x2_a, -⟩ := id S_a
  obtain ⟨u_b, x0_b, x1_b, x2_b, -⟩ := id S_b
  go_wp2_with fail
  clear u_a x0_a x1_a x2_a
  clear u_b x0_b x1_b x2_b
  refine (cmp_any _ _ _ _ _ _ _).mono ?_
  rintro e w4 ⟨rfl, hb⟩
  obtain ⟨hz4, hb1, S_c⟩ := behind1 hb
  have hB4 : Below w.heap.size w w4 := into hB3 hb1
  replace S_bx := (S_bx.alloc _).below hb
  replace S_by := (S_by.alloc _).below hb
  replace S_bz := (S_bz.alloc _).below hb
  replace S_a := (S_a.alloc _).below hb
  replace S_b := (S_b.alloc _).below hb
  clear hb hb1
  obtain ⟨u_a, x0_a, x1_a, x2_a, -⟩ := id S_a
  obtain ⟨u_b, x0_b, x1_b, x2_b, -⟩ := id S_b
  go_wp2_with fail
  clear u_a x0_a x1_a x2_a
  clear u_b x0_b x1_b x2_b
  refine (cmp_any _ _ _ _ _ _ _).mono ?_
  rintro e w5 ⟨rfl, hb⟩
  have hB5 : Below w.heap.size w w5 := into hB4 hb
  replace S_bx := S_bx.below hb
  replace S_by := S_by.below hb
  replace S_bz := S_bz.below hb
  replace S_a := S_a.below hb
  replace S_b := S_b.below hb
  replace S_c := S_c.below hb
  clear hb
  obtain ⟨u_b, x0_b, x1_b, x2_b, -⟩ := id S_b
  obtain ⟨u_c, x0_c, x1_c, x2_c, -⟩ := id S_c
  go_wp2_with fail
  clear u_b x0_b x1_b x2_b
  clear u_c x0_c x1_c x2_c
  refine (cmp_any _ _ _ _ _ _ _).mono ?_
  rintro e w6 ⟨rfl, hb⟩
  have hB6 : Below w.heap.size w w6 := into hB5 hb
  replace S_bx := S_bx.below hb
  replace S_by := S_by.below hb
  replace S_bz := S_bz.below hb
  replace S_a := S_a.below hb
  replace S_b := S_b.below hb
  replace S_c := S_c.below hb
  clear hb
  obtain ⟨u_a, x0_a, x1_a, x2_a, -⟩ := id S_a
  obtain ⟨u_c, x0_c, x1_c, x2_c, -⟩ := id S_c
  go_wp2_with fail
  clear u_a x0_a x1_a x2_a
  clear u_c x0_c x1_c x2_c
  refine (cmp_any _ _ _ _ _ _ _).mono ?_
  rintro e w7 ⟨rfl, hb⟩
  have hB7 : Below w.heap.size w w7 := into hB6 hb
  replace S_bx := S_bx.below hb
  replace S_by := S_by.below hb
  replace S_bz := S_bz.below hb
  replace S_a := S_a.below hb
  replace S_b := S_b.below hb
  replace S_c := S_c.below hb
  clear hb
  go_wp2_with fail
  refine (cmp_any _ _ _ _ _ _ _).mono ?_
  rintro e w8 ⟨rfl, hb⟩
  have hB8 : Below w.heap.size w w8 := into hB7 hb
  replace S_bx := S_bx.below hb
  replace S_by := S_by.below hb
  replace S_bz := S_bz.below hb
  replace S_a := S_a.below hb
  replace S_b := S_b.below hb
  replace S_c := S_c.below hb
  clear hb
  obtain ⟨u_a, x0_a, x1_a, x2_a, -⟩ := id S_a
  obtain ⟨u_b, x0_b, x1_b, x2_b, -⟩ := id S_b
  have hBz := hB8.size
  go_wp2_with fail
  all_goals (
    go_ret
    refine ⟨rb ?_, by go_grown⟩
    have hh := HH.out
    clear HH
    first
      | rfl
      | (exfalso
         obtain ⟨h1, h2, h3⟩ := hh
         simp_all
         done)
      | (exfalso
         obtain ⟨h1, h2, h3⟩ := hh
         simp_all
         omega)
      | (obtain ⟨h1, h2, h3⟩ := hh
         simp_all
         done)
      | (obtain ⟨h1, h2, h3⟩ := hh
         simp_all
         omega))
theorem walk (k1 n1 : Int) (s1 : ByteArray) (wk1 : (Lit.int .i64 k1).wf = true) (wn1 : (Lit.int .i64 n1).wf = true) (ws1 : s1.size ≤ maxLen) (k2 n2 : Int) (s2 : ByteArray) (wk2 : (Lit.int .i64 k2).wf = true) (wn2 : (Lit.int .i64 n2).wf = true) (ws2 : s2.size ≤ maxLen) (k3 n3 : Int) (s3 : ByteArray) (wk3 : (Lit.int .i64 k3).wf = true) (wn3 : (Lit.int .i64 n3).wf = true) (ws3 : s3.size ≤ maxLen) (w : World) :
    Calls Try.prog 7 #[.agg #[.int .i64 k1, .int .i64 n1, .string s1], .agg #[.int .i64 k2, .int .i64 n2, .string s2], .agg #[.int .i64 k3, .int .i64 n3, .string s3]] w fun e w' => e = .returned (.bool true) ∧ Below w.heap.size w w' := by
  have o1 := TR_ord (rawV k1 n1 s1) (rawV k2 n2 s2) (rawV k3 n3 s3)
  have z1 := ord_zero (rawV k1 n1 s1) (rawV k2 n2 s2)
  unfold TR at o1
  obtain ⟨u1, u2, u3, u4, u5, u6, u7, u8⟩ := o1
  refine core k1 n1 s1 (rng_of wk1) (rng_of wn1) ws1 k2 n2 s2 (rng_of wk2) (rng_of wn2) ws2 k3 n3 s3 (rng_of wk3) (rng_of wn3) ws3 _ _ _ _ _ _ _ _ _ _ _ _ _ (by omega) (by omega) rfl rfl rfl (raw_cmp _ _ _ _ _ _) (raw2 _ _ _ _ _ _) (raw_cmp _ _ _ _ _ _) (raw2 _ _ _ _ _ _) (raw_cmp _ _ _ _ _ _) (raw2 _ _ _ _ _ _) (raw_cmp _ _ _ _ _ _) (raw2 _ _ _ _ _ _) ?_ ?_ ?_ w
  · simp [cmp2, chk2, chk, nmb, ord, or3, sgn, e_list, e_size]
  · simp [chk2, chk, nmb, e_list, e_size]
  · refine ⟨u7, z1, ?_⟩
    omega

theorem lifted (os : Os) (started : os.Started) (H : Type) (enc : TypeId × Value → H) :
    ReturnsInHanded {} Try.checked os 7 .any (Rows.valueOrderSpec.pre6 enc Try.prog Try.f7 Rows.valueOrderRow.domain false) (Rows.valueOrderSpec.post enc Try.prog Try.f7 false true false false) := by
  refine returnsInHanded_of_change (C := Try.checked) Try.own started (by kernel_rfl) Try.func7
    (ChangeSpec.witness6 (enc := enc) (C := Try.checked) false ⟨#[], #[.agg #[.int .i64 0, .int .i64 0, .string ⟨#[]⟩], .agg #[.int .i64 0, .int .i64 0, .string ⟨#[]⟩], .agg #[.int .i64 0, .int .i64 0, .string ⟨#[]⟩]], []⟩ 8 (by kernel_rfl) (by kernel_rfl) (by kernel_rfl) (by kernel_rfl)) ?_
  intro W base args ds gs before hval0 hW hcnd _
  have hval : ∀ (j : Nat) t v, Try.f7.params[j]? = some t → args[j]? = some v → Value.okWide Try.prog W .any base t v := hval0
  have hW' := hW
  obtain ⟨p, q, hA0, hV, rfl, hfz, hnd⟩ := hW
  have hA : DataW.TrodAll enc Try.prog W 0 (fun _ => true) true Try.f7.params.toList args.toList ds p := hA0
  rw [Try.params7] at hA hval
  obtain ⟨v0, v1, v2, d0, d1, d2, p0, p1, p2, rfl, rfl, rfl, h0, h1, h2⟩ := trodAll_three hA
  obtain ⟨rfl, rfl⟩ := trodVars_none hV
  obtain ⟨c00, c01, c02, y00, y01, y02, m0, rfl, rfl, hp0, hy00, hy01, hy02⟩ := open_agg3 Try.underlying35 (by kernel_rfl) (by kernel_rfl) (hval 0 35 v0 rfl rfl) h0
  obtain ⟨k0, e00, rfl, wk0⟩ := DataW.trod_int Try.underlying3 hy00
  obtain ⟨n0, e01, rfl, wn0⟩ := DataW.trod_int Try.underlying3 hy01
  obtain ⟨s0, e02, rfl, ws0⟩ := DataW.trod_string Try.underlying9 hy02
  simp at e00 e01 e02
  subst e00 e01 e02
  obtain ⟨c10, c11, c12, y10, y11, y12, m1, rfl, rfl, hp1, hy10, hy11, hy12⟩ := open_agg3 Try.underlying35 (by kernel_rfl) (by kernel_rfl) (hval 1 35 v1 rfl rfl) h1
  obtain ⟨k1, e10, rfl, wk1⟩ := DataW.trod_int Try.underlying3 hy10
  obtain ⟨n1, e11, rfl, wn1⟩ := DataW.trod_int Try.underlying3 hy11
  obtain ⟨s1, e12, rfl, ws1⟩ := DataW.trod_string Try.underlying9 hy12
  simp at e10 e11 e12
  subst e10 e11 e12
  obtain ⟨c20, c21, c22, y20, y21, y22, m2, rfl, rfl, hp2, hy20, hy21, hy22⟩ := open_agg3 Try.underlying35 (by kernel_rfl) (by kernel_rfl) (hval 2 35 v2 rfl rfl) h2
  obtain ⟨k2, e20, rfl, wk2⟩ := DataW.trod_int Try.underlying3 hy20
  obtain ⟨n2, e21, rfl, wn2⟩ := DataW.trod_int Try.underlying3 hy21
  obtain ⟨s2, e22, rfl, ws2⟩ := DataW.trod_string Try.underlying9 hy22
  simp at e20 e21 e22
  subst e20 e21 e22
  clear hA0 hval0
  refine (walk k0 n0 s0 wk0 wn0 ws0 k1 n1 s1 wk1 wn1 ws1 k2 n2 s2 wk2 wn2 ws2 W).mono fun e W' ⟨he, hg⟩ => ?_
  subst he
  exact ⟨_, rfl, law_post (tb := 4) Try.laidOut (by kernel_rfl) (by kernel_rfl) Try.underlying4 rfl hW' hg rfl rfl rfl⟩

theorem proved : Rows.ValueOrderSaid :=
  OpenClaim.holds_of_wide 7 Try.f7 rfl rfl rfl rfl rfl rfl rfl ⟨rfl, rfl, rfl, rfl, rfl⟩ rfl rfl rfl rfl rfl (by kernel_rfl) Try.func7 (by kernel_rfl)
    (of_decide_eq_true (by kernel_rfl)) (by unfold Func.isWrapper; first | (rw [if_pos (by decide +kernel)]; kernel_rfl) | (rw [if_neg (by decide +kernel)]; exact ⟨rfl, rfl⟩))
    (fun os started H enc _ => lifted os started H enc)
#print axioms proved
end Go.Proofs.Ytconigmpiggihaa.lValueOrder
