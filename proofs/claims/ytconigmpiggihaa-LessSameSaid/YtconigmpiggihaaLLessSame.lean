/- Of two values of a kind one is less, or they are equal: at every two raw values. No condition. -/
import Derived.Test.YtconigmpiggihaaFr
import Derived.Test.YtconigmpiggihaaW8
import Derived.Test.YtconigmpiggihaaW0
import Derived.Test.YtconigmpiggihaaK3
namespace Go.Proofs.Ytconigmpiggihaa.lLessSame
open Go.ChangeShapes Go.WideShapes Go.ChangeAt Go.RowKit Go.Joins
open Go.ChangeMaps (open_string shut_string)
set_option linter.unusedVariables false
set_option linter.unusedSimpArgs false
set_option maxHeartbeats 400000

theorem core (k1 n1 : Int) (s1 : ByteArray) (hk1 : Rng k1) (hn1 : Rng n1) (hs1 : Hid (s1.size ≤ maxLen)) (k2 n2 : Int) (s2 : ByteArray) (hk2 : Rng k2) (hn2 : Rng n2) (hs2 : Hid (s2.size ≤ maxLen)) (a0 a1 : Int) (a2 : ByteArray) (b0 b1 : Int) (b2 : ByteArray) (l0 l1 : Int) (l2 : ByteArray) (g0 g1 : Int) (g2 : ByteArray) (q0 q1 : Int) (q2 : ByteArray) (T1 : rawV k1 n1 s1 = ⟨a0, a1, a2⟩) (T2 : rawV k1 n2 s2 = ⟨b0, b1, b2⟩) (E1 : two 7 ⟨a0, a1, a2⟩ ⟨b0, b1, b2⟩ = (⟨l0, l1, l2⟩, 0)) (E2 : two 7 ⟨b0, b1, b2⟩ ⟨a0, a1, a2⟩ = (⟨g0, g1, g2⟩, 0)) (E3 : two 6 ⟨a0, a1, a2⟩ ⟨b0, b1, b2⟩ = (⟨q0, q1, q2⟩, 0)) (C9 : chk 9 0 ⟨#[]⟩ = 2)
    (HH : Hid ((a0 = 0 → l0 = 0 ∧ g0 = 0 ∧ q0 = 0) ∧ (a0 ≠ 0 → l1 + g1 + q1 = 1 ∧ 0 ≤ l1 ∧ 0 ≤ g1 ∧ 0 ≤ q1)))  (l_1 : 0 ≤ l1) (l_2 : l1 ≤ 1) (g_1 : 0 ≤ g1) (g_2 : g1 ≤ 1) (q_1 : 0 ≤ q1) (q_2 : q1 ≤ 1) (w : World) :
    Calls Try.prog 13 #[.agg #[.int .i64 k1, .int .i64 n1, .string s1], .agg #[.int .i64 k2, .int .i64 n2, .string s2]] w fun e w' => e = .returned (.bool true) ∧ Below w.heap.size w w' := by
  go_enter Try.func13, Try.ntmps13
  go_wp2_with fail
  refine (val_any _ _ _ _ hk1 hn1 hs1.out).mono ?_
  rintro e w1 ⟨rfl, hb⟩
  obtain ⟨hz1, hb1, S_bx, S_by⟩ := behind1b hb
  have hB1 : Below w.heap.size w w1 := hb1
  clear hb
  obtain ⟨u_bx, x0_bx, x1_bx, x2_bx, -⟩ := id S_bx
  obtain ⟨u_by, x0_by, x1_by, x2_by, y0_by, y1_by, y2_by⟩ := id S_by
  go_wp2_with fail
  refine (val_any _ _ _ _ hk1 hn2 hs2.out).mono ?_
  rintro e w2 ⟨rfl, hb⟩
  obtain ⟨hz2, -, S_a⟩ := behind1 hb
  simp only [World.size_setCell] at hz2 S_a
  have hB2 : Below w.heap.size w w2 := into (by go_grown) hb
  clear hb hb1 S_bx S_by u_bx x0_bx x1_bx x2_bx u_by x0_by x1_by x2_by y0_by y1_by y2_by
  obtain ⟨u_a, x0_a, x1_a, x2_a, -⟩ := id S_a
  go_wp2_with fail
  clear u_a x0_a x1_a x2_a
  refine (two_any 7 _ _ _ _ _ _ _).mono ?_
  rintro e w3 ⟨rfl, hb⟩
  obtain ⟨hz3, hb1, S_b⟩ := behind1 hb
  have hB3 : Below w.heap.size w w3 := into hB2 hb1
  replace S_a := (S_a.alloc _).below hb
  clear hb hb1
  obtain ⟨u_a, x0_a, x1_a, x2_a, -⟩ := id S_a
  obtain ⟨u_b, x0_b, x1_b, x2_b, -⟩ := id S_b
  go_wp2_with fail
  clear u_a x0_a x1_a x2_a
  clear u_b x0_b x1_b x2_b
  refine (two_any 7 _ _ _ _ _ _ _).mono ?_
  rintro e w4 ⟨rfl, hb⟩
  obtain ⟨hz4, hb1, S_l⟩ := behind1 hb
  have hB4 : Below w.heap.size w w4 := into hB3 hb1
  replace S_a := (S_a.alloc _).below hb
  replace S_b := (S_b.alloc _).below hb
  clear hb hb1
  obtain ⟨u_a, x0_a, x1_a, x2_a, -⟩ := id S_a
  obtain ⟨u_b, x0_b, x1_b, x2_b, -⟩ := id S_b
  go_wp2_with fail
  clear u_a x0_a x1_a x2_a
  clear u_b x0_b x1_b x2_b
  refine (two_any 6 _ _ _ _ _ _ _).mono ?_
  rintro e w5 ⟨rfl, hb⟩
  obtain ⟨hz5, hb1, S_g⟩ := behind1 hb
  have hB5 : Below w.heap.size w w5 := into hB4 hb1
  replace S_a := (S_a.alloc _).below hb
  replace S_b := (S_b.alloc _).below hb
  replace S_l := (S_l.alloc _).below hb
  clear hb hb1
  obtain ⟨u_a, x0_a, x1_a, x2_a, -⟩ := id S_a
  obtain ⟨u_b, x0_b, x1_b, x2_b, -⟩ := id S_b
  obtain ⟨u_l, x0_l, x1_l, x2_l, -⟩ := id S_l
  obtain ⟨u_g, x0_g, x1_g, x2_g, -⟩ := id S_g
  have hBz := hB5.size
  go_wp2_with fail
  all_goals (try (
    refine (chk_any _ _ _ _).mono ?_
    rintro e w6 ⟨rfl, hb⟩
    have hB6 : Below w.heap.size w w6 := into (by go_grown) hb
    have hBy := hB6.size
    clear hb
    go_wp2_with fail))
  all_goals (
    go_ret
    refine ⟨rb ?_, by go_grown⟩
    have hh := HH.out
    clear HH
    first
      | rfl
      | (exfalso
         simp_all
         done)
      | (exfalso
         simp_all
         omega)
      | (simp_all
         done)
      | (simp_all
         omega))

theorem pure2 (A B : V) (hA : chk A.k A.n A.t = 0) (hB : chk B.k B.n B.t = 0) (hk : A.k = B.k) : ∃ l g q : V, two 7 A B = (l, 0) ∧ two 7 B A = (g, 0) ∧ two 6 A B = (q, 0) ∧
    ((A.k = 0 → l.k = 0 ∧ g.k = 0 ∧ q.k = 0) ∧ (A.k ≠ 0 → l.n + g.n + q.n = 1 ∧ 0 ≤ l.n ∧ 0 ≤ g.n ∧ 0 ≤ q.n)) ∧ 0 ≤ l.n ∧ l.n ≤ 1 ∧ 0 ≤ g.n ∧ g.n ≤ 1 ∧ 0 ≤ q.n ∧ q.n ≤ 1 := by
  have c1 : chk2 A B = 0 := by unfold chk2; rw [if_pos hA, hB]
  have c2 : chk2 B A = 0 := by unfold chk2; rw [if_pos hB, hA]
  have t := TR_ord A B A
  unfold TR at t
  refine ⟨(two 7 A B).1, (two 7 B A).1, (two 6 A B).1, ?_⟩
  by_cases h0 : A.k = 0
  · have h1 : B.k = 0 := by omega
    simp [two, c1, c2, hold, unk, h0, h1, nul]
  · have h1 : ¬ B.k = 0 := by omega
    have e1 : two 7 A B = (tru (decide (ord A B < 0)), 0) := by simp [two, c1, hold, unk, h0, h1, hk]
    have e2 : two 7 B A = (tru (decide (ord B A < 0)), 0) := by simp [two, c2, hold, unk, h0, h1, hk]
    have e3 : two 6 A B = (tru (ord A B == 0), 0) := by simp [two, c1, hold, unk, h0, h1, hk]
    rw [e1, e2, e3]
    generalize ord A B = x at *
    generalize ord B A = y at *
    have hx : x = -1 ∨ x = 0 ∨ x = 1 := by omega
    have hy : y = -x := by omega
    rcases hx with rfl | rfl | rfl <;> subst hy <;> simp [tru, h0]

theorem walk (k1 n1 : Int) (s1 : ByteArray) (wk1 : (Lit.int .i64 k1).wf = true) (wn1 : (Lit.int .i64 n1).wf = true) (ws1 : s1.size ≤ maxLen) (k2 n2 : Int) (s2 : ByteArray) (wk2 : (Lit.int .i64 k2).wf = true) (wn2 : (Lit.int .i64 n2).wf = true) (ws2 : s2.size ≤ maxLen) (w : World) :
    Calls Try.prog 13 #[.agg #[.int .i64 k1, .int .i64 n1, .string s1], .agg #[.int .i64 k2, .int .i64 n2, .string s2]] w fun e w' => e = .returned (.bool true) ∧ Below w.heap.size w w' := by
  have hk : (rawV k1 n1 s1).k = (rawV k1 n2 s2).k := by
    unfold rawV
    by_cases h1 : pck k1 4 = 1
    · simp [h1]
    by_cases h2 : pck k1 4 = 2
    · simp [h2]
    by_cases h3 : pck k1 4 = 3
    · simp [h3]
    simp [h1, h2, h3]
  obtain ⟨l, g, q, p1, p2, p3, p4, p5, p6, p7, p8, p9, p10⟩ := pure2 _ _ (raw_ok k1 n1 s1) (raw_ok k1 n2 s2) hk
  exact core k1 n1 s1 (rng_of wk1) (rng_of wn1) ws1 k2 n2 s2 (rng_of wk2) (rng_of wn2) ws2 _ _ _ _ _ _ _ _ _ _ _ _ _ _ _  rfl rfl p1 p2 p3 (by simp [chk]) p4 p5 p6 p7 p8 p9 p10 w

theorem lifted (os : Os) (started : os.Started) (H : Type) (enc : TypeId × Value → H) :
    ReturnsInHanded {} Try.checked os 13 .any (Rows.lessSameSpec.pre6 enc Try.prog Try.f13 Rows.lessSameRow.domain false) (Rows.lessSameSpec.post enc Try.prog Try.f13 false true false false) := by
  refine returnsInHanded_of_change (C := Try.checked) Try.own started (by kernel_rfl) Try.func13
    (ChangeSpec.witness6 (enc := enc) (C := Try.checked) false ⟨#[], #[.agg #[.int .i64 0, .int .i64 0, .string ⟨#[]⟩], .agg #[.int .i64 0, .int .i64 0, .string ⟨#[]⟩]], []⟩ 8 (by kernel_rfl) (by kernel_rfl) (by kernel_rfl) (by kernel_rfl)) ?_
  intro W base args ds gs before hval0 hW hcnd _
  have hval : ∀ (j : Nat) t v, Try.f13.params[j]? = some t → args[j]? = some v → Value.okWide Try.prog W .any base t v := hval0
  have hW' := hW
  obtain ⟨p, q, hA0, hV, rfl, hfz, hnd⟩ := hW
  have hA : DataW.TrodAll enc Try.prog W 0 (fun _ => true) true Try.f13.params.toList args.toList ds p := hA0
  rw [Try.params13] at hA hval
  obtain ⟨v0, v1, d0, d1, p0, p1, rfl, rfl, rfl, h0, h1⟩ := trodAll_two hA
  obtain ⟨rfl, rfl⟩ := trodVars_none hV
  obtain ⟨c00, c01, c02, y00, y01, y02, m0, rfl, rfl, hp0, hy00, hy01, hy02⟩ := open_agg3 Try.underlying35 (by kernel_rfl) (by kernel_rfl) (hval 0 35 v0 rfl rfl) h0
  obtain ⟨k0, e00, rfl, wk0⟩ := DataW.trod_int Try.underlying3 hy00
  obtain ⟨n0, e01, rfl, wn0⟩ := DataW.trod_int Try.underlying3 hy01
  obtain ⟨s0, e02, rfl, ws0⟩ := DataW.trod_string Try.underlying9 hy02
  simp at e00 e01 e02
  subst e00 e01 e02
  obtain ⟨c10, c11, c12, y10, y11, y12, m1, rfl, rfl, hp1, hy10, hy11, hy12⟩ := open_agg3 Try.underlying35 (by kernel_rfl) (by kernel_rfl) (hval 1 35 v1 rfl rfl) h1
  obtain ⟨k1, e10, rfl, wk1⟩ := DataW.trod_int Try.underlying3 hy10
  obtain ⟨n1, e11, rfl, wn1⟩ := DataW.trod_int Try.underlying3 hy11
  obtain ⟨s1, e12, rfl, ws1⟩ := DataW.trod_string Try.underlying9 hy12
  simp at e10 e11 e12
  subst e10 e11 e12
  clear hA0 hval0
  refine (walk k0 n0 s0 wk0 wn0 ws0 k1 n1 s1 wk1 wn1 ws1 W).mono fun e W' ⟨he, hg⟩ => ?_
  subst he
  exact ⟨_, rfl, law_post (tb := 4) Try.laidOut (by kernel_rfl) (by kernel_rfl) Try.underlying4 rfl hW' hg rfl rfl rfl⟩

theorem proved : Rows.LessSameSaid :=
  OpenClaim.holds_of_wide 13 Try.f13 rfl rfl rfl rfl rfl rfl rfl ⟨rfl, rfl, rfl, rfl, rfl⟩ rfl rfl rfl rfl rfl (by kernel_rfl) Try.func13 (by kernel_rfl)
    (of_decide_eq_true (by kernel_rfl)) (by unfold Func.isWrapper; first | (rw [if_pos (by decide +kernel)]; kernel_rfl) | (rw [if_neg (by decide +kernel)]; exact ⟨rfl, rfl⟩))
    (fun os started H enc _ => lifted os started H enc)
#print axioms proved
end Go.Proofs.Ytconigmpiggihaa.lLessSame
