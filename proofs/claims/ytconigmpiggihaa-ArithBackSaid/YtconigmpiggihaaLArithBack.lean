/- What was added can be taken away if it fits, and is told when it does not: at every two numbers. No condition. -/
import Derived.Test.YtconigmpiggihaaFr
import Derived.Test.YtconigmpiggihaaW8
import Derived.Test.YtconigmpiggihaaK1
namespace Go.Proofs.Ytconigmpiggihaa.lArithBack
open Go.ChangeShapes Go.WideShapes Go.ChangeAt Go.RowKit Go.Joins
open Go.ChangeMaps (open_string shut_string)
set_option linter.unusedVariables false
set_option linter.unusedSimpArgs false
set_option maxHeartbeats 400000

theorem coreA (a b : Int) (pb : 0 < b) (po : wrap64 (9223372036854775807 - b) < a) (E1 : two 8 ⟨2, a, ⟨#[]⟩⟩ ⟨2, b, ⟨#[]⟩⟩ = (⟨0, 0, ⟨#[]⟩⟩, 5)) (w : World) :
    Calls Try.prog 10 #[.int .i64 a, .int .i64 b] w fun e w' => e = .returned (.bool true) ∧ Below w.heap.size w w' := by
  go_enter Try.func10, Try.ntmps10
  go_wp2_with fail
  refine (two_any 8 _ _ _ _ _ _ _).mono ?_
  rintro e w1 ⟨rfl, hb⟩
  obtain ⟨hz1, hb1, S_x, S_y⟩ := behind1b hb
  have hB1 : Below w.heap.size w w1 := hb1
  clear hb
  obtain ⟨u_x, x0_x, x1_x, x2_x, -⟩ := id S_x
  obtain ⟨u_y, x0_y, x1_y, x2_y, -⟩ := id S_y
  have hBz := hB1.size
  go_wp2_with fail
  go_ret
  exact ⟨rb (by simp), by go_grown⟩

theorem coreB (a b : Int) (pb : 0 < b) (po : a ≤ wrap64 (9223372036854775807 - b)) (pb0 : 0 ≤ b) (E1 : two 8 ⟨2, a, ⟨#[]⟩⟩ ⟨2, b, ⟨#[]⟩⟩ = (⟨2, wrap64 (a + b), ⟨#[]⟩⟩, 0)) (E2 : two 9 ⟨2, wrap64 (a + b), ⟨#[]⟩⟩ ⟨2, b, ⟨#[]⟩⟩ = (⟨2, a, ⟨#[]⟩⟩, 0)) (w : World) :
    Calls Try.prog 10 #[.int .i64 a, .int .i64 b] w fun e w' => e = .returned (.bool true) ∧ Below w.heap.size w w' := by
  go_enter Try.func10, Try.ntmps10
  go_wp2_with fail
  refine (two_any 8 _ _ _ _ _ _ _).mono ?_
  rintro e w1 ⟨rfl, hb⟩
  obtain ⟨hz1, hb1, S_x, S_y⟩ := behind1b hb
  have hB1 : Below w.heap.size w w1 := hb1
  clear hb
  obtain ⟨u_x, x0_x, x1_x, x2_x, -⟩ := id S_x
  obtain ⟨u_y, x0_y, x1_y, x2_y, -⟩ := id S_y
  go_wp2_with fail
  clear u_x x0_x x1_x x2_x
  clear u_y x0_y x1_y x2_y
  refine (two_any 9 _ _ _ _ _ _ _).mono ?_
  rintro e w2 ⟨rfl, hb⟩
  obtain ⟨hz2, hb1, S_s⟩ := behind1 hb
  have hB2 : Below w.heap.size w w2 := into hB1 hb1
  replace S_x := (S_x.alloc _).below hb
  replace S_y := (S_y.alloc _).below hb
  clear hb hb1
  obtain ⟨u_x, x0_x, x1_x, x2_x, -⟩ := id S_x
  obtain ⟨u_y, x0_y, x1_y, x2_y, -⟩ := id S_y
  obtain ⟨u_s, x0_s, x1_s, x2_s, -⟩ := id S_s
  have hBz := hB2.size
  go_wp2_with fail
  go_ret
  exact ⟨rb (by simp), by go_grown⟩

theorem coreC (a b : Int) (pd : decide (0 < b) = false) (pb : b < 0) (po : a < wrap64 (-9223372036854775808 - b)) (pb0 : b ≤ 0) (E1 : two 8 ⟨2, a, ⟨#[]⟩⟩ ⟨2, b, ⟨#[]⟩⟩ = (⟨0, 0, ⟨#[]⟩⟩, 5)) (w : World) :
    Calls Try.prog 10 #[.int .i64 a, .int .i64 b] w fun e w' => e = .returned (.bool true) ∧ Below w.heap.size w w' := by
  go_enter Try.func10, Try.ntmps10
  go_wp2_with fail
  refine (two_any 8 _ _ _ _ _ _ _).mono ?_
  rintro e w1 ⟨rfl, hb⟩
  obtain ⟨hz1, hb1, S_x, S_y⟩ := behind1b hb
  have hB1 : Below w.heap.size w w1 := hb1
  clear hb
  obtain ⟨u_x, x0_x, x1_x, x2_x, -⟩ := id S_x
  obtain ⟨u_y, x0_y, x1_y, x2_y, -⟩ := id S_y
  have hBz := hB1.size
  go_wp2_with fail
  go_ret
  exact ⟨rb (by simp), by go_grown⟩

theorem coreD (a b : Int) (pd : decide (0 < b) = false) (pb : b < 0) (po : wrap64 (-9223372036854775808 - b) ≤ a) (pb0 : b ≤ 0) (E1 : two 8 ⟨2, a, ⟨#[]⟩⟩ ⟨2, b, ⟨#[]⟩⟩ = (⟨2, wrap64 (a + b), ⟨#[]⟩⟩, 0)) (E2 : two 9 ⟨2, wrap64 (a + b), ⟨#[]⟩⟩ ⟨2, b, ⟨#[]⟩⟩ = (⟨2, a, ⟨#[]⟩⟩, 0)) (w : World) :
    Calls Try.prog 10 #[.int .i64 a, .int .i64 b] w fun e w' => e = .returned (.bool true) ∧ Below w.heap.size w w' := by
  go_enter Try.func10, Try.ntmps10
  go_wp2_with fail
  refine (two_any 8 _ _ _ _ _ _ _).mono ?_
  rintro e w1 ⟨rfl, hb⟩
  obtain ⟨hz1, hb1, S_x, S_y⟩ := behind1b hb
  have hB1 : Below w.heap.size w w1 := hb1
  clear hb
  obtain ⟨u_x, x0_x, x1_x, x2_x, -⟩ := id S_x
  obtain ⟨u_y, x0_y, x1_y, x2_y, -⟩ := id S_y
  go_wp2_with fail
  clear u_x x0_x x1_x x2_x
  clear u_y x0_y x1_y x2_y
  refine (two_any 9 _ _ _ _ _ _ _).mono ?_
  rintro e w2 ⟨rfl, hb⟩
  obtain ⟨hz2, hb1, S_s⟩ := behind1 hb
  have hB2 : Below w.heap.size w w2 := into hB1 hb1
  replace S_x := (S_x.alloc _).below hb
  replace S_y := (S_y.alloc _).below hb
  clear hb hb1
  obtain ⟨u_x, x0_x, x1_x, x2_x, -⟩ := id S_x
  obtain ⟨u_y, x0_y, x1_y, x2_y, -⟩ := id S_y
  obtain ⟨u_s, x0_s, x1_s, x2_s, -⟩ := id S_s
  have hBz := hB2.size
  go_wp2_with fail
  go_ret
  exact ⟨rb (by simp), by go_grown⟩

theorem coreE (a b : Int) (pd : decide (0 < b) = false) (pe : decide (b < 0) = false) (pb0 : b ≤ 0) (pb1 : 0 ≤ b) (E1 : two 8 ⟨2, a, ⟨#[]⟩⟩ ⟨2, b, ⟨#[]⟩⟩ = (⟨2, wrap64 (a + b), ⟨#[]⟩⟩, 0)) (E2 : two 9 ⟨2, wrap64 (a + b), ⟨#[]⟩⟩ ⟨2, b, ⟨#[]⟩⟩ = (⟨2, a, ⟨#[]⟩⟩, 0)) (w : World) :
    Calls Try.prog 10 #[.int .i64 a, .int .i64 b] w fun e w' => e = .returned (.bool true) ∧ Below w.heap.size w w' := by
  go_enter Try.func10, Try.ntmps10
  go_wp2_with fail
  refine (two_any 8 _ _ _ _ _ _ _).mono ?_
  rintro e w1 ⟨rfl, hb⟩
  obtain ⟨hz1, hb1, S_x, S_y⟩ := behind1b hb
  have hB1 : Below w.heap.size w w1 := hb1
  clear hb
  obtain ⟨u_x, x0_x, x1_x, x2_x, -⟩ := id S_x
  obtain ⟨u_y, x0_y, x1_y, x2_y, -⟩ := id S_y
  go_wp2_with fail
  clear u_x x0_x x1_x x2_x
  clear u_y x0_y x1_y x2_y
  refine (two_any 9 _ _ _ _ _ _ _).mono ?_
  rintro e w2 ⟨rfl, hb⟩
  obtain ⟨hz2, hb1, S_s⟩ := behind1 hb
  have hB2 : Below w.heap.size w w2 := into hB1 hb1
  replace S_x := (S_x.alloc _).below hb
  replace S_y := (S_y.alloc _).below hb
  clear hb hb1
  obtain ⟨u_x, x0_x, x1_x, x2_x, -⟩ := id S_x
  obtain ⟨u_y, x0_y, x1_y, x2_y, -⟩ := id S_y
  obtain ⟨u_s, x0_s, x1_s, x2_s, -⟩ := id S_s
  have hBz := hB2.size
  go_wp2_with fail
  go_ret
  exact ⟨rb (by simp), by go_grown⟩

theorem fits (a b : Int) (ha : Rng a) (hb : Rng b) (h : Rng (a + b)) : two 8 ⟨2, a, ⟨#[]⟩⟩ ⟨2, b, ⟨#[]⟩⟩ = (⟨2, wrap64 (a + b), ⟨#[]⟩⟩, 0) ∧ two 9 ⟨2, wrap64 (a + b), ⟨#[]⟩⟩ ⟨2, b, ⟨#[]⟩⟩ = (⟨2, a, ⟨#[]⟩⟩, 0) := by
  have e := wrap_of h
  have r8 := (cpt8 a b ha hb).1
  have r9 := (cpt9 (a + b) b h hb).1
  have e9 : a + b - b = a := by omega
  rw [e9] at r9
  have wa := wrap_of ha
  have v8 : (cpt 8 a b).1 = wrap64 (a + b) := rfl
  have v9 : (cpt 9 (a + b) b).1 = wrap64 (a + b - b) := rfl
  rw [e9] at v9
  constructor
  · simp [two, reck, chk2, chk, nmb, known, unk, e_list, e_size, r8, h, v8]
  · rw [e]
    simp [two, reck, chk2, chk, nmb, known, unk, e_list, e_size, r9, ha, v9, wa]
theorem over (a b : Int) (ha : Rng a) (hb : Rng b) (h : ¬ Rng (a + b)) : two 8 ⟨2, a, ⟨#[]⟩⟩ ⟨2, b, ⟨#[]⟩⟩ = (⟨0, 0, ⟨#[]⟩⟩, 5) := by
  have r8 := (cpt8 a b ha hb).1
  simp [two, reck, chk2, chk, nmb, known, unk, nul, e_list, e_size, r8, h]
theorem walk (a : Int) (wa : (Lit.int .i64 a).wf = true) (b : Int) (wb : (Lit.int .i64 b).wf = true) (w : World) :
    Calls Try.prog 10 #[.int .i64 a, .int .i64 b] w fun e w' => e = .returned (.bool true) ∧ Below w.heap.size w w' := by
  have ha := rng_of wa
  have hb := rng_of wb
  have ha' := ha
  have hb' := hb
  unfold Rng at ha' hb'
  by_cases h : Rng (a + b)
  · have g := fits a b ha hb h
    unfold Rng at h
    by_cases p : 0 < b
    · exact coreB a b p (by unfold wrap64; omega) (by omega) g.1 g.2 w
    · by_cases q : b < 0
      · exact coreD a b (by simp; omega) q (by unfold wrap64; omega) (by omega) g.1 g.2 w
      · exact coreE a b (by simp; omega) (by simp; omega) (by omega) (by omega) g.1 g.2 w
  · have g := over a b ha hb h
    unfold Rng at h
    by_cases p : 0 < b
    · exact coreA a b p (by unfold wrap64; omega) g w
    · exact coreC a b (by simp; omega) (by omega) (by unfold wrap64; omega) (by omega) g w

theorem lifted (os : Os) (started : os.Started) (H : Type) (enc : TypeId × Value → H) :
    ReturnsInHanded {} Try.checked os 10 .any (Rows.arithBackSpec.pre6 enc Try.prog Try.f10 Rows.arithBackRow.domain false) (Rows.arithBackSpec.post enc Try.prog Try.f10 false true false false) := by
  refine returnsInHanded_of_change (C := Try.checked) Try.own started (by kernel_rfl) Try.func10
    (ChangeSpec.witness6 (enc := enc) (C := Try.checked) false ⟨#[], #[.int .i64 0, .int .i64 0], []⟩ 8 (by kernel_rfl) (by kernel_rfl) (by kernel_rfl) (by kernel_rfl)) ?_
  intro W base args ds gs before hval0 hW hcnd _
  have hval : ∀ (j : Nat) t v, Try.f10.params[j]? = some t → args[j]? = some v → Value.okWide Try.prog W .any base t v := hval0
  have hW' := hW
  obtain ⟨p, q, hA0, hV, rfl, hfz, hnd⟩ := hW
  have hA : DataW.TrodAll enc Try.prog W 0 (fun _ => true) true Try.f10.params.toList args.toList ds p := hA0
  rw [Try.params10] at hA hval
  obtain ⟨v0, v1, d0, d1, p0, p1, rfl, rfl, rfl, h0, h1⟩ := trodAll_two hA
  obtain ⟨rfl, rfl⟩ := trodVars_none hV
  obtain ⟨a0, rfl, rfl, rfl, w0⟩ := open_int Try.underlying3 (hval 0 3 v0 rfl rfl) h0
  obtain ⟨a1, rfl, rfl, rfl, w1⟩ := open_int Try.underlying3 (hval 1 3 v1 rfl rfl) h1
  clear hA0 hval0
  refine (walk a0 w0 a1 w1 W).mono fun e W' ⟨he, hg⟩ => ?_
  subst he
  exact ⟨_, rfl, law_post (tb := 4) Try.laidOut (by kernel_rfl) (by kernel_rfl) Try.underlying4 rfl hW' hg rfl rfl rfl⟩

theorem proved : Rows.ArithBackSaid :=
  OpenClaim.holds_of_wide 10 Try.f10 rfl rfl rfl rfl rfl rfl rfl ⟨rfl, rfl, rfl, rfl, rfl⟩ rfl rfl rfl rfl rfl (by kernel_rfl) Try.func10 (by kernel_rfl)
    (of_decide_eq_true (by kernel_rfl)) (by unfold Func.isWrapper; first | (rw [if_pos (by decide +kernel)]; kernel_rfl) | (rw [if_neg (by decide +kernel)]; exact ⟨rfl, rfl⟩))
    (fun os started H enc _ => lifted os started H enc)
#print axioms proved
end Go.Proofs.Ytconigmpiggihaa.lArithBack
