/- A new tree is an empty one: the program answers as the document does. No condition. -/
import Derived.Test.YthoijpaoegojfaaBf
import Derived.Test.YthoijpaoegojfaaHn
namespace Go.Proofs.Ythoijpaoegojfaa.lTreeNews
open Go.ChangeShapes Go.WideShapes Go.ChangeAt Go.RowKit Go.Joins
open Go.ChangeMaps (open_string shut_string)
set_option linter.unusedVariables false
set_option linter.unusedSimpArgs false
set_option maxHeartbeats 400000

theorem walk (W : World) : Calls Try.prog 3 #[] W fun e w' => e = .returned (.bool true) ∧ Below W.heap.size W w' := by
  go_enter Try.func3, Try.ntmps3
  go_wp2_with fail
  refine (new_any _).mono ?_
  rintro e w1 ⟨v1, rfl, hr1, hb1⟩
  obtain ⟨a1, n1, c1, rfl⟩ := rt_shape hr1
  have HR1 := Lib.hid hr1
  have HB1 := Lib.hid hb1
  clear hr1 hb1
  go_wp2_with fail
  have hbA : Below w1.heap.size w1 (w1.alloc (.cells #[.slice a1 n1 c1, .int .i64 newTr.root] 24)) := (Below.refl _ _).alloc (Nat.le_refl _) _
  have x0 : (w1.alloc (.cells #[.slice a1 n1 c1, .int .i64 newTr.root] 24)).cell? ⟨w1.heap.size, 0, none⟩ = some (.slice a1 n1 c1) := by simp
  have x1 : (w1.alloc (.cells #[.slice a1 n1 c1, .int .i64 newTr.root] 24)).cell? ⟨w1.heap.size, 1, none⟩ = some (.int .i64 newTr.root) := by simp
  refine (empty_any _).mono ?_
  rintro e w2 ⟨v2, rfl, hr2, hb2⟩
  obtain ⟨a2, n2, c2, rfl⟩ := rt_shape hr2
  have HR2 := Lib.hid hr2
  have x0' := cell_below hb2 x0
  have x1' := cell_below hb2 x1
  have z2 := hb2.size
  simp only [World.size_alloc] at z2
  have hzz : w1.heap.size < w2.heap.size := by omega
  have HB2 := Lib.hid (into HB1.out (into hbA hb2))
  have HR1' := Lib.hid ((HR1.out.below hbA).below hb2)
  clear hr2 hb2 x0 x1 hbA HR1 HB1 z2
  go_wp2_with fail
  have hbC : Below w2.heap.size w2 (w2.alloc (.cells #[.slice a2 n2 c2, .int .i64 newTr.root] 24)) := (Below.refl _ _).alloc (Nat.le_refl _) _
  refine (sameTree_yes _ _ _ _ _ newTr (HR1'.out.below hbC) (HR2.out.below hbC)).mono ?_
  rintro e w3 ⟨rfl, hb3⟩
  have HB3 := Lib.hid (into HB2.out (into hbC hb3))
  clear hb3 hbC
  go_wp2
  go_ret
  exact ⟨rfl, HB3.out⟩

set_option maxRecDepth 100000 in
theorem lifted (os : Os) (started : os.Started) (H : Type) (enc : TypeId × Value → H) :
    ReturnsInHanded {} Try.checked os 3 .any (Rows.treeNewsSpec.pre6 enc Try.prog Try.f3 Rows.treeNewsRow.domain false) (Rows.treeNewsSpec.post enc Try.prog Try.f3 false true false false) := by
  refine returnsInHanded_of_change (C := Try.checked) Try.own started (by kernel_rfl) Try.func3
    (ChangeSpec.witness6 (enc := enc) (C := Try.checked) false ⟨#[], #[], []⟩ 8 (by kernel_rfl) (by kernel_rfl) (by kernel_rfl) (by kernel_rfl)) ?_
  intro W base args ds gs before hval0 hW hcnd _
  have hval : ∀ (j : Nat) t v, Try.f3.params[j]? = some t → args[j]? = some v → Value.okWide Try.prog W .any base t v := hval0
  have hW' := hW
  obtain ⟨p, q, hA0, hV, rfl, hfz, hnd⟩ := hW
  have hA : DataW.TrodAll enc Try.prog W 0 (fun _ => true) true Try.f3.params.toList args.toList ds p := hA0
  rw [Try.params3] at hA hval
  obtain ⟨rfl, rfl, rfl⟩ := trodAll_none hA
  obtain ⟨rfl, rfl⟩ := trodVars_none hV
  clear hA0 hval0
  refine (walk W).mono fun e W' ⟨he, hg⟩ => ?_
  subst he
  exact ⟨_, rfl, law_post (tb := 4) Try.laidOut (by kernel_rfl) (by kernel_rfl) Try.underlying4 rfl hW' hg rfl rfl rfl⟩

theorem proved : Rows.TreeNewsSaid :=
  OpenClaim.holds_of_wide 3 Try.f3 rfl rfl rfl rfl rfl rfl rfl ⟨rfl, rfl, rfl, rfl, rfl⟩ rfl rfl rfl rfl rfl (by kernel_rfl) Try.func3 (by kernel_rfl)
    (of_decide_eq_true (by kernel_rfl)) (by unfold Func.isWrapper; first | (rw [if_pos (by decide +kernel)]; kernel_rfl) | (rw [if_neg (by decide +kernel)]; exact ⟨rfl, rfl⟩))
    (fun os started H enc _ => lifted os started H enc)
#print axioms proved
end Go.Proofs.Ythoijpaoegojfaa.lTreeNews
