/- The kind of what an expression makes: the program answers as the document does, at every list of columns and all ops. The row lists the program's tables of marks, of words that are kept, of what each op works on, and of the words of kinds, constants and signs; the card ties them to the program's text. -/
import Derived.Test.YtfbmnkkpbcdjfaaDoorQz
import Derived.Test.YtfbmnkkpbcdjfaaDoorB2
import Derived.Test.YtfbmnkkpbcdjfaaDoorQo
import Derived.Test.YtfbmnkkpbcdjfaaDoorUj
import Derived.Test.YtfbmnkkpbcdjfaaDoorKc
namespace Go.Proofs.YtfbmnkkpbcdjfaaDoor.lExprKinds
open Go.ChangeShapes Go.WideShapes Go.ChangeAt Go.RowKit Go.Joins
open Go.ChangeMaps (open_string shut_string)
set_option linter.unusedVariables false
set_option linter.unusedSimpArgs false
set_option maxHeartbeats 400000

set_option maxHeartbeats 1000000 in
theorem walk (W : World) (hL : Tbs W) (m : Nat) (v : Value) (l : List Cq) (hr : Rd W 2 m v (ccs l)) (hz : m * 24 ≤ 140737488351232) (hs : ∀ o ∈ l, o.t.size ≤ maxLen) (n : Nat) (u : Value) (r : List Oq) (hu : Rd W 5 n u (ocs r)) (hz2 : n * 56 ≤ 140737488351232) (hw : ∀ o ∈ r, o.t.size ≤ maxLen) :
    Calls Tryd.prog 3 #[v, u] W fun e w' => e = .returned (.bool true) ∧ Below W.heap.size W w' := by
  have HX := Lib.hid hL
  have HR := Lib.hid hr
  have HU := Lib.hid hu
  have HS := Lib.hid hs
  have HW := Lib.hid hw
  have HC0 := Lib.hid (kcols_any m v l W hz hr)
  have HV0 := Lib.hid (fun (W1 : World) (h : Below W.heap.size W W1) => ops_any n u r W1 hz2 (hu.below h))
  clear hr hs hL hu hw
  obtain ⟨q, hqq⟩ : ∃ q, q = kindF l r := ⟨_, rfl⟩
  have HE := Lib.hid hqq
  obtain ⟨q1, q2⟩ := q
  clear hqq
  go_enter Tryd.func3, Tryd.ntmps3
  go_wp2_with fail
  refine HC0.out.mono ?_
  rintro e w1 ⟨v1, rfl, hown, hb1⟩
  have HR1 := Lib.hid (Rd.own hown)
  have HB1 := Lib.hid hb1
  clear hown hb1
  go_wp2_with fail
  refine (HV0.out w1 HB1.out).mono ?_
  rintro e w2 ⟨u2, rfl, hown, hb2⟩
  have HU2 := Lib.hid (Rd.own hown)
  have HR2 := Lib.hid (HR1.out.below hb2)
  have HB2 := Lib.hid (into HB1.out hb2)
  clear hown hb2
  go_wp2_with fail
  refine (kind_any w2 (HX.out.below HB2.out) m n v1 u2 l r HR2.out HS.out HU2.out HW.out).mono ?_
  rintro e w3 ⟨rfl, hb3⟩
  rw [← HE.out]
  have HB3 := Lib.hid (into HB2.out hb3)
  clear hb3
  go_wp2_with fail
  refine (dKindOf_any w3 m n v u l r (HR.out.below HB3.out) HS.out (HU.out.below HB3.out) HW.out).mono ?_
  rintro e w4 ⟨rfl, hb4⟩
  rw [← HE.out]
  have HB4 := Lib.hid (into HB3.out hb4)
  clear hb4
  go_wp2_with fail
  go_ret
  exact ⟨rfl, HB4.out⟩

set_option maxRecDepth 100000 in
theorem lifted (os : Os) (started : os.Started) (H : Type) (enc : TypeId × Value → H) :
    ReturnsInHanded {} Tryd.checked os 3 .any (fun w args => (Rows.exprKindsSpec.pre enc Tryd.prog Tryd.f3 [] false w args ∧ laidX w) ∧ sizedMet enc Tryd.prog Tryd.f3 (OpenSpec.ofChange Rows.exprKindsSpec) false w args) (Rows.exprKindsSpec.post enc Tryd.prog Tryd.f3 false true false false) := by
  refine returnsInHanded_of_change_and (C := Tryd.checked) (X := fun w _ => laidX w) (fun _ _ _ hh h => h.of_heap hh) Tryd.own started (by kernel_rfl) Tryd.func3
    (ChangeSpec.witness_at (enc := enc) (C := Tryd.checked) (os := os) (X := fun w _ => laidX w) false (tabledX os) #[.slice none 0 0, .slice none 0 0] 8 rfl (by kernel_rfl) (by kernel_rfl) (by kernel_rfl) (by kernel_rfl) (by kernel_rfl) (tabledX_laidX os _)) ?_
  intro W base args ds gs before hval0 hW hcnd hsz0 hL _
  have hsz : (DataW.weightsEach Tryd.prog (Tryd.f3.params.toList ++ Rows.exprKindsSpec.plain.varTypes Tryd.prog) (ds ++ gs)).all (· ≤ reachBytes) = true := hsz0
  have hval : ∀ (j : Nat) t v, Tryd.f3.params[j]? = some t → args[j]? = some v → Value.okWide Tryd.prog W .any base t v := hval0
  have hW' := hW
  obtain ⟨p, q, hA0, hV, rfl, hfz, hnd⟩ := hW
  have hA : DataW.TrodAll enc Tryd.prog W 0 (fun _ => true) true Tryd.f3.params.toList args.toList ds p := hA0
  rw [Tryd.params3] at hA hval hsz
  obtain ⟨v0, v1, d0, d1, p0, p1, rfl, rfl, rfl, h0, h1⟩ := trodAll_two hA
  obtain ⟨rfl, rfl⟩ := trodVars_none hV
  have sm0 : small Tryd.prog 22 d0 := fun q hq => by
    have := List.all_eq_true.1 hsz q (weights_each (j := 0) rfl rfl q hq)
    simpa using this
  obtain ⟨n0, l0, hr0, hz0, hs0⟩ := open_cols (hval 0 22 v0 rfl rfl) h0 sm0
  have sm1 : small Tryd.prog 23 d1 := fun q hq => by
    have := List.all_eq_true.1 hsz q (weights_each (j := 1) rfl rfl q hq)
    simpa using this
  obtain ⟨n1, l1, hr1, hz1, hs1⟩ := open_ops (hval 1 23 v1 rfl rfl) h1 sm1
  clear hA0 hval0
  refine (walk W (X_of hL) n0 v0 l0 hr0 hz0 hs0 n1 v1 l1 hr1 hz1 hs1).mono fun e W' ⟨he, hg⟩ => ?_
  subst he
  exact ⟨_, rfl, law_post (tb := 4) Tryd.laidOut (by kernel_rfl) (by kernel_rfl) Tryd.underlying4 rfl hW' hg rfl rfl rfl⟩

theorem bare : Rows.ExprKindsSaid :=
  OpenClaim.holds_of_wide 3 Tryd.f3 rfl rfl rfl rfl rfl rfl rfl ⟨rfl, rfl, rfl, rfl, rfl⟩ rfl rfl rfl rfl rfl (by kernel_rfl) Tryd.func3 (by kernel_rfl)
    (of_decide_eq_true (by kernel_rfl)) (by unfold Func.isWrapper; first | (rw [if_pos (by decide +kernel)]; kernel_rfl) | (rw [if_neg (by decide +kernel)]; exact ⟨rfl, rfl⟩))
    (fun os started H enc _ => lifted os started H enc)
/-- The card: the row's one listed variable is tied to the program's text. -/
theorem proved : Rows.ExprKindsCardSaid :=
  Claim7.holds_tied_plain_at .later [] [.data, .data, .data, .data, .data, .data] true _ false bare (fun _ h => by cases h) (by kernel_rfl) (fun _ h => by cases h) exprKinds_row_tie rfl ⟨rfl, rfl⟩ (by kernel_rfl) rfl
    (fun f fn hf hfn => by
      obtain rfl : f = 3 := Option.some.inj ((show Tryd.prog.funcNamed "padlock/padlocklaw.ExprKinds" = some 3 by kernel_rfl).symm.trans hf) |>.symm
      obtain rfl : fn = Tryd.f3 := (Option.some.inj (Tryd.func3.symm.trans hfn)).symm
      refine ⟨by kernel_rfl, fun j t ht => ?_⟩
      rw [Tryd.params3] at ht
      rcases j with _ | _ | j <;> simp at ht <;> subst ht <;> kernel_rfl)
    (by kernel_rfl)
#print axioms proved
end Go.Proofs.YtfbmnkkpbcdjfaaDoor.lExprKinds
