/- The bounds of an expression: the program answers as the document does, at every list of columns and all ops, and leaves the ops as they were. The row lists the program's tables of marks, of words that are kept, of what each op works on, and of the words of kinds, constants and signs; the card ties them to the program's text. -/
import Derived.Test.YtmfkdpfcpdmkdaaGreatDoorQzk
import Derived.Test.YtmfkdpfcpdmkdaaGreatDoorB2k
import Derived.Test.YtmfkdpfcpdmkdaaGreatDoorQok
import Derived.Test.YtmfkdpfcpdmkdaaGreatDoorUkk
import Derived.Test.YtmfkdpfcpdmkdaaGreatDoorFvk
namespace Go.Proofs.YtmfkdpfcpdmkdaaGreatDoor.lExprBounds
open Go.ChangeShapes Go.WideShapes Go.ChangeAt Go.RowKit Go.Joins
open Go.ChangeMaps (open_string shut_string)
set_option linter.unusedVariables false
set_option linter.unusedSimpArgs false
set_option maxHeartbeats 400000

set_option maxHeartbeats 2000000
set_option maxRecDepth 100000
open Go.Proofs.YtmfkdpfcpdmkdaaGreatDoor.bd
theorem in_rng {n : Int} (h : (Lit.int .i64 n).wf = true) : -9223372036854775808 ≤ n ∧ n ≤ 9223372036854775807 := by
  simp only [Lit.wf, Bool.and_eq_true, decide_eq_true_eq] at h
  exact ⟨by have := h.1; simp [IntKind.min, IntKind.signed, IntKind.bits] at this; omega, by have := h.2; simp [IntKind.max, IntKind.signed, IntKind.bits] at this; omega⟩
theorem walk (W : World) (hL : Tbs W) (m : Nat) (v : Value) (l : List Cq) (hr : Rd W 2 m v (ccs l)) (hz : m * 24 ≤ 140737488351232) (hs : ∀ o ∈ l, o.t.size ≤ maxLen) (n : Nat) (u : Value) (p : List Oq) (hu : Rd W 5 n u (ocs p)) (hz2 : n * 56 ≤ 140737488351232) (hws : ∀ o ∈ p, (Lit.int .i64 o.v.n).wf = true ∧ o.t.size ≤ maxLen) :
    Calls Tryz.prog 3 #[v, u] W fun e w' => e = .returned (.bool true) ∧ Below W.heap.size W w' := by
  have HX := Lib.hid hL
  have HR := Lib.hid hr
  have HU := Lib.hid hu
  have HS := Lib.hid hs
  have HPN : Hid ((∀ o ∈ p, o.t.size ≤ maxLen) ∧ ∀ o ∈ p, -9223372036854775808 ≤ o.v.n ∧ o.v.n ≤ 9223372036854775807) := Lib.hid ⟨fun o ho => (hws o ho).2, fun o ho => in_rng (hws o ho).1⟩
  have HP0 := Lib.hid (ops_any n u p W hz2 hu)
  have HC0 := Lib.hid (fun (W1 : World) (h : Below W.heap.size W W1) => kcols_any m v l W1 hz (hr.below h))
  clear hr hs hL hu hws
  obtain ⟨q, hqq⟩ : ∃ q, q = boundsF l p := ⟨_, rfl⟩
  have HE := Lib.hid hqq
  obtain ⟨f, lo, hi⟩ := q
  clear hqq
  go_enter Tryz.func3, Tryz.ntmps3
  go_wp2_with fail
  refine HP0.out.mono ?_
  rintro e w1 ⟨u1, rfl, hown, hb1⟩
  have HU1 := Lib.hid (Rd.own hown)
  have HB1 := Lib.hid hb1
  clear hown hb1
  go_wp2_with fail
  refine (HC0.out w1 HB1.out).mono ?_
  rintro e w2 ⟨v2, rfl, hown, hb2⟩
  have HR2 := Lib.hid (Rd.own hown)
  have HU2 := Lib.hid (HU1.out.below hb2)
  have HB2 := Lib.hid (into HB1.out hb2)
  clear hown hb2
  go_wp2_with fail
  have h3 := bounds_any w2 (HX.out.below HB2.out) m n v2 u1 l p HR2.out HS.out HU2.out HPN.out.1 HPN.out.2
  rw [← HE.out] at h3
  refine h3.mono ?_
  rintro e w3 ⟨⟨xa, xn, xc⟩, ⟨ya, yn, yc⟩, rfl, hx3, hy3, hb3⟩
  have HX3 := Lib.hid hx3
  have HY3 := Lib.hid hy3
  have HU3 := Lib.hid (HU2.out.below hb3)
  have HB3 := Lib.hid (into HB2.out hb3)
  clear hx3 hy3 hb3 h3
  go_wp2_with fail
  have h4 := dBounds_any w3 m n v u l p (HR.out.below HB3.out) HS.out (HU.out.below HB3.out) HPN.out.1 HPN.out.2
  rw [← HE.out] at h4
  refine h4.mono ?_
  rintro e w4 ⟨⟨za, zn, zc⟩, ⟨ta, tn, tc⟩, rfl, hz4, ht4, hb4⟩
  have s1 := str_of (HX3.out.below hb4).1
  have s2 := str_of (HY3.out.below hb4).1
  have s3 := str_of hz4.1
  have s4 := str_of ht4.1
  have HU4 := Lib.hid (HU3.out.below hb4)
  have HV4 := Lib.hid (HU.out.below (into HB3.out hb4))
  have HB4 := Lib.hid (into HB3.out hb4)
  have s1 : (convert 25 9 (.slice xa xn xc)).run Tryz.prog w4 = .ok (.string ⟨lo.toArray⟩) w4 := s1
  have s2 : (convert 25 9 (.slice ya yn yc)).run Tryz.prog w4 = .ok (.string ⟨hi.toArray⟩) w4 := s2
  have s3 : (convert 25 9 (.slice za zn zc)).run Tryz.prog w4 = .ok (.string ⟨lo.toArray⟩) w4 := s3
  have s4 : (convert 25 9 (.slice ta tn tc)).run Tryz.prog w4 = .ok (.string ⟨hi.toArray⟩) w4 := s4
  clear hz4 ht4 hb4 h4
  go_wp2_with fail
  refine (so_any n u1 u p w4 HU4.out HV4.out).mono ?_
  rintro e w5 ⟨rfl, hb5⟩
  have HB5 := Lib.hid (into HB4.out hb5)
  clear hb5
  go_wp2_with fail
  go_ret
  exact ⟨rfl, HB5.out⟩

set_option maxRecDepth 100000 in
theorem lifted (os : Os) (started : os.Started) (H : Type) (enc : TypeId × Value → H) :
    ReturnsInHanded {} Tryz.checked os 3 .any (fun w args => (Rows.exprBoundsSpec.pre enc Tryz.prog Tryz.f3 [] false w args ∧ laidX w) ∧ sizedMet enc Tryz.prog Tryz.f3 (OpenSpec.ofChange Rows.exprBoundsSpec) false w args) (Rows.exprBoundsSpec.post enc Tryz.prog Tryz.f3 false true false false) := by
  refine returnsInHanded_of_change_and (C := Tryz.checked) (X := fun w _ => laidX w) (fun _ _ _ hh h => h.of_heap hh) Tryz.own started (by kernel_rfl) Tryz.func3
    (ChangeSpec.witness_at (enc := enc) (C := Tryz.checked) (os := os) (X := fun w _ => laidX w) false (tabledX os) #[.slice none 0 0, .slice none 0 0] 8 rfl (by kernel_rfl) (by kernel_rfl) (by kernel_rfl) (by kernel_rfl) (by kernel_rfl) (tabledX_laidX os _)) ?_
  intro W base args ds gs before hval0 hW hcnd hsz0 hL _
  have hsz : (DataW.weightsEach Tryz.prog (Tryz.f3.params.toList ++ Rows.exprBoundsSpec.plain.varTypes Tryz.prog) (ds ++ gs)).all (· ≤ reachBytes) = true := hsz0
  have hval : ∀ (j : Nat) t v, Tryz.f3.params[j]? = some t → args[j]? = some v → Value.okWide Tryz.prog W .any base t v := hval0
  have hW' := hW
  obtain ⟨p, q, hA0, hV, rfl, hfz, hnd⟩ := hW
  have hA : DataW.TrodAll enc Tryz.prog W 0 (fun _ => true) true Tryz.f3.params.toList args.toList ds p := hA0
  rw [Tryz.params3] at hA hval hsz
  obtain ⟨v0, v1, d0, d1, p0, p1, rfl, rfl, rfl, h0, h1⟩ := trodAll_two hA
  obtain ⟨rfl, rfl⟩ := trodVars_none hV
  have sm0 : small Tryz.prog 22 d0 := fun q hq => by
    have := List.all_eq_true.1 hsz q (weights_each (j := 0) rfl rfl q hq)
    simpa using this
  obtain ⟨n0, l0, hr0, hz0, hs0⟩ := open_cols (hval 0 22 v0 rfl rfl) h0 sm0
  have sm1 : small Tryz.prog 23 d1 := fun q hq => by
    have := List.all_eq_true.1 hsz q (weights_each (j := 1) rfl rfl q hq)
    simpa using this
  obtain ⟨n1, l1, hr1, hz1, hs1⟩ := open_opsW (hval 1 23 v1 rfl rfl) h1 sm1
  clear hA0 hval0
  refine (walk W (X_of hL) n0 v0 l0 hr0 hz0 hs0 n1 v1 l1 hr1 hz1 hs1).mono fun e W' ⟨he, hg⟩ => ?_
  subst he
  exact ⟨_, rfl, law_post (tb := 4) Tryz.laidOut (by kernel_rfl) (by kernel_rfl) Tryz.underlying4 rfl hW' hg rfl rfl rfl⟩

theorem bare : Rows.ExprBoundsSaid :=
  OpenClaim.holds_of_wide 3 Tryz.f3 rfl rfl rfl rfl rfl rfl rfl ⟨rfl, rfl, rfl, rfl, rfl⟩ rfl rfl rfl rfl rfl (by kernel_rfl) Tryz.func3 (by kernel_rfl)
    (of_decide_eq_true (by kernel_rfl)) (by unfold Func.isWrapper; first | (rw [if_pos (by decide +kernel)]; kernel_rfl) | (rw [if_neg (by decide +kernel)]; exact ⟨rfl, rfl⟩))
    (fun os started H enc _ => lifted os started H enc)
/-- The card: the row's one listed variable is tied to the program's text. -/
theorem proved : Rows.ExprBoundsCardSaid :=
  Claim7.holds_tied_plain_at .later [] [.data, .data, .data, .data, .data, .data] true _ false bare (fun _ h => by cases h) (by kernel_rfl) (fun _ h => by cases h) exprBounds_row_tie rfl ⟨rfl, rfl⟩ (by kernel_rfl) rfl
    (fun f fn hf hfn => by
      obtain rfl : f = 3 := Option.some.inj ((show Tryz.prog.funcNamed "padlock/padlocklaw.ExprBounds" = some 3 by kernel_rfl).symm.trans hf) |>.symm
      obtain rfl : fn = Tryz.f3 := (Option.some.inj (Tryz.func3.symm.trans hfn)).symm
      refine ⟨by kernel_rfl, fun j t ht => ?_⟩
      rw [Tryz.params3] at ht
      rcases j with _ | _ | j <;> simp at ht <;> subst ht <;> kernel_rfl)
    (by kernel_rfl)
#print axioms proved
end Go.Proofs.YtmfkdpfcpdmkdaaGreatDoor.lExprBounds
