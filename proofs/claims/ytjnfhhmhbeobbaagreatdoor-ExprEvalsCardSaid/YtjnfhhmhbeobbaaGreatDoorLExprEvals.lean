/- What an expression makes of a row: the program answers as the document does, at every list of columns, every row and all ops. The row lists the program's tables of marks, of words that are kept, of what each op works on, and of the words of kinds, constants and signs; the card ties them to the program's text. -/
import Derived.Test.YtjnfhhmhbeobbaaGreatDoorQz
import Derived.Test.YtjnfhhmhbeobbaaGreatDoorB2
import Derived.Test.YtjnfhhmhbeobbaaGreatDoorQo
import Derived.Test.YtjnfhhmhbeobbaaGreatDoorKg
namespace Go.Proofs.YtjnfhhmhbeobbaaGreatDoor.lExprEvals
open Go.ChangeShapes Go.WideShapes Go.ChangeAt Go.RowKit Go.Joins
open Go.ChangeMaps (open_string shut_string)
set_option linter.unusedVariables false
set_option linter.unusedSimpArgs false
set_option maxHeartbeats 400000

set_option maxHeartbeats 1000000 in
theorem walk (W : World) (hL : Tbs W) (m : Nat) (v : Value) (l : List Cq) (hr : Rd W 2 m v (ccs l)) (hz : m * 24 ≤ 140737488351232) (hs : ∀ o ∈ l, o.t.size ≤ maxLen) (n : Nat) (u : Value) (r : List V) (hu : Rd W 3 n u (vc r)) (hw : ∀ x ∈ r, (Lit.int .i64 x.k).wf = true ∧ (Lit.int .i64 x.n).wf = true ∧ x.t.size ≤ maxLen) (hz2 : n * 32 ≤ 140737488351232) (k : Nat) (x : Value) (p : List Oq) (hx : Rd W 5 k x (ocs p)) (hz3 : k * 56 ≤ 140737488351232) (hws : ∀ o ∈ p, (Lit.int .i64 o.v.n).wf = true ∧ o.t.size ≤ maxLen) :
    Calls Tryz.prog 3 #[v, u, x] W fun e w' => e = .returned (.bool true) ∧ Below W.heap.size W w' := by
  have HX := Lib.hid hL
  have HR := Lib.hid hr
  have HU := Lib.hid hu
  have HO := Lib.hid hx
  have HS := Lib.hid hs
  have HC0 := Lib.hid (kcols_any m v l W hz hr)
  have HV0 := Lib.hid (fun (W1 : World) (h : Below W.heap.size W W1) => kvals_any n u r W1 hz2 (hu.below h))
  have HP0 := Lib.hid (fun (W1 : World) (h : Below W.heap.size W W1) => ops_any k x p W1 hz3 (hx.below h))
  have HRN : Hid (∀ x ∈ r, Rng x.n) := Lib.hid fun x hx => rng_of (hw x hx).2.1
  have HPN : Hid (∀ o ∈ p, Rng o.v.n ∧ o.t.size ≤ maxLen) := Lib.hid fun o ho => ⟨rng_of (hws o ho).1, (hws o ho).2⟩
  clear hr hs hL hu hx hw hws
  obtain ⟨q, hqq⟩ : ∃ q, q = evalF l r p := ⟨_, rfl⟩
  have HE := Lib.hid hqq
  obtain ⟨f, g⟩ := q
  clear hqq
  go_enter Tryz.func3, Tryz.ntmps3
  go_wp2_with fail
  refine HC0.out.mono ?_
  rintro e w1 ⟨v1, rfl, hown, hb1⟩
  have HR1 := Lib.hid (Rd.own hown)
  have HB1 := Lib.hid hb1
  clear hown hb1
  go_wp2_with fail
  refine (HV0.out w1 HB1.out).mono ?_
  rintro e w2 ⟨u2, rfl, hown, hb2⟩
  have HU2 := Lib.hid (Rd.own hown)
  have HR2 := Lib.hid (HR1.out.below hb2)
  have HB2 := Lib.hid (into HB1.out hb2)
  clear hown hb2
  go_wp2_with fail
  refine (HP0.out w2 HB2.out).mono ?_
  rintro e w3 ⟨x3, rfl, hown, hb3⟩
  have HO3 := Lib.hid (Rd.own hown)
  have HR3 := Lib.hid (HR2.out.below hb3)
  have HU3 := Lib.hid (HU2.out.below hb3)
  have HB3 := Lib.hid (into HB2.out hb3)
  clear hown hb3
  go_wp2_with fail
  have h4 := eval_any w3 (HX.out.below HB3.out) m n k v1 u2 x3 l r p HR3.out HS.out HU3.out HO3.out (fun o ho => (HPN.out o ho).2)
  rw [← HE.out] at h4
  refine h4.mono ?_
  rintro e w4 ⟨rfl, hb4⟩
  have HB4 := Lib.hid (into HB3.out hb4)
  clear hb4 h4
  go_wp2_with fail
  have HA : Hid (Below W.heap.size W (w4.alloc (.cells #[.int .i64 g.k, .int .i64 g.n, .string g.t] 26))) := Lib.hid (HB4.out.alloc HB4.out.size _)
  have h5 := dEvalOf_any _ m n k v u x l r p (HR.out.below HA.out) HS.out (HU.out.below HA.out) HRN.out (HO.out.below HA.out) HPN.out
  rw [← HE.out] at h5
  refine h5.mono ?_
  rintro e w5 ⟨rfl, hb5⟩
  have hz5 := hb5.size
  rw [World.size_alloc] at hz5
  have HV5 := Lib.hid ((hb5.block w4.heap.size (by simp)).trans (new0 w4 (.cells #[.int .i64 g.k, .int .i64 g.n, .string g.t] 26)))
  have HB5 := Lib.hid (into HA.out hb5)
  clear hb5 h5
  obtain ⟨y0, y1, y2, -, -, -⟩ := box3 ((Below.heap_alloc w5 (.cells #[.int .i64 g.k, .int .i64 g.n, .string g.t] 26) _ (by omega)).trans HV5.out)
  go_wp2_with fail
  go_ret
  exact ⟨rfl, HB5.out.alloc HB5.out.size _⟩

set_option maxRecDepth 100000 in
theorem lifted (os : Os) (started : os.Started) (H : Type) (enc : TypeId × Value → H) :
    ReturnsInHanded {} Tryz.checked os 3 .any (fun w args => (Rows.exprEvalsSpec.pre enc Tryz.prog Tryz.f3 [] false w args ∧ laidX w) ∧ sizedMet enc Tryz.prog Tryz.f3 (OpenSpec.ofChange Rows.exprEvalsSpec) false w args) (Rows.exprEvalsSpec.post enc Tryz.prog Tryz.f3 false true false false) := by
  refine returnsInHanded_of_change_and (C := Tryz.checked) (X := fun w _ => laidX w) (fun _ _ _ hh h => h.of_heap hh) Tryz.own started (by kernel_rfl) Tryz.func3
    (ChangeSpec.witness_at (enc := enc) (C := Tryz.checked) (os := os) (X := fun w _ => laidX w) false (tabledX os) #[.slice none 0 0, .slice none 0 0, .slice none 0 0] 8 rfl (by kernel_rfl) (by kernel_rfl) (by kernel_rfl) (by kernel_rfl) (by kernel_rfl) (tabledX_laidX os _)) ?_
  intro W base args ds gs before hval0 hW hcnd hsz0 hL _
  have hsz : (DataW.weightsEach Tryz.prog (Tryz.f3.params.toList ++ Rows.exprEvalsSpec.plain.varTypes Tryz.prog) (ds ++ gs)).all (· ≤ reachBytes) = true := hsz0
  have hval : ∀ (j : Nat) t v, Tryz.f3.params[j]? = some t → args[j]? = some v → Value.okWide Tryz.prog W .any base t v := hval0
  have hW' := hW
  obtain ⟨p, q, hA0, hV, rfl, hfz, hnd⟩ := hW
  have hA : DataW.TrodAll enc Tryz.prog W 0 (fun _ => true) true Tryz.f3.params.toList args.toList ds p := hA0
  rw [Tryz.params3] at hA hval hsz
  obtain ⟨v0, v1, v2, d0, d1, d2, p0, p1, p2, rfl, rfl, rfl, h0, h1, h2⟩ := trodAll_three hA
  obtain ⟨rfl, rfl⟩ := trodVars_none hV
  have sm0 : small Tryz.prog 22 d0 := fun q hq => by
    have := List.all_eq_true.1 hsz q (weights_each (j := 0) rfl rfl q hq)
    simpa using this
  obtain ⟨n0, l0, hr0, hz0, hs0⟩ := open_cols (hval 0 22 v0 rfl rfl) h0 sm0
  obtain ⟨n1, l1, hr1, hw1, hs1⟩ := open_v3 Tryz.underlying23 Tryz.underlying26 (by kernel_rfl) (by kernel_rfl) Tryz.underlying3 Tryz.underlying3 Tryz.underlying9 (hval 1 23 v1 rfl rfl) h1
  have hz1 : n1 * 32 ≤ 140737488351232 := by
    rcases hs1 with rfl | ⟨es, sp, hd, hl⟩
    · omega
    · subst hd
      have := sized_slice hsz (j := 1) (t := 23) (e := 26) rfl rfl Tryz.underlying23
      rw [show Tryz.prog.bytesOf 26 = 32 by kernel_rfl, hl] at this
      simp only [reachBytes] at this
      omega
  have sm2 : small Tryz.prog 24 d2 := fun q hq => by
    have := List.all_eq_true.1 hsz q (weights_each (j := 2) rfl rfl q hq)
    simpa using this
  obtain ⟨n2, l2, hr2, hz2, hs2⟩ := open_opsW (hval 2 24 v2 rfl rfl) h2 sm2
  clear hA0 hval0
  refine (walk W (X_of hL) n0 v0 l0 hr0 hz0 hs0 n1 v1 l1 hr1 hw1 hz1 n2 v2 l2 hr2 hz2 hs2).mono fun e W' ⟨he, hg⟩ => ?_
  subst he
  exact ⟨_, rfl, law_post (tb := 4) Tryz.laidOut (by kernel_rfl) (by kernel_rfl) Tryz.underlying4 rfl hW' hg rfl rfl rfl⟩

theorem bare : Rows.ExprEvalsSaid :=
  OpenClaim.holds_of_wide 3 Tryz.f3 rfl rfl rfl rfl rfl rfl rfl ⟨rfl, rfl, rfl, rfl, rfl⟩ rfl rfl rfl rfl rfl (by kernel_rfl) Tryz.func3 (by kernel_rfl)
    (of_decide_eq_true (by kernel_rfl)) (by unfold Func.isWrapper; first | (rw [if_pos (by decide +kernel)]; kernel_rfl) | (rw [if_neg (by decide +kernel)]; exact ⟨rfl, rfl⟩))
    (fun os started H enc _ => lifted os started H enc)
/-- The card: the row's one listed variable is tied to the program's text. -/
theorem proved : Rows.ExprEvalsCardSaid :=
  Claim7.holds_tied_plain_at .later [] [.data, .data, .data, .data, .data, .data] true _ false bare (fun _ h => by cases h) (by kernel_rfl) (fun _ h => by cases h) exprEvals_row_tie rfl ⟨rfl, rfl⟩ (by kernel_rfl) rfl
    (fun f fn hf hfn => by
      obtain rfl : f = 3 := Option.some.inj ((show Tryz.prog.funcNamed "padlock/padlocklaw.ExprEvals" = some 3 by kernel_rfl).symm.trans hf) |>.symm
      obtain rfl : fn = Tryz.f3 := (Option.some.inj (Tryz.func3.symm.trans hfn)).symm
      refine ⟨by kernel_rfl, fun j t ht => ?_⟩
      rw [Tryz.params3] at ht
      rcases j with _ | _ | _ | j <;> simp at ht <;> subst ht <;> kernel_rfl)
    (by kernel_rfl)
#print axioms proved
end Go.Proofs.YtjnfhhmhbeobbaaGreatDoor.lExprEvals
