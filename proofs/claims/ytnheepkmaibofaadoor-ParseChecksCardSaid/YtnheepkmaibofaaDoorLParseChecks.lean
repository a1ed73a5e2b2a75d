/- What a statement lacks is what the document says it lacks. The row lists the program's six tables; the card ties them to the program's text. -/
import Derived.Test.YtnheepkmaibofaaDoorCpk
import Derived.Test.YtnheepkmaibofaaDoorRok
import Derived.Test.YtnheepkmaibofaaDoorRpk
import Derived.Test.YtnheepkmaibofaaDoorCzk
namespace Go.Proofs.YtnheepkmaibofaaDoor.lParseChecks
open Go.ChangeShapes Go.WideShapes Go.ChangeAt Go.RowKit Go.Joins
open Go.ChangeMaps (open_string shut_string)
set_option linter.unusedVariables false
set_option linter.unusedSimpArgs false
set_option maxHeartbeats 400000

set_option maxHeartbeats 4000000
set_option maxRecDepth 100000
open Go.Proofs.YtnheepkmaibofaaDoor.cs
theorem walk (W : World) (hL : Tbp W) (s : Sq) (p : Ps) (hr : StR W s p) (hi : SqIn s) (hz : SqZ s) :
    Calls Tryd.prog 3 #[stV s p] W fun e w' => e = .returned (.bool true) ∧ Below W.heap.size W w' := by
  have HST : Hid (∀ w, Below W.heap.size W w → Calls Tryd.prog 7 #[stV s p] w fun e w' => ∃ p' : Ps, e = .returned (stV s p') ∧ StR w' s p' ∧ Below w.heap.size w w') := fun w hb => stmt_any w s p (hr.below hb) hi
  have HCK : Hid (∀ w p', Below W.heap.size W w → StR w s p' → Calls Tryd.prog 6 #[stV s p'] w fun e w' => e = .returned (.int .i64 (stF s)) ∧ Below w.heap.size w w') := fun w p' hb h => Go.Proofs.YtnheepkmaibofaaDoor.cs.check_any w (hL.below hb) s p' h hz hi.sizes
  have HDF : Hid (∀ w, Below W.heap.size W w → Calls Tryd.prog 8 #[stV s p] w fun e w' => e = .returned (.int .i64 (stF s)) ∧ Below w.heap.size w w') := fun w hb => dfault_any w s p (hr.below hb) hz
  have HNEW := Lib.hid (fun w1 hb => StB.new W s p (w1 := w1) hb)
  have hb0 : Below W.heap.size W (W.alloc (.cells (stC s p) 27)) := (Below.refl _ _).alloc (Nat.le_refl _) _
  have HB0 := Lib.hid hb0
  obtain ⟨F, hF⟩ : ∃ F, F = stF s := ⟨_, rfl⟩
  rw [← hF] at HCK HDF
  clear hF hb0 hr hi hz hL
  obtain ⟨k, t, cols, row, names, cnt, wh, ord, dn, lim, st, to⟩ := s
  obtain ⟨a2, n2, c2, a3, n3, c3, a4, n4, c4, a6, n6, c6, a11, n11, c11⟩ := p
  go_enter Tryd.func3, Tryd.ntmps3
  go_wp2_with fail
  refine (HST.out _ HB0.out).mono ?_
  rintro e1 w1 ⟨p', rfl, hr1, hb1⟩
  obtain ⟨x0, x1, x2, x3, x4, x5, x6, x7, x8, x9, x10, x11⟩ := HNEW.out w1 hb1
  simp only at x0 x1 x2 x3 x4 x5 x6 x7 x8 x9 x10 x11
  have HB1 := Lib.hid (into HB0.out hb1)
  have HR1 := Lib.hid hr1
  have HBA := Lib.hid hb1
  clear hb1 hr1
  go_wp2_with fail
  refine (HCK.out _ p' HB1.out HR1.out).mono ?_
  rintro e2 w2 ⟨rfl, hb2⟩
  clear x0 x1 x2 x3 x4 x5 x6 x7 x8 x9 x10 x11
  obtain ⟨x0, x1, x2, x3, x4, x5, x6, x7, x8, x9, x10, x11⟩ := HNEW.out w2 (HBA.out.trans (hb2.mono HBA.out.size))
  simp only at x0 x1 x2 x3 x4 x5 x6 x7 x8 x9 x10 x11
  have HB2 := Lib.hid (into HB1.out hb2)
  clear hb2
  go_wp2_with fail
  refine (HDF.out _ HB2.out).mono ?_
  rintro e3 w3 ⟨rfl, hb3⟩
  have HB3 := Lib.hid (into HB2.out hb3)
  clear hb3 x0 x1 x2 x3 x4 x5 x6 x7 x8 x9 x10 x11
  go_wp2_with fail
  go_ret
  exact ⟨by simp, HB3.out⟩

set_option maxRecDepth 100000 in
theorem lifted (os : Os) (started : os.Started) (H : Type) (enc : TypeId × Value → H) :
    ReturnsInHanded {} Tryd.checked os 3 .any (fun w args => (Rows.parseChecksSpec.pre enc Tryd.prog Tryd.f3 [] false w args ∧ laidX w) ∧ sizedMet enc Tryd.prog Tryd.f3 (OpenSpec.ofChange Rows.parseChecksSpec) false w args) (Rows.parseChecksSpec.post enc Tryd.prog Tryd.f3 false true false false) := by
  refine returnsInHanded_of_change_and (C := Tryd.checked) (X := fun w _ => laidX w) (fun _ _ _ hh h => h.of_heap hh) Tryd.own started (by kernel_rfl) Tryd.func3
    (ChangeSpec.witness_at (enc := enc) (C := Tryd.checked) (os := os) (X := fun w _ => laidX w) false (tabledX os) #[.agg #[.int .i64 0, .string ⟨#[]⟩, .slice none 0 0, .slice none 0 0, .slice none 0 0, .bool false, .slice none 0 0, .string ⟨#[]⟩, .bool false, .int .i64 0, .string ⟨#[]⟩, .slice none 0 0]] 8 rfl (by kernel_rfl) (by kernel_rfl) (by kernel_rfl) (by kernel_rfl) (by kernel_rfl) (tabledX_laidX os _)) ?_
  intro W base args ds gs before hval0 hW hcnd hsz0 hL _
  have hsz : (DataW.weightsEach Tryd.prog (Tryd.f3.params.toList ++ Rows.parseChecksSpec.plain.varTypes Tryd.prog) (ds ++ gs)).all (· ≤ reachBytes) = true := hsz0
  have hval : ∀ (j : Nat) t v, Tryd.f3.params[j]? = some t → args[j]? = some v → Value.okWide Tryd.prog W .any base t v := hval0
  have hW' := hW
  obtain ⟨p, q, hA0, hV, rfl, hfz, hnd⟩ := hW
  have hA : DataW.TrodAll enc Tryd.prog W 0 (fun _ => true) true Tryd.f3.params.toList args.toList ds p := hA0
  rw [Tryd.params3] at hA hval hsz
  obtain ⟨v0, d0, rfl, rfl, h0⟩ := trodAll_one hA
  obtain ⟨rfl, rfl⟩ := trodVars_none hV
  have sm0 : small Tryd.prog 27 d0 := fun q hq => by
    have := List.all_eq_true.1 hsz q (weights_each (j := 0) rfl rfl q hq)
    simpa using this
  obtain ⟨s0, p0, rfl, hr0, hi0, hz0⟩ := open_stmt (hval 0 27 v0 rfl rfl) h0 sm0
  clear hA0 hval0
  refine (walk W (P_of hL) s0 p0 hr0 hi0 hz0).mono fun e W' ⟨he, hg⟩ => ?_
  subst he
  exact ⟨_, rfl, law_post (tb := 4) Tryd.laidOut (by kernel_rfl) (by kernel_rfl) Tryd.underlying4 rfl hW' hg rfl rfl rfl⟩

theorem bare : Rows.ParseChecksSaid :=
  OpenClaim.holds_of_wide 3 Tryd.f3 rfl rfl rfl rfl rfl rfl rfl ⟨rfl, rfl, rfl, rfl, rfl⟩ rfl rfl rfl rfl rfl (by kernel_rfl) Tryd.func3 (by kernel_rfl)
    (of_decide_eq_true (by kernel_rfl)) (by unfold Func.isWrapper; first | (rw [if_pos (by decide +kernel)]; kernel_rfl) | (rw [if_neg (by decide +kernel)]; exact ⟨rfl, rfl⟩))
    (fun os started H enc _ => lifted os started H enc)
/-- The card: the row's one listed variable is tied to the program's text. -/
theorem proved : Rows.ParseChecksCardSaid :=
  Claim7.holds_tied_plain_at .later [] [.data, .data, .data, .data, .data, .data] true _ true bare (fun _ h => by cases h) (by kernel_rfl) (fun _ h => by cases h) parseChecks_row_tie rfl ⟨rfl, rfl⟩ (by kernel_rfl) rfl
    (fun f fn hf hfn => by
      obtain rfl : f = 3 := Option.some.inj ((show Tryd.prog.funcNamed "padlock/padlocklaw.ParseChecks" = some 3 by kernel_rfl).symm.trans hf) |>.symm
      obtain rfl : fn = Tryd.f3 := (Option.some.inj (Tryd.func3.symm.trans hfn)).symm
      refine ⟨by kernel_rfl, fun j t ht => ?_⟩
      rw [Tryd.params3] at ht
      rcases j with _ | j <;> simp at ht <;> subst ht <;> kernel_rfl)
    (by kernel_rfl)
#print axioms proved
end Go.Proofs.YtnheepkmaibofaaDoor.lParseChecks
