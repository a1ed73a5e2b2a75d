/- A statement is parsed as it was shown, and may be; one that is too long to be shown lacks just that. The row lists the program's seven tables; the card ties them to the program's text. -/
import Derived.Deep.DeepCutAuto
import Derived.Test.YtdeollmeljaaoaaDoorAzk
import Derived.Test.YtdeollmeljaaoaaDoorDrk
import Derived.Test.YtdeollmeljaaoaaDoorBbk
namespace Go.Proofs.YtdeollmeljaaoaaDoor.lParseBack
open Go.ChangeShapes Go.WideShapes Go.ChangeAt Go.RowKit Go.Joins
open Go.ChangeMaps (open_string shut_string)
set_option linter.unusedVariables false
set_option linter.unusedSimpArgs false
set_option maxHeartbeats 400000

set_option maxHeartbeats 8000000
set_option maxRecDepth 100000
open Go.Proofs.YtdeollmeljaaoaaDoor.rd Go.Proofs.YtdeollmeljaaoaaDoor.cs
theorem sh_pos (s : Sq) : 0 < (shT s).length := by
  unfold shT crT selT midT
  repeat' split
  all_goals simp
theorem walk (W : World) (hL : Tby W) (f : Ph) (hf : PhR W f) :
    Calls Tryd.prog 3 #[phV f] W fun e w' => e = .returned (.bool true) ∧ Below W.heap.size W w' := by
  have HST : Hid (∀ w, Below W.heap.size W w → Calls Tryd.prog 9 #[phV f] w (StmtIs w)) := fun w hb => stmt_is w f (hf.below hb)
  have HPP : Hid (∀ w v' m L, Below W.heap.size W w → Rd w 3 m v' (tkc L) → TksZ L → Calls Tryd.prog 12 #[v'] w (Pz w (parseF L))) := fun w v' m L hb h hzz => parse_any w m v' L (hL.q.below hb) h (z_at hzz)
  have HSH : Hid (∀ w s p, Below W.heap.size W w → StR w s p → SqZ s → SqS s → Calls Tryd.prog 10 #[stV s p] w fun e w' => ∃ v, e = .returned (.tuple #[v, .int .i64 (stF s)]) ∧ w'.ownsRow w.heap.size 45 3 v (if stF s = 0 then shT s else []).length (tkc (if stF s = 0 then shT s else [])) ∧ Below w.heap.size w w') := fun w s p hb h hz hs => Show_any w (hL.p.below hb) s p h hz hs
  have HCK : Hid (∀ w s p, Below W.heap.size W w → StR w s p → SqZ s → SqS s → Calls Tryd.prog 11 #[stV s p] w fun e w' => e = .returned (.int .i64 (stF s)) ∧ Below w.heap.size w w') := fun w s p hb h hz hs => Go.Proofs.YtdeollmeljaaoaaDoor.cs.check_any w (hL.p.below hb) s p h hz hs
  have HSM : Hid (∀ w s p p', Below W.heap.size W w → StR w s p → StR w s p' → stF s = 0 → SqZ s → SqS s → Calls Tryd.prog 13 #[stV s p, stV s p'] w fun e w' => e = .returned (.bool true) ∧ Below w.heap.size w w') := fun w s p p' hb h h' h0 hz hs => same_any w (hL.below hb) s p p' h h' h0 hz hs
  have HW0 : Hid (∀ w0, w0 = W.alloc (.cells (phC f) 27) → Below W.heap.size W w0 ∧ w0.heap[W.heap.size]? = some (.cells (phC f) 27 (0, 0))) := fun w0 h => by
    rw [h]
    exact ⟨(Below.refl _ _).alloc (Nat.le_refl _) _, new0 _ _⟩
  clear hf hL
  go_enter Tryd.func3, Tryd.ntmps3
  go_upto_region 1 with (fail)
  refine code_nm (fun w0 hW => ?_)
  obtain ⟨hb0, hp0⟩ := HW0.out w0 hW
  have HB0 := Lib.hid hb0
  obtain ⟨y0, y1, y2, y3, y4, y5, y6, y7, y8, y9, y10, y11, y12, y13⟩ := box14 hp0
  clear hW hb0 HW0 hp0
  go_wp2_with fail
  refine (HST.out w0 HB0.out).mono ?_
  rintro e w1 ⟨s, p, rfl, hr1, h0, hz, hl, hb1⟩
  have HB1 := Lib.hid (into HB0.out hb1)
  have HR1 := Lib.hid hr1
  have HF := Lib.hid (And.intro h0 (And.intro hz (And.intro (few_of h0).s (z_shown h0 hz hl))))
  clear h0 hz hl hb1 hr1 HST HB0 y0 y1 y2 y3 y4 y5 y6 y7 y8 y9 y10 y11 y12 y13
  go_upto_region 2 with (fail)
  refine code_nm (fun w2 hW => ?_)
  have hb2 : Below w1.heap.size w1 w2 := by rw [hW]; exact (Below.refl _ _).alloc (Nat.le_refl _) _
  have hs2 : w2.heap[w1.heap.size]? = some (.cells (stC s p) 33 (0, 0)) := by rw [hW]; exact new0 _ _
  have HS2 := Lib.hid hs2
  have HB2 := Lib.hid (into HB1.out hb2)
  have HR2 := Lib.hid (HR1.out.below hb2)
  obtain ⟨A, hA⟩ : ∃ A, A = w1.heap.size := ⟨_, rfl⟩
  rw [← hA] at HS2 ⊢
  clear hW hb2 hs2 hA HR1 HB1
  obtain ⟨x0, x1, x2, x3, x4, x5, x6, x7, x8, x9, x10, x11, -⟩ := box12 HS2.out
  go_wp2_with fail
  refine (HSH.out w2 s p HB2.out HR2.out HF.out.2.1 HF.out.2.2.1).mono ?_
  rintro e w3 ⟨v, rfl, ho3, hb3⟩
  have HB3 := Lib.hid (into HB2.out hb3)
  have HS3 := Lib.hid ((hb3.block _ (blk_lt HS2.out)).trans HS2.out)
  have HR3 := Lib.hid (HR2.out.below hb3)
  clear x0 x1 x2 x3 x4 x5 x6 x7 x8 x9 x10 x11 hb3 HS2 HR2 HB2
  rcases st_cases HF.out.1 with ⟨g0, gl⟩ | ⟨g0, gl⟩
  · rw [g0, if_pos rfl] at ho3
    rw [g0]
    have HP := Lib.hid (parse_shown g0)
    have hp0 := sh_pos s
    have HZ : Hid (TksZ (shT s)) := HF.out.2.2.2
    obtain ⟨n, hn⟩ : ∃ n, n = (shT s).length := ⟨_, rfl⟩
    rw [← hn] at ho3 gl hp0
    obtain ⟨b0, o0, c0, hv, -, -, -, -⟩ := (Rd.own ho3).pos hp0 (by omega)
    subst hv
    have HO3 := Lib.hid ho3
    have HG0 : Hid (stF s = 0) := g0
    have hn1 : (0 : Int) < (n : Int) := by omega
    clear ho3 hn HSH g0
    go_wp2_with fail
    refine (HPP.out w3 _ _ _ HB3.out (Rd.own HO3.out) HZ.out).mono ?_
    rw [HP.out]
    rintro e w4 ⟨p4, rfl, ho4, hb4⟩
    have HB4 := Lib.hid (into HB3.out hb4)
    have HS4 := Lib.hid ((hb4.block _ (blk_lt HS3.out)).trans HS3.out)
    have HR4 := Lib.hid (HR3.out.below hb4)
    have HQ4 := Lib.hid ho4
    clear hb4 ho4 HS3 HR3 HB3 HP HO3 HZ
    go_upto_region 6 with (fail)
    refine code_nm (fun w5 hW => ?_)
    have hb5 : Below w4.heap.size w4 w5 := by rw [hW]; exact (Below.refl _ _).alloc (Nat.le_refl _) _
    have hs5 : w5.heap[w4.heap.size]? = some (.cells (stC s p4) 33 (0, 0)) := by rw [hW]; exact new0 _ _
    have hs := (hb5.block _ (blk_lt HS4.out)).trans HS4.out
    have HT5 := Lib.hid hs5
    have HB5 := Lib.hid (into HB4.out hb5)
    have HR5 := Lib.hid (HR4.out.below hb5)
    have HQ5 := Lib.hid (HQ4.out.rd.below hb5)
    obtain ⟨x0, x1, x2, x3, x4, x5, x6, x7, x8, x9, x10, x11, -⟩ := box12 hs
    obtain ⟨y0, y1, y2, y3, y4, y5, y6, y7, y8, y9, y10, y11, -⟩ := box12 hs5
    have HK := Lib.hid (HSM.out w5 s p p4 HB5.out HR5.out HQ5.out HG0.out HF.out.2.1 HF.out.2.2.1)
    clear hW hb5 hs5 hs HS4 HR4 HQ4 HB4
    go_wp2_with fail
    refine HK.out.mono ?_
    rintro e w6 ⟨rfl, hb6⟩
    have HB6 := Lib.hid (into HB5.out hb6)
    have HQ6 := Lib.hid (HQ5.out.below hb6)
    have ht6 := (hb6.block _ (blk_lt HT5.out)).trans HT5.out
    clear x0 x1 x2 x3 x4 x5 x6 x7 x8 x9 x10 x11 y0 y1 y2 y3 y4 y5 y6 y7 y8 y9 y10 y11 hb6 HK
    obtain ⟨y0, y1, y2, y3, y4, y5, y6, y7, y8, y9, y10, y11, -⟩ := box12 ht6
    have HK2 : Hid (Calls Tryd.prog 11 #[stV s p4] w6 fun e w' => e = .returned (.int .i64 0) ∧ Below w6.heap.size w6 w') := by
      have := HCK.out w6 s p4 HB6.out HQ6.out HF.out.2.1 HF.out.2.2.1
      rwa [HG0.out] at this
    clear ht6
    go_wp2_with fail
    refine HK2.out.mono ?_
    rintro e w7 ⟨rfl, hb7⟩
    have HB7 := Lib.hid (into HB6.out hb7)
    clear hb7
    go_wp2_with fail
    go_returns
    exact ⟨rfl, HB7.out⟩
  · rw [g0]
    have HG0 : Hid (stF s = 10) := g0
    have HK2 : Hid (Calls Tryd.prog 11 #[stV s p] w3 fun e w' => e = .returned (.int .i64 10) ∧ Below w3.heap.size w3 w') := by
      have := HCK.out w3 s p HB3.out HR3.out HF.out.2.1 HF.out.2.2.1
      rwa [HG0.out] at this
    clear g0
    obtain ⟨x0, x1, x2, x3, x4, x5, x6, x7, x8, x9, x10, x11, -⟩ := box12 HS3.out
    go_wp2_with fail
    refine HK2.out.mono ?_
    rintro e w7 ⟨rfl, hb7⟩
    have HB7 := Lib.hid (into HB3.out hb7)
    clear hb7
    go_wp2_with fail
    go_returns
    exact ⟨rfl, HB7.out⟩

set_option maxRecDepth 100000 in
theorem lifted (os : Os) (started : os.Started) (H : Type) (enc : TypeId × Value → H) :
    ReturnsInHanded {} Tryd.checked os 3 .any (fun w args => (Rows.parseBackSpec.pre enc Tryd.prog Tryd.f3 [] false w args ∧ laidY w) ∧ sizedMet enc Tryd.prog Tryd.f3 (OpenSpec.ofChange Rows.parseBackSpec) false w args) (Rows.parseBackSpec.post enc Tryd.prog Tryd.f3 false true false false) := by
  refine returnsInHanded_of_change_and (C := Tryd.checked) (X := fun w _ => laidY w) (fun _ _ _ hh h => h.of_heap hh) Tryd.own started (by kernel_rfl) Tryd.func3
    (ChangeSpec.witness_at (enc := enc) (C := Tryd.checked) (os := os) (X := fun w _ => laidY w) false (tabledY os) #[.agg #[.int .i64 0, .int .i64 0, .int .i64 0, .int .i64 0, .slice none 0 0, .int .i64 0, .int .i64 0, .string ⟨#[]⟩, .slice none 0 0, .int .i64 0, .int .i64 0, .string ⟨#[]⟩, .slice none 0 0, .bool false]] 8 rfl (by kernel_rfl) (by kernel_rfl) (by kernel_rfl) (by kernel_rfl) (by kernel_rfl) (tabledY_laidY os _)) ?_
  intro W base args ds gs before hval0 hW hcnd hsz0 hL _
  have hsz : (DataW.weightsEach Tryd.prog (Tryd.f3.params.toList ++ Rows.parseBackSpec.plain.varTypes Tryd.prog) (ds ++ gs)).all (· ≤ reachBytes) = true := hsz0
  have hval : ∀ (j : Nat) t v, Tryd.f3.params[j]? = some t → args[j]? = some v → Value.okWide Tryd.prog W .any base t v := hval0
  have hW' := hW
  obtain ⟨p, q, hA0, hV, rfl, hfz, hnd⟩ := hW
  have hA : DataW.TrodAll enc Tryd.prog W 0 (fun _ => true) true Tryd.f3.params.toList args.toList ds p := hA0
  rw [Tryd.params3] at hA hval hsz
  obtain ⟨v0, d0, rfl, rfl, h0⟩ := trodAll_one hA
  obtain ⟨rfl, rfl⟩ := trodVars_none hV
  have sm0 : small Tryd.prog 27 d0 := fun q hq => by
    have := List.all_eq_true.1 hsz q (weights_each (j := 0) rfl rfl q hq)
    simpa using this
  obtain ⟨f0, rfl, hf0⟩ := Go.Proofs.YtdeollmeljaaoaaDoor.rd.open_phrase (hval 0 27 v0 rfl rfl) h0 sm0
  clear hA0 hval0
  refine (walk W (Y_of hL) f0 hf0).mono fun e W' ⟨he, hg⟩ => ?_
  subst he
  exact ⟨_, rfl, law_post (tb := 4) Tryd.laidOut (by kernel_rfl) (by kernel_rfl) Tryd.underlying4 rfl hW' hg rfl rfl rfl⟩

theorem bare : Rows.ParseBackSaid :=
  OpenClaim.holds_of_wide 3 Tryd.f3 rfl rfl rfl rfl rfl rfl rfl ⟨rfl, rfl, rfl, rfl, rfl⟩ rfl rfl rfl rfl rfl (by kernel_rfl) Tryd.func3 (by kernel_rfl)
    (of_decide_eq_true (by kernel_rfl)) (by unfold Func.isWrapper; first | (rw [if_pos (by decide +kernel)]; kernel_rfl) | (rw [if_neg (by decide +kernel)]; exact ⟨rfl, rfl⟩))
    (fun os started H enc _ => lifted os started H enc)
/-- The card: the row's one listed variable is tied to the program's text. -/
theorem proved : Rows.ParseBackCardSaid :=
  Claim7.holds_tied_plain_at .later [] [.data, .data, .data, .data, .data, .data, .data] true _ true bare (fun _ h => by cases h) (by kernel_rfl) (fun _ h => by cases h) parseBack_row_tie rfl ⟨rfl, rfl⟩ (by kernel_rfl) rfl
    (fun f fn hf hfn => by
      obtain rfl : f = 3 := Option.some.inj ((show Tryd.prog.funcNamed "padlock/padlockkeep.ParseBack" = some 3 by kernel_rfl).symm.trans hf) |>.symm
      obtain rfl : fn = Tryd.f3 := (Option.some.inj (Tryd.func3.symm.trans hfn)).symm
      refine ⟨by kernel_rfl, fun j t ht => ?_⟩
      rw [Tryd.params3] at ht
      rcases j with _ | j <;> simp at ht <;> subst ht <;> kernel_rfl)
    (by kernel_rfl)
#print axioms proved
end Go.Proofs.YtdeollmeljaaoaaDoor.lParseBack
