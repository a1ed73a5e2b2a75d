/- Behind a statement nothing may stand, nor ahead of it. The row lists the program's seven tables; the card ties them to the program's text. -/
import Derived.Deep.DeepCutAuto
import Derived.Test.YtdeollmeljaaoaaDoorAzk
import Derived.Test.YtdeollmeljaaoaaDoorDrk
import Derived.Test.YtdeollmeljaaoaaDoorBbk
namespace Go.Proofs.YtdeollmeljaaoaaDoor.lParseMore
open Go.ChangeShapes Go.WideShapes Go.ChangeAt Go.RowKit Go.Joins
open Go.ChangeMaps (open_string shut_string)
set_option linter.unusedVariables false
set_option linter.unusedSimpArgs false
set_option maxHeartbeats 400000

set_option maxHeartbeats 8000000
set_option maxRecDepth 100000
open Go.Proofs.YtdeollmeljaaoaaDoor.rd Go.Proofs.YtdeollmeljaaoaaDoor.cs
theorem cl_k : ptk sClose = ⟨4, [41], 0⟩ := by decide
theorem op_k : ptk sOpen = ⟨4, [40], 0⟩ := by decide
theorem walk (W : World) (hL : Tby W) (f : Ph) (hf : PhR W f) :
    Calls Tryd.prog 8 #[phV f] W fun e w' => e = .returned (.bool true) ∧ Below W.heap.size W w' := by
  have HST : Hid (∀ w, Below W.heap.size W w → Calls Tryd.prog 9 #[phV f] w (StmtIs w)) := fun w hb => stmt_is w f (hf.below hb)
  have HPP : Hid (∀ w v' m L, Below W.heap.size W w → Rd w 3 m v' (tkc L) → TksZ L → Calls Tryd.prog 12 #[v'] w (Pz w (parseF L))) := fun w v' m L hb h hzz => parse_any w m v' L (hL.q.below hb) h (z_at hzz)
  have HSH : Hid (∀ w s p, Below W.heap.size W w → StR w s p → SqZ s → SqS s → Calls Tryd.prog 10 #[stV s p] w fun e w' => ∃ v, e = .returned (.tuple #[v, .int .i64 (stF s)]) ∧ w'.ownsRow w.heap.size 45 3 v (if stF s = 0 then shT s else []).length (tkc (if stF s = 0 then shT s else [])) ∧ Below w.heap.size w w') := fun w s p hb h hz hs => Show_any w (hL.p.below hb) s p h hz hs
  have HW0 : Hid (∀ w0, w0 = W.alloc (.cells (phC f) 27) → Below W.heap.size W w0 ∧ w0.heap[W.heap.size]? = some (.cells (phC f) 27 (0, 0))) := fun w0 h => by
    rw [h]
    exact ⟨(Below.refl _ _).alloc (Nat.le_refl _) _, new0 _ _⟩
  clear hf hL
  go_enter Tryd.func8, Tryd.ntmps8
  go_upto_region 1 with (fail)
  refine code_nm (fun w0 hW => ?_)
  obtain ⟨hb0, hp0⟩ := HW0.out w0 hW
  have HB0 := Lib.hid hb0
  obtain ⟨y0, y1, y2, y3, y4, y5, y6, y7, y8, y9, y10, y11, y12, y13⟩ := box14 hp0
  clear hW hb0 HW0 hp0
  go_wp2_with fail
  refine (HST.out w0 HB0.out).mono ?_
  rintro e w1 ⟨s, p, rfl, hr1, h0, hz, hl, hb1⟩
  have HB1 := Lib.hid (into HB0.out hb1)
  have HF := Lib.hid (And.intro h0 (And.intro hz (And.intro (few_of h0).s (z_shown h0 hz hl))))
  clear h0 hz hl hb1 HST HB0 y0 y1 y2 y3 y4 y5 y6 y7 y8 y9 y10 y11 y12 y13
  go_wp2_with fail
  refine (HSH.out w1 s p HB1.out hr1 HF.out.2.1 HF.out.2.2.1).mono ?_
  rintro e w2 ⟨v, rfl, ho2, hb2⟩
  have HB2 := Lib.hid (into HB1.out hb2)
  clear hr1 hb2 HB1
  rcases st_cases HF.out.1 with ⟨g0, gl⟩ | ⟨g0, gl⟩
  · rw [g0, if_pos rfl] at ho2
    rw [g0]
    obtain ⟨L, hL⟩ : ∃ L, L = shT s := ⟨_, rfl⟩
    obtain ⟨n, hn⟩ : ∃ n, n = L.length := ⟨_, rfl⟩
    rw [← hL] at ho2 gl
    rw [← hn] at ho2 gl
    have HP1 : Hid (n < 100 → parseF (L ++ [ptk sClose]) = (sqz, (n : Int), 6)) := fun h => by
      rw [hn, hL] at h ⊢
      exact parse_behind HF.out.1 h
    have HP2 : Hid (n < 100 → parseF (ptk sOpen :: L) = (sqz, 0, 6)) := fun h => by
      rw [hn, hL] at h
      rw [hL]
      exact parse_ahead HF.out.1 h
    have HZ : Hid (TksZ L) := by
      have := HF.out.2.2.2
      rwa [← hL] at this
    obtain ⟨a, c, hv⟩ : ∃ a c, v = .slice a n c := own_shape ho2
    have HO2 := Lib.hid ho2
    clear ho2 hL hn HF HSH g0
    by_cases h100 : n = 100
    · subst h100 hv
      go_wp2_with fail
      go_returns
      exact ⟨rfl, HB2.out⟩
    · have hlt : n < 100 := by omega
      have hne : ¬ (n : Int) = 100 := by omega
      have HV := Lib.hid hv
      subst hv
      go_upto_region 4 with (fail)
      clear HV
      obtain ⟨v0, hv0⟩ : ∃ v0, v0 = Value.slice a n c := ⟨_, rfl⟩
      rw [← hv0] at HO2 ⊢
      have HV := Lib.hid hv0
      clear hv0
      go_wp2_with (first
        | (at_builtin; refine apg _ n rfl _ _ 35 45 _ 3 32 Tryd.underlying35 Tryd.info45 rfl (by omega) rfl (World.ownsRow_nil _ _ _ _) (Nat.le_refl _) (by omega) (by unfold maxLen; omega) (tkc_one _) (Rd.own HO2.out) rfl rfl ?_; intro v3 w3 ho3 hb3 _; have ho3 : w3.ownsRow w2.heap.size 45 3 v3 n (tkc L) := (by simpa using ho3); have HO3 := Lib.hid ho3; have HB3 := Lib.hid hb3; clear ho3 hb3)
        | (at_builtin; refine apg _ 1 rfl _ _ 35 45 _ 3 32 Tryd.underlying35 Tryd.info45 rfl (by omega) rfl (own_below HO3.out ((Below.refl _ _).alloc (Nat.le_refl _) _)) (HB3.out.alloc HB3.out.size _).size (by omega) (by unfold maxLen; omega) (tkc_one [ptk sClose]) (rd_blk (new0 _ _) rfl (by omega)) rfl rfl ?_; intro v5 w5 ho5 hb5 _; have HO5 := Lib.hid ho5; have HB5 := Lib.hid (HB3.out.trans (((Below.refl _ w3).alloc (Nat.le_refl _) _).mono HB3.out.size |>.trans hb5)); clear ho5 hb5))
      have h5 : Rd w5 3 (n + 1) v5 (tkc (L ++ [ptk sClose])) := by rw [tkc_app]; exact Rd.own HO5.out
      have hz5 : TksZ (L ++ [ptk sClose]) := HZ.out.app (TksZ.nil.cons (by decide))
      refine (HPP.out w5 _ _ _ (into HB2.out HB5.out) h5 hz5).mono ?_
      rw [HP1.out hlt]
      rintro e w6 ⟨p6, rfl, -, hb6⟩
      have HB6 := Lib.hid (HB5.out.trans (hb6.mono HB5.out.size))
      clear h5 hz5 hb6 HO5 HB5 HO3 HB3 HP1
      go_upto_region 5 with (fail)
      refine code_nm (fun w7 hW => ?_)
      have HB7 : Hid (Below w2.heap.size w2 w7) := by
        show Below _ _ _
        rw [hW]
        exact HB6.out.trans (((Below.refl _ w6).alloc (Nat.le_refl _) _).mono HB6.out.size)
      clear hW HB6
      go_wp2_with (at_builtin; refine apg _ n rfl _ _ 35 45 _ 3 32 Tryd.underlying35 Tryd.info45 rfl (by omega) rfl (World.ownsRow_lit (base := w7.heap.size) w7 #[.int .i64 4, .string ⟨#[40]⟩, .int .i64 0] 1 (Nat.le_refl _) (by unfold maxLen; omega) rfl) ((Below.refl _ w7).alloc (Nat.le_refl _) _).size (by omega) (by unfold maxLen; omega) (tkc_one L) ((Rd.own HO2.out).below (HB7.out.trans (((Below.refl _ w7).alloc (Nat.le_refl _) _).mono HB7.out.size))) rfl rfl ?_; intro v8 w8 ho8 hb8 _; have HO8 := Lib.hid ho8; have HB8 := Lib.hid (HB7.out.trans (Below.mono (((Below.refl _ w7).alloc (Nat.le_refl _) _).trans hb8) HB7.out.size)); clear ho8 hb8)
      have h8 : Rd w8 3 (1 + n) v8 (tkc (ptk sOpen :: L)) := Rd.own HO8.out
      have hz8 : TksZ (ptk sOpen :: L) := HZ.out.cons (by decide)
      refine (HPP.out w8 _ _ _ (into HB2.out HB8.out) h8 hz8).mono ?_
      rw [HP2.out hlt]
      rintro e w9 ⟨p9, rfl, -, hb9⟩
      have HB9 := Lib.hid (HB8.out.trans (hb9.mono HB8.out.size))
      clear h8 hz8 hb9 HO8 HB8 HP2 HO2
      go_upto_region 6 with (fail)
      refine code_nm (fun wa hW => ?_)
      have HBa : Hid (Below W.heap.size W wa) := by
        show Below _ _ _
        rw [hW]
        exact into HB2.out (HB9.out.trans (((Below.refl _ w9).alloc (Nat.le_refl _) _).mono HB9.out.size))
      clear hW HB9 HB7
      obtain rfl := HV.out
      go_wp2_with fail
      go_returns
      exact ⟨rfl, HBa.out⟩
  · rw [g0]
    go_wp2_with fail
    go_returns
    exact ⟨rfl, HB2.out⟩

set_option maxRecDepth 100000 in
theorem lifted (os : Os) (started : os.Started) (H : Type) (enc : TypeId × Value → H) :
    ReturnsInHanded {} Tryd.checked os 8 .any (fun w args => (Rows.parseMoreSpec.pre enc Tryd.prog Tryd.f8 [] false w args ∧ laidY w) ∧ sizedMet enc Tryd.prog Tryd.f8 (OpenSpec.ofChange Rows.parseMoreSpec) false w args) (Rows.parseMoreSpec.post enc Tryd.prog Tryd.f8 false true false false) := by
  refine returnsInHanded_of_change_and (C := Tryd.checked) (X := fun w _ => laidY w) (fun _ _ _ hh h => h.of_heap hh) Tryd.own started (by kernel_rfl) Tryd.func8
    (ChangeSpec.witness_at (enc := enc) (C := Tryd.checked) (os := os) (X := fun w _ => laidY w) false (tabledY os) #[.agg #[.int .i64 0, .int .i64 0, .int .i64 0, .int .i64 0, .slice none 0 0, .int .i64 0, .int .i64 0, .string ⟨#[]⟩, .slice none 0 0, .int .i64 0, .int .i64 0, .string ⟨#[]⟩, .slice none 0 0, .bool false]] 8 rfl (by kernel_rfl) (by kernel_rfl) (by kernel_rfl) (by kernel_rfl) (by kernel_rfl) (tabledY_laidY os _)) ?_
  intro W base args ds gs before hval0 hW hcnd hsz0 hL _
  have hsz : (DataW.weightsEach Tryd.prog (Tryd.f8.params.toList ++ Rows.parseMoreSpec.plain.varTypes Tryd.prog) (ds ++ gs)).all (· ≤ reachBytes) = true := hsz0
  have hval : ∀ (j : Nat) t v, Tryd.f8.params[j]? = some t → args[j]? = some v → Value.okWide Tryd.prog W .any base t v := hval0
  have hW' := hW
  obtain ⟨p, q, hA0, hV, rfl, hfz, hnd⟩ := hW
  have hA : DataW.TrodAll enc Tryd.prog W 0 (fun _ => true) true Tryd.f8.params.toList args.toList ds p := hA0
  rw [Tryd.params8] at hA hval hsz
  obtain ⟨v0, d0, rfl, rfl, h0⟩ := trodAll_one hA
  obtain ⟨rfl, rfl⟩ := trodVars_none hV
  have sm0 : small Tryd.prog 27 d0 := fun q hq => by
    have := List.all_eq_true.1 hsz q (weights_each (j := 0) rfl rfl q hq)
    simpa using this
  obtain ⟨f0, rfl, hf0⟩ := Go.Proofs.YtdeollmeljaaoaaDoor.rd.open_phrase (hval 0 27 v0 rfl rfl) h0 sm0
  clear hA0 hval0
  refine (walk W (Y_of hL) f0 hf0).mono fun e W' ⟨he, hg⟩ => ?_
  subst he
  exact ⟨_, rfl, law_post (tb := 4) Tryd.laidOut (by kernel_rfl) (by kernel_rfl) Tryd.underlying4 rfl hW' hg rfl rfl rfl⟩

theorem bare : Rows.ParseMoreSaid :=
  OpenClaim.holds_of_wide 8 Tryd.f8 rfl rfl rfl rfl rfl rfl rfl ⟨rfl, rfl, rfl, rfl, rfl⟩ rfl rfl rfl rfl rfl (by kernel_rfl) Tryd.func8 (by kernel_rfl)
    (of_decide_eq_true (by kernel_rfl)) (by unfold Func.isWrapper; first | (rw [if_pos (by decide +kernel)]; kernel_rfl) | (rw [if_neg (by decide +kernel)]; exact ⟨rfl, rfl⟩))
    (fun os started H enc _ => lifted os started H enc)
/-- The card: the row's one listed variable is tied to the program's text. -/
theorem proved : Rows.ParseMoreCardSaid :=
  Claim7.holds_tied_plain_at .later [] [.data, .data, .data, .data, .data, .data, .data] true _ true bare (fun _ h => by cases h) (by kernel_rfl) (fun _ h => by cases h) parseMore_row_tie rfl ⟨rfl, rfl⟩ (by kernel_rfl) rfl
    (fun f fn hf hfn => by
      obtain rfl : f = 8 := Option.some.inj ((show Tryd.prog.funcNamed "padlock/padlockkeep.ParseMore" = some 8 by kernel_rfl).symm.trans hf) |>.symm
      obtain rfl : fn = Tryd.f8 := (Option.some.inj (Tryd.func8.symm.trans hfn)).symm
      refine ⟨by kernel_rfl, fun j t ht => ?_⟩
      rw [Tryd.params8] at ht
      rcases j with _ | j <;> simp at ht <;> subst ht <;> kernel_rfl)
    (by kernel_rfl)
#print axioms proved
end Go.Proofs.YtdeollmeljaaoaaDoor.lParseMore
