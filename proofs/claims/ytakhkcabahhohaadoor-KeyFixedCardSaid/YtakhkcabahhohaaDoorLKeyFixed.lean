/- No values have two keys: at every list of bytes; the program's one listed table is tied to its text. No condition. -/
import Derived.Test.YtakhkcabahhohaaDoorDl
import Derived.Test.YtakhkcabahhohaaDoorFo
import Derived.Test.YtakhkcabahhohaaDoorD5
import Derived.Test.YtakhkcabahhohaaDoorC4
namespace Go.Proofs.YtakhkcabahhohaaDoor.lKeyFixed
open Go.ChangeShapes Go.WideShapes Go.ChangeAt Go.RowKit Go.Joins
open Go.ChangeMaps (open_string shut_string)
set_option linter.unusedVariables false
set_option linter.unusedSimpArgs false
set_option maxHeartbeats 400000

theorem walk (w : World) (hL : Lst w) (n : Nat) (v : Value) (l : List UInt8) (hr : Rd w 1 n v (bc l)) (hz : n * 1 ≤ 140737488351232) :
    Calls Tryd.prog 5 #[v] w fun e w' => e = .returned (.bool true) ∧ Below w.heap.size w w' := by
  have HR := Lib.hid hr
  have HL := Lib.hid hL
  have hml := hr.len
  have hd := dec_is l
  have hd2 := dec_bad l
  obtain ⟨D, hD⟩ : ∃ D, D = dec l := ⟨_, rfl⟩
  rw [← hD] at hd hd2
  obtain ⟨m, e⟩ := D
  have HD := Lib.hid hD
  have HD1 := Lib.hid hd
  have HD2 := Lib.hid hd2
  clear hr hL hD hd hd2
  go_enter Tryd.func5, Tryd.ntmps5
  go_wp2_with (at_builtin; refine apg w n rfl _ _ 22 5 _ 1 1 Tryd.underlying22 Tryd.info5 rfl (by omega) rfl (World.ownsRow_nil w w.heap.size _ _) (Nat.le_refl _) (by omega) (by omega) (bc_one _) HR.out rfl rfl ?_; intro v1 w1 hown1 hb1 _)
  have h1 : Rd w1 1 (0 + n) v1 (bc l) := Rd.own hown1
  have cd := dec_any _ _ l w1 (HL.out.below hb1) h1
  rw [← HD.out] at cd
  refine cd.mono ?_
  clear cd h1 hown1
  by_cases he : e = 0
  · subst he
    obtain ⟨g1, g2, g3⟩ := HD1.out rfl
    have HG1 := Lib.hid g1
    have HG2 := Lib.hid g2
    rintro e w2 ⟨v2, rfl, hown2, hb2⟩
    have H2 := Lib.hid (Rd.own hown2)
    clear hown2 g1 g2 g3
    go_wp2_with fail
    have ce := enc_any _ _ m w2 (fun u hu => (HG2.out u hu).2) H2.out
    rw [HG1.out] at ce
    refine ce.mono ?_
    clear ce
    rintro e w3 ⟨v3, rfl, hown3, hb3⟩
    have q1 := str_of (Rd.own hown3)
    have q2 := str_of (((HR.out.below hb1).below hb2).below hb3)
    have HE := Lib.hid (into (into hb1 hb2) hb3)
    clear hown3 hb1 hb2 hb3
    go_wp2_with fail
    go_ret
    exact ⟨rfl, HE.out⟩
  · have hm : m = [] := HD2.out he
    subst hm
    have he' : (e == 0) = false := by simpa using he
    rintro e2 w2 ⟨v2, rfl, hown2, hb2⟩
    obtain ⟨_, ao2, cap2, rfl, _⟩ := Rd.own hown2
    have HE := Lib.hid (into hb1 hb2)
    clear hown2 hb1 hb2
    go_wp2_with fail
    go_ret
    exact ⟨rfl, HE.out⟩

theorem lifted (os : Os) (started : os.Started) (H : Type) (enc : TypeId × Value → H) :
    ReturnsInHanded {} Tryd.checked os 5 .any (fun w args => (Rows.keyFixedSpec.pre enc Tryd.prog Tryd.f5 [] false w args ∧ laid1 w) ∧ sizedMet enc Tryd.prog Tryd.f5 (OpenSpec.ofChange Rows.keyFixedSpec) false w args) (Rows.keyFixedSpec.post enc Tryd.prog Tryd.f5 false true false false) := by
  refine returnsInHanded_of_change_and (C := Tryd.checked) (X := fun w _ => laid1 w) (fun _ _ _ hh h => h.of_heap hh) Tryd.own started (by kernel_rfl) Tryd.func5
    (ChangeSpec.witness_at (enc := enc) (C := Tryd.checked) (os := os) (X := fun w _ => laid1 w) false (tabled os) #[.slice none 0 0] 8 rfl (by kernel_rfl) (by kernel_rfl) (by kernel_rfl) (by kernel_rfl) (by kernel_rfl) (tabled_laid os _)) ?_
  intro W base args ds gs before hval0 hW hcnd hsz0 hL _
  have hsz : (DataW.weightsEach Tryd.prog (Tryd.f5.params.toList ++ Rows.keyFixedSpec.plain.varTypes Tryd.prog) (ds ++ gs)).all (· ≤ reachBytes) = true := hsz0
  have hval : ∀ (j : Nat) t v, Tryd.f5.params[j]? = some t → args[j]? = some v → Value.okWide Tryd.prog W .any base t v := hval0
  have hW' := hW
  obtain ⟨p, q, hA0, hV, rfl, hfz, hnd⟩ := hW
  have hA : DataW.TrodAll enc Tryd.prog W 0 (fun _ => true) true Tryd.f5.params.toList args.toList ds p := hA0
  rw [Tryd.params5] at hA hval hsz
  obtain ⟨v0, d0, rfl, rfl, h0⟩ := trodAll_one hA
  obtain ⟨rfl, rfl⟩ := trodVars_none hV
  obtain ⟨n0, l0, hr0, hs0⟩ := open_by Tryd.underlying22 Tryd.underlying5 (by kernel_rfl) (hval 0 22 v0 rfl rfl) h0
  have hz0 : n0 * 1 ≤ 140737488351232 := by
    rcases hs0 with rfl | ⟨es, sp, hd, hl⟩
    · omega
    · subst hd
      have := sized_slice hsz (j := 0) (t := 22) (e := 5) rfl rfl Tryd.underlying22
      rw [show Tryd.prog.bytesOf 5 = 1 by kernel_rfl, hl] at this
      simp only [reachBytes] at this
      omega
  clear hA0 hval0
  refine (walk W (Lst_of hL) n0 v0 l0 hr0 hz0).mono fun e W' ⟨he, hg⟩ => ?_
  subst he
  exact ⟨_, rfl, law_post (tb := 4) Tryd.laidOut (by kernel_rfl) (by kernel_rfl) Tryd.underlying4 rfl hW' hg rfl rfl rfl⟩

theorem bare : Rows.KeyFixedSaid :=
  OpenClaim.holds_of_wide 5 Tryd.f5 rfl rfl rfl rfl rfl rfl rfl ⟨rfl, rfl, rfl, rfl, rfl⟩ rfl rfl rfl rfl rfl (by kernel_rfl) Tryd.func5 (by kernel_rfl)
    (of_decide_eq_true (by kernel_rfl)) (by unfold Func.isWrapper; first | (rw [if_pos (by decide +kernel)]; kernel_rfl) | (rw [if_neg (by decide +kernel)]; exact ⟨rfl, rfl⟩))
    (fun os started H enc _ => lifted os started H enc)
/-- The card: the row's one listed variable is tied to the program's text. -/
theorem proved : Rows.KeyFixedCardSaid :=
  Claim7.holds_tied_plain_at .later [] [.data] true _ false bare (fun _ h => by cases h) (by kernel_rfl) (fun _ h => by cases h) keyFixed_row_tie rfl ⟨rfl, rfl⟩ (by kernel_rfl) rfl
    (fun f fn hf hfn => by
      obtain rfl : f = 5 := Option.some.inj ((show Tryd.prog.funcNamed "padlock/padlockkeep.KeyFixed" = some 5 by kernel_rfl).symm.trans hf) |>.symm
      obtain rfl : fn = Tryd.f5 := (Option.some.inj (Tryd.func5.symm.trans hfn)).symm
      refine ⟨by kernel_rfl, fun j t ht => ?_⟩
      rw [Tryd.params5] at ht
      rcases j with _ | _ | j <;> simp at ht <;> subst ht <;> kernel_rfl)
    (by kernel_rfl)
#print axioms proved
end Go.Proofs.YtakhkcabahhohaaDoor.lKeyFixed
