/- codec.Decode answers as the document's answer does: at every list of bytes; the program's one listed table is tied to its text. No condition. -/
import Derived.Test.YtakhkcabahhohaaDoorDl
import Derived.Test.YtakhkcabahhohaaDoorFo
import Derived.Test.YtakhkcabahhohaaDoorE3
import Derived.Test.YtakhkcabahhohaaDoorD5
import Derived.Test.YtakhkcabahhohaaDoorC8
import Derived.Test.YtakhkcabahhohaaDoorC9
namespace Go.Proofs.YtakhkcabahhohaaDoor.lCodecDecodes
open Go.ChangeShapes Go.WideShapes Go.ChangeAt Go.RowKit Go.Joins
open Go.ChangeMaps (open_string shut_string)
set_option linter.unusedVariables false
set_option linter.unusedSimpArgs false
set_option maxHeartbeats 400000

theorem walk (w : World) (hL : Lst w) (m : Nat) (v : Value) (l : List UInt8) (hr : Rd w 1 m v (bc l)) (hz : m * 1 ≤ 140737488351232) :
    Calls Tryd.prog 3 #[v] w fun e w' => e = .returned (.bool true) ∧ Below w.heap.size w w' := by
  have HR := Lib.hid hr
  have HL := Lib.hid hL
  clear hr hL
  go_enter Tryd.func3, Tryd.ntmps3
  go_wp2_with fail
  refine (oc_any _ _ _ _ (by omega) HR.out).mono ?_
  rintro e w1 ⟨v1, rfl, hown1, hb1⟩
  have H1 := Lib.hid (Rd.own hown1)
  clear hown1
  go_wp2_with fail
  refine (dec_any _ _ _ _ (HL.out.below hb1) H1.out).mono ?_
  rintro e w2 ⟨v2, rfl, hown2, hb2⟩
  have H2 := Lib.hid (Rd.own hown2)
  clear hown2
  go_wp2_with fail
  refine (kv_any _ _ _ _ ((HR.out.below hb1).below hb2)).mono ?_
  rintro e w3 ⟨v3, rfl, hown3, hb3⟩
  have H3 := Lib.hid (Rd.own hown3)
  have H2' := Lib.hid (H2.out.below hb3)
  clear hown3
  go_wp2_with (go_at_call 11; refine (sv_any _ _ _ _ _ H2'.out H3.out).mono ?_; rintro e w4 ⟨rfl, hb4⟩)
  go_ret
  exact ⟨rfl, into (into (into hb1 hb2) hb3) hb4⟩

theorem lifted (os : Os) (started : os.Started) (H : Type) (enc : TypeId × Value → H) :
    ReturnsInHanded {} Tryd.checked os 3 .any (fun w args => (Rows.codecDecodesSpec.pre enc Tryd.prog Tryd.f3 [] false w args ∧ laid1 w) ∧ sizedMet enc Tryd.prog Tryd.f3 (OpenSpec.ofChange Rows.codecDecodesSpec) false w args) (Rows.codecDecodesSpec.post enc Tryd.prog Tryd.f3 false true false false) := by
  refine returnsInHanded_of_change_and (C := Tryd.checked) (X := fun w _ => laid1 w) (fun _ _ _ hh h => h.of_heap hh) Tryd.own started (by kernel_rfl) Tryd.func3
    (ChangeSpec.witness_at (enc := enc) (C := Tryd.checked) (os := os) (X := fun w _ => laid1 w) false (tabled os) #[.slice none 0 0] 8 rfl (by kernel_rfl) (by kernel_rfl) (by kernel_rfl) (by kernel_rfl) (by kernel_rfl) (tabled_laid os _)) ?_
  intro W base args ds gs before hval0 hW hcnd hsz0 hL _
  have hsz : (DataW.weightsEach Tryd.prog (Tryd.f3.params.toList ++ Rows.codecDecodesSpec.plain.varTypes Tryd.prog) (ds ++ gs)).all (· ≤ reachBytes) = true := hsz0
  have hval : ∀ (j : Nat) t v, Tryd.f3.params[j]? = some t → args[j]? = some v → Value.okWide Tryd.prog W .any base t v := hval0
  have hW' := hW
  obtain ⟨p, q, hA0, hV, rfl, hfz, hnd⟩ := hW
  have hA : DataW.TrodAll enc Tryd.prog W 0 (fun _ => true) true Tryd.f3.params.toList args.toList ds p := hA0
  rw [Tryd.params3] at hA hval hsz
  obtain ⟨v0, d0, rfl, rfl, h0⟩ := trodAll_one hA
  obtain ⟨rfl, rfl⟩ := trodVars_none hV
  obtain ⟨n0, l0, hr0, hs0⟩ := open_by Tryd.underlying22 Tryd.underlying5 (by kernel_rfl) (hval 0 22 v0 rfl rfl) h0
  have hz0 : n0 * 1 ≤ 140737488351232 := by
    rcases hs0 with rfl | ⟨es, sp, hd, hl⟩
    · omega
    · subst hd
      have := sized_slice hsz (j := 0) (t := 22) (e := 5) rfl rfl Tryd.underlying22
      rw [show Tryd.prog.bytesOf 5 = 1 by kernel_rfl, hl] at this
      simp only [reachBytes] at this
      omega
  clear hA0 hval0
  refine (walk W (Lst_of hL) n0 v0 l0 hr0 hz0).mono fun e W' ⟨he, hg⟩ => ?_
  subst he
  exact ⟨_, rfl, law_post (tb := 4) Tryd.laidOut (by kernel_rfl) (by kernel_rfl) Tryd.underlying4 rfl hW' hg rfl rfl rfl⟩

theorem bare : Rows.CodecDecodesSaid :=
  OpenClaim.holds_of_wide 3 Tryd.f3 rfl rfl rfl rfl rfl rfl rfl ⟨rfl, rfl, rfl, rfl, rfl⟩ rfl rfl rfl rfl rfl (by kernel_rfl) Tryd.func3 (by kernel_rfl)
    (of_decide_eq_true (by kernel_rfl)) (by unfold Func.isWrapper; first | (rw [if_pos (by decide +kernel)]; kernel_rfl) | (rw [if_neg (by decide +kernel)]; exact ⟨rfl, rfl⟩))
    (fun os started H enc _ => lifted os started H enc)
/-- The card: the row's one listed variable is tied to the program's text. -/
theorem proved : Rows.CodecDecodesCardSaid :=
  Claim7.holds_tied_plain_at .later [] [.data] true _ false bare (fun _ h => by cases h) (by kernel_rfl) (fun _ h => by cases h) codecDecodes_row_tie rfl ⟨rfl, rfl⟩ (by kernel_rfl) rfl
    (fun f fn hf hfn => by
      obtain rfl : f = 3 := Option.some.inj ((show Tryd.prog.funcNamed "padlock/padlocklaw.CodecDecodes" = some 3 by kernel_rfl).symm.trans hf) |>.symm
      obtain rfl : fn = Tryd.f3 := (Option.some.inj (Tryd.func3.symm.trans hfn)).symm
      refine ⟨by kernel_rfl, fun j t ht => ?_⟩
      rw [Tryd.params3] at ht
      rcases j with _ | _ | j <;> simp at ht <;> subst ht <;> kernel_rfl)
    (by kernel_rfl)
#print axioms proved
end Go.Proofs.YtakhkcabahhohaaDoor.lCodecDecodes
