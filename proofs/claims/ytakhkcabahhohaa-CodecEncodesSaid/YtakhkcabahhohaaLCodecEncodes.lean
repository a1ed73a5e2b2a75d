/- codec.Encode answers as the document's answer does, and changes nothing that it is given: at every list of values. No condition. -/
import Derived.Test.YtakhkcabahhohaaFo
import Derived.Test.YtakhkcabahhohaaC6
import Derived.Test.YtakhkcabahhohaaC7
import Derived.Test.YtakhkcabahhohaaC8
namespace Go.Proofs.Ytakhkcabahhohaa.lCodecEncodes
open Go.ChangeShapes Go.WideShapes Go.ChangeAt Go.RowKit Go.Joins
open Go.ChangeMaps (open_string shut_string)
set_option linter.unusedVariables false
set_option linter.unusedSimpArgs false
set_option maxHeartbeats 400000

theorem fits_of {l : List V} (h : ∀ u ∈ l, (Lit.int .i64 u.k).wf = true ∧ (Lit.int .i64 u.n).wf = true ∧ u.t.size ≤ maxLen) : Fits l := fun u hu => rng_of (h u hu).2.1
theorem walk (w : World) (m : Nat) (v : Value) (l : List V) (hr : Rd w 3 m v (vc l)) (hw : ∀ u ∈ l, (Lit.int .i64 u.k).wf = true ∧ (Lit.int .i64 u.n).wf = true ∧ u.t.size ≤ maxLen) (hz : m * 32 ≤ 140737488351232) :
    Calls Try.prog 3 #[v] w fun e w' => e = .returned (.bool true) ∧ Below w.heap.size w w' := by
  have HF := Lib.hid (fits_of hw)
  have HR := Lib.hid hr
  clear hw hr
  go_enter Try.func3, Try.ntmps3
  go_wp2_with (first
    | (go_at_call 6; refine (vs_any _ _ _ _ (by omega) HR.out).mono ?_; rintro e w1 ⟨v1, rfl, hown1, hb1⟩; have H1 := Lib.hid (Rd.own hown1); clear hown1)
    | (go_at_call 7; refine (enc_any _ _ _ _ HF.out H1.out).mono ?_; rintro e w2 ⟨v2, rfl, hown2, hb2⟩; have H2 := Lib.hid (Rd.own hown2); clear hown2)
    | (go_at_call 8; refine (kb_any _ _ _ _ HF.out ((HR.out.below hb1).below hb2)).mono ?_; rintro e w3 ⟨v3, rfl, hown3, hb3⟩; have H3 := Lib.hid (Rd.own hown3); clear hown3; have q1 := str_of (H2.out.below hb3); have q2 := str_of H3.out)
    | (go_at_call 9; refine (sv_any _ _ _ _ _ ((H1.out.below hb2).below hb3) (((HR.out.below hb1).below hb2).below hb3)).mono ?_; rintro e w4 ⟨rfl, hb4⟩))
  go_ret
  exact ⟨rfl, into (into (into hb1 hb2) hb3) hb4⟩

theorem lifted (os : Os) (started : os.Started) (H : Type) (enc : TypeId × Value → H) :
    ReturnsInHanded {} Try.checked os 3 .any (Rows.codecEncodesSpec.pre6 enc Try.prog Try.f3 Rows.codecEncodesRow.domain false) (Rows.codecEncodesSpec.post enc Try.prog Try.f3 false true false false) := by
  refine returnsInHanded_of_change_sized (C := Try.checked) Try.own started (by kernel_rfl) Try.func3
    (ChangeSpec.witness6 (enc := enc) (C := Try.checked) false ⟨#[], #[.slice none 0 0], []⟩ 8 (by kernel_rfl) (by kernel_rfl) (by kernel_rfl) (by kernel_rfl)) ?_
  intro W base args ds gs before hval0 hW hcnd hsz0 _
  have hsz : (DataW.weightsEach Try.prog (Try.f3.params.toList ++ Rows.codecEncodesSpec.plain.varTypes Try.prog) (ds ++ gs)).all (· ≤ reachBytes) = true := hsz0
  have hval : ∀ (j : Nat) t v, Try.f3.params[j]? = some t → args[j]? = some v → Value.okWide Try.prog W .any base t v := hval0
  have hW' := hW
  obtain ⟨p, q, hA0, hV, rfl, hfz, hnd⟩ := hW
  have hA : DataW.TrodAll enc Try.prog W 0 (fun _ => true) true Try.f3.params.toList args.toList ds p := hA0
  rw [Try.params3] at hA hval hsz
  obtain ⟨v0, d0, rfl, rfl, h0⟩ := trodAll_one hA
  obtain ⟨rfl, rfl⟩ := trodVars_none hV
  obtain ⟨n0, l0, hr0, hw0, hs0⟩ := open_v3 Try.underlying22 Try.underlying33 (by kernel_rfl) (by kernel_rfl) Try.underlying3 Try.underlying3 Try.underlying9 (hval 0 22 v0 rfl rfl) h0
  have hz0 : n0 * 32 ≤ 140737488351232 := by
    rcases hs0 with rfl | ⟨es, sp, hd, hl⟩
    · omega
    · subst hd
      have := sized_slice hsz (j := 0) (t := 22) (e := 33) rfl rfl Try.underlying22
      rw [show Try.prog.bytesOf 33 = 32 by kernel_rfl, hl] at this
      simp only [reachBytes] at this
      omega
  clear hA0 hval0
  refine (walk W n0 v0 l0 hr0 hw0 hz0).mono fun e W' ⟨he, hg⟩ => ?_
  subst he
  exact ⟨_, rfl, law_post (tb := 4) Try.laidOut (by kernel_rfl) (by kernel_rfl) Try.underlying4 rfl hW' hg rfl rfl rfl⟩

theorem proved : Rows.CodecEncodesSaid :=
  OpenClaim.holds_of_wide 3 Try.f3 rfl rfl rfl rfl rfl rfl rfl ⟨rfl, rfl, rfl, rfl, rfl⟩ rfl rfl rfl rfl rfl (by kernel_rfl) Try.func3 (by kernel_rfl)
    (of_decide_eq_true (by kernel_rfl)) (by unfold Func.isWrapper; first | (rw [if_pos (by decide +kernel)]; kernel_rfl) | (rw [if_neg (by decide +kernel)]; exact ⟨rfl, rfl⟩))
    (fun os started H enc _ => lifted os started H enc)
#print axioms proved
end Go.Proofs.Ytakhkcabahhohaa.lCodecEncodes
