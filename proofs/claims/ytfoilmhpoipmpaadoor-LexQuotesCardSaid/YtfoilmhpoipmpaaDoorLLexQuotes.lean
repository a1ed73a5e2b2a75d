/- Two quotes in a string are one; marks are as long as can be. The row lists the program's table of marks and variables of the library; the card ties them to the texts. -/
import Derived.Test.YtfoilmhpoipmpaaDoorVd
import Derived.Test.YtfoilmhpoipmpaaDoorVc
namespace Go.Proofs.YtfoilmhpoipmpaaDoor.lLexQuotes
open Go.ChangeShapes Go.WideShapes Go.ChangeAt Go.RowKit Go.Joins
open Go.ChangeMaps (open_string shut_string)
set_option linter.unusedVariables false
set_option linter.unusedSimpArgs false
set_option maxHeartbeats 400000

def L9 : List Tk := [⟨1, [97], 0⟩, ⟨4, [60, 61], 0⟩, ⟨1, [98], 0⟩, ⟨4, [60, 62], 0⟩, ⟨1, [99], 0⟩, ⟨4, [62, 61], 0⟩, ⟨1, [100], 0⟩, ⟨4, [60], 0⟩, ⟨1, [101], 0⟩]
theorem cut9 : cutL [97, 60, 61, 98, 60, 62, 99, 62, 61, 100, 60, 101] = ⟨L9, 0, 0⟩ := by kernel_rfl
set_option maxHeartbeats 2000000 in
theorem walk (W : World) (hB : Lb W) (s : ByteArray) (ws : s.size ≤ maxLen) : Calls Tryd.prog 8 #[.string s] W fun e w' => e = .returned (.bool true) ∧ Below W.heap.size W w' := by
  have HX := Lib.hid hB.1
  have HJ := Lib.hid hB.2
  have hct := kcut_any W s 30 (by omega) ws
  have hc30 : ((30 : Nat) : Int) = 30 := rfl
  rw [hc30] at hct
  obtain ⟨t, ht⟩ : ∃ t, t = s.extract 0 30 := ⟨_, rfl⟩
  have htz : t.size ≤ 30 := by rw [ht, ByteArray.size_extract]; omega
  rw [← ht] at hct
  have HCT := Lib.hid hct
  clear hct ht hc30 hB
  obtain ⟨l, hl⟩ : ∃ l : List Tk, l = [⟨3, t.data.toList, 0⟩] := ⟨_, rfl⟩
  have hlen : l.length = 1 := by rw [hl]; rfl
  have hsm : Sm l := by
    rw [hl]
    intro x hx
    simp at hx
    subst hx
    exact ⟨by show t.data.toList.length ≤ _; rw [len_size]; omega, by show (-9223372036854775808 : Int) ≤ 0; omega, by show (0 : Int) ≤ _; omega⟩
  have hok : Ok l := by
    rw [hl]
    intro x hx
    simp at hx
    subst hx
    refine ⟨?_, by show (0 : Int) ≤ _; omega⟩
    show tkF 3 t.data.toList 0 = 0
    unfold tkF txt
    simp
  have hjl : (joined l).length ≤ 400 := by
    have h1 := dbl_len t.data.toList
    rw [len_size] at h1
    rw [hl]
    have : joined [⟨3, t.data.toList, 0⟩] = [39] ++ dblT t.data.toList ++ [39] ++ [32] := by
      unfold joined spellT
      simp [joined]
    rw [this]
    simp
    omega
  have htk : tkc l = [.int .i64 3, .string t, .int .i64 0] := by rw [hl]; simp [tkc, mk_of]
  have HL := Lib.hid hl
  have HLEN := Lib.hid hlen
  have HSM := Lib.hid hsm
  have HOK := Lib.hid hok
  have HJL := Lib.hid hjl
  have HTK := Lib.hid htk
  clear hl hlen hsm hok hjl htk
  go_enter Tryd.func8, Tryd.ntmps8
  go_wp2_with (go_at_call 22; ((with_reducible refine HCT.out.mono ?_); rintro e w' ⟨rfl, rfl⟩))
  have hrd : Rd (W.alloc (.cells #[.int .i64 3, .string t, .int .i64 0] 29)) 3 l.length (.slice (some ⟨W.heap.size, 0, none⟩) 1 1) (tkc l) := by
    rw [HLEN.out, HTK.out]
    exact rd_new1 _ _ _ _ _
  refine (join_ok _ (HJ.out.below ((Below.refl _ _).alloc (Nat.le_refl _) _)) _ l hrd HSM.out HOK.out (by rw [HLEN.out]; omega) HJL.out).mono ?_
  rintro e w1 ⟨rfl, hb1⟩
  obtain ⟨j, hj⟩ : ∃ j : ByteArray, j = ⟨(joined l).toArray⟩ := ⟨_, rfl⟩
  rw [← hj]
  have hjd : j.data.toList = joined l := by rw [hj]
  have HJD := Lib.hid hjd
  have HB1 := Lib.hid (into ((Below.refl _ _).alloc (Nat.le_refl _) _) hb1)
  clear hb1 hj hjd hrd
  go_wp2_with fail
  refine (cut_ok _ (HX.out.below HB1.out) j l HJD.out HOK.out (by rw [HLEN.out]; omega) HJL.out).mono ?_
  rintro e w2 ⟨v2, rfl, hr2, hb2⟩
  simp only at hr2
  have HR2 := Lib.hid hr2
  have HB2 := Lib.hid (into HB1.out hb2)
  clear hr2 hb2 HB1
  go_wp2_with fail
  have hc9 := cut_any w2 (HX.out.below HB2.out) ⟨#[97, 60, 61, 98, 60, 62, 99, 62, 61, 100, 60, 101]⟩ (by decide)
  rw [show (⟨#[97, 60, 61, 98, 60, 62, 99, 62, 61, 100, 60, 101]⟩ : ByteArray).data.toList = [97, 60, 61, 98, 60, 62, 99, 62, 61, 100, 60, 101] from rfl, cut9] at hc9
  refine hc9.mono ?_
  rintro e w3 ⟨v3, rfl, hr3, hb3⟩
  simp only at hr3
  have hr2 := HR2.out.below hb3
  have HB3 := Lib.hid (into HB2.out hb3)
  rw [HTK.out, HLEN.out] at hr2
  obtain ⟨b, o, cap, rfl, _, _, _, g⟩ := hr2.pos (by omega) (by omega)
  obtain ⟨b', o', cap', rfl, _, _, _, g'⟩ := hr3.pos (by decide) (by omega)
  have c1 := g 1 (.string t) rfl
  have d1 := g' 4 (.string ⟨#[60, 61]⟩) rfl
  have d3 := g' 10 (.string ⟨#[60, 62]⟩) rfl
  have d5 := g' 16 (.string ⟨#[62, 61]⟩) rfl
  have d7 := g' 22 (.string ⟨#[60]⟩) rfl
  have e9 : L9.length = 9 := rfl
  rw [e9]
  clear hc9 hr2 hr3 hb3 g g' HR2 HB2 e9
  go_wp2_with fail
  go_ret
  exact ⟨rfl, HB3.out⟩

set_option maxRecDepth 100000 in
theorem lifted (os : Os) (started : os.Started) (H : Type) (enc : TypeId × Value → H) :
    ReturnsInHanded {} Tryd.checked os 8 .any (fun w args => (Rows.lexQuotesSpec.pre enc Tryd.prog Tryd.f8 [] false w args ∧ laidA w) ∧ sizedMet enc Tryd.prog Tryd.f8 (OpenSpec.ofChange Rows.lexQuotesSpec) false w args) (Rows.lexQuotesSpec.post enc Tryd.prog Tryd.f8 false true false false) := by
  refine handed_and_shaped (C := Tryd.checked) (X := fun w _ => laidA w) (fun _ _ _ hh h => h.of_heap hh) Tryd.own started (by kernel_rfl) Tryd.func8
    (ChangeSpec.witness_at (enc := enc) (C := Tryd.checked) (os := os) (X := fun w _ => laidA w) false (tabledA os) #[.string ⟨#[]⟩] 8 rfl (by kernel_rfl) (by kernel_rfl) (by kernel_rfl) (by kernel_rfl) (by kernel_rfl) (tabledA_laid os _)) ?_
  intro W base args ds gs before hval0 hW hcnd hsz0 hL hsh _
  have hsz : (DataW.weightsEach Tryd.prog (Tryd.f8.params.toList ++ Rows.lexQuotesSpec.plain.varTypes Tryd.prog) (ds ++ gs)).all (· ≤ reachBytes) = true := hsz0
  have hval : ∀ (j : Nat) t v, Tryd.f8.params[j]? = some t → args[j]? = some v → Value.okWide Tryd.prog W .any base t v := hval0
  have hW' := hW
  obtain ⟨p, q, hA0, hV, rfl, hfz, hnd⟩ := hW
  have hA : DataW.TrodAll enc Tryd.prog W 0 (fun _ => true) true Tryd.f8.params.toList args.toList ds p := hA0
  rw [Tryd.params8] at hA hval hsz
  obtain ⟨v0, d0, rfl, rfl, h0⟩ := trodAll_one hA
  obtain ⟨rfl, rfl⟩ := trodVars_none hV
  obtain ⟨t0, rfl, rfl, rfl, ws0⟩ := open_string Tryd.underlying9 (hval 0 9 v0 rfl rfl) h0
  clear hA0 hval0
  refine (walk W (B_of hL hsh) t0 ws0).mono fun e W' ⟨he, hg⟩ => ?_
  subst he
  exact ⟨_, rfl, law_post (tb := 4) Tryd.laidOut (by kernel_rfl) (by kernel_rfl) Tryd.underlying4 rfl hW' hg rfl rfl rfl⟩

theorem bare : Rows.LexQuotesSaid :=
  OpenClaim.holds_of_wide 8 Tryd.f8 rfl rfl rfl rfl rfl rfl rfl ⟨rfl, rfl, rfl, rfl, rfl⟩ rfl rfl rfl rfl rfl (by kernel_rfl) Tryd.func8 (by kernel_rfl)
    (of_decide_eq_true (by kernel_rfl)) (by unfold Func.isWrapper; first | (rw [if_pos (by decide +kernel)]; kernel_rfl) | (rw [if_neg (by decide +kernel)]; exact ⟨rfl, rfl⟩))
    (fun os started H enc _ => lifted os started H enc)
/-- The card: the row's one listed variable is tied to the program's text. -/
theorem proved : Rows.LexQuotesCardSaid :=
  Claim7.holds_tied_plain_at .later [] [.data, .data, .data, .data, .sentinel, .sentinel, .data, .pinned] true _ true bare (fun _ h => by cases h) (by kernel_rfl) (fun _ h => by cases h) lexQuotes_row_tie rfl ⟨rfl, rfl⟩ (by kernel_rfl) rfl
    (fun f fn hf hfn => by
      obtain rfl : f = 8 := Option.some.inj ((show Tryd.prog.funcNamed "padlock/padlockkeep.LexQuotes" = some 8 by kernel_rfl).symm.trans hf) |>.symm
      obtain rfl : fn = Tryd.f8 := (Option.some.inj (Tryd.func8.symm.trans hfn)).symm
      refine ⟨by kernel_rfl, fun j t ht => ?_⟩
      rw [Tryd.params8] at ht
      rcases j with _ | j <;> simp at ht <;> subst ht <;> kernel_rfl)
    (by kernel_rfl)
#print axioms proved
end Go.Proofs.YtfoilmhpoipmpaaDoor.lLexQuotes
