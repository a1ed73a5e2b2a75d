/- There are not too many tokens, nor is a statement too long: at every raw number. The row lists the program's table of marks and variables of the library; the card ties them to the texts. -/
import Derived.Test.YtfoilmhpoipmpaaDoorVd
import Derived.Test.YtfoilmhpoipmpaaDoorVe
namespace Go.Proofs.YtfoilmhpoipmpaaDoor.lLexMany
open Go.ChangeShapes Go.WideShapes Go.ChangeAt Go.RowKit Go.Joins
open Go.ChangeMaps (open_string shut_string)
set_option linter.unusedVariables false
set_option linter.unusedSimpArgs false
set_option maxHeartbeats 400000

set_option maxRecDepth 100000 in
set_option maxHeartbeats 2000000 in
theorem walk (W : World) (hB : Lb W) (x : Int) (wx : (Lit.int .i64 x).wf = true) : Calls Tryd.prog 9 #[.int .i64 x] W fun e w' => e = .returned (.bool true) ∧ Below W.heap.size W w' := by
  have HX := Lib.hid hB.1
  have HJ := Lib.hid hB.2
  have hp := pck_any x 300 W (rn_of wx) (by omega) (by omega)
  obtain ⟨p1, p2⟩ := pck_in x 300 (by omega)
  obtain ⟨k, hk⟩ : ∃ k : Nat, pck x 300 = (k : Int) := ⟨(pck x 300).toNat, by omega⟩
  rw [hk] at hp p1 p2
  have hk300 : k < 300 := by omega
  have HP := Lib.hid hp
  clear hp hk p1 p2 hB wx
  go_enter Tryd.func9, Tryd.ntmps9
  go_wp2_with (go_at_call 20; refine HP.out.mono ?_; rintro e w' ⟨rfl, rfl⟩)
  go_loopw [4, 5, 6] (fun sv v i wr => ∃ (j : Nat) (sb : ByteArray), j ≤ k ∧ i = .int .i64 (j : Int) ∧ sv = .string sb ∧ sb.size = j ∧ Hid (sb.data.toList = List.replicate j 44) ∧ Hid (wr.ownsRow W.heap.size 29 3 v j (tkc (List.replicate j cm))) ∧ Hid (Below W.heap.size W wr)) (fun _ _ i _ => k - (intOf i).toNat)
  case atStart => exact ⟨0, _, by omega, rfl, rfl, rfl, rfl, World.ownsRow_nil _ _ _ _, Below.refl _ _⟩
  case round =>
    obtain ⟨j, sb, hjk, rfl, rfl, hsb, HS, HO, HBL⟩ := hrel
    have hwz := HBL.out.size
    by_cases hlt : j < k
    · have hltI : (j : Int) < (k : Int) := by omega
      go_wp2_with (at_builtin; refine apt _ rfl (.tmp 24) (.tmp 26) rfl HO.out (by omega) (by omega) _ rfl rfl rfl ?_; intro v2 w2 hown2 hb2 _; have HO2 := Lib.hid hown2; have HB2 := Lib.hid hb2; clear hown2 hb2)
      go_roundw
      case rel =>
        refine ⟨j + 1, _, by omega, by go_num, rfl, ?_, ?_, ?_, HBL.out.trans HB2.out⟩
        · rw [ByteArray.size_append, hsb]; rfl
        · show (sb ++ ⟨#[44]⟩).data.toList = _
          rw [List.replicate_succ', ← HS.out]
          simp
        · have := HO2.out
          show World.ownsRow _ _ _ _ _ _ _
          rw [List.replicate_succ', tkc_app]
          exact this
      case measure => simp [intOf]; omega
    · obtain rfl : j = k := by omega
      have hc := cut_any wr (HX.out.below HBL.out) sb (by unfold maxLen; omega)
      rw [HS.out, cut_many j (by omega)] at hc
      have hjo := fun (w : World) (hw : Lj w) (hr : Rd w 3 (List.replicate j cm).length u5 (tkc (List.replicate j cm))) => join_any w hw u5 (List.replicate j cm) hr (ok_many j).2
      rw [joinL_many] at hjo
      have hlen : (List.replicate j cm).length = j := List.length_replicate
      have HLEN := Lib.hid hlen
      have hrd : Rd wr 3 (List.replicate j cm).length u5 (tkc (List.replicate j cm)) := by
        rw [List.length_replicate]
        exact Rd.own HO.out
      have HRD := Lib.hid hrd
      clear hrd hlen HO
      have hz401 : ∀ w2 : World, (Instr.makeSlice 45 (.int .i64 401) (.int .i64 401)).run Tryd.prog w2 = .ok (.slice (some ⟨w2.heap.size, 0, none⟩) 401 401) (w2.alloc (.cells (madeCells #[.int .u8 0] 401) 5)) := fun w2 => by
        obtain ⟨i0, hi, hz0, hz1, hz3⟩ := info_parts Tryd.info5
        have := run_makeSlice (P := Tryd.prog) w2 45 5 i0 (.int .u8 0) Tryd.underlying45 hi hz0 .i64 .i64 401 401 (by omega) (by omega) (by rw [hz1]; decide) (by rw [hz3]; omega) (by omega)
        rw [hz1] at this
        exact this
      have hc401 : cutL (List.replicate 401 0) = ⟨[], 0, 1⟩ := if_pos (by rw [List.length_replicate]; omega)
      have HZ := Lib.hid hz401
      have HC401 := Lib.hid hc401
      clear hz401 hc401
      by_cases h100 : 100 < j
      · rw [if_pos h100] at hc hjo
        have HC := Lib.hid hc
        have HJO := Lib.hid hjo
        clear hc hjo
        have hI : (100 : Int) < (j : Int) := by omega
        go_wp2_with fail
        refine HC.out.mono ?_
        rintro e w1 ⟨v1, rfl, hr1, hb1⟩
        have HB1 := Lib.hid (into HBL.out hb1)
        have HR1 := Lib.hid (HRD.out.below hb1)
        clear hb1 hr1
        go_wp2_with fail
        refine (HJO.out _ (HJ.out.below HB1.out) HR1.out).mono ?_
        rintro e w2 ⟨rfl, hb2⟩
        have HB2 := Lib.hid (into HB1.out hb2)
        clear hb2
        have hmk := HZ.out w2
        have hcv := str_of (zeros401 w2)
        go_wp2_with fail
        have hc3 := cut_any (w2.alloc (.cells (madeCells #[.int .u8 0] 401) 5)) (HX.out.below (HB2.out.alloc HB2.out.size _)) ⟨(List.replicate 401 0).toArray⟩ (by decide)
        rw [show (⟨(List.replicate 401 (0 : UInt8)).toArray⟩ : ByteArray).data.toList = List.replicate 401 0 from rfl, HC401.out] at hc3
        refine hc3.mono ?_
        rintro e w3 ⟨v3, rfl, hr3, hb3⟩
        obtain ⟨_, ao3, cap3, rfl, _⟩ := hr3
        have HB3 := Lib.hid (into (HB2.out.alloc HB2.out.size _) hb3)
        clear hb3 hc3 hmk hcv
        go_wp2_with fail
        go_ret
        exact ⟨rfl, HB3.out⟩
      · rw [if_neg h100] at hc hjo
        have HC := Lib.hid hc
        have HJO := Lib.hid hjo
        clear hc hjo
        have hI : ¬ (100 : Int) < (j : Int) := by omega
        go_wp2_with fail
        refine HC.out.mono ?_
        rintro e w1 ⟨v1, rfl, hr1, hb1⟩
        obtain ⟨_, ao1, cap1, rfl, hcap1, _⟩ := hr1
        simp only at hcap1
        have HB1 := Lib.hid (into HBL.out hb1)
        have HR1 := Lib.hid (HRD.out.below hb1)
        rw [HLEN.out] at hcap1 ⊢
        clear hb1
        go_wp2_with fail
        refine (HJO.out _ (HJ.out.below HB1.out) HR1.out).mono ?_
        rintro e w2 ⟨rfl, hb2⟩
        have HB2 := Lib.hid (into HB1.out hb2)
        obtain ⟨jb, hjb⟩ : ∃ jb : ByteArray, jb = ⟨(joined (List.replicate j cm)).toArray⟩ := ⟨_, rfl⟩
        have hjz : jb.size = 2 * j := by rw [hjb, ← joined_many j, ← len_size]
        have hjzI : (jb.size : Int) = 2 * (j : Int) := by omega
        simp only
        rw [← hjb]
        clear hb2 hjb
        have hmk := HZ.out w2
        have hcv := str_of (zeros401 w2)
        go_wp2_with fail
        have hc3 := cut_any (w2.alloc (.cells (madeCells #[.int .u8 0] 401) 5)) (HX.out.below (HB2.out.alloc HB2.out.size _)) ⟨(List.replicate 401 0).toArray⟩ (by decide)
        rw [show (⟨(List.replicate 401 (0 : UInt8)).toArray⟩ : ByteArray).data.toList = List.replicate 401 0 from rfl, HC401.out] at hc3
        refine hc3.mono ?_
        rintro e w3 ⟨v3, rfl, hr3, hb3⟩
        obtain ⟨_, ao3, cap3, rfl, _⟩ := hr3
        have HB3 := Lib.hid (into (HB2.out.alloc HB2.out.size _) hb3)
        clear hb3 hc3 hmk hcv
        go_wp2_with fail
        go_ret
        exact ⟨rfl, HB3.out⟩

set_option maxRecDepth 100000 in
theorem lifted (os : Os) (started : os.Started) (H : Type) (enc : TypeId × Value → H) :
    ReturnsInHanded {} Tryd.checked os 9 .any (fun w args => (Rows.lexManySpec.pre enc Tryd.prog Tryd.f9 [] false w args ∧ laidA w) ∧ sizedMet enc Tryd.prog Tryd.f9 (OpenSpec.ofChange Rows.lexManySpec) false w args) (Rows.lexManySpec.post enc Tryd.prog Tryd.f9 false true false false) := by
  refine handed_and_shaped (C := Tryd.checked) (X := fun w _ => laidA w) (fun _ _ _ hh h => h.of_heap hh) Tryd.own started (by kernel_rfl) Tryd.func9
    (ChangeSpec.witness_at (enc := enc) (C := Tryd.checked) (os := os) (X := fun w _ => laidA w) false (tabledA os) #[.int .i64 0] 8 rfl (by kernel_rfl) (by kernel_rfl) (by kernel_rfl) (by kernel_rfl) (by kernel_rfl) (tabledA_laid os _)) ?_
  intro W base args ds gs before hval0 hW hcnd hsz0 hL hsh _
  have hsz : (DataW.weightsEach Tryd.prog (Tryd.f9.params.toList ++ Rows.lexManySpec.plain.varTypes Tryd.prog) (ds ++ gs)).all (· ≤ reachBytes) = true := hsz0
  have hval : ∀ (j : Nat) t v, Tryd.f9.params[j]? = some t → args[j]? = some v → Value.okWide Tryd.prog W .any base t v := hval0
  have hW' := hW
  obtain ⟨p, q, hA0, hV, rfl, hfz, hnd⟩ := hW
  have hA : DataW.TrodAll enc Tryd.prog W 0 (fun _ => true) true Tryd.f9.params.toList args.toList ds p := hA0
  rw [Tryd.params9] at hA hval hsz
  obtain ⟨v0, d0, rfl, rfl, h0⟩ := trodAll_one hA
  obtain ⟨rfl, rfl⟩ := trodVars_none hV
  obtain ⟨a0, rfl, rfl, rfl, w0⟩ := open_int Tryd.underlying3 (hval 0 3 v0 rfl rfl) h0
  clear hA0 hval0
  refine (walk W (B_of hL hsh) a0 w0).mono fun e W' ⟨he, hg⟩ => ?_
  subst he
  exact ⟨_, rfl, law_post (tb := 4) Tryd.laidOut (by kernel_rfl) (by kernel_rfl) Tryd.underlying4 rfl hW' hg rfl rfl rfl⟩

theorem bare : Rows.LexManySaid :=
  OpenClaim.holds_of_wide 9 Tryd.f9 rfl rfl rfl rfl rfl rfl rfl ⟨rfl, rfl, rfl, rfl, rfl⟩ rfl rfl rfl rfl rfl (by kernel_rfl) Tryd.func9 (by kernel_rfl)
    (of_decide_eq_true (by kernel_rfl)) (by unfold Func.isWrapper; first | (rw [if_pos (by decide +kernel)]; kernel_rfl) | (rw [if_neg (by decide +kernel)]; exact ⟨rfl, rfl⟩))
    (fun os started H enc _ => lifted os started H enc)
/-- The card: the row's one listed variable is tied to the program's text. -/
theorem proved : Rows.LexManyCardSaid :=
  Claim7.holds_tied_plain_at .later [] [.data, .data, .data, .data, .sentinel, .sentinel, .data, .pinned] true _ true bare (fun _ h => by cases h) (by kernel_rfl) (fun _ h => by cases h) lexMany_row_tie rfl ⟨rfl, rfl⟩ (by kernel_rfl) rfl
    (fun f fn hf hfn => by
      obtain rfl : f = 9 := Option.some.inj ((show Tryd.prog.funcNamed "padlock/padlockkeep.LexMany" = some 9 by kernel_rfl).symm.trans hf) |>.symm
      obtain rfl : fn = Tryd.f9 := (Option.some.inj (Tryd.func9.symm.trans hfn)).symm
      refine ⟨by kernel_rfl, fun j t ht => ?_⟩
      rw [Tryd.params9] at ht
      rcases j with _ | j <;> simp at ht <;> subst ht <;> kernel_rfl)
    (by kernel_rfl)
#print axioms proved
end Go.Proofs.YtfoilmhpoipmpaaDoor.lLexMany
