/- Tokens are cut as they were joined; blanks more say nothing: at all raw pieces. The row lists the program's table of marks and variables of the library; the card ties them to the texts. -/
import Derived.Test.YtfoilmhpoipmpaaDoorVd
import Derived.Test.YtfoilmhpoipmpaaDoorB2
import Derived.Test.YtfoilmhpoipmpaaDoorVh
namespace Go.Proofs.YtfoilmhpoipmpaaDoor.lLexBack
open Go.ChangeShapes Go.WideShapes Go.ChangeAt Go.RowKit Go.Joins
open Go.ChangeMaps (open_string shut_string)
set_option linter.unusedVariables false
set_option linter.unusedSimpArgs false
set_option maxHeartbeats 400000

def bls : List (List UInt8) := [[], [32], [9, 10], [13]]
theorem bls_at (k : Nat) (hk : k < 4) : (bls.getD k []).all bk = true ∧ (bls.getD k []).length ≤ 2 := by
  match k, hk with
  | 0, _ => exact ⟨by decide, by decide⟩
  | 1, _ => exact ⟨by decide, by decide⟩
  | 2, _ => exact ⟨by decide, by decide⟩
  | 3, _ => exact ⟨by decide, by decide⟩
theorem joined_one (x : Tk) : joined [x] = spellT x ++ [32] := by simp [joined]
set_option maxHeartbeats 8000000 in
theorem walk (W : World) (hB : Lb W) (n : Nat) (v : Value) (l : List V) (hr : Rd W 3 n v (vc l)) (hw : ∀ u ∈ l, (Lit.int .i64 u.k).wf = true ∧ (Lit.int .i64 u.n).wf = true ∧ u.t.size ≤ maxLen) (hz : n * 32 ≤ 140737488351232) (x : Int) (wx : (Lit.int .i64 x).wf = true) :
    Calls Tryd.prog 6 #[v, .int .i64 x] W fun e w' => e = .returned (.bool true) ∧ Below W.heap.size W w' := by
  have HX := Lib.hid hB.1
  have HJ := Lib.hid hB.2
  have hp := fun w => pck_any x 4 w (rn_of wx) (by omega) (by omega)
  obtain ⟨p1, p2⟩ := pck_in x 4 (by omega)
  obtain ⟨q, hq⟩ : ∃ q : Nat, pck x 4 = (q : Int) := ⟨(pck x 4).toNat, by omega⟩
  rw [hq] at hp p1 p2
  have HP := Lib.hid hp
  have hq4 : q < 4 := by omega
  have HLN := Lib.hid (len_v hr)
  have HR := Lib.hid hr
  have HW := Lib.hid hw
  obtain ⟨_, ao, cap, rfl, hcap, hcm, _⟩ := hr
  unfold maxLen at hcm
  have hn2 : (n : Int) ≤ 9223372036854775807 := by omega
  have HBL1 := Lib.hid (bls_at q hq4).1
  have HBL2 := Lib.hid (bls_at q hq4).2
  clear hp hq p1 p2 hB wx hw hcm
  go_enter Tryd.func6, Tryd.ntmps6
  go_wp2
  go_loopw [5, 6, 7] (fun v sv i wr => ∃ (j : Nat) (acc : List Tk) (sb : ByteArray), j ≤ n ∧ j ≤ 15 ∧ i = .int .i64 (j : Int) ∧ sv = .string sb ∧ acc.length = j ∧ sb.size ≤ 23 * j ∧ Hid (sb.data.toList = joinedB (bls.getD q []) acc) ∧ Hid (∀ y ∈ acc, Gt y) ∧ Hid (wr.ownsRow W.heap.size 29 3 v j (tkc acc)) ∧ Hid (Below W.heap.size W wr)) (fun _ _ i _ => 15 - (intOf i).toNat)
  case atStart => exact ⟨0, [], _, by omega, by omega, rfl, rfl, rfl, Nat.zero_le _, rfl, (fun y hy => by simp at hy), World.ownsRow_nil _ _ _ _, Below.refl _ _⟩
  case round =>
    obtain ⟨j, acc, sb, hjn, hj15, rfl, rfl, hac, hsbz, HS, HA, HO, HBL⟩ := hrel
    have hwz := HBL.out.size
    by_cases hin : j < n ∧ j < 15
    · obtain ⟨hlt, h15⟩ := hin
      have h15I : (j : Int) < 15 := by omega
      have hltI : (j : Int) < (n : Int) := by omega
      obtain ⟨_, b, o, cap', hv, _, _, hbw, hcell⟩ := vals_of HR.out (by omega)
      simp only [Value.slice.injEq] at hv
      obtain ⟨rfl, -, rfl⟩ := hv
      obtain ⟨g1, g2, g3⟩ := hcell j hlt
      have c1 := (HBL.out.cell (p := ⟨b, o + j * 3, none⟩) hbw).trans g1
      have c2 := (HBL.out.cell (p := ⟨b, o + j * 3 + 1, none⟩) hbw).trans g2
      have c3 := (HBL.out.cell (p := ⟨b, o + j * 3 + 2, none⟩) hbw).trans g3
      obtain ⟨u, hu⟩ : ∃ u, u = l.getD j nul := ⟨_, rfl⟩
      have hmem : u ∈ l := by rw [hu]; simp [List.getD, List.getElem?_eq_getElem (show j < l.length by have := HLN.out; omega)]
      obtain ⟨u1, u2, u3⟩ := HW.out u hmem
      rw [← hu] at c1 c2 c3
      have htk := token_any wr u.k u.n u.t (rn_of u1) (rn_of u2) u3
      have HTK := Lib.hid htk
      clear g1 g2 g3 hu hcell hmem u1 u2 u3 htk
      go_wp2_with (go_at_call 19; refine HTK.out.mono ?_; rintro e w1 ⟨y, rfl, hg, hb1⟩; have hz1 := hb1.size; have HG := Lib.hid hg; have HB1 := Lib.hid hb1; clear hb1 hg)
      obtain ⟨yk, yt, yn⟩ := y
      obtain ⟨yb, hyb⟩ : ∃ yb : ByteArray, yb = ⟨yt.toArray⟩ := ⟨_, rfl⟩
      simp only
      rw [← hyb]
      have hrd1 : Rd ((w1.alloc (.cells #[.int .i64 yk, .string yb, .int .i64 yn] 29)).alloc (.cells #[.int .i64 yk, .string yb, .int .i64 yn] 29)) 3 [(⟨yk, yt, yn⟩ : Tk)].length (.slice (some ⟨w1.heap.size + 1, 0, none⟩) 1 1) (tkc [⟨yk, yt, yn⟩]) := by
        have := rd_new1 (w1.alloc (.cells #[.int .i64 yk, .string yb, .int .i64 yn] 29)) (.int .i64 yk) (.string yb) (.int .i64 yn) 29
        rw [World.size_alloc] at this
        simpa [tkc, hyb] using this
      obtain ⟨ho1, hs1, hl1⟩ := gt_all (l := [⟨yk, yt, yn⟩]) (fun z hz => by simp at hz; subst hz; exact HG.out)
      have hb12 : Below W.heap.size W ((w1.alloc (.cells #[.int .i64 yk, .string yb, .int .i64 yn] 29)).alloc (.cells #[.int .i64 yk, .string yb, .int .i64 yn] 29)) := ((into HBL.out HB1.out).alloc (by omega) _).alloc (by simp; omega) _
      have hjo := join_ok _ (HJ.out.below hb12) _ [⟨yk, yt, yn⟩] hrd1 hs1 ho1 (by simp) (by simp at hl1; omega)
      rw [joined_one] at hjo
      obtain ⟨jb, hjb⟩ : ∃ jb : ByteArray, jb = ⟨(spellT ⟨yk, yt, yn⟩ ++ [32]).toArray⟩ := ⟨_, rfl⟩
      rw [← hjb] at hjo
      have hjd : jb.data.toList = spellT ⟨yk, yt, yn⟩ ++ [32] := by rw [hjb]
      have hjz : jb.size = (spellT ⟨yk, yt, yn⟩).length + 1 := by rw [← len_size, hjd]; simp
      have hsl := HG.out.2.2.2.1
      have hjz1 : 1 ≤ jb.size := by omega
      have hjz2 : jb.size ≤ 21 := by omega
      have hjzI : ((jb.size : Int) == 0) = false := beq_eq_false_iff_ne.2 (by omega)
      have hown1 := ((own_below HO.out HB1.out).alloc (.cells #[.int .i64 yk, .string yb, .int .i64 yn] 29)).alloc (.cells #[.int .i64 yk, .string yb, .int .i64 yn] 29)
      have HJO := Lib.hid hjo
      have HJD := Lib.hid hjd
      have HOW1 := Lib.hid hown1
      have HB12 := Lib.hid hb12
      have HYB := Lib.hid hyb
      clear hyb hrd1 ho1 hs1 hl1 hb12 hjo hjb hjd hjz hsl hown1
      go_wp2_with fail
      refine HJO.out.mono ?_
      rintro e w2 ⟨rfl, hb2⟩
      have hk2 := (hb2.block w1.heap.size (by simp; omega)).trans (new0_of2 w1 _ _)
      obtain ⟨r0, r1, r2, r3, r4, r5⟩ := box3 hk2
      have hz2 := hb2.size
      simp only [World.size_alloc] at hz2
      have HOW2 := Lib.hid (own_below HOW1.out hb2)
      have HB2 := Lib.hid (into HB12.out hb2)
      have HB22 := Lib.hid hb2
      clear hb2 hk2
      have hq' : q = 0 ∨ q = 1 ∨ q = 2 ∨ q = 3 := by omega
      go_wp2_with (at_builtin; refine apt w2 rfl (.tmp 50) (.tmp 52) rfl HOW2.out (by omega) (by omega) w2.heap.size rfl rfl rfl ?_; intro v3 w3 hown3 hb3 _; have HO3 := Lib.hid hown3; have HB3 := Lib.hid hb3; clear hown3 hb3)
      refine (HP.out _).mono ?_
      rintro e w4 ⟨rfl, rfl⟩
      have HB3' := Lib.hid (HB2.out.trans HB3.out)
      have hz3 := HB3'.out.size
      clear r0 r1 r2 r3 r4 r5
      rcases hq' with rfl | rfl | rfl | rfl
      all_goals (
        go_wp2_with fail
        go_roundw
        case rel =>
          refine ⟨j + 1, acc ++ [⟨yk, yt, yn⟩], _, by omega, by omega, by go_num, rfl, by simp; omega, ?_, ?_, fun z hz => ?_, ?_, HB3'.out.alloc hz3 _⟩
          · rw [ByteArray.size_append, ByteArray.size_append]
            exact Nat.le_trans (Nat.add_le_add hsbz (Nat.add_le_add hjz2 (by decide : _ ≤ 2))) (by omega)
          · show (sb ++ (jb ++ _)).data.toList = _
            rw [app_data, app_data, HS.out, HJD.out, joinedB_app]
            simp [joinedB, bls]
          · rcases List.mem_append.1 hz with h | h
            · exact HA.out z h
            · simp at h
              subst h
              exact HG.out
          · have := HO3.out
            rw [HYB.out] at this
            show World.ownsRow _ _ _ _ _ _ _
            rw [tkc_app]
            exact this.alloc _
        case measure => simp [intOf]; omega)
    · obtain ⟨ho, hs, hl⟩ := gt_all HA.out
      have hlb := lenB HBL2.out HA.out
      have hrd : Rd wr 3 acc.length u5 (tkc acc) := by rw [hac]; exact Rd.own HO.out
      have hjo := join_ok wr (HJ.out.below HBL.out) u5 acc hrd hs ho (by omega) (by omega)
      obtain ⟨jb, hjb⟩ : ∃ jb : ByteArray, jb = ⟨(joined acc).toArray⟩ := ⟨_, rfl⟩
      rw [← hjb] at hjo
      have hjd : jb.data.toList = joined acc := by rw [hjb]
      have hcut1 := fun w hx => cut_ok w hx jb acc hjd ho (by omega) (by omega)
      have hcut2 : ∀ w, Lx w → Calls Tryd.prog 11 #[.string sb] w (CutIs w ⟨acc, 0, 0⟩) := fun w hx => by
        have h := cut_any w hx sb (by unfold maxLen; omega)
        rw [HS.out, cutL_joinedB HBL1.out ho (by omega) (by omega)] at h
        exact h
      have hcut3 : ∀ w, Lx w → Calls Tryd.prog 11 #[.string ⟨#[97, 32, 63]⟩] w (CutIs w ⟨[], 2, 6⟩) := fun w hx => by
        have h := cut_any w hx ⟨#[97, 32, 63]⟩ (by decide)
        rw [show (⟨#[97, 32, 63]⟩ : ByteArray).data.toList = [97, 32, 63] from rfl, cutq] at h
        exact h
      have HJO := Lib.hid hjo
      have HC1 := Lib.hid hcut1
      have HC2 := Lib.hid hcut2
      have HC3 := Lib.hid hcut3
      have HRD := Lib.hid hrd
      clear ho hs hl hlb hrd hjo hjb hjd hcut1 hcut2 hcut3
      have hfin : ∀ (h : j < n → ¬ (j : Int) < 15), True := fun _ => trivial
      clear hfin
      by_cases hlt : j < n
      · have h15n : ¬ (j : Int) < 15 := by omega
        have hltI : (j : Int) < (n : Int) := by omega
        go_wp2_with (go_at_call 17; refine HJO.out.mono ?_; rintro e w1 ⟨rfl, hb1⟩; have HB1 := Lib.hid (into HBL.out hb1); have HR1 := Lib.hid (HRD.out.below hb1); clear hb1)
        refine (HC1.out _ (HX.out.below HB1.out)).mono ?_
        rintro e w2 ⟨v2, rfl, hr2, hb2⟩
        simp only at hr2
        have HB2 := Lib.hid (into HB1.out hb2)
        have HR1' := Lib.hid (HR1.out.below hb2)
        have HR2 := Lib.hid hr2
        clear hr2 hb2
        go_wp2_with fail
        refine (HC2.out _ (HX.out.below HB2.out)).mono ?_
        rintro e w3 ⟨v3, rfl, hr3, hb3⟩
        simp only at hr3
        have HB3 := Lib.hid (into HB2.out hb3)
        have HR1'' := Lib.hid (HR1'.out.below hb3)
        have HR2' := Lib.hid (HR2.out.below hb3)
        have HR3 := Lib.hid hr3
        clear hr3 hb3
        go_wp2_with fail
        refine (HC3.out _ (HX.out.below HB3.out)).mono ?_
        rintro e w4 ⟨v4, rfl, hr4, hb4⟩
        have HB4 := Lib.hid (into HB3.out hb4)
        have HRa := Lib.hid (HR1''.out.below hb4)
        have HRb := Lib.hid (HR2'.out.below hb4)
        have HRc := Lib.hid (HR3.out.below hb4)
        clear hr4 hb4
        go_wp2_with fail
        refine (stk_keep _ _ _ acc _ HRa.out HRb.out).mono ?_
        rintro e w5 ⟨rfl, hb5⟩
        have HB5 := Lib.hid (into HB4.out hb5)
        have HRa' := Lib.hid (HRa.out.below hb5)
        have HRc' := Lib.hid (HRc.out.below hb5)
        clear hb5
        go_wp2_with fail
        refine (stk_keep _ _ _ acc _ HRa'.out HRc'.out).mono ?_
        rintro e w6 ⟨rfl, hb6⟩
        have HB6 := Lib.hid (into HB5.out hb6)
        clear hb6
        go_wp2_with fail
        go_ret
        exact ⟨rfl, HB6.out⟩
      · have hltn : ¬ (j : Int) < (n : Int) := by omega
        go_wp2_with (go_at_call 17; refine HJO.out.mono ?_; rintro e w1 ⟨rfl, hb1⟩; have HB1 := Lib.hid (into HBL.out hb1); have HR1 := Lib.hid (HRD.out.below hb1); clear hb1)
        refine (HC1.out _ (HX.out.below HB1.out)).mono ?_
        rintro e w2 ⟨v2, rfl, hr2, hb2⟩
        simp only at hr2
        have HB2 := Lib.hid (into HB1.out hb2)
        have HR1' := Lib.hid (HR1.out.below hb2)
        have HR2 := Lib.hid hr2
        clear hr2 hb2
        go_wp2_with fail
        refine (HC2.out _ (HX.out.below HB2.out)).mono ?_
        rintro e w3 ⟨v3, rfl, hr3, hb3⟩
        simp only at hr3
        have HB3 := Lib.hid (into HB2.out hb3)
        have HR1'' := Lib.hid (HR1'.out.below hb3)
        have HR2' := Lib.hid (HR2.out.below hb3)
        have HR3 := Lib.hid hr3
        clear hr3 hb3
        go_wp2_with fail
        refine (HC3.out _ (HX.out.below HB3.out)).mono ?_
        rintro e w4 ⟨v4, rfl, hr4, hb4⟩
        have HB4 := Lib.hid (into HB3.out hb4)
        have HRa := Lib.hid (HR1''.out.below hb4)
        have HRb := Lib.hid (HR2'.out.below hb4)
        have HRc := Lib.hid (HR3.out.below hb4)
        clear hr4 hb4
        go_wp2_with fail
        refine (stk_keep _ _ _ acc _ HRa.out HRb.out).mono ?_
        rintro e w5 ⟨rfl, hb5⟩
        have HB5 := Lib.hid (into HB4.out hb5)
        have HRa' := Lib.hid (HRa.out.below hb5)
        have HRc' := Lib.hid (HRc.out.below hb5)
        clear hb5
        go_wp2_with fail
        refine (stk_keep _ _ _ acc _ HRa'.out HRc'.out).mono ?_
        rintro e w6 ⟨rfl, hb6⟩
        have HB6 := Lib.hid (into HB5.out hb6)
        clear hb6
        go_wp2_with fail
        go_ret
        exact ⟨rfl, HB6.out⟩

set_option maxRecDepth 100000 in
theorem lifted (os : Os) (started : os.Started) (H : Type) (enc : TypeId × Value → H) :
    ReturnsInHanded {} Tryd.checked os 6 .any (fun w args => (Rows.lexBackSpec.pre enc Tryd.prog Tryd.f6 [] false w args ∧ laidA w) ∧ sizedMet enc Tryd.prog Tryd.f6 (OpenSpec.ofChange Rows.lexBackSpec) false w args) (Rows.lexBackSpec.post enc Tryd.prog Tryd.f6 false true false false) := by
  refine handed_and_shaped (C := Tryd.checked) (X := fun w _ => laidA w) (fun _ _ _ hh h => h.of_heap hh) Tryd.own started (by kernel_rfl) Tryd.func6
    (ChangeSpec.witness_at (enc := enc) (C := Tryd.checked) (os := os) (X := fun w _ => laidA w) false (tabledA os) #[.slice none 0 0, .int .i64 0] 8 rfl (by kernel_rfl) (by kernel_rfl) (by kernel_rfl) (by kernel_rfl) (by kernel_rfl) (tabledA_laid os _)) ?_
  intro W base args ds gs before hval0 hW hcnd hsz0 hL hsh _
  have hsz : (DataW.weightsEach Tryd.prog (Tryd.f6.params.toList ++ Rows.lexBackSpec.plain.varTypes Tryd.prog) (ds ++ gs)).all (· ≤ reachBytes) = true := hsz0
  have hval : ∀ (j : Nat) t v, Tryd.f6.params[j]? = some t → args[j]? = some v → Value.okWide Tryd.prog W .any base t v := hval0
  have hW' := hW
  obtain ⟨p, q, hA0, hV, rfl, hfz, hnd⟩ := hW
  have hA : DataW.TrodAll enc Tryd.prog W 0 (fun _ => true) true Tryd.f6.params.toList args.toList ds p := hA0
  rw [Tryd.params6] at hA hval hsz
  obtain ⟨v0, v1, d0, d1, p0, p1, rfl, rfl, rfl, h0, h1⟩ := trodAll_two hA
  obtain ⟨rfl, rfl⟩ := trodVars_none hV
  obtain ⟨n0, l0, hr0, hw0, hs0⟩ := open_v3 Tryd.underlying36 Tryd.underlying39 (by kernel_rfl) (by kernel_rfl) Tryd.underlying3 Tryd.underlying3 Tryd.underlying9 (hval 0 36 v0 rfl rfl) h0
  have hz0 : n0 * 32 ≤ 140737488351232 := by
    rcases hs0 with rfl | ⟨es, sp, hd, hl⟩
    · omega
    · subst hd
      have := sized_slice hsz (j := 0) (t := 36) (e := 39) rfl rfl Tryd.underlying36
      rw [show Tryd.prog.bytesOf 39 = 32 by kernel_rfl, hl] at this
      simp only [reachBytes] at this
      omega
  obtain ⟨a1, rfl, rfl, rfl, w1⟩ := open_int Tryd.underlying3 (hval 1 3 v1 rfl rfl) h1
  clear hA0 hval0
  refine (walk W (B_of hL hsh) n0 v0 l0 hr0 hw0 hz0 a1 w1).mono fun e W' ⟨he, hg⟩ => ?_
  subst he
  exact ⟨_, rfl, law_post (tb := 4) Tryd.laidOut (by kernel_rfl) (by kernel_rfl) Tryd.underlying4 rfl hW' hg rfl rfl rfl⟩

theorem bare : Rows.LexBackSaid :=
  OpenClaim.holds_of_wide 6 Tryd.f6 rfl rfl rfl rfl rfl rfl rfl ⟨rfl, rfl, rfl, rfl, rfl⟩ rfl rfl rfl rfl rfl (by kernel_rfl) Tryd.func6 (by kernel_rfl)
    (of_decide_eq_true (by kernel_rfl)) (by unfold Func.isWrapper; first | (rw [if_pos (by decide +kernel)]; kernel_rfl) | (rw [if_neg (by decide +kernel)]; exact ⟨rfl, rfl⟩))
    (fun os started H enc _ => lifted os started H enc)
/-- The card: the row's one listed variable is tied to the program's text. -/
theorem proved : Rows.LexBackCardSaid :=
  Claim7.holds_tied_plain_at .later [] [.data, .data, .data, .data, .sentinel, .sentinel, .data, .pinned] true _ true bare (fun _ h => by cases h) (by kernel_rfl) (fun _ h => by cases h) lexBack_row_tie rfl ⟨rfl, rfl⟩ (by kernel_rfl) rfl
    (fun f fn hf hfn => by
      obtain rfl : f = 6 := Option.some.inj ((show Tryd.prog.funcNamed "padlock/padlockkeep.LexBack" = some 6 by kernel_rfl).symm.trans hf) |>.symm
      obtain rfl : fn = Tryd.f6 := (Option.some.inj (Tryd.func6.symm.trans hfn)).symm
      refine ⟨by kernel_rfl, fun j t ht => ?_⟩
      rw [Tryd.params6] at ht
      rcases j with _ | _ | j <;> simp at ht <;> subst ht <;> kernel_rfl)
    (by kernel_rfl)
#print axioms proved
end Go.Proofs.YtfoilmhpoipmpaaDoor.lLexBack
