/- What is no token is told by its place: at all raw pieces. The row lists the program's table of marks and variables of the library; the card ties them to the texts. -/
import Derived.Test.YtfoilmhpoipmpaaDoorVd
import Derived.Test.YtfoilmhpoipmpaaDoorB2
import Derived.Test.YtfoilmhpoipmpaaDoorVg
namespace Go.Proofs.YtfoilmhpoipmpaaDoor.lLexPlace
open Go.ChangeShapes Go.WideShapes Go.ChangeAt Go.RowKit Go.Joins
open Go.ChangeMaps (open_string shut_string)
set_option linter.unusedVariables false
set_option linter.unusedSimpArgs false
set_option maxHeartbeats 400000

theorem bad0 : tokT [63] = .bad 6 ∧ bk (([63] : List UInt8).getD 0 0) = false := by constructor <;> kernel_rfl
theorem bad1 : tokT [39, 97] = .bad 7 ∧ bk (([39, 97] : List UInt8).getD 0 0) = false := by constructor <;> kernel_rfl
theorem bad2 : tokT [49, 97] = .bad 6 ∧ bk (([49, 97] : List UInt8).getD 0 0) = false := by constructor <;> kernel_rfl
theorem bad3 : tokT [57, 57, 57, 57, 57, 57, 57, 57, 57, 57, 57, 57, 57, 57, 57, 57, 57, 57, 57, 57] = .bad 5 ∧ bk (([57, 57, 57, 57, 57, 57, 57, 57, 57, 57, 57, 57, 57, 57, 57, 57, 57, 57, 57, 57] : List UInt8).getD 0 0) = false := by constructor <;> kernel_rfl
theorem bad4 : tokT [47] = .bad 6 ∧ bk (([47] : List UInt8).getD 0 0) = false := by constructor <;> kernel_rfl
theorem bad5 : tokT [0] = .bad 6 ∧ bk (([0] : List UInt8).getD 0 0) = false := by constructor <;> kernel_rfl
theorem bad6 : tokT [59] = .bad 6 ∧ bk (([59] : List UInt8).getD 0 0) = false := by constructor <;> kernel_rfl
theorem bad7 : tokT [39, 39, 39] = .bad 7 ∧ bk (([39, 39, 39] : List UInt8).getD 0 0) = false := by constructor <;> kernel_rfl
def bads : List (List UInt8 × Int) := [([63], 6), ([39, 97], 7), ([49, 97], 6), ([57, 57, 57, 57, 57, 57, 57, 57, 57, 57, 57, 57, 57, 57, 57, 57, 57, 57, 57, 57], 5), ([47], 6), ([0], 6), ([59], 6), ([39, 39, 39], 7)]
theorem bads_at (k : Nat) (hk : k < 8) : tokT (bads.getD k ([], 0)).1 = .bad (bads.getD k ([], 0)).2 ∧ bk ((bads.getD k ([], 0)).1.getD 0 0) = false ∧ (bads.getD k ([], 0)).1 ≠ [] ∧ (bads.getD k ([], 0)).1.length ≤ 20 := by
  match k, hk with
  | 0, _ => exact ⟨bad0.1, bad0.2, by decide, by decide⟩
  | 1, _ => exact ⟨bad1.1, bad1.2, by decide, by decide⟩
  | 2, _ => exact ⟨bad2.1, bad2.2, by decide, by decide⟩
  | 3, _ => exact ⟨bad3.1, bad3.2, by decide, by decide⟩
  | 4, _ => exact ⟨bad4.1, bad4.2, by decide, by decide⟩
  | 5, _ => exact ⟨bad5.1, bad5.2, by decide, by decide⟩
  | 6, _ => exact ⟨bad6.1, bad6.2, by decide, by decide⟩
  | 7, _ => exact ⟨bad7.1, bad7.2, by decide, by decide⟩
theorem app_data (a b : ByteArray) : (a ++ b).data.toList = a.data.toList ++ b.data.toList := by simp
theorem cell8 {w : World} {b : Nat} {t : TypeId} {x0 x1 x2 x3 x4 x5 x6 x7 : Value} (h : w.heap[b]? = some (.cells #[x0, x1, x2, x3, x4, x5, x6, x7] t (0, 0))) :
    w.cell? ⟨b, 0, none⟩ = some x0 ∧ w.cell? ⟨b, 1, none⟩ = some x1 ∧ w.cell? ⟨b, 2, none⟩ = some x2 ∧ w.cell? ⟨b, 3, none⟩ = some x3 ∧ w.cell? ⟨b, 4, none⟩ = some x4 ∧ w.cell? ⟨b, 5, none⟩ = some x5 ∧ w.cell? ⟨b, 6, none⟩ = some x6 ∧ w.cell? ⟨b, 7, none⟩ = some x7 := by
  refine ⟨?_, ?_, ?_, ?_, ?_, ?_, ?_, ?_⟩ <;> simp [World.cell?, h]
set_option maxHeartbeats 8000000 in
theorem walk (W : World) (hB : Lb W) (n : Nat) (v : Value) (l : List V) (hr : Rd W 3 n v (vc l)) (hw : ∀ u ∈ l, (Lit.int .i64 u.k).wf = true ∧ (Lit.int .i64 u.n).wf = true ∧ u.t.size ≤ maxLen) (hz : n * 32 ≤ 140737488351232) (x : Int) (wx : (Lit.int .i64 x).wf = true) :
    Calls Tryd.prog 7 #[v, .int .i64 x] W fun e w' => e = .returned (.bool true) ∧ Below W.heap.size W w' := by
  have HX := Lib.hid hB.1
  have HJ := Lib.hid hB.2
  have hp := fun w => pck_any x 8 w (rn_of wx) (by omega) (by omega)
  obtain ⟨p1, p2⟩ := pck_in x 8 (by omega)
  obtain ⟨q, hq⟩ : ∃ q : Nat, pck x 8 = (q : Int) := ⟨(pck x 8).toNat, by omega⟩
  rw [hq] at hp p1 p2
  have HP := Lib.hid hp
  have hq8 : q < 8 := by omega
  have HLN := Lib.hid (len_v hr)
  have HR := Lib.hid hr
  have HW := Lib.hid hw
  obtain ⟨_, ao, cap, rfl, hcap, hcm, _⟩ := hr
  unfold maxLen at hcm
  have hn2 : (n : Int) ≤ 9223372036854775807 := by omega
  clear hp hq p1 p2 hB wx hw hcm
  go_enter Tryd.func7, Tryd.ntmps7
  go_wp2
  go_loopw [5, 6] (fun v i wr => ∃ (j : Nat) (acc : List Tk), j ≤ n ∧ j ≤ 12 ∧ i = .int .i64 (j : Int) ∧ acc.length = j ∧ Hid (∀ y ∈ acc, Gt y) ∧ Hid (wr.ownsRow W.heap.size 29 3 v j (tkc acc)) ∧ Hid (Below W.heap.size W wr)) (fun _ i _ => 12 - (intOf i).toNat)
  case atStart => exact ⟨0, [], by omega, by omega, rfl, rfl, (fun y hy => by simp at hy), World.ownsRow_nil _ _ _ _, Below.refl _ _⟩
  case round =>
    obtain ⟨j, acc, hjn, hj12, rfl, hac, HA, HO, HBL⟩ := hrel
    have hwz := HBL.out.size
    by_cases hin : j < n ∧ j < 12
    · obtain ⟨hlt, h12⟩ := hin
      have h12I : (j : Int) < 12 := by omega
      have hltI : (j : Int) < (n : Int) := by omega
      obtain ⟨_, b, o, cap', hv, _, _, hbw, hcell⟩ := vals_of HR.out (by omega)
      simp only [Value.slice.injEq] at hv
      obtain ⟨rfl, -, rfl⟩ := hv
      obtain ⟨g1, g2, g3⟩ := hcell j hlt
      have c1 := (HBL.out.cell (p := ⟨b, o + j * 3, none⟩) hbw).trans g1
      have c2 := (HBL.out.cell (p := ⟨b, o + j * 3 + 1, none⟩) hbw).trans g2
      have c3 := (HBL.out.cell (p := ⟨b, o + j * 3 + 2, none⟩) hbw).trans g3
      obtain ⟨u, hu⟩ : ∃ u, u = l.getD j nul := ⟨_, rfl⟩
      have hmem : u ∈ l := by rw [hu]; simp [List.getD, List.getElem?_eq_getElem (show j < l.length by have := HLN.out; omega)]
      obtain ⟨u1, u2, u3⟩ := HW.out u hmem
      rw [← hu] at c1 c2 c3
      have htk := token_any wr u.k u.n u.t (rn_of u1) (rn_of u2) u3
      have HTK := Lib.hid htk
      clear g1 g2 g3 hu hcell hmem u1 u2 u3 htk
      go_wp2_with (first | (go_at_call 19; refine HTK.out.mono ?_; rintro e w1 ⟨y, rfl, hg, hb1⟩; have hz1 := hb1.size; have HG := Lib.hid hg; have HB1 := Lib.hid hb1; clear hb1 hg) | (at_builtin; refine apt (w1.alloc _) rfl (.tmp 31) (.tmp 33) rfl ((own_below HO.out HB1.out).alloc _) (by simp; omega) (by omega) (w1.heap.size + 1) (by simp) rfl rfl ?_; intro v2 w2 hown2 hb2 _; have HO2 := Lib.hid hown2; have HB2 := Lib.hid hb2; clear hown2 hb2))
      go_roundw
      case rel =>
        refine ⟨j + 1, acc ++ [y], by omega, by omega, by go_num, by simp; omega, fun z hz => ?_, ?_, HBL.out.trans (((HB1.out.mono (by omega)).alloc (by omega) _).trans HB2.out)⟩
        · rcases List.mem_append.1 hz with h | h
          · exact HA.out z h
          · simp at h
            subst h
            exact HG.out
        · have := HO2.out
          show World.ownsRow _ _ _ _ _ _ _
          rw [tkc_app]
          exact this
      case measure => simp [intOf]; omega
    · obtain ⟨ho, hs, hl⟩ := gt_all HA.out
      have hacl : acc.length ≤ 12 := by omega
      have hrd : Rd wr 3 acc.length u5 (tkc acc) := by rw [hac]; exact Rd.own HO.out
      have hjo := join_ok wr (HJ.out.below HBL.out) u5 acc hrd hs ho (by omega) (by omega)
      obtain ⟨jb, hjb⟩ : ∃ jb : ByteArray, jb = ⟨(joined acc).toArray⟩ := ⟨_, rfl⟩
      rw [← hjb] at hjo
      have hjd : jb.data.toList = joined acc := by rw [hjb]
      have hjz : jb.size = (joined acc).length := by rw [← len_size, hjd]
      have hjz4 : jb.size ≤ 252 := by omega
      obtain ⟨b1, b2, b3, b4⟩ := bads_at q hq8
      have hcut := bad_cut (l := acc) (bad := (bads.getD q ([], 0)).1) (e := (bads.getD q ([], 0)).2) ho (by omega) (by rw [List.length_append]; omega) b3 b2 b1
      rw [← hjz, ← hjd] at hcut
      have hc5 : ∀ w, Lx w → Calls Tryd.prog 11 #[.string (jb ++ ⟨(bads.getD q ([], 0)).1.toArray⟩)] w (CutIs w ⟨[], jb.size, (bads.getD q ([], 0)).2⟩) := fun w hx => by
        have h := cut_any w hx (jb ++ ⟨(bads.getD q ([], 0)).1.toArray⟩) (by rw [ByteArray.size_append]; show jb.size + (bads.getD q ([], 0)).1.toArray.size ≤ _; simp only [List.size_toArray]; unfold maxLen; omega)
        rw [app_data] at h
        have e : ((⟨(bads.getD q ([], 0)).1.toArray⟩ : ByteArray).data.toList) = (bads.getD q ([], 0)).1 := rfl
        rw [e, hcut] at h
        exact h
      have HJO := Lib.hid hjo
      have HC5 := Lib.hid hc5
      clear ho hs hl hrd hjo hjb hjd hjz b1 b2 b3 b4 hcut HO hc5
      have hq' : q = 0 ∨ q = 1 ∨ q = 2 ∨ q = 3 ∨ q = 4 ∨ q = 5 ∨ q = 6 ∨ q = 7 := by omega
      by_cases hlt : j < n
      · have h12n : ¬ (j : Int) < 12 := by omega
        have hltI : (j : Int) < (n : Int) := by omega
        rcases hq' with rfl | rfl | rfl | rfl | rfl | rfl | rfl | rfl
        all_goals (
          simp only [bads, List.getD_cons_zero, List.getD_cons_succ] at HC5
          go_wp2_with (first | (go_at_call 17; ((with_reducible refine HJO.out.mono ?_); rintro e w1 ⟨rfl, hb1⟩; have HB1 := Lib.hid (into HBL.out hb1); clear hb1)) | (go_at_call 20; ((with_reducible refine (HP.out _).mono ?_); rintro e w' ⟨rfl, rfl⟩)))
          have hz1 := HB1.out.size
          refine (HC5.out _ (HX.out.below ((HB1.out.alloc hz1 _).alloc (by simp; omega) _))).mono ?_
          rintro e w5 ⟨v5, rfl, hr5, hb5⟩
          obtain ⟨_, ao5, cap5, rfl, _⟩ := hr5
          have hk5 := (hb5.block (w1.heap.size + 1) (by simp)).trans (new1 w1 _ _)
          have c5 := cell8 hk5
          obtain ⟨e0, e1, e2, e3, e4, e5, e6, e7⟩ := c5
          have HB5 := Lib.hid (into ((HB1.out.alloc hz1 _).alloc (by simp; omega) _) hb5)
          clear hb5 hk5
          go_wp2_with fail
          go_ret
          exact ⟨rfl, HB5.out⟩)
      · have hltn : ¬ (j : Int) < (n : Int) := by omega
        rcases hq' with rfl | rfl | rfl | rfl | rfl | rfl | rfl | rfl
        all_goals (
          simp only [bads, List.getD_cons_zero, List.getD_cons_succ] at HC5
          go_wp2_with (first | (go_at_call 17; ((with_reducible refine HJO.out.mono ?_); rintro e w1 ⟨rfl, hb1⟩; have HB1 := Lib.hid (into HBL.out hb1); clear hb1)) | (go_at_call 20; ((with_reducible refine (HP.out _).mono ?_); rintro e w' ⟨rfl, rfl⟩)))
          have hz1 := HB1.out.size
          refine (HC5.out _ (HX.out.below ((HB1.out.alloc hz1 _).alloc (by simp; omega) _))).mono ?_
          rintro e w5 ⟨v5, rfl, hr5, hb5⟩
          obtain ⟨_, ao5, cap5, rfl, _⟩ := hr5
          have hk5 := (hb5.block (w1.heap.size + 1) (by simp)).trans (new1 w1 _ _)
          have c5 := cell8 hk5
          obtain ⟨e0, e1, e2, e3, e4, e5, e6, e7⟩ := c5
          have HB5 := Lib.hid (into ((HB1.out.alloc hz1 _).alloc (by simp; omega) _) hb5)
          clear hb5 hk5
          go_wp2_with fail
          go_ret
          exact ⟨rfl, HB5.out⟩)

set_option maxRecDepth 100000 in
theorem lifted (os : Os) (started : os.Started) (H : Type) (enc : TypeId × Value → H) :
    ReturnsInHanded {} Tryd.checked os 7 .any (fun w args => (Rows.lexPlaceSpec.pre enc Tryd.prog Tryd.f7 [] false w args ∧ laidA w) ∧ sizedMet enc Tryd.prog Tryd.f7 (OpenSpec.ofChange Rows.lexPlaceSpec) false w args) (Rows.lexPlaceSpec.post enc Tryd.prog Tryd.f7 false true false false) := by
  refine handed_and_shaped (C := Tryd.checked) (X := fun w _ => laidA w) (fun _ _ _ hh h => h.of_heap hh) Tryd.own started (by kernel_rfl) Tryd.func7
    (ChangeSpec.witness_at (enc := enc) (C := Tryd.checked) (os := os) (X := fun w _ => laidA w) false (tabledA os) #[.slice none 0 0, .int .i64 0] 8 rfl (by kernel_rfl) (by kernel_rfl) (by kernel_rfl) (by kernel_rfl) (by kernel_rfl) (tabledA_laid os _)) ?_
  intro W base args ds gs before hval0 hW hcnd hsz0 hL hsh _
  have hsz : (DataW.weightsEach Tryd.prog (Tryd.f7.params.toList ++ Rows.lexPlaceSpec.plain.varTypes Tryd.prog) (ds ++ gs)).all (· ≤ reachBytes) = true := hsz0
  have hval : ∀ (j : Nat) t v, Tryd.f7.params[j]? = some t → args[j]? = some v → Value.okWide Tryd.prog W .any base t v := hval0
  have hW' := hW
  obtain ⟨p, q, hA0, hV, rfl, hfz, hnd⟩ := hW
  have hA : DataW.TrodAll enc Tryd.prog W 0 (fun _ => true) true Tryd.f7.params.toList args.toList ds p := hA0
  rw [Tryd.params7] at hA hval hsz
  obtain ⟨v0, v1, d0, d1, p0, p1, rfl, rfl, rfl, h0, h1⟩ := trodAll_two hA
  obtain ⟨rfl, rfl⟩ := trodVars_none hV
  obtain ⟨n0, l0, hr0, hw0, hs0⟩ := open_v3 Tryd.underlying36 Tryd.underlying39 (by kernel_rfl) (by kernel_rfl) Tryd.underlying3 Tryd.underlying3 Tryd.underlying9 (hval 0 36 v0 rfl rfl) h0
  have hz0 : n0 * 32 ≤ 140737488351232 := by
    rcases hs0 with rfl | ⟨es, sp, hd, hl⟩
    · omega
    · subst hd
      have := sized_slice hsz (j := 0) (t := 36) (e := 39) rfl rfl Tryd.underlying36
      rw [show Tryd.prog.bytesOf 39 = 32 by kernel_rfl, hl] at this
      simp only [reachBytes] at this
      omega
  obtain ⟨a1, rfl, rfl, rfl, w1⟩ := open_int Tryd.underlying3 (hval 1 3 v1 rfl rfl) h1
  clear hA0 hval0
  refine (walk W (B_of hL hsh) n0 v0 l0 hr0 hw0 hz0 a1 w1).mono fun e W' ⟨he, hg⟩ => ?_
  subst he
  exact ⟨_, rfl, law_post (tb := 4) Tryd.laidOut (by kernel_rfl) (by kernel_rfl) Tryd.underlying4 rfl hW' hg rfl rfl rfl⟩

theorem bare : Rows.LexPlaceSaid :=
  OpenClaim.holds_of_wide 7 Tryd.f7 rfl rfl rfl rfl rfl rfl rfl ⟨rfl, rfl, rfl, rfl, rfl⟩ rfl rfl rfl rfl rfl (by kernel_rfl) Tryd.func7 (by kernel_rfl)
    (of_decide_eq_true (by kernel_rfl)) (by unfold Func.isWrapper; first | (rw [if_pos (by decide +kernel)]; kernel_rfl) | (rw [if_neg (by decide +kernel)]; exact ⟨rfl, rfl⟩))
    (fun os started H enc _ => lifted os started H enc)
/-- The card: the row's one listed variable is tied to the program's text. -/
theorem proved : Rows.LexPlaceCardSaid :=
  Claim7.holds_tied_plain_at .later [] [.data, .data, .data, .data, .sentinel, .sentinel, .data, .pinned] true _ true bare (fun _ h => by cases h) (by kernel_rfl) (fun _ h => by cases h) lexPlace_row_tie rfl ⟨rfl, rfl⟩ (by kernel_rfl) rfl
    (fun f fn hf hfn => by
      obtain rfl : f = 7 := Option.some.inj ((show Tryd.prog.funcNamed "padlock/padlockkeep.LexPlace" = some 7 by kernel_rfl).symm.trans hf) |>.symm
      obtain rfl : fn = Tryd.f7 := (Option.some.inj (Tryd.func7.symm.trans hfn)).symm
      refine ⟨by kernel_rfl, fun j t ht => ?_⟩
      rw [Tryd.params7] at ht
      rcases j with _ | _ | j <;> simp at ht <;> subst ht <;> kernel_rfl)
    (by kernel_rfl)
#print axioms proved
end Go.Proofs.YtfoilmhpoipmpaaDoor.lLexPlace
