/- What is held goes together, whatever was asked for: at every list of wishes. The row lists the program's two tables; the card ties them to the program's text. -/
import Derived.Test.YtoiaedjglhcidaaDoorJl
import Derived.Test.YtoiaedjglhcidaaDoorB2
import Derived.Test.YtoiaedjglhcidaaDoorMv
import Derived.Test.YtoiaedjglhcidaaDoorMc
import Derived.Test.YtoiaedjglhcidaaDoorJr
namespace Go.Proofs.YtoiaedjglhcidaaDoor.lLocksSafe
open Go.ChangeShapes Go.WideShapes Go.ChangeAt Go.RowKit Go.Joins
open Go.ChangeMaps (open_string shut_string)
set_option linter.unusedVariables false
set_option linter.unusedSimpArgs false
set_option maxHeartbeats 400000

theorem one_x : askL [] [] ⟨1, ⟨#[97]⟩, 5⟩ = ([⟨1, ⟨#[97]⟩, 5⟩], [], true, 0) := by kernel_rfl
theorem safe_at {H : List Lk} (hf : ∀ x ∈ H, frm x = 0) (hp : H.Pairwise fun a b => onB b a = false ∧ agB b a = false) {i k : Nat} (hi : i < H.length) (hk : k < i) :
    ((H.getD i nlk).th.toList == (H.getD k nlk).th.toList && ((H.getD i nlk).t == (H.getD k nlk).t || !tog (H.getD i nlk).m (H.getD k nlk).m)) = false := by
  have h := safe_of hp hi hk
  have m1 := mods (hf _ (List.getElem_mem hi))
  have m2 := mods (hf _ (List.getElem_mem (show k < H.length by omega)))
  rw [← gd hi] at m1
  rw [← gd (show k < H.length by omega)] at m2
  rw [tog_comm m1 m2, BEq.comm (a := (H.getD i nlk).t), BEq.comm (a := (H.getD i nlk).th.toList)]
  exact h
set_option maxRecDepth 100000 in
set_option maxHeartbeats 8000000 in
theorem walk (W : World) (hL : Tog W ∧ Jnd W) (n : Nat) (v : Value) (l : List Wi) (hr : Rd W 3 n v (wic l)) (hz : n * 24 ≤ 140737488351232) (hs : ∀ o ∈ l, WiOk o) : Calls Tryd.prog 3 #[v] W fun e w' => e = .returned (.bool true) ∧ Below W.heap.size W w' := by
  have HT := Lib.hid hL
  have HLK := Lib.hid (locks_any W hL n v l hr hs)
  obtain ⟨_, av, cv, rfl, _⟩ := id hr
  clear hL hr hs
  go_enter Tryd.func3, Tryd.ntmps3
  go_wp2_with fail
  refine HLK.out.mono ?_
  rintro e w1 ⟨x1, n1, c1, x2, n2, c2, H, Q, rfl, hg0, g1, g2, hb1⟩
  have hlb := LB.new w1 g1 g2
  have hb2 : Below W.heap.size W (w1.alloc (.cells #[.slice x1 n1 c1, .slice x2 n2 c2] 25)) := hb1.alloc hb1.size _
  have hn1 := len_l g1
  have hn2 := len_l g2
  obtain ⟨W2, hW2⟩ : ∃ W2, W2 = w1.alloc (.cells #[.slice x1 n1 c1, .slice x2 n2 c2] 25) := ⟨_, rfl⟩
  rw [← hW2] at hlb hb2
  have HLB := Lib.hid hlb
  have HB2 := Lib.hid hb2
  have HW2 := Lib.hid hW2
  have HG := Lib.hid hg0
  have HN := Lib.hid (And.intro hn1 hn2)
  have hn40 : n1 ≤ 40 := by have := hg0.few; omega
  have hn240 : n2 ≤ 40 := by have := hg0.few; omega
  clear g1 g2 hb1 hlb hb2 hW2 HLK hg0 hn1 hn2
  go_wp2_with fail
  rw [← HW2.out]
  go_loopw [4] (fun iv wr => ∃ i : Nat, i ≤ n1 ∧ iv = .int .i64 (i : Int) ∧ Hid (Below W2.heap.size W2 wr)) (fun iv _ => n1 - (intOf iv).toNat)
  case atStart => exact ⟨0, by omega, rfl, Below.refl _ _⟩
  case round =>
    obtain ⟨i, hin, rfl, HB⟩ := hrel
    have hlx := HLB.out.below HB.out
    obtain ⟨e0, e1, f0, f1⟩ := box2 hlx.b
    clear hlx
    by_cases hlt : i < n1
    · have hltI : (i : Int) < (n1 : Int) := by omega
      go_wp2_with fail
      clear e0 e1 f0 f1
      go_loopw [5] (fun kv wx => ∃ k : Nat, k ≤ i ∧ kv = .int .i64 (k : Int) ∧ Hid (Below W2.heap.size W2 wx)) (fun kv _ => i - (intOf kv).toNat)
      case atStart => exact ⟨0, by omega, rfl, HB.out⟩
      case round =>
        obtain ⟨k, hki, rfl, HBk⟩ := hrel
        by_cases hlk : k < i
        · have hlkI : (k : Int) < (i : Int) := by omega
          have hlx := HLB.out.below HBk.out
          obtain ⟨e0, e1, f0, f1⟩ := box2 hlx.b
          obtain ⟨b, o, cap, hsh, _, _, hbw, hcell⟩ := lks_of HLB.out.h (by omega)
          simp only [Value.slice.injEq] at hsh
          obtain ⟨rfl, -, rfl⟩ := hsh
          have hcw := fun (p : Addr) (h : p.block = b) => HBk.out.cell (p := p) (by rw [h]; exact hbw)
          obtain ⟨a0, a1, a2⟩ := hcell i hlt
          obtain ⟨b0, b1, b2⟩ := hcell k (by omega)
          have a0 := (hcw ⟨b, o + i * 3, none⟩ rfl).trans a0
          have a1 := (hcw ⟨b, o + i * 3 + 1, none⟩ rfl).trans a1
          have a2 := (hcw ⟨b, o + i * 3 + 2, none⟩ rfl).trans a2
          have b0 := (hcw ⟨b, o + k * 3, none⟩ rfl).trans b0
          have b1 := (hcw ⟨b, o + k * 3 + 1, none⟩ rfl).trans b1
          have b2 := (hcw ⟨b, o + k * 3 + 2, none⟩ rfl).trans b2
          have hil : i < H.length := by rw [← HN.out.1]; exact hlt
          have hsafe := safe_at HG.out.ok.hf HG.out.ok.hp hil hlk
          have m1 := mods (HG.out.ok.hf _ (mem_getD hil))
          have m2 := mods (HG.out.ok.hf _ (mem_getD (l := H) (k := k) (by omega)))
          obtain ⟨a, ha⟩ : ∃ a, a = H.getD i nlk := ⟨_, rfl⟩
          obtain ⟨bb, hbb⟩ : ∃ bb, bb = H.getD k nlk := ⟨_, rfl⟩
          rw [← ha] at a0 a1 a2 hsafe m1
          rw [← hbb] at b0 b1 b2 hsafe m2
          obtain ⟨at', ath, am⟩ := a
          obtain ⟨bt, bth, bm⟩ := bb
          simp only at a0 a1 a2 b0 b1 b2 hsafe m1 m2
          have hfi := fun w (hw : Tog w) => fits_any w hw am bm
          have hF1 : fitsV am bm = tog am bm := by unfold fitsV; rw [isM_iff.2 m1, isM_iff.2 m2]; rfl
          have hF2 : kindE am bm = 0 := by unfold kindE; rw [isM_iff.2 m1, isM_iff.2 m2]; rfl
          rw [hF1, hF2] at hfi
          obtain ⟨q, hq⟩ : ∃ q, q = tog am bm := ⟨_, rfl⟩
          rw [← hq] at hfi hsafe
          obtain ⟨d, hd⟩ : ∃ d, d = (ath.toList == bth.toList) := ⟨_, rfl⟩
          rw [← hd] at hsafe
          have hd' := hd.symm
          have HFI := Lib.hid hfi
          have hTw : Hid (∀ w, Below wr.heap.size wr w → Tog w) := fun w hw => HT.out.1.below (into HB2.out (into HBk.out hw))
          have hbx : Below wr.heap.size wr ((wr.alloc (.cells #[.int .i64 at', .string ath, .int .i64 am] 28)).alloc (.cells #[.int .i64 bt, .string bth, .int .i64 bm] 28)) := two_below _ _ _
          obtain ⟨g1, g2⟩ := two_new wr (.cells #[.int .i64 at', .string ath, .int .i64 am] 28) (.cells #[.int .i64 bt, .string bth, .int .i64 bm] 28)
          obtain ⟨p0, p1, p2, -, -, -⟩ := has3 g1 (Below.refl _ _)
          obtain ⟨q0, q1, q2, -, -, -⟩ := has3 g2 (Below.refl _ _)
          have hax : Below wr.heap.size wr (wr.alloc (.cells #[.int .i64 at', .string ath, .int .i64 am] 28)) := (Below.refl _ _).alloc (Nat.le_refl _) _
          have d0 := cell_of_below hax e0
          have bb0 := cell_of_below hax b0
          have bb1 := cell_of_below hax b1
          have bb2 := cell_of_below hax b2
          have HBX := Lib.hid hbx
          clear hcw hcell hfi hF1 hF2 hq hd ha hbb hlx hil g1 g2 hbx hax m1 m2
          cases d
          · go_wp2_with (go_at_call 9; ((with_reducible refine (HFI.out _ (hTw.out _ HBX.out)).mono ?_); rintro e w' ⟨rfl, rfl⟩))
            go_roundw
            case rel => exact ⟨k + 1, by omega, by go_num, into HBk.out HBX.out⟩
            case measure => (simp [intOf]) <;> omega
          · simp only [Bool.true_and, Bool.or_eq_false_iff, Bool.not_eq_false'] at hsafe
            obtain ⟨s1, s2⟩ := hsafe
            subst s2
            go_wp2_with (go_at_call 9; ((with_reducible refine (HFI.out _ (hTw.out _ HBX.out)).mono ?_); rintro e w' ⟨rfl, rfl⟩))
            go_roundw
            case rel => exact ⟨k + 1, by omega, by go_num, into HBk.out HBX.out⟩
            case measure => (simp [intOf]) <;> omega
        · obtain rfl : k = i := by omega
          have hnk : ¬ (k : Int) < (k : Int) := by omega
          clear hlk
          go_wp2_with fail
          go_roundw
          case rel => exact ⟨k + 1, by omega, by go_num, HBk.out⟩
          case measure => (simp [intOf]) <;> omega
    · obtain rfl : i = n1 := by omega
      have hnI : ¬ (i : Int) < (i : Int) := by omega
      have hTr : Tog wr ∧ Jnd wr := ⟨HT.out.1.below (into HB2.out HB.out), HT.out.2.below (into HB2.out HB.out)⟩
      have HAK := Lib.hid (ask_v wr hTr (Rd.nil _ _) (Rd.nil _ _) (by simp) one_x)
      clear hlt hTr
      go_wp2_with fail
      refine HAK.out.mono ?_
      rintro e w3 ⟨y1, m1, d1, y2, m2, d2, rfl, g1, g2, hb3⟩
      have hm1 : m1 = 1 := len_l g1
      subst hm1
      have hln := LB.new w3 g1 g2
      have hba : Below wr.heap.size wr (w3.alloc (.cells #[.slice y1 1 d1, .slice y2 m2 d2] 25)) := hb3.alloc hb3.size _
      have hl2 := HLB.out.below (into HB.out hba)
      clear e0 e1 f0 f1
      obtain ⟨e0, e1, f0, f1⟩ := box2 hl2.b
      obtain ⟨d0, d1', -, -⟩ := box2 hln.b
      have hbw : Below W.heap.size W (w3.alloc (.cells #[.slice y1 1 d1, .slice y2 m2 d2] 25)) := into HB2.out (into HB.out hba)
      have hck := check_any _ (HT.out.1.below hbw) (HT.out.2.below hbw) i n2 _ _ H Q hl2.h hl2.q (by omega) (by omega)
      rw [(okl_iff H Q).2 HG.out.ok] at hck
      have HCK := Lib.hid hck
      have HLN := Lib.hid hln
      have HBW := Lib.hid hbw
      clear hba hl2 g1 g2 hb3 HAK hck hln hbw
      go_wp2_with fail
      refine HCK.out.mono ?_
      rintro e w5 ⟨rfl, hb5⟩
      have hl5 := HLN.out.below hb5
      clear d0 d1' e0 e1 f0 f1
      obtain ⟨d0, d1', -, -⟩ := box2 hl5.b
      have HB5 := Lib.hid (into HBW.out hb5)
      clear hl5 hb5
      go_wp2_with fail
      go_ret
      exact ⟨rfl, HB5.out⟩

set_option maxRecDepth 100000 in
theorem lifted (os : Os) (started : os.Started) (H : Type) (enc : TypeId × Value → H) :
    ReturnsInHanded {} Tryd.checked os 3 .any (fun w args => (Rows.locksSafeSpec.pre enc Tryd.prog Tryd.f3 [] false w args ∧ laidTJ w) ∧ sizedMet enc Tryd.prog Tryd.f3 (OpenSpec.ofChange Rows.locksSafeSpec) false w args) (Rows.locksSafeSpec.post enc Tryd.prog Tryd.f3 false true false false) := by
  refine returnsInHanded_of_change_and (C := Tryd.checked) (X := fun w _ => laidTJ w) (fun _ _ _ hh h => h.of_heap hh) Tryd.own started (by kernel_rfl) Tryd.func3
    (ChangeSpec.witness_at (enc := enc) (C := Tryd.checked) (os := os) (X := fun w _ => laidTJ w) false (tabled os) #[.slice none 0 0] 8 rfl (by kernel_rfl) (by kernel_rfl) (by kernel_rfl) (by kernel_rfl) (by kernel_rfl) (tabled_laidTJ os _)) ?_
  intro W base args ds gs before hval0 hW hcnd hsz0 hL _
  have hsz : (DataW.weightsEach Tryd.prog (Tryd.f3.params.toList ++ Rows.locksSafeSpec.plain.varTypes Tryd.prog) (ds ++ gs)).all (· ≤ reachBytes) = true := hsz0
  have hval : ∀ (j : Nat) t v, Tryd.f3.params[j]? = some t → args[j]? = some v → Value.okWide Tryd.prog W .any base t v := hval0
  have hW' := hW
  obtain ⟨p, q, hA0, hV, rfl, hfz, hnd⟩ := hW
  have hA : DataW.TrodAll enc Tryd.prog W 0 (fun _ => true) true Tryd.f3.params.toList args.toList ds p := hA0
  rw [Tryd.params3] at hA hval hsz
  obtain ⟨v0, d0, rfl, rfl, h0⟩ := trodAll_one hA
  obtain ⟨rfl, rfl⟩ := trodVars_none hV
  have sm0 : small Tryd.prog 22 d0 := fun q hq => by
    have := List.all_eq_true.1 hsz q (weights_each (j := 0) rfl rfl q hq)
    simpa using this
  obtain ⟨n0, l0, hr0, hz0, hs0⟩ := open_wishes (hval 0 22 v0 rfl rfl) h0 sm0
  clear hA0 hval0
  refine (walk W (TJ_of hL) n0 v0 l0 hr0 hz0 hs0).mono fun e W' ⟨he, hg⟩ => ?_
  subst he
  exact ⟨_, rfl, law_post (tb := 4) Tryd.laidOut (by kernel_rfl) (by kernel_rfl) Tryd.underlying4 rfl hW' hg rfl rfl rfl⟩

theorem bare : Rows.LocksSafeSaid :=
  OpenClaim.holds_of_wide 3 Tryd.f3 rfl rfl rfl rfl rfl rfl rfl ⟨rfl, rfl, rfl, rfl, rfl⟩ rfl rfl rfl rfl rfl (by kernel_rfl) Tryd.func3 (by kernel_rfl)
    (of_decide_eq_true (by kernel_rfl)) (by unfold Func.isWrapper; first | (rw [if_pos (by decide +kernel)]; kernel_rfl) | (rw [if_neg (by decide +kernel)]; exact ⟨rfl, rfl⟩))
    (fun os started H enc _ => lifted os started H enc)
/-- The card: the row's one listed variable is tied to the program's text. -/
theorem proved : Rows.LocksSafeCardSaid :=
  Claim7.holds_tied_plain_at .later [] [.data, .data] true _ false bare (fun _ h => by cases h) (by kernel_rfl) (fun _ h => by cases h) locksSafe_row_tie rfl ⟨rfl, rfl⟩ (by kernel_rfl) rfl
    (fun f fn hf hfn => by
      obtain rfl : f = 3 := Option.some.inj ((show Tryd.prog.funcNamed "padlock/padlockkeep.LocksSafe" = some 3 by kernel_rfl).symm.trans hf) |>.symm
      obtain rfl : fn = Tryd.f3 := (Option.some.inj (Tryd.func3.symm.trans hfn)).symm
      refine ⟨by kernel_rfl, fun j t ht => ?_⟩
      rw [Tryd.params3] at ht
      rcases j with _ | j <;> simp at ht <;> subst ht <;> kernel_rfl)
    (by kernel_rfl)
#print axioms proved
end Go.Proofs.YtoiaedjglhcidaaDoor.lLocksSafe
