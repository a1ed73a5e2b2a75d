/- For whom a lock waits, by the program. -/
import Derived.Test.YtpddlckkncmlmaaDoorNd
namespace Go.Proofs.YtpddlckkncmlmaaDoor
open Go.ChangeShapes Go.WideShapes Go.ChangeAt Go.RowKit
set_option linter.unusedVariables false
set_option linter.unusedSimpArgs false
set_option maxHeartbeats 2000000
theorem txs_le (p : Lk → Bool) (l : List Lk) : (txs p l).length ≤ l.length := by
  unfold txs
  rw [List.length_map]
  exact List.length_filter_le _ _
def WtsIs (held ahead : List Lk) (x : Lk) (w : World) (e : Ending) (w' : World) : Prop := ∃ v', e = .returned v' ∧ w'.ownsRow w.heap.size 3 1 v' (onceL (wts held ahead x)).length (ic (onceL (wts held ahead x))) ∧ Below w.heap.size w w'
theorem waitsFor_any (w : World) (hT : Tog w) (nh na : Nat) (hv av : Value) (held ahead : List Lk) (x : Lk) (hx : 1 ≤ x.m ∧ x.m ≤ 5) (hm : Mds held) (hrh : Rd w 3 nh hv (lkc held)) (hra : Rd w 3 na av (lkc ahead)) (hh : nh ≤ 1000) (ha : na ≤ 1000) :
    Calls Tryd.prog 20 #[hv, av, lkv x] w (WtsIs held ahead x w) := by
  have hlh := len_l hrh
  have hla := len_l hra
  obtain ⟨W0, hW0⟩ : ∃ W0 : World, W0 = w.alloc (.cells #[.int .i64 x.t, .string x.th, .int .i64 x.m] 26) := ⟨_, rfl⟩
  have hz0 : W0.heap.size = w.heap.size + 1 := by rw [hW0]; simp
  have hb0 : Below w.heap.size w W0 := by rw [hW0]; exact (Below.refl _ _).alloc (Nat.le_refl _) _
  have hbx : BxL W0 w.heap.size x := by rw [hW0]; exact BxL.new w x
  have hsx := ag_says W0 (hT.below hb0) x hx held hm
  have hmk := ag_maker W0 x
  obtain ⟨W1, hW1⟩ : ∃ W1 : World, W1 = W0.alloc (.cells #[.int .i64 x.t, .string x.th, .int .i64 x.m] 26) := ⟨_, rfl⟩
  have hz1 : W1.heap.size = w.heap.size + 1 + 1 := by rw [hW1]; simp [hz0]
  have hb01 : Below W0.heap.size W0 W1 := by rw [hW1]; exact (Below.refl _ _).alloc (Nat.le_refl _) _
  have hb1 : Below w.heap.size w W1 := into hb0 hb01
  rw [← hW1] at hsx hmk
  rw [hz0] at hsx hmk
  have ht1 := txs_ag W1 nh hv held (agB x) _ (by omega) (hrh.below hb1) hsx
  have hl1 := txs_le (agB x) held
  have hl2 := txs_le (thB x) ahead
  obtain ⟨l1, hl1e⟩ : ∃ l1, l1 = txs (agB x) held := ⟨_, rfl⟩
  obtain ⟨l2, hl2e⟩ : ∃ l2, l2 = txs (thB x) ahead := ⟨_, rfl⟩
  have hW : wts held ahead x = l1 ++ (if hmd held x = 0 then l2 else []) := by rw [hl1e, hl2e]; rfl
  rw [← hl1e] at ht1 hl1
  rw [← hl2e] at hl2
  have HMK := Lib.hid hmk
  have HT1 := Lib.hid ht1
  have HHM : Hid (∀ W, Below w.heap.size w W → Calls Tryd.prog 19 #[hv, lkv x] W fun e w' => e = .returned (.int .i64 (hmd held x)) ∧ Below W.heap.size W w') := fun W hW => heldMode_any W nh hv held x (hrh.below hW)
  have HTW : Hid (∀ W, Below W0.heap.size W0 W → Calls Tryd.prog 42 #[av, .func (.func 44) #[] #[.pointer (some ⟨w.heap.size, 0, none⟩)]] W fun e w' => ∃ v', e = .returned v' ∧ w'.ownsRow W.heap.size 3 1 v' l2.length (ic l2) ∧ Below W.heap.size W w') := fun W hW => by
    rw [hl2e]
    exact txs_wf W na av ahead (thB x) w.heap.size (by omega) (hra.below (into hb0 hW)) (wf_says W x w.heap.size (hbx.below hW) ahead)
  have HW0 := Lib.hid hW0
  have HB := Lib.hid (And.intro hb0 (And.intro hb01 hb1))
  have HBX := Lib.hid hbx
  have hq1 : l1.length ≤ 1000 := by omega
  have hq2 : l2.length ≤ 1000 := by omega
  obtain ⟨d, hd⟩ : ∃ d, d = hmd held x := ⟨_, rfl⟩
  rw [← hd] at hW HHM
  have HWT := Lib.hid hW
  clear hlh hla hW0 hW1 hb0 hbx hsx hmk hb01 hb1 ht1 hl1 hl2 hl1e hl2e hW hT hm hrh hra hd
  have HEND : Hid (∀ (W : World) (v : Value) (zs : List Int), zs = wts held ahead x → zs.length ≤ 2000 → Below w.heap.size w W → W.ownsRow W1.heap.size 3 1 v zs.length (ic zs) → W1.heap.size ≤ W.heap.size →
      Calls Tryd.prog 45 #[v] W fun e w' => e = .returned (.tuple #[]) ∧ (Calls Tryd.prog 46 #[v] w' (WtsIs held ahead x w))) := fun W v zs hzs hlen hbW hown hle => by
    subst hzs
    refine (sort_own W W1.heap.size v _ hown (by omega)).mono ?_
    rintro e w' ⟨rfl, hown', hb'⟩
    refine ⟨rfl, ?_⟩
    have hsz := hb'.size
    refine (compact_own w' W1.heap.size v (srtL _) (by omega) hown' (by rw [srtL_len]; omega)).mono ?_
    rintro e w2 ⟨v', rfl, hown2, hb2⟩
    exact ⟨v', rfl, own_mono hown2 (by omega), (hbW.trans (hb'.mono (by omega))).trans (hb2.mono (by omega))⟩
  by_cases hd0 : d = 0
  · subst hd0
    go_enter Tryd.func20, Tryd.ntmps20
    go_wp2_with fail
    rw [← HW0.out]
    refine HMK.out.mono ?_
    rintro e w' ⟨rfl, rfl⟩
    go_wp2_with fail
    refine HT1.out.mono ?_
    rintro e w2 ⟨v1, rfl, hown1, hb2⟩
    have hB2 := into HB.out.2.2 hb2
    have hB02 := into HB.out.2.1 hb2
    obtain ⟨x0, x1, x2⟩ := HBX.out.below hB02
    have HO1 := Lib.hid hown1
    have HB2 := Lib.hid (And.intro hB2 (And.intro hB02 hb2))
    clear hown1 hb2 hB2 hB02
    go_wp2_with fail
    refine (HHM.out _ HB2.out.1).mono ?_
    rintro e w3 ⟨rfl, hb3⟩
    have HO3 := Lib.hid (own_below HO1.out hb3)
    have HB3 := Lib.hid (And.intro (into HB2.out.1 hb3) (And.intro (into HB2.out.2.1 hb3) (into HB2.out.2.2 hb3)))
    clear hb3 x0 x1 x2
    go_wp2_with fail
    refine (HTW.out _ HB3.out.2.1).mono ?_
    rintro e w4 ⟨v2, rfl, hown4, hb4⟩
    have hz4 := (into HB3.out.2.2 hb4).size
    have HO4 := Lib.hid (own_below HO3.out hb4)
    have HR4 := Lib.hid (Rd.own hown4)
    have HB4 := Lib.hid (And.intro (into HB3.out.1 hb4) (into HB3.out.2.2 hb4))
    clear hown4 hb4
    go_wp2_with (at_builtin; refine apg w4 l2.length rfl _ _ 38 3 _ 1 8 Tryd.underlying38 Tryd.info3 rfl (by omega) rfl HO4.out (by omega) (by omega) (by unfold maxLen; omega) (ic_one _) HR4.out rfl rfl ?_; intro v5 w5 hown5 hb5 _; have hz5 := hb5.size; have HO5 := Lib.hid hown5; have HB5 := Lib.hid (HB4.out.1.trans (hb5.mono (by omega))); clear hown5 hb5)
    have hzs : l1 ++ l2 = wts held ahead x := by rw [HWT.out]; rfl
    refine (HEND.out _ _ (l1 ++ l2) hzs (by rw [List.length_append]; omega) HB5.out (by rw [List.length_append, ic_app]; exact HO5.out) (by omega)).mono ?_
    rintro e w6 ⟨rfl, hcp⟩
    have HCP := Lib.hid hcp
    clear hcp
    go_wp2_with fail
    refine HCP.out.mono ?_
    rintro e w7 ⟨v7, rfl, h7⟩
    have H7 := Lib.hid h7
    clear h7
    go_wp2_with fail
    go_ret
    exact ⟨v7, rfl, H7.out⟩
  · have hd0' : (d == 0) = false := by simpa using hd0
    go_enter Tryd.func20, Tryd.ntmps20
    go_wp2_with fail
    rw [← HW0.out]
    refine HMK.out.mono ?_
    rintro e w' ⟨rfl, rfl⟩
    go_wp2_with fail
    refine HT1.out.mono ?_
    rintro e w2 ⟨v1, rfl, hown1, hb2⟩
    have hB2 := into HB.out.2.2 hb2
    have hB02 := into HB.out.2.1 hb2
    obtain ⟨x0, x1, x2⟩ := HBX.out.below hB02
    have HO1 := Lib.hid hown1
    have HB2 := Lib.hid (And.intro hB2 (And.intro hB02 hb2))
    clear hown1 hb2 hB2 hB02
    go_wp2_with fail
    refine (HHM.out _ HB2.out.1).mono ?_
    rintro e w3 ⟨rfl, hb3⟩
    have HO3 := Lib.hid (own_below HO1.out hb3)
    have hz3 := (into HB2.out.2.2 hb3).size
    have HB3 := Lib.hid (into HB2.out.1 hb3)
    clear hb3 x0 x1 x2
    go_wp2_with fail
    have hzs : l1 = wts held ahead x := by rw [HWT.out, if_neg hd0, List.append_nil]
    refine (HEND.out _ _ l1 hzs (by omega) HB3.out HO3.out (by omega)).mono ?_
    rintro e w6 ⟨rfl, hcp⟩
    have HCP := Lib.hid hcp
    clear hcp
    go_wp2_with fail
    refine HCP.out.mono ?_
    rintro e w7 ⟨v7, rfl, h7⟩
    have H7 := Lib.hid h7
    clear h7
    go_wp2_with fail
    go_ret
    exact ⟨v7, rfl, H7.out⟩
end Go.Proofs.YtpddlckkncmlmaaDoor
