/- For whom each one waits: the document. -/
import Derived.Test.YtpddlckkncmlmabDoorZh
import Derived.Test.YtpddlckkncmlmabDoorNk
import Derived.Test.YtpddlckkncmlmabDoorMh
namespace Go.Proofs.YtpddlckkncmlmabDoor
open Go.ChangeShapes Go.WideShapes Go.ChangeAt Go.RowKit
set_option linter.unusedVariables false
set_option linter.unusedSimpArgs false
set_option maxHeartbeats 4000000
set_option maxRecDepth 100000
def lenV : Value → Nat
  | .slice _ n _ => n
  | _ => 0
theorem dwo_bad (w : World) (nh n : Nat) (hv qv : Value) (held l : List Lk) (hrh : Rd w 3 nh hv (lkc held)) (hr : Rd w 3 n qv (lkc l)) (h1 : nh ≤ 1000000000000000) (h2 : n ≤ 1000000000000000) (hbad : lksF held l ≠ 0) :
    Calls Tryd.prog 15 #[.agg #[hv, qv]] w (WaitsIs held l w) := by
  have hb0 := (Below.refl w.heap.size w).alloc (Nat.le_refl _) (.cells #[hv, qv] 24)
  have hck := fault_any _ nh n hv qv held l (hrh.below hb0) (hr.below hb0) h1 h2
  have h11 : lksF held l = 11 := (lks_or held l).resolve_left hbad
  rw [lks_same, h11] at hck
  obtain ⟨ah, ch, rfl⟩ := row_shape hrh
  obtain ⟨aq, cq, rfl⟩ := row_shape hr
  have HCK := Lib.hid hck
  have HB0 := Lib.hid hb0
  have H11 := Lib.hid h11
  clear hck hb0 h11 hrh hr hbad
  go_enter Tryd.func15, Tryd.ntmps15
  go_wp2_with fail
  refine HCK.out.mono ?_
  rintro e w1 ⟨rfl, hb1⟩
  have HB1 := Lib.hid (into HB0.out hb1)
  clear hb1
  go_wp2_with fail
  go_ret2
  unfold WaitsIs
  rw [H11.out, if_neg (by omega)]
  exact ⟨_, rfl, RJ.nil _, HB1.out⟩
theorem dwo_good (w : World) (nh n : Nat) (hv qv : Value) (held l : List Lk) (hrh : Rd w 3 nh hv (lkc held)) (hr : Rd w 3 n qv (lkc l)) (hok : Okl held l) :
    Calls Tryd.prog 15 #[.agg #[hv, qv]] w (WaitsIs held l w) := by
  have hlh := len_l hrh
  have hlq := len_l hr
  have hfew := hok.few
  have hMh : Mo held := fun y hy => mods (hok.hf y hy)
  have hMl : Mo l := fun y hy => mods (hok.qf y hy)
  have hlk : lksF held l = 0 := (okl_iff held l).2 hok
  obtain ⟨ah, ch, rfl⟩ := row_shape hrh
  obtain ⟨aq, cq, rfl⟩ := row_shape hr
  obtain ⟨W0, hW0⟩ : ∃ W0 : World, W0 = w.alloc (.cells #[.slice ah nh ch, .slice aq n cq] 24) := ⟨_, rfl⟩
  have hb0 : Below w.heap.size w W0 := by rw [hW0]; exact (Below.refl _ _).alloc (Nat.le_refl _) _
  have q0 : W0.cell? ⟨w.heap.size, 0, none⟩ = some (.slice ah nh ch) := by rw [hW0]; go_simp
  have q1 : W0.cell? ⟨w.heap.size, 1, none⟩ = some (.slice aq n cq) := by rw [hW0]; go_simp
  have hck := fault_any W0 nh n _ _ held l (hrh.below hb0) (hr.below hb0) (by omega) (by omega)
  rw [lks_same, hlk] at hck
  have HCK := Lib.hid hck
  have HW0 := Lib.hid hW0
  have HB0 := Lib.hid hb0
  have HQ := Lib.hid (And.intro q0 q1)
  have HR := Lib.hid hr
  have HRH := Lib.hid hrh
  have HOK := Lib.hid (And.intro hok (And.intro (And.intro hMh hMl) (And.intro hlk hlq)))
  have hnh200 : nh ≤ 200 := by omega
  have hn200 : n ≤ 200 := by omega
  have HFEW : Hid (nh + n ≤ 200) := by show _ ≤ _; omega
  clear hck hW0 hb0 hr hrh hok hMh hMl hlk hlh hlq hfew q0 q1
  go_enter Tryd.func15, Tryd.ntmps15
  go_wp2_with fail
  rw [← HW0.out]
  refine HCK.out.mono ?_
  rintro e w1 ⟨rfl, hb1⟩
  have q0 := (hb1.cell (lt_cell HQ.out.1)).trans HQ.out.1
  have q1 := (hb1.cell (lt_cell HQ.out.2)).trans HQ.out.2
  have HQ1 := Lib.hid (And.intro q0 q1)
  have HB1 := Lib.hid (into HB0.out hb1)
  clear hb1
  go_wp2_with fail
  clear q0 q1
  go_loopw [5, 6] (fun vv iv wr => ∃ (k : Nat) (vs : List Value), k ≤ n ∧ iv = .int .i64 (k : Int) ∧ Hid (OJ wr w1.heap.size vv vs ((List.range k).map (wRow held l))) ∧ Hid (Below w1.heap.size w1 wr)) (fun _ iv _ => n - (intOf iv).toNat)
  case atStart => exact ⟨0, [], by omega, rfl, OJ.nil _ _, Below.refl _ _⟩
  case round =>
    obtain ⟨k, vs, hk, rfl, HO, HB⟩ := hrel
    obtain ⟨wo, rfl⟩ : ∃ wo : World, wo = wr := ⟨_, rfl⟩
    have q0 := cell_of_below HB.out HQ1.out.1
    have q1 := cell_of_below HB.out HQ1.out.2
    by_cases hlt : k < n
    · have hB := into HB1.out HB.out
      have hkl : k < l.length := by rw [← HOK.out.2.2.2]; exact hlt
      obtain ⟨Wl, hWl⟩ : ∃ Wl, Wl = wts held (l.take k) (l.getD k nlk) := ⟨_, rfl⟩
      have hpos : ∀ x ∈ Wl, 1 ≤ x := by rw [hWl]; exact wts_pos HOK.out.1.hf HOK.out.1.qf k
      have hwr : wRow held l k = onceL Wl := by rw [hWl]; rfl
      have hNpos : 0 < Wl.length := by
        have := HOK.out.1.qw k hkl
        rw [← hWl] at this
        cases Wl with
        | nil => cases this
        | cons a t => simp
      have hNle : Wl.length ≤ 400 := by
        rw [hWl]
        have e2 := wts_len held (l.take k) (l.getD k nlk)
        have e3 : (l.take k).length ≤ l.length := by rw [List.length_take]; omega
        have := HOK.out.1.few
        omega
      have hSle : (onceL Wl).length ≤ Wl.length := by
        have e1 := Lib.compact_length_le (srtL Wl)
        rw [srtL_len] at e1
        exact e1
      have hdw := dwaits_any wo nh n k _ _ held l (by omega) (by omega) hlt (HRH.out.below hB) (HR.out.below hB)
      rw [wts_is HOK.out.2.1.1 hkl HOK.out.2.1.2, ← hWl] at hdw
      obtain ⟨N, hN⟩ : ∃ N, N = Wl.length := ⟨_, rfl⟩
      rw [← hN] at hdw hNpos hNle hSle
      have HDW : Hid (Calls Tryd.prog 32 #[.agg #[.slice ah nh ch, .slice aq n cq], .int .i64 (k : Int)] wo fun e w' => ∃ (g c : Nat), e = .returned (.slice (some ⟨g, 0, none⟩) N c) ∧ N ≤ c ∧ c ≤ maxLen ∧ w'.ownsRow wo.heap.size 3 1 (.slice (some ⟨g, 0, none⟩) N c) N (ic Wl) ∧ Below wo.heap.size wo w') := hdw.mono fun e w' ⟨v', g1, g2, g3⟩ => by
        obtain ⟨g, cap, rfl, _, _, hcap, hcm⟩ := own_head g2 hNpos
        exact ⟨g, cap, g1, hcap, hcm, g2, g3⟩
      have HPOS := Lib.hid hpos
      have HWR := Lib.hid hwr
      have HN := Lib.hid hN
      have hkn : (k : Int) < (n : Int) := by omega
      clear hB hkl hWl hpos hwr hdw hN
      go_wp2_with fail
      refine HDW.out.mono ?_
      rintro e w3 ⟨g, cw, rfl, hcw, hcm, hou, hb3⟩
      unfold maxLen at hcm
      have hz3 := hb3.size
      have hgw : g < w3.heap.size := (hou.lt g rfl).2
      have hwc : ∀ q, q < N → w3.cell? ⟨g, q, none⟩ = some (.int .i64 (Wl.getD q 0)) := fun q hq => by
        have := hou.cells rfl q (.int .i64 (Wl.getD q 0)) (by rw [HN.out] at hq; simp [ic, List.getD, hq])
        simpa [Addr.add_lit] using this
      have HWC := Lib.hid hwc
      have HB3 := Lib.hid (HB.out.trans (hb3.mono HB.out.size))
      have HBO := Lib.hid hb3
      clear hwc hou hb3 q0 q1
      go_wp2_with fail
      go_loopw [8, 9] (fun rv lv wr => ∃ (j : Nat) (a' : Option Addr) (c' : Nat) (L : Int), j ≤ (onceL Wl).length ∧ rv = .slice a' j c' ∧ lv = .int .i64 L ∧ Hid (L = lastJ (onceL Wl) j) ∧ Hid (wr.ownsRow w3.heap.size 3 1 (.slice a' j c') j (ic ((onceL Wl).take j))) ∧ Hid (Below w3.heap.size w3 wr)) (fun rv _ _ => (onceL Wl).length - lenV rv)
      case atStart => exact ⟨0, none, 0, 0, by omega, rfl, rfl, rfl, World.ownsRow_nil _ _ _ _, Below.refl _ _⟩
      case round =>
        obtain ⟨j, a', c', L, hj, rfl, rfl, HL, HRW, HBX⟩ := hrel
        go_wp2_with fail
        go_loop [10, 11] (fun lv kv => ∃ (q : Nat) (M : Int), q ≤ N ∧ kv = .int .i64 (q : Int) ∧ lv = .int .i64 M ∧ Hid (M = lstL L (Wl.take q))) (fun _ kv => N - (intOf kv).toNat)
        case atStart => exact ⟨0, 0, by omega, rfl, rfl, rfl⟩
        case round =>
          obtain ⟨q, M, hq, rfl, rfl, HM⟩ := hrel
          by_cases hqN : q < N
          · have hc := cell_of_below HBX.out (HWC.out q hqN)
            obtain ⟨t, ht⟩ : ∃ t, t = Wl.getD q 0 := ⟨_, rfl⟩
            rw [← ht] at hc
            have hsn : lstL L (Wl.take (q + 1)) = lstS L M t := by
              rw [HM.out, ht]
              rw [HN.out] at hqN
              rw [List.take_succ_eq_append_getElem hqN, lst_snoc]
              simp [List.getD, hqN]
            have HSN := Lib.hid hsn
            have hqI : (q : Int) < (N : Int) := by omega
            clear ht hsn
            by_cases h1 : L < t
            · by_cases h2 : M = 0
              · have h2' : (M == 0) = true := by simp [h2]
                have he : lstL L (Wl.take (q + 1)) = t := by rw [HSN.out]; unfold lstS; rw [if_pos ⟨h1, .inl h2⟩]
                have HE := Lib.hid he
                clear h2 he
                go_wp2_with fail
                go_round
                case rel => exact ⟨q + 1, t, by omega, by go_num, rfl, HE.out.symm⟩
                case measure => simp [intOf]; omega
              · have h2' : (M == 0) = false := by simpa using h2
                by_cases h3 : t < M
                · have he : lstL L (Wl.take (q + 1)) = t := by rw [HSN.out]; unfold lstS; rw [if_pos ⟨h1, .inr h3⟩]
                  have HE := Lib.hid he
                  clear h2 he
                  go_wp2_with fail
                  go_round
                  case rel => exact ⟨q + 1, t, by omega, by go_num, rfl, HE.out.symm⟩
                  case measure => simp [intOf]; omega
                · have he : lstL L (Wl.take (q + 1)) = M := by rw [HSN.out]; unfold lstS; rw [if_neg (by omega)]
                  have HE := Lib.hid he
                  clear h2 he
                  go_wp2_with fail
                  go_round
                  case rel => exact ⟨q + 1, M, by omega, by go_num, rfl, HE.out.symm⟩
                  case measure => simp [intOf]; omega
            · have he : lstL L (Wl.take (q + 1)) = M := by rw [HSN.out]; unfold lstS; rw [if_neg (by omega)]
              have HE := Lib.hid he
              clear he
              go_wp2_with fail
              go_round
              case rel => exact ⟨q + 1, M, by omega, by go_num, rfl, HE.out.symm⟩
              case measure => simp [intOf]; omega
          · obtain rfl : q = N := by omega
            have hM : M = (onceL Wl).getD j 0 := by
              rw [HM.out, List.take_of_length_le (by rw [← HN.out]; exact Nat.le_refl _), HL.out]
              exact lst_next HPOS.out j hj
            have hzx := HBX.out.size
            by_cases hjS : j < (onceL Wl).length
            · have hM1 : 1 ≤ M := by
                rw [hM, gd0 hjS]
                exact once_pos HPOS.out _ (List.getElem_mem hjS)
              have hM0 : (M == 0) = false := by
                have : ¬ M = 0 := by omega
                simpa using this
              have htk : (onceL Wl).take (j + 1) = (onceL Wl).take j ++ [M] := by rw [hM]; exact take_succ0 hjS
              have hla : M = lastJ (onceL Wl) (j + 1) := by rw [lastJ_succ]; exact hM
              have HTK := Lib.hid htk
              have HLA := Lib.hid hla
              clear hM htk hla
              go_wp2_with (at_builtin; refine apg _ 1 rfl _ _ 34 3 _ 1 8 Tryd.underlying34 Tryd.info3 rfl (by omega) rfl (HRW.out.alloc _) (by simp; omega) (by omega) (by unfold maxLen; omega) (ic_one _) (ic1_rd _ M wr.heap.size rfl) rfl rfl ?_; intro v5 w5 hown5 hb5 _; obtain ⟨a5, c5, rfl⟩ := row_shape (Rd.own hown5); have HO5 := Lib.hid hown5; have HB5 := Lib.hid ((HBX.out.alloc hzx _).trans hb5); clear hown5 hb5)
              go_roundw
              case rel => exact ⟨j + 1, a5, c5, M, by omega, rfl, rfl, HLA.out, by rw [HTK.out, ic_app]; exact HO5.out, HB5.out⟩
              case measure => simp only [lenV]; omega
            · have hjl : j = (onceL Wl).length := by omega
              have hM0 : (M == 0) = true := by
                rw [hM, hjl]
                simp [List.getD]
              have hrow : wr.ownsRow w3.heap.size 3 1 (.slice a' j c') j (ic (onceL Wl)) := by
                have h := HRW.out
                rwa [List.take_of_length_le (by omega)] at h
              have hspine := HO.out.below (into HBO.out HBX.out)
              have hB1 : Below w1.heap.size w1 wr := HB3.out.trans (HBX.out.mono HB3.out.size)
              have HROW := Lib.hid hrow
              have HSP := Lib.hid hspine
              have HOW := Lib.hid (own_n hspine.own)
              have HBW := Lib.hid hB1
              have hzw := hB1.size
              have HJL := Lib.hid hjl
              have hj400 : j ≤ 400 := by omega
              clear hM hjl hrow hspine hB1 hjS
              go_wp2_with (at_builtin; refine apx wr 1 rfl _ _ 38 34 _ 1 24 Tryd.underlying38 Tryd.info34 rfl (by omega) rfl HOW.out hzw (by omega) (by unfold maxLen; omega) [.slice a' j c'] rfl (one_one rfl) wr.heap.size rfl rfl rfl ?_; intro v5 w5 hown5 hbel5 hg5 he5; have HO5 := Lib.hid hown5; have HL5 := Lib.hid hbel5; have HG5 := Lib.hid hg5; have HE5 := Lib.hid he5; clear hown5 hbel5 hg5 he5)
              have hpush : OJ w5 w1.heap.size v5 (vs ++ [.slice a' j c']) ((List.range (k + 1)).map (wRow held l)) := by
                rw [List.range_succ, List.map_append]
                refine HSP.out.push (H := wr.heap.size + 1) ?_ (fun b hb e => ?_) (by rw [List.length_map, List.length_range]; exact HO5.out) HG5.out HE5.out (by omega)
                · rw [HWR.out, ← HJL.out]
                  exact own_mono HROW.out (by have := HB3.out.size; omega)
                · have h1 := (HROW.out.lt b hb).1
                  have h2 := (HO.out.own.lt b e).2
                  omega
              have HP := Lib.hid hpush
              have HBE := Lib.hid (HBW.out.trans HL5.out)
              clear hpush
              go_wp2_with fail
              go_roundw
              case rel => exact ⟨k + 1, _, by omega, by go_num, HP.out, HBE.out⟩
              case measure => simp [intOf]; omega
    · obtain rfl : k = n := by omega
      have hres : (if lksF held l = 0 then wRows held l else []) = (List.range k).map (wRow held l) := by
        rw [if_pos HOK.out.2.2.1]
        unfold wRows
        rw [← HOK.out.2.2.2]
      have HRES := Lib.hid hres
      have HBE := Lib.hid (into HB1.out HB.out)
      clear hres
      go_wp2_with fail
      go_ret2
      unfold WaitsIs
      rw [HRES.out, HOK.out.2.2.1]
      exact ⟨_, rfl, HO.out.rj, HBE.out⟩
theorem dwo_any (w : World) (nh n : Nat) (hv qv : Value) (held l : List Lk) (hrh : Rd w 3 nh hv (lkc held)) (hr : Rd w 3 n qv (lkc l)) (h1 : nh ≤ 1000000000000000) (h2 : n ≤ 1000000000000000) :
    Calls Tryd.prog 15 #[.agg #[hv, qv]] w (WaitsIs held l w) := by
  by_cases h : lksF held l = 0
  · exact dwo_good w nh n hv qv held l hrh hr ((okl_iff held l).1 h)
  · exact dwo_bad w nh n hv qv held l hrh hr h1 h2 h
end Go.Proofs.YtpddlckkncmlmabDoor
