/- Keys stand in the order of their values, the first ones that differ: at every two lists of raw values; the program's one listed table is tied to its text. No condition. -/
import Derived.Deep.RegionWith
import Derived.Test.YtakhkcabahhohaaDoorDl
import Derived.Test.YtakhkcabahhohaaDoorFo
import Derived.Test.YtakhkcabahhohaaDoorD5
import Derived.Test.YtakhkcabahhohaaDoorF2
import Derived.Test.YtakhkcabahhohaaDoorC4
import Derived.Test.YtakhkcabahhohaaDoorWA
import Derived.Test.YtakhkcabahhohaaDoorK3
namespace Go.Proofs.YtakhkcabahhohaaDoor.lKeyOrder
open Go.ChangeShapes Go.WideShapes Go.ChangeAt Go.RowKit Go.Joins
open Go.ChangeMaps (open_string shut_string)
set_option linter.unusedVariables false
set_option linter.unusedSimpArgs false
set_option maxHeartbeats 400000

theorem fstc_drop : ∀ (l m : List V) (i : Nat), i < l.length → i < m.length → fstc (l.drop i) (m.drop i) = if ord (l.getD i nul) (m.getD i nul) ≠ 0 then ord (l.getD i nul) (m.getD i nul) else fstc (l.drop (i + 1)) (m.drop (i + 1)) := by
  intro l m i h1 h2
  rw [List.drop_eq_getElem_cons h1, List.drop_eq_getElem_cons h2, fstc]
  simp [List.getD, h1, h2]
theorem cmp_ok {a b : V} (ha : Ok a) (hb : Ok b) : cmp2 a b = ord a b ∧ chk2 a b = 0 := by
  have h : chk2 a b = 0 := by rw [chk2, if_pos ha.1, hb.1]
  exact ⟨by rw [cmp2, if_pos h], h⟩
set_option maxHeartbeats 3200000 in
theorem walk (w : World) (hL : Lst w) (n0 : Nat) (v0 : Value) (l0 : List V) (hr0 : Rd w 3 n0 v0 (vc l0)) (hw0 : ∀ u ∈ l0, (Lit.int .i64 u.k).wf = true ∧ (Lit.int .i64 u.n).wf = true ∧ u.t.size ≤ maxLen) (hz0 : n0 * 32 ≤ 140737488351232)
    (n1 : Nat) (v1 : Value) (l1 : List V) (hr1 : Rd w 3 n1 v1 (vc l1)) (hw1 : ∀ u ∈ l1, (Lit.int .i64 u.k).wf = true ∧ (Lit.int .i64 u.n).wf = true ∧ u.t.size ≤ maxLen) (hz1 : n1 * 32 ≤ 140737488351232) :
    Calls Tryd.prog 6 #[v0, v1] w fun e w' => e = .returned (.bool true) ∧ Below w.heap.size w w' := by
  have HF0 : Hid (∀ u ∈ l0, Rng u.k ∧ Rng u.n ∧ u.t.size ≤ maxLen) := fun u hu => ⟨rng_of (hw0 u hu).1, rng_of (hw0 u hu).2.1, (hw0 u hu).2.2⟩
  have HF1 : Hid (∀ u ∈ l1, Rng u.k ∧ Rng u.n ∧ u.t.size ≤ maxLen) := fun u hu => ⟨rng_of (hw1 u hu).1, rng_of (hw1 u hu).2.1, (hw1 u hu).2.2⟩
  have HR0 := Lib.hid hr0
  have HR1 := Lib.hid hr1
  have HL := Lib.hid hL
  have HOK0 := Lib.hid (vals_13 l0 fun u hu => (HF0.out u hu).2.1)
  have HOK1 := Lib.hid (vals_13 l1 fun u hu => (HF1.out u hu).2.1)
  have m0 : (vals l0).length ≤ 6 := by simp [vals]; omega
  have m1 : (vals l1).length ≤ 6 := by simp [vals]; omega
  clear hw0 hw1 hr0 hr1 hz0 hz1 hL
  have cv0 := of_any n0 v0 l0 w HR0.out HF0.out
  obtain ⟨A, hA⟩ : ∃ A, A = vals l0 := ⟨_, rfl⟩
  obtain ⟨B, hB⟩ : ∃ B, B = vals l1 := ⟨_, rfl⟩
  rw [← hA] at cv0 HOK0 m0
  rw [← hB] at HOK1 m1
  have HB := Lib.hid hB
  have HCV0 := Lib.hid cv0
  clear cv0 hA hB
  go_enter Tryd.func6, Tryd.ntmps6
  go_wp2_with fail
  refine HCV0.out.mono ?_
  rintro e w1 ⟨v5, rfl, hown5, hb1⟩
  have H5 := Lib.hid (Rd.own hown5)
  obtain ⟨_, ao5, cap5, rfl, hc5, _, _, _⟩ := Rd.own hown5
  clear hown5
  go_wp2_with fail
  refine (of_any n1 v1 l1 w1 (HR1.out.below hb1) HF1.out).mono ?_
  rw [← HB.out]
  rintro e w2 ⟨v6, rfl, hown6, hb2⟩
  have H6 := Lib.hid (Rd.own hown6)
  obtain ⟨_, ao6, cap6, rfl, hc6, _, _, _⟩ := Rd.own hown6
  clear hown6
  obtain ⟨a, ha⟩ : ∃ a, a = A.length := ⟨_, rfl⟩
  obtain ⟨b, hb⟩ : ∃ b, b = B.length := ⟨_, rfl⟩
  rw [← ha] at H5 hc5 m0 ⊢
  rw [← hb] at H6 hc6 m1 ⊢
  obtain ⟨n, hn⟩ : ∃ n, n = if b < a then b else a := ⟨_, rfl⟩
  have la : n ≤ a ∧ n ≤ b := by rw [hn]; split <;> omega
  have hmin : (if (b : Int) < (a : Int) then (b : Int) else (a : Int)) = (n : Int) := by rw [hn]; split <;> split <;> omega
  have hmin2 : (if b < a then (b : Int) else (a : Int)) = (n : Int) := by rw [hn]; split <;> rfl
  clear hn
  obtain ⟨PA, hPA⟩ : ∃ PA, PA = A.take n := ⟨_, rfl⟩
  obtain ⟨PB, hPB⟩ : ∃ PB, PB = B.take n := ⟨_, rfl⟩
  have EA : Hid (∀ u ∈ PA, Ok u ∧ (enc1 u).length ≤ 13) := fun u hu => HOK0.out u (by rw [hPA] at hu; exact List.mem_of_mem_take hu)
  have EB : Hid (∀ u ∈ PB, Ok u ∧ (enc1 u).length ≤ 13) := fun u hu => HOK1.out u (by rw [hPB] at hu; exact List.mem_of_mem_take hu)
  have LA : Hid (PA.length = n) := by rw [hPA]; show (A.take n).length = n; rw [List.length_take, ← ha]; omega
  have LB : Hid (PB.length = n) := by rw [hPB]; show (B.take n).length = n; rw [List.length_take, ← hb]; omega
  have RA : Hid (Rd w2 3 n (.slice ao5 n cap5) (vc PA)) := by
    have := (H5.out.below hb2).take n la.1
    rw [vc_take, ← hPA] at this
    exact this
  have RB : Hid (Rd w2 3 n (.slice ao6 n cap6) (vc PB)) := by
    have := H6.out.take n la.2
    rw [vc_take, ← hPB] at this
    exact this
  have BW2 : Hid (Below w.heap.size w w2) := into hb1 hb2
  have hk5 : n ≤ cap5 := by omega
  have hk6 : n ≤ cap6 := by omega
  have n6 : n ≤ 6 := by omega
  clear ha hb hPA hPB H5 H6 HOK0 HOK1 HR0 HR1 HF0 HF1 HCV0 HB hc5 hc6 hb1 hb2 m0 m1 la
  go_wp2_with fail
  refine (enc_part n _ PA w2 EA.out (by rw [LA.out]; omega) RA.out).mono ?_
  rintro e w3 ⟨v8, rfl, hl8, hown8, hb3⟩
  have H8 := Lib.hid (Rd.own hown8)
  clear hown8 hl8
  go_wp2_with fail
  refine (enc_part n _ PB w3 EB.out (by rw [LB.out]; omega) (RB.out.below hb3)).mono ?_
  rintro e w4 ⟨v10, rfl, hl10, hown10, hb4⟩
  have H10 := Lib.hid (Rd.own hown10)
  have H8' := Lib.hid (H8.out.below hb4)
  have RA4 := Lib.hid ((RA.out.below hb3).below hb4)
  have RB4 := Lib.hid ((RB.out.below hb3).below hb4)
  have BW4 := Lib.hid (into (into BW2.out hb3) hb4)
  have HORD := Lib.hid (encs_order PA PB (fun u hu => (EA.out u hu).1) (fun u hu => (EB.out u hu).1) (by rw [LA.out, LB.out]))
  clear hown10 hl10 hb3 hb4 RA RB H8 BW2 hmin hmin2 hk5 hk6
  go_wp2_with fail
  go_loopw [12] (fun i wr => ∃ k : Nat, k ≤ n ∧ i = .int .i64 (k : Int) ∧ fstc (PA.drop k) (PB.drop k) = fstc PA PB ∧ Below w4.heap.size w4 wr) (fun i _ => n - (intOf i).toNat)
  case atStart => exact ⟨0, by omega, rfl, rfl, Below.refl _ _⟩
  case round =>
    obtain ⟨k, hk, rfl, hfk, hbk⟩ := hrel
    have HFK := Lib.hid hfk
    clear hfk
    by_cases hlt : k < n
    · obtain ⟨_, ab, ao, acap, hav, _, _, haw, hcell⟩ := vals_of RA4.out (by omega)
      obtain ⟨_, bb, bo, bcap, hbv, _, _, hbw, hcell'⟩ := vals_of RB4.out (by omega)
      simp only [Value.slice.injEq] at hav hbv
      obtain ⟨rfl, -, rfl⟩ := hav
      obtain ⟨rfl, -, rfl⟩ := hbv
      have HC := Lib.hid hcell
      have HC' := Lib.hid hcell'
      clear hcell hcell'
      obtain ⟨g1, g2, g3⟩ := HC.out k hlt
      obtain ⟨g1', g2', g3'⟩ := HC'.out k hlt
      have c1 := (hbk.cell (p := ⟨ab, ao + k * 3, none⟩) haw).trans g1
      have c2 := (hbk.cell (p := ⟨ab, ao + k * 3 + 1, none⟩) haw).trans g2
      have c3 := (hbk.cell (p := ⟨ab, ao + k * 3 + 2, none⟩) haw).trans g3
      have c1' := (hbk.cell (p := ⟨bb, bo + k * 3, none⟩) hbw).trans g1'
      have c2' := (hbk.cell (p := ⟨bb, bo + k * 3 + 1, none⟩) hbw).trans g2'
      have c3' := (hbk.cell (p := ⟨bb, bo + k * 3 + 2, none⟩) hbw).trans g3'
      have hkA : k < PA.length := by rw [LA.out]; exact hlt
      have hkB : k < PB.length := by rw [LB.out]; exact hlt
      have hst := fstc_drop PA PB k hkA hkB
      have oA : Ok (PA.getD k nul) := (EA.out _ (by simp only [List.getD, List.getElem?_eq_getElem hkA, Option.getD_some]; exact List.getElem_mem hkA)).1
      have oB : Ok (PB.getD k nul) := (EB.out _ (by simp only [List.getD, List.getElem?_eq_getElem hkB, Option.getD_some]; exact List.getElem_mem hkB)).1
      obtain ⟨hcm, hck⟩ := cmp_ok oA oB
      obtain ⟨u, hu⟩ : ∃ u, u = PA.getD k nul := ⟨_, rfl⟩
      obtain ⟨u', hu'⟩ : ∃ u', u' = PB.getD k nul := ⟨_, rfl⟩
      rw [← hu] at c1 c2 c3 hst hcm hck
      rw [← hu'] at c1' c2' c3' hst hcm hck
      obtain ⟨uk, un, ut⟩ := u
      obtain ⟨xk, xn, xt⟩ := u'
      simp only at c1 c2 c3 c1' c2' c3'
      have cc := fun wx => cmp_any uk un xk xn ut xt wx
      rw [hcm, hck] at cc
      obtain ⟨C, hC⟩ : ∃ C, C = ord ⟨uk, un, ut⟩ ⟨xk, xn, xt⟩ := ⟨_, rfl⟩
      rw [← hC] at cc hst
      have HCC := Lib.hid cc
      have HST := Lib.hid hst
      clear g1 g2 g3 g1' g2' g3' hu hu' hst oA oB hcm hck cc hkA hkB hC
      have hbz := hbk.size
      rcases Int.lt_trichotomy C 0 with hs | hs | hs
      · have hfc : fstc PA PB = C := by rw [← HFK.out, HST.out, if_pos (by omega)]
        have hxy := HORD.out.2.1 (by rw [hfc]; exact hs)
        have HXY := Lib.hid hxy
        have hc1 : ¬ C = 0 := by omega
        clear hxy hfc
        go_wp2_with fail
        go_region_with (go_at_call 14; refine (HCC.out _).mono ?_; rintro e w5 ⟨rfl, hb5⟩)
        all_goals (
          have hB5 : Below w4.heap.size w4 w5 := hbk.trans (((Below.refl w4.heap.size wr).drew).trans (hb5.mono (by simpa using hbz)))
          have q1 := str_of (H8'.out.below hB5)
          have q2 := str_of (H10.out.below hB5)
          obtain ⟨SX, hSX⟩ : ∃ SX : ByteArray, SX = ⟨(encs PA).toArray⟩ := ⟨_, rfl⟩
          obtain ⟨SY, hSY⟩ : ∃ SY : ByteArray, SY = ⟨(encs PB).toArray⟩ := ⟨_, rfl⟩
          have hless : Op.bytesLess SX.toList SY.toList = true := by rw [hSX, hSY, list_of, list_of]; exact HXY.out
          have hne : ¬ SX = SY := by rintro rfl; rw [bl_irr] at hless; cases hless
          have hne2 : ¬ SX.toList = SY.toList := fun h => hne (same_of h)
          rw [← hSX] at q1
          rw [← hSY] at q2
          have HB5 := Lib.hid (into BW4.out hB5)
          clear hSX hSY hb5 hB5
          go_wp2_with fail
          all_goals (
            go_ret
            refine ⟨rb ?_, HB5.out⟩
            first | (exfalso; omega) | simp_all))
      · subst hs
        have hfc : fstc (PA.drop (k + 1)) (PB.drop (k + 1)) = fstc PA PB := by rw [← HFK.out, HST.out, if_neg (by omega)]
        have HFC := Lib.hid hfc
        clear hfc
        go_wp2_with fail
        go_region_with (go_at_call 14; refine (HCC.out _).mono ?_; rintro e w5 ⟨rfl, hb5⟩)
        all_goals (
          have hB5 : Below w4.heap.size w4 w5 := hbk.trans (((Below.refl w4.heap.size wr).drew).trans (hb5.mono (by simpa using hbz)))
          clear hb5
          go_wp2_with fail
          go_roundw
          case rel => exact ⟨k + 1, by omega, by go_num, HFC.out, hB5⟩
          case measure => simp [intOf]; omega)
      · have hfc : fstc PA PB = C := by rw [← HFK.out, HST.out, if_pos (by omega)]
        have hxy := HORD.out.2.2 (by rw [hfc]; exact hs)
        have HXY := Lib.hid hxy
        have hc1 : ¬ C = 0 := by omega
        have hc2 : ¬ C < 0 := by omega
        clear hxy hfc
        go_wp2_with fail
        go_region_with (go_at_call 14; refine (HCC.out _).mono ?_; rintro e w5 ⟨rfl, hb5⟩)
        all_goals (
          have hB5 : Below w4.heap.size w4 w5 := hbk.trans (((Below.refl w4.heap.size wr).drew).trans (hb5.mono (by simpa using hbz)))
          have q1 := str_of (H8'.out.below hB5)
          have q2 := str_of (H10.out.below hB5)
          obtain ⟨SX, hSX⟩ : ∃ SX : ByteArray, SX = ⟨(encs PA).toArray⟩ := ⟨_, rfl⟩
          obtain ⟨SY, hSY⟩ : ∃ SY : ByteArray, SY = ⟨(encs PB).toArray⟩ := ⟨_, rfl⟩
          have hgr : Op.bytesLess SY.toList SX.toList = true := by rw [hSX, hSY, list_of, list_of]; exact HXY.out
          have hless : Op.bytesLess SX.toList SY.toList = false := bl_asy _ _ hgr
          have hne : ¬ SX = SY := by rintro rfl; rw [bl_irr] at hgr; cases hgr
          have hne2 : ¬ SX.toList = SY.toList := fun h => hne (same_of h)
          rw [← hSX] at q1
          rw [← hSY] at q2
          have HB5 := Lib.hid (into BW4.out hB5)
          clear hSX hSY hb5 hB5 hgr
          go_wp2_with fail
          all_goals (
            go_ret
            refine ⟨rb ?_, HB5.out⟩
            first | (exfalso; omega) | simp_all))
    · obtain rfl : k = n := by omega
      have hXY : encs PA = encs PB := HORD.out.1 (by
        rw [← HFK.out, List.drop_of_length_le (by rw [LA.out]; exact Nat.le_refl _)]
        rfl)
      have HXY := Lib.hid hXY
      clear hXY
      go_wp2_with fail
      have hr9 : Rd (wr.alloc (.cells #[.int .u8 9] 5)) 1 1 (.slice (some ⟨wr.heap.size, 0, none⟩) 1 1) (bc [9]) :=
        Rd.own (World.ownsRow_lit (base := wr.heap.size) (e := 5) (size := 1) wr #[.int .u8 9] 1 (Nat.le_refl _) (by unfold maxLen; omega) rfl)
      have hba : Below w4.heap.size w4 (wr.alloc (.cells #[.int .u8 9] 5)) := hbk.alloc hbk.size _
      have ct := dec_any 1 _ [9] _ ((HL.out.below BW4.out).below hba) hr9
      have hd9 : dec [9] = ([], 2) := by simp [dec, decm, tak, lst]
      rw [hd9] at ct
      refine ct.mono ?_
      clear ct hd9 hr9
      rintro e w6 ⟨v15, rfl, hown15, hb6⟩
      clear hown15
      have hB6 : Below w4.heap.size w4 w6 := hba.trans (hb6.mono hba.size)
      have q1 := str_of (H8'.out.below hB6)
      have q2 := str_of (H10.out.below hB6)
      rw [← HXY.out] at q2
      have HB6 := Lib.hid (into BW4.out hB6)
      clear hb6 hB6 hba
      go_wp2_with fail
      go_ret
      exact ⟨rfl, HB6.out⟩

theorem lifted (os : Os) (started : os.Started) (H : Type) (enc : TypeId × Value → H) :
    ReturnsInHanded {} Tryd.checked os 6 .any (fun w args => (Rows.keyOrderSpec.pre enc Tryd.prog Tryd.f6 [] false w args ∧ laid1 w) ∧ sizedMet enc Tryd.prog Tryd.f6 (OpenSpec.ofChange Rows.keyOrderSpec) false w args) (Rows.keyOrderSpec.post enc Tryd.prog Tryd.f6 false true false false) := by
  refine returnsInHanded_of_change_and (C := Tryd.checked) (X := fun w _ => laid1 w) (fun _ _ _ hh h => h.of_heap hh) Tryd.own started (by kernel_rfl) Tryd.func6
    (ChangeSpec.witness_at (enc := enc) (C := Tryd.checked) (os := os) (X := fun w _ => laid1 w) false (tabled os) #[.slice none 0 0, .slice none 0 0] 8 rfl (by kernel_rfl) (by kernel_rfl) (by kernel_rfl) (by kernel_rfl) (by kernel_rfl) (tabled_laid os _)) ?_
  intro W base args ds gs before hval0 hW hcnd hsz0 hL _
  have hsz : (DataW.weightsEach Tryd.prog (Tryd.f6.params.toList ++ Rows.keyOrderSpec.plain.varTypes Tryd.prog) (ds ++ gs)).all (· ≤ reachBytes) = true := hsz0
  have hval : ∀ (j : Nat) t v, Tryd.f6.params[j]? = some t → args[j]? = some v → Value.okWide Tryd.prog W .any base t v := hval0
  have hW' := hW
  obtain ⟨p, q, hA0, hV, rfl, hfz, hnd⟩ := hW
  have hA : DataW.TrodAll enc Tryd.prog W 0 (fun _ => true) true Tryd.f6.params.toList args.toList ds p := hA0
  rw [Tryd.params6] at hA hval hsz
  obtain ⟨v0, v1, d0, d1, p0, p1, rfl, rfl, rfl, h0, h1⟩ := trodAll_two hA
  obtain ⟨rfl, rfl⟩ := trodVars_none hV
  obtain ⟨n0, l0, hr0, hw0, hs0⟩ := open_v3 Tryd.underlying30 Tryd.underlying47 (by kernel_rfl) (by kernel_rfl) Tryd.underlying3 Tryd.underlying3 Tryd.underlying9 (hval 0 30 v0 rfl rfl) h0
  have hz0 : n0 * 32 ≤ 140737488351232 := by
    rcases hs0 with rfl | ⟨es, sp, hd, hl⟩
    · omega
    · subst hd
      have := sized_slice hsz (j := 0) (t := 30) (e := 47) rfl rfl Tryd.underlying30
      rw [show Tryd.prog.bytesOf 47 = 32 by kernel_rfl, hl] at this
      simp only [reachBytes] at this
      omega
  obtain ⟨n1, l1, hr1, hw1, hs1⟩ := open_v3 Tryd.underlying30 Tryd.underlying47 (by kernel_rfl) (by kernel_rfl) Tryd.underlying3 Tryd.underlying3 Tryd.underlying9 (hval 1 30 v1 rfl rfl) h1
  have hz1 : n1 * 32 ≤ 140737488351232 := by
    rcases hs1 with rfl | ⟨es, sp, hd, hl⟩
    · omega
    · subst hd
      have := sized_slice hsz (j := 1) (t := 30) (e := 47) rfl rfl Tryd.underlying30
      rw [show Tryd.prog.bytesOf 47 = 32 by kernel_rfl, hl] at this
      simp only [reachBytes] at this
      omega
  clear hA0 hval0
  refine (walk W (Lst_of hL) n0 v0 l0 hr0 hw0 hz0 n1 v1 l1 hr1 hw1 hz1).mono fun e W' ⟨he, hg⟩ => ?_
  subst he
  exact ⟨_, rfl, law_post (tb := 4) Tryd.laidOut (by kernel_rfl) (by kernel_rfl) Tryd.underlying4 rfl hW' hg rfl rfl rfl⟩

theorem bare : Rows.KeyOrderSaid :=
  OpenClaim.holds_of_wide 6 Tryd.f6 rfl rfl rfl rfl rfl rfl rfl ⟨rfl, rfl, rfl, rfl, rfl⟩ rfl rfl rfl rfl rfl (by kernel_rfl) Tryd.func6 (by kernel_rfl)
    (of_decide_eq_true (by kernel_rfl)) (by unfold Func.isWrapper; first | (rw [if_pos (by decide +kernel)]; kernel_rfl) | (rw [if_neg (by decide +kernel)]; exact ⟨rfl, rfl⟩))
    (fun os started H enc _ => lifted os started H enc)
/-- The card: the row's one listed variable is tied to the program's text. -/
theorem proved : Rows.KeyOrderCardSaid :=
  Claim7.holds_tied_plain_at .later [] [.data] true _ false bare (fun _ h => by cases h) (by kernel_rfl) (fun _ h => by cases h) keyOrder_row_tie rfl ⟨rfl, rfl⟩ (by kernel_rfl) rfl
    (fun f fn hf hfn => by
      obtain rfl : f = 6 := Option.some.inj ((show Tryd.prog.funcNamed "padlock/padlockkeep.KeyOrder" = some 6 by kernel_rfl).symm.trans hf) |>.symm
      obtain rfl : fn = Tryd.f6 := (Option.some.inj (Tryd.func6.symm.trans hfn)).symm
      refine ⟨by kernel_rfl, fun j t ht => ?_⟩
      rw [Tryd.params6] at ht
      rcases j with _ | _ | j <;> simp at ht <;> subst ht <;> kernel_rfl)
    (by kernel_rfl)
#print axioms proved
end Go.Proofs.YtakhkcabahhohaaDoor.lKeyOrder
