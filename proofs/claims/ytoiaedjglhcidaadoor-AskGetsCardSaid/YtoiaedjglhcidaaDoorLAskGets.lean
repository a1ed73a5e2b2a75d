/- Who asks has it, or waits; and has it, if nobody else has or wants anything: at every list of wishes and every wish. The row lists the program's two tables; the card ties them to the program's text. -/
import Derived.Test.YtoiaedjglhcidaaDoorJl
import Derived.Test.YtoiaedjglhcidaaDoorB2
import Derived.Test.YtoiaedjglhcidaaDoorMv
import Derived.Test.YtoiaedjglhcidaaDoorMc
import Derived.Test.YtoiaedjglhcidaaDoorJq
namespace Go.Proofs.YtoiaedjglhcidaaDoor.lAskGets
open Go.ChangeShapes Go.WideShapes Go.ChangeAt Go.RowKit Go.Joins
open Go.ChangeMaps (open_string shut_string)
set_option linter.unusedVariables false
set_option linter.unusedSimpArgs false
set_option maxHeartbeats 400000

theorem any_step {p : Lk → Bool} {H : List Lk} {i : Nat} (hi : i < H.length) : (H.take (i + 1)).any p = ((H.take i).any p || p (H.getD i nlk)) := by
  rw [List.take_succ_eq_append_getElem hi, List.any_append, gd hi]
  simp
set_option maxRecDepth 100000 in
set_option maxHeartbeats 8000000 in
theorem walk (W : World) (hL : Tog W ∧ Jnd W) (n : Nat) (v : Value) (l : List Wi) (hr : Rd W 3 n v (wic l)) (hz : n * 24 ≤ 140737488351232) (hs : ∀ o ∈ l, WiOk o) (a b c : Int) (wa : (Lit.int .i64 a).wf = true) (wb : (Lit.int .i64 b).wf = true) (wc : (Lit.int .i64 c).wf = true) :
    Calls Tryd.prog 4 #[v, .agg #[.int .i64 a, .int .i64 b, .int .i64 c]] W fun e w' => e = .returned (.bool true) ∧ Below W.heap.size W w' := by
  have HT := Lib.hid hL
  obtain ⟨_, av, cv, rfl, _⟩ := id hr
  have hbx : Below W.heap.size W (W.alloc (.cells #[.int .i64 a, .int .i64 b, .int .i64 c] 37)) := (Below.refl _ _).alloc (Nat.le_refl _) _
  have hbh : (W.alloc (.cells #[.int .i64 a, .int .i64 b, .int .i64 c] 37)).heap[W.heap.size]? = some (.cells #[.int .i64 a, .int .i64 b, .int .i64 c] 37 (0, 0)) := new0 _ _
  obtain ⟨W1, hW1⟩ : ∃ W1, W1 = W.alloc (.cells #[.int .i64 a, .int .i64 b, .int .i64 c] 37) := ⟨_, rfl⟩
  rw [← hW1] at hbx hbh
  have HLK := Lib.hid (locks_any W1 ⟨hL.1.below hbx, hL.2.below hbx⟩ n _ l (hr.below hbx) hs)
  have hlo := fun w => lockOf_any w a b c (rn_of wa) (rn_of wb) (rn_of wc)
  obtain ⟨⟨v1, v2⟩, v3⟩ := wiL_in ⟨a, b, c⟩
  obtain ⟨q, hq⟩ : ∃ q, q = wiL ⟨a, b, c⟩ := ⟨_, rfl⟩
  rw [← hq] at hlo v1 v2 v3
  obtain ⟨qt, qth, qm⟩ := q
  simp only at v1 v2
  have HLO : Hid (∀ w, Calls Tryd.prog 12 #[.agg #[.int .i64 a, .int .i64 b, .int .i64 c]] w fun e w' => e = .returned (.agg #[.int .i64 qt, .string qth, .int .i64 qm]) ∧ Below w.heap.size w w') := hlo
  have HW1 := Lib.hid hW1
  have HB1 := Lib.hid hbx
  have HBH := Lib.hid hbh
  have HV3 := Lib.hid v3
  clear hL hr hs hbx hbh hW1 hq hlo wa wb wc v3
  go_enter Tryd.func4, Tryd.ntmps4
  go_wp2_with fail
  rw [← HW1.out]
  refine HLK.out.mono ?_
  rintro e w2 ⟨x1, n1, c1, x2, n2, c2, H, Q, rfl, hg0, g1, g2, hb2⟩
  have hba : Below W1.heap.size W1 (w2.alloc (.cells #[.slice x1 n1 c1, .slice x2 n2 c2] 25)) := hb2.alloc hb2.size _
  have hlx := LB.new w2 g1 g2
  have hn1 := len_l g1
  have hn2 := len_l g2
  have hbh2 := (hba.block _ (Array.getElem?_eq_some_iff.1 HBH.out).1).trans HBH.out
  obtain ⟨i0, i1, i2, -, -, -⟩ := has3 hbh2 (Below.refl _ _)
  obtain ⟨W3, hW3⟩ : ∃ W3, W3 = w2.alloc (.cells #[.slice x1 n1 c1, .slice x2 n2 c2] 25) := ⟨_, rfl⟩
  have HW3 := Lib.hid hW3
  have HB3 : Hid (Below W.heap.size W W3) := by rw [hW3]; exact into HB1.out hba
  have HLX : Hid (LB W3 w2.heap.size x1 n1 c1 x2 n2 c2 H Q) := by rw [hW3]; exact hlx
  have HG := Lib.hid hg0
  have HN := Lib.hid (And.intro hn1 hn2)
  have hn40 : n1 ≤ 40 := by have := hg0.few; omega
  have hn240 : n2 ≤ 40 := by have := hg0.few; omega
  clear g1 g2 hb2 hba hlx hn1 hn2 hbh2 hW3 HLK hg0
  go_wp2_with fail
  rw [← HW3.out]
  refine (HLO.out _).mono ?_
  rintro e w4 ⟨rfl, hb4⟩
  have hba : Below W3.heap.size W3 (w4.alloc (.cells #[.int .i64 qt, .string qth, .int .i64 qm] 28)) := hb4.alloc hb4.size _
  have hl4 := HLX.out.below hba
  obtain ⟨e0, e1, -, -⟩ := box2 hl4.b
  obtain ⟨q0, q1, q2⟩ := BxL.new w4 ⟨qt, qth, qm⟩
  rcases hak : askL H Q ⟨qt, qth, qm⟩ with ⟨H', Q', bb, er⟩
  have hok := HG.out.ok
  have hfw : H.length + Q.length < 200 := by have := HG.out.few; omega
  have her := ask_e (x := ⟨qt, qth, qm⟩) hok hfw HV3.out
  have hhas := fun h1 h2 => ask_has (x := ⟨qt, qth, qm⟩) hok hfw HV3.out h1 h2
  have hnot := fun h1 h2 => ask_not (x := ⟨qt, qth, qm⟩) hok hfw HV3.out h1 h2
  rw [hak] at her hhas hnot
  simp only at her hhas hnot
  have hbw : Below W.heap.size W (w4.alloc (.cells #[.int .i64 qt, .string qth, .int .i64 qm] 28)) := into HB3.out hba
  have HAK := Lib.hid (ask_v _ ⟨HT.out.1.below hbw, HT.out.2.below hbw⟩ hl4.h hl4.q (by omega) hak)
  have HQB : Hid (BxL (w4.alloc (.cells #[.int .i64 qt, .string qth, .int .i64 qm] 28)) w4.heap.size ⟨qt, qth, qm⟩) := BxL.new w4 ⟨qt, qth, qm⟩
  have HL4 := Lib.hid hl4
  have HB4 := Lib.hid hbw
  have HER := Lib.hid her
  have HHAS := Lib.hid hhas
  have HNOT := Lib.hid hnot
  clear i0 i1 i2 hb4 hba hl4 hak hok hfw her hhas hnot hbw
  simp only at q0 q1 q2
  go_wp2_with fail
  refine HAK.out.mono ?_
  rintro e w5 ⟨y1, m1, d1, y2, m2, d2, rfl, g1, g2, hb5⟩
  have hba : Below (w4.alloc (.cells #[.int .i64 qt, .string qth, .int .i64 qm] 28)).heap.size (w4.alloc (.cells #[.int .i64 qt, .string qth, .int .i64 qm] 28)) (w5.alloc (.cells #[.slice y1 m1 d1, .slice y2 m2 d2] 25)) := hb5.alloc hb5.size _
  have hly := LB.new w5 g1 g2
  have hl5 := HL4.out.below hba
  have hq5 := HQB.out.below hba
  have hb6 : Below W.heap.size W (w5.alloc (.cells #[.slice y1 m1 d1, .slice y2 m2 d2] 25)) := into HB4.out hba
  have hm1 := len_l g1
  have hm2 := len_l g2
  obtain ⟨W6, hW6⟩ : ∃ W6, W6 = w5.alloc (.cells #[.slice y1 m1 d1, .slice y2 m2 d2] 25) := ⟨_, rfl⟩
  rw [← hW6] at hly hl5 hq5 hb6
  have HW6 := Lib.hid hW6
  have HLY := Lib.hid hly
  have HL6 := Lib.hid hl5
  have HQ6 := Lib.hid hq5
  have HB6 := Lib.hid hb6
  have HM := Lib.hid (And.intro hm1 hm2)
  clear e0 e1 q0 q1 q2 g1 g2 hb5 hba hly hl5 hq5 hb6 hW6 HAK HQB HL4 HB4 hm1 hm2
  go_wp2_with fail
  rw [← HW6.out]
  go_loopw [10] (fun kv wr => ∃ k : Nat, k ≤ n2 ∧ kv = .int .i64 (k : Int) ∧ Hid (∀ i, i < k → ofB qt (Q.getD i nlk) = false) ∧ Hid (Below W6.heap.size W6 wr)) (fun kv _ => n2 - (intOf kv).toNat)
  case atStart => exact ⟨0, by omega, rfl, (fun i hi => absurd hi (by omega)), Below.refl _ _⟩
  case round =>
    obtain ⟨k, hkn, rfl, HA, HB⟩ := hrel
    have hl := HL6.out.below HB.out
    obtain ⟨e0, e1, f0, f1⟩ := box2 hl.b
    obtain ⟨q0, q1, q2⟩ := HQ6.out.below HB.out
    (try simp only at q0 q1 q2)
    by_cases hlt : k < n2
    · have hltI : (k : Int) < (n2 : Int) := by omega
      obtain ⟨b', o', cap', hsh, _, _, hbw', hcell'⟩ := lks_of hl.q (by omega)
      simp only [Value.slice.injEq] at hsh
      obtain ⟨rfl, -, rfl⟩ := hsh
      obtain ⟨a0, -, -⟩ := hcell' k hlt
      have hmem := mem_getD (l := Q) (k := k) (by rw [← HN.out.2]; exact hlt)
      obtain ⟨u, hu⟩ : ∃ u, u = Q.getD k nlk := ⟨_, rfl⟩
      rw [← hu] at a0 hmem
      have HU := Lib.hid hu
      have HME := Lib.hid hmem
      obtain ⟨t', th', m'⟩ := u
      simp only at a0
      clear hcell' hu hl hmem
      by_cases he : t' = qt
      · subst he
        have herr : er = 9 := by
          have : Q.any (ofB t') = true := List.any_eq_true.2 ⟨_, HME.out, by simp [ofB]⟩
          have h := HER.out
          rw [if_pos this] at h
          exact h
        subst herr
        go_wp2_with fail
        go_quiet (fail)
        go_wp2_with fail
        go_ret
        exact ⟨rfl, into HB6.out (below_drewN HB.out _)⟩
      · have he' : (t' == qt) = false := by simpa using he
        go_wp2_with fail
        go_quiet (fail)
        go_wp2_with fail
        go_roundw
        case rel =>
          refine ⟨k + 1, by omega, by go_num, fun i hi => ?_, below_drewN HB.out _⟩
          rcases Nat.lt_or_ge i k with h | h
          · exact HA.out i h
          · obtain rfl : i = k := by omega
            unfold ofB
            rw [← HU.out]
            exact he'
        case measure => (simp [intOf]) <;> omega
    · obtain rfl : k = n2 := by omega
      have hnI : ¬ (k : Int) < (k : Int) := by omega
      have hqn : Q.any (ofB qt) = false := by
        rw [List.any_eq_false]
        intro z hz
        obtain ⟨i, hi, rfl⟩ := List.getElem_of_mem hz
        have := HA.out i (by rw [HN.out.2]; exact hi)
        rw [gd hi] at this
        simp [this]
      have herr : er = 0 := by
        have h := HER.out
        rw [hqn] at h
        simpa using h
      subst herr
      have hly := HLY.out.below HB.out
      obtain ⟨y0, y1', -, -⟩ := box2 hly.b
      have hbw : Below W.heap.size W wr := into HB6.out HB.out
      have HBW := Lib.hid hbw
      have HLL := Lib.hid hl
      have HYY := Lib.hid hly
      have HHA := Lib.hid (HHAS.out hqn)
      have HNO := Lib.hid (HNOT.out hqn)
      clear hqn hbw hl hly hlt HA HER HHAS HNOT
      cases bb
      · obtain ⟨hany, hq2, hh2⟩ := HNO.out rfl
        have hm2' : m2 = k + 1 := by rw [HM.out.2, hq2, HN.out.2]
        have hm1' : m1 = n1 := by rw [HM.out.1, hh2, HN.out.1]
        subst hm2' hm1'
        have HANY := Lib.hid hany
        clear hany hq2 hh2 HNO HHA
        go_wp2_with fail
        clear e0 e1 f0 f1 y0 y1'
        go_loopw [14, 15] (fun bv iv wx => ∃ i : Nat, i ≤ m1 ∧ iv = .int .i64 (i : Int) ∧ bv = .bool ((H.take i).any (sameTh ⟨qt, qth, qm⟩)) ∧ Hid (Below wr.heap.size wr wx)) (fun _ iv _ => m1 - (intOf iv).toNat)
        case atStart => exact ⟨0, by omega, rfl, by simp, Below.refl _ _⟩
        case round =>
          obtain ⟨i, hin, rfl, rfl, HBi⟩ := hrel
          have hl := HLL.out.below HBi.out
          have hy := HYY.out.below HBi.out
          obtain ⟨e0, e1, f0, f1⟩ := box2 hl.b
          obtain ⟨y0, y1', -, -⟩ := box2 hy.b
          obtain ⟨q0, q1, q2⟩ := HQ6.out.below (into HB.out HBi.out)
          (try simp only at q0 q1 q2)
          by_cases hli : i < m1
          · have hliI : (i : Int) < (m1 : Int) := by omega
            obtain ⟨b', o', cap', hsh, _, _, hbw', hcell'⟩ := lks_of hl.h (by omega)
            simp only [Value.slice.injEq] at hsh
            obtain ⟨rfl, -, rfl⟩ := hsh
            obtain ⟨a0, a1, -⟩ := hcell' i hli
            have hst := any_step (p := sameTh ⟨qt, qth, qm⟩) (H := H) (i := i) (by rw [← HN.out.1]; exact hli)
            have hsm : sameTh ⟨qt, qth, qm⟩ (H.getD i nlk) = ((H.getD i nlk).th.toList == qth.toList && ((H.getD i nlk).t != qt)) := rfl
            obtain ⟨u, hu⟩ : ∃ u, u = H.getD i nlk := ⟨_, rfl⟩
            rw [← hu] at a0 a1 hst hsm
            obtain ⟨ut, uth, um⟩ := u
            simp only at a0 a1 hsm
            rw [hsm] at hst
            obtain ⟨bz, hbz⟩ : ∃ bz, bz = (H.take i).any (sameTh ⟨qt, qth, qm⟩) := ⟨_, rfl⟩
            rw [← hbz] at hst ⊢
            obtain ⟨d, hd⟩ : ∃ d, d = (uth.toList == qth.toList) := ⟨_, rfl⟩
            rw [← hd] at hst
            have hd' := hd.symm
            have HST := Lib.hid hst
            clear hcell' hu hl hy hst hsm hbz hd
            cases bz
            · cases d
              · go_wp2_with fail
                go_quiet (fail)
                go_wp2_with fail
                go_roundw
                case rel => exact ⟨i + 1, by omega, by go_num, by rw [HST.out]; rfl, below_drewN HBi.out _⟩
                case measure => (simp [intOf]) <;> omega
              · by_cases he : ut = qt
                · subst he
                  go_wp2_with fail
                  go_quiet (fail)
                  go_wp2_with fail
                  go_roundw
                  case rel => exact ⟨i + 1, by omega, by go_num, by rw [HST.out]; simp, below_drewN HBi.out _⟩
                  case measure => (simp [intOf]) <;> omega
                · have he' : (ut == qt) = false := by simpa using he
                  have he2 : (ut != qt) = true := by simpa using he
                  go_wp2_with fail
                  go_quiet (fail)
                  go_wp2_with fail
                  go_roundw
                  case rel => exact ⟨i + 1, by omega, by go_num, by rw [HST.out, he2]; rfl, below_drewN HBi.out _⟩
                  case measure => (simp [intOf]) <;> omega
            · go_wp2_with fail
              go_quiet (fail)
              go_wp2_with fail
              go_roundw
              case rel => exact ⟨i + 1, by omega, by go_num, by rw [HST.out]; simp, below_drewN HBi.out _⟩
              case measure => (simp [intOf]) <;> omega
          · obtain rfl : i = m1 := by omega
            have hniI : ¬ (i : Int) < (i : Int) := by omega
            have hfin : (H.take i).any (sameTh ⟨qt, qth, qm⟩) = true := by
              rw [List.take_of_length_le (by rw [← HN.out.1]; exact Nat.le_refl _)]
              exact HANY.out
            rw [hfin]
            clear hl hy hli hfin
            go_wp2_with fail
            go_ret
            exact ⟨by simp, into HBW.out HBi.out⟩
      · obtain ⟨⟨hh1, hh2⟩, hh3, hh4⟩ := HHA.out rfl
        have hm2' : m2 = k := by rw [HM.out.2, hh4, HN.out.2]
        subst hm2'
        have hkm := kmode_any wr (x2 := y2) (n2 := m2) (c2 := d2) qt qth qm HYY.out.h
        obtain ⟨md, hmd⟩ : ∃ md, md = hmd H' ⟨qt, qth, qm⟩ := ⟨_, rfl⟩
        rw [← hmd] at hkm hh1 hh2 hh3
        have hqm := mods HV3.out
        simp only at hqm
        have hjo := fun w (hw : Jnd w) => join_any w hw md qm
        have hJ1 : joinV md qm = joi md qm := by unfold joinV; rw [isM_iff.2 ⟨hh1, hh2⟩, isM_iff.2 hqm]; rfl
        have hJ2 : kindE md qm = 0 := by unfold kindE; rw [isM_iff.2 ⟨hh1, hh2⟩, isM_iff.2 hqm]; rfl
        (try simp only at hh3)
        rw [hJ1, hJ2, hh3] at hjo
        have HKM := Lib.hid hkm
        have HJO := Lib.hid hjo
        have hmx : max md 1 = md := by omega
        have hmx0 : 0 < md := by omega
        clear hkm hjo hJ1 hJ2 hmd hh3 hh4 hqm HHA HNO
        go_wp2_with fail
        refine HKM.out.mono ?_
        rintro e w7 ⟨rfl, hb7⟩
        have hl7 := HLL.out.below hb7
        have hy7 := HYY.out.below hb7
        clear e0 e1 f0 f1 y0 y1'
        obtain ⟨e0, e1, f0, f1⟩ := box2 hl7.b
        obtain ⟨y0, y1', -, -⟩ := box2 hy7.b
        have q2' := cell_of_below hb7 q2
        have HB7 := Lib.hid (into HBW.out hb7)
        clear hl7 hy7 hb7 q0 q1 q2
        go_wp2_with (go_at_call 14; ((with_reducible refine (HJO.out _ (HT.out.2.below HB7.out)).mono ?_); rintro e w' ⟨rfl, rfl⟩))
        go_ret
        exact ⟨by simp, HB7.out⟩

set_option maxRecDepth 100000 in
theorem lifted (os : Os) (started : os.Started) (H : Type) (enc : TypeId × Value → H) :
    ReturnsInHanded {} Tryd.checked os 4 .any (fun w args => (Rows.askGetsSpec.pre enc Tryd.prog Tryd.f4 [] false w args ∧ laidTJ w) ∧ sizedMet enc Tryd.prog Tryd.f4 (OpenSpec.ofChange Rows.askGetsSpec) false w args) (Rows.askGetsSpec.post enc Tryd.prog Tryd.f4 false true false false) := by
  refine returnsInHanded_of_change_and (C := Tryd.checked) (X := fun w _ => laidTJ w) (fun _ _ _ hh h => h.of_heap hh) Tryd.own started (by kernel_rfl) Tryd.func4
    (ChangeSpec.witness_at (enc := enc) (C := Tryd.checked) (os := os) (X := fun w _ => laidTJ w) false (tabled os) #[.slice none 0 0, .agg #[.int .i64 0, .int .i64 0, .int .i64 0]] 8 rfl (by kernel_rfl) (by kernel_rfl) (by kernel_rfl) (by kernel_rfl) (by kernel_rfl) (tabled_laidTJ os _)) ?_
  intro W base args ds gs before hval0 hW hcnd hsz0 hL _
  have hsz : (DataW.weightsEach Tryd.prog (Tryd.f4.params.toList ++ Rows.askGetsSpec.plain.varTypes Tryd.prog) (ds ++ gs)).all (· ≤ reachBytes) = true := hsz0
  have hval : ∀ (j : Nat) t v, Tryd.f4.params[j]? = some t → args[j]? = some v → Value.okWide Tryd.prog W .any base t v := hval0
  have hW' := hW
  obtain ⟨p, q, hA0, hV, rfl, hfz, hnd⟩ := hW
  have hA : DataW.TrodAll enc Tryd.prog W 0 (fun _ => true) true Tryd.f4.params.toList args.toList ds p := hA0
  rw [Tryd.params4] at hA hval hsz
  obtain ⟨v0, v1, d0, d1, p0, p1, rfl, rfl, rfl, h0, h1⟩ := trodAll_two hA
  obtain ⟨rfl, rfl⟩ := trodVars_none hV
  have sm0 : small Tryd.prog 22 d0 := fun q hq => by
    have := List.all_eq_true.1 hsz q (weights_each (j := 0) rfl rfl q hq)
    simpa using this
  obtain ⟨n0, l0, hr0, hz0, hs0⟩ := open_wishes (hval 0 22 v0 rfl rfl) h0 sm0
  obtain ⟨c10, c11, c12, y10, y11, y12, m1, rfl, rfl, hp1, hy10, hy11, hy12⟩ := open_agg3 Tryd.underlying37 (by kernel_rfl) (by kernel_rfl) (hval 1 37 v1 rfl rfl) h1
  obtain ⟨k1, e10, rfl, wk1⟩ := DataW.trod_int Tryd.underlying3 hy10
  obtain ⟨s1, e11, rfl, ws1⟩ := DataW.trod_int Tryd.underlying3 hy11
  obtain ⟨n1, e12, rfl, wn1⟩ := DataW.trod_int Tryd.underlying3 hy12
  simp at e10 e11 e12
  subst e10 e11 e12
  clear hA0 hval0
  refine (walk W (TJ_of hL) n0 v0 l0 hr0 hz0 hs0 k1 s1 n1 wk1 ws1 wn1).mono fun e W' ⟨he, hg⟩ => ?_
  subst he
  exact ⟨_, rfl, law_post (tb := 4) Tryd.laidOut (by kernel_rfl) (by kernel_rfl) Tryd.underlying4 rfl hW' hg rfl rfl rfl⟩

theorem bare : Rows.AskGetsSaid :=
  OpenClaim.holds_of_wide 4 Tryd.f4 rfl rfl rfl rfl rfl rfl rfl ⟨rfl, rfl, rfl, rfl, rfl⟩ rfl rfl rfl rfl rfl (by kernel_rfl) Tryd.func4 (by kernel_rfl)
    (of_decide_eq_true (by kernel_rfl)) (by unfold Func.isWrapper; first | (rw [if_pos (by decide +kernel)]; kernel_rfl) | (rw [if_neg (by decide +kernel)]; exact ⟨rfl, rfl⟩))
    (fun os started H enc _ => lifted os started H enc)
/-- The card: the row's one listed variable is tied to the program's text. -/
theorem proved : Rows.AskGetsCardSaid :=
  Claim7.holds_tied_plain_at .later [] [.data, .data] true _ false bare (fun _ h => by cases h) (by kernel_rfl) (fun _ h => by cases h) askGets_row_tie rfl ⟨rfl, rfl⟩ (by kernel_rfl) rfl
    (fun f fn hf hfn => by
      obtain rfl : f = 4 := Option.some.inj ((show Tryd.prog.funcNamed "padlock/padlockkeep.AskGets" = some 4 by kernel_rfl).symm.trans hf) |>.symm
      obtain rfl : fn = Tryd.f4 := (Option.some.inj (Tryd.func4.symm.trans hfn)).symm
      refine ⟨by kernel_rfl, fun j t ht => ?_⟩
      rw [Tryd.params4] at ht
      rcases j with _ | _ | j <;> simp at ht <;> subst ht <;> kernel_rfl)
    (by kernel_rfl)
#print axioms proved
end Go.Proofs.YtoiaedjglhcidaaDoor.lAskGets
