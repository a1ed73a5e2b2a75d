/- To ask for what one has changes nothing: at every list of wishes and every raw number. The row lists the program's two tables; the card ties them to the program's text. -/
import Derived.Test.YtoiaedjglhcidaaDoorJl
import Derived.Test.YtoiaedjglhcidaaDoorB2
import Derived.Test.YtoiaedjglhcidaaDoorMv
import Derived.Test.YtoiaedjglhcidaaDoorMe
namespace Go.Proofs.YtoiaedjglhcidaaDoor.lAskAgain
open Go.ChangeShapes Go.WideShapes Go.ChangeAt Go.RowKit Go.Joins
open Go.ChangeMaps (open_string shut_string)
set_option linter.unusedVariables false
set_option linter.unusedSimpArgs false
set_option maxHeartbeats 400000

set_option maxRecDepth 100000 in
set_option maxHeartbeats 8000000 in
theorem walk (W : World) (hL : Tog W ∧ Jnd W) (n : Nat) (v : Value) (l : List Wi) (hr : Rd W 3 n v (wic l)) (hz : n * 24 ≤ 140737488351232) (hs : ∀ o ∈ l, WiOk o) (x : Int) (wx : (Lit.int .i64 x).wf = true) : Calls Tryd.prog 7 #[v, .int .i64 x] W fun e w' => e = .returned (.bool true) ∧ Below W.heap.size W w' := by
  have HT := Lib.hid hL
  have HLK := Lib.hid (locks_any W hL n v l hr hs)
  obtain ⟨_, av, cv, rfl, _⟩ := id hr
  have hwx := rn_of wx
  clear hL hr hs wx
  go_enter Tryd.func7, Tryd.ntmps7
  go_wp2_with fail
  refine HLK.out.mono ?_
  rintro e w1 ⟨x1, n1, c1, x2, n2, c2, H, Q, rfl, hg0, g1, g2, hb1⟩
  have hlb := LB.new w1 g1 g2
  have hb2 : Below W.heap.size W (w1.alloc (.cells #[.slice x1 n1 c1, .slice x2 n2 c2] 25)) := hb1.alloc hb1.size _
  have hn1 := len_l g1
  have hn2 := len_l g2
  obtain ⟨W2, hW2⟩ : ∃ W2, W2 = w1.alloc (.cells #[.slice x1 n1 c1, .slice x2 n2 c2] 25) := ⟨_, rfl⟩
  rw [← hW2] at hlb hb2
  have HAK := Lib.hid (ask_v W2 ⟨HT.out.1.below hb2, HT.out.2.below hb2⟩ (Rd.nil _ _) (Rd.nil _ _) (by simp) (more_1 (m := 1) (by omega)))
  have HLB := Lib.hid hlb
  have HB2 := Lib.hid hb2
  have HW2 := Lib.hid hW2
  have HG := Lib.hid hg0
  have HN := Lib.hid (And.intro hn1 hn2)
  have hn40 : n1 ≤ 40 := by have := hg0.few; omega
  have hn240 : n2 ≤ 40 := by have := hg0.few; omega
  clear g1 g2 hb1 hlb hb2 hW2 HLK hg0 hn1 hn2
  go_wp2_with fail
  rw [← HW2.out]
  refine HAK.out.mono ?_
  rintro e w3 ⟨y1, m1, d1, y2, m2, d2, rfl, g1, g2, hb3⟩
  have hm1 : m1 = 1 := len_l g1
  subst hm1
  have hba : Below W2.heap.size W2 (w3.alloc (.cells #[.slice y1 1 d1, .slice y2 m2 d2] 25)) := hb3.alloc hb3.size _
  have hln := LB.new w3 g1 g2
  obtain ⟨k0, k1, -, -⟩ := box2 hln.b
  have hl4 := HLB.out.below hba
  obtain ⟨e0, e1, f0, f1⟩ := box2 hl4.b
  obtain ⟨W4, hW4⟩ : ∃ W4, W4 = w3.alloc (.cells #[.slice y1 1 d1, .slice y2 m2 d2] 25) := ⟨_, rfl⟩
  have HW4 := Lib.hid hW4
  have HL4 : Hid (LB W4 w1.heap.size x1 n1 c1 x2 n2 c2 H Q) := by rw [hW4]; exact hl4
  have HB4 : Hid (Below W.heap.size W W4) := by rw [hW4]; exact into HB2.out hba
  clear g1 g2 hb3 hba hln hl4 hW4 HAK
  by_cases h0 : n1 = 0
  · subst h0
    go_wp2_with fail
    go_ret
    have := HB4.out
    rw [HW4.out] at this
    exact ⟨rfl, this⟩
  · have h0I : ¬ (n1 : Int) = 0 := by omega
    have h0b : ((n1 : Int) == 0) = false := by simpa using h0I
    obtain ⟨p1, p2⟩ := pck_in x (n1 : Int) (by omega)
    obtain ⟨j, hj⟩ : ∃ j : Nat, pck x (n1 : Int) = (j : Int) := ⟨(pck x (n1 : Int)).toNat, by omega⟩
    have hpk := fun w => pck_any x (n1 : Int) w hwx (by omega) (by omega)
    rw [hj] at hpk p1 p2
    have hjn : j < n1 := by omega
    obtain ⟨b, o, cap, hsh, _, _, hbw, hcell⟩ := lks_of HL4.out.h (by omega)
    simp only [Value.slice.injEq] at hsh
    obtain ⟨rfl, -, rfl⟩ := hsh
    obtain ⟨a0, a1, a2⟩ := hcell j hjn
    have hmem := mem_getD (l := H) (k := j) (by rw [← HN.out.1]; exact hjn)
    obtain ⟨u, hu⟩ : ∃ u, u = H.getD j nlk := ⟨_, rfl⟩
    rw [← hu] at a0 a1 a2 hmem
    obtain ⟨ut, uth, um⟩ := u
    simp only at a0 a1 a2
    have HPK := Lib.hid hpk
    have HC := Lib.hid hcell
    have HME := Lib.hid hmem
    clear hj p1 hpk hcell hmem hu hwx
    go_wp2_with fail
    rw [← HW4.out]
    rw [← HW4.out] at e0 e1 f0 f1 k0 k1
    go_region_held3 (fun wx => wx.cell? ⟨w1.heap.size, 0, none⟩ = some (.slice (some ⟨b, o, none⟩) n1 c1) ∧ wx.cell? ⟨b, o + j * 3, none⟩ = some (.int .i64 ut) ∧ wx.cell? ⟨b, o + j * 3 + 1, none⟩ = some (.string uth) ∧ wx.cell? ⟨b, o + j * 3 + 2, none⟩ = some (.int .i64 um))
      ((first
        | (with_reducible exact ⟨cell_dr e0, cell_dr a0, cell_dr a1, cell_dr a2⟩)
        | (with_reducible exact ⟨cell_dr (cell_al _ e0), cell_dr (cell_al _ a0), cell_dr (cell_al _ a1), cell_dr (cell_al _ a2)⟩)))
      ((first
        | (go_at_call 15; ((with_reducible refine (HPK.out _).mono ?_); rintro e w' ⟨rfl, rfl⟩))))
    all_goals (
      have hb5 : Below W4.heap.size W4 (W4.alloc (.cells #[.int .i64 ut, .string uth, .int .i64 um] 28)).drew := ((Below.refl _ _).alloc (Nat.le_refl _) _).drew
      obtain ⟨q0, q1, q2⟩ := BxL.below (BxL.new W4 ⟨ut, uth, um⟩) (Below.refl _ _).drew
      obtain ⟨W5, hW5⟩ : ∃ W5, W5 = (W4.alloc (.cells #[.int .i64 ut, .string uth, .int .i64 um] 28)).drew := ⟨_, rfl⟩
      rw [← hW5] at hb5 q0 q1 q2 ⊢
      have HQ := Lib.hid (And.intro q0 (And.intro q1 q2))
      have HB5 := Lib.hid hb5
      clear hW5 q0 q1 q2 hb5 e0 e1 f0 f1 k0 k1 a0 a1 a2 p2 HPK
      go_wp2_with fail
      go_loopw [10] (fun kv wr => ∃ k : Nat, k ≤ n2 ∧ kv = .int .i64 (k : Int) ∧ Hid (∀ i, i < k → ofB ut (Q.getD i nlk) = false) ∧ Hid (Below W5.heap.size W5 wr)) (fun kv _ => n2 - (intOf kv).toNat)
      case atStart => exact ⟨0, by omega, rfl, (fun i hi => absurd hi (by omega)), Below.refl _ _⟩
      case round =>
        obtain ⟨k, hkn, rfl, HA, HB⟩ := hrel
        have hl := HL4.out.below (into HB5.out HB.out)
        obtain ⟨e0, e1, f0, f1⟩ := box2 hl.b
        have q0 := cell_of_below HB.out HQ.out.1
        (try simp only at q0)
        by_cases hlt : k < n2
        · have hltI : (k : Int) < (n2 : Int) := by omega
          obtain ⟨b', o', cap', hsh, _, _, hbw', hcell'⟩ := lks_of hl.q (by omega)
          simp only [Value.slice.injEq] at hsh
          obtain ⟨rfl, -, rfl⟩ := hsh
          obtain ⟨a0, -, -⟩ := hcell' k hlt
          obtain ⟨t', ht'⟩ : ∃ t', t' = (Q.getD k nlk).t := ⟨_, rfl⟩
          rw [← ht'] at a0
          have HT' := Lib.hid ht'
          clear hcell' ht' hl
          by_cases he : t' = ut
          · subst he
            go_wp2_with fail
            go_quiet (fail)
            go_wp2_with fail
            go_ret
            exact ⟨rfl, into HB4.out (into HB5.out (below_drewN HB.out _))⟩
          · have he' : (t' == ut) = false := by simpa using he
            go_wp2_with fail
            go_quiet (fail)
            go_wp2_with fail
            go_roundw
            case rel =>
              refine ⟨k + 1, by omega, by go_num, fun i hi => ?_, below_drewN HB.out _⟩
              rcases Nat.lt_or_ge i k with h | h
              · exact HA.out i h
              · obtain rfl : i = k := by omega
                unfold ofB
                rw [← HT'.out]
                exact he'
            case measure => (simp [intOf]) <;> omega
        · obtain rfl : k = n2 := by omega
          have hnI : ¬ (k : Int) < (k : Int) := by omega
          have hqn : Q.any (ofB ut) = false := by
            rw [List.any_eq_false]
            intro z hz
            obtain ⟨i, hi, rfl⟩ := List.getElem_of_mem hz
            have := HA.out i (by rw [HN.out.2]; exact hi)
            rw [gd hi] at this
            simp [this]
          have hbw : Below W.heap.size W wr := into HB4.out (into HB5.out HB.out)
          have q1 := cell_of_below HB.out HQ.out.2.1
          have q2 := cell_of_below HB.out HQ.out.2.2
          (try simp only at q1 q2)
          have hak := ask_v wr ⟨HT.out.1.below hbw, HT.out.2.below hbw⟩ hl.h hl.q (by have := HN.out; omega) (ask_again HG.out.ok HME.out hqn)
          have HAK := Lib.hid hak
          have HBW := Lib.hid hbw
          have HL5 := Lib.hid hl
          clear hqn hak hbw hl hlt HA
          go_wp2_with fail
          refine HAK.out.mono ?_
          rintro e w6 ⟨z1, r1, s1, z2, r2, s2, rfl, g1, g2, hb6⟩
          have hr1 : r1 = n1 := (len_l g1).trans HN.out.1.symm
          have hr2 : r2 = k := (len_l g2).trans HN.out.2.symm
          subst hr1 hr2
          have hba : Below wr.heap.size wr (w6.alloc (.cells #[.slice z1 r1 s1, .slice z2 r2 s2] 25)) := hb6.alloc hb6.size _
          have hln := LB.new w6 g1 g2
          have hl7 := HL5.out.below hba
          clear e0 e1 f0 f1 q0 q1 q2
          obtain ⟨e0, e1, f0, f1⟩ := box2 hl7.b
          obtain ⟨k0, k1, -, -⟩ := box2 hln.b
          have HB7 : Hid (Below W.heap.size W (w6.alloc (.cells #[.slice z1 r1 s1, .slice z2 r2 s2] 25))) := into HBW.out hba
          have HL7 := Lib.hid hl7
          have HLN := Lib.hid hln
          obtain ⟨W7, hW7⟩ : ∃ W7, W7 = w6.alloc (.cells #[.slice z1 r1 s1, .slice z2 r2 s2] 25) := ⟨_, rfl⟩
          have HW7 := Lib.hid hW7
          rw [← hW7] at HB7 HL7 HLN
          clear hba hln hl7 g1 g2 hb6 HAK HL5 HBW hW7
          go_wp2_with fail
          rw [← HW7.out]
          clear e0 e1 f0 f1 k0 k1
          go_loopw [14] (fun iv wx => ∃ i : Nat, i ≤ r1 ∧ iv = .int .i64 (i : Int) ∧ Hid (Below W7.heap.size W7 wx)) (fun iv _ => r1 - (intOf iv).toNat)
          case atStart => exact ⟨0, by omega, rfl, Below.refl _ _⟩
          case round =>
            obtain ⟨i, hin, rfl, HBi⟩ := hrel
            have hl := HL7.out.below HBi.out
            have hm := HLN.out.below HBi.out
            obtain ⟨e0, e1, f0, f1⟩ := box2 hl.b
            obtain ⟨k0, k1, -, -⟩ := box2 hm.b
            by_cases hli : i < r1
            · have hliI : (i : Int) < (r1 : Int) := by omega
              obtain ⟨b1, o1, cp1, hs1, _, _, _, hc1⟩ := lks_of hl.h (by omega)
              obtain ⟨b2, o2, cp2, hs2, _, _, _, hc2⟩ := lks_of hm.h (by omega)
              simp only [Value.slice.injEq] at hs1 hs2
              obtain ⟨hs1, -, rfl⟩ := hs1
              obtain ⟨rfl, -, rfl⟩ := hs2
              cases hs1
              obtain ⟨a0, a1, a2⟩ := hc1 i hli
              obtain ⟨c0, c1, c2⟩ := hc2 i hli
              obtain ⟨y, hy⟩ : ∃ y, y = H.getD i nlk := ⟨_, rfl⟩
              rw [← hy] at a0 a1 a2 c0 c1 c2
              obtain ⟨yt, yth, ym⟩ := y
              simp only at a0 a1 a2 c0 c1 c2
              clear hc1 hc2 hl hm hy
              go_wp2_with fail
              go_quiet (fail)
              go_wp2_with fail
              go_roundw
              case rel => exact ⟨i + 1, by omega, by go_num, below_drewN HBi.out _⟩
              case measure => (simp [intOf]) <;> omega
            · obtain rfl : i = r1 := by omega
              have hniI : ¬ (i : Int) < (i : Int) := by omega
              clear hl hm hli
              go_wp2_with fail
              go_ret
              exact ⟨rfl, into HB7.out HBi.out⟩)

set_option maxRecDepth 100000 in
theorem lifted (os : Os) (started : os.Started) (H : Type) (enc : TypeId × Value → H) :
    ReturnsInHanded {} Tryd.checked os 7 .any (fun w args => (Rows.askAgainSpec.pre enc Tryd.prog Tryd.f7 [] false w args ∧ laidTJ w) ∧ sizedMet enc Tryd.prog Tryd.f7 (OpenSpec.ofChange Rows.askAgainSpec) false w args) (Rows.askAgainSpec.post enc Tryd.prog Tryd.f7 false true false false) := by
  refine returnsInHanded_of_change_and (C := Tryd.checked) (X := fun w _ => laidTJ w) (fun _ _ _ hh h => h.of_heap hh) Tryd.own started (by kernel_rfl) Tryd.func7
    (ChangeSpec.witness_at (enc := enc) (C := Tryd.checked) (os := os) (X := fun w _ => laidTJ w) false (tabled os) #[.slice none 0 0, .int .i64 0] 8 rfl (by kernel_rfl) (by kernel_rfl) (by kernel_rfl) (by kernel_rfl) (by kernel_rfl) (tabled_laidTJ os _)) ?_
  intro W base args ds gs before hval0 hW hcnd hsz0 hL _
  have hsz : (DataW.weightsEach Tryd.prog (Tryd.f7.params.toList ++ Rows.askAgainSpec.plain.varTypes Tryd.prog) (ds ++ gs)).all (· ≤ reachBytes) = true := hsz0
  have hval : ∀ (j : Nat) t v, Tryd.f7.params[j]? = some t → args[j]? = some v → Value.okWide Tryd.prog W .any base t v := hval0
  have hW' := hW
  obtain ⟨p, q, hA0, hV, rfl, hfz, hnd⟩ := hW
  have hA : DataW.TrodAll enc Tryd.prog W 0 (fun _ => true) true Tryd.f7.params.toList args.toList ds p := hA0
  rw [Tryd.params7] at hA hval hsz
  obtain ⟨v0, v1, d0, d1, p0, p1, rfl, rfl, rfl, h0, h1⟩ := trodAll_two hA
  obtain ⟨rfl, rfl⟩ := trodVars_none hV
  have sm0 : small Tryd.prog 22 d0 := fun q hq => by
    have := List.all_eq_true.1 hsz q (weights_each (j := 0) rfl rfl q hq)
    simpa using this
  obtain ⟨n0, l0, hr0, hz0, hs0⟩ := open_wishes (hval 0 22 v0 rfl rfl) h0 sm0
  obtain ⟨a1, rfl, rfl, rfl, w1⟩ := open_int Tryd.underlying3 (hval 1 3 v1 rfl rfl) h1
  clear hA0 hval0
  refine (walk W (TJ_of hL) n0 v0 l0 hr0 hz0 hs0 a1 w1).mono fun e W' ⟨he, hg⟩ => ?_
  subst he
  exact ⟨_, rfl, law_post (tb := 4) Tryd.laidOut (by kernel_rfl) (by kernel_rfl) Tryd.underlying4 rfl hW' hg rfl rfl rfl⟩

theorem bare : Rows.AskAgainSaid :=
  OpenClaim.holds_of_wide 7 Tryd.f7 rfl rfl rfl rfl rfl rfl rfl ⟨rfl, rfl, rfl, rfl, rfl⟩ rfl rfl rfl rfl rfl (by kernel_rfl) Tryd.func7 (by kernel_rfl)
    (of_decide_eq_true (by kernel_rfl)) (by unfold Func.isWrapper; first | (rw [if_pos (by decide +kernel)]; kernel_rfl) | (rw [if_neg (by decide +kernel)]; exact ⟨rfl, rfl⟩))
    (fun os started H enc _ => lifted os started H enc)
/-- The card: the row's one listed variable is tied to the program's text. -/
theorem proved : Rows.AskAgainCardSaid :=
  Claim7.holds_tied_plain_at .later [] [.data, .data] true _ false bare (fun _ h => by cases h) (by kernel_rfl) (fun _ h => by cases h) askAgain_row_tie rfl ⟨rfl, rfl⟩ (by kernel_rfl) rfl
    (fun f fn hf hfn => by
      obtain rfl : f = 7 := Option.some.inj ((show Tryd.prog.funcNamed "padlock/padlockkeep.AskAgain" = some 7 by kernel_rfl).symm.trans hf) |>.symm
      obtain rfl : fn = Tryd.f7 := (Option.some.inj (Tryd.func7.symm.trans hfn)).symm
      refine ⟨by kernel_rfl, fun j t ht => ?_⟩
      rw [Tryd.params7] at ht
      rcases j with _ | _ | j <;> simp at ht <;> subst ht <;> kernel_rfl)
    (by kernel_rfl)
#print axioms proved
end Go.Proofs.YtoiaedjglhcidaaDoor.lAskAgain
