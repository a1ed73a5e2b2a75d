/- A scan is what lies between its bounds: at every list of raw numbers and every two raw numbers. No condition. -/
import Derived.Test.YtacpeibkamfibaaB2
import Derived.Test.YtacpeibkamfibaaXc
import Derived.Test.YtacpeibkamfibaaXd
import Derived.Test.YtacpeibkamfibaaTz
namespace Go.Proofs.Ytacpeibkamfibaa.lTreeRange
open Go.ChangeShapes Go.WideShapes Go.ChangeAt Go.RowKit Go.Joins
open Go.ChangeMaps (open_string shut_string)
set_option linter.unusedVariables false
set_option linter.unusedSimpArgs false
set_option maxHeartbeats 400000

theorem leq_of {a b : Key} (h : kl b a = false) : Op.bytesLess a b = true ∨ (a == b) = true := by
  rcases q : Op.bytesLess a b with _ | _
  · exact .inr (by simpa using bl_tri a b q h)
  · exact .inl rfl
set_option maxRecDepth 100000 in
set_option maxHeartbeats 8000000 in
theorem walk (W : World) (n : Nat) (v : Value) (L : List Int) (hr : Rd W 1 n v (ic L)) (hz : n * 8 ≤ 140737488351232) (hs : ∀ o ∈ L, (Lit.int .i64 o).wf = true) (a : Int) (wa : (Lit.int .i64 a).wf = true) (b : Int) (wb : (Lit.int .i64 b).wf = true) :
    Calls Try.prog 8 #[v, .int .i64 a, .int .i64 b] W fun e w' => e = .returned (.bool true) ∧ Below W.heap.size W w' := by
  have HTREE := Lib.hid (tree_any W n v L hr fun x hx => rn_of (hs x hx))
  have HKA := Lib.hid (fun (w : World) => key_any a w (rn_of wa))
  have HKB := Lib.hid (fun (w : World) => key_any b w (rn_of wb))
  obtain ⟨ka, hka⟩ : ∃ k, k = keyK a := ⟨_, rfl⟩
  obtain ⟨kb, hkb⟩ : ∃ k, k = keyK b := ⟨_, rfl⟩
  have hal : ka.length ≤ 100 := by rw [hka]; exact (keyK_ok a).2
  have hbl : kb.length ≤ 100 := by rw [hkb]; exact (keyK_ok b).2
  have hbe : kb.isEmpty = false := by rw [hkb]; rfl
  rw [← hka] at HKA
  rw [← hkb] at HKB
  clear hka hkb
  obtain ⟨_, av, cv, rfl, -⟩ := id hr
  clear hr hs
  go_enter Try.func8, Try.ntmps8
  go_wp2_with fail
  refine HTREE.out.mono ?_
  rintro e w1 ⟨ao, cap, T, rfl, hg1, hb1⟩
  obtain ⟨l, hl⟩ : ∃ l, l = runE L (min L.length 70) := ⟨_, rfl⟩
  rw [← hl] at hg1
  obtain ⟨W1, hW1⟩ : ∃ W1 : World, W1 = w1.alloc (.cells #[.slice ao T.pages.length cap, .int .i64 T.root] 24) := ⟨_, rfl⟩
  have hX := TBx.new hg1
  obtain ⟨Bt, hBt⟩ : ∃ x, x = w1.heap.size := ⟨_, rfl⟩
  rw [← hW1, ← hBt] at hX
  have HB1 := Lib.hid (show Below W.heap.size W W1 by rw [hW1]; exact into hb1 (bel_al _ _))
  have HX1 := Lib.hid hX
  have HW1 := Lib.hid hW1
  have HBT := Lib.hid hBt
  have HLL := Lib.hid hl
  have HBG := Lib.hid (show W.heap.size ≤ Bt by rw [hBt]; exact hb1.size)
  clear hg1 hb1 hX hW1 hBt hl
  go_wp2_with fail
  rw [← HW1.out, ← HBT.out]
  refine (HKA.out W1).mono ?_
  rintro e w2 ⟨xa, ca, rfl, hra, hb2⟩
  have HX2 := Lib.hid (HX1.out.below hb2)
  have HB2 := Lib.hid (into HB1.out hb2)
  have HRA := Lib.hid hra
  clear hra hb2
  go_wp2_with fail
  refine (HKB.out w2).mono ?_
  rintro e w3 ⟨xb, cb, rfl, hrb, hb3⟩
  have HX3 := Lib.hid (HX2.out.below hb3)
  have HB3 := Lib.hid (into HB2.out hb3)
  have HRA3 := Lib.hid (HRA.out.below hb3)
  have HRB3 := Lib.hid hrb
  obtain ⟨z0, z1, -⟩ := box2 HX3.out.x
  clear hrb hb3
  go_wp2_with fail
  refine (scan_v HX3.out.g HRA3.out HRB3.out hal hbl).mono ?_
  rintro e w4 ⟨ga, gn, gc, rfl, hv4, hb4⟩
  have HX4 := Lib.hid (HX3.out.below hb4)
  have HB4 := Lib.hid (into HB3.out hb4)
  have HRA4 := Lib.hid (HRA3.out.below hb4)
  have HRB4 := Lib.hid (HRB3.out.below hb4)
  have HV4 := Lib.hid hv4
  clear z0 z1 hv4 hb4
  obtain ⟨z0, z1, -⟩ := box2 HX4.out.x
  go_wp2_with fail
  refine (scan_all_v HX4.out.g).mono ?_
  rintro e w5 ⟨la, ln, lc, rfl, hv5, hb5⟩
  have HB5 := Lib.hid (into HB4.out hb5)
  have HRA5 := Lib.hid (HRA4.out.below hb5)
  have HRB5 := Lib.hid (HRB4.out.below hb5)
  have HG5 := Lib.hid (HV4.out.below hb5)
  have HL5 := Lib.hid hv5
  clear z0 z1 hv5 hb5
  go_wp2_with fail
  obtain ⟨P, hP⟩ : ∃ P : Key × Int → Bool, P = fun e => !kl e.1 ka && toOk kb e := ⟨_, rfl⟩
  have hsc : scanL ka kb l = l.filter P := by rw [hP]; rfl
  have hPe : ∀ e, P e = (!kl e.1 ka && !kl kb e.1) := fun e => by rw [hP]; simp only [toOk, hbe, Bool.false_or]
  have hln : ln = l.length := by obtain ⟨_, h, -, -⟩ := HL5.out; exact h
  have hgn : gn = (l.filter P).length := by obtain ⟨_, h, -, -⟩ := HG5.out; rw [← hsc]; exact h
  have hl6 : l.length ≤ 1000000 := HX4.out.g.few_ents
  have HSC := Lib.hid (And.intro hsc (And.intro hPe (And.intro hln (And.intro hgn hl6))))
  clear hP hsc hPe hgn hbe
  have hln6 : ln ≤ 1000000 := by omega
  clear hln hl6
  go_loopw [15, 16] (fun wv i wr => ∃ (j m : Nat) (cs : List Value), j ≤ ln ∧ m ≤ j ∧ i = .int .i64 (j : Int) ∧ Hid (m = ((l.take j).filter P).length) ∧ Hid (wr.ownsRow w5.heap.size 36 2 wv m cs) ∧ Hid (EntC w5 (fun b => b < w5.heap.size) cs ((l.take j).filter P)) ∧ Hid (Below w5.heap.size w5 wr)) (fun _ i _ => ln - (intOf i).toNat)
  case atStart => exact ⟨0, 0, [], by omega, by omega, rfl, rfl, World.ownsRow_nil _ _ _ _, trivial, Below.refl _ _⟩
  case round =>
    obtain ⟨j, m, cs, hj, hmj, rfl, HM, HO, HE, HB⟩ := hrel
    by_cases hlt : (j : Int) < (ln : Int)
    · obtain ⟨b, o, c, e9, q1, q2, q3⟩ := HL5.out.pos (by omega)
      simp only [Value.slice.injEq] at e9
      obtain ⟨rfl, -, rfl⟩ := e9
      have hjl : j < l.length := by have := HSC.out.2.2.1; omega
      obtain ⟨en, hen⟩ : ∃ en, en = l[j] := ⟨_, rfl⟩
      obtain ⟨ya, yc, y1, y2, y3⟩ := q3 j en (by rw [hen]; exact List.getElem?_eq_getElem hjl)
      have htk : l.take (j + 1) = l.take j ++ [en] := by rw [hen]; exact List.take_succ_eq_append_getElem hjl
      obtain ⟨yn, hyn⟩ : ∃ yn, yn = en.1.length := ⟨_, rfl⟩
      rw [← hyn] at y1 y3
      have HY3 := Lib.hid y3
      have d1 := cell_of_below HB.out y1
      have d2 := cell_of_below HB.out y2
      have t1 := str_drew (y3.below HB.out)
      have t2 := str_drew (HRA5.out.below HB.out)
      have t3 := str_drew (HRB5.out.below HB.out)
      have hPe := HSC.out.2.1 en
      have HTK := Lib.hid htk
      obtain ⟨ek, er⟩ := en
      simp only at hPe d1 d2 t1
      clear y1 y2 y3 q3 hen hyn htk
      obtain ⟨_, wa', wc', rfl, -⟩ := Rd.own HO.out
      cases h1 : kl ek ka <;> cases h2 : kl kb ek
      · have HF := Lib.hid (show (l.take (j + 1)).filter P = (l.take j).filter P ++ [(ek, er)] by rw [HTK.out, List.filter_append, List.filter_cons_of_pos (by rw [hPe, h1, h2]; rfl)]; rfl)
        have hle : Op.bytesLess ek kb = true ∨ (ek == kb) = true := leq_of h2
        clear hPe
        rcases hle with hle | hle
        · skip
          go_wp2_with fail
          go_quiet (fail)
          obtain ⟨W6, hW6⟩ : ∃ W6, W6 = wr.drewN nq := ⟨_, rfl⟩
          have hq6 := below_drewN wr nq
          rw [← hW6] at hq6 ⊢
          replace d1 := cell_of_below hq6 d1
          replace d2 := cell_of_below hq6 d2
          have HO6 := Lib.hid (own_below HO.out hq6)
          have HB6 := Lib.hid (HB.out.trans (hq6.mono HB.out.size))
          clear hW6 hq6 t1 t2 t3
          go_wp2_with (at_builtin; refine apx W6 1 rfl _ _ 27 36 _ 2 32 Try.underlying27 Try.info36 rfl (by omega) rfl HO6.out HB6.out.size (by omega) (by unfold maxLen; omega) [.slice ya yn yc, .int .i64 er] rfl (by intro u hu; simp at hu; rcases hu with rfl | rfl <;> rfl) W6.heap.size rfl rfl rfl ?_)
          intro v7 w7 hown7 hb7 hg7 hat7
          have HO7 := Lib.hid hown7
          have HB7 := Lib.hid (HB6.out.trans hb7)
          clear hown7 hb7 hg7 hat7 d1 d2
          go_wp2_with fail
          go_roundw
          case rel => exact ⟨j + 1, m + 1, _, by omega, by omega, by go_num, by rw [HF.out, List.length_append, ← HM.out]; rfl, HO7.out, by rw [HF.out]; exact EntC.app HE.out (EntC.single ⟨HY3.out.1, HY3.out.1.at_lt (by omega)⟩), HB7.out⟩
          case measure => simp [intOf]; omega
        · skip
          go_wp2_with fail
          go_quiet (fail)
          obtain ⟨W6, hW6⟩ : ∃ W6, W6 = wr.drewN nq := ⟨_, rfl⟩
          have hq6 := below_drewN wr nq
          rw [← hW6] at hq6 ⊢
          replace d1 := cell_of_below hq6 d1
          replace d2 := cell_of_below hq6 d2
          have HO6 := Lib.hid (own_below HO.out hq6)
          have HB6 := Lib.hid (HB.out.trans (hq6.mono HB.out.size))
          clear hW6 hq6 t1 t2 t3
          go_wp2_with (at_builtin; refine apx W6 1 rfl _ _ 27 36 _ 2 32 Try.underlying27 Try.info36 rfl (by omega) rfl HO6.out HB6.out.size (by omega) (by unfold maxLen; omega) [.slice ya yn yc, .int .i64 er] rfl (by intro u hu; simp at hu; rcases hu with rfl | rfl <;> rfl) W6.heap.size rfl rfl rfl ?_)
          intro v7 w7 hown7 hb7 hg7 hat7
          have HO7 := Lib.hid hown7
          have HB7 := Lib.hid (HB6.out.trans hb7)
          clear hown7 hb7 hg7 hat7 d1 d2
          go_wp2_with fail
          go_roundw
          case rel => exact ⟨j + 1, m + 1, _, by omega, by omega, by go_num, by rw [HF.out, List.length_append, ← HM.out]; rfl, HO7.out, by rw [HF.out]; exact EntC.app HE.out (EntC.single ⟨HY3.out.1, HY3.out.1.at_lt (by omega)⟩), HB7.out⟩
          case measure => simp [intOf]; omega
      · skip
        have HF := Lib.hid (show (l.take (j + 1)).filter P = (l.take j).filter P by rw [HTK.out, List.filter_append, List.filter_cons_of_neg (by rw [hPe, h1, h2]; simp)]; simp)
        clear hPe
        have hk1 : Op.bytesLess ek kb = false := kl_not h2
        have hk2 : (ek == kb) = false := beq_eq_false_iff_ne.2 (fun e => by rw [e, show kl kb kb = false from bl_irr kb] at h2; cases h2)
        go_wp2_with fail
        go_quiet (fail)
        have HB6 := Lib.hid (HB.out.trans ((below_drewN wr nq).mono HB.out.size))
        have HO6 := Lib.hid (own_below HO.out (below_drewN wr nq))
        clear t1 t2 t3 d1 d2
        go_wp2_with fail
        go_roundw
        case rel => exact ⟨j + 1, m, cs, by omega, by omega, by go_num, by rw [HF.out]; exact HM.out, HO6.out, by rw [HF.out]; exact HE.out, HB6.out⟩
        case measure => simp [intOf]; omega
      · skip
        have HF := Lib.hid (show (l.take (j + 1)).filter P = (l.take j).filter P by rw [HTK.out, List.filter_append, List.filter_cons_of_neg (by rw [hPe, h1, h2]; simp)]; simp)
        clear hPe
        have hk3 : Op.bytesLess ka ek = false := kl_not h1
        have hk4 : (ek == ka) = false := beq_eq_false_iff_ne.2 (fun e => by rw [e, show kl ka ka = false from bl_irr ka] at h1; cases h1)
        go_wp2_with fail
        go_quiet (fail)
        have HB6 := Lib.hid (HB.out.trans ((below_drewN wr nq).mono HB.out.size))
        have HO6 := Lib.hid (own_below HO.out (below_drewN wr nq))
        clear t1 t2 t3 d1 d2
        go_wp2_with fail
        go_roundw
        case rel => exact ⟨j + 1, m, cs, by omega, by omega, by go_num, by rw [HF.out]; exact HM.out, HO6.out, by rw [HF.out]; exact HE.out, HB6.out⟩
        case measure => simp [intOf]; omega
      · skip
        have HF := Lib.hid (show (l.take (j + 1)).filter P = (l.take j).filter P by rw [HTK.out, List.filter_append, List.filter_cons_of_neg (by rw [hPe, h1, h2]; simp)]; simp)
        clear hPe
        have hk3 : Op.bytesLess ka ek = false := kl_not h1
        have hk4 : (ek == ka) = false := beq_eq_false_iff_ne.2 (fun e => by rw [e, show kl ka ka = false from bl_irr ka] at h1; cases h1)
        go_wp2_with fail
        go_quiet (fail)
        have HB6 := Lib.hid (HB.out.trans ((below_drewN wr nq).mono HB.out.size))
        have HO6 := Lib.hid (own_below HO.out (below_drewN wr nq))
        clear t1 t2 t3 d1 d2
        go_wp2_with fail
        go_roundw
        case rel => exact ⟨j + 1, m, cs, by omega, by omega, by go_num, by rw [HF.out]; exact HM.out, HO6.out, by rw [HF.out]; exact HE.out, HB6.out⟩
        case measure => simp [intOf]; omega
    · obtain rfl : j = ln := by omega
      have hml : l.take j = l := List.take_of_length_le (by rw [HSC.out.2.2.1]; exact Nat.le_refl _)
      have hmg : m = gn := by rw [HM.out, hml, HSC.out.2.2.2.1]
      have hgl : ∀ e : Key × Int, True := fun _ => trivial
      subst hmg
      have HE2 := Lib.hid (show EntC w5 (fun b => b < w5.heap.size) cs (scanL ka kb l) by rw [HSC.out.1, ← hml]; exact HE.out)
      obtain ⟨_, wa', wc', rfl, -⟩ := Rd.own HO.out
      clear hml HE
      go_wp2_with fail
      obtain ⟨wo, rfl⟩ : ∃ wo : World, wo = wr := ⟨_, rfl⟩
      go_loopw [17] (fun i wq => ∃ x : Nat, x ≤ m ∧ i = .int .i64 (x : Int) ∧ Hid (Below wo.heap.size wo wq)) (fun i _ => m - (intOf i).toNat)
      case atStart => exact ⟨0, by omega, rfl, Below.refl _ _⟩
      case round =>
        obtain ⟨x, hx, rfl, HQ⟩ := hrel
        by_cases hlt2 : (x : Int) < (m : Int)
        · obtain ⟨b1, o1, c1, e9, -, -, p3⟩ := HG5.out.pos (by omega)
          simp only [Value.slice.injEq] at e9
          obtain ⟨rfl, -, rfl⟩ := e9
          obtain ⟨b2, o2, c2, e8, -, -, hbw, p4⟩ := (Rd.own HO.out).pos (by omega) (by omega)
          simp only [Value.slice.injEq] at e8
          obtain ⟨rfl, -, rfl⟩ := e8
          have hxl : x < (scanL ka kb l).length := by obtain ⟨_, h, -, -⟩ := HG5.out; omega
          obtain ⟨en, hen⟩ : ∃ en, en = (scanL ka kb l)[x] := ⟨_, rfl⟩
          have hat : (scanL ka kb l)[x]? = some en := by rw [hen]; exact List.getElem?_eq_getElem hxl
          obtain ⟨ya, yc, y1, y2, y3⟩ := p3 x en hat
          obtain ⟨u, u1, u2, u3⟩ := HE2.out.at_ hat
          obtain ⟨ua, uc, rfl⟩ := u3.sh
          have g1 := cell_of_below HB.out y1
          have g2 := cell_of_below HB.out y2
          replace g1 := cell_of_below HQ.out g1
          replace g2 := cell_of_below HQ.out g2
          have g3 := cell_of_below HQ.out (p4 _ _ u1)
          have g4 : wr.cell? ⟨b2, o2 + x * 2 + 1, none⟩ = some (.int .i64 en.2) := cell_of_below HQ.out (p4 _ _ u2)
          have t1 := str_drew ((y3.below HB.out).below HQ.out)
          have t2 := str_drew ((u3.below HB.out).below HQ.out)
          obtain ⟨ek, er⟩ := en
          simp only at g1 g2 g3 g4 t1 t2
          obtain ⟨yn, hyn⟩ : ∃ yn, yn = ek.length := ⟨_, rfl⟩
          rw [← hyn] at g1 g3 t1 t2
          clear y1 y2 y3 u1 u2 u3 p3 p4 hen hat hyn hxl hbw
          go_wp2_with fail
          go_quiet (fail)
          have HQ6 := Lib.hid (HQ.out.trans ((below_drewN wr nq).mono HQ.out.size))
          clear g1 g2 g3 g4 t1 t2
          go_wp2_with fail
          go_roundw
          case rel => exact ⟨x + 1, by omega, by go_num, HQ6.out⟩
          case measure => simp [intOf]; omega
        · go_wp2_with fail
          go_ret
          exact ⟨rfl, HB5.out.trans ((HB.out.trans (HQ.out.mono HB.out.size)).mono HB5.out.size)⟩

set_option maxRecDepth 100000 in
theorem lifted (os : Os) (started : os.Started) (H : Type) (enc : TypeId × Value → H) :
    ReturnsInHanded {} Try.checked os 8 .any (Rows.treeRangeSpec.pre6 enc Try.prog Try.f8 Rows.treeRangeRow.domain false) (Rows.treeRangeSpec.post enc Try.prog Try.f8 false true false false) := by
  refine returnsInHanded_of_change_sized (C := Try.checked) Try.own started (by kernel_rfl) Try.func8
    (ChangeSpec.witness6 (enc := enc) (C := Try.checked) false ⟨#[], #[.slice none 0 0, .int .i64 0, .int .i64 0], []⟩ 8 (by kernel_rfl) (by kernel_rfl) (by kernel_rfl) (by kernel_rfl)) ?_
  intro W base args ds gs before hval0 hW hcnd hsz0 _
  have hsz : (DataW.weightsEach Try.prog (Try.f8.params.toList ++ Rows.treeRangeSpec.plain.varTypes Try.prog) (ds ++ gs)).all (· ≤ reachBytes) = true := hsz0
  have hval : ∀ (j : Nat) t v, Try.f8.params[j]? = some t → args[j]? = some v → Value.okWide Try.prog W .any base t v := hval0
  have hW' := hW
  obtain ⟨p, q, hA0, hV, rfl, hfz, hnd⟩ := hW
  have hA : DataW.TrodAll enc Try.prog W 0 (fun _ => true) true Try.f8.params.toList args.toList ds p := hA0
  rw [Try.params8] at hA hval hsz
  obtain ⟨v0, v1, v2, d0, d1, d2, p0, p1, p2, rfl, rfl, rfl, h0, h1, h2⟩ := trodAll_three hA
  obtain ⟨rfl, rfl⟩ := trodVars_none hV
  have sm0 : small Try.prog 45 d0 := fun q hq => by
    have := List.all_eq_true.1 hsz q (weights_each (j := 0) rfl rfl q hq)
    simpa using this
  obtain ⟨n0, l0, hr0, hz0, hs0⟩ := open_ints (hval 0 45 v0 rfl rfl) h0 sm0
  obtain ⟨a1, rfl, rfl, rfl, w1⟩ := open_int Try.underlying3 (hval 1 3 v1 rfl rfl) h1
  obtain ⟨a2, rfl, rfl, rfl, w2⟩ := open_int Try.underlying3 (hval 2 3 v2 rfl rfl) h2
  clear hA0 hval0
  refine (walk W n0 v0 l0 hr0 hz0 hs0 a1 w1 a2 w2).mono fun e W' ⟨he, hg⟩ => ?_
  subst he
  exact ⟨_, rfl, law_post (tb := 4) Try.laidOut (by kernel_rfl) (by kernel_rfl) Try.underlying4 rfl hW' hg rfl rfl rfl⟩

theorem proved : Rows.TreeRangeSaid :=
  OpenClaim.holds_of_wide 8 Try.f8 rfl rfl rfl rfl rfl rfl rfl ⟨rfl, rfl, rfl, rfl, rfl⟩ rfl rfl rfl rfl rfl (by kernel_rfl) Try.func8 (by kernel_rfl)
    (of_decide_eq_true (by kernel_rfl)) (by unfold Func.isWrapper; first | (rw [if_pos (by decide +kernel)]; kernel_rfl) | (rw [if_neg (by decide +kernel)]; exact ⟨rfl, rfl⟩))
    (fun os started H enc _ => lifted os started H enc)
#print axioms proved
end Go.Proofs.Ytacpeibkamfibaa.lTreeRange
