/- What is put in and taken out is gone; what is put in twice is refused: at every list of raw numbers and every two raw numbers. No condition. -/
import Derived.Test.YtacpeibkamfibaaB2
import Derived.Test.YtacpeibkamfibaaXc
import Derived.Test.YtacpeibkamfibaaXd
import Derived.Test.YtacpeibkamfibaaTz
namespace Go.Proofs.Ytacpeibkamfibaa.lTreeBack
open Go.ChangeShapes Go.WideShapes Go.ChangeAt Go.RowKit Go.Joins
open Go.ChangeMaps (open_string shut_string)
set_option linter.unusedVariables false
set_option linter.unusedSimpArgs false
set_option maxHeartbeats 400000

set_option maxRecDepth 100000 in
set_option maxHeartbeats 8000000 in
theorem walk (W : World) (n : Nat) (v : Value) (L : List Int) (hr : Rd W 1 n v (ic L)) (hz : n * 8 ≤ 140737488351232) (hs : ∀ o ∈ L, (Lit.int .i64 o).wf = true) (a : Int) (wa : (Lit.int .i64 a).wf = true) (b : Int) (wb : (Lit.int .i64 b).wf = true) :
    Calls Try.prog 10 #[v, .int .i64 a, .int .i64 b] W fun e w' => e = .returned (.bool true) ∧ Below W.heap.size W w' := by
  have HTREE := Lib.hid (tree_any W n v L hr fun x hx => rn_of (hs x hx))
  have HKA := Lib.hid (fun (w : World) => key_any a w (rn_of wa))
  have hpb := fun (w : World) => pck_any b 1000 w (rn_of wb) (by omega) (by omega)
  obtain ⟨p1, p2⟩ := pck_in b 1000 (by omega)
  obtain ⟨q, hq⟩ : ∃ q, q = pck b 1000 := ⟨_, rfl⟩
  rw [← hq] at hpb p1 p2
  have HPB := Lib.hid hpb
  obtain ⟨k, hk⟩ : ∃ k, k = keyK a := ⟨_, rfl⟩
  have hok : okK k := by rw [hk]; exact keyK_ok a
  rw [← hk] at HKA
  clear hk hq hpb
  obtain ⟨_, av, cv, rfl, -⟩ := id hr
  clear hr hs
  go_enter Try.func10, Try.ntmps10
  go_wp2_with fail
  refine HTREE.out.mono ?_
  rintro e w1 ⟨ao, cap, T, rfl, hg1, hb1⟩
  obtain ⟨l, hl⟩ : ∃ l, l = runE L (min L.length 70) := ⟨_, rfl⟩
  rw [← hl] at hg1
  obtain ⟨W1, hW1⟩ : ∃ W1 : World, W1 = w1.alloc (.cells #[.slice ao T.pages.length cap, .int .i64 T.root] 24) := ⟨_, rfl⟩
  have hX := TBx.new hg1
  obtain ⟨Bt, hBt⟩ : ∃ x, x = w1.heap.size := ⟨_, rfl⟩
  rw [← hW1, ← hBt] at hX
  have HB1 := Lib.hid (show Below W.heap.size W W1 by rw [hW1]; exact into hb1 (bel_al _ _))
  have HX1 := Lib.hid hX
  have HW1 := Lib.hid hW1
  have HBT := Lib.hid hBt
  have HLL := Lib.hid hl
  have HBG := Lib.hid (show W.heap.size ≤ Bt by rw [hBt]; exact hb1.size)
  clear hg1 hb1 hX hW1 hBt hl
  go_wp2_with fail
  rw [← HW1.out, ← HBT.out]
  refine (HKA.out W1).mono ?_
  rintro e w2 ⟨xa, ca, rfl, hra, hb2⟩
  have HX2 := Lib.hid (HX1.out.below hb2)
  have HB2 := Lib.hid (into HB1.out hb2)
  have HRA := Lib.hid hra
  clear hra hb2
  obtain ⟨z0, z1, -⟩ := box2 HX2.out.x
  have HFI := Lib.hid (find_g HX2.out.g HRA.out hok)
  rcases hlk : lookE k l with _ | was
  · rw [hlk] at HFI
    have hno := look_none hlk
    obtain ⟨l1, hl1⟩ : ∃ l1, l1 = insE k q l := ⟨_, rfl⟩
    have hr := HX2.out.g.grown.rise
    have h1 : lookE k l1 = some q := by rw [hl1]; exact lookE_some (insE_rise hr hno) (insE_mem.2 (.inl rfl))
    have h2 : offE k l1 = l := by rw [hl1]; exact off_ins hno
    have HL := Lib.hid (And.intro hlk (And.intro h1 (And.intro h2 hl1)))
    simp only [Option.getD_none, Option.isSome_none, if_false, Bool.false_eq_true] at HFI
    clear hlk hno hr h1 h2 hl1
    go_wp2_with fail
    refine HFI.out.mono ?_
    rintro e w3 ⟨rfl, hb3⟩
    have HX3 := Lib.hid (HX2.out.below hb3)
    have HB3 := Lib.hid (into HB2.out hb3)
    have HRA3 := Lib.hid (HRA.out.below hb3)
    clear hb3 z0 z1
    obtain ⟨z0, z1, -⟩ := box2 HX3.out.x
    have HIN := Lib.hid (insert_g HX3.out.g (by omega) HRA3.out hok p1 HL.out.1)
    go_wp2_with (go_at_call 32; refine (HPB.out _).mono ?_; rintro e w' ⟨rfl, rfl⟩)
    refine HIN.out.mono ?_
    rintro e w4 ⟨ua, uc, U, rfl, hg4, hb4⟩
    rw [← HL.out.2.2.2] at hg4
    have HU := Lib.hid (TBx.new hg4)
    obtain ⟨W4, hW4⟩ : ∃ W4 : World, W4 = w4.alloc (.cells #[.slice ua U.pages.length uc, .int .i64 U.root] 24) := ⟨_, rfl⟩
    obtain ⟨Bu, hBu⟩ : ∃ x, x = w4.heap.size := ⟨_, rfl⟩
    rw [← hW4, ← hBu] at HU
    have hb5 : Below w3.heap.size w3 W4 := by rw [hW4]; exact into hb4 (bel_al _ _)
    have HX4 := Lib.hid (HX3.out.below hb5)
    have HB4 := Lib.hid (into HB3.out hb5)
    have HRA4 := Lib.hid (HRA3.out.below hb5)
    have HW4 := Lib.hid (And.intro hW4 hBu)
    clear hg4 hb4 hb5 hW4 hBu z0 z1
    obtain ⟨z0, z1, -⟩ := box2 HU.out.x
    rw [HW4.out.1, HW4.out.2] at z0 z1
    have HFI4 := Lib.hid (find_g HU.out.g HRA4.out hok)
    rw [HL.out.2.1] at HFI4
    simp only [Option.getD_some, Option.isSome_some, if_true] at HFI4
    go_wp2_with fail
    rw [← HW4.out.1, ← HW4.out.2]
    refine HFI4.out.mono ?_
    rintro e w5 ⟨rfl, hb5⟩
    have HX5 := Lib.hid (HX4.out.below hb5)
    have HU5 := Lib.hid (HU.out.below hb5)
    have HB5 := Lib.hid (into HB4.out hb5)
    have HRA5 := Lib.hid (HRA4.out.below hb5)
    clear hb5 z0 z1
    obtain ⟨z0, z1, -⟩ := box2 HU5.out.x
    have HIN5 := Lib.hid (insert_twice HU5.out.g HRA5.out hok p1 (by rw [HL.out.2.1]; rfl))
    go_wp2_with fail
    refine HIN5.out.mono ?_
    rintro e w6 ⟨rfl, hb6⟩
    obtain ⟨W6, hW6⟩ : ∃ W6 : World, W6 = w6.alloc (.cells #[.slice none 0 0, .int .i64 0] 24) := ⟨_, rfl⟩
    have hb7 : Below w5.heap.size w5 W6 := by rw [hW6]; exact into hb6 (bel_al _ _)
    have HX6 := Lib.hid (HX5.out.below hb7)
    have HU6 := Lib.hid (HU5.out.below hb7)
    have HB6 := Lib.hid (into HB5.out hb7)
    have HRA6 := Lib.hid (HRA5.out.below hb7)
    have HW6 := Lib.hid hW6
    clear hb6 hb7 z0 z1
    obtain ⟨z0, z1, -⟩ := box2 HU6.out.x
    rw [hW6] at z0 z1
    clear hW6
    have HDE := Lib.hid (delete_g HU6.out.g HRA6.out hok (by rw [HL.out.2.1]; rfl))
    rw [HL.out.2.2.1] at HDE
    go_wp2_with fail
    rw [← HW6.out]
    refine HDE.out.mono ?_
    rintro e w7 ⟨va, vc, V, rfl, hg7, hb7⟩
    have HV := Lib.hid (TBx.new hg7)
    obtain ⟨W7, hW7⟩ : ∃ W7 : World, W7 = w7.alloc (.cells #[.slice va V.pages.length vc, .int .i64 V.root] 24) := ⟨_, rfl⟩
    obtain ⟨Bv, hBv⟩ : ∃ x, x = w7.heap.size := ⟨_, rfl⟩
    rw [← hW7, ← hBv] at HV
    have hb8 : Below W6.heap.size W6 W7 := by rw [hW7]; exact into hb7 (bel_al _ _)
    have HX7 := Lib.hid (HX6.out.below hb8)
    have HB7 := Lib.hid (into HB6.out hb8)
    have HRA7 := Lib.hid (HRA6.out.below hb8)
    have HW7 := Lib.hid (And.intro hW7 hBv)
    clear hg7 hb7 hb8 z0 z1 hW7 hBv
    obtain ⟨z0, z1, -⟩ := box2 HV.out.x
    rw [HW7.out.1, HW7.out.2] at z0 z1
    have HFI7 := Lib.hid (find_g HV.out.g HRA7.out hok)
    rw [HL.out.1] at HFI7
    simp only [Option.getD_none, Option.isSome_none, if_false, Bool.false_eq_true] at HFI7
    go_wp2_with fail
    rw [← HW7.out.1, ← HW7.out.2]
    refine HFI7.out.mono ?_
    rintro e w8 ⟨rfl, hb8⟩
    have HX8 := Lib.hid (HX7.out.below hb8)
    have HV8 := Lib.hid (HV.out.below hb8)
    have HB8 := Lib.hid (into HB7.out hb8)
    clear hb8 z0 z1
    obtain ⟨z0, z1, -⟩ := box2 HX8.out.x
    go_wp2_with fail
    refine (scan_all_v HX8.out.g).mono ?_
    rintro e w9 ⟨ga, gn, gc, rfl, hv9, hb9⟩
    have HV9 := Lib.hid (HV8.out.below hb9)
    have HB9 := Lib.hid (into HB8.out hb9)
    have HG9 := Lib.hid hv9
    clear hb9 z0 z1 hv9
    obtain ⟨z0, z1, -⟩ := box2 HV9.out.x
    go_wp2_with fail
    refine (scan_all_v HV9.out.g).mono ?_
    rintro e wo ⟨la, ln, lc, rfl, hv10, hb10⟩
    have HB10 := Lib.hid (into HB9.out hb10)
    have HG10 := Lib.hid (HG9.out.below hb10)
    have HL10 := Lib.hid hv10
    have hgn : gn = l.length := by obtain ⟨_, h, -, -⟩ := HG9.out; exact h
    have hln : ln = l.length := by obtain ⟨_, h, -, -⟩ := hv10; exact h
    have hl6 : l.length ≤ 1000000 := HX8.out.g.few_ents
    obtain rfl : gn = ln := by omega
    have hln6 : gn ≤ 1000000 := by omega
    have HLN := Lib.hid hln
    clear hb10 z0 z1 hv10 hgn hln hl6
    go_wp2_with fail
    go_loopw [27] (fun i wq => ∃ x : Nat, x ≤ gn ∧ i = .int .i64 (x : Int) ∧ Hid (Below wo.heap.size wo wq)) (fun i _ => gn - (intOf i).toNat)
    case atStart => exact ⟨0, by omega, rfl, Below.refl _ _⟩
    case round =>
      obtain ⟨x, hx, rfl, HQ⟩ := hrel
      by_cases hlt2 : (x : Int) < (gn : Int)
      · obtain ⟨b1, o1, c1, e9, -, -, p3⟩ := HG10.out.pos (by omega)
        simp only [Value.slice.injEq] at e9
        obtain ⟨rfl, -, rfl⟩ := e9
        obtain ⟨b2, o2, c2, e8, -, -, p4⟩ := HL10.out.pos (by omega)
        simp only [Value.slice.injEq] at e8
        obtain ⟨rfl, -, rfl⟩ := e8
        have hxl : x < (l).length := by have := HLN.out; omega
        obtain ⟨en, hen⟩ : ∃ en, en = (l)[x] := ⟨_, rfl⟩
        have hat : (l)[x]? = some en := by rw [hen]; exact List.getElem?_eq_getElem hxl
        obtain ⟨ya, yc, y1, y2, y3⟩ := p3 x en hat
        obtain ⟨ua, uc, u1, u2, u3⟩ := p4 x en hat
        have g1 := cell_of_below HQ.out y1
        have g2 := cell_of_below HQ.out y2
        have g3 := cell_of_below HQ.out u1
        have g4 := cell_of_below HQ.out u2
        have t1 := str_drew (y3.below HQ.out)
        have t2 := str_drew (u3.below HQ.out)
        obtain ⟨ek, er⟩ := en
        simp only at g1 g2 g3 g4 t1 t2
        obtain ⟨yn, hyn⟩ : ∃ yn, yn = ek.length := ⟨_, rfl⟩
        rw [← hyn] at g1 g3 t1 t2
        clear y1 y2 y3 u1 u2 u3 p3 p4 hen hat hyn hxl
        go_wp2_with fail
        go_quiet (fail)
        have HQ6 := Lib.hid (HQ.out.trans ((below_drewN wr nq).mono HQ.out.size))
        clear g1 g2 g3 g4 t1 t2
        go_wp2_with fail
        go_roundw
        case rel => exact ⟨x + 1, by omega, by go_num, HQ6.out⟩
        case measure => simp [intOf]; omega
      · go_wp2_with fail
        go_ret
        exact ⟨rfl, HB10.out.trans (HQ.out.mono HB10.out.size)⟩
  · have hw0 : 0 ≤ was := by
      have h1 := HX2.out.g.grown.okk
      unfold lookE at hlk
      obtain ⟨e, he, hv⟩ := Option.map_eq_some_iff.1 hlk
      rw [← hv]
      exact (h1 e (List.mem_of_find?_eq_some he)).2
    rw [hlk] at HFI
    simp only [Option.getD_some, Option.isSome_some, if_true] at HFI
    go_wp2_with fail
    refine HFI.out.mono ?_
    rintro e w3 ⟨rfl, hb3⟩
    have HX3 := Lib.hid (HX2.out.below hb3)
    have HB3 := Lib.hid (into HB2.out hb3)
    have HRA3 := Lib.hid (HRA.out.below hb3)
    clear hb3 z0 z1
    obtain ⟨z0, z1, -⟩ := box2 HX3.out.x
    have HIN := Lib.hid (insert_twice HX3.out.g HRA3.out hok p1 (by rw [hlk]; rfl))
    clear hlk
    go_wp2_with (go_at_call 32; refine (HPB.out _).mono ?_; rintro e w' ⟨rfl, rfl⟩)
    refine HIN.out.mono ?_
    rintro e w4 ⟨rfl, hb4⟩
    have HB4 := Lib.hid (into HB3.out hb4)
    clear hb4 z0 z1
    go_wp2_with fail
    go_ret
    exact ⟨rfl, into HB4.out (bel_al _ _)⟩

set_option maxRecDepth 100000 in
theorem lifted (os : Os) (started : os.Started) (H : Type) (enc : TypeId × Value → H) :
    ReturnsInHanded {} Try.checked os 10 .any (Rows.treeBackSpec.pre6 enc Try.prog Try.f10 Rows.treeBackRow.domain false) (Rows.treeBackSpec.post enc Try.prog Try.f10 false true false false) := by
  refine returnsInHanded_of_change_sized (C := Try.checked) Try.own started (by kernel_rfl) Try.func10
    (ChangeSpec.witness6 (enc := enc) (C := Try.checked) false ⟨#[], #[.slice none 0 0, .int .i64 0, .int .i64 0], []⟩ 8 (by kernel_rfl) (by kernel_rfl) (by kernel_rfl) (by kernel_rfl)) ?_
  intro W base args ds gs before hval0 hW hcnd hsz0 _
  have hsz : (DataW.weightsEach Try.prog (Try.f10.params.toList ++ Rows.treeBackSpec.plain.varTypes Try.prog) (ds ++ gs)).all (· ≤ reachBytes) = true := hsz0
  have hval : ∀ (j : Nat) t v, Try.f10.params[j]? = some t → args[j]? = some v → Value.okWide Try.prog W .any base t v := hval0
  have hW' := hW
  obtain ⟨p, q, hA0, hV, rfl, hfz, hnd⟩ := hW
  have hA : DataW.TrodAll enc Try.prog W 0 (fun _ => true) true Try.f10.params.toList args.toList ds p := hA0
  rw [Try.params10] at hA hval hsz
  obtain ⟨v0, v1, v2, d0, d1, d2, p0, p1, p2, rfl, rfl, rfl, h0, h1, h2⟩ := trodAll_three hA
  obtain ⟨rfl, rfl⟩ := trodVars_none hV
  have sm0 : small Try.prog 45 d0 := fun q hq => by
    have := List.all_eq_true.1 hsz q (weights_each (j := 0) rfl rfl q hq)
    simpa using this
  obtain ⟨n0, l0, hr0, hz0, hs0⟩ := open_ints (hval 0 45 v0 rfl rfl) h0 sm0
  obtain ⟨a1, rfl, rfl, rfl, w1⟩ := open_int Try.underlying3 (hval 1 3 v1 rfl rfl) h1
  obtain ⟨a2, rfl, rfl, rfl, w2⟩ := open_int Try.underlying3 (hval 2 3 v2 rfl rfl) h2
  clear hA0 hval0
  refine (walk W n0 v0 l0 hr0 hz0 hs0 a1 w1 a2 w2).mono fun e W' ⟨he, hg⟩ => ?_
  subst he
  exact ⟨_, rfl, law_post (tb := 4) Try.laidOut (by kernel_rfl) (by kernel_rfl) Try.underlying4 rfl hW' hg rfl rfl rfl⟩

theorem proved : Rows.TreeBackSaid :=
  OpenClaim.holds_of_wide 10 Try.f10 rfl rfl rfl rfl rfl rfl rfl ⟨rfl, rfl, rfl, rfl, rfl⟩ rfl rfl rfl rfl rfl (by kernel_rfl) Try.func10 (by kernel_rfl)
    (of_decide_eq_true (by kernel_rfl)) (by unfold Func.isWrapper; first | (rw [if_pos (by decide +kernel)]; kernel_rfl) | (rw [if_neg (by decide +kernel)]; exact ⟨rfl, rfl⟩))
    (fun os started H enc _ => lifted os started H enc)
#print axioms proved
end Go.Proofs.Ytacpeibkamfibaa.lTreeBack
