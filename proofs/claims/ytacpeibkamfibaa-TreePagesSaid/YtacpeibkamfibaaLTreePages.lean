/- A page has no more keys than it may; leaves lead to one another, from the least key to the greatest: at every list of raw numbers. No condition. -/
import Derived.Test.YtacpeibkamfibaaB2
import Derived.Test.YtacpeibkamfibaaXc
import Derived.Test.YtacpeibkamfibaaXd
import Derived.Test.YtacpeibkamfibaaXl
namespace Go.Proofs.Ytacpeibkamfibaa.lTreePages
open Go.ChangeShapes Go.WideShapes Go.ChangeAt Go.RowKit Go.Joins
open Go.ChangeMaps (open_string shut_string)
set_option linter.unusedVariables false
set_option linter.unusedSimpArgs false
set_option maxHeartbeats 400000

set_option maxRecDepth 100000 in
set_option maxHeartbeats 8000000 in
theorem walk (W : World) (n : Nat) (v : Value) (L : List Int) (hr : Rd W 1 n v (ic L)) (hz : n * 8 ≤ 140737488351232) (hs : ∀ o ∈ L, (Lit.int .i64 o).wf = true) :
    Calls Try.prog 11 #[v] W fun e w' => e = .returned (.bool true) ∧ Below W.heap.size W w' := by
  have HTREE := Lib.hid (tree_any W n v L hr fun x hx => rn_of (hs x hx))
  obtain ⟨_, av, cv, rfl, -⟩ := id hr
  clear hr hs
  go_enter Try.func11, Try.ntmps11
  go_wp2_with fail
  refine HTREE.out.mono ?_
  rintro e w1 ⟨ao, cap, T, rfl, hg1, hb1⟩
  obtain ⟨l, hl⟩ : ∃ l, l = runE L (min L.length 70) := ⟨_, rfl⟩
  rw [← hl] at hg1
  obtain ⟨W1, hW1⟩ : ∃ W1 : World, W1 = w1.alloc (.cells #[.slice ao T.pages.length cap, .int .i64 T.root] 24) := ⟨_, rfl⟩
  have hX := TBx.new hg1
  obtain ⟨Bt, hBt⟩ : ∃ x, x = w1.heap.size := ⟨_, rfl⟩
  rw [← hW1, ← hBt] at hX
  have HB1 := Lib.hid (show Below W.heap.size W W1 by rw [hW1]; exact into hb1 (bel_al _ _))
  have HX1 := Lib.hid hX
  have HW1 := Lib.hid hW1
  have HBT := Lib.hid hBt
  have HLL := Lib.hid hl
  have HBG := Lib.hid (show W.heap.size ≤ Bt by rw [hBt]; exact hb1.size)
  clear hg1 hb1 hX hW1 hBt hl
  obtain ⟨z0, z1, -⟩ := box2 HX1.out.x
  rw [HW1.out, HBT.out] at z0 z1
  go_wp2_with fail
  rw [← HW1.out, ← HBT.out]
  clear z0 z1
  obtain ⟨⟨h, t, hre, hen, hhn⟩, hgs⟩ := HX1.out.g.grown
  have hN := HX1.out.g.pages
  have hdf := down_few hre (by omega)
  have hwk := walk_of hre
  rw [hen] at hwk
  obtain ⟨ls, hls⟩ : ∃ ls, ls = leavesT h t := ⟨_, rfl⟩
  rw [← hls] at hwk
  obtain ⟨ao', cp, kf, df, gf, e1, g1, g2, g3⟩ := pagesF HX1.out.g.rt
  simp only [Value.agg.injEq, Array.mk.injEq, List.cons.injEq, Value.slice.injEq, and_true] at e1
  obtain ⟨rfl, -, rfl⟩ := e1
  obtain ⟨N, hNN⟩ : ∃ N, N = T.pages.length := ⟨_, rfl⟩
  have HXX := Lib.hid (show W1.heap[Bt]? = some (.cells #[.slice ao N cap, .int .i64 T.root] 24 (0, 0)) by rw [hNN]; exact HX1.out.x)
  rw [← hNN] at g1 g3 hN ⊢
  have HP := Lib.hid g3
  have HW := Lib.hid hwk
  have HD0 := Lib.hid (down_start hre)
  have HLS := Lib.hid hls
  have HNN := Lib.hid hNN
  clear g1 g2 g3 hwk hls hre hen hhn hgs hNN
  go_loopw [5, 6] (fun i d wr => ∃ (n' : Nat) (i' : Int), i = .int .i64 i' ∧ d = .int .i64 (n' : Int) ∧ n' ≤ h ∧ Hid (Down T h t n' i') ∧ Hid (wr = W1)) (fun _ d _ => h + 1 - (intOf d).toNat)
  case atStart => exact ⟨0, T.root, rfl, rfl, by omega, HD0.out, rfl⟩
  case round =>
    obtain ⟨n', i', rfl, rfl, hn', HD, HWR⟩ := hrel
    have hwr := HWR.out
    subst hwr
    obtain ⟨p, ⟨j, hj, hp⟩, hcase⟩ := down_step HD.out
    subst hj
    have hjN : j < N := by rw [HNN.out]; exact (List.getElem?_eq_some_iff.1 hp).1
    obtain ⟨b0, o0, rfl, hb0, hok0, hpa⟩ := HP.out j hjN
    rw [getD_of hp] at hpa
    obtain ⟨a1, a2, a3, a4, a5, a6, a7, a8⟩ := hpa
    obtain ⟨z0, z1, -⟩ := box2 HXX.out
    have hjI : (j : Int) < (N : Int) := by omega
    have hj0 : (0 : Int) ≤ (j : Int) := by omega
    rcases hcase with ⟨hlf, hfi⟩ | ⟨hlf, hnh, c, r, hk, hd2⟩
    · rw [hlf] at a1
      rw [← HLS.out] at hfi
      have HFI := Lib.hid hfi
      clear a2 a3 a4 a5 a6 a7 a8 hfi hlf hp
      rw [HFI.out] at hjI hj0
      go_wp2_with fail
      rw [HFI.out]
      obtain ⟨w7, hw7⟩ : ∃ w7 : World, w7 = wr := ⟨_, rfl⟩
      rw [← hw7] at HXX HP HX1 HB1 ⊢
      clear hw7 hjI hj0 hjN
      go_loopw [5, 7, 8, 9] (fun i c s q wr => ∃ (y : Nat), y ≤ ls.length ∧ i = .int .i64 (firstL (-1) (ls.drop y)) ∧ c = .int .i64 ((entL (ls.take y)).length : Int) ∧ s = .string ⟨(lastK (entL (ls.take y))).toArray⟩ ∧ q = .int .i64 (y : Int) ∧ Hid (Below w7.heap.size w7 wr)) (fun _ _ _ q _ => ls.length - (intOf q).toNat)
      case atStart => exact ⟨0, by omega, rfl, rfl, rfl, rfl, Below.refl _ _⟩
      case round =>
        obtain ⟨y, hy, rfl, rfl, rfl, rfl, HB7⟩ := hrel
        obtain ⟨z0, z1, -⟩ := box2 ((HB7.out.block _ (Array.getElem?_eq_some_iff.1 HXX.out).1).trans HXX.out)
        by_cases hyl : y < ls.length
        · obtain ⟨hi, hl1, hl2, hl3, hl4⟩ := HW.out.leaf y hyl
          have hdr : firstL (-1) (ls.drop y) = ((ls[y]).1 : Int) := by rw [List.drop_eq_getElem_cons hyl]; rfl
          rw [hdr]
          obtain ⟨lf, hlf⟩ : ∃ lf, lf = ls[y] := ⟨_, rfl⟩
          rw [← hlf] at hl1 hl2 hl3 hl4 ⊢
          obtain ⟨nx, hnx⟩ : ∃ nx, nx = firstL (-1) (ls.drop (y + 1)) := ⟨_, rfl⟩
          rw [← hnx] at hl4
          rw [← HNN.out] at hl1
          obtain ⟨b2, o2, e2, hb2, hok2, hpa⟩ := HP.out lf.1 hl1
          simp only [Option.some.injEq, Addr.mk.injEq, and_true] at e2
          obtain ⟨rfl, rfl⟩ := e2
          rw [getD_of hl4] at hpa
          obtain ⟨ak, ck, ad, cd, ag, cg, x1, x2, x3⟩ := page_box hpa
          rw [x1, x2, x3] at hpa
          obtain ⟨a1, a2, a3, a4, a5, a6, a7, a8⟩ := hpa
          simp only [List.length_map] at a1 a2 a3 a4 a5 a6 a7
          obtain ⟨m, hm⟩ : ∃ m, m = lf.2.length := ⟨_, rfl⟩
          rw [← hm] at a2 a3 a6 hl2
          obtain ⟨pl, hpl⟩ : ∃ pl, pl = lf.1 := ⟨_, rfl⟩
          rw [← hpl] at a1 a2 a3 a4 a5 hl1 ⊢
          obtain ⟨A, hA⟩ : ∃ A, A = entL (ls.take y) := ⟨_, rfl⟩
          rw [← hA]
          obtain ⟨gn, hgn⟩ : ∃ gn, gn = hi.length := ⟨_, rfl⟩
          rw [← hgn] at a4
          obtain ⟨an, han⟩ : ∃ an, an = A.length := ⟨_, rfl⟩
          rw [← han]
          have hAl : an ≤ 1000000 := by
            rw [han, hA]
            have h1 : (entL ls).length ≤ 1000000 := by rw [HW.out.ents]; exact HX1.out.g.few_ents
            have h2 : (entL (ls.take y)).length ≤ (entL ls).length := by
              conv => rhs; rw [← List.take_append_drop y ls, entL_app]
              rw [List.length_append]; omega
            omega
          replace a1 := cell_of_below HB7.out a1
          replace a2 := cell_of_below HB7.out a2
          replace a3 := cell_of_below HB7.out a3
          replace a4 := cell_of_below HB7.out a4
          replace a5 := cell_of_below HB7.out a5
          have z0' := cell_al (Obj.cells #[.bool true, .slice ak m ck, .slice ad m cd, .slice ag gn cg, .int .i64 nx] 59 (0, 0)) z0
          have hpI : (pl : Int) < (N : Int) := by omega
          have hp0 : (0 : Int) ≤ (pl : Int) := by omega
          have hyN : ¬ (N : Int) < (y : Int) := by have h1 := HW.out.few; have h2 := HNN.out; omega
          have hm4 : ¬ (4 : Int) < (m : Int) := by omega
          have HA6 := Lib.hid a6
          have HLF := Lib.hid (And.intro hlf (And.intro hm (And.intro hA (And.intro hnx han))))
          clear a6 a7 a8 x1 x2 x3 hdr hlf hm hpl hA hgn hnx hl3 hl4 hl1 han
          go_wp2_with fail
          obtain ⟨w8, hw8⟩ : ∃ w8 : World, w8 = wr.alloc (.cells #[.bool true, .slice ak m ck, .slice ad m cd, .slice ag gn cg, .int .i64 nx] 59) := ⟨_, rfl⟩
          obtain ⟨Bp, hBp⟩ : ∃ Bp, Bp = wr.heap.size := ⟨_, rfl⟩
          have hb8 : Below wr.heap.size wr w8 := by rw [hw8]; exact bel_al _ _
          have hx8 : w8.heap[Bp]? = some (.cells #[.bool true, .slice ak m ck, .slice ad m cd, .slice ag gn cg, .int .i64 nx] 59 (0, 0)) := by rw [hw8, hBp]; exact new0 _ _
          rw [← hw8, ← hBp]
          have HB8 := Lib.hid (HB7.out.trans (hb8.mono HB7.out.size))
          have HX8 := Lib.hid hx8
          have HA8 := Lib.hid ((HA6.out.below HB7.out).below hb8)
          clear hw8 hBp hb8 hx8 z0 z1 z0' a1 a2 a3 a4 a5
          go_loopw [7, 8, 11] (fun c s q wq => ∃ (x : Nat), x ≤ m ∧ c = .int .i64 ((an + x : Nat) : Int) ∧ s = .string ⟨(lastK (A ++ lf.2.take x)).toArray⟩ ∧ q = .int .i64 (x : Int) ∧ Hid (wq = w8)) (fun _ _ q _ => m - (intOf q).toNat)
          case atStart => exact ⟨0, by omega, rfl, by simp, rfl, rfl⟩
          case round =>
            obtain ⟨x, hx, rfl, rfl, rfl, HQ⟩ := hrel
            have hwq := HQ.out
            subst hwq
            obtain ⟨-, l1, l2⟩ := boxF HX8.out
            have l4 : wr.cell? ⟨Bp, 4, none⟩ = some (.int .i64 nx) := by simp [World.cell?, HX8.out]
            by_cases hxm : (x : Int) < (m : Int)
            · have hxl : x < lf.2.length := by have := HLF.out.2.1; omega
              have hnext := HW.out.next hyl (x := x) (by rw [← HLF.out.1]; exact hxl)
              obtain ⟨en, hen⟩ : ∃ en, en = lf.2[x] := ⟨_, rfl⟩
              have hnk : kl (lastK (A ++ lf.2.take x)) en.1 = true := by
                have q1 := HLF.out.1
                have q2 := HLF.out.2.2.1
                subst q1
                rw [q2, hen]
                exact hnext
              have HSTEP := Lib.hid (show lastK (A ++ lf.2.take (x + 1)) = en.1 by rw [List.take_succ_eq_append_getElem hxl, ← List.append_assoc, ← hen]; exact last_app)
              obtain ⟨lk, hlk⟩ : ∃ lk, lk = lastK (A ++ lf.2.take x) := ⟨_, rfl⟩
              rw [← hlk] at hnk ⊢
              have hk1 : Op.bytesLess en.1 lk = false := kl_not hnk
              have hk2 : (en.1 == lk) = false := beq_eq_false_iff_ne.2 (fun e => by rw [e, show kl lk lk = false from bl_irr lk] at hnk; cases hnk)
              obtain ⟨us, r1, -, r3⟩ := HA8.out
              obtain ⟨kb', ko', kc', e7, -, -, -, r4⟩ := r1.pos (by rw [List.length_map]; omega) (by omega)
              simp only [Value.slice.injEq] at e7
              obtain ⟨rfl, -, rfl⟩ := e7
              obtain ⟨xk, hx1, hx2⟩ := r3 x en.1 (by rw [List.getElem?_map, List.getElem?_eq_getElem hxl, ← hen]; rfl)
              obtain ⟨xa, xc, rfl⟩ := hx2.sh
              have v1 := r4 x _ hx1
              have t1 := str_of hx2.1
              obtain ⟨ek, er⟩ := en
              simp only at hk1 hk2 t1 v1 HSTEP
              obtain ⟨kn, hkn⟩ : ∃ kn, kn = ek.length := ⟨_, rfl⟩
              rw [← hkn] at v1 t1
              clear r1 r3 r4 hx1 hx2 hnext hnk hen hlk hkn
              go_wp2_with fail
              refine ⟨⟨x + 1, by omega, congrArg (Value.int .i64) (by omega), by rw [HSTEP.out], by go_num, trivial⟩, ?_⟩
              (simp [intOf]) <;> omega
            · obtain rfl : x = m := by omega
              have hfin : A ++ lf.2.take x = entL (ls.take (y + 1)) := by
                have q1 := HLF.out.1
                subst q1
                rw [Walk.take hyl, ← HLF.out.2.2.1, List.take_of_length_le (by rw [HLF.out.2.1]; exact Nat.le_refl _)]
              have hfl : an + x = (entL (ls.take (y + 1))).length := by
                have q1 := HLF.out.1
                have q5 := HLF.out.2.2.2.2
                have q2 := HLF.out.2.1
                rw [← hfin, List.length_append, List.length_take, q5]
                omega
              rw [hfin]
              have HFL := Lib.hid hfl
              clear hfin hfl
              go_wp2_with fail
              refine ⟨⟨y + 1, hyl, by rw [HLF.out.2.2.2.1], by rw [HFL.out], rfl, by go_num, HB8.out⟩, ?_⟩
              (simp [intOf]) <;> omega
        · obtain rfl : y = ls.length := by omega
          have e1 : firstL (-1) (ls.drop ls.length) = -1 := by rw [List.drop_length]; rfl
          rw [e1]
          have e2 : ls.take ls.length = ls := List.take_of_length_le (Nat.le_refl _)
          rw [e2, HW.out.ents]
          have HXE := Lib.hid (HX1.out.below HB7.out)
          have HBE := Lib.hid (into HB1.out HB7.out)
          rw [HNN.out] at z0
          rw [HNN.out]
          clear e1 e2
          go_wp2_with fail
          refine (scan_all_v HXE.out.g).mono ?_
          rintro e w9 ⟨sa, sn, sc, rfl, hv9, hb9⟩
          have HB9 := Lib.hid (into HBE.out hb9)
          obtain ⟨_, hsn, -, -⟩ := hv9
          obtain ⟨len, hlen⟩ : ∃ len, len = l.length := ⟨_, rfl⟩
          rw [← hlen] at hsn ⊢
          subst hsn
          clear hb9 hlen z0 z1
          go_wp2_with fail
          go_ret
          exact ⟨rfl, HB9.out⟩
    · rw [hlf] at a1
      have HD2 := Lib.hid hd2
      have hki := a7.1
      rw [hk] at hki
      obtain ⟨b2, o2, c2, e9, -, -, -, g4⟩ := hki.pos (by simp) (by omega)
      have d0 := g4 0 (.int .i64 c) (by simp [ic])
      rw [e9] at a3
      obtain ⟨m, hm⟩ : ∃ m, m = (c :: r).length := ⟨_, rfl⟩
      rw [← hm] at a3
      have hm0 : (0 : Int) < (m : Int) := by rw [hm]; simp
      have hm1 : 0 < m := by omega
      simp only [Nat.add_zero] at d0
      have hn20 : ¬ (20 : Int) < (n' : Int) := by omega
      clear a2 a4 a5 a6 a7 a8 hlf hp hki g4 hk hm hd2
      go_wp2_with fail
      go_roundw
      case rel => exact ⟨n' + 1, c, rfl, by go_num, by omega, HD2.out, by first | exact rfl | exact trivial⟩
      case measure => simp [intOf]; omega

set_option maxRecDepth 100000 in
theorem lifted (os : Os) (started : os.Started) (H : Type) (enc : TypeId × Value → H) :
    ReturnsInHanded {} Try.checked os 11 .any (Rows.treePagesSpec.pre6 enc Try.prog Try.f11 Rows.treePagesRow.domain false) (Rows.treePagesSpec.post enc Try.prog Try.f11 false true false false) := by
  refine returnsInHanded_of_change_sized (C := Try.checked) Try.own started (by kernel_rfl) Try.func11
    (ChangeSpec.witness6 (enc := enc) (C := Try.checked) false ⟨#[], #[.slice none 0 0], []⟩ 8 (by kernel_rfl) (by kernel_rfl) (by kernel_rfl) (by kernel_rfl)) ?_
  intro W base args ds gs before hval0 hW hcnd hsz0 _
  have hsz : (DataW.weightsEach Try.prog (Try.f11.params.toList ++ Rows.treePagesSpec.plain.varTypes Try.prog) (ds ++ gs)).all (· ≤ reachBytes) = true := hsz0
  have hval : ∀ (j : Nat) t v, Try.f11.params[j]? = some t → args[j]? = some v → Value.okWide Try.prog W .any base t v := hval0
  have hW' := hW
  obtain ⟨p, q, hA0, hV, rfl, hfz, hnd⟩ := hW
  have hA : DataW.TrodAll enc Try.prog W 0 (fun _ => true) true Try.f11.params.toList args.toList ds p := hA0
  rw [Try.params11] at hA hval hsz
  obtain ⟨v0, d0, rfl, rfl, h0⟩ := trodAll_one hA
  obtain ⟨rfl, rfl⟩ := trodVars_none hV
  have sm0 : small Try.prog 45 d0 := fun q hq => by
    have := List.all_eq_true.1 hsz q (weights_each (j := 0) rfl rfl q hq)
    simpa using this
  obtain ⟨n0, l0, hr0, hz0, hs0⟩ := open_ints (hval 0 45 v0 rfl rfl) h0 sm0
  clear hA0 hval0
  refine (walk W n0 v0 l0 hr0 hz0 hs0).mono fun e W' ⟨he, hg⟩ => ?_
  subst he
  exact ⟨_, rfl, law_post (tb := 4) Try.laidOut (by kernel_rfl) (by kernel_rfl) Try.underlying4 rfl hW' hg rfl rfl rfl⟩

theorem proved : Rows.TreePagesSaid :=
  OpenClaim.holds_of_wide 11 Try.f11 rfl rfl rfl rfl rfl rfl rfl ⟨rfl, rfl, rfl, rfl, rfl⟩ rfl rfl rfl rfl rfl (by kernel_rfl) Try.func11 (by kernel_rfl)
    (of_decide_eq_true (by kernel_rfl)) (by unfold Func.isWrapper; first | (rw [if_pos (by decide +kernel)]; kernel_rfl) | (rw [if_neg (by decide +kernel)]; exact ⟨rfl, rfl⟩))
    (fun os started H enc _ => lifted os started H enc)
#print axioms proved
end Go.Proofs.Ytacpeibkamfibaa.lTreePages
