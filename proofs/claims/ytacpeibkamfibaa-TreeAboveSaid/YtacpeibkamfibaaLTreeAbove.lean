/- The next key above a key is the first one of a scan that is another one: at every list of raw numbers and every raw number. No condition. -/
import Derived.Test.YtacpeibkamfibaaB2
import Derived.Test.YtacpeibkamfibaaXc
import Derived.Test.YtacpeibkamfibaaXd
import Derived.Test.YtacpeibkamfibaaTz
namespace Go.Proofs.Ytacpeibkamfibaa.lTreeAbove
open Go.ChangeShapes Go.WideShapes Go.ChangeAt Go.RowKit Go.Joins
open Go.ChangeMaps (open_string shut_string)
set_option linter.unusedVariables false
set_option linter.unusedSimpArgs false
set_option maxHeartbeats 400000

theorem first_up {k : Key} {e : Key × Int} {r : List (Key × Int)} (hr : Rise (e :: r)) (h : e.1 = k) : firstE k (e :: r) = r.head? := by
  unfold firstE
  rw [List.find?_cons_of_neg (by simp [h])]
  rcases r with _ | ⟨f, r⟩
  · rfl
  · have h1 := (List.pairwise_cons.1 hr).1 f (by simp)
    rw [List.find?_cons_of_pos]
    · rfl
    · rw [h] at h1
      have : f.1 ≠ k := fun q => by rw [q, show kl k k = false from bl_irr k] at h1; cases h1
      simpa using this
set_option maxRecDepth 100000 in
set_option maxHeartbeats 8000000 in
theorem walk (W : World) (n : Nat) (v : Value) (L : List Int) (hr : Rd W 1 n v (ic L)) (hz : n * 8 ≤ 140737488351232) (hs : ∀ o ∈ L, (Lit.int .i64 o).wf = true) (a : Int) (wa : (Lit.int .i64 a).wf = true) :
    Calls Try.prog 9 #[v, .int .i64 a] W fun e w' => e = .returned (.bool true) ∧ Below W.heap.size W w' := by
  have HTREE := Lib.hid (tree_any W n v L hr fun x hx => rn_of (hs x hx))
  have HKEY := Lib.hid (fun (w : World) => key_any a w (rn_of wa))
  obtain ⟨k, hk⟩ : ∃ k, k = keyK a := ⟨_, rfl⟩
  have hkl : k.length ≤ 100 := by rw [hk]; exact (keyK_ok a).2
  have hk2 : k.length = 2 := by rw [hk]; rfl
  rw [← hk] at HKEY
  clear hk
  obtain ⟨_, av, cv, rfl, -⟩ := id hr
  clear hr hs
  go_enter Try.func9, Try.ntmps9
  go_wp2_with fail
  refine HTREE.out.mono ?_
  rintro e w1 ⟨ao, cap, T, rfl, hg1, hb1⟩
  obtain ⟨l, hl⟩ : ∃ l, l = runE L (min L.length 70) := ⟨_, rfl⟩
  rw [← hl] at hg1
  have hrise := hg1.grown.rise
  obtain ⟨E, hE⟩ : ∃ E, E = l.filter fun e => !kl e.1 k := ⟨_, rfl⟩
  have hER : Rise E := by rw [hE]; exact List.Pairwise.sublist List.filter_sublist hrise
  have hsc := scan_up k l
  rw [← hE] at hsc
  obtain ⟨W1, hW1⟩ : ∃ W1 : World, W1 = w1.alloc (.cells #[.slice ao T.pages.length cap, .int .i64 T.root] 24) := ⟨_, rfl⟩
  have hX := TBx.new hg1
  obtain ⟨Bt, hBt⟩ : ∃ x, x = w1.heap.size := ⟨_, rfl⟩
  rw [← hW1, ← hBt] at hX
  have HB1 := Lib.hid (show Below W.heap.size W W1 by rw [hW1]; exact into hb1 (bel_al _ _))
  have HX1 := Lib.hid hX
  have HW1 := Lib.hid hW1
  have HBT := Lib.hid hBt
  have HE := Lib.hid hE
  have HSC := Lib.hid hsc
  clear hg1 hb1 hX hW1 hl hrise hE hsc hBt
  go_wp2_with fail
  rw [← HW1.out, ← HBT.out]
  refine (HKEY.out W1).mono ?_
  rintro e w2 ⟨ka, kc, rfl, hkr, hb2⟩
  have HX2 := Lib.hid (HX1.out.below hb2)
  have HK2 := Lib.hid hkr
  have HB2 := Lib.hid (into HB1.out hb2)
  obtain ⟨k0, k1, -⟩ := box2 HX2.out.x
  clear hkr hb2
  rcases E with _ | ⟨e1, r⟩
  · have HAB := Lib.hid (above_none HX2.out.g HK2.out hkl (by rw [← HE.out]; rfl))
    go_wp2_with fail
    refine HAB.out.mono ?_
    rintro e w3 ⟨rfl, hb3⟩
    obtain ⟨W4, hW4⟩ : ∃ W4 : World, W4 = w3.alloc (.cells #[.slice none 0 0, .int .i64 0] 36) := ⟨_, rfl⟩
    have hb4 : Below w2.heap.size w2 W4 := by rw [hW4]; exact into hb3 (bel_al _ _)
    have HX4 := Lib.hid (HX2.out.below hb4)
    have HK4 := Lib.hid (HK2.out.below hb4)
    have HB4 := Lib.hid (into HB2.out hb4)
    have HW4 := Lib.hid hW4
    obtain ⟨z0, z1, -⟩ := box2 HX4.out.x
    have HBX := Lib.hid (show W4.heap[w3.heap.size]? = some (.cells #[.slice none 0 0, .int .i64 0] 36 (0, 0)) by rw [hW4]; exact new0 _ _)
    clear hb3 hb4 k0 k1
    rw [hW4] at z0 z1
    clear hW4
    have HSV := Lib.hid (scan_v HX4.out.g HK4.out (rb_nil W4) hkl (by simp))
    rw [HSC.out] at HSV
    go_wp2_with fail
    rw [← HW4.out]
    refine HSV.out.mono ?_
    rintro e w5 ⟨va, m, vc, rfl, hv5, hb5⟩
    have HB5 := Lib.hid (into HB4.out hb5)
    obtain ⟨cs, rfl, -, -⟩ := hv5
    clear hb5 z0 z1
    go_wp2_with fail
    go_quiet (fail)
    go_wp2_with fail
    go_ret
    exact ⟨rfl, into HB5.out (below_drewN _ _)⟩
  · by_cases hek : e1.1 = k
    · have hfu := first_up hER hek
      rcases r with _ | ⟨e2, r⟩
      · have HAB := Lib.hid (above_none HX2.out.g HK2.out hkl (by rw [← HE.out]; exact hfu))
        clear hfu
        go_wp2_with fail
        refine HAB.out.mono ?_
        rintro e w3 ⟨rfl, hb3⟩
        obtain ⟨W4, hW4⟩ : ∃ W4 : World, W4 = w3.alloc (.cells #[.slice none 0 0, .int .i64 0] 36) := ⟨_, rfl⟩
        have hb4 : Below w2.heap.size w2 W4 := by rw [hW4]; exact into hb3 (bel_al _ _)
        have HX4 := Lib.hid (HX2.out.below hb4)
        have HK4 := Lib.hid (HK2.out.below hb4)
        have HB4 := Lib.hid (into HB2.out hb4)
        have HW4 := Lib.hid hW4
        obtain ⟨z0, z1, -⟩ := box2 HX4.out.x
        have HBX := Lib.hid (show W4.heap[w3.heap.size]? = some (.cells #[.slice none 0 0, .int .i64 0] 36 (0, 0)) by rw [hW4]; exact new0 _ _)
        clear hb3 hb4 k0 k1
        rw [hW4] at z0 z1
        clear hW4
        have HSV := Lib.hid (scan_v HX4.out.g HK4.out (rb_nil W4) hkl (by simp))
        rw [HSC.out] at HSV
        go_wp2_with fail
        rw [← HW4.out]
        refine HSV.out.mono ?_
        rintro e w5 ⟨va, m, vc, rfl, hv5, hb5⟩
        have HB5 := Lib.hid (into HB4.out hb5)
        obtain ⟨b, o, c, e9, q1, q2, q3⟩ := hv5.pos (by obtain ⟨_, h, -, -⟩ := hv5; simp at h; omega)
        simp only [Value.slice.injEq] at e9
        obtain ⟨rfl, -, rfl⟩ := e9
        obtain ⟨ya, yc, y1, y2, y3⟩ := q3 0 e1 rfl
        obtain ⟨yn, hyn⟩ : ∃ yn, yn = e1.1.length := ⟨_, rfl⟩
        rw [← hyn] at y1 y3
        rw [hek] at y3
        have hm : m = 1 := by obtain ⟨_, h, -, -⟩ := hv5; exact h
        subst hm
        have t1 := str_drew y3
        have t2 := str_drew (HK4.out.below hb5)
        simp only [Nat.zero_mul, Nat.add_zero] at y1 y2
        clear hb5 z0 z1 hv5 q3 hek hyn y3
        go_wp2_with fail
        go_quiet (fail)
        go_wp2_with fail
        all_goals (go_ret; exact ⟨rfl, into HB5.out (below_drewN _ _)⟩)
      · have HAB := Lib.hid (above_some HX2.out.g HK2.out hkl (en := e2) (by rw [← HE.out]; exact hfu))
        clear hfu
        go_wp2_with fail
        refine HAB.out.mono ?_
        rintro e w3 ⟨xa, xc, rfl, hrx, hb3⟩
        obtain ⟨W4, hW4⟩ : ∃ W4 : World, W4 = w3.alloc (.cells #[.slice xa e2.1.length xc, .int .i64 e2.2] 36) := ⟨_, rfl⟩
        have hb4 : Below w2.heap.size w2 W4 := by rw [hW4]; exact into hb3 (bel_al _ _)
        have HX4 := Lib.hid (HX2.out.below hb4)
        have HK4 := Lib.hid (HK2.out.below hb4)
        have HB4 := Lib.hid (into HB2.out hb4)
        have HW4 := Lib.hid hW4
        obtain ⟨z0, z1, -⟩ := box2 HX4.out.x
        have HBX := Lib.hid (show W4.heap[w3.heap.size]? = some (.cells #[.slice xa e2.1.length xc, .int .i64 e2.2] 36 (0, 0)) by rw [hW4]; exact new0 _ _)
        have HRX := Lib.hid (hrx.below (bel_al w3 (.cells #[.slice xa e2.1.length xc, .int .i64 e2.2] 36)))
        rw [← hW4] at HRX
        clear hb3 hb4 k0 k1
        rw [hW4] at z0 z1
        clear hW4
        have HSV := Lib.hid (scan_v HX4.out.g HK4.out (rb_nil W4) hkl (by simp))
        rw [HSC.out] at HSV
        go_wp2_with fail
        rw [← HW4.out]
        refine HSV.out.mono ?_
        rintro e w5 ⟨va, m, vc, rfl, hv5, hb5⟩
        have HB5 := Lib.hid (into HB4.out hb5)
        obtain ⟨b, o, c, e9, q1, q2, q3⟩ := hv5.pos (by obtain ⟨_, h, -, -⟩ := hv5; simp at h; omega)
        simp only [Value.slice.injEq] at e9
        obtain ⟨rfl, -, rfl⟩ := e9
        obtain ⟨ya, yc, y1, y2, y3⟩ := q3 0 e1 rfl
        obtain ⟨ua, uc, u1, u2, u3⟩ := q3 1 e2 rfl
        obtain ⟨yn, hyn⟩ : ∃ yn, yn = e1.1.length := ⟨_, rfl⟩
        rw [← hyn] at y1 y3
        rw [hek] at y3
        have t1 := str_drew y3
        have t2 := str_drew (HK4.out.below hb5)
        have hmn : 1 < m := by obtain ⟨_, h, -, -⟩ := hv5; simp at h; omega
        have hm0 : 0 < m := by omega
        have hm1 : (1 : Int) < (m : Int) := by omega
        have hm2 : (0 : Int) < (m : Int) := by omega
        have hm3 : (((m - 1 : Nat) : Int) == 0) = false := by simpa using (by omega : m - 1 ≠ 0)
        have hm4 : 0 < m - 1 := by omega
        have hm5 : (0 : Int) < ((m - 1 : Nat) : Int) := by omega
        have hBX5 := (hb5.block _ (Array.getElem?_eq_some_iff.1 HBX.out).1).trans HBX.out
        obtain ⟨x0, x1, -⟩ := box2 hBX5
        obtain ⟨ek, er⟩ := e2
        simp only at *
        obtain ⟨xn, hxn⟩ : ∃ xn, xn = ek.length := ⟨_, rfl⟩
        have t3 := str_drew (HRX.out.below hb5)
        rw [← hxn] at HRX u3
        replace t3 := str_drew (HRX.out.below hb5)
        have t4 := str_drew u3
        rw [← hxn] at x0 u1
        simp only [Nat.zero_mul, Nat.add_zero, Nat.one_mul] at y1 y2 u1 u2
        have HB5' := Lib.hid hb5
        have HU3 := Lib.hid u3
        clear hb5 z0 z1 hv5 q3 hek hyn y3 u3 hxn hBX5
        go_wp2_with fail
        go_quiet (fail)
        obtain ⟨W6, hW6⟩ : ∃ W6, W6 = w5.drewN nq := ⟨_, rfl⟩
        have hq6 := below_drewN w5 nq
        rw [← hW6] at hq6 ⊢
        replace u1 := cell_of_below hq6 u1
        replace u2 := cell_of_below hq6 u2
        replace x0 := cell_of_below hq6 x0
        replace x1 := cell_of_below hq6 x1
        replace t3 := str_drew (HRX.out.below (into HB5'.out hq6))
        replace t4 := str_drew (HU3.out.below hq6)
        have HB6 := Lib.hid (into HB5.out hq6)
        clear hW6 hq6 t1 t2 y1 y2
        go_wp2_with fail
        go_quiet (fail)
        go_wp2_with fail
        all_goals (go_ret; exact ⟨rfl, into HB6.out (below_drewN _ _)⟩)
    · have HAB := Lib.hid (above_some HX2.out.g HK2.out hkl (en := e1) (by rw [← HE.out]; exact List.find?_cons_of_pos (by simpa using hek)))
      go_wp2_with fail
      refine HAB.out.mono ?_
      rintro e w3 ⟨xa, xc, rfl, hrx, hb3⟩
      obtain ⟨W4, hW4⟩ : ∃ W4 : World, W4 = w3.alloc (.cells #[.slice xa e1.1.length xc, .int .i64 e1.2] 36) := ⟨_, rfl⟩
      have hb4 : Below w2.heap.size w2 W4 := by rw [hW4]; exact into hb3 (bel_al _ _)
      have HX4 := Lib.hid (HX2.out.below hb4)
      have HK4 := Lib.hid (HK2.out.below hb4)
      have HB4 := Lib.hid (into HB2.out hb4)
      have HW4 := Lib.hid hW4
      obtain ⟨z0, z1, -⟩ := box2 HX4.out.x
      have HBX := Lib.hid (show W4.heap[w3.heap.size]? = some (.cells #[.slice xa e1.1.length xc, .int .i64 e1.2] 36 (0, 0)) by rw [hW4]; exact new0 _ _)
      have HRX := Lib.hid (hrx.below (bel_al w3 (.cells #[.slice xa e1.1.length xc, .int .i64 e1.2] 36)))
      rw [← hW4] at HRX
      clear hb3 hb4 k0 k1
      rw [hW4] at z0 z1
      clear hW4
      have HSV := Lib.hid (scan_v HX4.out.g HK4.out (rb_nil W4) hkl (by simp))
      rw [HSC.out] at HSV
      go_wp2_with fail
      rw [← HW4.out]
      refine HSV.out.mono ?_
      rintro e w5 ⟨va, m, vc, rfl, hv5, hb5⟩
      have HB5 := Lib.hid (into HB4.out hb5)
      obtain ⟨b, o, c, e9, q1, q2, q3⟩ := hv5.pos (by obtain ⟨_, h, -, -⟩ := hv5; simp at h; omega)
      simp only [Value.slice.injEq] at e9
      obtain ⟨rfl, -, rfl⟩ := e9
      obtain ⟨ya, yc, y1, y2, y3⟩ := q3 0 e1 rfl
      obtain ⟨yn, hyn⟩ : ∃ yn, yn = e1.1.length := ⟨_, rfl⟩
      rw [← hyn] at y1 y3
      have t1 := str_drew y3
      have t2 := str_drew (HK4.out.below hb5)
      have hmn : 0 < m := by obtain ⟨_, h, -, -⟩ := hv5; simp at h; omega
      have hm0 : 0 < (m : Int) := by omega
      simp only [Nat.zero_mul, Nat.add_zero] at y1 y2
      have hBX5 := (hb5.block _ (Array.getElem?_eq_some_iff.1 HBX.out).1).trans HBX.out
      obtain ⟨x0, x1, -⟩ := box2 hBX5
      obtain ⟨ek, er⟩ := e1
      simp only at *
      have t3 := str_drew (HRX.out.below hb5)
      rw [← hyn] at HRX x0
      replace t3 := str_drew (HRX.out.below hb5)
      have hekb : (ek == k) = false := beq_eq_false_iff_ne.2 hek
      have hm3 : ((m : Int) == 0) = false := by simpa using (by omega : m ≠ 0)
      clear hek
      have HB5' := Lib.hid hb5
      have HY3 := Lib.hid y3
      clear hb5 z0 z1 hv5 q3 hyn y3 hBX5
      go_wp2_with fail
      go_quiet (fail)
      obtain ⟨W6, hW6⟩ : ∃ W6, W6 = w5.drewN nq := ⟨_, rfl⟩
      have hq6 := below_drewN w5 nq
      rw [← hW6] at hq6 ⊢
      replace y1 := cell_of_below hq6 y1
      replace y2 := cell_of_below hq6 y2
      replace x0 := cell_of_below hq6 x0
      replace x1 := cell_of_below hq6 x1
      replace t3 := str_drew (HRX.out.below (into HB5'.out hq6))
      replace t1 := str_drew (HY3.out.below hq6)
      have HB6 := Lib.hid (into HB5.out hq6)
      clear hW6 hq6 t2
      go_wp2_with fail
      go_quiet (fail)
      go_wp2_with fail
      all_goals (go_ret; exact ⟨rfl, into HB6.out (below_drewN _ _)⟩)

set_option maxRecDepth 100000 in
theorem lifted (os : Os) (started : os.Started) (H : Type) (enc : TypeId × Value → H) :
    ReturnsInHanded {} Try.checked os 9 .any (Rows.treeAboveSpec.pre6 enc Try.prog Try.f9 Rows.treeAboveRow.domain false) (Rows.treeAboveSpec.post enc Try.prog Try.f9 false true false false) := by
  refine returnsInHanded_of_change_sized (C := Try.checked) Try.own started (by kernel_rfl) Try.func9
    (ChangeSpec.witness6 (enc := enc) (C := Try.checked) false ⟨#[], #[.slice none 0 0, .int .i64 0], []⟩ 8 (by kernel_rfl) (by kernel_rfl) (by kernel_rfl) (by kernel_rfl)) ?_
  intro W base args ds gs before hval0 hW hcnd hsz0 _
  have hsz : (DataW.weightsEach Try.prog (Try.f9.params.toList ++ Rows.treeAboveSpec.plain.varTypes Try.prog) (ds ++ gs)).all (· ≤ reachBytes) = true := hsz0
  have hval : ∀ (j : Nat) t v, Try.f9.params[j]? = some t → args[j]? = some v → Value.okWide Try.prog W .any base t v := hval0
  have hW' := hW
  obtain ⟨p, q, hA0, hV, rfl, hfz, hnd⟩ := hW
  have hA : DataW.TrodAll enc Try.prog W 0 (fun _ => true) true Try.f9.params.toList args.toList ds p := hA0
  rw [Try.params9] at hA hval hsz
  obtain ⟨v0, v1, d0, d1, p0, p1, rfl, rfl, rfl, h0, h1⟩ := trodAll_two hA
  obtain ⟨rfl, rfl⟩ := trodVars_none hV
  have sm0 : small Try.prog 45 d0 := fun q hq => by
    have := List.all_eq_true.1 hsz q (weights_each (j := 0) rfl rfl q hq)
    simpa using this
  obtain ⟨n0, l0, hr0, hz0, hs0⟩ := open_ints (hval 0 45 v0 rfl rfl) h0 sm0
  obtain ⟨a1, rfl, rfl, rfl, w1⟩ := open_int Try.underlying3 (hval 1 3 v1 rfl rfl) h1
  clear hA0 hval0
  refine (walk W n0 v0 l0 hr0 hz0 hs0 a1 w1).mono fun e W' ⟨he, hg⟩ => ?_
  subst he
  exact ⟨_, rfl, law_post (tb := 4) Try.laidOut (by kernel_rfl) (by kernel_rfl) Try.underlying4 rfl hW' hg rfl rfl rfl⟩

theorem proved : Rows.TreeAboveSaid :=
  OpenClaim.holds_of_wide 9 Try.f9 rfl rfl rfl rfl rfl rfl rfl ⟨rfl, rfl, rfl, rfl, rfl⟩ rfl rfl rfl rfl rfl (by kernel_rfl) Try.func9 (by kernel_rfl)
    (of_decide_eq_true (by kernel_rfl)) (by unfold Func.isWrapper; first | (rw [if_pos (by decide +kernel)]; kernel_rfl) | (rw [if_neg (by decide +kernel)]; exact ⟨rfl, rfl⟩))
    (fun os started H enc _ => lifted os started H enc)
#print axioms proved
end Go.Proofs.Ytacpeibkamfibaa.lTreeAbove
