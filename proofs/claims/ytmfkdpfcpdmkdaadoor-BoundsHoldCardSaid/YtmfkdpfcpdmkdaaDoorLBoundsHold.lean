/- A row of which an expression is true lies within its bounds: its first column's key is not below the low one, and not above the high one. The row lists the program's tables of marks, of words that are kept, of what each op works on, and of the words of kinds, constants and signs; the card ties them to the program's text. -/
import Derived.Test.YtmfkdpfcpdmkdaaDoorQzk
import Derived.Test.YtmfkdpfcpdmkdaaDoorB2k
import Derived.Test.YtmfkdpfcpdmkdaaDoorOfk
import Derived.Test.YtmfkdpfcpdmkdaaDoorOik
import Derived.Test.YtmfkdpfcpdmkdaaDoorFhk
import Derived.Test.YtmfkdpfcpdmkdaaDoorBhk
namespace Go.Proofs.YtmfkdpfcpdmkdaaDoor.lBoundsHold
open Go.ChangeShapes Go.WideShapes Go.ChangeAt Go.RowKit Go.Joins
open Go.ChangeMaps (open_string shut_string)
open Go.Proofs.YtmfkdpfcpdmkdaaDoor.tw
set_option linter.unusedVariables false
set_option linter.unusedSimpArgs false
set_option maxHeartbeats 400000

set_option maxHeartbeats 4000000
set_option maxRecDepth 100000
open Go.Proofs.YtmfkdpfcpdmkdaaDoor.bd
theorem ok_int {p : Int} (h0 : 0 ≤ p) (h1 : p < 12) : Ok ⟨2, p, ⟨#[]⟩⟩ := ⟨chk_int p, by show _ ≤ p ∧ p ≤ _; omega⟩
theorem no_ops : boundsF c4t [] = (0, [], []) := by
  have h := c4t_ok
  unfold boundsF
  simp only [List.length_nil, if_true, h]
theorem walk (W : World) (hL : Tbs W) (k n : Int) (s : ByteArray) (ao : Option Addr) (m cap : Nat) (hk : Rn k) (hn : Rn n) (hs : s.size ≤ maxLen) (ht : TwS W 3 (.slice ao m cap)) (a : Int) (wa : (Lit.int .i64 a).wf = true) (b : Int) (wb : (Lit.int .i64 b).wf = true) (u : ByteArray) (wu : u.size ≤ maxLen) (c : Int) (wc : (Lit.int .i64 c).wf = true) :
    Calls Tryd.prog 3 #[.agg #[.int .i64 k, .int .i64 n, .string s, .slice ao m cap], .int .i64 a, .int .i64 b, .string u, .int .i64 c] W fun e w' => e = .returned (.bool true) ∧ Below W.heap.size W w' := by
  have HEV : Hid (∀ (w : World) (n m j : Nat) (v y x : Value) (l : List Cq) (r : List V) (ops : List Oq) (q : Int) (g : V), Below W.heap.size W w → Rd w 2 n v (ccs l) → (∀ c ∈ l, c.t.size ≤ 8) → Rd w 3 m y (vc r) → Rd w 5 j x (ocs ops) → (∀ o ∈ ops, Sml o) → evalF l r ops = (q, g) → Calls Tryd.prog 11 #[v, y, x] w fun e w' => e = .returned (.tuple #[.agg #[.int .i64 g.k, .int .i64 g.n, .string g.t], .int .i64 q]) ∧ Below w.heap.size w w') := fun w n m j v y x l r ops q g hB hr hc hy hx ho hq => by
    have h := eval_any w (hL.below hB) n m j v y x l r ops hr (small4 hc) hy hx (sml_max ho)
    rw [hq] at h
    exact h
  have HBD : Hid (∀ (w : World) (n m : Nat) (v x : Value) (l : List Cq) (ops : List Oq) (r : Int × List UInt8 × List UInt8), Below W.heap.size W w → Rd w 2 n v (ccs l) → (∀ c ∈ l, c.t.size ≤ 8) → Rd w 5 m x (ocs ops) → (∀ o ∈ ops, Sml o) → boundsF l ops = r → Calls Tryd.prog 9 #[v, x] w (BoundsIs r w)) := fun w n m v x l ops r hB hr hc hx ho hq => by
    have h := bounds_any w (hL.below hB) n m v x l ops hr (small4 hc) hx (sml_max ho) (fun o h => (ho o h).2.2)
    rw [hq] at h
    exact h
  have HCO := Lib.hid colsOf_any
  have HRO := Lib.hid (fun w => rowOf_rng w a b c u (rn_of wa) (rn_of wb) (rn_of wc) wu)
  have HO := Lib.hid (fun (w : World) (hb : Below W.heap.size W w) => ops_any3 w k n s ao m cap hk hn hs (ht.below hb))
  clear hk hn hs ht wa wb wc wu hL
  obtain ⟨W0, hW0⟩ : ∃ W0 : World, W0 = W.alloc (.cells #[.int .i64 k, .int .i64 n, .string s, .slice ao m cap] 24) := ⟨_, rfl⟩
  have HB0 : Hid (Below W.heap.size W W0) := Lib.hid (by rw [hW0]; go_grown)
  have hz0 : W.heap.size < W0.heap.size := by rw [hW0]; simp
  have HX : Hid (W0.cell? ⟨W.heap.size, 0, none⟩ = some (.int .i64 k) ∧ W0.cell? ⟨W.heap.size, 1, none⟩ = some (.int .i64 n) ∧ W0.cell? ⟨W.heap.size, 2, none⟩ = some (.string s) ∧ W0.cell? ⟨W.heap.size, 3, none⟩ = some (.slice ao m cap)) := Lib.hid (by rw [hW0]; refine ⟨?_, ?_, ?_, ?_⟩ <;> go_simp)
  have HW0 := Lib.hid hW0
  clear hW0
  go_enter Tryd.func3, Tryd.ntmps3
  go_wp2_with fail
  rw [← HW0.out]
  clear HW0
  refine (HRO.out _).mono ?_
  rintro e w' ⟨w1, p, z, tk, tn, t, rfl, rfl, hb1, ht, hor, hp0, hp1, -, -⟩
  have HR := Lib.hid (f_row p z tk tn t ht hor)
  have HOK := Lib.hid (ok_int hp0 hp1)
  obtain ⟨wa, hwa⟩ : ∃ wa, wa = w1.alloc (.cells (rowC p z tk tn t) 36) := ⟨_, rfl⟩
  have HRW : Hid (wa.heap[w1.heap.size]? = some (.cells (rowC p z tk tn t) 36 (0, 0))) := Lib.hid (by rw [hwa]; exact new0 w1 _)
  have hza : w1.heap.size < wa.heap.size := by rw [hwa]; simp
  have HBA : Hid (Below W0.heap.size W0 wa) := Lib.hid (by rw [hwa]; exact hb1.alloc hb1.size _)
  rw [← hwa]
  clear hwa hb1 ht hor hp0 hp1
  have HWA := Lib.hid (into HB0.out HBA.out)
  have hzb := HBA.out.size
  obtain ⟨x0, x1, x2, x3⟩ := HX.out
  have x0 := cell_blz HBA.out x0
  have x1 := cell_blz HBA.out x1
  have x2 := cell_blz HBA.out x2
  have x3 := cell_blz HBA.out x3
  go_wp2_with fail
  refine (HO.out wa HWA.out).mono ?_
  rintro e w2 ⟨v2, ops, rfl, hw2, hl2, hown2, hb2⟩
  have hex := whl_expr' hw2 (by omega)
  have HT := Lib.hid (within_bounds (r := r4 p z tk tn t) HR.out HOK.out hex hw2.2.2)
  have HXR := Lib.hid (Rd.own hown2)
  have HSM := Lib.hid hw2.2.2
  have HB2 := Lib.hid hb2
  have hz2 := HB2.out.size
  have HW2 := Lib.hid (into HWA.out HB2.out)
  have HEX := Lib.hid (expr_told hex hw2.2.2 HR.out)
  clear hw2 hl2 hown2 hb2 hex x0 x1 x2 x3
  obtain ⟨⟨q, lo, hi⟩, hq⟩ : ∃ x, boundsF c4t ops = x := ⟨_, rfl⟩
  obtain ⟨⟨f, g⟩, hf⟩ : ∃ x, evalF c4t (r4 p z tk tn t) ops = x := ⟨_, rfl⟩
  rw [hq, hf] at HT
  have HQ := Lib.hid hq
  have HF := Lib.hid hf
  clear hq hf HEX
  go_wp2_with (go_at_call 10; ((with_reducible refine (HCO.out _).mono ?_); rintro e w' ⟨rfl, rfl⟩))
  refine (HBD.out _ 4 ops.length _ _ c4t ops (q, lo, hi) (HW2.out.alloc HW2.out.size _) (rd_c4 w2 _ _ _ _ _ _ _ _ _ rfl) (by decide) (rd_alloc HXR.out _) HSM.out HQ.out).mono ?_
  rintro e w3 ⟨⟨xa, xn, xc⟩, ⟨ya, yn, yc⟩, rfl, hx3, hy3, hb3⟩
  have HB3 : Hid (Below w2.heap.size w2 w3) := Lib.hid (into ((Below.refl _ _).alloc (Nat.le_refl _) _) hb3)
  have hz3 := HB3.out.size
  have HX3 := Lib.hid (And.intro hx3 hy3)
  have HW3 := Lib.hid (into HW2.out HB3.out)
  clear hb3 hx3 hy3
  go_wp2_with (go_at_call 10; ((with_reducible refine (HCO.out _).mono ?_); rintro e w' ⟨rfl, rfl⟩))
  refine (HEV.out _ 4 4 ops.length _ _ _ c4t (r4 p z tk tn t) ops f g (HW3.out.alloc HW3.out.size _) (rd_c4 w3 _ _ _ _ _ _ _ _ _ rfl) (by decide) (rd_alloc ((rd_r4 HRW.out).below (into HB2.out HB3.out)) _) (rd_alloc (HXR.out.below HB3.out) _) HSM.out HF.out).mono ?_
  rintro e w4 ⟨rfl, hb4⟩
  have HB4 : Hid (Below w3.heap.size w3 w4) := Lib.hid (into ((Below.refl _ _).alloc (Nat.le_refl _) _) hb4)
  have hz4 := HB4.out.size
  have HRD4 : Hid (Rd (w4.alloc (.cells #[.int .i64 g.k, .int .i64 g.n, .string g.t] 36)) 3 1 (.slice (some ⟨w1.heap.size, 0, none⟩) 1 4) (vc [⟨2, p, ⟨#[]⟩⟩])) := Lib.hid (by
    have h := ((rd_alloc ((rd_r4 HRW.out).below (into (into HB2.out HB3.out) HB4.out)) (.cells #[.int .i64 g.k, .int .i64 g.n, .string g.t] 36)).take 1 (by omega))
    exact h)
  have HW4 := Lib.hid (into HW3.out HB4.out)
  have HEN := Lib.hid (enc_one HOK.out)
  clear hb4
  go_wp2_with fail
  have h5 := cd.enc_any 1 _ [⟨2, p, ⟨#[]⟩⟩] _ (fun v h => by rw [List.mem_singleton.1 h]; exact HOK.out.2) HRD4.out
  rw [HEN.out] at h5
  refine h5.mono ?_
  clear h5
  rintro e w5 ⟨v5, rfl, hown5, hb5⟩
  obtain ⟨⟨ka, kn, kc⟩, rfl, hk5⟩ := Rt.own hown5
  have HB5 : Hid (Below w4.heap.size w4 w5) := Lib.hid (into ((Below.refl _ _).alloc (Nat.le_refl _) _) hb5)
  have HG5 : Hid (w5.heap[w4.heap.size]? = some (.cells #[.int .i64 g.k, .int .i64 g.n, .string g.t] 36 (0, 0))) := Lib.hid ((hb5.block w4.heap.size (by simp)).trans (new0 w4 _))
  have hz5 : w4.heap.size < w5.heap.size := by have := hb5.size; simp at this; omega
  have HK5 := Lib.hid hk5
  have HW5 := Lib.hid (into HW4.out HB5.out)
  clear hown5 hb5 hk5
  have HNO : Hid (boundsF c4t [] = (0, [], [])) := Lib.hid no_ops
  go_wp2_with (go_at_call 10; ((with_reducible refine (HCO.out _).mono ?_); rintro e w' ⟨rfl, rfl⟩))
  refine (HBD.out _ 4 0 _ _ c4t [] _ (HW5.out.alloc HW5.out.size _) (rd_c4 w5 _ _ _ _ _ _ _ _ _ rfl) (by decide) (Rd.nil _ _) (by simp) HNO.out).mono ?_
  rintro e w6 ⟨⟨ea, en, ec⟩, ⟨da, dn, dc⟩, rfl, hx6, hy6, hb6⟩
  have HB6 : Hid (Below w5.heap.size w5 w6) := Lib.hid (into ((Below.refl _ _).alloc (Nat.le_refl _) _) hb6)
  obtain rfl : en = 0 := hx6.len.1
  obtain rfl : dn = 0 := hy6.len.1
  have HW6 := Lib.hid (into HW5.out HB6.out)
  have HKK := Lib.hid (HK5.out.below HB6.out)
  have HXX := Lib.hid (HX3.out.1.below (into (into HB4.out HB5.out) HB6.out))
  have HYY := Lib.hid (HX3.out.2.below (into (into HB4.out HB5.out) HB6.out))
  obtain ⟨y0, y1, y2, -, -, -⟩ := box3 ((HB6.out.block w4.heap.size hz5).trans HG5.out)
  have hkn : kn = (encs [⟨2, p, ⟨#[]⟩⟩]).length := HKK.out.len.1
  have hkl : 0 < kn := by rw [hkn]; simp [encs, enc1]
  have hkn0 : ((kn : Int) == 0) = false := by simp; omega
  clear hb6 hx6 hy6 hkn
  by_cases hbad : q ≠ 0 ∨ f ≠ 0 ∨ ¬ (g.k = 1 ∧ g.n = 1 ∧ g.t = ⟨#[]⟩)
  · have hq04 := HT.out.1
    obtain ⟨gk, gn, gt⟩ := g
    simp only at hbad hq04
    clear HT
    by_cases h1 : q = 0
    · subst h1
      by_cases h2 : f = 0
      · subst h2
        have h3 : ¬ (gk = 1 ∧ gn = 1 ∧ gt = ⟨#[]⟩) := by
          rcases hbad with h | h | h
          · exact absurd rfl h
          · exact absurd rfl h
          · exact h
        clear hbad hq04
        by_cases a1 : gk = 1
        · by_cases a2 : gn = 1
          · have a3 : ¬ gt = ⟨#[]⟩ := fun h => h3 ⟨a1, a2, h⟩
            have a4 : ¬ gt.toList = [] := fun h => a3 (empty_of h)
            have a5 : gt.toList.isEmpty = false := by simpa using a4
            subst a1 a2
            clear h3 a3
            go_wp2_with fail
            all_goals (first | (go_ret; exact ⟨rfl, HW6.out⟩) | (exfalso; simp_all; done))
          · subst a1
            clear h3
            go_wp2_with fail
            all_goals (go_ret; exact ⟨rfl, HW6.out⟩)
        · clear h3
          go_wp2_with fail
          all_goals (go_ret; exact ⟨rfl, HW6.out⟩)
      · have e2 : (f != 0) = true := by simpa using h2
        clear hbad hq04 h2
        go_wp2_with fail
        all_goals (go_ret; exact ⟨rfl, HW6.out⟩)
    · have h4 : q = 4 := by
        rcases hq04 with h | h
        · exact absurd h h1
        · exact h
      subst h4
      clear hbad hq04 h1
      go_wp2_with fail
      all_goals (go_ret; exact ⟨rfl, HW6.out⟩)
  · have h1 : q = 0 := by omega
    have h2 : f = 0 := by omega
    have h3 : g.k = 1 ∧ g.n = 1 ∧ g.t = ⟨#[]⟩ := by
      by_cases h : g.k = 1 ∧ g.n = 1 ∧ g.t = ⟨#[]⟩
      · exact h
      · exact absurd (.inr (.inr h)) hbad
    obtain ⟨gk, gn, gt⟩ := g
    obtain ⟨h3, h4, h5⟩ := h3
    simp only at h3 h4 h5
    subst h1 h2 h3 h4 h5
    have hwi := HT.out.2 rfl rfl
    obtain ⟨ks, hks⟩ : ∃ ks : ByteArray, ks = ⟨(encs [⟨2, p, ⟨#[]⟩⟩]).toArray⟩ := ⟨_, rfl⟩
    obtain ⟨ls, hls⟩ : ∃ ks : ByteArray, ks = ⟨lo.toArray⟩ := ⟨_, rfl⟩
    obtain ⟨hs, hhs⟩ : ∃ ks : ByteArray, ks = ⟨hi.toArray⟩ := ⟨_, rfl⟩
    have tl : ∀ l : List UInt8, (⟨l.toArray⟩ : ByteArray).toList = l := fun l => by rw [list_of]
    have c1 := str_of HKK.out.1
    have c2 := str_of HXX.out.1
    have c3 := str_of HYY.out.1
    rw [← hks] at c1
    rw [← hls] at c2
    rw [← hhs] at c3
    have e1 : Op.bytesLess ks.toList ls.toList = false := by rw [hks, hls, tl, tl]; exact hwi.1
    have hyn : yn = hi.length := HYY.out.len.1
    by_cases hy0 : yn = 0
    · have z0 : ((yn : Int) == 0) = true := by simp [hy0]
      clear hy0 hyn hwi tl hks hls hhs hbad c3
      go_wp2_with fail
      go_ret
      exact ⟨rfl, HW6.out⟩
    · have z0 : ((yn : Int) == 0) = false := by simpa using hy0
      have e2 : Op.bytesLess ks.toList hs.toList = true ∨ (Op.bytesLess ks.toList hs.toList = false ∧ (ks.toList == hs.toList) = true) := by
        have h9 : Op.bytesLess hs.toList ks.toList = false := by
          rw [hks, hhs, tl, tl]
          rcases hwi.2 with h | h
          · exfalso; apply hy0; rw [hyn]; have h : hi = [] := h; rw [h]; rfl
          · exact h
        by_cases h10 : Op.bytesLess ks.toList hs.toList = true
        · exact .inl h10
        · have h10 : Op.bytesLess ks.toList hs.toList = false := by simpa using h10
          refine .inr ⟨h10, ?_⟩
          have : ks = hs := same_of (bl_tri _ _ h10 h9)
          rw [this]
          exact beq_self_eq_true _
      clear hy0 hyn hwi tl hks hls hhs hbad
      rcases e2 with e2 | ⟨e2, e3⟩
      all_goals (
        go_wp2_with fail
        go_ret
        exact ⟨rfl, HW6.out⟩)

set_option maxRecDepth 100000 in
theorem lifted (os : Os) (started : os.Started) (H : Type) (enc : TypeId × Value → H) :
    ReturnsInHanded {} Tryd.checked os 3 .any (fun w args => (Rows.boundsHoldSpec.pre enc Tryd.prog Tryd.f3 [] false w args ∧ laidX w) ∧ sizedMet enc Tryd.prog Tryd.f3 (OpenSpec.ofChange Rows.boundsHoldSpec) false w args) (Rows.boundsHoldSpec.post enc Tryd.prog Tryd.f3 false true false false) := by
  refine returnsInHanded_of_change_and (C := Tryd.checked) (X := fun w _ => laidX w) (fun _ _ _ hh h => h.of_heap hh) Tryd.own started (by kernel_rfl) Tryd.func3
    (ChangeSpec.witness_at (enc := enc) (C := Tryd.checked) (os := os) (X := fun w _ => laidX w) false (tabledX os) #[.agg #[.int .i64 0, .int .i64 0, .string ⟨#[]⟩, .slice none 0 0], .int .i64 0, .int .i64 0, .string ⟨#[]⟩, .int .i64 0] 8 rfl (by kernel_rfl) (by kernel_rfl) (by kernel_rfl) (by kernel_rfl) (by kernel_rfl) (tabledX_laidX os _)) ?_
  intro W base args ds gs before hval0 hW hcnd hsz0 hL _
  have hsz : (DataW.weightsEach Tryd.prog (Tryd.f3.params.toList ++ Rows.boundsHoldSpec.plain.varTypes Tryd.prog) (ds ++ gs)).all (· ≤ reachBytes) = true := hsz0
  have hval : ∀ (j : Nat) t v, Tryd.f3.params[j]? = some t → args[j]? = some v → Value.okWide Tryd.prog W .any base t v := hval0
  have hW' := hW
  obtain ⟨p, q, hA0, hV, rfl, hfz, hnd⟩ := hW
  have hA : DataW.TrodAll enc Tryd.prog W 0 (fun _ => true) true Tryd.f3.params.toList args.toList ds p := hA0
  rw [Tryd.params3] at hA hval hsz
  obtain ⟨v0, v1, v2, v3, v4, d0, d1, d2, d3, d4, p0, p1, p2, p3, p4, rfl, rfl, rfl, h0, h1, h2, h3, h4⟩ := trodAll_five hA
  obtain ⟨rfl, rfl⟩ := trodVars_none hV
  have sm0 : small Tryd.prog 24 d0 := fun q hq => by
    have := List.all_eq_true.1 hsz q (weights_each (j := 0) rfl rfl q hq)
    simpa using this
  obtain ⟨k0, n0, s0, o0, m0, c0, rfl, wk0, wn0, ws0, wt0⟩ := open_twig (hval 0 24 v0 rfl rfl) h0 sm0
  obtain ⟨a1, rfl, rfl, rfl, w1⟩ := open_int Tryd.underlying3 (hval 1 3 v1 rfl rfl) h1
  obtain ⟨a2, rfl, rfl, rfl, w2⟩ := open_int Tryd.underlying3 (hval 2 3 v2 rfl rfl) h2
  obtain ⟨t3, rfl, rfl, rfl, ws3⟩ := open_string Tryd.underlying9 (hval 3 9 v3 rfl rfl) h3
  obtain ⟨a4, rfl, rfl, rfl, w4⟩ := open_int Tryd.underlying3 (hval 4 3 v4 rfl rfl) h4
  clear hA0 hval0
  refine (walk W (X_of hL) k0 n0 s0 o0 m0 c0 wk0 wn0 ws0 wt0 a1 w1 a2 w2 t3 ws3 a4 w4).mono fun e W' ⟨he, hg⟩ => ?_
  subst he
  exact ⟨_, rfl, law_post (tb := 4) Tryd.laidOut (by kernel_rfl) (by kernel_rfl) Tryd.underlying4 rfl hW' hg rfl rfl rfl⟩

theorem bare : Rows.BoundsHoldSaid :=
  OpenClaim.holds_of_wide 3 Tryd.f3 rfl rfl rfl rfl rfl rfl rfl ⟨rfl, rfl, rfl, rfl, rfl⟩ rfl rfl rfl rfl rfl (by kernel_rfl) Tryd.func3 (by kernel_rfl)
    (of_decide_eq_true (by kernel_rfl)) (by unfold Func.isWrapper; first | (rw [if_pos (by decide +kernel)]; kernel_rfl) | (rw [if_neg (by decide +kernel)]; exact ⟨rfl, rfl⟩))
    (fun os started H enc _ => lifted os started H enc)
/-- The card: the row's one listed variable is tied to the program's text. -/
theorem proved : Rows.BoundsHoldCardSaid :=
  Claim7.holds_tied_plain_at .later [] [.data, .data, .data, .data, .data, .data] true _ false bare (fun _ h => by cases h) (by kernel_rfl) (fun _ h => by cases h) boundsHold_row_tie rfl ⟨rfl, rfl⟩ (by kernel_rfl) rfl
    (fun f fn hf hfn => by
      obtain rfl : f = 3 := Option.some.inj ((show Tryd.prog.funcNamed "padlock/padlockkeep.BoundsHold" = some 3 by kernel_rfl).symm.trans hf) |>.symm
      obtain rfl : fn = Tryd.f3 := (Option.some.inj (Tryd.func3.symm.trans hfn)).symm
      refine ⟨by kernel_rfl, fun j t ht => ?_⟩
      rw [Tryd.params3] at ht
      rcases j with _ | _ | _ | _ | _ | j <;> simp at ht <;> subst ht <;> kernel_rfl)
    (by kernel_rfl)
#print axioms proved
end Go.Proofs.YtmfkdpfcpdmkdaaDoor.lBoundsHold
