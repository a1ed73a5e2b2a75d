import Derived.Test.YtdeollmeljaaoaaDoorBzk
set_option linter.unusedVariables false
set_option linter.unusedSimpArgs false
set_option maxHeartbeats 8000000
set_option maxRecDepth 100000
open Go.ChangeAt Go.ChangeShapes Go.Joins Go.RowKit Go.WideShapes
open Go.Lib (hid)
namespace Go.Proofs.YtdeollmeljaaoaaDoor.rd
open Go.Proofs.YtdeollmeljaaoaaDoor.cs Go.Proofs.YtdeollmeljaaoaaDoor.tw
theorem tb_nm {j : Nat} (h : j < 2) : nmF (tbN j).data.toList = 0 := by
 match j, h with
 | 0, _ => decide
 | 1, _ => decide
theorem fin_ok {f : Ph} {P S E : Nat} {s : Sq} {p : Ps} {w w8 w9 : World} {T : TypeId} {a : Act} (h : Sv f P S (P + 1) E s p w w8) (h9 : Below (P + 1) w8 w9 ∧ w9.heap[P + 1]? = some (.cells (stC s p) T (0, 0)) ∧ ∀ k, k ≠ P + 1 → w9.heap[k]? = w8.heap[k]?) (hok : st0 s = 0 ∧ SqZ s ∧ s.lim ≤ 9223372036854775807) (ht : a.tmps[2]?.getD undef = .pointer (some ⟨P + 1, 0, none⟩)) (hd : a.defers = []) : bodyPost Tryd.prog Tryd.f9 (StmtIs w) .ret a w9 := by
 obtain ⟨v0, v1, v2, v3, v4, v5, v6, v7, v8, v9, v10, v11, -⟩ := box12 h9.2.1
 refine bodyPost_ret (v := stV s p) (by simp [results, Tryd.results9, go_sem, ht, v0, v1, v2, v3, v4, v5, v6, v7, v8, v9, v10, v11]; try rfl) hd ?_
 have hE : P + 1 < E ∨ E ≤ P + 1 := by omega
 refine ⟨s, p, rfl, (h.ow.box (A := P + 1) h.rs h9.2.2).rd, hok.1, hok.2.1, hok.2.2, h.hb.trans (h9.1.mono h.wf.1.2.2)⟩
theorem few_z {s : Sq} (h : st0 s = 0) (hr : ∀ v ∈ s.row, VB v) (hw : OB s.wh) (hx : OB s.to) (hl : s.lim ≤ 9223372036854775807) : st0 s = 0 ∧ SqZ s ∧ s.lim ≤ 9223372036854775807 := ⟨h, (few_of h).z hr hw hx, hl⟩
theorem ob_nil : OB [] := fun o ho => by simp at ho
theorem vb_nil : ∀ v ∈ ([] : List V), VB v := fun v hv => by simp at hv
theorem stmt1 (w : World) (f : Ph) (hf : PhR w f) (hc : pck f.kd 6 = 0) : Calls Tryd.prog 9 #[phV f] w (StmtIs w) := by
 have HF := hid hf
 have HP : Hid (∀ (x m : Int) (W : World), Rn x → 1 ≤ m → m ≤ 12 → Calls Tryd.prog 14 #[.int .i64 x, .int .i64 m] W fun e w' => e = .returned (.int .i64 (pck x m)) ∧ W = w') := fun x m W h h1 h2 => pck_any x m W h h1 (by omega)
 have HPK : Hid (∀ W, Calls Tryd.prog 14 #[.int .i64 f.kd, .int .i64 6] W fun e w' => e = .returned (.int .i64 0) ∧ W = w') := fun W => by
  have := HP.out f.kd 6 W HF.out.kd (by omega) (by omega)
  rwa [hc] at this
 have hj := pck_in f.tb 2 (by omega)
 obtain ⟨j, hjj⟩ : ∃ j : Nat, (j : Int) = pck f.tb 2 := ⟨(pck f.tb 2).toNat, by omega⟩
 have HPT : Hid (∀ W, Calls Tryd.prog 14 #[.int .i64 f.tb, .int .i64 2] W fun e w' => e = .returned (.int .i64 (j : Int)) ∧ W = w') := fun W => by
  have := HP.out f.tb 2 W HF.out.tb (by omega) (by omega)
  rwa [← hjj] at this
 have HJ : Hid (j < 2) := by show _ < _; omega
 have HTB : Hid (nmF (tbN j).data.toList = 0) := tb_nm HJ.out
 have HW0 : Hid (∀ W, W = (w.alloc (.cells (phC f) 27)).alloc (.cells (stC ⟨0, ⟨#[]⟩, [], [], [], false, [], ⟨#[]⟩, false, 0, ⟨#[]⟩, []⟩ ps0) 33) → Below w.heap.size w W ∧ W.heap[w.heap.size]? = some (.cells (phC f) 27 (0, 0)) ∧ W.heap[w.heap.size + 1]? = some (.cells (stC ⟨0, ⟨#[]⟩, [], [], [], false, [], ⟨#[]⟩, false, 0, ⟨#[]⟩, []⟩ ps0) 33 (0, 0)) ∧ W.heap.size = w.heap.size + 1 + 1) := fun W h => by
  rw [h]
  exact ⟨((Below.refl _ _).alloc (Nat.le_refl _) _).alloc (by simp) _, (Below.heap_alloc _ _ _ (by simp)).trans (new0 _ _), new1 _ _ _, by simp⟩
 clear hf hc hj hjj
 go_enter Tryd.func9, Tryd.ntmps9
 go_upto_region 1 with (fail)
 refine code_nm (fun w1 hW => ?_)
 obtain ⟨hb1, hp1, hr1, hz1⟩ := HW0.out w1 hW
 obtain ⟨P, hP⟩ : ∃ P, P = w.heap.size := ⟨_, rfl⟩
 have HPL : Hid (w.heap.size ≤ P) := by show _ ≤ _; omega
 rw [← hP] at hp1 hr1 hz1 ⊢
 have HB1 := hid (And.intro hb1 (And.intro hr1 (And.intro hz1 HPL.out)))
 have HPW : Hid (Pw f P w1 w1) := ⟨hp1, Below.refl _ _⟩
 clear hW hb1 hp1 hr1 hz1 hP HW0
 change Code.wp _ ((regionOf 1 (Tryd.f9.body.getD .skip)).getD .skip) _ _ _
 refine sreg1 _ f P j 0 w1 HPW (hid ⟨by omega, HJ.out⟩) HPK HPT (hid fun u4 u5 u6 u7 u8 u9 u10 u11 u12 u13 u14 S w2 hp hs hS => ?_)
 have HSV : Hid (Sv f P S (P + 1) w2.heap.size ⟨1, tbN j, [], [], [], false, [], ⟨#[]⟩, false, -1, ⟨#[]⟩, []⟩ ⟨none, 0, 0, none, 0, 0, none, 0, 0, none, 0, 0, none, 0, 0⟩ w w2) := by
  obtain ⟨g1, g2, g3, g4⟩ := HB1.out
  have hl := blk_lt hs
  have hz := hp.2.size
  exact ⟨hp.1, hs, (hp.2.block _ (blk_lt g2)).trans g2, StO.nil, g1.trans (hp.2.mono (by omega)), ⟨by omega, by omega, by omega⟩, ⟨by omega, by omega, by omega⟩, hl, by omega, Nat.le_refl _⟩
 obtain ⟨E, hE⟩ : ∃ E, E = w2.heap.size := ⟨_, rfl⟩
 rw [← hE] at HSV
 have HFW : Hid (∀ W, Below w.heap.size w W → PhR W f) := fun W h => HF.out.below h
 clear hp hs hS hE HB1 HPW HPK HPT HPL HF
 obtain ⟨x0, x1, x2, x3, x4, x5, x6, x7, x8, x9, x10, x11, f0, f1, f2, f3, f4, f5, f6, f7, f8, f9, f10, f11⟩ := box12 HSV.out.bx
 obtain ⟨y0, y1, y2, y3, y4, y5, y6, y7, y8, y9, y10, y11, y12, y13⟩ := box14 HSV.out.ph
 (try dsimp only at x0 x1 x2 x3 x4 x5 x6 x7 x8 x9 x10 x11)
 go_wp2_with fail
 refine (colsOf_any _).mono ?_
 rintro e w3 ⟨a, c, rfl, ho, hb⟩
 have HS3 := hid (HSV.out.go hb)
 have HO3 := hid (own_mono ho HSV.out.wf.2.2.2.2)
 clear ho hb HSV x0 x1 x2 x3 x4 x5 x6 x7 x8 x9 x10 x11 f0 f1 f2 f3 f4 f5 f6 f7 f8 f9 f10 f11 y0 y1 y2 y3 y4 y5 y6 y7 y8 y9 y10 y11 y12 y13
 obtain ⟨x0, x1, x2, x3, x4, x5, x6, x7, x8, x9, x10, x11, f0, f1, f2, f3, f4, f5, f6, f7, f8, f9, f10, f11⟩ := box12 HS3.out.bx
 obtain ⟨y0, y1, y2, y3, y4, y5, y6, y7, y8, y9, y10, y11, y12, y13⟩ := box14 HS3.out.ph
 (try dsimp only at x0 x1 x2 x3 x4 x5 x6 x7 x8 x9 x10 x11)
 go_upto_region 19 with (fail)
 refine code_nm (fun w4 hW => ?_)
 have HS4 : Hid (Sv f P S (P + 1) E ⟨1, tbN j, stdC, [], [], false, [], ⟨#[]⟩, false, -1, ⟨#[]⟩, []⟩ ⟨a, 4, c, none, 0, 0, none, 0, 0, none, 0, 0, none, 0, 0⟩ w w4) := by
  rw [hW]
  exact HS3.out.put (s' := ⟨1, tbN j, stdC, [], [], false, [], ⟨#[]⟩, false, -1, ⟨#[]⟩, []⟩) (p' := ⟨a, 4, c, none, 0, 0, none, 0, 0, none, 0, 0, none, 0, 0⟩) 2 (.slice a 4 c) rfl ⟨HO3.out, own_nil _ _, own_nil _ _, own_nil _ _, own_nil _ _⟩
 clear hW HS3 HO3 x0 x1 x2 x3 x4 x5 x6 x7 x8 x9 x10 x11 f0 f1 f2 f3 f4 f5 f6 f7 f8 f9 f10 f11 y0 y1 y2 y3 y4 y5 y6 y7 y8 y9 y10 y11 y12 y13
 obtain ⟨x0, x1, x2, x3, x4, x5, x6, x7, x8, x9, x10, x11, f0, f1, f2, f3, f4, f5, f6, f7, f8, f9, f10, f11⟩ := box12 HS4.out.bx
 obtain ⟨y0, y1, y2, y3, y4, y5, y6, y7, y8, y9, y10, y11, y12, y13⟩ := box14 HS4.out.ph
 (try dsimp only at x0 x1 x2 x3 x4 x5 x6 x7 x8 x9 x10 x11)
 obtain ⟨z0, z1, z2, z3, z4, z5, z6, z7, z8, z9, z10, z11, g0, g1, g2, g3, g4, g5, g6, g7, g8, g9, g10, g11⟩ := box12 HS4.out.rs
 (try dsimp only at z0 z1 z2 z3 z4 z5 z6 z7 z8 z9 z10 z11)
 go_wp2_with fail
 refine body_nm (fun w9 hW => ?_)
 have h9 := st12b HS4.out.rs _ _ _ _ _ _ _ _ _ _ _ _ hW
 have HE := hid h9
 clear hW h9 z0 z1 z2 z3 z4 z5 z6 z7 z8 z9 z10 z11 g0 g1 g2 g3 g4 g5 g6 g7 g8 g9 g10 g11 x0 x1 x2 x3 x4 x5 x6 x7 x8 x9 x10 x11 f0 f1 f2 f3 f4 f5 f6 f7 f8 f9 f10 f11 y0 y1 y2 y3 y4 y5 y6 y7 y8 y9 y10 y11 y12 y13
 exact fin_ok HS4 HE.out (few_z (st0_of (show (1 : Int) ≤ 1 by decide) (show (1 : Int) ≤ 9 by decide) HTB.out (show colsF stdC = 0 by decide +kernel) (by unfold moreF; simp [em0])) vb_nil ob_nil ob_nil (show (-1 : Int) ≤ 9223372036854775807 by decide)) rfl rfl
theorem stmt2 (w : World) (f : Ph) (hf : PhR w f) (hc : pck f.kd 6 = 1) : Calls Tryd.prog 9 #[phV f] w (StmtIs w) := by
 have HF := hid hf
 have HP : Hid (∀ (x m : Int) (W : World), Rn x → 1 ≤ m → m ≤ 12 → Calls Tryd.prog 14 #[.int .i64 x, .int .i64 m] W fun e w' => e = .returned (.int .i64 (pck x m)) ∧ W = w') := fun x m W h h1 h2 => pck_any x m W h h1 (by omega)
 have HPK : Hid (∀ W, Calls Tryd.prog 14 #[.int .i64 f.kd, .int .i64 6] W fun e w' => e = .returned (.int .i64 1) ∧ W = w') := fun W => by
  have := HP.out f.kd 6 W HF.out.kd (by omega) (by omega)
  rwa [hc] at this
 have hj := pck_in f.tb 2 (by omega)
 obtain ⟨j, hjj⟩ : ∃ j : Nat, (j : Int) = pck f.tb 2 := ⟨(pck f.tb 2).toNat, by omega⟩
 have HPT : Hid (∀ W, Calls Tryd.prog 14 #[.int .i64 f.tb, .int .i64 2] W fun e w' => e = .returned (.int .i64 (j : Int)) ∧ W = w') := fun W => by
  have := HP.out f.tb 2 W HF.out.tb (by omega) (by omega)
  rwa [← hjj] at this
 have HJ : Hid (j < 2) := by show _ < _; omega
 have HTB : Hid (nmF (tbN j).data.toList = 0) := tb_nm HJ.out
 have HW0 : Hid (∀ W, W = (w.alloc (.cells (phC f) 27)).alloc (.cells (stC ⟨0, ⟨#[]⟩, [], [], [], false, [], ⟨#[]⟩, false, 0, ⟨#[]⟩, []⟩ ps0) 33) → Below w.heap.size w W ∧ W.heap[w.heap.size]? = some (.cells (phC f) 27 (0, 0)) ∧ W.heap[w.heap.size + 1]? = some (.cells (stC ⟨0, ⟨#[]⟩, [], [], [], false, [], ⟨#[]⟩, false, 0, ⟨#[]⟩, []⟩ ps0) 33 (0, 0)) ∧ W.heap.size = w.heap.size + 1 + 1) := fun W h => by
  rw [h]
  exact ⟨((Below.refl _ _).alloc (Nat.le_refl _) _).alloc (by simp) _, (Below.heap_alloc _ _ _ (by simp)).trans (new0 _ _), new1 _ _ _, by simp⟩
 clear hf hc hj hjj
 go_enter Tryd.func9, Tryd.ntmps9
 go_upto_region 1 with (fail)
 refine code_nm (fun w1 hW => ?_)
 obtain ⟨hb1, hp1, hr1, hz1⟩ := HW0.out w1 hW
 obtain ⟨P, hP⟩ : ∃ P, P = w.heap.size := ⟨_, rfl⟩
 have HPL : Hid (w.heap.size ≤ P) := by show _ ≤ _; omega
 rw [← hP] at hp1 hr1 hz1 ⊢
 have HB1 := hid (And.intro hb1 (And.intro hr1 (And.intro hz1 HPL.out)))
 have HPW : Hid (Pw f P w1 w1) := ⟨hp1, Below.refl _ _⟩
 clear hW hb1 hp1 hr1 hz1 hP HW0
 change Code.wp _ ((regionOf 1 (Tryd.f9.body.getD .skip)).getD .skip) _ _ _
 refine sreg1 _ f P j 1 w1 HPW (hid ⟨by omega, HJ.out⟩) HPK HPT (hid fun u4 u5 u6 u7 u8 u9 u10 u11 u12 u13 u14 S w2 hp hs hS => ?_)
 have HSV : Hid (Sv f P S (P + 1) w2.heap.size ⟨2, tbN j, [], [], [], false, [], ⟨#[]⟩, false, -1, ⟨#[]⟩, []⟩ ⟨none, 0, 0, none, 0, 0, none, 0, 0, none, 0, 0, none, 0, 0⟩ w w2) := by
  obtain ⟨g1, g2, g3, g4⟩ := HB1.out
  have hl := blk_lt hs
  have hz := hp.2.size
  exact ⟨hp.1, hs, (hp.2.block _ (blk_lt g2)).trans g2, StO.nil, g1.trans (hp.2.mono (by omega)), ⟨by omega, by omega, by omega⟩, ⟨by omega, by omega, by omega⟩, hl, by omega, Nat.le_refl _⟩
 obtain ⟨E, hE⟩ : ∃ E, E = w2.heap.size := ⟨_, rfl⟩
 rw [← hE] at HSV
 have HFW : Hid (∀ W, Below w.heap.size w W → PhR W f) := fun W h => HF.out.below h
 clear hp hs hS hE HB1 HPW HPK HPT HPL HF
 obtain ⟨x0, x1, x2, x3, x4, x5, x6, x7, x8, x9, x10, x11, f0, f1, f2, f3, f4, f5, f6, f7, f8, f9, f10, f11⟩ := box12 HSV.out.bx
 obtain ⟨y0, y1, y2, y3, y4, y5, y6, y7, y8, y9, y10, y11, y12, y13⟩ := box14 HSV.out.ph
 (try dsimp only at x0 x1 x2 x3 x4 x5 x6 x7 x8 x9 x10 x11)
 obtain ⟨z0, z1, z2, z3, z4, z5, z6, z7, z8, z9, z10, z11, g0, g1, g2, g3, g4, g5, g6, g7, g8, g9, g10, g11⟩ := box12 HSV.out.rs
 (try dsimp only at z0 z1 z2 z3 z4 z5 z6 z7 z8 z9 z10 z11)
 go_wp2_with fail
 refine body_nm (fun w9 hW => ?_)
 have h9 := st12b HSV.out.rs _ _ _ _ _ _ _ _ _ _ _ _ hW
 have HE := hid h9
 clear hW h9 z0 z1 z2 z3 z4 z5 z6 z7 z8 z9 z10 z11 g0 g1 g2 g3 g4 g5 g6 g7 g8 g9 g10 g11 x0 x1 x2 x3 x4 x5 x6 x7 x8 x9 x10 x11 f0 f1 f2 f3 f4 f5 f6 f7 f8 f9 f10 f11 y0 y1 y2 y3 y4 y5 y6 y7 y8 y9 y10 y11 y12 y13
 exact fin_ok HSV HE.out (few_z (st0_of (show (1 : Int) ≤ 2 by decide) (show (2 : Int) ≤ 9 by decide) HTB.out rfl (by unfold moreF; simp [em0])) vb_nil ob_nil ob_nil (show (-1 : Int) ≤ 9223372036854775807 by decide)) rfl rfl
open Go.Proofs.YtdeollmeljaaoaaDoor.cs Go.Proofs.YtdeollmeljaaoaaDoor.tw
theorem Few.w {s : Sq} (h : Few s) (hr : ∀ v ∈ s.row, VB v) (hw : ∀ o ∈ s.wh, (Lit.int .i64 o.v.n).wf = true) (hx : ∀ o ∈ s.to, (Lit.int .i64 o.v.n).wf = true) : SqZ s :=
 have m : 20 ≤ maxLen := by unfold maxLen; omega
 ⟨by have := h.t; omega, by have := h.o; omega, by have := h.e; omega, fun o ho => by have := h.c.2 o ho; omega, fun o ho => ⟨wf_vb (hr o ho), by have := h.r.2 o ho; omega⟩, fun o ho => by have := h.n.2 o ho; omega,
  fun o ho => ⟨hw o ho, by have := h.h.2 o ho; omega, by have := h.h.2 o ho; omega⟩, fun o ho => ⟨hx o ho, by have := h.x.2 o ho; omega, by have := h.x.2 o ho; omega⟩⟩
theorem few_w {s : Sq} (h : st0 s = 0) (hr : ∀ v ∈ s.row, VB v) (hw : ∀ o ∈ s.wh, (Lit.int .i64 o.v.n).wf = true) (hx : ∀ o ∈ s.to, (Lit.int .i64 o.v.n).wf = true) (hl : s.lim ≤ 9223372036854775807) : st0 s = 0 ∧ SqZ s ∧ s.lim ≤ 9223372036854775807 := ⟨h, (few_of h).w hr hw hx, hl⟩
theorem wf_nil : ∀ o ∈ ([] : List Oq), (Lit.int .i64 o.v.n).wf = true := fun o ho => by simp at ho
theorem whl_wf {l : List Oq} (h : Whl l) : ∀ o ∈ l, (Lit.int .i64 o.v.n).wf = true := fun o ho => by
 have := (h.2.2 o ho).2.2
 unfold Fi at this
 simp [Lit.wf, IntKind.min, IntKind.max, IntKind.signed, IntKind.bits]
 omega
theorem whl_wh {l : List Oq} (h : Whl l) (hl : l.length ≤ 15) : whF l = 0 := by
 unfold whF
 split
 ·rfl
 ·exact (whl_all h hl).1
theorem lit_small (n : Int) (h : 0 ≤ n ∧ n < 100) : Go.Proofs.YtdeollmeljaaoaaDoor.litF 2 n ⟨#[]⟩ = 0 ∧ VB ⟨2, n, ⟨#[]⟩⟩ := ⟨lit_ok n 2 (.inr (.inr ⟨rfl, by omega⟩)), ⟨by dsimp only; omega, by dsimp only; omega⟩⟩
theorem lit_word {u : List UInt8} (h : Lw u) : Go.Proofs.YtdeollmeljaaoaaDoor.litF 3 0 ⟨u.toArray⟩ = 0 ∧ VB ⟨3, 0, ⟨u.toArray⟩⟩ := ⟨str_ok u (by have := h.2.1; omega), ⟨by dsimp only; decide, by dsimp only; decide⟩⟩
theorem lit_tru (n : Int) : Go.Proofs.YtdeollmeljaaoaaDoor.litF (truV n).k (truV n).n (truV n).t = 0 ∧ VB (truV n) := by
 have h := pck_in n 3 (by omega)
 unfold truV
 split
 ·exact ⟨lit_ok 0 0 (.inl ⟨rfl, rfl⟩), ⟨by dsimp only; decide, by dsimp only; decide⟩⟩
 ·exact ⟨lit_ok (pck n 3) 1 (.inr (.inl ⟨rfl, by omega⟩)), ⟨by dsimp only; omega, by dsimp only; omega⟩⟩
theorem ins_ok {x y b : Int} {u : List UInt8} (hx : 0 ≤ x ∧ x < 100) (hy : 0 ≤ y ∧ y < 100) (hu : Lw u) : insF [⟨2, x, ⟨#[]⟩⟩, ⟨2, y, ⟨#[]⟩⟩, ⟨3, 0, ⟨u.toArray⟩⟩, truV b] = 0 ∧ ∀ v ∈ [⟨2, x, ⟨#[]⟩⟩, ⟨2, y, ⟨#[]⟩⟩, ⟨3, 0, ⟨u.toArray⟩⟩, truV b], VB v := by
 constructor
 ·unfold insF
  rw [if_neg (by simp)]
  exact row_snoc [⟨2, x, ⟨#[]⟩⟩, ⟨2, y, ⟨#[]⟩⟩, ⟨3, 0, ⟨u.toArray⟩⟩] _ (row_snoc [⟨2, x, ⟨#[]⟩⟩, ⟨2, y, ⟨#[]⟩⟩] _ (row_snoc [⟨2, x, ⟨#[]⟩⟩] _ (row_snoc [] _ rfl (lit_small x hx).1) (lit_small y hy).1) (lit_word hu).1) (lit_tru b).1
 ·intro v hv
  simp only [List.mem_cons, List.not_mem_nil, or_false] at hv
  rcases hv with rfl | rfl | rfl | rfl
  ·exact (lit_small x hx).2
  ·exact (lit_small y hy).2
  ·exact (lit_word hu).2
  ·exact (lit_tru b).2
theorem stmt3 (w : World) (f : Ph) (hf : PhR w f) (hc : pck f.kd 6 = 2) : Calls Tryd.prog 9 #[phV f] w (StmtIs w) := by
 have HF := hid hf
 have HP : Hid (∀ (x m : Int) (W : World), Rn x → 1 ≤ m → m ≤ 12 → Calls Tryd.prog 14 #[.int .i64 x, .int .i64 m] W fun e w' => e = .returned (.int .i64 (pck x m)) ∧ W = w') := fun x m W h h1 h2 => pck_any x m W h h1 (by omega)
 have HPK : Hid (∀ W, Calls Tryd.prog 14 #[.int .i64 f.kd, .int .i64 6] W fun e w' => e = .returned (.int .i64 2) ∧ W = w') := fun W => by
  have := HP.out f.kd 6 W HF.out.kd (by omega) (by omega)
  rwa [hc] at this
 have hj := pck_in f.tb 2 (by omega)
 obtain ⟨j, hjj⟩ : ∃ j : Nat, (j : Int) = pck f.tb 2 := ⟨(pck f.tb 2).toNat, by omega⟩
 have HPT : Hid (∀ W, Calls Tryd.prog 14 #[.int .i64 f.tb, .int .i64 2] W fun e w' => e = .returned (.int .i64 (j : Int)) ∧ W = w') := fun W => by
  have := HP.out f.tb 2 W HF.out.tb (by omega) (by omega)
  rwa [← hjj] at this
 have HJ : Hid (j < 2) := by show _ < _; omega
 have HTB : Hid (nmF (tbN j).data.toList = 0) := tb_nm HJ.out
 have HW0 : Hid (∀ W, W = (w.alloc (.cells (phC f) 27)).alloc (.cells (stC ⟨0, ⟨#[]⟩, [], [], [], false, [], ⟨#[]⟩, false, 0, ⟨#[]⟩, []⟩ ps0) 33) → Below w.heap.size w W ∧ W.heap[w.heap.size]? = some (.cells (phC f) 27 (0, 0)) ∧ W.heap[w.heap.size + 1]? = some (.cells (stC ⟨0, ⟨#[]⟩, [], [], [], false, [], ⟨#[]⟩, false, 0, ⟨#[]⟩, []⟩ ps0) 33 (0, 0)) ∧ W.heap.size = w.heap.size + 1 + 1) := fun W h => by
  rw [h]
  exact ⟨((Below.refl _ _).alloc (Nat.le_refl _) _).alloc (by simp) _, (Below.heap_alloc _ _ _ (by simp)).trans (new0 _ _), new1 _ _ _, by simp⟩
 have HWO : Hid (∀ W, Below w.heap.size w W → Calls Tryd.prog 21 #[phV f] W fun e w' => ∃ t : ByteArray, e = .returned (.string t) ∧ t.size ≤ maxLen ∧ Below W.heap.size W w') := fun W h => wordOf_any W f (hf.below h)
 have HCU : Hid (∀ t W, t.size ≤ maxLen → Calls Tryd.prog 20 #[.string t, .int .i64 2] W fun e w' => e = .returned (.string (cutS t 2)) ∧ W = w') := fun t W h => cut_any t 2 W (by omega) h
 have HWD : Hid (∀ t W, t.size ≤ maxLen → Calls Tryd.prog 19 #[.string t] W (WordIs W)) := fun t W h => kword_any W t h
 have HTR : Hid (∀ W, Calls Tryd.prog 22 #[.int .i64 f.b] W fun e w' => e = .returned (.agg #[.int .i64 (truV f.b).k, .int .i64 (truV f.b).n, .string (truV f.b).t]) ∧ Below W.heap.size W w') := fun W => truth_any f.b W hf.b
 have HX1 : Hid (∀ W, Calls Tryd.prog 14 #[.int .i64 f.a, .int .i64 12] W fun e w' => e = .returned (.int .i64 (pck f.a 12)) ∧ W = w') := fun W => HP.out _ _ W hf.a (by omega) (by omega)
 have HX2 : Hid (∀ W, Calls Tryd.prog 14 #[.int .i64 f.b, .int .i64 9] W fun e w' => e = .returned (.int .i64 (pck f.b 9)) ∧ W = w') := fun W => HP.out _ _ W hf.b (by omega) (by omega)
 have HXI := hid (And.intro (pck_in f.a 12 (by omega)) (pck_in f.b 9 (by omega)))
 clear hf hc hj hjj
 go_enter Tryd.func9, Tryd.ntmps9
 go_upto_region 1 with (fail)
 refine code_nm (fun w1 hW => ?_)
 obtain ⟨hb1, hp1, hr1, hz1⟩ := HW0.out w1 hW
 obtain ⟨P, hP⟩ : ∃ P, P = w.heap.size := ⟨_, rfl⟩
 have HPL : Hid (w.heap.size ≤ P) := by show _ ≤ _; omega
 rw [← hP] at hp1 hr1 hz1 ⊢
 have HB1 := hid (And.intro hb1 (And.intro hr1 (And.intro hz1 HPL.out)))
 have HPW : Hid (Pw f P w1 w1) := ⟨hp1, Below.refl _ _⟩
 clear hW hb1 hp1 hr1 hz1 hP HW0
 change Code.wp _ ((regionOf 1 (Tryd.f9.body.getD .skip)).getD .skip) _ _ _
 refine sreg1 _ f P j 2 w1 HPW (hid ⟨by omega, HJ.out⟩) HPK HPT (hid fun u4 u5 u6 u7 u8 u9 u10 u11 u12 u13 u14 S w2 hp hs hS => ?_)
 have HSV : Hid (Sv f P S (P + 1) w2.heap.size ⟨3, tbN j, [], [], [], false, [], ⟨#[]⟩, false, -1, ⟨#[]⟩, []⟩ ⟨none, 0, 0, none, 0, 0, none, 0, 0, none, 0, 0, none, 0, 0⟩ w w2) := by
  obtain ⟨g1, g2, g3, g4⟩ := HB1.out
  have hl := blk_lt hs
  have hz := hp.2.size
  exact ⟨hp.1, hs, (hp.2.block _ (blk_lt g2)).trans g2, StO.nil, g1.trans (hp.2.mono (by omega)), ⟨by omega, by omega, by omega⟩, ⟨by omega, by omega, by omega⟩, hl, by omega, Nat.le_refl _⟩
 obtain ⟨E, hE⟩ : ∃ E, E = w2.heap.size := ⟨_, rfl⟩
 rw [← hE] at HSV
 have HFW : Hid (∀ W, Below w.heap.size w W → PhR W f) := fun W h => HF.out.below h
 clear hp hs hS hE HB1 HPW HPK HPT HPL HF
 obtain ⟨x0, x1, x2, x3, x4, x5, x6, x7, x8, x9, x10, x11, f0, f1, f2, f3, f4, f5, f6, f7, f8, f9, f10, f11⟩ := box12 HSV.out.bx
 obtain ⟨y0, y1, y2, y3, y4, y5, y6, y7, y8, y9, y10, y11, y12, y13⟩ := box14 HSV.out.ph
 (try dsimp only at x0 x1 x2 x3 x4 x5 x6 x7 x8 x9 x10 x11)
 go_upto_region 6 with (fail)
 change Code.wp _ ((regionOf 6 (Tryd.f9.body.getD .skip)).getD .skip) _ _ _
 refine sreg6 _ f P S (P + 1) E _ _ _ _ w w2 HSV HX1 HX2 HWO HCU HWD HTR (hid fun u23 u24 u25 u26 u27 u28 u29 u30 u31 u32 u33 u34 u35 u36 u37 u38 u39 u40 u41 u B w3 hu hs => ?_)
 have HS4 := hid hs
 have HU := hid hu
 clear hs hu HSV HX1 HX2 HWO HCU HWD HTR x0 x1 x2 x3 x4 x5 x6 x7 x8 x9 x10 x11 f0 f1 f2 f3 f4 f5 f6 f7 f8 f9 f10 f11 y0 y1 y2 y3 y4 y5 y6 y7 y8 y9 y10 y11 y12 y13
 dsimp only at HS4
 obtain ⟨x0, x1, x2, x3, x4, x5, x6, x7, x8, x9, x10, x11, f0, f1, f2, f3, f4, f5, f6, f7, f8, f9, f10, f11⟩ := box12 HS4.out.bx
 obtain ⟨y0, y1, y2, y3, y4, y5, y6, y7, y8, y9, y10, y11, y12, y13⟩ := box14 HS4.out.ph
 (try dsimp only at x0 x1 x2 x3 x4 x5 x6 x7 x8 x9 x10 x11)
 go_upto_region 19 with (fail)
 obtain ⟨z0, z1, z2, z3, z4, z5, z6, z7, z8, z9, z10, z11, g0, g1, g2, g3, g4, g5, g6, g7, g8, g9, g10, g11⟩ := box12 HS4.out.rs
 (try dsimp only at z0 z1 z2 z3 z4 z5 z6 z7 z8 z9 z10 z11)
 go_wp2_with fail
 refine body_nm (fun w9 hW => ?_)
 have h9 := st12b HS4.out.rs _ _ _ _ _ _ _ _ _ _ _ _ hW
 have HE := hid h9
 clear hW h9 z0 z1 z2 z3 z4 z5 z6 z7 z8 z9 z10 z11 g0 g1 g2 g3 g4 g5 g6 g7 g8 g9 g10 g11 x0 x1 x2 x3 x4 x5 x6 x7 x8 x9 x10 x11 f0 f1 f2 f3 f4 f5 f6 f7 f8 f9 f10 f11 y0 y1 y2 y3 y4 y5 y6 y7 y8 y9 y10 y11 y12 y13
 exact fin_ok HS4 HE.out (few_w (st0_of (show (1 : Int) ≤ 3 by decide) (show (3 : Int) ≤ 9 by decide) HTB.out (ins_ok (by have := HXI.out.1; omega) (by have := HXI.out.2; omega) HU.out).1 (by unfold moreF; simp [em0])) (ins_ok (by have := HXI.out.1; omega) (by have := HXI.out.2; omega) HU.out).2 wf_nil wf_nil (show (-1 : Int) ≤ 9223372036854775807 by decide)) rfl rfl
end Go.Proofs.YtdeollmeljaaoaaDoor.rd
