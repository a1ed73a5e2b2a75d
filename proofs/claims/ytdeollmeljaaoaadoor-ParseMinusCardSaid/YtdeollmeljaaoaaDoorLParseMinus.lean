/- A minus ahead of a number is the number's; between two it is a sum's; alone it is short, ahead of a name it has no form. The row lists the program's six tables; the card ties them to the program's text. -/
import Derived.Deep.DeepCutAuto
import Derived.Test.YtdeollmeljaaoaaDoorAzk
import Derived.Test.YtdeollmeljaaoaaDoorBik
import Derived.Test.YtdeollmeljaaoaaDoorBjk
import Derived.Test.YtdeollmeljaaoaaDoorBkk
import Derived.Test.YtdeollmeljaaoaaDoorBlk
import Derived.Test.YtdeollmeljaaoaaDoorBmk
namespace Go.Proofs.YtdeollmeljaaoaaDoor
open Go.ChangeShapes Go.WideShapes Go.ChangeAt Go.RowKit
theorem Tryd.own : ownKnob Tryd.prog.godebug = none := by kernel_rfl
end Go.Proofs.YtdeollmeljaaoaaDoor
namespace Go.Proofs.YtdeollmeljaaoaaDoor.lParseMinus
open Go.ChangeShapes Go.WideShapes Go.ChangeAt Go.RowKit Go.Joins
open Go.ChangeMaps (open_string shut_string)
set_option linter.unusedVariables false
set_option linter.unusedSimpArgs false
set_option maxHeartbeats 400000

set_option maxHeartbeats 8000000
set_option maxRecDepth 100000
open Go.Proofs.YtdeollmeljaaoaaDoor.rd Go.Proofs.YtdeollmeljaaoaaDoor.cs
theorem wrd (s : ByteArray) (w : World) : Calls Tryd.prog 16 #[.string s] w fun e w' => e = .returned (.agg #[.int .i64 1, .string s, .int .i64 0]) ∧ Below w.heap.size w w' := by
  go_enter Tryd.func16, Tryd.ntmps16
  go_wp2_with fail
  refine body_nm (fun W hW => ?_)
  have hR : W.heap[w.heap.size]? = some (.cells #[.int .i64 1, .string s, .int .i64 0] 45 (0, 0)) := by rw [hW]; exact new0 _ _
  have hb : Below w.heap.size w W := by rw [hW]; exact (Below.refl _ _).alloc (Nat.le_refl _) _
  obtain ⟨r0, r1, r2, -⟩ := bx3 hR
  refine bodyPost_ret (v := .agg #[.int .i64 1, .string s, .int .i64 0]) (by simp [results, Tryd.results16, go_sem, r0, r1, r2]; try rfl) rfl ?_
  exact ⟨rfl, hb⟩
theorem num (n : Int) (w : World) : Calls Tryd.prog 17 #[.int .i64 n] w fun e w' => e = .returned (.agg #[.int .i64 2, .int .i64 n, .string ⟨#[]⟩]) ∧ Below w.heap.size w w' := by
  go_enter Tryd.func17, Tryd.ntmps17
  go_wp2_with fail
  refine body_nm (fun W hW => ?_)
  have hR : W.heap[w.heap.size]? = some (.cells #[.int .i64 2, .int .i64 n, .string ⟨#[]⟩] 50 (0, 0)) := by rw [hW]; exact new0 _ _
  have hb : Below w.heap.size w W := by rw [hW]; exact (Below.refl _ _).alloc (Nat.le_refl _) _
  obtain ⟨r0, r1, r2, -⟩ := bx3 hR
  refine bodyPost_ret (v := .agg #[.int .i64 2, .int .i64 n, .string ⟨#[]⟩]) (by simp [results, Tryd.results17, go_sem, r0, r1, r2]; try rfl) rfl ?_
  exact ⟨rfl, hb⟩
theorem walk (W : World) (hL : Tbq W) (a : Int) (wa : (Lit.int .i64 a).wf = true) :
    Calls Tryd.prog 7 #[.int .i64 a] W fun e w' => e = .returned (.bool true) ∧ Below W.heap.size W w' := by
  have HPX : Hid (∀ w, Calls Tryd.prog 14 #[.int .i64 a, .int .i64 4611686018427387904] w fun e w' => e = .returned (.int .i64 (pck a 4611686018427387904)) ∧ w = w') := fun w => pck_any a 4611686018427387904 w (rn_of wa) (by omega) (by omega)
  have hx := pck_in a 4611686018427387904 (by omega)
  obtain ⟨x, hxx⟩ : ∃ x, x = pck a 4611686018427387904 := ⟨_, rfl⟩
  rw [← hxx] at HPX hx
  clear hxx
  have HW : Hid (∀ s w, Calls Tryd.prog 16 #[.string s] w fun e w' => e = .returned (.agg #[.int .i64 1, .string s, .int .i64 0]) ∧ Below w.heap.size w w') := fun s w => wrd s w
  have HN : Hid (∀ n w, Calls Tryd.prog 17 #[.int .i64 n] w fun e w' => e = .returned (.agg #[.int .i64 2, .int .i64 n, .string ⟨#[]⟩]) ∧ Below w.heap.size w w') := fun n w => num n w
  have HX := Lib.hid hx
  clear hx
  go_enter Tryd.func7, Tryd.ntmps7
  go_wp2_with fail
  refine (HPX.out _).mono ?_
  rintro e w0 ⟨rfl, hw⟩
  obtain rfl : W = w0 := hw
  go_wp2_with fail
  refine calls_nm (fun w2 hW => ?_)
  have hn2 : w2.heap[W.heap.size]? = some (.cells #[.int .i64 2, .string ⟨#[]⟩, .int .i64 x] 45 (0, 0)) := by rw [hW]; exact (Below.heap_alloc _ _ _ (by simp)).trans (new0 _ _)
  have hm2 : w2.heap[W.heap.size + 1]? = some (.cells #[.int .i64 4, .string ⟨#[45]⟩, .int .i64 0] 45 (0, 0)) := by rw [hW]; exact new1 _ _ _
  have hb2 : Below W.heap.size W w2 := by rw [hW]; exact ((Below.refl _ _).alloc (Nat.le_refl _) _).alloc (by simp) _
  have HF2 := Lib.hid (And.intro hn2 hm2)
  have HB2 := Lib.hid hb2
  obtain ⟨X, hX⟩ : ∃ X, X = W.heap.size := ⟨_, rfl⟩
  rw [← hX] at HF2 ⊢
  clear hW hn2 hm2 hb2 hX
  refine (HW.out _ _).mono ?_
  rintro e w3 ⟨rfl, hb⟩
  have HB3 := Lib.hid (HB2.out.trans (hb.mono HB2.out.size))
  have HF3 := Lib.hid (And.intro ((hb.block _ (blk_lt HF2.out.1)).trans HF2.out.1) ((hb.block _ (blk_lt HF2.out.2)).trans HF2.out.2))
  clear hb HB2 HF2
  go_wp2_with fail
  refine (HW.out _ _).mono ?_
  rintro e w4 ⟨rfl, hb⟩
  have HB4 := Lib.hid (HB3.out.trans (hb.mono HB3.out.size))
  have HF4 := Lib.hid (And.intro ((hb.block _ (blk_lt HF3.out.1)).trans HF3.out.1) ((hb.block _ (blk_lt HF3.out.2)).trans HF3.out.2))
  clear hb HB3 HF3
  go_wp2_with fail
  refine (HW.out _ _).mono ?_
  rintro e w5 ⟨rfl, hb⟩
  have HB5 := Lib.hid (HB4.out.trans (hb.mono HB4.out.size))
  have HF5 := Lib.hid (And.intro ((hb.block _ (blk_lt HF4.out.1)).trans HF4.out.1) ((hb.block _ (blk_lt HF4.out.2)).trans HF4.out.2))
  clear hb HB4 HF4
  go_wp2_with fail
  refine (HW.out _ _).mono ?_
  rintro e w6 ⟨rfl, hb⟩
  have HB6 := Lib.hid (HB5.out.trans (hb.mono HB5.out.size))
  have HF6 := Lib.hid (And.intro ((hb.block _ (blk_lt HF5.out.1)).trans HF5.out.1) ((hb.block _ (blk_lt HF5.out.2)).trans HF5.out.2))
  clear hb HB5 HF5
  go_upto_region 6 with (fail)
  refine code_nm (fun w7 hW => ?_)
  have hh7 : w7.heap[w6.heap.size]? = some (.cells (tkc headT).toArray 45 (0, 0)) := by rw [hW]; exact new0 _ _
  have hb7 : Below w6.heap.size w6 w7 := by rw [hW]; exact (Below.refl _ _).alloc (Nat.le_refl _) _
  have HBW : Hid (Below W.heap.size W w7) := HB6.out.trans (hb7.mono HB6.out.size)
  have HH : Hid (Rd w7 3 4 (.slice (some ⟨w6.heap.size, 0, none⟩) 4 4) (tkc headT)) := rd_blk hh7 rfl (by omega)
  have HT : Hid (Tri x X w7 w7) := by
    have e1 := (hb7.block _ (blk_lt HF6.out.1)).trans HF6.out.1
    have e2 := (hb7.block _ (blk_lt HF6.out.2)).trans HF6.out.2
    obtain ⟨y0, y1, y2, -⟩ := bx3 e1
    obtain ⟨u0, u1, u2, -⟩ := bx3 e2
    exact ⟨y0, y1, y2, u0, u1, u2, Below.refl _ _⟩
  obtain ⟨H, hH⟩ : ∃ H, H = w6.heap.size := ⟨_, rfl⟩
  rw [← hH] at HH ⊢
  clear hW hh7 hb7 HF6 HB6 hH
  change Code.wp _ ((regionOf 6 (Tryd.f7.body.getD .skip)).getD .skip) _ _ _
  refine reg6 _ _ _ _ _ _ _ _ _ _ _ _ _ _ _ _ _ _ _ _ _ _ _ _ _ _ _ _ _ _ _ _ _ _ _ _ _ _ _ _ _ _ _ _ _ _ _ _ _ _ _ _ _ _ _ _ _ _ _ _ _ _ _ _ _ _ _ _ _ _ _ _ _ _ _ _ _ _ _ _ _ _ _ _ _ _ _ _ _ _ _ _ _ _ _ _ _ _ _ _ _ _ _ _ _ _ _ _ _ _ _ _ _ _ _ _ _ _ _ _ _ _ _ _ _ _ _ _ _ _ _ _ _ _ _ _ _ _ _ _ _ _ _ _ _ _ _ _ _ _ _ _ _ _ _ _ _ _ _ _ _ _ _ _ _ _ _ _ _ _ _ _ _ _ _ _  x X H W w7 hL HBW HX HH HT HW (fun u37 u38 u39 u40 u41 u42 u43 u44 u45 u46 u47 s v6 hg => ?_)
  obtain ⟨A6, p6, rfl, ha, hr, hb⟩ := hg
  have HBW := Lib.hid (HBW.out.trans (hb.mono HBW.out.size))
  have HH := Lib.hid (HH.out.below hb)
  have HT := Lib.hid (HT.out.go HT.out hb).self
  have HG6 := Lib.hid (And.intro ha hr)
  clear ha hr hb
  go_upto_region 7 with (fail)
  change Code.wp _ ((regionOf 7 (Tryd.f7.body.getD .skip)).getD .skip) _ _ _
  refine reg7 _ _ _ _ _ _ _ _ _ _ _ _ _ _ _ _ _ _ _ _ _ _ _ _ _ _ _ _ _ _ _ _ _ _ _ _ _ _ _ _ _ _ _ _ _ _ _ _ _ _ _ _ _ _ _ _ _ _ _ _ _ _ _ _ _ _ _ _ _ _ _ _ _ _ _ _ _ _ _ _ _ _ _ _ _ _ _ _ _ _ _ _ _ _ _ _ _ _ _ _ _ _ _ _ _ _ _ _ _ _ _ _ _ _ _ _ _ _ _ _ _ _ _ _ _ _ _ _ _ _ _ _ _ _ _ _ _ _ _ _ _ _ _ _ _ _ _ _ _ _ _ _ _ _ _ _ _ _ _ _ _ _ _ _ _ _ _ _ _ _ _ _ _ _ _ _  x X H W v6 hL HBW HX HH HT HW (fun u48 u49 u50 u51 u52 u53 u54 u55 u56 u57 u58 u59 u60 s v7 hg => ?_)
  obtain ⟨A7, p7, rfl, ha, hr, hb⟩ := hg
  have HBW := Lib.hid (HBW.out.trans (hb.mono HBW.out.size))
  have HH := Lib.hid (HH.out.below hb)
  have HT := Lib.hid (HT.out.go HT.out hb).self
  have HG6 := Lib.hid (And.intro ((hb.block _ (blk_lt HG6.out.1)).trans HG6.out.1) (HG6.out.2.below hb))
  have HG7 := Lib.hid (And.intro ha hr)
  clear ha hr hb
  go_upto_region 8 with (fail)
  change Code.wp _ ((regionOf 8 (Tryd.f7.body.getD .skip)).getD .skip) _ _ _
  refine reg8 _ _ _ _ _ _ _ _ _ _ _ _ _ _ _ _ _ _ _ _ _ _ _ _ _ _ _ _ _ _ _ _ _ _ _ _ _ _ _ _ _ _ _ _ _ _ _ _ _ _ _ _ _ _ _ _ _ _ _ _ _ _ _ _ _ _ _ _ _ _ _ _ _ _ _ _ _ _ _ _ _ _ _ _ _ _ _ _ _ _ _ _ _ _ _ _ _ _ _ _ _ _ _ _ _ _ _ _ _ _ _ _ _ _ _ _ _ _ _ _ _ _ _ _ _ _ _ _ _ _ _ _ _ _ _ _ _ _ _ _ _ _ _ _ _ _ _ _ _ _ _ _ _ _ _ _ _ _ _ _ _ _ _ _ _ _ _ _ _ _ _ _ _ _ _ _  x X H W v7 hL HBW HX HH HT HW (fun u61 u62 u63 u64 u65 u66 u67 u68 u69 u70 u71 u72 u73 u74 s v8 hg => ?_)
  obtain ⟨A8, p8, rfl, ha, hr, hb⟩ := hg
  have HBW := Lib.hid (HBW.out.trans (hb.mono HBW.out.size))
  have HH := Lib.hid (HH.out.below hb)
  have HT := Lib.hid (HT.out.go HT.out hb).self
  have HG6 := Lib.hid (And.intro ((hb.block _ (blk_lt HG6.out.1)).trans HG6.out.1) (HG6.out.2.below hb))
  have HG7 := Lib.hid (And.intro ((hb.block _ (blk_lt HG7.out.1)).trans HG7.out.1) (HG7.out.2.below hb))
  have HG8 := Lib.hid (And.intro ha hr)
  clear ha hr hb
  go_upto_region 9 with (fail)
  change Code.wp _ ((regionOf 9 (Tryd.f7.body.getD .skip)).getD .skip) _ _ _
  refine reg9 _ _ _ _ _ _ _ _ _ _ _ _ _ _ _ _ _ _ _ _ _ _ _ _ _ _ _ _ _ _ _ _ _ _ _ _ _ _ _ _ _ _ _ _ _ _ _ _ _ _ _ _ _ _ _ _ _ _ _ _ _ _ _ _ _ _ _ _ _ _ _ _ _ _ _ _ _ _ _ _ _ _ _ _ _ _ _ _ _ _ _ _ _ _ _ _ _ _ _ _ _ _ _ _ _ _ _ _ _ _ _ _ _ _ _ _ _ _ _ _ _ _ _ _ _ _ _ _ _ _ _ _ _ _ _ _ _ _ _ _ _ _ _ _ _ _ _ _ _ _ _ _ _ _ _ _ _ _ _ _ _ _ _ _ _ _ _ _ _ _ _ _ _ _ _ _  x X H W v8 hL HBW HX HH HT HW (fun u75 u76 u77 u78 u79 u80 u81 u82 u83 u84 s v9 hg => ?_)
  obtain ⟨A9, p9, rfl, ha, hr, hb⟩ := hg
  have HBW := Lib.hid (HBW.out.trans (hb.mono HBW.out.size))
  have HH := Lib.hid (HH.out.below hb)
  have HT := Lib.hid (HT.out.go HT.out hb).self
  have HG6 := Lib.hid (And.intro ((hb.block _ (blk_lt HG6.out.1)).trans HG6.out.1) (HG6.out.2.below hb))
  have HG7 := Lib.hid (And.intro ((hb.block _ (blk_lt HG7.out.1)).trans HG7.out.1) (HG7.out.2.below hb))
  have HG8 := Lib.hid (And.intro ((hb.block _ (blk_lt HG8.out.1)).trans HG8.out.1) (HG8.out.2.below hb))
  have HG9 := Lib.hid (And.intro ha hr)
  clear ha hr hb
  go_upto_region 10 with (fail)
  change Code.wp _ ((regionOf 10 (Tryd.f7.body.getD .skip)).getD .skip) _ _ _
  refine reg10 _ _ _ _ _ _ _ _ _ _ _ _ _ _ _ _ _ _ _ _ _ _ _ _ _ _ _ _ _ _ _ _ _ _ _ _ _ _ _ _ _ _ _ _ _ _ _ _ _ _ _ _ _ _ _ _ _ _ _ _ _ _ _ _ _ _ _ _ _ _ _ _ _ _ _ _ _ _ _ _ _ _ _ _ _ _ _ _ _ _ _ _ _ _ _ _ _ _ _ _ _ _ _ _ _ _ _ _ _ _ _ _ _ _ _ _ _ _ _ _ _ _ _ _ _ _ _ _ _ _ _ _ _ _ _ _ _ _ _ _ _ _ _ _ _ _ _ _ _ _ _ _ _ _ _ _ _ _ _ _ _ _ _ _ _ _ _ _ _ _ _ _ _ _ _ _  x X H W v9 hL HBW HX HH HT HW (fun u85 u86 u87 u88 u89 u90 u91 u92 u93 u94 u95 u96 s v10 hg => ?_)
  obtain ⟨A10, p10, rfl, ha, hr, hb⟩ := hg
  have HBW := Lib.hid (HBW.out.trans (hb.mono HBW.out.size))
  have HH := Lib.hid (HH.out.below hb)
  have HT := Lib.hid (HT.out.go HT.out hb).self
  have HG6 := Lib.hid (And.intro ((hb.block _ (blk_lt HG6.out.1)).trans HG6.out.1) (HG6.out.2.below hb))
  have HG7 := Lib.hid (And.intro ((hb.block _ (blk_lt HG7.out.1)).trans HG7.out.1) (HG7.out.2.below hb))
  have HG8 := Lib.hid (And.intro ((hb.block _ (blk_lt HG8.out.1)).trans HG8.out.1) (HG8.out.2.below hb))
  have HG9 := Lib.hid (And.intro ((hb.block _ (blk_lt HG9.out.1)).trans HG9.out.1) (HG9.out.2.below hb))
  have HG10 := Lib.hid (And.intro ha hr)
  clear ha hr hb
  go_upto_region 13 with (fail)
  obtain ⟨a2_6, n2_6, c2_6, a3_6, n3_6, c3_6, a4_6, n4_6, c4_6, a6_6, n6_6, c6_6, a11_6, n11_6, c11_6⟩ := p6
  obtain rfl : n6_6 = 1 := HG6.out.2.lens.2.2.2.1
  obtain ⟨rb6, ro6, rc6, hrr, -, -, -, hrc6⟩ := HG6.out.2.r6.pos (by show 0 < 1; omega) (by omega)
  simp only [Value.slice.injEq, true_and] at hrr
  obtain ⟨rfl, rfl⟩ := hrr
  obtain ⟨a2_7, n2_7, c2_7, a3_7, n3_7, c3_7, a4_7, n4_7, c4_7, a6_7, n6_7, c6_7, a11_7, n11_7, c11_7⟩ := p7
  obtain rfl : n6_7 = 3 := HG7.out.2.lens.2.2.2.1
  obtain ⟨rb7, ro7, rc7, hrr, -, -, -, hrc7⟩ := HG7.out.2.r6.pos (by show 0 < 3; omega) (by omega)
  simp only [Value.slice.injEq, true_and] at hrr
  obtain ⟨rfl, rfl⟩ := hrr
  obtain ⟨a2_8, n2_8, c2_8, a3_8, n3_8, c3_8, a4_8, n4_8, c4_8, a6_8, n6_8, c6_8, a11_8, n11_8, c11_8⟩ := p8
  obtain rfl : n6_8 = 3 := HG8.out.2.lens.2.2.2.1
  obtain ⟨rb8, ro8, rc8, hrr, -, -, -, hrc8⟩ := HG8.out.2.r6.pos (by show 0 < 3; omega) (by omega)
  simp only [Value.slice.injEq, true_and] at hrr
  obtain ⟨rfl, rfl⟩ := hrr
  have k0 : v10.cell? ⟨rb6, ro6 + 1, none⟩ = some (.int .i64 2) := hrc6 1 _ rfl
  have k1 : v10.cell? ⟨rb6, ro6 + 2, none⟩ = some (.int .i64 (-x)) := hrc6 2 _ rfl
  have k2 : v10.cell? ⟨rb6, ro6 + 3, none⟩ = some (.string ⟨#[]⟩) := hrc6 3 _ rfl
  have k3 : v10.cell? ⟨rb7, ro7 + 6, none⟩ = some (.int .i64 2) := hrc7 6 _ rfl
  have k4 : v10.cell? ⟨rb7, ro7 + 7, none⟩ = some (.int .i64 x) := hrc7 7 _ rfl
  have k5 : v10.cell? ⟨rb7, ro7 + 8, none⟩ = some (.string ⟨#[]⟩) := hrc7 8 _ rfl
  have k6 : v10.cell? ⟨rb8, ro8 + 6, none⟩ = some (.int .i64 2) := hrc8 6 _ rfl
  have k7 : v10.cell? ⟨rb8, ro8 + 7, none⟩ = some (.int .i64 (-x)) := hrc8 7 _ rfl
  have k8 : v10.cell? ⟨rb8, ro8 + 8, none⟩ = some (.string ⟨#[]⟩) := hrc8 8 _ rfl
  have k9 : v10.cell? ⟨rb8, ro8 + 10, none⟩ = some (.int .i64 9) := hrc8 10 _ rfl
  clear hrc6 hrc7 hrc8
  have hX := HX.out
  have hneg : IntKind.i64.wrap (-x) = -x := by simp [IntKind.wrap, IntKind.signed, IntKind.bits, IntKind.min, IntKind.max]; omega
  refine wpT_begin (S := (fun wx => wx.heap[A6]? = some (.cells (stC (delS [liq (-x)]) ⟨a2_6, n2_6, c2_6, a3_6, n3_6, c3_6, a4_6, n4_6, c4_6, (some ⟨rb6, ro6, none⟩), 1, c6_6, a11_6, n11_6, c11_6⟩) 33 (0, 0)) ∧ wx.heap[A7]? = some (.cells (stC (delS [colx, liq x, opO 9]) ⟨a2_7, n2_7, c2_7, a3_7, n3_7, c3_7, a4_7, n4_7, c4_7, (some ⟨rb7, ro7, none⟩), 3, c6_7, a11_7, n11_7, c11_7⟩) 33 (0, 0)) ∧ wx.heap[A8]? = some (.cells (stC (delS [colx, liq (-x), opO 9]) ⟨a2_8, n2_8, c2_8, a3_8, n3_8, c3_8, a4_8, n4_8, c4_8, (some ⟨rb8, ro8, none⟩), 3, c6_8, a11_8, n11_8, c11_8⟩) 33 (0, 0)) ∧ wx.cell? ⟨rb6, ro6 + 1, none⟩ = some (.int .i64 2) ∧ wx.cell? ⟨rb6, ro6 + 2, none⟩ = some (.int .i64 (-x)) ∧ wx.cell? ⟨rb6, ro6 + 3, none⟩ = some (.string ⟨#[]⟩) ∧ wx.cell? ⟨rb7, ro7 + 6, none⟩ = some (.int .i64 2) ∧ wx.cell? ⟨rb7, ro7 + 7, none⟩ = some (.int .i64 x) ∧ wx.cell? ⟨rb7, ro7 + 8, none⟩ = some (.string ⟨#[]⟩) ∧ wx.cell? ⟨rb8, ro8 + 6, none⟩ = some (.int .i64 2) ∧ wx.cell? ⟨rb8, ro8 + 7, none⟩ = some (.int .i64 (-x)) ∧ wx.cell? ⟨rb8, ro8 + 8, none⟩ = some (.string ⟨#[]⟩) ∧ wx.cell? ⟨rb8, ro8 + 10, none⟩ = some (.int .i64 9))) [] (by kernel_rfl) ?_ (fun hHeld => ?_)
  · (try dsimp only)
    (first | (exact ⟨j0, j1, j2, j3, j4, j5, j6, j7, j8, j9, j10, j11, j12⟩) | (exact ⟨HG6.out.1, HG7.out.1, HG8.out.1, cell_dr k0, cell_dr k1, cell_dr k2, cell_dr k3, cell_dr k4, cell_dr k5, cell_dr k6, cell_dr k7, cell_dr k8, cell_dr k9⟩))
  refine wpAnyT_pure (i := 0) (oi := _) (v := ?_) rfl (by kernel_rfl) (by kernel_rfl) (by kernel_rfl) (by kernel_rfl) (fun _ _ _ h => h) (Or.inl ⟨by rfl, ?_⟩) (fun _ => by assumption) ?_
  rotate_left
  · (intro w hSw; go_simp)
    all_goals (with_reducible rfl)
  (try simp only [List.getElem_toArray, List.getElem_cons_zero, List.getElem_cons_succ, Act.put, List.setIfInBounds_toArray, List.set_cons_zero, List.set_cons_succ])
  refine wpAnyT_take (i := 1) (oi := _) (v := ?_) rfl (by kernel_rfl) (by kernel_rfl) (by kernel_rfl) (by kernel_rfl) (fun _ _ _ h => h) (Or.inl ⟨by rfl, ?_⟩) (by assumption) ?_
  rotate_left
  · (intro w hSw; (try dsimp only at hSw); obtain ⟨sA, sB, sC, q0, q1, q2, q3, q4, q5, q6, q7, q8, q9⟩ := hSw; obtain ⟨x0, x1, x2, x3, x4, x5, x6, x7, x8, x9, x10, x11, -⟩ := box12 sA; obtain ⟨y0, y1, y2, y3, y4, y5, y6, y7, y8, y9, y10, y11, -⟩ := box12 sB; obtain ⟨z0, z1, z2, z3, z4, z5, z6, z7, z8, z9, z10, z11, -⟩ := box12 sC; go_simp)
    all_goals (with_reducible rfl)
  (try simp only [List.getElem_toArray, List.getElem_cons_zero, List.getElem_cons_succ, Act.put, List.setIfInBounds_toArray, List.set_cons_zero, List.set_cons_succ])
  refine wpAnyT_pure (i := 2) (oi := _) (v := ?_) rfl (by kernel_rfl) (by kernel_rfl) (by kernel_rfl) (by kernel_rfl) (fun _ _ _ h => h) (Or.inl ⟨by rfl, ?_⟩) (fun _ => by assumption) ?_
  rotate_left
  · (intro w hSw; go_simp)
    all_goals (with_reducible rfl)
  (try simp only [List.getElem_toArray, List.getElem_cons_zero, List.getElem_cons_succ, Act.put, List.setIfInBounds_toArray, List.set_cons_zero, List.set_cons_succ])
  refine wpAnyT_pure (i := 3) (oi := _) (v := ?_) rfl (by kernel_rfl) (by kernel_rfl) (by kernel_rfl) (by kernel_rfl) (fun _ _ _ h => h) (Or.inl ⟨by rfl, ?_⟩) (fun _ => by assumption) ?_
  rotate_left
  · (intro w hSw; go_simp)
    all_goals (with_reducible rfl)
  (try simp only [List.getElem_toArray, List.getElem_cons_zero, List.getElem_cons_succ, Act.put, List.setIfInBounds_toArray, List.set_cons_zero, List.set_cons_succ])
  refine wpAnyT_pure (i := 4) (oi := _) (v := ?_) rfl (by kernel_rfl) (by kernel_rfl) (by kernel_rfl) (by kernel_rfl) (fun _ _ _ h => h) (Or.inl ⟨by rfl, ?_⟩) (fun _ => by assumption) ?_
  rotate_left
  · (intro w hSw; go_simp)
    all_goals (with_reducible rfl)
  (try simp only [List.getElem_toArray, List.getElem_cons_zero, List.getElem_cons_succ, Act.put, List.setIfInBounds_toArray, List.set_cons_zero, List.set_cons_succ])
  refine wpAnyT_pure (i := 5) (oi := _) (v := ?_) rfl (by kernel_rfl) (by kernel_rfl) (by kernel_rfl) (by kernel_rfl) (fun _ _ _ h => h) (Or.inl ⟨by rfl, ?_⟩) (fun _ => by assumption) ?_
  rotate_left
  · (intro w hSw; go_simp)
    all_goals (with_reducible rfl)
  (try simp only [List.getElem_toArray, List.getElem_cons_zero, List.getElem_cons_succ, Act.put, List.setIfInBounds_toArray, List.set_cons_zero, List.set_cons_succ])
  refine wpAnyT_take (i := 6) (oi := _) (v := ?_) rfl (by kernel_rfl) (by kernel_rfl) (by kernel_rfl) (by kernel_rfl) (fun _ _ _ h => h) (Or.inl ⟨by rfl, ?_⟩) (by assumption) ?_
  rotate_left
  · (intro w hSw; (try dsimp only at hSw); obtain ⟨sA, sB, sC, q0, q1, q2, q3, q4, q5, q6, q7, q8, q9⟩ := hSw; obtain ⟨x0, x1, x2, x3, x4, x5, x6, x7, x8, x9, x10, x11, -⟩ := box12 sA; obtain ⟨y0, y1, y2, y3, y4, y5, y6, y7, y8, y9, y10, y11, -⟩ := box12 sB; obtain ⟨z0, z1, z2, z3, z4, z5, z6, z7, z8, z9, z10, z11, -⟩ := box12 sC; go_simp)
    all_goals (with_reducible rfl)
  (try simp only [List.getElem_toArray, List.getElem_cons_zero, List.getElem_cons_succ, Act.put, List.setIfInBounds_toArray, List.set_cons_zero, List.set_cons_succ])
  refine wpAnyT_pure (i := 7) (oi := _) (v := ?_) rfl (by kernel_rfl) (by kernel_rfl) (by kernel_rfl) (by kernel_rfl) (fun _ _ _ h => h) (Or.inl ⟨by rfl, ?_⟩) (fun _ => by assumption) ?_
  rotate_left
  · (intro w hSw; go_simp)
    all_goals (with_reducible rfl)
  (try simp only [List.getElem_toArray, List.getElem_cons_zero, List.getElem_cons_succ, Act.put, List.setIfInBounds_toArray, List.set_cons_zero, List.set_cons_succ])
  refine wpAnyT_pure (i := 8) (oi := _) (v := ?_) rfl (by kernel_rfl) (by kernel_rfl) (by kernel_rfl) (by kernel_rfl) (fun _ _ _ h => h) (Or.inl ⟨by rfl, ?_⟩) (fun _ => by assumption) ?_
  rotate_left
  · (intro w hSw; go_simp)
    all_goals (with_reducible rfl)
  (try simp only [List.getElem_toArray, List.getElem_cons_zero, List.getElem_cons_succ, Act.put, List.setIfInBounds_toArray, List.set_cons_zero, List.set_cons_succ])
  refine wpAnyT_take (i := 9) (oi := _) (v := ?_) rfl (by kernel_rfl) (by kernel_rfl) (by kernel_rfl) (by kernel_rfl) (fun _ _ _ h => h) (Or.inl ⟨by rfl, ?_⟩) (by assumption) ?_
  rotate_left
  · (intro w hSw; (try dsimp only at hSw); obtain ⟨sA, sB, sC, q0, q1, q2, q3, q4, q5, q6, q7, q8, q9⟩ := hSw; obtain ⟨x0, x1, x2, x3, x4, x5, x6, x7, x8, x9, x10, x11, -⟩ := box12 sA; obtain ⟨y0, y1, y2, y3, y4, y5, y6, y7, y8, y9, y10, y11, -⟩ := box12 sB; obtain ⟨z0, z1, z2, z3, z4, z5, z6, z7, z8, z9, z10, z11, -⟩ := box12 sC; go_simp)
    all_goals (with_reducible rfl)
  (try simp only [List.getElem_toArray, List.getElem_cons_zero, List.getElem_cons_succ, Act.put, List.setIfInBounds_toArray, List.set_cons_zero, List.set_cons_succ])
  refine wpAnyT_pure (i := 10) (oi := _) (v := ?_) rfl (by kernel_rfl) (by kernel_rfl) (by kernel_rfl) (by kernel_rfl) (fun _ _ _ h => h) (Or.inl ⟨by rfl, ?_⟩) (fun _ => by assumption) ?_
  rotate_left
  · (intro w hSw; go_simp)
    all_goals (with_reducible rfl)
  (try simp only [List.getElem_toArray, List.getElem_cons_zero, List.getElem_cons_succ, Act.put, List.setIfInBounds_toArray, List.set_cons_zero, List.set_cons_succ])
  refine wpAnyT_pure (i := 11) (oi := _) (v := ?_) rfl (by kernel_rfl) (by kernel_rfl) (by kernel_rfl) (by kernel_rfl) (fun _ _ _ h => h) (Or.inl ⟨by rfl, ?_⟩) (fun _ => by assumption) ?_
  rotate_left
  · (intro w hSw; go_simp)
    all_goals (with_reducible rfl)
  (try simp only [List.getElem_toArray, List.getElem_cons_zero, List.getElem_cons_succ, Act.put, List.setIfInBounds_toArray, List.set_cons_zero, List.set_cons_succ])
  refine wpAnyT_ready (rs := [12]) (by kernel_rfl) (by simp) ?_
  refine AllReadyT.cons rfl (fun K hK => ?_) AllReadyT.nil
  go_simp
  (go_at_call 17; ((refine (HN.out _ _).mono ?_); rintro e y12 ⟨rfl, hb12⟩; have j0 := (hb12.block A6 (blk_lt HG6.out.1)).trans HG6.out.1; have j1 := (hb12.block A7 (blk_lt HG7.out.1)).trans HG7.out.1; have j2 := (hb12.block A8 (blk_lt HG8.out.1)).trans HG8.out.1; have j3 := (hb12.cell (lt_cell (cell_dr k0))).trans (cell_dr k0); have j4 := (hb12.cell (lt_cell (cell_dr k1))).trans (cell_dr k1); have j5 := (hb12.cell (lt_cell (cell_dr k2))).trans (cell_dr k2); have j6 := (hb12.cell (lt_cell (cell_dr k3))).trans (cell_dr k3); have j7 := (hb12.cell (lt_cell (cell_dr k4))).trans (cell_dr k4); have j8 := (hb12.cell (lt_cell (cell_dr k5))).trans (cell_dr k5); have j9 := (hb12.cell (lt_cell (cell_dr k6))).trans (cell_dr k6); have j10 := (hb12.cell (lt_cell (cell_dr k7))).trans (cell_dr k7); have j11 := (hb12.cell (lt_cell (cell_dr k8))).trans (cell_dr k8); have j12 := (hb12.cell (lt_cell (cell_dr k9))).trans (cell_dr k9); have HB12 := Lib.hid (into HBW.out.drew hb12); clear hb12))
  go_wp2_with fail
  refine hK.out _ _ (fun _ => ?_) (fun hHeld0 => ?_)
  · (try dsimp only)
    (first | (exact ⟨j0, j1, j2, j3, j4, j5, j6, j7, j8, j9, j10, j11, j12⟩) | (exact ⟨HG6.out.1, HG7.out.1, HG8.out.1, cell_dr k0, cell_dr k1, cell_dr k2, cell_dr k3, cell_dr k4, cell_dr k5, cell_dr k6, cell_dr k7, cell_dr k8, cell_dr k9⟩))
  have hHeld := hHeld0 (by kernel_rfl)
  clear hK K hHeld0
  (try simp only [List.getElem_toArray, List.getElem_cons_zero, List.getElem_cons_succ, Act.put, List.setIfInBounds_toArray, List.set_cons_zero, List.set_cons_succ])
  refine wpAnyT_pure (i := 13) (oi := _) (v := ?_) rfl (by kernel_rfl) (by kernel_rfl) (by kernel_rfl) (by kernel_rfl) (fun _ _ _ h => h) (Or.inl ⟨by rfl, ?_⟩) (fun _ => by assumption) ?_
  rotate_left
  · (intro w hSw; go_simp)
    all_goals (with_reducible rfl)
  (try simp only [List.getElem_toArray, List.getElem_cons_zero, List.getElem_cons_succ, Act.put, List.setIfInBounds_toArray, List.set_cons_zero, List.set_cons_succ])
  refine wpAnyT_pure (i := 14) (oi := _) (v := ?_) rfl (by kernel_rfl) (by kernel_rfl) (by kernel_rfl) (by kernel_rfl) (fun _ _ _ h => h) (Or.inl ⟨by rfl, ?_⟩) (fun _ => by assumption) ?_
  rotate_left
  · (intro w hSw; go_simp)
    all_goals (with_reducible rfl)
  (try simp only [List.getElem_toArray, List.getElem_cons_zero, List.getElem_cons_succ, Act.put, List.setIfInBounds_toArray, List.set_cons_zero, List.set_cons_succ])
  refine wpAnyT_pure (i := 15) (oi := _) (v := ?_) rfl (by kernel_rfl) (by kernel_rfl) (by kernel_rfl) (by kernel_rfl) (fun _ _ _ h => h) (Or.inl ⟨by rfl, ?_⟩) (fun _ => by assumption) ?_
  rotate_left
  · (intro w hSw; go_simp)
    all_goals (with_reducible rfl)
  (try simp only [List.getElem_toArray, List.getElem_cons_zero, List.getElem_cons_succ, Act.put, List.setIfInBounds_toArray, List.set_cons_zero, List.set_cons_succ])
  refine wpAnyT_pure (i := 16) (oi := _) (v := ?_) rfl (by kernel_rfl) (by kernel_rfl) (by kernel_rfl) (by kernel_rfl) (fun _ _ _ h => h) (Or.inl ⟨by rfl, ?_⟩) (fun _ => by assumption) ?_
  rotate_left
  · (intro w hSw; go_simp)
    all_goals (with_reducible rfl)
  (try simp only [List.getElem_toArray, List.getElem_cons_zero, List.getElem_cons_succ, Act.put, List.setIfInBounds_toArray, List.set_cons_zero, List.set_cons_succ])
  refine wpAnyT_take (i := 17) (oi := _) (v := ?_) rfl (by kernel_rfl) (by kernel_rfl) (by kernel_rfl) (by kernel_rfl) (fun _ _ _ h => h) (Or.inl ⟨by rfl, ?_⟩) (by assumption) ?_
  rotate_left
  · (intro w hSw; (try dsimp only at hSw); obtain ⟨sA, sB, sC, q0, q1, q2, q3, q4, q5, q6, q7, q8, q9⟩ := hSw; obtain ⟨x0, x1, x2, x3, x4, x5, x6, x7, x8, x9, x10, x11, -⟩ := box12 sA; obtain ⟨y0, y1, y2, y3, y4, y5, y6, y7, y8, y9, y10, y11, -⟩ := box12 sB; obtain ⟨z0, z1, z2, z3, z4, z5, z6, z7, z8, z9, z10, z11, -⟩ := box12 sC; go_simp)
    all_goals (with_reducible rfl)
  (try simp only [List.getElem_toArray, List.getElem_cons_zero, List.getElem_cons_succ, Act.put, List.setIfInBounds_toArray, List.set_cons_zero, List.set_cons_succ])
  refine wpAnyT_pure (i := 18) (oi := _) (v := ?_) rfl (by kernel_rfl) (by kernel_rfl) (by kernel_rfl) (by kernel_rfl) (fun _ _ _ h => h) (Or.inl ⟨by rfl, ?_⟩) (fun _ => by assumption) ?_
  rotate_left
  · (intro w hSw; go_simp)
    all_goals (with_reducible rfl)
  (try simp only [List.getElem_toArray, List.getElem_cons_zero, List.getElem_cons_succ, Act.put, List.setIfInBounds_toArray, List.set_cons_zero, List.set_cons_succ])
  refine wpAnyT_pure (i := 19) (oi := _) (v := ?_) rfl (by kernel_rfl) (by kernel_rfl) (by kernel_rfl) (by kernel_rfl) (fun _ _ _ h => h) (Or.inl ⟨by rfl, ?_⟩) (fun _ => by assumption) ?_
  rotate_left
  · (intro w hSw; go_simp)
    all_goals (with_reducible rfl)
  (try simp only [List.getElem_toArray, List.getElem_cons_zero, List.getElem_cons_succ, Act.put, List.setIfInBounds_toArray, List.set_cons_zero, List.set_cons_succ])
  refine wpAnyT_pure (i := 20) (oi := _) (v := ?_) rfl (by kernel_rfl) (by kernel_rfl) (by kernel_rfl) (by kernel_rfl) (fun _ _ _ h => h) (Or.inl ⟨by rfl, ?_⟩) (fun _ => by assumption) ?_
  rotate_left
  · (intro w hSw; go_simp)
    all_goals (with_reducible rfl)
  (try simp only [List.getElem_toArray, List.getElem_cons_zero, List.getElem_cons_succ, Act.put, List.setIfInBounds_toArray, List.set_cons_zero, List.set_cons_succ])
  refine wpAnyT_pure (i := 21) (oi := _) (v := ?_) rfl (by kernel_rfl) (by kernel_rfl) (by kernel_rfl) (by kernel_rfl) (fun _ _ _ h => h) (Or.inl ⟨by rfl, ?_⟩) (fun _ => by assumption) ?_
  rotate_left
  · (intro w hSw; go_simp)
    all_goals (with_reducible rfl)
  (try simp only [List.getElem_toArray, List.getElem_cons_zero, List.getElem_cons_succ, Act.put, List.setIfInBounds_toArray, List.set_cons_zero, List.set_cons_succ])
  refine wpAnyT_pure (i := 22) (oi := _) (v := ?_) rfl (by kernel_rfl) (by kernel_rfl) (by kernel_rfl) (by kernel_rfl) (fun _ _ _ h => h) (Or.inl ⟨by rfl, ?_⟩) (fun _ => by assumption) ?_
  rotate_left
  · (intro w hSw; go_simp)
    all_goals (with_reducible rfl)
  (try simp only [List.getElem_toArray, List.getElem_cons_zero, List.getElem_cons_succ, Act.put, List.setIfInBounds_toArray, List.set_cons_zero, List.set_cons_succ])
  refine wpAnyT_take (i := 23) (oi := _) (v := ?_) rfl (by kernel_rfl) (by kernel_rfl) (by kernel_rfl) (by kernel_rfl) (fun _ _ _ h => h) (Or.inl ⟨by rfl, ?_⟩) (by assumption) ?_
  rotate_left
  · (intro w hSw; (try dsimp only at hSw); obtain ⟨sA, sB, sC, q0, q1, q2, q3, q4, q5, q6, q7, q8, q9⟩ := hSw; obtain ⟨x0, x1, x2, x3, x4, x5, x6, x7, x8, x9, x10, x11, -⟩ := box12 sA; obtain ⟨y0, y1, y2, y3, y4, y5, y6, y7, y8, y9, y10, y11, -⟩ := box12 sB; obtain ⟨z0, z1, z2, z3, z4, z5, z6, z7, z8, z9, z10, z11, -⟩ := box12 sC; go_simp)
    all_goals (with_reducible rfl)
  (try simp only [List.getElem_toArray, List.getElem_cons_zero, List.getElem_cons_succ, Act.put, List.setIfInBounds_toArray, List.set_cons_zero, List.set_cons_succ])
  refine wpAnyT_pure (i := 24) (oi := _) (v := ?_) rfl (by kernel_rfl) (by kernel_rfl) (by kernel_rfl) (by kernel_rfl) (fun _ _ _ h => h) (Or.inl ⟨by rfl, ?_⟩) (fun _ => by assumption) ?_
  rotate_left
  · (intro w hSw; go_simp)
    all_goals (with_reducible rfl)
  (try simp only [List.getElem_toArray, List.getElem_cons_zero, List.getElem_cons_succ, Act.put, List.setIfInBounds_toArray, List.set_cons_zero, List.set_cons_succ])
  refine wpAnyT_pure (i := 25) (oi := _) (v := ?_) rfl (by kernel_rfl) (by kernel_rfl) (by kernel_rfl) (by kernel_rfl) (fun _ _ _ h => h) (Or.inl ⟨by rfl, ?_⟩) (fun _ => by assumption) ?_
  rotate_left
  · (intro w hSw; go_simp)
    all_goals (with_reducible rfl)
  (try simp only [List.getElem_toArray, List.getElem_cons_zero, List.getElem_cons_succ, Act.put, List.setIfInBounds_toArray, List.set_cons_zero, List.set_cons_succ])
  refine wpAnyT_take (i := 26) (oi := _) (v := ?_) rfl (by kernel_rfl) (by kernel_rfl) (by kernel_rfl) (by kernel_rfl) (fun _ _ _ h => h) (Or.inl ⟨by rfl, ?_⟩) (by assumption) ?_
  rotate_left
  · (intro w hSw; (try dsimp only at hSw); obtain ⟨sA, sB, sC, q0, q1, q2, q3, q4, q5, q6, q7, q8, q9⟩ := hSw; obtain ⟨x0, x1, x2, x3, x4, x5, x6, x7, x8, x9, x10, x11, -⟩ := box12 sA; obtain ⟨y0, y1, y2, y3, y4, y5, y6, y7, y8, y9, y10, y11, -⟩ := box12 sB; obtain ⟨z0, z1, z2, z3, z4, z5, z6, z7, z8, z9, z10, z11, -⟩ := box12 sC; go_simp)
    all_goals (with_reducible rfl)
  (try simp only [List.getElem_toArray, List.getElem_cons_zero, List.getElem_cons_succ, Act.put, List.setIfInBounds_toArray, List.set_cons_zero, List.set_cons_succ])
  refine wpAnyT_pure (i := 27) (oi := _) (v := ?_) rfl (by kernel_rfl) (by kernel_rfl) (by kernel_rfl) (by kernel_rfl) (fun _ _ _ h => h) (Or.inl ⟨by rfl, ?_⟩) (fun _ => by assumption) ?_
  rotate_left
  · (intro w hSw; go_simp)
    all_goals (with_reducible rfl)
  (try simp only [List.getElem_toArray, List.getElem_cons_zero, List.getElem_cons_succ, Act.put, List.setIfInBounds_toArray, List.set_cons_zero, List.set_cons_succ])
  refine wpAnyT_ready (rs := [28]) (by kernel_rfl) (by simp) ?_
  refine AllReadyT.cons rfl (fun K hK => ?_) AllReadyT.nil
  go_simp
  (go_at_call 17; ((refine (HN.out _ _).mono ?_); rintro e y28 ⟨rfl, hb28⟩; have j0 := (hb28.block A6 (blk_lt j0)).trans j0; have j1 := (hb28.block A7 (blk_lt j1)).trans j1; have j2 := (hb28.block A8 (blk_lt j2)).trans j2; have j3 := (hb28.cell (lt_cell j3)).trans j3; have j4 := (hb28.cell (lt_cell j4)).trans j4; have j5 := (hb28.cell (lt_cell j5)).trans j5; have j6 := (hb28.cell (lt_cell j6)).trans j6; have j7 := (hb28.cell (lt_cell j7)).trans j7; have j8 := (hb28.cell (lt_cell j8)).trans j8; have j9 := (hb28.cell (lt_cell j9)).trans j9; have j10 := (hb28.cell (lt_cell j10)).trans j10; have j11 := (hb28.cell (lt_cell j11)).trans j11; have j12 := (hb28.cell (lt_cell j12)).trans j12; have HB28 := Lib.hid (into HB12.out hb28); clear hb28))
  go_wp2_with fail
  refine hK.out _ _ (fun _ => ?_) (fun hHeld0 => ?_)
  · (try dsimp only)
    (first | (exact ⟨j0, j1, j2, j3, j4, j5, j6, j7, j8, j9, j10, j11, j12⟩) | (exact ⟨HG6.out.1, HG7.out.1, HG8.out.1, cell_dr k0, cell_dr k1, cell_dr k2, cell_dr k3, cell_dr k4, cell_dr k5, cell_dr k6, cell_dr k7, cell_dr k8, cell_dr k9⟩))
  have hHeld := hHeld0 (by kernel_rfl)
  clear hK K hHeld0
  (try simp only [List.getElem_toArray, List.getElem_cons_zero, List.getElem_cons_succ, Act.put, List.setIfInBounds_toArray, List.set_cons_zero, List.set_cons_succ])
  refine wpAnyT_pure (i := 29) (oi := _) (v := ?_) rfl (by kernel_rfl) (by kernel_rfl) (by kernel_rfl) (by kernel_rfl) (fun _ _ _ h => h) (Or.inl ⟨by rfl, ?_⟩) (fun _ => by assumption) ?_
  rotate_left
  · (intro w hSw; go_simp)
    all_goals (with_reducible rfl)
  (try simp only [List.getElem_toArray, List.getElem_cons_zero, List.getElem_cons_succ, Act.put, List.setIfInBounds_toArray, List.set_cons_zero, List.set_cons_succ])
  refine wpAnyT_pure (i := 30) (oi := _) (v := ?_) rfl (by kernel_rfl) (by kernel_rfl) (by kernel_rfl) (by kernel_rfl) (fun _ _ _ h => h) (Or.inl ⟨by rfl, ?_⟩) (fun _ => by assumption) ?_
  rotate_left
  · (intro w hSw; go_simp)
    all_goals (with_reducible rfl)
  (try simp only [List.getElem_toArray, List.getElem_cons_zero, List.getElem_cons_succ, Act.put, List.setIfInBounds_toArray, List.set_cons_zero, List.set_cons_succ])
  refine wpAnyT_pure (i := 31) (oi := _) (v := ?_) rfl (by kernel_rfl) (by kernel_rfl) (by kernel_rfl) (by kernel_rfl) (fun _ _ _ h => h) (Or.inl ⟨by rfl, ?_⟩) (fun _ => by assumption) ?_
  rotate_left
  · (intro w hSw; go_simp)
    all_goals (with_reducible rfl)
  (try simp only [List.getElem_toArray, List.getElem_cons_zero, List.getElem_cons_succ, Act.put, List.setIfInBounds_toArray, List.set_cons_zero, List.set_cons_succ])
  refine wpAnyT_pure (i := 32) (oi := _) (v := ?_) rfl (by kernel_rfl) (by kernel_rfl) (by kernel_rfl) (by kernel_rfl) (fun _ _ _ h => h) (Or.inl ⟨by rfl, ?_⟩) (fun _ => by assumption) ?_
  rotate_left
  · (intro w hSw; go_simp)
    all_goals (with_reducible rfl)
  (try simp only [List.getElem_toArray, List.getElem_cons_zero, List.getElem_cons_succ, Act.put, List.setIfInBounds_toArray, List.set_cons_zero, List.set_cons_succ])
  refine wpAnyT_take (i := 33) (oi := _) (v := ?_) rfl (by kernel_rfl) (by kernel_rfl) (by kernel_rfl) (by kernel_rfl) (fun _ _ _ h => h) (Or.inl ⟨by rfl, ?_⟩) (by assumption) ?_
  rotate_left
  · (intro w hSw; (try dsimp only at hSw); obtain ⟨sA, sB, sC, q0, q1, q2, q3, q4, q5, q6, q7, q8, q9⟩ := hSw; obtain ⟨x0, x1, x2, x3, x4, x5, x6, x7, x8, x9, x10, x11, -⟩ := box12 sA; obtain ⟨y0, y1, y2, y3, y4, y5, y6, y7, y8, y9, y10, y11, -⟩ := box12 sB; obtain ⟨z0, z1, z2, z3, z4, z5, z6, z7, z8, z9, z10, z11, -⟩ := box12 sC; go_simp)
    all_goals (with_reducible rfl)
  (try simp only [List.getElem_toArray, List.getElem_cons_zero, List.getElem_cons_succ, Act.put, List.setIfInBounds_toArray, List.set_cons_zero, List.set_cons_succ])
  refine wpAnyT_pure (i := 34) (oi := _) (v := ?_) rfl (by kernel_rfl) (by kernel_rfl) (by kernel_rfl) (by kernel_rfl) (fun _ _ _ h => h) (Or.inl ⟨by rfl, ?_⟩) (fun _ => by assumption) ?_
  rotate_left
  · (intro w hSw; go_simp)
    all_goals (with_reducible rfl)
  (try simp only [List.getElem_toArray, List.getElem_cons_zero, List.getElem_cons_succ, Act.put, List.setIfInBounds_toArray, List.set_cons_zero, List.set_cons_succ])
  refine wpAnyT_pure (i := 35) (oi := _) (v := ?_) rfl (by kernel_rfl) (by kernel_rfl) (by kernel_rfl) (by kernel_rfl) (fun _ _ _ h => h) (Or.inl ⟨by rfl, ?_⟩) (fun _ => by assumption) ?_
  rotate_left
  · (intro w hSw; go_simp)
    all_goals (with_reducible rfl)
  (try simp only [List.getElem_toArray, List.getElem_cons_zero, List.getElem_cons_succ, Act.put, List.setIfInBounds_toArray, List.set_cons_zero, List.set_cons_succ])
  refine wpAnyT_pure (i := 36) (oi := _) (v := ?_) rfl (by kernel_rfl) (by kernel_rfl) (by kernel_rfl) (by kernel_rfl) (fun _ _ _ h => h) (Or.inl ⟨by rfl, ?_⟩) (fun _ => by assumption) ?_
  rotate_left
  · (intro w hSw; go_simp)
    all_goals (with_reducible rfl)
  (try simp only [List.getElem_toArray, List.getElem_cons_zero, List.getElem_cons_succ, Act.put, List.setIfInBounds_toArray, List.set_cons_zero, List.set_cons_succ])
  refine wpAnyT_pure (i := 37) (oi := _) (v := ?_) rfl (by kernel_rfl) (by kernel_rfl) (by kernel_rfl) (by kernel_rfl) (fun _ _ _ h => h) (Or.inl ⟨by rfl, ?_⟩) (fun _ => by assumption) ?_
  rotate_left
  · (intro w hSw; go_simp)
    all_goals (with_reducible rfl)
  (try simp only [List.getElem_toArray, List.getElem_cons_zero, List.getElem_cons_succ, Act.put, List.setIfInBounds_toArray, List.set_cons_zero, List.set_cons_succ])
  refine wpAnyT_pure (i := 38) (oi := _) (v := ?_) rfl (by kernel_rfl) (by kernel_rfl) (by kernel_rfl) (by kernel_rfl) (fun _ _ _ h => h) (Or.inl ⟨by rfl, ?_⟩) (fun _ => by assumption) ?_
  rotate_left
  · (intro w hSw; go_simp)
    all_goals (with_reducible rfl)
  (try simp only [List.getElem_toArray, List.getElem_cons_zero, List.getElem_cons_succ, Act.put, List.setIfInBounds_toArray, List.set_cons_zero, List.set_cons_succ])
  refine wpAnyT_take (i := 39) (oi := _) (v := ?_) rfl (by kernel_rfl) (by kernel_rfl) (by kernel_rfl) (by kernel_rfl) (fun _ _ _ h => h) (Or.inl ⟨by rfl, ?_⟩) (by assumption) ?_
  rotate_left
  · (intro w hSw; (try dsimp only at hSw); obtain ⟨sA, sB, sC, q0, q1, q2, q3, q4, q5, q6, q7, q8, q9⟩ := hSw; obtain ⟨x0, x1, x2, x3, x4, x5, x6, x7, x8, x9, x10, x11, -⟩ := box12 sA; obtain ⟨y0, y1, y2, y3, y4, y5, y6, y7, y8, y9, y10, y11, -⟩ := box12 sB; obtain ⟨z0, z1, z2, z3, z4, z5, z6, z7, z8, z9, z10, z11, -⟩ := box12 sC; go_simp)
    all_goals (with_reducible rfl)
  (try simp only [List.getElem_toArray, List.getElem_cons_zero, List.getElem_cons_succ, Act.put, List.setIfInBounds_toArray, List.set_cons_zero, List.set_cons_succ])
  refine wpAnyT_pure (i := 40) (oi := _) (v := ?_) rfl (by kernel_rfl) (by kernel_rfl) (by kernel_rfl) (by kernel_rfl) (fun _ _ _ h => h) (Or.inl ⟨by rfl, ?_⟩) (fun _ => by assumption) ?_
  rotate_left
  · (intro w hSw; go_simp)
    all_goals (with_reducible rfl)
  (try simp only [List.getElem_toArray, List.getElem_cons_zero, List.getElem_cons_succ, Act.put, List.setIfInBounds_toArray, List.set_cons_zero, List.set_cons_succ])
  refine wpAnyT_pure (i := 41) (oi := _) (v := ?_) rfl (by kernel_rfl) (by kernel_rfl) (by kernel_rfl) (by kernel_rfl) (fun _ _ _ h => h) (Or.inl ⟨by rfl, ?_⟩) (fun _ => by assumption) ?_
  rotate_left
  · (intro w hSw; go_simp)
    all_goals (with_reducible rfl)
  (try simp only [List.getElem_toArray, List.getElem_cons_zero, List.getElem_cons_succ, Act.put, List.setIfInBounds_toArray, List.set_cons_zero, List.set_cons_succ])
  refine wpAnyT_take (i := 42) (oi := _) (v := ?_) rfl (by kernel_rfl) (by kernel_rfl) (by kernel_rfl) (by kernel_rfl) (fun _ _ _ h => h) (Or.inl ⟨by rfl, ?_⟩) (by assumption) ?_
  rotate_left
  · (intro w hSw; (try dsimp only at hSw); obtain ⟨sA, sB, sC, q0, q1, q2, q3, q4, q5, q6, q7, q8, q9⟩ := hSw; obtain ⟨x0, x1, x2, x3, x4, x5, x6, x7, x8, x9, x10, x11, -⟩ := box12 sA; obtain ⟨y0, y1, y2, y3, y4, y5, y6, y7, y8, y9, y10, y11, -⟩ := box12 sB; obtain ⟨z0, z1, z2, z3, z4, z5, z6, z7, z8, z9, z10, z11, -⟩ := box12 sC; go_simp)
    all_goals (with_reducible rfl)
  (try simp only [List.getElem_toArray, List.getElem_cons_zero, List.getElem_cons_succ, Act.put, List.setIfInBounds_toArray, List.set_cons_zero, List.set_cons_succ])
  refine wpAnyT_pure (i := 43) (oi := _) (v := ?_) rfl (by kernel_rfl) (by kernel_rfl) (by kernel_rfl) (by kernel_rfl) (fun _ _ _ h => h) (Or.inl ⟨by rfl, ?_⟩) (fun _ => by assumption) ?_
  rotate_left
  · (intro w hSw; go_simp)
    all_goals (with_reducible rfl)
  (try simp only [List.getElem_toArray, List.getElem_cons_zero, List.getElem_cons_succ, Act.put, List.setIfInBounds_toArray, List.set_cons_zero, List.set_cons_succ])
  refine wpAnyT_pure (i := 44) (oi := _) (v := ?_) rfl (by kernel_rfl) (by kernel_rfl) (by kernel_rfl) (by kernel_rfl) (fun _ _ _ h => h) (Or.inl ⟨by rfl, ?_⟩) (fun _ => by assumption) ?_
  rotate_left
  · (intro w hSw; go_simp)
    all_goals (with_reducible rfl)
  (try simp only [List.getElem_toArray, List.getElem_cons_zero, List.getElem_cons_succ, Act.put, List.setIfInBounds_toArray, List.set_cons_zero, List.set_cons_succ])
  refine wpAnyT_ready (rs := [45]) (by kernel_rfl) (by simp) ?_
  refine AllReadyT.cons rfl (fun K hK => ?_) AllReadyT.nil
  go_simp
  (go_at_call 17; ((refine (HN.out _ _).mono ?_); rintro e y45 ⟨rfl, hb45⟩; have j0 := (hb45.block A6 (blk_lt j0)).trans j0; have j1 := (hb45.block A7 (blk_lt j1)).trans j1; have j2 := (hb45.block A8 (blk_lt j2)).trans j2; have j3 := (hb45.cell (lt_cell j3)).trans j3; have j4 := (hb45.cell (lt_cell j4)).trans j4; have j5 := (hb45.cell (lt_cell j5)).trans j5; have j6 := (hb45.cell (lt_cell j6)).trans j6; have j7 := (hb45.cell (lt_cell j7)).trans j7; have j8 := (hb45.cell (lt_cell j8)).trans j8; have j9 := (hb45.cell (lt_cell j9)).trans j9; have j10 := (hb45.cell (lt_cell j10)).trans j10; have j11 := (hb45.cell (lt_cell j11)).trans j11; have j12 := (hb45.cell (lt_cell j12)).trans j12; have HB45 := Lib.hid (into HB28.out hb45); clear hb45))
  go_wp2_with fail
  refine hK.out _ _ (fun _ => ?_) (fun hHeld0 => ?_)
  · (try dsimp only)
    (first | (exact ⟨j0, j1, j2, j3, j4, j5, j6, j7, j8, j9, j10, j11, j12⟩) | (exact ⟨HG6.out.1, HG7.out.1, HG8.out.1, cell_dr k0, cell_dr k1, cell_dr k2, cell_dr k3, cell_dr k4, cell_dr k5, cell_dr k6, cell_dr k7, cell_dr k8, cell_dr k9⟩))
  have hHeld := hHeld0 (by kernel_rfl)
  clear hK K hHeld0
  (try simp only [List.getElem_toArray, List.getElem_cons_zero, List.getElem_cons_succ, Act.put, List.setIfInBounds_toArray, List.set_cons_zero, List.set_cons_succ])
  refine wpAnyT_pure (i := 46) (oi := _) (v := ?_) rfl (by kernel_rfl) (by kernel_rfl) (by kernel_rfl) (by kernel_rfl) (fun _ _ _ h => h) (Or.inl ⟨by rfl, ?_⟩) (fun _ => by assumption) ?_
  rotate_left
  · (intro w hSw; go_simp)
    all_goals (with_reducible rfl)
  (try simp only [List.getElem_toArray, List.getElem_cons_zero, List.getElem_cons_succ, Act.put, List.setIfInBounds_toArray, List.set_cons_zero, List.set_cons_succ])
  refine wpAnyT_pure (i := 47) (oi := _) (v := ?_) rfl (by kernel_rfl) (by kernel_rfl) (by kernel_rfl) (by kernel_rfl) (fun _ _ _ h => h) (Or.inl ⟨by rfl, ?_⟩) (fun _ => by assumption) ?_
  rotate_left
  · (intro w hSw; go_simp)
    all_goals (with_reducible rfl)
  (try simp only [List.getElem_toArray, List.getElem_cons_zero, List.getElem_cons_succ, Act.put, List.setIfInBounds_toArray, List.set_cons_zero, List.set_cons_succ])
  refine wpAnyT_pure (i := 48) (oi := _) (v := ?_) rfl (by kernel_rfl) (by kernel_rfl) (by kernel_rfl) (by kernel_rfl) (fun _ _ _ h => h) (Or.inl ⟨by rfl, ?_⟩) (fun _ => by assumption) ?_
  rotate_left
  · (intro w hSw; go_simp)
    all_goals (with_reducible rfl)
  (try simp only [List.getElem_toArray, List.getElem_cons_zero, List.getElem_cons_succ, Act.put, List.setIfInBounds_toArray, List.set_cons_zero, List.set_cons_succ])
  refine wpAnyT_pure (i := 49) (oi := _) (v := ?_) rfl (by kernel_rfl) (by kernel_rfl) (by kernel_rfl) (by kernel_rfl) (fun _ _ _ h => h) (Or.inl ⟨by rfl, ?_⟩) (fun _ => by assumption) ?_
  rotate_left
  · (intro w hSw; go_simp)
    all_goals (with_reducible rfl)
  (try simp only [List.getElem_toArray, List.getElem_cons_zero, List.getElem_cons_succ, Act.put, List.setIfInBounds_toArray, List.set_cons_zero, List.set_cons_succ])
  refine wpAnyT_take (i := 50) (oi := _) (v := ?_) rfl (by kernel_rfl) (by kernel_rfl) (by kernel_rfl) (by kernel_rfl) (fun _ _ _ h => h) (Or.inl ⟨by rfl, ?_⟩) (by assumption) ?_
  rotate_left
  · (intro w hSw; (try dsimp only at hSw); obtain ⟨sA, sB, sC, q0, q1, q2, q3, q4, q5, q6, q7, q8, q9⟩ := hSw; obtain ⟨x0, x1, x2, x3, x4, x5, x6, x7, x8, x9, x10, x11, -⟩ := box12 sA; obtain ⟨y0, y1, y2, y3, y4, y5, y6, y7, y8, y9, y10, y11, -⟩ := box12 sB; obtain ⟨z0, z1, z2, z3, z4, z5, z6, z7, z8, z9, z10, z11, -⟩ := box12 sC; go_simp)
    all_goals (with_reducible rfl)
  (try simp only [List.getElem_toArray, List.getElem_cons_zero, List.getElem_cons_succ, Act.put, List.setIfInBounds_toArray, List.set_cons_zero, List.set_cons_succ])
  refine wpAnyT_pure (i := 51) (oi := _) (v := ?_) rfl (by kernel_rfl) (by kernel_rfl) (by kernel_rfl) (by kernel_rfl) (fun _ _ _ h => h) (Or.inl ⟨by rfl, ?_⟩) (fun _ => by assumption) ?_
  rotate_left
  · (intro w hSw; go_simp)
    all_goals (with_reducible rfl)
  (try simp only [List.getElem_toArray, List.getElem_cons_zero, List.getElem_cons_succ, Act.put, List.setIfInBounds_toArray, List.set_cons_zero, List.set_cons_succ])
  refine wpAnyT_pure (i := 52) (oi := _) (v := ?_) rfl (by kernel_rfl) (by kernel_rfl) (by kernel_rfl) (by kernel_rfl) (fun _ _ _ h => h) (Or.inl ⟨by rfl, ?_⟩) (fun _ => by assumption) ?_
  rotate_left
  · (intro w hSw; go_simp)
    all_goals (with_reducible rfl)
  (try simp only [List.getElem_toArray, List.getElem_cons_zero, List.getElem_cons_succ, Act.put, List.setIfInBounds_toArray, List.set_cons_zero, List.set_cons_succ])
  refine wpAnyT_take (i := 53) (oi := _) (v := ?_) rfl (by kernel_rfl) (by kernel_rfl) (by kernel_rfl) (by kernel_rfl) (fun _ _ _ h => h) (Or.inl ⟨by rfl, ?_⟩) (by assumption) ?_
  rotate_left
  · (intro w hSw; (try dsimp only at hSw); obtain ⟨sA, sB, sC, q0, q1, q2, q3, q4, q5, q6, q7, q8, q9⟩ := hSw; obtain ⟨x0, x1, x2, x3, x4, x5, x6, x7, x8, x9, x10, x11, -⟩ := box12 sA; obtain ⟨y0, y1, y2, y3, y4, y5, y6, y7, y8, y9, y10, y11, -⟩ := box12 sB; obtain ⟨z0, z1, z2, z3, z4, z5, z6, z7, z8, z9, z10, z11, -⟩ := box12 sC; go_simp)
    all_goals (with_reducible rfl)
  (try simp only [List.getElem_toArray, List.getElem_cons_zero, List.getElem_cons_succ, Act.put, List.setIfInBounds_toArray, List.set_cons_zero, List.set_cons_succ])
  refine wpAnyT_pure (i := 54) (oi := _) (v := ?_) rfl (by kernel_rfl) (by kernel_rfl) (by kernel_rfl) (by kernel_rfl) (fun _ _ _ h => h) (Or.inl ⟨by rfl, ?_⟩) (fun _ => by assumption) ?_
  rotate_left
  · (intro w hSw; go_simp)
    all_goals (with_reducible rfl)
  (try simp only [List.getElem_toArray, List.getElem_cons_zero, List.getElem_cons_succ, Act.put, List.setIfInBounds_toArray, List.set_cons_zero, List.set_cons_succ])
  refine wpAnyT_pure (i := 55) (oi := _) (v := ?_) rfl (by kernel_rfl) (by kernel_rfl) (by kernel_rfl) (by kernel_rfl) (fun _ _ _ h => h) (Or.inl ⟨by rfl, ?_⟩) (fun _ => by assumption) ?_
  rotate_left
  · (intro w hSw; go_simp)
    all_goals (with_reducible rfl)
  (try simp only [List.getElem_toArray, List.getElem_cons_zero, List.getElem_cons_succ, Act.put, List.setIfInBounds_toArray, List.set_cons_zero, List.set_cons_succ])
  refine wpAnyT_pure (i := 56) (oi := _) (v := ?_) rfl (by kernel_rfl) (by kernel_rfl) (by kernel_rfl) (by kernel_rfl) (fun _ _ _ h => h) (Or.inl ⟨by rfl, ?_⟩) (fun _ => by assumption) ?_
  rotate_left
  · (intro w hSw; go_simp)
    all_goals (with_reducible rfl)
  (try simp only [List.getElem_toArray, List.getElem_cons_zero, List.getElem_cons_succ, Act.put, List.setIfInBounds_toArray, List.set_cons_zero, List.set_cons_succ])
  refine wpAnyT_done (by kernel_rfl) ?_ _
  go_wp2_with fail
  go_returns
  exact ⟨rfl, HB45.out⟩
set_option maxHeartbeats 400000

set_option maxRecDepth 100000 in
theorem lifted (os : Os) (started : os.Started) (H : Type) (enc : TypeId × Value → H) :
    ReturnsInHanded {} Tryd.checked os 7 .any (fun w args => (Rows.parseMinusSpec.pre enc Tryd.prog Tryd.f7 [] false w args ∧ laidN w) ∧ sizedMet enc Tryd.prog Tryd.f7 (OpenSpec.ofChange Rows.parseMinusSpec) false w args) (Rows.parseMinusSpec.post enc Tryd.prog Tryd.f7 false true false false) := by
  refine returnsInHanded_of_change_and (C := Tryd.checked) (X := fun w _ => laidN w) (fun _ _ _ hh h => h.of_heap hh) Tryd.own started (by kernel_rfl) Tryd.func7
    (ChangeSpec.witness_at (enc := enc) (C := Tryd.checked) (os := os) (X := fun w _ => laidN w) false (tabledN os) #[.int .i64 0] 8 rfl (by kernel_rfl) (by kernel_rfl) (by kernel_rfl) (by kernel_rfl) (by kernel_rfl) (tabledN_laidN os _)) ?_
  intro W base args ds gs before hval0 hW hcnd hsz0 hL _
  have hsz : (DataW.weightsEach Tryd.prog (Tryd.f7.params.toList ++ Rows.parseMinusSpec.plain.varTypes Tryd.prog) (ds ++ gs)).all (· ≤ reachBytes) = true := hsz0
  have hval : ∀ (j : Nat) t v, Tryd.f7.params[j]? = some t → args[j]? = some v → Value.okWide Tryd.prog W .any base t v := hval0
  have hW' := hW
  obtain ⟨p, q, hA0, hV, rfl, hfz, hnd⟩ := hW
  have hA : DataW.TrodAll enc Tryd.prog W 0 (fun _ => true) true Tryd.f7.params.toList args.toList ds p := hA0
  rw [Tryd.params7] at hA hval hsz
  obtain ⟨v0, d0, rfl, rfl, h0⟩ := trodAll_one hA
  obtain ⟨rfl, rfl⟩ := trodVars_none hV
  obtain ⟨a0, rfl, rfl, rfl, w0⟩ := open_int Tryd.underlying3 (hval 0 3 v0 rfl rfl) h0
  clear hA0 hval0
  refine (walk W (N_of hL) a0 w0).mono fun e W' ⟨he, hg⟩ => ?_
  subst he
  exact ⟨_, rfl, law_post (tb := 4) Tryd.laidOut (by kernel_rfl) (by kernel_rfl) Tryd.underlying4 rfl hW' hg rfl rfl rfl⟩

theorem bare : Rows.ParseMinusSaid :=
  OpenClaim.holds_of_wide 7 Tryd.f7 rfl rfl rfl rfl rfl rfl rfl ⟨rfl, rfl, rfl, rfl, rfl⟩ rfl rfl rfl rfl rfl (by kernel_rfl) Tryd.func7 (by kernel_rfl)
    (of_decide_eq_true (by kernel_rfl)) (by unfold Func.isWrapper; first | (rw [if_pos (by decide +kernel)]; kernel_rfl) | (rw [if_neg (by decide +kernel)]; exact ⟨rfl, rfl⟩))
    (fun os started H enc _ => lifted os started H enc)
/-- The card: the row's one listed variable is tied to the program's text. -/
theorem proved : Rows.ParseMinusCardSaid :=
  Claim7.holds_tied_plain_at .later [] [.data, .data, .data, .data, .data, .data] true _ true bare (fun _ h => by cases h) (by kernel_rfl) (fun _ h => by cases h) parseMinus_row_tie rfl ⟨rfl, rfl⟩ (by kernel_rfl) rfl
    (fun f fn hf hfn => by
      obtain rfl : f = 7 := Option.some.inj ((show Tryd.prog.funcNamed "padlock/padlockkeep.ParseMinus" = some 7 by kernel_rfl).symm.trans hf) |>.symm
      obtain rfl : fn = Tryd.f7 := (Option.some.inj (Tryd.func7.symm.trans hfn)).symm
      refine ⟨by kernel_rfl, fun j t ht => ?_⟩
      rw [Tryd.params7] at ht
      rcases j with _ | j <;> simp at ht <;> subst ht <;> kernel_rfl)
    (by kernel_rfl)
#print axioms proved
end Go.Proofs.YtdeollmeljaaoaaDoor.lParseMinus
