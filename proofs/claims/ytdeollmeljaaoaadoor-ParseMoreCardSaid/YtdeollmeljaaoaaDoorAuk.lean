import Derived.Test.YtdeollmeljaaoaaDoorAsk
import Derived.Deep.DeepCutAuto
set_option linter.unusedVariables false
set_option linter.unusedSimpArgs false
set_option maxHeartbeats 8000000
set_option maxRecDepth 100000
open Go.ChangeAt Go.ChangeShapes Go.RowKit Go.WideShapes
open Go.Lib (hid)
namespace Go.Proofs.YtdeollmeljaaoaaDoor.rd
open Go.Proofs.YtdeollmeljaaoaaDoor.cs
section
variable {B : Nat} {a : Option Addr} {n c : Nat} {L : List Tk}
theorem stmt_BEGIN {w : World} (h : Rs w B a n c L 0) (m0 : mayB L 0 sCREATE = false) (m1 : mayB L 0 sDROP = false) (m2 : mayB L 0 sINSERT = false) (m3 : mayB L 0 sSELECT = false) (m4 : mayB L 0 sUPDATE = false) (m5 : mayB L 0 sDELETE = false) (m6 : mayB L 0 sBEGIN = true) :
  Calls Tryd.prog 30 #[.pointer (some ⟨B, 0, none⟩)] w (Sy w B (stmtF L n)) := by
 obtain ⟨r, hr⟩ : ∃ r, r = stmtF L n := ⟨_, rfl⟩
 rw [← hr]
 have hr2 : r = bd (partF L n sq0) (endS n) := hr
 have HBG : Hid (∀ W, W = (w.alloc (.cells z12 33)).alloc (.cells (stC sq0 p0) 33) → Ss W B (w.heap.size + 1) (w.heap.size + 2) a n c L 0 sq0 p0 ∧ Below w.heap.size w W ∧ W.heap[w.heap.size]? = some (.cells z12 33 (0, 0))) := fun W hW => ss_begin h hW
 have HLB : Hid (B < w.heap.size) := h.lt
 clear h hr
 unfold partF at hr2
 go_enter Tryd.func30, Tryd.ntmps30
 go_wp2_with fail
 refine calls_nm (fun w0 hW => ?_)
 obtain ⟨hx, hb, hRB⟩ := HBG.out w0 hW
 obtain ⟨S, hS⟩ : ∃ S, S = w.heap.size + 1 := ⟨_, rfl⟩
 have HS0 := hid hx
 have HB0 := hid hb
 have HRB := hid hRB
 clear hW hx hb hRB HBG hS S
 have HN0 : Hid (ButS B (w.heap.size + 1) (w.heap.size + 2) w0 w0) := ButS.refl _ _ _ _
 have hm0 := ssmay HS0.out sCREATE
 rw [m0] at hm0
 have HM := hid hm0
 clear hm0
 refine HM.out.mono ?_
 rintro e w1 ⟨rfl, hN, hx⟩
 have hx : Ss w1 B (w.heap.size + 1) (w.heap.size + 2) a n c L 0 sq0 p0 := hx
 have HN1 := hid (HN0.out.trans (hN.toS (w.heap.size + 1) (w.heap.size + 2)))
 have HS1 := hid hx
 clear hN hx HM HS0 HN0
 have hm0 := ssmay HS1.out sDROP
 rw [m1] at hm0
 have HM := hid hm0
 clear hm0
 go_wp2_with fail
 refine HM.out.mono ?_
 rintro e w2 ⟨rfl, hN, hx⟩
 have hx : Ss w2 B (w.heap.size + 1) (w.heap.size + 2) a n c L 0 sq0 p0 := hx
 have HN2 := hid (HN1.out.trans (hN.toS (w.heap.size + 1) (w.heap.size + 2)))
 have HS2 := hid hx
 clear hN hx HM HS1 HN1
 have hm0 := ssmay HS2.out sINSERT
 rw [m2] at hm0
 have HM := hid hm0
 clear hm0
 go_wp2_with fail
 refine HM.out.mono ?_
 rintro e w3 ⟨rfl, hN, hx⟩
 have hx : Ss w3 B (w.heap.size + 1) (w.heap.size + 2) a n c L 0 sq0 p0 := hx
 have HN3 := hid (HN2.out.trans (hN.toS (w.heap.size + 1) (w.heap.size + 2)))
 have HS3 := hid hx
 clear hN hx HM HS2 HN2
 have hm0 := ssmay HS3.out sSELECT
 rw [m3] at hm0
 have HM := hid hm0
 clear hm0
 go_wp2_with fail
 refine HM.out.mono ?_
 rintro e w4 ⟨rfl, hN, hx⟩
 have hx : Ss w4 B (w.heap.size + 1) (w.heap.size + 2) a n c L 0 sq0 p0 := hx
 have HN4 := hid (HN3.out.trans (hN.toS (w.heap.size + 1) (w.heap.size + 2)))
 have HS4 := hid hx
 clear hN hx HM HS3 HN3
 have hm0 := ssmay HS4.out sUPDATE
 rw [m4] at hm0
 have HM := hid hm0
 clear hm0
 go_wp2_with fail
 refine HM.out.mono ?_
 rintro e w5 ⟨rfl, hN, hx⟩
 have hx : Ss w5 B (w.heap.size + 1) (w.heap.size + 2) a n c L 0 sq0 p0 := hx
 have HN5 := hid (HN4.out.trans (hN.toS (w.heap.size + 1) (w.heap.size + 2)))
 have HS5 := hid hx
 clear hN hx HM HS4 HN4
 have hm0 := ssmay HS5.out sDELETE
 rw [m5] at hm0
 have HM := hid hm0
 clear hm0
 go_wp2_with fail
 refine HM.out.mono ?_
 rintro e w6 ⟨rfl, hN, hx⟩
 have hx : Ss w6 B (w.heap.size + 1) (w.heap.size + 2) a n c L 0 sq0 p0 := hx
 have HN6 := hid (HN5.out.trans (hN.toS (w.heap.size + 1) (w.heap.size + 2)))
 have HS6 := hid hx
 clear hN hx HM HS5 HN5
 have hm0 := ssmay HS6.out sBEGIN
 rw [m6] at hm0
 have HM := hid hm0
 clear hm0
 go_wp2_with fail
 refine HM.out.mono ?_
 rintro e w7 ⟨rfl, hN, hx⟩
 have hx : Ss w7 B (w.heap.size + 1) (w.heap.size + 2) a n c L (0 + 1) sq0 p0 := hx
 have HN7 := hid (HN6.out.trans (hN.toS (w.heap.size + 1) (w.heap.size + 2)))
 have HS7 := hid hx
 clear hN hx HM HS6 HN6
 rw [if_neg (by simp [m0]), if_neg (by simp [m1]), if_neg (by simp [m2]), if_neg (by simp [m3]), if_neg (by simp [m4]), if_neg (by simp [m5]), if_pos m6] at hr2
 have HR7 : Hid (r = endS n (1, (⟨7, ⟨#[]⟩, [], [], [], false, [], ⟨#[]⟩, false, -1, ⟨#[]⟩, []⟩ : Sq))) := hr2
 clear hr2
 have z0 : w7.cell? ⟨w.heap.size + 1, 0, none⟩ = some (.int .i64 0) := (HS7.out.x 0 (by omega)).1
 have sf0 := (HS7.out.x 0 (by omega)).2
 go_wp2_with fail
 refine code_nm (fun w8 hv => ?_)
 have hx : Ss w8 B (w.heap.size + 1) (w.heap.size + 2) a n c L 1 (⟨7, ⟨#[]⟩, [], [], [], false, [], ⟨#[]⟩, false, -1, ⟨#[]⟩, []⟩ : Sq) p0 ∧ But (w.heap.size + 1) w7 w8 := by
  have i1 := HS7.out.put (s' := (⟨7, ⟨#[]⟩, [], [], [], false, [], ⟨#[]⟩, false, -1, ⟨#[]⟩, []⟩ : Sq)) (p' := p0) 0 (.int .i64 7) rfl (HS7.out.own.as rfl rfl rfl rfl rfl)
  rw [hv]
  exact ⟨i1, But.set _ (w.heap.size + 1) 0 _⟩
 have HN8 := hid (HN7.out.trans (hx.2.toS' B (w.heap.size + 2)))
 have HS8 := hid hx.1
 have HR8 := hid HR7.out
 clear hx hv HR7 z0 sf0
 have HKN : ((⟨7, ⟨#[]⟩, [], [], [], false, [], ⟨#[]⟩, false, -1, ⟨#[]⟩, []⟩ : Sq) : Sq).k ≠ 0 := by show (7 : Int) ≠ 0; omega
 obtain ⟨sf, hsf⟩ : ∃ sf : Sq, sf = (⟨7, ⟨#[]⟩, [], [], [], false, [], ⟨#[]⟩, false, -1, ⟨#[]⟩, []⟩ : Sq) := ⟨_, rfl⟩
 have HK : Hid (sf.k ≠ 0) := by show sf.k ≠ 0; rw [hsf]; exact HKN
 have HSF : Hid (Ss w8 B (w.heap.size + 1) (w.heap.size + 2) a n c L 1 sf p0) := by show Ss _ _ _ _ _ _ _ _ _ _ _; rw [hsf]; exact HS8.out
 have HRF : Hid (r = if sf.k = 0 ∨ 1 < n then .inl (fl n 1 6) else .inr sf) := by show _ = _; rw [hsf]; exact HR8.out
 obtain ⟨pf, hpf⟩ : ∃ pf : Ps, pf = p0 := ⟨_, rfl⟩
 rw [← hpf] at HSF
 have HGV : Hid (∀ W, Below w8.heap.size w8 W → Calls Tryd.prog 58 #[.pointer (some ⟨B, 0, none⟩), .int .i64 6] W fun e w' => e = flt (fl n 1 6).1 (fl n 1 6).2 ∧ But B W w') := fun W hW => sgive (HSF.out.rs.later hW) 6
 obtain ⟨ov, hrd⟩ := HSF.out.rs.rd
 obtain ⟨r0, r1, r2, -, -, -⟩ := hrd.cells
 have hkn : 1 ≤ n := hrd.le
 have hn100 : n ≤ 100 := hrd.sm
 have hRb := HN8.out.keep (k := w.heap.size) (by have := HSF.out.lb; have := HLB.out; omega) (by omega) (by unfold Grows; decide) HRB.out
 have HRX := hid hRb
 have HNF := hid HN8.out
 clear hpf HS8 HR8 HN8 hrd hRb HKN hsf
 obtain ⟨s0, s1, s2, s3, s4, s5, s6, s7, s8, s9, s10, s11⟩ := sf
 obtain ⟨a2, n2, c2, a3, n3, c3, a4, n4, c4, a6, n6, c6, a11, n11, c11⟩ := pf
 obtain ⟨x0, x1, x2, x3, x4, x5, x6, x7, x8, x9, x10, x11, f0, f1, f2, f3, f4, f5, f6, f7, f8, f9, f10, f11⟩ := box12 HSF.out.box
 obtain ⟨y0, y1, y2, y3, y4, y5, y6, y7, y8, y9, y10, y11, g0, g1, g2, g3, g4, g5, g6, g7, g8, g9, g10, g11⟩ := box12 HRX.out
 simp only at HK HRF
 have hz : (s0 == 0) = false := by have := HK.out; simpa using this
 by_cases hlt : 1 < n
 ·have hlt' : decide ((1 : Int) < (n : Int)) = true := by simp; omega
  have hq : r = .inl (fl n 1 6) := by rw [HRF.out, if_pos (Or.inr hlt)]
  subst hq
  clear x1 x2 x3 x4 x5 x6 x7 x8 x9 x10 x11 f0 f1 f2 f3 f4 f5 f6 f7 f8 f9 f10 f11 y0 y1 y2 y3 y4 y5 y6 y7 y8 y9 y10 y11 g0 g1 g2 g3 g4 g5 g6 g7 g8 g9 g10 g11
  (try go_wp2_with fail)
  go_quiet (fail)
  go_wp2_with fail
  refine (HGV.out _ (below_drewN _ _)).mono ?_
  rintro e w' ⟨rfl, hN⟩
  exact ⟨rfl, st_but HB0.out (HNF.out.trans (((But.of (below_drewN _ _)).trans hN).toS _ _)), rfl⟩
 ·have hlt' : decide ((1 : Int) < (n : Int)) = false := by simp; omega
  have hq : r = .inr (⟨s0, s1, s2, s3, s4, s5, s6, s7, s8, s9, s10, s11⟩ : Sq) := by rw [HRF.out, if_neg (by rintro (h | h); exact HK.out h; exact hlt h)]
  subst hq
  (try go_wp2_with fail)
  go_quiet (fail)
  have hzz : w.heap.size ≤ w8.heap.size := Nat.le_trans HB0.out.size HNF.out.size
  have HRD : (w8.drewN nq).heap[w.heap.size]? = some (.cells z12 33 (0, 0)) := ((below_drewN w8 nq).block _ (blk_lt HRX.out)).trans HRX.out
  go_wp2_with fail
  obtain ⟨hb12, v0, v1, v2, v3, v4, v5, v6, v7, v8, v9, v10, v11⟩ := st12 (A := w.heap.size) (w0 := w8) ((below_drewN _ _).mono hzz) (Nat.le_refl _) HRD (.int .i64 s0) (.string s1) (.slice a2 n2 c2) (.slice a3 n3 c3) (.slice a4 n4 c4) (.bool s5) (.slice a6 n6 c6) (.string s7) (.bool s8) (.int .i64 s9) (.string s10) (.slice a11 n11 c11)
  clear x0 x1 x2 x3 x4 x5 x6 x7 x8 x9 x10 x11 f0 f1 f2 f3 f4 f5 f6 f7 f8 f9 f10 f11 y0 y1 y2 y3 y4 y5 y6 y7 y8 y9 y10 y11 g0 g1 g2 g3 g4 g5 g6 g7 g8 g9 g10 g11
  refine bodyPost_ret (v := .agg #[.int .i64 s0, .string s1, .slice a2 n2 c2, .slice a3 n3 c3, .slice a4 n4 c4, .bool s5, .slice a6 n6 c6, .string s7, .bool s8, .int .i64 s9, .string s10, .slice a11 n11 c11]) (by simp [results, Tryd.results30, go_sem, v0, v1, v2, v3, v4, v5, v6, v7, v8, v9, v10, v11]; try rfl) rfl ?_
  exact ⟨but_tail (st_but HB0.out HNF.out) hb12, ⟨a2, n2, c2, a3, n3, c3, a4, n4, c4, a6, n6, c6, a11, n11, c11⟩, rfl, HSF.out.own.tail fun k hk hl => (set12_far _ _ _ _ _ _ _ _ _ _ _ _ k hk).trans ((below_drewN w8 nq).block k hl)⟩
theorem stmt_COMMIT {w : World} (h : Rs w B a n c L 0) (m0 : mayB L 0 sCREATE = false) (m1 : mayB L 0 sDROP = false) (m2 : mayB L 0 sINSERT = false) (m3 : mayB L 0 sSELECT = false) (m4 : mayB L 0 sUPDATE = false) (m5 : mayB L 0 sDELETE = false) (m6 : mayB L 0 sBEGIN = false) (m7 : mayB L 0 sCOMMIT = true) :
  Calls Tryd.prog 30 #[.pointer (some ⟨B, 0, none⟩)] w (Sy w B (stmtF L n)) := by
 obtain ⟨r, hr⟩ : ∃ r, r = stmtF L n := ⟨_, rfl⟩
 rw [← hr]
 have hr2 : r = bd (partF L n sq0) (endS n) := hr
 have HBG : Hid (∀ W, W = (w.alloc (.cells z12 33)).alloc (.cells (stC sq0 p0) 33) → Ss W B (w.heap.size + 1) (w.heap.size + 2) a n c L 0 sq0 p0 ∧ Below w.heap.size w W ∧ W.heap[w.heap.size]? = some (.cells z12 33 (0, 0))) := fun W hW => ss_begin h hW
 have HLB : Hid (B < w.heap.size) := h.lt
 clear h hr
 unfold partF at hr2
 go_enter Tryd.func30, Tryd.ntmps30
 go_wp2_with fail
 refine calls_nm (fun w0 hW => ?_)
 obtain ⟨hx, hb, hRB⟩ := HBG.out w0 hW
 obtain ⟨S, hS⟩ : ∃ S, S = w.heap.size + 1 := ⟨_, rfl⟩
 have HS0 := hid hx
 have HB0 := hid hb
 have HRB := hid hRB
 clear hW hx hb hRB HBG hS S
 have HN0 : Hid (ButS B (w.heap.size + 1) (w.heap.size + 2) w0 w0) := ButS.refl _ _ _ _
 have hm0 := ssmay HS0.out sCREATE
 rw [m0] at hm0
 have HM := hid hm0
 clear hm0
 refine HM.out.mono ?_
 rintro e w1 ⟨rfl, hN, hx⟩
 have hx : Ss w1 B (w.heap.size + 1) (w.heap.size + 2) a n c L 0 sq0 p0 := hx
 have HN1 := hid (HN0.out.trans (hN.toS (w.heap.size + 1) (w.heap.size + 2)))
 have HS1 := hid hx
 clear hN hx HM HS0 HN0
 have hm0 := ssmay HS1.out sDROP
 rw [m1] at hm0
 have HM := hid hm0
 clear hm0
 go_wp2_with fail
 refine HM.out.mono ?_
 rintro e w2 ⟨rfl, hN, hx⟩
 have hx : Ss w2 B (w.heap.size + 1) (w.heap.size + 2) a n c L 0 sq0 p0 := hx
 have HN2 := hid (HN1.out.trans (hN.toS (w.heap.size + 1) (w.heap.size + 2)))
 have HS2 := hid hx
 clear hN hx HM HS1 HN1
 have hm0 := ssmay HS2.out sINSERT
 rw [m2] at hm0
 have HM := hid hm0
 clear hm0
 go_wp2_with fail
 refine HM.out.mono ?_
 rintro e w3 ⟨rfl, hN, hx⟩
 have hx : Ss w3 B (w.heap.size + 1) (w.heap.size + 2) a n c L 0 sq0 p0 := hx
 have HN3 := hid (HN2.out.trans (hN.toS (w.heap.size + 1) (w.heap.size + 2)))
 have HS3 := hid hx
 clear hN hx HM HS2 HN2
 have hm0 := ssmay HS3.out sSELECT
 rw [m3] at hm0
 have HM := hid hm0
 clear hm0
 go_wp2_with fail
 refine HM.out.mono ?_
 rintro e w4 ⟨rfl, hN, hx⟩
 have hx : Ss w4 B (w.heap.size + 1) (w.heap.size + 2) a n c L 0 sq0 p0 := hx
 have HN4 := hid (HN3.out.trans (hN.toS (w.heap.size + 1) (w.heap.size + 2)))
 have HS4 := hid hx
 clear hN hx HM HS3 HN3
 have hm0 := ssmay HS4.out sUPDATE
 rw [m4] at hm0
 have HM := hid hm0
 clear hm0
 go_wp2_with fail
 refine HM.out.mono ?_
 rintro e w5 ⟨rfl, hN, hx⟩
 have hx : Ss w5 B (w.heap.size + 1) (w.heap.size + 2) a n c L 0 sq0 p0 := hx
 have HN5 := hid (HN4.out.trans (hN.toS (w.heap.size + 1) (w.heap.size + 2)))
 have HS5 := hid hx
 clear hN hx HM HS4 HN4
 have hm0 := ssmay HS5.out sDELETE
 rw [m5] at hm0
 have HM := hid hm0
 clear hm0
 go_wp2_with fail
 refine HM.out.mono ?_
 rintro e w6 ⟨rfl, hN, hx⟩
 have hx : Ss w6 B (w.heap.size + 1) (w.heap.size + 2) a n c L 0 sq0 p0 := hx
 have HN6 := hid (HN5.out.trans (hN.toS (w.heap.size + 1) (w.heap.size + 2)))
 have HS6 := hid hx
 clear hN hx HM HS5 HN5
 have hm0 := ssmay HS6.out sBEGIN
 rw [m6] at hm0
 have HM := hid hm0
 clear hm0
 go_wp2_with fail
 refine HM.out.mono ?_
 rintro e w7 ⟨rfl, hN, hx⟩
 have hx : Ss w7 B (w.heap.size + 1) (w.heap.size + 2) a n c L 0 sq0 p0 := hx
 have HN7 := hid (HN6.out.trans (hN.toS (w.heap.size + 1) (w.heap.size + 2)))
 have HS7 := hid hx
 clear hN hx HM HS6 HN6
 have hm0 := ssmay HS7.out sCOMMIT
 rw [m7] at hm0
 have HM := hid hm0
 clear hm0
 go_wp2_with fail
 refine HM.out.mono ?_
 rintro e w8 ⟨rfl, hN, hx⟩
 have hx : Ss w8 B (w.heap.size + 1) (w.heap.size + 2) a n c L (0 + 1) sq0 p0 := hx
 have HN8 := hid (HN7.out.trans (hN.toS (w.heap.size + 1) (w.heap.size + 2)))
 have HS8 := hid hx
 clear hN hx HM HS7 HN7
 rw [if_neg (by simp [m0]), if_neg (by simp [m1]), if_neg (by simp [m2]), if_neg (by simp [m3]), if_neg (by simp [m4]), if_neg (by simp [m5]), if_neg (by simp [m6]), if_pos m7] at hr2
 have HR8 : Hid (r = endS n (1, (⟨8, ⟨#[]⟩, [], [], [], false, [], ⟨#[]⟩, false, -1, ⟨#[]⟩, []⟩ : Sq))) := hr2
 clear hr2
 have z0 : w8.cell? ⟨w.heap.size + 1, 0, none⟩ = some (.int .i64 0) := (HS8.out.x 0 (by omega)).1
 have sf0 := (HS8.out.x 0 (by omega)).2
 go_wp2_with fail
 refine code_nm (fun w9 hv => ?_)
 have hx : Ss w9 B (w.heap.size + 1) (w.heap.size + 2) a n c L 1 (⟨8, ⟨#[]⟩, [], [], [], false, [], ⟨#[]⟩, false, -1, ⟨#[]⟩, []⟩ : Sq) p0 ∧ But (w.heap.size + 1) w8 w9 := by
  have i1 := HS8.out.put (s' := (⟨8, ⟨#[]⟩, [], [], [], false, [], ⟨#[]⟩, false, -1, ⟨#[]⟩, []⟩ : Sq)) (p' := p0) 0 (.int .i64 8) rfl (HS8.out.own.as rfl rfl rfl rfl rfl)
  rw [hv]
  exact ⟨i1, But.set _ (w.heap.size + 1) 0 _⟩
 have HN9 := hid (HN8.out.trans (hx.2.toS' B (w.heap.size + 2)))
 have HS9 := hid hx.1
 have HR9 := hid HR8.out
 clear hx hv HR8 z0 sf0
 have HKN : ((⟨8, ⟨#[]⟩, [], [], [], false, [], ⟨#[]⟩, false, -1, ⟨#[]⟩, []⟩ : Sq) : Sq).k ≠ 0 := by show (8 : Int) ≠ 0; omega
 obtain ⟨sf, hsf⟩ : ∃ sf : Sq, sf = (⟨8, ⟨#[]⟩, [], [], [], false, [], ⟨#[]⟩, false, -1, ⟨#[]⟩, []⟩ : Sq) := ⟨_, rfl⟩
 have HK : Hid (sf.k ≠ 0) := by show sf.k ≠ 0; rw [hsf]; exact HKN
 have HSF : Hid (Ss w9 B (w.heap.size + 1) (w.heap.size + 2) a n c L 1 sf p0) := by show Ss _ _ _ _ _ _ _ _ _ _ _; rw [hsf]; exact HS9.out
 have HRF : Hid (r = if sf.k = 0 ∨ 1 < n then .inl (fl n 1 6) else .inr sf) := by show _ = _; rw [hsf]; exact HR9.out
 obtain ⟨pf, hpf⟩ : ∃ pf : Ps, pf = p0 := ⟨_, rfl⟩
 rw [← hpf] at HSF
 have HGV : Hid (∀ W, Below w9.heap.size w9 W → Calls Tryd.prog 58 #[.pointer (some ⟨B, 0, none⟩), .int .i64 6] W fun e w' => e = flt (fl n 1 6).1 (fl n 1 6).2 ∧ But B W w') := fun W hW => sgive (HSF.out.rs.later hW) 6
 obtain ⟨ov, hrd⟩ := HSF.out.rs.rd
 obtain ⟨r0, r1, r2, -, -, -⟩ := hrd.cells
 have hkn : 1 ≤ n := hrd.le
 have hn100 : n ≤ 100 := hrd.sm
 have hRb := HN9.out.keep (k := w.heap.size) (by have := HSF.out.lb; have := HLB.out; omega) (by omega) (by unfold Grows; decide) HRB.out
 have HRX := hid hRb
 have HNF := hid HN9.out
 clear hpf HS9 HR9 HN9 hrd hRb HKN hsf
 obtain ⟨s0, s1, s2, s3, s4, s5, s6, s7, s8, s9, s10, s11⟩ := sf
 obtain ⟨a2, n2, c2, a3, n3, c3, a4, n4, c4, a6, n6, c6, a11, n11, c11⟩ := pf
 obtain ⟨x0, x1, x2, x3, x4, x5, x6, x7, x8, x9, x10, x11, f0, f1, f2, f3, f4, f5, f6, f7, f8, f9, f10, f11⟩ := box12 HSF.out.box
 obtain ⟨y0, y1, y2, y3, y4, y5, y6, y7, y8, y9, y10, y11, g0, g1, g2, g3, g4, g5, g6, g7, g8, g9, g10, g11⟩ := box12 HRX.out
 simp only at HK HRF
 have hz : (s0 == 0) = false := by have := HK.out; simpa using this
 by_cases hlt : 1 < n
 ·have hlt' : decide ((1 : Int) < (n : Int)) = true := by simp; omega
  have hq : r = .inl (fl n 1 6) := by rw [HRF.out, if_pos (Or.inr hlt)]
  subst hq
  clear x1 x2 x3 x4 x5 x6 x7 x8 x9 x10 x11 f0 f1 f2 f3 f4 f5 f6 f7 f8 f9 f10 f11 y0 y1 y2 y3 y4 y5 y6 y7 y8 y9 y10 y11 g0 g1 g2 g3 g4 g5 g6 g7 g8 g9 g10 g11
  (try go_wp2_with fail)
  go_quiet (fail)
  go_wp2_with fail
  refine (HGV.out _ (below_drewN _ _)).mono ?_
  rintro e w' ⟨rfl, hN⟩
  exact ⟨rfl, st_but HB0.out (HNF.out.trans (((But.of (below_drewN _ _)).trans hN).toS _ _)), rfl⟩
 ·have hlt' : decide ((1 : Int) < (n : Int)) = false := by simp; omega
  have hq : r = .inr (⟨s0, s1, s2, s3, s4, s5, s6, s7, s8, s9, s10, s11⟩ : Sq) := by rw [HRF.out, if_neg (by rintro (h | h); exact HK.out h; exact hlt h)]
  subst hq
  (try go_wp2_with fail)
  go_quiet (fail)
  have hzz : w.heap.size ≤ w9.heap.size := Nat.le_trans HB0.out.size HNF.out.size
  have HRD : (w9.drewN nq).heap[w.heap.size]? = some (.cells z12 33 (0, 0)) := ((below_drewN w9 nq).block _ (blk_lt HRX.out)).trans HRX.out
  go_wp2_with fail
  obtain ⟨hb12, v0, v1, v2, v3, v4, v5, v6, v7, v8, v9, v10, v11⟩ := st12 (A := w.heap.size) (w0 := w9) ((below_drewN _ _).mono hzz) (Nat.le_refl _) HRD (.int .i64 s0) (.string s1) (.slice a2 n2 c2) (.slice a3 n3 c3) (.slice a4 n4 c4) (.bool s5) (.slice a6 n6 c6) (.string s7) (.bool s8) (.int .i64 s9) (.string s10) (.slice a11 n11 c11)
  clear x0 x1 x2 x3 x4 x5 x6 x7 x8 x9 x10 x11 f0 f1 f2 f3 f4 f5 f6 f7 f8 f9 f10 f11 y0 y1 y2 y3 y4 y5 y6 y7 y8 y9 y10 y11 g0 g1 g2 g3 g4 g5 g6 g7 g8 g9 g10 g11
  refine bodyPost_ret (v := .agg #[.int .i64 s0, .string s1, .slice a2 n2 c2, .slice a3 n3 c3, .slice a4 n4 c4, .bool s5, .slice a6 n6 c6, .string s7, .bool s8, .int .i64 s9, .string s10, .slice a11 n11 c11]) (by simp [results, Tryd.results30, go_sem, v0, v1, v2, v3, v4, v5, v6, v7, v8, v9, v10, v11]; try rfl) rfl ?_
  exact ⟨but_tail (st_but HB0.out HNF.out) hb12, ⟨a2, n2, c2, a3, n3, c3, a4, n4, c4, a6, n6, c6, a11, n11, c11⟩, rfl, HSF.out.own.tail fun k hk hl => (set12_far _ _ _ _ _ _ _ _ _ _ _ _ k hk).trans ((below_drewN w9 nq).block k hl)⟩
theorem stmt_ROLLBACK {w : World} (h : Rs w B a n c L 0) (m0 : mayB L 0 sCREATE = false) (m1 : mayB L 0 sDROP = false) (m2 : mayB L 0 sINSERT = false) (m3 : mayB L 0 sSELECT = false) (m4 : mayB L 0 sUPDATE = false) (m5 : mayB L 0 sDELETE = false) (m6 : mayB L 0 sBEGIN = false) (m7 : mayB L 0 sCOMMIT = false) (m8 : mayB L 0 sROLLBACK = true) :
  Calls Tryd.prog 30 #[.pointer (some ⟨B, 0, none⟩)] w (Sy w B (stmtF L n)) := by
 obtain ⟨r, hr⟩ : ∃ r, r = stmtF L n := ⟨_, rfl⟩
 rw [← hr]
 have hr2 : r = bd (partF L n sq0) (endS n) := hr
 have HBG : Hid (∀ W, W = (w.alloc (.cells z12 33)).alloc (.cells (stC sq0 p0) 33) → Ss W B (w.heap.size + 1) (w.heap.size + 2) a n c L 0 sq0 p0 ∧ Below w.heap.size w W ∧ W.heap[w.heap.size]? = some (.cells z12 33 (0, 0))) := fun W hW => ss_begin h hW
 have HLB : Hid (B < w.heap.size) := h.lt
 clear h hr
 unfold partF at hr2
 go_enter Tryd.func30, Tryd.ntmps30
 go_wp2_with fail
 refine calls_nm (fun w0 hW => ?_)
 obtain ⟨hx, hb, hRB⟩ := HBG.out w0 hW
 obtain ⟨S, hS⟩ : ∃ S, S = w.heap.size + 1 := ⟨_, rfl⟩
 have HS0 := hid hx
 have HB0 := hid hb
 have HRB := hid hRB
 clear hW hx hb hRB HBG hS S
 have HN0 : Hid (ButS B (w.heap.size + 1) (w.heap.size + 2) w0 w0) := ButS.refl _ _ _ _
 have hm0 := ssmay HS0.out sCREATE
 rw [m0] at hm0
 have HM := hid hm0
 clear hm0
 refine HM.out.mono ?_
 rintro e w1 ⟨rfl, hN, hx⟩
 have hx : Ss w1 B (w.heap.size + 1) (w.heap.size + 2) a n c L 0 sq0 p0 := hx
 have HN1 := hid (HN0.out.trans (hN.toS (w.heap.size + 1) (w.heap.size + 2)))
 have HS1 := hid hx
 clear hN hx HM HS0 HN0
 have hm0 := ssmay HS1.out sDROP
 rw [m1] at hm0
 have HM := hid hm0
 clear hm0
 go_wp2_with fail
 refine HM.out.mono ?_
 rintro e w2 ⟨rfl, hN, hx⟩
 have hx : Ss w2 B (w.heap.size + 1) (w.heap.size + 2) a n c L 0 sq0 p0 := hx
 have HN2 := hid (HN1.out.trans (hN.toS (w.heap.size + 1) (w.heap.size + 2)))
 have HS2 := hid hx
 clear hN hx HM HS1 HN1
 have hm0 := ssmay HS2.out sINSERT
 rw [m2] at hm0
 have HM := hid hm0
 clear hm0
 go_wp2_with fail
 refine HM.out.mono ?_
 rintro e w3 ⟨rfl, hN, hx⟩
 have hx : Ss w3 B (w.heap.size + 1) (w.heap.size + 2) a n c L 0 sq0 p0 := hx
 have HN3 := hid (HN2.out.trans (hN.toS (w.heap.size + 1) (w.heap.size + 2)))
 have HS3 := hid hx
 clear hN hx HM HS2 HN2
 have hm0 := ssmay HS3.out sSELECT
 rw [m3] at hm0
 have HM := hid hm0
 clear hm0
 go_wp2_with fail
 refine HM.out.mono ?_
 rintro e w4 ⟨rfl, hN, hx⟩
 have hx : Ss w4 B (w.heap.size + 1) (w.heap.size + 2) a n c L 0 sq0 p0 := hx
 have HN4 := hid (HN3.out.trans (hN.toS (w.heap.size + 1) (w.heap.size + 2)))
 have HS4 := hid hx
 clear hN hx HM HS3 HN3
 have hm0 := ssmay HS4.out sUPDATE
 rw [m4] at hm0
 have HM := hid hm0
 clear hm0
 go_wp2_with fail
 refine HM.out.mono ?_
 rintro e w5 ⟨rfl, hN, hx⟩
 have hx : Ss w5 B (w.heap.size + 1) (w.heap.size + 2) a n c L 0 sq0 p0 := hx
 have HN5 := hid (HN4.out.trans (hN.toS (w.heap.size + 1) (w.heap.size + 2)))
 have HS5 := hid hx
 clear hN hx HM HS4 HN4
 have hm0 := ssmay HS5.out sDELETE
 rw [m5] at hm0
 have HM := hid hm0
 clear hm0
 go_wp2_with fail
 refine HM.out.mono ?_
 rintro e w6 ⟨rfl, hN, hx⟩
 have hx : Ss w6 B (w.heap.size + 1) (w.heap.size + 2) a n c L 0 sq0 p0 := hx
 have HN6 := hid (HN5.out.trans (hN.toS (w.heap.size + 1) (w.heap.size + 2)))
 have HS6 := hid hx
 clear hN hx HM HS5 HN5
 have hm0 := ssmay HS6.out sBEGIN
 rw [m6] at hm0
 have HM := hid hm0
 clear hm0
 go_wp2_with fail
 refine HM.out.mono ?_
 rintro e w7 ⟨rfl, hN, hx⟩
 have hx : Ss w7 B (w.heap.size + 1) (w.heap.size + 2) a n c L 0 sq0 p0 := hx
 have HN7 := hid (HN6.out.trans (hN.toS (w.heap.size + 1) (w.heap.size + 2)))
 have HS7 := hid hx
 clear hN hx HM HS6 HN6
 have hm0 := ssmay HS7.out sCOMMIT
 rw [m7] at hm0
 have HM := hid hm0
 clear hm0
 go_wp2_with fail
 refine HM.out.mono ?_
 rintro e w8 ⟨rfl, hN, hx⟩
 have hx : Ss w8 B (w.heap.size + 1) (w.heap.size + 2) a n c L 0 sq0 p0 := hx
 have HN8 := hid (HN7.out.trans (hN.toS (w.heap.size + 1) (w.heap.size + 2)))
 have HS8 := hid hx
 clear hN hx HM HS7 HN7
 have hm0 := ssmay HS8.out sROLLBACK
 rw [m8] at hm0
 have HM := hid hm0
 clear hm0
 go_wp2_with fail
 refine HM.out.mono ?_
 rintro e w9 ⟨rfl, hN, hx⟩
 have hx : Ss w9 B (w.heap.size + 1) (w.heap.size + 2) a n c L (0 + 1) sq0 p0 := hx
 have HN9 := hid (HN8.out.trans (hN.toS (w.heap.size + 1) (w.heap.size + 2)))
 have HS9 := hid hx
 clear hN hx HM HS8 HN8
 rw [if_neg (by simp [m0]), if_neg (by simp [m1]), if_neg (by simp [m2]), if_neg (by simp [m3]), if_neg (by simp [m4]), if_neg (by simp [m5]), if_neg (by simp [m6]), if_neg (by simp [m7]), if_pos m8] at hr2
 have HR9 : Hid (r = endS n (1, (⟨9, ⟨#[]⟩, [], [], [], false, [], ⟨#[]⟩, false, -1, ⟨#[]⟩, []⟩ : Sq))) := hr2
 clear hr2
 have z0 : w9.cell? ⟨w.heap.size + 1, 0, none⟩ = some (.int .i64 0) := (HS9.out.x 0 (by omega)).1
 have sf0 := (HS9.out.x 0 (by omega)).2
 go_wp2_with fail
 refine code_nm (fun w10 hv => ?_)
 have hx : Ss w10 B (w.heap.size + 1) (w.heap.size + 2) a n c L 1 (⟨9, ⟨#[]⟩, [], [], [], false, [], ⟨#[]⟩, false, -1, ⟨#[]⟩, []⟩ : Sq) p0 ∧ But (w.heap.size + 1) w9 w10 := by
  have i1 := HS9.out.put (s' := (⟨9, ⟨#[]⟩, [], [], [], false, [], ⟨#[]⟩, false, -1, ⟨#[]⟩, []⟩ : Sq)) (p' := p0) 0 (.int .i64 9) rfl (HS9.out.own.as rfl rfl rfl rfl rfl)
  rw [hv]
  exact ⟨i1, But.set _ (w.heap.size + 1) 0 _⟩
 have HN10 := hid (HN9.out.trans (hx.2.toS' B (w.heap.size + 2)))
 have HS10 := hid hx.1
 have HR10 := hid HR9.out
 clear hx hv HR9 z0 sf0
 have HKN : ((⟨9, ⟨#[]⟩, [], [], [], false, [], ⟨#[]⟩, false, -1, ⟨#[]⟩, []⟩ : Sq) : Sq).k ≠ 0 := by show (9 : Int) ≠ 0; omega
 obtain ⟨sf, hsf⟩ : ∃ sf : Sq, sf = (⟨9, ⟨#[]⟩, [], [], [], false, [], ⟨#[]⟩, false, -1, ⟨#[]⟩, []⟩ : Sq) := ⟨_, rfl⟩
 have HK : Hid (sf.k ≠ 0) := by show sf.k ≠ 0; rw [hsf]; exact HKN
 have HSF : Hid (Ss w10 B (w.heap.size + 1) (w.heap.size + 2) a n c L 1 sf p0) := by show Ss _ _ _ _ _ _ _ _ _ _ _; rw [hsf]; exact HS10.out
 have HRF : Hid (r = if sf.k = 0 ∨ 1 < n then .inl (fl n 1 6) else .inr sf) := by show _ = _; rw [hsf]; exact HR10.out
 obtain ⟨pf, hpf⟩ : ∃ pf : Ps, pf = p0 := ⟨_, rfl⟩
 rw [← hpf] at HSF
 have HGV : Hid (∀ W, Below w10.heap.size w10 W → Calls Tryd.prog 58 #[.pointer (some ⟨B, 0, none⟩), .int .i64 6] W fun e w' => e = flt (fl n 1 6).1 (fl n 1 6).2 ∧ But B W w') := fun W hW => sgive (HSF.out.rs.later hW) 6
 obtain ⟨ov, hrd⟩ := HSF.out.rs.rd
 obtain ⟨r0, r1, r2, -, -, -⟩ := hrd.cells
 have hkn : 1 ≤ n := hrd.le
 have hn100 : n ≤ 100 := hrd.sm
 have hRb := HN10.out.keep (k := w.heap.size) (by have := HSF.out.lb; have := HLB.out; omega) (by omega) (by unfold Grows; decide) HRB.out
 have HRX := hid hRb
 have HNF := hid HN10.out
 clear hpf HS10 HR10 HN10 hrd hRb HKN hsf
 obtain ⟨s0, s1, s2, s3, s4, s5, s6, s7, s8, s9, s10, s11⟩ := sf
 obtain ⟨a2, n2, c2, a3, n3, c3, a4, n4, c4, a6, n6, c6, a11, n11, c11⟩ := pf
 obtain ⟨x0, x1, x2, x3, x4, x5, x6, x7, x8, x9, x10, x11, f0, f1, f2, f3, f4, f5, f6, f7, f8, f9, f10, f11⟩ := box12 HSF.out.box
 obtain ⟨y0, y1, y2, y3, y4, y5, y6, y7, y8, y9, y10, y11, g0, g1, g2, g3, g4, g5, g6, g7, g8, g9, g10, g11⟩ := box12 HRX.out
 simp only at HK HRF
 have hz : (s0 == 0) = false := by have := HK.out; simpa using this
 by_cases hlt : 1 < n
 ·have hlt' : decide ((1 : Int) < (n : Int)) = true := by simp; omega
  have hq : r = .inl (fl n 1 6) := by rw [HRF.out, if_pos (Or.inr hlt)]
  subst hq
  clear x1 x2 x3 x4 x5 x6 x7 x8 x9 x10 x11 f0 f1 f2 f3 f4 f5 f6 f7 f8 f9 f10 f11 y0 y1 y2 y3 y4 y5 y6 y7 y8 y9 y10 y11 g0 g1 g2 g3 g4 g5 g6 g7 g8 g9 g10 g11
  (try go_wp2_with fail)
  go_quiet (fail)
  go_wp2_with fail
  refine (HGV.out _ (below_drewN _ _)).mono ?_
  rintro e w' ⟨rfl, hN⟩
  exact ⟨rfl, st_but HB0.out (HNF.out.trans (((But.of (below_drewN _ _)).trans hN).toS _ _)), rfl⟩
 ·have hlt' : decide ((1 : Int) < (n : Int)) = false := by simp; omega
  have hq : r = .inr (⟨s0, s1, s2, s3, s4, s5, s6, s7, s8, s9, s10, s11⟩ : Sq) := by rw [HRF.out, if_neg (by rintro (h | h); exact HK.out h; exact hlt h)]
  subst hq
  (try go_wp2_with fail)
  go_quiet (fail)
  have hzz : w.heap.size ≤ w10.heap.size := Nat.le_trans HB0.out.size HNF.out.size
  have HRD : (w10.drewN nq).heap[w.heap.size]? = some (.cells z12 33 (0, 0)) := ((below_drewN w10 nq).block _ (blk_lt HRX.out)).trans HRX.out
  go_wp2_with fail
  obtain ⟨hb12, v0, v1, v2, v3, v4, v5, v6, v7, v8, v9, v10, v11⟩ := st12 (A := w.heap.size) (w0 := w10) ((below_drewN _ _).mono hzz) (Nat.le_refl _) HRD (.int .i64 s0) (.string s1) (.slice a2 n2 c2) (.slice a3 n3 c3) (.slice a4 n4 c4) (.bool s5) (.slice a6 n6 c6) (.string s7) (.bool s8) (.int .i64 s9) (.string s10) (.slice a11 n11 c11)
  clear x0 x1 x2 x3 x4 x5 x6 x7 x8 x9 x10 x11 f0 f1 f2 f3 f4 f5 f6 f7 f8 f9 f10 f11 y0 y1 y2 y3 y4 y5 y6 y7 y8 y9 y10 y11 g0 g1 g2 g3 g4 g5 g6 g7 g8 g9 g10 g11
  refine bodyPost_ret (v := .agg #[.int .i64 s0, .string s1, .slice a2 n2 c2, .slice a3 n3 c3, .slice a4 n4 c4, .bool s5, .slice a6 n6 c6, .string s7, .bool s8, .int .i64 s9, .string s10, .slice a11 n11 c11]) (by simp [results, Tryd.results30, go_sem, v0, v1, v2, v3, v4, v5, v6, v7, v8, v9, v10, v11]; try rfl) rfl ?_
  exact ⟨but_tail (st_but HB0.out HNF.out) hb12, ⟨a2, n2, c2, a3, n3, c3, a4, n4, c4, a6, n6, c6, a11, n11, c11⟩, rfl, HSF.out.own.tail fun k hk hl => (set12_far _ _ _ _ _ _ _ _ _ _ _ _ k hk).trans ((below_drewN w10 nq).block k hl)⟩
theorem stmt_none {w : World} (h : Rs w B a n c L 0) (m0 : mayB L 0 sCREATE = false) (m1 : mayB L 0 sDROP = false) (m2 : mayB L 0 sINSERT = false) (m3 : mayB L 0 sSELECT = false) (m4 : mayB L 0 sUPDATE = false) (m5 : mayB L 0 sDELETE = false) (m6 : mayB L 0 sBEGIN = false) (m7 : mayB L 0 sCOMMIT = false) (m8 : mayB L 0 sROLLBACK = false) :
  Calls Tryd.prog 30 #[.pointer (some ⟨B, 0, none⟩)] w (Sy w B (stmtF L n)) := by
 obtain ⟨r, hr⟩ : ∃ r, r = stmtF L n := ⟨_, rfl⟩
 rw [← hr]
 have hr2 : r = bd (partF L n sq0) (endS n) := hr
 have HBG : Hid (∀ W, W = (w.alloc (.cells z12 33)).alloc (.cells (stC sq0 p0) 33) → Ss W B (w.heap.size + 1) (w.heap.size + 2) a n c L 0 sq0 p0 ∧ Below w.heap.size w W ∧ W.heap[w.heap.size]? = some (.cells z12 33 (0, 0))) := fun W hW => ss_begin h hW
 have HLB : Hid (B < w.heap.size) := h.lt
 clear h hr
 unfold partF at hr2
 go_enter Tryd.func30, Tryd.ntmps30
 go_wp2_with fail
 refine calls_nm (fun w0 hW => ?_)
 obtain ⟨hx, hb, hRB⟩ := HBG.out w0 hW
 obtain ⟨S, hS⟩ : ∃ S, S = w.heap.size + 1 := ⟨_, rfl⟩
 have HS0 := hid hx
 have HB0 := hid hb
 have HRB := hid hRB
 clear hW hx hb hRB HBG hS S
 have HN0 : Hid (ButS B (w.heap.size + 1) (w.heap.size + 2) w0 w0) := ButS.refl _ _ _ _
 have hm0 := ssmay HS0.out sCREATE
 rw [m0] at hm0
 have HM := hid hm0
 clear hm0
 refine HM.out.mono ?_
 rintro e w1 ⟨rfl, hN, hx⟩
 have hx : Ss w1 B (w.heap.size + 1) (w.heap.size + 2) a n c L 0 sq0 p0 := hx
 have HN1 := hid (HN0.out.trans (hN.toS (w.heap.size + 1) (w.heap.size + 2)))
 have HS1 := hid hx
 clear hN hx HM HS0 HN0
 have hm0 := ssmay HS1.out sDROP
 rw [m1] at hm0
 have HM := hid hm0
 clear hm0
 go_wp2_with fail
 refine HM.out.mono ?_
 rintro e w2 ⟨rfl, hN, hx⟩
 have hx : Ss w2 B (w.heap.size + 1) (w.heap.size + 2) a n c L 0 sq0 p0 := hx
 have HN2 := hid (HN1.out.trans (hN.toS (w.heap.size + 1) (w.heap.size + 2)))
 have HS2 := hid hx
 clear hN hx HM HS1 HN1
 have hm0 := ssmay HS2.out sINSERT
 rw [m2] at hm0
 have HM := hid hm0
 clear hm0
 go_wp2_with fail
 refine HM.out.mono ?_
 rintro e w3 ⟨rfl, hN, hx⟩
 have hx : Ss w3 B (w.heap.size + 1) (w.heap.size + 2) a n c L 0 sq0 p0 := hx
 have HN3 := hid (HN2.out.trans (hN.toS (w.heap.size + 1) (w.heap.size + 2)))
 have HS3 := hid hx
 clear hN hx HM HS2 HN2
 have hm0 := ssmay HS3.out sSELECT
 rw [m3] at hm0
 have HM := hid hm0
 clear hm0
 go_wp2_with fail
 refine HM.out.mono ?_
 rintro e w4 ⟨rfl, hN, hx⟩
 have hx : Ss w4 B (w.heap.size + 1) (w.heap.size + 2) a n c L 0 sq0 p0 := hx
 have HN4 := hid (HN3.out.trans (hN.toS (w.heap.size + 1) (w.heap.size + 2)))
 have HS4 := hid hx
 clear hN hx HM HS3 HN3
 have hm0 := ssmay HS4.out sUPDATE
 rw [m4] at hm0
 have HM := hid hm0
 clear hm0
 go_wp2_with fail
 refine HM.out.mono ?_
 rintro e w5 ⟨rfl, hN, hx⟩
 have hx : Ss w5 B (w.heap.size + 1) (w.heap.size + 2) a n c L 0 sq0 p0 := hx
 have HN5 := hid (HN4.out.trans (hN.toS (w.heap.size + 1) (w.heap.size + 2)))
 have HS5 := hid hx
 clear hN hx HM HS4 HN4
 have hm0 := ssmay HS5.out sDELETE
 rw [m5] at hm0
 have HM := hid hm0
 clear hm0
 go_wp2_with fail
 refine HM.out.mono ?_
 rintro e w6 ⟨rfl, hN, hx⟩
 have hx : Ss w6 B (w.heap.size + 1) (w.heap.size + 2) a n c L 0 sq0 p0 := hx
 have HN6 := hid (HN5.out.trans (hN.toS (w.heap.size + 1) (w.heap.size + 2)))
 have HS6 := hid hx
 clear hN hx HM HS5 HN5
 have hm0 := ssmay HS6.out sBEGIN
 rw [m6] at hm0
 have HM := hid hm0
 clear hm0
 go_wp2_with fail
 refine HM.out.mono ?_
 rintro e w7 ⟨rfl, hN, hx⟩
 have hx : Ss w7 B (w.heap.size + 1) (w.heap.size + 2) a n c L 0 sq0 p0 := hx
 have HN7 := hid (HN6.out.trans (hN.toS (w.heap.size + 1) (w.heap.size + 2)))
 have HS7 := hid hx
 clear hN hx HM HS6 HN6
 have hm0 := ssmay HS7.out sCOMMIT
 rw [m7] at hm0
 have HM := hid hm0
 clear hm0
 go_wp2_with fail
 refine HM.out.mono ?_
 rintro e w8 ⟨rfl, hN, hx⟩
 have hx : Ss w8 B (w.heap.size + 1) (w.heap.size + 2) a n c L 0 sq0 p0 := hx
 have HN8 := hid (HN7.out.trans (hN.toS (w.heap.size + 1) (w.heap.size + 2)))
 have HS8 := hid hx
 clear hN hx HM HS7 HN7
 have hm0 := ssmay HS8.out sROLLBACK
 rw [m8] at hm0
 have HM := hid hm0
 clear hm0
 go_wp2_with fail
 refine HM.out.mono ?_
 rintro e w9 ⟨rfl, hN, hx⟩
 have hx : Ss w9 B (w.heap.size + 1) (w.heap.size + 2) a n c L 0 sq0 p0 := hx
 have HN9 := hid (HN8.out.trans (hN.toS (w.heap.size + 1) (w.heap.size + 2)))
 have HS9 := hid hx
 clear hN hx HM HS8 HN8
 rw [if_neg (by simp [m0]), if_neg (by simp [m1]), if_neg (by simp [m2]), if_neg (by simp [m3]), if_neg (by simp [m4]), if_neg (by simp [m5]), if_neg (by simp [m6]), if_neg (by simp [m7]), if_neg (by simp [m8])] at hr2
 have HR9 : Hid (r = endS n (0, sq0)) := hr2
 clear hr2
 have HKN : (sq0 : Sq).k = 0 := rfl
 obtain ⟨sf, hsf⟩ : ∃ sf : Sq, sf = sq0 := ⟨_, rfl⟩
 have HK : Hid (sf.k = 0) := by show sf.k = 0; rw [hsf]; exact HKN
 have HSF : Hid (Ss w9 B (w.heap.size + 1) (w.heap.size + 2) a n c L 0 sf p0) := by show Ss _ _ _ _ _ _ _ _ _ _ _; rw [hsf]; exact HS9.out
 have HRF : Hid (r = if sf.k = 0 ∨ 0 < n then .inl (fl n 0 6) else .inr sf) := by show _ = _; rw [hsf]; exact HR9.out
 obtain ⟨pf, hpf⟩ : ∃ pf : Ps, pf = p0 := ⟨_, rfl⟩
 rw [← hpf] at HSF
 have HGV : Hid (∀ W, Below w9.heap.size w9 W → Calls Tryd.prog 58 #[.pointer (some ⟨B, 0, none⟩), .int .i64 6] W fun e w' => e = flt (fl n 0 6).1 (fl n 0 6).2 ∧ But B W w') := fun W hW => sgive (HSF.out.rs.later hW) 6
 obtain ⟨ov, hrd⟩ := HSF.out.rs.rd
 obtain ⟨r0, r1, r2, -, -, -⟩ := hrd.cells
 have hkn : 0 ≤ n := hrd.le
 have hn100 : n ≤ 100 := hrd.sm
 have hRb := HN9.out.keep (k := w.heap.size) (by have := HSF.out.lb; have := HLB.out; omega) (by omega) (by unfold Grows; decide) HRB.out
 have HRX := hid hRb
 have HNF := hid HN9.out
 clear hpf HS9 HR9 HN9 hrd hRb HKN hsf
 obtain ⟨s0, s1, s2, s3, s4, s5, s6, s7, s8, s9, s10, s11⟩ := sf
 obtain ⟨a2, n2, c2, a3, n3, c3, a4, n4, c4, a6, n6, c6, a11, n11, c11⟩ := pf
 obtain ⟨x0, x1, x2, x3, x4, x5, x6, x7, x8, x9, x10, x11, f0, f1, f2, f3, f4, f5, f6, f7, f8, f9, f10, f11⟩ := box12 HSF.out.box
 obtain ⟨y0, y1, y2, y3, y4, y5, y6, y7, y8, y9, y10, y11, g0, g1, g2, g3, g4, g5, g6, g7, g8, g9, g10, g11⟩ := box12 HRX.out
 simp only at HK HRF
 have hz : (s0 == 0) = true := by have := HK.out; simpa using this
 have hq : r = .inl (fl n 0 6) := by rw [HRF.out, if_pos (Or.inl HK.out)]
 subst hq
 clear x1 x2 x3 x4 x5 x6 x7 x8 x9 x10 x11 f0 f1 f2 f3 f4 f5 f6 f7 f8 f9 f10 f11 y0 y1 y2 y3 y4 y5 y6 y7 y8 y9 y10 y11 g0 g1 g2 g3 g4 g5 g6 g7 g8 g9 g10 g11
 (try go_wp2_with fail)
 go_quiet (fail)
 go_wp2_with fail
 refine (HGV.out _ (below_drewN _ _)).mono ?_
 rintro e w' ⟨rfl, hN⟩
 exact ⟨rfl, st_but HB0.out (HNF.out.trans (((But.of (below_drewN _ _)).trans hN).toS _ _)), rfl⟩
end
open Go.Proofs.YtdeollmeljaaoaaDoor.cs
section
variable {B : Nat} {a : Option Addr} {n c : Nat} {L : List Tk}
theorem stmt_CREATE {w : World} (h : Rs w B a n c L 0) (m0 : mayB L 0 sCREATE = true) :
  Calls Tryd.prog 30 #[.pointer (some ⟨B, 0, none⟩)] w (Sy w B (stmtF L n)) := by
 obtain ⟨r, hr⟩ : ∃ r, r = stmtF L n := ⟨_, rfl⟩
 rw [← hr]
 have hr2 : r = bd (partF L n sq0) (endS n) := hr
 have HBG : Hid (∀ W, W = (w.alloc (.cells z12 33)).alloc (.cells (stC sq0 p0) 33) → Ss W B (w.heap.size + 1) (w.heap.size + 2) a n c L 0 sq0 p0 ∧ Below w.heap.size w W ∧ W.heap[w.heap.size]? = some (.cells z12 33 (0, 0))) := fun W hW => ss_begin h hW
 have HLB : Hid (B < w.heap.size) := h.lt
 clear h hr
 unfold partF at hr2
 go_enter Tryd.func30, Tryd.ntmps30
 go_wp2_with fail
 refine calls_nm (fun w0 hW => ?_)
 obtain ⟨hx, hb, hRB⟩ := HBG.out w0 hW
 obtain ⟨S, hS⟩ : ∃ S, S = w.heap.size + 1 := ⟨_, rfl⟩
 have HS0 := hid hx
 have HB0 := hid hb
 have HRB := hid hRB
 clear hW hx hb hRB HBG hS S
 have HN0 : Hid (ButS B (w.heap.size + 1) (w.heap.size + 2) w0 w0) := ButS.refl _ _ _ _
 have hm0 := ssmay HS0.out sCREATE
 rw [m0] at hm0
 have HM := hid hm0
 clear hm0
 refine HM.out.mono ?_
 rintro e w1 ⟨rfl, hN, hx⟩
 have hx : Ss w1 B (w.heap.size + 1) (w.heap.size + 2) a n c L (0 + 1) sq0 p0 := hx
 have HN1 := hid (HN0.out.trans (hN.toS (w.heap.size + 1) (w.heap.size + 2)))
 have HS1 := hid hx
 clear hN hx HM HS0 HN0
 rw [if_pos m0] at hr2
 have HR1 : Hid (r = bd (createF L n 1 sq0) (endS n)) := hr2
 obtain ⟨q2, hq2⟩ : ∃ q, q = createF L n 1 sq0 := ⟨_, rfl⟩
 have HQ2 : Hid (r = bd q2 (endS n)) := by
  show _ = _
  rw [HR1.out, hq2]
 have HKQ : Hid (∀ x, q2 = .inr x → x.2.k ≠ 0) := fun x e => k_create (by rw [← hq2]; exact e)
 have HC2 := create_any HS1.out rfl
 rw [← hq2] at HC2
 have HC2 := hid HC2
 clear hq2 HR1 hr2
 go_wp2_with fail
 refine HC2.out.mono ?_
 rintro e w2 ⟨hN, h1⟩
 have HN2 := hid (HN1.out.trans hN)
 clear hN HC2
 rcases q2 with f0 | ⟨k2, s2q⟩
 ·obtain rfl : e = flt f0.1 f0.2 := h1
  obtain rfl : r = .inl f0 := HQ2.out
  exact ⟨rfl, st_but HB0.out HN2.out, rfl⟩
 ·obtain ⟨rfl, p2q, hx⟩ := h1
  have HS2 := hid hx
  have HR2 := hid (show r = endS n (k2, s2q) from HQ2.out)
  have HKN : s2q.k ≠ 0 := HKQ.out (k2, s2q) rfl
  clear hx HQ2 HKQ
  obtain ⟨sf, hsf⟩ : ∃ sf : Sq, sf = s2q := ⟨_, rfl⟩
  have HK : Hid (sf.k ≠ 0) := by show sf.k ≠ 0; rw [hsf]; exact HKN
  have HSF : Hid (Ss w2 B (w.heap.size + 1) (w.heap.size + 2) a n c L k2 sf p2q) := by show Ss _ _ _ _ _ _ _ _ _ _ _; rw [hsf]; exact HS2.out
  have HRF : Hid (r = if sf.k = 0 ∨ k2 < n then .inl (fl n k2 6) else .inr sf) := by show _ = _; rw [hsf]; exact HR2.out
  obtain ⟨pf, hpf⟩ : ∃ pf : Ps, pf = p2q := ⟨_, rfl⟩
  rw [← hpf] at HSF
  have HGV : Hid (∀ W, Below w2.heap.size w2 W → Calls Tryd.prog 58 #[.pointer (some ⟨B, 0, none⟩), .int .i64 6] W fun e w' => e = flt (fl n k2 6).1 (fl n k2 6).2 ∧ But B W w') := fun W hW => sgive (HSF.out.rs.later hW) 6
  obtain ⟨ov, hrd⟩ := HSF.out.rs.rd
  obtain ⟨r0, r1, r2, -, -, -⟩ := hrd.cells
  have hkn : k2 ≤ n := hrd.le
  have hn100 : n ≤ 100 := hrd.sm
  have hRb := HN2.out.keep (k := w.heap.size) (by have := HSF.out.lb; have := HLB.out; omega) (by omega) (by unfold Grows; decide) HRB.out
  have HRX := hid hRb
  have HNF := hid HN2.out
  clear hpf HS2 HR2 HN2 hrd hRb HKN hsf
  obtain ⟨s0, s1, s2, s3, s4, s5, s6, s7, s8, s9, s10, s11⟩ := sf
  obtain ⟨a2, n2, c2, a3, n3, c3, a4, n4, c4, a6, n6, c6, a11, n11, c11⟩ := pf
  obtain ⟨x0, x1, x2, x3, x4, x5, x6, x7, x8, x9, x10, x11, f0, f1, f2, f3, f4, f5, f6, f7, f8, f9, f10, f11⟩ := box12 HSF.out.box
  obtain ⟨y0, y1, y2, y3, y4, y5, y6, y7, y8, y9, y10, y11, g0, g1, g2, g3, g4, g5, g6, g7, g8, g9, g10, g11⟩ := box12 HRX.out
  simp only at HK HRF
  have hz : (s0 == 0) = false := by have := HK.out; simpa using this
  by_cases hlt : k2 < n
  ·have hlt' : decide (((k2 : Nat) : Int) < (n : Int)) = true := by simp; omega
   have hq : r = .inl (fl n k2 6) := by rw [HRF.out, if_pos (Or.inr hlt)]
   subst hq
   clear x1 x2 x3 x4 x5 x6 x7 x8 x9 x10 x11 f0 f1 f2 f3 f4 f5 f6 f7 f8 f9 f10 f11 y0 y1 y2 y3 y4 y5 y6 y7 y8 y9 y10 y11 g0 g1 g2 g3 g4 g5 g6 g7 g8 g9 g10 g11
   (try go_wp2_with fail)
   go_quiet (fail)
   go_wp2_with fail
   refine (HGV.out _ (below_drewN _ _)).mono ?_
   rintro e w' ⟨rfl, hN⟩
   exact ⟨rfl, st_but HB0.out (HNF.out.trans (((But.of (below_drewN _ _)).trans hN).toS _ _)), rfl⟩
  ·have hlt' : decide (((k2 : Nat) : Int) < (n : Int)) = false := by simp; omega
   have hq : r = .inr (⟨s0, s1, s2, s3, s4, s5, s6, s7, s8, s9, s10, s11⟩ : Sq) := by rw [HRF.out, if_neg (by rintro (h | h); exact HK.out h; exact hlt h)]
   subst hq
   (try go_wp2_with fail)
   go_quiet (fail)
   have hzz : w.heap.size ≤ w2.heap.size := Nat.le_trans HB0.out.size HNF.out.size
   have HRD : (w2.drewN nq).heap[w.heap.size]? = some (.cells z12 33 (0, 0)) := ((below_drewN w2 nq).block _ (blk_lt HRX.out)).trans HRX.out
   go_wp2_with fail
   obtain ⟨hb12, v0, v1, v2, v3, v4, v5, v6, v7, v8, v9, v10, v11⟩ := st12 (A := w.heap.size) (w0 := w2) ((below_drewN _ _).mono hzz) (Nat.le_refl _) HRD (.int .i64 s0) (.string s1) (.slice a2 n2 c2) (.slice a3 n3 c3) (.slice a4 n4 c4) (.bool s5) (.slice a6 n6 c6) (.string s7) (.bool s8) (.int .i64 s9) (.string s10) (.slice a11 n11 c11)
   clear x0 x1 x2 x3 x4 x5 x6 x7 x8 x9 x10 x11 f0 f1 f2 f3 f4 f5 f6 f7 f8 f9 f10 f11 y0 y1 y2 y3 y4 y5 y6 y7 y8 y9 y10 y11 g0 g1 g2 g3 g4 g5 g6 g7 g8 g9 g10 g11
   refine bodyPost_ret (v := .agg #[.int .i64 s0, .string s1, .slice a2 n2 c2, .slice a3 n3 c3, .slice a4 n4 c4, .bool s5, .slice a6 n6 c6, .string s7, .bool s8, .int .i64 s9, .string s10, .slice a11 n11 c11]) (by simp [results, Tryd.results30, go_sem, v0, v1, v2, v3, v4, v5, v6, v7, v8, v9, v10, v11]; try rfl) rfl ?_
   exact ⟨but_tail (st_but HB0.out HNF.out) hb12, ⟨a2, n2, c2, a3, n3, c3, a4, n4, c4, a6, n6, c6, a11, n11, c11⟩, rfl, HSF.out.own.tail fun k hk hl => (set12_far _ _ _ _ _ _ _ _ _ _ _ _ k hk).trans ((below_drewN w2 nq).block k hl)⟩
theorem stmt_INSERT {w : World} (h : Rs w B a n c L 0) (m0 : mayB L 0 sCREATE = false) (m1 : mayB L 0 sDROP = false) (m2 : mayB L 0 sINSERT = true) :
  Calls Tryd.prog 30 #[.pointer (some ⟨B, 0, none⟩)] w (Sy w B (stmtF L n)) := by
 obtain ⟨r, hr⟩ : ∃ r, r = stmtF L n := ⟨_, rfl⟩
 rw [← hr]
 have hr2 : r = bd (partF L n sq0) (endS n) := hr
 have HBG : Hid (∀ W, W = (w.alloc (.cells z12 33)).alloc (.cells (stC sq0 p0) 33) → Ss W B (w.heap.size + 1) (w.heap.size + 2) a n c L 0 sq0 p0 ∧ Below w.heap.size w W ∧ W.heap[w.heap.size]? = some (.cells z12 33 (0, 0))) := fun W hW => ss_begin h hW
 have HLB : Hid (B < w.heap.size) := h.lt
 clear h hr
 unfold partF at hr2
 go_enter Tryd.func30, Tryd.ntmps30
 go_wp2_with fail
 refine calls_nm (fun w0 hW => ?_)
 obtain ⟨hx, hb, hRB⟩ := HBG.out w0 hW
 obtain ⟨S, hS⟩ : ∃ S, S = w.heap.size + 1 := ⟨_, rfl⟩
 have HS0 := hid hx
 have HB0 := hid hb
 have HRB := hid hRB
 clear hW hx hb hRB HBG hS S
 have HN0 : Hid (ButS B (w.heap.size + 1) (w.heap.size + 2) w0 w0) := ButS.refl _ _ _ _
 have hm0 := ssmay HS0.out sCREATE
 rw [m0] at hm0
 have HM := hid hm0
 clear hm0
 refine HM.out.mono ?_
 rintro e w1 ⟨rfl, hN, hx⟩
 have hx : Ss w1 B (w.heap.size + 1) (w.heap.size + 2) a n c L 0 sq0 p0 := hx
 have HN1 := hid (HN0.out.trans (hN.toS (w.heap.size + 1) (w.heap.size + 2)))
 have HS1 := hid hx
 clear hN hx HM HS0 HN0
 have hm0 := ssmay HS1.out sDROP
 rw [m1] at hm0
 have HM := hid hm0
 clear hm0
 go_wp2_with fail
 refine HM.out.mono ?_
 rintro e w2 ⟨rfl, hN, hx⟩
 have hx : Ss w2 B (w.heap.size + 1) (w.heap.size + 2) a n c L 0 sq0 p0 := hx
 have HN2 := hid (HN1.out.trans (hN.toS (w.heap.size + 1) (w.heap.size + 2)))
 have HS2 := hid hx
 clear hN hx HM HS1 HN1
 have hm0 := ssmay HS2.out sINSERT
 rw [m2] at hm0
 have HM := hid hm0
 clear hm0
 go_wp2_with fail
 refine HM.out.mono ?_
 rintro e w3 ⟨rfl, hN, hx⟩
 have hx : Ss w3 B (w.heap.size + 1) (w.heap.size + 2) a n c L (0 + 1) sq0 p0 := hx
 have HN3 := hid (HN2.out.trans (hN.toS (w.heap.size + 1) (w.heap.size + 2)))
 have HS3 := hid hx
 clear hN hx HM HS2 HN2
 rw [if_neg (by simp [m0]), if_neg (by simp [m1]), if_pos m2] at hr2
 have HR3 : Hid (r = bd (insertF L n 1 sq0) (endS n)) := hr2
 obtain ⟨q4, hq4⟩ : ∃ q, q = insertF L n 1 sq0 := ⟨_, rfl⟩
 have HQ4 : Hid (r = bd q4 (endS n)) := by
  show _ = _
  rw [HR3.out, hq4]
 have HKQ : Hid (∀ x, q4 = .inr x → x.2.k ≠ 0) := fun x e => k_insert (by rw [← hq4]; exact e)
 have HC4 := insert_any HS3.out rfl
 rw [← hq4] at HC4
 have HC4 := hid HC4
 clear hq4 HR3 hr2
 go_wp2_with fail
 refine HC4.out.mono ?_
 rintro e w4 ⟨hN, h1⟩
 have HN4 := hid (HN3.out.trans hN)
 clear hN HC4
 rcases q4 with f0 | ⟨k4, s4q⟩
 ·obtain rfl : e = flt f0.1 f0.2 := h1
  obtain rfl : r = .inl f0 := HQ4.out
  exact ⟨rfl, st_but HB0.out HN4.out, rfl⟩
 ·obtain ⟨rfl, p4q, hx⟩ := h1
  have HS4 := hid hx
  have HR4 := hid (show r = endS n (k4, s4q) from HQ4.out)
  have HKN : s4q.k ≠ 0 := HKQ.out (k4, s4q) rfl
  clear hx HQ4 HKQ
  obtain ⟨sf, hsf⟩ : ∃ sf : Sq, sf = s4q := ⟨_, rfl⟩
  have HK : Hid (sf.k ≠ 0) := by show sf.k ≠ 0; rw [hsf]; exact HKN
  have HSF : Hid (Ss w4 B (w.heap.size + 1) (w.heap.size + 2) a n c L k4 sf p4q) := by show Ss _ _ _ _ _ _ _ _ _ _ _; rw [hsf]; exact HS4.out
  have HRF : Hid (r = if sf.k = 0 ∨ k4 < n then .inl (fl n k4 6) else .inr sf) := by show _ = _; rw [hsf]; exact HR4.out
  obtain ⟨pf, hpf⟩ : ∃ pf : Ps, pf = p4q := ⟨_, rfl⟩
  rw [← hpf] at HSF
  have HGV : Hid (∀ W, Below w4.heap.size w4 W → Calls Tryd.prog 58 #[.pointer (some ⟨B, 0, none⟩), .int .i64 6] W fun e w' => e = flt (fl n k4 6).1 (fl n k4 6).2 ∧ But B W w') := fun W hW => sgive (HSF.out.rs.later hW) 6
  obtain ⟨ov, hrd⟩ := HSF.out.rs.rd
  obtain ⟨r0, r1, r2, -, -, -⟩ := hrd.cells
  have hkn : k4 ≤ n := hrd.le
  have hn100 : n ≤ 100 := hrd.sm
  have hRb := HN4.out.keep (k := w.heap.size) (by have := HSF.out.lb; have := HLB.out; omega) (by omega) (by unfold Grows; decide) HRB.out
  have HRX := hid hRb
  have HNF := hid HN4.out
  clear hpf HS4 HR4 HN4 hrd hRb HKN hsf
  obtain ⟨s0, s1, s2, s3, s4, s5, s6, s7, s8, s9, s10, s11⟩ := sf
  obtain ⟨a2, n2, c2, a3, n3, c3, a4, n4, c4, a6, n6, c6, a11, n11, c11⟩ := pf
  obtain ⟨x0, x1, x2, x3, x4, x5, x6, x7, x8, x9, x10, x11, f0, f1, f2, f3, f4, f5, f6, f7, f8, f9, f10, f11⟩ := box12 HSF.out.box
  obtain ⟨y0, y1, y2, y3, y4, y5, y6, y7, y8, y9, y10, y11, g0, g1, g2, g3, g4, g5, g6, g7, g8, g9, g10, g11⟩ := box12 HRX.out
  simp only at HK HRF
  have hz : (s0 == 0) = false := by have := HK.out; simpa using this
  by_cases hlt : k4 < n
  ·have hlt' : decide (((k4 : Nat) : Int) < (n : Int)) = true := by simp; omega
   have hq : r = .inl (fl n k4 6) := by rw [HRF.out, if_pos (Or.inr hlt)]
   subst hq
   clear x1 x2 x3 x4 x5 x6 x7 x8 x9 x10 x11 f0 f1 f2 f3 f4 f5 f6 f7 f8 f9 f10 f11 y0 y1 y2 y3 y4 y5 y6 y7 y8 y9 y10 y11 g0 g1 g2 g3 g4 g5 g6 g7 g8 g9 g10 g11
   (try go_wp2_with fail)
   go_quiet (fail)
   go_wp2_with fail
   refine (HGV.out _ (below_drewN _ _)).mono ?_
   rintro e w' ⟨rfl, hN⟩
   exact ⟨rfl, st_but HB0.out (HNF.out.trans (((But.of (below_drewN _ _)).trans hN).toS _ _)), rfl⟩
  ·have hlt' : decide (((k4 : Nat) : Int) < (n : Int)) = false := by simp; omega
   have hq : r = .inr (⟨s0, s1, s2, s3, s4, s5, s6, s7, s8, s9, s10, s11⟩ : Sq) := by rw [HRF.out, if_neg (by rintro (h | h); exact HK.out h; exact hlt h)]
   subst hq
   (try go_wp2_with fail)
   go_quiet (fail)
   have hzz : w.heap.size ≤ w4.heap.size := Nat.le_trans HB0.out.size HNF.out.size
   have HRD : (w4.drewN nq).heap[w.heap.size]? = some (.cells z12 33 (0, 0)) := ((below_drewN w4 nq).block _ (blk_lt HRX.out)).trans HRX.out
   go_wp2_with fail
   obtain ⟨hb12, v0, v1, v2, v3, v4, v5, v6, v7, v8, v9, v10, v11⟩ := st12 (A := w.heap.size) (w0 := w4) ((below_drewN _ _).mono hzz) (Nat.le_refl _) HRD (.int .i64 s0) (.string s1) (.slice a2 n2 c2) (.slice a3 n3 c3) (.slice a4 n4 c4) (.bool s5) (.slice a6 n6 c6) (.string s7) (.bool s8) (.int .i64 s9) (.string s10) (.slice a11 n11 c11)
   clear x0 x1 x2 x3 x4 x5 x6 x7 x8 x9 x10 x11 f0 f1 f2 f3 f4 f5 f6 f7 f8 f9 f10 f11 y0 y1 y2 y3 y4 y5 y6 y7 y8 y9 y10 y11 g0 g1 g2 g3 g4 g5 g6 g7 g8 g9 g10 g11
   refine bodyPost_ret (v := .agg #[.int .i64 s0, .string s1, .slice a2 n2 c2, .slice a3 n3 c3, .slice a4 n4 c4, .bool s5, .slice a6 n6 c6, .string s7, .bool s8, .int .i64 s9, .string s10, .slice a11 n11 c11]) (by simp [results, Tryd.results30, go_sem, v0, v1, v2, v3, v4, v5, v6, v7, v8, v9, v10, v11]; try rfl) rfl ?_
   exact ⟨but_tail (st_but HB0.out HNF.out) hb12, ⟨a2, n2, c2, a3, n3, c3, a4, n4, c4, a6, n6, c6, a11, n11, c11⟩, rfl, HSF.out.own.tail fun k hk hl => (set12_far _ _ _ _ _ _ _ _ _ _ _ _ k hk).trans ((below_drewN w4 nq).block k hl)⟩
theorem stmt_SELECT {w : World} (h : Rs w B a n c L 0) (m0 : mayB L 0 sCREATE = false) (m1 : mayB L 0 sDROP = false) (m2 : mayB L 0 sINSERT = false) (m3 : mayB L 0 sSELECT = true) :
  Calls Tryd.prog 30 #[.pointer (some ⟨B, 0, none⟩)] w (Sy w B (stmtF L n)) := by
 obtain ⟨r, hr⟩ : ∃ r, r = stmtF L n := ⟨_, rfl⟩
 rw [← hr]
 have hr2 : r = bd (partF L n sq0) (endS n) := hr
 have HBG : Hid (∀ W, W = (w.alloc (.cells z12 33)).alloc (.cells (stC sq0 p0) 33) → Ss W B (w.heap.size + 1) (w.heap.size + 2) a n c L 0 sq0 p0 ∧ Below w.heap.size w W ∧ W.heap[w.heap.size]? = some (.cells z12 33 (0, 0))) := fun W hW => ss_begin h hW
 have HLB : Hid (B < w.heap.size) := h.lt
 clear h hr
 unfold partF at hr2
 go_enter Tryd.func30, Tryd.ntmps30
 go_wp2_with fail
 refine calls_nm (fun w0 hW => ?_)
 obtain ⟨hx, hb, hRB⟩ := HBG.out w0 hW
 obtain ⟨S, hS⟩ : ∃ S, S = w.heap.size + 1 := ⟨_, rfl⟩
 have HS0 := hid hx
 have HB0 := hid hb
 have HRB := hid hRB
 clear hW hx hb hRB HBG hS S
 have HN0 : Hid (ButS B (w.heap.size + 1) (w.heap.size + 2) w0 w0) := ButS.refl _ _ _ _
 have hm0 := ssmay HS0.out sCREATE
 rw [m0] at hm0
 have HM := hid hm0
 clear hm0
 refine HM.out.mono ?_
 rintro e w1 ⟨rfl, hN, hx⟩
 have hx : Ss w1 B (w.heap.size + 1) (w.heap.size + 2) a n c L 0 sq0 p0 := hx
 have HN1 := hid (HN0.out.trans (hN.toS (w.heap.size + 1) (w.heap.size + 2)))
 have HS1 := hid hx
 clear hN hx HM HS0 HN0
 have hm0 := ssmay HS1.out sDROP
 rw [m1] at hm0
 have HM := hid hm0
 clear hm0
 go_wp2_with fail
 refine HM.out.mono ?_
 rintro e w2 ⟨rfl, hN, hx⟩
 have hx : Ss w2 B (w.heap.size + 1) (w.heap.size + 2) a n c L 0 sq0 p0 := hx
 have HN2 := hid (HN1.out.trans (hN.toS (w.heap.size + 1) (w.heap.size + 2)))
 have HS2 := hid hx
 clear hN hx HM HS1 HN1
 have hm0 := ssmay HS2.out sINSERT
 rw [m2] at hm0
 have HM := hid hm0
 clear hm0
 go_wp2_with fail
 refine HM.out.mono ?_
 rintro e w3 ⟨rfl, hN, hx⟩
 have hx : Ss w3 B (w.heap.size + 1) (w.heap.size + 2) a n c L 0 sq0 p0 := hx
 have HN3 := hid (HN2.out.trans (hN.toS (w.heap.size + 1) (w.heap.size + 2)))
 have HS3 := hid hx
 clear hN hx HM HS2 HN2
 have hm0 := ssmay HS3.out sSELECT
 rw [m3] at hm0
 have HM := hid hm0
 clear hm0
 go_wp2_with fail
 refine HM.out.mono ?_
 rintro e w4 ⟨rfl, hN, hx⟩
 have hx : Ss w4 B (w.heap.size + 1) (w.heap.size + 2) a n c L (0 + 1) sq0 p0 := hx
 have HN4 := hid (HN3.out.trans (hN.toS (w.heap.size + 1) (w.heap.size + 2)))
 have HS4 := hid hx
 clear hN hx HM HS3 HN3
 rw [if_neg (by simp [m0]), if_neg (by simp [m1]), if_neg (by simp [m2]), if_pos m3] at hr2
 have HR4 : Hid (r = bd (chooseF L n 1 sq0) (endS n)) := hr2
 obtain ⟨q5, hq5⟩ : ∃ q, q = chooseF L n 1 sq0 := ⟨_, rfl⟩
 have HQ5 : Hid (r = bd q5 (endS n)) := by
  show _ = _
  rw [HR4.out, hq5]
 have HKQ : Hid (∀ x, q5 = .inr x → x.2.k ≠ 0) := fun x e => k_choose (by rw [← hq5]; exact e)
 have HC5 := choose_any HS4.out
 rw [← hq5] at HC5
 have HC5 := hid HC5
 clear hq5 HR4 hr2
 go_wp2_with fail
 refine HC5.out.mono ?_
 rintro e w5 ⟨hN, h1⟩
 have HN5 := hid (HN4.out.trans hN)
 clear hN HC5
 rcases q5 with f0 | ⟨k5, s5q⟩
 ·obtain rfl : e = flt f0.1 f0.2 := h1
  obtain rfl : r = .inl f0 := HQ5.out
  exact ⟨rfl, st_but HB0.out HN5.out, rfl⟩
 ·obtain ⟨rfl, p5q, hx⟩ := h1
  have HS5 := hid hx
  have HR5 := hid (show r = endS n (k5, s5q) from HQ5.out)
  have HKN : s5q.k ≠ 0 := HKQ.out (k5, s5q) rfl
  clear hx HQ5 HKQ
  obtain ⟨sf, hsf⟩ : ∃ sf : Sq, sf = s5q := ⟨_, rfl⟩
  have HK : Hid (sf.k ≠ 0) := by show sf.k ≠ 0; rw [hsf]; exact HKN
  have HSF : Hid (Ss w5 B (w.heap.size + 1) (w.heap.size + 2) a n c L k5 sf p5q) := by show Ss _ _ _ _ _ _ _ _ _ _ _; rw [hsf]; exact HS5.out
  have HRF : Hid (r = if sf.k = 0 ∨ k5 < n then .inl (fl n k5 6) else .inr sf) := by show _ = _; rw [hsf]; exact HR5.out
  obtain ⟨pf, hpf⟩ : ∃ pf : Ps, pf = p5q := ⟨_, rfl⟩
  rw [← hpf] at HSF
  have HGV : Hid (∀ W, Below w5.heap.size w5 W → Calls Tryd.prog 58 #[.pointer (some ⟨B, 0, none⟩), .int .i64 6] W fun e w' => e = flt (fl n k5 6).1 (fl n k5 6).2 ∧ But B W w') := fun W hW => sgive (HSF.out.rs.later hW) 6
  obtain ⟨ov, hrd⟩ := HSF.out.rs.rd
  obtain ⟨r0, r1, r2, -, -, -⟩ := hrd.cells
  have hkn : k5 ≤ n := hrd.le
  have hn100 : n ≤ 100 := hrd.sm
  have hRb := HN5.out.keep (k := w.heap.size) (by have := HSF.out.lb; have := HLB.out; omega) (by omega) (by unfold Grows; decide) HRB.out
  have HRX := hid hRb
  have HNF := hid HN5.out
  clear hpf HS5 HR5 HN5 hrd hRb HKN hsf
  obtain ⟨s0, s1, s2, s3, s4, s5, s6, s7, s8, s9, s10, s11⟩ := sf
  obtain ⟨a2, n2, c2, a3, n3, c3, a4, n4, c4, a6, n6, c6, a11, n11, c11⟩ := pf
  obtain ⟨x0, x1, x2, x3, x4, x5, x6, x7, x8, x9, x10, x11, f0, f1, f2, f3, f4, f5, f6, f7, f8, f9, f10, f11⟩ := box12 HSF.out.box
  obtain ⟨y0, y1, y2, y3, y4, y5, y6, y7, y8, y9, y10, y11, g0, g1, g2, g3, g4, g5, g6, g7, g8, g9, g10, g11⟩ := box12 HRX.out
  simp only at HK HRF
  have hz : (s0 == 0) = false := by have := HK.out; simpa using this
  by_cases hlt : k5 < n
  ·have hlt' : decide (((k5 : Nat) : Int) < (n : Int)) = true := by simp; omega
   have hq : r = .inl (fl n k5 6) := by rw [HRF.out, if_pos (Or.inr hlt)]
   subst hq
   clear x1 x2 x3 x4 x5 x6 x7 x8 x9 x10 x11 f0 f1 f2 f3 f4 f5 f6 f7 f8 f9 f10 f11 y0 y1 y2 y3 y4 y5 y6 y7 y8 y9 y10 y11 g0 g1 g2 g3 g4 g5 g6 g7 g8 g9 g10 g11
   (try go_wp2_with fail)
   go_quiet (fail)
   go_wp2_with fail
   refine (HGV.out _ (below_drewN _ _)).mono ?_
   rintro e w' ⟨rfl, hN⟩
   exact ⟨rfl, st_but HB0.out (HNF.out.trans (((But.of (below_drewN _ _)).trans hN).toS _ _)), rfl⟩
  ·have hlt' : decide (((k5 : Nat) : Int) < (n : Int)) = false := by simp; omega
   have hq : r = .inr (⟨s0, s1, s2, s3, s4, s5, s6, s7, s8, s9, s10, s11⟩ : Sq) := by rw [HRF.out, if_neg (by rintro (h | h); exact HK.out h; exact hlt h)]
   subst hq
   (try go_wp2_with fail)
   go_quiet (fail)
   have hzz : w.heap.size ≤ w5.heap.size := Nat.le_trans HB0.out.size HNF.out.size
   have HRD : (w5.drewN nq).heap[w.heap.size]? = some (.cells z12 33 (0, 0)) := ((below_drewN w5 nq).block _ (blk_lt HRX.out)).trans HRX.out
   go_wp2_with fail
   obtain ⟨hb12, v0, v1, v2, v3, v4, v5, v6, v7, v8, v9, v10, v11⟩ := st12 (A := w.heap.size) (w0 := w5) ((below_drewN _ _).mono hzz) (Nat.le_refl _) HRD (.int .i64 s0) (.string s1) (.slice a2 n2 c2) (.slice a3 n3 c3) (.slice a4 n4 c4) (.bool s5) (.slice a6 n6 c6) (.string s7) (.bool s8) (.int .i64 s9) (.string s10) (.slice a11 n11 c11)
   clear x0 x1 x2 x3 x4 x5 x6 x7 x8 x9 x10 x11 f0 f1 f2 f3 f4 f5 f6 f7 f8 f9 f10 f11 y0 y1 y2 y3 y4 y5 y6 y7 y8 y9 y10 y11 g0 g1 g2 g3 g4 g5 g6 g7 g8 g9 g10 g11
   refine bodyPost_ret (v := .agg #[.int .i64 s0, .string s1, .slice a2 n2 c2, .slice a3 n3 c3, .slice a4 n4 c4, .bool s5, .slice a6 n6 c6, .string s7, .bool s8, .int .i64 s9, .string s10, .slice a11 n11 c11]) (by simp [results, Tryd.results30, go_sem, v0, v1, v2, v3, v4, v5, v6, v7, v8, v9, v10, v11]; try rfl) rfl ?_
   exact ⟨but_tail (st_but HB0.out HNF.out) hb12, ⟨a2, n2, c2, a3, n3, c3, a4, n4, c4, a6, n6, c6, a11, n11, c11⟩, rfl, HSF.out.own.tail fun k hk hl => (set12_far _ _ _ _ _ _ _ _ _ _ _ _ k hk).trans ((below_drewN w5 nq).block k hl)⟩
theorem stmt_UPDATE {w : World} (h : Rs w B a n c L 0) (m0 : mayB L 0 sCREATE = false) (m1 : mayB L 0 sDROP = false) (m2 : mayB L 0 sINSERT = false) (m3 : mayB L 0 sSELECT = false) (m4 : mayB L 0 sUPDATE = true) :
  Calls Tryd.prog 30 #[.pointer (some ⟨B, 0, none⟩)] w (Sy w B (stmtF L n)) := by
 obtain ⟨r, hr⟩ : ∃ r, r = stmtF L n := ⟨_, rfl⟩
 rw [← hr]
 have hr2 : r = bd (partF L n sq0) (endS n) := hr
 have HBG : Hid (∀ W, W = (w.alloc (.cells z12 33)).alloc (.cells (stC sq0 p0) 33) → Ss W B (w.heap.size + 1) (w.heap.size + 2) a n c L 0 sq0 p0 ∧ Below w.heap.size w W ∧ W.heap[w.heap.size]? = some (.cells z12 33 (0, 0))) := fun W hW => ss_begin h hW
 have HLB : Hid (B < w.heap.size) := h.lt
 clear h hr
 unfold partF at hr2
 go_enter Tryd.func30, Tryd.ntmps30
 go_wp2_with fail
 refine calls_nm (fun w0 hW => ?_)
 obtain ⟨hx, hb, hRB⟩ := HBG.out w0 hW
 obtain ⟨S, hS⟩ : ∃ S, S = w.heap.size + 1 := ⟨_, rfl⟩
 have HS0 := hid hx
 have HB0 := hid hb
 have HRB := hid hRB
 clear hW hx hb hRB HBG hS S
 have HN0 : Hid (ButS B (w.heap.size + 1) (w.heap.size + 2) w0 w0) := ButS.refl _ _ _ _
 have hm0 := ssmay HS0.out sCREATE
 rw [m0] at hm0
 have HM := hid hm0
 clear hm0
 refine HM.out.mono ?_
 rintro e w1 ⟨rfl, hN, hx⟩
 have hx : Ss w1 B (w.heap.size + 1) (w.heap.size + 2) a n c L 0 sq0 p0 := hx
 have HN1 := hid (HN0.out.trans (hN.toS (w.heap.size + 1) (w.heap.size + 2)))
 have HS1 := hid hx
 clear hN hx HM HS0 HN0
 have hm0 := ssmay HS1.out sDROP
 rw [m1] at hm0
 have HM := hid hm0
 clear hm0
 go_wp2_with fail
 refine HM.out.mono ?_
 rintro e w2 ⟨rfl, hN, hx⟩
 have hx : Ss w2 B (w.heap.size + 1) (w.heap.size + 2) a n c L 0 sq0 p0 := hx
 have HN2 := hid (HN1.out.trans (hN.toS (w.heap.size + 1) (w.heap.size + 2)))
 have HS2 := hid hx
 clear hN hx HM HS1 HN1
 have hm0 := ssmay HS2.out sINSERT
 rw [m2] at hm0
 have HM := hid hm0
 clear hm0
 go_wp2_with fail
 refine HM.out.mono ?_
 rintro e w3 ⟨rfl, hN, hx⟩
 have hx : Ss w3 B (w.heap.size + 1) (w.heap.size + 2) a n c L 0 sq0 p0 := hx
 have HN3 := hid (HN2.out.trans (hN.toS (w.heap.size + 1) (w.heap.size + 2)))
 have HS3 := hid hx
 clear hN hx HM HS2 HN2
 have hm0 := ssmay HS3.out sSELECT
 rw [m3] at hm0
 have HM := hid hm0
 clear hm0
 go_wp2_with fail
 refine HM.out.mono ?_
 rintro e w4 ⟨rfl, hN, hx⟩
 have hx : Ss w4 B (w.heap.size + 1) (w.heap.size + 2) a n c L 0 sq0 p0 := hx
 have HN4 := hid (HN3.out.trans (hN.toS (w.heap.size + 1) (w.heap.size + 2)))
 have HS4 := hid hx
 clear hN hx HM HS3 HN3
 have hm0 := ssmay HS4.out sUPDATE
 rw [m4] at hm0
 have HM := hid hm0
 clear hm0
 go_wp2_with fail
 refine HM.out.mono ?_
 rintro e w5 ⟨rfl, hN, hx⟩
 have hx : Ss w5 B (w.heap.size + 1) (w.heap.size + 2) a n c L (0 + 1) sq0 p0 := hx
 have HN5 := hid (HN4.out.trans (hN.toS (w.heap.size + 1) (w.heap.size + 2)))
 have HS5 := hid hx
 clear hN hx HM HS4 HN4
 rw [if_neg (by simp [m0]), if_neg (by simp [m1]), if_neg (by simp [m2]), if_neg (by simp [m3]), if_pos m4] at hr2
 have HR5 : Hid (r = bd (updateF L n 1 sq0) (endS n)) := hr2
 obtain ⟨q6, hq6⟩ : ∃ q, q = updateF L n 1 sq0 := ⟨_, rfl⟩
 have HQ6 : Hid (r = bd q6 (endS n)) := by
  show _ = _
  rw [HR5.out, hq6]
 have HKQ : Hid (∀ x, q6 = .inr x → x.2.k ≠ 0) := fun x e => k_update (by rw [← hq6]; exact e)
 have HC6 := update_any HS5.out
 rw [← hq6] at HC6
 have HC6 := hid HC6
 clear hq6 HR5 hr2
 go_wp2_with fail
 refine HC6.out.mono ?_
 rintro e w6 ⟨hN, h1⟩
 have HN6 := hid (HN5.out.trans hN)
 clear hN HC6
 rcases q6 with f0 | ⟨k6, s6q⟩
 ·obtain rfl : e = flt f0.1 f0.2 := h1
  obtain rfl : r = .inl f0 := HQ6.out
  exact ⟨rfl, st_but HB0.out HN6.out, rfl⟩
 ·obtain ⟨rfl, p6q, hx⟩ := h1
  have HS6 := hid hx
  have HR6 := hid (show r = endS n (k6, s6q) from HQ6.out)
  have HKN : s6q.k ≠ 0 := HKQ.out (k6, s6q) rfl
  clear hx HQ6 HKQ
  obtain ⟨sf, hsf⟩ : ∃ sf : Sq, sf = s6q := ⟨_, rfl⟩
  have HK : Hid (sf.k ≠ 0) := by show sf.k ≠ 0; rw [hsf]; exact HKN
  have HSF : Hid (Ss w6 B (w.heap.size + 1) (w.heap.size + 2) a n c L k6 sf p6q) := by show Ss _ _ _ _ _ _ _ _ _ _ _; rw [hsf]; exact HS6.out
  have HRF : Hid (r = if sf.k = 0 ∨ k6 < n then .inl (fl n k6 6) else .inr sf) := by show _ = _; rw [hsf]; exact HR6.out
  obtain ⟨pf, hpf⟩ : ∃ pf : Ps, pf = p6q := ⟨_, rfl⟩
  rw [← hpf] at HSF
  have HGV : Hid (∀ W, Below w6.heap.size w6 W → Calls Tryd.prog 58 #[.pointer (some ⟨B, 0, none⟩), .int .i64 6] W fun e w' => e = flt (fl n k6 6).1 (fl n k6 6).2 ∧ But B W w') := fun W hW => sgive (HSF.out.rs.later hW) 6
  obtain ⟨ov, hrd⟩ := HSF.out.rs.rd
  obtain ⟨r0, r1, r2, -, -, -⟩ := hrd.cells
  have hkn : k6 ≤ n := hrd.le
  have hn100 : n ≤ 100 := hrd.sm
  have hRb := HN6.out.keep (k := w.heap.size) (by have := HSF.out.lb; have := HLB.out; omega) (by omega) (by unfold Grows; decide) HRB.out
  have HRX := hid hRb
  have HNF := hid HN6.out
  clear hpf HS6 HR6 HN6 hrd hRb HKN hsf
  obtain ⟨s0, s1, s2, s3, s4, s5, s6, s7, s8, s9, s10, s11⟩ := sf
  obtain ⟨a2, n2, c2, a3, n3, c3, a4, n4, c4, a6, n6, c6, a11, n11, c11⟩ := pf
  obtain ⟨x0, x1, x2, x3, x4, x5, x6, x7, x8, x9, x10, x11, f0, f1, f2, f3, f4, f5, f6, f7, f8, f9, f10, f11⟩ := box12 HSF.out.box
  obtain ⟨y0, y1, y2, y3, y4, y5, y6, y7, y8, y9, y10, y11, g0, g1, g2, g3, g4, g5, g6, g7, g8, g9, g10, g11⟩ := box12 HRX.out
  simp only at HK HRF
  have hz : (s0 == 0) = false := by have := HK.out; simpa using this
  by_cases hlt : k6 < n
  ·have hlt' : decide (((k6 : Nat) : Int) < (n : Int)) = true := by simp; omega
   have hq : r = .inl (fl n k6 6) := by rw [HRF.out, if_pos (Or.inr hlt)]
   subst hq
   clear x1 x2 x3 x4 x5 x6 x7 x8 x9 x10 x11 f0 f1 f2 f3 f4 f5 f6 f7 f8 f9 f10 f11 y0 y1 y2 y3 y4 y5 y6 y7 y8 y9 y10 y11 g0 g1 g2 g3 g4 g5 g6 g7 g8 g9 g10 g11
   (try go_wp2_with fail)
   go_quiet (fail)
   go_wp2_with fail
   refine (HGV.out _ (below_drewN _ _)).mono ?_
   rintro e w' ⟨rfl, hN⟩
   exact ⟨rfl, st_but HB0.out (HNF.out.trans (((But.of (below_drewN _ _)).trans hN).toS _ _)), rfl⟩
  ·have hlt' : decide (((k6 : Nat) : Int) < (n : Int)) = false := by simp; omega
   have hq : r = .inr (⟨s0, s1, s2, s3, s4, s5, s6, s7, s8, s9, s10, s11⟩ : Sq) := by rw [HRF.out, if_neg (by rintro (h | h); exact HK.out h; exact hlt h)]
   subst hq
   (try go_wp2_with fail)
   go_quiet (fail)
   have hzz : w.heap.size ≤ w6.heap.size := Nat.le_trans HB0.out.size HNF.out.size
   have HRD : (w6.drewN nq).heap[w.heap.size]? = some (.cells z12 33 (0, 0)) := ((below_drewN w6 nq).block _ (blk_lt HRX.out)).trans HRX.out
   go_wp2_with fail
   obtain ⟨hb12, v0, v1, v2, v3, v4, v5, v6, v7, v8, v9, v10, v11⟩ := st12 (A := w.heap.size) (w0 := w6) ((below_drewN _ _).mono hzz) (Nat.le_refl _) HRD (.int .i64 s0) (.string s1) (.slice a2 n2 c2) (.slice a3 n3 c3) (.slice a4 n4 c4) (.bool s5) (.slice a6 n6 c6) (.string s7) (.bool s8) (.int .i64 s9) (.string s10) (.slice a11 n11 c11)
   clear x0 x1 x2 x3 x4 x5 x6 x7 x8 x9 x10 x11 f0 f1 f2 f3 f4 f5 f6 f7 f8 f9 f10 f11 y0 y1 y2 y3 y4 y5 y6 y7 y8 y9 y10 y11 g0 g1 g2 g3 g4 g5 g6 g7 g8 g9 g10 g11
   refine bodyPost_ret (v := .agg #[.int .i64 s0, .string s1, .slice a2 n2 c2, .slice a3 n3 c3, .slice a4 n4 c4, .bool s5, .slice a6 n6 c6, .string s7, .bool s8, .int .i64 s9, .string s10, .slice a11 n11 c11]) (by simp [results, Tryd.results30, go_sem, v0, v1, v2, v3, v4, v5, v6, v7, v8, v9, v10, v11]; try rfl) rfl ?_
   exact ⟨but_tail (st_but HB0.out HNF.out) hb12, ⟨a2, n2, c2, a3, n3, c3, a4, n4, c4, a6, n6, c6, a11, n11, c11⟩, rfl, HSF.out.own.tail fun k hk hl => (set12_far _ _ _ _ _ _ _ _ _ _ _ _ k hk).trans ((below_drewN w6 nq).block k hl)⟩
end
end Go.Proofs.YtdeollmeljaaoaaDoor.rd
