import Derived.Test.YtdeollmeljaaoaaDoorAsk
import Derived.Deep.DeepCutAuto
import Derived.Test.YtdeollmeljaaoaaDoorAuk
import Derived.Test.YtdeollmeljaaoaaDoorTgk
import Derived.Defers
import Derived.Recover
set_option linter.unusedVariables false
set_option linter.unusedSimpArgs false
set_option maxHeartbeats 8000000
set_option maxRecDepth 100000
open Go.ChangeAt Go.ChangeShapes Go.RowKit Go.WideShapes
open Go.Lib (hid)
namespace Go.Proofs.YtdeollmeljaaoaaDoor.rd
open Go.Proofs.YtdeollmeljaaoaaDoor.cs
section
variable {B : Nat} {a : Option Addr} {n c : Nat} {L : List Tk}
theorem stmt_DROP {w : World} (h : Rs w B a n c L 0) (m0 : mayB L 0 sCREATE = false) (m1 : mayB L 0 sDROP = true) :
  Calls Tryd.prog 30 #[.pointer (some ⟨B, 0, none⟩)] w (Sy w B (stmtF L n)) := by
 obtain ⟨r, hr⟩ : ∃ r, r = stmtF L n := ⟨_, rfl⟩
 rw [← hr]
 have hr2 : r = bd (partF L n sq0) (endS n) := hr
 have HBG : Hid (∀ W, W = (w.alloc (.cells z12 33)).alloc (.cells (stC sq0 p0) 33) → Ss W B (w.heap.size + 1) (w.heap.size + 2) a n c L 0 sq0 p0 ∧ Below w.heap.size w W ∧ W.heap[w.heap.size]? = some (.cells z12 33 (0, 0))) := fun W hW => ss_begin h hW
 have HLB : Hid (B < w.heap.size) := h.lt
 clear h hr
 unfold partF at hr2
 go_enter Tryd.func30, Tryd.ntmps30
 go_wp2_with fail
 refine calls_nm (fun w0 hW => ?_)
 obtain ⟨hx, hb, hRB⟩ := HBG.out w0 hW
 obtain ⟨S, hS⟩ : ∃ S, S = w.heap.size + 1 := ⟨_, rfl⟩
 have HS0 := hid hx
 have HB0 := hid hb
 have HRB := hid hRB
 clear hW hx hb hRB HBG hS S
 have HN0 : Hid (ButS B (w.heap.size + 1) (w.heap.size + 2) w0 w0) := ButS.refl _ _ _ _
 have hm0 := ssmay HS0.out sCREATE
 rw [m0] at hm0
 have HM := hid hm0
 clear hm0
 refine HM.out.mono ?_
 rintro e w1 ⟨rfl, hN, hx⟩
 have hx : Ss w1 B (w.heap.size + 1) (w.heap.size + 2) a n c L 0 sq0 p0 := hx
 have HN1 := hid (HN0.out.trans (hN.toS (w.heap.size + 1) (w.heap.size + 2)))
 have HS1 := hid hx
 clear hN hx HM HS0 HN0
 have hm0 := ssmay HS1.out sDROP
 rw [m1] at hm0
 have HM := hid hm0
 clear hm0
 go_wp2_with fail
 refine HM.out.mono ?_
 rintro e w2 ⟨rfl, hN, hx⟩
 have hx : Ss w2 B (w.heap.size + 1) (w.heap.size + 2) a n c L (0 + 1) sq0 p0 := hx
 have HN2 := hid (HN1.out.trans (hN.toS (w.heap.size + 1) (w.heap.size + 2)))
 have HS2 := hid hx
 clear hN hx HM HS1 HN1
 rw [if_neg (by simp [m0]), if_pos m1] at hr2
 have HR2 : Hid (r = bd (mustF L n 1 [sTABLE]) fun k => bd (nameG L n k) fun x => endS n (x.2, (⟨2, x.1, [], [], [], false, [], ⟨#[]⟩, false, -1, ⟨#[]⟩, []⟩ : Sq))) := by
  show _ = _
  rw [hr2]
  unfold dropF
  cases mustF L n 1 [sTABLE] with
  | inl f => rfl
  | inr k0 =>
   show bd (bd (nameG L n k0) _) _ = bd (nameG L n k0) _
   cases nameG L n k0 <;> rfl
 clear hr2
 obtain ⟨q3, hq3⟩ : ∃ q, q = mustF L n 1 [sTABLE] := ⟨_, rfl⟩
 have HQ3 : Hid (r = bd q3 fun k => bd (nameG L n k) fun x => endS n (x.2, (⟨2, x.1, [], [], [], false, [], ⟨#[]⟩, false, -1, ⟨#[]⟩, []⟩ : Sq))) := by
  show _ = _
  rw [HR2.out, hq3]
 have HMU3 : Hid (Calls Tryd.prog 52 #[.pointer (some ⟨B, 0, none⟩), .slice (some ⟨w2.heap.size, 0, none⟩) 1 1] (w2.alloc (.cells #[.string sTABLE] 9)) fun e w' => But B w2 w' ∧ match (generalizing := false) q3 with
  | .inl f => e = flt f.1 f.2
  | .inr k' => e = .returned (.tuple #[]) ∧ Ss w' B (w.heap.size + 1) (w.heap.size + 2) a n c L k' (⟨0, ⟨#[]⟩, [], [], [], false, [], ⟨#[]⟩, false, -1, ⟨#[]⟩, []⟩ : Sq) p0) := by
  rw [hq3]
  exact ssmust HS2.out [sTABLE] rfl (by simp) (by simp)
 clear hq3 HR2
 go_wp2_with fail
 refine HMU3.out.mono ?_
 rintro e w3 ⟨hN, h1⟩
 have HN3 := hid (HN2.out.trans (hN.toS (w.heap.size + 1) (w.heap.size + 2)))
 clear hN HMU3
 rcases q3 with f0 | k3
 ·obtain rfl : e = flt f0.1 f0.2 := h1
  obtain rfl : r = .inl f0 := HQ3.out
  exact ⟨rfl, st_but HB0.out HN3.out, rfl⟩
 ·obtain ⟨rfl, hx⟩ := h1
  have HS3 := hid hx
  have HR3 := hid (show r = bd (nameG L n k3) fun x => endS n (x.2, (⟨2, x.1, [], [], [], false, [], ⟨#[]⟩, false, -1, ⟨#[]⟩, []⟩ : Sq)) from HQ3.out)
  clear hx HQ3
  obtain ⟨q4, hq4⟩ : ∃ q, q = nameG L n k3 := ⟨_, rfl⟩
  have HQ4 : Hid (r = bd q4 fun x => endS n (x.2, (⟨2, x.1, [], [], [], false, [], ⟨#[]⟩, false, -1, ⟨#[]⟩, []⟩ : Sq))) := by
   show _ = _
   rw [HR3.out, hq4]
  have HC4 := ssname HS3.out
  rw [← hq4] at HC4
  have HC4 := hid HC4
  clear hq4 HR3
  go_wp2_with fail
  refine HC4.out.mono ?_
  rintro e w4 ⟨hN, h1⟩
  have HN4 := hid (HN3.out.trans (hN.toS (w.heap.size + 1) (w.heap.size + 2)))
  clear hN HC4
  rcases q4 with f0 | ⟨t4, k4⟩
  ·obtain rfl : e = flt f0.1 f0.2 := h1
   obtain rfl : r = .inl f0 := HQ4.out
   exact ⟨rfl, st_but HB0.out HN4.out, rfl⟩
  ·obtain ⟨rfl, hx⟩ := h1
   have HS4 := hid hx
   have HR4 := hid (show r = endS n (k4, (⟨2, t4, [], [], [], false, [], ⟨#[]⟩, false, -1, ⟨#[]⟩, []⟩ : Sq)) from HQ4.out)
   clear hx HQ4
   have z0 : w4.cell? ⟨w.heap.size + 1, 0, none⟩ = some (.int .i64 0) := (HS4.out.x 0 (by omega)).1
   have sf0 := (HS4.out.x 0 (by omega)).2
   have z1 : w4.cell? ⟨w.heap.size + 1, 1, none⟩ = some (.string ⟨#[]⟩) := (HS4.out.x 1 (by omega)).1
   have sf1 := (HS4.out.x 1 (by omega)).2
   go_wp2_with fail
   refine code_nm (fun w5 hv => ?_)
   have hx : Ss w5 B (w.heap.size + 1) (w.heap.size + 2) a n c L k4 (⟨2, t4, [], [], [], false, [], ⟨#[]⟩, false, -1, ⟨#[]⟩, []⟩ : Sq) p0 ∧ But (w.heap.size + 1) w4 w5 := by
    have i1 := HS4.out.put (s' := (⟨2, ⟨#[]⟩, [], [], [], false, [], ⟨#[]⟩, false, -1, ⟨#[]⟩, []⟩ : Sq)) (p' := p0) 0 (.int .i64 2) rfl (HS4.out.own.as rfl rfl rfl rfl rfl)
    have i2 := i1.put (s' := (⟨2, t4, [], [], [], false, [], ⟨#[]⟩, false, -1, ⟨#[]⟩, []⟩ : Sq)) (p' := p0) 1 (.string t4) rfl (i1.own.as rfl rfl rfl rfl rfl)
    rw [hv]
    exact ⟨i2, (But.set _ (w.heap.size + 1) 0 _).trans (But.set _ (w.heap.size + 1) 1 _)⟩
   have HN5 := hid (HN4.out.trans (hx.2.toS' B (w.heap.size + 2)))
   have HS5 := hid hx.1
   have HR5 := hid HR4.out
   clear hx hv HR4 z0 sf0 z1 sf1
   have HKN : ((⟨2, t4, [], [], [], false, [], ⟨#[]⟩, false, -1, ⟨#[]⟩, []⟩ : Sq) : Sq).k ≠ 0 := by show (2 : Int) ≠ 0; omega
   obtain ⟨sf, hsf⟩ : ∃ sf : Sq, sf = (⟨2, t4, [], [], [], false, [], ⟨#[]⟩, false, -1, ⟨#[]⟩, []⟩ : Sq) := ⟨_, rfl⟩
   have HK : Hid (sf.k ≠ 0) := by show sf.k ≠ 0; rw [hsf]; exact HKN
   have HSF : Hid (Ss w5 B (w.heap.size + 1) (w.heap.size + 2) a n c L k4 sf p0) := by show Ss _ _ _ _ _ _ _ _ _ _ _; rw [hsf]; exact HS5.out
   have HRF : Hid (r = if sf.k = 0 ∨ k4 < n then .inl (fl n k4 6) else .inr sf) := by show _ = _; rw [hsf]; exact HR5.out
   obtain ⟨pf, hpf⟩ : ∃ pf : Ps, pf = p0 := ⟨_, rfl⟩
   rw [← hpf] at HSF
   have HGV : Hid (∀ W, Below w5.heap.size w5 W → Calls Tryd.prog 58 #[.pointer (some ⟨B, 0, none⟩), .int .i64 6] W fun e w' => e = flt (fl n k4 6).1 (fl n k4 6).2 ∧ But B W w') := fun W hW => sgive (HSF.out.rs.later hW) 6
   obtain ⟨ov, hrd⟩ := HSF.out.rs.rd
   obtain ⟨r0, r1, r2, -, -, -⟩ := hrd.cells
   have hkn : k4 ≤ n := hrd.le
   have hn100 : n ≤ 100 := hrd.sm
   have hRb := HN5.out.keep (k := w.heap.size) (by have := HSF.out.lb; have := HLB.out; omega) (by omega) (by unfold Grows; decide) HRB.out
   have HRX := hid hRb
   have HNF := hid HN5.out
   clear hpf HS5 HR5 HN5 hrd hRb HKN hsf
   obtain ⟨s0, s1, s2, s3, s4, s5, s6, s7, s8, s9, s10, s11⟩ := sf
   obtain ⟨a2, n2, c2, a3, n3, c3, a4, n4, c4, a6, n6, c6, a11, n11, c11⟩ := pf
   obtain ⟨x0, x1, x2, x3, x4, x5, x6, x7, x8, x9, x10, x11, f0, f1, f2, f3, f4, f5, f6, f7, f8, f9, f10, f11⟩ := box12 HSF.out.box
   obtain ⟨y0, y1, y2, y3, y4, y5, y6, y7, y8, y9, y10, y11, g0, g1, g2, g3, g4, g5, g6, g7, g8, g9, g10, g11⟩ := box12 HRX.out
   simp only at HK HRF
   have hz : (s0 == 0) = false := by have := HK.out; simpa using this
   by_cases hlt : k4 < n
   ·have hlt' : decide (((k4 : Nat) : Int) < (n : Int)) = true := by simp; omega
    have hq : r = .inl (fl n k4 6) := by rw [HRF.out, if_pos (Or.inr hlt)]
    subst hq
    clear x1 x2 x3 x4 x5 x6 x7 x8 x9 x10 x11 f0 f1 f2 f3 f4 f5 f6 f7 f8 f9 f10 f11 y0 y1 y2 y3 y4 y5 y6 y7 y8 y9 y10 y11 g0 g1 g2 g3 g4 g5 g6 g7 g8 g9 g10 g11
    (try go_wp2_with fail)
    go_quiet (fail)
    go_wp2_with fail
    refine (HGV.out _ (below_drewN _ _)).mono ?_
    rintro e w' ⟨rfl, hN⟩
    exact ⟨rfl, st_but HB0.out (HNF.out.trans (((But.of (below_drewN _ _)).trans hN).toS _ _)), rfl⟩
   ·have hlt' : decide (((k4 : Nat) : Int) < (n : Int)) = false := by simp; omega
    have hq : r = .inr (⟨s0, s1, s2, s3, s4, s5, s6, s7, s8, s9, s10, s11⟩ : Sq) := by rw [HRF.out, if_neg (by rintro (h | h); exact HK.out h; exact hlt h)]
    subst hq
    (try go_wp2_with fail)
    go_quiet (fail)
    have hzz : w.heap.size ≤ w5.heap.size := Nat.le_trans HB0.out.size HNF.out.size
    have HRD : (w5.drewN nq).heap[w.heap.size]? = some (.cells z12 33 (0, 0)) := ((below_drewN w5 nq).block _ (blk_lt HRX.out)).trans HRX.out
    go_wp2_with fail
    obtain ⟨hb12, v0, v1, v2, v3, v4, v5, v6, v7, v8, v9, v10, v11⟩ := st12 (A := w.heap.size) (w0 := w5) ((below_drewN _ _).mono hzz) (Nat.le_refl _) HRD (.int .i64 s0) (.string s1) (.slice a2 n2 c2) (.slice a3 n3 c3) (.slice a4 n4 c4) (.bool s5) (.slice a6 n6 c6) (.string s7) (.bool s8) (.int .i64 s9) (.string s10) (.slice a11 n11 c11)
    clear x0 x1 x2 x3 x4 x5 x6 x7 x8 x9 x10 x11 f0 f1 f2 f3 f4 f5 f6 f7 f8 f9 f10 f11 y0 y1 y2 y3 y4 y5 y6 y7 y8 y9 y10 y11 g0 g1 g2 g3 g4 g5 g6 g7 g8 g9 g10 g11
    refine bodyPost_ret (v := .agg #[.int .i64 s0, .string s1, .slice a2 n2 c2, .slice a3 n3 c3, .slice a4 n4 c4, .bool s5, .slice a6 n6 c6, .string s7, .bool s8, .int .i64 s9, .string s10, .slice a11 n11 c11]) (by simp [results, Tryd.results30, go_sem, v0, v1, v2, v3, v4, v5, v6, v7, v8, v9, v10, v11]; try rfl) rfl ?_
    exact ⟨but_tail (st_but HB0.out HNF.out) hb12, ⟨a2, n2, c2, a3, n3, c3, a4, n4, c4, a6, n6, c6, a11, n11, c11⟩, rfl, HSF.out.own.tail fun k hk hl => (set12_far _ _ _ _ _ _ _ _ _ _ _ _ k hk).trans ((below_drewN w5 nq).block k hl)⟩
theorem stmt_DELETE {w : World} (h : Rs w B a n c L 0) (m0 : mayB L 0 sCREATE = false) (m1 : mayB L 0 sDROP = false) (m2 : mayB L 0 sINSERT = false) (m3 : mayB L 0 sSELECT = false) (m4 : mayB L 0 sUPDATE = false) (m5 : mayB L 0 sDELETE = true) :
  Calls Tryd.prog 30 #[.pointer (some ⟨B, 0, none⟩)] w (Sy w B (stmtF L n)) := by
 obtain ⟨r, hr⟩ : ∃ r, r = stmtF L n := ⟨_, rfl⟩
 rw [← hr]
 have hr2 : r = bd (partF L n sq0) (endS n) := hr
 have HBG : Hid (∀ W, W = (w.alloc (.cells z12 33)).alloc (.cells (stC sq0 p0) 33) → Ss W B (w.heap.size + 1) (w.heap.size + 2) a n c L 0 sq0 p0 ∧ Below w.heap.size w W ∧ W.heap[w.heap.size]? = some (.cells z12 33 (0, 0))) := fun W hW => ss_begin h hW
 have HLB : Hid (B < w.heap.size) := h.lt
 clear h hr
 unfold partF at hr2
 go_enter Tryd.func30, Tryd.ntmps30
 go_wp2_with fail
 refine calls_nm (fun w0 hW => ?_)
 obtain ⟨hx, hb, hRB⟩ := HBG.out w0 hW
 obtain ⟨S, hS⟩ : ∃ S, S = w.heap.size + 1 := ⟨_, rfl⟩
 have HS0 := hid hx
 have HB0 := hid hb
 have HRB := hid hRB
 clear hW hx hb hRB HBG hS S
 have HN0 : Hid (ButS B (w.heap.size + 1) (w.heap.size + 2) w0 w0) := ButS.refl _ _ _ _
 have hm0 := ssmay HS0.out sCREATE
 rw [m0] at hm0
 have HM := hid hm0
 clear hm0
 refine HM.out.mono ?_
 rintro e w1 ⟨rfl, hN, hx⟩
 have hx : Ss w1 B (w.heap.size + 1) (w.heap.size + 2) a n c L 0 sq0 p0 := hx
 have HN1 := hid (HN0.out.trans (hN.toS (w.heap.size + 1) (w.heap.size + 2)))
 have HS1 := hid hx
 clear hN hx HM HS0 HN0
 have hm0 := ssmay HS1.out sDROP
 rw [m1] at hm0
 have HM := hid hm0
 clear hm0
 go_wp2_with fail
 refine HM.out.mono ?_
 rintro e w2 ⟨rfl, hN, hx⟩
 have hx : Ss w2 B (w.heap.size + 1) (w.heap.size + 2) a n c L 0 sq0 p0 := hx
 have HN2 := hid (HN1.out.trans (hN.toS (w.heap.size + 1) (w.heap.size + 2)))
 have HS2 := hid hx
 clear hN hx HM HS1 HN1
 have hm0 := ssmay HS2.out sINSERT
 rw [m2] at hm0
 have HM := hid hm0
 clear hm0
 go_wp2_with fail
 refine HM.out.mono ?_
 rintro e w3 ⟨rfl, hN, hx⟩
 have hx : Ss w3 B (w.heap.size + 1) (w.heap.size + 2) a n c L 0 sq0 p0 := hx
 have HN3 := hid (HN2.out.trans (hN.toS (w.heap.size + 1) (w.heap.size + 2)))
 have HS3 := hid hx
 clear hN hx HM HS2 HN2
 have hm0 := ssmay HS3.out sSELECT
 rw [m3] at hm0
 have HM := hid hm0
 clear hm0
 go_wp2_with fail
 refine HM.out.mono ?_
 rintro e w4 ⟨rfl, hN, hx⟩
 have hx : Ss w4 B (w.heap.size + 1) (w.heap.size + 2) a n c L 0 sq0 p0 := hx
 have HN4 := hid (HN3.out.trans (hN.toS (w.heap.size + 1) (w.heap.size + 2)))
 have HS4 := hid hx
 clear hN hx HM HS3 HN3
 have hm0 := ssmay HS4.out sUPDATE
 rw [m4] at hm0
 have HM := hid hm0
 clear hm0
 go_wp2_with fail
 refine HM.out.mono ?_
 rintro e w5 ⟨rfl, hN, hx⟩
 have hx : Ss w5 B (w.heap.size + 1) (w.heap.size + 2) a n c L 0 sq0 p0 := hx
 have HN5 := hid (HN4.out.trans (hN.toS (w.heap.size + 1) (w.heap.size + 2)))
 have HS5 := hid hx
 clear hN hx HM HS4 HN4
 have hm0 := ssmay HS5.out sDELETE
 rw [m5] at hm0
 have HM := hid hm0
 clear hm0
 go_wp2_with fail
 refine HM.out.mono ?_
 rintro e w6 ⟨rfl, hN, hx⟩
 have hx : Ss w6 B (w.heap.size + 1) (w.heap.size + 2) a n c L (0 + 1) sq0 p0 := hx
 have HN6 := hid (HN5.out.trans (hN.toS (w.heap.size + 1) (w.heap.size + 2)))
 have HS6 := hid hx
 clear hN hx HM HS5 HN5
 rw [if_neg (by simp [m0]), if_neg (by simp [m1]), if_neg (by simp [m2]), if_neg (by simp [m3]), if_neg (by simp [m4]), if_pos m5] at hr2
 have HR6 : Hid (r = bd (mustF L n 1 [sFROM]) fun k => bd (nameG L n k) fun x => bd (whereF L n x.2) fun y => endS n (y.1, (⟨6, x.1, [], [], [], false, y.2, ⟨#[]⟩, false, -1, ⟨#[]⟩, []⟩ : Sq))) := by
  show _ = _
  rw [hr2]
  unfold deleteF
  cases mustF L n 1 [sFROM] with
  | inl f => rfl
  | inr k0 =>
   show bd (bd (nameG L n k0) _) _ = bd (nameG L n k0) _
   cases nameG L n k0 with
   | inl f => rfl
   | inr x =>
    show bd (bd (whereF L n x.2) _) _ = bd (whereF L n x.2) _
    cases whereF L n x.2 <;> rfl
 clear hr2
 obtain ⟨q7, hq7⟩ : ∃ q, q = mustF L n 1 [sFROM] := ⟨_, rfl⟩
 have HQ7 : Hid (r = bd q7 fun k => bd (nameG L n k) fun x => bd (whereF L n x.2) fun y => endS n (y.1, (⟨6, x.1, [], [], [], false, y.2, ⟨#[]⟩, false, -1, ⟨#[]⟩, []⟩ : Sq))) := by
  show _ = _
  rw [HR6.out, hq7]
 have HMU7 : Hid (Calls Tryd.prog 52 #[.pointer (some ⟨B, 0, none⟩), .slice (some ⟨w6.heap.size, 0, none⟩) 1 1] (w6.alloc (.cells #[.string sFROM] 9)) fun e w' => But B w6 w' ∧ match (generalizing := false) q7 with
  | .inl f => e = flt f.1 f.2
  | .inr k' => e = .returned (.tuple #[]) ∧ Ss w' B (w.heap.size + 1) (w.heap.size + 2) a n c L k' (⟨0, ⟨#[]⟩, [], [], [], false, [], ⟨#[]⟩, false, -1, ⟨#[]⟩, []⟩ : Sq) p0) := by
  rw [hq7]
  exact ssmust HS6.out [sFROM] rfl (by simp) (by simp)
 clear hq7 HR6
 go_wp2_with fail
 refine HMU7.out.mono ?_
 rintro e w7 ⟨hN, h1⟩
 have HN7 := hid (HN6.out.trans (hN.toS (w.heap.size + 1) (w.heap.size + 2)))
 clear hN HMU7
 rcases q7 with f0 | k7
 ·obtain rfl : e = flt f0.1 f0.2 := h1
  obtain rfl : r = .inl f0 := HQ7.out
  exact ⟨rfl, st_but HB0.out HN7.out, rfl⟩
 ·obtain ⟨rfl, hx⟩ := h1
  have HS7 := hid hx
  have HR7 := hid (show r = bd (nameG L n k7) fun x => bd (whereF L n x.2) fun y => endS n (y.1, (⟨6, x.1, [], [], [], false, y.2, ⟨#[]⟩, false, -1, ⟨#[]⟩, []⟩ : Sq)) from HQ7.out)
  clear hx HQ7
  obtain ⟨q8, hq8⟩ : ∃ q, q = nameG L n k7 := ⟨_, rfl⟩
  have HQ8 : Hid (r = bd q8 fun x => bd (whereF L n x.2) fun y => endS n (y.1, (⟨6, x.1, [], [], [], false, y.2, ⟨#[]⟩, false, -1, ⟨#[]⟩, []⟩ : Sq))) := by
   show _ = _
   rw [HR7.out, hq8]
  have HC8 := ssname HS7.out
  rw [← hq8] at HC8
  have HC8 := hid HC8
  clear hq8 HR7
  go_wp2_with fail
  refine HC8.out.mono ?_
  rintro e w8 ⟨hN, h1⟩
  have HN8 := hid (HN7.out.trans (hN.toS (w.heap.size + 1) (w.heap.size + 2)))
  clear hN HC8
  rcases q8 with f0 | ⟨t8, k8⟩
  ·obtain rfl : e = flt f0.1 f0.2 := h1
   obtain rfl : r = .inl f0 := HQ8.out
   exact ⟨rfl, st_but HB0.out HN8.out, rfl⟩
  ·obtain ⟨rfl, hx⟩ := h1
   have HS8 := hid hx
   have HR8 := hid (show r = bd (whereF L n k8) fun y => endS n (y.1, (⟨6, t8, [], [], [], false, y.2, ⟨#[]⟩, false, -1, ⟨#[]⟩, []⟩ : Sq)) from HQ8.out)
   clear hx HQ8
   obtain ⟨q9, hq9⟩ : ∃ q, q = whereF L n k8 := ⟨_, rfl⟩
   have HQ9 : Hid (r = bd q9 fun y => endS n (y.1, (⟨6, t8, [], [], [], false, y.2, ⟨#[]⟩, false, -1, ⟨#[]⟩, []⟩ : Sq))) := by
    show _ = _
    rw [HR8.out, hq9]
   have HC9 := xq_of HS8.out (where_any w8 k8 HS8.out.rs)
   rw [← hq9] at HC9
   have HC9 := hid HC9
   clear hq9 HR8
   go_wp2_with fail
   refine HC9.out.mono ?_
   rintro e w9 ⟨hN, h1⟩
   have HN9 := hid (HN8.out.trans (hN.toS (w.heap.size + 1) (w.heap.size + 2)))
   have HB9 := hid hN
   clear hN HC9
   rcases q9 with f0 | ⟨k9, os9⟩
   ·obtain rfl : e = flt f0.1 f0.2 := h1
    obtain rfl : r = .inl f0 := HQ9.out
    exact ⟨rfl, st_but HB0.out HN9.out, rfl⟩
   ·obtain ⟨va9, vc9, rfl, ho, hx⟩ := h1
    have HS9 := hid hx
    have HO9 := hid ho
    have HR9 := hid (show r = endS n (k9, (⟨6, t8, [], [], [], false, os9, ⟨#[]⟩, false, -1, ⟨#[]⟩, []⟩ : Sq)) from HQ9.out)
    clear hx HQ9 ho
    have z0 : w9.cell? ⟨w.heap.size + 1, 0, none⟩ = some (.int .i64 0) := (HS9.out.x 0 (by omega)).1
    have sf0 := (HS9.out.x 0 (by omega)).2
    have z1 : w9.cell? ⟨w.heap.size + 1, 1, none⟩ = some (.string ⟨#[]⟩) := (HS9.out.x 1 (by omega)).1
    have sf1 := (HS9.out.x 1 (by omega)).2
    have z2 : w9.cell? ⟨w.heap.size + 1, 6, none⟩ = some (.slice none 0 0) := (HS9.out.x 6 (by omega)).1
    have sf2 := (HS9.out.x 6 (by omega)).2
    go_wp2_with fail
    refine code_nm (fun w10 hv => ?_)
    have hx : Ss w10 B (w.heap.size + 1) (w.heap.size + 2) a n c L k9 (⟨6, t8, [], [], [], false, os9, ⟨#[]⟩, false, -1, ⟨#[]⟩, []⟩ : Sq) { p0 with a6 := va9, n6 := os9.length, c6 := vc9 } ∧ But (w.heap.size + 1) w9 w10 := by
     have i1 := HS9.out.put (s' := (⟨6, ⟨#[]⟩, [], [], [], false, [], ⟨#[]⟩, false, -1, ⟨#[]⟩, []⟩ : Sq)) (p' := p0) 0 (.int .i64 6) rfl (HS9.out.own.as rfl rfl rfl rfl rfl)
     have i2 := i1.put (s' := (⟨6, t8, [], [], [], false, [], ⟨#[]⟩, false, -1, ⟨#[]⟩, []⟩ : Sq)) (p' := p0) 1 (.string t8) rfl (i1.own.as rfl rfl rfl rfl rfl)
     have i3 := i2.put (s' := (⟨6, t8, [], [], [], false, os9, ⟨#[]⟩, false, -1, ⟨#[]⟩, []⟩ : Sq)) (p' := { p0 with a6 := va9, n6 := os9.length, c6 := vc9 }) 6 (.slice va9 os9.length vc9) rfl (⟨i2.own.o2, i2.own.o3, i2.own.o4, ownsRow_setCell_below (ownsRow_setCell_below HO9.out HS9.out.ls _) i2.ls _, i2.own.o11⟩)
     rw [hv]
     exact ⟨i3, ((But.set _ (w.heap.size + 1) 0 _).trans (But.set _ (w.heap.size + 1) 1 _)).trans (But.set _ (w.heap.size + 1) 6 _)⟩
    have HN10 := hid (HN9.out.trans (hx.2.toS' B (w.heap.size + 2)))
    have HS10 := hid hx.1
    have HR10 := hid HR9.out
    clear hx hv HR9 z0 sf0 z1 sf1 z2 sf2
    have HKN : ((⟨6, t8, [], [], [], false, os9, ⟨#[]⟩, false, -1, ⟨#[]⟩, []⟩ : Sq) : Sq).k ≠ 0 := by show (6 : Int) ≠ 0; omega
    obtain ⟨sf, hsf⟩ : ∃ sf : Sq, sf = (⟨6, t8, [], [], [], false, os9, ⟨#[]⟩, false, -1, ⟨#[]⟩, []⟩ : Sq) := ⟨_, rfl⟩
    have HK : Hid (sf.k ≠ 0) := by show sf.k ≠ 0; rw [hsf]; exact HKN
    have HSF : Hid (Ss w10 B (w.heap.size + 1) (w.heap.size + 2) a n c L k9 sf { p0 with a6 := va9, n6 := os9.length, c6 := vc9 }) := by show Ss _ _ _ _ _ _ _ _ _ _ _; rw [hsf]; exact HS10.out
    have HRF : Hid (r = if sf.k = 0 ∨ k9 < n then .inl (fl n k9 6) else .inr sf) := by show _ = _; rw [hsf]; exact HR10.out
    obtain ⟨pf, hpf⟩ : ∃ pf : Ps, pf = { p0 with a6 := va9, n6 := os9.length, c6 := vc9 } := ⟨_, rfl⟩
    rw [← hpf] at HSF
    have HGV : Hid (∀ W, Below w10.heap.size w10 W → Calls Tryd.prog 58 #[.pointer (some ⟨B, 0, none⟩), .int .i64 6] W fun e w' => e = flt (fl n k9 6).1 (fl n k9 6).2 ∧ But B W w') := fun W hW => sgive (HSF.out.rs.later hW) 6
    obtain ⟨ov, hrd⟩ := HSF.out.rs.rd
    obtain ⟨r0, r1, r2, -, -, -⟩ := hrd.cells
    have hkn : k9 ≤ n := hrd.le
    have hn100 : n ≤ 100 := hrd.sm
    have hRb := HN10.out.keep (k := w.heap.size) (by have := HSF.out.lb; have := HLB.out; omega) (by omega) (by unfold Grows; decide) HRB.out
    have HRX := hid hRb
    have HNF := hid HN10.out
    clear hpf HS10 HR10 HN10 hrd hRb HKN hsf
    obtain ⟨s0, s1, s2, s3, s4, s5, s6, s7, s8, s9, s10, s11⟩ := sf
    obtain ⟨a2, n2, c2, a3, n3, c3, a4, n4, c4, a6, n6, c6, a11, n11, c11⟩ := pf
    obtain ⟨x0, x1, x2, x3, x4, x5, x6, x7, x8, x9, x10, x11, f0, f1, f2, f3, f4, f5, f6, f7, f8, f9, f10, f11⟩ := box12 HSF.out.box
    obtain ⟨y0, y1, y2, y3, y4, y5, y6, y7, y8, y9, y10, y11, g0, g1, g2, g3, g4, g5, g6, g7, g8, g9, g10, g11⟩ := box12 HRX.out
    simp only at HK HRF
    have hz : (s0 == 0) = false := by have := HK.out; simpa using this
    by_cases hlt : k9 < n
    ·have hlt' : decide (((k9 : Nat) : Int) < (n : Int)) = true := by simp; omega
     have hq : r = .inl (fl n k9 6) := by rw [HRF.out, if_pos (Or.inr hlt)]
     subst hq
     clear x1 x2 x3 x4 x5 x6 x7 x8 x9 x10 x11 f0 f1 f2 f3 f4 f5 f6 f7 f8 f9 f10 f11 y0 y1 y2 y3 y4 y5 y6 y7 y8 y9 y10 y11 g0 g1 g2 g3 g4 g5 g6 g7 g8 g9 g10 g11
     (try go_wp2_with fail)
     go_quiet (fail)
     go_wp2_with fail
     refine (HGV.out _ (below_drewN _ _)).mono ?_
     rintro e w' ⟨rfl, hN⟩
     exact ⟨rfl, st_but HB0.out (HNF.out.trans (((But.of (below_drewN _ _)).trans hN).toS _ _)), rfl⟩
    ·have hlt' : decide (((k9 : Nat) : Int) < (n : Int)) = false := by simp; omega
     have hq : r = .inr (⟨s0, s1, s2, s3, s4, s5, s6, s7, s8, s9, s10, s11⟩ : Sq) := by rw [HRF.out, if_neg (by rintro (h | h); exact HK.out h; exact hlt h)]
     subst hq
     (try go_wp2_with fail)
     go_quiet (fail)
     have hzz : w.heap.size ≤ w10.heap.size := Nat.le_trans HB0.out.size HNF.out.size
     have HRD : (w10.drewN nq).heap[w.heap.size]? = some (.cells z12 33 (0, 0)) := ((below_drewN w10 nq).block _ (blk_lt HRX.out)).trans HRX.out
     go_wp2_with fail
     obtain ⟨hb12, v0, v1, v2, v3, v4, v5, v6, v7, v8, v9, v10, v11⟩ := st12 (A := w.heap.size) (w0 := w10) ((below_drewN _ _).mono hzz) (Nat.le_refl _) HRD (.int .i64 s0) (.string s1) (.slice a2 n2 c2) (.slice a3 n3 c3) (.slice a4 n4 c4) (.bool s5) (.slice a6 n6 c6) (.string s7) (.bool s8) (.int .i64 s9) (.string s10) (.slice a11 n11 c11)
     clear x0 x1 x2 x3 x4 x5 x6 x7 x8 x9 x10 x11 f0 f1 f2 f3 f4 f5 f6 f7 f8 f9 f10 f11 y0 y1 y2 y3 y4 y5 y6 y7 y8 y9 y10 y11 g0 g1 g2 g3 g4 g5 g6 g7 g8 g9 g10 g11
     refine bodyPost_ret (v := .agg #[.int .i64 s0, .string s1, .slice a2 n2 c2, .slice a3 n3 c3, .slice a4 n4 c4, .bool s5, .slice a6 n6 c6, .string s7, .bool s8, .int .i64 s9, .string s10, .slice a11 n11 c11]) (by simp [results, Tryd.results30, go_sem, v0, v1, v2, v3, v4, v5, v6, v7, v8, v9, v10, v11]; try rfl) rfl ?_
     exact ⟨but_tail (st_but HB0.out HNF.out) hb12, ⟨a2, n2, c2, a3, n3, c3, a4, n4, c4, a6, n6, c6, a11, n11, c11⟩, rfl, HSF.out.own.tail fun k hk hl => (set12_far _ _ _ _ _ _ _ _ _ _ _ _ k hk).trans ((below_drewN w10 nq).block k hl)⟩
end
open Go.Proofs.YtdeollmeljaaoaaDoor.cs
theorem sentence_any {w : World} {B : Nat} {a : Option Addr} {n c : Nat} {L : List Tk} (h : Rs w B a n c L 0) :
  Calls Tryd.prog 30 #[.pointer (some ⟨B, 0, none⟩)] w (Sy w B (stmtF L n)) := by
 by_cases m0 : mayB L 0 sCREATE = true
 ·exact stmt_CREATE h m0
 have m0 : mayB L 0 sCREATE = false := by simpa using m0
 by_cases m1 : mayB L 0 sDROP = true
 ·exact stmt_DROP h m0 m1
 have m1 : mayB L 0 sDROP = false := by simpa using m1
 by_cases m2 : mayB L 0 sINSERT = true
 ·exact stmt_INSERT h m0 m1 m2
 have m2 : mayB L 0 sINSERT = false := by simpa using m2
 by_cases m3 : mayB L 0 sSELECT = true
 ·exact stmt_SELECT h m0 m1 m2 m3
 have m3 : mayB L 0 sSELECT = false := by simpa using m3
 by_cases m4 : mayB L 0 sUPDATE = true
 ·exact stmt_UPDATE h m0 m1 m2 m3 m4
 have m4 : mayB L 0 sUPDATE = false := by simpa using m4
 by_cases m5 : mayB L 0 sDELETE = true
 ·exact stmt_DELETE h m0 m1 m2 m3 m4 m5
 have m5 : mayB L 0 sDELETE = false := by simpa using m5
 by_cases m6 : mayB L 0 sBEGIN = true
 ·exact stmt_BEGIN h m0 m1 m2 m3 m4 m5 m6
 have m6 : mayB L 0 sBEGIN = false := by simpa using m6
 by_cases m7 : mayB L 0 sCOMMIT = true
 ·exact stmt_COMMIT h m0 m1 m2 m3 m4 m5 m6 m7
 have m7 : mayB L 0 sCOMMIT = false := by simpa using m7
 by_cases m8 : mayB L 0 sROLLBACK = true
 ·exact stmt_ROLLBACK h m0 m1 m2 m3 m4 m5 m6 m7 m8
 ·exact stmt_none h m0 m1 m2 m3 m4 m5 m6 m7 (by simpa using m8)
theorem catch_idle (x y z : Addr) (w : World) :
  CallsD Tryd.prog 29 #[.pointer (some x), .pointer (some y), .pointer (some z)] .returning w fun e u' w' => e = .returned (.tuple #[]) ∧ u' = .returning ∧ w' = w := by
 refine callsD_of_wpS Tryd.func29 rfl fun c₀ cs hu => ?_
 apply wpS_seq
 apply wpS_region
 simp [wpOpsS, go_sem, recoverD, hu, Tryd.ntmps29, Exit.thenS]
 apply wpS_seq
 apply wpS_region
 simp [wpOpsS, go_sem, Exit.thenS]
 refine wpS_cond (t := false) (by simp [Act.eval, Array.replicate]) ?_
 simp only [Bool.false_eq_true, if_false]
 refine wpS_of_wp (wp_skip ?_)
 cases c₀
 simp_all [bodyPostS, results, Tryd.results29]
theorem bx2 {w : World} {B : Nat} {x y : Value} {T : TypeId} (h : w.heap[B]? = some (.cells #[x, y] T (0, 0))) : w.cell? ⟨B, 0, none⟩ = some x ∧ w.cell? ⟨B, 1, none⟩ = some y := by
 refine ⟨?_, ?_⟩ <;> (simp only [World.cell?]; rw [h]; rfl)
theorem bx1f {w : World} {B : Nat} {x : Value} {T : TypeId} (h : w.heap[B]? = some (.cells #[x] T (0, 0))) : w.frozen? ⟨B, 0, none⟩ = false := by
 simp only [World.frozen?]; rw [h]; rfl
theorem far12 {w : World} {R k i : Nat} {v y0 y1 y2 y3 y4 y5 y6 y7 y8 y9 y10 y11 : Value} (hk : k ≠ R) (h : w.cell? ⟨k, i, none⟩ = some v) : (World.setCell (World.setCell (World.setCell (World.setCell (World.setCell (World.setCell (World.setCell (World.setCell (World.setCell (World.setCell (World.setCell (World.setCell w ⟨R, 0, none⟩ y0) ⟨R, 1, none⟩ y1) ⟨R, 2, none⟩ y2) ⟨R, 3, none⟩ y3) ⟨R, 4, none⟩ y4) ⟨R, 5, none⟩ y5) ⟨R, 6, none⟩ y6) ⟨R, 7, none⟩ y7) ⟨R, 8, none⟩ y8) ⟨R, 9, none⟩ y9) ⟨R, 10, none⟩ y10) ⟨R, 11, none⟩ y11).cell? ⟨k, i, none⟩ = some v := by
 unfold World.cell? at h ⊢
 rw [set12_far _ _ _ _ _ _ _ _ _ _ _ _ k hk]
 exact h
theorem set12_same {w : World} {R : Nat} {x0 x1 x2 x3 x4 x5 x6 x7 x8 x9 x10 x11 : Value} {T : TypeId} (h : w.heap[R]? = some (.cells #[x0, x1, x2, x3, x4, x5, x6, x7, x8, x9, x10, x11] T (0, 0))) (y0 y1 y2 y3 y4 y5 y6 y7 y8 y9 y10 y11 : Value) : (World.setCell (World.setCell (World.setCell (World.setCell (World.setCell (World.setCell (World.setCell (World.setCell (World.setCell (World.setCell (World.setCell (World.setCell w ⟨R, 0, none⟩ y0) ⟨R, 1, none⟩ y1) ⟨R, 2, none⟩ y2) ⟨R, 3, none⟩ y3) ⟨R, 4, none⟩ y4) ⟨R, 5, none⟩ y5) ⟨R, 6, none⟩ y6) ⟨R, 7, none⟩ y7) ⟨R, 8, none⟩ y8) ⟨R, 9, none⟩ y9) ⟨R, 10, none⟩ y10) ⟨R, 11, none⟩ y11).heap[R]? = some (.cells #[y0, y1, y2, y3, y4, y5, y6, y7, y8, y9, y10, y11] T (0, 0)) := by
 have h0 := Lib.heap_setCell_same (i := 0) h y0
 have h1 := Lib.heap_setCell_same (i := 1) h0 y1
 have h2 := Lib.heap_setCell_same (i := 2) h1 y2
 have h3 := Lib.heap_setCell_same (i := 3) h2 y3
 have h4 := Lib.heap_setCell_same (i := 4) h3 y4
 have h5 := Lib.heap_setCell_same (i := 5) h4 y5
 have h6 := Lib.heap_setCell_same (i := 6) h5 y6
 have h7 := Lib.heap_setCell_same (i := 7) h6 y7
 have h8 := Lib.heap_setCell_same (i := 8) h7 y8
 have h9 := Lib.heap_setCell_same (i := 9) h8 y9
 have h10 := Lib.heap_setCell_same (i := 10) h9 y10
 have h11 := Lib.heap_setCell_same (i := 11) h10 y11
 simpa using h11
theorem below12 {A R : Nat} {w0 w : World} (hb : Below A w0 w) (hA : A ≤ R) (y0 y1 y2 y3 y4 y5 y6 y7 y8 y9 y10 y11 : Value) : Below A w0 (World.setCell (World.setCell (World.setCell (World.setCell (World.setCell (World.setCell (World.setCell (World.setCell (World.setCell (World.setCell (World.setCell (World.setCell w ⟨R, 0, none⟩ y0) ⟨R, 1, none⟩ y1) ⟨R, 2, none⟩ y2) ⟨R, 3, none⟩ y3) ⟨R, 4, none⟩ y4) ⟨R, 5, none⟩ y5) ⟨R, 6, none⟩ y6) ⟨R, 7, none⟩ y7) ⟨R, 8, none⟩ y8) ⟨R, 9, none⟩ y9) ⟨R, 10, none⟩ y10) ⟨R, 11, none⟩ y11) :=
 ((((((((((((hb.setCell (p := ⟨R, 0, none⟩) hA y0).setCell (p := ⟨R, 1, none⟩) hA y1).setCell (p := ⟨R, 2, none⟩) hA y2).setCell (p := ⟨R, 3, none⟩) hA y3).setCell (p := ⟨R, 4, none⟩) hA y4).setCell (p := ⟨R, 5, none⟩) hA y5).setCell (p := ⟨R, 6, none⟩) hA y6).setCell (p := ⟨R, 7, none⟩) hA y7).setCell (p := ⟨R, 8, none⟩) hA y8).setCell (p := ⟨R, 9, none⟩) hA y9).setCell (p := ⟨R, 10, none⟩) hA y10).setCell (p := ⟨R, 11, none⟩) hA y11)
theorem fault_end {w W : World} {R : Nat} {p q : Int} (hb : Below R w W) (hR : W.heap[R]? = some (.cells z12 33 (0, 0))) (hP : W.heap[R + 1]? = some (.cells #[.int .i64 0] 3 (0, 0))) (hQ : W.heap[R + 2]? = some (.cells #[.int .i64 0] 36 (0, 0))) :
  Below R w (((World.setCell (World.setCell (World.setCell (World.setCell (World.setCell (World.setCell (World.setCell (World.setCell (World.setCell (World.setCell (World.setCell (World.setCell W ⟨R, 0, none⟩ (.int .i64 0)) ⟨R, 1, none⟩ (.string ⟨#[]⟩)) ⟨R, 2, none⟩ (.slice none 0 0)) ⟨R, 3, none⟩ (.slice none 0 0)) ⟨R, 4, none⟩ (.slice none 0 0)) ⟨R, 5, none⟩ (.bool false)) ⟨R, 6, none⟩ (.slice none 0 0)) ⟨R, 7, none⟩ (.string ⟨#[]⟩)) ⟨R, 8, none⟩ (.bool false)) ⟨R, 9, none⟩ (.int .i64 0)) ⟨R, 10, none⟩ (.string ⟨#[]⟩)) ⟨R, 11, none⟩ (.slice none 0 0)).setCell ⟨R + 1, 0, none⟩ (.int .i64 p)).setCell ⟨R + 2, 0, none⟩ (.int .i64 q)).drew ∧ (((World.setCell (World.setCell (World.setCell (World.setCell (World.setCell (World.setCell (World.setCell (World.setCell (World.setCell (World.setCell (World.setCell (World.setCell W ⟨R, 0, none⟩ (.int .i64 0)) ⟨R, 1, none⟩ (.string ⟨#[]⟩)) ⟨R, 2, none⟩ (.slice none 0 0)) ⟨R, 3, none⟩ (.slice none 0 0)) ⟨R, 4, none⟩ (.slice none 0 0)) ⟨R, 5, none⟩ (.bool false)) ⟨R, 6, none⟩ (.slice none 0 0)) ⟨R, 7, none⟩ (.string ⟨#[]⟩)) ⟨R, 8, none⟩ (.bool false)) ⟨R, 9, none⟩ (.int .i64 0)) ⟨R, 10, none⟩ (.string ⟨#[]⟩)) ⟨R, 11, none⟩ (.slice none 0 0)).setCell ⟨R + 1, 0, none⟩ (.int .i64 p)).setCell ⟨R + 2, 0, none⟩ (.int .i64 q)).drew.heap[R]? = some (.cells z12 33 (0, 0)) ∧ (((World.setCell (World.setCell (World.setCell (World.setCell (World.setCell (World.setCell (World.setCell (World.setCell (World.setCell (World.setCell (World.setCell (World.setCell W ⟨R, 0, none⟩ (.int .i64 0)) ⟨R, 1, none⟩ (.string ⟨#[]⟩)) ⟨R, 2, none⟩ (.slice none 0 0)) ⟨R, 3, none⟩ (.slice none 0 0)) ⟨R, 4, none⟩ (.slice none 0 0)) ⟨R, 5, none⟩ (.bool false)) ⟨R, 6, none⟩ (.slice none 0 0)) ⟨R, 7, none⟩ (.string ⟨#[]⟩)) ⟨R, 8, none⟩ (.bool false)) ⟨R, 9, none⟩ (.int .i64 0)) ⟨R, 10, none⟩ (.string ⟨#[]⟩)) ⟨R, 11, none⟩ (.slice none 0 0)).setCell ⟨R + 1, 0, none⟩ (.int .i64 p)).setCell ⟨R + 2, 0, none⟩ (.int .i64 q)).drew.heap[R + 1]? = some (.cells #[.int .i64 p] 3 (0, 0)) ∧ (((World.setCell (World.setCell (World.setCell (World.setCell (World.setCell (World.setCell (World.setCell (World.setCell (World.setCell (World.setCell (World.setCell (World.setCell W ⟨R, 0, none⟩ (.int .i64 0)) ⟨R, 1, none⟩ (.string ⟨#[]⟩)) ⟨R, 2, none⟩ (.slice none 0 0)) ⟨R, 3, none⟩ (.slice none 0 0)) ⟨R, 4, none⟩ (.slice none 0 0)) ⟨R, 5, none⟩ (.bool false)) ⟨R, 6, none⟩ (.slice none 0 0)) ⟨R, 7, none⟩ (.string ⟨#[]⟩)) ⟨R, 8, none⟩ (.bool false)) ⟨R, 9, none⟩ (.int .i64 0)) ⟨R, 10, none⟩ (.string ⟨#[]⟩)) ⟨R, 11, none⟩ (.slice none 0 0)).setCell ⟨R + 1, 0, none⟩ (.int .i64 p)).setCell ⟨R + 2, 0, none⟩ (.int .i64 q)).drew.heap[R + 2]? = some (.cells #[.int .i64 q] 36 (0, 0)) := by
 have h1 := below12 hb (Nat.le_refl R) (.int .i64 0) (.string ⟨#[]⟩) (.slice none 0 0) (.slice none 0 0) (.slice none 0 0) (.bool false) (.slice none 0 0) (.string ⟨#[]⟩) (.bool false) (.int .i64 0) (.string ⟨#[]⟩) (.slice none 0 0)
 have h2 := set12_same hR (.int .i64 0) (.string ⟨#[]⟩) (.slice none 0 0) (.slice none 0 0) (.slice none 0 0) (.bool false) (.slice none 0 0) (.string ⟨#[]⟩) (.bool false) (.int .i64 0) (.string ⟨#[]⟩) (.slice none 0 0)
 have h3 : ∀ k, k ≠ R → (World.setCell (World.setCell (World.setCell (World.setCell (World.setCell (World.setCell (World.setCell (World.setCell (World.setCell (World.setCell (World.setCell (World.setCell W ⟨R, 0, none⟩ (.int .i64 0)) ⟨R, 1, none⟩ (.string ⟨#[]⟩)) ⟨R, 2, none⟩ (.slice none 0 0)) ⟨R, 3, none⟩ (.slice none 0 0)) ⟨R, 4, none⟩ (.slice none 0 0)) ⟨R, 5, none⟩ (.bool false)) ⟨R, 6, none⟩ (.slice none 0 0)) ⟨R, 7, none⟩ (.string ⟨#[]⟩)) ⟨R, 8, none⟩ (.bool false)) ⟨R, 9, none⟩ (.int .i64 0)) ⟨R, 10, none⟩ (.string ⟨#[]⟩)) ⟨R, 11, none⟩ (.slice none 0 0)).heap[k]? = W.heap[k]? := fun k hk => set12_far _ _ _ _ _ _ _ _ _ _ _ _ k hk
 obtain ⟨X, hX⟩ : ∃ X, X = (World.setCell (World.setCell (World.setCell (World.setCell (World.setCell (World.setCell (World.setCell (World.setCell (World.setCell (World.setCell (World.setCell (World.setCell W ⟨R, 0, none⟩ (.int .i64 0)) ⟨R, 1, none⟩ (.string ⟨#[]⟩)) ⟨R, 2, none⟩ (.slice none 0 0)) ⟨R, 3, none⟩ (.slice none 0 0)) ⟨R, 4, none⟩ (.slice none 0 0)) ⟨R, 5, none⟩ (.bool false)) ⟨R, 6, none⟩ (.slice none 0 0)) ⟨R, 7, none⟩ (.string ⟨#[]⟩)) ⟨R, 8, none⟩ (.bool false)) ⟨R, 9, none⟩ (.int .i64 0)) ⟨R, 10, none⟩ (.string ⟨#[]⟩)) ⟨R, 11, none⟩ (.slice none 0 0)) := ⟨_, rfl⟩
 rw [← hX] at h1 h2 h3 ⊢
 have p1 := (h3 (R + 1) (by omega)).trans hP
 have q1 := (h3 (R + 2) (by omega)).trans hQ
 have e1 : (X.setCell ⟨R + 1, 0, none⟩ (.int .i64 p)).heap[R + 1]? = some (.cells #[.int .i64 p] 3 (0, 0)) := by simpa using Lib.heap_setCell_same (i := 0) p1 (.int .i64 p)
 have e2 : (X.setCell ⟨R + 1, 0, none⟩ (.int .i64 p)).heap[R + 2]? = some (.cells #[.int .i64 0] 36 (0, 0)) := (Below.heap_setCell _ _ _ _ (by simp)).trans q1
 have e3 : ((X.setCell ⟨R + 1, 0, none⟩ (.int .i64 p)).setCell ⟨R + 2, 0, none⟩ (.int .i64 q)).heap[R + 2]? = some (.cells #[.int .i64 q] 36 (0, 0)) := by simpa using Lib.heap_setCell_same (i := 0) e2 (.int .i64 q)
 refine ⟨((h1.setCell (p := ⟨R + 1, 0, none⟩) (by simp) _).setCell (p := ⟨R + 2, 0, none⟩) (by simp) _).drew, ?_, ?_, e3⟩
 ·exact (Below.heap_setCell _ _ _ _ (by simp)).trans ((Below.heap_setCell _ _ _ _ (by simp)).trans h2)
 ·exact (Below.heap_setCell _ _ _ _ (by simp)).trans e1
theorem ta_fault (p q : Int) (t : TypeId) (w : World) : (Instr.typeAssert (.iface 69 (.agg #[.int .i64 p, .int .i64 q])) t 69 false).run Tryd.prog w = .ok (.agg #[.int .i64 p, .int .i64 q]) w := by kernel_rfl
theorem catch_fault (R : Nat) (p q : Int) (older : List PanicEntry) (w : World) (hR : w.heap[R]? = some (.cells z12 33 (0, 0))) (hP : w.heap[R + 1]? = some (.cells #[.int .i64 0] 3 (0, 0))) (hQ : w.heap[R + 2]? = some (.cells #[.int .i64 0] 36 (0, 0))) :
  CallsD Tryd.prog 29 #[.pointer (some ⟨R, 0, none⟩), .pointer (some ⟨R + 1, 0, none⟩), .pointer (some ⟨R + 2, 0, none⟩)] (.panicking ({ v := .iface 69 (.agg #[.int .i64 p, .int .i64 q]), recovered := false } :: older)) w fun e u' w' => e = .returned (.tuple #[]) ∧ u' = .panicking ({ v := .iface 69 (.agg #[.int .i64 p, .int .i64 q]), recovered := true } :: older) ∧ Below R w w' ∧ w'.heap[R]? = some (.cells z12 33 (0, 0)) ∧ w'.heap[R + 1]? = some (.cells #[.int .i64 p] 3 (0, 0)) ∧ w'.heap[R + 2]? = some (.cells #[.int .i64 q] 36 (0, 0)) := by
 refine callsD_of_wpS Tryd.func29 rfl fun c₀ cs hu => ?_
 apply wpS_seq
 apply wpS_region
 simp [wpOpsS, go_sem, recoverD, hu, Tryd.ntmps29, Exit.thenS]
 apply wpS_seq
 apply wpS_region
 simp [wpOpsS, go_sem, Exit.thenS]
 refine wpS_cond (t := true) (by simp [Act.eval, Array.replicate]) ?_
 simp only [if_true]
 refine wpS_of_wp ?_
 refine Code.wp_mono (Q := fun e a' w' => e = Exit.normal ∧ a'.defers = [] ∧ Below R w w' ∧ w'.heap[R]? = some (.cells z12 33 (0, 0)) ∧ w'.heap[R + 1]? = some (.cells #[.int .i64 p] 3 (0, 0)) ∧ w'.heap[R + 2]? = some (.cells #[.int .i64 q] 36 (0, 0))) ?_ ?_
 ·rintro e a' w' ⟨rfl, h0, h1, h2, h3, h4⟩
  cases c₀
  simp_all [bodyPostS, results, Tryd.results29]
 ·simp only [List.size_toArray, List.length_cons, List.length_nil, Nat.reduceAdd, Nat.reduceSub, Array.replicate_succ, Array.replicate_zero, List.push_toArray, List.append_toArray, List.nil_append, List.cons_append, List.setIfInBounds_toArray, List.set_cons_zero, List.set_cons_succ]
  have HTA := ta_fault p q
  go_wp2_with fail
  refine code_nm (fun W hW => ?_)
  have hb : Below w.heap.size w W := by rw [hW]; exact (Below.refl _ _).alloc (Nat.le_refl _) _
  have hf : W.heap[w.heap.size]? = some (.cells #[.int .i64 p, .int .i64 q] 69 (0, 0)) := by rw [hW]; exact new0 _ _
  have hlR := blk_lt hR
  have hlP := blk_lt hP
  have hlQ := blk_lt hQ
  have hR' := (hb.block _ hlR).trans hR
  have hP' := (hb.block _ hlP).trans hP
  have hQ' := (hb.block _ hlQ).trans hQ
  obtain ⟨y0, y1, y2, y3, y4, y5, y6, y7, y8, y9, y10, y11, g0, g1, g2, g3, g4, g5, g6, g7, g8, g9, g10, g11⟩ := box12 hR'
  obtain ⟨z0, z1⟩ := bx2 hf
  have u0 := bx1 hP'
  have u1 := bx1f hP'
  have v0 := bx1 hQ'
  have v1 := bx1f hQ'
  have HF : Hid (w.heap.size ≠ R) := by show _ ≠ _; omega
  have HF1 : Hid (R + 1 ≠ w.heap.size) := by show _ ≠ _; omega
  have HB := hid (hb.mono (show R ≤ w.heap.size by omega))
  have HR' := hid hR'
  have HP' := hid hP'
  have HQ' := hid hQ'
  clear hW hb hf hR hP hQ hR' hP' hQ'
  refine wpT_begin (S := (fun wx => wx.cell? ⟨w.heap.size, 0, none⟩ = some (.int .i64 p) ∧ wx.cell? ⟨w.heap.size, 1, none⟩ = some (.int .i64 q))) [7] (by kernel_rfl) ?_ (fun gH => ?_)
  ·(try dsimp only)
   (first | (with_reducible exact ⟨cell_dr z0, cell_dr z1⟩) | (with_reducible exact ⟨far12 HF.out (cell_dr z0), far12 HF.out (cell_dr z1)⟩) | (with_reducible exact ⟨cell_dr (far12 HF.out z0), cell_dr (far12 HF.out z1)⟩) | (with_reducible exact ⟨(World.cell?_setCell_far _ _ _ _ HF1.out).trans (far12 HF.out (cell_dr z0)), (World.cell?_setCell_far _ _ _ _ HF1.out).trans (far12 HF.out (cell_dr z1))⟩) | (with_reducible exact ⟨cell_dr ((World.cell?_setCell_far _ _ _ _ HF1.out).trans (far12 HF.out z0)), cell_dr ((World.cell?_setCell_far _ _ _ _ HF1.out).trans (far12 HF.out z1))⟩))
  refine qP 0 _ ?_ rfl (.inl ⟨by rfl, ?_⟩) (fun _ => by assumption) ?_
  rotate_left
  ·(intro w hSw; go_simp)
   all_goals (with_reducible rfl)
  (try simp only [qs, Act.put])
  refine qP 1 _ ?_ rfl (.inl ⟨by rfl, ?_⟩) (fun _ => by assumption) ?_
  rotate_left
  ·(intro w hSw; go_simp)
   all_goals (with_reducible rfl)
  (try simp only [qs, Act.put])
  refine qT 2 _ ?_ rfl (.inl ⟨by rfl, ?_⟩) (by assumption) ?_
  rotate_left
  ·(intro w hSw; (try dsimp only at hSw); go_simp)
   all_goals (with_reducible rfl)
  (try simp only [qs, Act.put])
  refine qP 3 _ ?_ rfl (.inl ⟨by rfl, ?_⟩) (fun _ => by assumption) ?_
  rotate_left
  ·(intro w hSw; go_simp)
   all_goals (with_reducible rfl)
  (try simp only [qs, Act.put])
  refine qT 4 _ ?_ rfl (.inl ⟨by rfl, ?_⟩) (by assumption) ?_
  rotate_left
  ·(intro w hSw; (try dsimp only at hSw); go_simp)
   all_goals (with_reducible rfl)
  (try simp only [qs, Act.put])
  refine wpAnyT_ready (rs := [5]) (by kernel_rfl) (by simp) ?_
  refine AllReadyT.cons rfl (fun K hK => ?_) AllReadyT.nil
  go_simp
  refine hK.out _ _ (fun _ => ?_) (fun gH0 => ?_)
  ·(try dsimp only)
   (first | (with_reducible exact ⟨cell_dr z0, cell_dr z1⟩) | (with_reducible exact ⟨far12 HF.out (cell_dr z0), far12 HF.out (cell_dr z1)⟩) | (with_reducible exact ⟨cell_dr (far12 HF.out z0), cell_dr (far12 HF.out z1)⟩) | (with_reducible exact ⟨(World.cell?_setCell_far _ _ _ _ HF1.out).trans (far12 HF.out (cell_dr z0)), (World.cell?_setCell_far _ _ _ _ HF1.out).trans (far12 HF.out (cell_dr z1))⟩) | (with_reducible exact ⟨cell_dr ((World.cell?_setCell_far _ _ _ _ HF1.out).trans (far12 HF.out z0)), cell_dr ((World.cell?_setCell_far _ _ _ _ HF1.out).trans (far12 HF.out z1))⟩))
  have gH := gH0 (by kernel_rfl)
  clear hK K gH0
  (try simp only [qs, Act.put])
  refine wpAnyT_ready (rs := [6]) (by kernel_rfl) (by simp) ?_
  refine AllReadyT.cons rfl (fun K hK => ?_) AllReadyT.nil
  go_simp
  refine hK.out _ _ (fun _ => ?_) (fun gH0 => ?_)
  ·(try dsimp only)
   (first | (with_reducible exact ⟨cell_dr z0, cell_dr z1⟩) | (with_reducible exact ⟨far12 HF.out (cell_dr z0), far12 HF.out (cell_dr z1)⟩) | (with_reducible exact ⟨cell_dr (far12 HF.out z0), cell_dr (far12 HF.out z1)⟩) | (with_reducible exact ⟨(World.cell?_setCell_far _ _ _ _ HF1.out).trans (far12 HF.out (cell_dr z0)), (World.cell?_setCell_far _ _ _ _ HF1.out).trans (far12 HF.out (cell_dr z1))⟩) | (with_reducible exact ⟨cell_dr ((World.cell?_setCell_far _ _ _ _ HF1.out).trans (far12 HF.out z0)), cell_dr ((World.cell?_setCell_far _ _ _ _ HF1.out).trans (far12 HF.out z1))⟩))
  have gH := gH0 (by kernel_rfl)
  clear hK K gH0
  (try simp only [qs, Act.put])
  refine wpAnyT_ready (rs := [7]) (by kernel_rfl) (by simp) ?_
  refine AllReadyT.cons rfl (fun K hK => ?_) AllReadyT.nil
  go_simp
  refine hK.out _ _ (noneB_off (by kernel_rfl)) (fun _ => ?_)
  clear hK K
  (try simp only [qs, Act.put])
  refine wpAnyT_done (by kernel_rfl) ?_ _
  have hfe := fault_end (p := p) (q := q) HB.out HR'.out HP'.out HQ'.out
  exact ⟨rfl, rfl, hfe⟩
end Go.Proofs.YtdeollmeljaaoaaDoor.rd
