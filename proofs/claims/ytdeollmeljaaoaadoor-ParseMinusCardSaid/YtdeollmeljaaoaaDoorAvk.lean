import Derived.Test.YtdeollmeljaaoaaDoorAtk
import Derived.Deep.DeepCutAuto
/- A CREATE, an INSERT, a SELECT, an UPDATE. -/
namespace Go.Proofs.YtdeollmeljaaoaaDoor.rd
open Go.ChangeShapes Go.WideShapes Go.ChangeAt Go.RowKit Go.Proofs.YtdeollmeljaaoaaDoor.cs
set_option linter.unusedVariables false
set_option linter.unusedSimpArgs false
set_option maxHeartbeats 8000000
set_option maxRecDepth 100000
section
variable {B : Nat} {a : Option Addr} {n c : Nat} {L : List Tk}
theorem stmt_CREATE {w : World} (h : Rs w B a n c L 0) (m0 : mayB L 0 sCREATE = true) :
    Calls Tryd.prog 30 #[.pointer (some ⟨B, 0, none⟩)] w (Sy w B (stmtF L n)) := by
  obtain ⟨r, hr⟩ : ∃ r, r = stmtF L n := ⟨_, rfl⟩
  rw [← hr]
  have hr2 : r = bd (partF L n sq0) (endS n) := hr
  have HBG : Hid (∀ W, W = (w.alloc (.cells z12 33)).alloc (.cells (stC sq0 p0) 33) → Ss W B (w.heap.size + 1) (w.heap.size + 2) a n c L 0 sq0 p0 ∧ Below w.heap.size w W ∧ W.heap[w.heap.size]? = some (.cells z12 33 (0, 0))) := fun W hW => ss_begin h hW
  have HLB : Hid (B < w.heap.size) := h.lt
  clear h hr
  unfold partF at hr2
  go_enter Tryd.func30, Tryd.ntmps30
  go_wp2_with fail
  refine calls_nm (fun w0 hW => ?_)
  obtain ⟨hx, hb, hRB⟩ := HBG.out w0 hW
  obtain ⟨S, hS⟩ : ∃ S, S = w.heap.size + 1 := ⟨_, rfl⟩
  have HS0 := Lib.hid hx
  have HB0 := Lib.hid hb
  have HRB := Lib.hid hRB
  clear hW hx hb hRB HBG hS S
  have HN0 : Hid (ButS B (w.heap.size + 1) (w.heap.size + 2) w0 w0) := ButS.refl _ _ _ _
  have hm0 := ssmay HS0.out sCREATE
  rw [m0] at hm0
  have HM := Lib.hid hm0
  clear hm0
  refine HM.out.mono ?_
  rintro e w1 ⟨rfl, hN, hx⟩
  have hx : Ss w1 B (w.heap.size + 1) (w.heap.size + 2) a n c L (0 + 1) sq0 p0 := hx
  have HN1 := Lib.hid (HN0.out.trans (hN.toS (w.heap.size + 1) (w.heap.size + 2)))
  have HS1 := Lib.hid hx
  clear hN hx HM HS0 HN0
  rw [if_pos m0] at hr2
  have HR1 : Hid (r = bd (createF L n 1 sq0) (endS n)) := hr2
  obtain ⟨q2, hq2⟩ : ∃ q, q = createF L n 1 sq0 := ⟨_, rfl⟩
  have HQ2 : Hid (r = bd q2 (endS n)) := by
    show _ = _
    rw [HR1.out, hq2]
  have HKQ : Hid (∀ x, q2 = .inr x → x.2.k ≠ 0) := fun x e => k_create (by rw [← hq2]; exact e)
  have HC2 := create_any HS1.out rfl
  rw [← hq2] at HC2
  have HC2 := Lib.hid HC2
  clear hq2 HR1 hr2
  go_wp2_with fail
  refine HC2.out.mono ?_
  rintro e w2 ⟨hN, h1⟩
  have HN2 := Lib.hid (HN1.out.trans hN)
  clear hN HC2
  rcases q2 with f0 | ⟨k2, s2q⟩
  · obtain rfl : e = flt f0.1 f0.2 := h1
    obtain rfl : r = .inl f0 := HQ2.out
    exact ⟨rfl, st_but HB0.out HN2.out, rfl⟩
  · obtain ⟨rfl, p2q, hx⟩ := h1
    have HS2 := Lib.hid hx
    have HR2 := Lib.hid (show r = endS n (k2, s2q) from HQ2.out)
    have HKN : s2q.k ≠ 0 := HKQ.out (k2, s2q) rfl
    clear hx HQ2 HKQ
    obtain ⟨sf, hsf⟩ : ∃ sf : Sq, sf = s2q := ⟨_, rfl⟩
    have HK : Hid (sf.k ≠ 0) := by show sf.k ≠ 0; rw [hsf]; exact HKN
    have HSF : Hid (Ss w2 B (w.heap.size + 1) (w.heap.size + 2) a n c L k2 sf p2q) := by show Ss _ _ _ _ _ _ _ _ _ _ _; rw [hsf]; exact HS2.out
    have HRF : Hid (r = if sf.k = 0 ∨ k2 < n then .inl (fl n k2 6) else .inr sf) := by show _ = _; rw [hsf]; exact HR2.out
    obtain ⟨pf, hpf⟩ : ∃ pf : Ps, pf = p2q := ⟨_, rfl⟩
    rw [← hpf] at HSF
    have HGV : Hid (∀ W, Below w2.heap.size w2 W → Calls Tryd.prog 58 #[.pointer (some ⟨B, 0, none⟩), .int .i64 6] W fun e w' => e = flt (fl n k2 6).1 (fl n k2 6).2 ∧ But B W w') := fun W hW => sgive (HSF.out.rs.later hW) 6
    obtain ⟨ov, hrd⟩ := HSF.out.rs.rd
    obtain ⟨r0, r1, r2, -, -, -⟩ := hrd.cells
    have hkn : k2 ≤ n := hrd.le
    have hn100 : n ≤ 100 := hrd.sm
    have hRb := HN2.out.keep (k := w.heap.size) (by have := HSF.out.lb; have := HLB.out; omega) (by omega) (by unfold Grows; decide) HRB.out
    have HRX := Lib.hid hRb
    have HNF := Lib.hid HN2.out
    clear hpf HS2 HR2 HN2 hrd hRb HKN hsf
    obtain ⟨s0, s1, s2, s3, s4, s5, s6, s7, s8, s9, s10, s11⟩ := sf
    obtain ⟨a2, n2, c2, a3, n3, c3, a4, n4, c4, a6, n6, c6, a11, n11, c11⟩ := pf
    obtain ⟨x0, x1, x2, x3, x4, x5, x6, x7, x8, x9, x10, x11, f0, f1, f2, f3, f4, f5, f6, f7, f8, f9, f10, f11⟩ := box12 HSF.out.box
    obtain ⟨y0, y1, y2, y3, y4, y5, y6, y7, y8, y9, y10, y11, g0, g1, g2, g3, g4, g5, g6, g7, g8, g9, g10, g11⟩ := box12 HRX.out
    simp only at HK HRF
    have hz : (s0 == 0) = false := by have := HK.out; simpa using this
    by_cases hlt : k2 < n
    · have hlt' : decide (((k2 : Nat) : Int) < (n : Int)) = true := by simp; omega
      have hq : r = .inl (fl n k2 6) := by rw [HRF.out, if_pos (Or.inr hlt)]
      subst hq
      clear x1 x2 x3 x4 x5 x6 x7 x8 x9 x10 x11 f0 f1 f2 f3 f4 f5 f6 f7 f8 f9 f10 f11 y0 y1 y2 y3 y4 y5 y6 y7 y8 y9 y10 y11 g0 g1 g2 g3 g4 g5 g6 g7 g8 g9 g10 g11
      (try go_wp2_with fail)
      go_quiet (fail)
      go_wp2_with fail
      refine (HGV.out _ (below_drewN _ _)).mono ?_
      rintro e w' ⟨rfl, hN⟩
      exact ⟨rfl, st_but HB0.out (HNF.out.trans (((But.of (below_drewN _ _)).trans hN).toS _ _)), rfl⟩
    · have hlt' : decide (((k2 : Nat) : Int) < (n : Int)) = false := by simp; omega
      have hq : r = .inr (⟨s0, s1, s2, s3, s4, s5, s6, s7, s8, s9, s10, s11⟩ : Sq) := by rw [HRF.out, if_neg (by rintro (h | h); exact HK.out h; exact hlt h)]
      subst hq
      (try go_wp2_with fail)
      go_quiet (fail)
      have hzz : w.heap.size ≤ w2.heap.size := Nat.le_trans HB0.out.size HNF.out.size
      have HRD : (w2.drewN nq).heap[w.heap.size]? = some (.cells z12 33 (0, 0)) := ((below_drewN w2 nq).block _ (blk_lt HRX.out)).trans HRX.out
      go_wp2_with fail
      obtain ⟨hb12, v0, v1, v2, v3, v4, v5, v6, v7, v8, v9, v10, v11⟩ := st12 (A := w.heap.size) (w0 := w2) ((below_drewN _ _).mono hzz) (Nat.le_refl _) HRD (.int .i64 s0) (.string s1) (.slice a2 n2 c2) (.slice a3 n3 c3) (.slice a4 n4 c4) (.bool s5) (.slice a6 n6 c6) (.string s7) (.bool s8) (.int .i64 s9) (.string s10) (.slice a11 n11 c11)
      clear x0 x1 x2 x3 x4 x5 x6 x7 x8 x9 x10 x11 f0 f1 f2 f3 f4 f5 f6 f7 f8 f9 f10 f11 y0 y1 y2 y3 y4 y5 y6 y7 y8 y9 y10 y11 g0 g1 g2 g3 g4 g5 g6 g7 g8 g9 g10 g11
      refine bodyPost_ret (v := .agg #[.int .i64 s0, .string s1, .slice a2 n2 c2, .slice a3 n3 c3, .slice a4 n4 c4, .bool s5, .slice a6 n6 c6, .string s7, .bool s8, .int .i64 s9, .string s10, .slice a11 n11 c11]) (by simp [results, Tryd.results30, go_sem, v0, v1, v2, v3, v4, v5, v6, v7, v8, v9, v10, v11]; try rfl) rfl ?_
      exact ⟨but_tail (st_but HB0.out HNF.out) hb12, ⟨a2, n2, c2, a3, n3, c3, a4, n4, c4, a6, n6, c6, a11, n11, c11⟩, rfl, HSF.out.own.tail fun k hk hl => (set12_far _ _ _ _ _ _ _ _ _ _ _ _ k hk).trans ((below_drewN w2 nq).block k hl)⟩
theorem stmt_INSERT {w : World} (h : Rs w B a n c L 0) (m0 : mayB L 0 sCREATE = false) (m1 : mayB L 0 sDROP = false) (m2 : mayB L 0 sINSERT = true) :
    Calls Tryd.prog 30 #[.pointer (some ⟨B, 0, none⟩)] w (Sy w B (stmtF L n)) := by
  obtain ⟨r, hr⟩ : ∃ r, r = stmtF L n := ⟨_, rfl⟩
  rw [← hr]
  have hr2 : r = bd (partF L n sq0) (endS n) := hr
  have HBG : Hid (∀ W, W = (w.alloc (.cells z12 33)).alloc (.cells (stC sq0 p0) 33) → Ss W B (w.heap.size + 1) (w.heap.size + 2) a n c L 0 sq0 p0 ∧ Below w.heap.size w W ∧ W.heap[w.heap.size]? = some (.cells z12 33 (0, 0))) := fun W hW => ss_begin h hW
  have HLB : Hid (B < w.heap.size) := h.lt
  clear h hr
  unfold partF at hr2
  go_enter Tryd.func30, Tryd.ntmps30
  go_wp2_with fail
  refine calls_nm (fun w0 hW => ?_)
  obtain ⟨hx, hb, hRB⟩ := HBG.out w0 hW
  obtain ⟨S, hS⟩ : ∃ S, S = w.heap.size + 1 := ⟨_, rfl⟩
  have HS0 := Lib.hid hx
  have HB0 := Lib.hid hb
  have HRB := Lib.hid hRB
  clear hW hx hb hRB HBG hS S
  have HN0 : Hid (ButS B (w.heap.size + 1) (w.heap.size + 2) w0 w0) := ButS.refl _ _ _ _
  have hm0 := ssmay HS0.out sCREATE
  rw [m0] at hm0
  have HM := Lib.hid hm0
  clear hm0
  refine HM.out.mono ?_
  rintro e w1 ⟨rfl, hN, hx⟩
  have hx : Ss w1 B (w.heap.size + 1) (w.heap.size + 2) a n c L 0 sq0 p0 := hx
  have HN1 := Lib.hid (HN0.out.trans (hN.toS (w.heap.size + 1) (w.heap.size + 2)))
  have HS1 := Lib.hid hx
  clear hN hx HM HS0 HN0
  have hm0 := ssmay HS1.out sDROP
  rw [m1] at hm0
  have HM := Lib.hid hm0
  clear hm0
  go_wp2_with fail
  refine HM.out.mono ?_
  rintro e w2 ⟨rfl, hN, hx⟩
  have hx : Ss w2 B (w.heap.size + 1) (w.heap.size + 2) a n c L 0 sq0 p0 := hx
  have HN2 := Lib.hid (HN1.out.trans (hN.toS (w.heap.size + 1) (w.heap.size + 2)))
  have HS2 := Lib.hid hx
  clear hN hx HM HS1 HN1
  have hm0 := ssmay HS2.out sINSERT
  rw [m2] at hm0
  have HM := Lib.hid hm0
  clear hm0
  go_wp2_with fail
  refine HM.out.mono ?_
  rintro e w3 ⟨rfl, hN, hx⟩
  have hx : Ss w3 B (w.heap.size + 1) (w.heap.size + 2) a n c L (0 + 1) sq0 p0 := hx
  have HN3 := Lib.hid (HN2.out.trans (hN.toS (w.heap.size + 1) (w.heap.size + 2)))
  have HS3 := Lib.hid hx
  clear hN hx HM HS2 HN2
  rw [if_neg (by simp [m0]), if_neg (by simp [m1]), if_pos m2] at hr2
  have HR3 : Hid (r = bd (insertF L n 1 sq0) (endS n)) := hr2
  obtain ⟨q4, hq4⟩ : ∃ q, q = insertF L n 1 sq0 := ⟨_, rfl⟩
  have HQ4 : Hid (r = bd q4 (endS n)) := by
    show _ = _
    rw [HR3.out, hq4]
  have HKQ : Hid (∀ x, q4 = .inr x → x.2.k ≠ 0) := fun x e => k_insert (by rw [← hq4]; exact e)
  have HC4 := insert_any HS3.out rfl
  rw [← hq4] at HC4
  have HC4 := Lib.hid HC4
  clear hq4 HR3 hr2
  go_wp2_with fail
  refine HC4.out.mono ?_
  rintro e w4 ⟨hN, h1⟩
  have HN4 := Lib.hid (HN3.out.trans hN)
  clear hN HC4
  rcases q4 with f0 | ⟨k4, s4q⟩
  · obtain rfl : e = flt f0.1 f0.2 := h1
    obtain rfl : r = .inl f0 := HQ4.out
    exact ⟨rfl, st_but HB0.out HN4.out, rfl⟩
  · obtain ⟨rfl, p4q, hx⟩ := h1
    have HS4 := Lib.hid hx
    have HR4 := Lib.hid (show r = endS n (k4, s4q) from HQ4.out)
    have HKN : s4q.k ≠ 0 := HKQ.out (k4, s4q) rfl
    clear hx HQ4 HKQ
    obtain ⟨sf, hsf⟩ : ∃ sf : Sq, sf = s4q := ⟨_, rfl⟩
    have HK : Hid (sf.k ≠ 0) := by show sf.k ≠ 0; rw [hsf]; exact HKN
    have HSF : Hid (Ss w4 B (w.heap.size + 1) (w.heap.size + 2) a n c L k4 sf p4q) := by show Ss _ _ _ _ _ _ _ _ _ _ _; rw [hsf]; exact HS4.out
    have HRF : Hid (r = if sf.k = 0 ∨ k4 < n then .inl (fl n k4 6) else .inr sf) := by show _ = _; rw [hsf]; exact HR4.out
    obtain ⟨pf, hpf⟩ : ∃ pf : Ps, pf = p4q := ⟨_, rfl⟩
    rw [← hpf] at HSF
    have HGV : Hid (∀ W, Below w4.heap.size w4 W → Calls Tryd.prog 58 #[.pointer (some ⟨B, 0, none⟩), .int .i64 6] W fun e w' => e = flt (fl n k4 6).1 (fl n k4 6).2 ∧ But B W w') := fun W hW => sgive (HSF.out.rs.later hW) 6
    obtain ⟨ov, hrd⟩ := HSF.out.rs.rd
    obtain ⟨r0, r1, r2, -, -, -⟩ := hrd.cells
    have hkn : k4 ≤ n := hrd.le
    have hn100 : n ≤ 100 := hrd.sm
    have hRb := HN4.out.keep (k := w.heap.size) (by have := HSF.out.lb; have := HLB.out; omega) (by omega) (by unfold Grows; decide) HRB.out
    have HRX := Lib.hid hRb
    have HNF := Lib.hid HN4.out
    clear hpf HS4 HR4 HN4 hrd hRb HKN hsf
    obtain ⟨s0, s1, s2, s3, s4, s5, s6, s7, s8, s9, s10, s11⟩ := sf
    obtain ⟨a2, n2, c2, a3, n3, c3, a4, n4, c4, a6, n6, c6, a11, n11, c11⟩ := pf
    obtain ⟨x0, x1, x2, x3, x4, x5, x6, x7, x8, x9, x10, x11, f0, f1, f2, f3, f4, f5, f6, f7, f8, f9, f10, f11⟩ := box12 HSF.out.box
    obtain ⟨y0, y1, y2, y3, y4, y5, y6, y7, y8, y9, y10, y11, g0, g1, g2, g3, g4, g5, g6, g7, g8, g9, g10, g11⟩ := box12 HRX.out
    simp only at HK HRF
    have hz : (s0 == 0) = false := by have := HK.out; simpa using this
    by_cases hlt : k4 < n
    · have hlt' : decide (((k4 : Nat) : Int) < (n : Int)) = true := by simp; omega
      have hq : r = .inl (fl n k4 6) := by rw [HRF.out, if_pos (Or.inr hlt)]
      subst hq
      clear x1 x2 x3 x4 x5 x6 x7 x8 x9 x10 x11 f0 f1 f2 f3 f4 f5 f6 f7 f8 f9 f10 f11 y0 y1 y2 y3 y4 y5 y6 y7 y8 y9 y10 y11 g0 g1 g2 g3 g4 g5 g6 g7 g8 g9 g10 g11
      (try go_wp2_with fail)
      go_quiet (fail)
      go_wp2_with fail
      refine (HGV.out _ (below_drewN _ _)).mono ?_
      rintro e w' ⟨rfl, hN⟩
      exact ⟨rfl, st_but HB0.out (HNF.out.trans (((But.of (below_drewN _ _)).trans hN).toS _ _)), rfl⟩
    · have hlt' : decide (((k4 : Nat) : Int) < (n : Int)) = false := by simp; omega
      have hq : r = .inr (⟨s0, s1, s2, s3, s4, s5, s6, s7, s8, s9, s10, s11⟩ : Sq) := by rw [HRF.out, if_neg (by rintro (h | h); exact HK.out h; exact hlt h)]
      subst hq
      (try go_wp2_with fail)
      go_quiet (fail)
      have hzz : w.heap.size ≤ w4.heap.size := Nat.le_trans HB0.out.size HNF.out.size
      have HRD : (w4.drewN nq).heap[w.heap.size]? = some (.cells z12 33 (0, 0)) := ((below_drewN w4 nq).block _ (blk_lt HRX.out)).trans HRX.out
      go_wp2_with fail
      obtain ⟨hb12, v0, v1, v2, v3, v4, v5, v6, v7, v8, v9, v10, v11⟩ := st12 (A := w.heap.size) (w0 := w4) ((below_drewN _ _).mono hzz) (Nat.le_refl _) HRD (.int .i64 s0) (.string s1) (.slice a2 n2 c2) (.slice a3 n3 c3) (.slice a4 n4 c4) (.bool s5) (.slice a6 n6 c6) (.string s7) (.bool s8) (.int .i64 s9) (.string s10) (.slice a11 n11 c11)
      clear x0 x1 x2 x3 x4 x5 x6 x7 x8 x9 x10 x11 f0 f1 f2 f3 f4 f5 f6 f7 f8 f9 f10 f11 y0 y1 y2 y3 y4 y5 y6 y7 y8 y9 y10 y11 g0 g1 g2 g3 g4 g5 g6 g7 g8 g9 g10 g11
      refine bodyPost_ret (v := .agg #[.int .i64 s0, .string s1, .slice a2 n2 c2, .slice a3 n3 c3, .slice a4 n4 c4, .bool s5, .slice a6 n6 c6, .string s7, .bool s8, .int .i64 s9, .string s10, .slice a11 n11 c11]) (by simp [results, Tryd.results30, go_sem, v0, v1, v2, v3, v4, v5, v6, v7, v8, v9, v10, v11]; try rfl) rfl ?_
      exact ⟨but_tail (st_but HB0.out HNF.out) hb12, ⟨a2, n2, c2, a3, n3, c3, a4, n4, c4, a6, n6, c6, a11, n11, c11⟩, rfl, HSF.out.own.tail fun k hk hl => (set12_far _ _ _ _ _ _ _ _ _ _ _ _ k hk).trans ((below_drewN w4 nq).block k hl)⟩
theorem stmt_SELECT {w : World} (h : Rs w B a n c L 0) (m0 : mayB L 0 sCREATE = false) (m1 : mayB L 0 sDROP = false) (m2 : mayB L 0 sINSERT = false) (m3 : mayB L 0 sSELECT = true) :
    Calls Tryd.prog 30 #[.pointer (some ⟨B, 0, none⟩)] w (Sy w B (stmtF L n)) := by
  obtain ⟨r, hr⟩ : ∃ r, r = stmtF L n := ⟨_, rfl⟩
  rw [← hr]
  have hr2 : r = bd (partF L n sq0) (endS n) := hr
  have HBG : Hid (∀ W, W = (w.alloc (.cells z12 33)).alloc (.cells (stC sq0 p0) 33) → Ss W B (w.heap.size + 1) (w.heap.size + 2) a n c L 0 sq0 p0 ∧ Below w.heap.size w W ∧ W.heap[w.heap.size]? = some (.cells z12 33 (0, 0))) := fun W hW => ss_begin h hW
  have HLB : Hid (B < w.heap.size) := h.lt
  clear h hr
  unfold partF at hr2
  go_enter Tryd.func30, Tryd.ntmps30
  go_wp2_with fail
  refine calls_nm (fun w0 hW => ?_)
  obtain ⟨hx, hb, hRB⟩ := HBG.out w0 hW
  obtain ⟨S, hS⟩ : ∃ S, S = w.heap.size + 1 := ⟨_, rfl⟩
  have HS0 := Lib.hid hx
  have HB0 := Lib.hid hb
  have HRB := Lib.hid hRB
  clear hW hx hb hRB HBG hS S
  have HN0 : Hid (ButS B (w.heap.size + 1) (w.heap.size + 2) w0 w0) := ButS.refl _ _ _ _
  have hm0 := ssmay HS0.out sCREATE
  rw [m0] at hm0
  have HM := Lib.hid hm0
  clear hm0
  refine HM.out.mono ?_
  rintro e w1 ⟨rfl, hN, hx⟩
  have hx : Ss w1 B (w.heap.size + 1) (w.heap.size + 2) a n c L 0 sq0 p0 := hx
  have HN1 := Lib.hid (HN0.out.trans (hN.toS (w.heap.size + 1) (w.heap.size + 2)))
  have HS1 := Lib.hid hx
  clear hN hx HM HS0 HN0
  have hm0 := ssmay HS1.out sDROP
  rw [m1] at hm0
  have HM := Lib.hid hm0
  clear hm0
  go_wp2_with fail
  refine HM.out.mono ?_
  rintro e w2 ⟨rfl, hN, hx⟩
  have hx : Ss w2 B (w.heap.size + 1) (w.heap.size + 2) a n c L 0 sq0 p0 := hx
  have HN2 := Lib.hid (HN1.out.trans (hN.toS (w.heap.size + 1) (w.heap.size + 2)))
  have HS2 := Lib.hid hx
  clear hN hx HM HS1 HN1
  have hm0 := ssmay HS2.out sINSERT
  rw [m2] at hm0
  have HM := Lib.hid hm0
  clear hm0
  go_wp2_with fail
  refine HM.out.mono ?_
  rintro e w3 ⟨rfl, hN, hx⟩
  have hx : Ss w3 B (w.heap.size + 1) (w.heap.size + 2) a n c L 0 sq0 p0 := hx
  have HN3 := Lib.hid (HN2.out.trans (hN.toS (w.heap.size + 1) (w.heap.size + 2)))
  have HS3 := Lib.hid hx
  clear hN hx HM HS2 HN2
  have hm0 := ssmay HS3.out sSELECT
  rw [m3] at hm0
  have HM := Lib.hid hm0
  clear hm0
  go_wp2_with fail
  refine HM.out.mono ?_
  rintro e w4 ⟨rfl, hN, hx⟩
  have hx : Ss w4 B (w.heap.size + 1) (w.heap.size + 2) a n c L (0 + 1) sq0 p0 := hx
  have HN4 := Lib.hid (HN3.out.trans (hN.toS (w.heap.size + 1) (w.heap.size + 2)))
  have HS4 := Lib.hid hx
  clear hN hx HM HS3 HN3
  rw [if_neg (by simp [m0]), if_neg (by simp [m1]), if_neg (by simp [m2]), if_pos m3] at hr2
  have HR4 : Hid (r = bd (chooseF L n 1 sq0) (endS n)) := hr2
  obtain ⟨q5, hq5⟩ : ∃ q, q = chooseF L n 1 sq0 := ⟨_, rfl⟩
  have HQ5 : Hid (r = bd q5 (endS n)) := by
    show _ = _
    rw [HR4.out, hq5]
  have HKQ : Hid (∀ x, q5 = .inr x → x.2.k ≠ 0) := fun x e => k_choose (by rw [← hq5]; exact e)
  have HC5 := choose_any HS4.out
  rw [← hq5] at HC5
  have HC5 := Lib.hid HC5
  clear hq5 HR4 hr2
  go_wp2_with fail
  refine HC5.out.mono ?_
  rintro e w5 ⟨hN, h1⟩
  have HN5 := Lib.hid (HN4.out.trans hN)
  clear hN HC5
  rcases q5 with f0 | ⟨k5, s5q⟩
  · obtain rfl : e = flt f0.1 f0.2 := h1
    obtain rfl : r = .inl f0 := HQ5.out
    exact ⟨rfl, st_but HB0.out HN5.out, rfl⟩
  · obtain ⟨rfl, p5q, hx⟩ := h1
    have HS5 := Lib.hid hx
    have HR5 := Lib.hid (show r = endS n (k5, s5q) from HQ5.out)
    have HKN : s5q.k ≠ 0 := HKQ.out (k5, s5q) rfl
    clear hx HQ5 HKQ
    obtain ⟨sf, hsf⟩ : ∃ sf : Sq, sf = s5q := ⟨_, rfl⟩
    have HK : Hid (sf.k ≠ 0) := by show sf.k ≠ 0; rw [hsf]; exact HKN
    have HSF : Hid (Ss w5 B (w.heap.size + 1) (w.heap.size + 2) a n c L k5 sf p5q) := by show Ss _ _ _ _ _ _ _ _ _ _ _; rw [hsf]; exact HS5.out
    have HRF : Hid (r = if sf.k = 0 ∨ k5 < n then .inl (fl n k5 6) else .inr sf) := by show _ = _; rw [hsf]; exact HR5.out
    obtain ⟨pf, hpf⟩ : ∃ pf : Ps, pf = p5q := ⟨_, rfl⟩
    rw [← hpf] at HSF
    have HGV : Hid (∀ W, Below w5.heap.size w5 W → Calls Tryd.prog 58 #[.pointer (some ⟨B, 0, none⟩), .int .i64 6] W fun e w' => e = flt (fl n k5 6).1 (fl n k5 6).2 ∧ But B W w') := fun W hW => sgive (HSF.out.rs.later hW) 6
    obtain ⟨ov, hrd⟩ := HSF.out.rs.rd
    obtain ⟨r0, r1, r2, -, -, -⟩ := hrd.cells
    have hkn : k5 ≤ n := hrd.le
    have hn100 : n ≤ 100 := hrd.sm
    have hRb := HN5.out.keep (k := w.heap.size) (by have := HSF.out.lb; have := HLB.out; omega) (by omega) (by unfold Grows; decide) HRB.out
    have HRX := Lib.hid hRb
    have HNF := Lib.hid HN5.out
    clear hpf HS5 HR5 HN5 hrd hRb HKN hsf
    obtain ⟨s0, s1, s2, s3, s4, s5, s6, s7, s8, s9, s10, s11⟩ := sf
    obtain ⟨a2, n2, c2, a3, n3, c3, a4, n4, c4, a6, n6, c6, a11, n11, c11⟩ := pf
    obtain ⟨x0, x1, x2, x3, x4, x5, x6, x7, x8, x9, x10, x11, f0, f1, f2, f3, f4, f5, f6, f7, f8, f9, f10, f11⟩ := box12 HSF.out.box
    obtain ⟨y0, y1, y2, y3, y4, y5, y6, y7, y8, y9, y10, y11, g0, g1, g2, g3, g4, g5, g6, g7, g8, g9, g10, g11⟩ := box12 HRX.out
    simp only at HK HRF
    have hz : (s0 == 0) = false := by have := HK.out; simpa using this
    by_cases hlt : k5 < n
    · have hlt' : decide (((k5 : Nat) : Int) < (n : Int)) = true := by simp; omega
      have hq : r = .inl (fl n k5 6) := by rw [HRF.out, if_pos (Or.inr hlt)]
      subst hq
      clear x1 x2 x3 x4 x5 x6 x7 x8 x9 x10 x11 f0 f1 f2 f3 f4 f5 f6 f7 f8 f9 f10 f11 y0 y1 y2 y3 y4 y5 y6 y7 y8 y9 y10 y11 g0 g1 g2 g3 g4 g5 g6 g7 g8 g9 g10 g11
      (try go_wp2_with fail)
      go_quiet (fail)
      go_wp2_with fail
      refine (HGV.out _ (below_drewN _ _)).mono ?_
      rintro e w' ⟨rfl, hN⟩
      exact ⟨rfl, st_but HB0.out (HNF.out.trans (((But.of (below_drewN _ _)).trans hN).toS _ _)), rfl⟩
    · have hlt' : decide (((k5 : Nat) : Int) < (n : Int)) = false := by simp; omega
      have hq : r = .inr (⟨s0, s1, s2, s3, s4, s5, s6, s7, s8, s9, s10, s11⟩ : Sq) := by rw [HRF.out, if_neg (by rintro (h | h); exact HK.out h; exact hlt h)]
      subst hq
      (try go_wp2_with fail)
      go_quiet (fail)
      have hzz : w.heap.size ≤ w5.heap.size := Nat.le_trans HB0.out.size HNF.out.size
      have HRD : (w5.drewN nq).heap[w.heap.size]? = some (.cells z12 33 (0, 0)) := ((below_drewN w5 nq).block _ (blk_lt HRX.out)).trans HRX.out
      go_wp2_with fail
      obtain ⟨hb12, v0, v1, v2, v3, v4, v5, v6, v7, v8, v9, v10, v11⟩ := st12 (A := w.heap.size) (w0 := w5) ((below_drewN _ _).mono hzz) (Nat.le_refl _) HRD (.int .i64 s0) (.string s1) (.slice a2 n2 c2) (.slice a3 n3 c3) (.slice a4 n4 c4) (.bool s5) (.slice a6 n6 c6) (.string s7) (.bool s8) (.int .i64 s9) (.string s10) (.slice a11 n11 c11)
      clear x0 x1 x2 x3 x4 x5 x6 x7 x8 x9 x10 x11 f0 f1 f2 f3 f4 f5 f6 f7 f8 f9 f10 f11 y0 y1 y2 y3 y4 y5 y6 y7 y8 y9 y10 y11 g0 g1 g2 g3 g4 g5 g6 g7 g8 g9 g10 g11
      refine bodyPost_ret (v := .agg #[.int .i64 s0, .string s1, .slice a2 n2 c2, .slice a3 n3 c3, .slice a4 n4 c4, .bool s5, .slice a6 n6 c6, .string s7, .bool s8, .int .i64 s9, .string s10, .slice a11 n11 c11]) (by simp [results, Tryd.results30, go_sem, v0, v1, v2, v3, v4, v5, v6, v7, v8, v9, v10, v11]; try rfl) rfl ?_
      exact ⟨but_tail (st_but HB0.out HNF.out) hb12, ⟨a2, n2, c2, a3, n3, c3, a4, n4, c4, a6, n6, c6, a11, n11, c11⟩, rfl, HSF.out.own.tail fun k hk hl => (set12_far _ _ _ _ _ _ _ _ _ _ _ _ k hk).trans ((below_drewN w5 nq).block k hl)⟩
theorem stmt_UPDATE {w : World} (h : Rs w B a n c L 0) (m0 : mayB L 0 sCREATE = false) (m1 : mayB L 0 sDROP = false) (m2 : mayB L 0 sINSERT = false) (m3 : mayB L 0 sSELECT = false) (m4 : mayB L 0 sUPDATE = true) :
    Calls Tryd.prog 30 #[.pointer (some ⟨B, 0, none⟩)] w (Sy w B (stmtF L n)) := by
  obtain ⟨r, hr⟩ : ∃ r, r = stmtF L n := ⟨_, rfl⟩
  rw [← hr]
  have hr2 : r = bd (partF L n sq0) (endS n) := hr
  have HBG : Hid (∀ W, W = (w.alloc (.cells z12 33)).alloc (.cells (stC sq0 p0) 33) → Ss W B (w.heap.size + 1) (w.heap.size + 2) a n c L 0 sq0 p0 ∧ Below w.heap.size w W ∧ W.heap[w.heap.size]? = some (.cells z12 33 (0, 0))) := fun W hW => ss_begin h hW
  have HLB : Hid (B < w.heap.size) := h.lt
  clear h hr
  unfold partF at hr2
  go_enter Tryd.func30, Tryd.ntmps30
  go_wp2_with fail
  refine calls_nm (fun w0 hW => ?_)
  obtain ⟨hx, hb, hRB⟩ := HBG.out w0 hW
  obtain ⟨S, hS⟩ : ∃ S, S = w.heap.size + 1 := ⟨_, rfl⟩
  have HS0 := Lib.hid hx
  have HB0 := Lib.hid hb
  have HRB := Lib.hid hRB
  clear hW hx hb hRB HBG hS S
  have HN0 : Hid (ButS B (w.heap.size + 1) (w.heap.size + 2) w0 w0) := ButS.refl _ _ _ _
  have hm0 := ssmay HS0.out sCREATE
  rw [m0] at hm0
  have HM := Lib.hid hm0
  clear hm0
  refine HM.out.mono ?_
  rintro e w1 ⟨rfl, hN, hx⟩
  have hx : Ss w1 B (w.heap.size + 1) (w.heap.size + 2) a n c L 0 sq0 p0 := hx
  have HN1 := Lib.hid (HN0.out.trans (hN.toS (w.heap.size + 1) (w.heap.size + 2)))
  have HS1 := Lib.hid hx
  clear hN hx HM HS0 HN0
  have hm0 := ssmay HS1.out sDROP
  rw [m1] at hm0
  have HM := Lib.hid hm0
  clear hm0
  go_wp2_with fail
  refine HM.out.mono ?_
  rintro e w2 ⟨rfl, hN, hx⟩
  have hx : Ss w2 B (w.heap.size + 1) (w.heap.size + 2) a n c L 0 sq0 p0 := hx
  have HN2 := Lib.hid (HN1.out.trans (hN.toS (w.heap.size + 1) (w.heap.size + 2)))
  have HS2 := Lib.hid hx
  clear hN hx HM HS1 HN1
  have hm0 := ssmay HS2.out sINSERT
  rw [m2] at hm0
  have HM := Lib.hid hm0
  clear hm0
  go_wp2_with fail
  refine HM.out.mono ?_
  rintro e w3 ⟨rfl, hN, hx⟩
  have hx : Ss w3 B (w.heap.size + 1) (w.heap.size + 2) a n c L 0 sq0 p0 := hx
  have HN3 := Lib.hid (HN2.out.trans (hN.toS (w.heap.size + 1) (w.heap.size + 2)))
  have HS3 := Lib.hid hx
  clear hN hx HM HS2 HN2
  have hm0 := ssmay HS3.out sSELECT
  rw [m3] at hm0
  have HM := Lib.hid hm0
  clear hm0
  go_wp2_with fail
  refine HM.out.mono ?_
  rintro e w4 ⟨rfl, hN, hx⟩
  have hx : Ss w4 B (w.heap.size + 1) (w.heap.size + 2) a n c L 0 sq0 p0 := hx
  have HN4 := Lib.hid (HN3.out.trans (hN.toS (w.heap.size + 1) (w.heap.size + 2)))
  have HS4 := Lib.hid hx
  clear hN hx HM HS3 HN3
  have hm0 := ssmay HS4.out sUPDATE
  rw [m4] at hm0
  have HM := Lib.hid hm0
  clear hm0
  go_wp2_with fail
  refine HM.out.mono ?_
  rintro e w5 ⟨rfl, hN, hx⟩
  have hx : Ss w5 B (w.heap.size + 1) (w.heap.size + 2) a n c L (0 + 1) sq0 p0 := hx
  have HN5 := Lib.hid (HN4.out.trans (hN.toS (w.heap.size + 1) (w.heap.size + 2)))
  have HS5 := Lib.hid hx
  clear hN hx HM HS4 HN4
  rw [if_neg (by simp [m0]), if_neg (by simp [m1]), if_neg (by simp [m2]), if_neg (by simp [m3]), if_pos m4] at hr2
  have HR5 : Hid (r = bd (updateF L n 1 sq0) (endS n)) := hr2
  obtain ⟨q6, hq6⟩ : ∃ q, q = updateF L n 1 sq0 := ⟨_, rfl⟩
  have HQ6 : Hid (r = bd q6 (endS n)) := by
    show _ = _
    rw [HR5.out, hq6]
  have HKQ : Hid (∀ x, q6 = .inr x → x.2.k ≠ 0) := fun x e => k_update (by rw [← hq6]; exact e)
  have HC6 := update_any HS5.out
  rw [← hq6] at HC6
  have HC6 := Lib.hid HC6
  clear hq6 HR5 hr2
  go_wp2_with fail
  refine HC6.out.mono ?_
  rintro e w6 ⟨hN, h1⟩
  have HN6 := Lib.hid (HN5.out.trans hN)
  clear hN HC6
  rcases q6 with f0 | ⟨k6, s6q⟩
  · obtain rfl : e = flt f0.1 f0.2 := h1
    obtain rfl : r = .inl f0 := HQ6.out
    exact ⟨rfl, st_but HB0.out HN6.out, rfl⟩
  · obtain ⟨rfl, p6q, hx⟩ := h1
    have HS6 := Lib.hid hx
    have HR6 := Lib.hid (show r = endS n (k6, s6q) from HQ6.out)
    have HKN : s6q.k ≠ 0 := HKQ.out (k6, s6q) rfl
    clear hx HQ6 HKQ
    obtain ⟨sf, hsf⟩ : ∃ sf : Sq, sf = s6q := ⟨_, rfl⟩
    have HK : Hid (sf.k ≠ 0) := by show sf.k ≠ 0; rw [hsf]; exact HKN
    have HSF : Hid (Ss w6 B (w.heap.size + 1) (w.heap.size + 2) a n c L k6 sf p6q) := by show Ss _ _ _ _ _ _ _ _ _ _ _; rw [hsf]; exact HS6.out
    have HRF : Hid (r = if sf.k = 0 ∨ k6 < n then .inl (fl n k6 6) else .inr sf) := by show _ = _; rw [hsf]; exact HR6.out
    obtain ⟨pf, hpf⟩ : ∃ pf : Ps, pf = p6q := ⟨_, rfl⟩
    rw [← hpf] at HSF
    have HGV : Hid (∀ W, Below w6.heap.size w6 W → Calls Tryd.prog 58 #[.pointer (some ⟨B, 0, none⟩), .int .i64 6] W fun e w' => e = flt (fl n k6 6).1 (fl n k6 6).2 ∧ But B W w') := fun W hW => sgive (HSF.out.rs.later hW) 6
    obtain ⟨ov, hrd⟩ := HSF.out.rs.rd
    obtain ⟨r0, r1, r2, -, -, -⟩ := hrd.cells
    have hkn : k6 ≤ n := hrd.le
    have hn100 : n ≤ 100 := hrd.sm
    have hRb := HN6.out.keep (k := w.heap.size) (by have := HSF.out.lb; have := HLB.out; omega) (by omega) (by unfold Grows; decide) HRB.out
    have HRX := Lib.hid hRb
    have HNF := Lib.hid HN6.out
    clear hpf HS6 HR6 HN6 hrd hRb HKN hsf
    obtain ⟨s0, s1, s2, s3, s4, s5, s6, s7, s8, s9, s10, s11⟩ := sf
    obtain ⟨a2, n2, c2, a3, n3, c3, a4, n4, c4, a6, n6, c6, a11, n11, c11⟩ := pf
    obtain ⟨x0, x1, x2, x3, x4, x5, x6, x7, x8, x9, x10, x11, f0, f1, f2, f3, f4, f5, f6, f7, f8, f9, f10, f11⟩ := box12 HSF.out.box
    obtain ⟨y0, y1, y2, y3, y4, y5, y6, y7, y8, y9, y10, y11, g0, g1, g2, g3, g4, g5, g6, g7, g8, g9, g10, g11⟩ := box12 HRX.out
    simp only at HK HRF
    have hz : (s0 == 0) = false := by have := HK.out; simpa using this
    by_cases hlt : k6 < n
    · have hlt' : decide (((k6 : Nat) : Int) < (n : Int)) = true := by simp; omega
      have hq : r = .inl (fl n k6 6) := by rw [HRF.out, if_pos (Or.inr hlt)]
      subst hq
      clear x1 x2 x3 x4 x5 x6 x7 x8 x9 x10 x11 f0 f1 f2 f3 f4 f5 f6 f7 f8 f9 f10 f11 y0 y1 y2 y3 y4 y5 y6 y7 y8 y9 y10 y11 g0 g1 g2 g3 g4 g5 g6 g7 g8 g9 g10 g11
      (try go_wp2_with fail)
      go_quiet (fail)
      go_wp2_with fail
      refine (HGV.out _ (below_drewN _ _)).mono ?_
      rintro e w' ⟨rfl, hN⟩
      exact ⟨rfl, st_but HB0.out (HNF.out.trans (((But.of (below_drewN _ _)).trans hN).toS _ _)), rfl⟩
    · have hlt' : decide (((k6 : Nat) : Int) < (n : Int)) = false := by simp; omega
      have hq : r = .inr (⟨s0, s1, s2, s3, s4, s5, s6, s7, s8, s9, s10, s11⟩ : Sq) := by rw [HRF.out, if_neg (by rintro (h | h); exact HK.out h; exact hlt h)]
      subst hq
      (try go_wp2_with fail)
      go_quiet (fail)
      have hzz : w.heap.size ≤ w6.heap.size := Nat.le_trans HB0.out.size HNF.out.size
      have HRD : (w6.drewN nq).heap[w.heap.size]? = some (.cells z12 33 (0, 0)) := ((below_drewN w6 nq).block _ (blk_lt HRX.out)).trans HRX.out
      go_wp2_with fail
      obtain ⟨hb12, v0, v1, v2, v3, v4, v5, v6, v7, v8, v9, v10, v11⟩ := st12 (A := w.heap.size) (w0 := w6) ((below_drewN _ _).mono hzz) (Nat.le_refl _) HRD (.int .i64 s0) (.string s1) (.slice a2 n2 c2) (.slice a3 n3 c3) (.slice a4 n4 c4) (.bool s5) (.slice a6 n6 c6) (.string s7) (.bool s8) (.int .i64 s9) (.string s10) (.slice a11 n11 c11)
      clear x0 x1 x2 x3 x4 x5 x6 x7 x8 x9 x10 x11 f0 f1 f2 f3 f4 f5 f6 f7 f8 f9 f10 f11 y0 y1 y2 y3 y4 y5 y6 y7 y8 y9 y10 y11 g0 g1 g2 g3 g4 g5 g6 g7 g8 g9 g10 g11
      refine bodyPost_ret (v := .agg #[.int .i64 s0, .string s1, .slice a2 n2 c2, .slice a3 n3 c3, .slice a4 n4 c4, .bool s5, .slice a6 n6 c6, .string s7, .bool s8, .int .i64 s9, .string s10, .slice a11 n11 c11]) (by simp [results, Tryd.results30, go_sem, v0, v1, v2, v3, v4, v5, v6, v7, v8, v9, v10, v11]; try rfl) rfl ?_
      exact ⟨but_tail (st_but HB0.out HNF.out) hb12, ⟨a2, n2, c2, a3, n3, c3, a4, n4, c4, a6, n6, c6, a11, n11, c11⟩, rfl, HSF.out.own.tail fun k hk hl => (set12_far _ _ _ _ _ _ _ _ _ _ _ _ k hk).trans ((below_drewN w6 nq).block k hl)⟩
end
end Go.Proofs.YtdeollmeljaaoaaDoor.rd
