import Derived.Test.YtdeollmeljaaoaaDoorAtk
import Derived.Deep.DeepCutAuto
/- A DROP, a DELETE. -/
namespace Go.Proofs.YtdeollmeljaaoaaDoor.rd
open Go.ChangeShapes Go.WideShapes Go.ChangeAt Go.RowKit Go.Proofs.YtdeollmeljaaoaaDoor.cs
set_option linter.unusedVariables false
set_option linter.unusedSimpArgs false
set_option maxHeartbeats 8000000
set_option maxRecDepth 100000
section
variable {B : Nat} {a : Option Addr} {n c : Nat} {L : List Tk}
theorem stmt_DROP {w : World} (h : Rs w B a n c L 0) (m0 : mayB L 0 sCREATE = false) (m1 : mayB L 0 sDROP = true) :
    Calls Tryd.prog 30 #[.pointer (some ⟨B, 0, none⟩)] w (Sy w B (stmtF L n)) := by
  obtain ⟨r, hr⟩ : ∃ r, r = stmtF L n := ⟨_, rfl⟩
  rw [← hr]
  have hr2 : r = bd (partF L n sq0) (endS n) := hr
  have HBG : Hid (∀ W, W = (w.alloc (.cells z12 33)).alloc (.cells (stC sq0 p0) 33) → Ss W B (w.heap.size + 1) (w.heap.size + 2) a n c L 0 sq0 p0 ∧ Below w.heap.size w W ∧ W.heap[w.heap.size]? = some (.cells z12 33 (0, 0))) := fun W hW => ss_begin h hW
  have HLB : Hid (B < w.heap.size) := h.lt
  clear h hr
  unfold partF at hr2
  go_enter Tryd.func30, Tryd.ntmps30
  go_wp2_with fail
  refine calls_nm (fun w0 hW => ?_)
  obtain ⟨hx, hb, hRB⟩ := HBG.out w0 hW
  obtain ⟨S, hS⟩ : ∃ S, S = w.heap.size + 1 := ⟨_, rfl⟩
  have HS0 := Lib.hid hx
  have HB0 := Lib.hid hb
  have HRB := Lib.hid hRB
  clear hW hx hb hRB HBG hS S
  have HN0 : Hid (ButS B (w.heap.size + 1) (w.heap.size + 2) w0 w0) := ButS.refl _ _ _ _
  have hm0 := ssmay HS0.out sCREATE
  rw [m0] at hm0
  have HM := Lib.hid hm0
  clear hm0
  refine HM.out.mono ?_
  rintro e w1 ⟨rfl, hN, hx⟩
  have hx : Ss w1 B (w.heap.size + 1) (w.heap.size + 2) a n c L 0 sq0 p0 := hx
  have HN1 := Lib.hid (HN0.out.trans (hN.toS (w.heap.size + 1) (w.heap.size + 2)))
  have HS1 := Lib.hid hx
  clear hN hx HM HS0 HN0
  have hm0 := ssmay HS1.out sDROP
  rw [m1] at hm0
  have HM := Lib.hid hm0
  clear hm0
  go_wp2_with fail
  refine HM.out.mono ?_
  rintro e w2 ⟨rfl, hN, hx⟩
  have hx : Ss w2 B (w.heap.size + 1) (w.heap.size + 2) a n c L (0 + 1) sq0 p0 := hx
  have HN2 := Lib.hid (HN1.out.trans (hN.toS (w.heap.size + 1) (w.heap.size + 2)))
  have HS2 := Lib.hid hx
  clear hN hx HM HS1 HN1
  rw [if_neg (by simp [m0]), if_pos m1] at hr2
  have HR2 : Hid (r = bd (mustF L n 1 [sTABLE]) fun k => bd (nameG L n k) fun x => endS n (x.2, (⟨2, x.1, [], [], [], false, [], ⟨#[]⟩, false, -1, ⟨#[]⟩, []⟩ : Sq))) := by
    show _ = _
    rw [hr2]
    unfold dropF
    cases mustF L n 1 [sTABLE] with
    | inl f => rfl
    | inr k0 =>
      show bd (bd (nameG L n k0) _) _ = bd (nameG L n k0) _
      cases nameG L n k0 <;> rfl
  clear hr2
  obtain ⟨q3, hq3⟩ : ∃ q, q = mustF L n 1 [sTABLE] := ⟨_, rfl⟩
  have HQ3 : Hid (r = bd q3 fun k => bd (nameG L n k) fun x => endS n (x.2, (⟨2, x.1, [], [], [], false, [], ⟨#[]⟩, false, -1, ⟨#[]⟩, []⟩ : Sq))) := by
    show _ = _
    rw [HR2.out, hq3]
  have HMU3 : Hid (Calls Tryd.prog 52 #[.pointer (some ⟨B, 0, none⟩), .slice (some ⟨w2.heap.size, 0, none⟩) 1 1] (w2.alloc (.cells #[.string sTABLE] 9)) fun e w' => But B w2 w' ∧ match (generalizing := false) q3 with
    | .inl f => e = flt f.1 f.2
    | .inr k' => e = .returned (.tuple #[]) ∧ Ss w' B (w.heap.size + 1) (w.heap.size + 2) a n c L k' (⟨0, ⟨#[]⟩, [], [], [], false, [], ⟨#[]⟩, false, -1, ⟨#[]⟩, []⟩ : Sq) p0) := by
    rw [hq3]
    exact ssmust HS2.out [sTABLE] rfl (by simp) (by simp)
  clear hq3 HR2
  go_wp2_with fail
  refine HMU3.out.mono ?_
  rintro e w3 ⟨hN, h1⟩
  have HN3 := Lib.hid (HN2.out.trans (hN.toS (w.heap.size + 1) (w.heap.size + 2)))
  clear hN HMU3
  rcases q3 with f0 | k3
  · obtain rfl : e = flt f0.1 f0.2 := h1
    obtain rfl : r = .inl f0 := HQ3.out
    exact ⟨rfl, st_but HB0.out HN3.out, rfl⟩
  · obtain ⟨rfl, hx⟩ := h1
    have HS3 := Lib.hid hx
    have HR3 := Lib.hid (show r = bd (nameG L n k3) fun x => endS n (x.2, (⟨2, x.1, [], [], [], false, [], ⟨#[]⟩, false, -1, ⟨#[]⟩, []⟩ : Sq)) from HQ3.out)
    clear hx HQ3
    obtain ⟨q4, hq4⟩ : ∃ q, q = nameG L n k3 := ⟨_, rfl⟩
    have HQ4 : Hid (r = bd q4 fun x => endS n (x.2, (⟨2, x.1, [], [], [], false, [], ⟨#[]⟩, false, -1, ⟨#[]⟩, []⟩ : Sq))) := by
      show _ = _
      rw [HR3.out, hq4]
    have HC4 := ssname HS3.out
    rw [← hq4] at HC4
    have HC4 := Lib.hid HC4
    clear hq4 HR3
    go_wp2_with fail
    refine HC4.out.mono ?_
    rintro e w4 ⟨hN, h1⟩
    have HN4 := Lib.hid (HN3.out.trans (hN.toS (w.heap.size + 1) (w.heap.size + 2)))
    clear hN HC4
    rcases q4 with f0 | ⟨t4, k4⟩
    · obtain rfl : e = flt f0.1 f0.2 := h1
      obtain rfl : r = .inl f0 := HQ4.out
      exact ⟨rfl, st_but HB0.out HN4.out, rfl⟩
    · obtain ⟨rfl, hx⟩ := h1
      have HS4 := Lib.hid hx
      have HR4 := Lib.hid (show r = endS n (k4, (⟨2, t4, [], [], [], false, [], ⟨#[]⟩, false, -1, ⟨#[]⟩, []⟩ : Sq)) from HQ4.out)
      clear hx HQ4
      have z0 : w4.cell? ⟨w.heap.size + 1, 0, none⟩ = some (.int .i64 0) := (HS4.out.x 0 (by omega)).1
      have sf0 := (HS4.out.x 0 (by omega)).2
      have z1 : w4.cell? ⟨w.heap.size + 1, 1, none⟩ = some (.string ⟨#[]⟩) := (HS4.out.x 1 (by omega)).1
      have sf1 := (HS4.out.x 1 (by omega)).2
      go_wp2_with fail
      refine code_nm (fun w5 hv => ?_)
      have hx : Ss w5 B (w.heap.size + 1) (w.heap.size + 2) a n c L k4 (⟨2, t4, [], [], [], false, [], ⟨#[]⟩, false, -1, ⟨#[]⟩, []⟩ : Sq) p0 ∧ But (w.heap.size + 1) w4 w5 := by
        have i1 := HS4.out.put (s' := (⟨2, ⟨#[]⟩, [], [], [], false, [], ⟨#[]⟩, false, -1, ⟨#[]⟩, []⟩ : Sq)) (p' := p0) 0 (.int .i64 2) rfl (HS4.out.own.as rfl rfl rfl rfl rfl)
        have i2 := i1.put (s' := (⟨2, t4, [], [], [], false, [], ⟨#[]⟩, false, -1, ⟨#[]⟩, []⟩ : Sq)) (p' := p0) 1 (.string t4) rfl (i1.own.as rfl rfl rfl rfl rfl)
        rw [hv]
        exact ⟨i2, (But.set _ (w.heap.size + 1) 0 _).trans (But.set _ (w.heap.size + 1) 1 _)⟩
      have HN5 := Lib.hid (HN4.out.trans (hx.2.toS' B (w.heap.size + 2)))
      have HS5 := Lib.hid hx.1
      have HR5 := Lib.hid HR4.out
      clear hx hv HR4 z0 sf0 z1 sf1
      have HKN : ((⟨2, t4, [], [], [], false, [], ⟨#[]⟩, false, -1, ⟨#[]⟩, []⟩ : Sq) : Sq).k ≠ 0 := by show (2 : Int) ≠ 0; omega
      obtain ⟨sf, hsf⟩ : ∃ sf : Sq, sf = (⟨2, t4, [], [], [], false, [], ⟨#[]⟩, false, -1, ⟨#[]⟩, []⟩ : Sq) := ⟨_, rfl⟩
      have HK : Hid (sf.k ≠ 0) := by show sf.k ≠ 0; rw [hsf]; exact HKN
      have HSF : Hid (Ss w5 B (w.heap.size + 1) (w.heap.size + 2) a n c L k4 sf p0) := by show Ss _ _ _ _ _ _ _ _ _ _ _; rw [hsf]; exact HS5.out
      have HRF : Hid (r = if sf.k = 0 ∨ k4 < n then .inl (fl n k4 6) else .inr sf) := by show _ = _; rw [hsf]; exact HR5.out
      obtain ⟨pf, hpf⟩ : ∃ pf : Ps, pf = p0 := ⟨_, rfl⟩
      rw [← hpf] at HSF
      have HGV : Hid (∀ W, Below w5.heap.size w5 W → Calls Tryd.prog 58 #[.pointer (some ⟨B, 0, none⟩), .int .i64 6] W fun e w' => e = flt (fl n k4 6).1 (fl n k4 6).2 ∧ But B W w') := fun W hW => sgive (HSF.out.rs.later hW) 6
      obtain ⟨ov, hrd⟩ := HSF.out.rs.rd
      obtain ⟨r0, r1, r2, -, -, -⟩ := hrd.cells
      have hkn : k4 ≤ n := hrd.le
      have hn100 : n ≤ 100 := hrd.sm
      have hRb := HN5.out.keep (k := w.heap.size) (by have := HSF.out.lb; have := HLB.out; omega) (by omega) (by unfold Grows; decide) HRB.out
      have HRX := Lib.hid hRb
      have HNF := Lib.hid HN5.out
      clear hpf HS5 HR5 HN5 hrd hRb HKN hsf
      obtain ⟨s0, s1, s2, s3, s4, s5, s6, s7, s8, s9, s10, s11⟩ := sf
      obtain ⟨a2, n2, c2, a3, n3, c3, a4, n4, c4, a6, n6, c6, a11, n11, c11⟩ := pf
      obtain ⟨x0, x1, x2, x3, x4, x5, x6, x7, x8, x9, x10, x11, f0, f1, f2, f3, f4, f5, f6, f7, f8, f9, f10, f11⟩ := box12 HSF.out.box
      obtain ⟨y0, y1, y2, y3, y4, y5, y6, y7, y8, y9, y10, y11, g0, g1, g2, g3, g4, g5, g6, g7, g8, g9, g10, g11⟩ := box12 HRX.out
      simp only at HK HRF
      have hz : (s0 == 0) = false := by have := HK.out; simpa using this
      by_cases hlt : k4 < n
      · have hlt' : decide (((k4 : Nat) : Int) < (n : Int)) = true := by simp; omega
        have hq : r = .inl (fl n k4 6) := by rw [HRF.out, if_pos (Or.inr hlt)]
        subst hq
        clear x1 x2 x3 x4 x5 x6 x7 x8 x9 x10 x11 f0 f1 f2 f3 f4 f5 f6 f7 f8 f9 f10 f11 y0 y1 y2 y3 y4 y5 y6 y7 y8 y9 y10 y11 g0 g1 g2 g3 g4 g5 g6 g7 g8 g9 g10 g11
        (try go_wp2_with fail)
        go_quiet (fail)
        go_wp2_with fail
        refine (HGV.out _ (below_drewN _ _)).mono ?_
        rintro e w' ⟨rfl, hN⟩
        exact ⟨rfl, st_but HB0.out (HNF.out.trans (((But.of (below_drewN _ _)).trans hN).toS _ _)), rfl⟩
      · have hlt' : decide (((k4 : Nat) : Int) < (n : Int)) = false := by simp; omega
        have hq : r = .inr (⟨s0, s1, s2, s3, s4, s5, s6, s7, s8, s9, s10, s11⟩ : Sq) := by rw [HRF.out, if_neg (by rintro (h | h); exact HK.out h; exact hlt h)]
        subst hq
        (try go_wp2_with fail)
        go_quiet (fail)
        have hzz : w.heap.size ≤ w5.heap.size := Nat.le_trans HB0.out.size HNF.out.size
        have HRD : (w5.drewN nq).heap[w.heap.size]? = some (.cells z12 33 (0, 0)) := ((below_drewN w5 nq).block _ (blk_lt HRX.out)).trans HRX.out
        go_wp2_with fail
        obtain ⟨hb12, v0, v1, v2, v3, v4, v5, v6, v7, v8, v9, v10, v11⟩ := st12 (A := w.heap.size) (w0 := w5) ((below_drewN _ _).mono hzz) (Nat.le_refl _) HRD (.int .i64 s0) (.string s1) (.slice a2 n2 c2) (.slice a3 n3 c3) (.slice a4 n4 c4) (.bool s5) (.slice a6 n6 c6) (.string s7) (.bool s8) (.int .i64 s9) (.string s10) (.slice a11 n11 c11)
        clear x0 x1 x2 x3 x4 x5 x6 x7 x8 x9 x10 x11 f0 f1 f2 f3 f4 f5 f6 f7 f8 f9 f10 f11 y0 y1 y2 y3 y4 y5 y6 y7 y8 y9 y10 y11 g0 g1 g2 g3 g4 g5 g6 g7 g8 g9 g10 g11
        refine bodyPost_ret (v := .agg #[.int .i64 s0, .string s1, .slice a2 n2 c2, .slice a3 n3 c3, .slice a4 n4 c4, .bool s5, .slice a6 n6 c6, .string s7, .bool s8, .int .i64 s9, .string s10, .slice a11 n11 c11]) (by simp [results, Tryd.results30, go_sem, v0, v1, v2, v3, v4, v5, v6, v7, v8, v9, v10, v11]; try rfl) rfl ?_
        exact ⟨but_tail (st_but HB0.out HNF.out) hb12, ⟨a2, n2, c2, a3, n3, c3, a4, n4, c4, a6, n6, c6, a11, n11, c11⟩, rfl, HSF.out.own.tail fun k hk hl => (set12_far _ _ _ _ _ _ _ _ _ _ _ _ k hk).trans ((below_drewN w5 nq).block k hl)⟩
theorem stmt_DELETE {w : World} (h : Rs w B a n c L 0) (m0 : mayB L 0 sCREATE = false) (m1 : mayB L 0 sDROP = false) (m2 : mayB L 0 sINSERT = false) (m3 : mayB L 0 sSELECT = false) (m4 : mayB L 0 sUPDATE = false) (m5 : mayB L 0 sDELETE = true) :
    Calls Tryd.prog 30 #[.pointer (some ⟨B, 0, none⟩)] w (Sy w B (stmtF L n)) := by
  obtain ⟨r, hr⟩ : ∃ r, r = stmtF L n := ⟨_, rfl⟩
  rw [← hr]
  have hr2 : r = bd (partF L n sq0) (endS n) := hr
  have HBG : Hid (∀ W, W = (w.alloc (.cells z12 33)).alloc (.cells (stC sq0 p0) 33) → Ss W B (w.heap.size + 1) (w.heap.size + 2) a n c L 0 sq0 p0 ∧ Below w.heap.size w W ∧ W.heap[w.heap.size]? = some (.cells z12 33 (0, 0))) := fun W hW => ss_begin h hW
  have HLB : Hid (B < w.heap.size) := h.lt
  clear h hr
  unfold partF at hr2
  go_enter Tryd.func30, Tryd.ntmps30
  go_wp2_with fail
  refine calls_nm (fun w0 hW => ?_)
  obtain ⟨hx, hb, hRB⟩ := HBG.out w0 hW
  obtain ⟨S, hS⟩ : ∃ S, S = w.heap.size + 1 := ⟨_, rfl⟩
  have HS0 := Lib.hid hx
  have HB0 := Lib.hid hb
  have HRB := Lib.hid hRB
  clear hW hx hb hRB HBG hS S
  have HN0 : Hid (ButS B (w.heap.size + 1) (w.heap.size + 2) w0 w0) := ButS.refl _ _ _ _
  have hm0 := ssmay HS0.out sCREATE
  rw [m0] at hm0
  have HM := Lib.hid hm0
  clear hm0
  refine HM.out.mono ?_
  rintro e w1 ⟨rfl, hN, hx⟩
  have hx : Ss w1 B (w.heap.size + 1) (w.heap.size + 2) a n c L 0 sq0 p0 := hx
  have HN1 := Lib.hid (HN0.out.trans (hN.toS (w.heap.size + 1) (w.heap.size + 2)))
  have HS1 := Lib.hid hx
  clear hN hx HM HS0 HN0
  have hm0 := ssmay HS1.out sDROP
  rw [m1] at hm0
  have HM := Lib.hid hm0
  clear hm0
  go_wp2_with fail
  refine HM.out.mono ?_
  rintro e w2 ⟨rfl, hN, hx⟩
  have hx : Ss w2 B (w.heap.size + 1) (w.heap.size + 2) a n c L 0 sq0 p0 := hx
  have HN2 := Lib.hid (HN1.out.trans (hN.toS (w.heap.size + 1) (w.heap.size + 2)))
  have HS2 := Lib.hid hx
  clear hN hx HM HS1 HN1
  have hm0 := ssmay HS2.out sINSERT
  rw [m2] at hm0
  have HM := Lib.hid hm0
  clear hm0
  go_wp2_with fail
  refine HM.out.mono ?_
  rintro e w3 ⟨rfl, hN, hx⟩
  have hx : Ss w3 B (w.heap.size + 1) (w.heap.size + 2) a n c L 0 sq0 p0 := hx
  have HN3 := Lib.hid (HN2.out.trans (hN.toS (w.heap.size + 1) (w.heap.size + 2)))
  have HS3 := Lib.hid hx
  clear hN hx HM HS2 HN2
  have hm0 := ssmay HS3.out sSELECT
  rw [m3] at hm0
  have HM := Lib.hid hm0
  clear hm0
  go_wp2_with fail
  refine HM.out.mono ?_
  rintro e w4 ⟨rfl, hN, hx⟩
  have hx : Ss w4 B (w.heap.size + 1) (w.heap.size + 2) a n c L 0 sq0 p0 := hx
  have HN4 := Lib.hid (HN3.out.trans (hN.toS (w.heap.size + 1) (w.heap.size + 2)))
  have HS4 := Lib.hid hx
  clear hN hx HM HS3 HN3
  have hm0 := ssmay HS4.out sUPDATE
  rw [m4] at hm0
  have HM := Lib.hid hm0
  clear hm0
  go_wp2_with fail
  refine HM.out.mono ?_
  rintro e w5 ⟨rfl, hN, hx⟩
  have hx : Ss w5 B (w.heap.size + 1) (w.heap.size + 2) a n c L 0 sq0 p0 := hx
  have HN5 := Lib.hid (HN4.out.trans (hN.toS (w.heap.size + 1) (w.heap.size + 2)))
  have HS5 := Lib.hid hx
  clear hN hx HM HS4 HN4
  have hm0 := ssmay HS5.out sDELETE
  rw [m5] at hm0
  have HM := Lib.hid hm0
  clear hm0
  go_wp2_with fail
  refine HM.out.mono ?_
  rintro e w6 ⟨rfl, hN, hx⟩
  have hx : Ss w6 B (w.heap.size + 1) (w.heap.size + 2) a n c L (0 + 1) sq0 p0 := hx
  have HN6 := Lib.hid (HN5.out.trans (hN.toS (w.heap.size + 1) (w.heap.size + 2)))
  have HS6 := Lib.hid hx
  clear hN hx HM HS5 HN5
  rw [if_neg (by simp [m0]), if_neg (by simp [m1]), if_neg (by simp [m2]), if_neg (by simp [m3]), if_neg (by simp [m4]), if_pos m5] at hr2
  have HR6 : Hid (r = bd (mustF L n 1 [sFROM]) fun k => bd (nameG L n k) fun x => bd (whereF L n x.2) fun y => endS n (y.1, (⟨6, x.1, [], [], [], false, y.2, ⟨#[]⟩, false, -1, ⟨#[]⟩, []⟩ : Sq))) := by
    show _ = _
    rw [hr2]
    unfold deleteF
    cases mustF L n 1 [sFROM] with
    | inl f => rfl
    | inr k0 =>
      show bd (bd (nameG L n k0) _) _ = bd (nameG L n k0) _
      cases nameG L n k0 with
      | inl f => rfl
      | inr x =>
        show bd (bd (whereF L n x.2) _) _ = bd (whereF L n x.2) _
        cases whereF L n x.2 <;> rfl
  clear hr2
  obtain ⟨q7, hq7⟩ : ∃ q, q = mustF L n 1 [sFROM] := ⟨_, rfl⟩
  have HQ7 : Hid (r = bd q7 fun k => bd (nameG L n k) fun x => bd (whereF L n x.2) fun y => endS n (y.1, (⟨6, x.1, [], [], [], false, y.2, ⟨#[]⟩, false, -1, ⟨#[]⟩, []⟩ : Sq))) := by
    show _ = _
    rw [HR6.out, hq7]
  have HMU7 : Hid (Calls Tryd.prog 52 #[.pointer (some ⟨B, 0, none⟩), .slice (some ⟨w6.heap.size, 0, none⟩) 1 1] (w6.alloc (.cells #[.string sFROM] 9)) fun e w' => But B w6 w' ∧ match (generalizing := false) q7 with
    | .inl f => e = flt f.1 f.2
    | .inr k' => e = .returned (.tuple #[]) ∧ Ss w' B (w.heap.size + 1) (w.heap.size + 2) a n c L k' (⟨0, ⟨#[]⟩, [], [], [], false, [], ⟨#[]⟩, false, -1, ⟨#[]⟩, []⟩ : Sq) p0) := by
    rw [hq7]
    exact ssmust HS6.out [sFROM] rfl (by simp) (by simp)
  clear hq7 HR6
  go_wp2_with fail
  refine HMU7.out.mono ?_
  rintro e w7 ⟨hN, h1⟩
  have HN7 := Lib.hid (HN6.out.trans (hN.toS (w.heap.size + 1) (w.heap.size + 2)))
  clear hN HMU7
  rcases q7 with f0 | k7
  · obtain rfl : e = flt f0.1 f0.2 := h1
    obtain rfl : r = .inl f0 := HQ7.out
    exact ⟨rfl, st_but HB0.out HN7.out, rfl⟩
  · obtain ⟨rfl, hx⟩ := h1
    have HS7 := Lib.hid hx
    have HR7 := Lib.hid (show r = bd (nameG L n k7) fun x => bd (whereF L n x.2) fun y => endS n (y.1, (⟨6, x.1, [], [], [], false, y.2, ⟨#[]⟩, false, -1, ⟨#[]⟩, []⟩ : Sq)) from HQ7.out)
    clear hx HQ7
    obtain ⟨q8, hq8⟩ : ∃ q, q = nameG L n k7 := ⟨_, rfl⟩
    have HQ8 : Hid (r = bd q8 fun x => bd (whereF L n x.2) fun y => endS n (y.1, (⟨6, x.1, [], [], [], false, y.2, ⟨#[]⟩, false, -1, ⟨#[]⟩, []⟩ : Sq))) := by
      show _ = _
      rw [HR7.out, hq8]
    have HC8 := ssname HS7.out
    rw [← hq8] at HC8
    have HC8 := Lib.hid HC8
    clear hq8 HR7
    go_wp2_with fail
    refine HC8.out.mono ?_
    rintro e w8 ⟨hN, h1⟩
    have HN8 := Lib.hid (HN7.out.trans (hN.toS (w.heap.size + 1) (w.heap.size + 2)))
    clear hN HC8
    rcases q8 with f0 | ⟨t8, k8⟩
    · obtain rfl : e = flt f0.1 f0.2 := h1
      obtain rfl : r = .inl f0 := HQ8.out
      exact ⟨rfl, st_but HB0.out HN8.out, rfl⟩
    · obtain ⟨rfl, hx⟩ := h1
      have HS8 := Lib.hid hx
      have HR8 := Lib.hid (show r = bd (whereF L n k8) fun y => endS n (y.1, (⟨6, t8, [], [], [], false, y.2, ⟨#[]⟩, false, -1, ⟨#[]⟩, []⟩ : Sq)) from HQ8.out)
      clear hx HQ8
      obtain ⟨q9, hq9⟩ : ∃ q, q = whereF L n k8 := ⟨_, rfl⟩
      have HQ9 : Hid (r = bd q9 fun y => endS n (y.1, (⟨6, t8, [], [], [], false, y.2, ⟨#[]⟩, false, -1, ⟨#[]⟩, []⟩ : Sq))) := by
        show _ = _
        rw [HR8.out, hq9]
      have HC9 := xq_of HS8.out (where_any w8 k8 HS8.out.rs)
      rw [← hq9] at HC9
      have HC9 := Lib.hid HC9
      clear hq9 HR8
      go_wp2_with fail
      refine HC9.out.mono ?_
      rintro e w9 ⟨hN, h1⟩
      have HN9 := Lib.hid (HN8.out.trans (hN.toS (w.heap.size + 1) (w.heap.size + 2)))
      have HB9 := Lib.hid hN
      clear hN HC9
      rcases q9 with f0 | ⟨k9, os9⟩
      · obtain rfl : e = flt f0.1 f0.2 := h1
        obtain rfl : r = .inl f0 := HQ9.out
        exact ⟨rfl, st_but HB0.out HN9.out, rfl⟩
      · obtain ⟨va9, vc9, rfl, ho, hx⟩ := h1
        have HS9 := Lib.hid hx
        have HO9 := Lib.hid ho
        have HR9 := Lib.hid (show r = endS n (k9, (⟨6, t8, [], [], [], false, os9, ⟨#[]⟩, false, -1, ⟨#[]⟩, []⟩ : Sq)) from HQ9.out)
        clear hx HQ9 ho
        have z0 : w9.cell? ⟨w.heap.size + 1, 0, none⟩ = some (.int .i64 0) := (HS9.out.x 0 (by omega)).1
        have sf0 := (HS9.out.x 0 (by omega)).2
        have z1 : w9.cell? ⟨w.heap.size + 1, 1, none⟩ = some (.string ⟨#[]⟩) := (HS9.out.x 1 (by omega)).1
        have sf1 := (HS9.out.x 1 (by omega)).2
        have z2 : w9.cell? ⟨w.heap.size + 1, 6, none⟩ = some (.slice none 0 0) := (HS9.out.x 6 (by omega)).1
        have sf2 := (HS9.out.x 6 (by omega)).2
        go_wp2_with fail
        refine code_nm (fun w10 hv => ?_)
        have hx : Ss w10 B (w.heap.size + 1) (w.heap.size + 2) a n c L k9 (⟨6, t8, [], [], [], false, os9, ⟨#[]⟩, false, -1, ⟨#[]⟩, []⟩ : Sq) { p0 with a6 := va9, n6 := os9.length, c6 := vc9 } ∧ But (w.heap.size + 1) w9 w10 := by
          have i1 := HS9.out.put (s' := (⟨6, ⟨#[]⟩, [], [], [], false, [], ⟨#[]⟩, false, -1, ⟨#[]⟩, []⟩ : Sq)) (p' := p0) 0 (.int .i64 6) rfl (HS9.out.own.as rfl rfl rfl rfl rfl)
          have i2 := i1.put (s' := (⟨6, t8, [], [], [], false, [], ⟨#[]⟩, false, -1, ⟨#[]⟩, []⟩ : Sq)) (p' := p0) 1 (.string t8) rfl (i1.own.as rfl rfl rfl rfl rfl)
          have i3 := i2.put (s' := (⟨6, t8, [], [], [], false, os9, ⟨#[]⟩, false, -1, ⟨#[]⟩, []⟩ : Sq)) (p' := { p0 with a6 := va9, n6 := os9.length, c6 := vc9 }) 6 (.slice va9 os9.length vc9) rfl (⟨i2.own.o2, i2.own.o3, i2.own.o4, ownsRow_setCell_below (ownsRow_setCell_below HO9.out HS9.out.ls _) i2.ls _, i2.own.o11⟩)
          rw [hv]
          exact ⟨i3, ((But.set _ (w.heap.size + 1) 0 _).trans (But.set _ (w.heap.size + 1) 1 _)).trans (But.set _ (w.heap.size + 1) 6 _)⟩
        have HN10 := Lib.hid (HN9.out.trans (hx.2.toS' B (w.heap.size + 2)))
        have HS10 := Lib.hid hx.1
        have HR10 := Lib.hid HR9.out
        clear hx hv HR9 z0 sf0 z1 sf1 z2 sf2
        have HKN : ((⟨6, t8, [], [], [], false, os9, ⟨#[]⟩, false, -1, ⟨#[]⟩, []⟩ : Sq) : Sq).k ≠ 0 := by show (6 : Int) ≠ 0; omega
        obtain ⟨sf, hsf⟩ : ∃ sf : Sq, sf = (⟨6, t8, [], [], [], false, os9, ⟨#[]⟩, false, -1, ⟨#[]⟩, []⟩ : Sq) := ⟨_, rfl⟩
        have HK : Hid (sf.k ≠ 0) := by show sf.k ≠ 0; rw [hsf]; exact HKN
        have HSF : Hid (Ss w10 B (w.heap.size + 1) (w.heap.size + 2) a n c L k9 sf { p0 with a6 := va9, n6 := os9.length, c6 := vc9 }) := by show Ss _ _ _ _ _ _ _ _ _ _ _; rw [hsf]; exact HS10.out
        have HRF : Hid (r = if sf.k = 0 ∨ k9 < n then .inl (fl n k9 6) else .inr sf) := by show _ = _; rw [hsf]; exact HR10.out
        obtain ⟨pf, hpf⟩ : ∃ pf : Ps, pf = { p0 with a6 := va9, n6 := os9.length, c6 := vc9 } := ⟨_, rfl⟩
        rw [← hpf] at HSF
        have HGV : Hid (∀ W, Below w10.heap.size w10 W → Calls Tryd.prog 58 #[.pointer (some ⟨B, 0, none⟩), .int .i64 6] W fun e w' => e = flt (fl n k9 6).1 (fl n k9 6).2 ∧ But B W w') := fun W hW => sgive (HSF.out.rs.later hW) 6
        obtain ⟨ov, hrd⟩ := HSF.out.rs.rd
        obtain ⟨r0, r1, r2, -, -, -⟩ := hrd.cells
        have hkn : k9 ≤ n := hrd.le
        have hn100 : n ≤ 100 := hrd.sm
        have hRb := HN10.out.keep (k := w.heap.size) (by have := HSF.out.lb; have := HLB.out; omega) (by omega) (by unfold Grows; decide) HRB.out
        have HRX := Lib.hid hRb
        have HNF := Lib.hid HN10.out
        clear hpf HS10 HR10 HN10 hrd hRb HKN hsf
        obtain ⟨s0, s1, s2, s3, s4, s5, s6, s7, s8, s9, s10, s11⟩ := sf
        obtain ⟨a2, n2, c2, a3, n3, c3, a4, n4, c4, a6, n6, c6, a11, n11, c11⟩ := pf
        obtain ⟨x0, x1, x2, x3, x4, x5, x6, x7, x8, x9, x10, x11, f0, f1, f2, f3, f4, f5, f6, f7, f8, f9, f10, f11⟩ := box12 HSF.out.box
        obtain ⟨y0, y1, y2, y3, y4, y5, y6, y7, y8, y9, y10, y11, g0, g1, g2, g3, g4, g5, g6, g7, g8, g9, g10, g11⟩ := box12 HRX.out
        simp only at HK HRF
        have hz : (s0 == 0) = false := by have := HK.out; simpa using this
        by_cases hlt : k9 < n
        · have hlt' : decide (((k9 : Nat) : Int) < (n : Int)) = true := by simp; omega
          have hq : r = .inl (fl n k9 6) := by rw [HRF.out, if_pos (Or.inr hlt)]
          subst hq
          clear x1 x2 x3 x4 x5 x6 x7 x8 x9 x10 x11 f0 f1 f2 f3 f4 f5 f6 f7 f8 f9 f10 f11 y0 y1 y2 y3 y4 y5 y6 y7 y8 y9 y10 y11 g0 g1 g2 g3 g4 g5 g6 g7 g8 g9 g10 g11
          (try go_wp2_with fail)
          go_quiet (fail)
          go_wp2_with fail
          refine (HGV.out _ (below_drewN _ _)).mono ?_
          rintro e w' ⟨rfl, hN⟩
          exact ⟨rfl, st_but HB0.out (HNF.out.trans (((But.of (below_drewN _ _)).trans hN).toS _ _)), rfl⟩
        · have hlt' : decide (((k9 : Nat) : Int) < (n : Int)) = false := by simp; omega
          have hq : r = .inr (⟨s0, s1, s2, s3, s4, s5, s6, s7, s8, s9, s10, s11⟩ : Sq) := by rw [HRF.out, if_neg (by rintro (h | h); exact HK.out h; exact hlt h)]
          subst hq
          (try go_wp2_with fail)
          go_quiet (fail)
          have hzz : w.heap.size ≤ w10.heap.size := Nat.le_trans HB0.out.size HNF.out.size
          have HRD : (w10.drewN nq).heap[w.heap.size]? = some (.cells z12 33 (0, 0)) := ((below_drewN w10 nq).block _ (blk_lt HRX.out)).trans HRX.out
          go_wp2_with fail
          obtain ⟨hb12, v0, v1, v2, v3, v4, v5, v6, v7, v8, v9, v10, v11⟩ := st12 (A := w.heap.size) (w0 := w10) ((below_drewN _ _).mono hzz) (Nat.le_refl _) HRD (.int .i64 s0) (.string s1) (.slice a2 n2 c2) (.slice a3 n3 c3) (.slice a4 n4 c4) (.bool s5) (.slice a6 n6 c6) (.string s7) (.bool s8) (.int .i64 s9) (.string s10) (.slice a11 n11 c11)
          clear x0 x1 x2 x3 x4 x5 x6 x7 x8 x9 x10 x11 f0 f1 f2 f3 f4 f5 f6 f7 f8 f9 f10 f11 y0 y1 y2 y3 y4 y5 y6 y7 y8 y9 y10 y11 g0 g1 g2 g3 g4 g5 g6 g7 g8 g9 g10 g11
          refine bodyPost_ret (v := .agg #[.int .i64 s0, .string s1, .slice a2 n2 c2, .slice a3 n3 c3, .slice a4 n4 c4, .bool s5, .slice a6 n6 c6, .string s7, .bool s8, .int .i64 s9, .string s10, .slice a11 n11 c11]) (by simp [results, Tryd.results30, go_sem, v0, v1, v2, v3, v4, v5, v6, v7, v8, v9, v10, v11]; try rfl) rfl ?_
          exact ⟨but_tail (st_but HB0.out HNF.out) hb12, ⟨a2, n2, c2, a3, n3, c3, a4, n4, c4, a6, n6, c6, a11, n11, c11⟩, rfl, HSF.out.own.tail fun k hk hl => (set12_far _ _ _ _ _ _ _ _ _ _ _ _ k hk).trans ((below_drewN w10 nq).block k hl)⟩
end
end Go.Proofs.YtdeollmeljaaoaaDoor.rd
