import Derived.Test.YtnheepkmaibofaaDoorRjk
import Derived.Test.YtnheepkmaibofaaDoorChk
/- What a statement's parts lack: the document. -/
namespace Go.Proofs.YtnheepkmaibofaaDoor.cs
open Go.ChangeShapes Go.WideShapes Go.ChangeAt Go.RowKit
set_option linter.unusedVariables false
set_option linter.unusedSimpArgs false
set_option maxHeartbeats 8000000
set_option maxRecDepth 1000000
theorem part_create (w : World) (t : ByteArray) (ao : Option Addr) (n cap : Nat) (l : List Cq) (hr : Rd w 2 n (.slice ao n cap) (ccs l)) (hs : ∀ c ∈ l, c.t.size ≤ maxLen) (row : List V) (names : List ByteArray) (cnt : Bool) (wh : List Oq) (ord : ByteArray) (dn : Bool) (lim : Int) (st : ByteArray) (to : List Oq) (a3 : Option Addr) (n3 c3 : Nat) (a4 : Option Addr) (n4 c4 : Nat) (a6 : Option Addr) (n6 c6 : Nat) (a11 : Option Addr) (n11 c11 : Nat) :
    Calls Tryd.prog 26 #[stV ⟨1, t, l, row, names, cnt, wh, ord, dn, lim, st, to⟩ ⟨ao, n, cap, a3, n3, c3, a4, n4, c4, a6, n6, c6, a11, n11, c11⟩] w fun e w' => e = .returned (.int .i64 (colsF l)) ∧ Below w.heap.size w w' := by
  have hml := len_c hr
  have hmax := hr.len
  unfold maxLen at hmax
  have HR := Lib.hid hr
  have hcap : n ≤ cap := by
    obtain ⟨_, ao2, cap2, h, h2, _⟩ := hr
    simp only [Value.slice.injEq] at h
    omega
  clear hr
  by_cases h1 : n < 1 ∨ 6 < n
  · have HF : Hid (colsF l = 1) := by
      show _ = _
      unfold colsF
      rw [if_pos (by omega)]
    have HI := Lib.hid (fun w => inp_any w (n : Int) 1 6 false (by simp; omega))
    clear hml HR h1
    go_enter Tryd.func26, Tryd.ntmps26
    go_wp2_with (go_at_call 24; ((with_reducible refine (HI.out _).mono ?_); rintro e w' ⟨rfl, rfl⟩))
    go_ret
    exact ⟨ri HF.out.symm, (Below.refl _ _).alloc (Nat.le_refl _) _⟩
  · have HF : Hid (colsF l = clF [] l) := by
      show _ = _
      unfold colsF
      rw [if_neg (by omega)]
    have HI := Lib.hid (fun w => inp_any w (n : Int) 1 6 true (by simp; omega))
    obtain ⟨b, o, cap', hv, _, _, hbw, hcell⟩ := cols_of HR.out (by omega)
    simp only [Value.slice.injEq] at hv
    obtain ⟨rfl, -, rfl⟩ := hv
    have HC := Lib.hid hcell
    have HN := Lib.hid hml
    have HS := Lib.hid hs
    have HB0 : Hid (Below w.heap.size w (w.alloc (.cells (stC ⟨1, t, l, row, names, cnt, wh, ord, dn, lim, st, to⟩ ⟨some ⟨b, o, none⟩, n, cap, a3, n3, c3, a4, n4, c4, a6, n6, c6, a11, n11, c11⟩) 27))) := (Below.refl _ _).alloc (Nat.le_refl _) _
    have HNEW := Lib.hid (fun w1 hb => (StB.new w ⟨1, t, l, row, names, cnt, wh, ord, dn, lim, st, to⟩ ⟨some ⟨b, o, none⟩, n, cap, a3, n3, c3, a4, n4, c4, a6, n6, c6, a11, n11, c11⟩ (w1 := w1) hb).c2)
    have HI3 := Lib.hid (fun w (x : Int) (q : Bool) (h : (decide (1 ≤ x) && decide (x ≤ 3)) = q) => inp_any w x 1 3 q h)
    obtain ⟨W0, hW0⟩ : ∃ W0, W0 = w.alloc (.cells (stC ⟨1, t, l, row, names, cnt, wh, ord, dn, lim, st, to⟩ ⟨some ⟨b, o, none⟩, n, cap, a3, n3, c3, a4, n4, c4, a6, n6, c6, a11, n11, c11⟩) 27) := ⟨_, rfl⟩
    have HW := Lib.hid hW0
    have hc2 := HNEW.out W0 (by rw [hW0]; exact Below.refl _ _)
    have HB0' : Hid (Below w.heap.size w W0) := by show Below _ _ _; rw [hW0]; exact HB0.out
    have hbw0 : b < W0.heap.size := Nat.lt_of_lt_of_le hbw HB0'.out.size
    have HC0 : Hid (∀ k, k < n → W0.cell? ⟨b, o + k * 2, none⟩ = some (.string (l.getD k ncq).t) ∧ W0.cell? ⟨b, o + k * 2 + 1, none⟩ = some (.int .i64 (l.getD k ncq).k)) := fun k hk => ⟨(HB0'.out.cell (p := ⟨b, o + k * 2, none⟩) hbw).trans (HC.out k hk).1, (HB0'.out.cell (p := ⟨b, o + k * 2 + 1, none⟩) hbw).trans (HC.out k hk).2⟩
    clear hcell hml hs hW0
    go_enter Tryd.func26, Tryd.ntmps26
    go_wp2_with (go_at_call 24; ((with_reducible refine (HI.out _).mono ?_); rintro e w' ⟨rfl, rfl⟩))
    rw [← HW.out]
    go_loopw [3] (fun i wr => ∃ k : Nat, k ≤ n ∧ i = .int .i64 (k : Int) ∧ Hid (clF [] l = clF (l.take k) (l.drop k)) ∧ Hid (Below W0.heap.size W0 wr)) (fun i _ => n - (intOf i).toNat)
    case atStart => exact ⟨0, by omega, rfl, by simp [Hid], Below.refl _ _⟩
    case round =>
      obtain ⟨k, hk, rfl, HE, HB⟩ := hrel
      have x2 := cell_blw HB.out hc2
      by_cases hlt : k < n
      · obtain ⟨g0, g1⟩ := HC0.out k hlt
        have c0 := cell_blw HB.out g0
        have c1 := cell_blw HB.out g1
        have hll : k < l.length := by rw [← HN.out]; exact hlt
        have hsz := HS.out _ (cgetD_mem hll)
        have hdr := cdrop_cons hll
        have htk := ctake_snoc hll
        obtain ⟨u, hu⟩ : ∃ u, u = l.getD k ncq := ⟨_, rfl⟩
        rw [← hu] at c0 c1 hsz hdr htk
        have HUT : Hid ((l.getD k ncq).t = u.t) := by show _ = _; rw [hu]
        clear g0 g1 hu
        obtain ⟨ut, uk⟩ := u
        simp only at c0 c1 hsz HUT
        have hnm := nameFault_any wr ut hsz
        have hE : clF (l.take k) (l.drop k) = if nmF ut.data.toList ≠ 0 then nmF ut.data.toList else if uk < 1 ∨ 3 < uk then 2 else if hasC (l.take k) ut = true then 9 else clF (l.take (k + 1)) (l.drop (k + 1)) := by
          rw [hdr, htk]
          rfl
        obtain ⟨r, hr⟩ : ∃ r, r = nmF ut.data.toList := ⟨_, rfl⟩
        rw [← hr] at hnm hE
        have HNM := Lib.hid hnm
        have HEQ := Lib.hid hE
        have HLL := Lib.hid hll
        clear hnm hE hr hdr htk hll hsz
        go_wp2_with fail
        refine HNM.out.mono ?_
        rintro e w2 ⟨rfl, hb2⟩
        replace x2 := cell_blw hb2 x2
        replace c0 := cell_blw hb2 c0
        replace c1 := cell_blw hb2 c1
        have HB2 := Lib.hid (HB.out.trans (hb2.mono HB.out.size))
        clear hb2 HNM
        by_cases hr0 : r = 0
        · subst hr0
          by_cases hk3 : 1 ≤ uk ∧ uk ≤ 3
          · have hin := HI3.out w2 uk true (by simp; exact hk3)
            have HIN := Lib.hid hin
            have HG : Hid (clF [] l = if hasC (l.take k) ut = true then 9 else clF (l.take (k + 1)) (l.drop (k + 1))) := by
              show _ = _
              rw [HE.out, HEQ.out, if_neg (by simp), if_neg (by omega)]
            clear hin hk3 HEQ HE
            go_wp2_with (go_at_call 24; ((with_reducible refine HIN.out.mono ?_); rintro e w' ⟨rfl, rfl⟩))
            go_loopw [4, 5] (fun e x wk => ∃ j : Nat, j ≤ k ∧ x = .int .i64 (j : Int) ∧ ((e = .int .i64 0 ∧ Hid (∀ q, q < j → (l.getD q ncq).t ≠ ut)) ∨ (e = .int .i64 9 ∧ Hid (hasC (l.take k) ut = true))) ∧ Hid (Below W0.heap.size W0 wk)) (fun _ x _ => k - (intOf x).toNat)
            case atStart => exact ⟨0, by omega, rfl, .inl ⟨rfl, fun q hq => absurd hq (by omega)⟩, HB2.out⟩
            case round =>
              obtain ⟨j, hj, rfl, hor, HBK⟩ := hrel
              rcases hor with ⟨rfl, HA⟩ | ⟨rfl, HA⟩
              · by_cases hjk : j < k
                · have hjn : j < n := by omega
                  have y2 := cell_blw HBK.out hc2
                  have d0 := cell_blw HBK.out (HC0.out j hjn).1
                  have e0 := cell_blw HBK.out (HC0.out k hlt).1
                  obtain ⟨ct, hct⟩ : ∃ ct, ct = (l.getD j ncq).t := ⟨_, rfl⟩
                  obtain ⟨vt, hvt⟩ : ∃ vt, vt = (l.getD k ncq).t := ⟨_, rfl⟩
                  have hvu : vt = ut := by rw [hvt]; exact HUT.out
                  rw [← hct] at d0
                  rw [← hvt, hvu] at e0
                  have HCT := Lib.hid hct
                  clear hct hvt hvu x2 c0 c1
                  by_cases he : ct = ut
                  · subst he
                    go_wp2_with fail
                    go_quiet (fail)
                    go_wp2_with fail
                    go_roundw
                    case rel => exact ⟨j + 1, by omega, by go_num, .inr ⟨rfl, hasC_take_hit (Nat.le_of_lt HLL.out) hjk HCT.out.symm⟩, HBK.out.trans ((below_drewN _ _).mono HBK.out.size)⟩
                    case measure => (simp [intOf]) <;> omega
                  · have hne := st_beq he
                    have HX := Lib.hid he
                    clear he
                    go_wp2_with fail
                    go_quiet (fail)
                    go_wp2_with fail
                    go_roundw
                    case rel =>
                      refine ⟨j + 1, by omega, by go_num, .inl ⟨rfl, fun q hq => ?_⟩, HBK.out.trans ((below_drewN _ _).mono HBK.out.size)⟩
                      rcases Nat.lt_or_ge q j with h | h
                      · exact HA.out q h
                      · obtain rfl : q = j := by omega
                        rw [← HCT.out]
                        exact HX.out
                    case measure => (simp [intOf]) <;> omega
                · obtain rfl : j = k := by omega
                  have HG2 : Hid (clF [] l = clF (l.take (j + 1)) (l.drop (j + 1))) := by
                    show _ = _
                    rw [HG.out, hasC_take_none (Nat.le_of_lt HLL.out) HA.out]
                    rfl
                  go_wp2_with fail
                  go_roundw
                  case rel => exact ⟨j + 1, by omega, by go_num, HG2.out, HBK.out⟩
                  case measure => (simp [intOf]) <;> omega
              · have HG2 : Hid (colsF l = 9) := by
                  show _ = _
                  rw [HF.out, HG.out, HA.out]
                  rfl
                by_cases hjk : j < k
                all_goals (
                  go_wp2_with fail
                  go_ret
                  exact ⟨ri HG2.out.symm, into HB0'.out HBK.out⟩)
          · have hin := HI3.out w2 uk false (by simp; omega)
            have HIN := Lib.hid hin
            have HG : Hid (colsF l = 2) := by
              show _ = _
              rw [HF.out, HE.out, HEQ.out, if_neg (by simp), if_pos (by omega)]
            clear hin hk3 HEQ HE
            go_wp2_with (go_at_call 24; ((with_reducible refine HIN.out.mono ?_); rintro e w' ⟨rfl, rfl⟩))
            go_rounds 1
            all_goals (go_ret; exact ⟨ri HG.out.symm, into HB0'.out HB2.out⟩)
        · have hr0' : (r == 0) = false := by simpa using hr0
          have HG : Hid (colsF l = r) := by
            show _ = _
            rw [HF.out, HE.out, HEQ.out, if_pos hr0]
          clear HEQ HE
          go_wp2_with fail
          go_rounds 1
          all_goals (go_ret; exact ⟨ri HG.out.symm, into HB0'.out HB2.out⟩)
      · obtain rfl : k = n := by omega
        have HG : Hid (colsF l = 0) := by
          show _ = _
          rw [HF.out, HE.out, List.drop_eq_nil_of_le (by rw [← HN.out]; exact Nat.le_refl _)]
          rfl
        go_wp2_with fail
        go_ret
        exact ⟨ri HG.out.symm, into HB0'.out HB.out⟩
theorem whereFault_any (w : World) (n : Nat) (v : Value) (l : List Oq) (hr : Rd w 5 n v (ocs l)) (hs : ∀ o ∈ l, o.t.size ≤ maxLen) :
    Calls Tryd.prog 53 #[v] w fun e w' => e = .returned (.int .i64 (whF l)) ∧ Below w.heap.size w w' := by
  have hml := len_o hr
  have hc := rexpr_any w n v l hr hs
  obtain ⟨_, ao, cap, rfl, _⟩ := hr
  by_cases h0 : n = 0
  · have HF : Hid (whF l = 0) := by
      show _ = _
      unfold whF
      rw [if_pos (by omega)]
    subst h0
    clear hml hc
    go_enter Tryd.func53, Tryd.ntmps53
    go_wp2_with fail
    go_ret
    exact ⟨ri HF.out.symm, Below.refl _ _⟩
  · have HF : Hid (whF l = exprF l) := by
      show _ = _
      unfold whF
      rw [if_neg (by omega)]
    rw [← HF.out] at hc
    have HC := Lib.hid hc
    have hn : ¬ (n : Int) = 0 := by omega
    clear hml hc HF h0
    go_enter Tryd.func53, Tryd.ntmps53
    go_wp2_with fail
    refine HC.out.mono ?_
    rintro e w1 ⟨rfl, hb1⟩
    go_wp2_with fail
    go_ret
    exact ⟨rfl, hb1⟩
theorem part_insert (w : World) (t : ByteArray) (cols : List Cq) (row : List V) (names : List ByteArray) (cnt : Bool) (wh : List Oq) (ord : ByteArray) (dn : Bool) (lim : Int) (st : ByteArray) (to : List Oq) (a2 : Option Addr) (n2 c2 : Nat) (a3 : Option Addr) (n3 c3 : Nat) (a4 : Option Addr) (n4 c4 : Nat) (a6 : Option Addr) (n6 c6 : Nat) (a11 : Option Addr) (n11 c11 : Nat) (hr : Rd w 3 n3 (.slice a3 n3 c3) (vc row)) :
    Calls Tryd.prog 26 #[stV ⟨3, t, cols, row, names, cnt, wh, ord, dn, lim, st, to⟩ ⟨a2, n2, c2, a3, n3, c3, a4, n4, c4, a6, n6, c6, a11, n11, c11⟩] w (fun e w' => e = .returned (.int .i64 (insF row)) ∧ Below w.heap.size w w') := by
  obtain ⟨W0, hW0⟩ : ∃ W0, W0 = w.alloc (.cells (stC ⟨3, t, cols, row, names, cnt, wh, ord, dn, lim, st, to⟩ ⟨a2, n2, c2, a3, n3, c3, a4, n4, c4, a6, n6, c6, a11, n11, c11⟩) 27) := ⟨_, rfl⟩
  have HWE := Lib.hid hW0
  have HNW : Hid (∀ w1, Below W0.heap.size W0 w1 → StB w1 w.heap.size ⟨3, t, cols, row, names, cnt, wh, ord, dn, lim, st, to⟩ ⟨a2, n2, c2, a3, n3, c3, a4, n4, c4, a6, n6, c6, a11, n11, c11⟩) := fun w1 hb => by
    have := StB.new w ⟨3, t, cols, row, names, cnt, wh, ord, dn, lim, st, to⟩ ⟨a2, n2, c2, a3, n3, c3, a4, n4, c4, a6, n6, c6, a11, n11, c11⟩ (w1 := w1)
    rw [← hW0] at this
    exact this hb
  have HB0 : Hid (Below w.heap.size w W0) := by show Below _ _ _; rw [hW0]; exact (Below.refl _ _).alloc (Nat.le_refl _) _
  have HSZ : Hid (w.heap.size < W0.heap.size) := by show _ < _; rw [hW0]; simp
  clear hW0
  have hml := len_v hr
  have hmax := hr.len
  unfold maxLen at hmax
  by_cases h1 : n3 < 1 ∨ 6 < n3
  · have HF : Hid (insF row = 1) := by
      show _ = _
      unfold insF
      rw [if_pos (by omega)]
    have HI := Lib.hid (fun w => inp_any w (n3 : Int) 1 6 false (by simp; omega))
    clear hml h1 hr
    go_enter Tryd.func26, Tryd.ntmps26
    go_wp2_with (go_at_call 24; ((with_reducible refine (HI.out _).mono ?_); rintro e w' ⟨rfl, rfl⟩))
    go_ret
    exact ⟨ri HF.out.symm, (Below.refl _ _).alloc (Nat.le_refl _) _⟩
  · have HF : Hid (insF row = rowL row) := by
      show _ = _
      unfold insF
      rw [if_neg (by omega)]
    have HI := Lib.hid (fun w => inp_any w (n3 : Int) 1 6 true (by simp; omega))
    obtain ⟨_, b, o, cap', hv, _, _, hbw, hcell⟩ := vals_of hr (by omega)
    simp only [Value.slice.injEq] at hv
    obtain ⟨rfl, -, rfl⟩ := hv
    have HC := Lib.hid (fun k (hk : k < n3) => (show _ ∧ _ ∧ _ from ⟨cell_blw HB0.out (hcell k hk).1, cell_blw HB0.out (hcell k hk).2.1, cell_blw HB0.out (hcell k hk).2.2⟩))
    have HN := Lib.hid hml
    obtain ⟨x0, x1, x2, x3, x4, x5, x6, x7, x8, x9, x10, x11⟩ := HNW.out W0 (Below.refl _ _)
    simp only at x3
    have X3 := Lib.hid x3
    clear hcell hml hr x0 x1 x2 x3 x4 x5 x6 x7 x8 x9 x10 x11 hbw
    go_enter Tryd.func26, Tryd.ntmps26
    go_wp2_with (go_at_call 24; ((with_reducible refine (HI.out _).mono ?_); rintro e w' ⟨rfl, rfl⟩))
    rw [← HWE.out]
    go_loopw [6] (fun i wr => ∃ k : Nat, k ≤ n3 ∧ i = .int .i64 (k : Int) ∧ Hid (rowL row = rowL (row.drop k)) ∧ Hid (Below W0.heap.size W0 wr)) (fun i _ => n3 - (intOf i).toNat)
    case atStart => exact ⟨0, by omega, rfl, by simp [Hid], Below.refl _ _⟩
    case round =>
      obtain ⟨k, hk, rfl, HE, HB⟩ := hrel
      have x3 := cell_blw HB.out X3.out
      by_cases hlt : k < n3
      · obtain ⟨g0, g1, g2⟩ := HC.out k hlt
        have c0 := cell_blw HB.out g0
        have c1 := cell_blw HB.out g1
        have c2 := cell_blw HB.out g2
        have hll : k < row.length := by rw [← HN.out]; exact hlt
        have hdr := vdrop_cons hll
        obtain ⟨u, hu⟩ : ∃ u, u = row.getD k nul := ⟨_, rfl⟩
        rw [← hu] at c0 c1 c2 hdr
        clear g0 g1 g2 hu hll
        obtain ⟨uk, un, ut⟩ := u
        simp only at c0 c1 c2
        have hlc := fun W => rlit_any uk un ut W
        have hE : rowL (row.drop k) = if litF uk un ut ≠ 0 then litF uk un ut else rowL (row.drop (k + 1)) := by rw [hdr]; rfl
        obtain ⟨r, hr⟩ : ∃ r, r = litF uk un ut := ⟨_, rfl⟩
        rw [← hr] at hlc hE
        have HL := Lib.hid hlc
        have HEQ := Lib.hid hE
        clear hE hr hdr hlc
        by_cases hr0 : r = 0
        · subst hr0
          go_wp2_with (go_at_call 52; ((with_reducible refine (HL.out _).mono ?_); rintro e w2 ⟨rfl, hb2⟩; have HB2 := Lib.hid (HB.out.trans (hb2.mono HB.out.size)); clear hb2))
          go_roundw
          case rel => exact ⟨k + 1, by omega, by go_num, by show _ = _; rw [HE.out, HEQ.out]; rfl, HB2.out⟩
          case measure => (simp [intOf]) <;> omega
        · have hr0' : (r == 0) = false := by simpa using hr0
          go_wp2_with (go_at_call 52; ((with_reducible refine (HL.out _).mono ?_); rintro e w2 ⟨rfl, hb2⟩; have HB2 := Lib.hid (HB.out.trans (hb2.mono HB.out.size)); clear hb2))
          go_ret
          exact ⟨ri (by rw [HF.out, HE.out, HEQ.out, if_pos hr0]), into HB0.out HB2.out⟩
      · obtain rfl : k = n3 := by omega
        have HG : Hid (insF row = 0) := by
          show _ = _
          rw [HF.out, HE.out, List.drop_eq_nil_of_le (by rw [← HN.out]; exact Nat.le_refl _)]
          rfl
        go_wp2_with fail
        go_ret
        exact ⟨ri HG.out.symm, into HB0.out HB.out⟩
theorem part_select (w : World) (s : Sq) (p : Ps) (hk4 : s.k = 4) (hr : StR w s p) (hz : SqZ s) :
    Calls Tryd.prog 26 #[stV s p] w fun e w' => e = .returned (.int .i64 (selF s)) ∧ Below w.heap.size w w' := by
  obtain ⟨l2, l3, l4, l6, l11⟩ := hr.lens
  have hb0 : Below w.heap.size w (w.alloc (.cells (stC s p) 27)) := (Below.refl _ _).alloc (Nat.le_refl _) _
  have hnew := fun w1 hb => StB.new w s p (w1 := w1) hb
  obtain ⟨k, t, cols, row, names, cnt, wh, ord, dn, lim, st, to⟩ := s
  obtain ⟨a2, n2, c2, a3, n3, c3, a4, n4, c4, a6, n6, c6, a11, n11, c11⟩ := p
  obtain ⟨r2, r3, r4, r6, r11⟩ := hr
  obtain ⟨zt, zo, ze, zc, zr, zn, zh, zx⟩ := hz
  simp only at hk4
  subst hk4
  simp only at l2 l3 l4 l6 l11 r2 r3 r4 r6 r11 zt zo ze zc zr zn zh zx
  have hF : selF ⟨4, t, cols, row, names, cnt, wh, ord, dn, lim, st, to⟩ = if sel0 n4 lim cnt dn ord ≠ 0 then sel0 n4 lim cnt dn ord else f3 (nmsF names) (whF wh) (ordF ord) := by
    unfold selF
    simp only [l4]
  have HF := Lib.hid hF
  have hm4 := r4.len
  unfold maxLen at hm4
  have HW : Hid (∀ W, Below w.heap.size w W → Calls Tryd.prog 53 #[.slice a6 n6 c6] W fun e w' => e = .returned (.int .i64 (whF wh)) ∧ Below W.heap.size W w') := fun W hW => whereFault_any W n6 _ wh (r6.below hW) (fun o ho => (zh o ho).2.2)
  have HO : Hid (∀ W, Below w.heap.size w W → Calls Tryd.prog 25 #[.string ord] W fun e w' => e = .returned (.int .i64 (nmF ord.data.toList)) ∧ Below W.heap.size W w') := fun W hW => nameFault_any W ord zo
  have HN : Hid (∀ x ∈ names, ∀ W, Below w.heap.size w W → Calls Tryd.prog 25 #[.string x] W fun e w' => e = .returned (.int .i64 (nmF x.data.toList)) ∧ Below W.heap.size W w') := fun x hx W hW => nameFault_any W x (zn x hx)
  have HR4 := Lib.hid r4
  have HL4 := Lib.hid l4
  have HB0 := Lib.hid hb0
  have HNEW := Lib.hid hnew
  clear hF l2 l3 l4 l6 l11 r2 r3 r4 r6 r11 zt zo ze zc zr zn zh zx hb0 hnew
  by_cases h6 : 6 < n4
  · have HG : Hid (sel0 n4 lim cnt dn ord = 1) := by
      show _ = _
      unfold sel0
      rw [if_pos h6]
    go_enter Tryd.func26, Tryd.ntmps26
    go_wp2_with fail
    go_ret
    exact ⟨ri (by rw [HF.out, HG.out]; rfl), HB0.out⟩
  by_cases hlim : lim < -1
  · have HG : Hid (sel0 n4 lim cnt dn ord = 3) := by
      show _ = _
      unfold sel0
      rw [if_neg h6, if_pos hlim]
    go_enter Tryd.func26, Tryd.ntmps26
    go_wp2_with fail
    go_ret
    exact ⟨ri (by rw [HF.out, HG.out]; rfl), HB0.out⟩
  obtain ⟨e, he⟩ : ∃ e, e = ord.toList.isEmpty := ⟨_, rfl⟩
  have HE : Hid (em ord = e) := by show _ = _; rw [he]; rfl
  replace he := he.symm
  by_cases hbad : (cnt = true ∧ 0 < n4) ∨ (dn = true ∧ e = true)
  · have HG : Hid (sel0 n4 lim cnt dn ord = 6) := by
      show _ = _
      unfold sel0
      rw [if_neg h6, if_neg hlim, HE.out, if_pos hbad]
    rcases hbad with ⟨rfl, h0⟩ | ⟨rfl, rfl⟩
    · go_enter Tryd.func26, Tryd.ntmps26
      go_wp2_with fail
      all_goals (
        go_ret
        exact ⟨ri (by rw [HF.out, HG.out]; rfl), HB0.out⟩)
    · cases cnt
      · go_enter Tryd.func26, Tryd.ntmps26
        go_wp2_with fail
        all_goals (
          go_ret
          exact ⟨ri (by rw [HF.out, HG.out]; rfl), HB0.out⟩)
      · by_cases h0 : 0 < n4
        · go_enter Tryd.func26, Tryd.ntmps26
          go_wp2_with fail
          all_goals (
            go_ret
            exact ⟨ri (by rw [HF.out, HG.out]; rfl), HB0.out⟩)
        · go_enter Tryd.func26, Tryd.ntmps26
          go_wp2_with fail
          all_goals (
            go_ret
            exact ⟨ri (by rw [HF.out, HG.out]; rfl), HB0.out⟩)
  · have HG : Hid (selF ⟨4, t, cols, row, names, cnt, wh, ord, dn, lim, st, to⟩ = f3 (nmsF names) (whF wh) (ordF ord)) := by
      show _ = _
      rw [HF.out]
      have : sel0 n4 lim cnt dn ord = 0 := by
        unfold sel0
        rw [if_neg h6, if_neg hlim, HE.out, if_neg hbad]
      rw [this]
      simp
    have hc : cnt = false ∨ (cnt = true ∧ n4 = 0) := by
      cases cnt
      · exact .inl rfl
      · refine .inr ⟨rfl, ?_⟩
        by_cases h : 0 < n4
        · exact absurd (.inl ⟨rfl, h⟩) hbad
        · omega
    have hd : dn = false ∨ (dn = true ∧ e = false) := by
      cases dn
      · exact .inl rfl
      · refine .inr ⟨rfl, ?_⟩
        cases e
        · rfl
        · exact absurd (.inr ⟨rfl, rfl⟩) hbad
    clear HF hbad
    obtain ⟨W0, hW0⟩ : ∃ W0, W0 = w.alloc (.cells (stC ⟨4, t, cols, row, names, cnt, wh, ord, dn, lim, st, to⟩ ⟨a2, n2, c2, a3, n3, c3, a4, n4, c4, a6, n6, c6, a11, n11, c11⟩) 27) := ⟨_, rfl⟩
    have HNW : Hid (∀ w1, Below W0.heap.size W0 w1 → StB w1 w.heap.size ⟨4, t, cols, row, names, cnt, wh, ord, dn, lim, st, to⟩ ⟨a2, n2, c2, a3, n3, c3, a4, n4, c4, a6, n6, c6, a11, n11, c11⟩) := fun w1 hb => HNEW.out w1 (by rw [← hW0]; exact hb)
    have HBW : Hid (Below w.heap.size w W0) := by show Below _ _ _; rw [hW0]; exact HB0.out
    have HWE := Lib.hid hW0
    clear hW0 HNEW HB0
    rcases hc with rfl | ⟨rfl, rfl⟩
    · rcases hd with rfl | ⟨rfl, rfl⟩
      · go_enter Tryd.func26, Tryd.ntmps26
        go_wp2_with fail
        rw [← HWE.out]
        go_loopw [8] (fun i wr => ∃ j : Nat, j ≤ n4 ∧ i = .int .i64 (j : Int) ∧ Hid (nmsF names = nmsF (names.drop j)) ∧ Hid (Below W0.heap.size W0 wr)) (fun i _ => n4 - (intOf i).toNat)
        case atStart => exact ⟨0, by omega, rfl, by simp [Hid], Below.refl _ _⟩
        case round =>
          obtain ⟨j, hj, rfl, HX, HB⟩ := hrel
          have z4 := (HNW.out wr HB.out).c4
          simp only at z4
          by_cases hlt : j < n4
          · first
            | omega
            | (obtain ⟨b, o, cap, hv, _, _, hbw, hcell⟩ := HR4.out.pos (by omega) (by omega)
               simp only [Value.slice.injEq] at hv
               obtain ⟨rfl, -, rfl⟩ := hv
               have hll : j < names.length := by rw [← HL4.out]; exact hlt
               have c0 := (HB.out.cell (p := ⟨b, o + j, none⟩) (Nat.lt_of_lt_of_le hbw HBW.out.size)).trans ((HBW.out.cell (p := ⟨b, o + j, none⟩) hbw).trans (hcell _ _ (st_at' hll)))
               have hmem := sgetD_mem hll
               have hdr := sdrop_cons hll
               obtain ⟨x, hx⟩ : ∃ x, x = names.getD j nby := ⟨_, rfl⟩
               rw [← hx] at c0 hmem hdr
               have hc := HN.out x hmem wr (into HBW.out HB.out)
               have hE : nmsF (names.drop j) = if nmF x.data.toList ≠ 0 then nmF x.data.toList else nmsF (names.drop (j + 1)) := by rw [hdr]; rfl
               obtain ⟨r, hr⟩ : ∃ r, r = nmF x.data.toList := ⟨_, rfl⟩
               rw [← hr] at hc hE
               have HC := Lib.hid hc
               have HEQ := Lib.hid hE
               clear hcell hx hmem hdr hc hE hr hll
               by_cases hr0 : r = 0
               · subst hr0
                 go_wp2_with (go_at_call 25; ((with_reducible refine HC.out.mono ?_); rintro e w2 ⟨rfl, hb2⟩; have HB2 := Lib.hid (HB.out.trans (hb2.mono HB.out.size)); clear hb2))
                 go_roundw
                 case rel => exact ⟨j + 1, by omega, by go_num, by show _ = _; rw [HX.out, HEQ.out]; rfl, HB2.out⟩
                 case measure => simp [intOf]; omega
               · have hr0' : (r == 0) = false := by simpa using hr0
                 go_wp2_with (go_at_call 25; ((with_reducible refine HC.out.mono ?_); rintro e w2 ⟨rfl, hb2⟩; have HB2 := Lib.hid (HB.out.trans (hb2.mono HB.out.size)); clear hb2))
                 go_ret
                 refine ⟨ri ?_, into HBW.out HB2.out⟩
                 rw [HG.out, HX.out, HEQ.out]
                 unfold f3
                 rw [if_pos hr0, if_pos hr0])
          · obtain rfl : j = n4 := by omega
            have HQ : Hid (selF ⟨4, t, cols, row, names, false, wh, ord, false, lim, st, to⟩ = if whF wh ≠ 0 then whF wh else ordF ord) := by
              show _ = _
              rw [HG.out, HX.out, List.drop_eq_nil_of_le (by rw [← HL4.out]; exact Nat.le_refl _)]
              rfl
            obtain ⟨x0, x1, x2, x3, x4, x5, x6, x7, x8, x9, x10, x11⟩ := HNW.out wr HB.out
            have hc := HW.out wr (into HBW.out HB.out)
            obtain ⟨r, hr⟩ : ∃ r, r = whF wh := ⟨_, rfl⟩
            rw [← hr] at hc HQ
            have HC := Lib.hid hc
            clear hc hr HX HG
            simp only at x0 x1 x2 x3 x4 x5 x6 x7 x8 x9 x10 x11
            go_wp2_with fail
            refine HC.out.mono ?_
            rintro e2 w2 ⟨rfl, hb2⟩
            have HB2 := Lib.hid (HB.out.trans (hb2.mono HB.out.size))
            clear hb2 x0 x1 x2 x3 x4 x5 x6 x7 x8 x9 x10 x11
            obtain ⟨x0, x1, x2, x3, x4, x5, x6, x7, x8, x9, x10, x11⟩ := HNW.out w2 HB2.out
            simp only at x0 x1 x2 x3 x4 x5 x6 x7 x8 x9 x10 x11
            by_cases hr0 : r = 0
            · subst hr0
              have HO2 := Lib.hid (HO.out w2 (into HBW.out HB2.out))
              cases e
              · have HZ : Hid (ordF ord = nmF ord.data.toList) := by
                  show _ = _
                  unfold ordF
                  rw [HE.out]
                  rfl
                go_wp2_with fail
                refine HO2.out.mono ?_
                rintro e3 w3 ⟨rfl, hb3⟩
                go_wp2_with fail
                go_ret
                exact ⟨ri (by rw [HQ.out, HZ.out]; rfl), into HBW.out (HB2.out.trans (hb3.mono HB2.out.size))⟩
              · have HZ : Hid (ordF ord = 0) := by
                  show _ = _
                  unfold ordF
                  rw [HE.out]
                  rfl
                go_wp2_with fail
                go_ret
                exact ⟨ri (by rw [HQ.out, HZ.out]; rfl), into HBW.out HB2.out⟩
            · have hr0' : (r == 0) = false := by simpa using hr0
              go_wp2_with fail
              go_ret
              exact ⟨ri (by rw [HQ.out, if_pos hr0]), into HBW.out HB2.out⟩
      · go_enter Tryd.func26, Tryd.ntmps26
        go_wp2_with fail
        rw [← HWE.out]
        go_loopw [8] (fun i wr => ∃ j : Nat, j ≤ n4 ∧ i = .int .i64 (j : Int) ∧ Hid (nmsF names = nmsF (names.drop j)) ∧ Hid (Below W0.heap.size W0 wr)) (fun i _ => n4 - (intOf i).toNat)
        case atStart => exact ⟨0, by omega, rfl, by simp [Hid], Below.refl _ _⟩
        case round =>
          obtain ⟨j, hj, rfl, HX, HB⟩ := hrel
          have z4 := (HNW.out wr HB.out).c4
          simp only at z4
          by_cases hlt : j < n4
          · first
            | omega
            | (obtain ⟨b, o, cap, hv, _, _, hbw, hcell⟩ := HR4.out.pos (by omega) (by omega)
               simp only [Value.slice.injEq] at hv
               obtain ⟨rfl, -, rfl⟩ := hv
               have hll : j < names.length := by rw [← HL4.out]; exact hlt
               have c0 := (HB.out.cell (p := ⟨b, o + j, none⟩) (Nat.lt_of_lt_of_le hbw HBW.out.size)).trans ((HBW.out.cell (p := ⟨b, o + j, none⟩) hbw).trans (hcell _ _ (st_at' hll)))
               have hmem := sgetD_mem hll
               have hdr := sdrop_cons hll
               obtain ⟨x, hx⟩ : ∃ x, x = names.getD j nby := ⟨_, rfl⟩
               rw [← hx] at c0 hmem hdr
               have hc := HN.out x hmem wr (into HBW.out HB.out)
               have hE : nmsF (names.drop j) = if nmF x.data.toList ≠ 0 then nmF x.data.toList else nmsF (names.drop (j + 1)) := by rw [hdr]; rfl
               obtain ⟨r, hr⟩ : ∃ r, r = nmF x.data.toList := ⟨_, rfl⟩
               rw [← hr] at hc hE
               have HC := Lib.hid hc
               have HEQ := Lib.hid hE
               clear hcell hx hmem hdr hc hE hr hll
               by_cases hr0 : r = 0
               · subst hr0
                 go_wp2_with (go_at_call 25; ((with_reducible refine HC.out.mono ?_); rintro e w2 ⟨rfl, hb2⟩; have HB2 := Lib.hid (HB.out.trans (hb2.mono HB.out.size)); clear hb2))
                 go_roundw
                 case rel => exact ⟨j + 1, by omega, by go_num, by show _ = _; rw [HX.out, HEQ.out]; rfl, HB2.out⟩
                 case measure => simp [intOf]; omega
               · have hr0' : (r == 0) = false := by simpa using hr0
                 go_wp2_with (go_at_call 25; ((with_reducible refine HC.out.mono ?_); rintro e w2 ⟨rfl, hb2⟩; have HB2 := Lib.hid (HB.out.trans (hb2.mono HB.out.size)); clear hb2))
                 go_ret
                 refine ⟨ri ?_, into HBW.out HB2.out⟩
                 rw [HG.out, HX.out, HEQ.out]
                 unfold f3
                 rw [if_pos hr0, if_pos hr0])
          · obtain rfl : j = n4 := by omega
            have HQ : Hid (selF ⟨4, t, cols, row, names, false, wh, ord, true, lim, st, to⟩ = if whF wh ≠ 0 then whF wh else ordF ord) := by
              show _ = _
              rw [HG.out, HX.out, List.drop_eq_nil_of_le (by rw [← HL4.out]; exact Nat.le_refl _)]
              rfl
            obtain ⟨x0, x1, x2, x3, x4, x5, x6, x7, x8, x9, x10, x11⟩ := HNW.out wr HB.out
            have hc := HW.out wr (into HBW.out HB.out)
            obtain ⟨r, hr⟩ : ∃ r, r = whF wh := ⟨_, rfl⟩
            rw [← hr] at hc HQ
            have HC := Lib.hid hc
            clear hc hr HX HG
            simp only at x0 x1 x2 x3 x4 x5 x6 x7 x8 x9 x10 x11
            go_wp2_with fail
            refine HC.out.mono ?_
            rintro e2 w2 ⟨rfl, hb2⟩
            have HB2 := Lib.hid (HB.out.trans (hb2.mono HB.out.size))
            clear hb2 x0 x1 x2 x3 x4 x5 x6 x7 x8 x9 x10 x11
            obtain ⟨x0, x1, x2, x3, x4, x5, x6, x7, x8, x9, x10, x11⟩ := HNW.out w2 HB2.out
            simp only at x0 x1 x2 x3 x4 x5 x6 x7 x8 x9 x10 x11
            by_cases hr0 : r = 0
            · subst hr0
              have HO2 := Lib.hid (HO.out w2 (into HBW.out HB2.out))
              have HZ : Hid (ordF ord = nmF ord.data.toList) := by
                show _ = _
                unfold ordF
                rw [HE.out]
                rfl
              go_wp2_with fail
              refine HO2.out.mono ?_
              rintro e3 w3 ⟨rfl, hb3⟩
              go_wp2_with fail
              go_ret
              exact ⟨ri (by rw [HQ.out, HZ.out]; rfl), into HBW.out (HB2.out.trans (hb3.mono HB2.out.size))⟩
            · have hr0' : (r == 0) = false := by simpa using hr0
              go_wp2_with fail
              go_ret
              exact ⟨ri (by rw [HQ.out, if_pos hr0]), into HBW.out HB2.out⟩
    · rcases hd with rfl | ⟨rfl, rfl⟩
      · go_enter Tryd.func26, Tryd.ntmps26
        go_wp2_with fail
        rw [← HWE.out]
        go_loopw [8] (fun i wr => ∃ j : Nat, j ≤ 0 ∧ i = .int .i64 (j : Int) ∧ Hid (nmsF names = nmsF (names.drop j)) ∧ Hid (Below W0.heap.size W0 wr)) (fun i _ => 0 - (intOf i).toNat)
        case atStart => exact ⟨0, by omega, rfl, by simp [Hid], Below.refl _ _⟩
        case round =>
          obtain ⟨j, hj, rfl, HX, HB⟩ := hrel
          have z4 := (HNW.out wr HB.out).c4
          simp only at z4
          by_cases hlt : j < 0
          · first
            | omega
            | (obtain ⟨b, o, cap, hv, _, _, hbw, hcell⟩ := HR4.out.pos (by omega) (by omega)
               simp only [Value.slice.injEq] at hv
               obtain ⟨rfl, -, rfl⟩ := hv
               have hll : j < names.length := by rw [← HL4.out]; exact hlt
               have c0 := (HB.out.cell (p := ⟨b, o + j, none⟩) (Nat.lt_of_lt_of_le hbw HBW.out.size)).trans ((HBW.out.cell (p := ⟨b, o + j, none⟩) hbw).trans (hcell _ _ (st_at' hll)))
               have hmem := sgetD_mem hll
               have hdr := sdrop_cons hll
               obtain ⟨x, hx⟩ : ∃ x, x = names.getD j nby := ⟨_, rfl⟩
               rw [← hx] at c0 hmem hdr
               have hc := HN.out x hmem wr (into HBW.out HB.out)
               have hE : nmsF (names.drop j) = if nmF x.data.toList ≠ 0 then nmF x.data.toList else nmsF (names.drop (j + 1)) := by rw [hdr]; rfl
               obtain ⟨r, hr⟩ : ∃ r, r = nmF x.data.toList := ⟨_, rfl⟩
               rw [← hr] at hc hE
               have HC := Lib.hid hc
               have HEQ := Lib.hid hE
               clear hcell hx hmem hdr hc hE hr hll
               by_cases hr0 : r = 0
               · subst hr0
                 go_wp2_with (go_at_call 25; ((with_reducible refine HC.out.mono ?_); rintro e w2 ⟨rfl, hb2⟩; have HB2 := Lib.hid (HB.out.trans (hb2.mono HB.out.size)); clear hb2))
                 go_roundw
                 case rel => exact ⟨j + 1, by omega, by go_num, by show _ = _; rw [HX.out, HEQ.out]; rfl, HB2.out⟩
                 case measure => simp [intOf]; omega
               · have hr0' : (r == 0) = false := by simpa using hr0
                 go_wp2_with (go_at_call 25; ((with_reducible refine HC.out.mono ?_); rintro e w2 ⟨rfl, hb2⟩; have HB2 := Lib.hid (HB.out.trans (hb2.mono HB.out.size)); clear hb2))
                 go_ret
                 refine ⟨ri ?_, into HBW.out HB2.out⟩
                 rw [HG.out, HX.out, HEQ.out]
                 unfold f3
                 rw [if_pos hr0, if_pos hr0])
          · obtain rfl : j = 0 := by omega
            have HQ : Hid (selF ⟨4, t, cols, row, names, true, wh, ord, false, lim, st, to⟩ = if whF wh ≠ 0 then whF wh else ordF ord) := by
              show _ = _
              rw [HG.out, HX.out, List.drop_eq_nil_of_le (by rw [← HL4.out]; exact Nat.le_refl _)]
              rfl
            obtain ⟨x0, x1, x2, x3, x4, x5, x6, x7, x8, x9, x10, x11⟩ := HNW.out wr HB.out
            have hc := HW.out wr (into HBW.out HB.out)
            obtain ⟨r, hr⟩ : ∃ r, r = whF wh := ⟨_, rfl⟩
            rw [← hr] at hc HQ
            have HC := Lib.hid hc
            clear hc hr HX HG
            simp only at x0 x1 x2 x3 x4 x5 x6 x7 x8 x9 x10 x11
            go_wp2_with fail
            refine HC.out.mono ?_
            rintro e2 w2 ⟨rfl, hb2⟩
            have HB2 := Lib.hid (HB.out.trans (hb2.mono HB.out.size))
            clear hb2 x0 x1 x2 x3 x4 x5 x6 x7 x8 x9 x10 x11
            obtain ⟨x0, x1, x2, x3, x4, x5, x6, x7, x8, x9, x10, x11⟩ := HNW.out w2 HB2.out
            simp only at x0 x1 x2 x3 x4 x5 x6 x7 x8 x9 x10 x11
            by_cases hr0 : r = 0
            · subst hr0
              have HO2 := Lib.hid (HO.out w2 (into HBW.out HB2.out))
              cases e
              · have HZ : Hid (ordF ord = nmF ord.data.toList) := by
                  show _ = _
                  unfold ordF
                  rw [HE.out]
                  rfl
                go_wp2_with fail
                refine HO2.out.mono ?_
                rintro e3 w3 ⟨rfl, hb3⟩
                go_wp2_with fail
                go_ret
                exact ⟨ri (by rw [HQ.out, HZ.out]; rfl), into HBW.out (HB2.out.trans (hb3.mono HB2.out.size))⟩
              · have HZ : Hid (ordF ord = 0) := by
                  show _ = _
                  unfold ordF
                  rw [HE.out]
                  rfl
                go_wp2_with fail
                go_ret
                exact ⟨ri (by rw [HQ.out, HZ.out]; rfl), into HBW.out HB2.out⟩
            · have hr0' : (r == 0) = false := by simpa using hr0
              go_wp2_with fail
              go_ret
              exact ⟨ri (by rw [HQ.out, if_pos hr0]), into HBW.out HB2.out⟩
      · go_enter Tryd.func26, Tryd.ntmps26
        go_wp2_with fail
        rw [← HWE.out]
        go_loopw [8] (fun i wr => ∃ j : Nat, j ≤ 0 ∧ i = .int .i64 (j : Int) ∧ Hid (nmsF names = nmsF (names.drop j)) ∧ Hid (Below W0.heap.size W0 wr)) (fun i _ => 0 - (intOf i).toNat)
        case atStart => exact ⟨0, by omega, rfl, by simp [Hid], Below.refl _ _⟩
        case round =>
          obtain ⟨j, hj, rfl, HX, HB⟩ := hrel
          have z4 := (HNW.out wr HB.out).c4
          simp only at z4
          by_cases hlt : j < 0
          · first
            | omega
            | (obtain ⟨b, o, cap, hv, _, _, hbw, hcell⟩ := HR4.out.pos (by omega) (by omega)
               simp only [Value.slice.injEq] at hv
               obtain ⟨rfl, -, rfl⟩ := hv
               have hll : j < names.length := by rw [← HL4.out]; exact hlt
               have c0 := (HB.out.cell (p := ⟨b, o + j, none⟩) (Nat.lt_of_lt_of_le hbw HBW.out.size)).trans ((HBW.out.cell (p := ⟨b, o + j, none⟩) hbw).trans (hcell _ _ (st_at' hll)))
               have hmem := sgetD_mem hll
               have hdr := sdrop_cons hll
               obtain ⟨x, hx⟩ : ∃ x, x = names.getD j nby := ⟨_, rfl⟩
               rw [← hx] at c0 hmem hdr
               have hc := HN.out x hmem wr (into HBW.out HB.out)
               have hE : nmsF (names.drop j) = if nmF x.data.toList ≠ 0 then nmF x.data.toList else nmsF (names.drop (j + 1)) := by rw [hdr]; rfl
               obtain ⟨r, hr⟩ : ∃ r, r = nmF x.data.toList := ⟨_, rfl⟩
               rw [← hr] at hc hE
               have HC := Lib.hid hc
               have HEQ := Lib.hid hE
               clear hcell hx hmem hdr hc hE hr hll
               by_cases hr0 : r = 0
               · subst hr0
                 go_wp2_with (go_at_call 25; ((with_reducible refine HC.out.mono ?_); rintro e w2 ⟨rfl, hb2⟩; have HB2 := Lib.hid (HB.out.trans (hb2.mono HB.out.size)); clear hb2))
                 go_roundw
                 case rel => exact ⟨j + 1, by omega, by go_num, by show _ = _; rw [HX.out, HEQ.out]; rfl, HB2.out⟩
                 case measure => simp [intOf]; omega
               · have hr0' : (r == 0) = false := by simpa using hr0
                 go_wp2_with (go_at_call 25; ((with_reducible refine HC.out.mono ?_); rintro e w2 ⟨rfl, hb2⟩; have HB2 := Lib.hid (HB.out.trans (hb2.mono HB.out.size)); clear hb2))
                 go_ret
                 refine ⟨ri ?_, into HBW.out HB2.out⟩
                 rw [HG.out, HX.out, HEQ.out]
                 unfold f3
                 rw [if_pos hr0, if_pos hr0])
          · obtain rfl : j = 0 := by omega
            have HQ : Hid (selF ⟨4, t, cols, row, names, true, wh, ord, true, lim, st, to⟩ = if whF wh ≠ 0 then whF wh else ordF ord) := by
              show _ = _
              rw [HG.out, HX.out, List.drop_eq_nil_of_le (by rw [← HL4.out]; exact Nat.le_refl _)]
              rfl
            obtain ⟨x0, x1, x2, x3, x4, x5, x6, x7, x8, x9, x10, x11⟩ := HNW.out wr HB.out
            have hc := HW.out wr (into HBW.out HB.out)
            obtain ⟨r, hr⟩ : ∃ r, r = whF wh := ⟨_, rfl⟩
            rw [← hr] at hc HQ
            have HC := Lib.hid hc
            clear hc hr HX HG
            simp only at x0 x1 x2 x3 x4 x5 x6 x7 x8 x9 x10 x11
            go_wp2_with fail
            refine HC.out.mono ?_
            rintro e2 w2 ⟨rfl, hb2⟩
            have HB2 := Lib.hid (HB.out.trans (hb2.mono HB.out.size))
            clear hb2 x0 x1 x2 x3 x4 x5 x6 x7 x8 x9 x10 x11
            obtain ⟨x0, x1, x2, x3, x4, x5, x6, x7, x8, x9, x10, x11⟩ := HNW.out w2 HB2.out
            simp only at x0 x1 x2 x3 x4 x5 x6 x7 x8 x9 x10 x11
            by_cases hr0 : r = 0
            · subst hr0
              have HO2 := Lib.hid (HO.out w2 (into HBW.out HB2.out))
              have HZ : Hid (ordF ord = nmF ord.data.toList) := by
                show _ = _
                unfold ordF
                rw [HE.out]
                rfl
              go_wp2_with fail
              refine HO2.out.mono ?_
              rintro e3 w3 ⟨rfl, hb3⟩
              go_wp2_with fail
              go_ret
              exact ⟨ri (by rw [HQ.out, HZ.out]; rfl), into HBW.out (HB2.out.trans (hb3.mono HB2.out.size))⟩
            · have hr0' : (r == 0) = false := by simpa using hr0
              go_wp2_with fail
              go_ret
              exact ⟨ri (by rw [HQ.out, if_pos hr0]), into HBW.out HB2.out⟩
theorem part_update (w : World) (t : ByteArray) (cols : List Cq) (row : List V) (names : List ByteArray) (cnt : Bool) (wh : List Oq) (ord : ByteArray) (dn : Bool) (lim : Int) (st : ByteArray) (to : List Oq) (a2 : Option Addr) (n2 c2 : Nat) (a3 : Option Addr) (n3 c3 : Nat) (a4 : Option Addr) (n4 c4 : Nat) (a6 : Option Addr) (n6 c6 : Nat) (a11 : Option Addr) (n11 c11 : Nat) (hr6 : Rd w 5 n6 (.slice a6 n6 c6) (ocs wh)) (hr11 : Rd w 5 n11 (.slice a11 n11 c11) (ocs to)) (hz : st.size ≤ maxLen) (hs : ∀ o ∈ wh, o.t.size ≤ maxLen) (hsx : ∀ o ∈ to, o.t.size ≤ maxLen) :
    Calls Tryd.prog 26 #[stV ⟨5, t, cols, row, names, cnt, wh, ord, dn, lim, st, to⟩ ⟨a2, n2, c2, a3, n3, c3, a4, n4, c4, a6, n6, c6, a11, n11, c11⟩] w (fun e w' => e = .returned (.int .i64 (f3 (nmF st.data.toList) (exprF to) (whF wh))) ∧ Below w.heap.size w w') := by
  obtain ⟨W0, hW0⟩ : ∃ W0, W0 = w.alloc (.cells (stC ⟨5, t, cols, row, names, cnt, wh, ord, dn, lim, st, to⟩ ⟨a2, n2, c2, a3, n3, c3, a4, n4, c4, a6, n6, c6, a11, n11, c11⟩) 27) := ⟨_, rfl⟩
  have HWE := Lib.hid hW0
  have HNW : Hid (∀ w1, Below W0.heap.size W0 w1 → StB w1 w.heap.size ⟨5, t, cols, row, names, cnt, wh, ord, dn, lim, st, to⟩ ⟨a2, n2, c2, a3, n3, c3, a4, n4, c4, a6, n6, c6, a11, n11, c11⟩) := fun w1 hb => by
    have := StB.new w ⟨5, t, cols, row, names, cnt, wh, ord, dn, lim, st, to⟩ ⟨a2, n2, c2, a3, n3, c3, a4, n4, c4, a6, n6, c6, a11, n11, c11⟩ (w1 := w1)
    rw [← hW0] at this
    exact this hb
  have HB0 : Hid (Below w.heap.size w W0) := by show Below _ _ _; rw [hW0]; exact (Below.refl _ _).alloc (Nat.le_refl _) _
  have HSZ : Hid (w.heap.size < W0.heap.size) := by show _ < _; rw [hW0]; simp
  clear hW0
  have HN := Lib.hid (fun W => nameFault_any W st hz)
  have HX : Hid (∀ W, Below W0.heap.size W0 W → Calls Tryd.prog 54 #[.slice a11 n11 c11] W fun e w' => e = .returned (.int .i64 (exprF to)) ∧ Below W.heap.size W w') := fun W hW => rexpr_any W n11 _ to (hr11.below (into HB0.out hW)) hsx
  have HW : Hid (∀ W, Below W0.heap.size W0 W → Calls Tryd.prog 53 #[.slice a6 n6 c6] W fun e w' => e = .returned (.int .i64 (whF wh)) ∧ Below W.heap.size W w') := fun W hW => whereFault_any W n6 _ wh (hr6.below (into HB0.out hW)) hs
  obtain ⟨qn, hqn⟩ : ∃ q, q = nmF st.data.toList := ⟨_, rfl⟩
  obtain ⟨qx, hqx⟩ : ∃ q, q = exprF to := ⟨_, rfl⟩
  obtain ⟨qw, hqw⟩ : ∃ q, q = whF wh := ⟨_, rfl⟩
  rw [← hqn] at HN ⊢
  rw [← hqx] at HX ⊢
  rw [← hqw] at HW ⊢
  clear hqn hqx hqw hr6 hr11 hz hs hsx
  have hF : f3 qn qx qw = if qn ≠ 0 then qn else if qx ≠ 0 then qx else qw := rfl
  have HF := Lib.hid hF
  clear hF
  by_cases h1 : qn = 0
  · subst h1
    by_cases h2 : qx = 0
    · subst h2
      go_enter Tryd.func26, Tryd.ntmps26
      go_wp2_with fail
      rw [← HWE.out]
      refine (HN.out _).mono ?_
      rintro e w1 ⟨rfl, hb1⟩
      have HB1 := Lib.hid hb1
      obtain ⟨x0, x1, x2, x3, x4, x5, x6, x7, x8, x9, x10, x11⟩ := HNW.out w1 HB1.out
      simp only at x0 x1 x2 x3 x4 x5 x6 x7 x8 x9 x10 x11
      clear hb1
      go_wp2_with fail
      refine (HX.out _ HB1.out).mono ?_
      rintro e w2 ⟨rfl, hb2⟩
      have HB2 := Lib.hid (HB1.out.trans (hb2.mono HB1.out.size))
      clear hb2 x0 x1 x2 x3 x4 x5 x6 x7 x8 x9 x10 x11
      obtain ⟨x0, x1, x2, x3, x4, x5, x6, x7, x8, x9, x10, x11⟩ := HNW.out w2 HB2.out
      simp only at x0 x1 x2 x3 x4 x5 x6 x7 x8 x9 x10 x11
      go_wp2_with fail
      refine (HW.out _ HB2.out).mono ?_
      rintro e w3 ⟨rfl, hb3⟩
      have HB3 := Lib.hid (HB2.out.trans (hb3.mono HB2.out.size))
      clear hb3 x0 x1 x2 x3 x4 x5 x6 x7 x8 x9 x10 x11
      go_wp2_with fail
      go_ret
      exact ⟨ri (by rw [HF.out]; rfl), into HB0.out HB3.out⟩
    · have h2' : (qx == 0) = false := by simpa using h2
      go_enter Tryd.func26, Tryd.ntmps26
      go_wp2_with fail
      rw [← HWE.out]
      refine (HN.out _).mono ?_
      rintro e w1 ⟨rfl, hb1⟩
      have HB1 := Lib.hid hb1
      obtain ⟨x0, x1, x2, x3, x4, x5, x6, x7, x8, x9, x10, x11⟩ := HNW.out w1 HB1.out
      simp only at x0 x1 x2 x3 x4 x5 x6 x7 x8 x9 x10 x11
      clear hb1
      go_wp2_with fail
      refine (HX.out _ HB1.out).mono ?_
      rintro e w2 ⟨rfl, hb2⟩
      have HB2 := Lib.hid (HB1.out.trans (hb2.mono HB1.out.size))
      clear hb2 x0 x1 x2 x3 x4 x5 x6 x7 x8 x9 x10 x11
      go_wp2_with fail
      go_ret
      exact ⟨ri (by rw [HF.out, if_neg (by simp), if_pos h2]), into HB0.out HB2.out⟩
  · have h1' : (qn == 0) = false := by simpa using h1
    go_enter Tryd.func26, Tryd.ntmps26
    go_wp2_with fail
    rw [← HWE.out]
    refine (HN.out _).mono ?_
    rintro e w1 ⟨rfl, hb1⟩
    have HB1 := Lib.hid hb1
    clear hb1
    go_wp2_with fail
    go_ret
    exact ⟨ri (by rw [HF.out, if_pos h1]), into HB0.out HB1.out⟩
theorem part_delete (w : World) (t : ByteArray) (cols : List Cq) (row : List V) (names : List ByteArray) (cnt : Bool) (wh : List Oq) (ord : ByteArray) (dn : Bool) (lim : Int) (st : ByteArray) (to : List Oq) (a2 : Option Addr) (n2 c2 : Nat) (a3 : Option Addr) (n3 c3 : Nat) (a4 : Option Addr) (n4 c4 : Nat) (a6 : Option Addr) (n6 c6 : Nat) (a11 : Option Addr) (n11 c11 : Nat) (hr6 : Rd w 5 n6 (.slice a6 n6 c6) (ocs wh)) (hs : ∀ o ∈ wh, o.t.size ≤ maxLen) :
    Calls Tryd.prog 26 #[stV ⟨6, t, cols, row, names, cnt, wh, ord, dn, lim, st, to⟩ ⟨a2, n2, c2, a3, n3, c3, a4, n4, c4, a6, n6, c6, a11, n11, c11⟩] w (fun e w' => e = .returned (.int .i64 (whF wh)) ∧ Below w.heap.size w w') := by
  obtain ⟨W0, hW0⟩ : ∃ W0, W0 = w.alloc (.cells (stC ⟨6, t, cols, row, names, cnt, wh, ord, dn, lim, st, to⟩ ⟨a2, n2, c2, a3, n3, c3, a4, n4, c4, a6, n6, c6, a11, n11, c11⟩) 27) := ⟨_, rfl⟩
  have HWE := Lib.hid hW0
  have HNW : Hid (∀ w1, Below W0.heap.size W0 w1 → StB w1 w.heap.size ⟨6, t, cols, row, names, cnt, wh, ord, dn, lim, st, to⟩ ⟨a2, n2, c2, a3, n3, c3, a4, n4, c4, a6, n6, c6, a11, n11, c11⟩) := fun w1 hb => by
    have := StB.new w ⟨6, t, cols, row, names, cnt, wh, ord, dn, lim, st, to⟩ ⟨a2, n2, c2, a3, n3, c3, a4, n4, c4, a6, n6, c6, a11, n11, c11⟩ (w1 := w1)
    rw [← hW0] at this
    exact this hb
  have HB0 : Hid (Below w.heap.size w W0) := by show Below _ _ _; rw [hW0]; exact (Below.refl _ _).alloc (Nat.le_refl _) _
  have HSZ : Hid (w.heap.size < W0.heap.size) := by show _ < _; rw [hW0]; simp
  clear hW0
  have HW := Lib.hid (whereFault_any W0 n6 _ wh (hr6.below HB0.out) hs)
  clear hr6 hs
  go_enter Tryd.func26, Tryd.ntmps26
  go_wp2_with fail
  rw [← HWE.out]
  refine HW.out.mono ?_
  rintro e w1 ⟨rfl, hb1⟩
  have HB1 := Lib.hid hb1
  clear hb1
  go_wp2_with fail
  go_ret
  exact ⟨rfl, into HB0.out HB1.out⟩
theorem dparts_any (w : World) (s : Sq) (p : Ps) (hr : StR w s p) (hz : SqZ s) :
    Calls Tryd.prog 26 #[stV s p] w fun e w' => e = .returned (.int .i64 (partsF s)) ∧ Below w.heap.size w w' := by
  by_cases k4 : s.k = 4
  · have : partsF s = selF s := by
      unfold partsF
      rw [if_neg (by omega), if_neg (by omega), if_pos k4]
    rw [this]
    exact part_select w s p k4 hr hz
  obtain ⟨k, t, cols, row, names, cnt, wh, ord, dn, lim, st, to⟩ := s
  obtain ⟨a2, n2, c2, a3, n3, c3, a4, n4, c4, a6, n6, c6, a11, n11, c11⟩ := p
  obtain ⟨r2, r3, r4, r6, r11⟩ := hr
  obtain ⟨zt, zo, ze, zc, zr, zn, zh, zx⟩ := hz
  simp only at k4 r2 r3 r4 r6 r11 zt zo ze zc zr zn zh zx
  by_cases k1 : k = 1
  · subst k1
    exact part_create w t a2 n2 c2 cols r2 zc row names cnt wh ord dn lim st to a3 n3 c3 a4 n4 c4 a6 n6 c6 a11 n11 c11
  by_cases k3 : k = 3
  · subst k3
    exact part_insert w t cols row names cnt wh ord dn lim st to a2 n2 c2 a3 n3 c3 a4 n4 c4 a6 n6 c6 a11 n11 c11 r3
  by_cases k5 : k = 5
  · subst k5
    exact part_update w t cols row names cnt wh ord dn lim st to a2 n2 c2 a3 n3 c3 a4 n4 c4 a6 n6 c6 a11 n11 c11 r6 r11 ze (fun o ho => (zh o ho).2.2) (fun o ho => (zx o ho).2.2)
  by_cases k6 : k = 6
  · subst k6
    exact part_delete w t cols row names cnt wh ord dn lim st to a2 n2 c2 a3 n3 c3 a4 n4 c4 a6 n6 c6 a11 n11 c11 r6 (fun o ho => (zh o ho).2.2)
  have hF : partsF ⟨k, t, cols, row, names, cnt, wh, ord, dn, lim, st, to⟩ = 0 := by
    unfold partsF
    rw [if_neg k1, if_neg k3, if_neg k4, if_neg k5, if_neg k6]
  rw [hF]
  have e1 : (k == 1) = false := by simpa using k1
  have e3 : (k == 3) = false := by simpa using k3
  have e4 : (k == 4) = false := by simpa using k4
  have e5 : (k == 5) = false := by simpa using k5
  have e6 : (k == 6) = false := by simpa using k6
  clear hF r2 r3 r4 r6 r11 zt zo ze zc zr zn zh zx
  go_enter Tryd.func26, Tryd.ntmps26
  go_wp2_with fail
  go_ret
  exact ⟨rfl, (Below.refl _ _).alloc (Nat.le_refl _) _⟩
end Go.Proofs.YtnheepkmaibofaaDoor.cs
/- The ops of an expression shown one by one: the region that draws its order. -/
namespace Go.Proofs.YtnheepkmaibofaaDoor.cs
open Go.ChangeShapes Go.WideShapes Go.ChangeAt Go.RowKit
set_option linter.unusedVariables false
set_option linter.unusedSimpArgs false
set_option maxHeartbeats 4000000
set_option maxRecDepth 1000000
theorem Tryd.info32 : (Tryd.prog.info? 32).map (fun i => (i.zero, i.size, i.bytes)) = some (some (.slice none 0 0), 1, 24) := by kernel_rfl
theorem tt_ne : 32 ≠ 39 := by decide
theorem r6A (Q : Exit → Act → World → Prop) (c0 c1 c2 c4 c7 c8 c9 c10 c11 c12 c13 c14 c15 c16 c17 c18 c19 c20 c21 c22 c23 c24 c25 c26 c27 c28 c29 c30 c31 c32 c33 : Value) (w0 : World) (P B : Nat) (hP : P < w0.heap.size) (hB : B ≤ w0.heap.size) (xk vk vn : Int) (vt xt : ByteArray) (ys : List Value) (L : List Tk) (hn : 0 ≤ 1000)
    (p0 : w0.cell? ⟨P, 0, none⟩ = some (.int .i64 xk)) (p1 : w0.cell? ⟨P, 1, none⟩ = some (.int .i64 vk)) (p2 : w0.cell? ⟨P, 2, none⟩ = some (.int .i64 vn)) (p3 : w0.cell? ⟨P, 3, none⟩ = some (.string vt)) (p4 : w0.cell? ⟨P, 4, none⟩ = some (.string xt))
    (hne : ∀ k, Value.ownBlock (.slice none 0 0) = some k → k ≠ P) (hown : Hid (w0.ownsRow B 32 1 (.slice none 0 0) 0 ys))
    (HSO : Hid (∀ W, Below w0.heap.size w0 W → ∀ on, Calls Tryd.prog 77 #[.agg #[.int .i64 xk, .int .i64 vk, .int .i64 vn, .string vt, .string xt], on] W (ToksIs L W)))
    (hout : Hid (∀ (u20 u21 u22 u23 u24 u25 u26 u27 u28 u29 : Value) (x : Sv) (gg cap1 : Nat) (wz : World), Rk B wz x L → wz.ownsRow B 32 1 (.slice (some ⟨gg, 0, none⟩) (0 + 1) cap1) (0 + 1) (ys ++ [svv x]) → Below B w0 wz → (∀ s l, Rk B w0 s l → Rk B wz s l) → Q .normal ⟨List.toArray (c0 :: c1 :: c2 :: (.slice (some ⟨gg, 0, none⟩) (0 + 1) cap1) :: c4 :: (.pointer (some ⟨P, 0, none⟩)) :: (.int .i64 0) :: c7 :: c8 :: c9 :: c10 :: c11 :: c12 :: c13 :: c14 :: c15 :: c16 :: c17 :: c18 :: c19 :: u20 :: u21 :: u22 :: u23 :: u24 :: u25 :: u26 :: u27 :: u28 :: u29 :: c30 :: c31 :: c32 :: c33 :: []), []⟩ wz)) :
    Code.wp Tryd.prog ((regionOf 6 (Tryd.f48.body.getD .skip)).getD .skip) Q ⟨List.toArray (c0 :: c1 :: c2 :: (.slice none 0 0) :: c4 :: (.pointer (some ⟨P, 0, none⟩)) :: (.int .i64 0) :: c7 :: c8 :: c9 :: c10 :: c11 :: c12 :: c13 :: c14 :: c15 :: c16 :: c17 :: c18 :: c19 :: c20 :: c21 :: c22 :: c23 :: c24 :: c25 :: c26 :: c27 :: c28 :: c29 :: c30 :: c31 :: c32 :: c33 :: []), []⟩ w0 := by
  refine Code.wp_mono (Q := NQ Q) nq_to ?_
  conv => arg 2; whnf
  have hB0 : Below w0.heap.size w0 w0 := Below.refl _ _
  obtain ⟨i9, hi0, hz0, hz1, hz2⟩ := info_parts Tryd.info32
  go_region_held3 (fun wx => wx.cell? ⟨P, 0, none⟩ = some (.int .i64 xk) ∧ wx.cell? ⟨P, 1, none⟩ = some (.int .i64 vk) ∧ wx.cell? ⟨P, 2, none⟩ = some (.int .i64 vn) ∧ wx.cell? ⟨P, 3, none⟩ = some (.string vt) ∧ wx.cell? ⟨P, 4, none⟩ = some (.string xt))
    ((refine ⟨?_, ?_, ?_, ?_, ?_⟩ <;> (repeat' (first | (with_reducible assumption) | (with_reducible refine cell_dr ?_) | (with_reducible refine cell_al _ ?_) | (with_reducible refine cell_of_below hbA ?_) | (refine cell_blk (hgrow.block P (by simp; omega) (fun e => hne _ e.symm rfl)) ?_)))))
    ((first
      | (go_at_call 77; (with_reducible refine (HSO.out _ (by go_grown) _).mono ?_); rintro e wA ⟨vA, rfl, hownA, hbA⟩; obtain ⟨aA, qA, rfl⟩ := own_shape hownA; have hBA : Below w0.heap.size w0 wA := into (by go_grown) hbA; have hzA := hBA.size; have hrA : Rk B wA ⟨aA, L.length, qA⟩ L := Rk.own hownA (by simp; try omega); have hownB := (own_below hown.out hBA).alloc (.cells #[.slice aA L.length qA] 32))
      | (refine step_append_lies _ (by rfl) _ _ _ (by rfl) B 32 i9 _ 1 24 Tryd.underlying81 hi0 hz0 hz1 hz2 rfl (by omega) (.slice none 0 0) 0 ys (by rfl) hownB ⟨wA.heap.size, 0, none⟩ 1 1 [.slice aA L.length qA] (by rfl) (by rfl) (new_cells wA _ _) (by intro u hu; simp at hu; rcases hu with rfl; rfl) (by omega) (by unfold maxLen; omega) (by omega) (by simp; omega) (wA.heap.size + 1) (by simp) ?_; intro gg cap1 w4 hown4 hgrow hat4 hlt4; have hgg := (Below.refl B _).grown hgrow (by simp; omega) (own_ge hownB); have hb4 : Below B w0 w4 := Below.trans (Below.mono (show Below w0.heap.size w0 _ from hBA.alloc (by omega) _) hB) hgg)))
  all_goals exact hout.out _ _ _ _ _ _ _ _ _ _ ⟨aA, L.length, qA⟩ gg cap1 w4 ((hrA.below ((Below.refl _ _).alloc (Nat.le_refl _) _)).grown hownB hgrow tt_ne) hown4 hb4 (fun s l h => ((h.below hBA).below ((Below.refl _ _).alloc (Nat.le_refl _) _)).grown hownB hgrow tt_ne)
theorem r6B (Q : Exit → Act → World → Prop) (c0 c1 c2 c4 c7 c8 c9 c10 c11 c12 c13 c14 c15 c16 c17 c18 c19 c20 c21 c22 c23 c24 c25 c26 c27 c28 c29 c30 c31 c32 c33 : Value) (w0 : World) (P B : Nat) (g q : Nat) (hP : P < w0.heap.size) (hB : B ≤ w0.heap.size) (xk vk vn : Int) (vt xt : ByteArray) (ys : List Value) (L : List Tk) (hn : q ≤ 1000)
    (p0 : w0.cell? ⟨P, 0, none⟩ = some (.int .i64 xk)) (p1 : w0.cell? ⟨P, 1, none⟩ = some (.int .i64 vk)) (p2 : w0.cell? ⟨P, 2, none⟩ = some (.int .i64 vn)) (p3 : w0.cell? ⟨P, 3, none⟩ = some (.string vt)) (p4 : w0.cell? ⟨P, 4, none⟩ = some (.string xt))
    (hne : ∀ k, Value.ownBlock (.slice (some ⟨g, 0, none⟩) q q) = some k → k ≠ P) (hown : Hid (w0.ownsRow B 32 1 (.slice (some ⟨g, 0, none⟩) q q) q ys))
    (HSO : Hid (∀ W, Below w0.heap.size w0 W → ∀ on, Calls Tryd.prog 77 #[.agg #[.int .i64 xk, .int .i64 vk, .int .i64 vn, .string vt, .string xt], on] W (ToksIs L W)))
    (hout : Hid (∀ (u20 u21 u22 u23 u24 u25 u26 u27 u28 u29 : Value) (x : Sv) (gg cap1 : Nat) (wz : World), Rk B wz x L → wz.ownsRow B 32 1 (.slice (some ⟨gg, 0, none⟩) (q + 1) cap1) (q + 1) (ys ++ [svv x]) → Below B w0 wz → (∀ s l, Rk B w0 s l → Rk B wz s l) → Q .normal ⟨List.toArray (c0 :: c1 :: c2 :: (.slice (some ⟨gg, 0, none⟩) (q + 1) cap1) :: c4 :: (.pointer (some ⟨P, 0, none⟩)) :: (.int .i64 (q : Int)) :: c7 :: c8 :: c9 :: c10 :: c11 :: c12 :: c13 :: c14 :: c15 :: c16 :: c17 :: c18 :: c19 :: u20 :: u21 :: u22 :: u23 :: u24 :: u25 :: u26 :: u27 :: u28 :: u29 :: c30 :: c31 :: c32 :: c33 :: []), []⟩ wz)) :
    Code.wp Tryd.prog ((regionOf 6 (Tryd.f48.body.getD .skip)).getD .skip) Q ⟨List.toArray (c0 :: c1 :: c2 :: (.slice (some ⟨g, 0, none⟩) q q) :: c4 :: (.pointer (some ⟨P, 0, none⟩)) :: (.int .i64 (q : Int)) :: c7 :: c8 :: c9 :: c10 :: c11 :: c12 :: c13 :: c14 :: c15 :: c16 :: c17 :: c18 :: c19 :: c20 :: c21 :: c22 :: c23 :: c24 :: c25 :: c26 :: c27 :: c28 :: c29 :: c30 :: c31 :: c32 :: c33 :: []), []⟩ w0 := by
  refine Code.wp_mono (Q := NQ Q) nq_to ?_
  conv => arg 2; whnf
  have hB0 : Below w0.heap.size w0 w0 := Below.refl _ _
  obtain ⟨i9, hi0, hz0, hz1, hz2⟩ := info_parts Tryd.info32
  go_region_held3 (fun wx => wx.cell? ⟨P, 0, none⟩ = some (.int .i64 xk) ∧ wx.cell? ⟨P, 1, none⟩ = some (.int .i64 vk) ∧ wx.cell? ⟨P, 2, none⟩ = some (.int .i64 vn) ∧ wx.cell? ⟨P, 3, none⟩ = some (.string vt) ∧ wx.cell? ⟨P, 4, none⟩ = some (.string xt))
    ((refine ⟨?_, ?_, ?_, ?_, ?_⟩ <;> (repeat' (first | (with_reducible assumption) | (with_reducible refine cell_dr ?_) | (with_reducible refine cell_al _ ?_) | (with_reducible refine cell_of_below hbA ?_) | (refine cell_blk (hgrow.block P (by simp; omega) (fun e => hne _ e.symm rfl)) ?_)))))
    ((first
      | (go_at_call 77; (with_reducible refine (HSO.out _ (by go_grown) _).mono ?_); rintro e wA ⟨vA, rfl, hownA, hbA⟩; obtain ⟨aA, qA, rfl⟩ := own_shape hownA; have hBA : Below w0.heap.size w0 wA := into (by go_grown) hbA; have hzA := hBA.size; have hrA : Rk B wA ⟨aA, L.length, qA⟩ L := Rk.own hownA (by simp; try omega); have hownB := (own_below hown.out hBA).alloc (.cells #[.slice aA L.length qA] 32))
      | (refine step_append_lies _ (by rfl) _ _ _ (by rfl) B 32 i9 _ 1 24 Tryd.underlying81 hi0 hz0 hz1 hz2 rfl (by omega) (.slice (some ⟨g, 0, none⟩) q q) q ys (by rfl) hownB ⟨wA.heap.size, 0, none⟩ 1 1 [.slice aA L.length qA] (by rfl) (by rfl) (new_cells wA _ _) (by intro u hu; simp at hu; rcases hu with rfl; rfl) (by omega) (by unfold maxLen; omega) (by omega) (by simp; omega) (wA.heap.size + 1) (by simp) ?_; intro gg cap1 w4 hown4 hgrow hat4 hlt4; have hgg := (Below.refl B _).grown hgrow (by simp; omega) (own_ge hownB); have hb4 : Below B w0 w4 := Below.trans (Below.mono (show Below w0.heap.size w0 _ from hBA.alloc (by omega) _) hB) hgg)))
  all_goals exact hout.out _ _ _ _ _ _ _ _ _ _ ⟨aA, L.length, qA⟩ gg cap1 w4 ((hrA.below ((Below.refl _ _).alloc (Nat.le_refl _) _)).grown hownB hgrow tt_ne) hown4 hb4 (fun s l h => ((h.below hBA).below ((Below.refl _ _).alloc (Nat.le_refl _) _)).grown hownB hgrow tt_ne)
theorem r6C (Q : Exit → Act → World → Prop) (c0 c1 c2 c4 c7 c8 c9 c10 c11 c12 c13 c14 c15 c16 c17 c18 c19 c20 c21 c22 c23 c24 c25 c26 c27 c28 c29 c30 c31 c32 c33 : Value) (w0 : World) (P B : Nat) (g q cp : Nat) (h1 : (q : Int) ≤ (cp : Int)) (h2 : ¬ q = cp) (h3 : ¬ cp = q) (h4 : (0 : Int) ≤ (q : Int)) (h5 : q < cp) (hP : P < w0.heap.size) (hB : B ≤ w0.heap.size) (xk vk vn : Int) (vt xt : ByteArray) (ys : List Value) (L : List Tk) (hn : q ≤ 1000)
    (p0 : w0.cell? ⟨P, 0, none⟩ = some (.int .i64 xk)) (p1 : w0.cell? ⟨P, 1, none⟩ = some (.int .i64 vk)) (p2 : w0.cell? ⟨P, 2, none⟩ = some (.int .i64 vn)) (p3 : w0.cell? ⟨P, 3, none⟩ = some (.string vt)) (p4 : w0.cell? ⟨P, 4, none⟩ = some (.string xt))
    (hne : ∀ k, Value.ownBlock (.slice (some ⟨g, 0, none⟩) q cp) = some k → k ≠ P) (hown : Hid (w0.ownsRow B 32 1 (.slice (some ⟨g, 0, none⟩) q cp) q ys))
    (HSO : Hid (∀ W, Below w0.heap.size w0 W → ∀ on, Calls Tryd.prog 77 #[.agg #[.int .i64 xk, .int .i64 vk, .int .i64 vn, .string vt, .string xt], on] W (ToksIs L W)))
    (hout : Hid (∀ (u20 u21 u22 u23 u24 u25 u26 u27 u28 u29 : Value) (x : Sv) (gg cap1 : Nat) (wz : World), Rk B wz x L → wz.ownsRow B 32 1 (.slice (some ⟨gg, 0, none⟩) (q + 1) cap1) (q + 1) (ys ++ [svv x]) → Below B w0 wz → (∀ s l, Rk B w0 s l → Rk B wz s l) → Q .normal ⟨List.toArray (c0 :: c1 :: c2 :: (.slice (some ⟨gg, 0, none⟩) (q + 1) cap1) :: c4 :: (.pointer (some ⟨P, 0, none⟩)) :: (.int .i64 (q : Int)) :: c7 :: c8 :: c9 :: c10 :: c11 :: c12 :: c13 :: c14 :: c15 :: c16 :: c17 :: c18 :: c19 :: u20 :: u21 :: u22 :: u23 :: u24 :: u25 :: u26 :: u27 :: u28 :: u29 :: c30 :: c31 :: c32 :: c33 :: []), []⟩ wz)) :
    Code.wp Tryd.prog ((regionOf 6 (Tryd.f48.body.getD .skip)).getD .skip) Q ⟨List.toArray (c0 :: c1 :: c2 :: (.slice (some ⟨g, 0, none⟩) q cp) :: c4 :: (.pointer (some ⟨P, 0, none⟩)) :: (.int .i64 (q : Int)) :: c7 :: c8 :: c9 :: c10 :: c11 :: c12 :: c13 :: c14 :: c15 :: c16 :: c17 :: c18 :: c19 :: c20 :: c21 :: c22 :: c23 :: c24 :: c25 :: c26 :: c27 :: c28 :: c29 :: c30 :: c31 :: c32 :: c33 :: []), []⟩ w0 := by
  refine Code.wp_mono (Q := NQ Q) nq_to ?_
  conv => arg 2; whnf
  have hB0 : Below w0.heap.size w0 w0 := Below.refl _ _
  obtain ⟨i9, hi0, hz0, hz1, hz2⟩ := info_parts Tryd.info32
  go_region_held3 (fun wx => wx.cell? ⟨P, 0, none⟩ = some (.int .i64 xk) ∧ wx.cell? ⟨P, 1, none⟩ = some (.int .i64 vk) ∧ wx.cell? ⟨P, 2, none⟩ = some (.int .i64 vn) ∧ wx.cell? ⟨P, 3, none⟩ = some (.string vt) ∧ wx.cell? ⟨P, 4, none⟩ = some (.string xt))
    ((refine ⟨?_, ?_, ?_, ?_, ?_⟩ <;> (repeat' (first | (with_reducible assumption) | (with_reducible refine cell_dr ?_) | (with_reducible refine cell_al _ ?_) | (with_reducible refine cell_of_below hbA ?_) | (refine cell_blk (hgrow.block P (by simp; omega) (fun e => hne _ e.symm rfl)) ?_)))))
    ((first
      | (go_at_call 77; (with_reducible refine (HSO.out _ (by go_grown) _).mono ?_); rintro e wA ⟨vA, rfl, hownA, hbA⟩; obtain ⟨aA, qA, rfl⟩ := own_shape hownA; have hBA : Below w0.heap.size w0 wA := into (by go_grown) hbA; have hzA := hBA.size; have hrA : Rk B wA ⟨aA, L.length, qA⟩ L := Rk.own hownA (by simp; try omega); have hownB := (own_below hown.out hBA).alloc (.cells #[.slice aA L.length qA] 32))
      | (refine step_append_lies _ (by rfl) _ _ _ (by rfl) B 32 i9 _ 1 24 Tryd.underlying81 hi0 hz0 hz1 hz2 rfl (by omega) (.slice (some ⟨g, 0, none⟩) q cp) q ys (by rfl) hownB ⟨wA.heap.size, 0, none⟩ 1 1 [.slice aA L.length qA] (by rfl) (by rfl) (new_cells wA _ _) (by intro u hu; simp at hu; rcases hu with rfl; rfl) (by omega) (by unfold maxLen; omega) (by omega) (by simp; omega) (wA.heap.size + 1) (by simp) ?_; intro gg cap1 w4 hown4 hgrow hat4 hlt4; have hgg := (Below.refl B _).grown hgrow (by simp; omega) (own_ge hownB); have hb4 : Below B w0 w4 := Below.trans (Below.mono (show Below w0.heap.size w0 _ from hBA.alloc (by omega) _) hB) hgg)))
  all_goals exact hout.out _ _ _ _ _ _ _ _ _ _ ⟨aA, L.length, qA⟩ gg cap1 w4 ((hrA.below ((Below.refl _ _).alloc (Nat.le_refl _) _)).grown hownB hgrow tt_ne) hown4 hb4 (fun s l h => ((h.below hBA).below ((Below.refl _ _).alloc (Nat.le_refl _) _)).grown hownB hgrow tt_ne)
theorem r6D (Q : Exit → Act → World → Prop) (c0 c1 c2 c4 c7 c8 c9 c10 c11 c12 c13 c14 c15 c16 c17 c18 c19 c20 c21 c22 c23 c24 c25 c26 c27 c28 c29 c30 c31 c32 c33 : Value) (w0 : World) (P B : Nat) (g q p cp r : Nat) (h1 : (q : Int) ≤ (cp : Int)) (h2 : ¬ p = cp) (h3 : ¬ cp = p) (h4 : (0 : Int) ≤ (p : Int)) (h5 : (p : Int) ≤ (q : Int)) (h6 : (p : Int) ≤ (cp : Int)) (h7 : q - p = r) (hP : P < w0.heap.size) (hB : B ≤ w0.heap.size) (xk vk vn : Int) (vt xt : ByteArray) (ys : List Value) (L : List Tk) (hn : p ≤ 1000)
    (p0 : w0.cell? ⟨P, 0, none⟩ = some (.int .i64 xk)) (p1 : w0.cell? ⟨P, 1, none⟩ = some (.int .i64 vk)) (p2 : w0.cell? ⟨P, 2, none⟩ = some (.int .i64 vn)) (p3 : w0.cell? ⟨P, 3, none⟩ = some (.string vt)) (p4 : w0.cell? ⟨P, 4, none⟩ = some (.string xt))
    (hne : ∀ k, Value.ownBlock (.slice (some ⟨g, 0, none⟩) p cp) = some k → k ≠ P) (hown : Hid (w0.ownsRow B 32 1 (.slice (some ⟨g, 0, none⟩) p cp) p ys))
    (HSO : Hid (∀ W, Below w0.heap.size w0 W → Calls Tryd.prog 77 #[.agg #[.int .i64 xk, .int .i64 vk, .int .i64 vn, .string vt, .string xt], .slice (some ⟨g, p, none⟩) r (cp - p)] W (ToksIs L W)))
    (hout : Hid (∀ (u20 u21 u22 u23 u24 u25 u26 u27 u28 u29 : Value) (x : Sv) (gg cap1 : Nat) (wz : World), Rk B wz x L → wz.ownsRow B 32 1 (.slice (some ⟨gg, 0, none⟩) (p + 1) cap1) (p + 1) (ys ++ [svv x]) → Below B w0 wz → (∀ s l, Rk B w0 s l → Rk B wz s l) → Q .normal ⟨List.toArray (c0 :: c1 :: c2 :: (.slice (some ⟨gg, 0, none⟩) (p + 1) cap1) :: c4 :: (.pointer (some ⟨P, 0, none⟩)) :: (.int .i64 (p : Int)) :: c7 :: c8 :: c9 :: c10 :: c11 :: c12 :: c13 :: c14 :: c15 :: c16 :: c17 :: c18 :: c19 :: u20 :: u21 :: u22 :: u23 :: u24 :: u25 :: u26 :: u27 :: u28 :: u29 :: c30 :: c31 :: c32 :: c33 :: []), []⟩ wz)) :
    Code.wp Tryd.prog ((regionOf 6 (Tryd.f48.body.getD .skip)).getD .skip) Q ⟨List.toArray (c0 :: c1 :: c2 :: (.slice (some ⟨g, 0, none⟩) q cp) :: c4 :: (.pointer (some ⟨P, 0, none⟩)) :: (.int .i64 (p : Int)) :: c7 :: c8 :: c9 :: c10 :: c11 :: c12 :: c13 :: c14 :: c15 :: c16 :: c17 :: c18 :: c19 :: c20 :: c21 :: c22 :: c23 :: c24 :: c25 :: c26 :: c27 :: c28 :: c29 :: c30 :: c31 :: c32 :: c33 :: []), []⟩ w0 := by
  refine Code.wp_mono (Q := NQ Q) nq_to ?_
  conv => arg 2; whnf
  have hB0 : Below w0.heap.size w0 w0 := Below.refl _ _
  obtain ⟨i9, hi0, hz0, hz1, hz2⟩ := info_parts Tryd.info32
  go_region_held3 (fun wx => wx.cell? ⟨P, 0, none⟩ = some (.int .i64 xk) ∧ wx.cell? ⟨P, 1, none⟩ = some (.int .i64 vk) ∧ wx.cell? ⟨P, 2, none⟩ = some (.int .i64 vn) ∧ wx.cell? ⟨P, 3, none⟩ = some (.string vt) ∧ wx.cell? ⟨P, 4, none⟩ = some (.string xt))
    ((refine ⟨?_, ?_, ?_, ?_, ?_⟩ <;> (repeat' (first | (with_reducible assumption) | (with_reducible refine cell_dr ?_) | (with_reducible refine cell_al _ ?_) | (with_reducible refine cell_of_below hbA ?_) | (refine cell_blk (hgrow.block P (by simp; omega) (fun e => hne _ e.symm rfl)) ?_)))))
    ((first
      | (go_at_call 77; (with_reducible refine (HSO.out _ (by go_grown)).mono ?_); rintro e wA ⟨vA, rfl, hownA, hbA⟩; obtain ⟨aA, qA, rfl⟩ := own_shape hownA; have hBA : Below w0.heap.size w0 wA := into (by go_grown) hbA; have hzA := hBA.size; have hrA : Rk B wA ⟨aA, L.length, qA⟩ L := Rk.own hownA (by simp; try omega); have hownB := (own_below hown.out hBA).alloc (.cells #[.slice aA L.length qA] 32))
      | (refine step_append_lies _ (by rfl) _ _ _ (by rfl) B 32 i9 _ 1 24 Tryd.underlying81 hi0 hz0 hz1 hz2 rfl (by omega) (.slice (some ⟨g, 0, none⟩) p cp) p ys (by rfl) hownB ⟨wA.heap.size, 0, none⟩ 1 1 [.slice aA L.length qA] (by rfl) (by rfl) (new_cells wA _ _) (by intro u hu; simp at hu; rcases hu with rfl; rfl) (by omega) (by unfold maxLen; omega) (by omega) (by simp; omega) (wA.heap.size + 1) (by simp) ?_; intro gg cap1 w4 hown4 hgrow hat4 hlt4; have hgg := (Below.refl B _).grown hgrow (by simp; omega) (own_ge hownB); have hb4 : Below B w0 w4 := Below.trans (Below.mono (show Below w0.heap.size w0 _ from hBA.alloc (by omega) _) hB) hgg)))
  all_goals exact hout.out _ _ _ _ _ _ _ _ _ _ ⟨aA, L.length, qA⟩ gg cap1 w4 ((hrA.below ((Below.refl _ _).alloc (Nat.le_refl _) _)).grown hownB hgrow tt_ne) hown4 hb4 (fun s l h => ((h.below hBA).below ((Below.refl _ _).alloc (Nat.le_refl _) _)).grown hownB hgrow tt_ne)
end Go.Proofs.YtnheepkmaibofaaDoor.cs
