/- A Create that makes columns: what it lacks, by the document. -/
import Derived.Test.YtfbmnkkpbcdjfaaDoorQf
import Derived.Test.YtfbmnkkpbcdjfaaDoorQh
namespace Go.Proofs.YtfbmnkkpbcdjfaaDoor
open Go.ChangeShapes Go.WideShapes Go.ChangeAt Go.RowKit
set_option linter.unusedVariables false
set_option linter.unusedSimpArgs false
set_option maxHeartbeats 4000000
theorem inp_any (w : World) (a b c : Int) (q : Bool) (h : (decide (b ≤ a) && decide (a ≤ c)) = q) : Calls Tryd.prog 76 #[.int .i64 a, .int .i64 b, .int .i64 c] w fun e w' => e = .returned (.bool q) ∧ w = w' := by
  subst h
  exact in_any w a b c
theorem cell_blw {W W' : World} {a : Addr} {v : Value} (hb : Below W.heap.size W W') (h : W.cell? a = some v) : W'.cell? a = some v := (hb.cell (lt_cell h)).trans h
theorem hasC_take_hit {l : List Cq} {k j : Nat} {t : ByteArray} (hk : k ≤ l.length) (hj : j < k) (e : (l.getD j ncq).t = t) : hasC (l.take k) t = true := by
  refine hasC_at (k := j) (by simp; omega) ?_
  rw [← e]
  congr 1
  simp [List.getD, List.getElem?_take, hj]
theorem hasC_take_none {l : List Cq} {k : Nat} {t : ByteArray} (hk : k ≤ l.length) (h : ∀ j, j < k → (l.getD j ncq).t ≠ t) : hasC (l.take k) t = false := by
  refine hasC_none fun j hj => ?_
  have hj' : j < k := by simp at hj; omega
  have := h j hj'
  simpa [List.getD, List.getElem?_take, hj'] using this
set_option maxRecDepth 100000 in
theorem partsFault_create (w : World) (t : ByteArray) (n : Nat) (v : Value) (l : List Cq) (hr : Rd w 2 n v (ccs l)) (hs : ∀ c ∈ l, c.t.size ≤ maxLen) :
    Calls Tryd.prog 102 #[crV t v] w fun e w' => e = .returned (.int .i64 (colsF l)) ∧ Below w.heap.size w w' := by
  have hml := len_c hr
  have hmax := hr.len
  unfold maxLen at hmax
  have HR := Lib.hid hr
  obtain ⟨_, ao, cap, rfl, hcap, _⟩ := hr
  by_cases h1 : n < 1 ∨ 6 < n
  · have HF : Hid (colsF l = 1) := by
      show _ = _
      unfold colsF
      rw [if_pos (by omega)]
    have HI := Lib.hid (fun w => inp_any w (n : Int) 1 6 false (by simp; omega))
    clear hml HR h1
    go_enter Tryd.func102, Tryd.ntmps102
    go_wp2_with (go_at_call 76; ((with_reducible refine (HI.out _).mono ?_); rintro e w' ⟨rfl, rfl⟩))
    go_ret
    exact ⟨ri HF.out.symm, (Below.refl _ _).alloc (Nat.le_refl _) _⟩
  · have HF : Hid (colsF l = clF [] l) := by
      show _ = _
      unfold colsF
      rw [if_neg (by omega)]
    have HI := Lib.hid (fun w => inp_any w (n : Int) 1 6 true (by simp; omega))
    obtain ⟨b, o, cap', hv, _, _, hbw, hcell⟩ := cols_of HR.out (by omega)
    simp only [Value.slice.injEq] at hv
    obtain ⟨rfl, -, rfl⟩ := hv
    have HC := Lib.hid hcell
    have HN := Lib.hid hml
    have HS := Lib.hid hs
    have HB0 : Hid (Below w.heap.size w (w.alloc (.cells (crC t (.slice (some ⟨b, o, none⟩) n cap)) 93))) := (Below.refl _ _).alloc (Nat.le_refl _) _
    have HNEW := Lib.hid (fun w1 hb => (CrB.new w t (.slice (some ⟨b, o, none⟩) n cap) (w1 := w1) hb).c2)
    have HI3 := Lib.hid (fun w (x : Int) (q : Bool) (h : (decide (1 ≤ x) && decide (x ≤ 3)) = q) => inp_any w x 1 3 q h)
    obtain ⟨W0, hW0⟩ : ∃ W0, W0 = w.alloc (.cells (crC t (.slice (some ⟨b, o, none⟩) n cap)) 93) := ⟨_, rfl⟩
    have HW := Lib.hid hW0
    have hc2 := HNEW.out W0 (by rw [hW0]; exact Below.refl _ _)
    have HB0' : Hid (Below w.heap.size w W0) := by show Below _ _ _; rw [hW0]; exact HB0.out
    have hbw0 : b < W0.heap.size := Nat.lt_of_lt_of_le hbw HB0'.out.size
    have HC0 : Hid (∀ k, k < n → W0.cell? ⟨b, o + k * 2, none⟩ = some (.string (l.getD k ncq).t) ∧ W0.cell? ⟨b, o + k * 2 + 1, none⟩ = some (.int .i64 (l.getD k ncq).k)) := fun k hk => ⟨(HB0'.out.cell (p := ⟨b, o + k * 2, none⟩) hbw).trans (HC.out k hk).1, (HB0'.out.cell (p := ⟨b, o + k * 2 + 1, none⟩) hbw).trans (HC.out k hk).2⟩
    clear hcell hml hs hW0
    go_enter Tryd.func102, Tryd.ntmps102
    go_wp2_with (go_at_call 76; ((with_reducible refine (HI.out _).mono ?_); rintro e w' ⟨rfl, rfl⟩))
    rw [← HW.out]
    go_loopw [3] (fun i wr => ∃ k : Nat, k ≤ n ∧ i = .int .i64 (k : Int) ∧ Hid (clF [] l = clF (l.take k) (l.drop k)) ∧ Hid (Below W0.heap.size W0 wr)) (fun i _ => n - (intOf i).toNat)
    case atStart => exact ⟨0, by omega, rfl, by simp [Hid], Below.refl _ _⟩
    case round =>
      obtain ⟨k, hk, rfl, HE, HB⟩ := hrel
      have x2 := cell_blw HB.out hc2
      by_cases hlt : k < n
      · obtain ⟨g0, g1⟩ := HC0.out k hlt
        have c0 := cell_blw HB.out g0
        have c1 := cell_blw HB.out g1
        have hll : k < l.length := by rw [← HN.out]; exact hlt
        have hsz := HS.out _ (cgetD_mem hll)
        have hdr := cdrop_cons hll
        have htk := ctake_snoc hll
        obtain ⟨u, hu⟩ : ∃ u, u = l.getD k ncq := ⟨_, rfl⟩
        rw [← hu] at c0 c1 hsz hdr htk
        have HUT : Hid ((l.getD k ncq).t = u.t) := by show _ = _; rw [hu]
        clear g0 g1 hu
        obtain ⟨ut, uk⟩ := u
        simp only at c0 c1 hsz HUT
        have hnm := nameFault_any wr ut hsz
        have hE : clF (l.take k) (l.drop k) = if nmF ut.data.toList ≠ 0 then nmF ut.data.toList else if uk < 1 ∨ 3 < uk then 2 else if hasC (l.take k) ut = true then 9 else clF (l.take (k + 1)) (l.drop (k + 1)) := by
          rw [hdr, htk]
          rfl
        obtain ⟨r, hr⟩ : ∃ r, r = nmF ut.data.toList := ⟨_, rfl⟩
        rw [← hr] at hnm hE
        have HNM := Lib.hid hnm
        have HEQ := Lib.hid hE
        have HLL := Lib.hid hll
        clear hnm hE hr hdr htk hll hsz
        go_wp2_with fail
        refine HNM.out.mono ?_
        rintro e w2 ⟨rfl, hb2⟩
        replace x2 := cell_blw hb2 x2
        replace c0 := cell_blw hb2 c0
        replace c1 := cell_blw hb2 c1
        have HB2 := Lib.hid (HB.out.trans (hb2.mono HB.out.size))
        clear hb2 HNM
        by_cases hr0 : r = 0
        · subst hr0
          by_cases hk3 : 1 ≤ uk ∧ uk ≤ 3
          · have hin := HI3.out w2 uk true (by simp; exact hk3)
            have HIN := Lib.hid hin
            have HG : Hid (clF [] l = if hasC (l.take k) ut = true then 9 else clF (l.take (k + 1)) (l.drop (k + 1))) := by
              show _ = _
              rw [HE.out, HEQ.out, if_neg (by simp), if_neg (by omega)]
            clear hin hk3 HEQ HE
            go_wp2_with (go_at_call 76; ((with_reducible refine HIN.out.mono ?_); rintro e w' ⟨rfl, rfl⟩))
            go_loopw [4, 5] (fun e x wk => ∃ j : Nat, j ≤ k ∧ x = .int .i64 (j : Int) ∧ ((e = .int .i64 0 ∧ Hid (∀ q, q < j → (l.getD q ncq).t ≠ ut)) ∨ (e = .int .i64 9 ∧ Hid (hasC (l.take k) ut = true))) ∧ Hid (Below W0.heap.size W0 wk)) (fun _ x _ => k - (intOf x).toNat)
            case atStart => exact ⟨0, by omega, rfl, .inl ⟨rfl, fun q hq => absurd hq (by omega)⟩, HB2.out⟩
            case round =>
              obtain ⟨j, hj, rfl, hor, HBK⟩ := hrel
              rcases hor with ⟨rfl, HA⟩ | ⟨rfl, HA⟩
              · by_cases hjk : j < k
                · have hjn : j < n := by omega
                  have y2 := cell_blw HBK.out hc2
                  have d0 := cell_blw HBK.out (HC0.out j hjn).1
                  have e0 := cell_blw HBK.out (HC0.out k hlt).1
                  obtain ⟨ct, hct⟩ : ∃ ct, ct = (l.getD j ncq).t := ⟨_, rfl⟩
                  obtain ⟨vt, hvt⟩ : ∃ vt, vt = (l.getD k ncq).t := ⟨_, rfl⟩
                  have hvu : vt = ut := by rw [hvt]; exact HUT.out
                  rw [← hct] at d0
                  rw [← hvt, hvu] at e0
                  have HCT := Lib.hid hct
                  clear hct hvt hvu x2 c0 c1
                  by_cases he : ct = ut
                  · subst he
                    go_wp2_with fail
                    go_quiet (fail)
                    go_wp2_with fail
                    go_roundw
                    case rel => exact ⟨j + 1, by omega, by go_num, .inr ⟨rfl, hasC_take_hit (Nat.le_of_lt HLL.out) hjk HCT.out.symm⟩, HBK.out.trans ((below_drewN _ _).mono HBK.out.size)⟩
                    case measure => (simp [intOf]) <;> omega
                  · have hne := st_beq he
                    have HX := Lib.hid he
                    clear he
                    go_wp2_with fail
                    go_quiet (fail)
                    go_wp2_with fail
                    go_roundw
                    case rel =>
                      refine ⟨j + 1, by omega, by go_num, .inl ⟨rfl, fun q hq => ?_⟩, HBK.out.trans ((below_drewN _ _).mono HBK.out.size)⟩
                      rcases Nat.lt_or_ge q j with h | h
                      · exact HA.out q h
                      · obtain rfl : q = j := by omega
                        rw [← HCT.out]
                        exact HX.out
                    case measure => (simp [intOf]) <;> omega
                · obtain rfl : j = k := by omega
                  have HG2 : Hid (clF [] l = clF (l.take (j + 1)) (l.drop (j + 1))) := by
                    show _ = _
                    rw [HG.out, hasC_take_none (Nat.le_of_lt HLL.out) HA.out]
                    rfl
                  go_wp2_with fail
                  go_roundw
                  case rel => exact ⟨j + 1, by omega, by go_num, HG2.out, HBK.out⟩
                  case measure => (simp [intOf]) <;> omega
              · have HG2 : Hid (colsF l = 9) := by
                  show _ = _
                  rw [HF.out, HG.out, HA.out]
                  rfl
                by_cases hjk : j < k
                all_goals (
                  go_wp2_with fail
                  go_ret
                  exact ⟨ri HG2.out.symm, into HB0'.out HBK.out⟩)
          · have hin := HI3.out w2 uk false (by simp; omega)
            have HIN := Lib.hid hin
            have HG : Hid (colsF l = 2) := by
              show _ = _
              rw [HF.out, HE.out, HEQ.out, if_neg (by simp), if_pos (by omega)]
            clear hin hk3 HEQ HE
            go_wp2_with (go_at_call 76; ((with_reducible refine HIN.out.mono ?_); rintro e w' ⟨rfl, rfl⟩))
            go_rounds 1
            all_goals (go_ret; exact ⟨ri HG.out.symm, into HB0'.out HB2.out⟩)
        · have hr0' : (r == 0) = false := by simpa using hr0
          have HG : Hid (colsF l = r) := by
            show _ = _
            rw [HF.out, HE.out, HEQ.out, if_pos hr0]
          clear HEQ HE
          go_wp2_with fail
          go_rounds 1
          all_goals (go_ret; exact ⟨ri HG.out.symm, into HB0'.out HB2.out⟩)
      · obtain rfl : k = n := by omega
        have HG : Hid (colsF l = 0) := by
          show _ = _
          rw [HF.out, HE.out, List.drop_eq_nil_of_le (by rw [← HN.out]; exact Nat.le_refl _)]
          rfl
        go_wp2_with fail
        go_ret
        exact ⟨ri HG.out.symm, into HB0'.out HB.out⟩
end Go.Proofs.YtfbmnkkpbcdjfaaDoor
