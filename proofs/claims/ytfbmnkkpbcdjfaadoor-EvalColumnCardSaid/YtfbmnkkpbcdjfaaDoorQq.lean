/- Rows: the program's expr.Row. -/
import Derived.Test.YtfbmnkkpbcdjfaaDoorQr
namespace Go.Proofs.YtfbmnkkpbcdjfaaDoor
open Go.ChangeShapes Go.WideShapes Go.ChangeAt Go.RowKit Go.Deep
set_option linter.unusedVariables false
set_option linter.unusedSimpArgs false
set_option maxRecDepth 100000 in
set_option maxHeartbeats 4000000 in
theorem row_any (w : World) (hT : Tbs w) (n m : Nat) (v u : Value) (l : List Cq) (r : List V) (hr : Rd w 2 n v (ccs l)) (hs : ∀ c ∈ l, c.t.size ≤ maxLen) (hu : Rd w 3 m u (vc r)) :
    Calls Tryd.prog 29 #[v, u] w fun e w' => e = .returned (.int .i64 (rowF l r)) ∧ Below w.heap.size w w' := by
  have hnl := len_c hr
  have hml := len_v hu
  have hmax := hu.len
  have hmax2 := hr.len
  unfold maxLen at hmax hmax2
  obtain ⟨ao, cap, rfl⟩ : ∃ ao cap, v = .slice ao n cap := by
    obtain ⟨_, ao, cap, h, _⟩ := id hr
    exact ⟨ao, cap, h⟩
  obtain ⟨bo, cbp, rfl⟩ : ∃ ao cap, u = .slice ao m cap := by
    obtain ⟨_, ao, cap, h, _⟩ := id hu
    exact ⟨ao, cap, h⟩
  have hc := cols_any w hT n _ l hr hs
  have hF : rowF l r = if colsF l ≠ 0 then colsF l else if m ≠ n then 1 else rvF 0 l r := by unfold rowF; rw [← hnl, ← hml]
  obtain ⟨q, hq⟩ : ∃ q, q = colsF l := ⟨_, rfl⟩
  have HQ := Lib.hid hq
  rw [← hq] at hc hF
  have HC := Lib.hid hc
  have HF := Lib.hid hF
  clear hc hF hq
  by_cases hq0 : q = 0
  · subst hq0
    by_cases hmn : m = n
    · subst hmn
      obtain ⟨hok, hn1, hn6⟩ := colsF_ok HQ.out.symm
      have HG : Hid (rowF l r = rvF 0 l r) := by show _ = _; rw [HF.out]; simp
      obtain ⟨b, o, cap', hv, _, _, hbw, hcell⟩ := cols_of hr (by omega)
      obtain ⟨_, b', o', cbp', hv', _, _, hbw', hcell'⟩ := vals_of hu (by omega)
      simp only [Value.slice.injEq] at hv hv'
      obtain ⟨rfl, -, rfl⟩ := hv
      obtain ⟨rfl, -, rfl⟩ := hv'
      have HC1 := Lib.hid hcell
      have HC2 := Lib.hid hcell'
      have HN := Lib.hid hnl
      have HM := Lib.hid hml
      have HOK := Lib.hid hok
      clear hcell hcell' hnl hml hok hr hu hs hT HF HQ hn1 hn6
      go_enter Tryd.func29, Tryd.ntmps29
      go_wp2_with fail
      refine HC.out.mono ?_
      rintro e w1 ⟨rfl, hb1⟩
      have HB1 := Lib.hid hb1
      clear hb1
      go_wp2_with fail
      go_loopw [21] (fun i wr => ∃ k : Nat, k ≤ m ∧ i = .int .i64 (k : Int) ∧ Hid (rvF 0 l r = rvF k (l.drop k) (r.drop k)) ∧ Hid (Below w.heap.size w wr)) (fun i _ => m - (intOf i).toNat)
      case atStart => exact ⟨0, by omega, rfl, rfl, HB1.out⟩
      case round =>
        obtain ⟨k, hk, rfl, HE, HB⟩ := hrel
        by_cases hlt : k < m
        · obtain ⟨g0, g1⟩ := HC1.out k hlt
          obtain ⟨d0, d1, d2⟩ := HC2.out k hlt
          have c1 := (HB.out.cell (p := ⟨b, o + k * 2 + 1, none⟩) hbw).trans g1
          have e0 := (HB.out.cell (p := ⟨b', o' + k * 3, none⟩) hbw').trans d0
          have e1 := (HB.out.cell (p := ⟨b', o' + k * 3 + 1, none⟩) hbw').trans d1
          have e2 := (HB.out.cell (p := ⟨b', o' + k * 3 + 2, none⟩) hbw').trans d2
          have hll : k < l.length := by rw [← HN.out]; exact hlt
          have hrl : k < r.length := by rw [← HM.out]; exact hlt
          have hE : rvF k (l.drop k) (r.drop k) = if chk (r.getD k nul).k (r.getD k nul).n (r.getD k nul).t ≠ 0 then chk (r.getD k nul).k (r.getD k nul).n (r.getD k nul).t else if ((r.getD k nul).k ≠ (l.getD k ncq).k ∧ (r.getD k nul).k ≠ 0) ∨ (k = 0 ∧ (r.getD k nul).k = 0) then 4 else rvF (k + 1) (l.drop (k + 1)) (r.drop (k + 1)) := by
            rw [cdrop_cons hll, vdrop_cons hrl]
            rfl
          have hco := HOK.out _ (cgetD_mem hll)
          obtain ⟨x, hx⟩ : ∃ x, x = r.getD k nul := ⟨_, rfl⟩
          obtain ⟨ck, hck⟩ : ∃ ck, ck = (l.getD k ncq).k := ⟨_, rfl⟩
          rw [← hx] at e0 e1 e2 hE
          rw [← hck] at c1 hE hco
          obtain ⟨xk, xn, xt⟩ := x
          simp only at e0 e1 e2 hE
          have hch := chk_any xk xn xt (wr.alloc (.cells #[.int .i64 xk, .int .i64 xn, .string xt] 36))
          obtain ⟨z, hz⟩ : ∃ z, z = chk xk xn xt := ⟨_, rfl⟩
          rw [← hz] at hch hE
          have HCH := Lib.hid hch
          have HEQ := Lib.hid hE
          have HBN : Hid (Below w.heap.size w (wr.alloc (.cells #[.int .i64 xk, .int .i64 xn, .string xt] 36))) := HB.out.alloc HB.out.size _
          have hk1 : 1 ≤ ck := hco.2.1
          clear hch hE hx hck hz hll hrl hco g0 g1 d0 d1 d2
          have c1' := cell_blz ((Below.refl wr.heap.size wr).alloc (Nat.le_refl _) (.cells #[.int .i64 xk, .int .i64 xn, .string xt] 36)) c1
          go_wp2_with fail
          refine HCH.out.mono ?_
          rintro e w2 ⟨rfl, hb2⟩
          obtain ⟨y0, y1, y2, -, -, -⟩ := has3 (new0 wr (.cells #[.int .i64 xk, .int .i64 xn, .string xt] 36)) hb2
          have f1 := cell_blz hb2 c1'
          have HB2 := Lib.hid (into HBN.out hb2)
          clear hb2 c1 c1' e0 e1 e2
          by_cases hz0 : z = 0
          · subst hz0
            obtain ⟨p, hp⟩ : ∃ p, p = (xk == ck || xk == 0) := ⟨_, rfl⟩
            have HKN := Lib.hid (fun w => known_any w xk ck p hp.symm)
            obtain ⟨y, hy⟩ : ∃ y, y = (!p || (decide (k = 0) && decide (xk = 0))) := ⟨_, rfl⟩
            have HYY : Hid (rvF 0 l r = if y = true then 4 else rvF (k + 1) (l.drop (k + 1)) (r.drop (k + 1))) := by
              show _ = _
              rw [HE.out, HEQ.out, if_neg (by simp), hy, hp]
              by_cases c1 : xk = ck <;> by_cases c2 : xk = 0 <;> by_cases c3 : k = 0 <;> simp [c1, c2, c3]
            have hkc : (k : Int) < (m : Int) := by omega
            clear hp HEQ HE
            have hcases : (p = false ∧ y = true) ∨ (p = true ∧ ¬ k = 0 ∧ y = false) ∨ (p = true ∧ k = 0 ∧ xk = 0 ∧ y = true) ∨ (p = true ∧ k = 0 ∧ ¬ xk = 0 ∧ y = false) := by
              rw [hy]
              cases p <;> by_cases c2 : xk = 0 <;> by_cases c3 : k = 0 <;> simp [c2, c3]
            clear hy
            rcases hcases with ⟨rfl, rfl⟩ | ⟨rfl, h3, rfl⟩ | ⟨rfl, h3, h4, rfl⟩ | ⟨rfl, h3, h4, rfl⟩
            · go_wp2_with fail
              go_quiet ((go_at_call 43; exact Calls.quiet_of_same (HKN.out _)))
              go_wp2_with fail
              go_ret
              exact ⟨ri (by rw [HG.out, HYY.out]; rfl), HB2.out.trans ((below_drewN _ _).mono HB2.out.size)⟩
            · have hkz : ((k : Int) == 0) = false := by simp; omega
              go_wp2_with fail
              go_quiet ((go_at_call 43; exact Calls.quiet_of_same (HKN.out _)))
              go_wp2_with fail
              go_roundw
              case rel => exact ⟨k + 1, by omega, by go_num, by show _ = _; rw [HYY.out]; rfl, HB2.out.trans ((below_drewN _ _).mono HB2.out.size)⟩
              case measure => (simp [intOf]) <;> omega
            · subst h3
              obtain rfl : xk = 0 := h4
              simp only [Nat.zero_mul, Nat.add_zero] at f1
              have hm0 : (0 : Int) < (m : Int) := by omega
              clear hkc
              go_wp2_with fail
              go_quiet ((go_at_call 43; exact Calls.quiet_of_same (HKN.out _)))
              go_wp2_with fail
              go_ret
              exact ⟨ri (by rw [HG.out, HYY.out]; rfl), HB2.out.trans ((below_drewN _ _).mono HB2.out.size)⟩
            · subst h3
              simp only [Nat.zero_mul, Nat.add_zero] at f1
              have hm0 : (0 : Int) < (m : Int) := by omega
              have hxz : (xk == 0) = false := by simp; omega
              clear hkc
              go_wp2_with fail
              go_quiet ((go_at_call 43; exact Calls.quiet_of_same (HKN.out _)))
              go_wp2_with fail
              go_roundw
              case rel => exact ⟨0 + 1, by omega, by go_num, by show _ = _; rw [HYY.out]; rfl, HB2.out.trans ((below_drewN _ _).mono HB2.out.size)⟩
              case measure => (simp [intOf]) <;> omega
          · have hz0' : (z == 0) = false := by simpa using hz0
            go_wp2_with fail
            go_ret
            exact ⟨ri (by rw [HG.out, HE.out, HEQ.out, if_pos hz0]), HB2.out⟩
        · obtain rfl : k = m := by omega
          have HZ : Hid (rowF l r = 0) := by
            show _ = _
            rw [HG.out, HE.out, List.drop_eq_nil_of_le (by rw [← HN.out]; exact Nat.le_refl _)]
            rfl
          go_wp2_with fail
          go_ret
          exact ⟨ri HZ.out.symm, HB.out⟩
    · have hmn' : ((m : Int) == (n : Int)) = false := by simp; omega
      have hmn2 : ¬ (m : Int) = (n : Int) := by omega
      have HG : Hid (rowF l r = 1) := by show _ = _; rw [HF.out]; simp [hmn]
      clear HF hnl hml hr hu hs hT
      go_enter Tryd.func29, Tryd.ntmps29
      go_wp2_with fail
      refine HC.out.mono ?_
      rintro e w1 ⟨rfl, hb1⟩
      have HB1 := Lib.hid hb1
      clear hb1
      go_wp2_with fail
      go_ret
      exact ⟨ri HG.out.symm, HB1.out⟩
  · have hq0' : (q == 0) = false := by simpa using hq0
    have HG : Hid (rowF l r = q) := by show _ = _; rw [HF.out, if_pos hq0]
    clear HF hnl hml hr hu hs hT
    go_enter Tryd.func29, Tryd.ntmps29
    go_wp2_with fail
    refine HC.out.mono ?_
    rintro e w1 ⟨rfl, hb1⟩
    have HB1 := Lib.hid hb1
    clear hb1
    go_wp2_with fail
    go_ret
    exact ⟨ri HG.out.symm, HB1.out⟩
end Go.Proofs.YtfbmnkkpbcdjfaaDoor
