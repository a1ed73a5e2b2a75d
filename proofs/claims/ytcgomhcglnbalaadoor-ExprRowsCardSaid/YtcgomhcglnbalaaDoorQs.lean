/- What a row lacks: the document. -/
import Derived.Test.YtcgomhcglnbalaaDoorQr
import Derived.Test.YtcgomhcglnbalaaDoorQp
namespace Go.Proofs.YtcgomhcglnbalaaDoor
open Go.ChangeShapes Go.WideShapes Go.ChangeAt Go.RowKit
set_option linter.unusedVariables false
set_option linter.unusedSimpArgs false
set_option maxHeartbeats 4000000
set_option maxRecDepth 100000
theorem rowFault_any (w : World) (n m : Nat) (v u : Value) (l : List Cq) (r : List V) (hr : Rd w 2 n v (ccs l)) (hs : ∀ c ∈ l, c.t.size ≤ maxLen) (hu : Rd w 3 m u (vc r)) :
    Calls Tryd.prog 15 #[v, u] w fun e w' => e = .returned (.int .i64 (rowF l r)) ∧ Below w.heap.size w w' := by
  have hnl := len_c hr
  have hml := len_v hu
  have hmax := hu.len
  have hmax2 := hr.len
  unfold maxLen at hmax hmax2
  obtain ⟨ao, cap, rfl⟩ : ∃ ao cap, v = .slice ao n cap := by
    obtain ⟨_, ao, cap, h, _⟩ := id hr
    exact ⟨ao, cap, h⟩
  obtain ⟨bo, cbp, rfl⟩ : ∃ ao cap, u = .slice ao m cap := by
    obtain ⟨_, ao, cap, h, _⟩ := id hu
    exact ⟨ao, cap, h⟩
  have hc := colsFault_any w n _ l hr hs
  have hF : rowF l r = if colsF l ≠ 0 then colsF l else if m ≠ n then 1 else rvF 0 l r := by unfold rowF; rw [← hnl, ← hml]
  obtain ⟨q, hq⟩ : ∃ q, q = colsF l := ⟨_, rfl⟩
  have HQ := Lib.hid hq
  rw [← hq] at hc hF
  have HC := Lib.hid hc
  have HF := Lib.hid hF
  clear hc hF hq
  by_cases hq0 : q = 0
  · subst hq0
    by_cases hmn : m = n
    · subst hmn
      obtain ⟨hok, hn1, hn6⟩ := colsF_ok HQ.out.symm
      have HG : Hid (rowF l r = rvF 0 l r) := by show _ = _; rw [HF.out]; simp
      obtain ⟨b, o, cap', hv, _, _, hbw, hcell⟩ := cols_of hr (by omega)
      obtain ⟨_, b', o', cbp', hv', _, _, hbw', hcell'⟩ := vals_of hu (by omega)
      simp only [Value.slice.injEq] at hv hv'
      obtain ⟨rfl, -, rfl⟩ := hv
      obtain ⟨rfl, -, rfl⟩ := hv'
      have HC1 := Lib.hid hcell
      have HC2 := Lib.hid hcell'
      have HN := Lib.hid hnl
      have HM := Lib.hid hml
      have HOK := Lib.hid hok
      clear hcell hcell' hnl hml hok hr hu hs HF HQ hn1 hn6
      go_enter Tryd.func15, Tryd.ntmps15
      go_wp2_with fail
      refine HC.out.mono ?_
      rintro e w1 ⟨rfl, hb1⟩
      have HB1 := Lib.hid hb1
      clear hb1
      go_wp2_with fail
      go_loopw [5, 6] (fun e i wr => ∃ (k : Nat) (q : Int), k ≤ m ∧ i = .int .i64 (k : Int) ∧ e = .int .i64 q ∧ Hid (q = 0 → rvF 0 l r = rvF k (l.drop k) (r.drop k)) ∧ Hid (q ≠ 0 → rvF 0 l r = q) ∧ Hid (Below w.heap.size w wr)) (fun _ i _ => m - (intOf i).toNat)
      case atStart => exact ⟨0, 0, by omega, rfl, rfl, fun _ => rfl, fun h => absurd rfl h, HB1.out⟩
      case round =>
        obtain ⟨k, q, hk, rfl, rfl, HE, HE2, HB⟩ := hrel
        by_cases hq0 : q = 0
        · subst hq0
          by_cases hlt : k < m
          · obtain ⟨g0, g1⟩ := HC1.out k hlt
            obtain ⟨d0, d1, d2⟩ := HC2.out k hlt
            have c1 := (HB.out.cell (p := ⟨b, o + k * 2 + 1, none⟩) hbw).trans g1
            have e0 := (HB.out.cell (p := ⟨b', o' + k * 3, none⟩) hbw').trans d0
            have e1 := (HB.out.cell (p := ⟨b', o' + k * 3 + 1, none⟩) hbw').trans d1
            have e2 := (HB.out.cell (p := ⟨b', o' + k * 3 + 2, none⟩) hbw').trans d2
            have hll : k < l.length := by rw [← HN.out]; exact hlt
            have hrl : k < r.length := by rw [← HM.out]; exact hlt
            have hE : rvF k (l.drop k) (r.drop k) = if chk (r.getD k nul).k (r.getD k nul).n (r.getD k nul).t ≠ 0 then chk (r.getD k nul).k (r.getD k nul).n (r.getD k nul).t else if ((r.getD k nul).k ≠ (l.getD k ncq).k ∧ (r.getD k nul).k ≠ 0) ∨ (k = 0 ∧ (r.getD k nul).k = 0) then 4 else rvF (k + 1) (l.drop (k + 1)) (r.drop (k + 1)) := by
              rw [cdrop_cons hll, vdrop_cons hrl]
              rfl
            have hco := HOK.out _ (cgetD_mem hll)
            obtain ⟨x, hx⟩ : ∃ x, x = r.getD k nul := ⟨_, rfl⟩
            obtain ⟨ck, hck⟩ : ∃ ck, ck = (l.getD k ncq).k := ⟨_, rfl⟩
            rw [← hx] at e0 e1 e2 hE
            rw [← hck] at c1 hE hco
            obtain ⟨xk, xn, xt⟩ := x
            simp only at e0 e1 e2 hE
            have hch := vf_any xk xn xt wr
            obtain ⟨z, hz⟩ : ∃ z, z = chk xk xn xt := ⟨_, rfl⟩
            rw [← hz] at hch hE
            have HCH := Lib.hid hch
            have HEQ := Lib.hid hE
            have hk1 : 1 ≤ ck := hco.2.1
            clear hch hE hx hck hz hll hrl hco g0 g1 d0 d1 d2
            go_wp2_with fail
            refine HCH.out.mono ?_
            rintro e w2 ⟨rfl, hb2⟩
            have f1 := cell_blz hb2 c1
            have y0 := cell_blz hb2 e0
            have HB2 := Lib.hid (into HB.out hb2)
            clear hb2 c1 e0 e1 e2
            by_cases hz0 : z = 0
            · subst hz0
              obtain ⟨y, hy⟩ : ∃ y, y = (!(xk == ck) && !(decide (0 < k) && (xk == 0))) := ⟨_, rfl⟩
              have HYY : Hid (rvF 0 l r = if y = true then 4 else rvF (k + 1) (l.drop (k + 1)) (r.drop (k + 1))) := by
                show _ = _
                rw [HE.out trivial, HEQ.out, if_neg (by simp), hy]
                have e3 : ((xk ≠ ck ∧ xk ≠ 0) ∨ (k = 0 ∧ xk = 0)) ↔ (!(xk == ck) && !(decide (0 < k) && (xk == 0))) = true := by
                  simp
                  omega
                simp only [e3]
              have hcases : (xk = ck ∧ y = false) ∨ (¬ xk = ck ∧ 0 < k ∧ xk = 0 ∧ y = false) ∨ (¬ xk = ck ∧ 0 < k ∧ ¬ xk = 0 ∧ y = true) ∨ (¬ xk = ck ∧ k = 0 ∧ y = true) := by
                rw [hy]
                by_cases c1 : xk = ck
                · exact .inl ⟨c1, by simp [c1]⟩
                · by_cases c3 : 0 < k
                  · by_cases c2 : xk = 0
                    · exact .inr (.inl ⟨c1, c3, c2, by simp [c3, c2]⟩)
                    · exact .inr (.inr (.inl ⟨c1, c3, c2, by simp [c1, c2]⟩))
                  · exact .inr (.inr (.inr ⟨c1, by omega, by simp [c1, c3]⟩))
              clear hy HEQ HE HE2
              have hkc : (k : Int) < (m : Int) := by omega
              rcases hcases with ⟨rfl, rfl⟩ | ⟨h1, h3, rfl, rfl⟩ | ⟨h1, h3, h4, rfl⟩ | ⟨h1, rfl, rfl⟩
              · go_wp2_with fail
                go_quiet (fail)
                go_wp2_with fail
                go_roundw
                case rel => exact ⟨k + 1, 0, by omega, by go_num, rfl, fun _ => by rw [HYY.out]; rfl, fun h => absurd rfl h, HB2.out.trans ((below_drewN _ _).mono HB2.out.size)⟩
                case measure => (simp [intOf]) <;> omega
              · have hne : ((0 : Int) != ck) = true := by simp; omega
                have h30 : (0 : Int) < (k : Int) := by omega
                clear h1
                go_wp2_with fail
                go_quiet (fail)
                go_wp2_with fail
                go_roundw
                case rel => exact ⟨k + 1, 0, by omega, by go_num, rfl, fun _ => by rw [HYY.out]; rfl, fun h => absurd rfl h, HB2.out.trans ((below_drewN _ _).mono HB2.out.size)⟩
                case measure => (simp [intOf]) <;> omega
              · have hne : (xk != ck) = true := by simpa using h1
                have h30 : (0 : Int) < (k : Int) := by omega
                have hxz : (xk == 0) = false := by simpa using h4
                clear h1 h4
                go_wp2_with fail
                go_quiet (fail)
                go_wp2_with fail
                go_roundw
                case rel => exact ⟨k + 1, 4, by omega, by go_num, rfl, fun h => absurd h (by omega), fun _ => by rw [HYY.out]; rfl, HB2.out.trans ((below_drewN _ _).mono HB2.out.size)⟩
                case measure => (simp [intOf]) <;> omega
              · have hne : (xk != ck) = true := by simpa using h1
                simp only [Nat.zero_mul, Nat.add_zero] at f1 y0
                have hm0 : (0 : Int) < (m : Int) := by omega
                clear h1 hkc
                go_wp2_with fail
                go_quiet (fail)
                go_wp2_with fail
                go_roundw
                case rel => exact ⟨0 + 1, 4, by omega, by go_num, rfl, fun h => absurd h (by omega), fun _ => by rw [HYY.out]; rfl, HB2.out.trans ((below_drewN _ _).mono HB2.out.size)⟩
                case measure => (simp [intOf]) <;> omega
            · have hz0' : (z == 0) = false := by simpa using hz0
              have HZZ : Hid (rvF 0 l r = z) := by show _ = _; rw [HE.out trivial, HEQ.out, if_pos hz0]
              clear HEQ HE HE2
              go_wp2_with fail
              go_quiet (fail)
              go_wp2_with fail
              go_roundw
              case rel => exact ⟨k + 1, z, by omega, by go_num, rfl, fun h => absurd h hz0, fun _ => HZZ.out, HB2.out.trans ((below_drewN _ _).mono HB2.out.size)⟩
              case measure => (simp [intOf]) <;> omega
          · obtain rfl : k = m := by omega
            have HZ : Hid (rowF l r = 0) := by
              show _ = _
              rw [HG.out, HE.out rfl, List.drop_eq_nil_of_le (by rw [← HN.out]; exact Nat.le_refl _)]
              rfl
            go_wp2_with fail
            go_ret
            exact ⟨ri HZ.out.symm, HB.out⟩
        · have hq1 : (q == 0) = false := by simpa using hq0
          have HZ : Hid (rowF l r = q) := by show _ = _; rw [HG.out, HE2.out hq0]
          by_cases hlt : k < m
          all_goals (
            go_wp2_with fail
            go_ret
            exact ⟨ri HZ.out.symm, HB.out⟩)
    · have hmn2 : ¬ (m : Int) = (n : Int) := by omega
      have hmn' : ((m : Int) == (n : Int)) = false := by simpa using hmn2
      have HG : Hid (rowF l r = 1) := by show _ = _; rw [HF.out]; simp [hmn]
      clear HF hnl hml hr hu hs
      go_enter Tryd.func15, Tryd.ntmps15
      go_wp2_with fail
      refine HC.out.mono ?_
      rintro e w1 ⟨rfl, hb1⟩
      have HB1 := Lib.hid hb1
      clear hb1
      go_wp2_with fail
      go_rounds 1
      all_goals (go_ret; exact ⟨ri HG.out.symm, HB1.out⟩)
  · have hq0' : (q == 0) = false := by simpa using hq0
    have HG : Hid (rowF l r = q) := by show _ = _; rw [HF.out, if_pos hq0]
    clear HF hnl hml hr hu hs
    go_enter Tryd.func15, Tryd.ntmps15
    go_wp2_with fail
    refine HC.out.mono ?_
    rintro e w1 ⟨rfl, hb1⟩
    have HB1 := Lib.hid hb1
    clear hb1
    go_wp2_with fail
    go_rounds 1
    all_goals (go_ret; exact ⟨ri HG.out.symm, HB1.out⟩)
end Go.Proofs.YtcgomhcglnbalaaDoor
