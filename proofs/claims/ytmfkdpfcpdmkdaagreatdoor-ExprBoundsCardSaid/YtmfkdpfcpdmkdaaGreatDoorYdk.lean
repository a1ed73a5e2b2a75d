import Derived.Test.YtmfkdpfcpdmkdaaGreatDoorQtk
import Derived.Deep.QuietTactic
/- Ops folded over a stack of kinds: the program's loop. -/
namespace Go.Proofs.YtmfkdpfcpdmkdaaGreatDoor
open Go.ChangeShapes Go.WideShapes Go.ChangeAt Go.RowKit
set_option linter.unusedVariables false
set_option linter.unusedSimpArgs false
set_option maxHeartbeats 8000000
set_option maxRecDepth 1000000
/-- What a fold answers, by what the stack makes of the ops. -/
def FoldIs (R : Int × List Int) (w : World) (e : Ending) (w' : World) : Prop := e = .returned (.tuple #[.int .i64 (if R.1 ≠ 0 then 0 else R.2.headD 0), .int .i64 R.1]) ∧ Below w.heap.size w w'
theorem quiet_kind {f : FuncId} {args : Array Value} {w : World} {p : Int × Int} (h : Calls Tryz.prog f args w (KindIs p w)) : Calls Tryz.prog f args w fun e w' => e = .returned (.tuple #[.int .i64 p.2, .int .i64 p.1]) ∧ w' = w := h.mono fun e w' h => h
theorem ex_cons {n : Int} {o : Oq} {l : List Oq} (h : exF n (o :: l) = 0) : opF o.k o.v.k o.v.n o.v.t o.t = 0 ∧ ¬ n < wks o.k ∧ exF (n + 1 - wks o.k) l = 0 := by
  unfold exF at h
  by_cases h0 : opF o.k o.v.k o.v.n o.v.t o.t = 0
  · rw [if_neg (by simpa using h0)] at h
    by_cases h1 : n < wks o.k
    · rw [if_pos h1] at h
      omega
    · rw [if_neg h1] at h
      exact ⟨h0, h1, h⟩
  · rw [if_pos h0] at h
    exact absurd h h0
/-- The tail of a round: what was made is put upon what is left of the stack. -/
theorem fold_any (w : World) (m : Nat) (v : Value) (ops : List Oq) (l : List Cq) (B : Nat) (hr : Rd w 5 m v (ocs ops)) (hex : exprF ops = 0)
    (hlf : ∀ W, Below w.heap.size w W → ∀ o : Oq, Calls Tryz.prog 28 #[.agg #[.int .i64 o.k, .int .i64 o.v.k, .int .i64 o.v.n, .string o.v.t, .string o.t], .pointer (some ⟨B, 0, none⟩)] W (LeafIs (lfK l o) W)) :
    Calls Tryz.prog 27 #[v, .func (.func 28) #[] #[.pointer (some ⟨B, 0, none⟩)], .func (.func 30) #[] #[], .func (.func 31) #[] #[]] w (FoldIs (rnF (lfK l) onK twK [] ops) w) := by
  have hml := len_o hr
  have h40 : m ≤ 40 ∧ exF 0 ops = 0 := by
    unfold exprF at hex
    split at hex
    · omega
    · exact ⟨by omega, hex⟩
  have hm0 : 0 < m := by
    rcases Nat.eq_zero_or_pos m with h | h
    · have : ops = [] := List.eq_nil_of_length_eq_zero (by omega)
      rw [this] at h40
      simp [exF] at h40
    · exact h
  obtain ⟨b, o, cap, rfl, _, _, hbw, hcell⟩ := ops_of hr hm0
  have HC := Lib.hid hcell
  have HML := Lib.hid hml
  have HLF := Lib.hid hlf
  have HEX := Lib.hid h40.2
  obtain ⟨R, hR⟩ : ∃ R, R = rnF (lfK l) onK twK [] ops := ⟨_, rfl⟩
  have HR := Lib.hid hR
  rw [← hR]
  have h40' := h40.1
  clear hcell hml hlf hr hex h40 hR
  go_enter Tryz.func27, Tryz.ntmps27
  go_wp2_with fail
  go_loopw [11, 19] (fun u i wr => ∃ (k : Nat) (st : List Int), k ≤ m ∧ i = .int .i64 (k : Int) ∧ st.length ≤ k ∧ Hid (wr.ownsRow w.heap.size 3 1 u st.length (icY st.reverse)) ∧ Hid (exF (st.length : Int) (ops.drop k) = 0) ∧ Hid (R = rnF (lfK l) onK twK st (ops.drop k)) ∧ Hid (Below w.heap.size w wr)) (fun _ i _ => m - (intOf i).toNat)
  case atStart => exact ⟨0, [], by omega, rfl, by simp, World.ownsRow_nil _ _ _ _, HEX.out, HR.out, Below.refl _ _⟩
  case round =>
    obtain ⟨k, st, hk, rfl, hsk, HU, HE, HRN, HB⟩ := hrel
    have hwz := HB.out.size
    obtain ⟨ao, cp, rfl⟩ := own_shape HU.out
    have hqc : st.length ≤ cp := by
      obtain ⟨_, ao', cp', hv, h1, _⟩ := Rd.own HU.out
      simp only [Value.slice.injEq] at hv
      omega
    by_cases hlt : k < m
    · have hkl : k < ops.length := by rw [← HML.out]; exact hlt
      obtain ⟨g0, g1, g2, g3, g4⟩ := HC.out k hlt
      have c0 := cell_blz HB.out g0
      have c1 := cell_blz HB.out g1
      have c2 := cell_blz HB.out g2
      have c3 := cell_blz HB.out g3
      have c4 := cell_blz HB.out g4
      have hdr := drop_cons hkl
      obtain ⟨x, hx⟩ : ∃ x, x = ops.getD k noq := ⟨_, rfl⟩
      rw [← hx] at c0 c1 c2 c3 c4 hdr
      have he := HE.out
      rw [hdr] at he
      obtain ⟨ho, hw, he2⟩ := ex_cons he
      have hrn := HRN.out
      rw [hdr] at hrn
      have hkind := opF_kind ho
      have HRX := Lib.hid hrn
      have HE2 := Lib.hid he2
      have HBX : Hid (Below w.heap.size w (wr.alloc (.cells #[.int .i64 x.k, .int .i64 x.v.k, .int .i64 x.v.n, .string x.v.t, .string x.t] 45))) := HB.out.alloc HB.out.size _
      have HLX := Lib.hid (HLF.out _ HBX.out x)
      obtain ⟨q, hq⟩ : ∃ q, q = st.length := ⟨_, rfl⟩
      have HQ := Lib.hid hq
      have HU2 := HU.out
      rw [← hq] at HU2 hqc hsk hw
      have HUQ := Lib.hid HU2
      have hwk : wks x.k = if x.k = 1 ∨ x.k = 2 then 0 else if x.k = 5 ∨ x.k = 11 then 1 else 2 := rfl
      rw [← hq]
      clear g0 g1 g2 g3 g4 hdr hx he ho he2 hrn hkl HE HRN HU2 hq HU
      by_cases hk12 : x.k = 1 ∨ x.k = 2
      · have hw0 : wks x.k = 0 := by rw [hwk, if_pos hk12]
        have HRL : Hid (R = if (lfK l x).1 ≠ 0 then ((lfK l x).1, []) else rnF (lfK l) onK twK ((lfK l x).2 :: st) (ops.drop (k + 1))) := by
          show _ = _
          rw [HRX.out, rn_leaf (lfK l) onK twK hw0]
        obtain ⟨⟨re, rv⟩, hre⟩ : ∃ r, r = lfK l x := ⟨_, rfl⟩
        rw [← hre] at HLX HRL
        obtain ⟨xk, ⟨vk, vn, vt⟩, xt⟩ := x
        simp only at c0 c1 c2 c3 c4 hk12 HLX HBX HRL HE2 hw0
        clear hre HRX hwk hw hkind
        rcases hk12 with rfl | rfl
        all_goals (
          go_wp2_with fail
          refine HLX.out.mono ?_
          rintro e w2 ⟨rfl, hb2⟩
          have HB2 := Lib.hid (into HBX.out hb2)
          have HO2 := Lib.hid (own_below (HUQ.out.alloc _) hb2)
          have hz2 := HB2.out.size
          clear hb2
          by_cases h0 : re = 0
          · subst h0
            have HLS : Hid (st.length = q) := HQ.out.symm
            have HE3 : Hid (exF ((q : Int) + 1) (ops.drop (k + 1)) = 0) := by
              show _ = _
              rw [← HE2.out, hw0, ← HQ.out]
              (congr 1) <;> omega
            have HOT : Hid (w2.ownsRow w.heap.size 3 1 (.slice ao q cp) q (icY st.reverse)) := HO2.out
            cases ao
            · obtain ⟨rfl, rfl⟩ : q = 0 ∧ cp = 0 := by
                rcases HOT.out.2 with ⟨hv, h0⟩ | ⟨g, c, cur, hv, _⟩
                · simp only [Value.slice.injEq] at hv
                  exact ⟨h0, hv.2.2⟩
                · simp at hv
              have hz2 := HB2.out.size
              go_wp2_with (at_builtin; refine apg (w2.alloc (.cells #[.int .i64 rv] 3)) 1 rfl _ _ 83 3 _ 1 8 Tryz.underlying83 Tryz.info3 rfl (by omega) rfl (HOT.out.alloc _) (by rw [World.size_alloc]; omega) (by omega) (by unfold maxLen; omega) (icY_one _) (ic_rd1 w2 rv _ rfl) rfl rfl ?_; intro v3 w3 hown3 hb3 _; have HO3 := Lib.hid hown3; have HB3 := Lib.hid ((HB2.out.alloc hz2 _).trans hb3); clear hown3 hb3)
              go_roundw
              case rel =>
                refine ⟨k + 1, rv :: st, by omega, by go_num, by rw [List.length_cons, HLS.out]; omega, ?_, ?_, ?_, HB3.out⟩
                · show World.ownsRow _ _ _ _ _ _ _
                  rw [List.length_cons, HLS.out, rev_push, icY_app]
                  exact HO3.out
                · show _ = _
                  rw [List.length_cons, HLS.out]
                  have h := HE3.out
                  simpa using h
                · show _ = _
                  rw [HRL.out]
                  rfl
              case measure => (simp [intOf]) <;> omega

            · have hz2 := HB2.out.size
              go_wp2_with (at_builtin; refine apg (w2.alloc (.cells #[.int .i64 rv] 3)) 1 rfl _ _ 83 3 _ 1 8 Tryz.underlying83 Tryz.info3 rfl (by omega) rfl (HOT.out.alloc _) (by rw [World.size_alloc]; omega) (by omega) (by unfold maxLen; omega) (icY_one _) (ic_rd1 w2 rv _ rfl) rfl rfl ?_; intro v3 w3 hown3 hb3 _; have HO3 := Lib.hid hown3; have HB3 := Lib.hid ((HB2.out.alloc hz2 _).trans hb3); clear hown3 hb3)
              go_roundw
              case rel =>
                refine ⟨k + 1, rv :: st, by omega, by go_num, by rw [List.length_cons, HLS.out]; omega, ?_, ?_, ?_, HB3.out⟩
                · show World.ownsRow _ _ _ _ _ _ _
                  rw [List.length_cons, HLS.out, rev_push, icY_app]
                  exact HO3.out
                · show _ = _
                  rw [List.length_cons, HLS.out]
                  have h := HE3.out
                  simpa using h
                · show _ = _
                  rw [HRL.out]
                  rfl
              case measure => (simp [intOf]) <;> omega

          · have h0' : (re == 0) = false := by simpa using h0
            go_wp2_with fail
            go_returns
            refine ⟨?_, HB2.out⟩
            rw [HRL.out]
            simp [h0])
      · by_cases hk511 : x.k = 5 ∨ x.k = 11
        · have hw1 : wks x.k = 1 := by rw [hwk, if_neg hk12, if_pos hk511]
          obtain ⟨p, rfl⟩ : ∃ p, q = p + 1 := ⟨q - 1, by omega⟩
          obtain ⟨a, s', hst⟩ : ∃ a s', st = a :: s' := by
            match st, HQ.out with
            | a :: s', _ => exact ⟨a, s', rfl⟩
            | [], h => simp at h
          have hsl : s'.length = p := by have := HQ.out; rw [hst] at this; simp at this; omega
          obtain ⟨t1, t2⟩ := rev_top hst
          rw [hsl] at t1 t2
          have HRL0 : Hid (R = if (onK x.k a).1 ≠ 0 then ((onK x.k a).1, []) else rnF (lfK l) onK twK ((onK x.k a).2 :: s') (ops.drop (k + 1))) := by
            show _ = _
            rw [HRX.out, hst, rn_un (lfK l) onK twK hw1]
          have HON := Lib.hid (fun w => kindOfOne_any w x.k a)
          obtain ⟨⟨re, rv⟩, hre⟩ : ∃ r, r = onK x.k a := ⟨_, rfl⟩
          rw [← hre] at HRL0 HON
          have HRL := HRL0
          obtain ⟨g, rfl, hg⟩ := own_cell1 HUQ.out t2
          have hg1 := cell_blz ((Below.refl wr.heap.size wr).alloc (Nat.le_refl _) (.cells #[.int .i64 x.k, .int .i64 x.v.k, .int .i64 x.v.n, .string x.v.t, .string x.t] 45)) hg
          have HOT0 : Hid ((wr.alloc (.cells #[.int .i64 x.k, .int .i64 x.v.k, .int .i64 x.v.n, .string x.v.t, .string x.t] 45)).ownsRow w.heap.size 3 1 (.slice (some ⟨g, 0, none⟩) p cp) p (icY s'.reverse)) := by
            have h := own_take (HUQ.out.alloc (.cells #[.int .i64 x.k, .int .i64 x.v.k, .int .i64 x.v.n, .string x.v.t, .string x.t] 45)) p (by omega)
            rw [ic_take, t1] at h
            exact h
          have HLS := Lib.hid hsl
          have HE3 : Hid (exF ((p : Int) + 1) (ops.drop (k + 1)) = 0) := by
            show _ = _
            rw [← HE2.out, hw1, ← HQ.out]
            congr 1
            omega
          obtain ⟨xk, ⟨vk, vn, vt⟩, xt⟩ := x
          simp only at c0 c1 c2 c3 c4 hk511 HBX HRL HON HOT0 hg1
          clear hre HRX hwk hw hkind hw1 hst hsl t1 t2 HRL0 HE2 HLX HQ HUQ hk12 hg
          rcases hk511 with rfl | rfl
          all_goals (
            go_wp2_with fail
            go_quiet ((go_at_call 30; exact Calls.quiet_of_same (quiet_kind (HON.out _))))
            by_cases h0 : re = 0
            · subst h0
              have hzx := HBX.out.size
              go_wp2_with (at_builtin; refine apg _ 1 rfl _ _ 83 3 _ 1 8 Tryz.underlying83 Tryz.info3 rfl (by omega) rfl ((own_below HOT0.out (below_drewN _ _)).alloc _) (by simp at hzx ⊢; omega) (by omega) (by unfold maxLen; omega) (icY_one _) (ic_rd1 _ rv (wr.heap.size + 1) (by simp)) rfl rfl ?_; intro v3 w3 hown3 hb3 _; have HO3 := Lib.hid hown3; have HB3 := Lib.hid ((((HBX.out.trans ((below_drewN _ _).mono HBX.out.size))).alloc hzx _).trans hb3); clear hown3 hb3)
              go_roundw
              case rel =>
                refine ⟨k + 1, rv :: s', by omega, by go_num, by rw [List.length_cons, HLS.out]; omega, ?_, ?_, ?_, HB3.out⟩
                · show World.ownsRow _ _ _ _ _ _ _
                  rw [List.length_cons, HLS.out, rev_push, icY_app]
                  exact HO3.out
                · show _ = _
                  rw [List.length_cons, HLS.out]
                  have h := HE3.out
                  simpa using h
                · show _ = _
                  rw [HRL.out]
                  rfl
              case measure => (simp [intOf]) <;> omega
            · have h0' : (re == 0) = false := by simpa using h0
              go_wp2_with fail
              go_returns
              refine ⟨?_, HBX.out.trans ((below_drewN _ _).mono HBX.out.size)⟩
              rw [HRL.out]
              simp [h0])
        · have hw2 : wks x.k = 2 := by rw [hwk, if_neg hk12, if_neg hk511]
          obtain ⟨p, rfl⟩ : ∃ p, q = p + 2 := ⟨q - 2, by omega⟩
          obtain ⟨a, c, s', hst⟩ : ∃ a c s', st = c :: a :: s' := by
            match st, HQ.out with
            | c :: a :: s', _ => exact ⟨a, c, s', rfl⟩
            | [], h => simp at h
            | [_], h => simp at h
          have hsl : s'.length = p := by have := HQ.out; rw [hst] at this; simp at this; omega
          obtain ⟨t1, t2, t3⟩ := rev_two hst
          rw [hsl] at t1 t2 t3
          have HRL : Hid (R = if (twK x.k a c).1 ≠ 0 then ((twK x.k a c).1, []) else rnF (lfK l) onK twK ((twK x.k a c).2 :: s') (ops.drop (k + 1))) := by
            show _ = _
            rw [HRX.out, hst, rn_bi (lfK l) onK twK hw2]
          have HON := Lib.hid (fun w => kindOfTwo_any w x.k a c)
          obtain ⟨⟨re, rv⟩, hre⟩ : ∃ r, r = twK x.k a c := ⟨_, rfl⟩
          rw [← hre] at HRL HON
          obtain ⟨g, rfl, hg⟩ := own_cell1 HUQ.out t2
          obtain ⟨g', hgg, hh⟩ := own_cell1 HUQ.out t3
          obtain rfl : g = g' := by simpa using hgg
          have hg1 := cell_blz ((Below.refl wr.heap.size wr).alloc (Nat.le_refl _) (.cells #[.int .i64 x.k, .int .i64 x.v.k, .int .i64 x.v.n, .string x.v.t, .string x.t] 45)) hg
          have hg2 := cell_blz ((Below.refl wr.heap.size wr).alloc (Nat.le_refl _) (.cells #[.int .i64 x.k, .int .i64 x.v.k, .int .i64 x.v.n, .string x.v.t, .string x.t] 45)) hh
          have HOT0 : Hid ((wr.alloc (.cells #[.int .i64 x.k, .int .i64 x.v.k, .int .i64 x.v.n, .string x.v.t, .string x.t] 45)).ownsRow w.heap.size 3 1 (.slice (some ⟨g, 0, none⟩) p cp) p (icY s'.reverse)) := by
            have h := own_take (HUQ.out.alloc (.cells #[.int .i64 x.k, .int .i64 x.v.k, .int .i64 x.v.n, .string x.v.t, .string x.t] 45)) p (by omega)
            rw [ic_take, t1] at h
            exact h
          have HLS := Lib.hid hsl
          have HE3 : Hid (exF ((p : Int) + 1) (ops.drop (k + 1)) = 0) := by
            show _ = _
            rw [← HE2.out, hw2, ← HQ.out]
            congr 1
            omega
          have e1 : (x.k == 1) = false := by simp; omega
          have e2 : (x.k == 2) = false := by simp; omega
          have e5 : (x.k == 5) = false := by simp; omega
          have e11 : (x.k == 11) = false := by simp; omega
          obtain ⟨xk, ⟨vk, vn, vt⟩, xt⟩ := x
          simp only at c0 c1 c2 c3 c4 HBX HRL HON HOT0 hg1 hg2 e1 e2 e5 e11
          clear hre HRX hwk hw hkind hw2 hst hsl t1 t2 t3 HE2 HLX HQ HUQ hk12 hk511 hg hh hgg
          all_goals (
            go_wp2_with fail
            go_quiet ((go_at_call 31; exact Calls.quiet_of_same (quiet_kind (HON.out _))))
            by_cases h0 : re = 0
            · subst h0
              have hzx := HBX.out.size
              go_wp2_with (at_builtin; refine apg _ 1 rfl _ _ 83 3 _ 1 8 Tryz.underlying83 Tryz.info3 rfl (by omega) rfl ((own_below HOT0.out (below_drewN _ _)).alloc _) (by simp at hzx ⊢; omega) (by omega) (by unfold maxLen; omega) (icY_one _) (ic_rd1 _ rv (wr.heap.size + 1) (by simp)) rfl rfl ?_; intro v3 w3 hown3 hb3 _; have HO3 := Lib.hid hown3; have HB3 := Lib.hid ((((HBX.out.trans ((below_drewN _ _).mono HBX.out.size))).alloc hzx _).trans hb3); clear hown3 hb3)
              go_roundw
              case rel =>
                refine ⟨k + 1, rv :: s', by omega, by go_num, by rw [List.length_cons, HLS.out]; omega, ?_, ?_, ?_, HB3.out⟩
                · show World.ownsRow _ _ _ _ _ _ _
                  rw [List.length_cons, HLS.out, rev_push, icY_app]
                  exact HO3.out
                · show _ = _
                  rw [List.length_cons, HLS.out]
                  have h := HE3.out
                  simpa using h
                · show _ = _
                  rw [HRL.out]
                  rfl
              case measure => (simp [intOf]) <;> omega
            · have h0' : (re == 0) = false := by simpa using h0
              go_wp2_with fail
              go_returns
              refine ⟨?_, HBX.out.trans ((below_drewN _ _).mono HBX.out.size)⟩
              rw [HRL.out]
              simp [h0])
    · obtain rfl : k = m := by omega
      have he := HE.out
      rw [List.drop_eq_nil_of_le (by rw [← HML.out]; exact Nat.le_refl _)] at he
      have h1 : st.length = 1 := by
        unfold exF at he
        split at he
        · omega
        · omega
      obtain ⟨x, rfl⟩ : ∃ x, st = [x] := by
        match st, h1 with
        | [x], _ => exact ⟨x, rfl⟩
      obtain ⟨g, rfl, hg⟩ := own_cell1 (j := 0) (x := x) HU.out rfl
      have HZ : Hid (R = (0, [x])) := by
        show _ = _
        rw [HRN.out, List.drop_eq_nil_of_le (by rw [← HML.out]; exact Nat.le_refl _)]
        rfl
      clear he HE HRN HU h1
      go_wp2_with fail
      go_returns
      refine ⟨?_, HB.out⟩
      rw [HZ.out]
      rfl
end Go.Proofs.YtmfkdpfcpdmkdaaGreatDoor
/- The kind of what an expression makes: the program. -/
namespace Go.Proofs.YtmfkdpfcpdmkdaaGreatDoor
open Go.ChangeShapes Go.WideShapes Go.ChangeAt Go.RowKit
set_option linter.unusedVariables false
set_option linter.unusedSimpArgs false
set_option maxHeartbeats 4000000
set_option maxRecDepth 1000000
/-- The kind of an expression: the fault, the kind. -/
def kindF (l : List Cq) (ops : List Oq) : Int × Int :=
  if colsF l ≠ 0 then (colsF l, 0) else if exprF ops ≠ 0 then (exprF ops, 0)
  else ((rnF (lfK l) onK twK [] ops).1, if (rnF (lfK l) onK twK [] ops).1 ≠ 0 then 0 else (rnF (lfK l) onK twK [] ops).2.headD 0)
/-- What it is of a tree. -/
theorem kindF_tree {l : List Cq} {t : Tx} (ht : t.ok) (h0 : colsF l = 0) (h1 : exprF t.flat = 0) : kindF l t.flat = ((evT (lfK l) onK twK t).1, if (evT (lfK l) onK twK t).1 ≠ 0 then 0 else (evT (lfK l) onK twK t).2) := by
  unfold kindF
  rw [if_neg (by simpa using h0), if_neg (by simpa using h1), rn_whole _ _ _ ht]
  by_cases h : (evT (lfK l) onK twK t).1 = 0
  · simp [h]
  · simp [h]
theorem kind_any (w : World) (hT : Tbs w) (n m : Nat) (v u : Value) (l : List Cq) (ops : List Oq) (hr : Rd w 2 n v (ccs l)) (hs : ∀ c ∈ l, c.t.size ≤ maxLen) (hu : Rd w 5 m u (ocs ops)) (hos : ∀ o ∈ ops, o.t.size ≤ maxLen) :
    Calls Tryz.prog 10 #[v, u] w fun e w' => e = .returned (.tuple #[.int .i64 (kindF l ops).2, .int .i64 (kindF l ops).1]) ∧ Below w.heap.size w w' := by
  obtain ⟨ao, cap, rfl⟩ : ∃ ao cap, v = .slice ao n cap := by
    obtain ⟨_, ao, cap, h, _⟩ := id hr
    exact ⟨ao, cap, h⟩
  have hb : Below w.heap.size w (w.alloc (.cells #[.slice ao n cap] 22)) := (Below.refl _ _).alloc (Nat.le_refl _) _
  have hx : (w.alloc (.cells #[.slice ao n cap] 22)).cell? ⟨w.heap.size, 0, none⟩ = some (.slice ao n cap) := by
    have h := new0 w (.cells #[.slice ao n cap] 22)
    simp only [World.cell?]
    rw [h]
    rfl
  have hc := cols_any _ (hT.below hb) n _ l (hr.below hb) hs
  have HE := Lib.hid (fun (W : World) (h : Below w.heap.size w W) => expr_any W (hT.m.below h) (hT.k.below h) (hT.o.below h) m u ops (hu.below h) hos)
  have HFD := Lib.hid (fun (W : World) (h : Below w.heap.size w W) (hx : W.cell? ⟨w.heap.size, 0, none⟩ = some (.slice ao n cap)) (h0 : exprF ops = 0) => fold_any W m u ops l w.heap.size (hu.below h) h0 (fun W2 h2 o => kind1_any W2 n ao cap l o w.heap.size (hr.below (into h h2)) (cell_blz h2 hx)))
  have hF : kindF l ops = if colsF l ≠ 0 then (colsF l, 0) else if exprF ops ≠ 0 then (exprF ops, 0) else ((rnF (lfK l) onK twK [] ops).1, if (rnF (lfK l) onK twK [] ops).1 ≠ 0 then 0 else (rnF (lfK l) onK twK [] ops).2.headD 0) := rfl
  obtain ⟨q, hq⟩ : ∃ q, q = colsF l := ⟨_, rfl⟩
  obtain ⟨x, hxx⟩ : ∃ x, x = exprF ops := ⟨_, rfl⟩
  obtain ⟨R, hR⟩ : ∃ R, R = rnF (lfK l) onK twK [] ops := ⟨_, rfl⟩
  rw [← hq] at hc hF
  rw [← hxx] at HE HFD hF
  rw [← hR] at HFD hF
  obtain ⟨z, hz⟩ : ∃ z, z = (if R.1 ≠ 0 then 0 else R.2.headD 0) := ⟨_, rfl⟩
  obtain ⟨y, hy⟩ : ∃ y, y = R.1 := ⟨_, rfl⟩
  have HFE : Hid (∀ W, Below w.heap.size w W → W.cell? ⟨w.heap.size, 0, none⟩ = some (.slice ao n cap) → x = 0 → Calls Tryz.prog 27 #[u, .func (.func 28) #[] #[.pointer (some ⟨w.heap.size, 0, none⟩)], .func (.func 30) #[] #[], .func (.func 31) #[] #[]] W fun e w' => e = .returned (.tuple #[.int .i64 z, .int .i64 y]) ∧ Below W.heap.size W w') := fun W h1 h2 h3 => by
    rw [hz, hy]
    exact HFD.out W h1 h2 h3
  rw [← hz, ← hy] at hF
  have HF := Lib.hid hF
  have HC := Lib.hid hc
  have HB := Lib.hid hb
  have HX := Lib.hid hx
  clear hb hx hc hF hq hxx hR hz hy HFD hr hs hu hos hT
  by_cases hq0 : q = 0
  · subst hq0
    by_cases hx0 : x = 0
    · subst hx0
      have HZ : Hid (kindF l ops = (y, z)) := by show _ = _; rw [HF.out]; simp
      go_enter Tryz.func10, Tryz.ntmps10
      go_wp2_with fail
      refine HC.out.mono ?_
      rintro e w1 ⟨rfl, hb1⟩
      have y0 := cell_blz hb1 HX.out
      have HB1 := Lib.hid (into HB.out hb1)
      clear hb1
      go_wp2_with fail
      refine (HE.out _ HB1.out).mono ?_
      rintro e w2 ⟨rfl, hb2⟩
      have y1 := cell_blz hb2 y0
      have HB2 := Lib.hid (into HB1.out hb2)
      clear hb2 y0
      go_wp2_with fail
      refine (HFE.out _ HB2.out y1 trivial).mono ?_
      rintro e w3 ⟨rfl, hb3⟩
      have HB3 := Lib.hid (into HB2.out hb3)
      clear hb3 y1
      go_wp2_with fail
      go_returns
      rw [HZ.out]
      exact ⟨rfl, HB3.out⟩
    · have hx0' : (x == 0) = false := by simpa using hx0
      have HZ : Hid (kindF l ops = (x, 0)) := by show _ = _; rw [HF.out]; simp [hx0]
      go_enter Tryz.func10, Tryz.ntmps10
      go_wp2_with fail
      refine HC.out.mono ?_
      rintro e w1 ⟨rfl, hb1⟩
      have HB1 := Lib.hid (into HB.out hb1)
      clear hb1
      go_wp2_with fail
      refine (HE.out _ HB1.out).mono ?_
      rintro e w2 ⟨rfl, hb2⟩
      have HB2 := Lib.hid (into HB1.out hb2)
      clear hb2
      go_wp2_with fail
      go_returns
      rw [HZ.out]
      exact ⟨rfl, HB2.out⟩
  · have hq0' : (q == 0) = false := by simpa using hq0
    have HZ : Hid (kindF l ops = (q, 0)) := by show _ = _; rw [HF.out, if_pos hq0]
    go_enter Tryz.func10, Tryz.ntmps10
    go_wp2_with fail
    refine HC.out.mono ?_
    rintro e w1 ⟨rfl, hb1⟩
    have HB1 := Lib.hid (into HB.out hb1)
    clear hb1
    go_wp2_with fail
    go_returns
    rw [HZ.out]
    exact ⟨rfl, HB1.out⟩
end Go.Proofs.YtmfkdpfcpdmkdaaGreatDoor
