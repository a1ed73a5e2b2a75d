import Derived.Test.YtnheepkmaibofaaDoorUhk
import Derived.Test.YtnheepkmaibofaaDoorUck
/- Ops: what they lack, by the document. -/
namespace Go.Proofs.YtnheepkmaibofaaDoor
open Go.ChangeShapes Go.WideShapes Go.ChangeAt Go.RowKit
set_option linter.unusedVariables false
set_option linter.unusedSimpArgs false
set_option maxHeartbeats 40000000
theorem works_any (w : World) (k : Int) : Calls Tryd.prog 82 #[.int .i64 k] w fun e w' => e = .returned (.int .i64 (wks k)) ∧ w = w' := by
  have h : k = 1 ∨ k = 2 ∨ k = 5 ∨ k = 11 ∨ (¬ k = 1 ∧ ¬ k = 2 ∧ ¬ k = 5 ∧ ¬ k = 11) := by omega
  rcases h with rfl | rfl | rfl | rfl | ⟨h1, h2, h3, h4⟩
  · go_enter Tryd.func82, Tryd.ntmps82
    go_wp2
    go_ret
    exact ⟨rfl, rfl⟩
  · go_enter Tryd.func82, Tryd.ntmps82
    go_wp2
    go_ret
    exact ⟨rfl, rfl⟩
  · go_enter Tryd.func82, Tryd.ntmps82
    go_wp2
    go_ret
    exact ⟨rfl, rfl⟩
  · go_enter Tryd.func82, Tryd.ntmps82
    go_wp2
    go_ret
    exact ⟨rfl, rfl⟩
  · have h1' : (k == 1) = false := by simpa using h1
    have h2' : (k == 2) = false := by simpa using h2
    have h3' : (k == 5) = false := by simpa using h3
    have h4' : (k == 11) = false := by simpa using h4
    have HW : Hid (wks k = 2) := by
      show _ = _
      unfold wks
      rw [if_neg (by omega), if_neg (by omega)]
    clear h1 h2 h3 h4
    go_enter Tryd.func82, Tryd.ntmps82
    go_wp2
    go_ret
    exact ⟨ri HW.out.symm, rfl⟩
theorem nlen {l : List Oq} {v : Value} {m : Nat} {w : World} (h : Rd w 5 m v (ocs l)) : m = l.length := len_o h
set_option maxRecDepth 100000 in
theorem rexpr_any (w : World) (m : Nat) (v : Value) (l : List Oq) (hr : Rd w 5 m v (ocs l)) (hs : ∀ o ∈ l, o.t.size ≤ maxLen) :
    Calls Tryd.prog 54 #[v] w fun e w' => e = .returned (.int .i64 (exprF l)) ∧ Below w.heap.size w w' := by
  have hml := len_o hr
  have hmax := hr.len
  unfold maxLen at hmax
  by_cases h40 : 40 < m
  · have HF : Hid (exprF l = 10) := by
      show _ = _
      unfold exprF
      rw [if_pos (by omega)]
    obtain ⟨_, ao, cap, rfl, _⟩ := hr
    clear hml
    go_enter Tryd.func54, Tryd.ntmps54
    go_wp2_with fail
    go_ret
    exact ⟨ri HF.out.symm, Below.refl _ _⟩
  · have HF : Hid (exprF l = exF 0 l) := by
      show _ = _
      unfold exprF
      rw [if_neg (by omega)]
    by_cases h0 : m = 0
    · have hl0 : l = [] := List.eq_nil_of_length_eq_zero (by omega)
      subst hl0 h0
      obtain ⟨_, ao, cap, rfl, _⟩ := hr
      clear hml
      go_enter Tryd.func54, Tryd.ntmps54
      go_wp2_with fail
      go_rounds 1
      go_ret
      exact ⟨ri HF.out.symm, Below.refl _ _⟩
    · obtain ⟨b, o, cap, rfl, _, _, hbw, hcell⟩ := ops_of hr (by omega)
      have HC := Lib.hid hcell
      have HS := Lib.hid hs
      have HML := Lib.hid hml
      clear hcell hs hr hml
      go_enter Tryd.func54, Tryd.ntmps54
      go_wp2_with fail
      go_loopw [3, 4] (fun lf i wr => ∃ (k : Nat) (n : Int), k ≤ m ∧ i = .int .i64 (k : Int) ∧ lf = .int .i64 n ∧ 0 ≤ n ∧ n ≤ 2 * (k : Int) ∧ Hid (exF 0 l = exF n (l.drop k)) ∧ Hid (Below w.heap.size w wr)) (fun _ i _ => m - (intOf i).toNat)
      case atStart => exact ⟨0, 0, by omega, rfl, rfl, by omega, by omega, rfl, Below.refl _ _⟩
      case round =>
        obtain ⟨k, n, hk, rfl, rfl, hn0, hnk, HE, HB⟩ := hrel
        by_cases hlt : k < m
        · have hHC := HC.out k hlt
          have hsz := HS.out _ (getD_mem (l := l) (k := k) (by rw [← HML.out]; exact hlt))
          have hdr := drop_cons (l := l) (k := k) (by rw [← HML.out]; exact hlt)
          obtain ⟨u, hu⟩ : ∃ u, u = l.getD k noq := ⟨_, rfl⟩
          rw [← hu] at hHC hsz hdr
          obtain ⟨uk, ⟨vk, vn, vt⟩, ut⟩ := u
          obtain ⟨g0, g1, g2, g3, g4⟩ := hHC
          have c0 := (HB.out.cell (p := ⟨b, o + k * 5, none⟩) hbw).trans g0
          have c1 := (HB.out.cell (p := ⟨b, o + k * 5 + 1, none⟩) hbw).trans g1
          have c2 := (HB.out.cell (p := ⟨b, o + k * 5 + 2, none⟩) hbw).trans g2
          have c3 := (HB.out.cell (p := ⟨b, o + k * 5 + 3, none⟩) hbw).trans g3
          have c4 := (HB.out.cell (p := ⟨b, o + k * 5 + 4, none⟩) hbw).trans g4
          simp only at c0 c1 c2 c3 c4 hsz
          have hE : exF n (l.drop k) = if opF uk vk vn vt ut ≠ 0 then opF uk vk vn vt ut else if n < wks uk then 7 else exF (n + 1 - wks uk) (l.drop (k + 1)) := by
            rw [hdr]
            rfl
          have hbn : Below w.heap.size w (wr.alloc (.cells #[.int .i64 uk, .int .i64 vk, .int .i64 vn, .string vt, .string ut] 46)) := HB.out.alloc HB.out.size _
          have HEQ := Lib.hid hE
          have HBN := Lib.hid hbn
          clear g0 g1 g2 g3 g4 hu hdr hE hbn
          by_cases hkd : 1 ≤ uk ∧ uk ≤ 11
          · have HI := Lib.hid (fun W => in_is W uk 1 11 true (by simpa using hkd))
            obtain ⟨k1, k11⟩ := hkd
            have hcs : uk = 1 ∨ uk = 2 ∨ 3 ≤ uk := by omega
            rcases hcs with rfl | rfl | hk3
            · have hO : opF 1 vk vn vt ut = if litF vk vn vt ≠ 0 then litF vk vn vt else if ((1 : Int) ≠ 1 ∧ vnul vk vn vt = false) ∨ ((1 : Int) ≠ 2 ∧ ut.toList.isEmpty = false) then 6 else if (1 : Int) = 2 then nmF ut.data.toList else 0 := by
                unfold opF
                rw [if_neg (by omega)]
                try rfl
              have hl := rlit_any vk vn vt (wr.alloc (.cells #[.int .i64 1, .int .i64 vk, .int .i64 vn, .string vt, .string ut] 46))
              obtain ⟨r, hr⟩ : ∃ r, r = litF vk vn vt := ⟨_, rfl⟩
              rw [← hr] at hl hO
              have hnm := fun W => nameFault_any W ut hsz
              obtain ⟨nm, hnmE⟩ : ∃ nm, nm = nmF ut.data.toList := ⟨_, rfl⟩
              rw [← hnmE] at hnm hO
              have hwk := fun W => works_any W 1
              obtain ⟨q0, q2⟩ := wks_in 1
              obtain ⟨q, hq⟩ : ∃ q, q = wks 1 := ⟨_, rfl⟩
              rw [← hq] at hwk q0 q2 HEQ
              obtain ⟨z, hz⟩ : ∃ z, z = opF 1 vk vn vt ut := ⟨_, rfl⟩
              rw [← hz] at HEQ hO
              have HL := Lib.hid hl
              have HO := Lib.hid hO
              have HN := Lib.hid hnm
              have HW := Lib.hid hwk
              clear hl hO hnm hwk hr hnmE hq hz
              have h63 : wrap64 (wrap64 (n - q) + 1) = n + 1 - q := by unfold wrap64; omega
              by_cases hr0 : r = 0
              · subst hr0
                go_wp2_with (go_at_call 24; refine (HI.out _).mono ?_; rintro e w' ⟨rfl, rfl⟩)
                refine HL.out.mono ?_
                rintro e w2 ⟨rfl, hb2⟩
                obtain ⟨x0, x1, x2, x3, x4⟩ := has5 (new0 wr (.cells #[.int .i64 1, .int .i64 vk, .int .i64 vn, .string vt, .string ut] 46)) hb2
                have hlz : wr.heap.size < w2.heap.size := by have := hb2.size; simp at this; omega
                have HB2 := Lib.hid (into HBN.out hb2)
                clear hb2 HL HBN HS HML HC
                go_wp2_with (first | (go_at_call 25; ((with_reducible refine (HN.out _).mono ?_); rintro e w3 ⟨rfl, hb3⟩; have y0 := (hb3.cell (p := ⟨wr.heap.size, 0, none⟩) hlz).trans x0; have HB2 := Lib.hid (into HB2.out hb3); clear hb3)) | (go_at_call 82; ((with_reducible refine (HW.out _).mono ?_); rintro e w' ⟨rfl, rfl⟩)))
                all_goals (first
                  | (go_ret
                     refine ⟨ri ?_, HB2.out⟩
                     rw [HF.out, HE.out, HEQ.out]
                     have hO := HO.out
                     clear HO HF HE HEQ HB HB2 HN HW HI
                     simp_all [vnul]
                     try omega)
                  | (go_roundw
                     case rel =>
                       refine ⟨k + 1, n + 1 - q, by omega, by go_num, ?_, by omega, by omega, ?_, HB2.out⟩
                       · first | rfl | (congr 1; omega)
                       · show _ = _
                         rw [HE.out, HEQ.out]
                         have hO := HO.out
                         clear HO HF HE HEQ HB HB2 HN HW HI
                         simp_all [vnul]
                         try omega
                     case measure => simp [intOf]; omega))
              · have hr0' : (r == 0) = false := by simpa using hr0
                have hz : z = r := by rw [HO.out, if_pos hr0]
                subst hz
                clear HO
                go_wp2_with (go_at_call 24; refine (HI.out _).mono ?_; rintro e w' ⟨rfl, rfl⟩)
                refine HL.out.mono ?_
                rintro e w2 ⟨rfl, hb2⟩
                obtain ⟨x0, x1, x2, x3, x4⟩ := has5 (new0 wr (.cells #[.int .i64 1, .int .i64 vk, .int .i64 vn, .string vt, .string ut] 46)) hb2
                have HB2 := Lib.hid (into HBN.out hb2)
                clear hb2 HL
                go_wp2_with fail
                all_goals (
                  go_ret
                  exact ⟨ri (by rw [HF.out, HE.out, HEQ.out, if_pos hr0]), HB2.out⟩)
            · have hO : opF 2 vk vn vt ut = if litF vk vn vt ≠ 0 then litF vk vn vt else if ((2 : Int) ≠ 1 ∧ vnul vk vn vt = false) ∨ ((2 : Int) ≠ 2 ∧ ut.toList.isEmpty = false) then 6 else if (2 : Int) = 2 then nmF ut.data.toList else 0 := by
                unfold opF
                rw [if_neg (by omega)]
                try rfl
              have hl := rlit_any vk vn vt (wr.alloc (.cells #[.int .i64 2, .int .i64 vk, .int .i64 vn, .string vt, .string ut] 46))
              obtain ⟨r, hr⟩ : ∃ r, r = litF vk vn vt := ⟨_, rfl⟩
              rw [← hr] at hl hO
              have hnm := fun W => nameFault_any W ut hsz
              obtain ⟨nm, hnmE⟩ : ∃ nm, nm = nmF ut.data.toList := ⟨_, rfl⟩
              rw [← hnmE] at hnm hO
              have hwk := fun W => works_any W 2
              obtain ⟨q0, q2⟩ := wks_in 2
              obtain ⟨q, hq⟩ : ∃ q, q = wks 2 := ⟨_, rfl⟩
              rw [← hq] at hwk q0 q2 HEQ
              obtain ⟨z, hz⟩ : ∃ z, z = opF 2 vk vn vt ut := ⟨_, rfl⟩
              rw [← hz] at HEQ hO
              have HL := Lib.hid hl
              have HO := Lib.hid hO
              have HN := Lib.hid hnm
              have HW := Lib.hid hwk
              clear hl hO hnm hwk hr hnmE hq hz
              have h63 : wrap64 (wrap64 (n - q) + 1) = n + 1 - q := by unfold wrap64; omega
              by_cases hr0 : r = 0
              · subst hr0
                go_wp2_with (go_at_call 24; refine (HI.out _).mono ?_; rintro e w' ⟨rfl, rfl⟩)
                refine HL.out.mono ?_
                rintro e w2 ⟨rfl, hb2⟩
                obtain ⟨x0, x1, x2, x3, x4⟩ := has5 (new0 wr (.cells #[.int .i64 2, .int .i64 vk, .int .i64 vn, .string vt, .string ut] 46)) hb2
                have hlz : wr.heap.size < w2.heap.size := by have := hb2.size; simp at this; omega
                have HB2 := Lib.hid (into HBN.out hb2)
                clear hb2 HL HBN HS HML HC
                go_wp2_with (first | (go_at_call 25; ((with_reducible refine (HN.out _).mono ?_); rintro e w3 ⟨rfl, hb3⟩; have y0 := (hb3.cell (p := ⟨wr.heap.size, 0, none⟩) hlz).trans x0; have HB2 := Lib.hid (into HB2.out hb3); clear hb3)) | (go_at_call 82; ((with_reducible refine (HW.out _).mono ?_); rintro e w' ⟨rfl, rfl⟩)))
                all_goals (first
                  | (go_ret
                     refine ⟨ri ?_, HB2.out⟩
                     rw [HF.out, HE.out, HEQ.out]
                     have hO := HO.out
                     clear HO HF HE HEQ HB HB2 HN HW HI
                     simp_all [vnul]
                     try omega)
                  | (go_roundw
                     case rel =>
                       refine ⟨k + 1, n + 1 - q, by omega, by go_num, ?_, by omega, by omega, ?_, HB2.out⟩
                       · first | rfl | (congr 1; omega)
                       · show _ = _
                         rw [HE.out, HEQ.out]
                         have hO := HO.out
                         clear HO HF HE HEQ HB HB2 HN HW HI
                         simp_all [vnul]
                         try omega
                     case measure => simp [intOf]; omega))
              · have hr0' : (r == 0) = false := by simpa using hr0
                have hz : z = r := by rw [HO.out, if_pos hr0]
                subst hz
                clear HO
                go_wp2_with (go_at_call 24; refine (HI.out _).mono ?_; rintro e w' ⟨rfl, rfl⟩)
                refine HL.out.mono ?_
                rintro e w2 ⟨rfl, hb2⟩
                obtain ⟨x0, x1, x2, x3, x4⟩ := has5 (new0 wr (.cells #[.int .i64 2, .int .i64 vk, .int .i64 vn, .string vt, .string ut] 46)) hb2
                have HB2 := Lib.hid (into HBN.out hb2)
                clear hb2 HL
                go_wp2_with fail
                all_goals (
                  go_ret
                  exact ⟨ri (by rw [HF.out, HE.out, HEQ.out, if_pos hr0]), HB2.out⟩)
            · have e1 : (uk == 1) = false := by simp; omega
              have e2 : (uk == 2) = false := by simp; omega
              have hO : opF uk vk vn vt ut = if litF vk vn vt ≠ 0 then litF vk vn vt else if ((uk : Int) ≠ 1 ∧ vnul vk vn vt = false) ∨ ((uk : Int) ≠ 2 ∧ ut.toList.isEmpty = false) then 6 else if (uk : Int) = 2 then nmF ut.data.toList else 0 := by
                unfold opF
                rw [if_neg (by omega)]
                try rfl
              have hl := rlit_any vk vn vt (wr.alloc (.cells #[.int .i64 uk, .int .i64 vk, .int .i64 vn, .string vt, .string ut] 46))
              obtain ⟨r, hr⟩ : ∃ r, r = litF vk vn vt := ⟨_, rfl⟩
              rw [← hr] at hl hO
              have hnm := fun W => nameFault_any W ut hsz
              obtain ⟨nm, hnmE⟩ : ∃ nm, nm = nmF ut.data.toList := ⟨_, rfl⟩
              rw [← hnmE] at hnm hO
              have hwk := fun W => works_any W uk
              obtain ⟨q0, q2⟩ := wks_in uk
              obtain ⟨q, hq⟩ : ∃ q, q = wks uk := ⟨_, rfl⟩
              rw [← hq] at hwk q0 q2 HEQ
              obtain ⟨z, hz⟩ : ∃ z, z = opF uk vk vn vt ut := ⟨_, rfl⟩
              rw [← hz] at HEQ hO
              have HL := Lib.hid hl
              have HO := Lib.hid hO
              have HN := Lib.hid hnm
              have HW := Lib.hid hwk
              clear hl hO hnm hwk hr hnmE hq hz
              have h63 : wrap64 (wrap64 (n - q) + 1) = n + 1 - q := by unfold wrap64; omega
              by_cases hr0 : r = 0
              · subst hr0
                go_wp2_with (go_at_call 24; refine (HI.out _).mono ?_; rintro e w' ⟨rfl, rfl⟩)
                refine HL.out.mono ?_
                rintro e w2 ⟨rfl, hb2⟩
                obtain ⟨x0, x1, x2, x3, x4⟩ := has5 (new0 wr (.cells #[.int .i64 uk, .int .i64 vk, .int .i64 vn, .string vt, .string ut] 46)) hb2
                have hlz : wr.heap.size < w2.heap.size := by have := hb2.size; simp at this; omega
                have HB2 := Lib.hid (into HBN.out hb2)
                clear hb2 HL HBN HS HML HC
                by_cases hnq : n < q
                all_goals (
                  go_wp2_with (first | (go_at_call 25; ((with_reducible refine (HN.out _).mono ?_); rintro e w3 ⟨rfl, hb3⟩; have y0 := (hb3.cell (p := ⟨wr.heap.size, 0, none⟩) hlz).trans x0; have HB2 := Lib.hid (into HB2.out hb3); clear hb3)) | (go_at_call 82; ((with_reducible refine (HW.out _).mono ?_); rintro e w' ⟨rfl, rfl⟩))))
                all_goals (try (
                  go_wp2_with (first | (go_at_call 25; ((with_reducible refine (HN.out _).mono ?_); rintro e w3 ⟨rfl, hb3⟩; have y0 := (hb3.cell (p := ⟨wr.heap.size, 0, none⟩) hlz).trans x0; have HB2 := Lib.hid (into HB2.out hb3); clear hb3)) | (go_at_call 82; ((with_reducible refine (HW.out _).mono ?_); rintro e w' ⟨rfl, rfl⟩)))))
                all_goals (first
                  | (exfalso; omega)
                  | (go_ret
                     refine ⟨ri ?_, HB2.out⟩
                     rw [HF.out, HE.out, HEQ.out]
                     have hO := HO.out
                     clear HO HF HE HEQ HB HB2 HN HW HI
                     simp_all [vnul]
                     try omega)
                  | (go_roundw
                     case rel =>
                       refine ⟨k + 1, n + 1 - q, by omega, by go_num, ?_, by omega, by omega, ?_, HB2.out⟩
                       · first | rfl | (congr 1; omega)
                       · show _ = _
                         rw [HE.out, HEQ.out]
                         have hO := HO.out
                         clear HO HF HE HEQ HB HB2 HN HW HI
                         simp_all [vnul]
                         try omega
                     case measure => simp [intOf]; omega))
              · have hr0' : (r == 0) = false := by simpa using hr0
                have hz : z = r := by rw [HO.out, if_pos hr0]
                subst hz
                clear HO
                go_wp2_with (go_at_call 24; refine (HI.out _).mono ?_; rintro e w' ⟨rfl, rfl⟩)
                refine HL.out.mono ?_
                rintro e w2 ⟨rfl, hb2⟩
                obtain ⟨x0, x1, x2, x3, x4⟩ := has5 (new0 wr (.cells #[.int .i64 uk, .int .i64 vk, .int .i64 vn, .string vt, .string ut] 46)) hb2
                have HB2 := Lib.hid (into HBN.out hb2)
                clear hb2 HL
                go_wp2_with fail
                all_goals (
                  go_ret
                  exact ⟨ri (by rw [HF.out, HE.out, HEQ.out, if_pos hr0]), HB2.out⟩)
          · have HI := Lib.hid (fun W => in_is W uk 1 11 false (by simp; omega))
            have hO : opF uk vk vn vt ut = 2 := by
              unfold opF
              rw [if_pos (by omega)]
            rw [hO] at HEQ
            clear hO
            go_wp2_with (go_at_call 24; refine (HI.out _).mono ?_; rintro e w' ⟨rfl, rfl⟩)
            go_ret
            exact ⟨ri (by rw [HF.out, HE.out, HEQ.out, if_pos (by decide)]), HBN.out⟩
        · obtain rfl : k = m := by omega
          have hE : exF n (l.drop k) = if n = 1 then 0 else 7 := by
            rw [List.drop_eq_nil_of_le (by rw [← HML.out]; exact Nat.le_refl _)]
            rfl
          have HEQ := Lib.hid hE
          clear hE
          by_cases hn1 : n = 1
          · subst hn1
            go_wp2_with fail
            go_ret
            exact ⟨ri (by rw [HF.out, HE.out, HEQ.out]; simp), HB.out⟩
          · have hn1' : (n == 1) = false := by simpa using hn1
            go_wp2_with fail
            go_ret
            exact ⟨ri (by rw [HF.out, HE.out, HEQ.out, if_neg hn1]), HB.out⟩
end Go.Proofs.YtnheepkmaibofaaDoor
