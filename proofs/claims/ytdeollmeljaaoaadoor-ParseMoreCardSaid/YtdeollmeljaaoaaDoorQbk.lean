import Derived.Test.YtdeollmeljaaoaaDoorAzk
import Derived.Test.YtdeollmeljaaoaaDoorUbk
import Derived.Test.YtdeollmeljaaoaaDoorSak
import Derived.Deep.RegionWith
set_option linter.unusedVariables false
set_option linter.unusedSimpArgs false
set_option maxHeartbeats 2000000
open Go.ChangeAt Go.ChangeShapes Go.RowKit Go.WideShapes
open Go.Lib (hid)
namespace Go.Proofs.YtdeollmeljaaoaaDoor
theorem len_c {w : World} {n : Nat} {v : Value} {l : List Cq} (h : Rd w 2 n v (ccs l)) : n = l.length := by have := h.1; rw [ccs_length] at this; omega
theorem cols_of {w : World} {n : Nat} {v : Value} {l : List Cq} (h : Rd w 2 n v (ccs l)) (hn : 0 < n) :
  ∃ b o cap, v = .slice (some ⟨b, o, none⟩) n cap ∧ n ≤ cap ∧ cap ≤ maxLen ∧ b < w.heap.size ∧ ∀ k, k < n → w.cell? ⟨b, o + k * 2, none⟩ = some (.string (l.getD k ncq).t) ∧ w.cell? ⟨b, o + k * 2 + 1, none⟩ = some (.int .i64 (l.getD k ncq).k) := by
 have hl := len_c h
 obtain ⟨b, o, cap, h1, h2, h3, h4, h5⟩ := h.pos hn (by omega)
 refine ⟨b, o, cap, h1, h2, h3, h4, fun k hk => ?_⟩
 obtain ⟨g0, g1⟩ := ccs_at (l := l) (k := k) (by omega)
 refine ⟨h5 _ _ g0, ?_⟩
 have := h5 _ _ g1; rwa [← Nat.add_assoc] at this
theorem has2 {w0 w1 : World} {B : Nat} {t : TypeId} {x y : Value} (h : w0.heap[B]? = some (.cells #[x, y] t (0, 0))) (hb : Below w0.heap.size w0 w1) :
  w1.cell? ⟨B, 0, none⟩ = some x ∧ w1.cell? ⟨B, 1, none⟩ = some y := by
 have hB : B < w0.heap.size := by
  rcases Nat.lt_or_ge B w0.heap.size with g | g
  ·exact g
  ·rw [Array.getElem?_eq_none g] at h; cases h
 have h1 : w1.heap[B]? = some (.cells #[x, y] t (0, 0)) := (hb.block B hB).trans h
 refine ⟨?_, ?_⟩ <;> simp [World.cell?, h1]
theorem hasC_at {l : List Cq} {k : Nat} {t : ByteArray} (h : k < l.length) (e : (l.getD k ncq).t = t) : hasC l t = true := by
 unfold hasC
 rw [List.any_eq_true]
 refine ⟨_, cgetD_mem h, ?_⟩
 rw [e]
 simp
theorem hasC_none {l : List Cq} {t : ByteArray} (h : ∀ j, j < l.length → (l.getD j ncq).t ≠ t) : hasC l t = false := by
 unfold hasC
 rw [List.any_eq_false]
 intro c hc
 obtain ⟨j, hj, e⟩ := List.getElem_of_mem hc
 have := h j hj
 rw [List.getD, List.getElem?_eq_getElem hj] at this
 simp only [Option.getD_some] at this
 rw [e] at this
 rw [Bool.not_eq_true]
 exact st_beq this
theorem hasColumn_any (w : World) (n : Nat) (v : Value) (l : List Cq) (t : ByteArray) (hr : Rd w 2 n v (ccs l)) :
  Calls Tryd.prog 65 #[v, .string t] w fun e w' => e = .returned (.bool (hasC l t)) ∧ Below w.heap.size w w' := by
 have hml := len_c hr
 have hmax := hr.len
 unfold maxLen at hmax
 by_cases h0 : n = 0
 ·have hl0 : l = [] := List.eq_nil_of_length_eq_zero (by omega)
  subst hl0 h0
  obtain ⟨_, ao, cap, rfl, _⟩ := hr.zero
  clear hml
  go_enter Tryd.func65, Tryd.ntmps65
  go_wp2_with fail
  go_rounds 1
  go_ret
  exact ⟨rfl, Below.refl _ _⟩
 ·obtain ⟨b, o, cap, rfl, _, _, hbw, hcell⟩ := cols_of hr (by omega)
  have HC := hid hcell
  have HN := hid hml
  clear hcell hr hml
  go_enter Tryd.func65, Tryd.ntmps65
  go_wp2_with fail
  go_loopw [9] (fun i wr => ∃ k : Nat, k ≤ n ∧ i = .int .i64 (k : Int) ∧ Hid (∀ j, j < k → (l.getD j ncq).t ≠ t) ∧ Hid (Below w.heap.size w wr)) (fun i _ => n - (intOf i).toNat)
  case atStart => exact ⟨0, by omega, rfl, (fun j hj => absurd hj (by omega)), Below.refl _ _⟩
  case round =>
   obtain ⟨k, hk, rfl, HA, HB⟩ := hrel
   by_cases hlt : k < n
   ·obtain ⟨g0, g1⟩ := HC.out k hlt
    have c0 := (HB.out.cell (p := ⟨b, o + k * 2, none⟩) hbw).trans g0
    have c1 := (HB.out.cell (p := ⟨b, o + k * 2 + 1, none⟩) hbw).trans g1
    obtain ⟨u, hu⟩ : ∃ u, u = l.getD k ncq := ⟨_, rfl⟩
    have HU := hid hu
    rw [← hu] at c0 c1
    clear g0 g1 hu
    obtain ⟨ut, uk⟩ := u
    simp only at c0 c1
    by_cases he : ut = t
    ·subst he
     go_wp2_with fail
     go_ret
     exact ⟨rb (hasC_at (by rw [← HN.out]; exact hlt) (by rw [← HU.out])).symm, HB.out.alloc HB.out.size _⟩
    ·have hne := st_beq he
     have HE := hid he
     clear he
     go_wp2_with fail
     go_roundw
     case rel =>
      refine ⟨k + 1, by omega, by go_num, fun j hj => ?_, HB.out.alloc HB.out.size _⟩
      rcases Nat.lt_or_ge j k with h | h
      ·exact HA.out j h
      ·obtain rfl : j = k := by omega
       rw [← HU.out]
       exact HE.out
     case measure => simp [intOf]; omega
   ·obtain rfl : k = n := by omega
    go_wp2_with fail
    go_ret
    exact ⟨rb (hasC_none (fun j hj => HA.out j (by rw [HN.out]; exact hj))).symm, HB.out⟩
theorem checkCols_any (w : World) (hM : Mk w) (hK : Kt w) (n : Nat) (v : Value) (l : List Cq) (hr : Rd w 2 n v (ccs l)) (hs : ∀ c ∈ l, c.t.size ≤ maxLen) :
  Calls Tryd.prog 43 #[v] w fun e w' => e = .returned (.int .i64 (colsF l)) ∧ Below w.heap.size w w' := by
 have hml := len_c hr
 have hmax := hr.len
 unfold maxLen at hmax
 have HR := hid hr
 obtain ⟨_, ao, cap, rfl, hcap, _⟩ := hr
 by_cases h1 : n < 1 ∨ 6 < n
 ·have HF : Hid (colsF l = 1) := by
   show _ = _
   unfold colsF
   rw [if_pos (by omega)]
  clear hml HR
  go_enter Tryd.func43, Tryd.ntmps43
  go_wp2_with fail
  all_goals (go_ret; exact ⟨ri HF.out.symm, Below.refl _ _⟩)
 ·have HF : Hid (colsF l = clF [] l) := by
   show _ = _
   unfold colsF
   rw [if_neg (by omega)]
  obtain ⟨b, o, cap', hv, _, _, hbw, hcell⟩ := cols_of HR.out (by omega)
  simp only [Value.slice.injEq] at hv
  obtain ⟨rfl, -, rfl⟩ := hv
  have HC := hid hcell
  have HN := hid hml
  have HS := hid hs
  have HX := hid (And.intro hM hK)
  clear hcell hml hs hM hK
  go_enter Tryd.func43, Tryd.ntmps43
  go_wp2_with fail
  go_loopw [16] (fun i wr => ∃ k : Nat, k ≤ n ∧ i = .int .i64 (k : Int) ∧ Hid (clF [] l = clF (l.take k) (l.drop k)) ∧ Hid (Below w.heap.size w wr)) (fun i _ => n - (intOf i).toNat)
  case atStart => exact ⟨0, by omega, rfl, by simp [Hid], Below.refl _ _⟩
  case round =>
   obtain ⟨k, hk, rfl, HE, HB⟩ := hrel
   by_cases hlt : k < n
   ·obtain ⟨g0, g1⟩ := HC.out k hlt
    have c0 := (HB.out.cell (p := ⟨b, o + k * 2, none⟩) hbw).trans g0
    have c1 := (HB.out.cell (p := ⟨b, o + k * 2 + 1, none⟩) hbw).trans g1
    have hll : k < l.length := by rw [← HN.out]; exact hlt
    have hsz := HS.out _ (cgetD_mem hll)
    have hdr := cdrop_cons hll
    have htk := ctake_snoc hll
    obtain ⟨u, hu⟩ : ∃ u, u = l.getD k ncq := ⟨_, rfl⟩
    rw [← hu] at c0 c1 hsz hdr htk
    clear g0 g1 hu
    obtain ⟨ut, uk⟩ := u
    simp only at c0 c1 hsz
    have hbn : Below w.heap.size w (wr.alloc (.cells #[.string ut, .int .i64 uk] 75)) := HB.out.alloc HB.out.size _
    have hnm := name_any _ (HX.out.1.below hbn) (HX.out.2.below hbn) ut hsz
    have hE : clF (l.take k) (l.drop k) = if nmF ut.data.toList ≠ 0 then nmF ut.data.toList else if uk < 1 ∨ 3 < uk then 2 else if hasC (l.take k) ut = true then 9 else clF (l.take (k + 1)) (l.drop (k + 1)) := by
     rw [hdr, htk]
     rfl
    obtain ⟨r, hr⟩ : ∃ r, r = nmF ut.data.toList := ⟨_, rfl⟩
    rw [← hr] at hnm hE
    have hhas : ∀ w1, Below w.heap.size w w1 → Calls Tryd.prog 65 #[.slice (some ⟨b, o, none⟩) k cap, .string ut] w1 fun e w' => e = .returned (.bool (hasC (l.take k) ut)) ∧ Below w1.heap.size w1 w' := fun w1 hb1 => by
     have h := (HR.out.below hb1).take k hk
     rw [ccs_take] at h
     exact hasColumn_any w1 k _ _ ut h
    obtain ⟨q, hq⟩ : ∃ q, q = hasC (l.take k) ut := ⟨_, rfl⟩
    rw [← hq] at hE hhas
    have HNM := hid hnm
    have HHS := hid hhas
    have HEQ := hid hE
    have HBN := hid hbn
    clear hnm hhas hE hbn hr hq hdr htk
    go_wp2_with fail
    refine HNM.out.mono ?_
    rintro e w2 ⟨rfl, hb2⟩
    obtain ⟨x0, x1⟩ := has2 (new0 wr (.cells #[.string ut, .int .i64 uk] 75)) hb2
    have HB2 := hid (into HBN.out hb2)
    clear hb2 HNM
    by_cases hr0 : r = 0
    ·subst hr0
     by_cases hk3 : uk = 1 ∨ uk = 2 ∨ uk = 3
     ·have HG : Hid (clF [] l = if q = true then 9 else clF (l.take (k + 1)) (l.drop (k + 1))) := by
       show _ = _
       rw [HE.out, HEQ.out, if_neg (by simp), if_neg (by omega)]
      have HZ : Hid (∀ w1, Below w.heap.size w w1 → Calls Tryd.prog 65 #[.slice (some ⟨b, o, none⟩) k cap, .string ut] w1 fun e w' => e = .returned (.bool q) ∧ Below w1.heap.size w1 w') := HHS
      have hkc : (k : Int) ≤ (cap : Int) := by omega
      cases q
      all_goals (
       rcases hk3 with rfl | rfl | rfl
       all_goals (
        go_wp2_with fail
        go_region_with (go_at_call 65; (with_reducible refine (HZ.out _ (HB2.out.drew)).mono ?_); rintro e w3 ⟨rfl, hb3⟩)
        have HB3 := hid (into HB2.out.drew hb3)
        clear hb3
        go_wp2_with fail
        first
        | (go_ret; exact ⟨ri (by rw [HF.out, HG.out]; rfl), HB3.out⟩)
        | (go_roundw
           case rel => exact ⟨k + 1, by omega, by go_num, by show _ = _; rw [HG.out]; rfl, HB3.out⟩
           case measure => simp [intOf]; omega)))
     ·have e1 : (uk == 1) = false := by simp; omega
      have e2 : (uk == 2) = false := by simp; omega
      have e3 : (uk == 3) = false := by simp; omega
      have HG : Hid (clF [] l = 2) := by
       show _ = _
       rw [HE.out, HEQ.out, if_neg (by simp), if_pos (by omega)]
      go_wp2_with fail
      all_goals (first | (exfalso; omega) | (go_ret; exact ⟨ri (by rw [HF.out, HG.out]), HB2.out⟩))
    ·have hr0' : (r == 0) = false := by simpa using hr0
     go_wp2_with fail
     go_ret
     exact ⟨ri (by rw [HF.out, HE.out, HEQ.out, if_pos hr0]), HB2.out⟩
   ·obtain rfl : k = n := by omega
    have HG : Hid (clF [] l = 0) := by
     show _ = _
     rw [HE.out, List.drop_eq_nil_of_le (by rw [← HN.out]; exact Nat.le_refl _)]
     rfl
    go_wp2_with fail
    go_ret
    exact ⟨ri (by rw [HF.out, HG.out]), HB.out⟩
end Go.Proofs.YtdeollmeljaaoaaDoor
