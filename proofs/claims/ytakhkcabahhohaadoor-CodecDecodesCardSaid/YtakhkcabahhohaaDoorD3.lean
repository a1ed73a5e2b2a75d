import Derived.Test.YtakhkcabahhohaaDoorD2
namespace Go.Proofs.YtakhkcabahhohaaDoor
open Go.ChangeShapes Go.WideShapes Go.ChangeAt Go.RowKit
set_option linter.unusedVariables false
set_option linter.unusedSimpArgs false
set_option maxHeartbeats 1000000
def takT (l : List UInt8) : V × List UInt8 × Int := if (scan l []).2.2 = 0 then (⟨3, 0, ⟨(scan l []).1.toArray⟩⟩, (scan l []).2.1, 0) else (nul, [], (scan l []).2.2)
theorem own_tt {w : World} {B e s n n' : Nat} {v : Value} {xs ys : List Value} (h : w.ownsRow B e s v n xs) (hn : n = n') (hx : xs = ys) : w.ownsRow B e s v n' ys := by subst hn; subst hx; exact h
theorem drop_two {l : List UInt8} {j : Nat} (h : j + 1 < l.length) : l.drop j = l.getD j 0 :: l.getD (j + 1) 0 :: l.drop (j + 2) := by
  rw [List.drop_eq_getElem_cons (show j < l.length by omega), List.drop_eq_getElem_cons h]
  simp [List.getD, h, show j < l.length by omega]
theorem drop_one {l : List UInt8} {j : Nat} (h : j < l.length) : l.drop j = l.getD j 0 :: l.drop (j + 1) := by
  rw [List.drop_eq_getElem_cons h]
  simp [List.getD, h]
theorem scan_end {l acc : List UInt8} (h : l.length ≤ 1) : scan l acc = ([], [], 6) := by
  match l, h with
  | [], _ => rw [scan]
  | [_], _ => rw [scan]
theorem tt_any (n : Nat) (v : Value) (l : List UInt8) (w0 w : World) (hw : Below w0.heap.size w0 w) (hn : 2 ≤ n) (hn2 : n ≤ 100) (hr0 : Rd w0 1 n v (bc l)) :
    Calls Tryd.prog 26 #[v] w fun e w' => ∃ v', e = .returned (.tuple #[va (takT l).1, v', .int .i64 (takT l).2.2]) ∧ Rd w0 1 (takT l).2.1.length v' (bc (takT l).2.1) ∧ Below w.heap.size w w' := by
  have hr := hr0.below hw
  obtain ⟨hl, b, o, cap, rfl, hnc, hcm, hbw, hcell⟩ := bytes_of hr (by omega)
  have HC := Lib.hid hcell
  have HR := Lib.hid hr0
  have hcm' : (cap : Int) ≤ 9223372036854775807 := by unfold maxLen at hcm; omega
  clear hr hr0 hcell
  go_enter Tryd.func26, Tryd.ntmps26
  go_wp2
  obtain ⟨W1, hW1⟩ : ∃ W1, W1 = w.alloc (.cells #[.int .i64 0, .int .i64 0, .string ⟨#[]⟩] 35) := ⟨_, rfl⟩
  have hz1 : W1.heap.size = w.heap.size + 1 := by rw [hW1]; simp
  have hWB : Below w.heap.size w W1 := by rw [hW1]; go_grown
  have hnew : W1.heap[w.heap.size]? = some (.cells #[.int .i64 0, .int .i64 0, .string ⟨#[]⟩] 35 (0, 0)) := by rw [hW1]; exact new0 _ _
  rw [← hW1]
  have HNEW := Lib.hid hnew
  have HZ1 := Lib.hid hz1
  clear hW1 hnew hz1
  go_loopw [5, 6] (fun s i wr => ∃ (j : Nat) (acc : List UInt8), j ≤ n ∧ acc.length ≤ j ∧ i = .int .i64 (j : Int) ∧ wr.ownsRow W1.heap.size 5 1 s acc.length (bc acc) ∧ scan (l.drop j) acc = scan l [] ∧ Below W1.heap.size W1 wr) (fun _ i _ => n - (intOf i).toNat)
  case atStart => exact ⟨0, [], by omega, by simp, rfl, by simpa [bc] using World.ownsRow_nil _ _ _ _, rfl, Below.refl _ _⟩
  case round =>
    obtain ⟨j, acc, hj, hacc, rfl, hown, hsc, hb⟩ := hrel
    have hz := hb.size
    have HW := Lib.hid hown
    have HSC := Lib.hid hsc
    have hB : Below w.heap.size w wr := hWB.trans (hb.mono (by rw [HZ1.out]; omega))
    have hzw : w.heap.size < wr.heap.size := by have := HZ1.out; omega
    obtain ⟨r0, r1, r2, r3, r4, r5⟩ := has3 HNEW.out hb
    clear hown hsc
    by_cases hlt : j + 1 < n
    · obtain ⟨x, hx⟩ : ∃ x, x = l.getD j 0 := ⟨_, rfl⟩
      obtain ⟨y, hy⟩ : ∃ y, y = l.getD (j + 1) 0 := ⟨_, rfl⟩
      have HD : Hid (l.drop j = x :: y :: l.drop (j + 2)) := by rw [hx, hy]; exact drop_two (by omega)
      have HD1 : Hid (l.drop (j + 1) = y :: l.drop (j + 2)) := by rw [hy]; exact drop_one (by omega)
      have c0 := (hB.cell (p := ⟨b, o + j, none⟩) hbw).trans (HC.out j (by omega))
      have c1 := (hB.cell (p := ⟨b, o + (j + 1), none⟩) hbw).trans (HC.out (j + 1) hlt)
      rw [← hx] at c0
      rw [← hy] at c1
      clear hx hy
      by_cases hx0 : x = 0
      · have hxn : (x.toNat : Int) = 0 := by rw [hx0]; rfl
        by_cases hy255 : y = 255
        · have hyn : (y.toNat : Int) = 255 := by rw [hy255]; rfl
          go_wp2_with (at_builtin; refine ap1 wr rfl (.tmp 41) (.tmp 42) rfl HW.out hz (by omega) rfl _ rfl rfl rfl ?_; intro v1 w1 hown1 hb1 _)
          go_roundw
          case rel =>
            refine ⟨j + 2, acc ++ [0], by omega, by simp; omega, by go_num, ?_, ?_, hb.trans hb1⟩
            · exact own_tt hown1 (by simp) (by simp [bc])
            · rw [← HSC.out, HD.out, hx0, hy255, scan]; simp
          case measure => simp [intOf]; omega
        · have hyn : ¬ (y.toNat : Int) = 255 := fun g => hy255 (UInt8.toNat_inj.1 (by show y.toNat = 255; omega))
          by_cases hy0 : y = 0
          · have hyn0 : (y.toNat : Int) = 0 := by rw [hy0]; rfl
            obtain ⟨_, ao', cap', rfl, _, _⟩ := Rd.own HW.out
            have q1 := str_of (Rd.own HW.out)
            have q2 := str_of ((Rd.own HW.out).below (w' := wr.drew) ((Below.refl _ _).drew))
            by_cases h20 : 20 < acc.length
            · have h20' : (20 : Int) < (acc.length : Int) := by omega
              go_wp2_with fail
              refine bodyPost_ret (by simp [results, Tryd.results26, go_sem, r0, r1, r2]; try rfl) rfl ?_
              have hs : scan l [] = ([], [], 1) := by rw [← HSC.out, HD.out, hx0, hy0, scan, if_neg (by simp), if_neg (by decide), if_neg (by simp), if_pos h20]
              have e : takT l = (nul, [], 1) := by rw [takT, hs]; rfl
              rw [e]
              exact ⟨_, rfl, Rd.nil _ _, ((hB.setCell (p := ⟨w.heap.size, 0, none⟩) (Nat.le_refl _) _).setCell (p := ⟨w.heap.size, 1, none⟩) (Nat.le_refl _) _).setCell (p := ⟨w.heap.size, 2, none⟩) (Nat.le_refl _) _⟩
            · have h20' : ¬ (20 : Int) < (acc.length : Int) := by omega
              go_wp2_with fail
              go_region
              all_goals go_wp2
              all_goals refine bodyPost_ret (by simp [results, Tryd.results26, go_sem, r0, r1, r2]; try rfl) rfl ?_
              all_goals (
                have hs : scan l [] = (acc, l.drop (j + 2), 0) := by rw [← HSC.out, HD.out, hx0, hy0, scan, if_neg (by simp), if_neg (by decide), if_neg (by simp), if_neg h20]
                have e : takT l = (⟨3, 0, ⟨acc.toArray⟩⟩, l.drop (j + 2), 0) := by rw [takT, hs]; rfl
                rw [e]
                have hBB := (((hB.setCell (p := ⟨w.heap.size, 0, none⟩) (Nat.le_refl _) (.int .i64 3)).setCell (p := ⟨w.heap.size, 1, none⟩) (Nat.le_refl _) (.int .i64 0)).setCell (p := ⟨w.heap.size, 2, none⟩) (Nat.le_refl _) (.string ⟨acc.toArray⟩)).drew)
              · exact ⟨_, rfl, rd_cut HR.out (Below.refl _ _) (j + 2) (by omega) (.inl (by omega)) (by omega) (by omega), hBB⟩
              · exact ⟨_, rfl, rd_cut HR.out (Below.refl _ _) (j + 2) (by omega) (.inr rfl) (by omega) (by omega), hBB⟩
          · have hyn0 : ¬ (y.toNat : Int) = 0 := fun g => hy0 (UInt8.toNat_inj.1 (by simpa using g))
            go_wp2_with fail
            refine bodyPost_ret (by simp [results, Tryd.results26, go_sem, r0, r1, r2]; try rfl) rfl ?_
            have hs : scan l [] = ([], [], 6) := by rw [← HSC.out, HD.out, hx0, scan, if_neg (by simp), if_neg hy255, if_pos hy0]
            have e : takT l = (nul, [], 6) := by rw [takT, hs]; rfl
            rw [e]
            exact ⟨_, rfl, Rd.nil _ _, ((hB.setCell (p := ⟨w.heap.size, 0, none⟩) (Nat.le_refl _) _).setCell (p := ⟨w.heap.size, 1, none⟩) (Nat.le_refl _) _).setCell (p := ⟨w.heap.size, 2, none⟩) (Nat.le_refl _) _⟩
      · have hxn : ¬ (x.toNat : Int) = 0 := fun g => hx0 (UInt8.toNat_inj.1 (by simpa using g))
        go_wp2_with (at_builtin; refine ap1 wr rfl (.tmp 27) (.tmp 32) rfl HW.out hz (by omega) rfl _ rfl rfl rfl ?_; intro v1 w1 hown1 hb1 _)
        go_roundw
        case rel =>
          refine ⟨j + 1, acc ++ [x], by omega, by simp; omega, by go_num, ?_, ?_, hb.trans hb1⟩
          · exact own_tt hown1 (by simp) (by simp [bc])
          · rw [← HSC.out, HD.out, scan, if_pos hx0, HD1.out]
        case measure => simp [intOf]; omega
    · go_wp2_with fail
      refine bodyPost_ret (by simp [results, Tryd.results26, go_sem, r0, r1, r2]; try rfl) rfl ?_
      have hs : scan l [] = ([], [], 6) := by rw [← HSC.out, scan_end (by rw [List.length_drop]; omega)]
      have e : takT l = (nul, [], 6) := by rw [takT, hs]; rfl
      rw [e]
      exact ⟨_, rfl, Rd.nil _ _, ((hB.setCell (p := ⟨w.heap.size, 0, none⟩) (Nat.le_refl _) _).setCell (p := ⟨w.heap.size, 1, none⟩) (Nat.le_refl _) _).setCell (p := ⟨w.heap.size, 2, none⟩) (Nat.le_refl _) _⟩
end Go.Proofs.YtakhkcabahhohaaDoor
