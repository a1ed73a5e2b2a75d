import Derived.Test.YtakhkcabahhohaaDoorD3
namespace Go.Proofs.YtakhkcabahhohaaDoor
open Go.ChangeShapes Go.WideShapes Go.ChangeAt Go.RowKit
set_option linter.unusedVariables false
set_option linter.unusedSimpArgs false
set_option maxHeartbeats 2000000
theorem rd_tail {w w' : World} {m b o cap : Nat} {k : UInt8} {r : List UInt8} (hr : Rd w 1 (m + 1) (.slice (some ⟨b, o, none⟩) (m + 1) cap) (bc (k :: r))) (hb : Below w.heap.size w w') : Rd w' 1 m (.slice (some ⟨b, o + 1, none⟩) m (cap - 1)) (bc r) := by
  have h := rd_cut hr hb 1 (by omega) (q := ⟨b, o + 1, none⟩) (c := cap - 1) (m := m) (.inr rfl) (by omega) rfl
  have hl := len_b hr
  rw [show (k :: r).drop 1 = r from rfl, show r.length = m by simpa using hl.symm] at h
  exact h
theorem tak_1 {k : UInt8} {r : List UInt8} (h : k.toNat = 1) (hr : 1 ≤ r.length) : tak k r = takB r := by
  unfold tak takB
  rw [if_neg (by omega), if_neg (by rw [h]; show ¬ r.length < 1; omega), if_pos h]
theorem tak_2 {k : UInt8} {r : List UInt8} (h : k.toNat = 2) (hr : 8 ≤ r.length) : tak k r = takN r := by
  unfold tak takN
  rw [if_neg (by omega), if_neg (by rw [h]; simp [lst]; omega), if_neg (by omega), if_pos h]
theorem tak_3 {k : UInt8} {r : List UInt8} (h : k.toNat = 3) (hr : 2 ≤ r.length) : tak k r = takT r := by
  unfold tak takT
  rw [if_neg (by omega), if_neg (by rw [h]; simp [lst]; omega), if_neg (by omega), if_neg (by omega), if_pos h]
theorem tak_0 {k : UInt8} {r : List UInt8} (h : k.toNat = 0) : tak k r = (nul, r, 0) := by
  unfold tak
  rw [if_neg (by omega), if_neg (by rw [h]; simp [lst]), if_neg (by omega), if_neg (by omega), if_neg (by omega)]
theorem tak_bad {k : UInt8} {r : List UInt8} (h : 3 < k.toNat) : tak k r = (nul, [], 2) := by
  unfold tak
  rw [if_pos h]
theorem tak_short {k : UInt8} {r : List UInt8} (h : k.toNat ≤ 3) (hr : r.length < lst k.toNat) : tak k r = (nul, [], 7) := by
  unfold tak
  rw [if_neg (by omega), if_pos hr]
theorem take_bad (m : Nat) (v : Value) (k : UInt8) (r : List UInt8) (w0 w : World) (hw : Below w0.heap.size w0 w) (hm : m ≤ 99) (hL : Lst w) (hr0 : Rd w0 1 (m + 1) v (bc (k :: r))) (h : 3 < k.toNat) :
    Calls Tryd.prog 16 #[v] w fun e w' => ∃ v', e = .returned (.tuple #[va (tak k r).1, v', .int .i64 (tak k r).2.2]) ∧ Rd w0 1 (tak k r).2.1.length v' (bc (tak k r).2.1) ∧ Below w.heap.size w w' := by
  have hr := hr0.below hw
  obtain ⟨hl, b, o, cap, rfl, hnc, hcm, hbw, hcell⟩ := bytes_of hr (by omega)
  have hrl : r.length = m := by simpa using hl
  have c0 := hcell 0 (by omega)
  rw [Nat.add_zero, show (k :: r).getD 0 0 = k from rfl] at c0
  have HR := Lib.hid hr0
  have hcm' : (cap : Int) ≤ 9223372036854775807 := by unfold maxLen at hcm; omega
  have HLST := Lib.hid hL
  obtain ⟨L0, L1, L2, L3⟩ := hL
  have hb0 := lt_cell L2
  simp only at hb0
  have HL1 := Lib.hid hl
  have HW0 := Lib.hid hw
  clear hr hr0 hcell hl hw
  have h' : (4 : Int) ≤ (k.toNat : Int) := by omega
  have hk64 : wrap64 (k.toNat : Int) = (k.toNat : Int) := by have := k.toNat_lt; unfold wrap64; omega
  have HE := Lib.hid (tak_bad (r := r) h)
  clear L0 L1 L2 L3
  go_enter Tryd.func16, Tryd.ntmps16
  go_wp2
  go_region
  all_goals go_wp2
  all_goals (go_returns; rw [HE.out]; refine ⟨_, rfl, Rd.nil _ _, ?_⟩; go_grown)
theorem take_short1 (m : Nat) (v : Value) (k : UInt8) (r : List UInt8) (w0 w : World) (hw : Below w0.heap.size w0 w) (hm : m ≤ 99) (hL : Lst w) (hr0 : Rd w0 1 (m + 1) v (bc (k :: r))) (h : k.toNat = 1) (hs : m < 1) :
    Calls Tryd.prog 16 #[v] w fun e w' => ∃ v', e = .returned (.tuple #[va (tak k r).1, v', .int .i64 (tak k r).2.2]) ∧ Rd w0 1 (tak k r).2.1.length v' (bc (tak k r).2.1) ∧ Below w.heap.size w w' := by
  have hr := hr0.below hw
  obtain ⟨hl, b, o, cap, rfl, hnc, hcm, hbw, hcell⟩ := bytes_of hr (by omega)
  have hrl : r.length = m := by simpa using hl
  have c0 := hcell 0 (by omega)
  rw [Nat.add_zero, show (k :: r).getD 0 0 = k from rfl] at c0
  have HR := Lib.hid hr0
  have hcm' : (cap : Int) ≤ 9223372036854775807 := by unfold maxLen at hcm; omega
  have HLST := Lib.hid hL
  obtain ⟨L0, L1, L2, L3⟩ := hL
  have hb0 := lt_cell L2
  simp only at hb0
  have HL1 := Lib.hid hl
  have HW0 := Lib.hid hw
  clear hr hr0 hcell hl hw
  have h' : (k.toNat : Int) = 1 := by omega
  have hs' : (m : Int) < 1 := by omega
  have HE := Lib.hid (tak_short (r := r) (k := k) (by omega) (by rw [h, hrl]; simp [lst]; omega))
  clear h L0 L2 L3
  go_enter Tryd.func16, Tryd.ntmps16
  go_wp2
  go_region
  all_goals go_wp2
  all_goals (go_returns; rw [HE.out]; refine ⟨_, rfl, Rd.nil _ _, ?_⟩; go_grown)
theorem take_short2 (m : Nat) (v : Value) (k : UInt8) (r : List UInt8) (w0 w : World) (hw : Below w0.heap.size w0 w) (hm : m ≤ 99) (hL : Lst w) (hr0 : Rd w0 1 (m + 1) v (bc (k :: r))) (h : k.toNat = 2) (hs : m < 8) :
    Calls Tryd.prog 16 #[v] w fun e w' => ∃ v', e = .returned (.tuple #[va (tak k r).1, v', .int .i64 (tak k r).2.2]) ∧ Rd w0 1 (tak k r).2.1.length v' (bc (tak k r).2.1) ∧ Below w.heap.size w w' := by
  have hr := hr0.below hw
  obtain ⟨hl, b, o, cap, rfl, hnc, hcm, hbw, hcell⟩ := bytes_of hr (by omega)
  have hrl : r.length = m := by simpa using hl
  have c0 := hcell 0 (by omega)
  rw [Nat.add_zero, show (k :: r).getD 0 0 = k from rfl] at c0
  have HR := Lib.hid hr0
  have hcm' : (cap : Int) ≤ 9223372036854775807 := by unfold maxLen at hcm; omega
  have HLST := Lib.hid hL
  obtain ⟨L0, L1, L2, L3⟩ := hL
  have hb0 := lt_cell L2
  simp only at hb0
  have HL1 := Lib.hid hl
  have HW0 := Lib.hid hw
  clear hr hr0 hcell hl hw
  have h' : (k.toNat : Int) = 2 := by omega
  have hs' : (m : Int) < 8 := by omega
  have HE := Lib.hid (tak_short (r := r) (k := k) (by omega) (by rw [h, hrl]; simp [lst]; omega))
  clear h L0 L1 L3
  go_enter Tryd.func16, Tryd.ntmps16
  go_wp2
  go_region
  all_goals go_wp2
  all_goals (go_returns; rw [HE.out]; refine ⟨_, rfl, Rd.nil _ _, ?_⟩; go_grown)
theorem take_short3 (m : Nat) (v : Value) (k : UInt8) (r : List UInt8) (w0 w : World) (hw : Below w0.heap.size w0 w) (hm : m ≤ 99) (hL : Lst w) (hr0 : Rd w0 1 (m + 1) v (bc (k :: r))) (h : k.toNat = 3) (hs : m < 2) :
    Calls Tryd.prog 16 #[v] w fun e w' => ∃ v', e = .returned (.tuple #[va (tak k r).1, v', .int .i64 (tak k r).2.2]) ∧ Rd w0 1 (tak k r).2.1.length v' (bc (tak k r).2.1) ∧ Below w.heap.size w w' := by
  have hr := hr0.below hw
  obtain ⟨hl, b, o, cap, rfl, hnc, hcm, hbw, hcell⟩ := bytes_of hr (by omega)
  have hrl : r.length = m := by simpa using hl
  have c0 := hcell 0 (by omega)
  rw [Nat.add_zero, show (k :: r).getD 0 0 = k from rfl] at c0
  have HR := Lib.hid hr0
  have hcm' : (cap : Int) ≤ 9223372036854775807 := by unfold maxLen at hcm; omega
  have HLST := Lib.hid hL
  obtain ⟨L0, L1, L2, L3⟩ := hL
  have hb0 := lt_cell L2
  simp only at hb0
  have HL1 := Lib.hid hl
  have HW0 := Lib.hid hw
  clear hr hr0 hcell hl hw
  have h' : (k.toNat : Int) = 3 := by omega
  have hs' : (m : Int) < 2 := by omega
  have HE := Lib.hid (tak_short (r := r) (k := k) (by omega) (by rw [h, hrl]; simp [lst]; omega))
  clear h L0 L1 L2
  go_enter Tryd.func16, Tryd.ntmps16
  go_wp2
  go_region
  all_goals go_wp2
  all_goals (go_returns; rw [HE.out]; refine ⟨_, rfl, Rd.nil _ _, ?_⟩; go_grown)
theorem take_zero (m : Nat) (v : Value) (k : UInt8) (r : List UInt8) (w0 w : World) (hw : Below w0.heap.size w0 w) (hm : m ≤ 99) (hL : Lst w) (hr0 : Rd w0 1 (m + 1) v (bc (k :: r))) (h : k.toNat = 0) :
    Calls Tryd.prog 16 #[v] w fun e w' => ∃ v', e = .returned (.tuple #[va (tak k r).1, v', .int .i64 (tak k r).2.2]) ∧ Rd w0 1 (tak k r).2.1.length v' (bc (tak k r).2.1) ∧ Below w.heap.size w w' := by
  have hr := hr0.below hw
  obtain ⟨hl, b, o, cap, rfl, hnc, hcm, hbw, hcell⟩ := bytes_of hr (by omega)
  have hrl : r.length = m := by simpa using hl
  have c0 := hcell 0 (by omega)
  rw [Nat.add_zero, show (k :: r).getD 0 0 = k from rfl] at c0
  have HR := Lib.hid hr0
  have hcm' : (cap : Int) ≤ 9223372036854775807 := by unfold maxLen at hcm; omega
  have HLST := Lib.hid hL
  obtain ⟨L0, L1, L2, L3⟩ := hL
  have hb0 := lt_cell L2
  simp only at hb0
  have HL1 := Lib.hid hl
  have HW0 := Lib.hid hw
  clear hr hr0 hcell hl hw
  have h' : (k.toNat : Int) = 0 := by omega
  have HE := Lib.hid (tak_0 (r := r) h)
  clear h L1 L2 L3
  go_enter Tryd.func16, Tryd.ntmps16
  go_wp2
  go_region
  all_goals go_wp2
  all_goals (go_returns; rw [HE.out])
  · refine ⟨_, rfl, rd_cut HR.out (Below.refl _ _) 1 (by omega) (.inl (by omega)) (by omega) (by omega), ?_⟩ <;> go_grown
  · refine ⟨_, rfl, rd_cut HR.out (Below.refl _ _) 1 (by omega) (.inr rfl) (by omega) (by omega), ?_⟩ <;> go_grown
theorem take_1 (m : Nat) (v : Value) (k : UInt8) (r : List UInt8) (w0 w : World) (hw : Below w0.heap.size w0 w) (hm : m ≤ 99) (hL : Lst w) (hr0 : Rd w0 1 (m + 1) v (bc (k :: r))) (h : k.toNat = 1) (hs : 1 ≤ m) :
    Calls Tryd.prog 16 #[v] w fun e w' => ∃ v', e = .returned (.tuple #[va (tak k r).1, v', .int .i64 (tak k r).2.2]) ∧ Rd w0 1 (tak k r).2.1.length v' (bc (tak k r).2.1) ∧ Below w.heap.size w w' := by
  have hr := hr0.below hw
  obtain ⟨hl, b, o, cap, rfl, hnc, hcm, hbw, hcell⟩ := bytes_of hr (by omega)
  have hrl : r.length = m := by simpa using hl
  have c0 := hcell 0 (by omega)
  rw [Nat.add_zero, show (k :: r).getD 0 0 = k from rfl] at c0
  have HR := Lib.hid hr0
  have hcm' : (cap : Int) ≤ 9223372036854775807 := by unfold maxLen at hcm; omega
  have HLST := Lib.hid hL
  obtain ⟨L0, L1, L2, L3⟩ := hL
  have hb0 := lt_cell L2
  simp only at hb0
  have HL1 := Lib.hid hl
  have HW0 := Lib.hid hw
  clear hr hr0 hcell hl hw
  have h' : (k.toNat : Int) = 1 := by omega
  have hs' : ¬ (m : Int) < 1 := by omega
  have HE := Lib.hid (tak_1 (r := r) (k := k) h (by omega))
  clear h L0 L2 L3
  go_enter Tryd.func16, Tryd.ntmps16
  go_wp2
  go_region
  go_wp2_with (go_at_call 24; refine (tb_any m _ r w0 _ (HW0.out.trans (Below.mono (B := w.heap.size) (by go_grown) HW0.out.size)) (by omega) (rd_tail HR.out (Below.refl _ _))).mono ?_; rintro e w1 ⟨v1, rfl, hr1, hb1⟩; obtain ⟨hz1, hB1, r0, r1, r2, r3, r4, r5⟩ := box_drew hb1)
  refine bodyPost_ret (by simp [results, Tryd.results16, go_sem, r0, r1, r2]; try rfl) rfl ?_
  rw [HE.out]
  exact ⟨_, rfl, hr1, ((hB1.setCell (p := ⟨w.heap.size, 0, none⟩) (Nat.le_refl _) _).setCell (p := ⟨w.heap.size, 1, none⟩) (Nat.le_refl _) _).setCell (p := ⟨w.heap.size, 2, none⟩) (Nat.le_refl _) _⟩
theorem take_2 (m : Nat) (v : Value) (k : UInt8) (r : List UInt8) (w0 w : World) (hw : Below w0.heap.size w0 w) (hm : m ≤ 99) (hL : Lst w) (hr0 : Rd w0 1 (m + 1) v (bc (k :: r))) (h : k.toNat = 2) (hs : 8 ≤ m) :
    Calls Tryd.prog 16 #[v] w fun e w' => ∃ v', e = .returned (.tuple #[va (tak k r).1, v', .int .i64 (tak k r).2.2]) ∧ Rd w0 1 (tak k r).2.1.length v' (bc (tak k r).2.1) ∧ Below w.heap.size w w' := by
  have hr := hr0.below hw
  obtain ⟨hl, b, o, cap, rfl, hnc, hcm, hbw, hcell⟩ := bytes_of hr (by omega)
  have hrl : r.length = m := by simpa using hl
  have c0 := hcell 0 (by omega)
  rw [Nat.add_zero, show (k :: r).getD 0 0 = k from rfl] at c0
  have HR := Lib.hid hr0
  have hcm' : (cap : Int) ≤ 9223372036854775807 := by unfold maxLen at hcm; omega
  have HLST := Lib.hid hL
  obtain ⟨L0, L1, L2, L3⟩ := hL
  have hb0 := lt_cell L2
  simp only at hb0
  have HL1 := Lib.hid hl
  have HW0 := Lib.hid hw
  clear hr hr0 hcell hl hw
  have h' : (k.toNat : Int) = 2 := by omega
  have hs' : ¬ (m : Int) < 8 := by omega
  have HE := Lib.hid (tak_2 (r := r) (k := k) h (by omega))
  clear h L0 L1 L3
  go_enter Tryd.func16, Tryd.ntmps16
  go_wp2
  go_region
  go_wp2_with (go_at_call 25; refine (tn_any m _ r w0 _ (HW0.out.trans (Below.mono (B := w.heap.size) (by go_grown) HW0.out.size)) (by omega) (HLST.out.below (by go_grown)) (rd_tail HR.out (Below.refl _ _))).mono ?_; rintro e w1 ⟨v1, rfl, hr1, hb1⟩; obtain ⟨hz1, hB1, r0, r1, r2, r3, r4, r5⟩ := box_drew hb1)
  refine bodyPost_ret (by simp [results, Tryd.results16, go_sem, r0, r1, r2]; try rfl) rfl ?_
  rw [HE.out]
  exact ⟨_, rfl, hr1, ((hB1.setCell (p := ⟨w.heap.size, 0, none⟩) (Nat.le_refl _) _).setCell (p := ⟨w.heap.size, 1, none⟩) (Nat.le_refl _) _).setCell (p := ⟨w.heap.size, 2, none⟩) (Nat.le_refl _) _⟩
theorem take_3 (m : Nat) (v : Value) (k : UInt8) (r : List UInt8) (w0 w : World) (hw : Below w0.heap.size w0 w) (hm : m ≤ 99) (hL : Lst w) (hr0 : Rd w0 1 (m + 1) v (bc (k :: r))) (h : k.toNat = 3) (hs : 2 ≤ m) :
    Calls Tryd.prog 16 #[v] w fun e w' => ∃ v', e = .returned (.tuple #[va (tak k r).1, v', .int .i64 (tak k r).2.2]) ∧ Rd w0 1 (tak k r).2.1.length v' (bc (tak k r).2.1) ∧ Below w.heap.size w w' := by
  have hr := hr0.below hw
  obtain ⟨hl, b, o, cap, rfl, hnc, hcm, hbw, hcell⟩ := bytes_of hr (by omega)
  have hrl : r.length = m := by simpa using hl
  have c0 := hcell 0 (by omega)
  rw [Nat.add_zero, show (k :: r).getD 0 0 = k from rfl] at c0
  have HR := Lib.hid hr0
  have hcm' : (cap : Int) ≤ 9223372036854775807 := by unfold maxLen at hcm; omega
  have HLST := Lib.hid hL
  obtain ⟨L0, L1, L2, L3⟩ := hL
  have hb0 := lt_cell L2
  simp only at hb0
  have HL1 := Lib.hid hl
  have HW0 := Lib.hid hw
  clear hr hr0 hcell hl hw
  have h' : (k.toNat : Int) = 3 := by omega
  have hs' : ¬ (m : Int) < 2 := by omega
  have HE := Lib.hid (tak_3 (r := r) (k := k) h (by omega))
  clear h L0 L1 L2
  go_enter Tryd.func16, Tryd.ntmps16
  go_wp2
  go_region
  go_wp2_with (go_at_call 26; refine (tt_any m _ r w0 _ (HW0.out.trans (Below.mono (B := w.heap.size) (by go_grown) HW0.out.size)) (by omega) (by omega) (rd_tail HR.out (Below.refl _ _))).mono ?_; rintro e w1 ⟨v1, rfl, hr1, hb1⟩; obtain ⟨hz1, hB1, r0, r1, r2, r3, r4, r5⟩ := box_drew hb1)
  refine bodyPost_ret (by simp [results, Tryd.results16, go_sem, r0, r1, r2]; try rfl) rfl ?_
  rw [HE.out]
  exact ⟨_, rfl, hr1, ((hB1.setCell (p := ⟨w.heap.size, 0, none⟩) (Nat.le_refl _) _).setCell (p := ⟨w.heap.size, 1, none⟩) (Nat.le_refl _) _).setCell (p := ⟨w.heap.size, 2, none⟩) (Nat.le_refl _) _⟩
theorem take_any (m : Nat) (v : Value) (k : UInt8) (r : List UInt8) (w0 w : World) (hw : Below w0.heap.size w0 w) (hm : m ≤ 99) (hL : Lst w) (hr0 : Rd w0 1 (m + 1) v (bc (k :: r))) :
    Calls Tryd.prog 16 #[v] w fun e w' => ∃ v', e = .returned (.tuple #[va (tak k r).1, v', .int .i64 (tak k r).2.2]) ∧ Rd w0 1 (tak k r).2.1.length v' (bc (tak k r).2.1) ∧ Below w.heap.size w w' := by
  have h : k.toNat = 0 ∨ (k.toNat = 1 ∧ m < 1) ∨ (k.toNat = 1 ∧ 1 ≤ m) ∨ (k.toNat = 2 ∧ m < 8) ∨ (k.toNat = 2 ∧ 8 ≤ m) ∨ (k.toNat = 3 ∧ m < 2) ∨ (k.toNat = 3 ∧ 2 ≤ m) ∨ 3 < k.toNat := by omega
  rcases h with h | ⟨h, g⟩ | ⟨h, g⟩ | ⟨h, g⟩ | ⟨h, g⟩ | ⟨h, g⟩ | ⟨h, g⟩ | h
  · exact take_zero m v k r w0 w hw hm hL hr0 h
  · exact take_short1 m v k r w0 w hw hm hL hr0 h g
  · exact take_1 m v k r w0 w hw hm hL hr0 h g
  · exact take_short2 m v k r w0 w hw hm hL hr0 h g
  · exact take_2 m v k r w0 w hw hm hL hr0 h g
  · exact take_short3 m v k r w0 w hw hm hL hr0 h g
  · exact take_3 m v k r w0 w hw hm hL hr0 h g
  · exact take_bad m v k r w0 w hw hm hL hr0 h
end Go.Proofs.YtakhkcabahhohaaDoor
