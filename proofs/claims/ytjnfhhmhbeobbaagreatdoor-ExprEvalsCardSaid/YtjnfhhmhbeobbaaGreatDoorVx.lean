/- OneOf and TwoOf: the document (stage 1's texts). -/
import Derived.Test.YtjnfhhmhbeobbaaGreatDoorVv
import Derived.Test.YtjnfhhmhbeobbaaGreatDoorPn
namespace Go.Proofs.YtjnfhhmhbeobbaaGreatDoor.vv
open Go.ChangeShapes Go.WideShapes Go.ChangeAt Go.RowKit
set_option linter.unusedVariables false
set_option linter.unusedSimpArgs false
set_option maxHeartbeats 400000
theorem in_any (a b c : Int) (w : World) :
    Calls Tryz.prog 55 #[.int .i64 a, .int .i64 b, .int .i64 c] w fun e w' => e = .returned (.bool (decide (b ≤ a) && decide (a ≤ c))) ∧ w = w' := by
  go_enter Tryz.func55, Tryz.ntmps55
  go_wp2
  all_goals (go_ret; refine ⟨rb ?_, rfl⟩; rw [Bool.eq_iff_iff]; simp; try omega)

theorem vf_any (k n : Int) (s : ByteArray) (w : World) :
    Calls Tryz.prog 38 #[.agg #[.int .i64 k, .int .i64 n, .string s]] w fun e w' => e = .returned (.int .i64 (chk k n s)) ∧ Below w.heap.size w w' := by
  have hk : k < 0 ∨ 3 < k ∨ k = 0 ∨ k = 1 ∨ k = 2 ∨ k = 3 := by omega
  rcases hk with hk | hk | rfl | rfl | rfl | rfl
  · go_enter Tryz.func38, Tryz.ntmps38
    go_wp2
    all_goals (go_ret; refine ⟨ri ?_, by go_grown⟩; simp_all [chk])
  · have hk' : 0 ≤ k := by omega
    have hd : decide (k ≤ 3) = false := by simp; omega
    go_enter Tryz.func38, Tryz.ntmps38
    go_wp2
    all_goals (go_ret; refine ⟨ri ?_, by go_grown⟩; simp_all [chk]; try omega)
  · by_cases ht : s.toList.isEmpty = true
    · by_cases hn : n = 0
      all_goals (
        go_enter Tryz.func38, Tryz.ntmps38
        go_wp2)
      all_goals (go_ret; refine ⟨ri ?_, by go_grown⟩; simp_all [chk, nmb]; try omega)
    · simp only [Bool.not_eq_true] at ht
      go_enter Tryz.func38, Tryz.ntmps38
      go_wp2
      all_goals (go_ret; refine ⟨ri ?_, by go_grown⟩; simp_all [chk, nmb]; try omega)
  · by_cases ht : s.toList.isEmpty = true
    · have hn : n < 0 ∨ 1 < n ∨ n = 0 ∨ n = 1 := by omega
      rcases hn with hn | hn | rfl | rfl
      · go_enter Tryz.func38, Tryz.ntmps38
        go_wp2
        all_goals (go_ret; refine ⟨ri ?_, by go_grown⟩; simp_all [chk, nmb]; try omega)
      · have hn' : 0 ≤ n := by omega
        have hd : decide (n ≤ 1) = false := by simp; omega
        go_enter Tryz.func38, Tryz.ntmps38
        go_wp2
        all_goals (go_ret; refine ⟨ri ?_, by go_grown⟩; simp_all [chk, nmb]; try omega)
      all_goals (
        go_enter Tryz.func38, Tryz.ntmps38
        go_wp2)
      all_goals (go_ret; refine ⟨ri ?_, by go_grown⟩; simp_all [chk, nmb]; try omega)
    · simp only [Bool.not_eq_true] at ht
      go_enter Tryz.func38, Tryz.ntmps38
      go_wp2
      all_goals (go_ret; refine ⟨ri ?_, by go_grown⟩; simp_all [chk, nmb]; try omega)
  · by_cases ht : s.toList.isEmpty = true
    · go_enter Tryz.func38, Tryz.ntmps38
      go_wp2
      all_goals (go_ret; refine ⟨ri ?_, by go_grown⟩; simp_all [chk, nmb]; try omega)
    · simp only [Bool.not_eq_true] at ht
      go_enter Tryz.func38, Tryz.ntmps38
      go_wp2
      all_goals (go_ret; refine ⟨ri ?_, by go_grown⟩; simp_all [chk, nmb]; try omega)
  · by_cases hn : n = 0
    all_goals (
        go_enter Tryz.func38, Tryz.ntmps38
        go_wp2)
    all_goals (go_ret; refine ⟨ri ?_, by go_grown⟩; simp_all [chk, nmb]; try omega)
end Go.Proofs.YtjnfhhmhbeobbaaGreatDoor.vv
namespace Go.Proofs.YtjnfhhmhbeobbaaGreatDoor.vv
open Go.ChangeShapes Go.WideShapes Go.ChangeAt Go.RowKit
set_option linter.unusedVariables false
set_option linter.unusedSimpArgs false
set_option maxHeartbeats 400000
theorem both_any (k n k' n' : Int) (s s' : ByteArray) (w : World) :
    Calls Tryz.prog 58 #[.agg #[.int .i64 k, .int .i64 n, .string s], .agg #[.int .i64 k', .int .i64 n', .string s']] w fun e w' => e = .returned (.int .i64 (chk2 ⟨k, n, s⟩ ⟨k', n', s'⟩)) ∧ Below w.heap.size w w' := by
  go_enter Tryz.func58, Tryz.ntmps58
  go_wp2_with fail
  refine (vf_any _ _ _ _).mono ?_
  rintro e w1 ⟨rfl, hb⟩
  have hz : w.heap.size + 2 ≤ w1.heap.size := by have := hb.size; simp at this; omega
  have hB : Below w.heap.size w w1 := into (by go_grown) hb
  obtain ⟨hc, hf⟩ := kept hb
  clear hb
  go_wp2_with fail
  · refine (vf_any _ _ _ _).mono ?_
    rintro e w2 ⟨rfl, hb⟩
    have hB2 : Below w.heap.size w w2 := into hB hb
    go_wp2_with fail
    go_ret
    refine ⟨ri ?_, hB2⟩
    simp_all [chk2]
  · go_ret
    refine ⟨ri ?_, hB⟩
    simp_all [chk2]
end Go.Proofs.YtjnfhhmhbeobbaaGreatDoor.vv
namespace Go.Proofs.YtjnfhhmhbeobbaaGreatDoor.vv
open Go.ChangeShapes Go.WideShapes Go.ChangeAt Go.RowKit
set_option linter.unusedVariables false
set_option linter.unusedSimpArgs false
set_option maxHeartbeats 400000
theorem ahd_any (k n k' n' : Int) (s s' : ByteArray) (w : World) :
    Calls Tryz.prog 59 #[.agg #[.int .i64 k, .int .i64 n, .string s], .agg #[.int .i64 k', .int .i64 n', .string s']] w fun e w' => e = .returned (.bool (ahd ⟨k, n, s⟩ ⟨k', n', s'⟩)) ∧ Below w.heap.size w w' := by
  by_cases h : k = k'
  · subst h
    by_cases h3 : k = 3
    · subst h3
      go_enter Tryz.func59, Tryz.ntmps59
      go_wp2
      all_goals (go_ret; refine ⟨rb ?_, by go_grown⟩; simp_all [ahd])
    · go_enter Tryz.func59, Tryz.ntmps59
      go_wp2
      all_goals (go_ret; refine ⟨rb ?_, by go_grown⟩; simp_all [ahd])
  · go_enter Tryz.func59, Tryz.ntmps59
    go_wp2
    all_goals (go_ret; refine ⟨rb ?_, by go_grown⟩; simp_all [ahd])
theorem yes_any (b : Bool) (w : World) :
    Calls Tryz.prog 57 #[.bool b] w fun e w' => e = .returned (.agg #[.int .i64 (tru b).k, .int .i64 (tru b).n, .string (tru b).t]) ∧ Below w.heap.size w w' := by
  cases b
  all_goals (
    go_enter Tryz.func57, Tryz.ntmps57
    go_wp2
    go_returns
    exact ⟨rfl, by go_grown⟩)
theorem ri2' {a b c d : Int} (h : a = b) (g : c = d) : Ending.returned (.tuple #[.int .i64 a, .int .i64 c]) = .returned (.tuple #[.int .i64 b, .int .i64 d]) := by rw [h, g]
theorem rone_any (d k n : Int) (s : ByteArray) (w : World) :
    Calls Tryz.prog 43 #[.int .i64 d, .agg #[.int .i64 k, .int .i64 n, .string s]] w fun e w' => e = .returned (.tuple #[.agg #[.int .i64 (one d ⟨k, n, s⟩).1.k, .int .i64 (one d ⟨k, n, s⟩).1.n, .string (one d ⟨k, n, s⟩).1.t], .int .i64 (one d ⟨k, n, s⟩).2]) ∧ Below w.heap.size w w' := by
  go_enter Tryz.func43, Tryz.ntmps43
  go_wp2_with fail
  refine (vf_any _ _ _ _).mono ?_
  rintro e w1 ⟨rfl, hb⟩
  have hk := kept hb
  obtain ⟨hz, hz1, hB, x0, x1, x2, y0, y1, y2⟩ := behind2 hb
  have S1 : Slot w1 (w.heap.size + 1) _ _ _ := ⟨hz1, x0, x1, x2, y0, y1, y2⟩
  obtain ⟨hc, hf⟩ := hk
  clear hb
  go_wp2_with fail
  · refine bodyPost_ret (by simp [results, Tryz.results43, go_sem, x0, x1, x2]; try rfl) rfl ?_
    refine ⟨rt ?_, by go_grown⟩
    simp_all [one, nul]
  · refine (yes_any _ _).mono ?_
    rintro e w2 ⟨rfl, hb2⟩
    have hB2 : Below w.heap.size w w2 := into hB hb2
    obtain ⟨p, p0, p1, p2, q0, q1, q2⟩ := S1.below hb2
    clear hb2
    go_wp2_with fail
    refine bodyPost_ret (by simp [results, Tryz.results43, go_sem, p0, p1, p2]; try rfl) rfl ?_
    refine ⟨rt ?_, by go_grown⟩
    simp_all [one]
  · refine bodyPost_ret (by simp [results, Tryz.results43, go_sem, x0, x1, x2]; try rfl) rfl ?_
    refine ⟨rt ?_, by go_grown⟩
    simp_all [one, nul]
  · refine bodyPost_ret (by simp [results, Tryz.results43, go_sem, x0, x1, x2]; try rfl) rfl ?_
    refine ⟨rt ?_, by go_grown⟩
    have hn : chk k n s = 0 := by simp_all
    have hk : k = 0 := by simp_all
    subst hk
    obtain ⟨_, _, g1, g2, _, _⟩ := chk0 hn
    simp_all [one, nul, turn]
  · refine bodyPost_ret (by simp [results, Tryz.results43, go_sem, x0, x1, x2]; try rfl) rfl ?_
    refine ⟨rt ?_, by go_grown⟩
    simp_all [one, nul, turn]
  · refine (yes_any _ _).mono ?_
    rintro e w2 ⟨rfl, hb2⟩
    have hB2 : Below w.heap.size w w2 := into hB hb2
    obtain ⟨p, p0, p1, p2, q0, q1, q2⟩ := S1.below hb2
    clear hb2
    go_wp2_with fail
    refine bodyPost_ret (by simp [results, Tryz.results43, go_sem, p0, p1, p2]; try rfl) rfl ?_
    refine ⟨rt ?_, by go_grown⟩
    simp_all [one, turn]
end Go.Proofs.YtjnfhhmhbeobbaaGreatDoor.vv
namespace Go.Proofs.YtjnfhhmhbeobbaaGreatDoor.vv
open Go.ChangeShapes Go.WideShapes Go.ChangeAt Go.RowKit
set_option linter.unusedVariables false
set_option linter.unusedSimpArgs false
set_option maxHeartbeats 400000
theorem lvs91 (a b : Int) (h : 0 ≤ a) (hb : b < 0) (w : World) :
    Calls Tryz.prog 60 #[.int .i64 9, .int .i64 a, .int .i64 b] w fun e w' => e = .returned (.bool (lvs 9 a b)) ∧ Below w.heap.size w w' := by
  have HL : Hid (lvs 9 a b = decide (wrap64 (9223372036854775807 + b) < a)) := by
    show lvs 9 a b = _
    simp [lvs, h, hb]
  go_enter Tryz.func60, Tryz.ntmps60
  go_wp2
  go_ret
  refine ⟨rb ?_, by go_grown⟩
  rw [HL.out]
  try simp
theorem lvs92 (a b : Int) (h : 0 ≤ a) (hb : ¬ b < 0) (w : World) :
    Calls Tryz.prog 60 #[.int .i64 9, .int .i64 a, .int .i64 b] w fun e w' => e = .returned (.bool (lvs 9 a b)) ∧ Below w.heap.size w w' := by
  have HL : Hid (lvs 9 a b = false) := by
    show lvs 9 a b = _
    simp [lvs, h, hb]
  go_enter Tryz.func60, Tryz.ntmps60
  go_wp2
  go_ret
  refine ⟨rb ?_, by go_grown⟩
  rw [HL.out]
  try simp
theorem lvs93 (a b : Int) (h : ¬ 0 ≤ a) (hb : 0 < b) (w : World) :
    Calls Tryz.prog 60 #[.int .i64 9, .int .i64 a, .int .i64 b] w fun e w' => e = .returned (.bool (lvs 9 a b)) ∧ Below w.heap.size w w' := by
  have HL : Hid (lvs 9 a b = decide (a < wrap64 (-9223372036854775808 + b))) := by
    show lvs 9 a b = _
    simp [lvs, h, hb]
  have h0 : a < 0 := by omega
  go_enter Tryz.func60, Tryz.ntmps60
  go_wp2
  go_ret
  refine ⟨rb ?_, by go_grown⟩
  rw [HL.out]
  try simp
theorem lvs94 (a b : Int) (h : ¬ 0 ≤ a) (hb : ¬ 0 < b) (w : World) :
    Calls Tryz.prog 60 #[.int .i64 9, .int .i64 a, .int .i64 b] w fun e w' => e = .returned (.bool (lvs 9 a b)) ∧ Below w.heap.size w w' := by
  have HL : Hid (lvs 9 a b = false) := by
    show lvs 9 a b = _
    simp [lvs, h, hb]
  have h0 : a < 0 := by omega
  have hb0 : b ≤ 0 := by omega
  go_enter Tryz.func60, Tryz.ntmps60
  go_wp2
  go_ret
  refine ⟨rb ?_, by go_grown⟩
  rw [HL.out]
  try simp
theorem lvs81 (a b : Int) (hb : 0 < b) (w : World) :
    Calls Tryz.prog 60 #[.int .i64 8, .int .i64 a, .int .i64 b] w fun e w' => e = .returned (.bool (lvs 8 a b)) ∧ Below w.heap.size w w' := by
  have HL : Hid (lvs 8 a b = decide (wrap64 (9223372036854775807 - b) < a)) := by
    show lvs 8 a b = _
    simp [lvs, hb]
  go_enter Tryz.func60, Tryz.ntmps60
  go_wp2
  go_ret
  refine ⟨rb ?_, by go_grown⟩
  rw [HL.out]
  try simp
theorem lvs82 (a b : Int) (hb : ¬ 0 < b) (w : World) :
    Calls Tryz.prog 60 #[.int .i64 8, .int .i64 a, .int .i64 b] w fun e w' => e = .returned (.bool (lvs 8 a b)) ∧ Below w.heap.size w w' := by
  have HL : Hid (lvs 8 a b = decide (a < wrap64 (-9223372036854775808 - b))) := by
    show lvs 8 a b = _
    simp [lvs, hb]
  have hb0 : b ≤ 0 := by omega
  go_enter Tryz.func60, Tryz.ntmps60
  go_wp2
  go_ret
  refine ⟨rb ?_, by go_grown⟩
  rw [HL.out]
  try simp
theorem lvs01 (d a b : Int) (h9 : ¬ d = 9) (h8 : ¬ d = 8) (ha : a = 0) (w : World) :
    Calls Tryz.prog 60 #[.int .i64 d, .int .i64 a, .int .i64 b] w fun e w' => e = .returned (.bool (lvs d a b)) ∧ Below w.heap.size w w' := by
  have HL : Hid (lvs d a b = false) := by
    show lvs d a b = _
    simp [lvs, h9, h8, ha]
  have h9' : (d == 9) = false := by simp [h9]
  have h8' : (d == 8) = false := by simp [h8]
  go_enter Tryz.func60, Tryz.ntmps60
  go_wp2
  go_ret
  refine ⟨rb ?_, by go_grown⟩
  rw [HL.out]
  try simp
theorem lvs02 (d a b : Int) (h9 : ¬ d = 9) (h8 : ¬ d = 8) (ha : ¬ a = 0) (hb : b = 0) (w : World) :
    Calls Tryz.prog 60 #[.int .i64 d, .int .i64 a, .int .i64 b] w fun e w' => e = .returned (.bool (lvs d a b)) ∧ Below w.heap.size w w' := by
  have HL : Hid (lvs d a b = false) := by
    show lvs d a b = _
    simp [lvs, h9, h8, ha, hb]
  have h9' : (d == 9) = false := by simp [h9]
  have h8' : (d == 8) = false := by simp [h8]
  have ha0 : (a == 0) = false := by simp [ha]
  go_enter Tryz.func60, Tryz.ntmps60
  go_wp2
  go_ret
  refine ⟨rb ?_, by go_grown⟩
  rw [HL.out]
  try simp
theorem lvs03 (d a b : Int) (h9 : ¬ d = 9) (h8 : ¬ d = 8) (ha : ¬ a = 0) (hb : ¬ b = 0) (ha1 : a = -1) (w : World) :
    Calls Tryz.prog 60 #[.int .i64 d, .int .i64 a, .int .i64 b] w fun e w' => e = .returned (.bool (lvs d a b)) ∧ Below w.heap.size w w' := by
  have HL : Hid (lvs d a b = (b == -9223372036854775808)) := by
    show lvs d a b = _
    simp [lvs, h9, h8, ha, hb, ha1]
  have h9' : (d == 9) = false := by simp [h9]
  have h8' : (d == 8) = false := by simp [h8]
  have ha0 : (a == 0) = false := by simp [ha]
  have hb0 : (b == 0) = false := by simp [hb]
  go_enter Tryz.func60, Tryz.ntmps60
  go_wp2
  go_ret
  refine ⟨rb ?_, by go_grown⟩
  rw [HL.out]
  try simp
theorem lvs04 (d a b : Int) (h9 : ¬ d = 9) (h8 : ¬ d = 8) (ha : ¬ a = 0) (hb : ¬ b = 0) (ha1 : ¬ a = -1) (hb1 : b = -1) (w : World) :
    Calls Tryz.prog 60 #[.int .i64 d, .int .i64 a, .int .i64 b] w fun e w' => e = .returned (.bool (lvs d a b)) ∧ Below w.heap.size w w' := by
  have HL : Hid (lvs d a b = (a == -9223372036854775808)) := by
    show lvs d a b = _
    simp [lvs, h9, h8, ha, hb, ha1, hb1]
  have h9' : (d == 9) = false := by simp [h9]
  have h8' : (d == 8) = false := by simp [h8]
  have ha0 : (a == 0) = false := by simp [ha]
  have hb0 : (b == 0) = false := by simp [hb]
  have ha1' : (a == -1) = false := by simp [ha1]
  go_enter Tryz.func60, Tryz.ntmps60
  go_wp2
  go_ret
  refine ⟨rb ?_, by go_grown⟩
  rw [HL.out]
  try simp
theorem lvs05 (d a b : Int) (h9 : ¬ d = 9) (h8 : ¬ d = 8) (ha : ¬ a = 0) (hb : ¬ b = 0) (ha1 : ¬ a = -1) (hb1 : ¬ b = -1) (p : 0 < a) (q : 0 < b) (w : World) :
    Calls Tryz.prog 60 #[.int .i64 d, .int .i64 a, .int .i64 b] w fun e w' => e = .returned (.bool (lvs d a b)) ∧ Below w.heap.size w w' := by
  have HL : Hid (lvs d a b = decide ((9223372036854775807 : Int) / b < a)) := by
    show lvs d a b = _
    simp [lvs, h9, h8, ha, hb, ha1, hb1, p, q]
  have h9' : (d == 9) = false := by simp [h9]
  have h8' : (d == 8) = false := by simp [h8]
  have ha0 : (a == 0) = false := by simp [ha]
  have hb0 : (b == 0) = false := by simp [hb]
  have ha1' : (a == -1) = false := by simp [ha1]
  have hb1' : (b == -1) = false := by simp [hb1]
  go_enter Tryz.func60, Tryz.ntmps60
  go_wp2
  go_ret
  refine ⟨rb ?_, by go_grown⟩
  rw [HL.out]
  try simp
theorem lvs06 (d a b : Int) (h9 : ¬ d = 9) (h8 : ¬ d = 8) (ha : ¬ a = 0) (hb : ¬ b = 0) (ha1 : ¬ a = -1) (hb1 : ¬ b = -1) (p : 0 < a) (q : ¬ 0 < b) (w : World) :
    Calls Tryz.prog 60 #[.int .i64 d, .int .i64 a, .int .i64 b] w fun e w' => e = .returned (.bool (lvs d a b)) ∧ Below w.heap.size w w' := by
  have HL : Hid (lvs d a b = decide (b < wrap64 ((-9223372036854775808 : Int).tdiv a))) := by
    show lvs d a b = _
    simp [lvs, h9, h8, ha, hb, ha1, hb1, p, q]
  have h9' : (d == 9) = false := by simp [h9]
  have h8' : (d == 8) = false := by simp [h8]
  have ha0 : (a == 0) = false := by simp [ha]
  have hb0 : (b == 0) = false := by simp [hb]
  have ha1' : (a == -1) = false := by simp [ha1]
  have hb1' : (b == -1) = false := by simp [hb1]
  have q0 : b < 0 := by omega
  go_enter Tryz.func60, Tryz.ntmps60
  go_wp2
  go_ret
  refine ⟨rb ?_, by go_grown⟩
  rw [HL.out]
  try simp
theorem lvs07 (d a b : Int) (h9 : ¬ d = 9) (h8 : ¬ d = 8) (ha : ¬ a = 0) (hb : ¬ b = 0) (ha1 : ¬ a = -1) (hb1 : ¬ b = -1) (p : ¬ 0 < a) (q : 0 < b) (w : World) :
    Calls Tryz.prog 60 #[.int .i64 d, .int .i64 a, .int .i64 b] w fun e w' => e = .returned (.bool (lvs d a b)) ∧ Below w.heap.size w w' := by
  have HL : Hid (lvs d a b = decide (a < wrap64 ((-9223372036854775808 : Int).tdiv b))) := by
    show lvs d a b = _
    simp [lvs, h9, h8, ha, hb, ha1, hb1, p, q]
  have h9' : (d == 9) = false := by simp [h9]
  have h8' : (d == 8) = false := by simp [h8]
  have ha0 : (a == 0) = false := by simp [ha]
  have hb0 : (b == 0) = false := by simp [hb]
  have ha1' : (a == -1) = false := by simp [ha1]
  have hb1' : (b == -1) = false := by simp [hb1]
  have p0 : a < 0 := by omega
  go_enter Tryz.func60, Tryz.ntmps60
  go_wp2
  go_ret
  refine ⟨rb ?_, by go_grown⟩
  rw [HL.out]
  try simp
theorem lvs08 (d a b : Int) (h9 : ¬ d = 9) (h8 : ¬ d = 8) (ha : ¬ a = 0) (hb : ¬ b = 0) (ha1 : ¬ a = -1) (hb1 : ¬ b = -1) (p : ¬ 0 < a) (q : ¬ 0 < b) (w : World) :
    Calls Tryz.prog 60 #[.int .i64 d, .int .i64 a, .int .i64 b] w fun e w' => e = .returned (.bool (lvs d a b)) ∧ Below w.heap.size w w' := by
  have HL : Hid (lvs d a b = decide (a < wrap64 ((9223372036854775807 : Int).tdiv b))) := by
    show lvs d a b = _
    simp [lvs, h9, h8, ha, hb, ha1, hb1, p, q]
  have h9' : (d == 9) = false := by simp [h9]
  have h8' : (d == 8) = false := by simp [h8]
  have ha0 : (a == 0) = false := by simp [ha]
  have hb0 : (b == 0) = false := by simp [hb]
  have ha1' : (a == -1) = false := by simp [ha1]
  have hb1' : (b == -1) = false := by simp [hb1]
  have p0 : a < 0 := by omega
  have q0 : b < 0 := by omega
  go_enter Tryz.func60, Tryz.ntmps60
  go_wp2
  go_ret
  refine ⟨rb ?_, by go_grown⟩
  rw [HL.out]
  try simp
theorem lvs_any (d a b : Int) (w : World) :
    Calls Tryz.prog 60 #[.int .i64 d, .int .i64 a, .int .i64 b] w fun e w' => e = .returned (.bool (lvs d a b)) ∧ Below w.heap.size w w' := by
  by_cases h9 : d = 9
  · subst h9
    by_cases h : 0 ≤ a
    · by_cases hb : b < 0
      · exact lvs91 a b h hb w
      · exact lvs92 a b h hb w
    · by_cases hb : 0 < b
      · exact lvs93 a b h hb w
      · exact lvs94 a b h hb w
  by_cases h8 : d = 8
  · subst h8
    by_cases hb : 0 < b
    · exact lvs81 a b hb w
    · exact lvs82 a b hb w
  by_cases ha : a = 0
  · exact lvs01 d a b h9 h8 ha w
  by_cases hb : b = 0
  · exact lvs02 d a b h9 h8 ha hb w
  by_cases ha1 : a = -1
  · exact lvs03 d a b h9 h8 ha hb ha1 w
  by_cases hb1 : b = -1
  · exact lvs04 d a b h9 h8 ha hb ha1 hb1 w
  by_cases p : 0 < a
  · by_cases q : 0 < b
    · exact lvs05 d a b h9 h8 ha hb ha1 hb1 p q w
    · exact lvs06 d a b h9 h8 ha hb ha1 hb1 p q w
  · by_cases q : 0 < b
    · exact lvs07 d a b h9 h8 ha hb ha1 hb1 p q w
    · exact lvs08 d a b h9 h8 ha hb ha1 hb1 p q w
end Go.Proofs.YtjnfhhmhbeobbaaGreatDoor.vv
