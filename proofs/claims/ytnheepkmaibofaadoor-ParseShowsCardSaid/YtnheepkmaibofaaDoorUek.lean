import Derived.Test.YtnheepkmaibofaaDoorSck
import Derived.Test.YtnheepkmaibofaaDoorUfk
/- What a value lacks: the program's value.Check and the document's. -/
namespace Go.Proofs.YtnheepkmaibofaaDoor
open Go.ChangeShapes Go.WideShapes Go.ChangeAt Go.RowKit
set_option linter.unusedVariables false
set_option linter.unusedSimpArgs false
set_option maxHeartbeats 400000
theorem nmb_any (k n : Int) (s : ByteArray) (w : World) :
    Calls Tryd.prog 103 #[.agg #[.int .i64 k, .int .i64 n, .string s]] w fun e w' => e = .returned (.bool (nmb k n)) ∧ Below w.heap.size w w' := by
  go_enter Tryd.func103, Tryd.ntmps103
  go_wp2
  all_goals (go_ret; refine ⟨rb ?_, by go_grown⟩; simp_all [nmb])

theorem chk_any (k n : Int) (s : ByteArray) (w : World) :
    Calls Tryd.prog 99 #[.agg #[.int .i64 k, .int .i64 n, .string s]] w fun e w' => e = .returned (.int .i64 (chk k n s)) ∧ Below w.heap.size w w' := by
  go_enter Tryd.func99, Tryd.ntmps99
  go_wp2_with fail
  all_goals (try (refine (nmb_any _ _ _ _).mono ?_; rintro e w1 ⟨rfl, hb⟩; have hB : Below w.heap.size w w1 := into (by go_grown) hb; obtain ⟨hc, hf⟩ := kept hb; clear hb; go_wp2_with fail))
  all_goals (go_ret; refine ⟨ri ?_, by go_grown⟩; simp_all [chk]; try omega)

theorem in_is (w : World) (a b c : Int) (r : Bool) (h : (decide (b ≤ a) && decide (a ≤ c)) = r) : Calls Tryd.prog 24 #[.int .i64 a, .int .i64 b, .int .i64 c] w fun e w' => e = .returned (.bool r) ∧ w = w' := by
  subst h
  exact in_any w a b c
theorem vf_any (k n : Int) (s : ByteArray) (w : World) :
    Calls Tryd.prog 81 #[.agg #[.int .i64 k, .int .i64 n, .string s]] w fun e w' => e = .returned (.int .i64 (chk k n s)) ∧ Below w.heap.size w w' := by
  by_cases hk : k < 0 ∨ 3 < k
  · have hc := fun w => in_is w k 0 3 false (by simp; omega)
    have HC := Lib.hid hc
    have HF : Hid (chk k n s = 2) := by
      show _ = _
      unfold chk
      by_cases h : k < 0
      · rw [if_pos h]
      · rw [if_neg h, if_pos (by omega)]
    clear hc
    go_enter Tryd.func81, Tryd.ntmps81
    go_wp2_with (go_at_call 24; refine (HC.out _).mono ?_; rintro e w' ⟨rfl, rfl⟩)
    go_ret
    exact ⟨ri HF.out.symm, by go_grown⟩
  · have hc := fun w => in_is w k 0 3 true (by simp; omega)
    have HC := Lib.hid hc
    clear hc
    by_cases h1 : k = 1
    · subst h1
      obtain ⟨b, hb⟩ : ∃ b, b = (decide (0 ≤ n) && decide (n ≤ 1)) := ⟨_, rfl⟩
      have hn := fun w => in_is w n 0 1 b hb.symm
      have HN := Lib.hid hn
      have hF : chk 1 n s = if s.toList.isEmpty = false ∨ b = false then 6 else if 20 < s.size then 1 else 0 := by
        have e : (n == 0 || n == 1) = b := by
          rw [hb, Bool.eq_iff_iff]
          simp
          omega
        unfold chk nmb
        simp only [if_true, e]
        cases b <;> simp
      have HF := Lib.hid hF
      clear hn hb hF
      by_cases ht : s.toList.isEmpty = true
      · cases b
        all_goals (
          go_enter Tryd.func81, Tryd.ntmps81
          go_wp2_with (first | (go_at_call 24; ((with_reducible refine (HC.out _).mono ?_); rintro e w' ⟨rfl, rfl⟩)) | (go_at_call 24; ((with_reducible refine (HN.out _).mono ?_); rintro e w' ⟨rfl, rfl⟩))))
        all_goals (go_ret; refine ⟨ri ?_, by go_grown⟩; rw [HF.out]; simp_all; try omega)
      · simp only [Bool.not_eq_true] at ht
        go_enter Tryd.func81, Tryd.ntmps81
        go_wp2_with (first | (go_at_call 24; ((with_reducible refine (HC.out _).mono ?_); rintro e w' ⟨rfl, rfl⟩)) | (go_at_call 24; ((with_reducible refine (HN.out _).mono ?_); rintro e w' ⟨rfl, rfl⟩)))
        all_goals (go_ret; refine ⟨ri ?_, by go_grown⟩; rw [HF.out]; simp_all; try omega)
    · have hk3 : k = 0 ∨ k = 2 ∨ k = 3 := by omega
      clear h1 hk
      rcases hk3 with rfl | rfl | rfl
      · by_cases ht : s.toList.isEmpty = true
        · by_cases hn : n = 0
          all_goals (
            go_enter Tryd.func81, Tryd.ntmps81
            go_wp2_with (go_at_call 24; refine (HC.out _).mono ?_; rintro e w' ⟨rfl, rfl⟩))
          all_goals (go_ret; refine ⟨ri ?_, by go_grown⟩; simp_all [chk, nmb]; try omega)
        · simp only [Bool.not_eq_true] at ht
          go_enter Tryd.func81, Tryd.ntmps81
          go_wp2_with (go_at_call 24; refine (HC.out _).mono ?_; rintro e w' ⟨rfl, rfl⟩)
          all_goals (go_ret; refine ⟨ri ?_, by go_grown⟩; simp_all [chk, nmb]; try omega)
      · by_cases ht : s.toList.isEmpty = true
        · go_enter Tryd.func81, Tryd.ntmps81
          go_wp2_with (go_at_call 24; refine (HC.out _).mono ?_; rintro e w' ⟨rfl, rfl⟩)
          all_goals (go_ret; refine ⟨ri ?_, by go_grown⟩; simp_all [chk, nmb]; try omega)
        · simp only [Bool.not_eq_true] at ht
          go_enter Tryd.func81, Tryd.ntmps81
          go_wp2_with (go_at_call 24; refine (HC.out _).mono ?_; rintro e w' ⟨rfl, rfl⟩)
          all_goals (go_ret; refine ⟨ri ?_, by go_grown⟩; simp_all [chk, nmb]; try omega)
      · by_cases hn : n = 0
        all_goals (
          go_enter Tryd.func81, Tryd.ntmps81
          go_wp2_with (go_at_call 24; refine (HC.out _).mono ?_; rintro e w' ⟨rfl, rfl⟩))
        all_goals (go_ret; refine ⟨ri ?_, by go_grown⟩; simp_all [chk, nmb]; try omega)
/-- A literal's value: the least number can't be told. -/
theorem lit_any (k n : Int) (s : ByteArray) (w : World) :
    Calls Tryd.prog 71 #[.agg #[.int .i64 k, .int .i64 n, .string s]] w fun e w' => e = .returned (.int .i64 (litF k n s)) ∧ Below w.heap.size w w' := by
  have hc := chk_any k n s (w.alloc (.cells #[.int .i64 k, .int .i64 n, .string s] 44))
  have hF : litF k n s = if k = 2 ∧ n = -9223372036854775808 then 3 else chk k n s := rfl
  obtain ⟨r, hr⟩ : ∃ r, r = chk k n s := ⟨_, rfl⟩
  rw [← hr] at hc hF
  have HC := Lib.hid hc
  have HF := Lib.hid hF
  clear hc hF hr
  by_cases h : k = 2 ∧ n = -9223372036854775808
  · obtain ⟨rfl, rfl⟩ := h
    go_enter Tryd.func71, Tryd.ntmps71
    go_wp2_with fail
    go_ret
    exact ⟨ri (by rw [HF.out]; rfl), (Below.refl _ _).alloc (Nat.le_refl _) _⟩
  · have HG : Hid (litF k n s = r) := by
      show _ = _
      rw [HF.out, if_neg h]
    by_cases hk : k = 2
    · have hn : ¬ n = -9223372036854775808 := fun e => h ⟨hk, e⟩
      have hn' : (n == -9223372036854775808) = false := by simpa using hn
      clear h
      subst hk
      go_enter Tryd.func71, Tryd.ntmps71
      go_wp2_with (go_at_call 99; refine HC.out.mono ?_; rintro e w' ⟨rfl, hb⟩; have HB := Lib.hid hb; clear hb)
      go_ret
      exact ⟨ri HG.out.symm, ((Below.refl _ _).alloc (Nat.le_refl _) _).trans (HB.out.mono (by simp))⟩
    · have hk' : (k == 2) = false := by simpa using hk
      clear h
      go_enter Tryd.func71, Tryd.ntmps71
      go_wp2_with (go_at_call 99; refine HC.out.mono ?_; rintro e w' ⟨rfl, hb⟩; have HB := Lib.hid hb; clear hb)
      go_ret
      exact ⟨ri HG.out.symm, ((Below.refl _ _).alloc (Nat.le_refl _) _).trans (HB.out.mono (by simp))⟩
theorem rlit_any (k n : Int) (s : ByteArray) (w : World) :
    Calls Tryd.prog 52 #[.agg #[.int .i64 k, .int .i64 n, .string s]] w fun e w' => e = .returned (.int .i64 (litF k n s)) ∧ Below w.heap.size w w' := by
  have hc := vf_any k n s (w.alloc (.cells #[.int .i64 k, .int .i64 n, .string s] 44))
  have hF : litF k n s = if k = 2 ∧ n = -9223372036854775808 then 3 else chk k n s := rfl
  obtain ⟨r, hr⟩ : ∃ r, r = chk k n s := ⟨_, rfl⟩
  rw [← hr] at hc hF
  have HC := Lib.hid hc
  have HF := Lib.hid hF
  clear hc hF hr
  by_cases h : k = 2 ∧ n = -9223372036854775808
  · obtain ⟨rfl, rfl⟩ := h
    go_enter Tryd.func52, Tryd.ntmps52
    go_wp2_with fail
    go_ret
    exact ⟨ri (by rw [HF.out]; rfl), (Below.refl _ _).alloc (Nat.le_refl _) _⟩
  · have HG : Hid (litF k n s = r) := by
      show _ = _
      rw [HF.out, if_neg h]
    by_cases hk : k = 2
    · have hn : ¬ n = -9223372036854775808 := fun e => h ⟨hk, e⟩
      have hn' : (n == -9223372036854775808) = false := by simpa using hn
      clear h
      subst hk
      go_enter Tryd.func52, Tryd.ntmps52
      go_wp2_with (go_at_call 81; refine HC.out.mono ?_; rintro e w' ⟨rfl, hb⟩; have HB := Lib.hid hb; clear hb)
      go_ret
      exact ⟨ri HG.out.symm, ((Below.refl _ _).alloc (Nat.le_refl _) _).trans (HB.out.mono (by simp))⟩
    · have hk' : (k == 2) = false := by simpa using hk
      clear h
      go_enter Tryd.func52, Tryd.ntmps52
      go_wp2_with (go_at_call 81; refine HC.out.mono ?_; rintro e w' ⟨rfl, hb⟩; have HB := Lib.hid hb; clear hb)
      go_ret
      exact ⟨ri HG.out.symm, ((Below.refl _ _).alloc (Nat.le_refl _) _).trans (HB.out.mono (by simp))⟩
end Go.Proofs.YtnheepkmaibofaaDoor
