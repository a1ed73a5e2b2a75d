import Derived.Test.YtdeollmeljaaoaaDoorShak
import Derived.Deep.Light
set_option linter.unusedVariables false
set_option linter.unusedSimpArgs false
set_option maxHeartbeats 400000
open Go.ChangeAt Go.ChangeShapes Go.RowKit Go.WideShapes
open Go.Lib (hid)
namespace Go.Proofs.YtdeollmeljaaoaaDoor
set_option maxHeartbeats 1000000 in
theorem check_any (w : World) (hm : Mk w) (k n : Int) (s : ByteArray) (hs : s.size ≤ maxLen) :
  Calls Tryd.prog 28 #[.agg #[.int .i64 k, .string s, .int .i64 n]] w fun e w' => e = .returned (.int .i64 (tkF k s.data.toList n)) ∧ Below w.heap.size w w' := by
 have hc := tmb_any (w.alloc (.cells #[.int .i64 k, .string s, .int .i64 n] 45)) (hm.alloc _) k n s hs
 have hF : tkF k s.data.toList n = if k < 1 ∨ 4 < k then 2 else if k = 2 ∧ n < 0 then 3 else if (k ≠ 2 ∧ n ≠ 0) ∨ txt k s.data.toList = false then 6 else 0 := rfl
 obtain ⟨t, ht⟩ : ∃ t, t = txt k s.data.toList := ⟨_, rfl⟩
 rw [← ht] at hc hF
 have HC := hid hc
 have HF := hid hF
 clear hc hF ht hm
 by_cases h1 : k < 1
 ·go_enter Tryd.func28, Tryd.ntmps28
  go_wp2
  go_ret
  exact ⟨ri (by rw [HF.out, if_pos (.inl h1)]), (Below.refl _ _).alloc (Nat.le_refl _) _⟩
 ·by_cases h4 : 4 < k
  ·go_enter Tryd.func28, Tryd.ntmps28
   go_wp2
   go_ret
   exact ⟨ri (by rw [HF.out, if_pos (.inr h4)]), (Below.refl _ _).alloc (Nat.le_refl _) _⟩
  ·have hk : ¬ (k < 1 ∨ 4 < k) := by omega
   by_cases h2 : k = 2
   ·subst h2
    by_cases hn : n < 0
    ·go_enter Tryd.func28, Tryd.ntmps28
     go_wp2
     go_ret
     exact ⟨ri (by rw [HF.out, if_neg hk, if_pos (by simpa using hn)]), (Below.refl _ _).alloc (Nat.le_refl _) _⟩
    ·cases t
     all_goals (
      go_enter Tryd.func28, Tryd.ntmps28
      go_wp2_with (go_at_call 49; refine HC.out.mono ?_; rintro e w' ⟨rfl, hb⟩; have HB := hid hb; clear hb)
      go_ret
      refine ⟨ri ?_, ((Below.refl _ _).alloc (Nat.le_refl _) _).trans (HB.out.mono (by simp))⟩
      rw [HF.out, if_neg hk, if_neg (by omega)]
      simp)
   ·by_cases hn : n = 0
    ·subst hn
     cases t
     all_goals (
      go_enter Tryd.func28, Tryd.ntmps28
      go_wp2_with (go_at_call 49; refine HC.out.mono ?_; rintro e w' ⟨rfl, hb⟩; have HB := hid hb; clear hb)
      go_ret
      refine ⟨ri ?_, ((Below.refl _ _).alloc (Nat.le_refl _) _).trans (HB.out.mono (by simp))⟩
      rw [HF.out, if_neg hk, if_neg (by omega)]
      simp)
    ·go_enter Tryd.func28, Tryd.ntmps28
     go_wp2
     go_ret
     exact ⟨ri (by rw [HF.out, if_neg hk, if_neg (by omega), if_pos (.inl ⟨h2, hn⟩)]), (Below.refl _ _).alloc (Nat.le_refl _) _⟩
theorem str_ext {a b : ByteArray} (h : a.data.toList = b.data.toList) : a = b := by
 exact ByteArray.ext (Array.ext' h)
theorem rs {a b : ByteArray} (h : a = b) : Ending.returned (.string a) = .returned (.string b) := by rw [h]
end Go.Proofs.YtdeollmeljaaoaaDoor
