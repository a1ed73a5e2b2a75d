import Derived.Test.YtdeollmeljaaoaaDoorSck
import Derived.Test.YtdeollmeljaaoaaDoorUfk
set_option linter.unusedVariables false
set_option linter.unusedSimpArgs false
set_option maxHeartbeats 400000
open Go.ChangeAt Go.ChangeShapes Go.RowKit Go.WideShapes
open Go.Lib (hid)
namespace Go.Proofs.YtdeollmeljaaoaaDoor
theorem nmb_any (k n : Int) (s : ByteArray) (w : World) :
  Calls Tryd.prog 86 #[.agg #[.int .i64 k, .int .i64 n, .string s]] w fun e w' => e = .returned (.bool (nmb k n)) ∧ Below w.heap.size w w' := by
 go_enter Tryd.func86, Tryd.ntmps86
 go_wp2
 all_goals (go_ret; refine ⟨rb ?_, by go_grown⟩; simp_all [nmb])
theorem chk_any (k n : Int) (s : ByteArray) (w : World) :
  Calls Tryd.prog 83 #[.agg #[.int .i64 k, .int .i64 n, .string s]] w fun e w' => e = .returned (.int .i64 (chk k n s)) ∧ Below w.heap.size w w' := by
 go_enter Tryd.func83, Tryd.ntmps83
 go_wp2_with fail
 all_goals (try (refine (nmb_any _ _ _ _).mono ?_; rintro e w1 ⟨rfl, hb⟩; have hB : Below w.heap.size w w1 := into (by go_grown) hb; obtain ⟨hc, hf⟩ := kept hb; clear hb; go_wp2_with fail))
 all_goals (go_ret; refine ⟨ri ?_, by go_grown⟩; simp_all [chk]; try omega)
theorem lit_any (k n : Int) (s : ByteArray) (w : World) :
  Calls Tryd.prog 66 #[.agg #[.int .i64 k, .int .i64 n, .string s]] w fun e w' => e = .returned (.int .i64 (litF k n s)) ∧ Below w.heap.size w w' := by
 have hc := chk_any k n s (w.alloc (.cells #[.int .i64 k, .int .i64 n, .string s] 50))
 have hF : litF k n s = if k = 2 ∧ n = -9223372036854775808 then 3 else chk k n s := rfl
 obtain ⟨r, hr⟩ : ∃ r, r = chk k n s := ⟨_, rfl⟩
 rw [← hr] at hc hF
 have HC := hid hc
 have HF := hid hF
 clear hc hF hr
 by_cases h : k = 2 ∧ n = -9223372036854775808
 ·obtain ⟨rfl, rfl⟩ := h
  go_enter Tryd.func66, Tryd.ntmps66
  go_wp2_with fail
  go_ret
  exact ⟨ri (by rw [HF.out]; rfl), (Below.refl _ _).alloc (Nat.le_refl _) _⟩
 ·have HG : Hid (litF k n s = r) := by
   show _ = _
   rw [HF.out, if_neg h]
  by_cases hk : k = 2
  ·have hn : ¬ n = -9223372036854775808 := fun e => h ⟨hk, e⟩
   have hn' : (n == -9223372036854775808) = false := by simpa using hn
   clear h
   subst hk
   go_enter Tryd.func66, Tryd.ntmps66
   go_wp2_with (go_at_call 83; refine HC.out.mono ?_; rintro e w' ⟨rfl, hb⟩; have HB := hid hb; clear hb)
   go_ret
   exact ⟨ri HG.out.symm, ((Below.refl _ _).alloc (Nat.le_refl _) _).trans (HB.out.mono (by simp))⟩
  ·have hk' : (k == 2) = false := by simpa using hk
   clear h
   go_enter Tryd.func66, Tryd.ntmps66
   go_wp2_with (go_at_call 83; refine HC.out.mono ?_; rintro e w' ⟨rfl, hb⟩; have HB := hid hb; clear hb)
   go_ret
   exact ⟨ri HG.out.symm, ((Below.refl _ _).alloc (Nat.le_refl _) _).trans (HB.out.mono (by simp))⟩
end Go.Proofs.YtdeollmeljaaoaaDoor
