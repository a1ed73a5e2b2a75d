import Derived.Test.YtdeollmeljaaoaaDoorSak
import Derived.Deep.LoopGhost
set_option linter.unusedVariables false
set_option linter.unusedSimpArgs false
set_option maxHeartbeats 400000
open Go.ChangeAt Go.ChangeShapes Go.RowKit Go.WideShapes
open Go.Lib (hid)
namespace Go.Proofs.YtdeollmeljaaoaaDoor
def dgI (x : Int) : Bool := decide (48 ≤ x) && decide (x ≤ 57)
def wbI (x : Int) : Bool := (decide (97 ≤ x) && decide (x ≤ 122)) || (decide (65 ≤ x) && decide (x ≤ 90)) || decide (x = 95)
theorem dgI_is (b : UInt8) : dgI (b.toNat : Int) = dg b := by
 unfold dgI dg
 rw [Bool.eq_iff_iff]
 simp
 omega
theorem wbI_is (b : UInt8) : wbI (b.toNat : Int) = wb b := by
 unfold wbI wb
 rw [Bool.eq_iff_iff]
 simp
 omega
theorem isDigit_int (w : World) (x : Int) : Calls Tryd.prog 68 #[.int .u8 x] w fun e w' => e = .returned (.bool (dgI x)) ∧ w = w' := by
 by_cases h : 48 ≤ x
 all_goals (
  go_enter Tryd.func68, Tryd.ntmps68
  go_wp2
  go_ret
  refine ⟨rb ?_, rfl⟩
  simp [dgI, h]
  try omega)
theorem isDigit_any (w : World) (b : UInt8) : Calls Tryd.prog 68 #[.int .u8 (b.toNat : Int)] w fun e w' => e = .returned (.bool (dg b)) ∧ w = w' := by
 have := isDigit_int w (b.toNat : Int)
 rwa [dgI_is] at this
theorem inWord_int (w : World) (x : Int) : Calls Tryd.prog 70 #[.int .u8 x] w fun e w' => e = .returned (.bool (wbI x || dgI x)) ∧ w = w' := by
 have hc := isDigit_int w x
 obtain ⟨d, hd⟩ : ∃ d, d = dgI x := ⟨_, rfl⟩
 rw [← hd] at hc ⊢
 have HC := hid hc
 clear hc hd
 by_cases h1 : 97 ≤ x <;> by_cases h2 : x ≤ 122 <;> by_cases h3 : 65 ≤ x <;> by_cases h4 : x ≤ 90 <;> by_cases h5 : x = 95
 all_goals first | (exfalso; omega) | (
  go_enter Tryd.func70, Tryd.ntmps70
  go_wp2_with (go_at_call 68; refine HC.out.mono ?_; rintro e w' ⟨rfl, rfl⟩)
  go_ret
  refine ⟨rb ?_, rfl⟩
  simp [wbI, h1, h2, h3, h4, h5]
  try (intro hh; omega))
theorem inWord_any (w : World) (b : UInt8) : Calls Tryd.prog 70 #[.int .u8 (b.toNat : Int)] w fun e w' => e = .returned (.bool (iw b)) ∧ w = w' := by
 have := inWord_int w (b.toNat : Int)
 rwa [dgI_is, wbI_is] at this
theorem byte_at (s : ByteArray) (k : Nat) (h : k < s.size) : s[k] = s.data.toList.getD k 0 := by
 have h' : k < s.data.size := h
 show s.data[k] = _
 simp only [List.getD, Array.getElem?_toList, Array.getElem?_eq_getElem h', Option.getD_some]
set_option maxHeartbeats 1000000 in
theorem span_word (w : World) (s : ByteArray) (hs : s.size ≤ maxLen) : Calls Tryd.prog 69 #[.string s, .func (.func 70) #[] #[]] w fun e w' => e = .returned (.int .i64 (spn iw s.data.toList : Nat)) ∧ w = w' := by
 unfold maxLen at hs
 have hlen : s.data.toList.length = s.size := by rw [Array.length_toList]; rfl
 have HL := hid hlen
 clear hlen
 go_enter Tryd.func69, Tryd.ntmps69
 go_wp2
 go_loop [8] (fun i => ∃ k : Nat, k ≤ s.size ∧ i = .int .i64 (k : Int) ∧ Hid (∀ j, j < k → iw (s.data.toList.getD j 0) = true)) (fun i => s.size - (intOf i).toNat)
 case atStart => exact ⟨0, by omega, rfl, fun j hj => absurd hj (by omega)⟩
 case round =>
  obtain ⟨k, hk, rfl, HA⟩ := hrel
  by_cases hlt : k < s.size
  ·have hc := inWord_any w s[k]
   have hb : iw (s.data.toList.getD k 0) = iw s[k] := by rw [byte_at s k hlt]
   obtain ⟨d, hd⟩ : ∃ d, d = iw s[k] := ⟨_, rfl⟩
   rw [← hd] at hc hb
   have HC := hid hc
   have HB := hid hb
   clear hc hb hd
   cases d
   ·go_wp2_with (go_at_call 70; refine HC.out.mono ?_; rintro e w' ⟨rfl, rfl⟩)
    go_ret
    exact ⟨ri (by rw [spn_at iw _ k HA.out (by rw [HL.out]; exact hlt) HB.out]), rfl⟩
   ·go_wp2_with (go_at_call 70; refine HC.out.mono ?_; rintro e w' ⟨rfl, rfl⟩)
    go_round
    case rel =>
     refine ⟨k + 1, by omega, by go_num, fun j hj => ?_⟩
     rcases Nat.lt_or_ge j k with h | h
     ·exact HA.out j h
     ·obtain rfl : j = k := by omega
      exact HB.out
    case measure => simp [intOf]; omega
  ·obtain rfl : k = s.size := by omega
   go_wp2
   go_ret
   exact ⟨ri (by rw [spn_all iw _ (fun j hj => HA.out j (by rw [HL.out] at hj; exact hj)), HL.out]), rfl⟩
end Go.Proofs.YtdeollmeljaaoaaDoor
