import Derived.Test.YtnheepkmaibofaaDoorB0k
import Derived.Deep.LoopGhost
/- Bytes, spans: the program's and the document's small functions. -/
namespace Go.Proofs.YtnheepkmaibofaaDoor
open Go.ChangeShapes Go.WideShapes Go.ChangeAt Go.RowKit
set_option linter.unusedVariables false
set_option linter.unusedSimpArgs false
set_option maxHeartbeats 400000
def dgI (x : Int) : Bool := decide (48 ≤ x) && decide (x ≤ 57)
def wbI (x : Int) : Bool := (decide (97 ≤ x) && decide (x ≤ 122)) || (decide (65 ≤ x) && decide (x ≤ 90)) || decide (x = 95)
theorem dgI_is (b : UInt8) : dgI (b.toNat : Int) = dg b := by
  unfold dgI dg
  rw [Bool.eq_iff_iff]
  simp
  omega
theorem wbI_is (b : UInt8) : wbI (b.toNat : Int) = wb b := by
  unfold wbI wb
  rw [Bool.eq_iff_iff]
  simp
  omega
theorem isDigit_int (w : World) (x : Int) : Calls Tryd.prog 85 #[.int .u8 x] w fun e w' => e = .returned (.bool (dgI x)) ∧ w = w' := by
  by_cases h : 48 ≤ x
  all_goals (
    go_enter Tryd.func85, Tryd.ntmps85
    go_wp2
    go_ret
    refine ⟨rb ?_, rfl⟩
    simp [dgI, h]
    try omega)
theorem isDigit_any (w : World) (b : UInt8) : Calls Tryd.prog 85 #[.int .u8 (b.toNat : Int)] w fun e w' => e = .returned (.bool (dg b)) ∧ w = w' := by
  have := isDigit_int w (b.toNat : Int)
  rwa [dgI_is] at this
theorem inWord_int (w : World) (x : Int) : Calls Tryd.prog 87 #[.int .u8 x] w fun e w' => e = .returned (.bool (wbI x || dgI x)) ∧ w = w' := by
  have hc := isDigit_int w x
  obtain ⟨d, hd⟩ : ∃ d, d = dgI x := ⟨_, rfl⟩
  rw [← hd] at hc ⊢
  have HC := Lib.hid hc
  clear hc hd
  by_cases h1 : 97 ≤ x <;> by_cases h2 : x ≤ 122 <;> by_cases h3 : 65 ≤ x <;> by_cases h4 : x ≤ 90 <;> by_cases h5 : x = 95
  all_goals first | (exfalso; omega) | (
    go_enter Tryd.func87, Tryd.ntmps87
    go_wp2_with (go_at_call 85; refine HC.out.mono ?_; rintro e w' ⟨rfl, rfl⟩)
    go_ret
    refine ⟨rb ?_, rfl⟩
    simp [wbI, h1, h2, h3, h4, h5]
    try (intro hh; omega))
theorem inWord_any (w : World) (b : UInt8) : Calls Tryd.prog 87 #[.int .u8 (b.toNat : Int)] w fun e w' => e = .returned (.bool (iw b)) ∧ w = w' := by
  have := inWord_int w (b.toNat : Int)
  rwa [dgI_is, wbI_is] at this
theorem in_any (w : World) (a b c : Int) : Calls Tryd.prog 24 #[.int .i64 a, .int .i64 b, .int .i64 c] w fun e w' => e = .returned (.bool (decide (b ≤ a) && decide (a ≤ c))) ∧ w = w' := by
  by_cases h : b ≤ a
  all_goals (
    go_enter Tryd.func24, Tryd.ntmps24
    go_wp2
    go_ret
    refine ⟨rb ?_, rfl⟩
    simp [h]
    try omega)
theorem numberByte_any (w : World) (b : UInt8) : Calls Tryd.prog 78 #[.int .u8 (b.toNat : Int)] w fun e w' => e = .returned (.bool (dg b)) ∧ w = w' := by
  have h0 := b.toNat_lt
  have hc := in_any w (b.toNat : Int) 48 57
  have e : (decide ((48 : Int) ≤ (b.toNat : Int)) && decide ((b.toNat : Int) ≤ 57)) = dg b := dgI_is b
  rw [e] at hc
  have HC := Lib.hid hc
  clear hc e
  generalize b.toNat = x at *
  go_enter Tryd.func78, Tryd.ntmps78
  go_wp2_with (go_at_call 24; refine HC.out.mono ?_; rintro e w' ⟨rfl, rfl⟩)
  go_ret
  exact ⟨rfl, rfl⟩
theorem wordByte_any (w : World) (b : UInt8) : Calls Tryd.prog 79 #[.int .u8 (b.toNat : Int)] w fun e w' => e = .returned (.bool (wb b)) ∧ w = w' := by
  have h0 := b.toNat_lt
  have hc1 := in_any w (b.toNat : Int) 97 122
  have hc2 := in_any w (b.toNat : Int) 65 90
  have e : wb b = ((decide ((97 : Int) ≤ (b.toNat : Int)) && decide ((b.toNat : Int) ≤ 122)) || (decide ((65 : Int) ≤ (b.toNat : Int)) && decide ((b.toNat : Int) ≤ 90)) || decide ((b.toNat : Int) = 95)) := (wbI_is b).symm
  rw [e]
  clear e
  obtain ⟨x, hx⟩ : ∃ x : Int, x = (b.toNat : Int) := ⟨_, rfl⟩
  rw [← hx] at hc1 hc2 ⊢
  have h1 : 0 ≤ x := by omega
  have h2 : x < 256 := by omega
  clear hx h0
  generalize (decide ((97 : Int) ≤ x) && decide (x ≤ 122)) = p at *
  generalize (decide ((65 : Int) ≤ x) && decide (x ≤ 90)) = q at *
  have H1 := Lib.hid hc1
  have H2 := Lib.hid hc2
  clear hc1 hc2
  cases p <;> cases q
  all_goals (
    go_enter Tryd.func79, Tryd.ntmps79
    go_wp2_with (first | (go_at_call 24; ((with_reducible refine H1.out.mono ?_); rintro e w' ⟨rfl, rfl⟩)) | (go_at_call 24; ((with_reducible refine H2.out.mono ?_); rintro e w' ⟨rfl, rfl⟩)))
    go_ret
    refine ⟨rb ?_, rfl⟩
    first | rfl | (simp; done) | (simp; rfl))
/-- A byte of a text. -/
theorem byte_at (s : ByteArray) (k : Nat) (h : k < s.size) : s[k] = s.data.toList.getD k 0 := by
  have h' : k < s.data.size := h
  show s.data[k] = _
  simp only [List.getD, Array.getElem?_toList, Array.getElem?_eq_getElem h', Option.getD_some]
set_option maxHeartbeats 1000000 in
theorem span_digit (w : World) (s : ByteArray) (hs : s.size ≤ maxLen) : Calls Tryd.prog 86 #[.string s, .func (.func 85) #[] #[]] w fun e w' => e = .returned (.int .i64 (spn dg s.data.toList : Nat)) ∧ w = w' := by
  unfold maxLen at hs
  have hlen : s.data.toList.length = s.size := by rw [Array.length_toList]; rfl
  have HL := Lib.hid hlen
  clear hlen
  go_enter Tryd.func86, Tryd.ntmps86
  go_wp2
  go_loop [8] (fun i => ∃ k : Nat, k ≤ s.size ∧ i = .int .i64 (k : Int) ∧ Hid (∀ j, j < k → dg (s.data.toList.getD j 0) = true)) (fun i => s.size - (intOf i).toNat)
  case atStart => exact ⟨0, by omega, rfl, fun j hj => absurd hj (by omega)⟩
  case round =>
    obtain ⟨k, hk, rfl, HA⟩ := hrel
    by_cases hlt : k < s.size
    · have hc := isDigit_any w s[k]
      have hb : dg (s.data.toList.getD k 0) = dg s[k] := by rw [byte_at s k hlt]
      obtain ⟨d, hd⟩ : ∃ d, d = dg s[k] := ⟨_, rfl⟩
      rw [← hd] at hc hb
      have HC := Lib.hid hc
      have HB := Lib.hid hb
      clear hc hb hd
      cases d
      · go_wp2_with (go_at_call 85; refine HC.out.mono ?_; rintro e w' ⟨rfl, rfl⟩)
        go_ret
        exact ⟨ri (by rw [spn_at dg _ k HA.out (by rw [HL.out]; exact hlt) HB.out]), rfl⟩
      · go_wp2_with (go_at_call 85; refine HC.out.mono ?_; rintro e w' ⟨rfl, rfl⟩)
        go_round
        case rel =>
          refine ⟨k + 1, by omega, by go_num, fun j hj => ?_⟩
          rcases Nat.lt_or_ge j k with h | h
          · exact HA.out j h
          · obtain rfl : j = k := by omega
            exact HB.out
        case measure => simp [intOf]; omega
    · obtain rfl : k = s.size := by omega
      go_wp2
      go_ret
      exact ⟨ri (by rw [spn_all dg _ (fun j hj => HA.out j (by rw [HL.out] at hj; exact hj)), HL.out]), rfl⟩
set_option maxHeartbeats 1000000 in
theorem span_word (w : World) (s : ByteArray) (hs : s.size ≤ maxLen) : Calls Tryd.prog 86 #[.string s, .func (.func 87) #[] #[]] w fun e w' => e = .returned (.int .i64 (spn iw s.data.toList : Nat)) ∧ w = w' := by
  unfold maxLen at hs
  have hlen : s.data.toList.length = s.size := by rw [Array.length_toList]; rfl
  have HL := Lib.hid hlen
  clear hlen
  go_enter Tryd.func86, Tryd.ntmps86
  go_wp2
  go_loop [8] (fun i => ∃ k : Nat, k ≤ s.size ∧ i = .int .i64 (k : Int) ∧ Hid (∀ j, j < k → iw (s.data.toList.getD j 0) = true)) (fun i => s.size - (intOf i).toNat)
  case atStart => exact ⟨0, by omega, rfl, fun j hj => absurd hj (by omega)⟩
  case round =>
    obtain ⟨k, hk, rfl, HA⟩ := hrel
    by_cases hlt : k < s.size
    · have hc := inWord_any w s[k]
      have hb : iw (s.data.toList.getD k 0) = iw s[k] := by rw [byte_at s k hlt]
      obtain ⟨d, hd⟩ : ∃ d, d = iw s[k] := ⟨_, rfl⟩
      rw [← hd] at hc hb
      have HC := Lib.hid hc
      have HB := Lib.hid hb
      clear hc hb hd
      cases d
      · go_wp2_with (go_at_call 87; refine HC.out.mono ?_; rintro e w' ⟨rfl, rfl⟩)
        go_ret
        exact ⟨ri (by rw [spn_at iw _ k HA.out (by rw [HL.out]; exact hlt) HB.out]), rfl⟩
      · go_wp2_with (go_at_call 87; refine HC.out.mono ?_; rintro e w' ⟨rfl, rfl⟩)
        go_round
        case rel =>
          refine ⟨k + 1, by omega, by go_num, fun j hj => ?_⟩
          rcases Nat.lt_or_ge j k with h | h
          · exact HA.out j h
          · obtain rfl : j = k := by omega
            exact HB.out
        case measure => simp [intOf]; omega
    · obtain rfl : k = s.size := by omega
      go_wp2
      go_ret
      exact ⟨ri (by rw [spn_all iw _ (fun j hj => HA.out j (by rw [HL.out] at hj; exact hj)), HL.out]), rfl⟩
end Go.Proofs.YtnheepkmaibofaaDoor
