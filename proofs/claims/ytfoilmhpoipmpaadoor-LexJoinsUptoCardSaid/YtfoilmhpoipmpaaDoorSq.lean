/- Tokens in memory; a statement cut: the program. -/
import Derived.Test.YtfoilmhpoipmpaaDoorSp
namespace Go.Proofs.YtfoilmhpoipmpaaDoor
open Go.ChangeShapes Go.WideShapes Go.ChangeAt Go.RowKit
set_option linter.unusedVariables false
set_option linter.unusedSimpArgs false
set_option maxHeartbeats 1000000
abbrev blanks : ByteArray := ⟨#[32, 9, 10, 13]⟩
theorem bk_is (b : UInt8) : decide (0 ≤ Lib.indexByte blanks.data.toList (b.toNat : Int).toNat.toUInt8) = bk b := by
  have e : ((b.toNat : Int)).toNat.toUInt8 = b := by simp
  rw [e]
  by_cases h1 : b = 32
  · subst h1; decide
  · by_cases h2 : b = 9
    · subst h2; decide
    · by_cases h3 : b = 10
      · subst h3; decide
      · by_cases h4 : b = 13
        · subst h4; decide
        · have f : ∀ k : UInt8, ¬ b = k → (k == b) = false ∧ ¬ b.toNat = k.toNat := fun k h => ⟨by simpa using fun e => h e.symm, fun e => h (UInt8.toNat_inj.1 e)⟩
          have g1 := f _ h1
          have g2 := f _ h2
          have g3 := f _ h3
          have g4 := f _ h4
          have hi : Lib.indexByte [32, 9, 10, 13] b = -1 := by simp [Lib.indexByte, g1.1, g2.1, g3.1, g4.1]
          show decide (0 ≤ Lib.indexByte [32, 9, 10, 13] b) = _
          rw [hi]
          unfold bk
          have t1 : ¬ b.toNat = 32 := g1.2
          have t2 : ¬ b.toNat = 9 := g2.2
          have t3 : ¬ b.toNat = 10 := g3.2
          have t4 : ¬ b.toNat = 13 := g4.2
          simp [t1, t2, t3, t4]
theorem flip_w2 {f : FuncId} {args : Array Value} {w : World} {v : Value} (h : Calls Tryd.prog f args w fun e w' => e = .returned v ∧ w' = w) : Calls Tryd.prog f args w fun e w' => e = .returned v ∧ w = w' := h.mono fun _ _ ⟨h, g⟩ => ⟨h, g.symm⟩
theorem oneOf_any (w : World) (t : ByteArray) : Calls Tryd.prog 24 #[.string t] w fun e w' => e = .returned (.func (.func 39) #[] #[.pointer (some ⟨w.heap.size, 0, none⟩)]) ∧ w' = w.alloc (.cells #[.string t] 9) := by
  go_enter Tryd.func24, Tryd.ntmps24
  go_wp2
  go_ret
  exact ⟨rfl, rfl⟩
theorem oneOf1_any (w : World) (B : Nat) (hB : w.cell? ⟨B, 0, none⟩ = some (.string blanks)) (b : UInt8) : Calls Tryd.prog 39 #[.int .u8 (b.toNat : Int), .pointer (some ⟨B, 0, none⟩)] w fun e w' => e = .returned (.bool (bk b)) ∧ w = w' := by
  have hc := flip_w2 (Tryd.strings_IndexByte blanks (b.toNat : Int) w)
  have hk := bk_is b
  obtain ⟨x, hx⟩ : ∃ x, x = Lib.indexByte blanks.data.toList (b.toNat : Int).toNat.toUInt8 := ⟨_, rfl⟩
  rw [← hx] at hc hk
  have HC := Lib.hid hc
  have HK := Lib.hid hk
  clear hc hk hx
  by_cases h : 0 ≤ x
  all_goals (
    go_enter Tryd.func39, Tryd.ntmps39
    go_wp2_with (go_at_call 40; refine HC.out.mono ?_; rintro e w' ⟨rfl, rfl⟩)
    go_ret
    exact ⟨rb (by rw [← HK.out]; try simp [h]), rfl⟩)
set_option maxHeartbeats 1000000 in
theorem span_blank (w : World) (B : Nat) (s : ByteArray) (hs : s.size ≤ maxLen) (hB : w.cell? ⟨B, 0, none⟩ = some (.string blanks)) : Calls Tryd.prog 25 #[.string s, .func (.func 39) #[] #[.pointer (some ⟨B, 0, none⟩)]] w fun e w' => e = .returned (.int .i64 (spn bk s.data.toList : Nat)) ∧ w = w' := by
  unfold maxLen at hs
  have hlen : s.data.toList.length = s.size := by rw [Array.length_toList]; rfl
  have HL := Lib.hid hlen
  clear hlen
  have HBB := Lib.hid hB
  clear hB
  go_enter Tryd.func25, Tryd.ntmps25
  go_wp2
  go_loop [8] (fun i => ∃ k : Nat, k ≤ s.size ∧ i = .int .i64 (k : Int) ∧ Hid (∀ j, j < k → bk (s.data.toList.getD j 0) = true)) (fun i => s.size - (intOf i).toNat)
  case atStart => exact ⟨0, by omega, rfl, fun j hj => absurd hj (by omega)⟩
  case round =>
    obtain ⟨k, hk, rfl, HA⟩ := hrel
    by_cases hlt : k < s.size
    · have hc := oneOf1_any w B HBB.out s[k]
      have hb : bk (s.data.toList.getD k 0) = bk s[k] := by rw [byte_at s k hlt]
      obtain ⟨d, hd⟩ : ∃ d, d = bk s[k] := ⟨_, rfl⟩
      rw [← hd] at hc hb
      have HC := Lib.hid hc
      have HB := Lib.hid hb
      clear hc hb hd
      cases d
      · go_wp2_with (go_at_call 39; refine HC.out.mono ?_; rintro e w' ⟨rfl, rfl⟩)
        go_ret
        exact ⟨ri (by rw [spn_at bk _ k HA.out (by rw [HL.out]; exact hlt) HB.out]), rfl⟩
      · go_wp2_with (go_at_call 39; refine HC.out.mono ?_; rintro e w' ⟨rfl, rfl⟩)
        go_round
        case rel =>
          refine ⟨k + 1, by omega, by go_num, fun j hj => ?_⟩
          rcases Nat.lt_or_ge j k with h | h
          · exact HA.out j h
          · obtain rfl : j = k := by omega
            exact HB.out
        case measure => simp [intOf]; omega
    · obtain rfl : k = s.size := by omega
      go_wp2
      go_ret
      exact ⟨ri (by rw [spn_all bk _ (fun j hj => HA.out j (by rw [HL.out] at hj; exact hj)), HL.out]), rfl⟩
end Go.Proofs.YtfoilmhpoipmpaaDoor
