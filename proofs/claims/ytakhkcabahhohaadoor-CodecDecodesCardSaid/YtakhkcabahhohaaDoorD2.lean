import Derived.Test.YtakhkcabahhohaaDoorD1
import Derived.Laws.Bits64b
namespace Go.Proofs.YtakhkcabahhohaaDoor
open Go.ChangeShapes Go.WideShapes Go.ChangeAt Go.RowKit
set_option linter.unusedVariables false
set_option linter.unusedSimpArgs false
set_option maxHeartbeats 1000000
theorem hor_app : ∀ (l : List UInt8) (x : UInt8), hor (l ++ [x]) = hor l * 256 + x.toNat
  | [], x => by simp [hor]
  | y :: l, x => by
    simp only [List.cons_append, hor, hor_app l x, List.length_append, List.length_singleton, Nat.pow_succ, Nat.add_mul]
    rw [Nat.mul_assoc]
    omega
theorem or_byte (U : Nat) (x : UInt8) (h : U < 72057594037927936) : bits .or .u64 ((U * 256 : Nat) : Int) (x.toNat : Int) = ((U * 256 + x.toNat : Nat) : Int) := by
  have hx : x.toNat < 256 := x.toNat_lt
  rw [bits_or_u64_nat _ _ (by omega) (by omega)]
  have := Nat.shiftLeft_add_eq_or_of_lt (show x.toNat < 2 ^ 8 by omega) U
  rw [Nat.shiftLeft_eq] at this
  rw [← this]
theorem byte_next {l : List UInt8} {k : Nat} (h : k < l.length) : l.take (k + 1) = l.take k ++ [l.getD k 0] := by
  rw [List.take_succ_eq_append_getElem h]
  simp [List.getD, h]
def takN (l : List UInt8) : V × List UInt8 × Int := (⟨2, num8 (l.take 8), ⟨#[]⟩⟩, l.drop 8, 0)
theorem tn_any (n : Nat) (v : Value) (l : List UInt8) (w0 w : World) (hw : Below w0.heap.size w0 w) (hn : 8 ≤ n) (hL : Lst w) (hr0 : Rd w0 1 n v (bc l)) :
    Calls Tryd.prog 25 #[v] w fun e w' => ∃ v', e = .returned (.tuple #[va (takN l).1, v', .int .i64 (takN l).2.2]) ∧ Rd w0 1 (takN l).2.1.length v' (bc (takN l).2.1) ∧ Below w.heap.size w w' := by
  have hr := hr0.below hw
  obtain ⟨hl, b, o, cap, rfl, hnc, hcm, hbw, hcell⟩ := bytes_of hr (by omega)
  have HC := Lib.hid hcell
  have HR := Lib.hid hr0
  have hcm' : (cap : Int) ≤ 9223372036854775807 := by unfold maxLen at hcm; omega
  obtain ⟨L0, L1, L2, L3⟩ := hL
  have hb0 := lt_cell L2
  simp only at hb0
  clear hr hr0 hcell L0 L1 L3
  go_enter Tryd.func25, Tryd.ntmps25
  go_wp2
  go_loopw [6, 15] (fun u i wr => ∃ k : Nat, k ≤ 8 ∧ i = .int .i64 (k : Int) ∧ u = .int .u64 ((hor (l.take k) : Nat) : Int) ∧ wr = w.alloc (.cells #[.int .i64 0, .int .i64 0, .string ⟨#[]⟩] 35)) (fun _ i _ => 8 - (intOf i).toNat)
  case atStart => exact ⟨0, by omega, rfl, by simp [hor], rfl⟩
  case round =>
    obtain ⟨k, hk, rfl, rfl, rfl⟩ := hrel
    by_cases hlt : k < 8
    · have c0 := HC.out k (by omega)
      have hU : hor (l.take k) < 72057594037927936 := by
        have h1 := hor_lt (l.take k)
        have h2 : (l.take k).length = k := by simp; omega
        rw [h2] at h1
        have h3 : 256 ^ k ≤ 256 ^ 7 := Nat.pow_le_pow_right (by omega) (by omega)
        omega
      obtain ⟨U, hUe⟩ : ∃ U, U = hor (l.take k) := ⟨_, rfl⟩
      obtain ⟨x, hx⟩ : ∃ x, x = l.getD k 0 := ⟨_, rfl⟩
      rw [← hUe] at hU ⊢
      rw [← hx] at c0
      have HU := Lib.hid hUe
      have HX := Lib.hid hx
      clear hUe hx
      go_wp2_with fail
      go_roundw
      case rel =>
        refine ⟨k + 1, by omega, by go_num, ?_, ?_⟩
        · have hkl : k < l.length := by omega
          have e : hor (l.take (k + 1)) = U * 256 + x.toNat := by rw [byte_next hkl, hor_app, ← HU.out, ← HX.out]
          have hx8 : x.toNat < 256 := x.toNat_lt
          have e2 : IntKind.u64.wrap (x.toNat : Int) = (x.toNat : Int) := by rw [IntKind.wrap_u64]; omega
          have e3 : (U : Int) * 256 = ((U * 256 : Nat) : Int) := by omega
          rw [e, e2, e3, or_byte U x hU]
        · trivial
      case measure => simp [intOf]; omega
    · obtain rfl : k = 8 := by omega
      have hU : hor (l.take 8) < 18446744073709551616 := by
        have h1 := hor_lt (l.take 8)
        have h2 : (l.take 8).length = 8 := by simp; omega
        rw [h2] at h1
        omega
      obtain ⟨U, hUe⟩ : ∃ U, U = hor (l.take 8) := ⟨_, rfl⟩
      rw [← hUe] at hU ⊢
      have HU := Lib.hid hUe
      clear hUe
      go_wp2_with fail
      go_region
      all_goals go_wp2
      all_goals go_returns
      all_goals (
        have e1 : wrap64 (IntKind.u64.wrap ((U : Int) - 9223372036854775808)) = (U : Int) - 9223372036854775808 := by
          rw [IntKind.wrap_u64]
          unfold wrap64
          omega
        have e2 : takN l = (⟨2, (U : Int) - 9223372036854775808, ⟨#[]⟩⟩, l.drop 8, 0) := by rw [takN, num8, ← HU.out]
        rw [e1, e2])
      · refine ⟨_, rfl, rd_cut HR.out (Below.refl _ _) 8 (by omega) (.inl (by omega)) (by omega) (by omega), ?_⟩ <;> go_grown
      · refine ⟨_, rfl, rd_cut HR.out (Below.refl _ _) 8 (by omega) (.inr rfl) (by omega) (by omega), ?_⟩ <;> go_grown
end Go.Proofs.YtakhkcabahhohaaDoor
