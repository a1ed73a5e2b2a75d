import Derived.Test.YtakhkcabahhohaaDoorCw
namespace Go.Proofs.YtakhkcabahhohaaDoor
open Go.ChangeShapes Go.WideShapes Go.ChangeAt Go.RowKit
set_option linter.unusedVariables false
set_option linter.unusedSimpArgs false
set_option maxHeartbeats 1000000
theorem esc_app : ∀ l m, esc (l ++ m) = esc l ++ esc m
  | [], m => rfl
  | b :: l, m => by
    by_cases h : b = 0 <;> simp [esc, h, esc_app l m]
theorem esc_len : ∀ l : List UInt8, (esc l).length ≤ 2 * l.length
  | [] => by simp [esc]
  | b :: l => by
    have := esc_len l
    by_cases h : b = 0 <;> simp [esc, h] <;> omega
theorem pt_any (B n : Nat) (v : Value) (xs : List Value) (t : ByteArray) (w : World) (ht : t.size ≤ 1000) (hB : B ≤ w.heap.size) (hn : n ≤ 100000) (hown : w.ownsRow B 5 1 v n xs) :
    Calls Tryd.prog 29 #[v, .string t] w fun e w' => ∃ v', e = .returned v' ∧ w'.ownsRow B 5 1 v' (n + ((esc t.toList).length + 2)) (xs ++ bc (esc t.toList ++ [0, 0])) ∧ Below B w w' := by
  have HO := Lib.hid hown
  clear hown
  go_enter Tryd.func29, Tryd.ntmps29
  go_wp2
  go_loopw [0, 8] (fun v' i wr => ∃ k : Nat, k ≤ t.size ∧ i = .int .i64 (k : Int) ∧ wr.ownsRow B 5 1 v' (n + (esc (t.toList.take k)).length) (xs ++ bc (esc (t.toList.take k))) ∧ Below B w wr) (fun _ i _ => t.size - (intOf i).toNat)
  case atStart => exact ⟨0, by omega, rfl, by simpa [bc, esc] using HO.out, Below.refl _ _⟩
  case round =>
    obtain ⟨k, hk, rfl, hown, hb⟩ := hrel
    have hz := hb.size
    have HW := Lib.hid hown
    have hel := esc_len (t.toList.take k)
    have hlk : (t.toList.take k).length ≤ 1000 := by simp; omega
    obtain ⟨N, hN⟩ : ∃ N, N = (esc (t.toList.take k)).length := ⟨_, rfl⟩
    have hNle : N ≤ 2000 := by omega
    rw [← hN] at HW
    have HN := Lib.hid hN
    clear hown hel hlk hN
    by_cases hlt : k < t.size
    · obtain ⟨b, hbk⟩ : ∃ b, t[k] = b := ⟨_, rfl⟩
      have htk : t.toList.take (k + 1) = t.toList.take k ++ [b] := by
        have hkl : k < t.toList.length := by rw [size_list]; exact hlt
        rw [List.take_succ_eq_append_getElem hkl, ← hbk]
        congr 2
        simp only [list_of]
        rfl
      have HT := Lib.hid htk
      clear htk
      by_cases hb0 : b = 0
      · have hbn : (b.toNat : Int) = 0 := by rw [hb0]; rfl
        go_wp2_with (first | (at_builtin; refine ap1 wr rfl (.tmp 11) (.tmp 15) rfl HW.out (by omega) (by omega) rfl _ rfl rfl rfl ?_; intro v1 w1 hown1 hb1 _; have hz1 := hb1.size) | (at_builtin; refine ap1 _ rfl (.tmp 21) (.tmp 22) rfl hown1 (by omega) (by omega) rfl _ rfl rfl rfl ?_; intro v2 w2 hown2 hb2 _))
        go_roundw
        case rel =>
          refine ⟨k + 1, by omega, by go_num, ?_, (hb.trans hb1).trans hb2⟩
          rw [HT.out, esc_app, hb0]
          simp only [esc, if_true, bc_app, List.length_append, ← HN.out]
          simpa [bc, Nat.add_assoc] using hown2
        case measure => simp [intOf]; omega
      · have hbn : ¬ (b.toNat : Int) = 0 := fun g => hb0 (UInt8.toNat_inj.1 (by simpa using g))
        go_wp2_with (at_builtin; refine ap1 wr rfl (.tmp 11) (.tmp 15) rfl HW.out (by omega) (by omega) rfl _ rfl rfl rfl ?_; intro v1 w1 hown1 hb1 _; have hz1 := hb1.size)
        go_roundw
        case rel =>
          refine ⟨k + 1, by omega, by go_num, ?_, hb.trans hb1⟩
          rw [HT.out, esc_app]
          simp only [esc, if_neg hb0, bc_app, List.length_append, ← HN.out]
          simpa [bc, Nat.add_assoc] using hown1
        case measure => simp [intOf]; omega
    · obtain rfl : k = t.size := by omega
      go_wp2_with (at_builtin; refine ap2 wr rfl _ _ rfl HW.out (by omega) (by omega) _ rfl rfl rfl ?_; intro v1 w1 hown1 hb1 _)
      go_ret
      refine ⟨_, rfl, ?_, hb.trans hb1⟩
      have e : t.toList.take t.size = t.toList := List.take_of_length_le (by rw [size_list]; omega)
      rw [e] at hown1
      rw [HN.out, e] at hown1
      rw [bc_app, ← List.append_assoc, ← Nat.add_assoc]
      exact hown1
end Go.Proofs.YtakhkcabahhohaaDoor
