import Derived.Test.YtmfkdpfcpdmkdaaDoorSck
import Derived.Test.YtmfkdpfcpdmkdaaDoorKpk
/- Words of raw texts: one to six small letters. -/
namespace Go.Proofs.YtmfkdpfcpdmkdaaDoor
open Go.ChangeShapes Go.WideShapes Go.ChangeAt Go.RowKit
set_option linter.unusedVariables false
set_option linter.unusedSimpArgs false
set_option maxHeartbeats 1000000
/-- One to six small letters. -/
def Lw (t : List UInt8) : Prop := 1 ≤ t.length ∧ t.length ≤ 6 ∧ ∀ b ∈ t, 97 ≤ b.toNat ∧ b.toNat ≤ 122
def WordIs (w0 : World) (e : Ending) (w' : World) : Prop := ∃ t : List UInt8, e = .returned (.string ⟨t.toArray⟩) ∧ Lw t ∧ Below w0.heap.size w0 w'
theorem letter_fin : ∀ r : Fin 26, (UInt8.ofNat (97 + r.val)).toNat = 97 + r.val := by decide
theorem letter (x : Int) (h0 : 0 ≤ x) : ((UInt8.ofNat (97 + (x % 26).toNat)).toNat : Int) = 97 + x % 26 ∧ 97 ≤ (UInt8.ofNat (97 + (x % 26).toNat)).toNat ∧ (UInt8.ofNat (97 + (x % 26).toNat)).toNat ≤ 122 := by
  have h := letter_fin ⟨(x % 26).toNat, by omega⟩
  simp only at h
  rw [h]
  omega
theorem kword_any (w : World) (s : ByteArray) (hs : s.size ≤ maxLen) : Calls Tryd.prog 16 #[.string s] w (WordIs w) := by
  unfold maxLen at hs
  go_enter Tryd.func16, Tryd.ntmps16
  go_wp2
  go_loopw [3, 4] (fun v i wr => ∃ (j : Nat) (acc : List UInt8), j ≤ 6 ∧ j ≤ s.size ∧ i = .int .i64 (j : Int) ∧ acc.length = j ∧ Hid (∀ b ∈ acc, 97 ≤ b.toNat ∧ b.toNat ≤ 122) ∧ Hid (wr.ownsRow w.heap.size 5 1 v j (bc acc)) ∧ Hid (Below w.heap.size w wr)) (fun _ i _ => 6 - (intOf i).toNat)
  case atStart => exact ⟨0, [], by omega, by omega, rfl, rfl, (fun b hb => by simp at hb), World.ownsRow_nil _ _ _ _, Below.refl _ _⟩
  case round =>
    obtain ⟨j, acc, hj6, hjs, rfl, hac, HA, HO, HBL⟩ := hrel
    have hwz := HBL.out.size
    have hend : ∀ (h : ¬ (j < s.size ∧ j < 6)), True := fun _ => trivial
    clear hend
    by_cases hin : j < s.size ∧ j < 6
    · obtain ⟨hlt, h6⟩ := hin
      have h6I : (j : Int) < 6 := by omega
      obtain ⟨x, hx⟩ : ∃ x : Int, ((s[j]).toNat : Int) = x := ⟨_, rfl⟩
      have hx0 : 0 ≤ x := by omega
      have hx1 : x < 256 := by have := (s[j]).toNat_lt; omega
      obtain ⟨l1, l2, l3⟩ := letter x hx0
      have hr1 : 0 ≤ x % 26 := by omega
      have hr2 : x % 26 < 26 := by omega
      have L1 := Lib.hid l1
      have L2 := Lib.hid (And.intro l2 l3)
      clear l1 l2 l3
      go_wp2_with (at_builtin; refine ap1 wr rfl (.tmp 15) (.tmp 21) rfl HO.out (by omega) (by omega) rfl wr.heap.size rfl rfl rfl ?_; intro v1 w1 hown1 hb1 _; have HO1 := Lib.hid hown1; have HB1 := Lib.hid hb1; clear hown1 hb1)
      go_roundw
      case rel =>
        refine ⟨j + 1, acc ++ [UInt8.ofNat (97 + (x % 26).toNat)], by omega, by omega, by go_num, by simp; omega, fun b hb => ?_, ?_, HBL.out.trans HB1.out⟩
        · rcases List.mem_append.1 hb with h | h
          · exact HA.out b h
          · simp at h
            subst h
            simpa using L2.out
        · have := HO1.out
          show World.ownsRow _ _ _ _ _ _ _
          rw [bc_app]
          have e : bc [UInt8.ofNat (97 + (x % 26).toNat)] = [.int .u8 (97 + x % 26)] := by
            show [Value.int .u8 ((UInt8.ofNat (97 + (x % 26).toNat)).toNat : Int)] = _
            rw [L1.out]
          rw [e]
          exact this
      case measure => simp [intOf]; omega
    · obtain ⟨_, ao, cap, rfl, hcap, _⟩ := Rd.own HO.out
      have hcv := str_of (Rd.own HO.out)
      have HAC := Lib.hid hac
      clear hac
      by_cases h0 : j = 0
      · have hsz : ¬ j < s.size := by omega
        subst h0
        go_wp2_with fail
        go_ret
        exact ⟨[120], rfl, ⟨by decide, by decide, by decide⟩, HBL.out⟩
      · have hj0 : ((j : Int) == 0) = false := by simpa using h0
        by_cases hlt : j < s.size
        · have h6n : ¬ (j : Int) < 6 := by omega
          go_wp2_with fail
          go_ret
          exact ⟨acc, rfl, ⟨by rw [HAC.out]; omega, by rw [HAC.out]; omega, HA.out⟩, HBL.out⟩
        · go_wp2_with fail
          go_ret
          exact ⟨acc, rfl, ⟨by rw [HAC.out]; omega, by rw [HAC.out]; omega, HA.out⟩, HBL.out⟩
end Go.Proofs.YtmfkdpfcpdmkdaaDoor
