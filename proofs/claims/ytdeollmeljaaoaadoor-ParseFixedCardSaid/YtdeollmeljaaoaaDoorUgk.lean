import Derived.Test.YtdeollmeljaaoaaDoorUek
import Derived.Test.YtdeollmeljaaoaaDoorUbk
import Derived.Test.YtdeollmeljaaoaaDoorBfk
/- Ops: what one lacks, by the program. -/
namespace Go.Proofs.YtdeollmeljaaoaaDoor
open Go.ChangeShapes Go.WideShapes Go.ChangeAt Go.RowKit
set_option linter.unusedVariables false
set_option linter.unusedSimpArgs false
set_option maxHeartbeats 1000000
theorem checkOp_any (w : World) (hM : Mk w) (hK : Kt w) (k vk vn : Int) (vt t : ByteArray) (hs : t.size ≤ maxLen) :
    Calls Tryd.prog 67 #[.agg #[.int .i64 k, .int .i64 vk, .int .i64 vn, .string vt, .string t]] w fun e w' => e = .returned (.int .i64 (opF k vk vn vt t)) ∧ Below w.heap.size w w' := by
  have hl := lit_any vk vn vt (w.alloc (.cells #[.int .i64 k, .int .i64 vk, .int .i64 vn, .string vt, .string t] 54))
  have hF : opF k vk vn vt t = if k < 1 ∨ 11 < k then 2 else if litF vk vn vt ≠ 0 then litF vk vn vt
    else if (k ≠ 1 ∧ vnul vk vn vt = false) ∨ (k ≠ 2 ∧ t.toList.isEmpty = false) then 6 else if k = 2 then nmF t.data.toList else 0 := rfl
  obtain ⟨r, hr⟩ : ∃ r, r = litF vk vn vt := ⟨_, rfl⟩
  rw [← hr] at hl hF
  have HL := Lib.hid hl
  have HF := Lib.hid hF
  have HN : Hid (∀ w1, Below w.heap.size w w1 → Calls Tryd.prog 25 #[.string t] w1 fun e w' => e = .returned (.int .i64 (nmF t.data.toList)) ∧ Below w1.heap.size w1 w') := fun w1 hb => name_any w1 (hM.below hb) (hK.below hb) t hs
  clear hl hF hr hM hK
  by_cases h1 : k < 1
  · go_enter Tryd.func67, Tryd.ntmps67
    go_wp2_with fail
    go_ret
    exact ⟨ri (by rw [HF.out, if_pos (.inl h1)]), (Below.refl _ _).alloc (Nat.le_refl _) _⟩
  · by_cases h11 : 11 < k
    · go_enter Tryd.func67, Tryd.ntmps67
      go_wp2_with fail
      go_ret
      exact ⟨ri (by rw [HF.out, if_pos (.inr h11)]), (Below.refl _ _).alloc (Nat.le_refl _) _⟩
    · by_cases hr0 : r = 0
      · subst hr0
        go_enter Tryd.func67, Tryd.ntmps67
        go_wp2_with fail
        refine HL.out.mono ?_
        rintro e w1 ⟨rfl, hb⟩
        have HB := Lib.hid (into ((Below.refl _ _).alloc (Nat.le_refl _) _) hb)
        have hblk := hb.block w.heap.size (by simp)
        rw [new0] at hblk
        have c0 : w1.cell? ⟨w.heap.size, 0, none⟩ = some (.int .i64 k) := by simp [World.cell?, hblk]
        have c1 : w1.cell? ⟨w.heap.size, 1, none⟩ = some (.int .i64 vk) := by simp [World.cell?, hblk]
        have c2 : w1.cell? ⟨w.heap.size, 2, none⟩ = some (.int .i64 vn) := by simp [World.cell?, hblk]
        have c3 : w1.cell? ⟨w.heap.size, 3, none⟩ = some (.string vt) := by simp [World.cell?, hblk]
        have c4 : w1.cell? ⟨w.heap.size, 4, none⟩ = some (.string t) := by simp [World.cell?, hblk]
        clear hb hblk
        have HO : Hid (Below w.heap.size w w1) := HB.out
        clear HL
        go_wp2_with (go_at_call 25; (with_reducible refine (HN.out _ HO.out).mono ?_); rintro e w2 ⟨rfl, hb2⟩; have HB := Lib.hid (into HO.out hb2); clear hb2)
        all_goals (
          go_ret
          refine ⟨ri ?_, HB.out⟩
          rw [HF.out]
          clear HF HB HO HN
          (try simp_all [vnul])
          (try omega))
      · have hr0' : (r == 0) = false := by simpa using hr0
        go_enter Tryd.func67, Tryd.ntmps67
        go_wp2_with fail
        refine HL.out.mono ?_
        rintro e w1 ⟨rfl, hb⟩
        have HB := Lib.hid (into ((Below.refl _ _).alloc (Nat.le_refl _) _) hb)
        clear hb
        go_wp2_with fail
        go_ret
        exact ⟨ri (by rw [HF.out, if_neg (by omega), if_pos hr0]), HB.out⟩
end Go.Proofs.YtdeollmeljaaoaaDoor
