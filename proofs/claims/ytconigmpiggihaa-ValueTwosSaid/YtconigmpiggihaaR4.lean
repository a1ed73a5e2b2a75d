import Derived.Test.YtconigmpiggihaaR3
import Derived.Test.YtconigmpiggihaaPn
namespace Go.Proofs.Ytconigmpiggihaa
open Go.ChangeShapes Go.WideShapes Go.ChangeAt Go.RowKit
set_option linter.unusedVariables false
set_option linter.unusedSimpArgs false
set_option maxHeartbeats 400000
theorem lvs91 (a b : Int) (h : 0 ≤ a) (hb : b < 0) (w : World) :
    Calls Try.prog 36 #[.int .i64 9, .int .i64 a, .int .i64 b] w fun e w' => e = .returned (.bool (lvs 9 a b)) ∧ Below w.heap.size w w' := by
  have HL : Hid (lvs 9 a b = decide (wrap64 (9223372036854775807 + b) < a)) := by
    show lvs 9 a b = _
    simp [lvs, h, hb]
  go_enter Try.func36, Try.ntmps36
  go_wp2
  go_ret
  refine ⟨rb ?_, by go_grown⟩
  rw [HL.out]
  try simp
theorem lvs92 (a b : Int) (h : 0 ≤ a) (hb : ¬ b < 0) (w : World) :
    Calls Try.prog 36 #[.int .i64 9, .int .i64 a, .int .i64 b] w fun e w' => e = .returned (.bool (lvs 9 a b)) ∧ Below w.heap.size w w' := by
  have HL : Hid (lvs 9 a b = false) := by
    show lvs 9 a b = _
    simp [lvs, h, hb]
  go_enter Try.func36, Try.ntmps36
  go_wp2
  go_ret
  refine ⟨rb ?_, by go_grown⟩
  rw [HL.out]
  try simp
theorem lvs93 (a b : Int) (h : ¬ 0 ≤ a) (hb : 0 < b) (w : World) :
    Calls Try.prog 36 #[.int .i64 9, .int .i64 a, .int .i64 b] w fun e w' => e = .returned (.bool (lvs 9 a b)) ∧ Below w.heap.size w w' := by
  have HL : Hid (lvs 9 a b = decide (a < wrap64 (-9223372036854775808 + b))) := by
    show lvs 9 a b = _
    simp [lvs, h, hb]
  have h0 : a < 0 := by omega
  go_enter Try.func36, Try.ntmps36
  go_wp2
  go_ret
  refine ⟨rb ?_, by go_grown⟩
  rw [HL.out]
  try simp
theorem lvs94 (a b : Int) (h : ¬ 0 ≤ a) (hb : ¬ 0 < b) (w : World) :
    Calls Try.prog 36 #[.int .i64 9, .int .i64 a, .int .i64 b] w fun e w' => e = .returned (.bool (lvs 9 a b)) ∧ Below w.heap.size w w' := by
  have HL : Hid (lvs 9 a b = false) := by
    show lvs 9 a b = _
    simp [lvs, h, hb]
  have h0 : a < 0 := by omega
  have hb0 : b ≤ 0 := by omega
  go_enter Try.func36, Try.ntmps36
  go_wp2
  go_ret
  refine ⟨rb ?_, by go_grown⟩
  rw [HL.out]
  try simp
theorem lvs81 (a b : Int) (hb : 0 < b) (w : World) :
    Calls Try.prog 36 #[.int .i64 8, .int .i64 a, .int .i64 b] w fun e w' => e = .returned (.bool (lvs 8 a b)) ∧ Below w.heap.size w w' := by
  have HL : Hid (lvs 8 a b = decide (wrap64 (9223372036854775807 - b) < a)) := by
    show lvs 8 a b = _
    simp [lvs, hb]
  go_enter Try.func36, Try.ntmps36
  go_wp2
  go_ret
  refine ⟨rb ?_, by go_grown⟩
  rw [HL.out]
  try simp
theorem lvs82 (a b : Int) (hb : ¬ 0 < b) (w : World) :
    Calls Try.prog 36 #[.int .i64 8, .int .i64 a, .int .i64 b] w fun e w' => e = .returned (.bool (lvs 8 a b)) ∧ Below w.heap.size w w' := by
  have HL : Hid (lvs 8 a b = decide (a < wrap64 (-9223372036854775808 - b))) := by
    show lvs 8 a b = _
    simp [lvs, hb]
  have hb0 : b ≤ 0 := by omega
  go_enter Try.func36, Try.ntmps36
  go_wp2
  go_ret
  refine ⟨rb ?_, by go_grown⟩
  rw [HL.out]
  try simp
theorem lvs01 (d a b : Int) (h9 : ¬ d = 9) (h8 : ¬ d = 8) (ha : a = 0) (w : World) :
    Calls Try.prog 36 #[.int .i64 d, .int .i64 a, .int .i64 b] w fun e w' => e = .returned (.bool (lvs d a b)) ∧ Below w.heap.size w w' := by
  have HL : Hid (lvs d a b = false) := by
    show lvs d a b = _
    simp [lvs, h9, h8, ha]
  have h9' : (d == 9) = false := by simp [h9]
  have h8' : (d == 8) = false := by simp [h8]
  go_enter Try.func36, Try.ntmps36
  go_wp2
  go_ret
  refine ⟨rb ?_, by go_grown⟩
  rw [HL.out]
  try simp
theorem lvs02 (d a b : Int) (h9 : ¬ d = 9) (h8 : ¬ d = 8) (ha : ¬ a = 0) (hb : b = 0) (w : World) :
    Calls Try.prog 36 #[.int .i64 d, .int .i64 a, .int .i64 b] w fun e w' => e = .returned (.bool (lvs d a b)) ∧ Below w.heap.size w w' := by
  have HL : Hid (lvs d a b = false) := by
    show lvs d a b = _
    simp [lvs, h9, h8, ha, hb]
  have h9' : (d == 9) = false := by simp [h9]
  have h8' : (d == 8) = false := by simp [h8]
  have ha0 : (a == 0) = false := by simp [ha]
  go_enter Try.func36, Try.ntmps36
  go_wp2
  go_ret
  refine ⟨rb ?_, by go_grown⟩
  rw [HL.out]
  try simp
theorem lvs03 (d a b : Int) (h9 : ¬ d = 9) (h8 : ¬ d = 8) (ha : ¬ a = 0) (hb : ¬ b = 0) (ha1 : a = -1) (w : World) :
    Calls Try.prog 36 #[.int .i64 d, .int .i64 a, .int .i64 b] w fun e w' => e = .returned (.bool (lvs d a b)) ∧ Below w.heap.size w w' := by
  have HL : Hid (lvs d a b = (b == -9223372036854775808)) := by
    show lvs d a b = _
    simp [lvs, h9, h8, ha, hb, ha1]
  have h9' : (d == 9) = false := by simp [h9]
  have h8' : (d == 8) = false := by simp [h8]
  have ha0 : (a == 0) = false := by simp [ha]
  have hb0 : (b == 0) = false := by simp [hb]
  go_enter Try.func36, Try.ntmps36
  go_wp2
  go_ret
  refine ⟨rb ?_, by go_grown⟩
  rw [HL.out]
  try simp
theorem lvs04 (d a b : Int) (h9 : ¬ d = 9) (h8 : ¬ d = 8) (ha : ¬ a = 0) (hb : ¬ b = 0) (ha1 : ¬ a = -1) (hb1 : b = -1) (w : World) :
    Calls Try.prog 36 #[.int .i64 d, .int .i64 a, .int .i64 b] w fun e w' => e = .returned (.bool (lvs d a b)) ∧ Below w.heap.size w w' := by
  have HL : Hid (lvs d a b = (a == -9223372036854775808)) := by
    show lvs d a b = _
    simp [lvs, h9, h8, ha, hb, ha1, hb1]
  have h9' : (d == 9) = false := by simp [h9]
  have h8' : (d == 8) = false := by simp [h8]
  have ha0 : (a == 0) = false := by simp [ha]
  have hb0 : (b == 0) = false := by simp [hb]
  have ha1' : (a == -1) = false := by simp [ha1]
  go_enter Try.func36, Try.ntmps36
  go_wp2
  go_ret
  refine ⟨rb ?_, by go_grown⟩
  rw [HL.out]
  try simp
theorem lvs05 (d a b : Int) (h9 : ¬ d = 9) (h8 : ¬ d = 8) (ha : ¬ a = 0) (hb : ¬ b = 0) (ha1 : ¬ a = -1) (hb1 : ¬ b = -1) (p : 0 < a) (q : 0 < b) (w : World) :
    Calls Try.prog 36 #[.int .i64 d, .int .i64 a, .int .i64 b] w fun e w' => e = .returned (.bool (lvs d a b)) ∧ Below w.heap.size w w' := by
  have HL : Hid (lvs d a b = decide ((9223372036854775807 : Int) / b < a)) := by
    show lvs d a b = _
    simp [lvs, h9, h8, ha, hb, ha1, hb1, p, q]
  have h9' : (d == 9) = false := by simp [h9]
  have h8' : (d == 8) = false := by simp [h8]
  have ha0 : (a == 0) = false := by simp [ha]
  have hb0 : (b == 0) = false := by simp [hb]
  have ha1' : (a == -1) = false := by simp [ha1]
  have hb1' : (b == -1) = false := by simp [hb1]
  go_enter Try.func36, Try.ntmps36
  go_wp2
  go_ret
  refine ⟨rb ?_, by go_grown⟩
  rw [HL.out]
  try simp
theorem lvs06 (d a b : Int) (h9 : ¬ d = 9) (h8 : ¬ d = 8) (ha : ¬ a = 0) (hb : ¬ b = 0) (ha1 : ¬ a = -1) (hb1 : ¬ b = -1) (p : 0 < a) (q : ¬ 0 < b) (w : World) :
    Calls Try.prog 36 #[.int .i64 d, .int .i64 a, .int .i64 b] w fun e w' => e = .returned (.bool (lvs d a b)) ∧ Below w.heap.size w w' := by
  have HL : Hid (lvs d a b = decide (b < wrap64 ((-9223372036854775808 : Int).tdiv a))) := by
    show lvs d a b = _
    simp [lvs, h9, h8, ha, hb, ha1, hb1, p, q]
  have h9' : (d == 9) = false := by simp [h9]
  have h8' : (d == 8) = false := by simp [h8]
  have ha0 : (a == 0) = false := by simp [ha]
  have hb0 : (b == 0) = false := by simp [hb]
  have ha1' : (a == -1) = false := by simp [ha1]
  have hb1' : (b == -1) = false := by simp [hb1]
  have q0 : b < 0 := by omega
  go_enter Try.func36, Try.ntmps36
  go_wp2
  go_ret
  refine ⟨rb ?_, by go_grown⟩
  rw [HL.out]
  try simp
theorem lvs07 (d a b : Int) (h9 : ¬ d = 9) (h8 : ¬ d = 8) (ha : ¬ a = 0) (hb : ¬ b = 0) (ha1 : ¬ a = -1) (hb1 : ¬ b = -1) (p : ¬ 0 < a) (q : 0 < b) (w : World) :
    Calls Try.prog 36 #[.int .i64 d, .int .i64 a, .int .i64 b] w fun e w' => e = .returned (.bool (lvs d a b)) ∧ Below w.heap.size w w' := by
  have HL : Hid (lvs d a b = decide (a < wrap64 ((-9223372036854775808 : Int).tdiv b))) := by
    show lvs d a b = _
    simp [lvs, h9, h8, ha, hb, ha1, hb1, p, q]
  have h9' : (d == 9) = false := by simp [h9]
  have h8' : (d == 8) = false := by simp [h8]
  have ha0 : (a == 0) = false := by simp [ha]
  have hb0 : (b == 0) = false := by simp [hb]
  have ha1' : (a == -1) = false := by simp [ha1]
  have hb1' : (b == -1) = false := by simp [hb1]
  have p0 : a < 0 := by omega
  go_enter Try.func36, Try.ntmps36
  go_wp2
  go_ret
  refine ⟨rb ?_, by go_grown⟩
  rw [HL.out]
  try simp
theorem lvs08 (d a b : Int) (h9 : ¬ d = 9) (h8 : ¬ d = 8) (ha : ¬ a = 0) (hb : ¬ b = 0) (ha1 : ¬ a = -1) (hb1 : ¬ b = -1) (p : ¬ 0 < a) (q : ¬ 0 < b) (w : World) :
    Calls Try.prog 36 #[.int .i64 d, .int .i64 a, .int .i64 b] w fun e w' => e = .returned (.bool (lvs d a b)) ∧ Below w.heap.size w w' := by
  have HL : Hid (lvs d a b = decide (a < wrap64 ((9223372036854775807 : Int).tdiv b))) := by
    show lvs d a b = _
    simp [lvs, h9, h8, ha, hb, ha1, hb1, p, q]
  have h9' : (d == 9) = false := by simp [h9]
  have h8' : (d == 8) = false := by simp [h8]
  have ha0 : (a == 0) = false := by simp [ha]
  have hb0 : (b == 0) = false := by simp [hb]
  have ha1' : (a == -1) = false := by simp [ha1]
  have hb1' : (b == -1) = false := by simp [hb1]
  have p0 : a < 0 := by omega
  have q0 : b < 0 := by omega
  go_enter Try.func36, Try.ntmps36
  go_wp2
  go_ret
  refine ⟨rb ?_, by go_grown⟩
  rw [HL.out]
  try simp
theorem lvs_any (d a b : Int) (w : World) :
    Calls Try.prog 36 #[.int .i64 d, .int .i64 a, .int .i64 b] w fun e w' => e = .returned (.bool (lvs d a b)) ∧ Below w.heap.size w w' := by
  by_cases h9 : d = 9
  · subst h9
    by_cases h : 0 ≤ a
    · by_cases hb : b < 0
      · exact lvs91 a b h hb w
      · exact lvs92 a b h hb w
    · by_cases hb : 0 < b
      · exact lvs93 a b h hb w
      · exact lvs94 a b h hb w
  by_cases h8 : d = 8
  · subst h8
    by_cases hb : 0 < b
    · exact lvs81 a b hb w
    · exact lvs82 a b hb w
  by_cases ha : a = 0
  · exact lvs01 d a b h9 h8 ha w
  by_cases hb : b = 0
  · exact lvs02 d a b h9 h8 ha hb w
  by_cases ha1 : a = -1
  · exact lvs03 d a b h9 h8 ha hb ha1 w
  by_cases hb1 : b = -1
  · exact lvs04 d a b h9 h8 ha hb ha1 hb1 w
  by_cases p : 0 < a
  · by_cases q : 0 < b
    · exact lvs05 d a b h9 h8 ha hb ha1 hb1 p q w
    · exact lvs06 d a b h9 h8 ha hb ha1 hb1 p q w
  · by_cases q : 0 < b
    · exact lvs07 d a b h9 h8 ha hb ha1 hb1 p q w
    · exact lvs08 d a b h9 h8 ha hb ha1 hb1 p q w
end Go.Proofs.Ytconigmpiggihaa
