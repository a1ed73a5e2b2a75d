/- Small functions of the keeping laws. -/
import Derived.Test.YtfoilmhpoipmpaaDoorVb
namespace Go.Proofs.YtfoilmhpoipmpaaDoor
open Go.ChangeShapes Go.WideShapes Go.ChangeAt Go.RowKit
set_option linter.unusedVariables false
set_option linter.unusedSimpArgs false
set_option maxHeartbeats 1000000
/-- All that the library's variables read as. -/
def Lb (w : World) : Prop := Lx w ∧ Lj w
theorem kcut_any (w : World) (s : ByteArray) (m : Nat) (hm : m ≤ 1000) (hs : s.size ≤ maxLen) : Calls Tryd.prog 22 #[.string s, .int .i64 (m : Int)] w fun e w' => e = .returned (.string (s.extract 0 m)) ∧ w = w' := by
  unfold maxLen at hs
  have he : Hid (s.extract 0 (min (s.size : Int) (m : Int)).toNat = s.extract 0 m) := by
    apply str_ext
    rw [ext_take, ext_take]
    by_cases h : m ≤ s.size
    · rw [show (min (s.size : Int) (m : Int)).toNat = m by omega]
    · rw [show (min (s.size : Int) (m : Int)).toNat = s.size by omega, List.take_of_length_le (by rw [len_size]; exact Nat.le_refl _), List.take_of_length_le (by rw [len_size]; omega)]
  go_enter Tryd.func22, Tryd.ntmps22
  go_wp2
  go_ret
  refine ⟨?_, rfl⟩
  show Ending.returned (.string (s.extract 0 (min (s.size : Int) (m : Int)).toNat)) = _
  rw [he.out]
theorem rd_new1 (w : World) (a b c : Value) (t : TypeId) : Rd (w.alloc (.cells #[a, b, c] t)) 3 1 (.slice (some ⟨w.heap.size, 0, none⟩) 1 1) [a, b, c] := by
  refine ⟨rfl, _, 1, rfl, Nat.le_refl _, by unfold maxLen; omega, (fun h => by cases h), fun ad had j u hu => ?_⟩
  obtain rfl := Option.some.inj had
  exact new_cells w [a, b, c] t j u hu
theorem mk_of (t : ByteArray) : (⟨t.data.toList.toArray⟩ : ByteArray) = t := str_ext rfl
/-- Small lists of tokens that may be: what Join and Cut make of them. -/
theorem join_ok (w : World) (hj : Lj w) (v : Value) (l : List Tk) (hr : Rd w 3 l.length v (tkc l)) (hs : Sm l) (ho : Ok l) (h100 : l.length ≤ 100) (hl : (joined l).length ≤ 400) :
    Calls Tryd.prog 17 #[v] w fun e w' => e = .returned (.tuple #[.string ⟨(joined l).toArray⟩, .int .i64 0]) ∧ Below w.heap.size w w' := by
  have := join_any w hj v l hr hs
  rwa [joinL_is ho h100 hl] at this
theorem cut_ok (w : World) (hx : Lx w) (s : ByteArray) (l : List Tk) (e0 : s.data.toList = joined l) (ho : Ok l) (h100 : l.length ≤ 100) (hl : (joined l).length ≤ 400) :
    Calls Tryd.prog 11 #[.string s] w (CutIs w ⟨l, 0, 0⟩) := by
  have hsz := len_size s
  rw [e0] at hsz
  have := cut_any w hx s (by unfold maxLen; omega)
  rwa [e0, cutL_joined ho h100 hl] at this
end Go.Proofs.YtfoilmhpoipmpaaDoor
