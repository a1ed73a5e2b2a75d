import Derived.Test.YtakhkcabahhohaaDoorW3
import Derived.Test.YtakhkcabahhohaaDoorW4
namespace Go.Proofs.YtakhkcabahhohaaDoor
open Go.ChangeShapes Go.WideShapes Go.ChangeAt Go.RowKit
set_option linter.unusedVariables false
set_option linter.unusedSimpArgs false
set_option maxHeartbeats 400000
theorem ri2c {a b c d : Int} (h : a = b) (g : c = d) : Ending.returned (.tuple #[.int .i64 a, .int .i64 c]) = .returned (.tuple #[.int .i64 b, .int .i64 d]) := by rw [h, g]
theorem cmp_any (k n k' n' : Int) (s s' : ByteArray) (w : World) :
    Calls Tryd.prog 14 #[.agg #[.int .i64 k, .int .i64 n, .string s], .agg #[.int .i64 k', .int .i64 n', .string s']] w fun e w' => e = .returned (.tuple #[.int .i64 (cmp2 ⟨k, n, s⟩ ⟨k', n', s'⟩), .int .i64 (chk2 ⟨k, n, s⟩ ⟨k', n', s'⟩)]) ∧ Below w.heap.size w w' := by
  go_enter Tryd.func14, Tryd.ntmps14
  go_wp2_with fail
  refine (chk2_any _ _ _ _ _ _ _).mono ?_
  rintro e w1 ⟨rfl, hb⟩
  have hz := hb.size
  simp only [World.size_alloc] at hz
  have hB : Below w.heap.size w w1 := into (by go_grown) hb
  obtain ⟨hc, hf⟩ := kept hb
  clear hb
  go_wp2_with fail
  · go_ret2
    refine ⟨ri2c ?_ rfl, hB⟩
    simp_all [cmp2]
  · refine (ord_any _ _ _ _ _ _ _).mono ?_
    rintro e w2 ⟨rfl, hb2⟩
    have hB2 : Below w.heap.size w w2 := into hB hb2
    clear hb2
    go_wp2_with fail
    go_ret2
    refine ⟨ri2c ?_ ?_, hB2⟩
    · simp_all [cmp2]
    · simp_all
end Go.Proofs.YtakhkcabahhohaaDoor
