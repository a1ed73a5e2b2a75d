/- Values in cells. -/
import Derived.Test.YtfbmnkkpbcdjfaaDoorQr
namespace Go.Proofs.YtfbmnkkpbcdjfaaDoor
open Go.ChangeShapes Go.WideShapes Go.ChangeAt Go.RowKit
set_option linter.unusedVariables false
set_option linter.unusedSimpArgs false
set_option maxHeartbeats 1000000
theorem Tryd.info36 : (Tryd.prog.info? 36).map (fun i => (i.zero, i.size, i.bytes)) = some (some (.agg #[.int .i64 0, .int .i64 0, .string ⟨#[]⟩]), 3, 32) := by kernel_rfl
theorem vc_one : ∀ (l : List V), ∀ u ∈ vc l, u.oneCell' = true
  | [], u, hu => by simp [vc] at hu
  | v :: l, u, hu => by
    simp only [vc, List.mem_cons] at hu
    rcases hu with rfl | rfl | rfl | hu
    · rfl
    · rfl
    · rfl
    · exact vc_one l u hu
end Go.Proofs.YtfbmnkkpbcdjfaaDoor
