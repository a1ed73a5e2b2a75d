/- Locks: Fits and Join of modes that there are. -/
import Derived.Test.YtjnecmhgmmdjkaaDoorJd
namespace Go.Proofs.YtjnecmhgmmdjkaaDoor
open Go.ChangeShapes Go.WideShapes Go.ChangeAt Go.RowKit
set_option linter.unusedVariables false
set_option linter.unusedSimpArgs false
theorem fits_ok (w : World) (hT : Tog w) {a b : Int} (ha : 1 ≤ a ∧ a ≤ 5) (hb : 1 ≤ b ∧ b ≤ 5) : Calls Tryd.prog 23 #[.int .i64 a, .int .i64 b] w fun e w' => e = .returned (.tuple #[.bool (tog a b), .int .i64 0]) ∧ w = w' := by
  have h := fits_any w hT a b
  rwa [show fitsV a b = tog a b by simp [fitsV, isM_iff.2 ha, isM_iff.2 hb], show kindE a b = 0 by simp [kindE, isM_iff.2 ha, isM_iff.2 hb]] at h
theorem fits_bad (w : World) (hT : Tog w) {a b : Int} (ha : ¬ (1 ≤ a ∧ a ≤ 5)) : Calls Tryd.prog 23 #[.int .i64 a, .int .i64 b] w fun e w' => e = .returned (.tuple #[.bool false, .int .i64 2]) ∧ w = w' := by
  have h := fits_any w hT a b
  rwa [show fitsV a b = false by simp [fitsV, isM_no ha], show kindE a b = 2 by simp [kindE, isM_no ha]] at h
theorem join_ok (w : World) (hT : Jnd w) {a b : Int} (ha : 1 ≤ a ∧ a ≤ 5) (hb : 1 ≤ b ∧ b ≤ 5) : Calls Tryd.prog 25 #[.int .i64 a, .int .i64 b] w fun e w' => e = .returned (.tuple #[.int .i64 (joi a b), .int .i64 0]) ∧ w = w' := by
  have h := join_any w hT a b
  rwa [show joinV a b = joi a b by simp [joinV, isM_iff.2 ha, isM_iff.2 hb], show kindE a b = 0 by simp [kindE, isM_iff.2 ha, isM_iff.2 hb]] at h
end Go.Proofs.YtjnecmhgmmdjkaaDoor
