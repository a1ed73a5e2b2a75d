/- A law's own copy of values. -/
import Derived.Test.YtcgomhcglnbalaaDoorQr
namespace Go.Proofs.YtcgomhcglnbalaaDoor
open Go.ChangeShapes Go.WideShapes Go.ChangeAt Go.RowKit
set_option linter.unusedVariables false
set_option linter.unusedSimpArgs false
set_option maxHeartbeats 1000000
theorem Tryd.info34 : (Tryd.prog.info? 34).map (fun i => (i.zero, i.size, i.bytes)) = some (some (.agg #[.int .i64 0, .int .i64 0, .string ⟨#[]⟩]), 3, 32) := by kernel_rfl
theorem vc_one : ∀ (l : List V), ∀ u ∈ vc l, u.oneCell' = true
  | [], u, hu => by simp [vc] at hu
  | v :: l, u, hu => by
    simp only [vc, List.mem_cons] at hu
    rcases hu with rfl | rfl | rfl | hu
    · rfl
    · rfl
    · rfl
    · exact vc_one l u hu
theorem kvals_any (m : Nat) (v : Value) (l : List V) (w : World) (hm : m * 32 ≤ 140737488351232) (hr : Rd w 3 m v (vc l)) :
    Calls Tryd.prog 14 #[v] w fun e w' => ∃ v', e = .returned v' ∧ w'.ownsRow w.heap.size 34 3 v' m (vc l) ∧ Below w.heap.size w w' := by
  have HR := Lib.hid hr
  have hml := hr.len
  clear hr
  go_enter Tryd.func14, Tryd.ntmps14
  go_wp2_with (at_builtin; refine apg w m rfl _ _ 39 34 _ 3 32 Tryd.underlying39 Tryd.info34 rfl (by omega) rfl (World.ownsRow_nil _ _ _ _) (Nat.le_refl _) (by omega) (by omega) (vc_one _) HR.out rfl rfl ?_; intro v1 w1 hown1 hb1 _)
  go_ret
  exact ⟨_, rfl, by simpa using hown1, hb1⟩
end Go.Proofs.YtcgomhcglnbalaaDoor
