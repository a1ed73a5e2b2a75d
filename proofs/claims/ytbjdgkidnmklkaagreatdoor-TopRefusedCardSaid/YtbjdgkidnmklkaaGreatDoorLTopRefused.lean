/- No sessions, too many of them, a pick of none and a script that is too long are refused; sessions that say nothing are told nothing. The row lists the program's tables and variables of the library that it names; the card ties them to the program's text. -/
import Derived.Test.YtbjdgkidnmklkaaGreatDoorEk
namespace Go.Proofs.YtbjdgkidnmklkaaGreatDoor.lTopRefused
open Go.ChangeShapes Go.WideShapes Go.ChangeAt Go.RowKit Go.Joins
open Go.ChangeMaps (open_string shut_string)
set_option linter.unusedVariables false
set_option linter.unusedSimpArgs false
set_option maxHeartbeats 400000
set_option maxHeartbeats 2000000
set_option maxRecDepth 100000
/-- The card: the row's one listed variable is tied to the program's text. -/
theorem proved : Rows.TopRefusedCardSaid :=
  Claim7.holds_tied_plain_at .later [] [.data, .data, .data, .data, .sentinel, .sentinel, .data, .data, .data, .data, .data, .data, .data, .data, .data, .data, .data, .data, .pinned] true Rows.topRefusedCard.stood.harness true bare (fun _ h => by cases h) k5 (fun _ h => by cases h) topRefused_row_tie rfl ⟨rfl, rfl⟩ k3 (by kernel_rfl)
    (fun f fn hf hfn => by
      obtain rfl : f = 3 := Option.some.inj (k6.symm.trans hf) |>.symm
      obtain rfl : fn = Tryz.f3 := (Option.some.inj (Tryz.func3.symm.trans hfn)).symm
      refine ⟨k1, fun j t ht => ?_⟩
      rw [Tryz.params3] at ht
      rcases j with _ | _ | j <;> simp at ht <;> subst ht <;> exact k4)
    k2
#print axioms proved
end Go.Proofs.YtbjdgkidnmklkaaGreatDoor.lTopRefused
