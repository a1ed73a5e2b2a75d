/- No sessions, too many of them, a pick of none and a script that is too long are refused; sessions that say nothing are told nothing. The row lists the program's tables and variables of the library that it names; the card ties them to the program's text. -/
import Derived.Test.YtbjdgkidnmklkaaGreatDoorEj
namespace Go.Proofs.YtbjdgkidnmklkaaGreatDoor.lTopRefused
open Go.ChangeShapes Go.WideShapes Go.ChangeAt Go.RowKit Go.Joins
open Go.ChangeMaps (open_string shut_string)
set_option linter.unusedVariables false
set_option linter.unusedSimpArgs false
set_option maxHeartbeats 400000
set_option maxHeartbeats 2000000
set_option maxRecDepth 100000
/-- The card: the row's one listed variable is tied to the program's text. -/
theorem proved : Rows.TopRefusedCardSaid :=
  Claim7.holds_tied_plain_at .later [] [.data, .data, .data, .data, .sentinel, .sentinel, .data, .data, .data, .data, .data, .data, .data, .data, .data, .data, .data, .data, .pinned] true _ true bare (fun _ h => by cases h) (by kernel_rfl) (fun _ h => by cases h) topRefused_row_tie rfl ⟨rfl, rfl⟩ (by kernel_rfl) rfl
    (fun f fn hf hfn => by
      obtain rfl : f = 3 := Option.some.inj ((show Tryz.prog.funcNamed "padlock/padlocktop.TopRefused" = some 3 by kernel_rfl).symm.trans hf) |>.symm
      obtain rfl : fn = Tryz.f3 := (Option.some.inj (Tryz.func3.symm.trans hfn)).symm
      refine ⟨by kernel_rfl, fun j t ht => ?_⟩
      rw [Tryz.params3] at ht
      rcases j with _ | _ | j <;> simp at ht <;> subst ht <;> kernel_rfl)
    (by kernel_rfl)
#print axioms proved
end Go.Proofs.YtbjdgkidnmklkaaGreatDoor.lTopRefused
