/- A new tree. -/
import Derived.Test.YtacpeibkamfibaaHs
import Derived.Test.YtacpeibkamfibaaGy
namespace Go.Proofs.Ytacpeibkamfibaa
open Go.ChangeShapes Go.WideShapes Go.ChangeAt Go.RowKit
set_option linter.unusedVariables false
set_option linter.unusedSimpArgs false
set_option maxHeartbeats 1000000
/-- A tree in memory of the call's own. -/
def NewIs (w : World) (T : Tr) (e : Ending) (w' : World) : Prop := ∃ v, e = .returned v ∧ RT w' (fun b => w.heap.size ≤ b) v T ∧ Below w.heap.size w w'
theorem newTr_rt {w : World} {B n : Nat} (hB : B ≤ n) (h : w.heap[n]? = some (.cells #[.bool true, .slice none 0 0, .slice none 0 0, .slice none 0 0, .int .i64 (-1)] 59 (0, 0))) :
    RT w (fun b => B ≤ b) (.agg #[.slice (some ⟨n, 0, none⟩) 1 1, .int .i64 0]) newTr := by
  refine ⟨_, [.bool true, .slice none 0 0, .slice none 0 0, .slice none 0 0, .int .i64 (-1)], rfl, ?_, ?_, ?_⟩
  · refine ⟨rfl, _, 1, rfl, Nat.le_refl _, by unfold maxLen; omega, fun h => (by cases h), fun a ha j u hu => ?_⟩
    obtain rfl := Option.some.inj ha
    rw [Addr.add_lit, Nat.zero_add]
    have : w.cell? ⟨n, j, none⟩ = #[Value.bool true, .slice none 0 0, .slice none 0 0, .slice none 0 0, .int .i64 (-1)][j]? := cell_of_row w n j _ _ _ h
    rw [this]
    simpa using hu
  · intro a m c hv hm
    cases hv
    exact hB
  · refine ⟨rfl, fun i p hp => ?_⟩
    have hi : i = 0 := by
      have := (List.getElem?_eq_some_iff.1 hp).1
      simp [newTr] at this
      exact this
    subst hi
    simp [newTr] at hp
    subst hp
    have z : ∀ s, Rd w s 0 (.slice none 0 0) [] := fun s => Rd.nil w s
    have at0 : ∀ ok, At ok (.slice none 0 0) := fun ok a n c h hn => by cases h
    exact ⟨_, _, _, rfl, ⟨[], z 1, at0 _, by simp⟩, ⟨z 1, at0 _⟩, ⟨z 1, at0 _⟩⟩
theorem new_any (w : World) : Calls Try.prog 34 #[] w (NewIs w newTr) := by
  go_enter Try.func34, Try.ntmps34
  go_wp2
  go_returns
  refine ⟨_, rfl, ?_, by go_grown⟩
  exact newTr_rt (n := w.heap.size + 1) (by omega) (new1 w _ _)
theorem rt_shape {w : World} {ok : Nat → Prop} {v : Value} {T : Tr} (h : RT w ok v T) : ∃ ao n cap, v = .agg #[.slice ao n cap, .int .i64 T.root] := by
  obtain ⟨ao, cap, _, _, _, e, _⟩ := pagesF h
  exact ⟨ao, _, cap, e⟩
end Go.Proofs.Ytacpeibkamfibaa
