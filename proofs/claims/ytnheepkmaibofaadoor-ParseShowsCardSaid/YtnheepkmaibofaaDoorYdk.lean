import Derived.Test.YtnheepkmaibofaaDoorYbk
import Derived.Deep.QuietTactic
/- Ops folded over a stack of kinds: the program's loop. -/
namespace Go.Proofs.YtnheepkmaibofaaDoor
open Go.ChangeShapes Go.WideShapes Go.ChangeAt Go.RowKit
set_option linter.unusedVariables false
set_option linter.unusedSimpArgs false
set_option maxHeartbeats 8000000
set_option maxRecDepth 1000000
/-- What a fold answers, by what the stack makes of the ops. -/
def FoldIs (R : Int × List Int) (w : World) (e : Ending) (w' : World) : Prop := e = .returned (.tuple #[.int .i64 (if R.1 ≠ 0 then 0 else R.2.headD 0), .int .i64 R.1]) ∧ Below w.heap.size w w'
theorem quiet_kind {f : FuncId} {args : Array Value} {w : World} {p : Int × Int} (h : Calls Tryd.prog f args w (KindIs p w)) : Calls Tryd.prog f args w fun e w' => e = .returned (.tuple #[.int .i64 p.2, .int .i64 p.1]) ∧ w' = w := h.mono fun e w' h => h
theorem ex_cons {n : Int} {o : Oq} {l : List Oq} (h : exF n (o :: l) = 0) : opF o.k o.v.k o.v.n o.v.t o.t = 0 ∧ ¬ n < wks o.k ∧ exF (n + 1 - wks o.k) l = 0 := by
  unfold exF at h
  by_cases h0 : opF o.k o.v.k o.v.n o.v.t o.t = 0
  · rw [if_neg (by simpa using h0)] at h
    by_cases h1 : n < wks o.k
    · rw [if_pos h1] at h
      omega
    · rw [if_neg h1] at h
      exact ⟨h0, h1, h⟩
  · rw [if_pos h0] at h
    exact absurd h h0
end Go.Proofs.YtnheepkmaibofaaDoor
/- The kind of what an expression makes: the program. -/
namespace Go.Proofs.YtnheepkmaibofaaDoor
open Go.ChangeShapes Go.WideShapes Go.ChangeAt Go.RowKit
set_option linter.unusedVariables false
set_option linter.unusedSimpArgs false
set_option maxHeartbeats 4000000
set_option maxRecDepth 1000000
/-- The kind of an expression: the fault, the kind. -/
def kindF (l : List Cq) (ops : List Oq) : Int × Int :=
  if colsF l ≠ 0 then (colsF l, 0) else if exprF ops ≠ 0 then (exprF ops, 0)
  else ((rnF (lfK l) onK twK [] ops).1, if (rnF (lfK l) onK twK [] ops).1 ≠ 0 then 0 else (rnF (lfK l) onK twK [] ops).2.headD 0)
/-- What it is of a tree. -/
theorem kindF_tree {l : List Cq} {t : Tx} (ht : t.ok) (h0 : colsF l = 0) (h1 : exprF t.flat = 0) : kindF l t.flat = ((evT (lfK l) onK twK t).1, if (evT (lfK l) onK twK t).1 ≠ 0 then 0 else (evT (lfK l) onK twK t).2) := by
  unfold kindF
  rw [if_neg (by simpa using h0), if_neg (by simpa using h1), rn_whole _ _ _ ht]
  by_cases h : (evT (lfK l) onK twK t).1 = 0
  · simp [h]
  · simp [h]
end Go.Proofs.YtnheepkmaibofaaDoor
