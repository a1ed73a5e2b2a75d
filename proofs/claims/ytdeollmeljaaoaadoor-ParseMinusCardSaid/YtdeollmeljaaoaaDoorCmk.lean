import Derived.Test.YtdeollmeljaaoaaDoorCbk
import Derived.Deep.RegionHeld3
import Derived.Deep.RegionWith
import Derived.Deep.RegionLaw
/- Rows of tokens by their type; an op shown: the program. -/
namespace Go.Proofs.YtdeollmeljaaoaaDoor.cs
open Go.ChangeShapes Go.WideShapes Go.ChangeAt Go.RowKit
set_option linter.unusedVariables false
set_option linter.unusedSimpArgs false
set_option maxHeartbeats 4000000
set_option maxRecDepth 1000000
/-- A slice. -/
structure Sv where
  a : Option Addr
  n : Nat
  c : Nat
abbrev svv (s : Sv) : Value := .slice s.a s.n s.c
/-- The slice is the call's own (from block B on), and reads as these tokens. -/
def Rk (B : Nat) (w : World) (s : Sv) (l : List Tk) : Prop := w.ownsRow B 45 3 (svv s) l.length (tkc l)
theorem Rk.below {B : Nat} {w w' : World} {s : Sv} {l : List Tk} (h : Rk B w s l) (hb : Below w.heap.size w w') : Rk B w' s l := own_below h hb
theorem own_tyk {w : World} {B e s n g : Nat} {v : Value} {xs : List Value} (h : w.ownsRow B e s v n xs) (hg : v.ownBlock = some g) : ∃ cur sp, w.heap[g]? = some (.cells cur e sp) := by
  obtain ⟨h1, h2⟩ := h
  rcases h2 with ⟨hv, _⟩ | ⟨g', cap, cur, hv, hb, hg', hnc, hcm, _⟩
  · rw [hv] at hg; simp [Value.ownBlock] at hg
  · rw [hv] at hg
    cases hg
    exact ⟨_, _, hg'⟩
/-- An op that may be shown. -/
def OOk (o : Oq) : Prop := opF o.k o.v.k o.v.n o.v.t o.t = 0 ∧ -9223372036854775808 ≤ o.v.n ∧ o.v.n ≤ 9223372036854775807
theorem OOk.lit {o : Oq} (h : OOk o) (hk : o.k = 1) : VOk o.v := by
  refine ⟨?_, h.2⟩
  have := h.1
  unfold opF at this
  split at this
  · omega
  · split at this
    · omega
    · rename_i hh
      simpa using hh
theorem OOk.name {o : Oq} (h : OOk o) (hk : o.k = 2) : nmF o.t.data.toList = 0 := by
  have := h.1
  unfold opF at this
  repeat' (split at this)
  all_goals first | omega | assumption
end Go.Proofs.YtdeollmeljaaoaaDoor.cs
/- What stands behind WHERE, and a Select, shown: the program. -/
namespace Go.Proofs.YtdeollmeljaaoaaDoor.cs
open Go.ChangeShapes Go.WideShapes Go.ChangeAt Go.RowKit
set_option linter.unusedVariables false
set_option linter.unusedSimpArgs false
set_option maxHeartbeats 8000000
set_option maxRecDepth 1000000
theorem ToksIs.base {L : List Tk} {w W : World} {B : Nat} {v : Value} (h : ToksIs L w (.returned v) W) (hB : B ≤ w.heap.size) : W.ownsRow B 45 3 v L.length (tkc L) := by
  obtain ⟨v', h1, h2, h3⟩ := h
  cases h1
  exact own_mono h2 hB
section
variable {ops : Array Oper} {rest : List Oper} {o : Oper} {a : Act} {Q : Exit → Act → World → Prop}
end
end Go.Proofs.YtdeollmeljaaoaaDoor.cs
