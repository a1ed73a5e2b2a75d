import Derived.Test.YtdeollmeljaaoaaDoorSak
import Derived.Test.YtdeollmeljaaoaaDoorQkk
import Derived.Test.YtdeollmeljaaoaaDoorSck
import Derived.Test.YtdeollmeljaaoaaDoorBfk
import Derived.Test.YtdeollmeljaaoaaDoorB0k
import Derived.Deep.Slices
import Derived.Deep.Fields
import Derived.SizedLaws
import Derived.Shelf.SlSortCmp.QuietGrown
/- Ops of an expression, plainly: what an op lacks, what ops lack. -/
namespace Go.Proofs.YtdeollmeljaaoaaDoor
set_option linter.unusedVariables false
set_option linter.unusedSimpArgs false
/-- An op: its kind, its value, its name. -/
structure Oq where
  k : Int
  v : V
  t : ByteArray
/-- What a literal's value lacks. -/
def litF (k n : Int) (t : ByteArray) : Int := if k = 2 ∧ n = -9223372036854775808 then 3 else chk k n t
/-- Is a value the empty one? -/
def vnul (k n : Int) (t : ByteArray) : Bool := k == 0 && (n == 0 && t.toList.isEmpty)
/-- What an op lacks, whatever stands ahead of it. -/
def opF (k vk vn : Int) (vt t : ByteArray) : Int :=
  if k < 1 ∨ 11 < k then 2 else if litF vk vn vt ≠ 0 then litF vk vn vt
  else if (k ≠ 1 ∧ vnul vk vn vt = false) ∨ (k ≠ 2 ∧ t.toList.isEmpty = false) then 6 else if k = 2 then nmF t.data.toList else 0
/-- On how many an op of a kind works. -/
def wks (k : Int) : Int := if k = 1 ∨ k = 2 then 0 else if k = 5 ∨ k = 11 then 1 else 2
/-- The cells of ops. -/
def ocs : List Oq → List Value
  | [] => []
  | o :: l => .int .i64 o.k :: .int .i64 o.v.k :: .int .i64 o.v.n :: .string o.v.t :: .string o.t :: ocs l
theorem ocs_app : ∀ l m : List Oq, ocs (l ++ m) = ocs l ++ ocs m
  | [], _ => rfl
  | v :: l, m => by simp [ocs, ocs_app l m]
theorem ocs_length : ∀ l : List Oq, (ocs l).length = l.length * 5
  | [] => rfl
  | v :: l => by simp [ocs, ocs_length l]; omega
theorem ocs_one : ∀ (l : List Oq), ∀ u ∈ ocs l, u.oneCell' = true
  | [], u, hu => by simp [ocs] at hu
  | v :: l, u, hu => by
    simp only [ocs, List.mem_cons] at hu
    rcases hu with rfl | rfl | rfl | rfl | rfl | hu
    · rfl
    · rfl
    · rfl
    · rfl
    · rfl
    · exact ocs_one l u hu
end Go.Proofs.YtdeollmeljaaoaaDoor
/- Rows: values in memory; what a row lacks, by the program and by the document. -/
namespace Go.Proofs.YtdeollmeljaaoaaDoor
open Go.ChangeShapes Go.WideShapes Go.ChangeAt Go.RowKit Go.Deep
set_option linter.unusedVariables false
set_option linter.unusedSimpArgs false
/-- The cells of pieces. -/
def vc : List V → List Value
  | [] => []
  | v :: l => .int .i64 v.k :: .int .i64 v.n :: .string v.t :: vc l
theorem vc_length : ∀ l : List V, (vc l).length = l.length * 3
  | [] => rfl
  | v :: l => by simp [vc, vc_length l]; omega
section
variable {H : Type} {enc : TypeId × Value → H} {P : Program} {w : World} {base : Nat} {spare : Nat → Bool} {held : Bool}
end
theorem len_v {w : World} {n : Nat} {v : Value} {l : List V} (h : Rd w 3 n v (vc l)) : n = l.length := by have := h.1; rw [vc_length] at this; omega
/-- What Join and Cut want of good tokens. -/

theorem cell_blz {W W' : World} {a : Addr} {v : Value} (hb : Below W.heap.size W W') (h : W.cell? a = some v) : W'.cell? a = some v := (hb.cell (lt_cell h)).trans h
end Go.Proofs.YtdeollmeljaaoaaDoor
/- Ops that are an expression are a tree, written out from its leaves on; what a stack makes of them; where what ends at a place begins. Plain. -/
namespace Go.Proofs.YtdeollmeljaaoaaDoor
set_option linter.unusedVariables false
set_option linter.unusedSimpArgs false
inductive Tx where
  | leaf (o : Oq)
  | un (o : Oq) (a : Tx)
  | bi (o : Oq) (a b : Tx)
def Tx.op : Tx → Oq
  | .leaf o => o
  | .un o _ => o
  | .bi o _ _ => o
/-- Each op works on as many as stand beneath it, and is one that may be. -/
def Tx.ok : Tx → Prop
  | .leaf o => wks o.k = 0 ∧ opF o.k o.v.k o.v.n o.v.t o.t = 0
  | .un o a => wks o.k = 1 ∧ opF o.k o.v.k o.v.n o.v.t o.t = 0 ∧ a.ok
  | .bi o a b => wks o.k = 2 ∧ opF o.k o.v.k o.v.n o.v.t o.t = 0 ∧ a.ok ∧ b.ok
section
variable {α : Type} (lf : Oq → Int × α) (one : Int → α → Int × α) (two : Int → α → α → Int × α)
end
end Go.Proofs.YtdeollmeljaaoaaDoor
