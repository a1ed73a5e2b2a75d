import Derived.Test.YtdeollmeljaaoaaDoorB0k
import Derived.Test.YtdeollmeljaaoaaDoorSfk
import Derived.Lib.AppendZerosOnto
import Derived.Shelf.LaysM
import Derived.Shelf.Strconv.Clone
import Derived.Test.YtdeollmeljaaoaaDoorProg
import Derived.Test.YtdeollmeljaaoaaDoorSak
/- Tokens in memory; texts of words and marks cut at their blanks, plainly. -/
namespace Go.Proofs.YtdeollmeljaaoaaDoor
open Go.ChangeShapes Go.WideShapes Go.ChangeAt Go.RowKit
set_option linter.unusedVariables false
set_option linter.unusedSimpArgs false
set_option maxHeartbeats 1000000
theorem Tryd.info45 : (Tryd.prog.info? 45).map (fun i => (i.zero, i.size, i.bytes)) = some (some (.agg #[.int .i64 0, .string ⟨#[]⟩, .int .i64 0]), 3, 32) := by kernel_rfl
def tk0 : Tk := ⟨0, [], 0⟩
/-- The cells of tokens. -/
def tkc : List Tk → List Value
  | [] => []
  | x :: l => .int .i64 x.k :: .string ⟨x.t.toArray⟩ :: .int .i64 x.n :: tkc l
theorem tkc_app : ∀ l m : List Tk, tkc (l ++ m) = tkc l ++ tkc m
  | [], _ => rfl
  | x :: l, m => by simp [tkc, tkc_app l m]
theorem tkc_length : ∀ l : List Tk, (tkc l).length = l.length * 3
  | [] => rfl
  | x :: l => by simp [tkc, tkc_length l]; omega
theorem tkc_one : ∀ (l : List Tk), ∀ u ∈ tkc l, u.oneCell' = true
  | [], u, hu => by simp [tkc] at hu
  | x :: l, u, hu => by
    simp only [tkc, List.mem_cons] at hu
    rcases hu with rfl | rfl | rfl | hu
    · rfl
    · rfl
    · rfl
    · exact tkc_one l u hu
theorem tkc_at : ∀ {l : List Tk} {k : Nat}, k < l.length → (tkc l)[k * 3]? = some (.int .i64 (l.getD k tk0).k) ∧ (tkc l)[k * 3 + 1]? = some (.string ⟨(l.getD k tk0).t.toArray⟩) ∧ (tkc l)[k * 3 + 2]? = some (.int .i64 (l.getD k tk0).n)
  | [], k, h => by simp at h
  | v :: l, 0, _ => by simp [tkc]
  | v :: l, k + 1, h => by
    have ih := tkc_at (l := l) (k := k) (by simpa using h)
    have e : (k + 1) * 3 = k * 3 + 1 + 1 + 1 := by omega
    rw [e]
    simpa [tkc] using ih
section
variable {ops : Array Oper} {rest : List Oper} {o : Oper} {a : Act} {Q : Exit → Act → World → Prop}
end
end Go.Proofs.YtdeollmeljaaoaaDoor
/- Room for tokens. -/
namespace Go.Proofs.YtdeollmeljaaoaaDoor
open Go.ChangeShapes Go.WideShapes Go.ChangeAt Go.RowKit
set_option linter.unusedVariables false
set_option linter.unusedSimpArgs false
set_option maxHeartbeats 2000000
end Go.Proofs.YtdeollmeljaaoaaDoor
/- Lists of tokens, one behind the other. -/
namespace Go.Proofs.YtdeollmeljaaoaaDoor
open Go.ChangeShapes Go.WideShapes Go.ChangeAt Go.RowKit
set_option linter.unusedVariables false
set_option linter.unusedSimpArgs false
set_option maxHeartbeats 2000000
end Go.Proofs.YtdeollmeljaaoaaDoor
/- Contracts of the library, laid at this program by the shelf's own commands, in plain words. -/
namespace Go.Proofs
open Go.Shelf
def Tryd.laysM316_ren : Go.Shelf.Ren := ⟨fun | 316 => 82 | n => n, fun | 9 => 9 | 3 => 3 | 4 => 4 | 37 => 76 | 0 => 0 | 127 => 124 | 5 => 5 | n => n, fun | n => n⟩
theorem Tryd.laysM316 : Go.Proofs.LaysM.n316 Tryd.prog Tryd.laysM316_ren := {
  mixed := by kernel_rfl
  f316 := Tryd.func82.trans (congrArg some (by kernel_rfl))
  t0 := Tryd.underlying0
  a0 := Tryd.isAgg0
  z0 := Tryd.sizeOf0
  v0 := Tryd.zeroValue0
  t3 := Tryd.underlying3
  a3 := Tryd.isAgg3
  z3 := Tryd.sizeOf3
  v3 := Tryd.zeroValue3
  t4 := Tryd.underlying4
  a4 := Tryd.isAgg4
  z4 := Tryd.sizeOf4
  v4 := Tryd.zeroValue4
  t9 := Tryd.underlying9
  a9 := Tryd.isAgg9
  z9 := Tryd.sizeOf9
  v9 := Tryd.zeroValue9
  t37 := Tryd.underlying76
  a37 := Tryd.isAgg76
  z37 := Tryd.sizeOf76
  v37 := Tryd.zeroValue76
  t127 := Tryd.underlying124
  a127 := Tryd.isAgg124
  z127 := Tryd.sizeOf124
  v127 := Tryd.zeroValue124
  t5 := Tryd.underlying5
  a5 := Tryd.isAgg5
  z5 := Tryd.sizeOf5
  v5 := Tryd.zeroValue5
  i0 := by kernel_rfl
  i3 := by kernel_rfl
  i4 := by kernel_rfl
  i5 := by kernel_rfl
  i9 := by kernel_rfl
  i37 := by kernel_rfl
  i127 := by kernel_rfl }
open Go.RowKit in
theorem Tryd.stringslite_Clone (s : ByteArray) (w : World) (hlim : s.size ≤ 281474976710656) :
    Calls Tryd.prog 82 #[.string s] w fun e w' => e = .returned (.string s) ∧ Below w.heap.size w w' := Any.stringslite_Clone Tryd.laysM316 s w hlim
end Go.Proofs
/- Columns, plainly: what a list of columns lacks. -/
namespace Go.Proofs.YtdeollmeljaaoaaDoor
set_option linter.unusedVariables false
set_option linter.unusedSimpArgs false
/-- A column: its name, its kind. -/
structure Cq where
  t : ByteArray
  k : Int
def ncq : Cq := ⟨⟨#[]⟩, 0⟩
/-- The cells of columns. -/
def ccs : List Cq → List Value
  | [] => []
  | c :: l => .string c.t :: .int .i64 c.k :: ccs l
theorem ccs_app : ∀ l m : List Cq, ccs (l ++ m) = ccs l ++ ccs m
  | [], _ => rfl
  | v :: l, m => by simp [ccs, ccs_app l m]
theorem ccs_length : ∀ l : List Cq, (ccs l).length = l.length * 2
  | [] => rfl
  | v :: l => by simp [ccs, ccs_length l]; omega
theorem ccs_at : ∀ {l : List Cq} {k : Nat}, k < l.length → (ccs l)[k * 2]? = some (.string (l.getD k ncq).t) ∧ (ccs l)[k * 2 + 1]? = some (.int .i64 (l.getD k ncq).k)
  | [], k, h => by simp at h
  | v :: l, 0, _ => by simp [ccs]
  | v :: l, k + 1, h => by
    have ih := ccs_at (l := l) (k := k) (by simpa using h)
    have e : (k + 1) * 2 = k * 2 + 1 + 1 := by omega
    rw [e]
    simpa [ccs] using ih
/-- Is there a column of this name? -/
def hasC (l : List Cq) (t : ByteArray) : Bool := l.any fun c => c.t.toList == t.toList
theorem cgetD_mem {l : List Cq} {k : Nat} (h : k < l.length) : l.getD k ncq ∈ l := by
  rw [List.getD, List.getElem?_eq_getElem h]
  exact List.getElem_mem h
end Go.Proofs.YtdeollmeljaaoaaDoor
