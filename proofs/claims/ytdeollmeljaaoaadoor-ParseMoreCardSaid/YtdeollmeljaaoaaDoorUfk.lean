import Derived.Test.YtdeollmeljaaoaaDoorSak
set_option linter.unusedVariables false
set_option linter.unusedSimpArgs false
namespace Go.Proofs.YtdeollmeljaaoaaDoor
structure Oq where
 k : Int
 v : V
 t : ByteArray
def noq : Oq := ⟨0, ⟨0, 0, ⟨#[]⟩⟩, ⟨#[]⟩⟩
def litF (k n : Int) (t : ByteArray) : Int := if k = 2 ∧ n = -9223372036854775808 then 3 else chk k n t
def vnul (k n : Int) (t : ByteArray) : Bool := k == 0 && (n == 0 && t.toList.isEmpty)
def opF (k vk vn : Int) (vt t : ByteArray) : Int :=
 if k < 1 ∨ 11 < k then 2 else if litF vk vn vt ≠ 0 then litF vk vn vt
 else if (k ≠ 1 ∧ vnul vk vn vt = false) ∨ (k ≠ 2 ∧ t.toList.isEmpty = false) then 6 else if k = 2 then nmF t.data.toList else 0
def wks (k : Int) : Int := if k = 1 ∨ k = 2 then 0 else if k = 5 ∨ k = 11 then 1 else 2
def exF : Int → List Oq → Int
 | n, [] => if n = 1 then 0 else 7
 | n, o :: l => if opF o.k o.v.k o.v.n o.v.t o.t ≠ 0 then opF o.k o.v.k o.v.n o.v.t o.t else if n < wks o.k then 7 else exF (n + 1 - wks o.k) l
def exprF (l : List Oq) : Int := if 40 < l.length then 10 else exF 0 l
def ocs : List Oq → List Value
 | [] => []
 | o :: l => .int .i64 o.k :: .int .i64 o.v.k :: .int .i64 o.v.n :: .string o.v.t :: .string o.t :: ocs l
theorem ocs_app : ∀ l m : List Oq, ocs (l ++ m) = ocs l ++ ocs m
 | [], _ => rfl
 | v :: l, m => by simp [ocs, ocs_app l m]
theorem ocs_length : ∀ l : List Oq, (ocs l).length = l.length * 5
 | [] => rfl
 | v :: l => by simp [ocs, ocs_length l]; omega
theorem ocs_at : ∀ {l : List Oq} {k : Nat}, k < l.length → (ocs l)[k * 5]? = some (.int .i64 (l.getD k noq).k) ∧ (ocs l)[k * 5 + 1]? = some (.int .i64 (l.getD k noq).v.k) ∧ (ocs l)[k * 5 + 2]? = some (.int .i64 (l.getD k noq).v.n) ∧ (ocs l)[k * 5 + 3]? = some (.string (l.getD k noq).v.t) ∧ (ocs l)[k * 5 + 4]? = some (.string (l.getD k noq).t)
 | [], k, h => by simp at h
 | v :: l, 0, _ => by simp [ocs]
 | v :: l, k + 1, h => by
  have ih := ocs_at (l := l) (k := k) (by simpa using h)
  have e : (k + 1) * 5 = k * 5 + 1 + 1 + 1 + 1 + 1 := by omega
  rw [e]
  simpa [ocs] using ih
theorem ocs_one : ∀ (l : List Oq), ∀ u ∈ ocs l, u.oneCell' = true
 | [], u, hu => by simp [ocs] at hu
 | v :: l, u, hu => by
  simp only [ocs, List.mem_cons] at hu
  rcases hu with rfl | rfl | rfl | rfl | rfl | hu
  ·rfl
  ·rfl
  ·rfl
  ·rfl
  ·rfl
  ·exact ocs_one l u hu
theorem wks_in (k : Int) : 0 ≤ wks k ∧ wks k ≤ 2 := by
 unfold wks
 split
 ·omega
 ·split <;> omega
theorem opF_kind {k vk vn : Int} {vt t : ByteArray} (h : opF k vk vn vt t = 0) : 1 ≤ k ∧ k ≤ 11 := by
 unfold opF at h
 split at h
 ·omega
 ·omega
end Go.Proofs.YtdeollmeljaaoaaDoor
