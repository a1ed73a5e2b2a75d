import Derived.Test.YtmfkdpfcpdmkdaaDoorSak
import Derived.Lib.Strings
/- Ops of an expression, plainly: what an op lacks, what ops lack. -/
namespace Go.Proofs.YtmfkdpfcpdmkdaaDoor
set_option linter.unusedVariables false
set_option linter.unusedSimpArgs false
/-- An op: its kind, its value, its name. -/
structure Oq where
  k : Int
  v : V
  t : ByteArray
/-- An empty op. -/
def noq : Oq := ⟨0, ⟨0, 0, ⟨#[]⟩⟩, ⟨#[]⟩⟩
/-- What a literal's value lacks. -/
def litF (k n : Int) (t : ByteArray) : Int := if k = 2 ∧ n = -9223372036854775808 then 3 else chk k n t
/-- Is a value the empty one? -/
def vnul (k n : Int) (t : ByteArray) : Bool := k == 0 && (n == 0 && t.toList.isEmpty)
/-- What an op lacks, whatever stands ahead of it. -/
def opF (k vk vn : Int) (vt t : ByteArray) : Int :=
  if k < 1 ∨ 11 < k then 2 else if litF vk vn vt ≠ 0 then litF vk vn vt
  else if (k ≠ 1 ∧ vnul vk vn vt = false) ∨ (k ≠ 2 ∧ t.toList.isEmpty = false) then 6 else if k = 2 then nmF t.data.toList else 0
/-- On how many an op of a kind works. -/
def wks (k : Int) : Int := if k = 1 ∨ k = 2 then 0 else if k = 5 ∨ k = 11 then 1 else 2
/-- What ops lack, when so many things are left of those ahead. -/
def exF : Int → List Oq → Int
  | n, [] => if n = 1 then 0 else 7
  | n, o :: l => if opF o.k o.v.k o.v.n o.v.t o.t ≠ 0 then opF o.k o.v.k o.v.n o.v.t o.t else if n < wks o.k then 7 else exF (n + 1 - wks o.k) l
def exprF (l : List Oq) : Int := if 40 < l.length then 10 else exF 0 l
/-- The cells of ops. -/
def ocs : List Oq → List Value
  | [] => []
  | o :: l => .int .i64 o.k :: .int .i64 o.v.k :: .int .i64 o.v.n :: .string o.v.t :: .string o.t :: ocs l
theorem ocs_app : ∀ l m : List Oq, ocs (l ++ m) = ocs l ++ ocs m
  | [], _ => rfl
  | v :: l, m => by simp [ocs, ocs_app l m]
theorem ocs_length : ∀ l : List Oq, (ocs l).length = l.length * 5
  | [] => rfl
  | v :: l => by simp [ocs, ocs_length l]; omega
theorem ocs_at : ∀ {l : List Oq} {k : Nat}, k < l.length → (ocs l)[k * 5]? = some (.int .i64 (l.getD k noq).k) ∧ (ocs l)[k * 5 + 1]? = some (.int .i64 (l.getD k noq).v.k) ∧ (ocs l)[k * 5 + 2]? = some (.int .i64 (l.getD k noq).v.n) ∧ (ocs l)[k * 5 + 3]? = some (.string (l.getD k noq).v.t) ∧ (ocs l)[k * 5 + 4]? = some (.string (l.getD k noq).t)
  | [], k, h => by simp at h
  | v :: l, 0, _ => by simp [ocs]
  | v :: l, k + 1, h => by
    have ih := ocs_at (l := l) (k := k) (by simpa using h)
    have e : (k + 1) * 5 = k * 5 + 1 + 1 + 1 + 1 + 1 := by omega
    rw [e]
    simpa [ocs] using ih
theorem ocs_one : ∀ (l : List Oq), ∀ u ∈ ocs l, u.oneCell' = true
  | [], u, hu => by simp [ocs] at hu
  | v :: l, u, hu => by
    simp only [ocs, List.mem_cons] at hu
    rcases hu with rfl | rfl | rfl | rfl | rfl | hu
    · rfl
    · rfl
    · rfl
    · rfl
    · rfl
    · exact ocs_one l u hu
theorem wks_in (k : Int) : 0 ≤ wks k ∧ wks k ≤ 2 := by
  unfold wks
  split
  · omega
  · split <;> omega
theorem opF_kind {k vk vn : Int} {vt t : ByteArray} (h : opF k vk vn vt t = 0) : 1 ≤ k ∧ k ≤ 11 := by
  unfold opF at h
  split at h
  · omega
  · omega
end Go.Proofs.YtmfkdpfcpdmkdaaDoor
/- Ops that are one expression, plainly: put together out of a twig they lack nothing. -/
namespace Go.Proofs.YtmfkdpfcpdmkdaaDoor
open Go
set_option linter.unusedVariables false
set_option linter.unusedSimpArgs false
def colL : List ByteArray := [⟨#[105, 100]⟩, ⟨#[110]⟩, ⟨#[115]⟩, ⟨#[98]⟩]
def Fi (n : Int) : Prop := -9223372036854775808 ≤ n ∧ n ≤ 9223372036854775807
/-- An op's name is short, a column's one of four; its number fits. -/
def Sml (o : Oq) : Prop := o.t.size ≤ 2 ∧ (o.k = 2 → o.t ∈ colL) ∧ Fi o.v.n
theorem sml_bare {k : Int} {v : V} (h : k ≠ 2) (hv : Fi v.n := by first | exact ⟨by decide, by decide⟩ | (unfold Fi; omega)) : Sml ⟨k, v, ⟨#[]⟩⟩ := ⟨by show (0 : Nat) ≤ 2; omega, fun e => absurd e h, hv⟩
/-- Ops that are one: what stands behind goes on with one thing more; cut anywhere they lack nothing. -/
def Whl (l : List Oq) : Prop := (∀ n rest, 0 ≤ n → exF n (l ++ rest) = exF (n + 1) rest) ∧ (∀ j n rest, 0 ≤ n → ∃ m, 0 ≤ m ∧ exF n (l.take j ++ rest) = exF m rest) ∧ ∀ o ∈ l, Sml o
theorem exF_step {n : Int} {o : Oq} {l : List Oq} (h : opF o.k o.v.k o.v.n o.v.t o.t = 0) (hn : wks o.k ≤ n) : exF n (o :: l) = exF (n + 1 - wks o.k) l := by
  rw [exF, if_neg (by rw [h]; simp), if_neg (by omega)]
theorem whl_one {o : Oq} (h : opF o.k o.v.k o.v.n o.v.t o.t = 0) (hw : wks o.k = 0) (hs : Sml o) : Whl [o] := by
  refine ⟨fun n rest hn => ?_, fun j n rest hn => ?_, fun x hx => ?_⟩
  · rw [List.singleton_append, exF_step h (by omega), hw]
    congr 1
    omega
  · cases j with
    | zero => exact ⟨n, hn, rfl⟩
    | succ j =>
      refine ⟨n + 1, by omega, ?_⟩
      rw [List.take_succ_cons, List.take_nil, List.singleton_append, exF_step h (by omega), hw]
      congr 1
      omega
  · rw [List.mem_singleton] at hx
    rw [hx]
    exact hs
/-- A prefix of one list behind another. -/
theorem take_two {α : Type} (a b : List α) (j : Nat) : (a ++ b).take j = a.take j ∨ ∃ i, (a ++ b).take j = a ++ b.take i := by
  rw [List.take_append]
  by_cases h : j ≤ a.length
  · left
    rw [Nat.sub_eq_zero_of_le h, List.take_zero, List.append_nil]
  · right
    exact ⟨j - a.length, by rw [List.take_of_length_le (by omega)]⟩
theorem whl_un {l : List Oq} {o : Oq} (hl : Whl l) (h : opF o.k o.v.k o.v.n o.v.t o.t = 0) (hw : wks o.k = 1) (hs : Sml o) : Whl (l ++ [o]) := by
  refine ⟨fun n rest hn => ?_, fun j n rest hn => ?_, fun x hx => ?_⟩
  · rw [List.append_assoc, hl.1 n _ hn, List.singleton_append, exF_step h (by omega), hw]
    congr 1
    omega
  · rcases take_two l [o] j with e | ⟨i, e⟩
    · rw [e]
      exact hl.2.1 j n rest hn
    · rw [e, List.append_assoc, hl.1 n _ hn]
      cases i with
      | zero => exact ⟨n + 1, by omega, rfl⟩
      | succ i =>
        refine ⟨n + 1, by omega, ?_⟩
        rw [List.take_succ_cons, List.take_nil, List.singleton_append, exF_step h (by omega), hw]
        congr 1
        omega
  · rcases List.mem_append.1 hx with hx | hx
    · exact hl.2.2 x hx
    · rw [List.mem_singleton] at hx
      rw [hx]
      exact hs
theorem whl_bin {l m : List Oq} {o : Oq} (hl : Whl l) (hm : Whl m) (h : opF o.k o.v.k o.v.n o.v.t o.t = 0) (hw : wks o.k = 2) (hs : Sml o) : Whl (l ++ m ++ [o]) := by
  have hstep : ∀ n rest, 0 ≤ n → exF (n + 1 + 1) (o :: rest) = exF (n + 1) rest := fun n rest hn => by
    rw [exF_step h (by omega), hw]
    congr 1
    omega
  refine ⟨fun n rest hn => ?_, fun j n rest hn => ?_, fun x hx => ?_⟩
  · rw [List.append_assoc, List.append_assoc, hl.1 n _ hn, hm.1 (n + 1) _ (by omega), List.singleton_append, hstep n rest hn]
  · rw [List.append_assoc]
    rcases take_two l (m ++ [o]) j with e | ⟨i, e⟩
    · rw [e]
      exact hl.2.1 j n rest hn
    · rw [e, List.append_assoc, hl.1 n _ hn]
      rcases take_two m [o] i with e | ⟨i', e⟩
      · rw [e]
        exact hm.2.1 i (n + 1) rest (by omega)
      · rw [e, List.append_assoc, hm.1 (n + 1) _ (by omega)]
        cases i' with
        | zero => exact ⟨n + 1 + 1, by omega, rfl⟩
        | succ i' =>
          refine ⟨n + 1, by omega, ?_⟩
          rw [List.take_succ_cons, List.take_nil, List.singleton_append, hstep n rest hn]
  · rcases List.mem_append.1 hx with hx | hx
    · rcases List.mem_append.1 hx with hx | hx
      · exact hl.2.2 x hx
      · exact hm.2.2 x hx
    · rw [List.mem_singleton] at hx
      rw [hx]
      exact hs
theorem emp_data : (⟨#[]⟩ : ByteArray).toList.isEmpty = true := by rw [Lib.toList_data]; rfl
/-- An op of a kind that has neither a value nor a name. -/
theorem op_bare {k : Int} (h1 : 3 ≤ k) (h2 : k ≤ 11) : opF k 0 0 ⟨#[]⟩ ⟨#[]⟩ = 0 := by
  have e : litF 0 0 ⟨#[]⟩ = 0 := by decide +kernel
  unfold opF
  rw [if_neg (by omega), if_neg (by rw [e]; simp), if_neg (by rw [emp_data]; simp [vnul, emp_data]), if_neg (by omega)]
theorem op_lit {vk vn : Int} {vt : ByteArray} (h : litF vk vn vt = 0) : opF 1 vk vn vt ⟨#[]⟩ = 0 := by
  unfold opF
  rw [if_neg (by omega), if_neg (by rw [h]; simp), if_neg (by rw [emp_data]; simp), if_neg (by omega)]
theorem wks_two {k : Int} (h1 : 3 ≤ k) (h5 : k ≠ 5) (h11 : k ≠ 11) : wks k = 2 := by
  unfold wks
  rw [if_neg (by omega), if_neg (by omega)]
/-- What a law on such ops wants. -/
theorem whl_all {l : List Oq} (h : Whl l) (hl : l.length ≤ 15) : exprF l = 0 ∧ exprF (l ++ l) = 7 ∧ exprF ([⟨5, ⟨0, 0, ⟨#[]⟩⟩, ⟨#[]⟩⟩] ++ l) = 7 ∧ ∀ j, exprF (l.take j ++ [⟨12, ⟨0, 0, ⟨#[]⟩⟩, ⟨#[]⟩⟩]) = 2 := by
  have e0 : ∀ x : List Oq, x.length ≤ 40 → exprF x = exF 0 x := fun x hx => by
    unfold exprF
    rw [if_neg (by omega)]
  refine ⟨?_, ?_, ?_, fun j => ?_⟩
  · rw [e0 _ (by omega)]
    have := h.1 0 [] (by omega)
    rw [List.append_nil] at this
    rw [this]
    rfl
  · rw [e0 _ (by rw [List.length_append]; omega), h.1 0 l (by omega)]
    have := h.1 (0 + 1) [] (by omega)
    rw [List.append_nil] at this
    rw [this]
    rfl
  · rw [e0 _ (by rw [List.length_append]; simp; omega), List.singleton_append, exF, if_neg (by rw [op_bare (k := 5) (by omega) (by omega)]; simp), if_pos (by decide)]
  · have hj : (l.take j).length ≤ 15 := by rw [List.length_take]; omega
    rw [e0 _ (by rw [List.length_append]; simp; omega)]
    obtain ⟨m, hm, e⟩ := h.2.1 j 0 [⟨12, ⟨0, 0, ⟨#[]⟩⟩, ⟨#[]⟩⟩] (by omega)
    rw [e, exF]
    have : opF 12 0 0 ⟨#[]⟩ ⟨#[]⟩ = 2 := by
      unfold opF
      rw [if_pos (by omega)]
    rw [if_pos (by rw [this]; simp), this]
end Go.Proofs.YtmfkdpfcpdmkdaaDoor
