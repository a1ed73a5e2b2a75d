import Derived.Test.YtmfkdpfcpdmkdaaDoorSak
/- Columns, plainly: what a list of columns lacks. -/
namespace Go.Proofs.YtmfkdpfcpdmkdaaDoor
set_option linter.unusedVariables false
set_option linter.unusedSimpArgs false
/-- A column: its name, its kind. -/
structure Cq where
  t : ByteArray
  k : Int
def ncq : Cq := ⟨⟨#[]⟩, 0⟩
/-- The cells of columns. -/
def ccs : List Cq → List Value
  | [] => []
  | c :: l => .string c.t :: .int .i64 c.k :: ccs l
theorem ccs_app : ∀ l m : List Cq, ccs (l ++ m) = ccs l ++ ccs m
  | [], _ => rfl
  | v :: l, m => by simp [ccs, ccs_app l m]
theorem ccs_length : ∀ l : List Cq, (ccs l).length = l.length * 2
  | [] => rfl
  | v :: l => by simp [ccs, ccs_length l]; omega
theorem ccs_at : ∀ {l : List Cq} {k : Nat}, k < l.length → (ccs l)[k * 2]? = some (.string (l.getD k ncq).t) ∧ (ccs l)[k * 2 + 1]? = some (.int .i64 (l.getD k ncq).k)
  | [], k, h => by simp at h
  | v :: l, 0, _ => by simp [ccs]
  | v :: l, k + 1, h => by
    have ih := ccs_at (l := l) (k := k) (by simpa using h)
    have e : (k + 1) * 2 = k * 2 + 1 + 1 := by omega
    rw [e]
    simpa [ccs] using ih
theorem ccs_one : ∀ (l : List Cq), ∀ u ∈ ccs l, u.oneCell' = true
  | [], u, hu => by simp [ccs] at hu
  | v :: l, u, hu => by
    simp only [ccs, List.mem_cons] at hu
    rcases hu with rfl | rfl | hu
    · rfl
    · rfl
    · exact ccs_one l u hu
theorem ccs_take : ∀ (l : List Cq) (j : Nat), (ccs l).take (j * 2) = ccs (l.take j)
  | [], j => by simp [ccs]
  | a :: l, 0 => by simp [ccs]
  | a :: l, j + 1 => by
    have e : (j + 1) * 2 = j * 2 + 1 + 1 := by omega
    rw [e, ccs, List.take_succ_cons, List.take_succ_cons, ccs_take l j, List.take_succ_cons, ccs]
/-- Is there a column of this name? -/
def hasC (l : List Cq) (t : ByteArray) : Bool := l.any fun c => c.t.toList == t.toList
/-- What columns lack behind others. -/
def clF : List Cq → List Cq → Int
  | _, [] => 0
  | m, c :: l => if nmF c.t.data.toList ≠ 0 then nmF c.t.data.toList else if c.k < 1 ∨ 3 < c.k then 2 else if hasC m c.t = true then 9 else clF (m ++ [c]) l
def colsF (l : List Cq) : Int := if l.length < 1 ∨ 6 < l.length then 1 else clF [] l
theorem cdrop_cons {l : List Cq} {k : Nat} (h : k < l.length) : l.drop k = l.getD k ncq :: l.drop (k + 1) := by
  rw [List.drop_eq_getElem_cons h]
  simp [List.getD, List.getElem?_eq_getElem h]
theorem ctake_snoc {l : List Cq} {k : Nat} (h : k < l.length) : l.take (k + 1) = l.take k ++ [l.getD k ncq] := by
  rw [List.take_succ_eq_append_getElem h]
  simp [List.getD, List.getElem?_eq_getElem h]
theorem cgetD_mem {l : List Cq} {k : Nat} (h : k < l.length) : l.getD k ncq ∈ l := by
  rw [List.getD, List.getElem?_eq_getElem h]
  exact List.getElem_mem h
/-- Each name is one, each kind is one. -/
def ColOk (l : List Cq) : Prop := ∀ c ∈ l, nmF c.t.data.toList = 0 ∧ 1 ≤ c.k ∧ c.k ≤ 3
theorem clF_ok : ∀ (l m : List Cq), clF m l = 0 → ColOk l
  | [], _, _ => fun c hc => by cases hc
  | c :: l, m, h => by
    unfold clF at h
    split at h
    · omega
    · split at h
      · omega
      · split at h
        · omega
        · intro d hd
          rcases List.mem_cons.1 hd with rfl | hd
          · exact ⟨by omega, by omega, by omega⟩
          · exact clF_ok l _ h d hd
theorem colsF_ok {l : List Cq} (h : colsF l = 0) : ColOk l ∧ 1 ≤ l.length ∧ l.length ≤ 6 := by
  unfold colsF at h
  split at h
  · omega
  · exact ⟨clF_ok _ _ h, by omega, by omega⟩
end Go.Proofs.YtmfkdpfcpdmkdaaDoor
