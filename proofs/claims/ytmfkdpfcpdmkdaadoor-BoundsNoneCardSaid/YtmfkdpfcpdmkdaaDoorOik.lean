import Derived.Test.YtmfkdpfcpdmkdaaDoorOhk
import Derived.Test.YtmfkdpfcpdmkdaaDoorQuk
/- A row of the keeping statements: what it is plainly, and in memory. -/
namespace Go.Proofs.YtmfkdpfcpdmkdaaDoor
open Go.ChangeShapes Go.WideShapes Go.ChangeAt Go.RowKit
set_option linter.unusedVariables false
set_option linter.unusedSimpArgs false
abbrev r4 (p q tk tn : Int) (t : ByteArray) : List V := [⟨2, p, ⟨#[]⟩⟩, ⟨2, q, ⟨#[]⟩⟩, ⟨3, 0, t⟩, ⟨tk, tn, ⟨#[]⟩⟩]
theorem vc4 (a b c d : V) : vc [a, b, c, d] = [.int .i64 a.k, .int .i64 a.n, .string a.t, .int .i64 b.k, .int .i64 b.n, .string b.t, .int .i64 c.k, .int .i64 c.n, .string c.t, .int .i64 d.k, .int .i64 d.n, .string d.t] := rfl
theorem rd_r4 {w : World} {B : Nat} {p q tk tn : Int} {t : ByteArray} {T : TypeId} {fr : Nat × Nat} (h : w.heap[B]? = some (.cells (rowC p q tk tn t) T fr)) : Rd w 3 4 (.slice (some ⟨B, 0, none⟩) 4 4) (vc (r4 p q tk tn t)) := by
  refine ⟨by rw [vc_length]; rfl, some ⟨B, 0, none⟩, 4, rfl, Nat.le_refl _, by unfold maxLen; omega, (fun h => by cases h), fun ad ha j u hu => ?_⟩
  obtain rfl := Option.some.inj ha
  rw [Addr.add_lit, Nat.zero_add]
  have e : (rowC p q tk tn t)[j]? = some u := by rw [← hu, vc4]; simp
  simp [World.cell?, h, e]
theorem chk_int (n : Int) : chk 2 n ⟨#[]⟩ = 0 := by unfold chk nmb; simp [e_list]; decide
theorem chk_txt (t : ByteArray) (h : t.size ≤ 6) : chk 3 0 t = 0 := by
  unfold chk nmb
  simp
  omega
theorem chk_tr {k n : Int} (h : (k = 0 ∧ n = 0) ∨ (k = 1 ∧ (n = 0 ∨ n = 1))) : chk k n ⟨#[]⟩ = 0 := by
  rcases h with ⟨rfl, rfl⟩ | ⟨rfl, rfl | rfl⟩ <;> decide +kernel
theorem rn_next {i : Nat} {v : V} {r : List V} (h0 : chk v.k v.n v.t = 0) {c : Cq} {l : List Cq} (h : ¬ ((v.k ≠ c.k ∧ v.k ≠ 0) ∨ (i = 0 ∧ v.k = 0))) : rvF i (c :: l) (v :: r) = rvF (i + 1) l r := by
  conv => lhs; unfold rvF
  rw [if_neg (by simpa using h0), if_neg h]
theorem f_row (p q tk tn : Int) (t : ByteArray) (ht : t.size ≤ 6) (hor : (tk = 0 ∧ tn = 0) ∨ (tk = 1 ∧ (tn = 0 ∨ tn = 1))) : rowF c4t (r4 p q tk tn t) = 0 := by
  unfold rowF
  rw [c4t_ok, if_neg (by simp), if_neg (by simp)]
  rw [rn_next (chk_int p) (by simp)]
  rw [rn_next (chk_int q) (by simp)]
  rw [rn_next (chk_txt t ht) (by simp)]
  rw [rn_next (chk_tr hor) (by rcases hor with ⟨h, -⟩ | ⟨h, -⟩ <;> simp [h])]
  rfl
theorem whl_expr' {l : List Oq} (h : Whl l) (hl : l.length ≤ 40) : exprF l = 0 := by
  have e := h.1 0 [] (by omega)
  rw [List.append_nil] at e
  unfold exprF
  rw [if_neg (by omega), e]
  rfl
theorem sml_max {l : List Oq} (h : ∀ o ∈ l, Sml o) : ∀ o ∈ l, o.t.size ≤ maxLen := fun o ho => by
  have := (h o ho).1
  unfold maxLen
  omega
end Go.Proofs.YtmfkdpfcpdmkdaaDoor
