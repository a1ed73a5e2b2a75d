import Derived.Test.YtdeollmeljaaoaaDoorQbk
import Derived.Test.YtdeollmeljaaoaaDoorQck
import Derived.Test.YtdeollmeljaaoaaDoorUck
import Derived.Test.YtdeollmeljaaoaaDoorQkk
import Derived.Test.YtdeollmeljaaoaaDoorQhk
/- Columns: what they lack, by the document; words and marks between blanks. -/
namespace Go.Proofs.YtdeollmeljaaoaaDoor
open Go.ChangeShapes Go.WideShapes Go.ChangeAt Go.RowKit
set_option linter.unusedVariables false
set_option linter.unusedSimpArgs false
set_option maxHeartbeats 2000000
theorem ext_of (s : ByteArray) (i e : Nat) : s.extract i e = ⟨((s.data.toList.drop i).take (e - i)).toArray⟩ := Lib.extract_eq s i e
theorem dropcons {l : List UInt8} {k : Nat} (h : k < l.length) : l.drop k = l.getD k 0 :: l.drop (k + 1) := by
  rw [List.drop_eq_getElem_cons h]
  simp [List.getD, List.getElem?_eq_getElem h]
theorem takemore {l : List UInt8} {i e : Nat} (hi : i ≤ e) (he : e < l.length) : (l.drop i).take (e + 1 - i) = (l.drop i).take (e - i) ++ [l.getD e 0] := by
  have h : e - i < (l.drop i).length := by rw [List.length_drop]; omega
  rw [show e + 1 - i = e - i + 1 by omega, List.take_succ_eq_append_getElem h]
  congr 2
  simp [List.getD, show i + (e - i) = e by omega, he]
theorem tzcell (L : List Tk) (c : List UInt8) (k : Int) (h : k = (tzk c).k) : tkc (L ++ [tzk c]) = tkc L ++ [.int .i64 k, .string ⟨c.toArray⟩, .int .i64 0] := by
  rw [tkc_app]
  subst h
  rfl
end Go.Proofs.YtdeollmeljaaoaaDoor
/- Names and columns as tokens: what the document cuts at blanks is what the program shows. Plain. -/
namespace Go.Proofs.YtdeollmeljaaoaaDoor
open Go.ChangeShapes Go.WideShapes Go.ChangeAt Go.RowKit
set_option linter.unusedVariables false
set_option linter.unusedSimpArgs false
set_option maxHeartbeats 1000000
theorem nm_word {l : List UInt8} (h : nmF l = 0) : l ≠ [] ∧ wb (l.getD 0 0) = true ∧ (32 : UInt8) ∉ l ∧ l.length ≤ 8 ∧ tkF 1 l 0 = 0 := by
  by_cases h8 : 8 < l.length
  · rw [nm_long h8] at h
    omega
  · rw [nm_short h8] at h
    have ht : tkF 1 l 0 = 0 := by
      by_cases e : tkF 1 l 0 = 0
      · exact e
      · rw [if_pos (.inl e)] at h
        omega
    have hx : txt 1 l = true := by
      cases hb : txt 1 l with
      | true => rfl
      | false =>
        have h2 := ht
        unfold tkF at h2
        rw [hb] at h2
        simp at h2
    have hy := hx
    unfold txt at hy
    rw [if_pos rfl] at hy
    simp only [Bool.and_eq_true, Bool.not_eq_true', List.all_eq_true] at hy
    obtain ⟨⟨h1, h2⟩, h3⟩ := hy
    have hne : l ≠ [] := by
      intro e
      subst e
      simp at h1
    refine ⟨hne, ?_, ?_, by omega, ht⟩
    · obtain ⟨c, r, rfl⟩ := List.exists_cons_of_ne_nil hne
      have hc := h3 c (by simp)
      have e : (c :: r).getD 0 0 = c := rfl
      rw [e] at h2 ⊢
      unfold iw at hc
      rw [h2, Bool.or_false] at hc
      exact hc
    · intro hm
      have := h3 32 hm
      revert this
      decide
/-- A name is the same token to both. -/
theorem ptk_tzk {t : ByteArray} (h : nmF t.data.toList = 0) : ptk t = tzk t.data.toList := by
  obtain ⟨_, h2, _, _, h5⟩ := nm_word h
  unfold ptk tzk
  rw [if_pos h5, if_pos h2]
theorem tz_name {t : ByteArray} (h : nmF t.data.toList = 0) : tz t.data.toList = [ptk t] := by
  obtain ⟨h1, _, h3, _, _⟩ := nm_word h
  rw [ptk_tzk h, tz_word h3 h1]
theorem tz_one (a : List UInt8) (h : (32 : UInt8) ∉ a) (h0 : a ≠ []) (e : ptk ⟨a.toArray⟩ = tzk a) : tz a = [ptk ⟨a.toArray⟩] := by rw [tz_word h h0, e]
theorem tz_open : tz [40] = [ptk sOpen] := tz_one [40] (by decide) (by decide) (by decide +kernel)
theorem tz_close : tz [41] = [ptk sClose] := tz_one [41] (by decide) (by decide) (by decide +kernel)
theorem tz_comma : tz [44] = comma := tz_one [44] (by decide) (by decide) (by decide +kernel)
theorem tz_create : tz [67, 82, 69, 65, 84, 69] = [ptk sCREATE] := tz_one [67, 82, 69, 65, 84, 69] (by decide) (by decide) (by decide +kernel)
theorem tz_table : tz [84, 65, 66, 76, 69] = [ptk sTABLE] := tz_one [84, 65, 66, 76, 69] (by decide) (by decide) (by decide +kernel)
theorem tz_kind : ∀ k, k < 4 → 1 ≤ k → tz (kdL.getD k []) = [ptk ⟨(kdL.getD k []).toArray⟩]
  | 1, _, _ => tz_one [66, 79, 79, 76] (by decide) (by decide) (by decide +kernel)
  | 2, _, _ => tz_one [73, 78, 84] (by decide) (by decide) (by decide +kernel)
  | 3, _, _ => tz_one [84, 69, 88, 84] (by decide) (by decide) (by decide +kernel)
  | 0, _, h => absurd h (by omega)
  | n + 4, h, _ => absurd h (by omega)
theorem data_app (a b : ByteArray) : (a ++ b).data.toList = a.data.toList ++ b.data.toList := by simp
/-- 'CREATE TABLE t ('. -/
theorem tz_head {t : ByteArray} (h : nmF t.data.toList = 0) : tz ((⟨#[67, 82, 69, 65, 84, 69, 32, 84, 65, 66, 76, 69, 32]⟩ : ByteArray) ++ t ++ ⟨#[32, 40]⟩).data.toList = [ptk sCREATE, ptk sTABLE, ptk t, ptk sOpen] := by
  rw [data_app, data_app]
  have e : ([67, 82, 69, 65, 84, 69, 32, 84, 65, 66, 76, 69, 32] : List UInt8) ++ t.data.toList ++ [32, 40] = [67, 82, 69, 65, 84, 69] ++ 32 :: ([84, 65, 66, 76, 69] ++ 32 :: (t.data.toList ++ 32 :: [40])) := by simp
  show tz (([67, 82, 69, 65, 84, 69, 32, 84, 65, 66, 76, 69, 32] : List UInt8) ++ t.data.toList ++ [32, 40]) = _
  rw [e, tz_blank, tz_blank, tz_blank, tz_create, tz_table, tz_name h, tz_open]
  rfl
/-- A column: its name, a blank, its kind. -/
theorem tz_col {c : Cq} (h : nmF c.t.data.toList = 0) (h1 : 1 ≤ c.k) (h3 : c.k ≤ 3) : tz (c.t ++ ⟨#[32]⟩ ++ ⟨(kdL.getD c.k.toNat []).toArray⟩).data.toList = shC c := by
  rw [data_app, data_app]
  have e : c.t.data.toList ++ (⟨#[32]⟩ : ByteArray).data.toList ++ (⟨(kdL.getD c.k.toNat []).toArray⟩ : ByteArray).data.toList = c.t.data.toList ++ 32 :: (kdL.getD c.k.toNat []) := by simp
  rw [e, tz_blank, tz_name h, tz_kind _ (by omega) (by omega)]
  rfl
end Go.Proofs.YtdeollmeljaaoaaDoor
/- A Create that makes columns: what it lacks, by the document. -/
namespace Go.Proofs.YtdeollmeljaaoaaDoor
open Go.ChangeShapes Go.WideShapes Go.ChangeAt Go.RowKit
set_option linter.unusedVariables false
set_option linter.unusedSimpArgs false
set_option maxHeartbeats 4000000
theorem cell_blw {W W' : World} {a : Addr} {v : Value} (hb : Below W.heap.size W W') (h : W.cell? a = some v) : W'.cell? a = some v := (hb.cell (lt_cell h)).trans h
theorem hasC_take_hit {l : List Cq} {k j : Nat} {t : ByteArray} (hk : k ≤ l.length) (hj : j < k) (e : (l.getD j ncq).t = t) : hasC (l.take k) t = true := by
  refine hasC_at (k := j) (by simp; omega) ?_
  rw [← e]
  congr 1
  simp [List.getD, List.getElem?_take, hj]
theorem hasC_take_none {l : List Cq} {k : Nat} {t : ByteArray} (hk : k ≤ l.length) (h : ∀ j, j < k → (l.getD j ncq).t ≠ t) : hasC (l.take k) t = false := by
  refine hasC_none fun j hj => ?_
  have hj' : j < k := by simp at hj; omega
  have := h j hj'
  simpa [List.getD, List.getElem?_take, hj'] using this
end Go.Proofs.YtdeollmeljaaoaaDoor
/- A column's tokens put behind others, by the document: the region that draws its order. -/
namespace Go.Proofs.YtdeollmeljaaoaaDoor
open Go.ChangeShapes Go.WideShapes Go.ChangeAt Go.RowKit
set_option linter.unusedVariables false
set_option linter.unusedSimpArgs false
set_option maxHeartbeats 4000000
set_option maxRecDepth 1000000
end Go.Proofs.YtdeollmeljaaoaaDoor
