import Derived.Test.YtnheepkmaibofaaDoorQkk
import Derived.Test.YtnheepkmaibofaaDoorQrk
import Derived.Test.YtnheepkmaibofaaDoorUfk
/- Kinds of expressions: the program's small functions. -/
namespace Go.Proofs.YtnheepkmaibofaaDoor
open Go.ChangeShapes Go.WideShapes Go.ChangeAt Go.RowKit
set_option linter.unusedVariables false
set_option linter.unusedSimpArgs false
set_option maxHeartbeats 2000000
/-- The place of a column of this name; -1: there is none. -/
def plI (l : List Cq) (t : ByteArray) : Int := match l.findIdx? (fun c => c.t.toList == t.toList) with | some i => (i : Int) | none => -1
theorem plI_hit {l : List Cq} {t : ByteArray} {k : Nat} (hk : k < l.length) (ha : ∀ j, j < k → (l.getD j ncq).t ≠ t) (h : (l.getD k ncq).t = t) : plI l t = (k : Int) := by
  unfold plI
  have : l.findIdx? (fun c => c.t.toList == t.toList) = some k := by
    rw [List.findIdx?_eq_some_iff_getElem]
    refine ⟨hk, ?_, fun j hj => ?_⟩
    · have e : l[k].t = t := by rw [← h]; simp [List.getD, hk]
      simp [e]
    · have hj' : j < l.length := by omega
      have := ha j hj
      have e : (l.getD j ncq) = l[j] := by simp [List.getD, hj']
      rw [e] at this
      simp only [Bool.not_eq_true]
      exact st_beq this
  rw [this]
theorem plI_none {l : List Cq} {t : ByteArray} (ha : ∀ j, j < l.length → (l.getD j ncq).t ≠ t) : plI l t = -1 := by
  unfold plI
  have : l.findIdx? (fun c => c.t.toList == t.toList) = none := by
    rw [List.findIdx?_eq_none_iff]
    intro x hx
    obtain ⟨j, hj, rfl⟩ := List.getElem_of_mem hx
    have := ha j hj
    have e : (l.getD j ncq) = l[j] := by simp [List.getD, hj]
    rw [e] at this
    exact st_beq this
  rw [this]
theorem plI_in (l : List Cq) (t : ByteArray) : plI l t = -1 ∨ ∃ k : Nat, plI l t = (k : Int) ∧ k < l.length := by
  unfold plI
  cases h : l.findIdx? (fun c => c.t.toList == t.toList) with
  | none => exact .inl rfl
  | some i => exact .inr ⟨i, rfl, (List.findIdx?_eq_some_iff_getElem.1 h).1⟩
/-- The kind of a literal, of a column; of what an op makes of one thing, of two. The fault first. -/
def lfK (l : List Cq) (o : Oq) : Int × Int := if o.k = 1 then (0, o.v.k) else if plI l o.t < 0 then (8, 0) else (0, (l.getD (plI l o.t).toNat ncq).k)
def onK (k a : Int) : Int × Int := if k = 5 ∧ ¬ (a = 1 ∨ a = 0) then (4, 0) else (0, 1)
def ifK (k a b : Int) : Int × Int := if ¬ (a = k ∨ a = 0) ∨ ¬ (b = k ∨ b = 0) then (4, 0) else (0, k)
def twK (k a b : Int) : Int × Int := if k = 3 ∨ k = 4 then ifK 1 a b else if k = 6 ∨ k = 7 then (if ¬ (a = b ∨ a = 0) ∧ b ≠ 0 then (4, 0) else (0, 1)) else ifK 2 a b
/-- What a call that tells a kind answers. -/
def KindIs (p : Int × Int) (w : World) (e : Ending) (w' : World) : Prop := e = .returned (.tuple #[.int .i64 p.2, .int .i64 p.1]) ∧ w' = w
end Go.Proofs.YtnheepkmaibofaaDoor
