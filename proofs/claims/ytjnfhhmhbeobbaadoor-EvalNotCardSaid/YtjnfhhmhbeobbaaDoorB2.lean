/- What an argument that is a slice reads as. -/
import Derived.Test.YtjnfhhmhbeobbaaDoorBf
import Derived.Test.YtjnfhhmhbeobbaaDoorBg
import Derived.Deep.Slices
import Derived.Deep.Fields
import Derived.SizedLaws
namespace Go.Proofs.YtjnfhhmhbeobbaaDoor
open Go.ChangeShapes Go.WideShapes Go.ChangeAt Go.RowKit Go.Deep
set_option linter.unusedVariables false
set_option linter.unusedSimpArgs false
section
variable {H : Type} {enc : TypeId × Value → H} {P : Program} {w : World} {base : Nat} {spare : Nat → Bool} {held : Bool}
/-- A slice of bytes. -/
theorem open_by {t e : TypeId} {b0 : Nat} {r : Reach} {v : Value} {d : DataW H} {p : List MemPlace} (ht : P.underlying t = some (.slice e)) (he : P.underlying e = some (.int .u8)) (hC : P.cellsOf e = 1) (hv : Value.okWide P w r b0 t v) (h : DataW.Trod enc P w base spare held t v d p) :
    ∃ (n : Nat) (l : List UInt8), Rd w 1 n v (bc l) ∧ (n = 0 ∨ ∃ es sp, d = .slice es sp ∧ es.length = n) := by
  obtain ⟨a0, len, cap, rfl⟩ := okWide_slice ht hv
  obtain ⟨fuel, hf⟩ := h
  rcases open_ints ht he hC hf with ⟨hcs, hx⟩ | ⟨a, len', cap', zs, hcs, _, hl, hm, hz, hx, hcell, hwz⟩
  · simp [Value.cells] at hcs
    obtain ⟨rfl, rfl, rfl⟩ := hcs
    exact ⟨0, [], by simpa [bc] using Rd.nil w 1, .inl rfl⟩
  · simp [Value.cells] at hcs
    obtain ⟨rfl, rfl, rfl⟩ := hcs
    have hle : len ≤ zs.length := by rw [hz]; split <;> omega
    refine ⟨len, (zs.take len).map fun n => UInt8.ofNat n.toNat, ⟨by simp [bc_length]; omega, some a, cap, rfl, hl, hm, (fun h => by cases h), fun b hb j u hu => ?_⟩, ?_⟩
    · obtain rfl := Option.some.inj hb
      have hj : j < len := by
        have := (List.getElem?_eq_some_iff.1 hu).1
        simp [bc_length] at this
        omega
      have hjz : j < zs.length := by omega
      have hw := hwz zs[j] (List.getElem_mem hjz)
      simp only [Lit.wf, Bool.and_eq_true, decide_eq_true_eq] at hw
      have hw1 : 0 ≤ zs[j] := by have := hw.1; simp [IntKind.min, IntKind.signed, IntKind.bits] at this; omega
      have hw2 : zs[j] < 256 := by have := hw.2; simp [IntKind.max, IntKind.signed, IntKind.bits] at this; omega
      rw [hcell j hjz]
      simp [bc, List.getElem?_take, hj, hjz] at hu
      subst hu
      simp [List.getD, hjz]
      omega
    · simp only [Prod.mk.injEq] at hx
      refine .inr ⟨_, _, hx.1, ?_⟩
      simp [lits]
      omega
end
end Go.Proofs.YtjnfhhmhbeobbaaDoor
