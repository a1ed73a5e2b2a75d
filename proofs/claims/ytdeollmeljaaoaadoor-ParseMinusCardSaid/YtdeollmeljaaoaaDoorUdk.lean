import Derived.Test.YtdeollmeljaaoaaDoorUbk
import Derived.Test.YtdeollmeljaaoaaDoorBfk
/- The tables that the rows of names and expressions list: what they read as; a world in which they lie so. -/
namespace Go.Proofs.YtdeollmeljaaoaaDoor
open Go.ChangeShapes Go.WideShapes Go.ChangeAt Go.RowKit
set_option linter.unusedVariables false
set_option linter.unusedSimpArgs false
/-- On how many an op of each kind works. -/
def woL : List Int := [0, 0, 0, 2, 2, 1, 2, 2, 2, 2, 2, 1]
def woC : Array Value := (woL.map fun m => Value.int .i64 m).toArray
def Wo (w : World) : Prop := ∃ t fr, w.heap[2]? = some (.cells woC t fr)
theorem Wo.below {w w' : World} (h : Wo w) (hb : Below w.heap.size w w') : Wo w' := by
  obtain ⟨t, fr, h1⟩ := h
  have hlt : 2 < w.heap.size := by
    rcases Nat.lt_or_ge 2 w.heap.size with g | g
    · exact g
    · rw [Array.getElem?_eq_none g] at h1; cases h1
  exact ⟨t, fr, (hb.block _ hlt).trans h1⟩
theorem kps_at : Tryd.prog.globalNamed "padlock/parse.kept" = some 3 := by kernel_rfl
theorem kps_type : (Tryd.prog.globals[3]?).map (·.type) = some 108 := by kernel_rfl
theorem kpsD : (Rows.laid_padlock_parse_kept : DataW Unit) = .agg (kpL.map fun m => .lit (.string m)) := rfl
theorem kps_var {W : World} {g t : Nat} {cs : Array Value} {fuel : Nat} {p : List MemPlace} (hg : Tryd.prog.globalNamed "padlock/parse.kept" = some g) (ht : (Tryd.prog.globals[g]?).map (·.type) = some t) (hv : W.var? Tryd.prog "padlock/parse.kept" = some cs)
    (hd : DataW.trod (fun _ => ()) Tryd.prog W 0 (fun _ => true) false fuel t cs.toList = some (Rows.laid_padlock_parse_kept, p)) : ∃ t fr, W.heap[3]? = some (.cells (kpL.map fun m => Value.string ⟨m.toArray⟩).toArray t fr) := by
  obtain rfl := Option.some.inj (kps_at.symm.trans hg)
  obtain rfl := Option.some.inj (kps_type.symm.trans ht)
  rw [kpsD] at hd
  obtain ⟨xs, m, rfl, hx, hl, hxl, hf⟩ := DataW.trod_array Tryd.underlying108 hd
  rw [show Tryd.prog.cellsOf 108 = 30 by kernel_rfl] at hl
  rw [show Tryd.prog.cellsOf 9 = 1 by kernel_rfl] at hf
  simp only [Prod.mk.injEq, DataW.agg.injEq] at hx
  obtain ⟨hx, _⟩ := hx
  have hmk : kpL.length = 30 := rfl
  have hcs : cs.toList = kpL.map fun m => Value.string ⟨m.toArray⟩ := by
    apply List.ext_getElem?
    intro i
    by_cases hi : i < 30
    · have h1 := hf i hi
      obtain ⟨y, hy⟩ : ∃ y, xs[i]? = some y := ⟨_, List.getElem?_eq_getElem (by omega)⟩
      rw [hy] at h1
      obtain ⟨s, h2, h3, _⟩ := DataW.trod_string Tryd.underlying9 h1
      have h4 := congrArg (fun l : List (DataW Unit) => l[i]?) hx
      simp only [List.getElem?_map, hy, Option.map_some] at h4
      rw [List.getElem?_eq_getElem (show i < kpL.length by omega)] at h4
      simp only [Option.map_some, Option.some.injEq] at h4
      rw [h3] at h4
      simp only [DataW.lit.injEq, Lit.string.injEq] at h4
      have h5 := congrArg (fun l : List Value => l[0]?) h2
      simp [List.getElem?_take, List.getElem?_drop] at h5
      rw [List.getElem?_map, List.getElem?_eq_getElem (show i < kpL.length by omega), Option.map_some, h4]
      rw [Array.getElem?_toList, h5]
    · rw [List.getElem?_eq_none (by omega), List.getElem?_eq_none (by simp; omega)]
  have hcs' : cs = (kpL.map fun m => Value.string ⟨m.toArray⟩).toArray := by
    apply Array.ext'
    rw [hcs]
  subst hcs'
  exact var_block kps_at hv
end Go.Proofs.YtdeollmeljaaoaaDoor
