import Derived.Test.YtdeollmeljaaoaaDoorBfk
/- The tables that the rows of columns list: what they read as; a world in which they lie so. -/
namespace Go.Proofs.YtdeollmeljaaoaaDoor
open Go.ChangeShapes Go.WideShapes Go.ChangeAt Go.RowKit
set_option linter.unusedVariables false
set_option linter.unusedSimpArgs false
/-- The words of kinds; the signs of ops. -/
def kdL : List (List UInt8) := [[], [66, 79, 79, 76], [73, 78, 84], [84, 69, 88, 84]]
def kdC : Array Value := (kdL.map fun m => Value.string ⟨m.toArray⟩).toArray
def sgL : List (List UInt8) := [[], [], [], [65, 78, 68], [79, 82], [], [61], [60], [43], [45], [42]]
def sgC : Array Value := (sgL.map fun m => Value.string ⟨m.toArray⟩).toArray
def coC : Array Value := #[.string ⟨#[78, 85, 76, 76]⟩, .int .i64 0, .int .i64 0, .string ⟨#[]⟩, .string ⟨#[70, 65, 76, 83, 69]⟩, .int .i64 1, .int .i64 0, .string ⟨#[]⟩, .string ⟨#[84, 82, 85, 69]⟩, .int .i64 1, .int .i64 1, .string ⟨#[]⟩]
def Kd (w : World) : Prop := ∃ t fr, w.heap[0]? = some (.cells kdC t fr)
theorem Kd.below {w w' : World} (h : Kd w) (hb : Below w.heap.size w w') : Kd w' := by
  obtain ⟨t, fr, h1⟩ := h
  have hlt : 0 < w.heap.size := by
    rcases Nat.lt_or_ge 0 w.heap.size with g | g
    · exact g
    · rw [Array.getElem?_eq_none g] at h1; cases h1
  exact ⟨t, fr, (hb.block _ hlt).trans h1⟩
theorem kds_at : Tryd.prog.globalNamed "padlock/parse.kinds" = some 0 := by kernel_rfl
theorem kds_type : (Tryd.prog.globals[0]?).map (·.type) = some 101 := by kernel_rfl
theorem kdsD : (Rows.laid_padlock_parse_kinds : DataW Unit) = .agg (kdL.map fun m => .lit (.string m)) := rfl
theorem kds_var {W : World} {g t : Nat} {cs : Array Value} {fuel : Nat} {p : List MemPlace} (hg : Tryd.prog.globalNamed "padlock/parse.kinds" = some g) (ht : (Tryd.prog.globals[g]?).map (·.type) = some t) (hv : W.var? Tryd.prog "padlock/parse.kinds" = some cs)
    (hd : DataW.trod (fun _ => ()) Tryd.prog W 0 (fun _ => true) false fuel t cs.toList = some (Rows.laid_padlock_parse_kinds, p)) : ∃ t fr, W.heap[0]? = some (.cells (kdL.map fun m => Value.string ⟨m.toArray⟩).toArray t fr) := by
  obtain rfl := Option.some.inj (kds_at.symm.trans hg)
  obtain rfl := Option.some.inj (kds_type.symm.trans ht)
  rw [kdsD] at hd
  obtain ⟨xs, m, rfl, hx, hl, hxl, hf⟩ := DataW.trod_array Tryd.underlying101 hd
  rw [show Tryd.prog.cellsOf 101 = 4 by kernel_rfl] at hl
  rw [show Tryd.prog.cellsOf 9 = 1 by kernel_rfl] at hf
  simp only [Prod.mk.injEq, DataW.agg.injEq] at hx
  obtain ⟨hx, _⟩ := hx
  have hmk : kdL.length = 4 := rfl
  have hcs : cs.toList = kdL.map fun m => Value.string ⟨m.toArray⟩ := by
    apply List.ext_getElem?
    intro i
    by_cases hi : i < 4
    · have h1 := hf i hi
      obtain ⟨y, hy⟩ : ∃ y, xs[i]? = some y := ⟨_, List.getElem?_eq_getElem (by omega)⟩
      rw [hy] at h1
      obtain ⟨s, h2, h3, _⟩ := DataW.trod_string Tryd.underlying9 h1
      have h4 := congrArg (fun l : List (DataW Unit) => l[i]?) hx
      simp only [List.getElem?_map, hy, Option.map_some] at h4
      rw [List.getElem?_eq_getElem (show i < kdL.length by omega)] at h4
      simp only [Option.map_some, Option.some.injEq] at h4
      rw [h3] at h4
      simp only [DataW.lit.injEq, Lit.string.injEq] at h4
      have h5 := congrArg (fun l : List Value => l[0]?) h2
      simp [List.getElem?_take, List.getElem?_drop] at h5
      rw [List.getElem?_map, List.getElem?_eq_getElem (show i < kdL.length by omega), Option.map_some, h4]
      rw [Array.getElem?_toList, h5]
    · rw [List.getElem?_eq_none (by omega), List.getElem?_eq_none (by simp; omega)]
  have hcs' : cs = (kdL.map fun m => Value.string ⟨m.toArray⟩).toArray := by
    apply Array.ext'
    rw [hcs]
  subst hcs'
  exact var_block kds_at hv
/-- All that the walks want of the tables. -/
structure Tbs (w : World) : Prop where
  m : Mk w
  o : Wo w
  k : Kt w
  d : Kd w
theorem Tbs.below {w w' : World} (h : Tbs w) (hb : Below w.heap.size w w') : Tbs w' := ⟨h.m.below hb, h.o.below hb, h.k.below hb, h.d.below hb⟩
end Go.Proofs.YtdeollmeljaaoaaDoor
