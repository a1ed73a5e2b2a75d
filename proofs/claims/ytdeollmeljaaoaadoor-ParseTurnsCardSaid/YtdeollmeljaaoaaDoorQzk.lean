import Derived.Test.YtdeollmeljaaoaaDoorUdk
/- The tables that the rows of columns list: what they read as; a world in which they lie so. -/
namespace Go.Proofs.YtdeollmeljaaoaaDoor
open Go.ChangeShapes Go.WideShapes Go.ChangeAt Go.RowKit
set_option linter.unusedVariables false
set_option linter.unusedSimpArgs false
/-- The words of kinds; the signs of ops. -/
def kdL : List (List UInt8) := [[], [66, 79, 79, 76], [73, 78, 84], [84, 69, 88, 84]]
def kdC : Array Value := (kdL.map fun m => Value.string ⟨m.toArray⟩).toArray
def sgL : List (List UInt8) := [[], [], [], [65, 78, 68], [79, 82], [], [61], [60], [43], [45], [42]]
def sgC : Array Value := (sgL.map fun m => Value.string ⟨m.toArray⟩).toArray
def coC : Array Value := #[.string ⟨#[78, 85, 76, 76]⟩, .int .i64 0, .int .i64 0, .string ⟨#[]⟩, .string ⟨#[70, 65, 76, 83, 69]⟩, .int .i64 1, .int .i64 0, .string ⟨#[]⟩, .string ⟨#[84, 82, 85, 69]⟩, .int .i64 1, .int .i64 1, .string ⟨#[]⟩]
def Kd (w : World) : Prop := ∃ t fr, w.heap[0]? = some (.cells kdC t fr)
theorem Kd.below {w w' : World} (h : Kd w) (hb : Below w.heap.size w w') : Kd w' := by
  obtain ⟨t, fr, h1⟩ := h
  have hlt : 0 < w.heap.size := by
    rcases Nat.lt_or_ge 0 w.heap.size with g | g
    · exact g
    · rw [Array.getElem?_eq_none g] at h1; cases h1
  exact ⟨t, fr, (hb.block _ hlt).trans h1⟩
theorem kds_at : Tryd.prog.globalNamed "padlock/parse.kinds" = some 0 := by kernel_rfl
theorem kds_type : (Tryd.prog.globals[0]?).map (·.type) = some 101 := by kernel_rfl
theorem kdsD : (Rows.laid_padlock_parse_kinds : DataW Unit) = .agg (kdL.map fun m => .lit (.string m)) := rfl
theorem kds_var {W : World} {g t : Nat} {cs : Array Value} {fuel : Nat} {p : List MemPlace} (hg : Tryd.prog.globalNamed "padlock/parse.kinds" = some g) (ht : (Tryd.prog.globals[g]?).map (·.type) = some t) (hv : W.var? Tryd.prog "padlock/parse.kinds" = some cs)
    (hd : DataW.trod (fun _ => ()) Tryd.prog W 0 (fun _ => true) false fuel t cs.toList = some (Rows.laid_padlock_parse_kinds, p)) : ∃ t fr, W.heap[0]? = some (.cells (kdL.map fun m => Value.string ⟨m.toArray⟩).toArray t fr) := by
  obtain rfl := Option.some.inj (kds_at.symm.trans hg)
  obtain rfl := Option.some.inj (kds_type.symm.trans ht)
  rw [kdsD] at hd
  obtain ⟨xs, m, rfl, hx, hl, hxl, hf⟩ := DataW.trod_array Tryd.underlying101 hd
  rw [show Tryd.prog.cellsOf 101 = 4 by kernel_rfl] at hl
  rw [show Tryd.prog.cellsOf 9 = 1 by kernel_rfl] at hf
  simp only [Prod.mk.injEq, DataW.agg.injEq] at hx
  obtain ⟨hx, _⟩ := hx
  have hmk : kdL.length = 4 := rfl
  have hcs : cs.toList = kdL.map fun m => Value.string ⟨m.toArray⟩ := by
    apply List.ext_getElem?
    intro i
    by_cases hi : i < 4
    · have h1 := hf i hi
      obtain ⟨y, hy⟩ : ∃ y, xs[i]? = some y := ⟨_, List.getElem?_eq_getElem (by omega)⟩
      rw [hy] at h1
      obtain ⟨s, h2, h3, _⟩ := DataW.trod_string Tryd.underlying9 h1
      have h4 := congrArg (fun l : List (DataW Unit) => l[i]?) hx
      simp only [List.getElem?_map, hy, Option.map_some] at h4
      rw [List.getElem?_eq_getElem (show i < kdL.length by omega)] at h4
      simp only [Option.map_some, Option.some.injEq] at h4
      rw [h3] at h4
      simp only [DataW.lit.injEq, Lit.string.injEq] at h4
      have h5 := congrArg (fun l : List Value => l[0]?) h2
      simp [List.getElem?_take, List.getElem?_drop] at h5
      rw [List.getElem?_map, List.getElem?_eq_getElem (show i < kdL.length by omega), Option.map_some, h4]
      rw [Array.getElem?_toList, h5]
    · rw [List.getElem?_eq_none (by omega), List.getElem?_eq_none (by simp; omega)]
  have hcs' : cs = (kdL.map fun m => Value.string ⟨m.toArray⟩).toArray := by
    apply Array.ext'
    rw [hcs]
  subst hcs'
  exact var_block kds_at hv
abbrev LX : List (String × DataW Unit) := [("padlock/lex.marks", Rows.laid_padlock_lex_marks), ("padlock/parse.worksOn", Rows.laid_padlock_parse_worksOn), ("padlock/parse.signs", Rows.laid_padlock_parse_signs), ("padlock/parse.constants", Rows.laid_padlock_parse_constants), ("padlock/parse.kept", Rows.laid_padlock_parse_kept), ("padlock/parse.kinds", Rows.laid_padlock_parse_kinds)]
abbrev laidX : World → Prop := laidMet Tryd.prog LX
/-- All that the walks want of the tables. -/
structure Tbs (w : World) : Prop where
  m : Mk w
  o : Wo w
  k : Kt w
  d : Kd w
theorem Tbs.below {w w' : World} (h : Tbs w) (hb : Below w.heap.size w w') : Tbs w' := ⟨h.m.below hb, h.o.below hb, h.k.below hb, h.d.below hb⟩
theorem X_of {W : World} (h : laidX W) : Tbs W := by
  obtain ⟨ps, ⟨g, t, cs, fuel, p, q, hg, ht, hv, hd, ⟨g1, t1, cs1, fuel1, p1, q1, hg1, ht1, hv1, hd1, ⟨g2, t2, cs2, fuel2, p2, q2, hg2, ht2, hv2, hd2, ⟨g3, t3, cs3, fuel3, p3, q3, hg3, ht3, hv3, hd3, ⟨g4, t4, cs4, fuel4, p4, q4, hg4, ht4, hv4, hd4, ⟨g5, t5, cs5, fuel5, p5, q5, hg5, ht5, hv5, hd5, _, _⟩, _⟩, _⟩, _⟩, _⟩, _⟩, _⟩ := h
  exact ⟨mks_var hg ht hv hd, wos_var hg1 ht1 hv1 hd1, kps_var hg4 ht4 hv4 hd4, kds_var hg5 ht5 hv5 hd5⟩
noncomputable def tabledX (os : Os) : World :=
  { World.holding Tryd.prog os ⟨#[], #[], []⟩ with heap := ((((((World.holding Tryd.prog os ⟨#[], #[], []⟩).heap.modify 5 (layC mkC)).modify 3 (layC kpC)).modify 2 (layC woC)).modify 0 (layC kdC)).modify 4 (layC sgC)).modify 1 (layC coC) }
theorem tabledX_laidX (os : Os) (args : Array Value) : laidX ((tabledX os).forCall (fun _ _ => 0) ⟨#[], args, []⟩).memory :=
  laidMet_of_run' 8 (by kernel_rfl) (by kernel_rfl)
end Go.Proofs.YtdeollmeljaaoaaDoor
