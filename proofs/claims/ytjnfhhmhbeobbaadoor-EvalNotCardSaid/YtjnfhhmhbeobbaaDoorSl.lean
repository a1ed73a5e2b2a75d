/- The table of marks: what it reads as; a world in which it lies so. -/
import Derived.Test.YtjnfhhmhbeobbaaDoorBf
import Derived.Test.YtjnfhhmhbeobbaaDoorSd
import Derived.Test.YtjnfhhmhbeobbaaDoorTie
import Derived.Test.YtjnfhhmhbeobbaaDoorCards
import Derived.ChangeSame
import Derived.ChangeVars
import Derived.JoinedOf
import Derived.SevenTiedAt
import Derived.LaidLaws
namespace Go.Proofs.YtjnfhhmhbeobbaaDoor
open Go.ChangeShapes Go.WideShapes Go.ChangeAt Go.RowKit
set_option linter.unusedVariables false
set_option linter.unusedSimpArgs false
theorem mks_at : Tryd.prog.globalNamed "padlock/lex.marks" = some 5 := by kernel_rfl
theorem mks_type : (Tryd.prog.globals[5]?).map (·.type) = some 126 := by kernel_rfl
abbrev laidM : World → Prop := laidMet Tryd.prog [("padlock/lex.marks", Rows.laid_padlock_lex_marks)]
theorem mkD : (Rows.laid_padlock_lex_marks : DataW Unit) = .agg (mkL.map fun m => .lit (.string m)) := rfl
theorem var_block {P : Program} {w : World} {n : String} {g : Nat} {cs : Array Value} (hg : P.globalNamed n = some g) (h : w.var? P n = some cs) : ∃ t fr, w.heap[g]? = some (.cells cs t fr) := by
  simp only [World.var?, hg, Option.bind_some] at h
  split at h
  · rename_i c t fr hh
    obtain rfl := Option.some.inj h
    exact ⟨_, _, hh⟩
  · cases h
theorem mks_var {W : World} {g t : Nat} {cs : Array Value} {fuel : Nat} {p : List MemPlace} (hg : Tryd.prog.globalNamed "padlock/lex.marks" = some g) (ht : (Tryd.prog.globals[g]?).map (·.type) = some t) (hv : W.var? Tryd.prog "padlock/lex.marks" = some cs)
    (hd : DataW.trod (fun _ => ()) Tryd.prog W 0 (fun _ => true) false fuel t cs.toList = some (Rows.laid_padlock_lex_marks, p)) : Mk W := by
  obtain rfl := Option.some.inj (mks_at.symm.trans hg)
  obtain rfl := Option.some.inj (mks_type.symm.trans ht)
  rw [mkD] at hd
  obtain ⟨xs, m, rfl, hx, hl, hxl, hf⟩ := DataW.trod_array Tryd.underlying126 hd
  rw [show Tryd.prog.cellsOf 126 = 12 by kernel_rfl] at hl
  rw [show Tryd.prog.cellsOf 9 = 1 by kernel_rfl] at hf
  simp only [Prod.mk.injEq, DataW.agg.injEq] at hx
  obtain ⟨hx, _⟩ := hx
  have hmk : mkL.length = 12 := rfl
  have hcs : cs.toList = mkL.map fun m => Value.string ⟨m.toArray⟩ := by
    apply List.ext_getElem?
    intro i
    by_cases hi : i < 12
    · have h1 := hf i hi
      obtain ⟨y, hy⟩ : ∃ y, xs[i]? = some y := ⟨_, List.getElem?_eq_getElem (by omega)⟩
      rw [hy] at h1
      obtain ⟨s, h2, h3, _⟩ := DataW.trod_string Tryd.underlying9 h1
      have h4 := congrArg (fun l : List (DataW Unit) => l[i]?) hx
      simp only [List.getElem?_map, hy, Option.map_some] at h4
      rw [List.getElem?_eq_getElem (show i < mkL.length by omega)] at h4
      simp only [Option.map_some, Option.some.injEq] at h4
      rw [h3] at h4
      simp only [DataW.lit.injEq, Lit.string.injEq] at h4
      have h5 := congrArg (fun l : List Value => l[0]?) h2
      simp [List.getElem?_take, List.getElem?_drop] at h5
      rw [List.getElem?_map, List.getElem?_eq_getElem (show i < mkL.length by omega), Option.map_some, h4]
      rw [Array.getElem?_toList, h5]
    · rw [List.getElem?_eq_none (by omega), List.getElem?_eq_none (by simp; omega)]
  have hcs' : cs = mkC := by
    apply Array.ext'
    rw [hcs]
    rfl
  subst hcs'
  exact var_block mks_at hv
theorem M_of {W : World} (h : laidM W) : Mk W := by
  obtain ⟨ps, ⟨g, t, cs, fuel, p, q, hg, ht, hv, hd, _, _⟩, _⟩ := h
  exact mks_var hg ht hv hd
def layC (cs : Array Value) : Obj → Obj
  | .cells _ t frozen => .cells cs t frozen
  | o => o
noncomputable def tabled (os : Os) : World :=
  { World.holding Tryd.prog os ⟨#[], #[], []⟩ with heap := (World.holding Tryd.prog os ⟨#[], #[], []⟩).heap.modify 5 (layC mkC) }
theorem tabled_laidM (os : Os) (args : Array Value) : laidM ((tabled os).forCall (fun _ _ => 0) ⟨#[], args, []⟩).memory :=
  laidMet_of_run' 8 (by kernel_rfl) (by kernel_rfl)
end Go.Proofs.YtjnfhhmhbeobbaaDoor
