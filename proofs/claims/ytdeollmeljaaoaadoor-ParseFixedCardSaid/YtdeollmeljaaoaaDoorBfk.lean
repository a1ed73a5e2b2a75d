import Derived.Test.YtdeollmeljaaoaaDoorRows
import Derived.ProofKit
import Derived.Carry
import Derived.OpenShut
import Derived.Lib.SmallJoins
import Derived.Test.YtdeollmeljaaoaaDoorShak
import Derived.Test.YtdeollmeljaaoaaDoorTie
import Derived.Test.YtdeollmeljaaoaaDoorCards
import Derived.ChangeSame
import Derived.ChangeVars
import Derived.JoinedOf
import Derived.SevenTiedAt
import Derived.LaidLaws
import Derived.Test.YtdeollmeljaaoaaDoorUbk
/- What every law's row asks behind its walk: the law answers true, and nothing that was there has turned. -/
namespace Go.Proofs.YtdeollmeljaaoaaDoor
set_option linter.unusedVariables false
set_option linter.unusedSimpArgs false
open Go.ChangeShapes Go.WideShapes Go.ChangeAt Go.RowKit

theorem Tryd.own : ownKnob Tryd.prog.godebug = none := by kernel_rfl
theorem Tryd.laidOut : laidOutB Tryd.prog = true := by kernel_rfl

section
variable {H : Type} {enc : TypeId × Value → H} {P : Program}
theorem trodAll_below (hl : laidOutB P = true) {W W' : World} (hb : Below W.heap.size W W') : ∀ (ts : List TypeId) (vs : List Value) (ds : List (DataW H)) (p : List MemPlace),
    (∀ t ∈ ts, P.readableRec t = true ∧ t < P.types.size) → (∀ x ∈ p, x.block < W.heap.size) → DataW.TrodAll enc P W 0 (fun _ => true) true ts vs ds p →
    DataW.TrodAll enc P W' 0 (fun b => decide (b < W.heap.size)) true ts vs ds p
  | [], [], [], p, _, _, h => h
  | t :: ts, v :: vs, d :: ds, p, ht, hp, h => by
    obtain ⟨a, b, h1, h2, rfl⟩ := h
    exact ⟨a, b, Below.trod hl (ht t (by simp)).1 (ht t (by simp)).2 h1 hb (fun x hx => hp x (by simp [hx])), trodAll_below hl hb ts vs ds b (fun u hu => ht u (by simp [hu])) (fun x hx => hp x (by simp [hx])) h2, rfl⟩
  | [], _ :: _, _, _, _, _, h => by simp [DataW.TrodAll] at h
  | [], [], _ :: _, _, _, _, h => by simp [DataW.TrodAll] at h
  | _ :: _, [], _, _, _, _, h => by simp [DataW.TrodAll] at h
  | _ :: _, _ :: _, [], _, _, _, h => by simp [DataW.TrodAll] at h

theorem law_post (hl : laidOutB P = true) {f : Func} {s : ChangeSpec} {apart fresh handsOn : Bool} {W W' : World} {args : Array Value} {ds : List (DataW H)} {before : List MemPlace} {tb : TypeId}
    (hts0 : (f.params.toList.all fun t => P.readableRec t && decide (t < P.types.size)) = true) (hrt : f.resultTypes = #[tb]) (htb : P.underlying tb = some .bool) (hv : s.vars = [])
    (hW : DataW.Whole enc P f.params.toList s.vars apart W args.toList ds [] before) (hb : Below W.heap.size W W')
    (hr : (s.fn H (ds ++ [])).results = [.lit (.bool true)]) (ha : (s.fn H (ds ++ [])).args = ds) (hvv : (s.fn H (ds ++ [])).vars = []) :
    s.post enc P f apart fresh handsOn false W args (.bool true) W' := by
  have hts : ∀ t ∈ f.params.toList, P.readableRec t = true ∧ t < P.types.size := fun t ht => by have := List.all_eq_true.1 hts0 t ht; simpa using this
  have hlt : ∀ x ∈ before, x.block < W.heap.size := fun x hx => hW.lt x hx
  have hW0 := hW
  obtain ⟨p, q, hA, hV, rfl, hfz, hnd⟩ := hW
  rw [hv] at hV
  have hq : q = [] := hV
  subst hq
  refine ⟨ds, [], p ++ [], [], p, [], hW0, ?_, ?_, ?_, World.keptBut_mono (fun x hx => hx.elim) (hb.frame (fun _ => False)), fun h => by cases h⟩
  · rw [hr, hrt]
    exact trodAll_mk1 (shut_bool htb true)
  · rw [ha]
    exact trodAll_below hl hb _ _ _ _ hts (fun x hx => hlt x (by simp [hx])) hA
  · rw [hv, hvv]
    rfl
end
end Go.Proofs.YtdeollmeljaaoaaDoor
/- The table of marks: what it reads as; a world in which it lies so. -/
namespace Go.Proofs.YtdeollmeljaaoaaDoor
open Go.ChangeShapes Go.WideShapes Go.ChangeAt Go.RowKit
set_option linter.unusedVariables false
set_option linter.unusedSimpArgs false
theorem mks_at : Tryd.prog.globalNamed "padlock/lex.marks" = some 5 := by kernel_rfl
theorem mks_type : (Tryd.prog.globals[5]?).map (·.type) = some 122 := by kernel_rfl
theorem mkD : (Rows.laid_padlock_lex_marks : DataW Unit) = .agg (mkL.map fun m => .lit (.string m)) := rfl
theorem var_block {P : Program} {w : World} {n : String} {g : Nat} {cs : Array Value} (hg : P.globalNamed n = some g) (h : w.var? P n = some cs) : ∃ t fr, w.heap[g]? = some (.cells cs t fr) := by
  simp only [World.var?, hg, Option.bind_some] at h
  split at h
  · rename_i c t fr hh
    obtain rfl := Option.some.inj h
    exact ⟨_, _, hh⟩
  · cases h
theorem mks_var {W : World} {g t : Nat} {cs : Array Value} {fuel : Nat} {p : List MemPlace} (hg : Tryd.prog.globalNamed "padlock/lex.marks" = some g) (ht : (Tryd.prog.globals[g]?).map (·.type) = some t) (hv : W.var? Tryd.prog "padlock/lex.marks" = some cs)
    (hd : DataW.trod (fun _ => ()) Tryd.prog W 0 (fun _ => true) false fuel t cs.toList = some (Rows.laid_padlock_lex_marks, p)) : Mk W := by
  obtain rfl := Option.some.inj (mks_at.symm.trans hg)
  obtain rfl := Option.some.inj (mks_type.symm.trans ht)
  rw [mkD] at hd
  obtain ⟨xs, m, rfl, hx, hl, hxl, hf⟩ := DataW.trod_array Tryd.underlying122 hd
  rw [show Tryd.prog.cellsOf 122 = 12 by kernel_rfl] at hl
  rw [show Tryd.prog.cellsOf 9 = 1 by kernel_rfl] at hf
  simp only [Prod.mk.injEq, DataW.agg.injEq] at hx
  obtain ⟨hx, _⟩ := hx
  have hmk : mkL.length = 12 := rfl
  have hcs : cs.toList = mkL.map fun m => Value.string ⟨m.toArray⟩ := by
    apply List.ext_getElem?
    intro i
    by_cases hi : i < 12
    · have h1 := hf i hi
      obtain ⟨y, hy⟩ : ∃ y, xs[i]? = some y := ⟨_, List.getElem?_eq_getElem (by omega)⟩
      rw [hy] at h1
      obtain ⟨s, h2, h3, _⟩ := DataW.trod_string Tryd.underlying9 h1
      have h4 := congrArg (fun l : List (DataW Unit) => l[i]?) hx
      simp only [List.getElem?_map, hy, Option.map_some] at h4
      rw [List.getElem?_eq_getElem (show i < mkL.length by omega)] at h4
      simp only [Option.map_some, Option.some.injEq] at h4
      rw [h3] at h4
      simp only [DataW.lit.injEq, Lit.string.injEq] at h4
      have h5 := congrArg (fun l : List Value => l[0]?) h2
      simp [List.getElem?_take, List.getElem?_drop] at h5
      rw [List.getElem?_map, List.getElem?_eq_getElem (show i < mkL.length by omega), Option.map_some, h4]
      rw [Array.getElem?_toList, h5]
    · rw [List.getElem?_eq_none (by omega), List.getElem?_eq_none (by simp; omega)]
  have hcs' : cs = mkC := by
    apply Array.ext'
    rw [hcs]
    rfl
  subst hcs'
  exact var_block mks_at hv
def layC (cs : Array Value) : Obj → Obj
  | .cells _ t frozen => .cells cs t frozen
  | o => o
end Go.Proofs.YtdeollmeljaaoaaDoor
/- The tables that the rows of names and expressions list: what they read as; a world in which they lie so. -/
namespace Go.Proofs.YtdeollmeljaaoaaDoor
open Go.ChangeShapes Go.WideShapes Go.ChangeAt Go.RowKit
set_option linter.unusedVariables false
set_option linter.unusedSimpArgs false
/-- On how many an op of each kind works. -/
def woL : List Int := [0, 0, 0, 2, 2, 1, 2, 2, 2, 2, 2, 1]
def woC : Array Value := (woL.map fun m => Value.int .i64 m).toArray
def Wo (w : World) : Prop := ∃ t fr, w.heap[2]? = some (.cells woC t fr)
theorem Wo.below {w w' : World} (h : Wo w) (hb : Below w.heap.size w w') : Wo w' := by
  obtain ⟨t, fr, h1⟩ := h
  have hlt : 2 < w.heap.size := by
    rcases Nat.lt_or_ge 2 w.heap.size with g | g
    · exact g
    · rw [Array.getElem?_eq_none g] at h1; cases h1
  exact ⟨t, fr, (hb.block _ hlt).trans h1⟩
theorem kps_at : Tryd.prog.globalNamed "padlock/parse.kept" = some 3 := by kernel_rfl
theorem kps_type : (Tryd.prog.globals[3]?).map (·.type) = some 108 := by kernel_rfl
theorem kpsD : (Rows.laid_padlock_parse_kept : DataW Unit) = .agg (kpL.map fun m => .lit (.string m)) := rfl
theorem kps_var {W : World} {g t : Nat} {cs : Array Value} {fuel : Nat} {p : List MemPlace} (hg : Tryd.prog.globalNamed "padlock/parse.kept" = some g) (ht : (Tryd.prog.globals[g]?).map (·.type) = some t) (hv : W.var? Tryd.prog "padlock/parse.kept" = some cs)
    (hd : DataW.trod (fun _ => ()) Tryd.prog W 0 (fun _ => true) false fuel t cs.toList = some (Rows.laid_padlock_parse_kept, p)) : ∃ t fr, W.heap[3]? = some (.cells (kpL.map fun m => Value.string ⟨m.toArray⟩).toArray t fr) := by
  obtain rfl := Option.some.inj (kps_at.symm.trans hg)
  obtain rfl := Option.some.inj (kps_type.symm.trans ht)
  rw [kpsD] at hd
  obtain ⟨xs, m, rfl, hx, hl, hxl, hf⟩ := DataW.trod_array Tryd.underlying108 hd
  rw [show Tryd.prog.cellsOf 108 = 30 by kernel_rfl] at hl
  rw [show Tryd.prog.cellsOf 9 = 1 by kernel_rfl] at hf
  simp only [Prod.mk.injEq, DataW.agg.injEq] at hx
  obtain ⟨hx, _⟩ := hx
  have hmk : kpL.length = 30 := rfl
  have hcs : cs.toList = kpL.map fun m => Value.string ⟨m.toArray⟩ := by
    apply List.ext_getElem?
    intro i
    by_cases hi : i < 30
    · have h1 := hf i hi
      obtain ⟨y, hy⟩ : ∃ y, xs[i]? = some y := ⟨_, List.getElem?_eq_getElem (by omega)⟩
      rw [hy] at h1
      obtain ⟨s, h2, h3, _⟩ := DataW.trod_string Tryd.underlying9 h1
      have h4 := congrArg (fun l : List (DataW Unit) => l[i]?) hx
      simp only [List.getElem?_map, hy, Option.map_some] at h4
      rw [List.getElem?_eq_getElem (show i < kpL.length by omega)] at h4
      simp only [Option.map_some, Option.some.injEq] at h4
      rw [h3] at h4
      simp only [DataW.lit.injEq, Lit.string.injEq] at h4
      have h5 := congrArg (fun l : List Value => l[0]?) h2
      simp [List.getElem?_take, List.getElem?_drop] at h5
      rw [List.getElem?_map, List.getElem?_eq_getElem (show i < kpL.length by omega), Option.map_some, h4]
      rw [Array.getElem?_toList, h5]
    · rw [List.getElem?_eq_none (by omega), List.getElem?_eq_none (by simp; omega)]
  have hcs' : cs = (kpL.map fun m => Value.string ⟨m.toArray⟩).toArray := by
    apply Array.ext'
    rw [hcs]
  subst hcs'
  exact var_block kps_at hv
theorem wos_at : Tryd.prog.globalNamed "padlock/parse.worksOn" = some 2 := by kernel_rfl
theorem wos_type : (Tryd.prog.globals[2]?).map (·.type) = some 106 := by kernel_rfl
theorem wosD : (Rows.laid_padlock_parse_worksOn : DataW Unit) = .agg (woL.map fun m => .lit (.int .i64 m)) := rfl
theorem wos_var {W : World} {g t : Nat} {cs : Array Value} {fuel : Nat} {p : List MemPlace} (hg : Tryd.prog.globalNamed "padlock/parse.worksOn" = some g) (ht : (Tryd.prog.globals[g]?).map (·.type) = some t) (hv : W.var? Tryd.prog "padlock/parse.worksOn" = some cs)
    (hd : DataW.trod (fun _ => ()) Tryd.prog W 0 (fun _ => true) false fuel t cs.toList = some (Rows.laid_padlock_parse_worksOn, p)) : ∃ t fr, W.heap[2]? = some (.cells (woL.map fun m => Value.int .i64 m).toArray t fr) := by
  obtain rfl := Option.some.inj (wos_at.symm.trans hg)
  obtain rfl := Option.some.inj (wos_type.symm.trans ht)
  rw [wosD] at hd
  obtain ⟨xs, m, rfl, hx, hl, hxl, hf⟩ := DataW.trod_array Tryd.underlying106 hd
  rw [show Tryd.prog.cellsOf 106 = 12 by kernel_rfl] at hl
  rw [show Tryd.prog.cellsOf 3 = 1 by kernel_rfl] at hf
  simp only [Prod.mk.injEq, DataW.agg.injEq] at hx
  obtain ⟨hx, _⟩ := hx
  have hmk : woL.length = 12 := rfl
  have hcs : cs.toList = woL.map fun m => Value.int .i64 m := by
    apply List.ext_getElem?
    intro i
    by_cases hi : i < 12
    · have h1 := hf i hi
      obtain ⟨y, hy⟩ : ∃ y, xs[i]? = some y := ⟨_, List.getElem?_eq_getElem (by omega)⟩
      rw [hy] at h1
      obtain ⟨s, h2, h3, _⟩ := DataW.trod_int Tryd.underlying3 h1
      have h4 := congrArg (fun l : List (DataW Unit) => l[i]?) hx
      simp only [List.getElem?_map, hy, Option.map_some] at h4
      rw [List.getElem?_eq_getElem (show i < woL.length by omega)] at h4
      simp only [Option.map_some, Option.some.injEq] at h4
      rw [h3] at h4
      simp only [DataW.lit.injEq, Lit.int.injEq, true_and] at h4
      have h5 := congrArg (fun l : List Value => l[0]?) h2
      simp [List.getElem?_take, List.getElem?_drop] at h5
      rw [List.getElem?_map, List.getElem?_eq_getElem (show i < woL.length by omega), Option.map_some, h4]
      rw [Array.getElem?_toList, h5]
    · rw [List.getElem?_eq_none (by omega), List.getElem?_eq_none (by simp; omega)]
  have hcs' : cs = (woL.map fun m => Value.int .i64 m).toArray := by
    apply Array.ext'
    rw [hcs]
  subst hcs'
  exact var_block wos_at hv
end Go.Proofs.YtdeollmeljaaoaaDoor
