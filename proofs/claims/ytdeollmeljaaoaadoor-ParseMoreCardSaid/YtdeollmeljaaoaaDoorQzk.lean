import Derived.Test.YtdeollmeljaaoaaDoorUbk
import Derived.Deep.Strs
import Derived.Lib.SmallJoins
set_option linter.unusedVariables false
set_option linter.unusedSimpArgs false
open Go.ChangeAt Go.ChangeShapes Go.Deep Go.RowKit Go.WideShapes
namespace Go.Proofs.YtdeollmeljaaoaaDoor
def kdL : List (List UInt8) := [[], [66, 79, 79, 76], [73, 78, 84], [84, 69, 88, 84]]
def kdC : Array Value := (kdL.map fun m => Value.string ⟨m.toArray⟩).toArray
def sgL : List (List UInt8) := [[], [], [], [65, 78, 68], [79, 82], [], [61], [60], [43], [45], [42]]
def sgC : Array Value := (sgL.map fun m => Value.string ⟨m.toArray⟩).toArray
def coC : Array Value := #[.string ⟨#[78, 85, 76, 76]⟩, .int .i64 0, .int .i64 0, .string ⟨#[]⟩, .string ⟨#[70, 65, 76, 83, 69]⟩, .int .i64 1, .int .i64 0, .string ⟨#[]⟩, .string ⟨#[84, 82, 85, 69]⟩, .int .i64 1, .int .i64 1, .string ⟨#[]⟩]
def Kd (w : World) : Prop := ∃ t fr, w.heap[0]? = some (.cells kdC t fr)
theorem Kd.below {w w' : World} (h : Kd w) (hb : Below w.heap.size w w') : Kd w' := by
 obtain ⟨t, fr, h1⟩ := h
 have hlt : 0 < w.heap.size := by
  rcases Nat.lt_or_ge 0 w.heap.size with g | g
  ·exact g
  ·rw [Array.getElem?_eq_none g] at h1; cases h1
 exact ⟨t, fr, (hb.block _ hlt).trans h1⟩
theorem kds_at : Tryd.prog.globalNamed "padlock/parse.kinds" = some 0 := by kernel_rfl
theorem kds_type : (Tryd.prog.globals[0]?).map (·.type) = some 101 := by kernel_rfl
theorem kdsD : (Rows.laid_padlock_parse_kinds : DataW Unit) = .agg (kdL.map fun m => .lit (.string m)) := rfl
theorem kds_var {W : World} {g t : Nat} {cs : Array Value} {fuel : Nat} {p : List MemPlace} (hg : Tryd.prog.globalNamed "padlock/parse.kinds" = some g) (ht : (Tryd.prog.globals[g]?).map (·.type) = some t) (hv : W.var? Tryd.prog "padlock/parse.kinds" = some cs)
  (hd : DataW.trod (fun _ => ()) Tryd.prog W 0 (fun _ => true) false fuel t cs.toList = some (Rows.laid_padlock_parse_kinds, p)) : ∃ t fr, W.heap[0]? = some (.cells (kdL.map fun m => Value.string ⟨m.toArray⟩).toArray t fr) := by
 obtain rfl := Option.some.inj (kds_at.symm.trans hg)
 obtain rfl := Option.some.inj (kds_type.symm.trans ht)
 rw [kdsD] at hd
 obtain ⟨xs, m, rfl, hx, hl, hxl, hf⟩ := DataW.trod_array Tryd.underlying101 hd
 rw [show Tryd.prog.cellsOf 101 = 4 by kernel_rfl] at hl
 rw [show Tryd.prog.cellsOf 9 = 1 by kernel_rfl] at hf
 simp only [Prod.mk.injEq, DataW.agg.injEq] at hx
 obtain ⟨hx, _⟩ := hx
 have hmk : kdL.length = 4 := rfl
 have hcs : cs.toList = kdL.map fun m => Value.string ⟨m.toArray⟩ := by
  apply List.ext_getElem?
  intro i
  by_cases hi : i < 4
  ·have h1 := hf i hi
   obtain ⟨y, hy⟩ : ∃ y, xs[i]? = some y := ⟨_, List.getElem?_eq_getElem (by omega)⟩
   rw [hy] at h1
   obtain ⟨s, h2, h3, _⟩ := DataW.trod_string Tryd.underlying9 h1
   have h4 := congrArg (fun l : List (DataW Unit) => l[i]?) hx
   simp only [List.getElem?_map, hy, Option.map_some] at h4
   rw [List.getElem?_eq_getElem (show i < kdL.length by omega)] at h4
   simp only [Option.map_some, Option.some.injEq] at h4
   rw [h3] at h4
   simp only [DataW.lit.injEq, Lit.string.injEq] at h4
   have h5 := congrArg (fun l : List Value => l[0]?) h2
   simp [List.getElem?_take, List.getElem?_drop] at h5
   rw [List.getElem?_map, List.getElem?_eq_getElem (show i < kdL.length by omega), Option.map_some, h4]
   rw [Array.getElem?_toList, h5]
  ·rw [List.getElem?_eq_none (by omega), List.getElem?_eq_none (by simp; omega)]
 have hcs' : cs = (kdL.map fun m => Value.string ⟨m.toArray⟩).toArray := by
  apply Array.ext'
  rw [hcs]
 subst hcs'
 exact var_block kds_at hv
structure Tbs (w : World) : Prop where
 m : Mk w
 o : Wo w
 k : Kt w
 d : Kd w
theorem Tbs.below {w w' : World} (h : Tbs w) (hb : Below w.heap.size w w') : Tbs w' := ⟨h.m.below hb, h.o.below hb, h.k.below hb, h.d.below hb⟩
end Go.Proofs.YtdeollmeljaaoaaDoor
namespace Go.Proofs.YtdeollmeljaaoaaDoor.cs
def Sg (w : World) : Prop := ∃ t fr, w.heap[4]? = some (.cells sgC t fr)
theorem Sg.below {w w' : World} (h : Sg w) (hb : Below w.heap.size w w') : Sg w' := by
 obtain ⟨t, fr, h1⟩ := h
 have hlt : 4 < w.heap.size := by
  rcases Nat.lt_or_ge 4 w.heap.size with g | g
  ·exact g
  ·rw [Array.getElem?_eq_none g] at h1; cases h1
 exact ⟨t, fr, (hb.block _ hlt).trans h1⟩
def Co (w : World) : Prop := ∃ t fr, w.heap[1]? = some (.cells coC t fr)
theorem Co.below {w w' : World} (h : Co w) (hb : Below w.heap.size w w') : Co w' := by
 obtain ⟨t, fr, h1⟩ := h
 have hlt : 1 < w.heap.size := by
  rcases Nat.lt_or_ge 1 w.heap.size with g | g
  ·exact g
  ·rw [Array.getElem?_eq_none g] at h1; cases h1
 exact ⟨t, fr, (hb.block _ hlt).trans h1⟩
theorem sgs_at : Tryd.prog.globalNamed "padlock/parse.signs" = some 4 := by kernel_rfl
theorem sgs_type : (Tryd.prog.globals[4]?).map (·.type) = some 121 := by kernel_rfl
theorem sgsD : (Rows.laid_padlock_parse_signs : DataW Unit) = .agg (sgL.map fun m => .lit (.string m)) := rfl
theorem sgs_var {W : World} {g t : Nat} {cs : Array Value} {fuel : Nat} {p : List MemPlace} (hg : Tryd.prog.globalNamed "padlock/parse.signs" = some g) (ht : (Tryd.prog.globals[g]?).map (·.type) = some t) (hv : W.var? Tryd.prog "padlock/parse.signs" = some cs)
  (hd : DataW.trod (fun _ => ()) Tryd.prog W 0 (fun _ => true) false fuel t cs.toList = some (Rows.laid_padlock_parse_signs, p)) : Sg W := by
 obtain rfl := Option.some.inj (sgs_at.symm.trans hg)
 obtain rfl := Option.some.inj (sgs_type.symm.trans ht)
 rw [sgsD] at hd
 obtain ⟨xs, m, rfl, hx, hl, hxl, hf⟩ := DataW.trod_array Tryd.underlying121 hd
 rw [show Tryd.prog.cellsOf 121 = 11 by kernel_rfl] at hl
 rw [show Tryd.prog.cellsOf 9 = 1 by kernel_rfl] at hf
 simp only [Prod.mk.injEq, DataW.agg.injEq] at hx
 obtain ⟨hx, _⟩ := hx
 have hmk : sgL.length = 11 := rfl
 have hcs : cs.toList = sgL.map fun m => Value.string ⟨m.toArray⟩ := by
  apply List.ext_getElem?
  intro i
  by_cases hi : i < 11
  ·have h1 := hf i hi
   obtain ⟨y, hy⟩ : ∃ y, xs[i]? = some y := ⟨_, List.getElem?_eq_getElem (by omega)⟩
   rw [hy] at h1
   obtain ⟨s, h2, h3, _⟩ := DataW.trod_string Tryd.underlying9 h1
   have h4 := congrArg (fun l : List (DataW Unit) => l[i]?) hx
   simp only [List.getElem?_map, hy, Option.map_some] at h4
   rw [List.getElem?_eq_getElem (show i < sgL.length by omega)] at h4
   simp only [Option.map_some, Option.some.injEq] at h4
   rw [h3] at h4
   simp only [DataW.lit.injEq, Lit.string.injEq] at h4
   have h5 := congrArg (fun l : List Value => l[0]?) h2
   simp [List.getElem?_take, List.getElem?_drop] at h5
   rw [List.getElem?_map, List.getElem?_eq_getElem (show i < sgL.length by omega), Option.map_some, h4]
   rw [Array.getElem?_toList, h5]
  ·rw [List.getElem?_eq_none (by omega), List.getElem?_eq_none (by simp; omega)]
 have hcs' : cs = (sgL.map fun m => Value.string ⟨m.toArray⟩).toArray := by
  apply Array.ext'
  rw [hcs]
 subst hcs'
 exact var_block sgs_at hv
theorem cos_at : Tryd.prog.globalNamed "padlock/parse.constants" = some 1 := by kernel_rfl
theorem cos_type : (Tryd.prog.globals[1]?).map (·.type) = some 103 := by kernel_rfl
theorem co_cells {W : World} {n : Nat} {cs : List Value} {w t : List UInt8} {k i : Int} {p : List MemPlace} (h : DataW.trod (fun _ => ()) Tryd.prog W 0 (fun _ => true) false n 102 cs = some ((.agg [.lit (.string w), .agg [.lit (.int .i64 k), .lit (.int .i64 i), .lit (.string t)]] : DataW Unit), p)) :
  cs = [.string ⟨w.toArray⟩, .int .i64 k, .int .i64 i, .string ⟨t.toArray⟩] := by
 obtain ⟨y0, y1, m, hx, hl, h0, h1⟩ := trod_struct2 Tryd.underlying102 h
 rw [show Tryd.prog.cellsOf 102 = 4 by kernel_rfl] at hl
 dsimp only at h0 h1
 rw [show Tryd.prog.cellsOf 9 = 1 by kernel_rfl] at h0
 rw [show Tryd.prog.cellsOf 50 = 3 by kernel_rfl] at h1
 obtain ⟨z0, z1, z2, m2, hz, hl2, g0, g1, g2⟩ := trod_struct3 Tryd.underlying50 h1
 dsimp only at g0 g1 g2
 rw [show Tryd.prog.cellsOf 3 = 1 by kernel_rfl] at g0 g1
 rw [show Tryd.prog.cellsOf 9 = 1 by kernel_rfl] at g2
 match cs, hl with
 | [c0, c1, c2, c3], _ =>
  obtain ⟨s, e0, d0, _⟩ := DataW.trod_string Tryd.underlying9 h0
  obtain ⟨a, e1, d1, _⟩ := DataW.trod_int Tryd.underlying3 g0
  obtain ⟨b, e2, d2, _⟩ := DataW.trod_int Tryd.underlying3 g1
  obtain ⟨u, e3, d3, _⟩ := DataW.trod_string Tryd.underlying9 g2
  simp at e0 e1 e2 e3
  subst e0 e1 e2 e3
  subst hz d0 d1 d2 d3
  simp only [Prod.mk.injEq, DataW.agg.injEq, List.cons.injEq, DataW.lit.injEq, Lit.string.injEq, Lit.int.injEq, true_and, and_true] at hx
  obtain ⟨⟨q0, q1, q2, q3⟩, _⟩ := hx
  rw [q0, q1, q2, q3]
theorem cos_var {W : World} {g t : Nat} {cs : Array Value} {fuel : Nat} {p : List MemPlace} (hg : Tryd.prog.globalNamed "padlock/parse.constants" = some g) (ht : (Tryd.prog.globals[g]?).map (·.type) = some t) (hv : W.var? Tryd.prog "padlock/parse.constants" = some cs)
  (hd : DataW.trod (fun _ => ()) Tryd.prog W 0 (fun _ => true) false fuel t cs.toList = some (Rows.laid_padlock_parse_constants, p)) : Co W := by
 obtain rfl := Option.some.inj (cos_at.symm.trans hg)
 obtain rfl := Option.some.inj (cos_type.symm.trans ht)
 obtain ⟨xs, m, rfl, hx, hl, hxl, hf⟩ := DataW.trod_array Tryd.underlying103 hd
 rw [show Tryd.prog.cellsOf 103 = 12 by kernel_rfl] at hl
 rw [show Tryd.prog.cellsOf 102 = 4 by kernel_rfl] at hf
 match xs, hxl with
 | [x0, x1, x2], _ =>
  simp only [Rows.laid_padlock_parse_constants, Prod.mk.injEq, DataW.agg.injEq, List.map_cons, List.map_nil, List.cons.injEq, and_true] at hx
  obtain ⟨⟨q0, q1, q2⟩, _⟩ := hx
  have h0 := hf 0 (by omega)
  have h1 := hf 1 (by omega)
  have h2 := hf 2 (by omega)
  obtain ⟨a0, b0⟩ := x0
  obtain ⟨a1, b1⟩ := x1
  obtain ⟨a2, b2⟩ := x2
  simp only at q0 q1 q2
  subst q0 q1 q2
  have e0 := co_cells h0
  have e1 := co_cells h1
  have e2 := co_cells h2
  have hcs : cs = coC := by
   apply Array.ext'
   have s0 := (List.take_append_drop 4 cs.toList).symm
   have s1 := (List.take_append_drop 4 (cs.toList.drop 4)).symm
   rw [List.drop_drop] at s1
   have s2 : (cs.toList.drop 8).take 4 = cs.toList.drop 8 := List.take_of_length_le (by rw [List.length_drop]; omega)
   simp only [Nat.zero_mul, List.drop_zero, Nat.one_mul, Nat.reduceMul] at e0 e1 e2
   rw [s0, e0, s1, e1]
   show _ ++ (_ ++ cs.toList.drop 8) = _
   rw [← s2, e2]
   rfl
  subst hcs
  exact var_block cos_at hv
structure Tbp (w : World) : Prop where
 b : Tbs w
 s : Sg w
 c : Co w
theorem Tbp.below {w w' : World} (h : Tbp w) (hb : Below w.heap.size w w') : Tbp w' := ⟨h.b.below hb, h.s.below hb, h.c.below hb⟩
theorem sg_at {w : World} (h : Sg w) {k : Nat} (h1 : k < 11) : w.cell? ⟨4, k, none⟩ = some (.string ⟨(sgL.getD k []).toArray⟩) := by
 obtain ⟨t, fr, h⟩ := h
 have hl : k < sgL.length := h1
 have e : sgC[k]? = some (.string ⟨(sgL.getD k []).toArray⟩) := by
  unfold sgC
  rw [List.getElem?_toArray, List.getElem?_map, List.getElem?_eq_getElem hl, Option.map_some, List.getD, List.getElem?_eq_getElem hl]
  rfl
 simp [World.cell?, h, e]
theorem sg_size : ∀ k, k < 11 → (sgL.getD k []).length ≤ 4 := by decide
end Go.Proofs.YtdeollmeljaaoaaDoor.cs
namespace Go.Proofs.YtdeollmeljaaoaaDoor.rd
open Go.Proofs.YtdeollmeljaaoaaDoor.cs
structure Cmq where
 s : List UInt8
 q : Nat
 tn : Bool
 nt : Bool
def cmL : List Cmq := [⟨[61], 6, false, false⟩, ⟨[60, 62], 6, false, true⟩, ⟨[60], 7, false, false⟩, ⟨[62, 61], 7, false, true⟩, ⟨[62], 7, true, false⟩, ⟨[60, 61], 7, true, true⟩]
def cmC : Array Value := #[.string ⟨#[61]⟩, .int .i64 6, .bool false, .bool false, .string ⟨#[60, 62]⟩, .int .i64 6, .bool false, .bool true, .string ⟨#[60]⟩, .int .i64 7, .bool false, .bool false, .string ⟨#[62, 61]⟩, .int .i64 7, .bool false, .bool true, .string ⟨#[62]⟩, .int .i64 7, .bool true, .bool false, .string ⟨#[60, 61]⟩, .int .i64 7, .bool true, .bool true]
def Cmt (w : World) : Prop := ∃ t fr, w.heap[6]? = some (.cells cmC t fr)
theorem cms_at : Tryd.prog.globalNamed "padlock/parse.comparisons" = some 6 := by kernel_rfl
theorem cms_type : (Tryd.prog.globals[6]?).map (·.type) = some 133 := by kernel_rfl
theorem cm_cells {W : World} {n : Nat} {cs : List Value} {w : List UInt8} {k : Int} {a b : Bool} {p : List MemPlace} (h : DataW.trod (fun _ => ()) Tryd.prog W 0 (fun _ => true) false n 132 cs = some ((.agg [.lit (.string w), .lit (.int .i64 k), .lit (.bool a), .lit (.bool b)] : DataW Unit), p)) :
  cs = [.string ⟨w.toArray⟩, .int .i64 k, .bool a, .bool b] := by
 obtain ⟨y0, y1, y2, y3, m, hx, hl, h0, h1, h2, h3⟩ := Joins.trod_struct4 Tryd.underlying132 h
 rw [show Tryd.prog.cellsOf 132 = 4 by kernel_rfl] at hl
 dsimp only at h0 h1 h2 h3
 rw [show Tryd.prog.cellsOf 9 = 1 by kernel_rfl] at h0
 rw [show Tryd.prog.cellsOf 3 = 1 by kernel_rfl] at h1
 rw [show Tryd.prog.cellsOf 4 = 1 by kernel_rfl] at h2 h3
 match cs, hl with
 | [c0, c1, c2, c3], _ =>
  obtain ⟨s, e0, d0, _⟩ := DataW.trod_string Tryd.underlying9 h0
  obtain ⟨i, e1, d1, _⟩ := DataW.trod_int Tryd.underlying3 h1
  obtain ⟨q, e2, d2⟩ := DataW.trod_bool Tryd.underlying4 h2
  obtain ⟨r, e3, d3⟩ := DataW.trod_bool Tryd.underlying4 h3
  simp at e0 e1 e2 e3
  subst e0 e1 e2 e3
  rw [d0, d1, d2, d3] at hx
  simp only [Prod.mk.injEq, DataW.agg.injEq, List.cons.injEq, DataW.lit.injEq, Lit.string.injEq, Lit.int.injEq, Lit.bool.injEq, true_and, and_true] at hx
  obtain ⟨⟨q0, q1, q2, q3⟩, _⟩ := hx
  rw [q0, q1, q2, q3]
theorem cms_var {W : World} {g t : Nat} {cs : Array Value} {fuel : Nat} {p : List MemPlace} (hg : Tryd.prog.globalNamed "padlock/parse.comparisons" = some g) (ht : (Tryd.prog.globals[g]?).map (·.type) = some t) (hv : W.var? Tryd.prog "padlock/parse.comparisons" = some cs)
  (hd : DataW.trod (fun _ => ()) Tryd.prog W 0 (fun _ => true) false fuel t cs.toList = some (Rows.laid_padlock_parse_comparisons, p)) : Cmt W := by
 obtain rfl := Option.some.inj (cms_at.symm.trans hg)
 obtain rfl := Option.some.inj (cms_type.symm.trans ht)
 obtain ⟨xs, m, rfl, hx, hl, hxl, hf⟩ := DataW.trod_array Tryd.underlying133 hd
 rw [show Tryd.prog.cellsOf 133 = 24 by kernel_rfl] at hl
 rw [show Tryd.prog.cellsOf 132 = 4 by kernel_rfl] at hf
 match xs, hxl with
 | [x0, x1, x2, x3, x4, x5], _ =>
  simp only [Rows.laid_padlock_parse_comparisons, Prod.mk.injEq, DataW.agg.injEq, List.map_cons, List.map_nil, List.cons.injEq, and_true] at hx
  obtain ⟨⟨q0, q1, q2, q3, q4, q5⟩, _⟩ := hx
  have h0 := hf 0 (by omega)
  have h1 := hf 1 (by omega)
  have h2 := hf 2 (by omega)
  have h3 := hf 3 (by omega)
  have h4 := hf 4 (by omega)
  have h5 := hf 5 (by omega)
  obtain ⟨a0, b0⟩ := x0
  obtain ⟨a1, b1⟩ := x1
  obtain ⟨a2, b2⟩ := x2
  obtain ⟨a3, b3⟩ := x3
  obtain ⟨a4, b4⟩ := x4
  obtain ⟨a5, b5⟩ := x5
  simp only at q0 q1 q2 q3 q4 q5
  subst q0 q1 q2 q3 q4 q5
  have e0 := cm_cells h0
  have e1 := cm_cells h1
  have e2 := cm_cells h2
  have e3 := cm_cells h3
  have e4 := cm_cells h4
  have e5 := cm_cells h5
  have hcs : cs = cmC := by
   apply Array.ext'
   have s0 := (List.take_append_drop 4 cs.toList).symm
   have s1 := (List.take_append_drop 4 (cs.toList.drop 4)).symm
   have s2 := (List.take_append_drop 4 (cs.toList.drop 8)).symm
   have s3 := (List.take_append_drop 4 (cs.toList.drop 12)).symm
   have s4 := (List.take_append_drop 4 (cs.toList.drop 16)).symm
   rw [List.drop_drop] at s1 s2 s3 s4
   have s5 : (cs.toList.drop 20).take 4 = cs.toList.drop 20 := List.take_of_length_le (by rw [List.length_drop]; omega)
   simp only [Nat.zero_mul, List.drop_zero, Nat.one_mul, Nat.reduceMul] at e0 e1 e2 e3 e4 e5
   simp only [Nat.reduceAdd] at s1 s2 s3 s4
   rw [s0, e0, s1, e1, s2, e2, s3, e3, s4, e4, ← s5, e5]
   rfl
  subst hcs
  exact var_block cms_at hv
structure Tbq (w : World) : Prop where
 m : Mk w
 k : Kt w
 d : Kd w
 s : Sg w
 c : Co w
 x : Cmt w
theorem Cmt.below {w w' : World} (h : Cmt w) (hb : Below w.heap.size w w') : Cmt w' := by
 obtain ⟨t, fr, h1⟩ := h
 have hlt : 6 < w.heap.size := by
  rcases Nat.lt_or_ge 6 w.heap.size with g | g
  ·exact g
  ·rw [Array.getElem?_eq_none g] at h1; cases h1
 exact ⟨t, fr, (hb.block _ hlt).trans h1⟩
theorem Tbq.below {w w' : World} (h : Tbq w) (hb : Below w.heap.size w w') : Tbq w' := ⟨h.m.below hb, h.k.below hb, h.d.below hb, h.s.below hb, h.c.below hb, h.x.below hb⟩
structure Off (B : Nat) : Prop where
 m : 5 < B
 k : 3 < B
 d : 0 < B
 s : 4 < B
 c : 1 < B
 x : 6 < B
theorem blk_lt {w : World} {B : Nat} {o : Obj} (h : w.heap[B]? = some o) : B < w.heap.size := (Array.getElem?_eq_some_iff.1 h).1
end Go.Proofs.YtdeollmeljaaoaaDoor.rd
