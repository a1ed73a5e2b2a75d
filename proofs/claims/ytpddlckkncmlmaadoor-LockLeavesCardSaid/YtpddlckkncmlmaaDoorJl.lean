/- Locks: the tables that the rows list: what they read as, and a world in which they lie so. -/
import Derived.Test.YtpddlckkncmlmaaDoorBf
import Derived.Test.YtpddlckkncmlmaaDoorJp
import Derived.Test.YtpddlckkncmlmaaDoorTie
import Derived.Test.YtpddlckkncmlmaaDoorCards
import Derived.ChangeSame
import Derived.ChangeVars
import Derived.JoinedOf
import Derived.SevenTiedAt
namespace Go.Proofs.YtpddlckkncmlmaaDoor
open Go.ChangeShapes Go.WideShapes Go.ChangeAt Go.RowKit
set_option linter.unusedVariables false
set_option linter.unusedSimpArgs false
theorem tog_at : Tryd.prog.globalNamed "padlock/lock.together" = some 1 := by kernel_rfl
theorem joi_at : Tryd.prog.globalNamed "padlock/lock.joined" = some 0 := by kernel_rfl
theorem tog_type : (Tryd.prog.globals[1]?).map (·.type) = some 76 := by kernel_rfl
theorem joi_type : (Tryd.prog.globals[0]?).map (·.type) = some 47 := by kernel_rfl
/-- An array of arrays, six of six: cell by cell. -/
theorem tab2_at {P : Program} {w : World} {t e1 e2 : TypeId} {fuel : Nat} {cs : List Value} {rows : List (DataW Unit)} {p : List MemPlace} (ht : P.underlying t = some (.array 6 e1)) (h1 : P.underlying e1 = some (.array 6 e2)) (c1 : P.cellsOf e1 = 6) (c2 : P.cellsOf e2 = 1) (c0 : P.cellsOf t = 36)
    (h : DataW.trod (fun _ => ()) P w 0 (fun _ => true) false fuel t cs = some (.agg rows, p)) :
    cs.length = 36 ∧ rows.length = 6 ∧ ∀ i, i < 6 → ∃ xs, rows[i]? = some (.agg xs) ∧ xs.length = 6 ∧ ∀ j, j < 6 → ∃ m x q, xs[j]? = some x ∧ DataW.trod (fun _ => ()) P w 0 (fun _ => true) false m e2 ((cs.drop (i * 6 + j)).take 1) = some (x, q) := by
  obtain ⟨xs, m, rfl, hx, hl, hxl, hf⟩ := DataW.trod_array ht h
  simp only [Prod.mk.injEq, DataW.agg.injEq] at hx
  obtain ⟨rfl, _⟩ := hx
  refine ⟨by rw [hl, c0], by simpa using hxl, fun i hi => ?_⟩
  have hi' := hf i hi
  obtain ⟨y, hy⟩ : ∃ y, xs[i]? = some y := ⟨_, List.getElem?_eq_getElem (by omega)⟩
  rw [hy, c1] at hi'
  obtain ⟨ys, m2, rfl, hz, hl2, hyl, hg⟩ := DataW.trod_array h1 hi'
  refine ⟨ys.map (·.1), by rw [List.getElem?_map, hy, hz]; rfl, by simpa using hyl, fun j hj => ?_⟩
  have hj' := hg j hj
  obtain ⟨z, hzz⟩ : ∃ z, ys[j]? = some z := ⟨_, List.getElem?_eq_getElem (by omega)⟩
  rw [hzz, c2, Nat.mul_one] at hj'
  refine ⟨m2, z.1, z.2, by rw [List.getElem?_map, hzz]; rfl, ?_⟩
  rw [← hj']
  congr 1
  rw [List.drop_take, List.drop_drop, List.take_take]
  congr 1
  omega
theorem cut1 {cs : List Value} {k : Nat} {c : Value} (h : (cs.drop k).take 1 = [c]) : cs[k]? = some c := by
  have := congrArg (fun l : List Value => l[0]?) h
  simpa [List.getElem?_take, List.getElem?_drop] using this
abbrev laidT : World → Prop := laidMet Tryd.prog [("padlock/lock.together", Rows.laid_padlock_lock_together)]
abbrev laidJ : World → Prop := laidMet Tryd.prog [("padlock/lock.joined", Rows.laid_padlock_lock_joined)]
abbrev laidTJ : World → Prop := laidMet Tryd.prog [("padlock/lock.together", Rows.laid_padlock_lock_together), ("padlock/lock.joined", Rows.laid_padlock_lock_joined)]
/-- The data that the rows list, as lists. -/
def rowsOf {α : Type} (f : α → DataW Unit) (l : List α) : List (DataW Unit) := (List.range 6).map fun i => .agg (((l.drop (i * 6)).take 6).map f)
theorem togD : (Rows.laid_padlock_lock_together : DataW Unit) = .agg (rowsOf (fun b => .lit (.bool b)) togL) := rfl
theorem joiD : (Rows.laid_padlock_lock_joined : DataW Unit) = .agg (rowsOf (fun n => .lit (.int .i64 n)) joiL) := rfl
theorem rows_at {α : Type} {f : α → DataW Unit} {l : List α} {xs : List (DataW Unit)} {x : DataW Unit} {i j : Nat} (hi : i < 6) (hj : j < 6) (h : (rowsOf f l)[i]? = some (.agg xs)) (hx : xs[j]? = some x) : ∃ a, l[i * 6 + j]? = some a ∧ x = f a := by
  simp only [rowsOf, List.getElem?_map, List.getElem?_range hi, Option.map_some, Option.some.injEq, DataW.agg.injEq] at h
  subst h
  rw [List.getElem?_map, List.getElem?_take, if_pos hj, List.getElem?_drop] at hx
  obtain ⟨a, h1, h2⟩ := Option.map_eq_some_iff.1 hx
  exact ⟨a, h1, h2.symm⟩
theorem tog_var {W : World} {g t : Nat} {cs : Array Value} {fuel : Nat} {p : List MemPlace} (hg : Tryd.prog.globalNamed "padlock/lock.together" = some g) (ht : (Tryd.prog.globals[g]?).map (·.type) = some t) (hv : W.var? Tryd.prog "padlock/lock.together" = some cs)
    (hd : DataW.trod (fun _ => ()) Tryd.prog W 0 (fun _ => true) false fuel t cs.toList = some (Rows.laid_padlock_lock_together, p)) : Tog W := by
  obtain rfl := Option.some.inj (tog_at.symm.trans hg)
  obtain rfl := Option.some.inj (tog_type.symm.trans ht)
  rw [togD] at hd
  obtain ⟨hl, _, hr⟩ := tab2_at Tryd.underlying76 Tryd.underlying75 (by kernel_rfl) (by kernel_rfl) (by kernel_rfl) hd
  intro k hk
  obtain ⟨xs, h1, h2, h3⟩ := hr (k / 6) (by omega)
  obtain ⟨m, x, q, h4, h5⟩ := h3 (k % 6) (by omega)
  obtain ⟨b, h6, rfl⟩ := rows_at (by omega) (by omega) h1 h4
  have e : k / 6 * 6 + k % 6 = k := by omega
  rw [e] at h5 h6
  obtain ⟨b', h7, h8⟩ := DataW.trod_bool Tryd.underlying4 h5
  simp only [Prod.mk.injEq, DataW.lit.injEq, Lit.bool.injEq] at h8
  obtain ⟨rfl, _⟩ := h8
  have h9 := cut1 h7
  rw [World.var?_cell tog_at hv k]
  simp only [List.getD, h6, Option.getD_some]
  simpa using h9
theorem joi_var {W : World} {g t : Nat} {cs : Array Value} {fuel : Nat} {p : List MemPlace} (hg : Tryd.prog.globalNamed "padlock/lock.joined" = some g) (ht : (Tryd.prog.globals[g]?).map (·.type) = some t) (hv : W.var? Tryd.prog "padlock/lock.joined" = some cs)
    (hd : DataW.trod (fun _ => ()) Tryd.prog W 0 (fun _ => true) false fuel t cs.toList = some (Rows.laid_padlock_lock_joined, p)) : Jnd W := by
  obtain rfl := Option.some.inj (joi_at.symm.trans hg)
  obtain rfl := Option.some.inj (joi_type.symm.trans ht)
  rw [joiD] at hd
  obtain ⟨hl, _, hr⟩ := tab2_at Tryd.underlying47 Tryd.underlying46 (by kernel_rfl) (by kernel_rfl) (by kernel_rfl) hd
  intro k hk
  obtain ⟨xs, h1, h2, h3⟩ := hr (k / 6) (by omega)
  obtain ⟨m, x, q, h4, h5⟩ := h3 (k % 6) (by omega)
  obtain ⟨b, h6, rfl⟩ := rows_at (by omega) (by omega) h1 h4
  have e : k / 6 * 6 + k % 6 = k := by omega
  rw [e] at h5 h6
  obtain ⟨b', h7, h8, _⟩ := DataW.trod_int Tryd.underlying3 h5
  simp only [Prod.mk.injEq, DataW.lit.injEq, Lit.int.injEq] at h8
  obtain ⟨⟨_, rfl⟩, _⟩ := h8
  have h9 := cut1 h7
  rw [World.var?_cell joi_at hv k]
  simp only [List.getD, h6, Option.getD_some]
  simpa using h9
theorem T_of {W : World} (h : laidT W) : Tog W := by
  obtain ⟨ps, ⟨g, t, cs, fuel, p, q, hg, ht, hv, hd, _, _⟩, _⟩ := h
  exact tog_var hg ht hv hd
theorem J_of {W : World} (h : laidJ W) : Jnd W := by
  obtain ⟨ps, ⟨g, t, cs, fuel, p, q, hg, ht, hv, hd, _, _⟩, _⟩ := h
  exact joi_var hg ht hv hd
theorem TJ_of {W : World} (h : laidTJ W) : Tog W ∧ Jnd W := by
  obtain ⟨ps, ⟨g, t, cs, fuel, p, q, hg, ht, hv, hd, ⟨g', t', cs', fuel', p', q', hg', ht', hv', hd', _, _⟩, _⟩, _⟩ := h
  exact ⟨tog_var hg ht hv hd, joi_var hg' ht' hv' hd'⟩
/-- A world in which the tables lie. -/
def togC : Array Value := (togL.map fun b => Value.bool b).toArray
def joiC : Array Value := (joiL.map fun n => Value.int .i64 n).toArray
def layC (cs : Array Value) : Obj → Obj
  | .cells _ t frozen => .cells cs t frozen
  | o => o
noncomputable def tabled (os : Os) : World :=
  { World.holding Tryd.prog os ⟨#[], #[], []⟩ with heap := ((World.holding Tryd.prog os ⟨#[], #[], []⟩).heap.modify 1 (layC togC)).modify 0 (layC joiC) }
theorem tabled_T (os : Os) (args : Array Value) : ((tabled os).forCall (fun _ _ => 0) ⟨#[], args, []⟩).memory.heap[1]? = some (.cells togC 76 (0, 0)) := by kernel_rfl
theorem tabled_J (os : Os) (args : Array Value) : ((tabled os).forCall (fun _ _ => 0) ⟨#[], args, []⟩).memory.heap[0]? = some (.cells joiC 47 (0, 0)) := by kernel_rfl
theorem row_block {g n b off : Nat} (h : MemPlace.cell b off ∈ MemPlace.row ⟨g, 0, none⟩ n) : b = g := by
  simp [MemPlace.row] at h
  omega
theorem no_iface {w : World} {b off : Nat} {u : TypeId} {v : Value} {cs : Array Value} {t : TypeId} (hb : w.heap[b]? = some (.cells cs t (0, 0))) (hc : ∀ x ∈ cs, ∀ u v, x ≠ .iface u v) (h : w.cell? ⟨b, off, none⟩ = some (.iface u v)) : False := by
  simp only [World.cell?, hb] at h
  exact hc _ (Array.mem_of_getElem? h) u v rfl
theorem togC_no : ∀ x ∈ togC, ∀ u v, x ≠ .iface u v := by
  intro x hx u v
  simp only [togC, List.mem_toArray, List.mem_map] at hx
  obtain ⟨b, _, rfl⟩ := hx
  simp
theorem joiC_no : ∀ x ∈ joiC, ∀ u v, x ≠ .iface u v := by
  intro x hx u v
  simp only [joiC, List.mem_toArray, List.mem_map] at hx
  obtain ⟨b, _, rfl⟩ := hx
  simp
theorem row_ok {P : Program} {w : World} {g b off : Nat} {cs : Array Value} {t : TypeId} (hT : w.heap[g]? = some (.cells cs t (0, 0))) (hc : ∀ x ∈ cs, ∀ u v, x ≠ .iface u v) (h : MemPlace.cell b off ∈ MemPlace.row ⟨g, 0, none⟩ cs.size) :
    (∃ c t, w.heap[b]? = some (.cells c t (0, 0))) ∧ ∀ u v, w.cell? ⟨b, off, none⟩ = some (.iface u v) → Value.okWide P w .any 0 u v := by
  obtain rfl := row_block h
  exact ⟨⟨_, _, hT⟩, fun u v hq => (no_iface hT hc hq).elim⟩
theorem tabled_laidT (os : Os) (args : Array Value) : laidT ((tabled os).forCall (fun _ _ => 0) ⟨#[], args, []⟩).memory :=
  ⟨_, ⟨1, 76, togC, 8, [], [], by kernel_rfl, by kernel_rfl, by kernel_rfl, by kernel_rfl, rfl, rfl⟩, by decide, fun b off h => by
    have h' : MemPlace.cell b off ∈ MemPlace.row ⟨1, 0, none⟩ togC.size := (List.mem_append.1 h).elim (fun h => (List.mem_append.1 h).elim id (fun h => by cases h)) (fun h => by cases h)
    exact row_ok (tabled_T os args) togC_no h'⟩
theorem tabled_laidJ (os : Os) (args : Array Value) : laidJ ((tabled os).forCall (fun _ _ => 0) ⟨#[], args, []⟩).memory :=
  ⟨_, ⟨0, 47, joiC, 8, [], [], by kernel_rfl, by kernel_rfl, by kernel_rfl, by kernel_rfl, rfl, rfl⟩, by decide, fun b off h => by
    have h' : MemPlace.cell b off ∈ MemPlace.row ⟨0, 0, none⟩ joiC.size := (List.mem_append.1 h).elim (fun h => (List.mem_append.1 h).elim id (fun h => by cases h)) (fun h => by cases h)
    exact row_ok (tabled_J os args) joiC_no h'⟩
theorem tabled_laidTJ (os : Os) (args : Array Value) : laidTJ ((tabled os).forCall (fun _ _ => 0) ⟨#[], args, []⟩).memory :=
  ⟨_, ⟨1, 76, togC, 8, [], _, by kernel_rfl, by kernel_rfl, by kernel_rfl, by kernel_rfl, ⟨0, 47, joiC, 8, [], [], by kernel_rfl, by kernel_rfl, by kernel_rfl, by kernel_rfl, rfl, rfl⟩, rfl⟩, by decide, fun b off h => by
    have h' : MemPlace.cell b off ∈ MemPlace.row ⟨1, 0, none⟩ togC.size ∨ MemPlace.cell b off ∈ MemPlace.row ⟨0, 0, none⟩ joiC.size :=
      (List.mem_append.1 h).elim (fun h => (List.mem_append.1 h).elim .inl (fun h => by cases h)) (fun h => .inr ((List.mem_append.1 h).elim (fun h => (List.mem_append.1 h).elim id (fun h => by cases h)) (fun h => by cases h)))
    rcases h' with h' | h'
    · exact row_ok (tabled_T os args) togC_no h'
    · exact row_ok (tabled_J os args) joiC_no h'⟩
end Go.Proofs.YtpddlckkncmlmaaDoor
