/- The table that the rows list: what it reads as, and a world in which it lies so. -/
import Derived.Test.YtakhkcabahhohaaDoorFo
import Derived.Test.YtakhkcabahhohaaDoorD1
import Derived.Test.YtakhkcabahhohaaDoorTie
import Derived.Test.YtakhkcabahhohaaDoorCards
import Derived.ChangeSame
import Derived.ChangeVars
import Derived.JoinedOf
import Derived.SevenTiedAt
namespace Go.Proofs.YtakhkcabahhohaaDoor
open Go.ChangeShapes Go.WideShapes Go.ChangeAt Go.RowKit
set_option linter.unusedVariables false
set_option linter.unusedSimpArgs false
theorem least_at : Tryd.prog.globalNamed "padlock/codec.least" = some 0 := by kernel_rfl
theorem least_type : (Tryd.prog.globals[0]?).map (·.type) = some 54 := by kernel_rfl
theorem least_cells : Tryd.prog.cellsOf 54 = 4 := by kernel_rfl
theorem int_cells : Tryd.prog.cellsOf 3 = 1 := by kernel_rfl
abbrev laid1 : World → Prop := laidMet Tryd.prog [("padlock/codec.least", Rows.laid_padlock_codec_least)]
/-- The table's cells. -/
def least4 : Array Value := #[.int .i64 0, .int .i64 1, .int .i64 8, .int .i64 2]
theorem least_of {W : World} (h : laid1 W) : W.var? Tryd.prog "padlock/codec.least" = some least4 := by
  obtain ⟨ps, ⟨g, t, cs, fuel, p, q, hg, ht, hvar, hd, _, _⟩, _⟩ := h
  obtain rfl := Option.some.inj (least_at.symm.trans hg)
  obtain rfl := Option.some.inj (least_type.symm.trans ht)
  rw [hvar]
  congr 1
  obtain ⟨l⟩ := cs
  cases fuel with
  | zero => simp [DataW.trod] at hd
  | succ fuel =>
    simp only [DataW.trod, Tryd.underlying54, least_cells, int_cells] at hd
    split at hd
    · rename_i hl
      match l, hl with
      | [c0, c1, c2, c3], _ =>
        rw [show List.range 4 = [0, 1, 2, 3] from rfl] at hd
        simp only [Option.map_eq_some_iff, List.mapM_cons, List.mapM_nil, Option.bind_eq_bind, Option.bind_eq_some_iff, Option.pure_def, Option.some.injEq] at hd
        obtain ⟨xs, ⟨y0, h0, _, ⟨y1, h1, _, ⟨y2, h2, _, ⟨y3, h3, _, rfl, rfl⟩, rfl⟩, rfl⟩, rfl⟩, hx⟩ := hd
        obtain ⟨n0, e0, rfl, _⟩ := DataW.trod_int Tryd.underlying3 h0
        obtain ⟨n1, e1, rfl, _⟩ := DataW.trod_int Tryd.underlying3 h1
        obtain ⟨n2, e2, rfl, _⟩ := DataW.trod_int Tryd.underlying3 h2
        obtain ⟨n3, e3, rfl, _⟩ := DataW.trod_int Tryd.underlying3 h3
        simp at e0 e1 e2 e3
        simp [Rows.laid_padlock_codec_least] at hx
        obtain ⟨⟨rfl, rfl, rfl, rfl⟩, _⟩ := hx
        subst e0 e1 e2 e3
        rfl
    · cases hd
theorem Lst_of {W : World} (h : laid1 W) : Lst W := by
  have hv := least_of h
  exact ⟨World.var?_cell least_at hv 0, World.var?_cell least_at hv 1, World.var?_cell least_at hv 2, World.var?_cell least_at hv 3⟩
/-- A world in which the table lies. -/
noncomputable def tabled (os : Os) : World :=
  { World.holding Tryd.prog os ⟨#[], #[], []⟩ with heap := (World.holding Tryd.prog os ⟨#[], #[], []⟩).heap.modify 0 fun
      | .cells _ t frozen => .cells least4 t frozen
      | o => o }
theorem tabled_row (os : Os) (args : Array Value) : ((tabled os).forCall (fun _ _ => 0) ⟨#[], args, []⟩).memory.heap[0]? = some (.cells least4 54 (0, 0)) := by kernel_rfl
theorem tabled_laid (os : Os) (args : Array Value) : laid1 ((tabled os).forCall (fun _ _ => 0) ⟨#[], args, []⟩).memory :=
  ⟨_, ⟨0, 54, least4, 8, [], [], by kernel_rfl, by kernel_rfl, by kernel_rfl, by kernel_rfl, rfl, rfl⟩, by decide, fun b off h => by
    have h' : MemPlace.cell b off ∈ [MemPlace.cell 0 0, .cell 0 1, .cell 0 2, .cell 0 3] := h
    have hb : b = 0 := by
      simp at h'
      omega
    subst hb
    refine ⟨⟨_, _, tabled_row os args⟩, fun u v hc => ?_⟩
    simp only [World.cell?, tabled_row os args] at hc
    simp at h'
    rcases h' with rfl | rfl | rfl | rfl <;> simp [least4] at hc⟩
end Go.Proofs.YtakhkcabahhohaaDoor
