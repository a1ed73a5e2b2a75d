/- Room for tokens. -/
import Derived.Test.YtcgomhcglnbalaaDoorQc
import Derived.Lib.AppendZerosOnto
namespace Go.Proofs.YtcgomhcglnbalaaDoor
open Go.ChangeShapes Go.WideShapes Go.ChangeAt Go.RowKit
set_option linter.unusedVariables false
set_option linter.unusedSimpArgs false
set_option maxHeartbeats 2000000
set_option maxRecDepth 100000 in
theorem grow_any (w : World) (n : Nat) (hn : n ≤ 1000000) : Calls Tryd.prog 73 #[.slice none 0 0, .int .i64 (n : Int)] w fun e w' => ∃ v, e = .returned v ∧ w'.ownsRow w.heap.size 73 3 v 0 [] ∧ Below w.heap.size w w' := by
  by_cases h0 : n = 0
  · subst h0
    go_enter Tryd.func73, Tryd.ntmps73
    go_wp2_with fail
    go_ret
    exact ⟨_, rfl, World.ownsRow_nil _ _ _ _, Below.refl _ _⟩
  · obtain ⟨i0, hi, hz0, hz1, hz2⟩ := info_parts Tryd.info73
    obtain ⟨G, hG⟩ : ∃ G, G = grownCap w (0 + n) 0 73 := ⟨_, rfl⟩
    have hrz : ∀ ty, ∃ cur : Array Value, (Builtin.append_ #[62, 3] ty #[.slice none 0 0, .int .i64 (n : Int)]).run Tryd.prog w = .ok (.slice (some ⟨w.heap.size, 0, none⟩) (0 + n) G) (w.drew.alloc (.cells cur 73)) ∧ cur.size = G * 3 ∧ n ≤ G ∧ G ≤ maxLen := fun ty => by
      have h := Lib.run_append_grow_zeros w 62 3 ty 73 i0 _ .i64 .i64 Tryd.underlying62 Tryd.underlying3 hi hz0 none 0 0 [] (run_firstCells_none w.drew i0.size 0 0 0) n (by omega) (by omega) (by omega) (by omega)
        (by rw [hz2]; omega) (by rw [hz2]; exact growslice_fits (by omega) (by omega))
      have hge := grownCap_ge w (0 + n) 0 73
      have hle := grownCap_le_maxLen w (0 + n) 0 73 (by unfold maxLen; omega)
      rw [← hG] at h hge hle
      refine ⟨_, h, ?_, by omega, hle⟩
      simp only [Array.size_append, List.size_toArray, size_zeroCells, List.length_nil]
      rw [show (Value.agg #[Value.int .i64 0, .string ⟨#[]⟩, .int .i64 0]).cells.size = 3 from rfl]
      omega
    have hgt : (n : Int) > 0 := by omega
    obtain ⟨cur, hr, h1, h2, h3⟩ := hrz 62
    have hm := h3
    unfold maxLen at hm
    have HO : Hid ((w.drew.alloc (.cells cur 73)).ownsRow w.heap.size 73 3 (.slice (some ⟨w.heap.size, 0, none⟩) 0 G) 0 []) := World.ownsRow_made w.drew cur G (Nat.le_refl _) h3 h1
    have HB : Hid (Below w.heap.size w (w.drew.alloc (.cells cur 73))) := (Below.refl _ _).drew.alloc (Nat.le_refl _) _
    rw [Nat.zero_add] at hr
    clear hrz h1 h3 hi hz0 hz1 hz2 hG
    go_enter Tryd.func73, Tryd.ntmps73
    go_wp2_with (at_builtin; refine Lib.wpList_append_run _ rfl _ _ _ _ rfl _ _ rfl rfl _ _ hr ?_)
    all_goals (go_ret; exact ⟨_, rfl, HO.out, HB.out⟩)
end Go.Proofs.YtcgomhcglnbalaaDoor
