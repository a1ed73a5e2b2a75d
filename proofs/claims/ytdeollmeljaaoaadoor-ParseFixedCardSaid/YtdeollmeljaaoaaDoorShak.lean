import Derived.Shelf.Strings.Prefix
import Derived.Test.YtdeollmeljaaoaaDoorProg
import Derived.Test.YtdeollmeljaaoaaDoorSck
import Derived.Laws.Rows
/- Contracts of the library, laid at this program by the shelf's own commands, in plain words. -/
namespace Go.Proofs
open Go.Shelf
def Tryd.lays99_ren : Go.Shelf.Ren := ⟨fun | 99 => 84 | 206 => 87 | n => n, fun | 9 => 9 | 4 => 4 | 3 => 3 | n => n, fun | n => n⟩
theorem Tryd.lays99 : Go.Proofs.Lays.n99 Tryd.prog Tryd.lays99_ren := {
  mixed := by kernel_rfl
  f99 := Tryd.func84.trans (congrArg some (by kernel_rfl))
  f206 := Tryd.func87.trans (congrArg some (by kernel_rfl))
  t3 := Tryd.underlying3
  a3 := Tryd.isAgg3
  z3 := Tryd.sizeOf3
  v3 := Tryd.zeroValue3
  t4 := Tryd.underlying4
  a4 := Tryd.isAgg4
  z4 := Tryd.sizeOf4
  v4 := Tryd.zeroValue4
  t9 := Tryd.underlying9
  a9 := Tryd.isAgg9
  z9 := Tryd.sizeOf9
  v9 := Tryd.zeroValue9 }
open Go.RowKit Go.Lib in
theorem Tryd.strings_HasPrefix (s p : ByteArray) (w : World) :
    Calls Tryd.prog 84 #[.string s, .string p] w fun e w' => e = .returned (.bool (Lib.hasPrefix s.data.toList p.data.toList)) ∧ w' = w := Any.strings_HasPrefix Tryd.lays99 s p w
end Go.Proofs
/- Marks; what a token may be: the program and the document. -/
namespace Go.Proofs.YtdeollmeljaaoaaDoor
open Go.ChangeShapes Go.WideShapes Go.ChangeAt Go.RowKit
set_option linter.unusedVariables false
set_option linter.unusedSimpArgs false
set_option maxHeartbeats 400000
/-- The program's table of marks. -/
def mkC : Array Value := (mkL.map fun m => Value.string ⟨m.toArray⟩).toArray
def Mk (w : World) : Prop := ∃ t fr, w.heap[5]? = some (.cells mkC t fr)
theorem Mk.below {w w' : World} (h : Mk w) (hb : Below w.heap.size w w') : Mk w' := by
  obtain ⟨t, fr, h1⟩ := h
  have hlt : 5 < w.heap.size := by
    rcases Nat.lt_or_ge 5 w.heap.size with g | g
    · exact g
    · rw [Array.getElem?_eq_none g] at h1; cases h1
  exact ⟨t, fr, (hb.block _ hlt).trans h1⟩
theorem mark0 (w : World) : (Instr.index 122 (.agg mkC) (.int .i64 ((0 : Nat) : Int))).run Tryd.prog w = .ok (.string ⟨(mkL.getD 0 []).toArray⟩) w := by kernel_rfl
theorem mark1 (w : World) : (Instr.index 122 (.agg mkC) (.int .i64 ((1 : Nat) : Int))).run Tryd.prog w = .ok (.string ⟨(mkL.getD 1 []).toArray⟩) w := by kernel_rfl
theorem mark2 (w : World) : (Instr.index 122 (.agg mkC) (.int .i64 ((2 : Nat) : Int))).run Tryd.prog w = .ok (.string ⟨(mkL.getD 2 []).toArray⟩) w := by kernel_rfl
theorem mark3 (w : World) : (Instr.index 122 (.agg mkC) (.int .i64 ((3 : Nat) : Int))).run Tryd.prog w = .ok (.string ⟨(mkL.getD 3 []).toArray⟩) w := by kernel_rfl
theorem mark4 (w : World) : (Instr.index 122 (.agg mkC) (.int .i64 ((4 : Nat) : Int))).run Tryd.prog w = .ok (.string ⟨(mkL.getD 4 []).toArray⟩) w := by kernel_rfl
theorem mark5 (w : World) : (Instr.index 122 (.agg mkC) (.int .i64 ((5 : Nat) : Int))).run Tryd.prog w = .ok (.string ⟨(mkL.getD 5 []).toArray⟩) w := by kernel_rfl
theorem mark6 (w : World) : (Instr.index 122 (.agg mkC) (.int .i64 ((6 : Nat) : Int))).run Tryd.prog w = .ok (.string ⟨(mkL.getD 6 []).toArray⟩) w := by kernel_rfl
theorem mark7 (w : World) : (Instr.index 122 (.agg mkC) (.int .i64 ((7 : Nat) : Int))).run Tryd.prog w = .ok (.string ⟨(mkL.getD 7 []).toArray⟩) w := by kernel_rfl
theorem mark8 (w : World) : (Instr.index 122 (.agg mkC) (.int .i64 ((8 : Nat) : Int))).run Tryd.prog w = .ok (.string ⟨(mkL.getD 8 []).toArray⟩) w := by kernel_rfl
theorem mark9 (w : World) : (Instr.index 122 (.agg mkC) (.int .i64 ((9 : Nat) : Int))).run Tryd.prog w = .ok (.string ⟨(mkL.getD 9 []).toArray⟩) w := by kernel_rfl
theorem mark10 (w : World) : (Instr.index 122 (.agg mkC) (.int .i64 ((10 : Nat) : Int))).run Tryd.prog w = .ok (.string ⟨(mkL.getD 10 []).toArray⟩) w := by kernel_rfl
theorem mark11 (w : World) : (Instr.index 122 (.agg mkC) (.int .i64 ((11 : Nat) : Int))).run Tryd.prog w = .ok (.string ⟨(mkL.getD 11 []).toArray⟩) w := by kernel_rfl
theorem mark_at (k : Nat) (hk : k < 12) (w : World) : (Instr.index 122 (.agg mkC) (.int .i64 (k : Int))).run Tryd.prog w = .ok (.string ⟨(mkL.getD k []).toArray⟩) w := by
  match k, hk with
  | 0, _ => exact mark0 w
  | 1, _ => exact mark1 w
  | 2, _ => exact mark2 w
  | 3, _ => exact mark3 w
  | 4, _ => exact mark4 w
  | 5, _ => exact mark5 w
  | 6, _ => exact mark6 w
  | 7, _ => exact mark7 w
  | 8, _ => exact mark8 w
  | 9, _ => exact mark9 w
  | 10, _ => exact mark10 w
  | 11, _ => exact mark11 w
theorem mk_two : ∀ k, k < 12 → (mkL.getD k []).length ≤ 2 := by decide
/-- The first mark that stands ahead. -/
theorem mk_hit {l : List UInt8} {k : Nat} (hk : k < 12) (ha : ∀ j, j < k → (mkL.getD j []).isPrefixOf l = false) (h : (mkL.getD k []).isPrefixOf l = true) : mkOf l = (mkL.getD k []).length := by
  unfold mkOf
  have hlen : mkL.length = 12 := rfl
  have : mkL.find? (fun m => m.isPrefixOf l) = some (mkL.getD k []) := by
    rw [List.find?_eq_some_iff_getElem]
    refine ⟨h, k, by omega, by simp [List.getD, List.getElem?_eq_getElem (show k < mkL.length by omega)], fun j hj => ?_⟩
    have := ha j hj
    simp only [List.getD, List.getElem?_eq_getElem (show j < mkL.length by omega), Option.getD_some] at this
    simp [this]
  rw [this]
  rfl
theorem mk_none {l : List UInt8} (ha : ∀ j, j < 12 → (mkL.getD j []).isPrefixOf l = false) : mkOf l = 0 := by
  unfold mkOf
  have hlen : mkL.length = 12 := rfl
  have : mkL.find? (fun m => m.isPrefixOf l) = none := by
    rw [List.find?_eq_none]
    intro x hx
    obtain ⟨j, hj, rfl⟩ := List.getElem_of_mem hx
    have := ha j (by omega)
    simp only [List.getD, List.getElem?_eq_getElem hj, Option.getD_some] at this
    simp [this]
  rw [this]
  rfl
set_option maxHeartbeats 1000000 in
theorem markAt_any (w : World) (hm : Mk w) (s : ByteArray) : Calls Tryd.prog 71 #[.string s] w fun e w' => e = .returned (.int .i64 (mkOf s.data.toList : Nat)) ∧ w = w' := by
  obtain ⟨t, fr, hm⟩ := hm
  have HM := Lib.hid hm
  clear hm
  go_enter Tryd.func71, Tryd.ntmps71
  go_wp2_with (refine wpList_load_row rfl _ _ rfl _ rfl _ _ _ _ HM.out Tryd.underlying122 rfl (by kernel_rfl) ?_)
  go_loop [6] (fun i => ∃ k : Nat, k ≤ 12 ∧ i = .int .i64 (k : Int) ∧ Hid (∀ j, j < k → (mkL.getD j []).isPrefixOf s.data.toList = false)) (fun i => 12 - (intOf i).toNat)
  case atStart => exact ⟨0, by omega, rfl, fun j hj => absurd hj (by omega)⟩
  case round =>
    obtain ⟨k, hk, rfl, HA⟩ := hrel
    by_cases hlt : k < 12
    · have hi := mark_at k hlt
      have hc := Tryd.strings_HasPrefix s ⟨(mkL.getD k []).toArray⟩ w
      have hl : (⟨(mkL.getD k []).toArray⟩ : ByteArray).size = (mkL.getD k []).length := by show Array.size _ = _; simp
      obtain ⟨d, hd⟩ : ∃ d, d = Lib.hasPrefix s.data.toList (mkL.getD k []) := ⟨_, rfl⟩
      rw [← hd] at hc
      unfold Lib.hasPrefix at hd
      obtain ⟨m, hmm⟩ : ∃ m : ByteArray, m = ⟨(mkL.getD k []).toArray⟩ := ⟨_, rfl⟩
      rw [← hmm] at hi hc hl
      have hlm := mk_two k hlt
      have HC := Lib.hid hc
      have HD := Lib.hid hd
      have HS := Lib.hid hl
      clear hc hd hl hmm
      cases d
      · go_wp2_with (go_at_call 84; refine HC.out.mono ?_; rintro e w' ⟨rfl, rfl⟩)
        go_round
        case rel =>
          refine ⟨k + 1, by omega, by go_num, fun j hj => ?_⟩
          rcases Nat.lt_or_ge j k with h | h
          · exact HA.out j h
          · obtain rfl : j = k := by omega
            exact HD.out.symm
        case measure => simp [intOf]; omega
      · go_wp2_with (go_at_call 84; refine HC.out.mono ?_; rintro e w' ⟨rfl, rfl⟩)
        go_ret
        exact ⟨ri (by rw [HS.out, mk_hit hlt HA.out HD.out.symm]), rfl⟩
    · obtain rfl : k = 12 := by omega
      go_wp2
      go_ret
      exact ⟨ri (by rw [mk_none HA.out]; rfl), rfl⟩
end Go.Proofs.YtdeollmeljaaoaaDoor
