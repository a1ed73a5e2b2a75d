/- session.Run, where no session says anything, and where it refuses. -/
import Derived.Test.YtbjdgkidnmklkaaGreatDoorEf
import Derived.Deep.DeepCutAuto
namespace Go.Proofs.YtbjdgkidnmklkaaGreatDoor
open Go.ChangeShapes Go.WideShapes Go.ChangeAt Go.RowKit
set_option linter.unusedVariables false
set_option linter.unusedSimpArgs false
set_option maxHeartbeats 4000000
set_option maxRecDepth 100000
theorem wp_name {P : Program} {c : Code} {Q : Exit → Act → World → Prop} {a : Act} {w : World} (h : ∀ w8, w8 = w → Code.wp P c Q a w8) : Code.wp P c Q a w := h w rfl
def BadIs (r : Int) (w : World) (e : Ending) (w' : World) : Prop := e = .returned (.tuple #[.agg #[.slice none 0 0, .slice none 0 0, .slice none 0 0], .int .i64 r]) ∧ Below w.heap.size w w'
/-- What is refused. -/
theorem run_bad (w : World) (u v : Value) (r : Int) (hr : r ≠ 0) (h : ∀ W, Below w.heap.size w W → Calls Tryz.prog 7 #[u, v] W (ErrIs r W)) :
    Calls Tryz.prog 5 #[u, v] w (BadIs r w) := by
  have H := Lib.hid h
  have hr' : (r != 0) = true := by simpa using hr
  clear h hr
  go_enter Tryz.func5, Tryz.ntmps5
  go_wp2_with fail
  refine (H.out _ (by go_grown)).mono ?_
  rintro e w1 ⟨rfl, hb1⟩
  have HB : Hid (Below w.heap.size w w1) := Lib.hid (into (by go_grown) hb1)
  have HQ : Hid (w1.heap[w.heap.size]? = some (.cells #[.slice none 0 0, .slice none 0 0, .slice none 0 0] 30 (0, 0))) := Lib.hid ((hb1.block w.heap.size (by simp)).trans (new0 w _))
  obtain ⟨q0, q1, q2, f0, f1, f2⟩ := bx3 HQ.out
  clear hb1
  go_wp2_with fail
  obtain ⟨v0, v1, v2⟩ := bx3c HQ.out (.slice none 0 0) (.slice none 0 0) (.slice none 0 0)
  (try simp only [Exit.inBlock, Exit.then])
  refine bodyPost_ret (by simp [results, Tryz.results5, go_sem, v0, v1, v2]; try rfl) rfl ?_
  exact ⟨rfl, ((HB.out.setCell (p := ⟨w.heap.size, 0, none⟩) (Nat.le_refl _) _).setCell (p := ⟨w.heap.size, 1, none⟩) (Nat.le_refl _) _).setCell (p := ⟨w.heap.size, 2, none⟩) (Nat.le_refl _) _⟩
theorem Tryz.info46 : (Tryz.prog.info? 46).map (fun i => (i.zero, i.size, i.bytes)) = some (some (.agg #[.slice none 0 0, .slice none 0 0, .int .i64 0, .bool false, .bool false, .slice none 0 0]), 6, 88) := by kernel_rfl
theorem mk_seats (w : World) (n : Nat) (l : Int) (hl : l = (n : Int)) (h : n = 1 ∨ n = 2 ∨ n = 3 ∨ n = 4) : (Instr.makeSlice 37 (.int .i64 l) (.int .i64 l)).run Tryz.prog w = .ok (.slice (some ⟨w.heap.size, 0, none⟩) n n) (w.alloc (.cells (zl n).toArray 46)) := by
  subst hl
  obtain ⟨i0, hi, hz0, hz1, hz3⟩ := info_parts Tryz.info46
  have hmk := run_makeSlice (P := Tryz.prog) w 37 46 i0 _ Tryz.underlying37 hi hz0 .i64 .i64 (n : Int) (n : Int) (by omega) (by omega) (by rw [hz1]; omega) (by rw [hz3]; omega) (by omega)
  rw [hz1, Int.toNat_natCast] at hmk
  have e : madeCells (Value.agg #[.slice none 0 0, .slice none 0 0, .int .i64 0, .bool false, .bool false, .slice none 0 0]).cells (n * 6) = (zl n).toArray := by
    rcases h with rfl | rfl | rfl | rfl <;> kernel_rfl
  rw [e] at hmk
  exact hmk
def RunIs (n : Nat) (w : World) (e : Ending) (w' : World) : Prop := ∃ (a : Option Addr) (c : Nat), e = .returned (.tuple #[.agg #[.slice a n c, .slice none 0 0, .slice none 0 0], .int .i64 0]) ∧ Below w.heap.size w w'
theorem Zs.same {w : World} {B n k : Nat} (h : Zs w B n) (hk : k < n) : Zs (w.setCell ⟨B, k * 6, none⟩ (.slice none 0 0)) B n := by
  have e : (zl n).toArray[k * 6]? = some (.slice none 0 0) := by simpa using zl_at n k 0 _ hk rfl
  have h2 := Lib.heap_setCell_same (i := k * 6) h (.slice none 0 0)
  rw [set_self e] at h2
  exact h2
/-- Sessions that say nothing. -/
theorem run_ok (w : World) (b n : Nat) (h1 : 1 ≤ n) (h4 : n ≤ 4) (hc : ∀ j, j < n → w.cell? ⟨b, j, none⟩ = some (.slice none 0 0)) :
    Calls Tryz.prog 5 #[.slice (some ⟨b, 0, none⟩) n n, .slice none 0 0] w (RunIs n w) := by
  have HC := Lib.hid hc
  have HCK := Lib.hid (fun (W : World) (hB : Below w.heap.size w W) => check_ok W b n h1 h4 (fun j hj => ⟨none, 0, 0, (hB.cell (lt_cell (hc j hj))).trans (hc j hj), by omega⟩))
  clear hc
  have HMK := Lib.hid (fun W => mk_seats W n n rfl (by omega))
  go_enter Tryz.func5, Tryz.ntmps5
  go_wp2_with fail
  refine (HCK.out _ (by go_grown)).mono ?_
  rintro e w1 ⟨rfl, hb1⟩
  have HB1 : Hid (Below w.heap.size w w1) := Lib.hid (into (by go_grown) hb1)
  have HQ1 : Hid (w1.heap[w.heap.size]? = some (.cells #[.slice none 0 0, .slice none 0 0, .slice none 0 0] 30 (0, 0))) := Lib.hid ((hb1.block w.heap.size (by simp)).trans (new0 w _))
  have hz1 : w.heap.size < w1.heap.size := by have := hb1.size; simp at this; omega
  have hmk := HMK.out w1
  clear hb1
  go_upto_region 5 with (fail)
  refine wp_name (fun w2 hw2 => ?_)
  have HB2 : Hid (Below w.heap.size w w2) := Lib.hid (by rw [hw2]; exact (HB1.out.alloc HB1.out.size _).alloc (by have := HB1.out.size; simp; omega) _)
  have hz2 : w1.heap.size + 1 < w2.heap.size := by rw [hw2]; simp
  have HZ2 : Hid (Zs w2 w1.heap.size n) := Lib.hid (by unfold Zs; rw [hw2, Below.heap_alloc _ _ _ (by simp)]; exact new0 w1 _)
  have HM2 : Hid (w2.heap[w1.heap.size + 1]? = some (.cells (rmC w1.heap.size n) 42 (0, 0))) := Lib.hid (by rw [hw2]; exact new1 w1 _ _)
  have HQ2 : Hid (w2.heap[w.heap.size]? = some (.cells #[.slice none 0 0, .slice none 0 0, .slice none 0 0] 30 (0, 0))) := Lib.hid (by rw [hw2, Below.heap_alloc _ _ _ (by simp; omega), Below.heap_alloc _ _ _ hz1]; exact HQ1.out)
  clear hw2 hmk
  go_wp2_with fail
  go_loopw [26] (fun i wr => ∃ k : Nat, k ≤ n ∧ i = .int .i64 (k : Int) ∧ Hid (Below w.heap.size w wr) ∧ Hid (Zs wr w1.heap.size n) ∧ Hid (wr.heap[w1.heap.size + 1]? = some (.cells (rmC w1.heap.size n) 42 (0, 0))) ∧ Hid (wr.heap[w.heap.size]? = some (.cells #[.slice none 0 0, .slice none 0 0, .slice none 0 0] 30 (0, 0)))) (fun i _ => n - (intOf i).toNat)
  case atStart => exact ⟨0, by omega, rfl, HB2.out, HZ2.out, HM2.out, HQ2.out⟩
  case round =>
    obtain ⟨k, hk, rfl, HB, HZ, HM, HQ⟩ := hrel
    have m0 : wr.cell? ⟨w1.heap.size + 1, 0, none⟩ = some (.slice (some ⟨w1.heap.size, 0, none⟩) n n) := by simp [World.cell?, HM.out]
    by_cases hlt : k < n
    · have s0 := HC.out k hlt
      have s1 := (HB.out.cell (lt_cell s0)).trans s0
      have c0 := HZ.out.cell (i := 0) hlt rfl
      have f0 := HZ.out.frozen (k * 6)
      rw [Nat.add_zero] at c0
      clear s0
      go_wp2_with fail
      go_roundw
      case rel =>
        refine ⟨k + 1, by omega, by go_num, HB.out.setCell (p := ⟨w1.heap.size, k * 6, none⟩) (by have := HB1.out.size; show _ ≤ w1.heap.size; omega) _, HZ.out.same hlt, ?_, ?_⟩
        · show _ = _
          exact (Below.heap_setCell _ _ _ _ (by show _ ≠ w1.heap.size; omega)).trans HM.out
        · show _ = _
          exact (Below.heap_setCell _ _ _ _ (by show _ ≠ w1.heap.size; omega)).trans HQ.out
      case measure => (simp [intOf]) <;> omega
    · have hzr : w1.heap.size + 1 < wr.heap.size := by
        rcases Nat.lt_or_ge (w1.heap.size + 1) wr.heap.size with g | g
        · exact g
        · have := HM.out; rw [Array.getElem?_eq_none g] at this; cases this
      have HT := Lib.hid (hasT_no wr w1.heap.size n h4 HZ.out)
      go_wp2_with fail
      obtain ⟨w3, hw3⟩ : ∃ w3, w3 = wr := ⟨_, rfl⟩
      rw [← hw3] at HB HZ HM HQ m0 hzr HT ⊢
      clear hw3 hlt
      go_loopw [40] (fun i ws => i = .int .i64 0 ∧ ws = w3) (fun _ _ => 0)
      case atStart => exact ⟨rfl, rfl⟩
      case round =>
        obtain ⟨rfl, rfl⟩ := hrel
        go_wp2_with fail
        obtain ⟨w4, hw4⟩ : ∃ w4, w4 = wr := ⟨_, rfl⟩
        rw [← hw4] at HB HZ HM HQ m0 hzr HT ⊢
        clear hw4
        go_loopw [56] (fun i ws => ws = w4) (fun _ _ => 0)
        case atStart => rfl
        case round =>
          subst hrel
          go_wp2_with fail
          refine HT.out.mono ?_
          rintro e w5 ⟨rfl, hb5⟩
          have HB5 := Lib.hid (into HB.out hb5)
          have HQ5 := Lib.hid ((hb5.block w.heap.size (by have := HB1.out.size; omega)).trans HQ.out)
          have HOC := Lib.hid (outcome_any w5 (w1.heap.size + 1) w1.heap.size n h1 h4 (HZ.out.below hb5) ((hb5.block (w1.heap.size + 1) hzr).trans HM.out))
          have hz5 := hb5.size
          clear hb5
          go_wp2_with fail
          refine HOC.out.mono ?_
          rintro e w6 ⟨ra, rc, rfl, hb6⟩
          have HB6 := Lib.hid (into HB5.out hb6)
          have HQ6 := Lib.hid ((hb6.block w.heap.size (by omega)).trans HQ5.out)
          obtain ⟨q0, q1, q2, f0, f1, f2⟩ := bx3 HQ6.out
          clear hb6
          go_wp2_with fail
          obtain ⟨v0, v1, v2⟩ := bx3c HQ6.out (.slice ra n rc) (.slice none 0 0) (.slice none 0 0)
          (try simp only [Exit.inBlock, Exit.then])
          refine bodyPost_ret (by simp [results, Tryz.results5, go_sem, v0, v1, v2]; try rfl) rfl ?_
          exact ⟨ra, rc, rfl, ((HB6.out.setCell (p := ⟨w.heap.size, 0, none⟩) (Nat.le_refl _) _).setCell (p := ⟨w.heap.size, 1, none⟩) (Nat.le_refl _) _).setCell (p := ⟨w.heap.size, 2, none⟩) (Nat.le_refl _) _⟩
end Go.Proofs.YtbjdgkidnmklkaaGreatDoor
