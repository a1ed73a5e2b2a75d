/- Asking, as the document has it: refused. -/
import Derived.Test.YtpddlckkncmlmaaDoorNq
import Derived.Test.YtpddlckkncmlmaaDoorNk
namespace Go.Proofs.YtpddlckkncmlmaaDoor
open Go.ChangeShapes Go.WideShapes Go.ChangeAt Go.RowKit
set_option linter.unusedVariables false
set_option linter.unusedSimpArgs false
set_option maxHeartbeats 8000000
set_option maxRecDepth 100000
theorem lks_two (held l : List Lk) : lksF held l = 0 ∨ lksF held l = 11 := by
  unfold lksF
  repeat' split
  all_goals first | exact .inl rfl | exact .inr rfl
/-- Locks that may not be, or a lock that may not be. -/
theorem asked_no (w : World) (nh n : Nat) (hv qv : Value) (held l : List Lk) (x : Lk) (hrh : Rd w 3 nh hv (lkc held)) (hr : Rd w 3 n qv (lkc l)) (h1 : nh ≤ 1000000000000000) (h2 : n ≤ 1000000000000000) (hbad : lksF held l ≠ 0 ∨ frm x ≠ 0) :
    Calls Tryd.prog 8 #[.agg #[hv, qv], lkv x] w (AskIs held l x w) := by
  obtain ⟨_, ah, ch, rfl, _⟩ := id hrh
  obtain ⟨_, aq, cq, rfl, _⟩ := id hr
  have hft0 := fun W h => fault_any W nh n _ _ held l (Rd.below hrh h) (Rd.below hr h) h1 h2
  simp only [lks_same] at hft0
  have hrf : refL held l x ≠ 0 := by
    unfold refL
    rcases hbad with h | h
    · rw [if_pos h]; omega
    · by_cases h3 : lksF held l ≠ 0
      · rw [if_pos h3]; omega
      · rw [if_neg h3, if_pos h]; exact h
  have hA : askL held l x = ([], [], false, refL held l x) := by unfold askL; rw [if_pos hrf]
  have hR : refL held l x = if lksF held l ≠ 0 then 11 else frm x := by
    unfold refL
    by_cases h3 : lksF held l ≠ 0
    · rw [if_pos h3, if_pos h3]
    · rw [if_neg h3, if_neg h3, if_pos (hbad.resolve_left h3)]
  have htwo := lks_two held l
  have hlf := fun W => lockFault_any W x
  obtain ⟨xt, xth, xm⟩ := x
  obtain ⟨r, hrr⟩ : ∃ r, r = lksF held l := ⟨_, rfl⟩
  obtain ⟨f, hff⟩ : ∃ f, f = frm ⟨xt, xth, xm⟩ := ⟨_, rfl⟩
  rw [← hrr] at hft0 htwo hR hbad
  rw [← hff] at hlf hR hbad
  rw [hR] at hA
  obtain ⟨W0, hW0⟩ : ∃ W0 : World, W0 = ((w.alloc (.cells #[.slice ah nh ch, .slice aq n cq] 24)).alloc (.cells #[.int .i64 xt, .string xth, .int .i64 xm] 26)).alloc (.cells #[.slice none 0 0, .slice none 0 0] 24) := ⟨_, rfl⟩
  have hb0 : Below w.heap.size w W0 := by rw [hW0]; exact three_below _ _ _ _
  have hbx : Bxs W0 w.heap.size (.slice ah nh ch) (.slice aq n cq) ⟨xt, xth, xm⟩ := by
    rw [hW0]
    obtain ⟨g1, g2, g3⟩ := three_new w (.cells #[.slice ah nh ch, .slice aq n cq] 24) (.cells #[.int .i64 xt, .string xth, .int .i64 xm] 26) (.cells #[.slice none 0 0, .slice none 0 0] 24)
    exact ⟨g1, g2, g3⟩
  have HFT := Lib.hid (hft0 W0 hb0)
  have HLF := Lib.hid hlf
  have HA := Lib.hid hA
  have HBX := Lib.hid hbx
  have HB0 := Lib.hid hb0
  have HW0 := Lib.hid hW0
  obtain ⟨⟨y0, y1, yf0, yf1⟩, ⟨x0, x1, x2, -, -, -⟩, ⟨z0, z1, zf0, zf1⟩⟩ := hbx.cells
  simp only at x0 x1 x2
  clear hrh hr hft0 hlf hA hbx hb0 hW0 hrf hR hrr hff
  have hlk : lkv ⟨xt, xth, xm⟩ = .agg #[.int .i64 xt, .string xth, .int .i64 xm] := rfl
  rw [hlk]
  clear hlk
  go_enter Tryd.func8, Tryd.ntmps8
  go_wp2_with fail
  rw [← HW0.out]
  refine HFT.out.mono ?_
  rintro e w1 ⟨rfl, hb1⟩
  have HX1 := Lib.hid (HBX.out.below hb1)
  have HB1 := Lib.hid (into HB0.out hb1)
  clear y0 y1 yf0 yf1 x0 x1 x2 z0 z1 zf0 zf1 hb1
  obtain ⟨⟨y0, y1, yf0, yf1⟩, ⟨x0, x1, x2, -, -, -⟩, ⟨z0, z1, zf0, zf1⟩⟩ := HX1.out.cells
  simp only at x0 x1 x2
  by_cases hr0 : r = 0
  · subst hr0
    have hf0 : f ≠ 0 := hbad.resolve_left (by simp)
    have hf1 : (f == 0) = false := by simpa using hf0
    clear hbad htwo
    go_wp2_with fail
    refine (HLF.out _).mono ?_
    rintro e w2 ⟨rfl, hb2⟩
    have HX2 := Lib.hid (HX1.out.below hb2)
    have HB2 := Lib.hid (into HB1.out hb2)
    clear y0 y1 yf0 yf1 x0 x1 x2 z0 z1 zf0 zf1 hb2
    obtain ⟨⟨y0, y1, yf0, yf1⟩, -, ⟨z0, z1, zf0, zf1⟩⟩ := HX2.out.cells
    obtain ⟨t0, t1⟩ := box2_set (x := .slice none 0 0) (y := .slice none 0 0) z0 z1
    go_wp2_with fail
    go_rounds 1
    all_goals (
      refine bodyPost_ret (by simp [results, Tryd.results8, go_sem, t0, t1]; try rfl) rfl ?_
      unfold AskIs
      rw [HA.out]
      exact ⟨_, _, rfl, Rd.nil _ _, Rd.nil _ _, (HB2.out.setCell (by show w.heap.size ≤ w.heap.size + 2; omega) _).setCell (by show w.heap.size ≤ w.heap.size + 2; omega) _⟩)
  · obtain rfl : r = 11 := htwo.resolve_left hr0
    clear hbad htwo hr0
    obtain ⟨t0, t1⟩ := box2_set (x := .slice none 0 0) (y := .slice none 0 0) z0 z1
    go_wp2_with fail
    go_rounds 1
    all_goals (
      refine bodyPost_ret (by simp [results, Tryd.results8, go_sem, t0, t1]; try rfl) rfl ?_
      unfold AskIs
      rw [HA.out]
      exact ⟨_, _, rfl, Rd.nil _ _, Rd.nil _ _, (HB1.out.setCell (by show w.heap.size ≤ w.heap.size + 2; omega) _).setCell (by show w.heap.size ≤ w.heap.size + 2; omega) _⟩)
end Go.Proofs.YtpddlckkncmlmaaDoor
