/- Leaving, as the document has it: refused; and its state. -/
import Derived.Test.YtpddlckkncmlmaaDoorZk
import Derived.Test.YtpddlckkncmlmaaDoorNs
import Derived.Test.YtpddlckkncmlmaaDoorMp
import Derived.Test.YtpddlckkncmlmaaDoorMm
namespace Go.Proofs.YtpddlckkncmlmaaDoor
open Go.ChangeShapes Go.WideShapes Go.ChangeAt Go.RowKit
set_option linter.unusedVariables false
set_option linter.unusedSimpArgs false
set_option maxHeartbeats 8000000
set_option maxRecDepth 100000
theorem lf_two (w : World) (o1 o2 : Obj) : Below w.heap.size w ((w.alloc o1).alloc o2) := ((Below.refl _ _).alloc (Nat.le_refl _) _).alloc (by simp) _
theorem left_bad (w : World) (nh n : Nat) (hv qv : Value) (held l : List Lk) (t : Int) (hrh : Rd w 3 nh hv (lkc held)) (hr : Rd w 3 n qv (lkc l)) (h1 : nh ≤ 1000000000000000) (h2 : n ≤ 1000000000000000) (hbad : lksF held l ≠ 0 ∨ (t < 1 ∨ 1048576 < t)) :
    Calls Tryd.prog 14 #[.agg #[hv, qv], .int .i64 t] w (LeaveIs held l t w) := by
  obtain ⟨ah, ch, rfl⟩ := rd_shape hrh
  obtain ⟨aq, cq, rfl⟩ := rd_shape hr
  obtain ⟨W0, hW0⟩ : ∃ W0 : World, W0 = (w.alloc (.cells #[.slice ah nh ch, .slice aq n cq] 24)).alloc (.cells #[.slice none 0 0, .slice none 0 0] 24) := ⟨_, rfl⟩
  have hb0 : Below w.heap.size w W0 := by rw [hW0]; exact lf_two _ _ _
  have hbx : W0.heap[w.heap.size + 1]? = some (.cells #[.slice none 0 0, .slice none 0 0] 24 (0, 0)) := by rw [hW0]; exact new1 _ _ _
  have hft := fault_any W0 nh n _ _ held l (hrh.below hb0) (hr.below hb0) h1 h2
  rw [lks_same] at hft
  have hz0 : W0.heap.size = w.heap.size + 2 := by rw [hW0]; simp
  have HIN : Hid (∀ W, Calls Tryd.prog 35 #[.int .i64 t, .int .i64 1, .int .i64 1048576] W fun e w' => e = .returned (.bool (decide (1 ≤ t) && decide (t ≤ 1048576))) ∧ W = w') := fun W => in_any W t 1 1048576
  have HBX := Lib.hid hbx
  have HB0 := Lib.hid hb0
  have HW0 := Lib.hid hW0
  obtain ⟨r, hrr⟩ : ∃ r, r = lksF held l := ⟨_, rfl⟩
  rw [← hrr] at hft
  have HFT := Lib.hid hft
  have HR := Lib.hid hrr
  by_cases hr0 : r = 0
  · have hA : leaveL held l t = ([], [], [], 3) := by
      unfold leaveL
      rw [← hrr, if_neg (by omega), if_pos (by omega)]
    have hin : (decide (1 ≤ t) && decide (t ≤ 1048576)) = false := by
      have : t < 1 ∨ 1048576 < t := by omega
      rcases this with h | h
      · have : ¬ 1 ≤ t := by omega
        simp [this]
      · have : ¬ t ≤ 1048576 := by omega
        simp [this]
    have HA := Lib.hid hA
    have HIN2 : Hid (∀ W, Calls Tryd.prog 35 #[.int .i64 t, .int .i64 1, .int .i64 1048576] W fun e w' => e = .returned (.bool false) ∧ W = w') := fun W => by
      have := HIN.out W
      rwa [hin] at this
    subst hr0
    clear hft hbx hb0 hW0 hrh hr hbad hA hin hrr HIN HR
    go_enter Tryd.func14, Tryd.ntmps14
    go_wp2_with fail
    rw [← HW0.out]
    refine HFT.out.mono ?_
    rintro e w1 ⟨rfl, hb1⟩
    have hx1 := (hb1.block (w.heap.size + 1) (by omega)).trans HBX.out
    have HB1 := Lib.hid (into HB0.out hb1)
    obtain ⟨z0, z1, zf0, zf1⟩ := box2 hx1
    obtain ⟨t0, t1⟩ := box2_set (x := .slice none 0 0) (y := .slice none 0 0) z0 z1
    clear hb1 hx1
    go_upto_region 5 with (go_at_call 35; ((with_reducible refine (HIN2.out _).mono ?_); rintro e w' ⟨rfl, rfl⟩))
    repeat (first | go_values | go_skip | go_guarded | go_step | go_upon)
    refine bodyPost_ret (by simp [results, Tryd.results14, go_sem, t0, t1]; try rfl) rfl ?_
    unfold LeaveIs
    rw [HA.out]
    exact ⟨_, _, _, rfl, Rd.nil _ _, Rd.nil _ _, Rd.nil _ _, (HB1.out.setCell (by show w.heap.size ≤ w.heap.size + 1; omega) _).setCell (by show w.heap.size ≤ w.heap.size + 1; omega) _⟩
  · have hr11 : r = 11 := by
      have := lks_or held l
      rw [← hrr] at this
      omega
    have hA : leaveL held l t = ([], [], [], 11) := by
      unfold leaveL
      rw [← hrr, if_pos hr0]
    have HA := Lib.hid hA
    subst hr11
    clear hft hbx hb0 hW0 hrh hr hbad hA hrr HIN HR hr0
    go_enter Tryd.func14, Tryd.ntmps14
    go_wp2_with fail
    rw [← HW0.out]
    refine HFT.out.mono ?_
    rintro e w1 ⟨rfl, hb1⟩
    have hx1 := (hb1.block (w.heap.size + 1) (by omega)).trans HBX.out
    have HB1 := Lib.hid (into HB0.out hb1)
    obtain ⟨z0, z1, zf0, zf1⟩ := box2 hx1
    obtain ⟨t0, t1⟩ := box2_set (x := .slice none 0 0) (y := .slice none 0 0) z0 z1
    clear hb1 hx1
    go_upto_region 5 with (fail)
    repeat (first | go_values | go_skip | go_guarded | go_step | go_upon)
    refine bodyPost_ret (by simp [results, Tryd.results14, go_sem, t0, t1]; try rfl) rfl ?_
    unfold LeaveIs
    rw [HA.out]
    exact ⟨_, _, _, rfl, Rd.nil _ _, Rd.nil _ _, Rd.nil _ _, (HB1.out.setCell (by show w.heap.size ≤ w.heap.size + 1; omega) _).setCell (by show w.heap.size ≤ w.heap.size + 1; omega) _⟩
/-- The state behind the two filters: who holds, who waits, who was woken. -/
structure Lst (W : World) (C : Nat) (a1 : Option Addr) (m1 c1 : Nat) (a2 : Option Addr) (m2 c2 : Nat) (a3 : Option Addr) (m3 c3 : Nat) (H Q : List Lk) (A : List Int) : Prop where
  box : W.heap[C]? = some (.cells #[.slice a1 m1 c1, .slice a2 m2 c2] 24 (0, 0))
  h : W.ownsRow (C + 1) 26 3 (.slice a1 m1 c1) m1 (lkc H)
  q : W.ownsRow (C + 1) 26 3 (.slice a2 m2 c2) m2 (lkc Q)
  a : W.ownsRow (C + 1) 3 1 (.slice a3 m3 c3) m3 (ic A)
  hq : ∀ k, (Value.slice a1 m1 c1).ownBlock = some k → (Value.slice a2 m2 c2).ownBlock ≠ some k
  ha : ∀ k, (Value.slice a1 m1 c1).ownBlock = some k → (Value.slice a3 m3 c3).ownBlock ≠ some k
  qa : ∀ k, (Value.slice a2 m2 c2).ownBlock = some k → (Value.slice a3 m3 c3).ownBlock ≠ some k
theorem Lst.below {W W' : World} {C : Nat} {a1 : Option Addr} {m1 c1 : Nat} {a2 : Option Addr} {m2 c2 : Nat} {a3 : Option Addr} {m3 c3 : Nat} {H Q : List Lk} {A : List Int} (h : Lst W C a1 m1 c1 a2 m2 c2 a3 m3 c3 H Q A) (hb : Below W.heap.size W W') : Lst W' C a1 m1 c1 a2 m2 c2 a3 m3 c3 H Q A :=
  ⟨(hb.block _ (Array.getElem?_eq_some_iff.1 h.box).1).trans h.box, own_below h.h hb, own_below h.q hb, own_below h.a hb, h.hq, h.ha, h.qa⟩
end Go.Proofs.YtpddlckkncmlmaaDoor
/- Leaving, as the document has it: what a round of waking does to the state. -/
namespace Go.Proofs.YtpddlckkncmlmaaDoor
open Go.ChangeShapes Go.WideShapes Go.ChangeAt Go.RowKit
set_option linter.unusedVariables false
set_option linter.unusedSimpArgs false
section
variable {W : World} {C : Nat} {a1 : Option Addr} {m1 c1 : Nat} {a2 : Option Addr} {m2 c2 : Nat} {a3 : Option Addr} {m3 c3 : Nat} {H Q : List Lk} {A : List Int}
theorem Lst.szC (h : Lst W C a1 m1 c1 a2 m2 c2 a3 m3 c3 H Q A) : C < W.heap.size := (Array.getElem?_eq_some_iff.1 h.box).1
/-- The rest of the queue stored. -/
theorem Lst.rest (h : Lst W C a1 m1 c1 a2 m2 c2 a3 m3 c3 H Q A) {B : Nat} {ar : Option Addr} {mr cr : Nat} {Q' : List Lk} (ho : W.ownsRow B 26 3 (.slice ar mr cr) mr (lkc Q')) (hB : C + 1 ≤ B) (h1 : ∀ k, (Value.slice a1 m1 c1).ownBlock = some k → k < B) (h3 : ∀ k, (Value.slice a3 m3 c3).ownBlock = some k → k < B) :
    Lst (W.setCell ⟨C, 1, none⟩ (.slice ar mr cr)) C a1 m1 c1 ar mr cr a3 m3 c3 H Q' A := by
  refine ⟨by rw [Lib.heap_setCell_same h.box]; rfl, ownsRow_setCell_below h.h (by show C < C + 1; omega) _, own_mono (ownsRow_setCell_below ho (by show C < B; omega) _) hB, ownsRow_setCell_below h.a (by show C < C + 1; omega) _, fun k e1 e2 => ?_, h.ha, fun k e2 e3 => ?_⟩
  · have := (ho.lt k e2).1
    have := h1 k e1
    omega
  · have := (ho.lt k e2).1
    have := h3 k e3
    omega
/-- What 'given' answers, stored. -/
theorem Lst.gave (h : Lst W C a1 m1 c1 a2 m2 c2 a3 m3 c3 H Q A) {w6 : World} {a6 : Option Addr} {G c6 : Nat} {H' : List Lk} (ho : w6.ownsRow (C + 1) 26 3 (.slice a6 G c6) G (lkc H')) (hg : W.grownBy w6 (Value.slice a1 m1 c1).ownBlock) (hl : ∀ k, (Value.slice a6 G c6).ownBlock = some k → (Value.slice a1 m1 c1).ownBlock = some k ∨ W.heap.size + 3 ≤ k) :
    Lst ((w6.setCell ⟨C, 0, none⟩ (.slice a6 G c6)).setCell ⟨C, 1, none⟩ (.slice a2 m2 c2)) C a6 G c6 a2 m2 c2 a3 m3 c3 H' Q A ∧ Below C W ((w6.setCell ⟨C, 0, none⟩ (.slice a6 G c6)).setCell ⟨C, 1, none⟩ (.slice a2 m2 c2)) ∧ w6.heap[C]? = some (.cells #[.slice a1 m1 c1, .slice a2 m2 c2] 24 (0, 0)) := by
  have hC := h.szC
  have hx : w6.heap[C]? = some (.cells #[.slice a1 m1 c1, .slice a2 m2 c2] 24 (0, 0)) := (hg.block C hC (fun e => by have := (h.h.lt C e.symm).1; omega)).trans h.box
  have hy : (w6.setCell ⟨C, 0, none⟩ (.slice a6 G c6)).heap[C]? = some (.cells #[.slice a6 G c6, .slice a2 m2 c2] 24 (0, 0)) := by rw [Lib.heap_setCell_same hx]; rfl
  have hs : ∀ {e s n : Nat} {v : Value} {xs : List Value}, w6.ownsRow (C + 1) e s v n xs → ((w6.setCell ⟨C, 0, none⟩ (.slice a6 G c6)).setCell ⟨C, 1, none⟩ (.slice a2 m2 c2)).ownsRow (C + 1) e s v n xs := fun ho => ownsRow_setCell_below (ownsRow_setCell_below ho (by show C < C + 1; omega) _) (by show C < C + 1; omega) _
  refine ⟨⟨by rw [Lib.heap_setCell_same hy]; rfl, hs ho, hs (own_past h.q hg (fun k e2 e1 => h.hq k e1 e2)), hs (own_past h.a hg (fun k e3 e1 => h.ha k e1 e3)), fun k e6 e2 => ?_, fun k e6 e3 => ?_, h.qa⟩, ?_, hx⟩
  · rcases hl k e6 with e | e
    · exact h.hq k e e2
    · have := (h.q.lt k e2).2
      omega
  · rcases hl k e6 with e | e
    · exact h.ha k e e3
    · have := (h.a.lt k e3).2
      omega
  · exact (((Below.refl C W).grown hg (by omega) (fun k hk => by have := (h.h.lt k hk).1; omega)).setCell (p := ⟨C, 0, none⟩) (Nat.le_refl C) _).setCell (p := ⟨C, 1, none⟩) (Nat.le_refl C) _
/-- One more that was woken. -/
theorem Lst.woke (h : Lst W C a1 m1 c1 a2 m2 c2 a3 m3 c3 H Q A) {w9 : World} {a8 : Option Addr} {c8 : Nat} {t : Int} (ho : w9.ownsRow (C + 1) 3 1 (.slice a8 (m3 + 1) c8) (m3 + 1) (ic A ++ [.int .i64 t])) (hg : W.grownBy w9 (Value.slice a3 m3 c3).ownBlock) (ha : (Value.slice a8 (m3 + 1) c8).ownBlock = (Value.slice a3 m3 c3).ownBlock ∨ (Value.slice a8 (m3 + 1) c8).ownBlock = some (W.heap.size + 1)) :
    Lst w9 C a1 m1 c1 a2 m2 c2 a8 (m3 + 1) c8 H Q (A ++ [t]) := by
  have hC := h.szC
  have hi : ic (A ++ [t]) = ic A ++ [.int .i64 t] := by simp [ic]
  refine ⟨(hg.block C hC (fun e => by have := (h.a.lt C e.symm).1; omega)).trans h.box, own_past h.h hg (fun k e1 e3 => h.ha k e1 e3), own_past h.q hg (fun k e2 e3 => h.qa k e2 e3), by rw [hi]; exact ho, h.hq, fun k e1 e8 => ?_, fun k e2 e8 => ?_⟩
  · rcases ha with e | e
    · exact h.ha k e1 (e ▸ e8)
    · have := (h.h.lt k e1).2
      rw [e] at e8
      have := Option.some.inj e8
      omega
  · rcases ha with e | e
    · exact h.qa k e2 (e ▸ e8)
    · have := (h.q.lt k e2).2
      rw [e] at e8
      have := Option.some.inj e8
      omega
end
end Go.Proofs.YtpddlckkncmlmaaDoor
