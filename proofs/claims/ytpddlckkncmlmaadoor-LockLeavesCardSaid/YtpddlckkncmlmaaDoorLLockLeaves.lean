/- Leaving: the program answers as the document does, at every argument, and changes none of them. The row lists the program's two tables; the card ties them to the program's text. -/
import Derived.Test.YtpddlckkncmlmaaDoorJl
import Derived.Test.YtpddlckkncmlmaaDoorB2
import Derived.Test.YtpddlckkncmlmaaDoorNm
import Derived.Test.YtpddlckkncmlmaaDoorNh
import Derived.Test.YtpddlckkncmlmaaDoorMr
import Derived.Test.YtpddlckkncmlmaaDoorZr
import Derived.Test.YtpddlckkncmlmaaDoorNo
import Derived.Test.YtpddlckkncmlmaaDoorNp
import Derived.Test.YtpddlckkncmlmaaDoorZj
namespace Go.Proofs.YtpddlckkncmlmaaDoor.lLockLeaves
open Go.ChangeShapes Go.WideShapes Go.ChangeAt Go.RowKit Go.Joins
open Go.ChangeMaps (open_string shut_string)
set_option linter.unusedVariables false
set_option linter.unusedSimpArgs false
set_option maxHeartbeats 400000

theorem lv_w {H Q : List Lk} {t : Int} {w : World} {e : Ending} {w' : World} (h : LeaveIs H Q t w e w') {H' Q' : List Lk} {A' : List Int} {er : Int} (hA : leaveL H Q t = (H', Q', A', er)) {p1 p2 p3 : Nat} (hp1 : p1 = H'.length) (hp2 : p2 = Q'.length) (hp3 : p3 = A'.length) :
    ∃ (a3 : Option Addr) (c3 : Nat) (a4 : Option Addr) (c4 : Nat) (a7 : Option Addr) (c7 : Nat), e = .returned (.tuple #[.agg #[.slice a3 p1 c3, .slice a4 p2 c4], .slice a7 p3 c7, .int .i64 er]) ∧ Rd w' 3 p1 (.slice a3 p1 c3) (lkc H') ∧ Rd w' 3 p2 (.slice a4 p2 c4) (lkc Q') ∧ Rd w' 1 p3 (.slice a7 p3 c7) (ic A') ∧ Below w.heap.size w w' := by
  obtain ⟨hv, qv, wv, he, h1, h2, h3, hb⟩ := h
  rw [hA] at he h1 h2 h3
  simp only at he h1 h2 h3
  rw [← hp1] at h1
  rw [← hp2] at h2
  rw [← hp3] at h3
  obtain ⟨a3, c3, rfl⟩ := rd_shape h1
  obtain ⟨a4, c4, rfl⟩ := rd_shape h2
  obtain ⟨a7, c7, rfl⟩ := rd_shape h3
  exact ⟨a3, c3, a4, c4, a7, c7, he, h1, h2, h3, hb⟩
set_option maxRecDepth 100000 in
set_option maxHeartbeats 8000000 in
theorem walk (W : World) (hL : Tog W ∧ Jnd W) (x y : Value) (n m : Nat) (l q : List Lk) (hr : Rd W 3 n x (lkc l)) (hq : Rd W 3 m y (lkc q)) (hz : n * 32 ≤ 140737488351232 ∧ m * 32 ≤ 140737488351232) (hs : ∀ o ∈ l, LkOk o) (ht : ∀ o ∈ q, LkOk o) (a : Int) (wa : (Lit.int .i64 a).wf = true) :
    Calls Tryd.prog 5 #[.agg #[x, y], .int .i64 a] W fun e w' => e = .returned (.bool true) ∧ Below W.heap.size W w' := by
  obtain ⟨hn, hm⟩ := hz
  have hln := len_l hr
  have hlm := len_l hq
  obtain ⟨ax, cx, rfl⟩ := rd_shape hr
  obtain ⟨ay, cy, rfl⟩ := rd_shape hq
  rcases hA : leaveL l q a with ⟨H', Q', A', er⟩
  have hlen := leave_len l q a
  rw [hA] at hlen
  simp only at hlen
  obtain ⟨p1, hp1⟩ : ∃ p1, p1 = H'.length := ⟨_, rfl⟩
  obtain ⟨p2, hp2⟩ : ∃ p2, p2 = Q'.length := ⟨_, rfl⟩
  obtain ⟨p3, hp3⟩ : ∃ p3, p3 = A'.length := ⟨_, rfl⟩
  rw [← hp1, ← hp2, ← hp3] at hlen
  obtain ⟨W0, hW0⟩ : ∃ W0 : World, W0 = W.alloc (.cells #[.slice ax n cx, .slice ay m cy] 24) := ⟨_, rfl⟩
  have hb0 : Below W.heap.size W W0 := by rw [hW0]; exact (Below.refl _ _).alloc (Nat.le_refl _) _
  have a0 : W0.cell? ⟨W.heap.size, 0, none⟩ = some (.slice ax n cx) := by rw [hW0]; go_simp
  have a1 : W0.cell? ⟨W.heap.size, 1, none⟩ = some (.slice ay m cy) := by rw [hW0]; go_simp
  have HT := Lib.hid hL
  have HR := Lib.hid hr
  have HQ := Lib.hid hq
  have HW0 := Lib.hid hW0
  have HB0 := Lib.hid hb0
  have HX := Lib.hid (And.intro a0 a1)
  have HCP := Lib.hid (copy_any W0 n m _ _ l q (hr.below hb0) (hq.below hb0) hn hm)
  have HAS : Hid (∀ w, Below W0.heap.size W0 w → ∀ (a1 : Option Addr) (c1 : Nat) (a2 : Option Addr) (c2 : Nat), Rd w 3 n (.slice a1 n c1) (lkc l) → Rd w 3 m (.slice a2 m c2) (lkc q) → Calls Tryd.prog 13 #[.agg #[.slice a1 n c1, .slice a2 m c2], .int .i64 a] w fun e w' => ∃ (a3 : Option Addr) (c3 : Nat) (a4 : Option Addr) (c4 : Nat) (a7 : Option Addr) (c7 : Nat), e = .returned (.tuple #[.agg #[.slice a3 p1 c3, .slice a4 p2 c4], .slice a7 p3 c7, .int .i64 er]) ∧ Rd w' 3 p1 (.slice a3 p1 c3) (lkc H') ∧ Rd w' 3 p2 (.slice a4 p2 c4) (lkc Q') ∧ Rd w' 1 p3 (.slice a7 p3 c7) (ic A') ∧ Below w.heap.size w w') := fun w hw a1 c1 a2 c2 g1 g2 =>
    (leave_any w (hL.1.below (into hb0 hw)) (hL.2.below (into hb0 hw)) n m _ _ l q a g1 g2 (by omega) (by omega)).mono fun e w' h => lv_w h hA hp1 hp2 hp3
  have HAD : Hid (∀ w, Below W0.heap.size W0 w → Calls Tryd.prog 14 #[.agg #[.slice ax n cx, .slice ay m cy], .int .i64 a] w fun e w' => ∃ (a3 : Option Addr) (c3 : Nat) (a4 : Option Addr) (c4 : Nat) (a7 : Option Addr) (c7 : Nat), e = .returned (.tuple #[.agg #[.slice a3 p1 c3, .slice a4 p2 c4], .slice a7 p3 c7, .int .i64 er]) ∧ Rd w' 3 p1 (.slice a3 p1 c3) (lkc H') ∧ Rd w' 3 p2 (.slice a4 p2 c4) (lkc Q') ∧ Rd w' 1 p3 (.slice a7 p3 c7) (ic A') ∧ Below w.heap.size w w') := fun w hw =>
    (left_any w n m _ _ l q a (hr.below (into hb0 hw)) (hq.below (into hb0 hw)) (by omega) (by omega)).mono fun e w' h => lv_w h hA hp1 hp2 hp3
  clear hL hr hq hs ht hW0 hb0 hA hp1 hp2 hp3 wa hln hlm
  go_enter Tryd.func5, Tryd.ntmps5
  go_wp2_with fail
  rw [← HW0.out]
  refine HCP.out.mono ?_
  rintro e w1 ⟨a1', c1', a2', c2', rfl, g1, g2, hb1⟩
  clear a0 a1
  obtain ⟨W1, hW1⟩ : ∃ W1 : World, W1 = w1.alloc (.cells #[.slice a1' n c1', .slice a2' m c2'] 24) := ⟨_, rfl⟩
  have hb2 : Below w1.heap.size w1 W1 := by rw [hW1]; exact (Below.refl _ _).alloc (Nat.le_refl _) _
  have k0 : W1.cell? ⟨w1.heap.size, 0, none⟩ = some (.slice a1' n c1') := by rw [hW1]; go_simp
  have k1 : W1.cell? ⟨w1.heap.size, 1, none⟩ = some (.slice a2' m c2') := by rw [hW1]; go_simp
  have HW1 := Lib.hid hW1
  have HK := Lib.hid (And.intro k0 k1)
  have HG := Lib.hid (And.intro (g1.below hb2) (g2.below hb2))
  have HB1 := Lib.hid (hb1.trans (hb2.mono hb1.size))
  rw [hW1] at k0 k1
  have HCK := Lib.hid (HAS.out W1 HB1.out _ _ _ _ HG.out.1 HG.out.2)
  clear hW1 g1 g2 hb1 hb2
  go_wp2_with fail
  rw [← HW1.out]
  refine HCK.out.mono ?_
  rintro e w2 ⟨a3, c3, a4, c4, a7, c7, rfl, g3, g4, g7, hb3⟩
  clear k0 k1
  obtain ⟨W2, hW2⟩ : ∃ W2 : World, W2 = w2.alloc (.cells #[.slice a3 p1 c3, .slice a4 p2 c4] 24) := ⟨_, rfl⟩
  have hb4 : Below w2.heap.size w2 W2 := by rw [hW2]; exact (Below.refl _ _).alloc (Nat.le_refl _) _
  have r0 : W2.cell? ⟨w2.heap.size, 0, none⟩ = some (.slice a3 p1 c3) := by rw [hW2]; go_simp
  have r1 : W2.cell? ⟨w2.heap.size, 1, none⟩ = some (.slice a4 p2 c4) := by rw [hW2]; go_simp
  have HR2 := Lib.hid (And.intro r0 r1)
  have HG3 := Lib.hid (And.intro (g3.below hb4) (And.intro (g4.below hb4) (g7.below hb4)))
  have HB12 := Lib.hid (hb3.trans (hb4.mono hb3.size))
  have HB2 := Lib.hid (into HB1.out HB12.out)
  have a0 := cell_of_below HB2.out HX.out.1
  have a1 := cell_of_below HB2.out HX.out.2
  have HW2 := Lib.hid hW2
  rw [hW2] at a0 a1
  have HCD := Lib.hid (HAD.out W2 HB2.out)
  clear hW2 g3 g4 g7 hb3 hb4 r0 r1
  go_wp2_with fail
  rw [← HW2.out]
  refine HCD.out.mono ?_
  rintro e w3 ⟨a5, c5, a6, c6, a8, c8, rfl, g5, g6, g8, hb5⟩
  clear a0 a1
  obtain ⟨W3, hW3⟩ : ∃ W3 : World, W3 = w3.alloc (.cells #[.slice a5 p1 c5, .slice a6 p2 c6] 24) := ⟨_, rfl⟩
  have hb6 : Below w3.heap.size w3 W3 := by rw [hW3]; exact (Below.refl _ _).alloc (Nat.le_refl _) _
  have q0 : W3.cell? ⟨w3.heap.size, 0, none⟩ = some (.slice a5 p1 c5) := by rw [hW3]; go_simp
  have q1 : W3.cell? ⟨w3.heap.size, 1, none⟩ = some (.slice a6 p2 c6) := by rw [hW3]; go_simp
  have HB23 := Lib.hid (hb5.trans (hb6.mono hb5.size))
  have HB3 := Lib.hid (into HB2.out HB23.out)
  have r0 := cell_of_below HB23.out HR2.out.1
  have r1 := cell_of_below HB23.out HR2.out.2
  have HSI := Lib.hid (si_any W3 p3 _ _ A' (HG3.out.2.2.below HB23.out) (g8.below hb6) (by omega))
  have HG5 := Lib.hid (And.intro (g5.below hb6) (g6.below hb6))
  have HQQ := Lib.hid (And.intro q0 q1)
  have HRR := Lib.hid (And.intro r0 r1)
  have HW3 := Lib.hid hW3
  clear hW3 g5 g6 g8 hb5 hb6 q0 q1 r0 r1
  have hee : (er == er) = true := by simp
  go_wp2_with fail
  rw [← HW3.out]
  refine HSI.out.mono ?_
  rintro e w4 ⟨rfl, hb7⟩
  have q0 := cell_of_below hb7 HQQ.out.1
  have q1 := cell_of_below hb7 HQQ.out.2
  have r0 := cell_of_below hb7 HRR.out.1
  have r1 := cell_of_below hb7 HRR.out.2
  have HB24 := Lib.hid (into HB23.out hb7)
  have HB4 := Lib.hid (into HB3.out hb7)
  have HSL := Lib.hid (sl_any w4 p1 p2 _ _ _ _ H' Q' (HG3.out.1.below HB24.out) (HG3.out.2.1.below HB24.out) (HG5.out.1.below hb7) (HG5.out.2.below hb7) (by omega) (by omega))
  clear hb7
  go_wp2_with fail
  refine HSL.out.mono ?_
  rintro e w5 ⟨rfl, hb8⟩
  have HB5 := Lib.hid (into HB4.out hb8)
  have HB15 := Lib.hid (into (into HB12.out HB24.out) hb8)
  clear hb8 q0 q1 r0 r1
  have a0 := cell_of_below HB5.out HX.out.1
  have a1 := cell_of_below HB5.out HX.out.2
  have k0 := cell_of_below HB15.out HK.out.1
  have k1 := cell_of_below HB15.out HK.out.2
  have HSC := Lib.hid (sl_any w5 n m _ _ _ _ l q (HG.out.1.below HB15.out) (HG.out.2.below HB15.out) (HR.out.below (into HB0.out HB5.out)) (HQ.out.below (into HB0.out HB5.out)) (by omega) (by omega))
  go_wp2_with fail
  refine HSC.out.mono ?_
  rintro e w6 ⟨rfl, hb8⟩
  have HB6 := Lib.hid (into (into HB0.out HB5.out) hb8)
  clear hb8
  go_wp2_with fail
  go_ret
  exact ⟨rfl, HB6.out⟩

set_option maxRecDepth 100000 in
theorem lifted (os : Os) (started : os.Started) (H : Type) (enc : TypeId × Value → H) :
    ReturnsInHanded {} Tryd.checked os 5 .any (fun w args => (Rows.lockLeavesSpec.pre enc Tryd.prog Tryd.f5 [] false w args ∧ laidTJ w) ∧ sizedMet enc Tryd.prog Tryd.f5 (OpenSpec.ofChange Rows.lockLeavesSpec) false w args) (Rows.lockLeavesSpec.post enc Tryd.prog Tryd.f5 false true false false) := by
  refine returnsInHanded_of_change_and (C := Tryd.checked) (X := fun w _ => laidTJ w) (fun _ _ _ hh h => h.of_heap hh) Tryd.own started (by kernel_rfl) Tryd.func5
    (ChangeSpec.witness_at (enc := enc) (C := Tryd.checked) (os := os) (X := fun w _ => laidTJ w) false (tabled os) #[.agg #[.slice none 0 0, .slice none 0 0], .int .i64 0] 8 rfl (by kernel_rfl) (by kernel_rfl) (by kernel_rfl) (by kernel_rfl) (by kernel_rfl) (tabled_laidTJ os _)) ?_
  intro W base args ds gs before hval0 hW hcnd hsz0 hL _
  have hsz : (DataW.weightsEach Tryd.prog (Tryd.f5.params.toList ++ Rows.lockLeavesSpec.plain.varTypes Tryd.prog) (ds ++ gs)).all (· ≤ reachBytes) = true := hsz0
  have hval : ∀ (j : Nat) t v, Tryd.f5.params[j]? = some t → args[j]? = some v → Value.okWide Tryd.prog W .any base t v := hval0
  have hW' := hW
  obtain ⟨p, q, hA0, hV, rfl, hfz, hnd⟩ := hW
  have hA : DataW.TrodAll enc Tryd.prog W 0 (fun _ => true) true Tryd.f5.params.toList args.toList ds p := hA0
  rw [Tryd.params5] at hA hval hsz
  obtain ⟨v0, v1, d0, d1, p0, p1, rfl, rfl, rfl, h0, h1⟩ := trodAll_two hA
  obtain ⟨rfl, rfl⟩ := trodVars_none hV
  have sm0 : small Tryd.prog 24 d0 := fun q hq => by
    have := List.all_eq_true.1 hsz q (weights_each (j := 0) rfl rfl q hq)
    simpa using this
  obtain ⟨x0, y0, n0, m0, l0, q0, rfl, hr0, hq0, hz0, hs0, ht0⟩ := open_locks (hval 0 24 v0 rfl rfl) h0 sm0
  obtain ⟨a1, rfl, rfl, rfl, w1⟩ := open_int Tryd.underlying3 (hval 1 3 v1 rfl rfl) h1
  clear hA0 hval0
  refine (walk W (TJ_of hL) x0 y0 n0 m0 l0 q0 hr0 hq0 hz0 hs0 ht0 a1 w1).mono fun e W' ⟨he, hg⟩ => ?_
  subst he
  exact ⟨_, rfl, law_post (tb := 4) Tryd.laidOut (by kernel_rfl) (by kernel_rfl) Tryd.underlying4 rfl hW' hg rfl rfl rfl⟩

theorem bare : Rows.LockLeavesSaid :=
  OpenClaim.holds_of_wide 5 Tryd.f5 rfl rfl rfl rfl rfl rfl rfl ⟨rfl, rfl, rfl, rfl, rfl⟩ rfl rfl rfl rfl rfl (by kernel_rfl) Tryd.func5 (by kernel_rfl)
    (of_decide_eq_true (by kernel_rfl)) (by unfold Func.isWrapper; first | (rw [if_pos (by decide +kernel)]; kernel_rfl) | (rw [if_neg (by decide +kernel)]; exact ⟨rfl, rfl⟩))
    (fun os started H enc _ => lifted os started H enc)
/-- The card: the row's one listed variable is tied to the program's text. -/
theorem proved : Rows.LockLeavesCardSaid :=
  Claim7.holds_tied_plain_at .later [] [.data, .data] true _ false bare (fun _ h => by cases h) (by kernel_rfl) (fun _ h => by cases h) lockLeaves_row_tie rfl ⟨rfl, rfl⟩ (by kernel_rfl) rfl
    (fun f fn hf hfn => by
      obtain rfl : f = 5 := Option.some.inj ((show Tryd.prog.funcNamed "padlock/padlocklaw.LockLeaves" = some 5 by kernel_rfl).symm.trans hf) |>.symm
      obtain rfl : fn = Tryd.f5 := (Option.some.inj (Tryd.func5.symm.trans hfn)).symm
      refine ⟨by kernel_rfl, fun j t ht => ?_⟩
      rw [Tryd.params5] at ht
      rcases j with _ | _ | j <;> simp at ht <;> subst ht <;> kernel_rfl)
    (by kernel_rfl)
#print axioms proved
end Go.Proofs.YtpddlckkncmlmaaDoor.lLockLeaves
