/- Who is given up when some wait for each other: the program answers as the document does, at every argument. The row lists the program's two tables; the card ties them to the program's text. -/
import Derived.Test.YtpddlckkncmlmabDoorJl
import Derived.Test.YtpddlckkncmlmabDoorB2
import Derived.Test.YtpddlckkncmlmabDoorNm
import Derived.Test.YtpddlckkncmlmabDoorNh
import Derived.Test.YtpddlckkncmlmabDoorNo
import Derived.Test.YtpddlckkncmlmabDoorZn
import Derived.Test.YtpddlckkncmlmabDoorZp
namespace Go.Proofs.YtpddlckkncmlmabDoor.lLockVictims
open Go.ChangeShapes Go.WideShapes Go.ChangeAt Go.RowKit Go.Joins
open Go.ChangeMaps (open_string shut_string)
set_option linter.unusedVariables false
set_option linter.unusedSimpArgs false
set_option maxHeartbeats 400000

set_option maxRecDepth 100000 in
set_option maxHeartbeats 4000000 in
theorem walk (W : World) (hL : Tog W ∧ Jnd W) (x y : Value) (n m : Nat) (l q : List Lk) (hr : Rd W 3 n x (lkc l)) (hq : Rd W 3 m y (lkc q)) (hz : n * 32 ≤ 140737488351232 ∧ m * 32 ≤ 140737488351232) (hs : ∀ o ∈ l, LkOk o) (ht : ∀ o ∈ q, LkOk o) :
    Calls Tryd.prog 3 #[.agg #[x, y]] W fun e w' => e = .returned (.bool true) ∧ Below W.heap.size W w' := by
  obtain ⟨hn, hm⟩ := hz
  obtain ⟨ax, cx, rfl⟩ := row_shape hr
  obtain ⟨ay, cy, rfl⟩ := row_shape hq
  obtain ⟨V, hV⟩ : ∃ V, V = vicA l q := ⟨_, rfl⟩
  obtain ⟨r, hrr⟩ : ∃ r, r = lksF l q := ⟨_, rfl⟩
  obtain ⟨W0, hW0⟩ : ∃ W0 : World, W0 = W.alloc (.cells #[.slice ax n cx, .slice ay m cy] 24) := ⟨_, rfl⟩
  have hb0 : Below W.heap.size W W0 := by rw [hW0]; exact (Below.refl _ _).alloc (Nat.le_refl _) _
  have a0 : W0.cell? ⟨W.heap.size, 0, none⟩ = some (.slice ax n cx) := by rw [hW0]; go_simp
  have a1 : W0.cell? ⟨W.heap.size, 1, none⟩ = some (.slice ay m cy) := by rw [hW0]; go_simp
  have HCP := Lib.hid (copy_any W0 n m _ _ l q (hr.below hb0) (hq.below hb0) hn hm)
  have HWA : Hid (∀ w, Below W0.heap.size W0 w → ∀ (a1 : Option Addr) (c1 : Nat) (a2 : Option Addr) (c2 : Nat), Rd w 3 n (.slice a1 n c1) (lkc l) → Rd w 3 m (.slice a2 m c2) (lkc q) → Calls Tryd.prog 6 #[.agg #[.slice a1 n c1, .slice a2 m c2]] w fun e w' => e = .returned (.tuple #[.int .i64 V, .int .i64 r]) ∧ Below w.heap.size w w') := fun w hw a1 c1 a2 c2 g1 g2 => by
    have := victim_any w (hL.1.below (into hb0 hw)) (hL.2.below (into hb0 hw)) n m _ _ l q g1 g2 (by omega) (by omega)
    unfold VicIs at this
    rw [← hV, ← hrr] at this
    exact this
  have HWD : Hid (∀ w, Below W0.heap.size W0 w → Calls Tryd.prog 8 #[.agg #[.slice ax n cx, .slice ay m cy]] w fun e w' => e = .returned (.tuple #[.int .i64 V, .int .i64 r]) ∧ Below w.heap.size w w') := fun w hw => by
    have := dvo_any w n m _ _ l q (hr.below (into hb0 hw)) (hq.below (into hb0 hw)) (by omega) (by omega)
    unfold VicIs at this
    rw [← hV, ← hrr] at this
    exact this
  have HX := Lib.hid (And.intro a0 a1)
  have HW0 := Lib.hid hW0
  have HB0 := Lib.hid hb0
  clear hL hr hq hs ht hW0 hb0 hV hrr
  go_enter Tryd.func3, Tryd.ntmps3
  go_wp2_with fail
  rw [← HW0.out]
  refine HCP.out.mono ?_
  rintro e w1 ⟨a1', c1', a2', c2', rfl, g1, g2, hb1⟩
  have HCW := Lib.hid (HWA.out w1 hb1 _ _ _ _ g1 g2)
  have HB1 := Lib.hid hb1
  clear a0 a1 g1 g2 hb1
  go_wp2_with fail
  refine HCW.out.mono ?_
  rintro e w2 ⟨rfl, hb2⟩
  have HB2 := Lib.hid (into HB1.out hb2)
  have a0 := cell_of_below HB2.out HX.out.1
  have a1 := cell_of_below HB2.out HX.out.2
  have HCD := Lib.hid (HWD.out w2 HB2.out)
  clear hb2
  go_wp2_with fail
  refine HCD.out.mono ?_
  rintro e w3 ⟨rfl, hb3⟩
  have HB3 := Lib.hid (into (into HB0.out HB2.out) hb3)
  clear hb3 a0 a1
  go_wp2_with fail
  go_ret
  exact ⟨by simp, HB3.out⟩

set_option maxRecDepth 100000 in
theorem lifted (os : Os) (started : os.Started) (H : Type) (enc : TypeId × Value → H) :
    ReturnsInHanded {} Tryd.checked os 3 .any (fun w args => (Rows.lockVictimsSpec.pre enc Tryd.prog Tryd.f3 [] false w args ∧ laidTJ w) ∧ sizedMet enc Tryd.prog Tryd.f3 (OpenSpec.ofChange Rows.lockVictimsSpec) false w args) (Rows.lockVictimsSpec.post enc Tryd.prog Tryd.f3 false true false false) := by
  refine returnsInHanded_of_change_and (C := Tryd.checked) (X := fun w _ => laidTJ w) (fun _ _ _ hh h => h.of_heap hh) Tryd.own started (by kernel_rfl) Tryd.func3
    (ChangeSpec.witness_at (enc := enc) (C := Tryd.checked) (os := os) (X := fun w _ => laidTJ w) false (tabled os) #[.agg #[.slice none 0 0, .slice none 0 0]] 8 rfl (by kernel_rfl) (by kernel_rfl) (by kernel_rfl) (by kernel_rfl) (by kernel_rfl) (tabled_laidTJ os _)) ?_
  intro W base args ds gs before hval0 hW hcnd hsz0 hL _
  have hsz : (DataW.weightsEach Tryd.prog (Tryd.f3.params.toList ++ Rows.lockVictimsSpec.plain.varTypes Tryd.prog) (ds ++ gs)).all (· ≤ reachBytes) = true := hsz0
  have hval : ∀ (j : Nat) t v, Tryd.f3.params[j]? = some t → args[j]? = some v → Value.okWide Tryd.prog W .any base t v := hval0
  have hW' := hW
  obtain ⟨p, q, hA0, hV, rfl, hfz, hnd⟩ := hW
  have hA : DataW.TrodAll enc Tryd.prog W 0 (fun _ => true) true Tryd.f3.params.toList args.toList ds p := hA0
  rw [Tryd.params3] at hA hval hsz
  obtain ⟨v0, d0, rfl, rfl, h0⟩ := trodAll_one hA
  obtain ⟨rfl, rfl⟩ := trodVars_none hV
  have sm0 : small Tryd.prog 24 d0 := fun q hq => by
    have := List.all_eq_true.1 hsz q (weights_each (j := 0) rfl rfl q hq)
    simpa using this
  obtain ⟨x0, y0, n0, m0, l0, q0, rfl, hr0, hq0, hz0, hs0, ht0⟩ := open_locks (hval 0 24 v0 rfl rfl) h0 sm0
  clear hA0 hval0
  refine (walk W (TJ_of hL) x0 y0 n0 m0 l0 q0 hr0 hq0 hz0 hs0 ht0).mono fun e W' ⟨he, hg⟩ => ?_
  subst he
  exact ⟨_, rfl, law_post (tb := 4) Tryd.laidOut (by kernel_rfl) (by kernel_rfl) Tryd.underlying4 rfl hW' hg rfl rfl rfl⟩

theorem bare : Rows.LockVictimsSaid :=
  OpenClaim.holds_of_wide 3 Tryd.f3 rfl rfl rfl rfl rfl rfl rfl ⟨rfl, rfl, rfl, rfl, rfl⟩ rfl rfl rfl rfl rfl (by kernel_rfl) Tryd.func3 (by kernel_rfl)
    (of_decide_eq_true (by kernel_rfl)) (by unfold Func.isWrapper; first | (rw [if_pos (by decide +kernel)]; kernel_rfl) | (rw [if_neg (by decide +kernel)]; exact ⟨rfl, rfl⟩))
    (fun os started H enc _ => lifted os started H enc)
/-- The card: the row's one listed variable is tied to the program's text. -/
theorem proved : Rows.LockVictimsCardSaid :=
  Claim7.holds_tied_plain_at .later [] [.data, .data] true _ false bare (fun _ h => by cases h) (by kernel_rfl) (fun _ h => by cases h) lockVictims_row_tie rfl ⟨rfl, rfl⟩ (by kernel_rfl) rfl
    (fun f fn hf hfn => by
      obtain rfl : f = 3 := Option.some.inj ((show Tryd.prog.funcNamed "padlock/padlocklaw.LockVictims" = some 3 by kernel_rfl).symm.trans hf) |>.symm
      obtain rfl : fn = Tryd.f3 := (Option.some.inj (Tryd.func3.symm.trans hfn)).symm
      refine ⟨by kernel_rfl, fun j t ht => ?_⟩
      rw [Tryd.params3] at ht
      rcases j with _ | j <;> simp at ht <;> subst ht <;> kernel_rfl)
    (by kernel_rfl)
#print axioms proved
end Go.Proofs.YtpddlckkncmlmabDoor.lLockVictims
