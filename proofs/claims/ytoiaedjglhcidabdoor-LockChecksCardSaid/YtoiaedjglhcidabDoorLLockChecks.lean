/- What locks lack: the program answers as the document does, at every argument, and changes none of them. The row lists the program's two tables; the card ties them to the program's text. -/
import Derived.Test.YtoiaedjglhcidabDoorJl
import Derived.Test.YtoiaedjglhcidabDoorB2
import Derived.Test.YtoiaedjglhcidabDoorNm
import Derived.Test.YtoiaedjglhcidabDoorNh
import Derived.Test.YtoiaedjglhcidabDoorNk
import Derived.Test.YtoiaedjglhcidabDoorNo
import Derived.Test.YtoiaedjglhcidabDoorNp
namespace Go.Proofs.YtoiaedjglhcidabDoor.lLockChecks
open Go.ChangeShapes Go.WideShapes Go.ChangeAt Go.RowKit Go.Joins
open Go.ChangeMaps (open_string shut_string)
set_option linter.unusedVariables false
set_option linter.unusedSimpArgs false
set_option maxHeartbeats 400000

set_option maxRecDepth 100000 in
set_option maxHeartbeats 4000000 in
theorem walk (W : World) (hL : Tog W ∧ Jnd W) (x y : Value) (n m : Nat) (l q : List Lk) (hr : Rd W 3 n x (lkc l)) (hq : Rd W 3 m y (lkc q)) (hz : n * 32 ≤ 140737488351232 ∧ m * 32 ≤ 140737488351232) (hs : ∀ o ∈ l, LkOk o) (ht : ∀ o ∈ q, LkOk o) :
    Calls Tryd.prog 3 #[.agg #[x, y]] W fun e w' => e = .returned (.bool true) ∧ Below W.heap.size W w' := by
  obtain ⟨hn, hm⟩ := hz
  obtain ⟨_, ax, cx, rfl, _⟩ := id hr
  obtain ⟨_, ay, cy, rfl, _⟩ := id hq
  obtain ⟨W0, hW0⟩ : ∃ W0 : World, W0 = W.alloc (.cells #[.slice ax n cx, .slice ay m cy] 24) := ⟨_, rfl⟩
  have hb0 : Below W.heap.size W W0 := by rw [hW0]; exact (Below.refl _ _).alloc (Nat.le_refl _) _
  have a0 : W0.cell? ⟨W.heap.size, 0, none⟩ = some (.slice ax n cx) := by rw [hW0]; go_simp
  have a1 : W0.cell? ⟨W.heap.size, 1, none⟩ = some (.slice ay m cy) := by rw [hW0]; go_simp
  have hcp := copy_any W0 n m _ _ l q (hr.below hb0) (hq.below hb0) hn hm
  have HT := Lib.hid hL
  have HR := Lib.hid hr
  have HQ := Lib.hid hq
  have HW0 := Lib.hid hW0
  have HB0 := Lib.hid hb0
  have HA := Lib.hid (And.intro a0 a1)
  have HCP := Lib.hid hcp
  obtain ⟨r, hrr⟩ : ∃ r, r = lksF l q := ⟨_, rfl⟩
  have HE := Lib.hid hrr
  clear hL hr hq hs ht hW0 hb0 hcp hrr
  go_enter Tryd.func3, Tryd.ntmps3
  go_wp2_with fail
  rw [← HW0.out]
  refine HCP.out.mono ?_
  rintro e w1 ⟨a1', c1', a2', c2', rfl, g1, g2, hb1⟩
  clear a0 a1
  obtain ⟨W1, hW1⟩ : ∃ W1 : World, W1 = w1.alloc (.cells #[.slice a1' n c1', .slice a2' m c2'] 24) := ⟨_, rfl⟩
  have hb2 : Below w1.heap.size w1 W1 := by rw [hW1]; exact (Below.refl _ _).alloc (Nat.le_refl _) _
  have k0 : W1.cell? ⟨w1.heap.size, 0, none⟩ = some (.slice a1' n c1') := by rw [hW1]; go_simp
  have k1 : W1.cell? ⟨w1.heap.size, 1, none⟩ = some (.slice a2' m c2') := by rw [hW1]; go_simp
  have HW1 := Lib.hid hW1
  have HK := Lib.hid (And.intro k0 k1)
  have HG := Lib.hid (And.intro (g1.below hb2) (g2.below hb2))
  have HB1 := Lib.hid (hb1.trans (hb2.mono hb1.size))
  have hbw : Below W.heap.size W W1 := into HB0.out HB1.out
  have HBW := Lib.hid hbw
  have hck := check_any W1 (HT.out.1.below hbw) (HT.out.2.below hbw) n m _ _ l q HG.out.1 HG.out.2 (by omega) (by omega)
  rw [← HE.out] at hck
  have HCK := Lib.hid hck
  clear hW1 g1 g2 hb1 hb2 hbw hck
  go_wp2_with fail
  rw [← HW1.out]
  refine HCK.out.mono ?_
  rintro e w2 ⟨rfl, hb3⟩
  have z0 := cell_of_below (into HB1.out hb3) HA.out.1
  have z1 := cell_of_below (into HB1.out hb3) HA.out.2
  have HB3 := Lib.hid hb3
  have hft := fault_any w2 n m _ _ l q (HR.out.below (into HBW.out hb3)) (HQ.out.below (into HBW.out hb3)) (by omega) (by omega)
  rw [lks_same, ← HE.out] at hft
  have HFT := Lib.hid hft
  clear hb3 hft k0 k1
  go_wp2_with fail
  refine HFT.out.mono ?_
  rintro e w3 ⟨rfl, hb4⟩
  have hb5 := into HB3.out hb4
  have z0 := cell_of_below (into HB1.out hb5) HA.out.1
  have z1 := cell_of_below (into HB1.out hb5) HA.out.2
  have k0 := cell_of_below hb5 HK.out.1
  have k1 := cell_of_below hb5 HK.out.2
  have HSL := Lib.hid (sl_any w3 n m _ _ _ _ l q (HG.out.1.below hb5) (HG.out.2.below hb5) (HR.out.below (into HBW.out hb5)) (HQ.out.below (into HBW.out hb5)) (by omega) (by omega))
  have HB5 := Lib.hid (into HBW.out hb5)
  clear hb4 hb5
  go_wp2_with fail
  refine HSL.out.mono ?_
  rintro e w4 ⟨rfl, hb6⟩
  have HB6 := Lib.hid (into HB5.out hb6)
  clear hb6
  go_wp2_with fail
  go_ret
  exact ⟨rfl, HB6.out⟩

set_option maxRecDepth 100000 in
theorem lifted (os : Os) (started : os.Started) (H : Type) (enc : TypeId × Value → H) :
    ReturnsInHanded {} Tryd.checked os 3 .any (fun w args => (Rows.lockChecksSpec.pre enc Tryd.prog Tryd.f3 [] false w args ∧ laidTJ w) ∧ sizedMet enc Tryd.prog Tryd.f3 (OpenSpec.ofChange Rows.lockChecksSpec) false w args) (Rows.lockChecksSpec.post enc Tryd.prog Tryd.f3 false true false false) := by
  refine returnsInHanded_of_change_and (C := Tryd.checked) (X := fun w _ => laidTJ w) (fun _ _ _ hh h => h.of_heap hh) Tryd.own started (by kernel_rfl) Tryd.func3
    (ChangeSpec.witness_at (enc := enc) (C := Tryd.checked) (os := os) (X := fun w _ => laidTJ w) false (tabled os) #[.agg #[.slice none 0 0, .slice none 0 0]] 8 rfl (by kernel_rfl) (by kernel_rfl) (by kernel_rfl) (by kernel_rfl) (by kernel_rfl) (tabled_laidTJ os _)) ?_
  intro W base args ds gs before hval0 hW hcnd hsz0 hL _
  have hsz : (DataW.weightsEach Tryd.prog (Tryd.f3.params.toList ++ Rows.lockChecksSpec.plain.varTypes Tryd.prog) (ds ++ gs)).all (· ≤ reachBytes) = true := hsz0
  have hval : ∀ (j : Nat) t v, Tryd.f3.params[j]? = some t → args[j]? = some v → Value.okWide Tryd.prog W .any base t v := hval0
  have hW' := hW
  obtain ⟨p, q, hA0, hV, rfl, hfz, hnd⟩ := hW
  have hA : DataW.TrodAll enc Tryd.prog W 0 (fun _ => true) true Tryd.f3.params.toList args.toList ds p := hA0
  rw [Tryd.params3] at hA hval hsz
  obtain ⟨v0, d0, rfl, rfl, h0⟩ := trodAll_one hA
  obtain ⟨rfl, rfl⟩ := trodVars_none hV
  have sm0 : small Tryd.prog 24 d0 := fun q hq => by
    have := List.all_eq_true.1 hsz q (weights_each (j := 0) rfl rfl q hq)
    simpa using this
  obtain ⟨x0, y0, n0, m0, l0, q0, rfl, hr0, hq0, hz0, hs0, ht0⟩ := open_locks (hval 0 24 v0 rfl rfl) h0 sm0
  clear hA0 hval0
  refine (walk W (TJ_of hL) x0 y0 n0 m0 l0 q0 hr0 hq0 hz0 hs0 ht0).mono fun e W' ⟨he, hg⟩ => ?_
  subst he
  exact ⟨_, rfl, law_post (tb := 4) Tryd.laidOut (by kernel_rfl) (by kernel_rfl) Tryd.underlying4 rfl hW' hg rfl rfl rfl⟩

theorem bare : Rows.LockChecksSaid :=
  OpenClaim.holds_of_wide 3 Tryd.f3 rfl rfl rfl rfl rfl rfl rfl ⟨rfl, rfl, rfl, rfl, rfl⟩ rfl rfl rfl rfl rfl (by kernel_rfl) Tryd.func3 (by kernel_rfl)
    (of_decide_eq_true (by kernel_rfl)) (by unfold Func.isWrapper; first | (rw [if_pos (by decide +kernel)]; kernel_rfl) | (rw [if_neg (by decide +kernel)]; exact ⟨rfl, rfl⟩))
    (fun os started H enc _ => lifted os started H enc)
/-- The card: the row's one listed variable is tied to the program's text. -/
theorem proved : Rows.LockChecksCardSaid :=
  Claim7.holds_tied_plain_at .later [] [.data, .data] true _ false bare (fun _ h => by cases h) (by kernel_rfl) (fun _ h => by cases h) lockChecks_row_tie rfl ⟨rfl, rfl⟩ (by kernel_rfl) rfl
    (fun f fn hf hfn => by
      obtain rfl : f = 3 := Option.some.inj ((show Tryd.prog.funcNamed "padlock/padlocklaw.LockChecks" = some 3 by kernel_rfl).symm.trans hf) |>.symm
      obtain rfl : fn = Tryd.f3 := (Option.some.inj (Tryd.func3.symm.trans hfn)).symm
      refine ⟨by kernel_rfl, fun j t ht => ?_⟩
      rw [Tryd.params3] at ht
      rcases j with _ | j <;> simp at ht <;> subst ht <;> kernel_rfl)
    (by kernel_rfl)
#print axioms proved
end Go.Proofs.YtoiaedjglhcidabDoor.lLockChecks
