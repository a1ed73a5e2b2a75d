/- Whether two modes go together does not hang on which comes first; X goes with none, IS with all others: at every two raw numbers. No condition. -/
import Derived.Test.YtjnecmhgmmdjkaaDoorJl
import Derived.Test.YtjnecmhgmmdjkaaDoorJe
import Derived.Test.YtjnecmhgmmdjkaaDoorKp
namespace Go.Proofs.YtjnecmhgmmdjkaaDoor.lModesEven
open Go.ChangeShapes Go.WideShapes Go.ChangeAt Go.RowKit Go.Joins
open Go.ChangeMaps (open_string shut_string)
set_option linter.unusedVariables false
set_option linter.unusedSimpArgs false
set_option maxHeartbeats 400000

theorem core (x y m n : Int) (hx : Hid (pck x 5 = m - 1)) (hy : Hid (pck y 5 = n - 1)) (wx : Rn x) (wy : Rn y) (t : Bool) (q : Bool) (W : World) (hm1 : 1 ≤ m) (hm5 : m ≤ 5) (hn1 : 1 ≤ n) (hn5 : n ≤ 5)
    (c1 : Hid (Calls Tryd.prog 23 #[.int .i64 m, .int .i64 n] W fun e w' => e = .returned (.tuple #[.bool t, .int .i64 0]) ∧ W = w'))
    (c2 : Hid (Calls Tryd.prog 23 #[.int .i64 n, .int .i64 m] W fun e w' => e = .returned (.tuple #[.bool t, .int .i64 0]) ∧ W = w'))
    (c3 : Hid (Calls Tryd.prog 23 #[.int .i64 m, .int .i64 5] W fun e w' => e = .returned (.tuple #[.bool false, .int .i64 0]) ∧ W = w'))
    (c4 : Hid (Calls Tryd.prog 23 #[.int .i64 1, .int .i64 m] W fun e w' => e = .returned (.tuple #[.bool q, .int .i64 0]) ∧ W = w'))
    (c5 : Hid (Calls Tryd.prog 23 #[.int .i64 0, .int .i64 m] W fun e w' => e = .returned (.tuple #[.bool false, .int .i64 2]) ∧ W = w')) (hq : Hid (q = !decide (m = 5))) :
    Calls Tryd.prog 10 #[.int .i64 x, .int .i64 y] W fun e w' => e = .returned (.bool true) ∧ Below W.heap.size W w' := by
  have p1 : Hid (Calls Tryd.prog 41 #[.int .i64 x, .int .i64 5] W fun e w' => e = .returned (.int .i64 (m - 1)) ∧ W = w') := by
    have := pck_any x 5 W wx (by omega) (by omega)
    rw [hx.out] at this; exact this
  have p2 : Hid (Calls Tryd.prog 41 #[.int .i64 y, .int .i64 5] W fun e w' => e = .returned (.int .i64 (n - 1)) ∧ W = w') := by
    have := pck_any y 5 W wy (by omega) (by omega)
    rw [hy.out] at this; exact this
  have s1 : 1 + (m - 1) = m := by omega
  have s2 : 1 + (n - 1) = n := by omega
  go_enter Tryd.func10, Tryd.ntmps10
  go_wp2_with (first | (go_at_call 41; ((with_reducible refine p1.out.mono ?_); rintro e w' ⟨rfl, rfl⟩)) | (go_at_call 41; ((with_reducible refine p2.out.mono ?_); rintro e w' ⟨rfl, rfl⟩)) | (go_at_call 23; ((with_reducible refine c1.out.mono ?_); rintro e w' ⟨rfl, rfl⟩)) | (go_at_call 23; ((with_reducible refine c2.out.mono ?_); rintro e w' ⟨rfl, rfl⟩)) | (go_at_call 23; ((with_reducible refine c3.out.mono ?_); rintro e w' ⟨rfl, rfl⟩)) | (go_at_call 23; ((with_reducible refine c4.out.mono ?_); rintro e w' ⟨rfl, rfl⟩)) | (go_at_call 23; ((with_reducible refine c5.out.mono ?_); rintro e w' ⟨rfl, rfl⟩)))
  go_ret
  refine ⟨rb ?_, Below.refl _ _⟩
  rw [hq.out]
  rcases Decidable.em (m = 5) with h5 | h5 <;> simp [h5]
theorem walk (W : World) (hT : Tog W) (x : Int) (wx : (Lit.int .i64 x).wf = true) (y : Int) (wy : (Lit.int .i64 y).wf = true) :
    Calls Tryd.prog 10 #[.int .i64 x, .int .i64 y] W fun e w' => e = .returned (.bool true) ∧ Below W.heap.size W w' := by
  obtain ⟨a1, a2⟩ := pck_in x 5 (by omega)
  obtain ⟨b1, b2⟩ := pck_in y 5 (by omega)
  have ha : 1 ≤ 1 + pck x 5 ∧ 1 + pck x 5 ≤ 5 := by omega
  have hb : 1 ≤ 1 + pck y 5 ∧ 1 + pck y 5 ≤ 5 := by omega
  refine core x y (1 + pck x 5) (1 + pck y 5) (by show pck x 5 = 1 + pck x 5 - 1; omega) (by show pck y 5 = 1 + pck y 5 - 1; omega) (rn_of wx) (rn_of wy) (tog (1 + pck x 5) (1 + pck y 5)) _ W ha.1 ha.2 hb.1 hb.2
    (fits_ok W hT ha hb) ?_ ?_ (fits_ok W hT (by omega) ha) (fits_bad W hT (by omega)) (tog_is1 ha)
  · have := fits_ok W hT hb ha
    rw [← tog_comm ha hb] at this
    exact this
  · have := fits_ok W hT ha (by omega : (1 : Int) ≤ 5 ∧ (5 : Int) ≤ 5)
    rw [tog_x ha] at this
    exact this

set_option maxRecDepth 100000 in
theorem lifted (os : Os) (started : os.Started) (H : Type) (enc : TypeId × Value → H) :
    ReturnsInHanded {} Tryd.checked os 10 .any (fun w args => (Rows.modesEvenSpec.pre enc Tryd.prog Tryd.f10 [] false w args ∧ laidT w) ∧ sizedMet enc Tryd.prog Tryd.f10 (OpenSpec.ofChange Rows.modesEvenSpec) false w args) (Rows.modesEvenSpec.post enc Tryd.prog Tryd.f10 false true false false) := by
  refine returnsInHanded_of_change_and (C := Tryd.checked) (X := fun w _ => laidT w) (fun _ _ _ hh h => h.of_heap hh) Tryd.own started (by kernel_rfl) Tryd.func10
    (ChangeSpec.witness_at (enc := enc) (C := Tryd.checked) (os := os) (X := fun w _ => laidT w) false (tabled os) #[.int .i64 0, .int .i64 0] 8 rfl (by kernel_rfl) (by kernel_rfl) (by kernel_rfl) (by kernel_rfl) (by kernel_rfl) (tabled_laidT os _)) ?_
  intro W base args ds gs before hval0 hW hcnd hsz0 hL _
  have hsz : (DataW.weightsEach Tryd.prog (Tryd.f10.params.toList ++ Rows.modesEvenSpec.plain.varTypes Tryd.prog) (ds ++ gs)).all (· ≤ reachBytes) = true := hsz0
  have hval : ∀ (j : Nat) t v, Tryd.f10.params[j]? = some t → args[j]? = some v → Value.okWide Tryd.prog W .any base t v := hval0
  have hW' := hW
  obtain ⟨p, q, hA0, hV, rfl, hfz, hnd⟩ := hW
  have hA : DataW.TrodAll enc Tryd.prog W 0 (fun _ => true) true Tryd.f10.params.toList args.toList ds p := hA0
  rw [Tryd.params10] at hA hval hsz
  obtain ⟨v0, v1, d0, d1, p0, p1, rfl, rfl, rfl, h0, h1⟩ := trodAll_two hA
  obtain ⟨rfl, rfl⟩ := trodVars_none hV
  obtain ⟨a0, rfl, rfl, rfl, w0⟩ := open_int Tryd.underlying3 (hval 0 3 v0 rfl rfl) h0
  obtain ⟨a1, rfl, rfl, rfl, w1⟩ := open_int Tryd.underlying3 (hval 1 3 v1 rfl rfl) h1
  clear hA0 hval0
  refine (walk W (T_of hL) a0 w0 a1 w1).mono fun e W' ⟨he, hg⟩ => ?_
  subst he
  exact ⟨_, rfl, law_post (tb := 4) Tryd.laidOut (by kernel_rfl) (by kernel_rfl) Tryd.underlying4 rfl hW' hg rfl rfl rfl⟩

theorem bare : Rows.ModesEvenSaid :=
  OpenClaim.holds_of_wide 10 Tryd.f10 rfl rfl rfl rfl rfl rfl rfl ⟨rfl, rfl, rfl, rfl, rfl⟩ rfl rfl rfl rfl rfl (by kernel_rfl) Tryd.func10 (by kernel_rfl)
    (of_decide_eq_true (by kernel_rfl)) (by unfold Func.isWrapper; first | (rw [if_pos (by decide +kernel)]; kernel_rfl) | (rw [if_neg (by decide +kernel)]; exact ⟨rfl, rfl⟩))
    (fun os started H enc _ => lifted os started H enc)
/-- The card: the row's one listed variable is tied to the program's text. -/
theorem proved : Rows.ModesEvenCardSaid :=
  Claim7.holds_tied_plain_at .later [] [.data] true _ false bare (fun _ h => by cases h) (by kernel_rfl) (fun _ h => by cases h) modesEven_row_tie rfl ⟨rfl, rfl⟩ (by kernel_rfl) rfl
    (fun f fn hf hfn => by
      obtain rfl : f = 10 := Option.some.inj ((show Tryd.prog.funcNamed "padlock/padlockkeep.ModesEven" = some 10 by kernel_rfl).symm.trans hf) |>.symm
      obtain rfl : fn = Tryd.f10 := (Option.some.inj (Tryd.func10.symm.trans hfn)).symm
      refine ⟨by kernel_rfl, fun j t ht => ?_⟩
      rw [Tryd.params10] at ht
      rcases j with _ | _ | j <;> simp at ht <;> subst ht <;> kernel_rfl)
    (by kernel_rfl)
#print axioms proved
end Go.Proofs.YtjnecmhgmmdjkaaDoor.lModesEven
