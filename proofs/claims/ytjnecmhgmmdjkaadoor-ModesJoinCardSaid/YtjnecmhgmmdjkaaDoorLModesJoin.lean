/- The least mode that is both goes together with just what both go with, and it is the same in any order: at every three raw numbers. No condition. -/
import Derived.Test.YtjnecmhgmmdjkaaDoorJl
import Derived.Test.YtjnecmhgmmdjkaaDoorJe
import Derived.Test.YtjnecmhgmmdjkaaDoorKp
namespace Go.Proofs.YtjnecmhgmmdjkaaDoor.lModesJoin
open Go.ChangeShapes Go.WideShapes Go.ChangeAt Go.RowKit Go.Joins
open Go.ChangeMaps (open_string shut_string)
set_option linter.unusedVariables false
set_option linter.unusedSimpArgs false
set_option maxHeartbeats 400000

theorem core (x y z m n o j p q : Int) (wx : Rn x) (wy : Rn y) (wz : Rn z) (hx : Hid (pck x 5 = m - 1)) (hy : Hid (pck y 5 = n - 1)) (hz : Hid (pck z 5 = o - 1)) (s t : Bool) (W : World) (hm1 : 1 ≤ m) (hm5 : m ≤ 5) (hn1 : 1 ≤ n) (hn5 : n ≤ 5) (ho1 : 1 ≤ o) (ho5 : o ≤ 5)
    (c1 : Hid (Calls Tryd.prog 25 #[.int .i64 m, .int .i64 n] W fun e w' => e = .returned (.tuple #[.int .i64 j, .int .i64 0]) ∧ W = w'))
    (c2 : Hid (Calls Tryd.prog 25 #[.int .i64 n, .int .i64 m] W fun e w' => e = .returned (.tuple #[.int .i64 j, .int .i64 0]) ∧ W = w'))
    (c3 : Hid (Calls Tryd.prog 25 #[.int .i64 j, .int .i64 o] W fun e w' => e = .returned (.tuple #[.int .i64 p, .int .i64 0]) ∧ W = w'))
    (c4 : Hid (Calls Tryd.prog 25 #[.int .i64 n, .int .i64 o] W fun e w' => e = .returned (.tuple #[.int .i64 q, .int .i64 0]) ∧ W = w'))
    (c5 : Hid (Calls Tryd.prog 25 #[.int .i64 m, .int .i64 q] W fun e w' => e = .returned (.tuple #[.int .i64 p, .int .i64 0]) ∧ W = w'))
    (c6 : Hid (Calls Tryd.prog 25 #[.int .i64 m, .int .i64 m] W fun e w' => e = .returned (.tuple #[.int .i64 m, .int .i64 0]) ∧ W = w'))
    (c7 : Hid (Calls Tryd.prog 23 #[.int .i64 j, .int .i64 o] W fun e w' => e = .returned (.tuple #[.bool (s && t), .int .i64 0]) ∧ W = w'))
    (c8 : Hid (Calls Tryd.prog 23 #[.int .i64 m, .int .i64 o] W fun e w' => e = .returned (.tuple #[.bool s, .int .i64 0]) ∧ W = w'))
    (c9 : Hid (Calls Tryd.prog 23 #[.int .i64 n, .int .i64 o] W fun e w' => e = .returned (.tuple #[.bool t, .int .i64 0]) ∧ W = w')) :
    Calls Tryd.prog 11 #[.int .i64 x, .int .i64 y, .int .i64 z] W fun e w' => e = .returned (.bool true) ∧ Below W.heap.size W w' := by
  have p1 : Hid (Calls Tryd.prog 41 #[.int .i64 x, .int .i64 5] W fun e w' => e = .returned (.int .i64 (m - 1)) ∧ W = w') := by
    have := pck_any x 5 W wx (by omega) (by omega)
    rw [hx.out] at this; exact this
  have p2 : Hid (Calls Tryd.prog 41 #[.int .i64 y, .int .i64 5] W fun e w' => e = .returned (.int .i64 (n - 1)) ∧ W = w') := by
    have := pck_any y 5 W wy (by omega) (by omega)
    rw [hy.out] at this; exact this
  have p3 : Hid (Calls Tryd.prog 41 #[.int .i64 z, .int .i64 5] W fun e w' => e = .returned (.int .i64 (o - 1)) ∧ W = w') := by
    have := pck_any z 5 W wz (by omega) (by omega)
    rw [hz.out] at this; exact this
  have s1 : 1 + (m - 1) = m := by omega
  have s2 : 1 + (n - 1) = n := by omega
  have s3 : 1 + (o - 1) = o := by omega
  go_enter Tryd.func11, Tryd.ntmps11
  go_wp2_with (first | (go_at_call 41; ((with_reducible refine p1.out.mono ?_); rintro e w' ⟨rfl, rfl⟩)) | (go_at_call 41; ((with_reducible refine p2.out.mono ?_); rintro e w' ⟨rfl, rfl⟩)) | (go_at_call 41; ((with_reducible refine p3.out.mono ?_); rintro e w' ⟨rfl, rfl⟩)) | (go_at_call 25; ((with_reducible refine c1.out.mono ?_); rintro e w' ⟨rfl, rfl⟩)) | (go_at_call 25; ((with_reducible refine c2.out.mono ?_); rintro e w' ⟨rfl, rfl⟩)) | (go_at_call 25; ((with_reducible refine c3.out.mono ?_); rintro e w' ⟨rfl, rfl⟩)) | (go_at_call 25; ((with_reducible refine c4.out.mono ?_); rintro e w' ⟨rfl, rfl⟩)) | (go_at_call 25; ((with_reducible refine c5.out.mono ?_); rintro e w' ⟨rfl, rfl⟩)) | (go_at_call 25; ((with_reducible refine c6.out.mono ?_); rintro e w' ⟨rfl, rfl⟩)) | (go_at_call 23; ((with_reducible refine c7.out.mono ?_); rintro e w' ⟨rfl, rfl⟩)) | (go_at_call 23; ((with_reducible refine c8.out.mono ?_); rintro e w' ⟨rfl, rfl⟩)) | (go_at_call 23; ((with_reducible refine c9.out.mono ?_); rintro e w' ⟨rfl, rfl⟩)))
  all_goals (
    go_ret
    exact ⟨rb (by simp), Below.refl _ _⟩)
theorem walk (W : World) (hTJ : Tog W ∧ Jnd W) (x : Int) (wx : (Lit.int .i64 x).wf = true) (y : Int) (wy : (Lit.int .i64 y).wf = true) (z : Int) (wz : (Lit.int .i64 z).wf = true) :
    Calls Tryd.prog 11 #[.int .i64 x, .int .i64 y, .int .i64 z] W fun e w' => e = .returned (.bool true) ∧ Below W.heap.size W w' := by
  obtain ⟨hT, hJ⟩ := hTJ
  obtain ⟨a1, a2⟩ := pck_in x 5 (by omega)
  obtain ⟨b1, b2⟩ := pck_in y 5 (by omega)
  obtain ⟨c1, c2⟩ := pck_in z 5 (by omega)
  obtain ⟨m, hm⟩ : ∃ m, m = 1 + pck x 5 := ⟨_, rfl⟩
  obtain ⟨n, hn⟩ : ∃ n, n = 1 + pck y 5 := ⟨_, rfl⟩
  obtain ⟨o, ho⟩ : ∃ o, o = 1 + pck z 5 := ⟨_, rfl⟩
  have ha : 1 ≤ m ∧ m ≤ 5 := by omega
  have hb : 1 ≤ n ∧ n ≤ 5 := by omega
  have hc : 1 ≤ o ∧ o ≤ 5 := by omega
  have hj := joi_in ha hb
  have hq := joi_in hb hc
  refine core x y z m n o (joi m n) (joi (joi m n) o) (joi n o) (rn_of wx) (rn_of wy) (rn_of wz) (by show pck x 5 = m - 1; omega) (by show pck y 5 = n - 1; omega) (by show pck z 5 = o - 1; omega) (tog m o) (tog n o) W ha.1 ha.2 hb.1 hb.2 hc.1 hc.2
    (join_ok W hJ ha hb) ?_ (join_ok W hJ hj hc) (join_ok W hJ hb hc) ?_ ?_ ?_ (fits_ok W hT ha hc) (fits_ok W hT hb hc)
  · have := join_ok W hJ hb ha
    rw [joi_comm hb ha] at this
    exact this
  · have := join_ok W hJ ha hq
    rw [← joi_three ha hb hc] at this
    exact this
  · have := join_ok W hJ ha ha
    rw [joi_same ha] at this
    exact this
  · have := fits_ok W hT hj hc
    rw [tog_joi ha hb hc] at this
    exact this

set_option maxRecDepth 100000 in
theorem lifted (os : Os) (started : os.Started) (H : Type) (enc : TypeId × Value → H) :
    ReturnsInHanded {} Tryd.checked os 11 .any (fun w args => (Rows.modesJoinSpec.pre enc Tryd.prog Tryd.f11 [] false w args ∧ laidTJ w) ∧ sizedMet enc Tryd.prog Tryd.f11 (OpenSpec.ofChange Rows.modesJoinSpec) false w args) (Rows.modesJoinSpec.post enc Tryd.prog Tryd.f11 false true false false) := by
  refine returnsInHanded_of_change_and (C := Tryd.checked) (X := fun w _ => laidTJ w) (fun _ _ _ hh h => h.of_heap hh) Tryd.own started (by kernel_rfl) Tryd.func11
    (ChangeSpec.witness_at (enc := enc) (C := Tryd.checked) (os := os) (X := fun w _ => laidTJ w) false (tabled os) #[.int .i64 0, .int .i64 0, .int .i64 0] 8 rfl (by kernel_rfl) (by kernel_rfl) (by kernel_rfl) (by kernel_rfl) (by kernel_rfl) (tabled_laidTJ os _)) ?_
  intro W base args ds gs before hval0 hW hcnd hsz0 hL _
  have hsz : (DataW.weightsEach Tryd.prog (Tryd.f11.params.toList ++ Rows.modesJoinSpec.plain.varTypes Tryd.prog) (ds ++ gs)).all (· ≤ reachBytes) = true := hsz0
  have hval : ∀ (j : Nat) t v, Tryd.f11.params[j]? = some t → args[j]? = some v → Value.okWide Tryd.prog W .any base t v := hval0
  have hW' := hW
  obtain ⟨p, q, hA0, hV, rfl, hfz, hnd⟩ := hW
  have hA : DataW.TrodAll enc Tryd.prog W 0 (fun _ => true) true Tryd.f11.params.toList args.toList ds p := hA0
  rw [Tryd.params11] at hA hval hsz
  obtain ⟨v0, v1, v2, d0, d1, d2, p0, p1, p2, rfl, rfl, rfl, h0, h1, h2⟩ := trodAll_three hA
  obtain ⟨rfl, rfl⟩ := trodVars_none hV
  obtain ⟨a0, rfl, rfl, rfl, w0⟩ := open_int Tryd.underlying3 (hval 0 3 v0 rfl rfl) h0
  obtain ⟨a1, rfl, rfl, rfl, w1⟩ := open_int Tryd.underlying3 (hval 1 3 v1 rfl rfl) h1
  obtain ⟨a2, rfl, rfl, rfl, w2⟩ := open_int Tryd.underlying3 (hval 2 3 v2 rfl rfl) h2
  clear hA0 hval0
  refine (walk W (TJ_of hL) a0 w0 a1 w1 a2 w2).mono fun e W' ⟨he, hg⟩ => ?_
  subst he
  exact ⟨_, rfl, law_post (tb := 4) Tryd.laidOut (by kernel_rfl) (by kernel_rfl) Tryd.underlying4 rfl hW' hg rfl rfl rfl⟩

theorem bare : Rows.ModesJoinSaid :=
  OpenClaim.holds_of_wide 11 Tryd.f11 rfl rfl rfl rfl rfl rfl rfl ⟨rfl, rfl, rfl, rfl, rfl⟩ rfl rfl rfl rfl rfl (by kernel_rfl) Tryd.func11 (by kernel_rfl)
    (of_decide_eq_true (by kernel_rfl)) (by unfold Func.isWrapper; first | (rw [if_pos (by decide +kernel)]; kernel_rfl) | (rw [if_neg (by decide +kernel)]; exact ⟨rfl, rfl⟩))
    (fun os started H enc _ => lifted os started H enc)
/-- The card: the row's one listed variable is tied to the program's text. -/
theorem proved : Rows.ModesJoinCardSaid :=
  Claim7.holds_tied_plain_at .later [] [.data, .data] true _ false bare (fun _ h => by cases h) (by kernel_rfl) (fun _ h => by cases h) modesJoin_row_tie rfl ⟨rfl, rfl⟩ (by kernel_rfl) rfl
    (fun f fn hf hfn => by
      obtain rfl : f = 11 := Option.some.inj ((show Tryd.prog.funcNamed "padlock/padlockkeep.ModesJoin" = some 11 by kernel_rfl).symm.trans hf) |>.symm
      obtain rfl : fn = Tryd.f11 := (Option.some.inj (Tryd.func11.symm.trans hfn)).symm
      refine ⟨by kernel_rfl, fun j t ht => ?_⟩
      rw [Tryd.params11] at ht
      rcases j with _ | _ | _ | j <;> simp at ht <;> subst ht <;> kernel_rfl)
    (by kernel_rfl)
#print axioms proved
end Go.Proofs.YtjnecmhgmmdjkaaDoor.lModesJoin
