/- Who has a thing alone may have more of it at once, even if others wait: at every three raw numbers. The row lists the program's two tables; the card ties them to the program's text. -/
import Derived.Test.YtlggmdeoninkmaaDoorJl
import Derived.Test.YtlggmdeoninkmaaDoorMt
import Derived.Test.YtlggmdeoninkmaaDoorMe
import Derived.Test.YtlggmdeoninkmaaDoorJq
import Derived.Test.YtlggmdeoninkmaaDoorKp
namespace Go.Proofs.YtlggmdeoninkmaaDoor.lAskMore
open Go.ChangeShapes Go.WideShapes Go.ChangeAt Go.RowKit Go.Joins
open Go.ChangeMaps (open_string shut_string)
set_option linter.unusedVariables false
set_option linter.unusedSimpArgs false
set_option maxHeartbeats 400000

set_option maxRecDepth 100000 in
set_option maxHeartbeats 8000000 in
theorem walk (W : World) (hL : Tog W ∧ Jnd W) (x : Int) (wx : (Lit.int .i64 x).wf = true) (y : Int) (wy : (Lit.int .i64 y).wf = true) (z : Int) (wz : (Lit.int .i64 z).wf = true) : Calls Tryd.prog 4 #[.int .i64 x, .int .i64 y, .int .i64 z] W fun e w' => e = .returned (.bool true) ∧ Below W.heap.size W w' := by
  have HT := Lib.hid hL
  obtain ⟨p1, p2⟩ := pck_in x 4 (by omega)
  obtain ⟨q1, q2⟩ := pck_in y 5 (by omega)
  obtain ⟨r1, r2⟩ := pck_in z 2 (by omega)
  have hpx := fun W => pck_any x 4 W (rn_of wx) (by omega) (by omega)
  have hpy := fun W => pck_any y 5 W (rn_of wy) (by omega) (by omega)
  have hpz := fun W => pck_any z 2 W (rn_of wz) (by omega) (by omega)
  obtain ⟨m, hm⟩ : ∃ m, m = 1 + pck x 4 := ⟨_, rfl⟩
  obtain ⟨n, hn⟩ : ∃ n, n = 1 + pck y 5 := ⟨_, rfl⟩
  have hm1 : 1 ≤ m ∧ m ≤ 4 := by omega
  have hn1 : 1 ≤ n ∧ n ≤ 5 := by omega
  have hjo := fun w (hw : Jnd w) => join_any w hw m n
  have hJ1 : joinV m n = joi m n := by unfold joinV; rw [(isM_iff (m := m)).2 (by omega), (isM_iff (m := n)).2 hn1]; rfl
  have hJ2 : kindE m n = 0 := by unfold kindE; rw [(isM_iff (m := m)).2 (by omega), (isM_iff (m := n)).2 hn1]; rfl
  rw [hJ1, hJ2] at hjo
  obtain ⟨a, ha⟩ : ∃ a, a = pck x 4 := ⟨_, rfl⟩
  obtain ⟨b, hb⟩ : ∃ b, b = pck y 5 := ⟨_, rfl⟩
  obtain ⟨c, hc⟩ : ∃ c, c = pck z 2 := ⟨_, rfl⟩
  rw [← ha] at hpx hm
  rw [← hb] at hpy hn
  rw [← hc] at hpz r1 r2
  have HPX := Lib.hid hpx
  have HPY := Lib.hid hpy
  have HPZ := Lib.hid hpz
  have HJO := Lib.hid hjo
  have hma : 1 + a = m := hm.symm
  have hnb : 1 + b = n := hn.symm
  have hc2 : c = 0 ∨ c = 1 := by omega
  clear hpx hpy hpz hjo p1 p2 q1 q2 r1 r2 hm hn ha hb hc hJ1 hJ2 hL
  go_enter Tryd.func4, Tryd.ntmps4
  go_wp2_with (first | (go_at_call 7; ((with_reducible refine (HPX.out _).mono ?_); rintro e w' ⟨rfl, rfl⟩)) | (go_at_call 7; ((with_reducible refine (HPY.out _).mono ?_); rintro e w' ⟨rfl, rfl⟩)))
  refine (ask_v W HT.out (Rd.nil _ _) (Rd.nil _ _) (by simp) (more_1 hm1)).mono ?_
  rintro e w1 ⟨x1, n1, c1, x2, n2, c2, rfl, g1, g2, hb1⟩
  have HB1 := Lib.hid hb1
  have hlb := LB.new w1 g1 g2
  have hT1 : Tog (w1.alloc (.cells #[.slice x1 n1 c1, .slice x2 n2 c2] 25)) ∧ Jnd (w1.alloc (.cells #[.slice x1 n1 c1, .slice x2 n2 c2] 25)) := by
    have hb2 : Below W.heap.size W (w1.alloc (.cells #[.slice x1 n1 c1, .slice x2 n2 c2] 25)) := hb1.alloc hb1.size _
    exact ⟨HT.out.1.below hb2, HT.out.2.below hb2⟩
  have hb2 : Below W.heap.size W (w1.alloc (.cells #[.slice x1 n1 c1, .slice x2 n2 c2] 25)) := hb1.alloc hb1.size _
  have hP : W.heap.size ≤ w1.heap.size := hb1.size
  have hask := ask_v _ hT1 hlb.h hlb.q (by simp) (more_2 hm1)
  obtain ⟨W2, hW2⟩ : ∃ W2, W2 = w1.alloc (.cells #[.slice x1 n1 c1, .slice x2 n2 c2] 25) := ⟨_, rfl⟩
  rw [← hW2] at hlb hb2 hask
  have HW2 := Lib.hid hW2
  have HLB := Lib.hid hlb
  have HB2 := Lib.hid hb2
  have HASK := Lib.hid hask
  clear g1 g2 hb1 hlb hT1 hb2 hask hW2
  go_wp2_with fail
  rw [← HW2.out]
  refine HASK.out.mono ?_
  rintro e w3 ⟨x3, n3, c3, x4, n4, c4, rfl, g1, g2, hb3⟩
  have hl3 := HLB.out.below hb3
  obtain ⟨e0, e1, f0, f1⟩ := box2 hl3.b
  have hl4 := hl3.put g1 g2
  have hb4 := put_below (into HB2.out hb3) hP (.slice x3 n3 c3) (.slice x4 n4 c4)
  obtain ⟨d0, d1, fd0, fd1⟩ := box2 hl4.b
  have HL4 := Lib.hid hl4
  have HB4 := Lib.hid hb4
  clear hl3 hl4 g1 g2 hb3 hb4
  rcases hc2 with rfl | rfl
  · go_wp2_with (go_at_call 7; ((with_reducible refine (HPZ.out _).mono ?_); rintro e w' ⟨rfl, rfl⟩))
    refine (leave_v _ ⟨HT.out.1.below HB4.out, HT.out.2.below HB4.out⟩ HL4.out.h HL4.out.q (by simp) (more_3 hm1)).mono ?_
    rintro e w5 ⟨x5, n5, c5, x6, n6, c6, x7, c7, rfl, g1, g2, -, hb5⟩
    have hl5 := HL4.out.below hb5
    clear e0 e1 f0 f1 d0 d1 fd0 fd1
    obtain ⟨e0, e1, f0, f1⟩ := box2 hl5.b
    have hl6 := hl5.put g1 g2
    have hb6 := put_below (into HB4.out hb5) hP (.slice x5 n5 c5) (.slice x6 n6 c6)
    obtain ⟨d0, d1, -, -⟩ := box2 hl6.b
    have HL6 := Lib.hid hl6
    have HB6 := Lib.hid hb6
    clear hl5 hl6 g1 g2 hb5 hb6 HL4 HB4 HASK HLB
    go_wp2_with fail
    refine (ask_v _ ⟨HT.out.1.below HB6.out, HT.out.2.below HB6.out⟩ HL6.out.h HL6.out.q (by simp) (more_4 hm1 hn1 (.inl rfl))).mono ?_
    rintro e w7 ⟨y1, m1, d1, y2, m2, d2, rfl, g1, g2, hb7⟩
    have HB7 := Lib.hid (into HB6.out hb7)
    have hlb := LB.new w7 g1 g2
    have hb8 : Below W.heap.size W (w7.alloc (.cells #[.slice y1 m1 d1, .slice y2 m2 d2] 25)) := HB7.out.alloc HB7.out.size _
    have HLB := Lib.hid hlb
    have HB8 := Lib.hid hb8
    clear g1 g2 hb7 hlb hb8 e0 e1 f0 f1 d0
    go_wp2_with (go_at_call 10; ((with_reducible refine (HJO.out _ (HT.out.2.below HB8.out)).mono ?_); rintro e w' ⟨rfl, rfl⟩))
    refine (kmode_any _ 1 ⟨#[97]⟩ (joi m n) HLB.out.h).mono ?_
    rintro e w9 ⟨rfl, hb9⟩
    have hh : hmd [⟨1, ⟨#[97]⟩, joi m n⟩] ⟨1, ⟨#[97]⟩, joi m n⟩ = joi m n := by rw [hmd_find]; simp [onB]
    rw [hh]
    have HB9 := Lib.hid (into HB8.out hb9)
    clear hb9 hh
    go_wp2_with fail
    go_ret
    exact ⟨rb (by simp), HB9.out⟩
  · go_wp2_with (go_at_call 7; ((with_reducible refine (HPZ.out _).mono ?_); rintro e w' ⟨rfl, rfl⟩))
    refine (ask_v _ ⟨HT.out.1.below HB4.out, HT.out.2.below HB4.out⟩ HL4.out.h HL4.out.q (by simp) (more_4 hm1 hn1 (.inr rfl))).mono ?_
    rintro e w7 ⟨y1, m1, d1', y2, m2, d2, rfl, g1, g2, hb7⟩
    have HB7 := Lib.hid (into HB4.out hb7)
    have hlb := LB.new w7 g1 g2
    have hb8 : Below W.heap.size W (w7.alloc (.cells #[.slice y1 m1 d1', .slice y2 m2 d2] 25)) := HB7.out.alloc HB7.out.size _
    have HLB := Lib.hid hlb
    have HB8 := Lib.hid hb8
    clear g1 g2 hb7 hlb hb8 e0 e1 f0 f1 d0 d1 fd0 fd1
    go_wp2_with (go_at_call 10; ((with_reducible refine (HJO.out _ (HT.out.2.below HB8.out)).mono ?_); rintro e w' ⟨rfl, rfl⟩))
    refine (kmode_any _ 1 ⟨#[97]⟩ (joi m n) HLB.out.h).mono ?_
    rintro e w9 ⟨rfl, hb9⟩
    have hh : hmd [⟨1, ⟨#[97]⟩, joi m n⟩] ⟨1, ⟨#[97]⟩, joi m n⟩ = joi m n := by rw [hmd_find]; simp [onB]
    rw [hh]
    have HB9 := Lib.hid (into HB8.out hb9)
    clear hb9 hh
    go_wp2_with fail
    go_ret
    exact ⟨rb (by simp), HB9.out⟩

set_option maxRecDepth 100000 in
theorem lifted (os : Os) (started : os.Started) (H : Type) (enc : TypeId × Value → H) :
    ReturnsInHanded {} Tryd.checked os 4 .any (fun w args => (Rows.askMoreSpec.pre enc Tryd.prog Tryd.f4 [] false w args ∧ laidTJ w) ∧ sizedMet enc Tryd.prog Tryd.f4 (OpenSpec.ofChange Rows.askMoreSpec) false w args) (Rows.askMoreSpec.post enc Tryd.prog Tryd.f4 false true false false) := by
  refine returnsInHanded_of_change_and (C := Tryd.checked) (X := fun w _ => laidTJ w) (fun _ _ _ hh h => h.of_heap hh) Tryd.own started (by kernel_rfl) Tryd.func4
    (ChangeSpec.witness_at (enc := enc) (C := Tryd.checked) (os := os) (X := fun w _ => laidTJ w) false (tabled os) #[.int .i64 0, .int .i64 0, .int .i64 0] 8 rfl (by kernel_rfl) (by kernel_rfl) (by kernel_rfl) (by kernel_rfl) (by kernel_rfl) (tabled_laidTJ os _)) ?_
  intro W base args ds gs before hval0 hW hcnd hsz0 hL _
  have hsz : (DataW.weightsEach Tryd.prog (Tryd.f4.params.toList ++ Rows.askMoreSpec.plain.varTypes Tryd.prog) (ds ++ gs)).all (· ≤ reachBytes) = true := hsz0
  have hval : ∀ (j : Nat) t v, Tryd.f4.params[j]? = some t → args[j]? = some v → Value.okWide Tryd.prog W .any base t v := hval0
  have hW' := hW
  obtain ⟨p, q, hA0, hV, rfl, hfz, hnd⟩ := hW
  have hA : DataW.TrodAll enc Tryd.prog W 0 (fun _ => true) true Tryd.f4.params.toList args.toList ds p := hA0
  rw [Tryd.params4] at hA hval hsz
  obtain ⟨v0, v1, v2, d0, d1, d2, p0, p1, p2, rfl, rfl, rfl, h0, h1, h2⟩ := trodAll_three hA
  obtain ⟨rfl, rfl⟩ := trodVars_none hV
  obtain ⟨a0, rfl, rfl, rfl, w0⟩ := open_int Tryd.underlying3 (hval 0 3 v0 rfl rfl) h0
  obtain ⟨a1, rfl, rfl, rfl, w1⟩ := open_int Tryd.underlying3 (hval 1 3 v1 rfl rfl) h1
  obtain ⟨a2, rfl, rfl, rfl, w2⟩ := open_int Tryd.underlying3 (hval 2 3 v2 rfl rfl) h2
  clear hA0 hval0
  refine (walk W (TJ_of hL) a0 w0 a1 w1 a2 w2).mono fun e W' ⟨he, hg⟩ => ?_
  subst he
  exact ⟨_, rfl, law_post (tb := 4) Tryd.laidOut (by kernel_rfl) (by kernel_rfl) Tryd.underlying4 rfl hW' hg rfl rfl rfl⟩

theorem bare : Rows.AskMoreSaid :=
  OpenClaim.holds_of_wide 4 Tryd.f4 rfl rfl rfl rfl rfl rfl rfl ⟨rfl, rfl, rfl, rfl, rfl⟩ rfl rfl rfl rfl rfl (by kernel_rfl) Tryd.func4 (by kernel_rfl)
    (of_decide_eq_true (by kernel_rfl)) (by unfold Func.isWrapper; first | (rw [if_pos (by decide +kernel)]; kernel_rfl) | (rw [if_neg (by decide +kernel)]; exact ⟨rfl, rfl⟩))
    (fun os started H enc _ => lifted os started H enc)
/-- The card: the row's one listed variable is tied to the program's text. -/
theorem proved : Rows.AskMoreCardSaid :=
  Claim7.holds_tied_plain_at .later [] [.data, .data] true _ false bare (fun _ h => by cases h) (by kernel_rfl) (fun _ h => by cases h) askMore_row_tie rfl ⟨rfl, rfl⟩ (by kernel_rfl) rfl
    (fun f fn hf hfn => by
      obtain rfl : f = 4 := Option.some.inj ((show Tryd.prog.funcNamed "padlock/padlockkeep.AskMore" = some 4 by kernel_rfl).symm.trans hf) |>.symm
      obtain rfl : fn = Tryd.f4 := (Option.some.inj (Tryd.func4.symm.trans hfn)).symm
      refine ⟨by kernel_rfl, fun j t ht => ?_⟩
      rw [Tryd.params4] at ht
      rcases j with _ | _ | _ | j <;> simp at ht <;> subst ht <;> kernel_rfl)
    (by kernel_rfl)
#print axioms proved
end Go.Proofs.YtlggmdeoninkmaaDoor.lAskMore
