/- Asking for a lock: the program answers as the document does, at every argument, and changes none of them. The row lists the program's two tables; the card ties them to the program's text. -/
import Derived.Test.YtpddlckkncmlmaaDoorJl
import Derived.Test.YtpddlckkncmlmaaDoorB2
import Derived.Test.YtpddlckkncmlmaaDoorNm
import Derived.Test.YtpddlckkncmlmaaDoorNh
import Derived.Test.YtpddlckkncmlmaaDoorMk
import Derived.Test.YtpddlckkncmlmaaDoorNs
import Derived.Test.YtpddlckkncmlmaaDoorNo
import Derived.Test.YtpddlckkncmlmaaDoorNp
namespace Go.Proofs.YtpddlckkncmlmaaDoor.lLockAsks
open Go.ChangeShapes Go.WideShapes Go.ChangeAt Go.RowKit Go.Joins
open Go.ChangeMaps (open_string shut_string)
set_option linter.unusedVariables false
set_option linter.unusedSimpArgs false
set_option maxHeartbeats 400000

theorem as_w {H Q : List Lk} {x : Lk} {w : World} {e : Ending} {w' : World} (h : AskIs H Q x w e w') {H' Q' : List Lk} {b : Bool} {er : Int} (hA : askL H Q x = (H', Q', b, er)) {p1 p2 : Nat} (hp1 : p1 = H'.length) (hp2 : p2 = Q'.length) :
    ∃ (a3 : Option Addr) (c3 : Nat) (a4 : Option Addr) (c4 : Nat), e = .returned (.tuple #[.agg #[.slice a3 p1 c3, .slice a4 p2 c4], .bool b, .int .i64 er]) ∧ Rd w' 3 p1 (.slice a3 p1 c3) (lkc H') ∧ Rd w' 3 p2 (.slice a4 p2 c4) (lkc Q') ∧ Below w.heap.size w w' := by
  obtain ⟨hv, qv, he, h1, h2, hb⟩ := h
  rw [hA] at he h1 h2
  simp only at he h1 h2
  rw [← hp1] at h1
  rw [← hp2] at h2
  obtain ⟨a3, c3, rfl⟩ := rd_shape h1
  obtain ⟨a4, c4, rfl⟩ := rd_shape h2
  exact ⟨a3, c3, a4, c4, he, h1, h2, hb⟩
theorem ask_len (H Q : List Lk) (x : Lk) : (askL H Q x).1.length ≤ H.length + 1 ∧ (askL H Q x).2.1.length ≤ Q.length + 1 := by
  have hg := give_len H (upL H x)
  unfold askL
  split
  · simp
  split
  · simp
  split
  · split
    · simp
    · simp only
      omega
  split
  · simp
  · simp
set_option maxRecDepth 100000 in
set_option maxHeartbeats 8000000 in
theorem walk (W : World) (hL : Tog W ∧ Jnd W) (x y : Value) (n m : Nat) (l q : List Lk) (hr : Rd W 3 n x (lkc l)) (hq : Rd W 3 m y (lkc q)) (hz : n * 32 ≤ 140737488351232 ∧ m * 32 ≤ 140737488351232) (hs : ∀ o ∈ l, LkOk o) (ht : ∀ o ∈ q, LkOk o) (k j : Int) (s : ByteArray) (wk : (Lit.int .i64 k).wf = true) (wj : (Lit.int .i64 j).wf = true) (ws : s.size ≤ maxLen) :
    Calls Tryd.prog 3 #[.agg #[x, y], .agg #[.int .i64 k, .string s, .int .i64 j]] W fun e w' => e = .returned (.bool true) ∧ Below W.heap.size W w' := by
  obtain ⟨hn, hm⟩ := hz
  have hln := len_l hr
  have hlm := len_l hq
  obtain ⟨ax, cx, rfl⟩ := rd_shape hr
  obtain ⟨ay, cy, rfl⟩ := rd_shape hq
  rcases hA : askL l q ⟨k, s, j⟩ with ⟨H', Q', b, er⟩
  have hlen := ask_len l q ⟨k, s, j⟩
  rw [hA] at hlen
  simp only at hlen
  obtain ⟨p1, hp1⟩ : ∃ p1, p1 = H'.length := ⟨_, rfl⟩
  obtain ⟨p2, hp2⟩ : ∃ p2, p2 = Q'.length := ⟨_, rfl⟩
  rw [← hp1, ← hp2, ← hln, ← hlm] at hlen
  obtain ⟨W0, hW0⟩ : ∃ W0 : World, W0 = (W.alloc (.cells #[.slice ax n cx, .slice ay m cy] 24)).alloc (.cells #[.int .i64 k, .string s, .int .i64 j] 26) := ⟨_, rfl⟩
  have hb0 : Below W.heap.size W W0 := by rw [hW0]; exact ((Below.refl _ _).alloc (Nat.le_refl _) _).alloc (by simp) _
  have a0 : W0.cell? ⟨W.heap.size, 0, none⟩ = some (.slice ax n cx) := by rw [hW0]; go_simp
  have a1 : W0.cell? ⟨W.heap.size, 1, none⟩ = some (.slice ay m cy) := by rw [hW0]; go_simp
  have x0 : W0.cell? ⟨W.heap.size + 1, 0, none⟩ = some (.int .i64 k) := by rw [hW0]; go_simp
  have x1 : W0.cell? ⟨W.heap.size + 1, 1, none⟩ = some (.string s) := by rw [hW0]; go_simp
  have x2 : W0.cell? ⟨W.heap.size + 1, 2, none⟩ = some (.int .i64 j) := by rw [hW0]; go_simp
  have HT := Lib.hid hL
  have HR := Lib.hid hr
  have HQ := Lib.hid hq
  have HW0 := Lib.hid hW0
  have HB0 := Lib.hid hb0
  have HX := Lib.hid (And.intro a0 (And.intro a1 (And.intro x0 (And.intro x1 x2))))
  have HCP := Lib.hid (copy_any W0 n m _ _ l q (hr.below hb0) (hq.below hb0) hn hm)
  have HAS : Hid (∀ w, Below W0.heap.size W0 w → ∀ (a1 : Option Addr) (c1 : Nat) (a2 : Option Addr) (c2 : Nat), Rd w 3 n (.slice a1 n c1) (lkc l) → Rd w 3 m (.slice a2 m c2) (lkc q) → Calls Tryd.prog 7 #[.agg #[.slice a1 n c1, .slice a2 m c2], .agg #[.int .i64 k, .string s, .int .i64 j]] w fun e w' => ∃ (a3 : Option Addr) (c3 : Nat) (a4 : Option Addr) (c4 : Nat), e = .returned (.tuple #[.agg #[.slice a3 p1 c3, .slice a4 p2 c4], .bool b, .int .i64 er]) ∧ Rd w' 3 p1 (.slice a3 p1 c3) (lkc H') ∧ Rd w' 3 p2 (.slice a4 p2 c4) (lkc Q') ∧ Below w.heap.size w w') := fun w hw a1 c1 a2 c2 g1 g2 =>
    (ask_any w (hL.1.below (into hb0 hw)) (hL.2.below (into hb0 hw)) n m _ _ l q ⟨k, s, j⟩ g1 g2 (by omega) (by omega)).mono fun e w' h => as_w h hA hp1 hp2
  have HAD : Hid (∀ w, Below W0.heap.size W0 w → Calls Tryd.prog 8 #[.agg #[.slice ax n cx, .slice ay m cy], .agg #[.int .i64 k, .string s, .int .i64 j]] w fun e w' => ∃ (a3 : Option Addr) (c3 : Nat) (a4 : Option Addr) (c4 : Nat), e = .returned (.tuple #[.agg #[.slice a3 p1 c3, .slice a4 p2 c4], .bool b, .int .i64 er]) ∧ Rd w' 3 p1 (.slice a3 p1 c3) (lkc H') ∧ Rd w' 3 p2 (.slice a4 p2 c4) (lkc Q') ∧ Below w.heap.size w w') := fun w hw =>
    (asked_any w n m _ _ l q ⟨k, s, j⟩ (hr.below (into hb0 hw)) (hq.below (into hb0 hw)) (by omega) (by omega)).mono fun e w' h => as_w h hA hp1 hp2
  clear hL hr hq hs ht hW0 hb0 hA hp1 hp2 wk wj ws hln hlm
  go_enter Tryd.func3, Tryd.ntmps3
  go_wp2_with fail
  rw [← HW0.out]
  refine HCP.out.mono ?_
  rintro e w1 ⟨a1', c1', a2', c2', rfl, g1, g2, hb1⟩
  clear a0 a1 x0 x1 x2
  obtain ⟨W1, hW1⟩ : ∃ W1 : World, W1 = w1.alloc (.cells #[.slice a1' n c1', .slice a2' m c2'] 24) := ⟨_, rfl⟩
  have hb2 : Below w1.heap.size w1 W1 := by rw [hW1]; exact (Below.refl _ _).alloc (Nat.le_refl _) _
  have k0 : W1.cell? ⟨w1.heap.size, 0, none⟩ = some (.slice a1' n c1') := by rw [hW1]; go_simp
  have k1 : W1.cell? ⟨w1.heap.size, 1, none⟩ = some (.slice a2' m c2') := by rw [hW1]; go_simp
  have HW1 := Lib.hid hW1
  have HK := Lib.hid (And.intro k0 k1)
  have HG := Lib.hid (And.intro (g1.below hb2) (g2.below hb2))
  have HB1 := Lib.hid (hb1.trans (hb2.mono hb1.size))
  have x0 := cell_of_below HB1.out HX.out.2.2.1
  have x1 := cell_of_below HB1.out HX.out.2.2.2.1
  have x2 := cell_of_below HB1.out HX.out.2.2.2.2
  rw [hW1] at k0 k1 x0 x1 x2
  have HCK := Lib.hid (HAS.out W1 HB1.out _ _ _ _ HG.out.1 HG.out.2)
  clear hW1 g1 g2 hb1 hb2
  go_wp2_with fail
  rw [← HW1.out]
  refine HCK.out.mono ?_
  rintro e w2 ⟨a3, c3, a4, c4, rfl, g3, g4, hb3⟩
  clear k0 k1 x0 x1 x2
  obtain ⟨W2, hW2⟩ : ∃ W2 : World, W2 = w2.alloc (.cells #[.slice a3 p1 c3, .slice a4 p2 c4] 24) := ⟨_, rfl⟩
  have hb4 : Below w2.heap.size w2 W2 := by rw [hW2]; exact (Below.refl _ _).alloc (Nat.le_refl _) _
  have r0 : W2.cell? ⟨w2.heap.size, 0, none⟩ = some (.slice a3 p1 c3) := by rw [hW2]; go_simp
  have r1 : W2.cell? ⟨w2.heap.size, 1, none⟩ = some (.slice a4 p2 c4) := by rw [hW2]; go_simp
  have HR2 := Lib.hid (And.intro r0 r1)
  have HG3 := Lib.hid (And.intro (g3.below hb4) (g4.below hb4))
  have HB12 := Lib.hid (hb3.trans (hb4.mono hb3.size))
  have HB2 := Lib.hid (into HB1.out HB12.out)
  have a0 := cell_of_below HB2.out HX.out.1
  have a1 := cell_of_below HB2.out HX.out.2.1
  have x0 := cell_of_below HB2.out HX.out.2.2.1
  have x1 := cell_of_below HB2.out HX.out.2.2.2.1
  have x2 := cell_of_below HB2.out HX.out.2.2.2.2
  have HW2 := Lib.hid hW2
  rw [hW2] at a0 a1 x0 x1 x2
  have HCD := Lib.hid (HAD.out W2 HB2.out)
  clear hW2 g3 g4 hb3 hb4 r0 r1
  go_wp2_with fail
  rw [← HW2.out]
  refine HCD.out.mono ?_
  rintro e w3 ⟨a5, c5, a6, c6, rfl, g5, g6, hb5⟩
  clear a0 a1 x0 x1 x2
  obtain ⟨W3, hW3⟩ : ∃ W3 : World, W3 = w3.alloc (.cells #[.slice a5 p1 c5, .slice a6 p2 c6] 24) := ⟨_, rfl⟩
  have hb6 : Below w3.heap.size w3 W3 := by rw [hW3]; exact (Below.refl _ _).alloc (Nat.le_refl _) _
  have q0 : W3.cell? ⟨w3.heap.size, 0, none⟩ = some (.slice a5 p1 c5) := by rw [hW3]; go_simp
  have q1 : W3.cell? ⟨w3.heap.size, 1, none⟩ = some (.slice a6 p2 c6) := by rw [hW3]; go_simp
  have HB23 := Lib.hid (hb5.trans (hb6.mono hb5.size))
  have HB3 := Lib.hid (into HB2.out HB23.out)
  have r0 := cell_of_below HB23.out HR2.out.1
  have r1 := cell_of_below HB23.out HR2.out.2
  have HSL := Lib.hid (sl_any W3 p1 p2 _ _ _ _ H' Q' (HG3.out.1.below HB23.out) (HG3.out.2.below HB23.out) (g5.below hb6) (g6.below hb6) (by omega) (by omega))
  have HW3 := Lib.hid hW3
  rw [hW3] at q0 q1 r0 r1
  clear hW3 g5 g6 hb5 hb6
  have hbb : (b == b) = true := by simp
  go_wp2_with fail
  rw [← HW3.out]
  refine HSL.out.mono ?_
  rintro e w4 ⟨rfl, hb7⟩
  have HB4 := Lib.hid (into HB3.out hb7)
  have HB14 := Lib.hid (into (into HB12.out HB23.out) hb7)
  clear hb7 q0 q1 r0 r1
  have a0 := cell_of_below HB4.out HX.out.1
  have a1 := cell_of_below HB4.out HX.out.2.1
  have k0 := cell_of_below HB14.out HK.out.1
  have k1 := cell_of_below HB14.out HK.out.2
  have HSC := Lib.hid (sl_any w4 n m _ _ _ _ l q (HG.out.1.below HB14.out) (HG.out.2.below HB14.out) (HR.out.below (into HB0.out HB4.out)) (HQ.out.below (into HB0.out HB4.out)) (by omega) (by omega))
  go_wp2_with fail
  refine HSC.out.mono ?_
  rintro e w5 ⟨rfl, hb8⟩
  have HB5 := Lib.hid (into (into HB0.out HB4.out) hb8)
  clear hb8
  go_wp2_with fail
  go_ret
  exact ⟨rfl, HB5.out⟩

set_option maxRecDepth 100000 in
theorem lifted (os : Os) (started : os.Started) (H : Type) (enc : TypeId × Value → H) :
    ReturnsInHanded {} Tryd.checked os 3 .any (fun w args => (Rows.lockAsksSpec.pre enc Tryd.prog Tryd.f3 [] false w args ∧ laidTJ w) ∧ sizedMet enc Tryd.prog Tryd.f3 (OpenSpec.ofChange Rows.lockAsksSpec) false w args) (Rows.lockAsksSpec.post enc Tryd.prog Tryd.f3 false true false false) := by
  refine returnsInHanded_of_change_and (C := Tryd.checked) (X := fun w _ => laidTJ w) (fun _ _ _ hh h => h.of_heap hh) Tryd.own started (by kernel_rfl) Tryd.func3
    (ChangeSpec.witness_at (enc := enc) (C := Tryd.checked) (os := os) (X := fun w _ => laidTJ w) false (tabled os) #[.agg #[.slice none 0 0, .slice none 0 0], .agg #[.int .i64 0, .string ⟨#[]⟩, .int .i64 0]] 8 rfl (by kernel_rfl) (by kernel_rfl) (by kernel_rfl) (by kernel_rfl) (by kernel_rfl) (tabled_laidTJ os _)) ?_
  intro W base args ds gs before hval0 hW hcnd hsz0 hL _
  have hsz : (DataW.weightsEach Tryd.prog (Tryd.f3.params.toList ++ Rows.lockAsksSpec.plain.varTypes Tryd.prog) (ds ++ gs)).all (· ≤ reachBytes) = true := hsz0
  have hval : ∀ (j : Nat) t v, Tryd.f3.params[j]? = some t → args[j]? = some v → Value.okWide Tryd.prog W .any base t v := hval0
  have hW' := hW
  obtain ⟨p, q, hA0, hV, rfl, hfz, hnd⟩ := hW
  have hA : DataW.TrodAll enc Tryd.prog W 0 (fun _ => true) true Tryd.f3.params.toList args.toList ds p := hA0
  rw [Tryd.params3] at hA hval hsz
  obtain ⟨v0, v1, d0, d1, p0, p1, rfl, rfl, rfl, h0, h1⟩ := trodAll_two hA
  obtain ⟨rfl, rfl⟩ := trodVars_none hV
  have sm0 : small Tryd.prog 24 d0 := fun q hq => by
    have := List.all_eq_true.1 hsz q (weights_each (j := 0) rfl rfl q hq)
    simpa using this
  obtain ⟨x0, y0, n0, m0, l0, q0, rfl, hr0, hq0, hz0, hs0, ht0⟩ := open_locks (hval 0 24 v0 rfl rfl) h0 sm0
  obtain ⟨c10, c11, c12, y10, y11, y12, m1, rfl, rfl, hp1, hy10, hy11, hy12⟩ := open_agg3 Tryd.underlying26 (by kernel_rfl) (by kernel_rfl) (hval 1 26 v1 rfl rfl) h1
  obtain ⟨k1, e10, rfl, wk1⟩ := DataW.trod_int Tryd.underlying3 hy10
  obtain ⟨s1, e11, rfl, ws1⟩ := DataW.trod_string Tryd.underlying9 hy11
  obtain ⟨n1, e12, rfl, wn1⟩ := DataW.trod_int Tryd.underlying3 hy12
  simp at e10 e11 e12
  subst e10 e11 e12
  clear hA0 hval0
  refine (walk W (TJ_of hL) x0 y0 n0 m0 l0 q0 hr0 hq0 hz0 hs0 ht0 k1 n1 s1 wk1 wn1 ws1).mono fun e W' ⟨he, hg⟩ => ?_
  subst he
  exact ⟨_, rfl, law_post (tb := 4) Tryd.laidOut (by kernel_rfl) (by kernel_rfl) Tryd.underlying4 rfl hW' hg rfl rfl rfl⟩

theorem bare : Rows.LockAsksSaid :=
  OpenClaim.holds_of_wide 3 Tryd.f3 rfl rfl rfl rfl rfl rfl rfl ⟨rfl, rfl, rfl, rfl, rfl⟩ rfl rfl rfl rfl rfl (by kernel_rfl) Tryd.func3 (by kernel_rfl)
    (of_decide_eq_true (by kernel_rfl)) (by unfold Func.isWrapper; first | (rw [if_pos (by decide +kernel)]; kernel_rfl) | (rw [if_neg (by decide +kernel)]; exact ⟨rfl, rfl⟩))
    (fun os started H enc _ => lifted os started H enc)
/-- The card: the row's one listed variable is tied to the program's text. -/
theorem proved : Rows.LockAsksCardSaid :=
  Claim7.holds_tied_plain_at .later [] [.data, .data] true _ false bare (fun _ h => by cases h) (by kernel_rfl) (fun _ h => by cases h) lockAsks_row_tie rfl ⟨rfl, rfl⟩ (by kernel_rfl) rfl
    (fun f fn hf hfn => by
      obtain rfl : f = 3 := Option.some.inj ((show Tryd.prog.funcNamed "padlock/padlocklaw.LockAsks" = some 3 by kernel_rfl).symm.trans hf) |>.symm
      obtain rfl : fn = Tryd.f3 := (Option.some.inj (Tryd.func3.symm.trans hfn)).symm
      refine ⟨by kernel_rfl, fun j t ht => ?_⟩
      rw [Tryd.params3] at ht
      rcases j with _ | _ | j <;> simp at ht <;> subst ht <;> kernel_rfl)
    (by kernel_rfl)
#print axioms proved
end Go.Proofs.YtpddlckkncmlmaaDoor.lLockAsks
