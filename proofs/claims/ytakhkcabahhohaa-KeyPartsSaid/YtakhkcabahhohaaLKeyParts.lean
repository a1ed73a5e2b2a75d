/- The key of two lists of values is their keys, one behind the other: at every two lists of raw values. No condition. -/
import Derived.Test.YtakhkcabahhohaaFo
import Derived.Test.YtakhkcabahhohaaF2
namespace Go.Proofs.Ytakhkcabahhohaa.lKeyParts
open Go.ChangeShapes Go.WideShapes Go.ChangeAt Go.RowKit Go.Joins
open Go.ChangeMaps (open_string shut_string)
set_option linter.unusedVariables false
set_option linter.unusedSimpArgs false
set_option maxHeartbeats 400000

set_option maxHeartbeats 1600000 in
theorem walk (w : World) (n0 : Nat) (v0 : Value) (l0 : List V) (hr0 : Rd w 3 n0 v0 (vc l0)) (hw0 : ∀ u ∈ l0, (Lit.int .i64 u.k).wf = true ∧ (Lit.int .i64 u.n).wf = true ∧ u.t.size ≤ maxLen) (hz0 : n0 * 32 ≤ 140737488351232)
    (n1 : Nat) (v1 : Value) (l1 : List V) (hr1 : Rd w 3 n1 v1 (vc l1)) (hw1 : ∀ u ∈ l1, (Lit.int .i64 u.k).wf = true ∧ (Lit.int .i64 u.n).wf = true ∧ u.t.size ≤ maxLen) (hz1 : n1 * 32 ≤ 140737488351232) :
    Calls Try.prog 4 #[v0, v1] w fun e w' => e = .returned (.bool true) ∧ Below w.heap.size w w' := by
  have HF0 : Hid (∀ u ∈ l0, Rng u.k ∧ Rng u.n ∧ u.t.size ≤ maxLen) := fun u hu => ⟨rng_of (hw0 u hu).1, rng_of (hw0 u hu).2.1, (hw0 u hu).2.2⟩
  have HF1 : Hid (∀ u ∈ l1, Rng u.k ∧ Rng u.n ∧ u.t.size ≤ maxLen) := fun u hu => ⟨rng_of (hw1 u hu).1, rng_of (hw1 u hu).2.1, (hw1 u hu).2.2⟩
  have HR0 := Lib.hid hr0
  have HR1 := Lib.hid hr1
  have HOK0 := Lib.hid (vals_13 l0 fun u hu => (HF0.out u hu).2.1)
  have HOK1 := Lib.hid (vals_13 l1 fun u hu => (HF1.out u hu).2.1)
  have m0 : (vals l0).length ≤ 6 := by simp [vals]; omega
  have m1 : (vals l1).length ≤ 6 := by simp [vals]; omega
  clear hw0 hw1 hr0 hr1 hz0 hz1
  have cv0 := of_any n0 v0 l0 w HR0.out HF0.out
  obtain ⟨A, hA⟩ : ∃ A, A = vals l0 := ⟨_, rfl⟩
  obtain ⟨B, hB⟩ : ∃ B, B = vals l1 := ⟨_, rfl⟩
  rw [← hA] at cv0 HOK0 m0
  rw [← hB] at HOK1 m1
  have HB := Lib.hid hB
  have HCV0 := Lib.hid cv0
  clear cv0 hA hB
  go_enter Try.func4, Try.ntmps4
  go_wp2_with fail
  refine HCV0.out.mono ?_
  rintro e w1 ⟨v5, rfl, hown5, hb1⟩
  have H5 := Lib.hid (Rd.own hown5)
  obtain ⟨_, ao5, cap5, rfl, hc5, _, _, _⟩ := Rd.own hown5
  clear hown5
  go_wp2_with fail
  refine (of_any n1 v1 l1 w1 (HR1.out.below hb1) HF1.out).mono ?_
  rw [← HB.out]
  rintro e w2 ⟨v6, rfl, hown6, hb2⟩
  have H6 := Lib.hid (Rd.own hown6)
  obtain ⟨_, ao6, cap6, rfl, hc6, _, _, _⟩ := Rd.own hown6
  clear hown6
  obtain ⟨a, ha⟩ : ∃ a, a = A.length := ⟨_, rfl⟩
  obtain ⟨b, hb⟩ : ∃ b, b = B.length := ⟨_, rfl⟩
  rw [← ha] at H5 hc5 m0 ⊢
  rw [← hb] at H6 hc6 m1 ⊢
  have hz2 := hb2.size
  obtain ⟨ka, hka⟩ : ∃ ka, ka = if 3 < a then 3 else a := ⟨_, rfl⟩
  obtain ⟨kb, hkb⟩ : ∃ kb, kb = if 3 < b then 3 else b := ⟨_, rfl⟩
  have la : ka ≤ a ∧ ka ≤ 3 := by rw [hka]; split <;> omega
  have lb : kb ≤ b ∧ kb ≤ 3 := by rw [hkb]; split <;> omega
  have hma : (if (3 : Int) < (a : Int) then (3 : Int) else (a : Int)) = (ka : Int) := by rw [hka]; split <;> split <;> omega
  have hmb : (if (3 : Int) < (b : Int) then (3 : Int) else (b : Int)) = (kb : Int) := by rw [hkb]; split <;> split <;> omega
  clear hka hkb
  obtain ⟨PA, hPA⟩ : ∃ PA, PA = A.take ka := ⟨_, rfl⟩
  obtain ⟨PB, hPB⟩ : ∃ PB, PB = B.take kb := ⟨_, rfl⟩
  have EA : Hid (∀ u ∈ PA, Ok u ∧ (enc1 u).length ≤ 13) := fun u hu => HOK0.out u (by rw [hPA] at hu; exact List.mem_of_mem_take hu)
  have EB : Hid (∀ u ∈ PB, Ok u ∧ (enc1 u).length ≤ 13) := fun u hu => HOK1.out u (by rw [hPB] at hu; exact List.mem_of_mem_take hu)
  have LA : Hid (PA.length = ka) := by rw [hPA]; show (A.take ka).length = ka; rw [List.length_take, ← ha]; omega
  have LB : Hid (PB.length = kb) := by rw [hPB]; show (B.take kb).length = kb; rw [List.length_take, ← hb]; omega
  have RA : Hid (Rd w2 3 ka (.slice ao5 ka cap5) (vc PA)) := by
    have := (H5.out.below hb2).take ka la.1
    rw [vc_take, ← hPA] at this
    exact this
  have RB : Hid (Rd w2 3 kb (.slice ao6 kb cap6) (vc PB)) := by
    have := H6.out.take kb lb.1
    rw [vc_take, ← hPB] at this
    exact this
  have BW2 : Hid (Below w.heap.size w w2) := into hb1 hb2
  have hk5 : ka ≤ cap5 := by omega
  have hk6 : kb ≤ cap6 := by omega
  clear ha hb hPA hPB H5 H6 HOK0 HOK1 HR0 HR1 HF0 HF1 HCV0 HB hc5 hc6 hb1 hb2 m0 m1
  go_wp2_with fail
  refine (enc_part ka _ PA w2 EA.out (by rw [LA.out]; omega) RA.out).mono ?_
  rintro e w3 ⟨v7, rfl, hl7, hown7, hb3⟩
  have H7 := Lib.hid (Rd.own hown7)
  have hz3 := hb3.size
  clear hown7
  go_wp2_with fail
  refine (enc_part kb _ PB w3 EB.out (by rw [LB.out]; omega) (RB.out.below hb3)).mono ?_
  rintro e w4 ⟨v9, rfl, hl9, hown9, hb4⟩
  have H9 := Lib.hid (Rd.own hown9)
  have hz4 := hb4.size
  have hB4 : Below w2.heap.size w2 w4 := hb3.trans (hb4.mono hz3)
  clear hown9
  have RA4 := Lib.hid (RA.out.below hB4)
  have RB4 := Lib.hid (RB.out.below hB4)
  go_wp2_with (first
    | (at_builtin; refine apg w4 ka rfl (.const (.slice none 0 0)) (.tmp 40) 22 33 _ 3 32 Try.underlying22 Try.info33 rfl (by omega) rfl (World.ownsRow_nil w4 w4.heap.size _ _) (Nat.le_refl _) (by omega) (by unfold maxLen; omega) (vc_one _) RA4.out rfl rfl ?_; intro v41 w5 hown41 hb5 _; have H41 := Lib.hid hown41; have hz5 := hb5.size; clear hown41)
    | (at_builtin; refine apg w5 kb rfl (.tmp 41) (.tmp 42) 22 33 _ 3 32 Try.underlying22 Try.info33 rfl (by omega) rfl H41.out hz5 (by omega) (by unfold maxLen; omega) (vc_one _) (RB4.out.below hb5) rfl rfl ?_; intro v43 w6 hown43 hb6 _; have H43 := Lib.hid (Rd.own hown43); have hz6 := hb6.size; clear hown43))
  have hB6 : Below w4.heap.size w4 w6 := hb5.trans hb6
  have H7' := Lib.hid ((H7.out.below hb4).below hB6)
  have H9' := Lib.hid (H9.out.below hB6)
  have EAB : Hid (∀ u ∈ PA ++ PB, Ok u ∧ (enc1 u).length ≤ 13) := fun u hu => by
    rcases List.mem_append.1 hu with h | h
    · exact EA.out u h
    · exact EB.out u h
  have H43' : Hid (Rd w6 3 (0 + ka + kb) v43 (vc (PA ++ PB))) := by
    have := H43.out
    rw [List.nil_append, ← vc_app] at this
    exact this
  have BW6 : Hid (Below w.heap.size w w6) := into (into BW2.out hB4) hB6
  have hadd := encs_app PA PB
  clear hb5 hb6 hB6 hb3 hb4 hB4 H43 H41 RA RB RA4 RB4 H7 H9 hz3 hz4 hz5 hz6
  refine (enc_part _ _ (PA ++ PB) w6 EAB.out (by rw [List.length_append, LA.out, LB.out]; omega) H43'.out).mono ?_
  rw [hadd]
  clear hadd
  rintro e w7 ⟨v11, rfl, hl11, hown11, hb7⟩
  have H11 := Lib.hid (Rd.own hown11)
  clear hown11
  go_wp2_with fail
  refine (enc_part 1 _ [⟨1, 1, ⟨#[]⟩⟩] _ (by simp [Ok, chk, nmb, e_list, e_size, enc1, tail1]) (by simp) (lit_rd w7 1 1 _)).mono ?_
  rintro e w8 ⟨v13, rfl, hl13, hown13, hb8⟩
  have hb8' : Below w7.heap.size w7 w8 := ((Below.refl w7.heap.size w7).alloc (Nat.le_refl _) _).trans (hb8.mono (by simp))
  have q1 := str_of (H11.out.below hb8')
  have q2 := str_of ((H7'.out.below hb7).below hb8')
  have q3 := str_of ((H9'.out.below hb7).below hb8')
  have q4 := str_of (Rd.own hown13)
  have q5 := add_run (X := encs PA) (Y := encs PB) (by omega) (by omega) w8
  have e4 : encs [⟨1, 1, ⟨#[]⟩⟩] = [1, 1] := by simp [encs, enc1, tail1]
  rw [e4] at q4
  have HE := Lib.hid (into (into BW6.out hb7) hb8')
  clear hown13 e4 hb8 hb8' hb7
  go_wp2_with fail
  go_ret
  exact ⟨rfl, HE.out⟩

theorem lifted (os : Os) (started : os.Started) (H : Type) (enc : TypeId × Value → H) :
    ReturnsInHanded {} Try.checked os 4 .any (Rows.keyPartsSpec.pre6 enc Try.prog Try.f4 Rows.keyPartsRow.domain false) (Rows.keyPartsSpec.post enc Try.prog Try.f4 false true false false) := by
  refine returnsInHanded_of_change_sized (C := Try.checked) Try.own started (by kernel_rfl) Try.func4
    (ChangeSpec.witness6 (enc := enc) (C := Try.checked) false ⟨#[], #[.slice none 0 0, .slice none 0 0], []⟩ 8 (by kernel_rfl) (by kernel_rfl) (by kernel_rfl) (by kernel_rfl)) ?_
  intro W base args ds gs before hval0 hW hcnd hsz0 _
  have hsz : (DataW.weightsEach Try.prog (Try.f4.params.toList ++ Rows.keyPartsSpec.plain.varTypes Try.prog) (ds ++ gs)).all (· ≤ reachBytes) = true := hsz0
  have hval : ∀ (j : Nat) t v, Try.f4.params[j]? = some t → args[j]? = some v → Value.okWide Try.prog W .any base t v := hval0
  have hW' := hW
  obtain ⟨p, q, hA0, hV, rfl, hfz, hnd⟩ := hW
  have hA : DataW.TrodAll enc Try.prog W 0 (fun _ => true) true Try.f4.params.toList args.toList ds p := hA0
  rw [Try.params4] at hA hval hsz
  obtain ⟨v0, v1, d0, d1, p0, p1, rfl, rfl, rfl, h0, h1⟩ := trodAll_two hA
  obtain ⟨rfl, rfl⟩ := trodVars_none hV
  obtain ⟨n0, l0, hr0, hw0, hs0⟩ := open_v3 Try.underlying30 Try.underlying41 (by kernel_rfl) (by kernel_rfl) Try.underlying3 Try.underlying3 Try.underlying9 (hval 0 30 v0 rfl rfl) h0
  have hz0 : n0 * 32 ≤ 140737488351232 := by
    rcases hs0 with rfl | ⟨es, sp, hd, hl⟩
    · omega
    · subst hd
      have := sized_slice hsz (j := 0) (t := 30) (e := 41) rfl rfl Try.underlying30
      rw [show Try.prog.bytesOf 41 = 32 by kernel_rfl, hl] at this
      simp only [reachBytes] at this
      omega
  obtain ⟨n1, l1, hr1, hw1, hs1⟩ := open_v3 Try.underlying30 Try.underlying41 (by kernel_rfl) (by kernel_rfl) Try.underlying3 Try.underlying3 Try.underlying9 (hval 1 30 v1 rfl rfl) h1
  have hz1 : n1 * 32 ≤ 140737488351232 := by
    rcases hs1 with rfl | ⟨es, sp, hd, hl⟩
    · omega
    · subst hd
      have := sized_slice hsz (j := 1) (t := 30) (e := 41) rfl rfl Try.underlying30
      rw [show Try.prog.bytesOf 41 = 32 by kernel_rfl, hl] at this
      simp only [reachBytes] at this
      omega
  clear hA0 hval0
  refine (walk W n0 v0 l0 hr0 hw0 hz0 n1 v1 l1 hr1 hw1 hz1).mono fun e W' ⟨he, hg⟩ => ?_
  subst he
  exact ⟨_, rfl, law_post (tb := 4) Try.laidOut (by kernel_rfl) (by kernel_rfl) Try.underlying4 rfl hW' hg rfl rfl rfl⟩

theorem proved : Rows.KeyPartsSaid :=
  OpenClaim.holds_of_wide 4 Try.f4 rfl rfl rfl rfl rfl rfl rfl ⟨rfl, rfl, rfl, rfl, rfl⟩ rfl rfl rfl rfl rfl (by kernel_rfl) Try.func4 (by kernel_rfl)
    (of_decide_eq_true (by kernel_rfl)) (by unfold Func.isWrapper; first | (rw [if_pos (by decide +kernel)]; kernel_rfl) | (rw [if_neg (by decide +kernel)]; exact ⟨rfl, rfl⟩))
    (fun os started H enc _ => lifted os started H enc)
#print axioms proved
end Go.Proofs.Ytakhkcabahhohaa.lKeyParts
