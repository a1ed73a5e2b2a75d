/- A scan: the program answers as the document does, at every tree and every two keys, and changes no tree. No condition. -/
import Derived.Test.YtacpeibkamfibaaB2
import Derived.Test.YtacpeibkamfibaaXg
namespace Go.Proofs.Ytacpeibkamfibaa.lTreeScans
open Go.ChangeShapes Go.WideShapes Go.ChangeAt Go.RowKit Go.Joins
open Go.ChangeMaps (open_string shut_string)
set_option linter.unusedVariables false
set_option linter.unusedSimpArgs false
set_option maxHeartbeats 400000

set_option maxRecDepth 100000 in
set_option maxHeartbeats 8000000 in
theorem walk (W : World) (tv : Value) (T : Tr) (hT : InT W tv T) (n : Nat) (kv : Value) (l : List UInt8) (hr : Rd W 1 n kv (bc l)) (hz : n * 1 ≤ 140737488351232) (m : Nat) (mv : Value) (lm : List UInt8) (hrm : Rd W 1 m mv (bc lm)) (hzm : m * 1 ≤ 140737488351232) :
    Calls Try.prog 3 #[tv, kv, mv] W fun e w' => e = .returned (.bool true) ∧ Below W.heap.size W w' := by
  obtain ⟨ht, hcp, hsz, hrr, -⟩ := hT
  have hnl := len_b hr
  have hml := len_b hrm
  obtain ⟨a1, n1, c1, rfl⟩ := rt_shape ht
  obtain ⟨es, c, hes, hpr, hdo⟩ := scan_both (T := T) l lm ⟨hsz, hrr⟩
  have HT := Lib.hid ht
  have HK := Lib.hid (And.intro hr hrm)
  have HPR := Lib.hid hpr
  have HDO := Lib.hid hdo
  have HCP := Lib.hid hcp
  have HNL := Lib.hid (And.intro hnl hml)
  have HES := Lib.hid hes
  clear hpr hdo hcp hnl hml ht hr hrm hes
  go_enter Try.func3, Try.ntmps3
  go_wp2_with fail
  have hb0 : Below W.heap.size W (W.alloc (.cells #[.slice a1 n1 c1, .int .i64 T.root] 24)) := bel_al _ _
  have x0 : (W.alloc (.cells #[.slice a1 n1 c1, .int .i64 T.root] 24)).heap[W.heap.size]? = some (.cells #[.slice a1 n1 c1, .int .i64 T.root] 24 (0, 0)) := new0 _ _
  refine (trees_any _ (old W) (fun b hb => by have h1 : b < W.heap.size := hb; simp; omega) _ T (HT.out.below hb0) HCP.out).mono ?_
  rintro e w2 ⟨v2, rfl, hr2, hb2⟩
  obtain ⟨a2, n2, c2, rfl⟩ := rt_shape hr2
  have z2 := hb2.size
  simp only [World.size_alloc] at z2
  obtain ⟨W2, hW2⟩ : ∃ W2 : World, W2 = w2.alloc (.cells #[.slice a2 n2 c2, .int .i64 T.root] 24) := ⟨_, rfl⟩
  obtain ⟨B2, hB2⟩ : ∃ B2, B2 = w2.heap.size := ⟨_, rfl⟩
  have hb3 : Below w2.heap.size w2 W2 := by rw [hW2]; exact bel_al _ _
  have HB2 := Lib.hid (into (into hb0 hb2) hb3)
  have HR2 := Lib.hid ((hr2.below hb3).mono (ok' := fun b => b < W2.heap.size) (fun b hb => by have h1 : b < w2.heap.size := hb.2; have := hb3.size; omega))
  have HX2 := Lib.hid ((hb3.block W.heap.size (by omega)).trans ((hb2.block W.heap.size (by simp)).trans x0))
  have HY2 := Lib.hid (show W2.heap[B2]? = some (.cells #[.slice a2 n2 c2, .int .i64 T.root] 24 (0, 0)) by rw [hW2, hB2]; exact new0 _ _)
  have HW2 := Lib.hid (And.intro hW2 hB2)
  have z3 : W.heap.size < W2.heap.size := by have := hb3.size; omega
  clear hb0 x0 hr2 hb2 hb3 z2 hW2 hB2
  go_wp2_with fail
  rw [← HW2.out.1, ← HW2.out.2]
  obtain ⟨k0, k1, -⟩ := box2 HY2.out
  refine wpT_begin2 (S := (fun wx => wx.cell? ⟨B2, 0, none⟩ = some (.slice a2 n2 c2) ∧ wx.cell? ⟨B2, 1, none⟩ = some (.int .i64 T.root) ∧ Below W2.heap.size W2 wx)) [] (by kernel_rfl) ?_ (fun Wd hHeld => ?_)
  · (try dsimp only)
    exact ⟨cell_dr k0, cell_dr k1, (Below.refl _ _).drew⟩
  have hbd := hHeld.2.2
  refine wpAnyT_take (i := 0) (oi := _) (v := ?_) rfl (by kernel_rfl) (by kernel_rfl) (by kernel_rfl) (by kernel_rfl) (fun _ _ _ h => h) (Or.inl ⟨by rfl, ?_⟩) (by assumption) ?_
  rotate_left
  · (intro w hSw; (try dsimp only at hSw); go_simp)
    all_goals (with_reducible rfl)
  (try simp only [List.getElem_toArray, List.getElem_cons_zero, List.getElem_cons_succ, Act.put, List.setIfInBounds_toArray, List.set_cons_zero, List.set_cons_succ])
  refine wpAnyT_pure (i := 1) (oi := _) (v := ?_) rfl (by kernel_rfl) (by kernel_rfl) (by kernel_rfl) (by kernel_rfl) (fun _ _ _ h => h) (Or.inl ⟨by rfl, ?_⟩) (fun _ => by assumption) ?_
  rotate_left
  · (intro w hSw; go_simp)
    all_goals (with_reducible rfl)
  (try simp only [List.getElem_toArray, List.getElem_cons_zero, List.getElem_cons_succ, Act.put, List.setIfInBounds_toArray, List.set_cons_zero, List.set_cons_succ])
  refine wpAnyT_pure (i := 3) (oi := _) (v := ?_) rfl (by kernel_rfl) (by kernel_rfl) (by kernel_rfl) (by kernel_rfl) (fun _ _ _ h => h) (Or.inl ⟨by rfl, ?_⟩) (fun _ => by assumption) ?_
  rotate_left
  · (intro w hSw; go_simp)
    all_goals (with_reducible rfl)
  (try simp only [List.getElem_toArray, List.getElem_cons_zero, List.getElem_cons_succ, Act.put, List.setIfInBounds_toArray, List.set_cons_zero, List.set_cons_succ])
  refine wpAnyT_ready (rs := [2]) (by kernel_rfl) (by simp) ?_
  refine AllReadyT.cons rfl (fun K hK => ?_) AllReadyT.nil
  go_simp
  (go_at_call 18; refine (oc_any n kv l _ (by omega) (HK.out.1.below (into HB2.out hHeld.2.2))).mono ?_; rintro e w3 ⟨v3, rfl, hown3, hbc⟩)
  go_wp2_with fail
  refine hK.out _ _ (fun _ => ?_) (fun hHeld0 => ?_)
  · (try dsimp only)
    exact ⟨cell_bel hbc (hHeld.1), cell_bel hbc (hHeld.2.1), Below.trans (hHeld.2.2) (hbc.mono (hHeld.2.2).size)⟩
  have hHeld1 := hHeld0 (by kernel_rfl)
  clear hK K hHeld0
  have hb3 := hHeld1.2.2; have HK3 := Lib.hid (Rd.own hown3)
  clear hHeld; have hHeld := hHeld1; clear hHeld1
  (try simp only [List.getElem_toArray, List.getElem_cons_zero, List.getElem_cons_succ, Act.put, List.setIfInBounds_toArray, List.set_cons_zero, List.set_cons_succ])
  refine wpAnyT_ready (rs := [4]) (by kernel_rfl) (by simp) ?_
  refine AllReadyT.cons rfl (fun K hK => ?_) AllReadyT.nil
  go_simp
  (go_at_call 18; refine (oc_any m mv lm _ (by omega) (HK.out.2.below (into HB2.out hHeld.2.2))).mono ?_; rintro e w4 ⟨v4, rfl, hown4, hbc⟩)
  go_wp2_with fail
  refine hK.out _ _ (fun _ => ?_) (fun hHeld0 => ?_)
  · (try dsimp only)
    exact ⟨cell_bel hbc (hHeld.1), cell_bel hbc (hHeld.2.1), Below.trans (hHeld.2.2) (hbc.mono (hHeld.2.2).size)⟩
  have hHeld1 := hHeld0 (by kernel_rfl)
  clear hK K hHeld0
  have hb4 := hHeld1.2.2; have HK4 := Lib.hid (Rd.own hown4); have HK34 := Lib.hid (HK3.out.below hbc)
  clear hHeld; have hHeld := hHeld1; clear hHeld1
  (try simp only [List.getElem_toArray, List.getElem_cons_zero, List.getElem_cons_succ, Act.put, List.setIfInBounds_toArray, List.set_cons_zero, List.set_cons_succ])
  refine wpAnyT_ready (rs := [5]) (by kernel_rfl) (by simp) ?_
  refine AllReadyT.cons rfl (fun K hK => ?_) AllReadyT.nil
  go_simp
  (go_at_call 17; refine (HPR.out w4 (fun b => b < W2.heap.size) (fun _ => True) (fun _ => True) _ _ _ (fun b hb => by have h1 : b < W2.heap.size := hb; have := hb4.size; omega) (HR2.out.below hb4) ⟨by have q := HK34.out; rw [HNL.out.1] at q; exact q, fun _ _ _ _ _ => trivial⟩ ⟨by have q := HK4.out; rw [HNL.out.2] at q; exact q, fun _ _ _ _ _ => trivial⟩).mono ?_; rintro e w5 ⟨sa, sn, sc, rfl, hv5, hbc⟩)
  go_wp2_with fail
  refine hK.out _ _ (fun _ => ?_) (fun hHeld0 => ?_)
  · (try dsimp only)
    exact ⟨cell_bel hbc (hHeld.1), cell_bel hbc (hHeld.2.1), Below.trans (hHeld.2.2) (hbc.mono (hHeld.2.2).size)⟩
  have hHeld1 := hHeld0 (by kernel_rfl)
  clear hK K hHeld0
  have hb5 := hHeld1.2.2; have HV5 := Lib.hid hv5
  clear hHeld; have hHeld := hHeld1; clear hHeld1
  (try simp only [List.getElem_toArray, List.getElem_cons_zero, List.getElem_cons_succ, Act.put, List.setIfInBounds_toArray, List.set_cons_zero, List.set_cons_succ])
  refine wpAnyT_pure (i := 6) (oi := _) (v := ?_) rfl (by kernel_rfl) (by kernel_rfl) (by kernel_rfl) (by kernel_rfl) (fun _ _ _ h => h) (Or.inl ⟨by rfl, ?_⟩) (fun _ => by assumption) ?_
  rotate_left
  · (intro w hSw; go_simp)
    all_goals (with_reducible rfl)
  (try simp only [List.getElem_toArray, List.getElem_cons_zero, List.getElem_cons_succ, Act.put, List.setIfInBounds_toArray, List.set_cons_zero, List.set_cons_succ])
  refine wpAnyT_pure (i := 7) (oi := _) (v := ?_) rfl (by kernel_rfl) (by kernel_rfl) (by kernel_rfl) (by kernel_rfl) (fun _ _ _ h => h) (Or.inl ⟨by rfl, ?_⟩) (fun _ => by assumption) ?_
  rotate_left
  · (intro w hSw; go_simp)
    all_goals (with_reducible rfl)
  (try simp only [List.getElem_toArray, List.getElem_cons_zero, List.getElem_cons_succ, Act.put, List.setIfInBounds_toArray, List.set_cons_zero, List.set_cons_succ])
  refine wpAnyT_pure (i := 8) (oi := _) (v := ?_) rfl (by kernel_rfl) (by kernel_rfl) (by kernel_rfl) (by kernel_rfl) (fun _ _ _ h => h) (Or.inl ⟨by rfl, ?_⟩) (fun _ => by assumption) ?_
  rotate_left
  · (intro w hSw; go_simp)
    all_goals (with_reducible rfl)
  (try simp only [List.getElem_toArray, List.getElem_cons_zero, List.getElem_cons_succ, Act.put, List.setIfInBounds_toArray, List.set_cons_zero, List.set_cons_succ])
  refine wpAnyT_ready (rs := [9]) (by kernel_rfl) (by simp) ?_
  refine AllReadyT.cons rfl (fun K hK => ?_) AllReadyT.nil
  go_simp
  refine hK.out _ _ (fun _ => ?_) (fun hHeld0 => ?_)
  · (try dsimp only)
    exact hHeld
  have hHeld1 := hHeld0 (by kernel_rfl)
  clear hK K hHeld0
  clear hHeld; have hHeld := hHeld1; clear hHeld1
  (try simp only [List.getElem_toArray, List.getElem_cons_zero, List.getElem_cons_succ, Act.put, List.setIfInBounds_toArray, List.set_cons_zero, List.set_cons_succ])
  refine wpAnyT_ready (rs := [10]) (by kernel_rfl) (by simp) ?_
  refine AllReadyT.cons rfl (fun K hK => ?_) AllReadyT.nil
  go_simp
  refine hK.out _ _ (fun _ => ?_) (fun hHeld0 => ?_)
  · (try dsimp only)
    exact hHeld
  have hHeld1 := hHeld0 (by kernel_rfl)
  clear hK K hHeld0
  clear hHeld; have hHeld := hHeld1; clear hHeld1
  (try simp only [List.getElem_toArray, List.getElem_cons_zero, List.getElem_cons_succ, Act.put, List.setIfInBounds_toArray, List.set_cons_zero, List.set_cons_succ])
  refine wpAnyT_done (by kernel_rfl) ?_ _
  have HB5 := Lib.hid (into HB2.out hb5); have HR5 := Lib.hid (HR2.out.below hb5); have HX5 := Lib.hid ((hb5.block _ z3).trans HX2.out); have HY5 := Lib.hid ((hb5.block _ (Array.getElem?_eq_some_iff.1 HY2.out).1).trans HY2.out)
  obtain ⟨z0, z1, -⟩ := box2 HX5.out
  clear hHeld hb5 hb4 hb3 hbc hbd hown3 hown4 hv5 k0 k1
  go_wp2_with fail
  have hk5 := HK.out.1.below HB5.out
  have hm5 := HK.out.2.below HB5.out
  rw [HNL.out.1] at hk5
  rw [HNL.out.2] at hm5
  refine (HDO.out w5 (old W) (fun _ => True) (fun _ => True) _ _ _ (fun b hb => by have h1 : b < W.heap.size := hb; have := HB5.out.size; omega) (HT.out.below HB5.out) ⟨hk5, fun _ _ _ _ _ => trivial⟩ ⟨hm5, fun _ _ _ _ _ => trivial⟩).mono ?_
  rintro e w6 ⟨ta, tn, tc, rfl, hv6, hb6⟩
  have hsn : sn = tn := by obtain ⟨_, h1, -, -⟩ := HV5.out; obtain ⟨_, h2, -, -⟩ := hv6; omega
  have hsl : sn ≤ 1000000000 := by obtain ⟨_, h1, -, -⟩ := HV5.out; have := HES.out; omega
  subst hsn
  have HB6 := Lib.hid (into HB5.out hb6)
  have HSE := Lib.hid (sameEntries_yes w6 sn _ _ es (HV5.out.below hb6) hv6 hsl)
  have HX6 := Lib.hid ((hb6.block _ (Array.getElem?_eq_some_iff.1 HX5.out).1).trans HX5.out)
  have HY6 := Lib.hid ((hb6.block _ (Array.getElem?_eq_some_iff.1 HY5.out).1).trans HY5.out)
  have HR6 := Lib.hid (HR5.out.below hb6)
  clear hb6 hv6 z0 z1 hk5 hm5
  simp only
  go_wp2_with (go_at_call 20; refine HSE.out.mono ?_; rintro e w7 ⟨rfl, hb7⟩; have HB7 := Lib.hid (into HB6.out hb7); have HR7 := Lib.hid (HR6.out.below hb7); obtain ⟨z0, z1, -⟩ := box2 ((hb7.block _ (Array.getElem?_eq_some_iff.1 HX6.out).1).trans HX6.out); obtain ⟨y0, y1, -⟩ := box2 ((hb7.block _ (Array.getElem?_eq_some_iff.1 HY6.out).1).trans HY6.out); clear hb7)
  refine (sameTree_yes w7 _ _ _ _ T HR7.out (HT.out.below HB7.out)).mono ?_
  rintro e w8 ⟨rfl, hb8⟩
  have HB8 := Lib.hid (into HB7.out hb8)
  clear hb8
  go_wp2
  go_ret
  exact ⟨rfl, HB8.out⟩

set_option maxRecDepth 100000 in
theorem lifted (os : Os) (started : os.Started) (H : Type) (enc : TypeId × Value → H) :
    ReturnsInHanded {} Try.checked os 3 .any (Rows.treeScansSpec.pre6 enc Try.prog Try.f3 Rows.treeScansRow.domain false) (Rows.treeScansSpec.post enc Try.prog Try.f3 false true false false) := by
  refine returnsInHanded_of_change_sized (C := Try.checked) Try.own started (by kernel_rfl) Try.func3
    (ChangeSpec.witness6 (enc := enc) (C := Try.checked) false ⟨#[], #[.agg #[.slice none 0 0, .int .i64 0], .slice none 0 0, .slice none 0 0], []⟩ 8 (by kernel_rfl) (by kernel_rfl) (by kernel_rfl) (by kernel_rfl)) ?_
  intro W base args ds gs before hval0 hW hcnd hsz0 _
  have hsz : (DataW.weightsEach Try.prog (Try.f3.params.toList ++ Rows.treeScansSpec.plain.varTypes Try.prog) (ds ++ gs)).all (· ≤ reachBytes) = true := hsz0
  have hval : ∀ (j : Nat) t v, Try.f3.params[j]? = some t → args[j]? = some v → Value.okWide Try.prog W .any base t v := hval0
  have hW' := hW
  obtain ⟨p, q, hA0, hV, rfl, hfz, hnd⟩ := hW
  have hA : DataW.TrodAll enc Try.prog W 0 (fun _ => true) true Try.f3.params.toList args.toList ds p := hA0
  rw [Try.params3] at hA hval hsz
  obtain ⟨v0, v1, v2, d0, d1, d2, p0, p1, p2, rfl, rfl, rfl, h0, h1, h2⟩ := trodAll_three hA
  obtain ⟨rfl, rfl⟩ := trodVars_none hV
  have sm0 : small Try.prog 24 d0 := fun q hq => by
    have := List.all_eq_true.1 hsz q (weights_each (j := 0) rfl rfl q hq)
    simpa using this
  obtain ⟨T0, hT0⟩ := open_tree (hval 0 24 v0 rfl rfl) h0 sm0
  obtain ⟨n1, l1, hr1, hs1⟩ := open_by Try.underlying25 Try.underlying5 (by kernel_rfl) (hval 1 25 v1 rfl rfl) h1
  have hz1 : n1 * 1 ≤ 140737488351232 := by
    rcases hs1 with rfl | ⟨es, sp, hd, hl⟩
    · omega
    · subst hd
      have := sized_slice hsz (j := 1) (t := 25) (e := 5) rfl rfl Try.underlying25
      rw [show Try.prog.bytesOf 5 = 1 by kernel_rfl, hl] at this
      simp only [reachBytes] at this
      omega
  obtain ⟨n2, l2, hr2, hs2⟩ := open_by Try.underlying25 Try.underlying5 (by kernel_rfl) (hval 2 25 v2 rfl rfl) h2
  have hz2 : n2 * 1 ≤ 140737488351232 := by
    rcases hs2 with rfl | ⟨es, sp, hd, hl⟩
    · omega
    · subst hd
      have := sized_slice hsz (j := 2) (t := 25) (e := 5) rfl rfl Try.underlying25
      rw [show Try.prog.bytesOf 5 = 1 by kernel_rfl, hl] at this
      simp only [reachBytes] at this
      omega
  clear hA0 hval0
  refine (walk W v0 T0 hT0 n1 v1 l1 hr1 hz1 n2 v2 l2 hr2 hz2).mono fun e W' ⟨he, hg⟩ => ?_
  subst he
  exact ⟨_, rfl, law_post (tb := 4) Try.laidOut (by kernel_rfl) (by kernel_rfl) Try.underlying4 rfl hW' hg rfl rfl rfl⟩

theorem proved : Rows.TreeScansSaid :=
  OpenClaim.holds_of_wide 3 Try.f3 rfl rfl rfl rfl rfl rfl rfl ⟨rfl, rfl, rfl, rfl, rfl⟩ rfl rfl rfl rfl rfl (by kernel_rfl) Try.func3 (by kernel_rfl)
    (of_decide_eq_true (by kernel_rfl)) (by unfold Func.isWrapper; first | (rw [if_pos (by decide +kernel)]; kernel_rfl) | (rw [if_neg (by decide +kernel)]; exact ⟨rfl, rfl⟩))
    (fun os started H enc _ => lifted os started H enc)
#print axioms proved
end Go.Proofs.Ytacpeibkamfibaa.lTreeScans
