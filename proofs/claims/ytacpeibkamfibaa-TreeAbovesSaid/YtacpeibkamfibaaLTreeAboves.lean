/- The next entry above a key: the program answers as the document does, at every tree and every key. No condition. -/
import Derived.Test.YtacpeibkamfibaaB2
import Derived.Test.YtacpeibkamfibaaXh
namespace Go.Proofs.Ytacpeibkamfibaa.lTreeAboves
open Go.ChangeShapes Go.WideShapes Go.ChangeAt Go.RowKit Go.Joins
open Go.ChangeMaps (open_string shut_string)
set_option linter.unusedVariables false
set_option linter.unusedSimpArgs false
set_option maxHeartbeats 400000

set_option maxRecDepth 100000 in
set_option maxHeartbeats 8000000 in
theorem walk (W : World) (tv : Value) (T : Tr) (hT : InT W tv T) (n : Nat) (kv : Value) (l : List UInt8) (hr : Rd W 1 n kv (bc l)) (hz : n * 1 ≤ 140737488351232) :
    Calls Try.prog 4 #[tv, kv] W fun e w' => e = .returned (.bool true) ∧ Below W.heap.size W w' := by
  obtain ⟨ht, hcp, hsz, hrr, -⟩ := hT
  have hnl := len_b hr
  obtain ⟨a1, n1, c1, rfl⟩ := rt_shape ht
  obtain ⟨kk, r, c, hpr, hdo⟩ := above_both (T := T) l ⟨hsz, hrr⟩
  have HT := Lib.hid ht
  have HK := Lib.hid hr
  have HPR := Lib.hid hpr
  have HDO := Lib.hid hdo
  have HCP := Lib.hid hcp
  have HNL := Lib.hid hnl
  clear hpr hdo hcp hnl ht hr
  go_enter Try.func4, Try.ntmps4
  go_wp2_with fail
  have hb0 : Below W.heap.size W (W.alloc (.cells #[.slice a1 n1 c1, .int .i64 T.root] 24)) := bel_al _ _
  have x0 : (W.alloc (.cells #[.slice a1 n1 c1, .int .i64 T.root] 24)).heap[W.heap.size]? = some (.cells #[.slice a1 n1 c1, .int .i64 T.root] 24 (0, 0)) := new0 _ _
  refine (trees_any _ (old W) (fun b hb => by have h1 : b < W.heap.size := hb; simp; omega) _ T (HT.out.below hb0) HCP.out).mono ?_
  rintro e w2 ⟨v2, rfl, hr2, hb2⟩
  obtain ⟨a2, n2, c2, rfl⟩ := rt_shape hr2
  have z2 := hb2.size
  simp only [World.size_alloc] at z2
  have HB2 := Lib.hid (into hb0 hb2)
  have HR2 := Lib.hid (hr2.mono (ok' := fun b => b < w2.heap.size) (fun b hb => hb.2))
  have HX2 := Lib.hid ((hb2.block W.heap.size (by simp)).trans x0)
  clear hb0 x0 hr2 hb2
  go_wp2_with fail
  refine (oc_any n kv l w2 (by omega) (HK.out.below HB2.out)).mono ?_
  rintro e w3 ⟨v3, rfl, hown3, hb3⟩
  have z3 := hb3.size
  have HX3 := Lib.hid ((hb3.block W.heap.size (by omega)).trans HX2.out)
  have HB3 := Lib.hid (into HB2.out hb3)
  have HR3 := Lib.hid (HR2.out.below hb3)
  have hk3 := Rd.own hown3
  rw [HNL.out] at hk3
  have HK3 := Lib.hid (show RB w3 (fun _ => True) v3 l from ⟨hk3, fun _ _ _ _ _ => trivial⟩)
  clear hown3 hb3 hk3
  go_wp2_with fail
  refine (HPR.out w3 _ _ _ _ (fun b hb => by have h1 : b < w2.heap.size := hb; omega) HR3.out HK3.out).mono ?_
  rintro e w4 ⟨xa, xc, rfl, hx4, hb4⟩
  obtain ⟨xn, hxn⟩ : ∃ x, x = kk.length := ⟨_, rfl⟩
  rw [← hxn] at hx4 ⊢
  have HXN := Lib.hid hxn
  clear hxn
  obtain ⟨W4, hW4⟩ : ∃ W4 : World, W4 = w4.alloc (.cells #[.slice xa xn xc, .int .i64 r] 36) := ⟨_, rfl⟩
  obtain ⟨B4, hB4⟩ : ∃ B4, B4 = w4.heap.size := ⟨_, rfl⟩
  have hb5 : Below w3.heap.size w3 W4 := by rw [hW4]; exact into hb4 (bel_al _ _)
  have HX4 := Lib.hid ((hb5.block W.heap.size (by omega)).trans HX3.out)
  have HB4 := Lib.hid (into HB3.out hb5)
  have HE4 := Lib.hid (show RB W4 (fun _ => True) (.slice xa xn xc) kk by rw [hW4]; exact hx4.below (bel_al _ _))
  have HBX := Lib.hid (show W4.heap[B4]? = some (.cells #[.slice xa xn xc, .int .i64 r] 36 (0, 0)) by rw [hW4, hB4]; exact new0 _ _)
  have HW4 := Lib.hid (And.intro hW4 hB4)
  obtain ⟨z0, z1, -⟩ := box2 HX4.out
  rw [hW4] at z0 z1
  clear hb4 hb5 hx4 hW4 hB4
  simp only
  go_wp2_with fail
  rw [← HW4.out.1, ← HW4.out.2]
  have hk4 := HK.out.below HB4.out
  rw [HNL.out] at hk4
  refine (HDO.out W4 (old W) (fun _ => True) _ _ (fun b hb => by have h1 : b < W.heap.size := hb; have := HB4.out.size; omega) (HT.out.below HB4.out) ⟨hk4, fun _ _ _ _ _ => trivial⟩).mono ?_
  rintro e w5 ⟨ya, yc, rfl, hy5, hb6⟩
  rw [← HXN.out] at hy5 ⊢
  obtain ⟨W5, hW5⟩ : ∃ W5 : World, W5 = w5.alloc (.cells #[.slice ya xn yc, .int .i64 r] 36) := ⟨_, rfl⟩
  have hb7 : Below W4.heap.size W4 W5 := by rw [hW5]; exact into hb6 (bel_al _ _)
  have HB5 := Lib.hid (into HB4.out hb7)
  have HSE := Lib.hid (sameEntry_yes W5 _ (fun _ => True) xa ya xn xc yc kk r (HE4.out.below hb7) (by rw [hW5]; exact hy5.below (bel_al _ _)))
  obtain ⟨x0, x1, -⟩ := box2 ((hb7.block _ (Array.getElem?_eq_some_iff.1 HBX.out).1).trans HBX.out)
  rw [hW5] at x0 x1
  have HW5 := Lib.hid hW5
  clear hb6 hb7 hy5 hW5 hk4 z0 z1
  simp only
  go_wp2_with fail
  rw [← HW5.out]
  refine HSE.out.mono ?_
  rintro e w6 ⟨rfl, hb8⟩
  have HB6 := Lib.hid (into HB5.out hb8)
  clear hb8
  go_wp2
  go_ret
  exact ⟨rfl, HB6.out⟩

set_option maxRecDepth 100000 in
theorem lifted (os : Os) (started : os.Started) (H : Type) (enc : TypeId × Value → H) :
    ReturnsInHanded {} Try.checked os 4 .any (Rows.treeAbovesSpec.pre6 enc Try.prog Try.f4 Rows.treeAbovesRow.domain false) (Rows.treeAbovesSpec.post enc Try.prog Try.f4 false true false false) := by
  refine returnsInHanded_of_change_sized (C := Try.checked) Try.own started (by kernel_rfl) Try.func4
    (ChangeSpec.witness6 (enc := enc) (C := Try.checked) false ⟨#[], #[.agg #[.slice none 0 0, .int .i64 0], .slice none 0 0], []⟩ 8 (by kernel_rfl) (by kernel_rfl) (by kernel_rfl) (by kernel_rfl)) ?_
  intro W base args ds gs before hval0 hW hcnd hsz0 _
  have hsz : (DataW.weightsEach Try.prog (Try.f4.params.toList ++ Rows.treeAbovesSpec.plain.varTypes Try.prog) (ds ++ gs)).all (· ≤ reachBytes) = true := hsz0
  have hval : ∀ (j : Nat) t v, Try.f4.params[j]? = some t → args[j]? = some v → Value.okWide Try.prog W .any base t v := hval0
  have hW' := hW
  obtain ⟨p, q, hA0, hV, rfl, hfz, hnd⟩ := hW
  have hA : DataW.TrodAll enc Try.prog W 0 (fun _ => true) true Try.f4.params.toList args.toList ds p := hA0
  rw [Try.params4] at hA hval hsz
  obtain ⟨v0, v1, d0, d1, p0, p1, rfl, rfl, rfl, h0, h1⟩ := trodAll_two hA
  obtain ⟨rfl, rfl⟩ := trodVars_none hV
  have sm0 : small Try.prog 24 d0 := fun q hq => by
    have := List.all_eq_true.1 hsz q (weights_each (j := 0) rfl rfl q hq)
    simpa using this
  obtain ⟨T0, hT0⟩ := open_tree (hval 0 24 v0 rfl rfl) h0 sm0
  obtain ⟨n1, l1, hr1, hs1⟩ := open_by Try.underlying25 Try.underlying5 (by kernel_rfl) (hval 1 25 v1 rfl rfl) h1
  have hz1 : n1 * 1 ≤ 140737488351232 := by
    rcases hs1 with rfl | ⟨es, sp, hd, hl⟩
    · omega
    · subst hd
      have := sized_slice hsz (j := 1) (t := 25) (e := 5) rfl rfl Try.underlying25
      rw [show Try.prog.bytesOf 5 = 1 by kernel_rfl, hl] at this
      simp only [reachBytes] at this
      omega
  clear hA0 hval0
  refine (walk W v0 T0 hT0 n1 v1 l1 hr1 hz1).mono fun e W' ⟨he, hg⟩ => ?_
  subst he
  exact ⟨_, rfl, law_post (tb := 4) Try.laidOut (by kernel_rfl) (by kernel_rfl) Try.underlying4 rfl hW' hg rfl rfl rfl⟩

theorem proved : Rows.TreeAbovesSaid :=
  OpenClaim.holds_of_wide 4 Try.f4 rfl rfl rfl rfl rfl rfl rfl ⟨rfl, rfl, rfl, rfl, rfl⟩ rfl rfl rfl rfl rfl (by kernel_rfl) Try.func4 (by kernel_rfl)
    (of_decide_eq_true (by kernel_rfl)) (by unfold Func.isWrapper; first | (rw [if_pos (by decide +kernel)]; kernel_rfl) | (rw [if_neg (by decide +kernel)]; exact ⟨rfl, rfl⟩))
    (fun os started H enc _ => lifted os started H enc)
#print axioms proved
end Go.Proofs.Ytacpeibkamfibaa.lTreeAboves
