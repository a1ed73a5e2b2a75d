/- A key found: the program answers as the document does, at every tree and every key. No condition. -/
import Derived.Test.YthoijpaoegojfaaB2
import Derived.Test.YthoijpaoegojfaaTb
namespace Go.Proofs.Ythoijpaoegojfaa.lTreeFinds
open Go.ChangeShapes Go.WideShapes Go.ChangeAt Go.RowKit Go.Joins
open Go.ChangeMaps (open_string shut_string)
set_option linter.unusedVariables false
set_option linter.unusedSimpArgs false
set_option maxHeartbeats 400000

set_option maxHeartbeats 4000000 in
theorem walk (W : World) (tv : Value) (T : Tr) (hT : InT W tv T) (n : Nat) (kv : Value) (l : List UInt8) (hr : Rd W 1 n kv (bc l)) (hz : n * 1 ≤ 140737488351232) :
    Calls Try.prog 5 #[tv, kv] W fun e w' => e = .returned (.bool true) ∧ Below W.heap.size W w' := by
  obtain ⟨ht, hcp, hsz, hrr, -⟩ := hT
  have hnl := len_b hr
  obtain ⟨a1, n1, c1, rfl⟩ := rt_shape ht
  have HT := Lib.hid ht
  have HK := Lib.hid hr
  obtain ⟨f1, hf1⟩ : ∃ f, f = findT T l := ⟨_, rfl⟩
  have hfi := fun (w : World) (ok : Nat → Prop) (hok : ∀ b, ok b → b < w.heap.size) (tv kv : Value) (ht : RT w ok tv T) (hk : Rd w 1 l.length kv (bc l)) => find_any w ok (fun _ => True) hok tv kv T l ht ⟨hk, fun _ _ _ _ _ => trivial⟩ ⟨hsz, hrr⟩
  have hfo := fun (w : World) (ok : Nat → Prop) (hok : ∀ b, ok b → b < w.heap.size) (tv kv : Value) (ht : RT w ok tv T) (hk : Rd w 1 l.length kv (bc l)) => found_any w ok hok tv kv T l ht hk hrr
  rw [← hf1] at hfi hfo
  have HFI := Lib.hid hfi
  have HFO := Lib.hid hfo
  have HCP := Lib.hid hcp
  have HNL := Lib.hid hnl
  clear hfi hfo hf1 hcp hnl ht hr
  obtain ⟨fa, fb⟩ := f1
  go_enter Try.func5, Try.ntmps5
  go_wp2_with fail
  have hb0 : Below W.heap.size W (W.alloc (.cells #[.slice a1 n1 c1, .int .i64 T.root] 24)) := (Below.refl _ _).alloc (Nat.le_refl _) _
  have x0 : (W.alloc (.cells #[.slice a1 n1 c1, .int .i64 T.root] 24)).heap[W.heap.size]? = some (.cells #[.slice a1 n1 c1, .int .i64 T.root] 24 (0, 0)) := new0 _ _
  refine (trees_any _ (old W) (fun b hb => by have h1 : b < W.heap.size := hb; simp; omega) _ T (HT.out.below hb0) HCP.out).mono ?_
  rintro e w2 ⟨v2, rfl, hr2, hb2⟩
  obtain ⟨a2, n2, c2, rfl⟩ := rt_shape hr2
  have z2 := hb2.size
  simp only [World.size_alloc] at z2
  have x2 := (hb2.block W.heap.size (by simp)).trans x0
  have HB2 := Lib.hid (into hb0 hb2)
  have HR2 := Lib.hid (hr2.mono (ok' := fun b => b < w2.heap.size) (fun b hb => hb.2))
  have HX2 := Lib.hid x2
  clear hb0 x0 hr2 hb2 x2
  go_wp2_with fail
  refine (oc_any n kv l w2 (by omega) (HK.out.below HB2.out)).mono ?_
  rintro e w3 ⟨v3, rfl, hown3, hb3⟩
  have z3 := hb3.size
  have HX3 := Lib.hid ((hb3.block W.heap.size (by omega)).trans HX2.out)
  have HB3 := Lib.hid (into HB2.out hb3)
  have HR3 := Lib.hid (HR2.out.below hb3)
  have hk3 := Rd.own hown3
  rw [HNL.out] at hk3
  have HK3 := Lib.hid hk3
  clear hown3 hb3 hk3
  go_wp2_with fail
  refine (HFI.out w3 _ (fun b hb => by have h1 : b < w2.heap.size := hb; omega) _ _ HR3.out HK3.out).mono ?_
  rintro e w4 ⟨rfl, hb4⟩
  have z4 := hb4.size
  have x4 := box2 ((hb4.block W.heap.size (by omega)).trans HX3.out)
  have HB4 := Lib.hid (into HB3.out hb4)
  have hk4 := HK.out.below HB4.out
  rw [HNL.out] at hk4
  have HK4 := Lib.hid hk4
  clear hb4 hk4
  simp only
  go_wp2_with fail
  refine (HFO.out w4 (old W) (fun b hb => by have h1 : b < W.heap.size := hb; omega) _ _ (HT.out.below HB4.out) HK4.out).mono ?_
  rintro e w5 ⟨rfl, hb5⟩
  have HB5 := Lib.hid (into HB4.out hb5)
  clear hb5 x4
  simp only
  go_wp2
  go_ret
  exact ⟨rfl, HB5.out⟩

set_option maxRecDepth 100000 in
theorem lifted (os : Os) (started : os.Started) (H : Type) (enc : TypeId × Value → H) :
    ReturnsInHanded {} Try.checked os 5 .any (Rows.treeFindsSpec.pre6 enc Try.prog Try.f5 Rows.treeFindsRow.domain false) (Rows.treeFindsSpec.post enc Try.prog Try.f5 false true false false) := by
  refine returnsInHanded_of_change_sized (C := Try.checked) Try.own started (by kernel_rfl) Try.func5
    (ChangeSpec.witness6 (enc := enc) (C := Try.checked) false ⟨#[], #[.agg #[.slice none 0 0, .int .i64 0], .slice none 0 0], []⟩ 8 (by kernel_rfl) (by kernel_rfl) (by kernel_rfl) (by kernel_rfl)) ?_
  intro W base args ds gs before hval0 hW hcnd hsz0 _
  have hsz : (DataW.weightsEach Try.prog (Try.f5.params.toList ++ Rows.treeFindsSpec.plain.varTypes Try.prog) (ds ++ gs)).all (· ≤ reachBytes) = true := hsz0
  have hval : ∀ (j : Nat) t v, Try.f5.params[j]? = some t → args[j]? = some v → Value.okWide Try.prog W .any base t v := hval0
  have hW' := hW
  obtain ⟨p, q, hA0, hV, rfl, hfz, hnd⟩ := hW
  have hA : DataW.TrodAll enc Try.prog W 0 (fun _ => true) true Try.f5.params.toList args.toList ds p := hA0
  rw [Try.params5] at hA hval hsz
  obtain ⟨v0, v1, d0, d1, p0, p1, rfl, rfl, rfl, h0, h1⟩ := trodAll_two hA
  obtain ⟨rfl, rfl⟩ := trodVars_none hV
  have sm0 : small Try.prog 24 d0 := fun q hq => by
    have := List.all_eq_true.1 hsz q (weights_each (j := 0) rfl rfl q hq)
    simpa using this
  obtain ⟨T0, hT0⟩ := open_tree (hval 0 24 v0 rfl rfl) h0 sm0
  obtain ⟨n1, l1, hr1, hs1⟩ := open_by Try.underlying32 Try.underlying5 (by kernel_rfl) (hval 1 32 v1 rfl rfl) h1
  have hz1 : n1 * 1 ≤ 140737488351232 := by
    rcases hs1 with rfl | ⟨es, sp, hd, hl⟩
    · omega
    · subst hd
      have := sized_slice hsz (j := 1) (t := 32) (e := 5) rfl rfl Try.underlying32
      rw [show Try.prog.bytesOf 5 = 1 by kernel_rfl, hl] at this
      simp only [reachBytes] at this
      omega
  clear hA0 hval0
  refine (walk W v0 T0 hT0 n1 v1 l1 hr1 hz1).mono fun e W' ⟨he, hg⟩ => ?_
  subst he
  exact ⟨_, rfl, law_post (tb := 4) Try.laidOut (by kernel_rfl) (by kernel_rfl) Try.underlying4 rfl hW' hg rfl rfl rfl⟩

theorem proved : Rows.TreeFindsSaid :=
  OpenClaim.holds_of_wide 5 Try.f5 rfl rfl rfl rfl rfl rfl rfl ⟨rfl, rfl, rfl, rfl, rfl⟩ rfl rfl rfl rfl rfl (by kernel_rfl) Try.func5 (by kernel_rfl)
    (of_decide_eq_true (by kernel_rfl)) (by unfold Func.isWrapper; first | (rw [if_pos (by decide +kernel)]; kernel_rfl) | (rw [if_neg (by decide +kernel)]; exact ⟨rfl, rfl⟩))
    (fun os started H enc _ => lifted os started H enc)
#print axioms proved
end Go.Proofs.Ythoijpaoegojfaa.lTreeFinds
