/- What finding answers, by the program; what both sides refuse; a law's own copy of a key. -/
import Derived.Test.YtahammkjkfdmhaaB1
import Derived.Test.YtahammkjkfdmhaaIu
import Derived.Test.YtahammkjkfdmhaaHg
namespace Go.Proofs.Ytahammkjkfdmhaa
open Go.ChangeShapes Go.WideShapes Go.ChangeAt Go.RowKit
set_option linter.unusedVariables false
set_option linter.unusedSimpArgs false
set_option maxHeartbeats 2000000
/-- All entries of a tree that may be. -/
noncomputable def entsTr (T : Tr) : List (Key × Int) := @dite _ (Pass T) (Classical.propDecidable _) (fun h => entT (pass_reps h).choose (pass_reps h).choose_spec.choose) (fun _ => [])
theorem ents_of {T : Tr} (hp : Pass T) : ∃ (h : Nat) (t : Tb h), Reps T h t ∧ entT h t = entsTr T := by
  refine ⟨(pass_reps hp).choose, (pass_reps hp).choose_spec.choose, (pass_reps hp).choose_spec.choose_spec, ?_⟩
  unfold entsTr
  rw [dif_pos hp]
/-- What both are refused for. -/
noncomputable def tkT (T : Tr) (k : Key) : Int := if chkT T = 0 then (if keyB k = true then 0 else 1) else 11
/-- What finding answers. -/
noncomputable def findT (T : Tr) (k : Key) : Int × Int := if tkT T k = 0 then ((lookE k (entsTr T)).getD 0, if (lookE k (entsTr T)).isSome then 0 else 8) else (0, tkT T k)
theorem tkT_bad {T : Tr} {k : Key} (h : ¬ (T.pages.length ≤ 4000 ∧ Pass T)) : tkT T k = 11 := by unfold tkT; rw [chkT_no h, if_neg (by omega)]
theorem tkT_size {T : Tr} {k : Key} (h : T.pages.length ≤ 4000 ∧ Pass T) (hk : ¬ okK k) : tkT T k = 1 := by
  unfold tkT
  rw [chkT_yes h.1 h.2, if_pos rfl, if_neg (fun e => hk ((keyB_iff k).1 e))]
theorem tkT_ok {T : Tr} {k : Key} (h : T.pages.length ≤ 4000 ∧ Pass T) (hk : okK k) : tkT T k = 0 := by
  unfold tkT
  rw [chkT_yes h.1 h.2, if_pos rfl, if_pos ((keyB_iff k).2 hk)]
theorem find_any (w : World) (ok ok' : Nat → Prop) (hok : ∀ b, ok b → b < w.heap.size) (tv kv : Value) (T : Tr) (k : Key) (ht : RT w ok tv T) (hk : RB w ok' kv k) (hs : Small T) :
    Calls Try.prog 13 #[tv, kv] w (Two (findT T k).1 (findT T k).2 w) := by
  by_cases hb : T.pages.length ≤ 4000 ∧ Pass T
  · by_cases hy : okK k
    · obtain ⟨h, t, hr, he⟩ := ents_of hb.2
      have hf : findT T k = ((lookE k (entT h t)).getD 0, if (lookE k (entT h t)).isSome then 0 else 8) := by
        unfold findT
        rw [if_pos (tkT_ok hb hy), he]
      rw [hf]
      exact find_ok w ok ok' hok tv kv T h t k ht hk hs hb.1 hr hy
    · have hf : findT T k = (0, 1) := by
        unfold findT
        rw [tkT_size hb hy, if_neg (by omega)]
      rw [hf]
      exact find_size w ok ok' hok tv kv T k ht hk hs hb hy
  · have hf : findT T k = (0, 11) := by
      unfold findT
      rw [tkT_bad hb, if_neg (by omega)]
    rw [hf]
    exact find_bad w ok hok tv kv T ht hs hb
theorem chk_two (T : Tr) : chkT T = 0 ∨ chkT T = 11 := by
  by_cases h : T.pages.length ≤ 4000 ∧ Pass T
  · exact .inl (chkT_yes h.1 h.2)
  · exact .inr (chkT_no h)
theorem treeKey_any (w : World) (ok : Nat → Prop) (hok : ∀ b, ok b → b < w.heap.size) (tv kv : Value) (T : Tr) (k : Key) (ht : RT w ok tv T) (hk : Rd w 1 k.length kv (bc k)) (hrr : Rng T.root) :
    Calls Try.prog 19 #[tv, kv] w fun e w' => e = .returned (.int .i64 (tkT T k)) ∧ Below w.heap.size w w' := by
  obtain ⟨a1, n1, c1, rfl⟩ := rt_shape ht
  have HT := Lib.hid ht
  have HK := Lib.hid hk
  clear ht hk
  go_enter Try.func19, Try.ntmps19
  go_wp2_with fail
  have hb0 : Below w.heap.size w (w.alloc (.cells #[.slice a1 n1 c1, .int .i64 T.root] 24)) := (Below.refl _ _).alloc (Nat.le_refl _) _
  refine (treeFault_any _ ok (fun b hb => by have := hok b hb; simp; omega) _ T (HT.out.below hb0) hrr).mono ?_
  rintro e w2 ⟨rfl, hb2⟩
  have HB2 := Lib.hid (into hb0 hb2)
  have hk2 := keyMay_any w2 kv k (HK.out.below HB2.out)
  have HK2 := Lib.hid hk2
  clear hk2 hb2 hb0 HT HK
  rcases chk_two T with hc | hc
  · rw [hc]
    by_cases hy : keyB k = true
    · have ht : tkT T k = 0 := by unfold tkT; rw [if_pos hc, if_pos hy]
      have HTK := Lib.hid ht
      rw [hy] at HK2
      clear ht hc hy
      go_wp2_with (go_at_call 37; refine HK2.out.mono ?_; rintro e w3 ⟨rfl, rfl⟩)
      go_ret
      exact ⟨by rw [HTK.out]; rfl, HB2.out⟩
    · have ht : tkT T k = 1 := by unfold tkT; rw [if_pos hc, if_neg hy]
      have HTK := Lib.hid ht
      rw [Bool.not_eq_true] at hy
      rw [hy] at HK2
      clear ht hc hy
      go_wp2_with (go_at_call 37; refine HK2.out.mono ?_; rintro e w3 ⟨rfl, rfl⟩)
      go_ret
      exact ⟨by rw [HTK.out]; rfl, HB2.out⟩
  · have ht : tkT T k = 11 := by unfold tkT; rw [if_neg (by omega)]; 
    have HTK := Lib.hid ht
    rw [hc]
    clear ht hc
    go_wp2_with fail
    go_ret
    exact ⟨by rw [HTK.out]; rfl, HB2.out⟩
theorem oc_any (m : Nat) (v : Value) (l : List UInt8) (w : World) (hm : m ≤ 140737488355328) (hr : Rd w 1 m v (bc l)) :
    Calls Try.prog 7 #[v] w fun e w' => ∃ v', e = .returned v' ∧ w'.ownsRow w.heap.size 5 1 v' m (bc l) ∧ Below w.heap.size w w' := by
  have HR := Lib.hid hr
  have hml := hr.len
  clear hr
  go_enter Try.func7, Try.ntmps7
  go_wp2_with (at_builtin; refine apg w m rfl _ _ 25 5 _ 1 1 Try.underlying25 Try.info5 rfl (by omega) rfl (World.ownsRow_nil _ _ _ _) (Nat.le_refl _) (by omega) (by omega) (bc_one _) HR.out rfl rfl ?_; intro v1 w1 hown1 hb1 _)
  go_ret
  exact ⟨_, rfl, by simpa using hown1, hb1⟩
end Go.Proofs.Ytahammkjkfdmhaa
