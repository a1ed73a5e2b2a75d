/- There is room for so many locks: at every raw number. The row lists the program's two tables; the card ties them to the program's text. -/
import Derived.Test.YtlggmdeoninkmaaDoorJl
import Derived.Test.YtlggmdeoninkmaaDoorMk
import Derived.Test.YtlggmdeoninkmaaDoorMd
import Derived.Test.YtlggmdeoninkmaaDoorKp
namespace Go.Proofs.YtlggmdeoninkmaaDoor.lAskFull
open Go.ChangeShapes Go.WideShapes Go.ChangeAt Go.RowKit Go.Joins
open Go.ChangeMaps (open_string shut_string)
set_option linter.unusedVariables false
set_option linter.unusedSimpArgs false
set_option maxHeartbeats 400000

set_option maxRecDepth 100000 in
set_option maxHeartbeats 4000000 in
theorem walk (W : World) (hL : Tog W ∧ Jnd W) (x : Int) (wx : (Lit.int .i64 x).wf = true) : Calls Tryd.prog 3 #[.int .i64 x] W fun e w' => e = .returned (.bool true) ∧ Below W.heap.size W w' := by
  have HT := Lib.hid hL
  have hp := pck_any x 400 W (rn_of wx) (by omega) (by omega)
  obtain ⟨p1, p2⟩ := pck_in x 400 (by omega)
  obtain ⟨k, hk⟩ : ∃ k : Nat, pck x 400 = (k : Int) := ⟨(pck x 400).toNat, by omega⟩
  rw [hk] at hp p1 p2
  obtain ⟨K, hK⟩ : ∃ K, K = if 200 < k then 200 else k := ⟨_, rfl⟩
  have hmin : (if (200 : Int) < (k : Int) then (200 : Int) else (k : Int)) = (K : Int) := by rw [hK]; split <;> split <;> omega
  have hK2 : K ≤ 200 := by rw [hK]; split <;> omega
  have hKk : K = 200 ↔ 200 ≤ k := by rw [hK]; split <;> omega
  have HP := Lib.hid hp
  have HKK := Lib.hid hKk
  clear hp hk p1 p2 hL wx hK hKk
  go_enter Tryd.func3, Tryd.ntmps3
  go_wp2_with (go_at_call 7; refine HP.out.mono ?_; rintro e w' ⟨rfl, rfl⟩)
  have hbx : (W.alloc (.cells #[.slice none 0 0, .slice none 0 0] 25)).heap[W.heap.size]? = some (.cells #[.slice none 0 0, .slice none 0 0] 25 (0, 0)) := new0 _ _
  obtain ⟨W0, hW0⟩ : ∃ W0 : World, W0 = W.alloc (.cells #[.slice none 0 0, .slice none 0 0] 25) := ⟨_, rfl⟩
  have hb0 : Below W.heap.size W W0 := by rw [hW0]; exact (Below.refl _ _).alloc (Nat.le_refl _) _
  rw [← hW0] at hbx ⊢
  have HBX := Lib.hid hbx
  have HB0 := Lib.hid hb0
  clear hbx hb0 hW0
  go_loopw [5] (fun i wr => ∃ (t : Nat) (v : Value), t ≤ K ∧ i = .int .i64 ((t : Int) + 1) ∧ Hid (wr.heap[W.heap.size]? = some (.cells #[v, .slice none 0 0] 25 (0, 0))) ∧ Hid (wr.ownsRow (W.heap.size + 1) 27 3 v t (lkc (manyL 1 t))) ∧ Hid (Below W.heap.size W wr)) (fun i _ => K + 1 - (intOf i).toNat)
  case atStart => exact ⟨0, _, by omega, rfl, HBX.out, World.ownsRow_nil _ _ _ _, HB0.out⟩
  case round =>
    obtain ⟨t, v, htK, rfl, HX, HO, HB⟩ := hrel
    obtain ⟨_, av, cv, rfl, _⟩ := Rd.own HO.out
    obtain ⟨x0, x1, f0, f1⟩ := box2 HX.out
    have hwz : W.heap.size + 1 ≤ wr.heap.size := (Array.getElem?_eq_some_iff.1 HX.out).1
    by_cases hlt : t < K
    · have hltI : (t : Int) + 1 ≤ (K : Int) := by omega
      have hne : ∀ k, (Value.slice av t cv).ownBlock = some k → W.heap.size + 1 ≤ k := fun k hk => (HO.out.lt k hk).1
      go_wp2_with (at_builtin; refine apx wr 1 rfl _ _ 23 27 _ 3 32 Tryd.underlying23 Tryd.info27 rfl (by omega) rfl HO.out (by omega) (by omega) (by unfold maxLen; omega) [.int .i64 ((t : Int) + 1), .string ⟨#[97]⟩, .int .i64 1] rfl (by simp [Value.oneCell']) _ rfl rfl rfl ?_; intro v2 w2 hown2 _ hg2 _; obtain ⟨_, a2, c2, rfl, _⟩ := Rd.own hown2; have hx2 : w2.heap[W.heap.size]? = some (.cells #[.slice av t cv, .slice none 0 0] 25 (0, 0)) := (hg2.block _ (by omega) (fun e => by have := hne _ e.symm; omega)).trans HX.out; have hb2 := HB.out.grown hg2 (by omega) (fun k hk => by have := hne k hk; omega); clear x0 x1 f0 f1; obtain ⟨x0, x1, f0, f1⟩ := box2 hx2; have HX2 := Lib.hid hx2; have HO2 := Lib.hid hown2; have HB2 := Lib.hid hb2; clear hx2 hown2 hb2 hg2)
      go_roundw
      case rel =>
        refine ⟨t + 1, .slice a2 (t + 1) c2, by omega, by go_num, ?_, ?_, HB2.out.setCell (p := ⟨W.heap.size, 0, none⟩) (Nat.le_refl _) _⟩
        · show _ = _
          rw [Lib.heap_setCell_same HX2.out]
          rfl
        · rw [many_succ, lkc_app]
          exact ownsRow_setCell_below HO2.out (a := ⟨W.heap.size, 0, none⟩) (by show W.heap.size < _; omega) _
      case measure => (simp [intOf]) <;> omega
    · obtain rfl : t = K := by omega
      have hf := full_is hK2
      have hask := ask_any wr (HT.out.1.below HB.out) (HT.out.2.below HB.out) t 0 (.slice av t cv) (.slice none 0 0) (manyL 1 t) [] ⟨1000, ⟨#[98]⟩, 5⟩ (Rd.own HO.out) (Rd.nil _ _) (by omega) (by omega)
      have HA : Hid (Calls Tryd.prog 8 #[.agg #[.slice av t cv, .slice none 0 0], .agg #[.int .i64 1000, .string ⟨#[98]⟩, .int .i64 5]] wr fun e w' => ∃ a3 n3 c3 a4 n4 c4, e = .returned (.tuple #[.agg #[.slice a3 n3 c3, .slice a4 n4 c4], .bool (if t = 200 then (false, (10 : Int)) else (true, 0)).1, .int .i64 (if t = 200 then (false, (10 : Int)) else (true, 0)).2]) ∧ Below wr.heap.size wr w') := hask.mono fun e w' ⟨h1, h2, g1, g2, g3, g4⟩ => by
        obtain ⟨_, a3, c3, rfl, _⟩ := g2
        obtain ⟨_, a4, c4, rfl, _⟩ := g3
        exact ⟨a3, _, c3, a4, _, c4, by rw [← hf]; exact g1, g4⟩
      have hltI : ¬ (t : Int) + 1 ≤ (t : Int) := by omega
      clear hf hask
      by_cases h2 : t = 200
      · have hkI : (200 : Int) ≤ (k : Int) := by have := HKK.out.1 h2; omega
        subst h2
        go_wp2_with fail
        refine HA.out.mono ?_
        rintro e w2 ⟨a3, n3, c3, a4, n4, c4, rfl, hb2⟩
        have HB2 := Lib.hid (into HB.out hb2)
        clear hb2 x0 x1 f0 f1
        go_wp2_with fail
        go_ret
        exact ⟨rfl, HB2.out.alloc HB2.out.size _⟩
      · have hkI : ¬ (200 : Int) ≤ (k : Int) := fun h => h2 (HKK.out.2 (by omega))
        rw [if_neg h2] at HA
        go_wp2_with fail
        refine HA.out.mono ?_
        rintro e w2 ⟨a3, n3, c3, a4, n4, c4, rfl, hb2⟩
        have HB2 := Lib.hid (into HB.out hb2)
        clear hb2 x0 x1 f0 f1
        go_wp2_with fail
        go_ret
        exact ⟨rfl, HB2.out.alloc HB2.out.size _⟩

set_option maxRecDepth 100000 in
theorem lifted (os : Os) (started : os.Started) (H : Type) (enc : TypeId × Value → H) :
    ReturnsInHanded {} Tryd.checked os 3 .any (fun w args => (Rows.askFullSpec.pre enc Tryd.prog Tryd.f3 [] false w args ∧ laidTJ w) ∧ sizedMet enc Tryd.prog Tryd.f3 (OpenSpec.ofChange Rows.askFullSpec) false w args) (Rows.askFullSpec.post enc Tryd.prog Tryd.f3 false true false false) := by
  refine returnsInHanded_of_change_and (C := Tryd.checked) (X := fun w _ => laidTJ w) (fun _ _ _ hh h => h.of_heap hh) Tryd.own started (by kernel_rfl) Tryd.func3
    (ChangeSpec.witness_at (enc := enc) (C := Tryd.checked) (os := os) (X := fun w _ => laidTJ w) false (tabled os) #[.int .i64 0] 8 rfl (by kernel_rfl) (by kernel_rfl) (by kernel_rfl) (by kernel_rfl) (by kernel_rfl) (tabled_laidTJ os _)) ?_
  intro W base args ds gs before hval0 hW hcnd hsz0 hL _
  have hsz : (DataW.weightsEach Tryd.prog (Tryd.f3.params.toList ++ Rows.askFullSpec.plain.varTypes Tryd.prog) (ds ++ gs)).all (· ≤ reachBytes) = true := hsz0
  have hval : ∀ (j : Nat) t v, Tryd.f3.params[j]? = some t → args[j]? = some v → Value.okWide Tryd.prog W .any base t v := hval0
  have hW' := hW
  obtain ⟨p, q, hA0, hV, rfl, hfz, hnd⟩ := hW
  have hA : DataW.TrodAll enc Tryd.prog W 0 (fun _ => true) true Tryd.f3.params.toList args.toList ds p := hA0
  rw [Tryd.params3] at hA hval hsz
  obtain ⟨v0, d0, rfl, rfl, h0⟩ := trodAll_one hA
  obtain ⟨rfl, rfl⟩ := trodVars_none hV
  obtain ⟨a0, rfl, rfl, rfl, w0⟩ := open_int Tryd.underlying3 (hval 0 3 v0 rfl rfl) h0
  clear hA0 hval0
  refine (walk W (TJ_of hL) a0 w0).mono fun e W' ⟨he, hg⟩ => ?_
  subst he
  exact ⟨_, rfl, law_post (tb := 4) Tryd.laidOut (by kernel_rfl) (by kernel_rfl) Tryd.underlying4 rfl hW' hg rfl rfl rfl⟩

theorem bare : Rows.AskFullSaid :=
  OpenClaim.holds_of_wide 3 Tryd.f3 rfl rfl rfl rfl rfl rfl rfl ⟨rfl, rfl, rfl, rfl, rfl⟩ rfl rfl rfl rfl rfl (by kernel_rfl) Tryd.func3 (by kernel_rfl)
    (of_decide_eq_true (by kernel_rfl)) (by unfold Func.isWrapper; first | (rw [if_pos (by decide +kernel)]; kernel_rfl) | (rw [if_neg (by decide +kernel)]; exact ⟨rfl, rfl⟩))
    (fun os started H enc _ => lifted os started H enc)
/-- The card: the row's one listed variable is tied to the program's text. -/
theorem proved : Rows.AskFullCardSaid :=
  Claim7.holds_tied_plain_at .later [] [.data, .data] true _ false bare (fun _ h => by cases h) (by kernel_rfl) (fun _ h => by cases h) askFull_row_tie rfl ⟨rfl, rfl⟩ (by kernel_rfl) rfl
    (fun f fn hf hfn => by
      obtain rfl : f = 3 := Option.some.inj ((show Tryd.prog.funcNamed "padlock/padlockkeep.AskFull" = some 3 by kernel_rfl).symm.trans hf) |>.symm
      obtain rfl : fn = Tryd.f3 := (Option.some.inj (Tryd.func3.symm.trans hfn)).symm
      refine ⟨by kernel_rfl, fun j t ht => ?_⟩
      rw [Tryd.params3] at ht
      rcases j with _ | j <;> simp at ht <;> subst ht <;> kernel_rfl)
    (by kernel_rfl)
#print axioms proved
end Go.Proofs.YtlggmdeoninkmaaDoor.lAskFull
