/- A key has one to a hundred bytes, a row is not below 0: at every list of raw numbers and every raw number. No condition. -/
import Derived.Deep.OwnRows
import Derived.Laws.OwnMore
import Derived.Test.YtacpeibkamfibaaB2
import Derived.Test.YtacpeibkamfibaaXc
import Derived.Test.YtacpeibkamfibaaXd
import Derived.Test.YtacpeibkamfibaaTz
namespace Go.Proofs.Ytacpeibkamfibaa.lTreeKeys
open Go.ChangeShapes Go.WideShapes Go.ChangeAt Go.RowKit Go.Joins
open Go.ChangeMaps (open_string shut_string)
set_option linter.unusedVariables false
set_option linter.unusedSimpArgs false
set_option maxHeartbeats 400000

theorem run_keys (L : List Int) : ∀ (m : Nat) (e : Key × Int), e ∈ runE L m → ∃ a, e.1 = keyK a
  | 0, e, h => by simp [runE] at h
  | m + 1, e, h => by
    have ih := run_keys L m
    unfold runE stepE at h
    split at h
    · exact ih e (List.mem_filter.1 h).1
    · split at h
      · exact ih e h
      · rcases insE_mem.1 h with rfl | h
        · exact ⟨_, rfl⟩
        · exact ih e h
theorem zeros_none {l : List (Key × Int)} (hl : ∀ e ∈ l, ∃ a, e.1 = keyK a) (k : Nat) : lookE (List.replicate k (0 : UInt8)) l = none := by
  refine lookE_none fun e he hk => ?_
  obtain ⟨a, ha⟩ := hl e he
  have hb := keyK_bc a
  rw [← ha, hk] at hb
  obtain ⟨h1, h2⟩ := pck_in a 90 (by omega)
  rcases k with _ | k
  · simp [bc] at hb
  · simp only [bc, List.replicate_succ, List.map_cons, List.cons.injEq, Value.int.injEq, true_and] at hb
    have := hb.1
    simp at this
    omega
theorem zeros_rb (w : World) (k : Nat) (hk : k ≤ 1000) (H : Nat) (hH : w.heap.size = H) : RB (w.alloc (.cells (madeCells #[.int .u8 0] k) 5)) (fun _ => True) (.slice (some ⟨H, 0, none⟩) k k) (List.replicate k 0) := by
  subst hH
  have e1 : (madeCells #[Value.int .u8 0] k) = (bc (List.replicate k 0)).toArray := by
    apply Array.ext'
    rw [toList_madeCells_one]
    simp [bc]
  refine ⟨?_, fun _ _ _ _ _ => trivial⟩
  rw [e1, List.length_replicate]
  exact ⟨by simp [bc], _, k, rfl, Nat.le_refl _, by unfold maxLen; omega, fun h => (by cases h), fun a ha j u hu => by cases ha; exact new_cells w _ _ j u hu⟩
theorem one_rb (w : World) : RB (w.alloc (.cells #[.int .u8 1] 5)) (fun _ => True) (.slice (some ⟨w.heap.size, 0, none⟩) 1 1) [1] :=
  ⟨⟨rfl, _, 1, rfl, Nat.le_refl _, by unfold maxLen; omega, fun h => (by cases h), fun a ha j u hu => by cases ha; exact new_cells w [.int .u8 1] _ j u hu⟩, fun _ _ _ _ _ => trivial⟩
def KeysIs (k : Nat) (i f s : Int) : Prop := (1 ≤ k ∧ k ≤ 100 ∧ i = 0 ∧ f = 8 ∧ s = 0) ∨ (k = 0 ∧ i = 1 ∧ f = 1 ∧ s = 0) ∨ (100 < k ∧ i = 1 ∧ f = 1 ∧ s = 1)
theorem keys_all {B : Nat} {w : World} {tv : Value} {T : Tr} {l : List (Key × Int)} (h : GT B 70 w tv T l) (hl : ∀ e ∈ l, ∃ a, e.1 = keyK a) (k : Nat) : ∃ i f s, KeysIs k i f s ∧
    (∀ W kv ok1, Below w.heap.size w W → RB W ok1 kv (List.replicate k 0) → Calls Try.prog 25 #[tv, kv, .int .i64 1] W fun e w' => ∃ a n c r, e = .returned (.tuple #[.agg #[.slice a n c, .int .i64 r], .int .i64 i]) ∧ Below W.heap.size W w') ∧
    (∀ W kv ok1, Below w.heap.size w W → RB W ok1 kv (List.replicate k 0) → Calls Try.prog 31 #[tv, kv] W (Two 0 f W)) ∧
    (∀ W kv ok1, Below w.heap.size w W → RB W ok1 kv (List.replicate k 0) → Calls Try.prog 17 #[tv, kv, .slice none 0 0] W fun e w' => ∃ a n c, e = .returned (.tuple #[.slice a n c, .int .i64 s]) ∧ Below W.heap.size W w') := by
  have hno := zeros_none hl k
  by_cases h1 : 100 < k
  · have hk : ¬ okK (List.replicate k (0 : UInt8)) := fun q => by have := q.2; rw [List.length_replicate] at this; omega
    refine ⟨1, 1, 1, .inr (.inr ⟨h1, rfl, rfl, rfl⟩), fun W kv ok1 hW hr => ?_, fun W kv ok1 hW hr => find_size_g (h.below hW) hr hk, fun W kv ok1 hW hr => ?_⟩
    · exact (insert_size (h.below hW) hr hk).mono fun e w' q => ⟨none, 0, 0, 0, q.1, q.2⟩
    · have g := h.below hW
      obtain ⟨⟨h', t, g1, g2, g3⟩, g4⟩ := g.grown
      obtain ⟨ak, ck, rfl⟩ := hr.sh
      exact (scan_size W _ (fun b hb => hb.2) tv ak none _ ck 0 0 T g.rt g.small ⟨by have := g.pages; omega, reps_pass g1⟩ (.inl (by rw [List.length_replicate]; exact h1))).mono fun e w' q => ⟨none, 0, 0, q.1, q.2⟩
  · by_cases h0 : k = 0
    · subst h0
      have hk : ¬ okK (List.replicate 0 (0 : UInt8)) := fun q => by have := q.1; simp at this
      refine ⟨1, 1, 0, .inr (.inl ⟨rfl, rfl, rfl, rfl⟩), fun W kv ok1 hW hr => ?_, fun W kv ok1 hW hr => find_size_g (h.below hW) hr hk, fun W kv ok1 hW hr => ?_⟩
      · exact (insert_size (h.below hW) hr hk).mono fun e w' q => ⟨none, 0, 0, 0, q.1, q.2⟩
      · exact (scan_v (h.below hW) hr (rb_nil W) (by simp) (by simp)).mono fun e w' ⟨a, n, c, q1, q2, q3⟩ => ⟨a, n, c, q1, q3⟩
    · have hk : okK (List.replicate k (0 : UInt8)) := ⟨by rw [List.length_replicate]; omega, by rw [List.length_replicate]; omega⟩
      refine ⟨0, 8, 0, .inl ⟨by omega, by omega, rfl, rfl, rfl⟩, fun W kv ok1 hW hr => ?_, fun W kv ok1 hW hr => ?_, fun W kv ok1 hW hr => ?_⟩
      · exact (insert_g (h.below hW) (by omega) hr hk (by omega) hno).mono fun e w' ⟨a, c, U, q1, q2, q3⟩ => ⟨a, _, c, _, q1, q3⟩
      · have q := find_g (h.below hW) hr hk
        rw [hno] at q
        exact q
      · exact (scan_v (h.below hW) hr (rb_nil W) hk.2 (by simp)).mono fun e w' ⟨a, n, c, q1, q2, q3⟩ => ⟨a, n, c, q1, q3⟩
set_option maxRecDepth 100000 in
set_option maxHeartbeats 8000000 in
theorem walk (W : World) (n : Nat) (v : Value) (L : List Int) (hr : Rd W 1 n v (ic L)) (hz : n * 8 ≤ 140737488351232) (hs : ∀ o ∈ L, (Lit.int .i64 o).wf = true) (a : Int) (wa : (Lit.int .i64 a).wf = true) :
    Calls Try.prog 15 #[v, .int .i64 a] W fun e w' => e = .returned (.bool true) ∧ Below W.heap.size W w' := by
  have HTREE := Lib.hid (tree_any W n v L hr fun x hx => rn_of (hs x hx))
  have hpa := fun (w : World) => pck_any a 140 w (rn_of wa) (by omega) (by omega)
  obtain ⟨p1, p2⟩ := pck_in a 140 (by omega)
  obtain ⟨k, hk⟩ : ∃ k : Nat, pck a 140 = (k : Int) := ⟨(pck a 140).toNat, by omega⟩
  rw [hk] at hpa p1 p2
  have HPA := Lib.hid hpa
  have hk140 : k < 140 := by omega
  clear hpa hk p1 p2
  obtain ⟨_, av, cv, rfl, -⟩ := id hr
  clear hr hs
  go_enter Try.func15, Try.ntmps15
  go_wp2_with fail
  refine HTREE.out.mono ?_
  rintro e w1 ⟨ao, cap, T, rfl, hg1, hb1⟩
  obtain ⟨l, hl⟩ : ∃ l, l = runE L (min L.length 70) := ⟨_, rfl⟩
  rw [← hl] at hg1
  obtain ⟨W1, hW1⟩ : ∃ W1 : World, W1 = w1.alloc (.cells #[.slice ao T.pages.length cap, .int .i64 T.root] 24) := ⟨_, rfl⟩
  have hX := TBx.new hg1
  obtain ⟨Bt, hBt⟩ : ∃ x, x = w1.heap.size := ⟨_, rfl⟩
  rw [← hW1, ← hBt] at hX
  have HB1 := Lib.hid (show Below W.heap.size W W1 by rw [hW1]; exact into hb1 (bel_al _ _))
  have HX1 := Lib.hid hX
  have HW1 := Lib.hid hW1
  have HBT := Lib.hid hBt
  have HLL := Lib.hid hl
  have HBG := Lib.hid (show W.heap.size ≤ Bt by rw [hBt]; exact hb1.size)
  clear hg1 hb1 hX hW1 hBt hl
  have HMK : ∀ W' : World, (Instr.makeSlice 25 (.int .i64 (k : Int)) (.int .i64 (k : Int))).run Try.prog W' = .ok (.slice (some ⟨W'.heap.size, 0, none⟩) k k) (W'.alloc (.cells (madeCells #[.int .u8 0] k) 5)) := fun W' => run_make_row' 25 5 (.int .u8 0) 1 Try.underlying25 Try.info5 rfl .i64 .i64 k (by omega) (by omega) W'
  obtain ⟨i, f, s, hki, hin, hfi, hsc⟩ := keys_all HX1.out.g (fun e he => run_keys L _ e (by rw [← HLL.out]; exact he)) k
  have HKI := Lib.hid hki
  have HIN := Lib.hid hin
  have HFI := Lib.hid hfi
  have HSC := Lib.hid hsc
  clear hki hin hfi hsc
  go_wp2_with (go_at_call 32; refine (HPA.out _).mono ?_; rintro e w' ⟨rfl, rfl⟩)
  rw [← HW1.out, ← HBT.out]
  obtain ⟨k0, k1, -⟩ := box2 HX1.out.x
  refine wpT_begin2 (S := (fun wx => wx.cell? ⟨Bt, 0, none⟩ = some (.slice ao T.pages.length cap) ∧ wx.cell? ⟨Bt, 1, none⟩ = some (.int .i64 T.root) ∧ Below W1.heap.size W1 wx)) [8] (by kernel_rfl) ?_ (fun Wd hHeld => ?_)
  · (try dsimp only)
    exact ⟨cell_dr k0, cell_dr k1, (Below.refl _ _).drew⟩
  have hbd := hHeld.2.2
  refine wpAnyT_take (i := 0) (oi := _) (v := ?_) rfl (by kernel_rfl) (by kernel_rfl) (by kernel_rfl) (by kernel_rfl) (fun _ _ _ h => h) (Or.inl ⟨by rfl, ?_⟩) (by assumption) ?_
  rotate_left
  · (intro w hSw; (try dsimp only at hSw); go_simp)
    all_goals (with_reducible rfl)
  (try simp only [List.getElem_toArray, List.getElem_cons_zero, List.getElem_cons_succ, Act.put, List.setIfInBounds_toArray, List.set_cons_zero, List.set_cons_succ])
  refine wpAnyT_pure (i := 1) (oi := _) (v := ?_) rfl (by kernel_rfl) (by kernel_rfl) (by kernel_rfl) (by kernel_rfl) (fun _ _ _ h => h) (Or.inl ⟨by rfl, ?_⟩) (fun _ => by assumption) ?_
  rotate_left
  · (intro w hSw; go_simp)
    all_goals (with_reducible rfl)
  (try simp only [List.getElem_toArray, List.getElem_cons_zero, List.getElem_cons_succ, Act.put, List.setIfInBounds_toArray, List.set_cons_zero, List.set_cons_succ])
  refine wpAnyT_ready (rs := [2, 7]) (by kernel_rfl) (by simp) ?_
  refine AllReadyT.cons rfl (fun K hK => ?_) (AllReadyT.cons rfl (fun K hK => ?_) AllReadyT.nil)
  · skip
    go_simp
    refine hK.out _ _ (fun _ => ?_) (fun hHeld0 => ?_)
    · (try dsimp only)
      (first | (with_reducible exact hHeld) | (with_reducible exact ⟨cell_al _ (hHeld.1), cell_al _ (hHeld.2.1), Below.alloc (hHeld.2.2) (hHeld.2.2).size _⟩))
    have hHeld1 := hHeld0 (by kernel_rfl)
    clear hK K hHeld0
    have hb2 := hHeld1.2.2; (try replace hbx := ((al_of hHeld1.2.2).block _ (Array.getElem?_eq_some_iff.1 hbx).1).trans hbx)
    clear hHeld; have hHeld := hHeld1; clear hHeld1
    (try simp only [List.getElem_toArray, List.getElem_cons_zero, List.getElem_cons_succ, Act.put, List.setIfInBounds_toArray, List.set_cons_zero, List.set_cons_succ])
    refine wpAnyT_ready (rs := [3, 7]) (by kernel_rfl) (by simp) ?_
    refine AllReadyT.cons rfl (fun K hK => ?_) (AllReadyT.cons rfl (fun K hK => ?_) AllReadyT.nil)
    · skip
      go_simp
      (go_at_call 25; refine (HIN.out _ _ _ hHeld.2.2 (by first | exact zeros_rb _ k (by omega) _ (by simp) | exact (zeros_rb _ k (by omega) _ (by simp)).below (bel_al _ _))).mono ?_; rintro e w6 ⟨ua, un, uc, ur, rfl, hbc⟩; (try replace hbx := (hbc.block _ (Array.getElem?_eq_some_iff.1 hbx).1).trans hbx))
      go_wp2_with fail
      refine hK.out _ _ (fun _ => ?_) (fun hHeld0 => ?_)
      · (try dsimp only)
        exact ⟨cell_bel hbc (hHeld.1), cell_bel hbc (hHeld.2.1), Below.trans (hHeld.2.2) (hbc.mono (hHeld.2.2).size)⟩
      have hHeld1 := hHeld0 (by kernel_rfl)
      clear hK K hHeld0
      have hb6 := hHeld1.2.2
      clear hHeld; have hHeld := hHeld1; clear hHeld1
      (try simp only [List.getElem_toArray, List.getElem_cons_zero, List.getElem_cons_succ, Act.put, List.setIfInBounds_toArray, List.set_cons_zero, List.set_cons_succ])
      refine wpAnyT_pure (i := 4) (oi := _) (v := ?_) rfl (by kernel_rfl) (by kernel_rfl) (by kernel_rfl) (by kernel_rfl) (fun _ _ _ h => h) (Or.inl ⟨by rfl, ?_⟩) (fun _ => by assumption) ?_
      rotate_left
      · (intro w hSw; go_simp)
        all_goals (with_reducible rfl)
      (try simp only [List.getElem_toArray, List.getElem_cons_zero, List.getElem_cons_succ, Act.put, List.setIfInBounds_toArray, List.set_cons_zero, List.set_cons_succ])
      refine wpAnyT_pure (i := 5) (oi := _) (v := ?_) rfl (by kernel_rfl) (by kernel_rfl) (by kernel_rfl) (by kernel_rfl) (fun _ _ _ h => h) (Or.inl ⟨by rfl, ?_⟩) (fun _ => by assumption) ?_
      rotate_left
      · (intro w hSw; go_simp)
        all_goals (with_reducible rfl)
      (try simp only [List.getElem_toArray, List.getElem_cons_zero, List.getElem_cons_succ, Act.put, List.setIfInBounds_toArray, List.set_cons_zero, List.set_cons_succ])
      refine wpAnyT_pure (i := 6) (oi := _) (v := ?_) rfl (by kernel_rfl) (by kernel_rfl) (by kernel_rfl) (by kernel_rfl) (fun _ _ _ h => h) (Or.inl ⟨by rfl, ?_⟩) (fun _ => by assumption) ?_
      rotate_left
      · (intro w hSw; go_simp)
        all_goals (with_reducible rfl)
      (try simp only [List.getElem_toArray, List.getElem_cons_zero, List.getElem_cons_succ, Act.put, List.setIfInBounds_toArray, List.set_cons_zero, List.set_cons_succ])
      refine wpAnyT_ready (rs := [7]) (by kernel_rfl) (by simp) ?_
      refine AllReadyT.cons rfl (fun K hK => ?_) AllReadyT.nil
      go_simp
      refine hK.out _ _ (fun _ => ?_) (fun hHeld0 => ?_)
      · (try dsimp only)
        (first | (with_reducible exact hHeld) | (with_reducible exact ⟨cell_al _ (hHeld.1), cell_al _ (hHeld.2.1), Below.alloc (hHeld.2.2) (hHeld.2.2).size _⟩))
      have hHeld1 := hHeld0 (by kernel_rfl)
      clear hK K hHeld0
      (have hbx := alloc_of hHeld1.2.2); (try simp only [World.size_alloc] at hbx)
      clear hHeld; have hHeld := hHeld1; clear hHeld1
      (try simp only [List.getElem_toArray, List.getElem_cons_zero, List.getElem_cons_succ, Act.put, List.setIfInBounds_toArray, List.set_cons_zero, List.set_cons_succ])
      refine wpAnyT_ready (rs := [8]) (by kernel_rfl) (by simp) ?_
      refine AllReadyT.cons rfl (fun K hK => ?_) AllReadyT.nil
      obtain ⟨b0, b1, bf0, bf1⟩ := box2 hbx
      go_simp
      refine hK.out _ _ (noneB_off (by kernel_rfl)) (fun _ => ?_)
      clear hK K
      (try simp only [List.getElem_toArray, List.getElem_cons_zero, List.getElem_cons_succ, Act.put, List.setIfInBounds_toArray, List.set_cons_zero, List.set_cons_succ])
      refine wpAnyT_ready (rs := [9]) (by kernel_rfl) (by simp) ?_
      refine AllReadyT.cons rfl (fun K hK => ?_) AllReadyT.nil
      go_simp
      refine hK.out _ _ (noneB_off (by kernel_rfl)) (fun _ => ?_)
      clear hK K
      (try simp only [List.getElem_toArray, List.getElem_cons_zero, List.getElem_cons_succ, Act.put, List.setIfInBounds_toArray, List.set_cons_zero, List.set_cons_succ])
      refine wpAnyT_done (by kernel_rfl) ?_ _
      (try clear b0 b1 bf0 bf1)
      first
        | refine gen_two (P := fun w => (_ : Exit → Act → World → Prop) Exit.normal _ w) hbx (fun W9 hx9 hz9 hf9 hB9 => ?_)
        | refine gen_new (P := fun w => (_ : Exit → Act → World → Prop) Exit.normal _ w) (fun W9 hx9 hz9 hf9 hB9 => ?_)
      have hb9 : Below W1.heap.size W1 W9 := hB9 _ _ (by have h1 := hb6.size; have h2 := hb2.size; have h3 := hbd.size; (try simp only [World.size_alloc] at *); omega) hb6
      have HX9 := Lib.hid (HX1.out.below hb9)
      have HB9 := Lib.hid hb9
      clear hx9 hz9 hf9 hB9 hb9 hHeld hb2 hb6 hbd hbc k0 k1
      (try clear hbx)
      obtain ⟨k0, k1, -⟩ := box2 HX9.out.x
      go_wp2_with fail
      refine wpT_begin2 (S := (fun wx => wx.cell? ⟨Bt, 0, none⟩ = some (.slice ao T.pages.length cap) ∧ wx.cell? ⟨Bt, 1, none⟩ = some (.int .i64 T.root) ∧ Below W9.heap.size W9 wx)) [] (by kernel_rfl) ?_ (fun Wd hHeld => ?_)
      · (try dsimp only)
        exact ⟨cell_dr k0, cell_dr k1, (Below.refl _ _).drew⟩
      refine wpAnyT_take (i := 0) (oi := _) (v := ?_) rfl (by kernel_rfl) (by kernel_rfl) (by kernel_rfl) (by kernel_rfl) (fun _ _ _ h => h) (Or.inl ⟨by rfl, ?_⟩) (by assumption) ?_
      rotate_left
      · (intro w hSw; (try dsimp only at hSw); go_simp)
        all_goals (with_reducible rfl)
      (try simp only [List.getElem_toArray, List.getElem_cons_zero, List.getElem_cons_succ, Act.put, List.setIfInBounds_toArray, List.set_cons_zero, List.set_cons_succ])
      refine wpAnyT_pure (i := 1) (oi := _) (v := ?_) rfl (by kernel_rfl) (by kernel_rfl) (by kernel_rfl) (by kernel_rfl) (fun _ _ _ h => h) (Or.inl ⟨by rfl, ?_⟩) (fun _ => by assumption) ?_
      rotate_left
      · (intro w hSw; go_simp)
        all_goals (with_reducible rfl)
      (try simp only [List.getElem_toArray, List.getElem_cons_zero, List.getElem_cons_succ, Act.put, List.setIfInBounds_toArray, List.set_cons_zero, List.set_cons_succ])
      refine wpAnyT_ready (rs := [2]) (by kernel_rfl) (by simp) ?_
      refine AllReadyT.cons rfl (fun K hK => ?_) AllReadyT.nil
      go_simp
      refine hK.out _ _ (fun _ => ?_) (fun hHeld0 => ?_)
      · (try dsimp only)
        (first | (with_reducible exact hHeld) | (with_reducible exact ⟨cell_al _ (hHeld.1), cell_al _ (hHeld.2.1), Below.alloc (hHeld.2.2) (hHeld.2.2).size _⟩))
      have hHeld1 := hHeld0 (by kernel_rfl)
      clear hK K hHeld0
      have hb2 := hHeld1.2.2
      clear hHeld; have hHeld := hHeld1; clear hHeld1
      (try simp only [List.getElem_toArray, List.getElem_cons_zero, List.getElem_cons_succ, Act.put, List.setIfInBounds_toArray, List.set_cons_zero, List.set_cons_succ])
      refine wpAnyT_ready (rs := [3]) (by kernel_rfl) (by simp) ?_
      refine AllReadyT.cons rfl (fun K hK => ?_) AllReadyT.nil
      go_simp
      (go_at_call 31; refine (HFI.out _ _ _ (HB9.out.trans (hHeld.2.2.mono HB9.out.size)) (by first | exact zeros_rb _ k (by omega) _ (by simp) | exact (zeros_rb _ k (by omega) _ (by simp)).below (bel_al _ _))).mono ?_; rintro e w8 ⟨rfl, hbc⟩)
      go_wp2_with fail
      refine hK.out _ _ (fun _ => ?_) (fun hHeld0 => ?_)
      · (try dsimp only)
        exact ⟨cell_bel hbc (hHeld.1), cell_bel hbc (hHeld.2.1), Below.trans (hHeld.2.2) (hbc.mono (hHeld.2.2).size)⟩
      have hHeld1 := hHeld0 (by kernel_rfl)
      clear hK K hHeld0
      have hb8 := hHeld1.2.2
      clear hHeld; have hHeld := hHeld1; clear hHeld1
      (try simp only [List.getElem_toArray, List.getElem_cons_zero, List.getElem_cons_succ, Act.put, List.setIfInBounds_toArray, List.set_cons_zero, List.set_cons_succ])
      refine wpAnyT_pure (i := 4) (oi := _) (v := ?_) rfl (by kernel_rfl) (by kernel_rfl) (by kernel_rfl) (by kernel_rfl) (fun _ _ _ h => h) (Or.inl ⟨by rfl, ?_⟩) (fun _ => by assumption) ?_
      rotate_left
      · (intro w hSw; go_simp)
        all_goals (with_reducible rfl)
      (try simp only [List.getElem_toArray, List.getElem_cons_zero, List.getElem_cons_succ, Act.put, List.setIfInBounds_toArray, List.set_cons_zero, List.set_cons_succ])
      refine wpAnyT_pure (i := 5) (oi := _) (v := ?_) rfl (by kernel_rfl) (by kernel_rfl) (by kernel_rfl) (by kernel_rfl) (fun _ _ _ h => h) (Or.inl ⟨by rfl, ?_⟩) (fun _ => by assumption) ?_
      rotate_left
      · (intro w hSw; go_simp)
        all_goals (with_reducible rfl)
      (try simp only [List.getElem_toArray, List.getElem_cons_zero, List.getElem_cons_succ, Act.put, List.setIfInBounds_toArray, List.set_cons_zero, List.set_cons_succ])
      refine wpAnyT_pure (i := 6) (oi := _) (v := ?_) rfl (by kernel_rfl) (by kernel_rfl) (by kernel_rfl) (by kernel_rfl) (fun _ _ _ h => h) (Or.inl ⟨by rfl, ?_⟩) (fun _ => by assumption) ?_
      rotate_left
      · (intro w hSw; go_simp)
        all_goals (with_reducible rfl)
      (try simp only [List.getElem_toArray, List.getElem_cons_zero, List.getElem_cons_succ, Act.put, List.setIfInBounds_toArray, List.set_cons_zero, List.set_cons_succ])
      refine wpAnyT_ready (rs := [7]) (by kernel_rfl) (by simp) ?_
      refine AllReadyT.cons rfl (fun K hK => ?_) AllReadyT.nil
      go_simp
      refine hK.out _ _ (fun _ => ?_) (fun hHeld0 => ?_)
      · (try dsimp only)
        exact hHeld
      have hHeld1 := hHeld0 (by kernel_rfl)
      clear hK K hHeld0
      clear hHeld; have hHeld := hHeld1; clear hHeld1
      (try simp only [List.getElem_toArray, List.getElem_cons_zero, List.getElem_cons_succ, Act.put, List.setIfInBounds_toArray, List.set_cons_zero, List.set_cons_succ])
      refine wpAnyT_ready (rs := [8]) (by kernel_rfl) (by simp) ?_
      refine AllReadyT.cons rfl (fun K hK => ?_) AllReadyT.nil
      go_simp
      refine hK.out _ _ (fun _ => ?_) (fun hHeld0 => ?_)
      · (try dsimp only)
        exact hHeld
      have hHeld1 := hHeld0 (by kernel_rfl)
      clear hK K hHeld0
      clear hHeld; have hHeld := hHeld1; clear hHeld1
      (try simp only [List.getElem_toArray, List.getElem_cons_zero, List.getElem_cons_succ, Act.put, List.setIfInBounds_toArray, List.set_cons_zero, List.set_cons_succ])
      refine wpAnyT_done (by kernel_rfl) ?_ _
      have HX8 := Lib.hid (HX9.out.below hb8)
      have HB8 := Lib.hid (HB9.out.trans (hb8.mono HB9.out.size))
      clear hHeld hb2 hb8 hbc k0 k1
      obtain ⟨k0, k1, -⟩ := box2 HX8.out.x
      have k0' := cell_al (Obj.cells #[.int .u8 1] 5 (0, 0)) k0
      have k1' := cell_al (Obj.cells #[.int .u8 1] 5 (0, 0)) k1
      go_wp2_with fail
      refine (insert_range (HX8.out.below (bel_al w8 (.cells #[.int .u8 1] 5))).g (one_rb w8) ⟨by simp, by simp⟩ (by omega)).mono ?_
      rintro e w10 ⟨rfl, hb10⟩
      obtain ⟨W10, hW10⟩ : ∃ W10 : World, W10 = w10.alloc (.cells #[.slice none 0 0, .int .i64 0] 24) := ⟨_, rfl⟩
      have hb11 : Below w8.heap.size w8 W10 := by rw [hW10]; exact into (into (bel_al w8 (.cells #[.int .u8 1] 5)) hb10) (bel_al _ _)
      have HX10 := Lib.hid (HX8.out.below hb11)
      have HB10 := Lib.hid (HB8.out.trans (hb11.mono HB8.out.size))
      have HW10 := Lib.hid hW10
      clear hb10 hb11 k0 k1 k0' k1' hW10
      go_wp2_with fail
      rw [← HW10.out]
      obtain ⟨k0, k1, -⟩ := box2 HX10.out.x
      refine wpT_begin2 (S := (fun wx => wx.cell? ⟨Bt, 0, none⟩ = some (.slice ao T.pages.length cap) ∧ wx.cell? ⟨Bt, 1, none⟩ = some (.int .i64 T.root) ∧ Below W10.heap.size W10 wx)) [] (by kernel_rfl) ?_ (fun Wd hHeld => ?_)
      · (try dsimp only)
        exact ⟨cell_dr k0, cell_dr k1, (Below.refl _ _).drew⟩
      refine wpAnyT_take (i := 0) (oi := _) (v := ?_) rfl (by kernel_rfl) (by kernel_rfl) (by kernel_rfl) (by kernel_rfl) (fun _ _ _ h => h) (Or.inl ⟨by rfl, ?_⟩) (by assumption) ?_
      rotate_left
      · (intro w hSw; (try dsimp only at hSw); go_simp)
        all_goals (with_reducible rfl)
      (try simp only [List.getElem_toArray, List.getElem_cons_zero, List.getElem_cons_succ, Act.put, List.setIfInBounds_toArray, List.set_cons_zero, List.set_cons_succ])
      refine wpAnyT_pure (i := 1) (oi := _) (v := ?_) rfl (by kernel_rfl) (by kernel_rfl) (by kernel_rfl) (by kernel_rfl) (fun _ _ _ h => h) (Or.inl ⟨by rfl, ?_⟩) (fun _ => by assumption) ?_
      rotate_left
      · (intro w hSw; go_simp)
        all_goals (with_reducible rfl)
      (try simp only [List.getElem_toArray, List.getElem_cons_zero, List.getElem_cons_succ, Act.put, List.setIfInBounds_toArray, List.set_cons_zero, List.set_cons_succ])
      refine wpAnyT_ready (rs := [2]) (by kernel_rfl) (by simp) ?_
      refine AllReadyT.cons rfl (fun K hK => ?_) AllReadyT.nil
      go_simp
      refine hK.out _ _ (fun _ => ?_) (fun hHeld0 => ?_)
      · (try dsimp only)
        (first | (with_reducible exact hHeld) | (with_reducible exact ⟨cell_al _ (hHeld.1), cell_al _ (hHeld.2.1), Below.alloc (hHeld.2.2) (hHeld.2.2).size _⟩))
      have hHeld1 := hHeld0 (by kernel_rfl)
      clear hK K hHeld0
      have hb2 := hHeld1.2.2
      clear hHeld; have hHeld := hHeld1; clear hHeld1
      (try simp only [List.getElem_toArray, List.getElem_cons_zero, List.getElem_cons_succ, Act.put, List.setIfInBounds_toArray, List.set_cons_zero, List.set_cons_succ])
      refine wpAnyT_ready (rs := [3]) (by kernel_rfl) (by simp) ?_
      refine AllReadyT.cons rfl (fun K hK => ?_) AllReadyT.nil
      go_simp
      (go_at_call 17; refine (HSC.out _ _ _ (HB10.out.trans (hHeld.2.2.mono HB10.out.size)) (by first | exact zeros_rb _ k (by omega) _ (by simp) | exact (zeros_rb _ k (by omega) _ (by simp)).below (bel_al _ _))).mono ?_; rintro e w12 ⟨sa, sn, sc, rfl, hbc⟩)
      go_wp2_with fail
      refine hK.out _ _ (fun _ => ?_) (fun hHeld0 => ?_)
      · (try dsimp only)
        exact ⟨cell_bel hbc (hHeld.1), cell_bel hbc (hHeld.2.1), Below.trans (hHeld.2.2) (hbc.mono (hHeld.2.2).size)⟩
      have hHeld1 := hHeld0 (by kernel_rfl)
      clear hK K hHeld0
      have hb12 := hHeld1.2.2
      clear hHeld; have hHeld := hHeld1; clear hHeld1
      (try simp only [List.getElem_toArray, List.getElem_cons_zero, List.getElem_cons_succ, Act.put, List.setIfInBounds_toArray, List.set_cons_zero, List.set_cons_succ])
      refine wpAnyT_pure (i := 4) (oi := _) (v := ?_) rfl (by kernel_rfl) (by kernel_rfl) (by kernel_rfl) (by kernel_rfl) (fun _ _ _ h => h) (Or.inl ⟨by rfl, ?_⟩) (fun _ => by assumption) ?_
      rotate_left
      · (intro w hSw; go_simp)
        all_goals (with_reducible rfl)
      (try simp only [List.getElem_toArray, List.getElem_cons_zero, List.getElem_cons_succ, Act.put, List.setIfInBounds_toArray, List.set_cons_zero, List.set_cons_succ])
      refine wpAnyT_pure (i := 5) (oi := _) (v := ?_) rfl (by kernel_rfl) (by kernel_rfl) (by kernel_rfl) (by kernel_rfl) (fun _ _ _ h => h) (Or.inl ⟨by rfl, ?_⟩) (fun _ => by assumption) ?_
      rotate_left
      · (intro w hSw; go_simp)
        all_goals (with_reducible rfl)
      (try simp only [List.getElem_toArray, List.getElem_cons_zero, List.getElem_cons_succ, Act.put, List.setIfInBounds_toArray, List.set_cons_zero, List.set_cons_succ])
      refine wpAnyT_pure (i := 6) (oi := _) (v := ?_) rfl (by kernel_rfl) (by kernel_rfl) (by kernel_rfl) (by kernel_rfl) (fun _ _ _ h => h) (Or.inl ⟨by rfl, ?_⟩) (fun _ => by assumption) ?_
      rotate_left
      · (intro w hSw; go_simp)
        all_goals (with_reducible rfl)
      (try simp only [List.getElem_toArray, List.getElem_cons_zero, List.getElem_cons_succ, Act.put, List.setIfInBounds_toArray, List.set_cons_zero, List.set_cons_succ])
      refine wpAnyT_ready (rs := [7]) (by kernel_rfl) (by simp) ?_
      refine AllReadyT.cons rfl (fun K hK => ?_) AllReadyT.nil
      go_simp
      refine hK.out _ _ (fun _ => ?_) (fun hHeld0 => ?_)
      · (try dsimp only)
        exact hHeld
      have hHeld1 := hHeld0 (by kernel_rfl)
      clear hK K hHeld0
      clear hHeld; have hHeld := hHeld1; clear hHeld1
      (try simp only [List.getElem_toArray, List.getElem_cons_zero, List.getElem_cons_succ, Act.put, List.setIfInBounds_toArray, List.set_cons_zero, List.set_cons_succ])
      refine wpAnyT_ready (rs := [8]) (by kernel_rfl) (by simp) ?_
      refine AllReadyT.cons rfl (fun K hK => ?_) AllReadyT.nil
      go_simp
      refine hK.out _ _ (fun _ => ?_) (fun hHeld0 => ?_)
      · (try dsimp only)
        exact hHeld
      have hHeld1 := hHeld0 (by kernel_rfl)
      clear hK K hHeld0
      clear hHeld; have hHeld := hHeld1; clear hHeld1
      (try simp only [List.getElem_toArray, List.getElem_cons_zero, List.getElem_cons_succ, Act.put, List.setIfInBounds_toArray, List.set_cons_zero, List.set_cons_succ])
      refine wpAnyT_done (by kernel_rfl) ?_ _
      have HB12 := Lib.hid (into HB1.out (HB10.out.trans (hb12.mono HB10.out.size)))
      clear hHeld hb2 hb12 hbc k0 k1
      rcases HKI.out with ⟨h1, h2, h3, h4, h5⟩ | ⟨h1, h3, h4, h5⟩ | ⟨h1, h3, h4, h5⟩
      · have g1 : ¬ (100 : Int) < (k : Int) := by omega
        have g2 : ¬ (k : Int) < 1 := by omega
        subst h3 h4 h5
        clear h1 h2
        go_wp2_with fail
        go_ret
        exact ⟨rfl, HB12.out⟩
      · have g1 : ¬ (100 : Int) < (k : Int) := by omega
        have g2 : (k : Int) < 1 := by omega
        subst h3 h4 h5
        clear h1
        go_wp2_with fail
        go_ret
        exact ⟨rfl, HB12.out⟩
      · have g1 : (100 : Int) < (k : Int) := by omega
        have g2 : ¬ (k : Int) < 1 := by omega
        subst h3 h4 h5
        clear h1
        go_wp2_with fail
        go_ret
        exact ⟨rfl, HB12.out⟩
    · skip
      go_simp
      refine hK.out _ _ (fun _ => ?_) (fun hHeld0 => ?_)
      · (try dsimp only)
        (first | (with_reducible exact hHeld) | (with_reducible exact ⟨cell_al _ (hHeld.1), cell_al _ (hHeld.2.1), Below.alloc (hHeld.2.2) (hHeld.2.2).size _⟩))
      have hHeld1 := hHeld0 (by kernel_rfl)
      clear hK K hHeld0
      (have hbx := alloc_of hHeld1.2.2); (try simp only [World.size_alloc] at hbx)
      clear hHeld; have hHeld := hHeld1; clear hHeld1
      (try simp only [List.getElem_toArray, List.getElem_cons_zero, List.getElem_cons_succ, Act.put, List.setIfInBounds_toArray, List.set_cons_zero, List.set_cons_succ])
      refine wpAnyT_ready (rs := [3]) (by kernel_rfl) (by simp) ?_
      refine AllReadyT.cons rfl (fun K hK => ?_) AllReadyT.nil
      go_simp
      (go_at_call 25; refine (HIN.out _ _ _ hHeld.2.2 (by first | exact zeros_rb _ k (by omega) _ (by simp) | exact (zeros_rb _ k (by omega) _ (by simp)).below (bel_al _ _))).mono ?_; rintro e w6 ⟨ua, un, uc, ur, rfl, hbc⟩; (try replace hbx := (hbc.block _ (Array.getElem?_eq_some_iff.1 hbx).1).trans hbx))
      go_wp2_with fail
      refine hK.out _ _ (fun _ => ?_) (fun hHeld0 => ?_)
      · (try dsimp only)
        exact ⟨cell_bel hbc (hHeld.1), cell_bel hbc (hHeld.2.1), Below.trans (hHeld.2.2) (hbc.mono (hHeld.2.2).size)⟩
      have hHeld1 := hHeld0 (by kernel_rfl)
      clear hK K hHeld0
      have hb6 := hHeld1.2.2
      clear hHeld; have hHeld := hHeld1; clear hHeld1
      (try simp only [List.getElem_toArray, List.getElem_cons_zero, List.getElem_cons_succ, Act.put, List.setIfInBounds_toArray, List.set_cons_zero, List.set_cons_succ])
      refine wpAnyT_pure (i := 4) (oi := _) (v := ?_) rfl (by kernel_rfl) (by kernel_rfl) (by kernel_rfl) (by kernel_rfl) (fun _ _ _ h => h) (Or.inl ⟨by rfl, ?_⟩) (fun _ => by assumption) ?_
      rotate_left
      · (intro w hSw; go_simp)
        all_goals (with_reducible rfl)
      (try simp only [List.getElem_toArray, List.getElem_cons_zero, List.getElem_cons_succ, Act.put, List.setIfInBounds_toArray, List.set_cons_zero, List.set_cons_succ])
      refine wpAnyT_pure (i := 5) (oi := _) (v := ?_) rfl (by kernel_rfl) (by kernel_rfl) (by kernel_rfl) (by kernel_rfl) (fun _ _ _ h => h) (Or.inl ⟨by rfl, ?_⟩) (fun _ => by assumption) ?_
      rotate_left
      · (intro w hSw; go_simp)
        all_goals (with_reducible rfl)
      (try simp only [List.getElem_toArray, List.getElem_cons_zero, List.getElem_cons_succ, Act.put, List.setIfInBounds_toArray, List.set_cons_zero, List.set_cons_succ])
      refine wpAnyT_pure (i := 6) (oi := _) (v := ?_) rfl (by kernel_rfl) (by kernel_rfl) (by kernel_rfl) (by kernel_rfl) (fun _ _ _ h => h) (Or.inl ⟨by rfl, ?_⟩) (fun _ => by assumption) ?_
      rotate_left
      · (intro w hSw; go_simp)
        all_goals (with_reducible rfl)
      (try simp only [List.getElem_toArray, List.getElem_cons_zero, List.getElem_cons_succ, Act.put, List.setIfInBounds_toArray, List.set_cons_zero, List.set_cons_succ])
      refine wpAnyT_ready (rs := [8]) (by kernel_rfl) (by simp) ?_
      refine AllReadyT.cons rfl (fun K hK => ?_) AllReadyT.nil
      obtain ⟨b0, b1, bf0, bf1⟩ := box2 hbx
      go_simp
      refine hK.out _ _ (noneB_off (by kernel_rfl)) (fun _ => ?_)
      clear hK K
      (try simp only [List.getElem_toArray, List.getElem_cons_zero, List.getElem_cons_succ, Act.put, List.setIfInBounds_toArray, List.set_cons_zero, List.set_cons_succ])
      refine wpAnyT_ready (rs := [9]) (by kernel_rfl) (by simp) ?_
      refine AllReadyT.cons rfl (fun K hK => ?_) AllReadyT.nil
      go_simp
      refine hK.out _ _ (noneB_off (by kernel_rfl)) (fun _ => ?_)
      clear hK K
      (try simp only [List.getElem_toArray, List.getElem_cons_zero, List.getElem_cons_succ, Act.put, List.setIfInBounds_toArray, List.set_cons_zero, List.set_cons_succ])
      refine wpAnyT_done (by kernel_rfl) ?_ _
      (try clear b0 b1 bf0 bf1)
      first
        | refine gen_two (P := fun w => (_ : Exit → Act → World → Prop) Exit.normal _ w) hbx (fun W9 hx9 hz9 hf9 hB9 => ?_)
        | refine gen_new (P := fun w => (_ : Exit → Act → World → Prop) Exit.normal _ w) (fun W9 hx9 hz9 hf9 hB9 => ?_)
      have hb9 : Below W1.heap.size W1 W9 := hB9 _ _ (by have h1 := hb6.size; have h2 := hb2.size; have h3 := hbd.size; (try simp only [World.size_alloc] at *); omega) hb6
      have HX9 := Lib.hid (HX1.out.below hb9)
      have HB9 := Lib.hid hb9
      clear hx9 hz9 hf9 hB9 hb9 hHeld hb2 hb6 hbd hbc k0 k1
      (try clear hbx)
      obtain ⟨k0, k1, -⟩ := box2 HX9.out.x
      go_wp2_with fail
      refine wpT_begin2 (S := (fun wx => wx.cell? ⟨Bt, 0, none⟩ = some (.slice ao T.pages.length cap) ∧ wx.cell? ⟨Bt, 1, none⟩ = some (.int .i64 T.root) ∧ Below W9.heap.size W9 wx)) [] (by kernel_rfl) ?_ (fun Wd hHeld => ?_)
      · (try dsimp only)
        exact ⟨cell_dr k0, cell_dr k1, (Below.refl _ _).drew⟩
      refine wpAnyT_take (i := 0) (oi := _) (v := ?_) rfl (by kernel_rfl) (by kernel_rfl) (by kernel_rfl) (by kernel_rfl) (fun _ _ _ h => h) (Or.inl ⟨by rfl, ?_⟩) (by assumption) ?_
      rotate_left
      · (intro w hSw; (try dsimp only at hSw); go_simp)
        all_goals (with_reducible rfl)
      (try simp only [List.getElem_toArray, List.getElem_cons_zero, List.getElem_cons_succ, Act.put, List.setIfInBounds_toArray, List.set_cons_zero, List.set_cons_succ])
      refine wpAnyT_pure (i := 1) (oi := _) (v := ?_) rfl (by kernel_rfl) (by kernel_rfl) (by kernel_rfl) (by kernel_rfl) (fun _ _ _ h => h) (Or.inl ⟨by rfl, ?_⟩) (fun _ => by assumption) ?_
      rotate_left
      · (intro w hSw; go_simp)
        all_goals (with_reducible rfl)
      (try simp only [List.getElem_toArray, List.getElem_cons_zero, List.getElem_cons_succ, Act.put, List.setIfInBounds_toArray, List.set_cons_zero, List.set_cons_succ])
      refine wpAnyT_ready (rs := [2]) (by kernel_rfl) (by simp) ?_
      refine AllReadyT.cons rfl (fun K hK => ?_) AllReadyT.nil
      go_simp
      refine hK.out _ _ (fun _ => ?_) (fun hHeld0 => ?_)
      · (try dsimp only)
        (first | (with_reducible exact hHeld) | (with_reducible exact ⟨cell_al _ (hHeld.1), cell_al _ (hHeld.2.1), Below.alloc (hHeld.2.2) (hHeld.2.2).size _⟩))
      have hHeld1 := hHeld0 (by kernel_rfl)
      clear hK K hHeld0
      have hb2 := hHeld1.2.2
      clear hHeld; have hHeld := hHeld1; clear hHeld1
      (try simp only [List.getElem_toArray, List.getElem_cons_zero, List.getElem_cons_succ, Act.put, List.setIfInBounds_toArray, List.set_cons_zero, List.set_cons_succ])
      refine wpAnyT_ready (rs := [3]) (by kernel_rfl) (by simp) ?_
      refine AllReadyT.cons rfl (fun K hK => ?_) AllReadyT.nil
      go_simp
      (go_at_call 31; refine (HFI.out _ _ _ (HB9.out.trans (hHeld.2.2.mono HB9.out.size)) (by first | exact zeros_rb _ k (by omega) _ (by simp) | exact (zeros_rb _ k (by omega) _ (by simp)).below (bel_al _ _))).mono ?_; rintro e w8 ⟨rfl, hbc⟩)
      go_wp2_with fail
      refine hK.out _ _ (fun _ => ?_) (fun hHeld0 => ?_)
      · (try dsimp only)
        exact ⟨cell_bel hbc (hHeld.1), cell_bel hbc (hHeld.2.1), Below.trans (hHeld.2.2) (hbc.mono (hHeld.2.2).size)⟩
      have hHeld1 := hHeld0 (by kernel_rfl)
      clear hK K hHeld0
      have hb8 := hHeld1.2.2
      clear hHeld; have hHeld := hHeld1; clear hHeld1
      (try simp only [List.getElem_toArray, List.getElem_cons_zero, List.getElem_cons_succ, Act.put, List.setIfInBounds_toArray, List.set_cons_zero, List.set_cons_succ])
      refine wpAnyT_pure (i := 4) (oi := _) (v := ?_) rfl (by kernel_rfl) (by kernel_rfl) (by kernel_rfl) (by kernel_rfl) (fun _ _ _ h => h) (Or.inl ⟨by rfl, ?_⟩) (fun _ => by assumption) ?_
      rotate_left
      · (intro w hSw; go_simp)
        all_goals (with_reducible rfl)
      (try simp only [List.getElem_toArray, List.getElem_cons_zero, List.getElem_cons_succ, Act.put, List.setIfInBounds_toArray, List.set_cons_zero, List.set_cons_succ])
      refine wpAnyT_pure (i := 5) (oi := _) (v := ?_) rfl (by kernel_rfl) (by kernel_rfl) (by kernel_rfl) (by kernel_rfl) (fun _ _ _ h => h) (Or.inl ⟨by rfl, ?_⟩) (fun _ => by assumption) ?_
      rotate_left
      · (intro w hSw; go_simp)
        all_goals (with_reducible rfl)
      (try simp only [List.getElem_toArray, List.getElem_cons_zero, List.getElem_cons_succ, Act.put, List.setIfInBounds_toArray, List.set_cons_zero, List.set_cons_succ])
      refine wpAnyT_pure (i := 6) (oi := _) (v := ?_) rfl (by kernel_rfl) (by kernel_rfl) (by kernel_rfl) (by kernel_rfl) (fun _ _ _ h => h) (Or.inl ⟨by rfl, ?_⟩) (fun _ => by assumption) ?_
      rotate_left
      · (intro w hSw; go_simp)
        all_goals (with_reducible rfl)
      (try simp only [List.getElem_toArray, List.getElem_cons_zero, List.getElem_cons_succ, Act.put, List.setIfInBounds_toArray, List.set_cons_zero, List.set_cons_succ])
      refine wpAnyT_ready (rs := [7]) (by kernel_rfl) (by simp) ?_
      refine AllReadyT.cons rfl (fun K hK => ?_) AllReadyT.nil
      go_simp
      refine hK.out _ _ (fun _ => ?_) (fun hHeld0 => ?_)
      · (try dsimp only)
        exact hHeld
      have hHeld1 := hHeld0 (by kernel_rfl)
      clear hK K hHeld0
      clear hHeld; have hHeld := hHeld1; clear hHeld1
      (try simp only [List.getElem_toArray, List.getElem_cons_zero, List.getElem_cons_succ, Act.put, List.setIfInBounds_toArray, List.set_cons_zero, List.set_cons_succ])
      refine wpAnyT_ready (rs := [8]) (by kernel_rfl) (by simp) ?_
      refine AllReadyT.cons rfl (fun K hK => ?_) AllReadyT.nil
      go_simp
      refine hK.out _ _ (fun _ => ?_) (fun hHeld0 => ?_)
      · (try dsimp only)
        exact hHeld
      have hHeld1 := hHeld0 (by kernel_rfl)
      clear hK K hHeld0
      clear hHeld; have hHeld := hHeld1; clear hHeld1
      (try simp only [List.getElem_toArray, List.getElem_cons_zero, List.getElem_cons_succ, Act.put, List.setIfInBounds_toArray, List.set_cons_zero, List.set_cons_succ])
      refine wpAnyT_done (by kernel_rfl) ?_ _
      have HX8 := Lib.hid (HX9.out.below hb8)
      have HB8 := Lib.hid (HB9.out.trans (hb8.mono HB9.out.size))
      clear hHeld hb2 hb8 hbc k0 k1
      obtain ⟨k0, k1, -⟩ := box2 HX8.out.x
      have k0' := cell_al (Obj.cells #[.int .u8 1] 5 (0, 0)) k0
      have k1' := cell_al (Obj.cells #[.int .u8 1] 5 (0, 0)) k1
      go_wp2_with fail
      refine (insert_range (HX8.out.below (bel_al w8 (.cells #[.int .u8 1] 5))).g (one_rb w8) ⟨by simp, by simp⟩ (by omega)).mono ?_
      rintro e w10 ⟨rfl, hb10⟩
      obtain ⟨W10, hW10⟩ : ∃ W10 : World, W10 = w10.alloc (.cells #[.slice none 0 0, .int .i64 0] 24) := ⟨_, rfl⟩
      have hb11 : Below w8.heap.size w8 W10 := by rw [hW10]; exact into (into (bel_al w8 (.cells #[.int .u8 1] 5)) hb10) (bel_al _ _)
      have HX10 := Lib.hid (HX8.out.below hb11)
      have HB10 := Lib.hid (HB8.out.trans (hb11.mono HB8.out.size))
      have HW10 := Lib.hid hW10
      clear hb10 hb11 k0 k1 k0' k1' hW10
      go_wp2_with fail
      rw [← HW10.out]
      obtain ⟨k0, k1, -⟩ := box2 HX10.out.x
      refine wpT_begin2 (S := (fun wx => wx.cell? ⟨Bt, 0, none⟩ = some (.slice ao T.pages.length cap) ∧ wx.cell? ⟨Bt, 1, none⟩ = some (.int .i64 T.root) ∧ Below W10.heap.size W10 wx)) [] (by kernel_rfl) ?_ (fun Wd hHeld => ?_)
      · (try dsimp only)
        exact ⟨cell_dr k0, cell_dr k1, (Below.refl _ _).drew⟩
      refine wpAnyT_take (i := 0) (oi := _) (v := ?_) rfl (by kernel_rfl) (by kernel_rfl) (by kernel_rfl) (by kernel_rfl) (fun _ _ _ h => h) (Or.inl ⟨by rfl, ?_⟩) (by assumption) ?_
      rotate_left
      · (intro w hSw; (try dsimp only at hSw); go_simp)
        all_goals (with_reducible rfl)
      (try simp only [List.getElem_toArray, List.getElem_cons_zero, List.getElem_cons_succ, Act.put, List.setIfInBounds_toArray, List.set_cons_zero, List.set_cons_succ])
      refine wpAnyT_pure (i := 1) (oi := _) (v := ?_) rfl (by kernel_rfl) (by kernel_rfl) (by kernel_rfl) (by kernel_rfl) (fun _ _ _ h => h) (Or.inl ⟨by rfl, ?_⟩) (fun _ => by assumption) ?_
      rotate_left
      · (intro w hSw; go_simp)
        all_goals (with_reducible rfl)
      (try simp only [List.getElem_toArray, List.getElem_cons_zero, List.getElem_cons_succ, Act.put, List.setIfInBounds_toArray, List.set_cons_zero, List.set_cons_succ])
      refine wpAnyT_ready (rs := [2]) (by kernel_rfl) (by simp) ?_
      refine AllReadyT.cons rfl (fun K hK => ?_) AllReadyT.nil
      go_simp
      refine hK.out _ _ (fun _ => ?_) (fun hHeld0 => ?_)
      · (try dsimp only)
        (first | (with_reducible exact hHeld) | (with_reducible exact ⟨cell_al _ (hHeld.1), cell_al _ (hHeld.2.1), Below.alloc (hHeld.2.2) (hHeld.2.2).size _⟩))
      have hHeld1 := hHeld0 (by kernel_rfl)
      clear hK K hHeld0
      have hb2 := hHeld1.2.2
      clear hHeld; have hHeld := hHeld1; clear hHeld1
      (try simp only [List.getElem_toArray, List.getElem_cons_zero, List.getElem_cons_succ, Act.put, List.setIfInBounds_toArray, List.set_cons_zero, List.set_cons_succ])
      refine wpAnyT_ready (rs := [3]) (by kernel_rfl) (by simp) ?_
      refine AllReadyT.cons rfl (fun K hK => ?_) AllReadyT.nil
      go_simp
      (go_at_call 17; refine (HSC.out _ _ _ (HB10.out.trans (hHeld.2.2.mono HB10.out.size)) (by first | exact zeros_rb _ k (by omega) _ (by simp) | exact (zeros_rb _ k (by omega) _ (by simp)).below (bel_al _ _))).mono ?_; rintro e w12 ⟨sa, sn, sc, rfl, hbc⟩)
      go_wp2_with fail
      refine hK.out _ _ (fun _ => ?_) (fun hHeld0 => ?_)
      · (try dsimp only)
        exact ⟨cell_bel hbc (hHeld.1), cell_bel hbc (hHeld.2.1), Below.trans (hHeld.2.2) (hbc.mono (hHeld.2.2).size)⟩
      have hHeld1 := hHeld0 (by kernel_rfl)
      clear hK K hHeld0
      have hb12 := hHeld1.2.2
      clear hHeld; have hHeld := hHeld1; clear hHeld1
      (try simp only [List.getElem_toArray, List.getElem_cons_zero, List.getElem_cons_succ, Act.put, List.setIfInBounds_toArray, List.set_cons_zero, List.set_cons_succ])
      refine wpAnyT_pure (i := 4) (oi := _) (v := ?_) rfl (by kernel_rfl) (by kernel_rfl) (by kernel_rfl) (by kernel_rfl) (fun _ _ _ h => h) (Or.inl ⟨by rfl, ?_⟩) (fun _ => by assumption) ?_
      rotate_left
      · (intro w hSw; go_simp)
        all_goals (with_reducible rfl)
      (try simp only [List.getElem_toArray, List.getElem_cons_zero, List.getElem_cons_succ, Act.put, List.setIfInBounds_toArray, List.set_cons_zero, List.set_cons_succ])
      refine wpAnyT_pure (i := 5) (oi := _) (v := ?_) rfl (by kernel_rfl) (by kernel_rfl) (by kernel_rfl) (by kernel_rfl) (fun _ _ _ h => h) (Or.inl ⟨by rfl, ?_⟩) (fun _ => by assumption) ?_
      rotate_left
      · (intro w hSw; go_simp)
        all_goals (with_reducible rfl)
      (try simp only [List.getElem_toArray, List.getElem_cons_zero, List.getElem_cons_succ, Act.put, List.setIfInBounds_toArray, List.set_cons_zero, List.set_cons_succ])
      refine wpAnyT_pure (i := 6) (oi := _) (v := ?_) rfl (by kernel_rfl) (by kernel_rfl) (by kernel_rfl) (by kernel_rfl) (fun _ _ _ h => h) (Or.inl ⟨by rfl, ?_⟩) (fun _ => by assumption) ?_
      rotate_left
      · (intro w hSw; go_simp)
        all_goals (with_reducible rfl)
      (try simp only [List.getElem_toArray, List.getElem_cons_zero, List.getElem_cons_succ, Act.put, List.setIfInBounds_toArray, List.set_cons_zero, List.set_cons_succ])
      refine wpAnyT_ready (rs := [7]) (by kernel_rfl) (by simp) ?_
      refine AllReadyT.cons rfl (fun K hK => ?_) AllReadyT.nil
      go_simp
      refine hK.out _ _ (fun _ => ?_) (fun hHeld0 => ?_)
      · (try dsimp only)
        exact hHeld
      have hHeld1 := hHeld0 (by kernel_rfl)
      clear hK K hHeld0
      clear hHeld; have hHeld := hHeld1; clear hHeld1
      (try simp only [List.getElem_toArray, List.getElem_cons_zero, List.getElem_cons_succ, Act.put, List.setIfInBounds_toArray, List.set_cons_zero, List.set_cons_succ])
      refine wpAnyT_ready (rs := [8]) (by kernel_rfl) (by simp) ?_
      refine AllReadyT.cons rfl (fun K hK => ?_) AllReadyT.nil
      go_simp
      refine hK.out _ _ (fun _ => ?_) (fun hHeld0 => ?_)
      · (try dsimp only)
        exact hHeld
      have hHeld1 := hHeld0 (by kernel_rfl)
      clear hK K hHeld0
      clear hHeld; have hHeld := hHeld1; clear hHeld1
      (try simp only [List.getElem_toArray, List.getElem_cons_zero, List.getElem_cons_succ, Act.put, List.setIfInBounds_toArray, List.set_cons_zero, List.set_cons_succ])
      refine wpAnyT_done (by kernel_rfl) ?_ _
      have HB12 := Lib.hid (into HB1.out (HB10.out.trans (hb12.mono HB10.out.size)))
      clear hHeld hb2 hb12 hbc k0 k1
      rcases HKI.out with ⟨h1, h2, h3, h4, h5⟩ | ⟨h1, h3, h4, h5⟩ | ⟨h1, h3, h4, h5⟩
      · have g1 : ¬ (100 : Int) < (k : Int) := by omega
        have g2 : ¬ (k : Int) < 1 := by omega
        subst h3 h4 h5
        clear h1 h2
        go_wp2_with fail
        go_ret
        exact ⟨rfl, HB12.out⟩
      · have g1 : ¬ (100 : Int) < (k : Int) := by omega
        have g2 : (k : Int) < 1 := by omega
        subst h3 h4 h5
        clear h1
        go_wp2_with fail
        go_ret
        exact ⟨rfl, HB12.out⟩
      · have g1 : (100 : Int) < (k : Int) := by omega
        have g2 : ¬ (k : Int) < 1 := by omega
        subst h3 h4 h5
        clear h1
        go_wp2_with fail
        go_ret
        exact ⟨rfl, HB12.out⟩
  · skip
    go_simp
    refine hK.out _ _ (fun _ => ?_) (fun hHeld0 => ?_)
    · (try dsimp only)
      (first | (with_reducible exact hHeld) | (with_reducible exact ⟨cell_al _ (hHeld.1), cell_al _ (hHeld.2.1), Below.alloc (hHeld.2.2) (hHeld.2.2).size _⟩))
    have hHeld1 := hHeld0 (by kernel_rfl)
    clear hK K hHeld0
    (have hbx := alloc_of hHeld1.2.2); (try simp only [World.size_alloc] at hbx)
    clear hHeld; have hHeld := hHeld1; clear hHeld1
    (try simp only [List.getElem_toArray, List.getElem_cons_zero, List.getElem_cons_succ, Act.put, List.setIfInBounds_toArray, List.set_cons_zero, List.set_cons_succ])
    refine wpAnyT_ready (rs := [2]) (by kernel_rfl) (by simp) ?_
    refine AllReadyT.cons rfl (fun K hK => ?_) AllReadyT.nil
    go_simp
    refine hK.out _ _ (fun _ => ?_) (fun hHeld0 => ?_)
    · (try dsimp only)
      (first | (with_reducible exact hHeld) | (with_reducible exact ⟨cell_al _ (hHeld.1), cell_al _ (hHeld.2.1), Below.alloc (hHeld.2.2) (hHeld.2.2).size _⟩))
    have hHeld1 := hHeld0 (by kernel_rfl)
    clear hK K hHeld0
    have hb2 := hHeld1.2.2; (try replace hbx := ((al_of hHeld1.2.2).block _ (Array.getElem?_eq_some_iff.1 hbx).1).trans hbx)
    clear hHeld; have hHeld := hHeld1; clear hHeld1
    (try simp only [List.getElem_toArray, List.getElem_cons_zero, List.getElem_cons_succ, Act.put, List.setIfInBounds_toArray, List.set_cons_zero, List.set_cons_succ])
    refine wpAnyT_ready (rs := [3]) (by kernel_rfl) (by simp) ?_
    refine AllReadyT.cons rfl (fun K hK => ?_) AllReadyT.nil
    go_simp
    (go_at_call 25; refine (HIN.out _ _ _ hHeld.2.2 (by first | exact zeros_rb _ k (by omega) _ (by simp) | exact (zeros_rb _ k (by omega) _ (by simp)).below (bel_al _ _))).mono ?_; rintro e w6 ⟨ua, un, uc, ur, rfl, hbc⟩; (try replace hbx := (hbc.block _ (Array.getElem?_eq_some_iff.1 hbx).1).trans hbx))
    go_wp2_with fail
    refine hK.out _ _ (fun _ => ?_) (fun hHeld0 => ?_)
    · (try dsimp only)
      exact ⟨cell_bel hbc (hHeld.1), cell_bel hbc (hHeld.2.1), Below.trans (hHeld.2.2) (hbc.mono (hHeld.2.2).size)⟩
    have hHeld1 := hHeld0 (by kernel_rfl)
    clear hK K hHeld0
    have hb6 := hHeld1.2.2
    clear hHeld; have hHeld := hHeld1; clear hHeld1
    (try simp only [List.getElem_toArray, List.getElem_cons_zero, List.getElem_cons_succ, Act.put, List.setIfInBounds_toArray, List.set_cons_zero, List.set_cons_succ])
    refine wpAnyT_pure (i := 4) (oi := _) (v := ?_) rfl (by kernel_rfl) (by kernel_rfl) (by kernel_rfl) (by kernel_rfl) (fun _ _ _ h => h) (Or.inl ⟨by rfl, ?_⟩) (fun _ => by assumption) ?_
    rotate_left
    · (intro w hSw; go_simp)
      all_goals (with_reducible rfl)
    (try simp only [List.getElem_toArray, List.getElem_cons_zero, List.getElem_cons_succ, Act.put, List.setIfInBounds_toArray, List.set_cons_zero, List.set_cons_succ])
    refine wpAnyT_pure (i := 5) (oi := _) (v := ?_) rfl (by kernel_rfl) (by kernel_rfl) (by kernel_rfl) (by kernel_rfl) (fun _ _ _ h => h) (Or.inl ⟨by rfl, ?_⟩) (fun _ => by assumption) ?_
    rotate_left
    · (intro w hSw; go_simp)
      all_goals (with_reducible rfl)
    (try simp only [List.getElem_toArray, List.getElem_cons_zero, List.getElem_cons_succ, Act.put, List.setIfInBounds_toArray, List.set_cons_zero, List.set_cons_succ])
    refine wpAnyT_pure (i := 6) (oi := _) (v := ?_) rfl (by kernel_rfl) (by kernel_rfl) (by kernel_rfl) (by kernel_rfl) (fun _ _ _ h => h) (Or.inl ⟨by rfl, ?_⟩) (fun _ => by assumption) ?_
    rotate_left
    · (intro w hSw; go_simp)
      all_goals (with_reducible rfl)
    (try simp only [List.getElem_toArray, List.getElem_cons_zero, List.getElem_cons_succ, Act.put, List.setIfInBounds_toArray, List.set_cons_zero, List.set_cons_succ])
    refine wpAnyT_ready (rs := [8]) (by kernel_rfl) (by simp) ?_
    refine AllReadyT.cons rfl (fun K hK => ?_) AllReadyT.nil
    obtain ⟨b0, b1, bf0, bf1⟩ := box2 hbx
    go_simp
    refine hK.out _ _ (noneB_off (by kernel_rfl)) (fun _ => ?_)
    clear hK K
    (try simp only [List.getElem_toArray, List.getElem_cons_zero, List.getElem_cons_succ, Act.put, List.setIfInBounds_toArray, List.set_cons_zero, List.set_cons_succ])
    refine wpAnyT_ready (rs := [9]) (by kernel_rfl) (by simp) ?_
    refine AllReadyT.cons rfl (fun K hK => ?_) AllReadyT.nil
    go_simp
    refine hK.out _ _ (noneB_off (by kernel_rfl)) (fun _ => ?_)
    clear hK K
    (try simp only [List.getElem_toArray, List.getElem_cons_zero, List.getElem_cons_succ, Act.put, List.setIfInBounds_toArray, List.set_cons_zero, List.set_cons_succ])
    refine wpAnyT_done (by kernel_rfl) ?_ _
    (try clear b0 b1 bf0 bf1)
    first
      | refine gen_two (P := fun w => (_ : Exit → Act → World → Prop) Exit.normal _ w) hbx (fun W9 hx9 hz9 hf9 hB9 => ?_)
      | refine gen_new (P := fun w => (_ : Exit → Act → World → Prop) Exit.normal _ w) (fun W9 hx9 hz9 hf9 hB9 => ?_)
    have hb9 : Below W1.heap.size W1 W9 := hB9 _ _ (by have h1 := hb6.size; have h2 := hb2.size; have h3 := hbd.size; (try simp only [World.size_alloc] at *); omega) hb6
    have HX9 := Lib.hid (HX1.out.below hb9)
    have HB9 := Lib.hid hb9
    clear hx9 hz9 hf9 hB9 hb9 hHeld hb2 hb6 hbd hbc k0 k1
    (try clear hbx)
    obtain ⟨k0, k1, -⟩ := box2 HX9.out.x
    go_wp2_with fail
    refine wpT_begin2 (S := (fun wx => wx.cell? ⟨Bt, 0, none⟩ = some (.slice ao T.pages.length cap) ∧ wx.cell? ⟨Bt, 1, none⟩ = some (.int .i64 T.root) ∧ Below W9.heap.size W9 wx)) [] (by kernel_rfl) ?_ (fun Wd hHeld => ?_)
    · (try dsimp only)
      exact ⟨cell_dr k0, cell_dr k1, (Below.refl _ _).drew⟩
    refine wpAnyT_take (i := 0) (oi := _) (v := ?_) rfl (by kernel_rfl) (by kernel_rfl) (by kernel_rfl) (by kernel_rfl) (fun _ _ _ h => h) (Or.inl ⟨by rfl, ?_⟩) (by assumption) ?_
    rotate_left
    · (intro w hSw; (try dsimp only at hSw); go_simp)
      all_goals (with_reducible rfl)
    (try simp only [List.getElem_toArray, List.getElem_cons_zero, List.getElem_cons_succ, Act.put, List.setIfInBounds_toArray, List.set_cons_zero, List.set_cons_succ])
    refine wpAnyT_pure (i := 1) (oi := _) (v := ?_) rfl (by kernel_rfl) (by kernel_rfl) (by kernel_rfl) (by kernel_rfl) (fun _ _ _ h => h) (Or.inl ⟨by rfl, ?_⟩) (fun _ => by assumption) ?_
    rotate_left
    · (intro w hSw; go_simp)
      all_goals (with_reducible rfl)
    (try simp only [List.getElem_toArray, List.getElem_cons_zero, List.getElem_cons_succ, Act.put, List.setIfInBounds_toArray, List.set_cons_zero, List.set_cons_succ])
    refine wpAnyT_ready (rs := [2]) (by kernel_rfl) (by simp) ?_
    refine AllReadyT.cons rfl (fun K hK => ?_) AllReadyT.nil
    go_simp
    refine hK.out _ _ (fun _ => ?_) (fun hHeld0 => ?_)
    · (try dsimp only)
      (first | (with_reducible exact hHeld) | (with_reducible exact ⟨cell_al _ (hHeld.1), cell_al _ (hHeld.2.1), Below.alloc (hHeld.2.2) (hHeld.2.2).size _⟩))
    have hHeld1 := hHeld0 (by kernel_rfl)
    clear hK K hHeld0
    have hb2 := hHeld1.2.2
    clear hHeld; have hHeld := hHeld1; clear hHeld1
    (try simp only [List.getElem_toArray, List.getElem_cons_zero, List.getElem_cons_succ, Act.put, List.setIfInBounds_toArray, List.set_cons_zero, List.set_cons_succ])
    refine wpAnyT_ready (rs := [3]) (by kernel_rfl) (by simp) ?_
    refine AllReadyT.cons rfl (fun K hK => ?_) AllReadyT.nil
    go_simp
    (go_at_call 31; refine (HFI.out _ _ _ (HB9.out.trans (hHeld.2.2.mono HB9.out.size)) (by first | exact zeros_rb _ k (by omega) _ (by simp) | exact (zeros_rb _ k (by omega) _ (by simp)).below (bel_al _ _))).mono ?_; rintro e w8 ⟨rfl, hbc⟩)
    go_wp2_with fail
    refine hK.out _ _ (fun _ => ?_) (fun hHeld0 => ?_)
    · (try dsimp only)
      exact ⟨cell_bel hbc (hHeld.1), cell_bel hbc (hHeld.2.1), Below.trans (hHeld.2.2) (hbc.mono (hHeld.2.2).size)⟩
    have hHeld1 := hHeld0 (by kernel_rfl)
    clear hK K hHeld0
    have hb8 := hHeld1.2.2
    clear hHeld; have hHeld := hHeld1; clear hHeld1
    (try simp only [List.getElem_toArray, List.getElem_cons_zero, List.getElem_cons_succ, Act.put, List.setIfInBounds_toArray, List.set_cons_zero, List.set_cons_succ])
    refine wpAnyT_pure (i := 4) (oi := _) (v := ?_) rfl (by kernel_rfl) (by kernel_rfl) (by kernel_rfl) (by kernel_rfl) (fun _ _ _ h => h) (Or.inl ⟨by rfl, ?_⟩) (fun _ => by assumption) ?_
    rotate_left
    · (intro w hSw; go_simp)
      all_goals (with_reducible rfl)
    (try simp only [List.getElem_toArray, List.getElem_cons_zero, List.getElem_cons_succ, Act.put, List.setIfInBounds_toArray, List.set_cons_zero, List.set_cons_succ])
    refine wpAnyT_pure (i := 5) (oi := _) (v := ?_) rfl (by kernel_rfl) (by kernel_rfl) (by kernel_rfl) (by kernel_rfl) (fun _ _ _ h => h) (Or.inl ⟨by rfl, ?_⟩) (fun _ => by assumption) ?_
    rotate_left
    · (intro w hSw; go_simp)
      all_goals (with_reducible rfl)
    (try simp only [List.getElem_toArray, List.getElem_cons_zero, List.getElem_cons_succ, Act.put, List.setIfInBounds_toArray, List.set_cons_zero, List.set_cons_succ])
    refine wpAnyT_pure (i := 6) (oi := _) (v := ?_) rfl (by kernel_rfl) (by kernel_rfl) (by kernel_rfl) (by kernel_rfl) (fun _ _ _ h => h) (Or.inl ⟨by rfl, ?_⟩) (fun _ => by assumption) ?_
    rotate_left
    · (intro w hSw; go_simp)
      all_goals (with_reducible rfl)
    (try simp only [List.getElem_toArray, List.getElem_cons_zero, List.getElem_cons_succ, Act.put, List.setIfInBounds_toArray, List.set_cons_zero, List.set_cons_succ])
    refine wpAnyT_ready (rs := [7]) (by kernel_rfl) (by simp) ?_
    refine AllReadyT.cons rfl (fun K hK => ?_) AllReadyT.nil
    go_simp
    refine hK.out _ _ (fun _ => ?_) (fun hHeld0 => ?_)
    · (try dsimp only)
      exact hHeld
    have hHeld1 := hHeld0 (by kernel_rfl)
    clear hK K hHeld0
    clear hHeld; have hHeld := hHeld1; clear hHeld1
    (try simp only [List.getElem_toArray, List.getElem_cons_zero, List.getElem_cons_succ, Act.put, List.setIfInBounds_toArray, List.set_cons_zero, List.set_cons_succ])
    refine wpAnyT_ready (rs := [8]) (by kernel_rfl) (by simp) ?_
    refine AllReadyT.cons rfl (fun K hK => ?_) AllReadyT.nil
    go_simp
    refine hK.out _ _ (fun _ => ?_) (fun hHeld0 => ?_)
    · (try dsimp only)
      exact hHeld
    have hHeld1 := hHeld0 (by kernel_rfl)
    clear hK K hHeld0
    clear hHeld; have hHeld := hHeld1; clear hHeld1
    (try simp only [List.getElem_toArray, List.getElem_cons_zero, List.getElem_cons_succ, Act.put, List.setIfInBounds_toArray, List.set_cons_zero, List.set_cons_succ])
    refine wpAnyT_done (by kernel_rfl) ?_ _
    have HX8 := Lib.hid (HX9.out.below hb8)
    have HB8 := Lib.hid (HB9.out.trans (hb8.mono HB9.out.size))
    clear hHeld hb2 hb8 hbc k0 k1
    obtain ⟨k0, k1, -⟩ := box2 HX8.out.x
    have k0' := cell_al (Obj.cells #[.int .u8 1] 5 (0, 0)) k0
    have k1' := cell_al (Obj.cells #[.int .u8 1] 5 (0, 0)) k1
    go_wp2_with fail
    refine (insert_range (HX8.out.below (bel_al w8 (.cells #[.int .u8 1] 5))).g (one_rb w8) ⟨by simp, by simp⟩ (by omega)).mono ?_
    rintro e w10 ⟨rfl, hb10⟩
    obtain ⟨W10, hW10⟩ : ∃ W10 : World, W10 = w10.alloc (.cells #[.slice none 0 0, .int .i64 0] 24) := ⟨_, rfl⟩
    have hb11 : Below w8.heap.size w8 W10 := by rw [hW10]; exact into (into (bel_al w8 (.cells #[.int .u8 1] 5)) hb10) (bel_al _ _)
    have HX10 := Lib.hid (HX8.out.below hb11)
    have HB10 := Lib.hid (HB8.out.trans (hb11.mono HB8.out.size))
    have HW10 := Lib.hid hW10
    clear hb10 hb11 k0 k1 k0' k1' hW10
    go_wp2_with fail
    rw [← HW10.out]
    obtain ⟨k0, k1, -⟩ := box2 HX10.out.x
    refine wpT_begin2 (S := (fun wx => wx.cell? ⟨Bt, 0, none⟩ = some (.slice ao T.pages.length cap) ∧ wx.cell? ⟨Bt, 1, none⟩ = some (.int .i64 T.root) ∧ Below W10.heap.size W10 wx)) [] (by kernel_rfl) ?_ (fun Wd hHeld => ?_)
    · (try dsimp only)
      exact ⟨cell_dr k0, cell_dr k1, (Below.refl _ _).drew⟩
    refine wpAnyT_take (i := 0) (oi := _) (v := ?_) rfl (by kernel_rfl) (by kernel_rfl) (by kernel_rfl) (by kernel_rfl) (fun _ _ _ h => h) (Or.inl ⟨by rfl, ?_⟩) (by assumption) ?_
    rotate_left
    · (intro w hSw; (try dsimp only at hSw); go_simp)
      all_goals (with_reducible rfl)
    (try simp only [List.getElem_toArray, List.getElem_cons_zero, List.getElem_cons_succ, Act.put, List.setIfInBounds_toArray, List.set_cons_zero, List.set_cons_succ])
    refine wpAnyT_pure (i := 1) (oi := _) (v := ?_) rfl (by kernel_rfl) (by kernel_rfl) (by kernel_rfl) (by kernel_rfl) (fun _ _ _ h => h) (Or.inl ⟨by rfl, ?_⟩) (fun _ => by assumption) ?_
    rotate_left
    · (intro w hSw; go_simp)
      all_goals (with_reducible rfl)
    (try simp only [List.getElem_toArray, List.getElem_cons_zero, List.getElem_cons_succ, Act.put, List.setIfInBounds_toArray, List.set_cons_zero, List.set_cons_succ])
    refine wpAnyT_ready (rs := [2]) (by kernel_rfl) (by simp) ?_
    refine AllReadyT.cons rfl (fun K hK => ?_) AllReadyT.nil
    go_simp
    refine hK.out _ _ (fun _ => ?_) (fun hHeld0 => ?_)
    · (try dsimp only)
      (first | (with_reducible exact hHeld) | (with_reducible exact ⟨cell_al _ (hHeld.1), cell_al _ (hHeld.2.1), Below.alloc (hHeld.2.2) (hHeld.2.2).size _⟩))
    have hHeld1 := hHeld0 (by kernel_rfl)
    clear hK K hHeld0
    have hb2 := hHeld1.2.2
    clear hHeld; have hHeld := hHeld1; clear hHeld1
    (try simp only [List.getElem_toArray, List.getElem_cons_zero, List.getElem_cons_succ, Act.put, List.setIfInBounds_toArray, List.set_cons_zero, List.set_cons_succ])
    refine wpAnyT_ready (rs := [3]) (by kernel_rfl) (by simp) ?_
    refine AllReadyT.cons rfl (fun K hK => ?_) AllReadyT.nil
    go_simp
    (go_at_call 17; refine (HSC.out _ _ _ (HB10.out.trans (hHeld.2.2.mono HB10.out.size)) (by first | exact zeros_rb _ k (by omega) _ (by simp) | exact (zeros_rb _ k (by omega) _ (by simp)).below (bel_al _ _))).mono ?_; rintro e w12 ⟨sa, sn, sc, rfl, hbc⟩)
    go_wp2_with fail
    refine hK.out _ _ (fun _ => ?_) (fun hHeld0 => ?_)
    · (try dsimp only)
      exact ⟨cell_bel hbc (hHeld.1), cell_bel hbc (hHeld.2.1), Below.trans (hHeld.2.2) (hbc.mono (hHeld.2.2).size)⟩
    have hHeld1 := hHeld0 (by kernel_rfl)
    clear hK K hHeld0
    have hb12 := hHeld1.2.2
    clear hHeld; have hHeld := hHeld1; clear hHeld1
    (try simp only [List.getElem_toArray, List.getElem_cons_zero, List.getElem_cons_succ, Act.put, List.setIfInBounds_toArray, List.set_cons_zero, List.set_cons_succ])
    refine wpAnyT_pure (i := 4) (oi := _) (v := ?_) rfl (by kernel_rfl) (by kernel_rfl) (by kernel_rfl) (by kernel_rfl) (fun _ _ _ h => h) (Or.inl ⟨by rfl, ?_⟩) (fun _ => by assumption) ?_
    rotate_left
    · (intro w hSw; go_simp)
      all_goals (with_reducible rfl)
    (try simp only [List.getElem_toArray, List.getElem_cons_zero, List.getElem_cons_succ, Act.put, List.setIfInBounds_toArray, List.set_cons_zero, List.set_cons_succ])
    refine wpAnyT_pure (i := 5) (oi := _) (v := ?_) rfl (by kernel_rfl) (by kernel_rfl) (by kernel_rfl) (by kernel_rfl) (fun _ _ _ h => h) (Or.inl ⟨by rfl, ?_⟩) (fun _ => by assumption) ?_
    rotate_left
    · (intro w hSw; go_simp)
      all_goals (with_reducible rfl)
    (try simp only [List.getElem_toArray, List.getElem_cons_zero, List.getElem_cons_succ, Act.put, List.setIfInBounds_toArray, List.set_cons_zero, List.set_cons_succ])
    refine wpAnyT_pure (i := 6) (oi := _) (v := ?_) rfl (by kernel_rfl) (by kernel_rfl) (by kernel_rfl) (by kernel_rfl) (fun _ _ _ h => h) (Or.inl ⟨by rfl, ?_⟩) (fun _ => by assumption) ?_
    rotate_left
    · (intro w hSw; go_simp)
      all_goals (with_reducible rfl)
    (try simp only [List.getElem_toArray, List.getElem_cons_zero, List.getElem_cons_succ, Act.put, List.setIfInBounds_toArray, List.set_cons_zero, List.set_cons_succ])
    refine wpAnyT_ready (rs := [7]) (by kernel_rfl) (by simp) ?_
    refine AllReadyT.cons rfl (fun K hK => ?_) AllReadyT.nil
    go_simp
    refine hK.out _ _ (fun _ => ?_) (fun hHeld0 => ?_)
    · (try dsimp only)
      exact hHeld
    have hHeld1 := hHeld0 (by kernel_rfl)
    clear hK K hHeld0
    clear hHeld; have hHeld := hHeld1; clear hHeld1
    (try simp only [List.getElem_toArray, List.getElem_cons_zero, List.getElem_cons_succ, Act.put, List.setIfInBounds_toArray, List.set_cons_zero, List.set_cons_succ])
    refine wpAnyT_ready (rs := [8]) (by kernel_rfl) (by simp) ?_
    refine AllReadyT.cons rfl (fun K hK => ?_) AllReadyT.nil
    go_simp
    refine hK.out _ _ (fun _ => ?_) (fun hHeld0 => ?_)
    · (try dsimp only)
      exact hHeld
    have hHeld1 := hHeld0 (by kernel_rfl)
    clear hK K hHeld0
    clear hHeld; have hHeld := hHeld1; clear hHeld1
    (try simp only [List.getElem_toArray, List.getElem_cons_zero, List.getElem_cons_succ, Act.put, List.setIfInBounds_toArray, List.set_cons_zero, List.set_cons_succ])
    refine wpAnyT_done (by kernel_rfl) ?_ _
    have HB12 := Lib.hid (into HB1.out (HB10.out.trans (hb12.mono HB10.out.size)))
    clear hHeld hb2 hb12 hbc k0 k1
    rcases HKI.out with ⟨h1, h2, h3, h4, h5⟩ | ⟨h1, h3, h4, h5⟩ | ⟨h1, h3, h4, h5⟩
    · have g1 : ¬ (100 : Int) < (k : Int) := by omega
      have g2 : ¬ (k : Int) < 1 := by omega
      subst h3 h4 h5
      clear h1 h2
      go_wp2_with fail
      go_ret
      exact ⟨rfl, HB12.out⟩
    · have g1 : ¬ (100 : Int) < (k : Int) := by omega
      have g2 : (k : Int) < 1 := by omega
      subst h3 h4 h5
      clear h1
      go_wp2_with fail
      go_ret
      exact ⟨rfl, HB12.out⟩
    · have g1 : (100 : Int) < (k : Int) := by omega
      have g2 : ¬ (k : Int) < 1 := by omega
      subst h3 h4 h5
      clear h1
      go_wp2_with fail
      go_ret
      exact ⟨rfl, HB12.out⟩

set_option maxRecDepth 100000 in
theorem lifted (os : Os) (started : os.Started) (H : Type) (enc : TypeId × Value → H) :
    ReturnsInHanded {} Try.checked os 15 .any (Rows.treeKeysSpec.pre6 enc Try.prog Try.f15 Rows.treeKeysRow.domain false) (Rows.treeKeysSpec.post enc Try.prog Try.f15 false true false false) := by
  refine returnsInHanded_of_change_sized (C := Try.checked) Try.own started (by kernel_rfl) Try.func15
    (ChangeSpec.witness6 (enc := enc) (C := Try.checked) false ⟨#[], #[.slice none 0 0, .int .i64 0], []⟩ 8 (by kernel_rfl) (by kernel_rfl) (by kernel_rfl) (by kernel_rfl)) ?_
  intro W base args ds gs before hval0 hW hcnd hsz0 _
  have hsz : (DataW.weightsEach Try.prog (Try.f15.params.toList ++ Rows.treeKeysSpec.plain.varTypes Try.prog) (ds ++ gs)).all (· ≤ reachBytes) = true := hsz0
  have hval : ∀ (j : Nat) t v, Try.f15.params[j]? = some t → args[j]? = some v → Value.okWide Try.prog W .any base t v := hval0
  have hW' := hW
  obtain ⟨p, q, hA0, hV, rfl, hfz, hnd⟩ := hW
  have hA : DataW.TrodAll enc Try.prog W 0 (fun _ => true) true Try.f15.params.toList args.toList ds p := hA0
  rw [Try.params15] at hA hval hsz
  obtain ⟨v0, v1, d0, d1, p0, p1, rfl, rfl, rfl, h0, h1⟩ := trodAll_two hA
  obtain ⟨rfl, rfl⟩ := trodVars_none hV
  have sm0 : small Try.prog 45 d0 := fun q hq => by
    have := List.all_eq_true.1 hsz q (weights_each (j := 0) rfl rfl q hq)
    simpa using this
  obtain ⟨n0, l0, hr0, hz0, hs0⟩ := open_ints (hval 0 45 v0 rfl rfl) h0 sm0
  obtain ⟨a1, rfl, rfl, rfl, w1⟩ := open_int Try.underlying3 (hval 1 3 v1 rfl rfl) h1
  clear hA0 hval0
  refine (walk W n0 v0 l0 hr0 hz0 hs0 a1 w1).mono fun e W' ⟨he, hg⟩ => ?_
  subst he
  exact ⟨_, rfl, law_post (tb := 4) Try.laidOut (by kernel_rfl) (by kernel_rfl) Try.underlying4 rfl hW' hg rfl rfl rfl⟩

theorem proved : Rows.TreeKeysSaid :=
  OpenClaim.holds_of_wide 15 Try.f15 rfl rfl rfl rfl rfl rfl rfl ⟨rfl, rfl, rfl, rfl, rfl⟩ rfl rfl rfl rfl rfl (by kernel_rfl) Try.func15 (by kernel_rfl)
    (of_decide_eq_true (by kernel_rfl)) (by unfold Func.isWrapper; first | (rw [if_pos (by decide +kernel)]; kernel_rfl) | (rw [if_neg (by decide +kernel)]; exact ⟨rfl, rfl⟩))
    (fun os started H enc _ => lifted os started H enc)
#print axioms proved
end Go.Proofs.Ytacpeibkamfibaa.lTreeKeys
