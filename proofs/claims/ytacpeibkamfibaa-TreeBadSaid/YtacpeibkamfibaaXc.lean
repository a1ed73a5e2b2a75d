/- The key of a raw number, and a tree of raw numbers: the program of the keeping statements. -/
import Derived.Test.YtacpeibkamfibaaXa
import Derived.Test.YtacpeibkamfibaaTv
import Derived.Test.YtacpeibkamfibaaXj
import Derived.Lib.BufferMore
namespace Go.Proofs.Ytacpeibkamfibaa
open Go.ChangeShapes Go.WideShapes Go.ChangeAt Go.RowKit Go.Shelf
set_option linter.unusedVariables false
set_option linter.unusedSimpArgs false
set_option maxHeartbeats 8000000
set_option maxRecDepth 100000
def KeyIs (k : Key) (w : World) (e : Ending) (w' : World) : Prop := ∃ a c, e = .returned (.slice a 2 c) ∧ RB w' (fun b => w.heap.size ≤ b) (.slice a 2 c) k ∧ Below w.heap.size w w'
theorem key_end (w : World) (k : Key) (x y : Value) (h : bc k = [x, y]) : KeyIs k w (.returned (.slice (some ⟨w.heap.size, 0, none⟩) 2 2)) (w.alloc (.cells #[x, y] 5)) := by
  have hl : k.length = 2 := by have := congrArg List.length h; rwa [bc_length] at this
  refine ⟨_, _, rfl, ⟨?_, fun a n c e hn => ?_⟩, (Below.refl _ _).alloc (Nat.le_refl _) _⟩
  · rw [hl, h]
    exact ⟨rfl, _, 2, rfl, Nat.le_refl _, by unfold maxLen; omega, fun h => (by cases h), fun a ha j u hu => by cases ha; exact new_cells w [x, y] _ j u hu⟩
  · cases e; exact Nat.le_refl _
theorem gen_new {P : World → Prop} {W : World} {a b : Value} {T : TypeId}
    (h : ∀ W9 : World, W9.heap[W.heap.size]? = some (.cells #[a, b] T (0, 0)) → W.heap.size < W9.heap.size → (∀ c, c < W.heap.size → W9.heap[c]? = W.heap[c]?) → (∀ n w0, n ≤ W.heap.size → Below n w0 W → Below n w0 W9) → P W9) : P (W.alloc (.cells #[a, b] T (0, 0))) :=
  h _ (new0 W _) (by simp) (fun c hc => Below.heap_alloc _ _ _ hc) fun n w0 hn hb => hb.alloc hn _
theorem gen_two {P : World → Prop} {W : World} {Bx : Nat} {a b u v : Value} {T : TypeId} (hbx : W.heap[Bx]? = some (.cells #[u, v] T (0, 0)))
    (h : ∀ W9 : World, W9.heap[Bx]? = some (.cells #[a, b] T (0, 0)) → W9.heap.size = W.heap.size → (∀ c, c ≠ Bx → W9.heap[c]? = W.heap[c]?) → (∀ n w0, n ≤ Bx → Below n w0 W → Below n w0 W9) → P W9) : P ((W.setCell ⟨Bx, 0, none⟩ a).setCell ⟨Bx, 1, none⟩ b) := by
  refine h _ ?_ (by simp) (fun c hc => by rw [Below.heap_setCell _ _ _ _ hc, Below.heap_setCell _ _ _ _ hc]) fun n w0 hn hb => (hb.setCell (p := ⟨Bx, 0, none⟩) hn _).setCell (p := ⟨Bx, 1, none⟩) hn _
  have h1 : (W.setCell ⟨Bx, 0, none⟩ a).heap[Bx]? = some (.cells #[a, v] T (0, 0)) := by rw [Lib.heap_setCell_same hbx]; rfl
  rw [Lib.heap_setCell_same h1]
  rfl
theorem alloc_of {w0 W : World} {n : Nat} {o : Obj} (h : Below n w0 (W.alloc o)) : (W.alloc o).heap[W.heap.size]? = some o := new0 W o
theorem al_of {w0 W : World} {n : Nat} {o : Obj} (h : Below n w0 (W.alloc o)) : Below W.heap.size W (W.alloc o) := (Below.refl _ _).alloc (Nat.le_refl _) _
theorem two_heap {W : World} {B : Nat} {a b u v : Value} {T : TypeId} (h : W.heap[B]? = some (.cells #[u, v] T (0, 0))) : ((W.setCell ⟨B, 0, none⟩ a).setCell ⟨B, 1, none⟩ b).heap[B]? = some (.cells #[a, b] T (0, 0)) := by
  have h1 : (W.setCell ⟨B, 0, none⟩ a).heap[B]? = some (.cells #[a, v] T (0, 0)) := by rw [Lib.heap_setCell_same h]; rfl
  rw [Lib.heap_setCell_same h1]
  rfl
theorem two_far {W : World} {B c : Nat} {a b : Value} (h : c ≠ B) : ((W.setCell ⟨B, 0, none⟩ a).setCell ⟨B, 1, none⟩ b).heap[c]? = W.heap[c]? := by rw [Below.heap_setCell _ _ _ _ h, Below.heap_setCell _ _ _ _ h]
theorem GT.land {B n B' : Nat} {w W : World} {tv : Value} {T : Tr} {l : List (Key × Int)} (h : GT B n w tv T l) (hB : B' ≤ B) (hf : ∀ b, B ≤ b → b < w.heap.size → W.heap[b]? = w.heap[b]?) (hz : w.heap.size ≤ W.heap.size) : GT B' n W tv T l := (h.far hf hz).base hB
theorem key_any (n : Int) (w : World) (wn : Rn n) : Calls Try.prog 30 #[.int .i64 n] w (KeyIs (keyK n) w) := by
  obtain ⟨h1, h2⟩ := pck_in n 90 (by omega)
  have hp := pck_any n 90 w wn (by omega) (by omega)
  have hb := keyK_bc n
  obtain ⟨q, hq⟩ : ∃ q, q = pck n 90 := ⟨_, rfl⟩
  rw [← hq] at hp h1 h2 hb
  have HP := Lib.hid hp
  have HB := Lib.hid hb
  clear hp hb hq
  go_enter Try.func30, Try.ntmps30
  go_wp2_with fail
  refine HP.out.mono ?_
  rintro e w' ⟨rfl, rfl⟩
  go_wp2_with fail
  go_ret
  exact key_end w _ _ _ HB.out
def TreeG (L : List Int) (w : World) (e : Ending) (w' : World) : Prop :=
  ∃ ao cap T, e = .returned (.tuple #[.agg #[.slice ao T.pages.length cap, .int .i64 T.root], .bool true]) ∧ GT w.heap.size 70 w' (.agg #[.slice ao T.pages.length cap, .int .i64 T.root]) T (runE L (min L.length 70)) ∧ Below w.heap.size w w'
theorem tree_any (w : World) (n : Nat) (v : Value) (L : List Int) (hr : Rd w 1 n v (ic L)) (hrn : ∀ x ∈ L, Rn x) : Calls Try.prog 29 #[v] w (TreeG L w) := by
  have hnL : n = L.length := by have := hr.1; rw [ic_length] at this; omega
  obtain ⟨_, ao0, cap0, rfl, hc1, hc2, _⟩ := id hr
  have HR := Lib.hid hr
  have HRN := Lib.hid hrn
  have HNL := Lib.hid hnL
  unfold maxLen at hc2
  clear hr hrn hnL
  go_enter Try.func29, Try.ntmps29
  go_wp2_with fail
  obtain ⟨W0, hW0⟩ : ∃ W0 : World, W0 = w.alloc (.cells #[.slice none 0 0, .int .i64 0] 24) := ⟨_, rfl⟩
  rw [← hW0]
  have hb0 : Below w.heap.size w W0 := by rw [hW0]; exact (Below.refl _ _).alloc (Nat.le_refl _) _
  have hxr : W0.heap[w.heap.size]? = some (.cells #[.slice none 0 0, .int .i64 0] 24 (0, 0)) := by rw [hW0]; exact new0 _ _
  have hz0 : W0.heap.size = w.heap.size + 1 := by rw [hW0]; simp
  clear hW0
  refine (new_g W0).mono ?_
  rintro e w1 ⟨ao1, c1, rfl, hg1, hb1⟩
  go_wp2_with fail
  obtain ⟨W2, hW2⟩ : ∃ W2 : World, W2 = w1.alloc (.cells #[.slice ao1 1 c1, .int .i64 0] 24) := ⟨_, rfl⟩
  rw [← hW2]
  have hb2 : Below w1.heap.size w1 W2 := by rw [hW2]; exact (Below.refl _ _).alloc (Nat.le_refl _) _
  have hxt : W2.heap[w1.heap.size]? = some (.cells #[.slice ao1 1 c1, .int .i64 0] 24 (0, 0)) := by rw [hW2]; exact new0 _ _
  have hz1 := hb1.size
  have hz2 : w1.heap.size < W2.heap.size := by rw [hW2]; simp
  have hxr2 : W2.heap[w.heap.size]? = some (.cells #[.slice none 0 0, .int .i64 0] 24 (0, 0)) := ((hb2.mono (by omega : w.heap.size + 1 ≤ _)).block _ (by omega)).trans ((hb1.block _ (by omega)).trans hxr)
  have hg2 := (hg1.below hb2).base (B' := w.heap.size + 1) (by omega)
  have hbw := hb0.trans ((hb1.mono (by omega)).trans (hb2.mono (by omega)))
  obtain ⟨Bt, hBt⟩ : ∃ x, x = w1.heap.size := ⟨_, rfl⟩
  rw [← hBt] at hxt hz2 ⊢
  have hBw : w.heap.size < Bt := by omega
  have HXT := Lib.hid hxt
  have HXR := Lib.hid hxr2
  have HG2 := Lib.hid hg2
  have HBW := Lib.hid hbw
  clear hW2 hb2 hb1 hb0 hxr hxt hxr2 hg1 hg2 hbw hBt hz1 hz0
  go_loopw [5] (fun iv wr => ∃ (j : Nat) (ao : Option Addr) (cap : Nat) (T : Tr), j ≤ n ∧ j ≤ 70 ∧ iv = .int .i64 (j : Int) ∧ Hid (wr.heap[Bt]? = some (.cells #[.slice ao T.pages.length cap, .int .i64 T.root] 24 (0, 0))) ∧ Hid (wr.heap[w.heap.size]? = some (.cells #[.slice none 0 0, .int .i64 0] 24 (0, 0))) ∧ Hid (GT (w.heap.size + 1) j wr (.agg #[.slice ao T.pages.length cap, .int .i64 T.root]) T (runE L j)) ∧ Hid (Below w.heap.size w wr)) (fun iv _ => n - (intOf iv).toNat)
  case atStart => exact ⟨0, ao1, c1, newTr, by omega, by omega, rfl, HXT, HXR, HG2, HBW⟩
  case round =>
    obtain ⟨j, ao, cap, T, hj, hj7, rfl, HX, HXR, HG, HB⟩ := hrel
    by_cases hlt : (j : Int) < (n : Int)
    · by_cases h70 : (j : Int) < 70
      · obtain ⟨eb, eo, cap', hv, _, _, hbw, hg⟩ := HR.out.pos (by omega) (by omega)
        simp only [Value.slice.injEq] at hv
        obtain ⟨rfl, -, rfl⟩ := hv
        have hjl : j < L.length := by have := HNL.out; omega
        have d1 := (HB.out.cell (p := ⟨eb, eo + j, none⟩) hbw).trans (hg j _ (ic_at hjl))
        obtain ⟨x, hxe⟩ : ∃ x, x = L.getD j 0 := ⟨_, rfl⟩
        rw [← hxe] at d1
        have hRx : Rn x := HRN.out x (by rw [hxe, List.getD_eq_getElem?_getD, List.getElem?_eq_getElem hjl]; exact List.getElem_mem hjl)
        have hrun : runE L (j + 1) = stepE j x (runE L j) := by rw [hxe]; rfl
        have HRUN := Lib.hid hrun
        obtain ⟨k0, k1, kf0, kf1⟩ := box2 HX.out
        have hsz := HB.out.size
        have hXlt : Bt < wr.heap.size := (Array.getElem?_eq_some_iff.1 HX.out).1
        clear hxe hrun hg hbw
        by_cases hx : x < 0
        · by_cases hl : (lookE (keyK x) (runE L j)).isSome = true
          · skip
            have HC := Lib.hid (fun (W : World) (kv : Value) (ok' : Nat → Prop) (hW : Below wr.heap.size wr W) (hk : RB W ok' kv (keyK x)) => delete_g (HG.out.below hW) hk (keyK_ok x) hl)
            have HST := Lib.hid (show stepE j x (runE L j) = offE (keyK x) (runE L j) from if_pos hx)
            clear hl
            go_wp2_with fail
            refine wpT_begin2 (S := (fun wx => wx.cell? ⟨Bt, 0, none⟩ = some (.slice ao T.pages.length cap) ∧ wx.cell? ⟨Bt, 1, none⟩ = some (.int .i64 T.root) ∧ wx.cell? ⟨eb, eo + j, none⟩ = some (.int .i64 x) ∧ Below wr.heap.size wr wx)) [11] (by kernel_rfl) ?_ (fun Wd hHeld => ?_)
            · (try dsimp only)
              exact ⟨cell_dr k0, cell_dr k1, cell_dr d1, (Below.refl _ _).drew⟩
            have hbd := hHeld.2.2.2
            refine wpAnyT_take (i := 0) (oi := _) (v := ?_) rfl (by kernel_rfl) (by kernel_rfl) (by kernel_rfl) (by kernel_rfl) (fun _ _ _ h => h) (Or.inl ⟨by rfl, ?_⟩) (by assumption) ?_
            rotate_left
            · (intro w hSw; (try dsimp only at hSw); go_simp)
              all_goals (with_reducible rfl)
            (try simp only [List.getElem_toArray, List.getElem_cons_zero, List.getElem_cons_succ, Act.put, List.setIfInBounds_toArray, List.set_cons_zero, List.set_cons_succ])
            refine wpAnyT_pure (i := 1) (oi := _) (v := ?_) rfl (by kernel_rfl) (by kernel_rfl) (by kernel_rfl) (by kernel_rfl) (fun _ _ _ h => h) (Or.inl ⟨by rfl, ?_⟩) (fun _ => by assumption) ?_
            rotate_left
            · (intro w hSw; go_simp)
              all_goals (with_reducible rfl)
            (try simp only [List.getElem_toArray, List.getElem_cons_zero, List.getElem_cons_succ, Act.put, List.setIfInBounds_toArray, List.set_cons_zero, List.set_cons_succ])
            refine wpAnyT_pure (i := 2) (oi := _) (v := ?_) rfl (by kernel_rfl) (by kernel_rfl) (by kernel_rfl) (by kernel_rfl) (fun _ _ _ h => h) (Or.inl ⟨by rfl, ?_⟩) (fun _ => by assumption) ?_
            rotate_left
            · (intro w hSw; go_simp)
              all_goals (with_reducible rfl)
            (try simp only [List.getElem_toArray, List.getElem_cons_zero, List.getElem_cons_succ, Act.put, List.setIfInBounds_toArray, List.set_cons_zero, List.set_cons_succ])
            refine wpAnyT_pure (i := 3) (oi := _) (v := ?_) rfl (by kernel_rfl) (by kernel_rfl) (by kernel_rfl) (by kernel_rfl) (fun _ _ _ h => h) (Or.inl ⟨by rfl, ?_⟩) (fun _ => by assumption) ?_
            rotate_left
            · (intro w hSw; go_simp)
              all_goals (with_reducible rfl)
            (try simp only [List.getElem_toArray, List.getElem_cons_zero, List.getElem_cons_succ, Act.put, List.setIfInBounds_toArray, List.set_cons_zero, List.set_cons_succ])
            refine wpAnyT_take (i := 4) (oi := _) (v := ?_) rfl (by kernel_rfl) (by kernel_rfl) (by kernel_rfl) (by kernel_rfl) (fun _ _ _ h => h) (Or.inl ⟨by rfl, ?_⟩) (by assumption) ?_
            rotate_left
            · (intro w hSw; (try dsimp only at hSw); go_simp)
              all_goals (with_reducible rfl)
            (try simp only [List.getElem_toArray, List.getElem_cons_zero, List.getElem_cons_succ, Act.put, List.setIfInBounds_toArray, List.set_cons_zero, List.set_cons_succ])
            refine wpAnyT_ready (rs := [5, 10]) (by kernel_rfl) (by simp) ?_
            refine AllReadyT.cons rfl (fun K hK => ?_) (AllReadyT.cons rfl (fun K hK => ?_) AllReadyT.nil)
            · skip
              go_simp
              (go_at_call 30; refine (key_any x _ hRx).mono ?_; rintro e w5 ⟨ka, kc, rfl, hkr, hbc⟩; have hz5 := hbc.size; (try simp only [World.size_alloc] at hz5); (try replace hbx := (hbc.block _ (Array.getElem?_eq_some_iff.1 hbx).1).trans hbx))
              go_wp2_with fail
              refine hK.out _ _ (fun _ => ?_) (fun hHeld0 => ?_)
              · (try dsimp only)
                exact ⟨cell_bel hbc (hHeld.1), cell_bel hbc (hHeld.2.1), cell_bel hbc (hHeld.2.2.1), Below.trans (hHeld.2.2.2) (hbc.mono (hHeld.2.2.2).size)⟩
              have hHeld1 := hHeld0 (by kernel_rfl)
              clear hK K hHeld0
              have hb5 := hHeld1.2.2.2
              clear hHeld; have hHeld := hHeld1; clear hHeld1
              (try simp only [List.getElem_toArray, List.getElem_cons_zero, List.getElem_cons_succ, Act.put, List.setIfInBounds_toArray, List.set_cons_zero, List.set_cons_succ])
              refine wpAnyT_ready (rs := [6, 10]) (by kernel_rfl) (by simp) ?_
              refine AllReadyT.cons rfl (fun K hK => ?_) (AllReadyT.cons rfl (fun K hK => ?_) AllReadyT.nil)
              · skip
                go_simp
                (go_at_call 27; refine (HC.out _ _ _ hHeld.2.2.2 hkr).mono ?_; rintro e w6 ⟨ao6, cap6, T6, rfl, hg6, hbc⟩; have hz6 := hbc.size; (try replace hbx := (hbc.block _ (Array.getElem?_eq_some_iff.1 hbx).1).trans hbx))
                go_wp2_with fail
                refine hK.out _ _ (fun _ => ?_) (fun hHeld0 => ?_)
                · (try dsimp only)
                  exact ⟨cell_bel hbc (hHeld.1), cell_bel hbc (hHeld.2.1), cell_bel hbc (hHeld.2.2.1), Below.trans (hHeld.2.2.2) (hbc.mono (hHeld.2.2.2).size)⟩
                have hHeld1 := hHeld0 (by kernel_rfl)
                clear hK K hHeld0
                have hb6 := hHeld1.2.2.2
                clear hHeld; have hHeld := hHeld1; clear hHeld1
                (try simp only [List.getElem_toArray, List.getElem_cons_zero, List.getElem_cons_succ, Act.put, List.setIfInBounds_toArray, List.set_cons_zero, List.set_cons_succ])
                refine wpAnyT_pure (i := 7) (oi := _) (v := ?_) rfl (by kernel_rfl) (by kernel_rfl) (by kernel_rfl) (by kernel_rfl) (fun _ _ _ h => h) (Or.inl ⟨by rfl, ?_⟩) (fun _ => by assumption) ?_
                rotate_left
                · (intro w hSw; go_simp)
                  all_goals (with_reducible rfl)
                (try simp only [List.getElem_toArray, List.getElem_cons_zero, List.getElem_cons_succ, Act.put, List.setIfInBounds_toArray, List.set_cons_zero, List.set_cons_succ])
                refine wpAnyT_pure (i := 8) (oi := _) (v := ?_) rfl (by kernel_rfl) (by kernel_rfl) (by kernel_rfl) (by kernel_rfl) (fun _ _ _ h => h) (Or.inl ⟨by rfl, ?_⟩) (fun _ => by assumption) ?_
                rotate_left
                · (intro w hSw; go_simp)
                  all_goals (with_reducible rfl)
                (try simp only [List.getElem_toArray, List.getElem_cons_zero, List.getElem_cons_succ, Act.put, List.setIfInBounds_toArray, List.set_cons_zero, List.set_cons_succ])
                refine wpAnyT_pure (i := 9) (oi := _) (v := ?_) rfl (by kernel_rfl) (by kernel_rfl) (by kernel_rfl) (by kernel_rfl) (fun _ _ _ h => h) (Or.inl ⟨by rfl, ?_⟩) (fun _ => by assumption) ?_
                rotate_left
                · (intro w hSw; go_simp)
                  all_goals (with_reducible rfl)
                (try simp only [List.getElem_toArray, List.getElem_cons_zero, List.getElem_cons_succ, Act.put, List.setIfInBounds_toArray, List.set_cons_zero, List.set_cons_succ])
                refine wpAnyT_ready (rs := [10]) (by kernel_rfl) (by simp) ?_
                refine AllReadyT.cons rfl (fun K hK => ?_) AllReadyT.nil
                go_simp
                refine hK.out _ _ (fun _ => ?_) (fun hHeld0 => ?_)
                · (try dsimp only)
                  (first | (with_reducible exact hHeld) | (with_reducible exact ⟨cell_al _ (hHeld.1), cell_al _ (hHeld.2.1), cell_al _ (hHeld.2.2.1), Below.alloc (hHeld.2.2.2) (hHeld.2.2.2).size _⟩))
                have hHeld1 := hHeld0 (by kernel_rfl)
                clear hK K hHeld0
                (have hbx := alloc_of hHeld1.2.2.2); (try replace hkr := hkr.below (al_of hHeld1.2.2.2))
                clear hHeld; have hHeld := hHeld1; clear hHeld1
                (try simp only [List.getElem_toArray, List.getElem_cons_zero, List.getElem_cons_succ, Act.put, List.setIfInBounds_toArray, List.set_cons_zero, List.set_cons_succ])
                refine wpAnyT_ready (rs := [11]) (by kernel_rfl) (by simp) ?_
                refine AllReadyT.cons rfl (fun K hK => ?_) AllReadyT.nil
                obtain ⟨b0, b1, bf0, bf1⟩ := box2 hbx
                go_simp
                refine hK.out _ _ (noneB_off (by kernel_rfl)) (fun _ => ?_)
                clear hK K
                (try simp only [List.getElem_toArray, List.getElem_cons_zero, List.getElem_cons_succ, Act.put, List.setIfInBounds_toArray, List.set_cons_zero, List.set_cons_succ])
                refine wpAnyT_ready (rs := [12]) (by kernel_rfl) (by simp) ?_
                refine AllReadyT.cons rfl (fun K hK => ?_) AllReadyT.nil
                go_simp
                refine hK.out _ _ (noneB_off (by kernel_rfl)) (fun _ => ?_)
                clear hK K
                (try simp only [List.getElem_toArray, List.getElem_cons_zero, List.getElem_cons_succ, Act.put, List.setIfInBounds_toArray, List.set_cons_zero, List.set_cons_succ])
                refine wpAnyT_done (by kernel_rfl) ?_ _
                (try clear b0 b1 bf0 bf1)
                first
                  | refine gen_two (P := fun w => (_ : Exit → Act → World → Prop) Exit.normal _ w) hbx (fun W9 hx9 hz9 hf9 hB9 => ?_)
                  | refine gen_new (P := fun w => (_ : Exit → Act → World → Prop) Exit.normal _ w) (fun W9 hx9 hz9 hf9 hB9 => ?_)
                have hb9 : Below wr.heap.size wr W9 := hB9 _ _ (by have := hb6.size; have := hb5.size; have := hbd.size; omega) hb6
                have hxt9 := (hb9.block Bt hXlt).trans HX.out
                have hxr9 := (hb9.block w.heap.size (by omega)).trans HXR.out
                obtain ⟨z0, z1, zf0, zf1⟩ := box2 hxt9
                obtain ⟨x90, x91, -⟩ := box2 hx9
                have hg9 : ∀ W : World, (∀ b, b ≠ Bt → W.heap[b]? = W9.heap[b]?) → W9.heap.size ≤ W.heap.size → GT (w.heap.size + 1) (j + 1) W (.agg #[.slice ao6 T6.pages.length cap6, .int .i64 T6.root]) T6 (stepE j x (runE L j)) := fun W hW hz => by
                  have hsz5 := hb5.size
                  have hsz6 := hz6
                  (try simp only [World.size_alloc] at hsz6)
                  have q := hg6.land (W := W) (B' := w.heap.size + 1) (by (try simp only [World.size_alloc]); omega) (fun b h1 h2 => (hW b (by (try simp only [World.size_alloc] at h1); omega)).trans (hf9 b (by (try simp only [World.size_alloc] at h1); omega))) (by omega)
                  rw [HST.out]
                  exact q.up (by omega) (by omega)
                have HG9 := Lib.hid hg9
                have HB9 := Lib.hid hb9
                have HX9 := Lib.hid (And.intro hxt9 hxr9)
                clear hx9 hz9 hf9 hB9 hb9 hg9 hxt9 hxr9 hHeld hb5 hb6 hbd hg6 hbc hz5 hz6 hkr
                (try clear hbx)
                go_wp2_with fail
                go_roundw
                case rel => exact ⟨j + 1, ao6, cap6, T6, by omega, by omega, by go_num, two_heap HX9.out.1, (two_far (by omega)).trans HX9.out.2, by rw [HRUN.out]; exact HG9.out _ (fun b hb => two_far hb) (by simp), ((HB.out.trans (HB9.out.mono hsz)).setCell (p := ⟨Bt, 0, none⟩) (by show w.heap.size ≤ Bt; omega) _).setCell (p := ⟨Bt, 1, none⟩) (by show w.heap.size ≤ Bt; omega) _⟩
                case measure => simp [intOf]; omega
              · skip
                go_simp
                refine hK.out _ _ (fun _ => ?_) (fun hHeld0 => ?_)
                · (try dsimp only)
                  (first | (with_reducible exact hHeld) | (with_reducible exact ⟨cell_al _ (hHeld.1), cell_al _ (hHeld.2.1), cell_al _ (hHeld.2.2.1), Below.alloc (hHeld.2.2.2) (hHeld.2.2.2).size _⟩))
                have hHeld1 := hHeld0 (by kernel_rfl)
                clear hK K hHeld0
                (have hbx := alloc_of hHeld1.2.2.2); (try replace hkr := hkr.below (al_of hHeld1.2.2.2))
                clear hHeld; have hHeld := hHeld1; clear hHeld1
                (try simp only [List.getElem_toArray, List.getElem_cons_zero, List.getElem_cons_succ, Act.put, List.setIfInBounds_toArray, List.set_cons_zero, List.set_cons_succ])
                refine wpAnyT_ready (rs := [6]) (by kernel_rfl) (by simp) ?_
                refine AllReadyT.cons rfl (fun K hK => ?_) AllReadyT.nil
                go_simp
                (go_at_call 27; refine (HC.out _ _ _ hHeld.2.2.2 hkr).mono ?_; rintro e w6 ⟨ao6, cap6, T6, rfl, hg6, hbc⟩; have hz6 := hbc.size; (try replace hbx := (hbc.block _ (Array.getElem?_eq_some_iff.1 hbx).1).trans hbx))
                go_wp2_with fail
                refine hK.out _ _ (fun _ => ?_) (fun hHeld0 => ?_)
                · (try dsimp only)
                  exact ⟨cell_bel hbc (hHeld.1), cell_bel hbc (hHeld.2.1), cell_bel hbc (hHeld.2.2.1), Below.trans (hHeld.2.2.2) (hbc.mono (hHeld.2.2.2).size)⟩
                have hHeld1 := hHeld0 (by kernel_rfl)
                clear hK K hHeld0
                have hb6 := hHeld1.2.2.2
                clear hHeld; have hHeld := hHeld1; clear hHeld1
                (try simp only [List.getElem_toArray, List.getElem_cons_zero, List.getElem_cons_succ, Act.put, List.setIfInBounds_toArray, List.set_cons_zero, List.set_cons_succ])
                refine wpAnyT_pure (i := 7) (oi := _) (v := ?_) rfl (by kernel_rfl) (by kernel_rfl) (by kernel_rfl) (by kernel_rfl) (fun _ _ _ h => h) (Or.inl ⟨by rfl, ?_⟩) (fun _ => by assumption) ?_
                rotate_left
                · (intro w hSw; go_simp)
                  all_goals (with_reducible rfl)
                (try simp only [List.getElem_toArray, List.getElem_cons_zero, List.getElem_cons_succ, Act.put, List.setIfInBounds_toArray, List.set_cons_zero, List.set_cons_succ])
                refine wpAnyT_pure (i := 8) (oi := _) (v := ?_) rfl (by kernel_rfl) (by kernel_rfl) (by kernel_rfl) (by kernel_rfl) (fun _ _ _ h => h) (Or.inl ⟨by rfl, ?_⟩) (fun _ => by assumption) ?_
                rotate_left
                · (intro w hSw; go_simp)
                  all_goals (with_reducible rfl)
                (try simp only [List.getElem_toArray, List.getElem_cons_zero, List.getElem_cons_succ, Act.put, List.setIfInBounds_toArray, List.set_cons_zero, List.set_cons_succ])
                refine wpAnyT_pure (i := 9) (oi := _) (v := ?_) rfl (by kernel_rfl) (by kernel_rfl) (by kernel_rfl) (by kernel_rfl) (fun _ _ _ h => h) (Or.inl ⟨by rfl, ?_⟩) (fun _ => by assumption) ?_
                rotate_left
                · (intro w hSw; go_simp)
                  all_goals (with_reducible rfl)
                (try simp only [List.getElem_toArray, List.getElem_cons_zero, List.getElem_cons_succ, Act.put, List.setIfInBounds_toArray, List.set_cons_zero, List.set_cons_succ])
                refine wpAnyT_ready (rs := [11]) (by kernel_rfl) (by simp) ?_
                refine AllReadyT.cons rfl (fun K hK => ?_) AllReadyT.nil
                obtain ⟨b0, b1, bf0, bf1⟩ := box2 hbx
                go_simp
                refine hK.out _ _ (noneB_off (by kernel_rfl)) (fun _ => ?_)
                clear hK K
                (try simp only [List.getElem_toArray, List.getElem_cons_zero, List.getElem_cons_succ, Act.put, List.setIfInBounds_toArray, List.set_cons_zero, List.set_cons_succ])
                refine wpAnyT_ready (rs := [12]) (by kernel_rfl) (by simp) ?_
                refine AllReadyT.cons rfl (fun K hK => ?_) AllReadyT.nil
                go_simp
                refine hK.out _ _ (noneB_off (by kernel_rfl)) (fun _ => ?_)
                clear hK K
                (try simp only [List.getElem_toArray, List.getElem_cons_zero, List.getElem_cons_succ, Act.put, List.setIfInBounds_toArray, List.set_cons_zero, List.set_cons_succ])
                refine wpAnyT_done (by kernel_rfl) ?_ _
                (try clear b0 b1 bf0 bf1)
                first
                  | refine gen_two (P := fun w => (_ : Exit → Act → World → Prop) Exit.normal _ w) hbx (fun W9 hx9 hz9 hf9 hB9 => ?_)
                  | refine gen_new (P := fun w => (_ : Exit → Act → World → Prop) Exit.normal _ w) (fun W9 hx9 hz9 hf9 hB9 => ?_)
                have hb9 : Below wr.heap.size wr W9 := hB9 _ _ (by have := hb6.size; have := hb5.size; have := hbd.size; omega) hb6
                have hxt9 := (hb9.block Bt hXlt).trans HX.out
                have hxr9 := (hb9.block w.heap.size (by omega)).trans HXR.out
                obtain ⟨z0, z1, zf0, zf1⟩ := box2 hxt9
                obtain ⟨x90, x91, -⟩ := box2 hx9
                have hg9 : ∀ W : World, (∀ b, b ≠ Bt → W.heap[b]? = W9.heap[b]?) → W9.heap.size ≤ W.heap.size → GT (w.heap.size + 1) (j + 1) W (.agg #[.slice ao6 T6.pages.length cap6, .int .i64 T6.root]) T6 (stepE j x (runE L j)) := fun W hW hz => by
                  have hsz5 := hb5.size
                  have hsz6 := hz6
                  (try simp only [World.size_alloc] at hsz6)
                  have q := hg6.land (W := W) (B' := w.heap.size + 1) (by (try simp only [World.size_alloc]); omega) (fun b h1 h2 => (hW b (by (try simp only [World.size_alloc] at h1); omega)).trans (hf9 b (by (try simp only [World.size_alloc] at h1); omega))) (by omega)
                  rw [HST.out]
                  exact q.up (by omega) (by omega)
                have HG9 := Lib.hid hg9
                have HB9 := Lib.hid hb9
                have HX9 := Lib.hid (And.intro hxt9 hxr9)
                clear hx9 hz9 hf9 hB9 hb9 hg9 hxt9 hxr9 hHeld hb5 hb6 hbd hg6 hbc hz5 hz6 hkr
                (try clear hbx)
                go_wp2_with fail
                go_roundw
                case rel => exact ⟨j + 1, ao6, cap6, T6, by omega, by omega, by go_num, two_heap HX9.out.1, (two_far (by omega)).trans HX9.out.2, by rw [HRUN.out]; exact HG9.out _ (fun b hb => two_far hb) (by simp), ((HB.out.trans (HB9.out.mono hsz)).setCell (p := ⟨Bt, 0, none⟩) (by show w.heap.size ≤ Bt; omega) _).setCell (p := ⟨Bt, 1, none⟩) (by show w.heap.size ≤ Bt; omega) _⟩
                case measure => simp [intOf]; omega
            · skip
              go_simp
              refine hK.out _ _ (fun _ => ?_) (fun hHeld0 => ?_)
              · (try dsimp only)
                (first | (with_reducible exact hHeld) | (with_reducible exact ⟨cell_al _ (hHeld.1), cell_al _ (hHeld.2.1), cell_al _ (hHeld.2.2.1), Below.alloc (hHeld.2.2.2) (hHeld.2.2.2).size _⟩))
              have hHeld1 := hHeld0 (by kernel_rfl)
              clear hK K hHeld0
              (have hbx := alloc_of hHeld1.2.2.2); (try replace hkr := hkr.below (al_of hHeld1.2.2.2))
              clear hHeld; have hHeld := hHeld1; clear hHeld1
              (try simp only [List.getElem_toArray, List.getElem_cons_zero, List.getElem_cons_succ, Act.put, List.setIfInBounds_toArray, List.set_cons_zero, List.set_cons_succ])
              refine wpAnyT_ready (rs := [5]) (by kernel_rfl) (by simp) ?_
              refine AllReadyT.cons rfl (fun K hK => ?_) AllReadyT.nil
              go_simp
              (go_at_call 30; refine (key_any x _ hRx).mono ?_; rintro e w5 ⟨ka, kc, rfl, hkr, hbc⟩; have hz5 := hbc.size; (try simp only [World.size_alloc] at hz5); (try replace hbx := (hbc.block _ (Array.getElem?_eq_some_iff.1 hbx).1).trans hbx))
              go_wp2_with fail
              refine hK.out _ _ (fun _ => ?_) (fun hHeld0 => ?_)
              · (try dsimp only)
                exact ⟨cell_bel hbc (hHeld.1), cell_bel hbc (hHeld.2.1), cell_bel hbc (hHeld.2.2.1), Below.trans (hHeld.2.2.2) (hbc.mono (hHeld.2.2.2).size)⟩
              have hHeld1 := hHeld0 (by kernel_rfl)
              clear hK K hHeld0
              have hb5 := hHeld1.2.2.2
              clear hHeld; have hHeld := hHeld1; clear hHeld1
              (try simp only [List.getElem_toArray, List.getElem_cons_zero, List.getElem_cons_succ, Act.put, List.setIfInBounds_toArray, List.set_cons_zero, List.set_cons_succ])
              refine wpAnyT_ready (rs := [6]) (by kernel_rfl) (by simp) ?_
              refine AllReadyT.cons rfl (fun K hK => ?_) AllReadyT.nil
              go_simp
              (go_at_call 27; refine (HC.out _ _ _ hHeld.2.2.2 hkr).mono ?_; rintro e w6 ⟨ao6, cap6, T6, rfl, hg6, hbc⟩; have hz6 := hbc.size; (try replace hbx := (hbc.block _ (Array.getElem?_eq_some_iff.1 hbx).1).trans hbx))
              go_wp2_with fail
              refine hK.out _ _ (fun _ => ?_) (fun hHeld0 => ?_)
              · (try dsimp only)
                exact ⟨cell_bel hbc (hHeld.1), cell_bel hbc (hHeld.2.1), cell_bel hbc (hHeld.2.2.1), Below.trans (hHeld.2.2.2) (hbc.mono (hHeld.2.2.2).size)⟩
              have hHeld1 := hHeld0 (by kernel_rfl)
              clear hK K hHeld0
              have hb6 := hHeld1.2.2.2
              clear hHeld; have hHeld := hHeld1; clear hHeld1
              (try simp only [List.getElem_toArray, List.getElem_cons_zero, List.getElem_cons_succ, Act.put, List.setIfInBounds_toArray, List.set_cons_zero, List.set_cons_succ])
              refine wpAnyT_pure (i := 7) (oi := _) (v := ?_) rfl (by kernel_rfl) (by kernel_rfl) (by kernel_rfl) (by kernel_rfl) (fun _ _ _ h => h) (Or.inl ⟨by rfl, ?_⟩) (fun _ => by assumption) ?_
              rotate_left
              · (intro w hSw; go_simp)
                all_goals (with_reducible rfl)
              (try simp only [List.getElem_toArray, List.getElem_cons_zero, List.getElem_cons_succ, Act.put, List.setIfInBounds_toArray, List.set_cons_zero, List.set_cons_succ])
              refine wpAnyT_pure (i := 8) (oi := _) (v := ?_) rfl (by kernel_rfl) (by kernel_rfl) (by kernel_rfl) (by kernel_rfl) (fun _ _ _ h => h) (Or.inl ⟨by rfl, ?_⟩) (fun _ => by assumption) ?_
              rotate_left
              · (intro w hSw; go_simp)
                all_goals (with_reducible rfl)
              (try simp only [List.getElem_toArray, List.getElem_cons_zero, List.getElem_cons_succ, Act.put, List.setIfInBounds_toArray, List.set_cons_zero, List.set_cons_succ])
              refine wpAnyT_pure (i := 9) (oi := _) (v := ?_) rfl (by kernel_rfl) (by kernel_rfl) (by kernel_rfl) (by kernel_rfl) (fun _ _ _ h => h) (Or.inl ⟨by rfl, ?_⟩) (fun _ => by assumption) ?_
              rotate_left
              · (intro w hSw; go_simp)
                all_goals (with_reducible rfl)
              (try simp only [List.getElem_toArray, List.getElem_cons_zero, List.getElem_cons_succ, Act.put, List.setIfInBounds_toArray, List.set_cons_zero, List.set_cons_succ])
              refine wpAnyT_ready (rs := [11]) (by kernel_rfl) (by simp) ?_
              refine AllReadyT.cons rfl (fun K hK => ?_) AllReadyT.nil
              obtain ⟨b0, b1, bf0, bf1⟩ := box2 hbx
              go_simp
              refine hK.out _ _ (noneB_off (by kernel_rfl)) (fun _ => ?_)
              clear hK K
              (try simp only [List.getElem_toArray, List.getElem_cons_zero, List.getElem_cons_succ, Act.put, List.setIfInBounds_toArray, List.set_cons_zero, List.set_cons_succ])
              refine wpAnyT_ready (rs := [12]) (by kernel_rfl) (by simp) ?_
              refine AllReadyT.cons rfl (fun K hK => ?_) AllReadyT.nil
              go_simp
              refine hK.out _ _ (noneB_off (by kernel_rfl)) (fun _ => ?_)
              clear hK K
              (try simp only [List.getElem_toArray, List.getElem_cons_zero, List.getElem_cons_succ, Act.put, List.setIfInBounds_toArray, List.set_cons_zero, List.set_cons_succ])
              refine wpAnyT_done (by kernel_rfl) ?_ _
              (try clear b0 b1 bf0 bf1)
              first
                | refine gen_two (P := fun w => (_ : Exit → Act → World → Prop) Exit.normal _ w) hbx (fun W9 hx9 hz9 hf9 hB9 => ?_)
                | refine gen_new (P := fun w => (_ : Exit → Act → World → Prop) Exit.normal _ w) (fun W9 hx9 hz9 hf9 hB9 => ?_)
              have hb9 : Below wr.heap.size wr W9 := hB9 _ _ (by have := hb6.size; have := hb5.size; have := hbd.size; omega) hb6
              have hxt9 := (hb9.block Bt hXlt).trans HX.out
              have hxr9 := (hb9.block w.heap.size (by omega)).trans HXR.out
              obtain ⟨z0, z1, zf0, zf1⟩ := box2 hxt9
              obtain ⟨x90, x91, -⟩ := box2 hx9
              have hg9 : ∀ W : World, (∀ b, b ≠ Bt → W.heap[b]? = W9.heap[b]?) → W9.heap.size ≤ W.heap.size → GT (w.heap.size + 1) (j + 1) W (.agg #[.slice ao6 T6.pages.length cap6, .int .i64 T6.root]) T6 (stepE j x (runE L j)) := fun W hW hz => by
                have hsz5 := hb5.size
                have hsz6 := hz6
                (try simp only [World.size_alloc] at hsz6)
                have q := hg6.land (W := W) (B' := w.heap.size + 1) (by (try simp only [World.size_alloc]); omega) (fun b h1 h2 => (hW b (by (try simp only [World.size_alloc] at h1); omega)).trans (hf9 b (by (try simp only [World.size_alloc] at h1); omega))) (by omega)
                rw [HST.out]
                exact q.up (by omega) (by omega)
              have HG9 := Lib.hid hg9
              have HB9 := Lib.hid hb9
              have HX9 := Lib.hid (And.intro hxt9 hxr9)
              clear hx9 hz9 hf9 hB9 hb9 hg9 hxt9 hxr9 hHeld hb5 hb6 hbd hg6 hbc hz5 hz6 hkr
              (try clear hbx)
              go_wp2_with fail
              go_roundw
              case rel => exact ⟨j + 1, ao6, cap6, T6, by omega, by omega, by go_num, two_heap HX9.out.1, (two_far (by omega)).trans HX9.out.2, by rw [HRUN.out]; exact HG9.out _ (fun b hb => two_far hb) (by simp), ((HB.out.trans (HB9.out.mono hsz)).setCell (p := ⟨Bt, 0, none⟩) (by show w.heap.size ≤ Bt; omega) _).setCell (p := ⟨Bt, 1, none⟩) (by show w.heap.size ≤ Bt; omega) _⟩
              case measure => simp [intOf]; omega
          · skip
            have HC := Lib.hid (fun (W : World) (kv : Value) (ok' : Nat → Prop) (hW : Below wr.heap.size wr W) (hk : RB W ok' kv (keyK x)) => delete_none (HG.out.below hW) hk (keyK_ok x) (by simpa using hl))
            have HST := Lib.hid (show stepE j x (runE L j) = runE L j from (if_pos hx).trans (offE_none (by simpa using hl)))
            clear hl
            go_wp2_with fail
            refine wpT_begin2 (S := (fun wx => wx.cell? ⟨Bt, 0, none⟩ = some (.slice ao T.pages.length cap) ∧ wx.cell? ⟨Bt, 1, none⟩ = some (.int .i64 T.root) ∧ wx.cell? ⟨eb, eo + j, none⟩ = some (.int .i64 x) ∧ Below wr.heap.size wr wx)) [11] (by kernel_rfl) ?_ (fun Wd hHeld => ?_)
            · (try dsimp only)
              exact ⟨cell_dr k0, cell_dr k1, cell_dr d1, (Below.refl _ _).drew⟩
            have hbd := hHeld.2.2.2
            refine wpAnyT_take (i := 0) (oi := _) (v := ?_) rfl (by kernel_rfl) (by kernel_rfl) (by kernel_rfl) (by kernel_rfl) (fun _ _ _ h => h) (Or.inl ⟨by rfl, ?_⟩) (by assumption) ?_
            rotate_left
            · (intro w hSw; (try dsimp only at hSw); go_simp)
              all_goals (with_reducible rfl)
            (try simp only [List.getElem_toArray, List.getElem_cons_zero, List.getElem_cons_succ, Act.put, List.setIfInBounds_toArray, List.set_cons_zero, List.set_cons_succ])
            refine wpAnyT_pure (i := 1) (oi := _) (v := ?_) rfl (by kernel_rfl) (by kernel_rfl) (by kernel_rfl) (by kernel_rfl) (fun _ _ _ h => h) (Or.inl ⟨by rfl, ?_⟩) (fun _ => by assumption) ?_
            rotate_left
            · (intro w hSw; go_simp)
              all_goals (with_reducible rfl)
            (try simp only [List.getElem_toArray, List.getElem_cons_zero, List.getElem_cons_succ, Act.put, List.setIfInBounds_toArray, List.set_cons_zero, List.set_cons_succ])
            refine wpAnyT_pure (i := 2) (oi := _) (v := ?_) rfl (by kernel_rfl) (by kernel_rfl) (by kernel_rfl) (by kernel_rfl) (fun _ _ _ h => h) (Or.inl ⟨by rfl, ?_⟩) (fun _ => by assumption) ?_
            rotate_left
            · (intro w hSw; go_simp)
              all_goals (with_reducible rfl)
            (try simp only [List.getElem_toArray, List.getElem_cons_zero, List.getElem_cons_succ, Act.put, List.setIfInBounds_toArray, List.set_cons_zero, List.set_cons_succ])
            refine wpAnyT_pure (i := 3) (oi := _) (v := ?_) rfl (by kernel_rfl) (by kernel_rfl) (by kernel_rfl) (by kernel_rfl) (fun _ _ _ h => h) (Or.inl ⟨by rfl, ?_⟩) (fun _ => by assumption) ?_
            rotate_left
            · (intro w hSw; go_simp)
              all_goals (with_reducible rfl)
            (try simp only [List.getElem_toArray, List.getElem_cons_zero, List.getElem_cons_succ, Act.put, List.setIfInBounds_toArray, List.set_cons_zero, List.set_cons_succ])
            refine wpAnyT_take (i := 4) (oi := _) (v := ?_) rfl (by kernel_rfl) (by kernel_rfl) (by kernel_rfl) (by kernel_rfl) (fun _ _ _ h => h) (Or.inl ⟨by rfl, ?_⟩) (by assumption) ?_
            rotate_left
            · (intro w hSw; (try dsimp only at hSw); go_simp)
              all_goals (with_reducible rfl)
            (try simp only [List.getElem_toArray, List.getElem_cons_zero, List.getElem_cons_succ, Act.put, List.setIfInBounds_toArray, List.set_cons_zero, List.set_cons_succ])
            refine wpAnyT_ready (rs := [5, 10]) (by kernel_rfl) (by simp) ?_
            refine AllReadyT.cons rfl (fun K hK => ?_) (AllReadyT.cons rfl (fun K hK => ?_) AllReadyT.nil)
            · skip
              go_simp
              (go_at_call 30; refine (key_any x _ hRx).mono ?_; rintro e w5 ⟨ka, kc, rfl, hkr, hbc⟩; have hz5 := hbc.size; (try simp only [World.size_alloc] at hz5); (try replace hbx := (hbc.block _ (Array.getElem?_eq_some_iff.1 hbx).1).trans hbx))
              go_wp2_with fail
              refine hK.out _ _ (fun _ => ?_) (fun hHeld0 => ?_)
              · (try dsimp only)
                exact ⟨cell_bel hbc (hHeld.1), cell_bel hbc (hHeld.2.1), cell_bel hbc (hHeld.2.2.1), Below.trans (hHeld.2.2.2) (hbc.mono (hHeld.2.2.2).size)⟩
              have hHeld1 := hHeld0 (by kernel_rfl)
              clear hK K hHeld0
              have hb5 := hHeld1.2.2.2
              clear hHeld; have hHeld := hHeld1; clear hHeld1
              (try simp only [List.getElem_toArray, List.getElem_cons_zero, List.getElem_cons_succ, Act.put, List.setIfInBounds_toArray, List.set_cons_zero, List.set_cons_succ])
              refine wpAnyT_ready (rs := [6, 10]) (by kernel_rfl) (by simp) ?_
              refine AllReadyT.cons rfl (fun K hK => ?_) (AllReadyT.cons rfl (fun K hK => ?_) AllReadyT.nil)
              · skip
                go_simp
                (go_at_call 27; refine (HC.out _ _ _ hHeld.2.2.2 hkr).mono ?_; rintro e w6 ⟨rfl, hbc⟩; have hz6 := hbc.size; (try replace hbx := (hbc.block _ (Array.getElem?_eq_some_iff.1 hbx).1).trans hbx))
                go_wp2_with fail
                refine hK.out _ _ (fun _ => ?_) (fun hHeld0 => ?_)
                · (try dsimp only)
                  exact ⟨cell_bel hbc (hHeld.1), cell_bel hbc (hHeld.2.1), cell_bel hbc (hHeld.2.2.1), Below.trans (hHeld.2.2.2) (hbc.mono (hHeld.2.2.2).size)⟩
                have hHeld1 := hHeld0 (by kernel_rfl)
                clear hK K hHeld0
                have hb6 := hHeld1.2.2.2
                clear hHeld; have hHeld := hHeld1; clear hHeld1
                (try simp only [List.getElem_toArray, List.getElem_cons_zero, List.getElem_cons_succ, Act.put, List.setIfInBounds_toArray, List.set_cons_zero, List.set_cons_succ])
                refine wpAnyT_pure (i := 7) (oi := _) (v := ?_) rfl (by kernel_rfl) (by kernel_rfl) (by kernel_rfl) (by kernel_rfl) (fun _ _ _ h => h) (Or.inl ⟨by rfl, ?_⟩) (fun _ => by assumption) ?_
                rotate_left
                · (intro w hSw; go_simp)
                  all_goals (with_reducible rfl)
                (try simp only [List.getElem_toArray, List.getElem_cons_zero, List.getElem_cons_succ, Act.put, List.setIfInBounds_toArray, List.set_cons_zero, List.set_cons_succ])
                refine wpAnyT_pure (i := 8) (oi := _) (v := ?_) rfl (by kernel_rfl) (by kernel_rfl) (by kernel_rfl) (by kernel_rfl) (fun _ _ _ h => h) (Or.inl ⟨by rfl, ?_⟩) (fun _ => by assumption) ?_
                rotate_left
                · (intro w hSw; go_simp)
                  all_goals (with_reducible rfl)
                (try simp only [List.getElem_toArray, List.getElem_cons_zero, List.getElem_cons_succ, Act.put, List.setIfInBounds_toArray, List.set_cons_zero, List.set_cons_succ])
                refine wpAnyT_pure (i := 9) (oi := _) (v := ?_) rfl (by kernel_rfl) (by kernel_rfl) (by kernel_rfl) (by kernel_rfl) (fun _ _ _ h => h) (Or.inl ⟨by rfl, ?_⟩) (fun _ => by assumption) ?_
                rotate_left
                · (intro w hSw; go_simp)
                  all_goals (with_reducible rfl)
                (try simp only [List.getElem_toArray, List.getElem_cons_zero, List.getElem_cons_succ, Act.put, List.setIfInBounds_toArray, List.set_cons_zero, List.set_cons_succ])
                refine wpAnyT_ready (rs := [10]) (by kernel_rfl) (by simp) ?_
                refine AllReadyT.cons rfl (fun K hK => ?_) AllReadyT.nil
                go_simp
                refine hK.out _ _ (fun _ => ?_) (fun hHeld0 => ?_)
                · (try dsimp only)
                  (first | (with_reducible exact hHeld) | (with_reducible exact ⟨cell_al _ (hHeld.1), cell_al _ (hHeld.2.1), cell_al _ (hHeld.2.2.1), Below.alloc (hHeld.2.2.2) (hHeld.2.2.2).size _⟩))
                have hHeld1 := hHeld0 (by kernel_rfl)
                clear hK K hHeld0
                (have hbx := alloc_of hHeld1.2.2.2); (try replace hkr := hkr.below (al_of hHeld1.2.2.2))
                clear hHeld; have hHeld := hHeld1; clear hHeld1
                (try simp only [List.getElem_toArray, List.getElem_cons_zero, List.getElem_cons_succ, Act.put, List.setIfInBounds_toArray, List.set_cons_zero, List.set_cons_succ])
                refine wpAnyT_ready (rs := [11]) (by kernel_rfl) (by simp) ?_
                refine AllReadyT.cons rfl (fun K hK => ?_) AllReadyT.nil
                obtain ⟨b0, b1, bf0, bf1⟩ := box2 hbx
                go_simp
                refine hK.out _ _ (noneB_off (by kernel_rfl)) (fun _ => ?_)
                clear hK K
                (try simp only [List.getElem_toArray, List.getElem_cons_zero, List.getElem_cons_succ, Act.put, List.setIfInBounds_toArray, List.set_cons_zero, List.set_cons_succ])
                refine wpAnyT_ready (rs := [12]) (by kernel_rfl) (by simp) ?_
                refine AllReadyT.cons rfl (fun K hK => ?_) AllReadyT.nil
                go_simp
                refine hK.out _ _ (noneB_off (by kernel_rfl)) (fun _ => ?_)
                clear hK K
                (try simp only [List.getElem_toArray, List.getElem_cons_zero, List.getElem_cons_succ, Act.put, List.setIfInBounds_toArray, List.set_cons_zero, List.set_cons_succ])
                refine wpAnyT_done (by kernel_rfl) ?_ _
                (try clear b0 b1 bf0 bf1)
                first
                  | refine gen_two (P := fun w => (_ : Exit → Act → World → Prop) Exit.normal _ w) hbx (fun W9 hx9 hz9 hf9 hB9 => ?_)
                  | refine gen_new (P := fun w => (_ : Exit → Act → World → Prop) Exit.normal _ w) (fun W9 hx9 hz9 hf9 hB9 => ?_)
                have hb9 : Below wr.heap.size wr W9 := hB9 _ _ (by have := hb6.size; have := hb5.size; have := hbd.size; omega) hb6
                have hxt9 := (hb9.block Bt hXlt).trans HX.out
                have hxr9 := (hb9.block w.heap.size (by omega)).trans HXR.out
                obtain ⟨z0, z1, zf0, zf1⟩ := box2 hxt9
                obtain ⟨x90, x91, -⟩ := box2 hx9
                have hg9 : GT (w.heap.size + 1) (j + 1) W9 (.agg #[.slice ao T.pages.length cap, .int .i64 T.root]) T (stepE j x (runE L j)) := by
                  rw [HST.out]
                  exact (HG.out.below hb9).up (by omega) (by omega)
                have HG9 := Lib.hid hg9
                have HB9 := Lib.hid hb9
                have HX9 := Lib.hid (And.intro hxt9 hxr9)
                clear hx9 hz9 hf9 hB9 hb9 hg9 hxt9 hxr9 hHeld hb5 hb6 hbd hbc hz5 hz6 hkr
                (try clear hbx)
                go_wp2_with fail
                go_roundw
                case rel => exact ⟨j + 1, ao, cap, T, by omega, by omega, by go_num, HX9.out.1, HX9.out.2, by rw [HRUN.out]; exact HG9.out, HB.out.trans (HB9.out.mono hsz)⟩
                case measure => simp [intOf]; omega
              · skip
                go_simp
                refine hK.out _ _ (fun _ => ?_) (fun hHeld0 => ?_)
                · (try dsimp only)
                  (first | (with_reducible exact hHeld) | (with_reducible exact ⟨cell_al _ (hHeld.1), cell_al _ (hHeld.2.1), cell_al _ (hHeld.2.2.1), Below.alloc (hHeld.2.2.2) (hHeld.2.2.2).size _⟩))
                have hHeld1 := hHeld0 (by kernel_rfl)
                clear hK K hHeld0
                (have hbx := alloc_of hHeld1.2.2.2); (try replace hkr := hkr.below (al_of hHeld1.2.2.2))
                clear hHeld; have hHeld := hHeld1; clear hHeld1
                (try simp only [List.getElem_toArray, List.getElem_cons_zero, List.getElem_cons_succ, Act.put, List.setIfInBounds_toArray, List.set_cons_zero, List.set_cons_succ])
                refine wpAnyT_ready (rs := [6]) (by kernel_rfl) (by simp) ?_
                refine AllReadyT.cons rfl (fun K hK => ?_) AllReadyT.nil
                go_simp
                (go_at_call 27; refine (HC.out _ _ _ hHeld.2.2.2 hkr).mono ?_; rintro e w6 ⟨rfl, hbc⟩; have hz6 := hbc.size; (try replace hbx := (hbc.block _ (Array.getElem?_eq_some_iff.1 hbx).1).trans hbx))
                go_wp2_with fail
                refine hK.out _ _ (fun _ => ?_) (fun hHeld0 => ?_)
                · (try dsimp only)
                  exact ⟨cell_bel hbc (hHeld.1), cell_bel hbc (hHeld.2.1), cell_bel hbc (hHeld.2.2.1), Below.trans (hHeld.2.2.2) (hbc.mono (hHeld.2.2.2).size)⟩
                have hHeld1 := hHeld0 (by kernel_rfl)
                clear hK K hHeld0
                have hb6 := hHeld1.2.2.2
                clear hHeld; have hHeld := hHeld1; clear hHeld1
                (try simp only [List.getElem_toArray, List.getElem_cons_zero, List.getElem_cons_succ, Act.put, List.setIfInBounds_toArray, List.set_cons_zero, List.set_cons_succ])
                refine wpAnyT_pure (i := 7) (oi := _) (v := ?_) rfl (by kernel_rfl) (by kernel_rfl) (by kernel_rfl) (by kernel_rfl) (fun _ _ _ h => h) (Or.inl ⟨by rfl, ?_⟩) (fun _ => by assumption) ?_
                rotate_left
                · (intro w hSw; go_simp)
                  all_goals (with_reducible rfl)
                (try simp only [List.getElem_toArray, List.getElem_cons_zero, List.getElem_cons_succ, Act.put, List.setIfInBounds_toArray, List.set_cons_zero, List.set_cons_succ])
                refine wpAnyT_pure (i := 8) (oi := _) (v := ?_) rfl (by kernel_rfl) (by kernel_rfl) (by kernel_rfl) (by kernel_rfl) (fun _ _ _ h => h) (Or.inl ⟨by rfl, ?_⟩) (fun _ => by assumption) ?_
                rotate_left
                · (intro w hSw; go_simp)
                  all_goals (with_reducible rfl)
                (try simp only [List.getElem_toArray, List.getElem_cons_zero, List.getElem_cons_succ, Act.put, List.setIfInBounds_toArray, List.set_cons_zero, List.set_cons_succ])
                refine wpAnyT_pure (i := 9) (oi := _) (v := ?_) rfl (by kernel_rfl) (by kernel_rfl) (by kernel_rfl) (by kernel_rfl) (fun _ _ _ h => h) (Or.inl ⟨by rfl, ?_⟩) (fun _ => by assumption) ?_
                rotate_left
                · (intro w hSw; go_simp)
                  all_goals (with_reducible rfl)
                (try simp only [List.getElem_toArray, List.getElem_cons_zero, List.getElem_cons_succ, Act.put, List.setIfInBounds_toArray, List.set_cons_zero, List.set_cons_succ])
                refine wpAnyT_ready (rs := [11]) (by kernel_rfl) (by simp) ?_
                refine AllReadyT.cons rfl (fun K hK => ?_) AllReadyT.nil
                obtain ⟨b0, b1, bf0, bf1⟩ := box2 hbx
                go_simp
                refine hK.out _ _ (noneB_off (by kernel_rfl)) (fun _ => ?_)
                clear hK K
                (try simp only [List.getElem_toArray, List.getElem_cons_zero, List.getElem_cons_succ, Act.put, List.setIfInBounds_toArray, List.set_cons_zero, List.set_cons_succ])
                refine wpAnyT_ready (rs := [12]) (by kernel_rfl) (by simp) ?_
                refine AllReadyT.cons rfl (fun K hK => ?_) AllReadyT.nil
                go_simp
                refine hK.out _ _ (noneB_off (by kernel_rfl)) (fun _ => ?_)
                clear hK K
                (try simp only [List.getElem_toArray, List.getElem_cons_zero, List.getElem_cons_succ, Act.put, List.setIfInBounds_toArray, List.set_cons_zero, List.set_cons_succ])
                refine wpAnyT_done (by kernel_rfl) ?_ _
                (try clear b0 b1 bf0 bf1)
                first
                  | refine gen_two (P := fun w => (_ : Exit → Act → World → Prop) Exit.normal _ w) hbx (fun W9 hx9 hz9 hf9 hB9 => ?_)
                  | refine gen_new (P := fun w => (_ : Exit → Act → World → Prop) Exit.normal _ w) (fun W9 hx9 hz9 hf9 hB9 => ?_)
                have hb9 : Below wr.heap.size wr W9 := hB9 _ _ (by have := hb6.size; have := hb5.size; have := hbd.size; omega) hb6
                have hxt9 := (hb9.block Bt hXlt).trans HX.out
                have hxr9 := (hb9.block w.heap.size (by omega)).trans HXR.out
                obtain ⟨z0, z1, zf0, zf1⟩ := box2 hxt9
                obtain ⟨x90, x91, -⟩ := box2 hx9
                have hg9 : GT (w.heap.size + 1) (j + 1) W9 (.agg #[.slice ao T.pages.length cap, .int .i64 T.root]) T (stepE j x (runE L j)) := by
                  rw [HST.out]
                  exact (HG.out.below hb9).up (by omega) (by omega)
                have HG9 := Lib.hid hg9
                have HB9 := Lib.hid hb9
                have HX9 := Lib.hid (And.intro hxt9 hxr9)
                clear hx9 hz9 hf9 hB9 hb9 hg9 hxt9 hxr9 hHeld hb5 hb6 hbd hbc hz5 hz6 hkr
                (try clear hbx)
                go_wp2_with fail
                go_roundw
                case rel => exact ⟨j + 1, ao, cap, T, by omega, by omega, by go_num, HX9.out.1, HX9.out.2, by rw [HRUN.out]; exact HG9.out, HB.out.trans (HB9.out.mono hsz)⟩
                case measure => simp [intOf]; omega
            · skip
              go_simp
              refine hK.out _ _ (fun _ => ?_) (fun hHeld0 => ?_)
              · (try dsimp only)
                (first | (with_reducible exact hHeld) | (with_reducible exact ⟨cell_al _ (hHeld.1), cell_al _ (hHeld.2.1), cell_al _ (hHeld.2.2.1), Below.alloc (hHeld.2.2.2) (hHeld.2.2.2).size _⟩))
              have hHeld1 := hHeld0 (by kernel_rfl)
              clear hK K hHeld0
              (have hbx := alloc_of hHeld1.2.2.2); (try replace hkr := hkr.below (al_of hHeld1.2.2.2))
              clear hHeld; have hHeld := hHeld1; clear hHeld1
              (try simp only [List.getElem_toArray, List.getElem_cons_zero, List.getElem_cons_succ, Act.put, List.setIfInBounds_toArray, List.set_cons_zero, List.set_cons_succ])
              refine wpAnyT_ready (rs := [5]) (by kernel_rfl) (by simp) ?_
              refine AllReadyT.cons rfl (fun K hK => ?_) AllReadyT.nil
              go_simp
              (go_at_call 30; refine (key_any x _ hRx).mono ?_; rintro e w5 ⟨ka, kc, rfl, hkr, hbc⟩; have hz5 := hbc.size; (try simp only [World.size_alloc] at hz5); (try replace hbx := (hbc.block _ (Array.getElem?_eq_some_iff.1 hbx).1).trans hbx))
              go_wp2_with fail
              refine hK.out _ _ (fun _ => ?_) (fun hHeld0 => ?_)
              · (try dsimp only)
                exact ⟨cell_bel hbc (hHeld.1), cell_bel hbc (hHeld.2.1), cell_bel hbc (hHeld.2.2.1), Below.trans (hHeld.2.2.2) (hbc.mono (hHeld.2.2.2).size)⟩
              have hHeld1 := hHeld0 (by kernel_rfl)
              clear hK K hHeld0
              have hb5 := hHeld1.2.2.2
              clear hHeld; have hHeld := hHeld1; clear hHeld1
              (try simp only [List.getElem_toArray, List.getElem_cons_zero, List.getElem_cons_succ, Act.put, List.setIfInBounds_toArray, List.set_cons_zero, List.set_cons_succ])
              refine wpAnyT_ready (rs := [6]) (by kernel_rfl) (by simp) ?_
              refine AllReadyT.cons rfl (fun K hK => ?_) AllReadyT.nil
              go_simp
              (go_at_call 27; refine (HC.out _ _ _ hHeld.2.2.2 hkr).mono ?_; rintro e w6 ⟨rfl, hbc⟩; have hz6 := hbc.size; (try replace hbx := (hbc.block _ (Array.getElem?_eq_some_iff.1 hbx).1).trans hbx))
              go_wp2_with fail
              refine hK.out _ _ (fun _ => ?_) (fun hHeld0 => ?_)
              · (try dsimp only)
                exact ⟨cell_bel hbc (hHeld.1), cell_bel hbc (hHeld.2.1), cell_bel hbc (hHeld.2.2.1), Below.trans (hHeld.2.2.2) (hbc.mono (hHeld.2.2.2).size)⟩
              have hHeld1 := hHeld0 (by kernel_rfl)
              clear hK K hHeld0
              have hb6 := hHeld1.2.2.2
              clear hHeld; have hHeld := hHeld1; clear hHeld1
              (try simp only [List.getElem_toArray, List.getElem_cons_zero, List.getElem_cons_succ, Act.put, List.setIfInBounds_toArray, List.set_cons_zero, List.set_cons_succ])
              refine wpAnyT_pure (i := 7) (oi := _) (v := ?_) rfl (by kernel_rfl) (by kernel_rfl) (by kernel_rfl) (by kernel_rfl) (fun _ _ _ h => h) (Or.inl ⟨by rfl, ?_⟩) (fun _ => by assumption) ?_
              rotate_left
              · (intro w hSw; go_simp)
                all_goals (with_reducible rfl)
              (try simp only [List.getElem_toArray, List.getElem_cons_zero, List.getElem_cons_succ, Act.put, List.setIfInBounds_toArray, List.set_cons_zero, List.set_cons_succ])
              refine wpAnyT_pure (i := 8) (oi := _) (v := ?_) rfl (by kernel_rfl) (by kernel_rfl) (by kernel_rfl) (by kernel_rfl) (fun _ _ _ h => h) (Or.inl ⟨by rfl, ?_⟩) (fun _ => by assumption) ?_
              rotate_left
              · (intro w hSw; go_simp)
                all_goals (with_reducible rfl)
              (try simp only [List.getElem_toArray, List.getElem_cons_zero, List.getElem_cons_succ, Act.put, List.setIfInBounds_toArray, List.set_cons_zero, List.set_cons_succ])
              refine wpAnyT_pure (i := 9) (oi := _) (v := ?_) rfl (by kernel_rfl) (by kernel_rfl) (by kernel_rfl) (by kernel_rfl) (fun _ _ _ h => h) (Or.inl ⟨by rfl, ?_⟩) (fun _ => by assumption) ?_
              rotate_left
              · (intro w hSw; go_simp)
                all_goals (with_reducible rfl)
              (try simp only [List.getElem_toArray, List.getElem_cons_zero, List.getElem_cons_succ, Act.put, List.setIfInBounds_toArray, List.set_cons_zero, List.set_cons_succ])
              refine wpAnyT_ready (rs := [11]) (by kernel_rfl) (by simp) ?_
              refine AllReadyT.cons rfl (fun K hK => ?_) AllReadyT.nil
              obtain ⟨b0, b1, bf0, bf1⟩ := box2 hbx
              go_simp
              refine hK.out _ _ (noneB_off (by kernel_rfl)) (fun _ => ?_)
              clear hK K
              (try simp only [List.getElem_toArray, List.getElem_cons_zero, List.getElem_cons_succ, Act.put, List.setIfInBounds_toArray, List.set_cons_zero, List.set_cons_succ])
              refine wpAnyT_ready (rs := [12]) (by kernel_rfl) (by simp) ?_
              refine AllReadyT.cons rfl (fun K hK => ?_) AllReadyT.nil
              go_simp
              refine hK.out _ _ (noneB_off (by kernel_rfl)) (fun _ => ?_)
              clear hK K
              (try simp only [List.getElem_toArray, List.getElem_cons_zero, List.getElem_cons_succ, Act.put, List.setIfInBounds_toArray, List.set_cons_zero, List.set_cons_succ])
              refine wpAnyT_done (by kernel_rfl) ?_ _
              (try clear b0 b1 bf0 bf1)
              first
                | refine gen_two (P := fun w => (_ : Exit → Act → World → Prop) Exit.normal _ w) hbx (fun W9 hx9 hz9 hf9 hB9 => ?_)
                | refine gen_new (P := fun w => (_ : Exit → Act → World → Prop) Exit.normal _ w) (fun W9 hx9 hz9 hf9 hB9 => ?_)
              have hb9 : Below wr.heap.size wr W9 := hB9 _ _ (by have := hb6.size; have := hb5.size; have := hbd.size; omega) hb6
              have hxt9 := (hb9.block Bt hXlt).trans HX.out
              have hxr9 := (hb9.block w.heap.size (by omega)).trans HXR.out
              obtain ⟨z0, z1, zf0, zf1⟩ := box2 hxt9
              obtain ⟨x90, x91, -⟩ := box2 hx9
              have hg9 : GT (w.heap.size + 1) (j + 1) W9 (.agg #[.slice ao T.pages.length cap, .int .i64 T.root]) T (stepE j x (runE L j)) := by
                rw [HST.out]
                exact (HG.out.below hb9).up (by omega) (by omega)
              have HG9 := Lib.hid hg9
              have HB9 := Lib.hid hb9
              have HX9 := Lib.hid (And.intro hxt9 hxr9)
              clear hx9 hz9 hf9 hB9 hb9 hg9 hxt9 hxr9 hHeld hb5 hb6 hbd hbc hz5 hz6 hkr
              (try clear hbx)
              go_wp2_with fail
              go_roundw
              case rel => exact ⟨j + 1, ao, cap, T, by omega, by omega, by go_num, HX9.out.1, HX9.out.2, by rw [HRUN.out]; exact HG9.out, HB.out.trans (HB9.out.mono hsz)⟩
              case measure => simp [intOf]; omega
        · by_cases hl : (lookE (keyK x) (runE L j)).isSome = true
          · skip
            have HC := Lib.hid (fun (W : World) (kv : Value) (ok' : Nat → Prop) (hW : Below wr.heap.size wr W) (hk : RB W ok' kv (keyK x)) => insert_twice (HG.out.below hW) hk (keyK_ok x) (row := (j : Int)) (by omega) hl)
            have HST := Lib.hid (show stepE j x (runE L j) = runE L j from (if_neg hx).trans (if_pos hl))
            clear hl
            go_wp2_with fail
            refine wpT_begin2 (S := (fun wx => wx.cell? ⟨Bt, 0, none⟩ = some (.slice ao T.pages.length cap) ∧ wx.cell? ⟨Bt, 1, none⟩ = some (.int .i64 T.root) ∧ wx.cell? ⟨eb, eo + j, none⟩ = some (.int .i64 x) ∧ Below wr.heap.size wr wx)) [12] (by kernel_rfl) ?_ (fun Wd hHeld => ?_)
            · (try dsimp only)
              exact ⟨cell_dr k0, cell_dr k1, cell_dr d1, (Below.refl _ _).drew⟩
            have hbd := hHeld.2.2.2
            refine wpAnyT_take (i := 0) (oi := _) (v := ?_) rfl (by kernel_rfl) (by kernel_rfl) (by kernel_rfl) (by kernel_rfl) (fun _ _ _ h => h) (Or.inl ⟨by rfl, ?_⟩) (by assumption) ?_
            rotate_left
            · (intro w hSw; (try dsimp only at hSw); go_simp)
              all_goals (with_reducible rfl)
            (try simp only [List.getElem_toArray, List.getElem_cons_zero, List.getElem_cons_succ, Act.put, List.setIfInBounds_toArray, List.set_cons_zero, List.set_cons_succ])
            refine wpAnyT_pure (i := 1) (oi := _) (v := ?_) rfl (by kernel_rfl) (by kernel_rfl) (by kernel_rfl) (by kernel_rfl) (fun _ _ _ h => h) (Or.inl ⟨by rfl, ?_⟩) (fun _ => by assumption) ?_
            rotate_left
            · (intro w hSw; go_simp)
              all_goals (with_reducible rfl)
            (try simp only [List.getElem_toArray, List.getElem_cons_zero, List.getElem_cons_succ, Act.put, List.setIfInBounds_toArray, List.set_cons_zero, List.set_cons_succ])
            refine wpAnyT_pure (i := 2) (oi := _) (v := ?_) rfl (by kernel_rfl) (by kernel_rfl) (by kernel_rfl) (by kernel_rfl) (fun _ _ _ h => h) (Or.inl ⟨by rfl, ?_⟩) (fun _ => by assumption) ?_
            rotate_left
            · (intro w hSw; go_simp)
              all_goals (with_reducible rfl)
            (try simp only [List.getElem_toArray, List.getElem_cons_zero, List.getElem_cons_succ, Act.put, List.setIfInBounds_toArray, List.set_cons_zero, List.set_cons_succ])
            refine wpAnyT_pure (i := 3) (oi := _) (v := ?_) rfl (by kernel_rfl) (by kernel_rfl) (by kernel_rfl) (by kernel_rfl) (fun _ _ _ h => h) (Or.inl ⟨by rfl, ?_⟩) (fun _ => by assumption) ?_
            rotate_left
            · (intro w hSw; go_simp)
              all_goals (with_reducible rfl)
            (try simp only [List.getElem_toArray, List.getElem_cons_zero, List.getElem_cons_succ, Act.put, List.setIfInBounds_toArray, List.set_cons_zero, List.set_cons_succ])
            refine wpAnyT_take (i := 4) (oi := _) (v := ?_) rfl (by kernel_rfl) (by kernel_rfl) (by kernel_rfl) (by kernel_rfl) (fun _ _ _ h => h) (Or.inl ⟨by rfl, ?_⟩) (by assumption) ?_
            rotate_left
            · (intro w hSw; (try dsimp only at hSw); go_simp)
              all_goals (with_reducible rfl)
            (try simp only [List.getElem_toArray, List.getElem_cons_zero, List.getElem_cons_succ, Act.put, List.setIfInBounds_toArray, List.set_cons_zero, List.set_cons_succ])
            refine wpAnyT_pure (i := 6) (oi := _) (v := ?_) rfl (by kernel_rfl) (by kernel_rfl) (by kernel_rfl) (by kernel_rfl) (fun _ _ _ h => h) (Or.inl ⟨by rfl, ?_⟩) (fun _ => by assumption) ?_
            rotate_left
            · (intro w hSw; go_simp)
              all_goals (with_reducible rfl)
            (try simp only [List.getElem_toArray, List.getElem_cons_zero, List.getElem_cons_succ, Act.put, List.setIfInBounds_toArray, List.set_cons_zero, List.set_cons_succ])
            refine wpAnyT_ready (rs := [5, 11]) (by kernel_rfl) (by simp) ?_
            refine AllReadyT.cons rfl (fun K hK => ?_) (AllReadyT.cons rfl (fun K hK => ?_) AllReadyT.nil)
            · skip
              go_simp
              (go_at_call 30; refine (key_any x _ hRx).mono ?_; rintro e w5 ⟨ka, kc, rfl, hkr, hbc⟩; have hz5 := hbc.size; (try simp only [World.size_alloc] at hz5); (try replace hbx := (hbc.block _ (Array.getElem?_eq_some_iff.1 hbx).1).trans hbx))
              go_wp2_with fail
              refine hK.out _ _ (fun _ => ?_) (fun hHeld0 => ?_)
              · (try dsimp only)
                exact ⟨cell_bel hbc (hHeld.1), cell_bel hbc (hHeld.2.1), cell_bel hbc (hHeld.2.2.1), Below.trans (hHeld.2.2.2) (hbc.mono (hHeld.2.2.2).size)⟩
              have hHeld1 := hHeld0 (by kernel_rfl)
              clear hK K hHeld0
              have hb5 := hHeld1.2.2.2
              clear hHeld; have hHeld := hHeld1; clear hHeld1
              (try simp only [List.getElem_toArray, List.getElem_cons_zero, List.getElem_cons_succ, Act.put, List.setIfInBounds_toArray, List.set_cons_zero, List.set_cons_succ])
              refine wpAnyT_ready (rs := [7, 11]) (by kernel_rfl) (by simp) ?_
              refine AllReadyT.cons rfl (fun K hK => ?_) (AllReadyT.cons rfl (fun K hK => ?_) AllReadyT.nil)
              · skip
                go_simp
                (go_at_call 25; refine (HC.out _ _ _ hHeld.2.2.2 hkr).mono ?_; rintro e w6 ⟨rfl, hbc⟩; have hz6 := hbc.size; (try replace hbx := (hbc.block _ (Array.getElem?_eq_some_iff.1 hbx).1).trans hbx))
                go_wp2_with fail
                refine hK.out _ _ (fun _ => ?_) (fun hHeld0 => ?_)
                · (try dsimp only)
                  exact ⟨cell_bel hbc (hHeld.1), cell_bel hbc (hHeld.2.1), cell_bel hbc (hHeld.2.2.1), Below.trans (hHeld.2.2.2) (hbc.mono (hHeld.2.2.2).size)⟩
                have hHeld1 := hHeld0 (by kernel_rfl)
                clear hK K hHeld0
                have hb6 := hHeld1.2.2.2
                clear hHeld; have hHeld := hHeld1; clear hHeld1
                (try simp only [List.getElem_toArray, List.getElem_cons_zero, List.getElem_cons_succ, Act.put, List.setIfInBounds_toArray, List.set_cons_zero, List.set_cons_succ])
                refine wpAnyT_pure (i := 8) (oi := _) (v := ?_) rfl (by kernel_rfl) (by kernel_rfl) (by kernel_rfl) (by kernel_rfl) (fun _ _ _ h => h) (Or.inl ⟨by rfl, ?_⟩) (fun _ => by assumption) ?_
                rotate_left
                · (intro w hSw; go_simp)
                  all_goals (with_reducible rfl)
                (try simp only [List.getElem_toArray, List.getElem_cons_zero, List.getElem_cons_succ, Act.put, List.setIfInBounds_toArray, List.set_cons_zero, List.set_cons_succ])
                refine wpAnyT_pure (i := 9) (oi := _) (v := ?_) rfl (by kernel_rfl) (by kernel_rfl) (by kernel_rfl) (by kernel_rfl) (fun _ _ _ h => h) (Or.inl ⟨by rfl, ?_⟩) (fun _ => by assumption) ?_
                rotate_left
                · (intro w hSw; go_simp)
                  all_goals (with_reducible rfl)
                (try simp only [List.getElem_toArray, List.getElem_cons_zero, List.getElem_cons_succ, Act.put, List.setIfInBounds_toArray, List.set_cons_zero, List.set_cons_succ])
                refine wpAnyT_pure (i := 10) (oi := _) (v := ?_) rfl (by kernel_rfl) (by kernel_rfl) (by kernel_rfl) (by kernel_rfl) (fun _ _ _ h => h) (Or.inl ⟨by rfl, ?_⟩) (fun _ => by assumption) ?_
                rotate_left
                · (intro w hSw; go_simp)
                  all_goals (with_reducible rfl)
                (try simp only [List.getElem_toArray, List.getElem_cons_zero, List.getElem_cons_succ, Act.put, List.setIfInBounds_toArray, List.set_cons_zero, List.set_cons_succ])
                refine wpAnyT_ready (rs := [11]) (by kernel_rfl) (by simp) ?_
                refine AllReadyT.cons rfl (fun K hK => ?_) AllReadyT.nil
                go_simp
                refine hK.out _ _ (fun _ => ?_) (fun hHeld0 => ?_)
                · (try dsimp only)
                  (first | (with_reducible exact hHeld) | (with_reducible exact ⟨cell_al _ (hHeld.1), cell_al _ (hHeld.2.1), cell_al _ (hHeld.2.2.1), Below.alloc (hHeld.2.2.2) (hHeld.2.2.2).size _⟩))
                have hHeld1 := hHeld0 (by kernel_rfl)
                clear hK K hHeld0
                (have hbx := alloc_of hHeld1.2.2.2); (try replace hkr := hkr.below (al_of hHeld1.2.2.2))
                clear hHeld; have hHeld := hHeld1; clear hHeld1
                (try simp only [List.getElem_toArray, List.getElem_cons_zero, List.getElem_cons_succ, Act.put, List.setIfInBounds_toArray, List.set_cons_zero, List.set_cons_succ])
                refine wpAnyT_ready (rs := [12]) (by kernel_rfl) (by simp) ?_
                refine AllReadyT.cons rfl (fun K hK => ?_) AllReadyT.nil
                obtain ⟨b0, b1, bf0, bf1⟩ := box2 hbx
                go_simp
                refine hK.out _ _ (noneB_off (by kernel_rfl)) (fun _ => ?_)
                clear hK K
                (try simp only [List.getElem_toArray, List.getElem_cons_zero, List.getElem_cons_succ, Act.put, List.setIfInBounds_toArray, List.set_cons_zero, List.set_cons_succ])
                refine wpAnyT_ready (rs := [13]) (by kernel_rfl) (by simp) ?_
                refine AllReadyT.cons rfl (fun K hK => ?_) AllReadyT.nil
                go_simp
                refine hK.out _ _ (noneB_off (by kernel_rfl)) (fun _ => ?_)
                clear hK K
                (try simp only [List.getElem_toArray, List.getElem_cons_zero, List.getElem_cons_succ, Act.put, List.setIfInBounds_toArray, List.set_cons_zero, List.set_cons_succ])
                refine wpAnyT_done (by kernel_rfl) ?_ _
                (try clear b0 b1 bf0 bf1)
                first
                  | refine gen_two (P := fun w => (_ : Exit → Act → World → Prop) Exit.normal _ w) hbx (fun W9 hx9 hz9 hf9 hB9 => ?_)
                  | refine gen_new (P := fun w => (_ : Exit → Act → World → Prop) Exit.normal _ w) (fun W9 hx9 hz9 hf9 hB9 => ?_)
                have hb9 : Below wr.heap.size wr W9 := hB9 _ _ (by have := hb6.size; have := hb5.size; have := hbd.size; omega) hb6
                have hxt9 := (hb9.block Bt hXlt).trans HX.out
                have hxr9 := (hb9.block w.heap.size (by omega)).trans HXR.out
                obtain ⟨z0, z1, zf0, zf1⟩ := box2 hxt9
                obtain ⟨x90, x91, -⟩ := box2 hx9
                have hg9 : GT (w.heap.size + 1) (j + 1) W9 (.agg #[.slice ao T.pages.length cap, .int .i64 T.root]) T (stepE j x (runE L j)) := by
                  rw [HST.out]
                  exact (HG.out.below hb9).up (by omega) (by omega)
                have HG9 := Lib.hid hg9
                have HB9 := Lib.hid hb9
                have HX9 := Lib.hid (And.intro hxt9 hxr9)
                clear hx9 hz9 hf9 hB9 hb9 hg9 hxt9 hxr9 hHeld hb5 hb6 hbd hbc hz5 hz6 hkr
                (try clear hbx)
                go_wp2_with fail
                go_roundw
                case rel => exact ⟨j + 1, ao, cap, T, by omega, by omega, by go_num, HX9.out.1, HX9.out.2, by rw [HRUN.out]; exact HG9.out, HB.out.trans (HB9.out.mono hsz)⟩
                case measure => simp [intOf]; omega
              · skip
                go_simp
                refine hK.out _ _ (fun _ => ?_) (fun hHeld0 => ?_)
                · (try dsimp only)
                  (first | (with_reducible exact hHeld) | (with_reducible exact ⟨cell_al _ (hHeld.1), cell_al _ (hHeld.2.1), cell_al _ (hHeld.2.2.1), Below.alloc (hHeld.2.2.2) (hHeld.2.2.2).size _⟩))
                have hHeld1 := hHeld0 (by kernel_rfl)
                clear hK K hHeld0
                (have hbx := alloc_of hHeld1.2.2.2); (try replace hkr := hkr.below (al_of hHeld1.2.2.2))
                clear hHeld; have hHeld := hHeld1; clear hHeld1
                (try simp only [List.getElem_toArray, List.getElem_cons_zero, List.getElem_cons_succ, Act.put, List.setIfInBounds_toArray, List.set_cons_zero, List.set_cons_succ])
                refine wpAnyT_ready (rs := [7]) (by kernel_rfl) (by simp) ?_
                refine AllReadyT.cons rfl (fun K hK => ?_) AllReadyT.nil
                go_simp
                (go_at_call 25; refine (HC.out _ _ _ hHeld.2.2.2 hkr).mono ?_; rintro e w6 ⟨rfl, hbc⟩; have hz6 := hbc.size; (try replace hbx := (hbc.block _ (Array.getElem?_eq_some_iff.1 hbx).1).trans hbx))
                go_wp2_with fail
                refine hK.out _ _ (fun _ => ?_) (fun hHeld0 => ?_)
                · (try dsimp only)
                  exact ⟨cell_bel hbc (hHeld.1), cell_bel hbc (hHeld.2.1), cell_bel hbc (hHeld.2.2.1), Below.trans (hHeld.2.2.2) (hbc.mono (hHeld.2.2.2).size)⟩
                have hHeld1 := hHeld0 (by kernel_rfl)
                clear hK K hHeld0
                have hb6 := hHeld1.2.2.2
                clear hHeld; have hHeld := hHeld1; clear hHeld1
                (try simp only [List.getElem_toArray, List.getElem_cons_zero, List.getElem_cons_succ, Act.put, List.setIfInBounds_toArray, List.set_cons_zero, List.set_cons_succ])
                refine wpAnyT_pure (i := 8) (oi := _) (v := ?_) rfl (by kernel_rfl) (by kernel_rfl) (by kernel_rfl) (by kernel_rfl) (fun _ _ _ h => h) (Or.inl ⟨by rfl, ?_⟩) (fun _ => by assumption) ?_
                rotate_left
                · (intro w hSw; go_simp)
                  all_goals (with_reducible rfl)
                (try simp only [List.getElem_toArray, List.getElem_cons_zero, List.getElem_cons_succ, Act.put, List.setIfInBounds_toArray, List.set_cons_zero, List.set_cons_succ])
                refine wpAnyT_pure (i := 9) (oi := _) (v := ?_) rfl (by kernel_rfl) (by kernel_rfl) (by kernel_rfl) (by kernel_rfl) (fun _ _ _ h => h) (Or.inl ⟨by rfl, ?_⟩) (fun _ => by assumption) ?_
                rotate_left
                · (intro w hSw; go_simp)
                  all_goals (with_reducible rfl)
                (try simp only [List.getElem_toArray, List.getElem_cons_zero, List.getElem_cons_succ, Act.put, List.setIfInBounds_toArray, List.set_cons_zero, List.set_cons_succ])
                refine wpAnyT_pure (i := 10) (oi := _) (v := ?_) rfl (by kernel_rfl) (by kernel_rfl) (by kernel_rfl) (by kernel_rfl) (fun _ _ _ h => h) (Or.inl ⟨by rfl, ?_⟩) (fun _ => by assumption) ?_
                rotate_left
                · (intro w hSw; go_simp)
                  all_goals (with_reducible rfl)
                (try simp only [List.getElem_toArray, List.getElem_cons_zero, List.getElem_cons_succ, Act.put, List.setIfInBounds_toArray, List.set_cons_zero, List.set_cons_succ])
                refine wpAnyT_ready (rs := [12]) (by kernel_rfl) (by simp) ?_
                refine AllReadyT.cons rfl (fun K hK => ?_) AllReadyT.nil
                obtain ⟨b0, b1, bf0, bf1⟩ := box2 hbx
                go_simp
                refine hK.out _ _ (noneB_off (by kernel_rfl)) (fun _ => ?_)
                clear hK K
                (try simp only [List.getElem_toArray, List.getElem_cons_zero, List.getElem_cons_succ, Act.put, List.setIfInBounds_toArray, List.set_cons_zero, List.set_cons_succ])
                refine wpAnyT_ready (rs := [13]) (by kernel_rfl) (by simp) ?_
                refine AllReadyT.cons rfl (fun K hK => ?_) AllReadyT.nil
                go_simp
                refine hK.out _ _ (noneB_off (by kernel_rfl)) (fun _ => ?_)
                clear hK K
                (try simp only [List.getElem_toArray, List.getElem_cons_zero, List.getElem_cons_succ, Act.put, List.setIfInBounds_toArray, List.set_cons_zero, List.set_cons_succ])
                refine wpAnyT_done (by kernel_rfl) ?_ _
                (try clear b0 b1 bf0 bf1)
                first
                  | refine gen_two (P := fun w => (_ : Exit → Act → World → Prop) Exit.normal _ w) hbx (fun W9 hx9 hz9 hf9 hB9 => ?_)
                  | refine gen_new (P := fun w => (_ : Exit → Act → World → Prop) Exit.normal _ w) (fun W9 hx9 hz9 hf9 hB9 => ?_)
                have hb9 : Below wr.heap.size wr W9 := hB9 _ _ (by have := hb6.size; have := hb5.size; have := hbd.size; omega) hb6
                have hxt9 := (hb9.block Bt hXlt).trans HX.out
                have hxr9 := (hb9.block w.heap.size (by omega)).trans HXR.out
                obtain ⟨z0, z1, zf0, zf1⟩ := box2 hxt9
                obtain ⟨x90, x91, -⟩ := box2 hx9
                have hg9 : GT (w.heap.size + 1) (j + 1) W9 (.agg #[.slice ao T.pages.length cap, .int .i64 T.root]) T (stepE j x (runE L j)) := by
                  rw [HST.out]
                  exact (HG.out.below hb9).up (by omega) (by omega)
                have HG9 := Lib.hid hg9
                have HB9 := Lib.hid hb9
                have HX9 := Lib.hid (And.intro hxt9 hxr9)
                clear hx9 hz9 hf9 hB9 hb9 hg9 hxt9 hxr9 hHeld hb5 hb6 hbd hbc hz5 hz6 hkr
                (try clear hbx)
                go_wp2_with fail
                go_roundw
                case rel => exact ⟨j + 1, ao, cap, T, by omega, by omega, by go_num, HX9.out.1, HX9.out.2, by rw [HRUN.out]; exact HG9.out, HB.out.trans (HB9.out.mono hsz)⟩
                case measure => simp [intOf]; omega
            · skip
              go_simp
              refine hK.out _ _ (fun _ => ?_) (fun hHeld0 => ?_)
              · (try dsimp only)
                (first | (with_reducible exact hHeld) | (with_reducible exact ⟨cell_al _ (hHeld.1), cell_al _ (hHeld.2.1), cell_al _ (hHeld.2.2.1), Below.alloc (hHeld.2.2.2) (hHeld.2.2.2).size _⟩))
              have hHeld1 := hHeld0 (by kernel_rfl)
              clear hK K hHeld0
              (have hbx := alloc_of hHeld1.2.2.2); (try replace hkr := hkr.below (al_of hHeld1.2.2.2))
              clear hHeld; have hHeld := hHeld1; clear hHeld1
              (try simp only [List.getElem_toArray, List.getElem_cons_zero, List.getElem_cons_succ, Act.put, List.setIfInBounds_toArray, List.set_cons_zero, List.set_cons_succ])
              refine wpAnyT_ready (rs := [5]) (by kernel_rfl) (by simp) ?_
              refine AllReadyT.cons rfl (fun K hK => ?_) AllReadyT.nil
              go_simp
              (go_at_call 30; refine (key_any x _ hRx).mono ?_; rintro e w5 ⟨ka, kc, rfl, hkr, hbc⟩; have hz5 := hbc.size; (try simp only [World.size_alloc] at hz5); (try replace hbx := (hbc.block _ (Array.getElem?_eq_some_iff.1 hbx).1).trans hbx))
              go_wp2_with fail
              refine hK.out _ _ (fun _ => ?_) (fun hHeld0 => ?_)
              · (try dsimp only)
                exact ⟨cell_bel hbc (hHeld.1), cell_bel hbc (hHeld.2.1), cell_bel hbc (hHeld.2.2.1), Below.trans (hHeld.2.2.2) (hbc.mono (hHeld.2.2.2).size)⟩
              have hHeld1 := hHeld0 (by kernel_rfl)
              clear hK K hHeld0
              have hb5 := hHeld1.2.2.2
              clear hHeld; have hHeld := hHeld1; clear hHeld1
              (try simp only [List.getElem_toArray, List.getElem_cons_zero, List.getElem_cons_succ, Act.put, List.setIfInBounds_toArray, List.set_cons_zero, List.set_cons_succ])
              refine wpAnyT_ready (rs := [7]) (by kernel_rfl) (by simp) ?_
              refine AllReadyT.cons rfl (fun K hK => ?_) AllReadyT.nil
              go_simp
              (go_at_call 25; refine (HC.out _ _ _ hHeld.2.2.2 hkr).mono ?_; rintro e w6 ⟨rfl, hbc⟩; have hz6 := hbc.size; (try replace hbx := (hbc.block _ (Array.getElem?_eq_some_iff.1 hbx).1).trans hbx))
              go_wp2_with fail
              refine hK.out _ _ (fun _ => ?_) (fun hHeld0 => ?_)
              · (try dsimp only)
                exact ⟨cell_bel hbc (hHeld.1), cell_bel hbc (hHeld.2.1), cell_bel hbc (hHeld.2.2.1), Below.trans (hHeld.2.2.2) (hbc.mono (hHeld.2.2.2).size)⟩
              have hHeld1 := hHeld0 (by kernel_rfl)
              clear hK K hHeld0
              have hb6 := hHeld1.2.2.2
              clear hHeld; have hHeld := hHeld1; clear hHeld1
              (try simp only [List.getElem_toArray, List.getElem_cons_zero, List.getElem_cons_succ, Act.put, List.setIfInBounds_toArray, List.set_cons_zero, List.set_cons_succ])
              refine wpAnyT_pure (i := 8) (oi := _) (v := ?_) rfl (by kernel_rfl) (by kernel_rfl) (by kernel_rfl) (by kernel_rfl) (fun _ _ _ h => h) (Or.inl ⟨by rfl, ?_⟩) (fun _ => by assumption) ?_
              rotate_left
              · (intro w hSw; go_simp)
                all_goals (with_reducible rfl)
              (try simp only [List.getElem_toArray, List.getElem_cons_zero, List.getElem_cons_succ, Act.put, List.setIfInBounds_toArray, List.set_cons_zero, List.set_cons_succ])
              refine wpAnyT_pure (i := 9) (oi := _) (v := ?_) rfl (by kernel_rfl) (by kernel_rfl) (by kernel_rfl) (by kernel_rfl) (fun _ _ _ h => h) (Or.inl ⟨by rfl, ?_⟩) (fun _ => by assumption) ?_
              rotate_left
              · (intro w hSw; go_simp)
                all_goals (with_reducible rfl)
              (try simp only [List.getElem_toArray, List.getElem_cons_zero, List.getElem_cons_succ, Act.put, List.setIfInBounds_toArray, List.set_cons_zero, List.set_cons_succ])
              refine wpAnyT_pure (i := 10) (oi := _) (v := ?_) rfl (by kernel_rfl) (by kernel_rfl) (by kernel_rfl) (by kernel_rfl) (fun _ _ _ h => h) (Or.inl ⟨by rfl, ?_⟩) (fun _ => by assumption) ?_
              rotate_left
              · (intro w hSw; go_simp)
                all_goals (with_reducible rfl)
              (try simp only [List.getElem_toArray, List.getElem_cons_zero, List.getElem_cons_succ, Act.put, List.setIfInBounds_toArray, List.set_cons_zero, List.set_cons_succ])
              refine wpAnyT_ready (rs := [12]) (by kernel_rfl) (by simp) ?_
              refine AllReadyT.cons rfl (fun K hK => ?_) AllReadyT.nil
              obtain ⟨b0, b1, bf0, bf1⟩ := box2 hbx
              go_simp
              refine hK.out _ _ (noneB_off (by kernel_rfl)) (fun _ => ?_)
              clear hK K
              (try simp only [List.getElem_toArray, List.getElem_cons_zero, List.getElem_cons_succ, Act.put, List.setIfInBounds_toArray, List.set_cons_zero, List.set_cons_succ])
              refine wpAnyT_ready (rs := [13]) (by kernel_rfl) (by simp) ?_
              refine AllReadyT.cons rfl (fun K hK => ?_) AllReadyT.nil
              go_simp
              refine hK.out _ _ (noneB_off (by kernel_rfl)) (fun _ => ?_)
              clear hK K
              (try simp only [List.getElem_toArray, List.getElem_cons_zero, List.getElem_cons_succ, Act.put, List.setIfInBounds_toArray, List.set_cons_zero, List.set_cons_succ])
              refine wpAnyT_done (by kernel_rfl) ?_ _
              (try clear b0 b1 bf0 bf1)
              first
                | refine gen_two (P := fun w => (_ : Exit → Act → World → Prop) Exit.normal _ w) hbx (fun W9 hx9 hz9 hf9 hB9 => ?_)
                | refine gen_new (P := fun w => (_ : Exit → Act → World → Prop) Exit.normal _ w) (fun W9 hx9 hz9 hf9 hB9 => ?_)
              have hb9 : Below wr.heap.size wr W9 := hB9 _ _ (by have := hb6.size; have := hb5.size; have := hbd.size; omega) hb6
              have hxt9 := (hb9.block Bt hXlt).trans HX.out
              have hxr9 := (hb9.block w.heap.size (by omega)).trans HXR.out
              obtain ⟨z0, z1, zf0, zf1⟩ := box2 hxt9
              obtain ⟨x90, x91, -⟩ := box2 hx9
              have hg9 : GT (w.heap.size + 1) (j + 1) W9 (.agg #[.slice ao T.pages.length cap, .int .i64 T.root]) T (stepE j x (runE L j)) := by
                rw [HST.out]
                exact (HG.out.below hb9).up (by omega) (by omega)
              have HG9 := Lib.hid hg9
              have HB9 := Lib.hid hb9
              have HX9 := Lib.hid (And.intro hxt9 hxr9)
              clear hx9 hz9 hf9 hB9 hb9 hg9 hxt9 hxr9 hHeld hb5 hb6 hbd hbc hz5 hz6 hkr
              (try clear hbx)
              go_wp2_with fail
              go_roundw
              case rel => exact ⟨j + 1, ao, cap, T, by omega, by omega, by go_num, HX9.out.1, HX9.out.2, by rw [HRUN.out]; exact HG9.out, HB.out.trans (HB9.out.mono hsz)⟩
              case measure => simp [intOf]; omega
          · skip
            have HC := Lib.hid (fun (W : World) (kv : Value) (ok' : Nat → Prop) (hW : Below wr.heap.size wr W) (hk : RB W ok' kv (keyK x)) => insert_g (HG.out.below hW) (by omega) hk (keyK_ok x) (row := (j : Int)) (by omega) (by simpa using hl))
            have HST := Lib.hid (show stepE j x (runE L j) = insE (keyK x) j (runE L j) from (if_neg hx).trans (if_neg hl))
            clear hl
            go_wp2_with fail
            refine wpT_begin2 (S := (fun wx => wx.cell? ⟨Bt, 0, none⟩ = some (.slice ao T.pages.length cap) ∧ wx.cell? ⟨Bt, 1, none⟩ = some (.int .i64 T.root) ∧ wx.cell? ⟨eb, eo + j, none⟩ = some (.int .i64 x) ∧ Below wr.heap.size wr wx)) [12] (by kernel_rfl) ?_ (fun Wd hHeld => ?_)
            · (try dsimp only)
              exact ⟨cell_dr k0, cell_dr k1, cell_dr d1, (Below.refl _ _).drew⟩
            have hbd := hHeld.2.2.2
            refine wpAnyT_take (i := 0) (oi := _) (v := ?_) rfl (by kernel_rfl) (by kernel_rfl) (by kernel_rfl) (by kernel_rfl) (fun _ _ _ h => h) (Or.inl ⟨by rfl, ?_⟩) (by assumption) ?_
            rotate_left
            · (intro w hSw; (try dsimp only at hSw); go_simp)
              all_goals (with_reducible rfl)
            (try simp only [List.getElem_toArray, List.getElem_cons_zero, List.getElem_cons_succ, Act.put, List.setIfInBounds_toArray, List.set_cons_zero, List.set_cons_succ])
            refine wpAnyT_pure (i := 1) (oi := _) (v := ?_) rfl (by kernel_rfl) (by kernel_rfl) (by kernel_rfl) (by kernel_rfl) (fun _ _ _ h => h) (Or.inl ⟨by rfl, ?_⟩) (fun _ => by assumption) ?_
            rotate_left
            · (intro w hSw; go_simp)
              all_goals (with_reducible rfl)
            (try simp only [List.getElem_toArray, List.getElem_cons_zero, List.getElem_cons_succ, Act.put, List.setIfInBounds_toArray, List.set_cons_zero, List.set_cons_succ])
            refine wpAnyT_pure (i := 2) (oi := _) (v := ?_) rfl (by kernel_rfl) (by kernel_rfl) (by kernel_rfl) (by kernel_rfl) (fun _ _ _ h => h) (Or.inl ⟨by rfl, ?_⟩) (fun _ => by assumption) ?_
            rotate_left
            · (intro w hSw; go_simp)
              all_goals (with_reducible rfl)
            (try simp only [List.getElem_toArray, List.getElem_cons_zero, List.getElem_cons_succ, Act.put, List.setIfInBounds_toArray, List.set_cons_zero, List.set_cons_succ])
            refine wpAnyT_pure (i := 3) (oi := _) (v := ?_) rfl (by kernel_rfl) (by kernel_rfl) (by kernel_rfl) (by kernel_rfl) (fun _ _ _ h => h) (Or.inl ⟨by rfl, ?_⟩) (fun _ => by assumption) ?_
            rotate_left
            · (intro w hSw; go_simp)
              all_goals (with_reducible rfl)
            (try simp only [List.getElem_toArray, List.getElem_cons_zero, List.getElem_cons_succ, Act.put, List.setIfInBounds_toArray, List.set_cons_zero, List.set_cons_succ])
            refine wpAnyT_take (i := 4) (oi := _) (v := ?_) rfl (by kernel_rfl) (by kernel_rfl) (by kernel_rfl) (by kernel_rfl) (fun _ _ _ h => h) (Or.inl ⟨by rfl, ?_⟩) (by assumption) ?_
            rotate_left
            · (intro w hSw; (try dsimp only at hSw); go_simp)
              all_goals (with_reducible rfl)
            (try simp only [List.getElem_toArray, List.getElem_cons_zero, List.getElem_cons_succ, Act.put, List.setIfInBounds_toArray, List.set_cons_zero, List.set_cons_succ])
            refine wpAnyT_pure (i := 6) (oi := _) (v := ?_) rfl (by kernel_rfl) (by kernel_rfl) (by kernel_rfl) (by kernel_rfl) (fun _ _ _ h => h) (Or.inl ⟨by rfl, ?_⟩) (fun _ => by assumption) ?_
            rotate_left
            · (intro w hSw; go_simp)
              all_goals (with_reducible rfl)
            (try simp only [List.getElem_toArray, List.getElem_cons_zero, List.getElem_cons_succ, Act.put, List.setIfInBounds_toArray, List.set_cons_zero, List.set_cons_succ])
            refine wpAnyT_ready (rs := [5, 11]) (by kernel_rfl) (by simp) ?_
            refine AllReadyT.cons rfl (fun K hK => ?_) (AllReadyT.cons rfl (fun K hK => ?_) AllReadyT.nil)
            · skip
              go_simp
              (go_at_call 30; refine (key_any x _ hRx).mono ?_; rintro e w5 ⟨ka, kc, rfl, hkr, hbc⟩; have hz5 := hbc.size; (try simp only [World.size_alloc] at hz5); (try replace hbx := (hbc.block _ (Array.getElem?_eq_some_iff.1 hbx).1).trans hbx))
              go_wp2_with fail
              refine hK.out _ _ (fun _ => ?_) (fun hHeld0 => ?_)
              · (try dsimp only)
                exact ⟨cell_bel hbc (hHeld.1), cell_bel hbc (hHeld.2.1), cell_bel hbc (hHeld.2.2.1), Below.trans (hHeld.2.2.2) (hbc.mono (hHeld.2.2.2).size)⟩
              have hHeld1 := hHeld0 (by kernel_rfl)
              clear hK K hHeld0
              have hb5 := hHeld1.2.2.2
              clear hHeld; have hHeld := hHeld1; clear hHeld1
              (try simp only [List.getElem_toArray, List.getElem_cons_zero, List.getElem_cons_succ, Act.put, List.setIfInBounds_toArray, List.set_cons_zero, List.set_cons_succ])
              refine wpAnyT_ready (rs := [7, 11]) (by kernel_rfl) (by simp) ?_
              refine AllReadyT.cons rfl (fun K hK => ?_) (AllReadyT.cons rfl (fun K hK => ?_) AllReadyT.nil)
              · skip
                go_simp
                (go_at_call 25; refine (HC.out _ _ _ hHeld.2.2.2 hkr).mono ?_; rintro e w6 ⟨ao6, cap6, T6, rfl, hg6, hbc⟩; have hz6 := hbc.size; (try replace hbx := (hbc.block _ (Array.getElem?_eq_some_iff.1 hbx).1).trans hbx))
                go_wp2_with fail
                refine hK.out _ _ (fun _ => ?_) (fun hHeld0 => ?_)
                · (try dsimp only)
                  exact ⟨cell_bel hbc (hHeld.1), cell_bel hbc (hHeld.2.1), cell_bel hbc (hHeld.2.2.1), Below.trans (hHeld.2.2.2) (hbc.mono (hHeld.2.2.2).size)⟩
                have hHeld1 := hHeld0 (by kernel_rfl)
                clear hK K hHeld0
                have hb6 := hHeld1.2.2.2
                clear hHeld; have hHeld := hHeld1; clear hHeld1
                (try simp only [List.getElem_toArray, List.getElem_cons_zero, List.getElem_cons_succ, Act.put, List.setIfInBounds_toArray, List.set_cons_zero, List.set_cons_succ])
                refine wpAnyT_pure (i := 8) (oi := _) (v := ?_) rfl (by kernel_rfl) (by kernel_rfl) (by kernel_rfl) (by kernel_rfl) (fun _ _ _ h => h) (Or.inl ⟨by rfl, ?_⟩) (fun _ => by assumption) ?_
                rotate_left
                · (intro w hSw; go_simp)
                  all_goals (with_reducible rfl)
                (try simp only [List.getElem_toArray, List.getElem_cons_zero, List.getElem_cons_succ, Act.put, List.setIfInBounds_toArray, List.set_cons_zero, List.set_cons_succ])
                refine wpAnyT_pure (i := 9) (oi := _) (v := ?_) rfl (by kernel_rfl) (by kernel_rfl) (by kernel_rfl) (by kernel_rfl) (fun _ _ _ h => h) (Or.inl ⟨by rfl, ?_⟩) (fun _ => by assumption) ?_
                rotate_left
                · (intro w hSw; go_simp)
                  all_goals (with_reducible rfl)
                (try simp only [List.getElem_toArray, List.getElem_cons_zero, List.getElem_cons_succ, Act.put, List.setIfInBounds_toArray, List.set_cons_zero, List.set_cons_succ])
                refine wpAnyT_pure (i := 10) (oi := _) (v := ?_) rfl (by kernel_rfl) (by kernel_rfl) (by kernel_rfl) (by kernel_rfl) (fun _ _ _ h => h) (Or.inl ⟨by rfl, ?_⟩) (fun _ => by assumption) ?_
                rotate_left
                · (intro w hSw; go_simp)
                  all_goals (with_reducible rfl)
                (try simp only [List.getElem_toArray, List.getElem_cons_zero, List.getElem_cons_succ, Act.put, List.setIfInBounds_toArray, List.set_cons_zero, List.set_cons_succ])
                refine wpAnyT_ready (rs := [11]) (by kernel_rfl) (by simp) ?_
                refine AllReadyT.cons rfl (fun K hK => ?_) AllReadyT.nil
                go_simp
                refine hK.out _ _ (fun _ => ?_) (fun hHeld0 => ?_)
                · (try dsimp only)
                  (first | (with_reducible exact hHeld) | (with_reducible exact ⟨cell_al _ (hHeld.1), cell_al _ (hHeld.2.1), cell_al _ (hHeld.2.2.1), Below.alloc (hHeld.2.2.2) (hHeld.2.2.2).size _⟩))
                have hHeld1 := hHeld0 (by kernel_rfl)
                clear hK K hHeld0
                (have hbx := alloc_of hHeld1.2.2.2); (try replace hkr := hkr.below (al_of hHeld1.2.2.2))
                clear hHeld; have hHeld := hHeld1; clear hHeld1
                (try simp only [List.getElem_toArray, List.getElem_cons_zero, List.getElem_cons_succ, Act.put, List.setIfInBounds_toArray, List.set_cons_zero, List.set_cons_succ])
                refine wpAnyT_ready (rs := [12]) (by kernel_rfl) (by simp) ?_
                refine AllReadyT.cons rfl (fun K hK => ?_) AllReadyT.nil
                obtain ⟨b0, b1, bf0, bf1⟩ := box2 hbx
                go_simp
                refine hK.out _ _ (noneB_off (by kernel_rfl)) (fun _ => ?_)
                clear hK K
                (try simp only [List.getElem_toArray, List.getElem_cons_zero, List.getElem_cons_succ, Act.put, List.setIfInBounds_toArray, List.set_cons_zero, List.set_cons_succ])
                refine wpAnyT_ready (rs := [13]) (by kernel_rfl) (by simp) ?_
                refine AllReadyT.cons rfl (fun K hK => ?_) AllReadyT.nil
                go_simp
                refine hK.out _ _ (noneB_off (by kernel_rfl)) (fun _ => ?_)
                clear hK K
                (try simp only [List.getElem_toArray, List.getElem_cons_zero, List.getElem_cons_succ, Act.put, List.setIfInBounds_toArray, List.set_cons_zero, List.set_cons_succ])
                refine wpAnyT_done (by kernel_rfl) ?_ _
                (try clear b0 b1 bf0 bf1)
                first
                  | refine gen_two (P := fun w => (_ : Exit → Act → World → Prop) Exit.normal _ w) hbx (fun W9 hx9 hz9 hf9 hB9 => ?_)
                  | refine gen_new (P := fun w => (_ : Exit → Act → World → Prop) Exit.normal _ w) (fun W9 hx9 hz9 hf9 hB9 => ?_)
                have hb9 : Below wr.heap.size wr W9 := hB9 _ _ (by have := hb6.size; have := hb5.size; have := hbd.size; omega) hb6
                have hxt9 := (hb9.block Bt hXlt).trans HX.out
                have hxr9 := (hb9.block w.heap.size (by omega)).trans HXR.out
                obtain ⟨z0, z1, zf0, zf1⟩ := box2 hxt9
                obtain ⟨x90, x91, -⟩ := box2 hx9
                have hg9 : ∀ W : World, (∀ b, b ≠ Bt → W.heap[b]? = W9.heap[b]?) → W9.heap.size ≤ W.heap.size → GT (w.heap.size + 1) (j + 1) W (.agg #[.slice ao6 T6.pages.length cap6, .int .i64 T6.root]) T6 (stepE j x (runE L j)) := fun W hW hz => by
                  have hsz5 := hb5.size
                  have hsz6 := hz6
                  (try simp only [World.size_alloc] at hsz6)
                  have q := hg6.land (W := W) (B' := w.heap.size + 1) (by (try simp only [World.size_alloc]); omega) (fun b h1 h2 => (hW b (by (try simp only [World.size_alloc] at h1); omega)).trans (hf9 b (by (try simp only [World.size_alloc] at h1); omega))) (by omega)
                  rw [HST.out]
                  exact q.up (by omega) (by omega)
                have HG9 := Lib.hid hg9
                have HB9 := Lib.hid hb9
                have HX9 := Lib.hid (And.intro hxt9 hxr9)
                clear hx9 hz9 hf9 hB9 hb9 hg9 hxt9 hxr9 hHeld hb5 hb6 hbd hg6 hbc hz5 hz6 hkr
                (try clear hbx)
                go_wp2_with fail
                go_roundw
                case rel => exact ⟨j + 1, ao6, cap6, T6, by omega, by omega, by go_num, two_heap HX9.out.1, (two_far (by omega)).trans HX9.out.2, by rw [HRUN.out]; exact HG9.out _ (fun b hb => two_far hb) (by simp), ((HB.out.trans (HB9.out.mono hsz)).setCell (p := ⟨Bt, 0, none⟩) (by show w.heap.size ≤ Bt; omega) _).setCell (p := ⟨Bt, 1, none⟩) (by show w.heap.size ≤ Bt; omega) _⟩
                case measure => simp [intOf]; omega
              · skip
                go_simp
                refine hK.out _ _ (fun _ => ?_) (fun hHeld0 => ?_)
                · (try dsimp only)
                  (first | (with_reducible exact hHeld) | (with_reducible exact ⟨cell_al _ (hHeld.1), cell_al _ (hHeld.2.1), cell_al _ (hHeld.2.2.1), Below.alloc (hHeld.2.2.2) (hHeld.2.2.2).size _⟩))
                have hHeld1 := hHeld0 (by kernel_rfl)
                clear hK K hHeld0
                (have hbx := alloc_of hHeld1.2.2.2); (try replace hkr := hkr.below (al_of hHeld1.2.2.2))
                clear hHeld; have hHeld := hHeld1; clear hHeld1
                (try simp only [List.getElem_toArray, List.getElem_cons_zero, List.getElem_cons_succ, Act.put, List.setIfInBounds_toArray, List.set_cons_zero, List.set_cons_succ])
                refine wpAnyT_ready (rs := [7]) (by kernel_rfl) (by simp) ?_
                refine AllReadyT.cons rfl (fun K hK => ?_) AllReadyT.nil
                go_simp
                (go_at_call 25; refine (HC.out _ _ _ hHeld.2.2.2 hkr).mono ?_; rintro e w6 ⟨ao6, cap6, T6, rfl, hg6, hbc⟩; have hz6 := hbc.size; (try replace hbx := (hbc.block _ (Array.getElem?_eq_some_iff.1 hbx).1).trans hbx))
                go_wp2_with fail
                refine hK.out _ _ (fun _ => ?_) (fun hHeld0 => ?_)
                · (try dsimp only)
                  exact ⟨cell_bel hbc (hHeld.1), cell_bel hbc (hHeld.2.1), cell_bel hbc (hHeld.2.2.1), Below.trans (hHeld.2.2.2) (hbc.mono (hHeld.2.2.2).size)⟩
                have hHeld1 := hHeld0 (by kernel_rfl)
                clear hK K hHeld0
                have hb6 := hHeld1.2.2.2
                clear hHeld; have hHeld := hHeld1; clear hHeld1
                (try simp only [List.getElem_toArray, List.getElem_cons_zero, List.getElem_cons_succ, Act.put, List.setIfInBounds_toArray, List.set_cons_zero, List.set_cons_succ])
                refine wpAnyT_pure (i := 8) (oi := _) (v := ?_) rfl (by kernel_rfl) (by kernel_rfl) (by kernel_rfl) (by kernel_rfl) (fun _ _ _ h => h) (Or.inl ⟨by rfl, ?_⟩) (fun _ => by assumption) ?_
                rotate_left
                · (intro w hSw; go_simp)
                  all_goals (with_reducible rfl)
                (try simp only [List.getElem_toArray, List.getElem_cons_zero, List.getElem_cons_succ, Act.put, List.setIfInBounds_toArray, List.set_cons_zero, List.set_cons_succ])
                refine wpAnyT_pure (i := 9) (oi := _) (v := ?_) rfl (by kernel_rfl) (by kernel_rfl) (by kernel_rfl) (by kernel_rfl) (fun _ _ _ h => h) (Or.inl ⟨by rfl, ?_⟩) (fun _ => by assumption) ?_
                rotate_left
                · (intro w hSw; go_simp)
                  all_goals (with_reducible rfl)
                (try simp only [List.getElem_toArray, List.getElem_cons_zero, List.getElem_cons_succ, Act.put, List.setIfInBounds_toArray, List.set_cons_zero, List.set_cons_succ])
                refine wpAnyT_pure (i := 10) (oi := _) (v := ?_) rfl (by kernel_rfl) (by kernel_rfl) (by kernel_rfl) (by kernel_rfl) (fun _ _ _ h => h) (Or.inl ⟨by rfl, ?_⟩) (fun _ => by assumption) ?_
                rotate_left
                · (intro w hSw; go_simp)
                  all_goals (with_reducible rfl)
                (try simp only [List.getElem_toArray, List.getElem_cons_zero, List.getElem_cons_succ, Act.put, List.setIfInBounds_toArray, List.set_cons_zero, List.set_cons_succ])
                refine wpAnyT_ready (rs := [12]) (by kernel_rfl) (by simp) ?_
                refine AllReadyT.cons rfl (fun K hK => ?_) AllReadyT.nil
                obtain ⟨b0, b1, bf0, bf1⟩ := box2 hbx
                go_simp
                refine hK.out _ _ (noneB_off (by kernel_rfl)) (fun _ => ?_)
                clear hK K
                (try simp only [List.getElem_toArray, List.getElem_cons_zero, List.getElem_cons_succ, Act.put, List.setIfInBounds_toArray, List.set_cons_zero, List.set_cons_succ])
                refine wpAnyT_ready (rs := [13]) (by kernel_rfl) (by simp) ?_
                refine AllReadyT.cons rfl (fun K hK => ?_) AllReadyT.nil
                go_simp
                refine hK.out _ _ (noneB_off (by kernel_rfl)) (fun _ => ?_)
                clear hK K
                (try simp only [List.getElem_toArray, List.getElem_cons_zero, List.getElem_cons_succ, Act.put, List.setIfInBounds_toArray, List.set_cons_zero, List.set_cons_succ])
                refine wpAnyT_done (by kernel_rfl) ?_ _
                (try clear b0 b1 bf0 bf1)
                first
                  | refine gen_two (P := fun w => (_ : Exit → Act → World → Prop) Exit.normal _ w) hbx (fun W9 hx9 hz9 hf9 hB9 => ?_)
                  | refine gen_new (P := fun w => (_ : Exit → Act → World → Prop) Exit.normal _ w) (fun W9 hx9 hz9 hf9 hB9 => ?_)
                have hb9 : Below wr.heap.size wr W9 := hB9 _ _ (by have := hb6.size; have := hb5.size; have := hbd.size; omega) hb6
                have hxt9 := (hb9.block Bt hXlt).trans HX.out
                have hxr9 := (hb9.block w.heap.size (by omega)).trans HXR.out
                obtain ⟨z0, z1, zf0, zf1⟩ := box2 hxt9
                obtain ⟨x90, x91, -⟩ := box2 hx9
                have hg9 : ∀ W : World, (∀ b, b ≠ Bt → W.heap[b]? = W9.heap[b]?) → W9.heap.size ≤ W.heap.size → GT (w.heap.size + 1) (j + 1) W (.agg #[.slice ao6 T6.pages.length cap6, .int .i64 T6.root]) T6 (stepE j x (runE L j)) := fun W hW hz => by
                  have hsz5 := hb5.size
                  have hsz6 := hz6
                  (try simp only [World.size_alloc] at hsz6)
                  have q := hg6.land (W := W) (B' := w.heap.size + 1) (by (try simp only [World.size_alloc]); omega) (fun b h1 h2 => (hW b (by (try simp only [World.size_alloc] at h1); omega)).trans (hf9 b (by (try simp only [World.size_alloc] at h1); omega))) (by omega)
                  rw [HST.out]
                  exact q.up (by omega) (by omega)
                have HG9 := Lib.hid hg9
                have HB9 := Lib.hid hb9
                have HX9 := Lib.hid (And.intro hxt9 hxr9)
                clear hx9 hz9 hf9 hB9 hb9 hg9 hxt9 hxr9 hHeld hb5 hb6 hbd hg6 hbc hz5 hz6 hkr
                (try clear hbx)
                go_wp2_with fail
                go_roundw
                case rel => exact ⟨j + 1, ao6, cap6, T6, by omega, by omega, by go_num, two_heap HX9.out.1, (two_far (by omega)).trans HX9.out.2, by rw [HRUN.out]; exact HG9.out _ (fun b hb => two_far hb) (by simp), ((HB.out.trans (HB9.out.mono hsz)).setCell (p := ⟨Bt, 0, none⟩) (by show w.heap.size ≤ Bt; omega) _).setCell (p := ⟨Bt, 1, none⟩) (by show w.heap.size ≤ Bt; omega) _⟩
                case measure => simp [intOf]; omega
            · skip
              go_simp
              refine hK.out _ _ (fun _ => ?_) (fun hHeld0 => ?_)
              · (try dsimp only)
                (first | (with_reducible exact hHeld) | (with_reducible exact ⟨cell_al _ (hHeld.1), cell_al _ (hHeld.2.1), cell_al _ (hHeld.2.2.1), Below.alloc (hHeld.2.2.2) (hHeld.2.2.2).size _⟩))
              have hHeld1 := hHeld0 (by kernel_rfl)
              clear hK K hHeld0
              (have hbx := alloc_of hHeld1.2.2.2); (try replace hkr := hkr.below (al_of hHeld1.2.2.2))
              clear hHeld; have hHeld := hHeld1; clear hHeld1
              (try simp only [List.getElem_toArray, List.getElem_cons_zero, List.getElem_cons_succ, Act.put, List.setIfInBounds_toArray, List.set_cons_zero, List.set_cons_succ])
              refine wpAnyT_ready (rs := [5]) (by kernel_rfl) (by simp) ?_
              refine AllReadyT.cons rfl (fun K hK => ?_) AllReadyT.nil
              go_simp
              (go_at_call 30; refine (key_any x _ hRx).mono ?_; rintro e w5 ⟨ka, kc, rfl, hkr, hbc⟩; have hz5 := hbc.size; (try simp only [World.size_alloc] at hz5); (try replace hbx := (hbc.block _ (Array.getElem?_eq_some_iff.1 hbx).1).trans hbx))
              go_wp2_with fail
              refine hK.out _ _ (fun _ => ?_) (fun hHeld0 => ?_)
              · (try dsimp only)
                exact ⟨cell_bel hbc (hHeld.1), cell_bel hbc (hHeld.2.1), cell_bel hbc (hHeld.2.2.1), Below.trans (hHeld.2.2.2) (hbc.mono (hHeld.2.2.2).size)⟩
              have hHeld1 := hHeld0 (by kernel_rfl)
              clear hK K hHeld0
              have hb5 := hHeld1.2.2.2
              clear hHeld; have hHeld := hHeld1; clear hHeld1
              (try simp only [List.getElem_toArray, List.getElem_cons_zero, List.getElem_cons_succ, Act.put, List.setIfInBounds_toArray, List.set_cons_zero, List.set_cons_succ])
              refine wpAnyT_ready (rs := [7]) (by kernel_rfl) (by simp) ?_
              refine AllReadyT.cons rfl (fun K hK => ?_) AllReadyT.nil
              go_simp
              (go_at_call 25; refine (HC.out _ _ _ hHeld.2.2.2 hkr).mono ?_; rintro e w6 ⟨ao6, cap6, T6, rfl, hg6, hbc⟩; have hz6 := hbc.size; (try replace hbx := (hbc.block _ (Array.getElem?_eq_some_iff.1 hbx).1).trans hbx))
              go_wp2_with fail
              refine hK.out _ _ (fun _ => ?_) (fun hHeld0 => ?_)
              · (try dsimp only)
                exact ⟨cell_bel hbc (hHeld.1), cell_bel hbc (hHeld.2.1), cell_bel hbc (hHeld.2.2.1), Below.trans (hHeld.2.2.2) (hbc.mono (hHeld.2.2.2).size)⟩
              have hHeld1 := hHeld0 (by kernel_rfl)
              clear hK K hHeld0
              have hb6 := hHeld1.2.2.2
              clear hHeld; have hHeld := hHeld1; clear hHeld1
              (try simp only [List.getElem_toArray, List.getElem_cons_zero, List.getElem_cons_succ, Act.put, List.setIfInBounds_toArray, List.set_cons_zero, List.set_cons_succ])
              refine wpAnyT_pure (i := 8) (oi := _) (v := ?_) rfl (by kernel_rfl) (by kernel_rfl) (by kernel_rfl) (by kernel_rfl) (fun _ _ _ h => h) (Or.inl ⟨by rfl, ?_⟩) (fun _ => by assumption) ?_
              rotate_left
              · (intro w hSw; go_simp)
                all_goals (with_reducible rfl)
              (try simp only [List.getElem_toArray, List.getElem_cons_zero, List.getElem_cons_succ, Act.put, List.setIfInBounds_toArray, List.set_cons_zero, List.set_cons_succ])
              refine wpAnyT_pure (i := 9) (oi := _) (v := ?_) rfl (by kernel_rfl) (by kernel_rfl) (by kernel_rfl) (by kernel_rfl) (fun _ _ _ h => h) (Or.inl ⟨by rfl, ?_⟩) (fun _ => by assumption) ?_
              rotate_left
              · (intro w hSw; go_simp)
                all_goals (with_reducible rfl)
              (try simp only [List.getElem_toArray, List.getElem_cons_zero, List.getElem_cons_succ, Act.put, List.setIfInBounds_toArray, List.set_cons_zero, List.set_cons_succ])
              refine wpAnyT_pure (i := 10) (oi := _) (v := ?_) rfl (by kernel_rfl) (by kernel_rfl) (by kernel_rfl) (by kernel_rfl) (fun _ _ _ h => h) (Or.inl ⟨by rfl, ?_⟩) (fun _ => by assumption) ?_
              rotate_left
              · (intro w hSw; go_simp)
                all_goals (with_reducible rfl)
              (try simp only [List.getElem_toArray, List.getElem_cons_zero, List.getElem_cons_succ, Act.put, List.setIfInBounds_toArray, List.set_cons_zero, List.set_cons_succ])
              refine wpAnyT_ready (rs := [12]) (by kernel_rfl) (by simp) ?_
              refine AllReadyT.cons rfl (fun K hK => ?_) AllReadyT.nil
              obtain ⟨b0, b1, bf0, bf1⟩ := box2 hbx
              go_simp
              refine hK.out _ _ (noneB_off (by kernel_rfl)) (fun _ => ?_)
              clear hK K
              (try simp only [List.getElem_toArray, List.getElem_cons_zero, List.getElem_cons_succ, Act.put, List.setIfInBounds_toArray, List.set_cons_zero, List.set_cons_succ])
              refine wpAnyT_ready (rs := [13]) (by kernel_rfl) (by simp) ?_
              refine AllReadyT.cons rfl (fun K hK => ?_) AllReadyT.nil
              go_simp
              refine hK.out _ _ (noneB_off (by kernel_rfl)) (fun _ => ?_)
              clear hK K
              (try simp only [List.getElem_toArray, List.getElem_cons_zero, List.getElem_cons_succ, Act.put, List.setIfInBounds_toArray, List.set_cons_zero, List.set_cons_succ])
              refine wpAnyT_done (by kernel_rfl) ?_ _
              (try clear b0 b1 bf0 bf1)
              first
                | refine gen_two (P := fun w => (_ : Exit → Act → World → Prop) Exit.normal _ w) hbx (fun W9 hx9 hz9 hf9 hB9 => ?_)
                | refine gen_new (P := fun w => (_ : Exit → Act → World → Prop) Exit.normal _ w) (fun W9 hx9 hz9 hf9 hB9 => ?_)
              have hb9 : Below wr.heap.size wr W9 := hB9 _ _ (by have := hb6.size; have := hb5.size; have := hbd.size; omega) hb6
              have hxt9 := (hb9.block Bt hXlt).trans HX.out
              have hxr9 := (hb9.block w.heap.size (by omega)).trans HXR.out
              obtain ⟨z0, z1, zf0, zf1⟩ := box2 hxt9
              obtain ⟨x90, x91, -⟩ := box2 hx9
              have hg9 : ∀ W : World, (∀ b, b ≠ Bt → W.heap[b]? = W9.heap[b]?) → W9.heap.size ≤ W.heap.size → GT (w.heap.size + 1) (j + 1) W (.agg #[.slice ao6 T6.pages.length cap6, .int .i64 T6.root]) T6 (stepE j x (runE L j)) := fun W hW hz => by
                have hsz5 := hb5.size
                have hsz6 := hz6
                (try simp only [World.size_alloc] at hsz6)
                have q := hg6.land (W := W) (B' := w.heap.size + 1) (by (try simp only [World.size_alloc]); omega) (fun b h1 h2 => (hW b (by (try simp only [World.size_alloc] at h1); omega)).trans (hf9 b (by (try simp only [World.size_alloc] at h1); omega))) (by omega)
                rw [HST.out]
                exact q.up (by omega) (by omega)
              have HG9 := Lib.hid hg9
              have HB9 := Lib.hid hb9
              have HX9 := Lib.hid (And.intro hxt9 hxr9)
              clear hx9 hz9 hf9 hB9 hb9 hg9 hxt9 hxr9 hHeld hb5 hb6 hbd hg6 hbc hz5 hz6 hkr
              (try clear hbx)
              go_wp2_with fail
              go_roundw
              case rel => exact ⟨j + 1, ao6, cap6, T6, by omega, by omega, by go_num, two_heap HX9.out.1, (two_far (by omega)).trans HX9.out.2, by rw [HRUN.out]; exact HG9.out _ (fun b hb => two_far hb) (by simp), ((HB.out.trans (HB9.out.mono hsz)).setCell (p := ⟨Bt, 0, none⟩) (by show w.heap.size ≤ Bt; omega) _).setCell (p := ⟨Bt, 1, none⟩) (by show w.heap.size ≤ Bt; omega) _⟩
              case measure => simp [intOf]; omega
      · have HJ := Lib.hid (show j = min L.length 70 by have := HNL.out; omega)
        obtain ⟨k0, k1, kf0, kf1⟩ := box2 HX.out
        have hpn : 0 < T.pages.length := HG.out.pos
        have hpos : (0 : Int) < (T.pages.length : Int) := by have := HG.out.pos; omega
        have hsz := HB.out.size
        have hXlt : Bt < wr.heap.size := (Array.getElem?_eq_some_iff.1 HX.out).1
        go_wp2_with fail
        refine wpT_begin2 (S := (fun wx => wx.cell? ⟨Bt, 0, none⟩ = some (.slice ao T.pages.length cap) ∧ wx.cell? ⟨Bt, 1, none⟩ = some (.int .i64 T.root) ∧ GT (w.heap.size + 1) j wx (.agg #[.slice ao T.pages.length cap, .int .i64 T.root]) T (runE L j) ∧ Below w.heap.size w wx ∧ ∃ x y, wx.heap[w.heap.size]? = some (.cells #[x, y] 24 (0, 0)))) [] (by kernel_rfl) ?_ (fun Wd hHeld => ?_)
        · (try dsimp only)
          exact ⟨cell_dr k0, cell_dr k1, (HG.out.below (Below.refl _ _).drew), (HB.out.trans ((Below.refl _ _).drew.mono hsz)), ⟨_, _, HXR.out⟩⟩
        refine wpAnyT_take (i := 0) (oi := _) (v := ?_) rfl (by kernel_rfl) (by kernel_rfl) (by kernel_rfl) (by kernel_rfl) (fun _ _ _ h => h) (Or.inl ⟨by rfl, ?_⟩) (by assumption) ?_
        rotate_left
        · (intro w hSw; (try dsimp only at hSw); go_simp)
          all_goals (with_reducible rfl)
        (try simp only [List.getElem_toArray, List.getElem_cons_zero, List.getElem_cons_succ, Act.put, List.setIfInBounds_toArray, List.set_cons_zero, List.set_cons_succ])
        refine wpAnyT_take (i := 1) (oi := _) (v := ?_) rfl (by kernel_rfl) (by kernel_rfl) (by kernel_rfl) (by kernel_rfl) (fun _ _ _ h => h) (Or.inl ⟨by rfl, ?_⟩) (by assumption) ?_
        rotate_left
        · (intro w hSw; (try dsimp only at hSw); go_simp)
          all_goals (with_reducible rfl)
        (try simp only [List.getElem_toArray, List.getElem_cons_zero, List.getElem_cons_succ, Act.put, List.setIfInBounds_toArray, List.set_cons_zero, List.set_cons_succ])
        refine wpAnyT_ready (rs := [2]) (by kernel_rfl) (by simp) ?_
        refine AllReadyT.cons rfl (fun K hK => ?_) AllReadyT.nil
        go_simp
        (go_at_call 33; refine (check_g hHeld.2.2.1).mono ?_; rintro e w6 ⟨rfl, hbc⟩)
        go_wp2_with fail
        refine hK.out _ _ (fun _ => ?_) (fun hHeld0 => ?_)
        · (try dsimp only)
          obtain ⟨rx, ry, hrb⟩ := hHeld.2.2.2.2; exact ⟨cell_bel hbc hHeld.1, cell_bel hbc hHeld.2.1, hHeld.2.2.1.below hbc, hHeld.2.2.2.1.trans (hbc.mono hHeld.2.2.2.1.size), ⟨rx, ry, (hbc.block _ (Array.getElem?_eq_some_iff.1 hrb).1).trans hrb⟩⟩
        have hHeld1 := hHeld0 (by kernel_rfl)
        clear hK K hHeld0
        clear hHeld; have hHeld := hHeld1; clear hHeld1
        (try simp only [List.getElem_toArray, List.getElem_cons_zero, List.getElem_cons_succ, Act.put, List.setIfInBounds_toArray, List.set_cons_zero, List.set_cons_succ])
        refine wpAnyT_pure (i := 3) (oi := _) (v := ?_) rfl (by kernel_rfl) (by kernel_rfl) (by kernel_rfl) (by kernel_rfl) (fun _ _ _ h => h) (Or.inl ⟨by rfl, ?_⟩) (fun _ => by assumption) ?_
        rotate_left
        · (intro w hSw; go_simp)
          all_goals (with_reducible rfl)
        (try simp only [List.getElem_toArray, List.getElem_cons_zero, List.getElem_cons_succ, Act.put, List.setIfInBounds_toArray, List.set_cons_zero, List.set_cons_succ])
        refine wpAnyT_pure (i := 4) (oi := _) (v := ?_) rfl (by kernel_rfl) (by kernel_rfl) (by kernel_rfl) (by kernel_rfl) (fun _ _ _ h => h) (Or.inl ⟨by rfl, ?_⟩) (fun _ => by assumption) ?_
        rotate_left
        · (intro w hSw; go_simp)
          all_goals (with_reducible rfl)
        (try simp only [List.getElem_toArray, List.getElem_cons_zero, List.getElem_cons_succ, Act.put, List.setIfInBounds_toArray, List.set_cons_zero, List.set_cons_succ])
        refine wpAnyT_pure (i := 5) (oi := _) (v := ?_) rfl (by kernel_rfl) (by kernel_rfl) (by kernel_rfl) (by kernel_rfl) (fun _ _ _ h => h) (Or.inl ⟨by rfl, ?_⟩) (fun _ => by assumption) ?_
        rotate_left
        · (intro w hSw; go_simp)
          all_goals (with_reducible rfl)
        (try simp only [List.getElem_toArray, List.getElem_cons_zero, List.getElem_cons_succ, Act.put, List.setIfInBounds_toArray, List.set_cons_zero, List.set_cons_succ])
        refine wpAnyT_take (i := 6) (oi := _) (v := ?_) rfl (by kernel_rfl) (by kernel_rfl) (by kernel_rfl) (by kernel_rfl) (fun _ _ _ h => h) (Or.inl ⟨by rfl, ?_⟩) (by assumption) ?_
        rotate_left
        · (intro w hSw; (try dsimp only at hSw); go_simp)
          all_goals (with_reducible rfl)
        (try simp only [List.getElem_toArray, List.getElem_cons_zero, List.getElem_cons_succ, Act.put, List.setIfInBounds_toArray, List.set_cons_zero, List.set_cons_succ])
        refine wpAnyT_pure (i := 7) (oi := _) (v := ?_) rfl (by kernel_rfl) (by kernel_rfl) (by kernel_rfl) (by kernel_rfl) (fun _ _ _ h => h) (Or.inl ⟨by rfl, ?_⟩) (fun _ => by assumption) ?_
        rotate_left
        · (intro w hSw; go_simp)
          all_goals (with_reducible rfl)
        (try simp only [List.getElem_toArray, List.getElem_cons_zero, List.getElem_cons_succ, Act.put, List.setIfInBounds_toArray, List.set_cons_zero, List.set_cons_succ])
        refine wpAnyT_pure (i := 8) (oi := _) (v := ?_) rfl (by kernel_rfl) (by kernel_rfl) (by kernel_rfl) (by kernel_rfl) (fun _ _ _ h => h) (Or.inl ⟨by rfl, ?_⟩) (fun _ => by assumption) ?_
        rotate_left
        · (intro w hSw; go_simp)
          all_goals (with_reducible rfl)
        (try simp only [List.getElem_toArray, List.getElem_cons_zero, List.getElem_cons_succ, Act.put, List.setIfInBounds_toArray, List.set_cons_zero, List.set_cons_succ])
        refine wpAnyT_pure (i := 9) (oi := _) (v := ?_) rfl (by kernel_rfl) (by kernel_rfl) (by kernel_rfl) (by kernel_rfl) (fun _ _ _ h => h) (Or.inl ⟨by rfl, ?_⟩) (fun _ => by assumption) ?_
        rotate_left
        · (intro w hSw; go_simp)
          all_goals (with_reducible rfl)
        (try simp only [List.getElem_toArray, List.getElem_cons_zero, List.getElem_cons_succ, Act.put, List.setIfInBounds_toArray, List.set_cons_zero, List.set_cons_succ])
        refine wpAnyT_ready (rs := [10]) (by kernel_rfl) (by simp) ?_
        refine AllReadyT.cons rfl (fun K hK => ?_) AllReadyT.nil
        obtain ⟨rx, ry, hrb⟩ := hHeld.2.2.2.2; obtain ⟨r0, r1, rf0, rf1⟩ := box2 hrb
        go_simp
        refine hK.out _ _ (fun _ => ?_) (fun hHeld0 => ?_)
        · (try dsimp only)
          exact ⟨set_far (by show w.heap.size ≠ Bt; omega) (set_far (by show w.heap.size ≠ Bt; omega) hHeld.1), set_far (by show w.heap.size ≠ Bt; omega) (set_far (by show w.heap.size ≠ Bt; omega) hHeld.2.1), hHeld.2.2.1.far (fun b h1 h2 => two_far (by omega)) (by simp), (hHeld.2.2.2.1.setCell (p := ⟨w.heap.size, 0, none⟩) (Nat.le_refl _) _).setCell (p := ⟨w.heap.size, 1, none⟩) (Nat.le_refl _) _, ⟨_, _, two_heap hrb⟩⟩
        have hHeld1 := hHeld0 (by kernel_rfl)
        clear hK K hHeld0
        clear hHeld; have hHeld := hHeld1; clear hHeld1
        (try simp only [List.getElem_toArray, List.getElem_cons_zero, List.getElem_cons_succ, Act.put, List.setIfInBounds_toArray, List.set_cons_zero, List.set_cons_succ])
        refine wpAnyT_ready (rs := [11]) (by kernel_rfl) (by simp) ?_
        refine AllReadyT.cons rfl (fun K hK => ?_) AllReadyT.nil
        go_simp
        refine hK.out _ _ (fun _ => ?_) (fun hHeld0 => ?_)
        · (try dsimp only)
          exact hHeld
        have hHeld1 := hHeld0 (by kernel_rfl)
        clear hK K hHeld0
        clear hHeld; have hHeld := hHeld1; clear hHeld1
        (try simp only [List.getElem_toArray, List.getElem_cons_zero, List.getElem_cons_succ, Act.put, List.setIfInBounds_toArray, List.set_cons_zero, List.set_cons_succ])
        refine wpAnyT_done (by kernel_rfl) ?_ _
        obtain ⟨q0, q1⟩ := box2_two (x := .slice ao T.pages.length cap) (y := .int .i64 T.root) r0 r1
        have HGF := Lib.hid (And.intro ((hHeld.2.2.1.base (B' := w.heap.size) (by omega)).up hj7 (by omega)) hHeld.2.2.2.1)
        clear hHeld hbc
        go_wp2_with fail
        refine bodyPost_ret (v := .tuple #[.agg #[.slice ao T.pages.length cap, .int .i64 T.root], .bool true]) (by simp [results, Try.results29, go_sem, q0, q1, hpn]; try rfl) rfl ?_
        exact ⟨ao, cap, T, rfl, by rw [← HJ.out]; exact HGF.out.1, HGF.out.2⟩
    · have HJ := Lib.hid (show j = min L.length 70 by have := HNL.out; omega)
      obtain ⟨k0, k1, kf0, kf1⟩ := box2 HX.out
      have hpn : 0 < T.pages.length := HG.out.pos
      have hpos : (0 : Int) < (T.pages.length : Int) := by have := HG.out.pos; omega
      have hsz := HB.out.size
      have hXlt : Bt < wr.heap.size := (Array.getElem?_eq_some_iff.1 HX.out).1
      go_wp2_with fail
      refine wpT_begin2 (S := (fun wx => wx.cell? ⟨Bt, 0, none⟩ = some (.slice ao T.pages.length cap) ∧ wx.cell? ⟨Bt, 1, none⟩ = some (.int .i64 T.root) ∧ GT (w.heap.size + 1) j wx (.agg #[.slice ao T.pages.length cap, .int .i64 T.root]) T (runE L j) ∧ Below w.heap.size w wx ∧ ∃ x y, wx.heap[w.heap.size]? = some (.cells #[x, y] 24 (0, 0)))) [] (by kernel_rfl) ?_ (fun Wd hHeld => ?_)
      · (try dsimp only)
        exact ⟨cell_dr k0, cell_dr k1, (HG.out.below (Below.refl _ _).drew), (HB.out.trans ((Below.refl _ _).drew.mono hsz)), ⟨_, _, HXR.out⟩⟩
      refine wpAnyT_take (i := 0) (oi := _) (v := ?_) rfl (by kernel_rfl) (by kernel_rfl) (by kernel_rfl) (by kernel_rfl) (fun _ _ _ h => h) (Or.inl ⟨by rfl, ?_⟩) (by assumption) ?_
      rotate_left
      · (intro w hSw; (try dsimp only at hSw); go_simp)
        all_goals (with_reducible rfl)
      (try simp only [List.getElem_toArray, List.getElem_cons_zero, List.getElem_cons_succ, Act.put, List.setIfInBounds_toArray, List.set_cons_zero, List.set_cons_succ])
      refine wpAnyT_take (i := 1) (oi := _) (v := ?_) rfl (by kernel_rfl) (by kernel_rfl) (by kernel_rfl) (by kernel_rfl) (fun _ _ _ h => h) (Or.inl ⟨by rfl, ?_⟩) (by assumption) ?_
      rotate_left
      · (intro w hSw; (try dsimp only at hSw); go_simp)
        all_goals (with_reducible rfl)
      (try simp only [List.getElem_toArray, List.getElem_cons_zero, List.getElem_cons_succ, Act.put, List.setIfInBounds_toArray, List.set_cons_zero, List.set_cons_succ])
      refine wpAnyT_ready (rs := [2]) (by kernel_rfl) (by simp) ?_
      refine AllReadyT.cons rfl (fun K hK => ?_) AllReadyT.nil
      go_simp
      (go_at_call 33; refine (check_g hHeld.2.2.1).mono ?_; rintro e w6 ⟨rfl, hbc⟩)
      go_wp2_with fail
      refine hK.out _ _ (fun _ => ?_) (fun hHeld0 => ?_)
      · (try dsimp only)
        obtain ⟨rx, ry, hrb⟩ := hHeld.2.2.2.2; exact ⟨cell_bel hbc hHeld.1, cell_bel hbc hHeld.2.1, hHeld.2.2.1.below hbc, hHeld.2.2.2.1.trans (hbc.mono hHeld.2.2.2.1.size), ⟨rx, ry, (hbc.block _ (Array.getElem?_eq_some_iff.1 hrb).1).trans hrb⟩⟩
      have hHeld1 := hHeld0 (by kernel_rfl)
      clear hK K hHeld0
      clear hHeld; have hHeld := hHeld1; clear hHeld1
      (try simp only [List.getElem_toArray, List.getElem_cons_zero, List.getElem_cons_succ, Act.put, List.setIfInBounds_toArray, List.set_cons_zero, List.set_cons_succ])
      refine wpAnyT_pure (i := 3) (oi := _) (v := ?_) rfl (by kernel_rfl) (by kernel_rfl) (by kernel_rfl) (by kernel_rfl) (fun _ _ _ h => h) (Or.inl ⟨by rfl, ?_⟩) (fun _ => by assumption) ?_
      rotate_left
      · (intro w hSw; go_simp)
        all_goals (with_reducible rfl)
      (try simp only [List.getElem_toArray, List.getElem_cons_zero, List.getElem_cons_succ, Act.put, List.setIfInBounds_toArray, List.set_cons_zero, List.set_cons_succ])
      refine wpAnyT_pure (i := 4) (oi := _) (v := ?_) rfl (by kernel_rfl) (by kernel_rfl) (by kernel_rfl) (by kernel_rfl) (fun _ _ _ h => h) (Or.inl ⟨by rfl, ?_⟩) (fun _ => by assumption) ?_
      rotate_left
      · (intro w hSw; go_simp)
        all_goals (with_reducible rfl)
      (try simp only [List.getElem_toArray, List.getElem_cons_zero, List.getElem_cons_succ, Act.put, List.setIfInBounds_toArray, List.set_cons_zero, List.set_cons_succ])
      refine wpAnyT_pure (i := 5) (oi := _) (v := ?_) rfl (by kernel_rfl) (by kernel_rfl) (by kernel_rfl) (by kernel_rfl) (fun _ _ _ h => h) (Or.inl ⟨by rfl, ?_⟩) (fun _ => by assumption) ?_
      rotate_left
      · (intro w hSw; go_simp)
        all_goals (with_reducible rfl)
      (try simp only [List.getElem_toArray, List.getElem_cons_zero, List.getElem_cons_succ, Act.put, List.setIfInBounds_toArray, List.set_cons_zero, List.set_cons_succ])
      refine wpAnyT_take (i := 6) (oi := _) (v := ?_) rfl (by kernel_rfl) (by kernel_rfl) (by kernel_rfl) (by kernel_rfl) (fun _ _ _ h => h) (Or.inl ⟨by rfl, ?_⟩) (by assumption) ?_
      rotate_left
      · (intro w hSw; (try dsimp only at hSw); go_simp)
        all_goals (with_reducible rfl)
      (try simp only [List.getElem_toArray, List.getElem_cons_zero, List.getElem_cons_succ, Act.put, List.setIfInBounds_toArray, List.set_cons_zero, List.set_cons_succ])
      refine wpAnyT_pure (i := 7) (oi := _) (v := ?_) rfl (by kernel_rfl) (by kernel_rfl) (by kernel_rfl) (by kernel_rfl) (fun _ _ _ h => h) (Or.inl ⟨by rfl, ?_⟩) (fun _ => by assumption) ?_
      rotate_left
      · (intro w hSw; go_simp)
        all_goals (with_reducible rfl)
      (try simp only [List.getElem_toArray, List.getElem_cons_zero, List.getElem_cons_succ, Act.put, List.setIfInBounds_toArray, List.set_cons_zero, List.set_cons_succ])
      refine wpAnyT_pure (i := 8) (oi := _) (v := ?_) rfl (by kernel_rfl) (by kernel_rfl) (by kernel_rfl) (by kernel_rfl) (fun _ _ _ h => h) (Or.inl ⟨by rfl, ?_⟩) (fun _ => by assumption) ?_
      rotate_left
      · (intro w hSw; go_simp)
        all_goals (with_reducible rfl)
      (try simp only [List.getElem_toArray, List.getElem_cons_zero, List.getElem_cons_succ, Act.put, List.setIfInBounds_toArray, List.set_cons_zero, List.set_cons_succ])
      refine wpAnyT_pure (i := 9) (oi := _) (v := ?_) rfl (by kernel_rfl) (by kernel_rfl) (by kernel_rfl) (by kernel_rfl) (fun _ _ _ h => h) (Or.inl ⟨by rfl, ?_⟩) (fun _ => by assumption) ?_
      rotate_left
      · (intro w hSw; go_simp)
        all_goals (with_reducible rfl)
      (try simp only [List.getElem_toArray, List.getElem_cons_zero, List.getElem_cons_succ, Act.put, List.setIfInBounds_toArray, List.set_cons_zero, List.set_cons_succ])
      refine wpAnyT_ready (rs := [10]) (by kernel_rfl) (by simp) ?_
      refine AllReadyT.cons rfl (fun K hK => ?_) AllReadyT.nil
      obtain ⟨rx, ry, hrb⟩ := hHeld.2.2.2.2; obtain ⟨r0, r1, rf0, rf1⟩ := box2 hrb
      go_simp
      refine hK.out _ _ (fun _ => ?_) (fun hHeld0 => ?_)
      · (try dsimp only)
        exact ⟨set_far (by show w.heap.size ≠ Bt; omega) (set_far (by show w.heap.size ≠ Bt; omega) hHeld.1), set_far (by show w.heap.size ≠ Bt; omega) (set_far (by show w.heap.size ≠ Bt; omega) hHeld.2.1), hHeld.2.2.1.far (fun b h1 h2 => two_far (by omega)) (by simp), (hHeld.2.2.2.1.setCell (p := ⟨w.heap.size, 0, none⟩) (Nat.le_refl _) _).setCell (p := ⟨w.heap.size, 1, none⟩) (Nat.le_refl _) _, ⟨_, _, two_heap hrb⟩⟩
      have hHeld1 := hHeld0 (by kernel_rfl)
      clear hK K hHeld0
      clear hHeld; have hHeld := hHeld1; clear hHeld1
      (try simp only [List.getElem_toArray, List.getElem_cons_zero, List.getElem_cons_succ, Act.put, List.setIfInBounds_toArray, List.set_cons_zero, List.set_cons_succ])
      refine wpAnyT_ready (rs := [11]) (by kernel_rfl) (by simp) ?_
      refine AllReadyT.cons rfl (fun K hK => ?_) AllReadyT.nil
      go_simp
      refine hK.out _ _ (fun _ => ?_) (fun hHeld0 => ?_)
      · (try dsimp only)
        exact hHeld
      have hHeld1 := hHeld0 (by kernel_rfl)
      clear hK K hHeld0
      clear hHeld; have hHeld := hHeld1; clear hHeld1
      (try simp only [List.getElem_toArray, List.getElem_cons_zero, List.getElem_cons_succ, Act.put, List.setIfInBounds_toArray, List.set_cons_zero, List.set_cons_succ])
      refine wpAnyT_done (by kernel_rfl) ?_ _
      obtain ⟨q0, q1⟩ := box2_two (x := .slice ao T.pages.length cap) (y := .int .i64 T.root) r0 r1
      have HGF := Lib.hid (And.intro ((hHeld.2.2.1.base (B' := w.heap.size) (by omega)).up hj7 (by omega)) hHeld.2.2.2.1)
      clear hHeld hbc
      go_wp2_with fail
      refine bodyPost_ret (v := .tuple #[.agg #[.slice ao T.pages.length cap, .int .i64 T.root], .bool true]) (by simp [results, Try.results29, go_sem, q0, q1, hpn]; try rfl) rfl ?_
      exact ⟨ao, cap, T, rfl, by rw [← HJ.out]; exact HGF.out.1, HGF.out.2⟩
end Go.Proofs.Ytacpeibkamfibaa
