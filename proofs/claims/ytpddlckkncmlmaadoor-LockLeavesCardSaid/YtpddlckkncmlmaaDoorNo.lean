/- The document's copy of locks. -/
import Derived.Test.YtpddlckkncmlmaaDoorMj
import Derived.Deep.AppendLies
import Derived.Deep.RegionHeld3
namespace Go.Proofs.YtpddlckkncmlmaaDoor
open Go.ChangeShapes Go.WideShapes Go.ChangeAt Go.RowKit
set_option linter.unusedVariables false
set_option linter.unusedSimpArgs false
set_option maxHeartbeats 8000000
set_option maxRecDepth 100000
theorem gc_trans {C : Nat} {w w1 w2 : World} (h1 : w.grownBy w1 (some C)) (h2 : w1.grownBy w2 (some C)) : w.grownBy w2 (some C) :=
  ⟨h2.os.trans h1.os, h2.tape.trans h1.tape, h2.output.trans h1.output, Nat.le_trans h1.size h2.size, fun k hk hne => (h2.block k (Nat.lt_of_lt_of_le hk h1.size) hne).trans (h1.block k hk hne)⟩
theorem gc_own {C : Nat} {w w1 w2 : World} {row : Option Nat} (h1 : w.grownBy w1 (some C)) (h2 : w1.grownBy w2 row) (hr : ∀ g, row = some g → w.heap.size ≤ g) : w.grownBy w2 (some C) :=
  ⟨h2.os.trans h1.os, h2.tape.trans h1.tape, h2.output.trans h1.output, Nat.le_trans h1.size h2.size, fun k hk hne => (h2.block k (Nat.lt_of_lt_of_le hk h1.size) (fun e => by have := hr k e.symm; omega)).trans (h1.block k hk hne)⟩
theorem gc_below {C : Nat} {w w1 : World} (h : Below w.heap.size w w1) : w.grownBy w1 (some C) := ⟨h.os, h.tape, h.output, h.size, fun k hk _ => h.block k hk⟩
theorem gc_set (w : World) (C j : Nat) (v : Value) : w.grownBy (w.setCell ⟨C, j, none⟩ v) (some C) :=
  ⟨rfl, rfl, rfl, by simp, fun k hk hne => Below.heap_setCell _ _ _ _ (fun e => hne (by rw [e]))⟩
theorem gc_old {C B : Nat} {w w1 : World} (h : w.grownBy w1 (some C)) (hC : B ≤ C) (hB : B ≤ w.heap.size) : Below B w w1 := ⟨h.os, h.tape, h.output, h.size, fun k hk => h.block k (by omega) (fun e => by cases e; omega)⟩
theorem cell_al2 {W : World} {a : Addr} {v : Value} (o : Obj) (h : W.cell? a = some v) : (W.alloc o).cell? a = some v := (World.cell?_of_block (Below.heap_alloc W _ _ (lt_cell h))).trans h
theorem frz_al {W : World} {a : Addr} {v : Value} (o : Obj) (h : W.cell? a = some v) (hf : W.frozen? a = false) : ((W.alloc o).drew).frozen? a = false := frz_of_below ((Below.refl _ W).alloc (Nat.le_refl _) o).drew h hf
theorem lkc_next {l : List Lk} {k : Nat} (h : k < l.length) : lkc (l.take (k + 1)) = lkc (l.take k) ++ [.int .i64 (l.getD k nlk).t, .string (l.getD k nlk).th, .int .i64 (l.getD k nlk).m] := by
  rw [List.take_succ_eq_append_getElem h, lkc_app]
  simp [List.getD, h, lkc]
/-- A row in a box has grown by a lock. -/
theorem row_step {W0 wr w4 : World} {C B : Nat} {av : Option Addr} {cv k gg cap1 : Nat} {L news : List Value} {o : Obj} {j : Nat} {v : Value} (hC : C < B) (hB : W0.heap.size = B) (hg : W0.grownBy wr (some C)) (ho : wr.ownsRow B 26 3 (.slice av k cv) k L)
    (h4 : w4.ownsRow B 26 3 (.slice (some ⟨gg, 0, none⟩) (k + 1) cap1) (k + 1) (L ++ news)) (hgrow : ((wr.alloc o).drew).grownBy w4 (Value.slice av k cv).ownBlock) :
    (w4.setCell ⟨C, j, none⟩ v).ownsRow B 26 3 (.slice (some ⟨gg, 0, none⟩) (k + 1) cap1) (k + 1) (L ++ news) ∧ W0.grownBy (w4.setCell ⟨C, j, none⟩ v) (some C) ∧ w4.heap[C]? = wr.heap[C]? := by
  subst hB
  have hb : Below wr.heap.size wr ((wr.alloc o).drew) := ((Below.refl _ _).alloc (Nat.le_refl _) o).drew
  have hz := hg.size
  refine ⟨h4.kept (gc_set _ _ _ _) (.inr fun e => by have := (h4.lt C e).1; omega), ?_, ?_⟩
  · exact gc_trans (gc_own (gc_trans hg (gc_below hb)) hgrow (fun g hg' => (ho.lt g hg').1)) (gc_set _ _ _ _)
  · exact (hgrow.block C (by have := hb.size; omega) (fun e => by have := (ho.lt C e.symm).1; omega)).trans (hb.block C (by omega))
theorem copy_two (w : World) (nh n : Nat) (hv qv : Value) (held l : List Lk) (hrh : Rd w 3 nh hv (lkc held)) (hr : Rd w 3 n qv (lkc l)) (h1 : nh * 32 ≤ 140737488351232) (h2 : n * 32 ≤ 140737488351232) :
    Calls Tryd.prog 6 #[.agg #[hv, qv]] w fun e w' => ∃ (a1 : Option Addr) (c1 : Nat) (a2 : Option Addr) (c2 : Nat), e = .returned (.agg #[.slice a1 nh c1, .slice a2 n c2]) ∧ Two w' w.heap.size (.slice a1 nh c1) (.slice a2 n c2) held l ∧ Below w.heap.size w w' := by
  have hmh := len_l hrh
  have hml := len_l hr
  obtain ⟨_, ah, ch, rfl, _⟩ := id hrh
  obtain ⟨_, aq, cq, rfl, _⟩ := id hr
  obtain ⟨i9, hi0, hz0', hz1, hz2⟩ := info_parts Tryd.info26
  obtain ⟨W0, hW0⟩ : ∃ W0 : World, W0 = ((w.alloc (.cells #[.slice ah nh ch, .slice aq n cq] 24)).alloc (.cells #[.slice none 0 0, .slice none 0 0] 24)).alloc (.cells #[.slice none 0 0, .slice none 0 0] 24) := ⟨_, rfl⟩
  have hb0 : Below w.heap.size w W0 := by rw [hW0]; exact three_below _ _ _ _
  have hzz : W0.heap.size = w.heap.size + 3 := by rw [hW0]; simp
  obtain ⟨g1, g2, g3⟩ := three_new w (.cells #[.slice ah nh ch, .slice aq n cq] 24) (.cells #[.slice none 0 0, .slice none 0 0] 24) (.cells #[.slice none 0 0, .slice none 0 0] 24)
  rw [← hW0] at g1 g2 g3
  have HW0 := Lib.hid hW0
  have HB0 := Lib.hid hb0
  have HMH := Lib.hid hmh
  have HML := Lib.hid hml
  have HRH := Lib.hid hrh
  have HRQ := Lib.hid hr
  have G1 := Lib.hid g1
  have G2 := Lib.hid g2
  have G3 := Lib.hid g3
  have hz0 : W0.heap.size = w.heap.size + 3 := hzz
  have hzi := hz0'
  clear hW0 hb0 hmh hml hrh hr g1 g2 g3 hzz
  go_enter Tryd.func6, Tryd.ntmps6
  go_wp2_with fail
  rw [← HW0.out]
  go_loopw [4] (fun i wr => ∃ (k : Nat) (av : Option Addr) (cv : Nat), k ≤ nh ∧ i = .int .i64 (k : Int) ∧ Hid (wr.ownsRow (w.heap.size + 3) 26 3 (.slice av k cv) k (lkc (held.take k))) ∧ Hid (wr.heap[w.heap.size + 1 + 1]? = some (.cells #[.slice av k cv, .slice none 0 0] 24 (0, 0))) ∧ Hid (W0.grownBy wr (some (w.heap.size + 1 + 1)))) (fun i _ => nh - (intOf i).toNat)
  case atStart => exact ⟨0, none, 0, by omega, rfl, World.ownsRow_nil _ _ _ _, G3.out, World.grownBy.refl _ _⟩
  case round =>
    obtain ⟨k, av, cv, hk, rfl, HO, HBX, HGR⟩ := hrel
    have hzr := HGR.out.size
    have hB0 : W0.heap.size = w.heap.size + 3 := hz0
    obtain ⟨q0, q1, -, -⟩ := box2 G1.out
    have x0 := HGR.out.cell q0 (fun e => absurd (Option.some.inj e) (by show w.heap.size ≠ w.heap.size + 1 + 1; omega))
    clear q0 q1
    by_cases hlt : k < nh
    · obtain ⟨b, o, cap, hsh, hcap, hcm, hbw, hcell⟩ := lks_of HRH.out (by omega)
      simp only [Value.slice.injEq] at hsh
      obtain ⟨rfl, -, hcc⟩ := hsh
      subst hcc
      unfold maxLen at hcm
      obtain ⟨e0, e1, e2⟩ := hcell k hlt
      obtain ⟨u, hu⟩ : ∃ u, u = held.getD k nlk := ⟨_, rfl⟩
      rw [← hu] at e0 e1 e2
      have HU := Lib.hid hu
      have c0 := HGR.out.cell ((HB0.out.cell (p := ⟨b, o + k * 3, none⟩) hbw).trans e0) (fun e => absurd (Option.some.inj e) (by show b ≠ w.heap.size + 1 + 1; omega))
      have c1 := HGR.out.cell ((HB0.out.cell (p := ⟨b, o + k * 3 + 1, none⟩) hbw).trans e1) (fun e => absurd (Option.some.inj e) (by show b ≠ w.heap.size + 1 + 1; omega))
      have c2 := HGR.out.cell ((HB0.out.cell (p := ⟨b, o + k * 3 + 2, none⟩) hbw).trans e2) (fun e => absurd (Option.some.inj e) (by show b ≠ w.heap.size + 1 + 1; omega))
      obtain ⟨ut, uth, um⟩ := u
      simp only at c0 c1 c2
      obtain ⟨y0, y1, f0, f1⟩ := box2 HBX.out
      have hne : ∀ q, q < w.heap.size + 3 → some q ≠ (Value.slice av k cv).ownBlock := fun q h e => by have := (HO.out.lt _ e.symm).1; omega
      have HNE := Lib.hid hne
      have i0 : (0 : Int) ≤ (k : Int) := by omega
      have i1 : (k : Int) < (nh : Int) := by omega
      clear e0 e1 e2 hcell hne hu
      have yA := cell_al2 (.cells #[.int .i64 ut, .string uth, .int .i64 um] 26) y0
      go_wp2_with fail
      refine wp_region_held_drew (S := (fun wx => wx.cell? ⟨w.heap.size, 0, none⟩ = some (.slice (some ⟨b, o, none⟩) nh ch) ∧ wx.cell? ⟨b, o + k * 3, none⟩ = some (.int .i64 ut) ∧ wx.cell? ⟨b, o + k * 3 + 1, none⟩ = some (.string uth) ∧ wx.cell? ⟨b, o + k * 3 + 2, none⟩ = some (.int .i64 um))) (by kernel_rfl) ?_ (fun hHeld => ?_)
      · (try dsimp only)
        (first | (with_reducible exact ⟨cell_dr x0, cell_dr c0, cell_dr c1, cell_dr c2⟩) | (with_reducible exact ⟨cell_dr (cell_al2 _ x0), cell_dr (cell_al2 _ c0), cell_dr (cell_al2 _ c1), cell_dr (cell_al2 _ c2)⟩) | (with_reducible exact ⟨k0, k1, k2, k3⟩) | (with_reducible exact ⟨s0 _, s1 _, s2 _, s3 _⟩))
      refine wpAnyH_take (i := 0) (oi := _) (v := ?_) rfl (by kernel_rfl) (by kernel_rfl) (by kernel_rfl) (fun _ _ _ h => h) (Or.inl ⟨by rfl, ?_⟩) (by assumption) ?_
      rotate_left
      · (intro w hSw; (try dsimp only at hSw); go_simp)
        all_goals (with_reducible rfl)
      (try simp only [List.getElem_toArray, List.getElem_cons_zero, List.getElem_cons_succ, Act.put, List.setIfInBounds_toArray, List.set_cons_zero, List.set_cons_succ])
      refine wpAnyH_take (i := 2) (oi := _) (v := ?_) rfl (by kernel_rfl) (by kernel_rfl) (by kernel_rfl) (fun _ _ _ h => h) (Or.inl ⟨by rfl, ?_⟩) (by assumption) ?_
      rotate_left
      · (intro w hSw; (try dsimp only at hSw); go_simp)
        all_goals (with_reducible rfl)
      (try simp only [List.getElem_toArray, List.getElem_cons_zero, List.getElem_cons_succ, Act.put, List.setIfInBounds_toArray, List.set_cons_zero, List.set_cons_succ])
      refine wpAnyH_take (i := 3) (oi := _) (v := ?_) rfl (by kernel_rfl) (by kernel_rfl) (by kernel_rfl) (fun _ _ _ h => h) (Or.inl ⟨by rfl, ?_⟩) (by assumption) ?_
      rotate_left
      · (intro w hSw; (try dsimp only at hSw); go_simp)
        all_goals (with_reducible rfl)
      (try simp only [List.getElem_toArray, List.getElem_cons_zero, List.getElem_cons_succ, Act.put, List.setIfInBounds_toArray, List.set_cons_zero, List.set_cons_succ])
      refine wpAnyH_take (i := 4) (oi := _) (v := ?_) rfl (by kernel_rfl) (by kernel_rfl) (by kernel_rfl) (fun _ _ _ h => h) (Or.inl ⟨by rfl, ?_⟩) (by assumption) ?_
      rotate_left
      · (intro w hSw; (try dsimp only at hSw); go_simp)
        all_goals (with_reducible rfl)
      (try simp only [List.getElem_toArray, List.getElem_cons_zero, List.getElem_cons_succ, Act.put, List.setIfInBounds_toArray, List.set_cons_zero, List.set_cons_succ])
      refine wpAnyH_take (i := 5) (oi := _) (v := ?_) rfl (by kernel_rfl) (by kernel_rfl) (by kernel_rfl) (fun _ _ _ h => h) (Or.inl ⟨by rfl, ?_⟩) (by assumption) ?_
      rotate_left
      · (intro w hSw; (try dsimp only at hSw); go_simp)
        all_goals (with_reducible rfl)
      (try simp only [List.getElem_toArray, List.getElem_cons_zero, List.getElem_cons_succ, Act.put, List.setIfInBounds_toArray, List.set_cons_zero, List.set_cons_succ])
      refine wpAnyH_take (i := 6) (oi := _) (v := ?_) rfl (by kernel_rfl) (by kernel_rfl) (by kernel_rfl) (fun _ _ _ h => h) (Or.inl ⟨by rfl, ?_⟩) (by assumption) ?_
      rotate_left
      · (intro w hSw; (try dsimp only at hSw); go_simp)
        all_goals (with_reducible rfl)
      (try simp only [List.getElem_toArray, List.getElem_cons_zero, List.getElem_cons_succ, Act.put, List.setIfInBounds_toArray, List.set_cons_zero, List.set_cons_succ])
      refine wpAnyH_ready (rs := [1, 7]) (by kernel_rfl) (by simp) ?_
      refine AllReadyH.cons rfl (fun K hK => ?_) (AllReadyH.cons rfl (fun K hK => ?_) AllReadyH.nil)
      · go_simp
        refine hK.out _ _ ?_ (fun hHeld => ?_)
        · (try dsimp only)
          (first | (with_reducible exact ⟨cell_dr x0, cell_dr c0, cell_dr c1, cell_dr c2⟩) | (with_reducible exact ⟨cell_dr (cell_al2 _ x0), cell_dr (cell_al2 _ c0), cell_dr (cell_al2 _ c1), cell_dr (cell_al2 _ c2)⟩) | (with_reducible exact ⟨k0, k1, k2, k3⟩) | (with_reducible exact ⟨s0 _, s1 _, s2 _, s3 _⟩))
        clear hK K
        (try simp only [List.getElem_toArray, List.getElem_cons_zero, List.getElem_cons_succ, Act.put, List.setIfInBounds_toArray, List.set_cons_zero, List.set_cons_succ])
        refine wpAnyH_ready (rs := [7]) (by kernel_rfl) (by simp) ?_
        refine AllReadyH.cons rfl (fun K hK => ?_) AllReadyH.nil
        go_simp
        refine hK.out _ _ ?_ (fun hHeld => ?_)
        · (try dsimp only)
          (first | (with_reducible exact ⟨cell_dr x0, cell_dr c0, cell_dr c1, cell_dr c2⟩) | (with_reducible exact ⟨cell_dr (cell_al2 _ x0), cell_dr (cell_al2 _ c0), cell_dr (cell_al2 _ c1), cell_dr (cell_al2 _ c2)⟩) | (with_reducible exact ⟨k0, k1, k2, k3⟩) | (with_reducible exact ⟨s0 _, s1 _, s2 _, s3 _⟩))
        clear hK K
        (try simp only [List.getElem_toArray, List.getElem_cons_zero, List.getElem_cons_succ, Act.put, List.setIfInBounds_toArray, List.set_cons_zero, List.set_cons_succ])
        refine wpAnyH_ready (rs := [8]) (by kernel_rfl) (by simp) ?_
        refine AllReadyH.cons rfl (fun K hK => ?_) AllReadyH.nil
        refine step_append_lies _ (by rfl) _ _ _ (by rfl) (w.heap.size + 3) 26 i9 _ 3 32 Tryd.underlying22 hi0 hzi hz1 hz2 rfl (by omega) (.slice av k cv) k (lkc (held.take k)) (by rfl) ((HO.out.alloc _).drew) ⟨wr.heap.size, 0, none⟩ 1 1 [.int .i64 ut, .string uth, .int .i64 um] (by rfl) (by rfl) (World.news_of_block (cs := #[.int .i64 ut, .string uth, .int .i64 um]) (t := 26) (fr := (0, 0)) (heap_alloc_new wr _)) (by simp [Value.oneCell']) (by omega) (by unfold maxLen; omega) (by omega) (by simp; omega) (wr.heap.size + 1) (by simp) ?_
        intro gg cap1 w4 hown4 hgrow hat4 hlt4
        have k0 := (hgrow.cell_far ⟨w.heap.size, 0, none⟩ (by simp; omega) (HNE.out w.heap.size (by omega))).trans (cell_dr (cell_al2 (.cells #[.int .i64 ut, .string uth, .int .i64 um] 26) x0))
        have k1 := (hgrow.cell_far ⟨b, o + k * 3, none⟩ (by simp; omega) (HNE.out b (by omega))).trans (cell_dr (cell_al2 (.cells #[.int .i64 ut, .string uth, .int .i64 um] 26) c0))
        have k2 := (hgrow.cell_far ⟨b, o + k * 3 + 1, none⟩ (by simp; omega) (HNE.out b (by omega))).trans (cell_dr (cell_al2 (.cells #[.int .i64 ut, .string uth, .int .i64 um] 26) c1))
        have k3 := (hgrow.cell_far ⟨b, o + k * 3 + 2, none⟩ (by simp; omega) (HNE.out b (by omega))).trans (cell_dr (cell_al2 (.cells #[.int .i64 ut, .string uth, .int .i64 um] 26) c2))
        have s0 := fun v => (World.cell?_setCell_far w4 ⟨w.heap.size + 1 + 1, 0, none⟩ ⟨w.heap.size, 0, none⟩ v (by show w.heap.size + 1 + 1 ≠ w.heap.size; omega)).trans k0
        have s1 := fun v => (World.cell?_setCell_far w4 ⟨w.heap.size + 1 + 1, 0, none⟩ ⟨b, o + k * 3, none⟩ v (by show w.heap.size + 1 + 1 ≠ b; omega)).trans k1
        have s2 := fun v => (World.cell?_setCell_far w4 ⟨w.heap.size + 1 + 1, 0, none⟩ ⟨b, o + k * 3 + 1, none⟩ v (by show w.heap.size + 1 + 1 ≠ b; omega)).trans k2
        have s3 := fun v => (World.cell?_setCell_far w4 ⟨w.heap.size + 1 + 1, 0, none⟩ ⟨b, o + k * 3 + 2, none⟩ v (by show w.heap.size + 1 + 1 ≠ b; omega)).trans k3
        have hc4 := (hgrow.cell_far ⟨w.heap.size + 1 + 1, 0, none⟩ (by simp; omega) (HNE.out (w.heap.size + 1 + 1) (by omega))).trans (cell_dr (cell_al2 (.cells #[.int .i64 ut, .string uth, .int .i64 um] 26) y0))
        have hf4 := (hgrow.frozen_far ⟨w.heap.size + 1 + 1, 0, none⟩ (by simp; omega) (HNE.out (w.heap.size + 1 + 1) (by omega))).trans (frz_al (.cells #[.int .i64 ut, .string uth, .int .i64 um] 26) y0 f0)
        refine hK.out _ _ ?_ (fun hHeld => ?_)
        · (try dsimp only)
          (first | (with_reducible exact ⟨cell_dr x0, cell_dr c0, cell_dr c1, cell_dr c2⟩) | (with_reducible exact ⟨cell_dr (cell_al2 _ x0), cell_dr (cell_al2 _ c0), cell_dr (cell_al2 _ c1), cell_dr (cell_al2 _ c2)⟩) | (with_reducible exact ⟨k0, k1, k2, k3⟩) | (with_reducible exact ⟨s0 _, s1 _, s2 _, s3 _⟩))
        clear hK K
        (try simp only [List.getElem_toArray, List.getElem_cons_zero, List.getElem_cons_succ, Act.put, List.setIfInBounds_toArray, List.set_cons_zero, List.set_cons_succ])
        refine wpAnyH_take (i := 9) (oi := _) (v := ?_) rfl (by kernel_rfl) (by kernel_rfl) (by kernel_rfl) (fun _ _ _ h => h) (Or.inl ⟨by rfl, ?_⟩) (by assumption) ?_
        rotate_left
        · (intro w hSw; (try dsimp only at hSw); go_simp)
          all_goals (with_reducible rfl)
        (try simp only [List.getElem_toArray, List.getElem_cons_zero, List.getElem_cons_succ, Act.put, List.setIfInBounds_toArray, List.set_cons_zero, List.set_cons_succ])
        refine wpAnyH_ready (rs := [10]) (by kernel_rfl) (by simp) ?_
        refine AllReadyH.cons rfl (fun K hK => ?_) AllReadyH.nil
        go_simp
        refine hK.out _ _ ?_ (fun hHeld => ?_)
        · (try dsimp only)
          (first | (with_reducible exact ⟨cell_dr x0, cell_dr c0, cell_dr c1, cell_dr c2⟩) | (with_reducible exact ⟨cell_dr (cell_al2 _ x0), cell_dr (cell_al2 _ c0), cell_dr (cell_al2 _ c1), cell_dr (cell_al2 _ c2)⟩) | (with_reducible exact ⟨k0, k1, k2, k3⟩) | (with_reducible exact ⟨s0 _, s1 _, s2 _, s3 _⟩))
        clear hK K
        (try simp only [List.getElem_toArray, List.getElem_cons_zero, List.getElem_cons_succ, Act.put, List.setIfInBounds_toArray, List.set_cons_zero, List.set_cons_succ])
        refine wpAnyH_done (by kernel_rfl) ?_ _
        obtain ⟨r1, r2, r3⟩ := row_step (j := 0) (v := .slice (some ⟨gg, 0, none⟩) (k + 1) cap1) (C := w.heap.size + 1 + 1) (by omega) hz0 HGR.out HO.out hown4 hgrow
        have HR := Lib.hid (And.intro r1 (And.intro r2 r3))
        clear r1 r2 r3 hown4 hgrow hat4 hlt4 k0 k1 k2 k3 s0 s1 s2 s3 hc4 hf4 hHeld c0 c1 c2 x0 y0 y1 f0 f1 yA
        go_wp2_with fail
        go_roundw
        case rel =>
          refine ⟨k + 1, some ⟨gg, 0, none⟩, cap1, by omega, by go_num, ?_, ?_, HR.out.2.1⟩
          · have e := lkc_next (l := held) (k := k) (by have := HMH.out; omega)
            rw [← HU.out] at e
            rw [e]
            exact HR.out.1
          · show _ = _
            rw [Lib.heap_setCell_same (HR.out.2.2.trans HBX.out)]
            rfl
        case measure => simp [intOf]; omega
      · go_simp
        refine hK.out _ _ ?_ (fun hHeld => ?_)
        · (try dsimp only)
          (first | (with_reducible exact ⟨cell_dr x0, cell_dr c0, cell_dr c1, cell_dr c2⟩) | (with_reducible exact ⟨cell_dr (cell_al2 _ x0), cell_dr (cell_al2 _ c0), cell_dr (cell_al2 _ c1), cell_dr (cell_al2 _ c2)⟩) | (with_reducible exact ⟨k0, k1, k2, k3⟩) | (with_reducible exact ⟨s0 _, s1 _, s2 _, s3 _⟩))
        clear hK K
        (try simp only [List.getElem_toArray, List.getElem_cons_zero, List.getElem_cons_succ, Act.put, List.setIfInBounds_toArray, List.set_cons_zero, List.set_cons_succ])
        refine wpAnyH_ready (rs := [1]) (by kernel_rfl) (by simp) ?_
        refine AllReadyH.cons rfl (fun K hK => ?_) AllReadyH.nil
        go_simp
        refine hK.out _ _ ?_ (fun hHeld => ?_)
        · (try dsimp only)
          (first | (with_reducible exact ⟨cell_dr x0, cell_dr c0, cell_dr c1, cell_dr c2⟩) | (with_reducible exact ⟨cell_dr (cell_al2 _ x0), cell_dr (cell_al2 _ c0), cell_dr (cell_al2 _ c1), cell_dr (cell_al2 _ c2)⟩) | (with_reducible exact ⟨k0, k1, k2, k3⟩) | (with_reducible exact ⟨s0 _, s1 _, s2 _, s3 _⟩))
        clear hK K
        (try simp only [List.getElem_toArray, List.getElem_cons_zero, List.getElem_cons_succ, Act.put, List.setIfInBounds_toArray, List.set_cons_zero, List.set_cons_succ])
        refine wpAnyH_ready (rs := [8]) (by kernel_rfl) (by simp) ?_
        refine AllReadyH.cons rfl (fun K hK => ?_) AllReadyH.nil
        refine step_append_lies _ (by rfl) _ _ _ (by rfl) (w.heap.size + 3) 26 i9 _ 3 32 Tryd.underlying22 hi0 hzi hz1 hz2 rfl (by omega) (.slice av k cv) k (lkc (held.take k)) (by rfl) ((HO.out.alloc _).drew) ⟨wr.heap.size, 0, none⟩ 1 1 [.int .i64 ut, .string uth, .int .i64 um] (by rfl) (by rfl) (World.news_of_block (cs := #[.int .i64 ut, .string uth, .int .i64 um]) (t := 26) (fr := (0, 0)) (heap_alloc_new wr _)) (by simp [Value.oneCell']) (by omega) (by unfold maxLen; omega) (by omega) (by simp; omega) (wr.heap.size + 1) (by simp) ?_
        intro gg cap1 w4 hown4 hgrow hat4 hlt4
        have k0 := (hgrow.cell_far ⟨w.heap.size, 0, none⟩ (by simp; omega) (HNE.out w.heap.size (by omega))).trans (cell_dr (cell_al2 (.cells #[.int .i64 ut, .string uth, .int .i64 um] 26) x0))
        have k1 := (hgrow.cell_far ⟨b, o + k * 3, none⟩ (by simp; omega) (HNE.out b (by omega))).trans (cell_dr (cell_al2 (.cells #[.int .i64 ut, .string uth, .int .i64 um] 26) c0))
        have k2 := (hgrow.cell_far ⟨b, o + k * 3 + 1, none⟩ (by simp; omega) (HNE.out b (by omega))).trans (cell_dr (cell_al2 (.cells #[.int .i64 ut, .string uth, .int .i64 um] 26) c1))
        have k3 := (hgrow.cell_far ⟨b, o + k * 3 + 2, none⟩ (by simp; omega) (HNE.out b (by omega))).trans (cell_dr (cell_al2 (.cells #[.int .i64 ut, .string uth, .int .i64 um] 26) c2))
        have s0 := fun v => (World.cell?_setCell_far w4 ⟨w.heap.size + 1 + 1, 0, none⟩ ⟨w.heap.size, 0, none⟩ v (by show w.heap.size + 1 + 1 ≠ w.heap.size; omega)).trans k0
        have s1 := fun v => (World.cell?_setCell_far w4 ⟨w.heap.size + 1 + 1, 0, none⟩ ⟨b, o + k * 3, none⟩ v (by show w.heap.size + 1 + 1 ≠ b; omega)).trans k1
        have s2 := fun v => (World.cell?_setCell_far w4 ⟨w.heap.size + 1 + 1, 0, none⟩ ⟨b, o + k * 3 + 1, none⟩ v (by show w.heap.size + 1 + 1 ≠ b; omega)).trans k2
        have s3 := fun v => (World.cell?_setCell_far w4 ⟨w.heap.size + 1 + 1, 0, none⟩ ⟨b, o + k * 3 + 2, none⟩ v (by show w.heap.size + 1 + 1 ≠ b; omega)).trans k3
        have hc4 := (hgrow.cell_far ⟨w.heap.size + 1 + 1, 0, none⟩ (by simp; omega) (HNE.out (w.heap.size + 1 + 1) (by omega))).trans (cell_dr (cell_al2 (.cells #[.int .i64 ut, .string uth, .int .i64 um] 26) y0))
        have hf4 := (hgrow.frozen_far ⟨w.heap.size + 1 + 1, 0, none⟩ (by simp; omega) (HNE.out (w.heap.size + 1 + 1) (by omega))).trans (frz_al (.cells #[.int .i64 ut, .string uth, .int .i64 um] 26) y0 f0)
        refine hK.out _ _ ?_ (fun hHeld => ?_)
        · (try dsimp only)
          (first | (with_reducible exact ⟨cell_dr x0, cell_dr c0, cell_dr c1, cell_dr c2⟩) | (with_reducible exact ⟨cell_dr (cell_al2 _ x0), cell_dr (cell_al2 _ c0), cell_dr (cell_al2 _ c1), cell_dr (cell_al2 _ c2)⟩) | (with_reducible exact ⟨k0, k1, k2, k3⟩) | (with_reducible exact ⟨s0 _, s1 _, s2 _, s3 _⟩))
        clear hK K
        (try simp only [List.getElem_toArray, List.getElem_cons_zero, List.getElem_cons_succ, Act.put, List.setIfInBounds_toArray, List.set_cons_zero, List.set_cons_succ])
        refine wpAnyH_take (i := 9) (oi := _) (v := ?_) rfl (by kernel_rfl) (by kernel_rfl) (by kernel_rfl) (fun _ _ _ h => h) (Or.inl ⟨by rfl, ?_⟩) (by assumption) ?_
        rotate_left
        · (intro w hSw; (try dsimp only at hSw); go_simp)
          all_goals (with_reducible rfl)
        (try simp only [List.getElem_toArray, List.getElem_cons_zero, List.getElem_cons_succ, Act.put, List.setIfInBounds_toArray, List.set_cons_zero, List.set_cons_succ])
        refine wpAnyH_ready (rs := [10]) (by kernel_rfl) (by simp) ?_
        refine AllReadyH.cons rfl (fun K hK => ?_) AllReadyH.nil
        go_simp
        refine hK.out _ _ ?_ (fun hHeld => ?_)
        · (try dsimp only)
          (first | (with_reducible exact ⟨cell_dr x0, cell_dr c0, cell_dr c1, cell_dr c2⟩) | (with_reducible exact ⟨cell_dr (cell_al2 _ x0), cell_dr (cell_al2 _ c0), cell_dr (cell_al2 _ c1), cell_dr (cell_al2 _ c2)⟩) | (with_reducible exact ⟨k0, k1, k2, k3⟩) | (with_reducible exact ⟨s0 _, s1 _, s2 _, s3 _⟩))
        clear hK K
        (try simp only [List.getElem_toArray, List.getElem_cons_zero, List.getElem_cons_succ, Act.put, List.setIfInBounds_toArray, List.set_cons_zero, List.set_cons_succ])
        refine wpAnyH_done (by kernel_rfl) ?_ _
        obtain ⟨r1, r2, r3⟩ := row_step (j := 0) (v := .slice (some ⟨gg, 0, none⟩) (k + 1) cap1) (C := w.heap.size + 1 + 1) (by omega) hz0 HGR.out HO.out hown4 hgrow
        have HR := Lib.hid (And.intro r1 (And.intro r2 r3))
        clear r1 r2 r3 hown4 hgrow hat4 hlt4 k0 k1 k2 k3 s0 s1 s2 s3 hc4 hf4 hHeld c0 c1 c2 x0 y0 y1 f0 f1 yA
        go_wp2_with fail
        go_roundw
        case rel =>
          refine ⟨k + 1, some ⟨gg, 0, none⟩, cap1, by omega, by go_num, ?_, ?_, HR.out.2.1⟩
          · have e := lkc_next (l := held) (k := k) (by have := HMH.out; omega)
            rw [← HU.out] at e
            rw [e]
            exact HR.out.1
          · show _ = _
            rw [Lib.heap_setCell_same (HR.out.2.2.trans HBX.out)]
            rfl
        case measure => simp [intOf]; omega
    · obtain rfl : nh = k := by omega
      have e : held.take nh = held := List.take_of_length_le (by have := HMH.out; omega)
      have HE := Lib.hid e
      have X1 := Lib.hid (HGR.out.cell (box2 G1.out).2.1 (fun e => absurd (Option.some.inj e) (by show w.heap.size ≠ w.heap.size + 1 + 1; omega)))
      have HG2 := Lib.hid ((HGR.out.block (w.heap.size + 1) (by omega) (fun e => absurd (Option.some.inj e) (by omega))).trans G2.out)
      have HB1 := Lib.hid (HB0.out.trans (gc_old HGR.out (B := w.heap.size) (by omega) (by omega)))
      have HBX1 := HBX
      have HO1 := HO
      clear e
      go_wp2_with fail
      clear x0
      obtain ⟨av1, rfl⟩ : ∃ a, a = av := ⟨_, rfl⟩
      obtain ⟨cv1, rfl⟩ : ∃ c, c = cv := ⟨_, rfl⟩
      obtain ⟨W1, rfl⟩ : ∃ W1, W1 = wr := ⟨_, rfl⟩
      have hW1z : w.heap.size + 3 ≤ W1.heap.size := by omega
      clear HBX HO HGR hzr
      go_loopw [5] (fun i wr => ∃ (k : Nat) (av : Option Addr) (cv : Nat), k ≤ n ∧ i = .int .i64 (k : Int) ∧ Hid (wr.ownsRow (W1.heap.size) 26 3 (.slice av k cv) k (lkc (l.take k))) ∧ Hid (wr.heap[w.heap.size + 1 + 1]? = some (.cells #[.slice av1 nh cv1, .slice av k cv] 24 (0, 0))) ∧ Hid (W1.grownBy wr (some (w.heap.size + 1 + 1)))) (fun i _ => n - (intOf i).toNat)
      case atStart => exact ⟨0, none, 0, by omega, rfl, World.ownsRow_nil _ _ _ _, HBX1.out, World.grownBy.refl _ _⟩
      case round =>
        obtain ⟨k, av, cv, hk, rfl, HO, HBX, HGR⟩ := hrel
        have hzr := HGR.out.size
        have x0 := HGR.out.cell X1.out (fun e => absurd (Option.some.inj e) (by show w.heap.size ≠ w.heap.size + 1 + 1; omega))
        have q0 := x0
        have q1 := x0
        clear q0 q1
        by_cases hlt : k < n
        · obtain ⟨b, o, cap, hsh, hcap, hcm, hbw, hcell⟩ := lks_of HRQ.out (by omega)
          simp only [Value.slice.injEq] at hsh
          obtain ⟨rfl, -, hcc⟩ := hsh
          subst hcc
          unfold maxLen at hcm
          obtain ⟨e0, e1, e2⟩ := hcell k hlt
          obtain ⟨u, hu⟩ : ∃ u, u = l.getD k nlk := ⟨_, rfl⟩
          rw [← hu] at e0 e1 e2
          have HU := Lib.hid hu
          have c0 := HGR.out.cell ((HB1.out.cell (p := ⟨b, o + k * 3, none⟩) hbw).trans e0) (fun e => absurd (Option.some.inj e) (by show b ≠ w.heap.size + 1 + 1; omega))
          have c1 := HGR.out.cell ((HB1.out.cell (p := ⟨b, o + k * 3 + 1, none⟩) hbw).trans e1) (fun e => absurd (Option.some.inj e) (by show b ≠ w.heap.size + 1 + 1; omega))
          have c2 := HGR.out.cell ((HB1.out.cell (p := ⟨b, o + k * 3 + 2, none⟩) hbw).trans e2) (fun e => absurd (Option.some.inj e) (by show b ≠ w.heap.size + 1 + 1; omega))
          obtain ⟨ut, uth, um⟩ := u
          simp only at c0 c1 c2
          obtain ⟨y0, y1, f0, f1⟩ := box2 HBX.out
          have hne : ∀ q, q < W1.heap.size → some q ≠ (Value.slice av k cv).ownBlock := fun q h e => by have := (HO.out.lt _ e.symm).1; omega
          have HNE := Lib.hid hne
          have i0 : (0 : Int) ≤ (k : Int) := by omega
          have i1 : (k : Int) < (n : Int) := by omega
          clear e0 e1 e2 hcell hne hu
          have yA := cell_al2 (.cells #[.int .i64 ut, .string uth, .int .i64 um] 26) y1
          go_wp2_with fail
          refine wp_region_held_drew (S := (fun wx => wx.cell? ⟨w.heap.size, 1, none⟩ = some (.slice (some ⟨b, o, none⟩) n cq) ∧ wx.cell? ⟨b, o + k * 3, none⟩ = some (.int .i64 ut) ∧ wx.cell? ⟨b, o + k * 3 + 1, none⟩ = some (.string uth) ∧ wx.cell? ⟨b, o + k * 3 + 2, none⟩ = some (.int .i64 um))) (by kernel_rfl) ?_ (fun hHeld => ?_)
          · (try dsimp only)
            (first | (with_reducible exact ⟨cell_dr x0, cell_dr c0, cell_dr c1, cell_dr c2⟩) | (with_reducible exact ⟨cell_dr (cell_al2 _ x0), cell_dr (cell_al2 _ c0), cell_dr (cell_al2 _ c1), cell_dr (cell_al2 _ c2)⟩) | (with_reducible exact ⟨k0, k1, k2, k3⟩) | (with_reducible exact ⟨s0 _, s1 _, s2 _, s3 _⟩))
          refine wpAnyH_take (i := 0) (oi := _) (v := ?_) rfl (by kernel_rfl) (by kernel_rfl) (by kernel_rfl) (fun _ _ _ h => h) (Or.inl ⟨by rfl, ?_⟩) (by assumption) ?_
          rotate_left
          · (intro w hSw; (try dsimp only at hSw); go_simp)
            all_goals (with_reducible rfl)
          (try simp only [List.getElem_toArray, List.getElem_cons_zero, List.getElem_cons_succ, Act.put, List.setIfInBounds_toArray, List.set_cons_zero, List.set_cons_succ])
          refine wpAnyH_take (i := 2) (oi := _) (v := ?_) rfl (by kernel_rfl) (by kernel_rfl) (by kernel_rfl) (fun _ _ _ h => h) (Or.inl ⟨by rfl, ?_⟩) (by assumption) ?_
          rotate_left
          · (intro w hSw; (try dsimp only at hSw); go_simp)
            all_goals (with_reducible rfl)
          (try simp only [List.getElem_toArray, List.getElem_cons_zero, List.getElem_cons_succ, Act.put, List.setIfInBounds_toArray, List.set_cons_zero, List.set_cons_succ])
          refine wpAnyH_take (i := 3) (oi := _) (v := ?_) rfl (by kernel_rfl) (by kernel_rfl) (by kernel_rfl) (fun _ _ _ h => h) (Or.inl ⟨by rfl, ?_⟩) (by assumption) ?_
          rotate_left
          · (intro w hSw; (try dsimp only at hSw); go_simp)
            all_goals (with_reducible rfl)
          (try simp only [List.getElem_toArray, List.getElem_cons_zero, List.getElem_cons_succ, Act.put, List.setIfInBounds_toArray, List.set_cons_zero, List.set_cons_succ])
          refine wpAnyH_take (i := 4) (oi := _) (v := ?_) rfl (by kernel_rfl) (by kernel_rfl) (by kernel_rfl) (fun _ _ _ h => h) (Or.inl ⟨by rfl, ?_⟩) (by assumption) ?_
          rotate_left
          · (intro w hSw; (try dsimp only at hSw); go_simp)
            all_goals (with_reducible rfl)
          (try simp only [List.getElem_toArray, List.getElem_cons_zero, List.getElem_cons_succ, Act.put, List.setIfInBounds_toArray, List.set_cons_zero, List.set_cons_succ])
          refine wpAnyH_take (i := 5) (oi := _) (v := ?_) rfl (by kernel_rfl) (by kernel_rfl) (by kernel_rfl) (fun _ _ _ h => h) (Or.inl ⟨by rfl, ?_⟩) (by assumption) ?_
          rotate_left
          · (intro w hSw; (try dsimp only at hSw); go_simp)
            all_goals (with_reducible rfl)
          (try simp only [List.getElem_toArray, List.getElem_cons_zero, List.getElem_cons_succ, Act.put, List.setIfInBounds_toArray, List.set_cons_zero, List.set_cons_succ])
          refine wpAnyH_take (i := 6) (oi := _) (v := ?_) rfl (by kernel_rfl) (by kernel_rfl) (by kernel_rfl) (fun _ _ _ h => h) (Or.inl ⟨by rfl, ?_⟩) (by assumption) ?_
          rotate_left
          · (intro w hSw; (try dsimp only at hSw); go_simp)
            all_goals (with_reducible rfl)
          (try simp only [List.getElem_toArray, List.getElem_cons_zero, List.getElem_cons_succ, Act.put, List.setIfInBounds_toArray, List.set_cons_zero, List.set_cons_succ])
          refine wpAnyH_ready (rs := [1, 7]) (by kernel_rfl) (by simp) ?_
          refine AllReadyH.cons rfl (fun K hK => ?_) (AllReadyH.cons rfl (fun K hK => ?_) AllReadyH.nil)
          · go_simp
            refine hK.out _ _ ?_ (fun hHeld => ?_)
            · (try dsimp only)
              (first | (with_reducible exact ⟨cell_dr x0, cell_dr c0, cell_dr c1, cell_dr c2⟩) | (with_reducible exact ⟨cell_dr (cell_al2 _ x0), cell_dr (cell_al2 _ c0), cell_dr (cell_al2 _ c1), cell_dr (cell_al2 _ c2)⟩) | (with_reducible exact ⟨k0, k1, k2, k3⟩) | (with_reducible exact ⟨s0 _, s1 _, s2 _, s3 _⟩))
            clear hK K
            (try simp only [List.getElem_toArray, List.getElem_cons_zero, List.getElem_cons_succ, Act.put, List.setIfInBounds_toArray, List.set_cons_zero, List.set_cons_succ])
            refine wpAnyH_ready (rs := [7]) (by kernel_rfl) (by simp) ?_
            refine AllReadyH.cons rfl (fun K hK => ?_) AllReadyH.nil
            go_simp
            refine hK.out _ _ ?_ (fun hHeld => ?_)
            · (try dsimp only)
              (first | (with_reducible exact ⟨cell_dr x0, cell_dr c0, cell_dr c1, cell_dr c2⟩) | (with_reducible exact ⟨cell_dr (cell_al2 _ x0), cell_dr (cell_al2 _ c0), cell_dr (cell_al2 _ c1), cell_dr (cell_al2 _ c2)⟩) | (with_reducible exact ⟨k0, k1, k2, k3⟩) | (with_reducible exact ⟨s0 _, s1 _, s2 _, s3 _⟩))
            clear hK K
            (try simp only [List.getElem_toArray, List.getElem_cons_zero, List.getElem_cons_succ, Act.put, List.setIfInBounds_toArray, List.set_cons_zero, List.set_cons_succ])
            refine wpAnyH_ready (rs := [8]) (by kernel_rfl) (by simp) ?_
            refine AllReadyH.cons rfl (fun K hK => ?_) AllReadyH.nil
            refine step_append_lies _ (by rfl) _ _ _ (by rfl) (W1.heap.size) 26 i9 _ 3 32 Tryd.underlying22 hi0 hzi hz1 hz2 rfl (by omega) (.slice av k cv) k (lkc (l.take k)) (by rfl) ((HO.out.alloc _).drew) ⟨wr.heap.size, 0, none⟩ 1 1 [.int .i64 ut, .string uth, .int .i64 um] (by rfl) (by rfl) (World.news_of_block (cs := #[.int .i64 ut, .string uth, .int .i64 um]) (t := 26) (fr := (0, 0)) (heap_alloc_new wr _)) (by simp [Value.oneCell']) (by omega) (by unfold maxLen; omega) (by omega) (by simp; omega) (wr.heap.size + 1) (by simp) ?_
            intro gg cap1 w4 hown4 hgrow hat4 hlt4
            have k0 := (hgrow.cell_far ⟨w.heap.size, 1, none⟩ (by simp; omega) (HNE.out w.heap.size (by omega))).trans (cell_dr (cell_al2 (.cells #[.int .i64 ut, .string uth, .int .i64 um] 26) x0))
            have k1 := (hgrow.cell_far ⟨b, o + k * 3, none⟩ (by simp; omega) (HNE.out b (by omega))).trans (cell_dr (cell_al2 (.cells #[.int .i64 ut, .string uth, .int .i64 um] 26) c0))
            have k2 := (hgrow.cell_far ⟨b, o + k * 3 + 1, none⟩ (by simp; omega) (HNE.out b (by omega))).trans (cell_dr (cell_al2 (.cells #[.int .i64 ut, .string uth, .int .i64 um] 26) c1))
            have k3 := (hgrow.cell_far ⟨b, o + k * 3 + 2, none⟩ (by simp; omega) (HNE.out b (by omega))).trans (cell_dr (cell_al2 (.cells #[.int .i64 ut, .string uth, .int .i64 um] 26) c2))
            have s0 := fun v => (World.cell?_setCell_far w4 ⟨w.heap.size + 1 + 1, 1, none⟩ ⟨w.heap.size, 1, none⟩ v (by show w.heap.size + 1 + 1 ≠ w.heap.size; omega)).trans k0
            have s1 := fun v => (World.cell?_setCell_far w4 ⟨w.heap.size + 1 + 1, 1, none⟩ ⟨b, o + k * 3, none⟩ v (by show w.heap.size + 1 + 1 ≠ b; omega)).trans k1
            have s2 := fun v => (World.cell?_setCell_far w4 ⟨w.heap.size + 1 + 1, 1, none⟩ ⟨b, o + k * 3 + 1, none⟩ v (by show w.heap.size + 1 + 1 ≠ b; omega)).trans k2
            have s3 := fun v => (World.cell?_setCell_far w4 ⟨w.heap.size + 1 + 1, 1, none⟩ ⟨b, o + k * 3 + 2, none⟩ v (by show w.heap.size + 1 + 1 ≠ b; omega)).trans k3
            have hc4 := (hgrow.cell_far ⟨w.heap.size + 1 + 1, 1, none⟩ (by simp; omega) (HNE.out (w.heap.size + 1 + 1) (by omega))).trans (cell_dr (cell_al2 (.cells #[.int .i64 ut, .string uth, .int .i64 um] 26) y1))
            have hf4 := (hgrow.frozen_far ⟨w.heap.size + 1 + 1, 1, none⟩ (by simp; omega) (HNE.out (w.heap.size + 1 + 1) (by omega))).trans (frz_al (.cells #[.int .i64 ut, .string uth, .int .i64 um] 26) y1 f1)
            refine hK.out _ _ ?_ (fun hHeld => ?_)
            · (try dsimp only)
              (first | (with_reducible exact ⟨cell_dr x0, cell_dr c0, cell_dr c1, cell_dr c2⟩) | (with_reducible exact ⟨cell_dr (cell_al2 _ x0), cell_dr (cell_al2 _ c0), cell_dr (cell_al2 _ c1), cell_dr (cell_al2 _ c2)⟩) | (with_reducible exact ⟨k0, k1, k2, k3⟩) | (with_reducible exact ⟨s0 _, s1 _, s2 _, s3 _⟩))
            clear hK K
            (try simp only [List.getElem_toArray, List.getElem_cons_zero, List.getElem_cons_succ, Act.put, List.setIfInBounds_toArray, List.set_cons_zero, List.set_cons_succ])
            refine wpAnyH_take (i := 9) (oi := _) (v := ?_) rfl (by kernel_rfl) (by kernel_rfl) (by kernel_rfl) (fun _ _ _ h => h) (Or.inl ⟨by rfl, ?_⟩) (by assumption) ?_
            rotate_left
            · (intro w hSw; (try dsimp only at hSw); go_simp)
              all_goals (with_reducible rfl)
            (try simp only [List.getElem_toArray, List.getElem_cons_zero, List.getElem_cons_succ, Act.put, List.setIfInBounds_toArray, List.set_cons_zero, List.set_cons_succ])
            refine wpAnyH_ready (rs := [10]) (by kernel_rfl) (by simp) ?_
            refine AllReadyH.cons rfl (fun K hK => ?_) AllReadyH.nil
            go_simp
            refine hK.out _ _ ?_ (fun hHeld => ?_)
            · (try dsimp only)
              (first | (with_reducible exact ⟨cell_dr x0, cell_dr c0, cell_dr c1, cell_dr c2⟩) | (with_reducible exact ⟨cell_dr (cell_al2 _ x0), cell_dr (cell_al2 _ c0), cell_dr (cell_al2 _ c1), cell_dr (cell_al2 _ c2)⟩) | (with_reducible exact ⟨k0, k1, k2, k3⟩) | (with_reducible exact ⟨s0 _, s1 _, s2 _, s3 _⟩))
            clear hK K
            (try simp only [List.getElem_toArray, List.getElem_cons_zero, List.getElem_cons_succ, Act.put, List.setIfInBounds_toArray, List.set_cons_zero, List.set_cons_succ])
            refine wpAnyH_done (by kernel_rfl) ?_ _
            obtain ⟨r1, r2, r3⟩ := row_step (j := 1) (v := .slice (some ⟨gg, 0, none⟩) (k + 1) cap1) (C := w.heap.size + 1 + 1) (by omega) rfl HGR.out HO.out hown4 hgrow
            have HR := Lib.hid (And.intro r1 (And.intro r2 r3))
            clear r1 r2 r3 hown4 hgrow hat4 hlt4 k0 k1 k2 k3 s0 s1 s2 s3 hc4 hf4 hHeld c0 c1 c2 x0 y0 y1 f0 f1 yA
            go_wp2_with fail
            go_roundw
            case rel =>
              refine ⟨k + 1, some ⟨gg, 0, none⟩, cap1, by omega, by go_num, ?_, ?_, HR.out.2.1⟩
              · have e := lkc_next (l := l) (k := k) (by have := HML.out; omega)
                rw [← HU.out] at e
                rw [e]
                exact HR.out.1
              · show _ = _
                rw [Lib.heap_setCell_same (HR.out.2.2.trans HBX.out)]
                rfl
            case measure => simp [intOf]; omega
          · go_simp
            refine hK.out _ _ ?_ (fun hHeld => ?_)
            · (try dsimp only)
              (first | (with_reducible exact ⟨cell_dr x0, cell_dr c0, cell_dr c1, cell_dr c2⟩) | (with_reducible exact ⟨cell_dr (cell_al2 _ x0), cell_dr (cell_al2 _ c0), cell_dr (cell_al2 _ c1), cell_dr (cell_al2 _ c2)⟩) | (with_reducible exact ⟨k0, k1, k2, k3⟩) | (with_reducible exact ⟨s0 _, s1 _, s2 _, s3 _⟩))
            clear hK K
            (try simp only [List.getElem_toArray, List.getElem_cons_zero, List.getElem_cons_succ, Act.put, List.setIfInBounds_toArray, List.set_cons_zero, List.set_cons_succ])
            refine wpAnyH_ready (rs := [1]) (by kernel_rfl) (by simp) ?_
            refine AllReadyH.cons rfl (fun K hK => ?_) AllReadyH.nil
            go_simp
            refine hK.out _ _ ?_ (fun hHeld => ?_)
            · (try dsimp only)
              (first | (with_reducible exact ⟨cell_dr x0, cell_dr c0, cell_dr c1, cell_dr c2⟩) | (with_reducible exact ⟨cell_dr (cell_al2 _ x0), cell_dr (cell_al2 _ c0), cell_dr (cell_al2 _ c1), cell_dr (cell_al2 _ c2)⟩) | (with_reducible exact ⟨k0, k1, k2, k3⟩) | (with_reducible exact ⟨s0 _, s1 _, s2 _, s3 _⟩))
            clear hK K
            (try simp only [List.getElem_toArray, List.getElem_cons_zero, List.getElem_cons_succ, Act.put, List.setIfInBounds_toArray, List.set_cons_zero, List.set_cons_succ])
            refine wpAnyH_ready (rs := [8]) (by kernel_rfl) (by simp) ?_
            refine AllReadyH.cons rfl (fun K hK => ?_) AllReadyH.nil
            refine step_append_lies _ (by rfl) _ _ _ (by rfl) (W1.heap.size) 26 i9 _ 3 32 Tryd.underlying22 hi0 hzi hz1 hz2 rfl (by omega) (.slice av k cv) k (lkc (l.take k)) (by rfl) ((HO.out.alloc _).drew) ⟨wr.heap.size, 0, none⟩ 1 1 [.int .i64 ut, .string uth, .int .i64 um] (by rfl) (by rfl) (World.news_of_block (cs := #[.int .i64 ut, .string uth, .int .i64 um]) (t := 26) (fr := (0, 0)) (heap_alloc_new wr _)) (by simp [Value.oneCell']) (by omega) (by unfold maxLen; omega) (by omega) (by simp; omega) (wr.heap.size + 1) (by simp) ?_
            intro gg cap1 w4 hown4 hgrow hat4 hlt4
            have k0 := (hgrow.cell_far ⟨w.heap.size, 1, none⟩ (by simp; omega) (HNE.out w.heap.size (by omega))).trans (cell_dr (cell_al2 (.cells #[.int .i64 ut, .string uth, .int .i64 um] 26) x0))
            have k1 := (hgrow.cell_far ⟨b, o + k * 3, none⟩ (by simp; omega) (HNE.out b (by omega))).trans (cell_dr (cell_al2 (.cells #[.int .i64 ut, .string uth, .int .i64 um] 26) c0))
            have k2 := (hgrow.cell_far ⟨b, o + k * 3 + 1, none⟩ (by simp; omega) (HNE.out b (by omega))).trans (cell_dr (cell_al2 (.cells #[.int .i64 ut, .string uth, .int .i64 um] 26) c1))
            have k3 := (hgrow.cell_far ⟨b, o + k * 3 + 2, none⟩ (by simp; omega) (HNE.out b (by omega))).trans (cell_dr (cell_al2 (.cells #[.int .i64 ut, .string uth, .int .i64 um] 26) c2))
            have s0 := fun v => (World.cell?_setCell_far w4 ⟨w.heap.size + 1 + 1, 1, none⟩ ⟨w.heap.size, 1, none⟩ v (by show w.heap.size + 1 + 1 ≠ w.heap.size; omega)).trans k0
            have s1 := fun v => (World.cell?_setCell_far w4 ⟨w.heap.size + 1 + 1, 1, none⟩ ⟨b, o + k * 3, none⟩ v (by show w.heap.size + 1 + 1 ≠ b; omega)).trans k1
            have s2 := fun v => (World.cell?_setCell_far w4 ⟨w.heap.size + 1 + 1, 1, none⟩ ⟨b, o + k * 3 + 1, none⟩ v (by show w.heap.size + 1 + 1 ≠ b; omega)).trans k2
            have s3 := fun v => (World.cell?_setCell_far w4 ⟨w.heap.size + 1 + 1, 1, none⟩ ⟨b, o + k * 3 + 2, none⟩ v (by show w.heap.size + 1 + 1 ≠ b; omega)).trans k3
            have hc4 := (hgrow.cell_far ⟨w.heap.size + 1 + 1, 1, none⟩ (by simp; omega) (HNE.out (w.heap.size + 1 + 1) (by omega))).trans (cell_dr (cell_al2 (.cells #[.int .i64 ut, .string uth, .int .i64 um] 26) y1))
            have hf4 := (hgrow.frozen_far ⟨w.heap.size + 1 + 1, 1, none⟩ (by simp; omega) (HNE.out (w.heap.size + 1 + 1) (by omega))).trans (frz_al (.cells #[.int .i64 ut, .string uth, .int .i64 um] 26) y1 f1)
            refine hK.out _ _ ?_ (fun hHeld => ?_)
            · (try dsimp only)
              (first | (with_reducible exact ⟨cell_dr x0, cell_dr c0, cell_dr c1, cell_dr c2⟩) | (with_reducible exact ⟨cell_dr (cell_al2 _ x0), cell_dr (cell_al2 _ c0), cell_dr (cell_al2 _ c1), cell_dr (cell_al2 _ c2)⟩) | (with_reducible exact ⟨k0, k1, k2, k3⟩) | (with_reducible exact ⟨s0 _, s1 _, s2 _, s3 _⟩))
            clear hK K
            (try simp only [List.getElem_toArray, List.getElem_cons_zero, List.getElem_cons_succ, Act.put, List.setIfInBounds_toArray, List.set_cons_zero, List.set_cons_succ])
            refine wpAnyH_take (i := 9) (oi := _) (v := ?_) rfl (by kernel_rfl) (by kernel_rfl) (by kernel_rfl) (fun _ _ _ h => h) (Or.inl ⟨by rfl, ?_⟩) (by assumption) ?_
            rotate_left
            · (intro w hSw; (try dsimp only at hSw); go_simp)
              all_goals (with_reducible rfl)
            (try simp only [List.getElem_toArray, List.getElem_cons_zero, List.getElem_cons_succ, Act.put, List.setIfInBounds_toArray, List.set_cons_zero, List.set_cons_succ])
            refine wpAnyH_ready (rs := [10]) (by kernel_rfl) (by simp) ?_
            refine AllReadyH.cons rfl (fun K hK => ?_) AllReadyH.nil
            go_simp
            refine hK.out _ _ ?_ (fun hHeld => ?_)
            · (try dsimp only)
              (first | (with_reducible exact ⟨cell_dr x0, cell_dr c0, cell_dr c1, cell_dr c2⟩) | (with_reducible exact ⟨cell_dr (cell_al2 _ x0), cell_dr (cell_al2 _ c0), cell_dr (cell_al2 _ c1), cell_dr (cell_al2 _ c2)⟩) | (with_reducible exact ⟨k0, k1, k2, k3⟩) | (with_reducible exact ⟨s0 _, s1 _, s2 _, s3 _⟩))
            clear hK K
            (try simp only [List.getElem_toArray, List.getElem_cons_zero, List.getElem_cons_succ, Act.put, List.setIfInBounds_toArray, List.set_cons_zero, List.set_cons_succ])
            refine wpAnyH_done (by kernel_rfl) ?_ _
            obtain ⟨r1, r2, r3⟩ := row_step (j := 1) (v := .slice (some ⟨gg, 0, none⟩) (k + 1) cap1) (C := w.heap.size + 1 + 1) (by omega) rfl HGR.out HO.out hown4 hgrow
            have HR := Lib.hid (And.intro r1 (And.intro r2 r3))
            clear r1 r2 r3 hown4 hgrow hat4 hlt4 k0 k1 k2 k3 s0 s1 s2 s3 hc4 hf4 hHeld c0 c1 c2 x0 y0 y1 f0 f1 yA
            go_wp2_with fail
            go_roundw
            case rel =>
              refine ⟨k + 1, some ⟨gg, 0, none⟩, cap1, by omega, by go_num, ?_, ?_, HR.out.2.1⟩
              · have e := lkc_next (l := l) (k := k) (by have := HML.out; omega)
                rw [← HU.out] at e
                rw [e]
                exact HR.out.1
              · show _ = _
                rw [Lib.heap_setCell_same (HR.out.2.2.trans HBX.out)]
                rfl
            case measure => simp [intOf]; omega
        · obtain rfl : n = k := by omega
          have e : l.take n = l := List.take_of_length_le (by have := HML.out; omega)
          obtain ⟨y0, y1, f0, f1⟩ := box2 HBX.out
          have g2 := (HGR.out.block (w.heap.size + 1) (by omega) (fun e => absurd (Option.some.inj e) (by omega))).trans HG2.out
          obtain ⟨p0, p1, pf0, pf1⟩ := box2 g2
          obtain ⟨z0, z1⟩ := box2_set (x := .slice av1 nh cv1) (y := .slice av n cv) p0 p1
          have HE2 := Lib.hid e
          clear e g2
          go_wp2_with fail
          refine bodyPost_ret (by simp [results, Tryd.results6, go_sem, z0, z1]; try rfl) rfl ?_
          have hB : Below w.heap.size w wr := HB1.out.trans (gc_old HGR.out (B := w.heap.size) (by omega) (by omega))
          refine ⟨_, _, _, _, rfl, ⟨?_, ?_, fun k e1 e2 => ?_⟩, (hB.setCell (by show w.heap.size ≤ w.heap.size + 1; omega) _).setCell (by show w.heap.size ≤ w.heap.size + 1; omega) _⟩
          · rw [← HMH.out]
            have h := (((HO1.out.kept HGR.out (.inr fun e => by have := (HO1.out.lt _ e).1; omega)).kept (gc_set _ (w.heap.size + 1) 0 (.slice av1 nh cv1)) (.inr fun e => by have := (HO1.out.lt _ e).1; omega)).kept (gc_set _ (w.heap.size + 1) 1 (.slice av n cv)) (.inr fun e => by have := (HO1.out.lt _ e).1; omega))
            rw [HE.out] at h
            exact own_mono h (by omega)
          · rw [← HML.out]
            have h := ((HO.out.kept (gc_set _ (w.heap.size + 1) 0 (.slice av1 nh cv1)) (.inr fun e => by have := (HO.out.lt _ e).1; omega)).kept (gc_set _ (w.heap.size + 1) 1 (.slice av n cv)) (.inr fun e => by have := (HO.out.lt _ e).1; omega))
            rw [HE2.out] at h
            exact own_mono h (by omega)
          · have := (HO1.out.lt _ e1).2
            have := (HO.out.lt _ e2).1
            omega
theorem copy_any (w : World) (nh n : Nat) (hv qv : Value) (held l : List Lk) (hrh : Rd w 3 nh hv (lkc held)) (hr : Rd w 3 n qv (lkc l)) (h1 : nh * 32 ≤ 140737488351232) (h2 : n * 32 ≤ 140737488351232) :
    Calls Tryd.prog 6 #[.agg #[hv, qv]] w fun e w' => ∃ (a1 : Option Addr) (c1 : Nat) (a2 : Option Addr) (c2 : Nat), e = .returned (.agg #[.slice a1 nh c1, .slice a2 n c2]) ∧ Rd w' 3 nh (.slice a1 nh c1) (lkc held) ∧ Rd w' 3 n (.slice a2 n c2) (lkc l) ∧ Below w.heap.size w w' :=
  (copy_two w nh n hv qv held l hrh hr h1 h2).mono fun e w' ⟨a1, c1, a2, c2, he, ht, hb⟩ => ⟨a1, c1, a2, c2, he, by have := ht.h; rw [← len_l hrh] at this; exact Rd.own this, by have := ht.q; rw [← len_l hr] at this; exact Rd.own this, hb⟩
end Go.Proofs.YtpddlckkncmlmaaDoor
