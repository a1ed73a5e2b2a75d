/- A lock of raw numbers. -/
import Derived.Test.YtpddlckkncmlmabDoorMt
import Derived.Test.YtpddlckkncmlmabDoorMo
import Derived.Test.YtpddlckkncmlmabDoorKp
import Derived.Test.YtpddlckkncmlmabDoorB1
namespace Go.Proofs.YtpddlckkncmlmabDoor
open Go.ChangeShapes Go.WideShapes Go.ChangeAt Go.RowKit
set_option linter.unusedVariables false
set_option linter.unusedSimpArgs false
set_option maxHeartbeats 8000000
set_option maxRecDepth 100000
def thL (h : Int) : ByteArray := ⟨#[UInt8.ofNat (97 + (pck h 4).toNat)]⟩
def wiL (x : Wi) : Lk := ⟨1 + pck x.t 6, thL x.h, 1 + pck x.m 5⟩
theorem wiL_in (x : Wi) : (1 ≤ (wiL x).t ∧ (wiL x).t ≤ 6) ∧ frm (wiL x) = 0 := by
  obtain ⟨p1, p2⟩ := pck_in x.t 6 (by omega)
  obtain ⟨q1, q2⟩ := pck_in x.m 5 (by omega)
  refine ⟨⟨by show 1 ≤ 1 + pck x.t 6; omega, by show 1 + pck x.t 6 ≤ 6; omega⟩, frm_ok.2 ⟨⟨by show 1 ≤ 1 + pck x.t 6; omega, by show 1 + pck x.t 6 ≤ 1048576; omega⟩, by show (1 : Nat) ≤ 120; omega, by show 1 ≤ 1 + pck x.m 5; omega, by show 1 + pck x.m 5 ≤ 5; omega⟩⟩
theorem cell_al {W : World} {a : Addr} {v : Value} (o : Obj) (h : W.cell? a = some v) : (W.alloc o).cell? a = some v := (World.cell?_of_block (Below.heap_alloc W _ _ (lt_cell h))).trans h
theorem letter_rd (w : World) (d : Nat) (hd : d < 4) (t : TypeId) (x : Int) (hx : x = 97 + (d : Int)) : Rd (w.alloc (.cells #[.int .u8 x] t)) 1 1 (.slice (some ⟨w.heap.size, 0, none⟩) 1 1) (bc [UInt8.ofNat (97 + d)]) := by
  subst hx
  have e : bc [UInt8.ofNat (97 + d)] = [.int .u8 (97 + (d : Int))] := by
    have : (UInt8.ofNat (97 + d)).toNat = 97 + d := by simp; omega
    show [Value.int .u8 ((UInt8.ofNat (97 + d)).toNat : Int)] = _
    rw [this]
    simp
  rw [e]
  refine ⟨rfl, _, 1, rfl, Nat.le_refl _, by unfold maxLen; omega, (fun h => by cases h), fun ad had j u hu => ?_⟩
  obtain rfl := Option.some.inj had
  exact new_cells w [_] t j u hu
theorem lockOf_any (w : World) (a b c : Int) (ha : Rn a) (hb : Rn b) (hc : Rn c) :
    Calls Tryd.prog 16 #[.agg #[.int .i64 a, .int .i64 b, .int .i64 c]] w fun e w' => e = .returned (lkv (wiL ⟨a, b, c⟩)) ∧ Below w.heap.size w w' := by
  obtain ⟨p1, p2⟩ := pck_in a 6 (by omega)
  obtain ⟨q1, q2⟩ := pck_in b 4 (by omega)
  obtain ⟨r1, r2⟩ := pck_in c 5 (by omega)
  have HPA := Lib.hid (fun W => pck_any a 6 W ha (by omega) (by omega))
  have HPB := Lib.hid (fun W => pck_any b 4 W hb (by omega) (by omega))
  have HPC := Lib.hid (fun W => pck_any c 5 W hc (by omega) (by omega))
  have hv : wiL ⟨a, b, c⟩ = ⟨1 + pck a 6, thL b, 1 + pck c 5⟩ := rfl
  obtain ⟨d, hd⟩ : ∃ d : Nat, pck b 4 = (d : Int) := ⟨(pck b 4).toNat, by omega⟩
  have hth : thL b = ⟨#[UInt8.ofNat (97 + d)]⟩ := by unfold thL; rw [hd]; rfl
  obtain ⟨pa, hpa⟩ : ∃ pa, pa = pck a 6 := ⟨_, rfl⟩
  obtain ⟨pc, hpc⟩ : ∃ pc, pc = pck c 5 := ⟨_, rfl⟩
  rw [hd] at HPB q1 q2
  rw [← hpa] at HPA hv p1 p2
  rw [← hpc] at HPC hv r1 r2
  rw [hth] at hv
  have hy : IntKind.u8.wrap (IntKind.i64.wrap (97 + (d : Int))) = 97 + (d : Int) := by rw [IntKind.wrap_i64, IntKind.wrap_u8]; omega
  have hw1 : IntKind.i64.wrap (1 + pa) = 1 + pa := by rw [IntKind.wrap_i64]; omega
  have hw2 : IntKind.i64.wrap (1 + pc) = 1 + pc := by rw [IntKind.wrap_i64]; omega
  have hds : ∀ w : World, (convert 66 9 (.slice (some ⟨w.heap.size, 0, none⟩) 1 1)).run Tryd.prog (w.alloc (.cells #[.int .u8 (IntKind.u8.wrap (IntKind.i64.wrap (97 + (d : Int))))] 5)) = .ok (.string ⟨#[UInt8.ofNat (97 + d)]⟩) (w.alloc (.cells #[.int .u8 (IntKind.u8.wrap (IntKind.i64.wrap (97 + (d : Int))))] 5)) := fun w => str_of (letter_rd w d (by omega) 5 _ hy)
  have hds2 : ∀ w : World, (convert 66 9 (.slice (some ⟨w.heap.size, 0, none⟩) 1 1)).run Tryd.prog (w.alloc (.cells #[.int .u8 (IntKind.u8.wrap (IntKind.i64.wrap (97 + (d : Int))))] 5)).drew = .ok (.string ⟨#[UInt8.ofNat (97 + d)]⟩) (w.alloc (.cells #[.int .u8 (IntKind.u8.wrap (IntKind.i64.wrap (97 + (d : Int))))] 5)).drew := fun w => str_of ((letter_rd w d (by omega) 5 _ hy).below (Below.refl _ _).drew)
  obtain ⟨W0, hW0⟩ : ∃ W0 : World, W0 = (w.alloc (.cells #[.int .i64 a, .int .i64 b, .int .i64 c] 51)).alloc (.cells #[.int .i64 0, .string ⟨#[]⟩, .int .i64 0] 33) := ⟨_, rfl⟩
  have hb0 : Below w.heap.size w W0 := by rw [hW0]; exact two_below _ _ _
  have hz0 : W0.heap.size = w.heap.size + 1 + 1 := by rw [hW0]; simp
  obtain ⟨g1, g2⟩ := two_new w (.cells #[.int .i64 a, .int .i64 b, .int .i64 c] 51) (.cells #[.int .i64 0, .string ⟨#[]⟩, .int .i64 0] 33)
  rw [← hW0] at g1 g2
  obtain ⟨c0, c1, c2, -, -, -⟩ := has3 g1 (Below.refl _ _)
  obtain ⟨r0, r1', r2', f0, f1, f2⟩ := has3 g2 (Below.refl _ _)
  have far : ∀ (j : Nat) (y : Value) (x : Addr) (u : Value) (W : World), x.block = w.heap.size → W.cell? x = some u → (W.setCell ⟨w.heap.size + 1, j, none⟩ y).cell? x = some u := fun j y x u W hx h => (World.cell?_setCell_far _ _ _ _ (by rw [hx]; show w.heap.size + 1 ≠ w.heap.size; omega)).trans h
  have K0 : ∀ x y z, (((W0.setCell ⟨w.heap.size + 1, 0, none⟩ x).setCell ⟨w.heap.size + 1, 1, none⟩ y).setCell ⟨w.heap.size + 1, 2, none⟩ z).cell? ⟨w.heap.size, 0, none⟩ = some (.int .i64 a) := fun x y z => far 2 z _ _ _ rfl (far 1 y _ _ _ rfl (far 0 x _ _ _ rfl c0))
  have K1 : ∀ x y z, (((W0.setCell ⟨w.heap.size + 1, 0, none⟩ x).setCell ⟨w.heap.size + 1, 1, none⟩ y).setCell ⟨w.heap.size + 1, 2, none⟩ z).cell? ⟨w.heap.size, 1, none⟩ = some (.int .i64 b) := fun x y z => far 2 z _ _ _ rfl (far 1 y _ _ _ rfl (far 0 x _ _ _ rfl c1))
  have K2 : ∀ x y z, (((W0.setCell ⟨w.heap.size + 1, 0, none⟩ x).setCell ⟨w.heap.size + 1, 1, none⟩ y).setCell ⟨w.heap.size + 1, 2, none⟩ z).cell? ⟨w.heap.size, 2, none⟩ = some (.int .i64 c) := fun x y z => far 2 z _ _ _ rfl (far 1 y _ _ _ rfl (far 0 x _ _ _ rfl c2))
  have R : ∀ x y z, (((W0.setCell ⟨w.heap.size + 1, 0, none⟩ x).setCell ⟨w.heap.size + 1, 1, none⟩ y).setCell ⟨w.heap.size + 1, 2, none⟩ z).cell? ⟨w.heap.size + 1, 0, none⟩ = some x ∧ (((W0.setCell ⟨w.heap.size + 1, 0, none⟩ x).setCell ⟨w.heap.size + 1, 1, none⟩ y).setCell ⟨w.heap.size + 1, 2, none⟩ z).cell? ⟨w.heap.size + 1, 1, none⟩ = some y ∧ (((W0.setCell ⟨w.heap.size + 1, 0, none⟩ x).setCell ⟨w.heap.size + 1, 1, none⟩ y).setCell ⟨w.heap.size + 1, 2, none⟩ z).cell? ⟨w.heap.size + 1, 2, none⟩ = some z := fun x y z => by
    have o : ∀ (i j : Nat) (W : World) (v : Value), i ≠ j → (W.setCell ⟨w.heap.size + 1, i, none⟩ v).cell? ⟨w.heap.size + 1, j, none⟩ = W.cell? ⟨w.heap.size + 1, j, none⟩ := fun i j W v h => World.cell?_setCell_other _ _ _ _ (by simp [h])
    exact ⟨(o 2 0 _ _ (by omega)).trans ((o 1 0 _ _ (by omega)).trans (World.cell?_setCell_same _ _ _ r0)), (o 2 1 _ _ (by omega)).trans (World.cell?_setCell_same _ _ _ ((o 0 1 _ _ (by omega)).trans r1')), World.cell?_setCell_same _ _ _ ((o 1 2 _ _ (by omega)).trans ((o 0 2 _ _ (by omega)).trans r2'))⟩
  have HR := Lib.hid R
  have HK := Lib.hid (And.intro K0 (And.intro K1 K2))
  clear far K0 K1 K2 R
  have HW0 := Lib.hid hW0
  have HB0 := Lib.hid hb0
  have HV := Lib.hid hv
  have HY := Lib.hid hy
  have n1 : w.heap.size + 1 ≠ w.heap.size := by omega
  have hd2 := hds2 W0
  rw [hz0] at hd2
  clear hds hds2
  clear g1 g2 hW0 hb0 hv hy hth hd hpa hpc ha hb hc
  go_enter Tryd.func16, Tryd.ntmps16
  go_wp2_with fail
  rw [← HW0.out]
  refine wp_region_held_drew (S := (fun wx => wx.cell? ⟨w.heap.size, 0, none⟩ = some (.int .i64 a) ∧ wx.cell? ⟨w.heap.size, 1, none⟩ = some (.int .i64 b) ∧ wx.cell? ⟨w.heap.size, 2, none⟩ = some (.int .i64 c))) (by kernel_rfl) ?_ (fun hHeld => ?_)
  · (try dsimp only)
    (first | (with_reducible exact ⟨cell_dr c0, cell_dr c1, cell_dr c2⟩) | (with_reducible exact ⟨cell_dr (cell_al _ c0), cell_dr (cell_al _ c1), cell_dr (cell_al _ c2)⟩) | (with_reducible exact ⟨cell_dr (cell_al _ (HK.out.1 _ _ _)), cell_dr (cell_al _ (HK.out.2.1 _ _ _)), cell_dr (cell_al _ (HK.out.2.2 _ _ _))⟩))
  refine wpAnyH_take (i := 0) (oi := _) (v := ?_) rfl (by kernel_rfl) (by kernel_rfl) (by kernel_rfl) (fun _ _ _ h => h) (Or.inl ⟨by rfl, ?_⟩) (by assumption) ?_
  rotate_left
  · (intro w hSw; (try dsimp only at hSw); go_simp)
    all_goals (with_reducible rfl)
  (try simp only [Act.put, List.setIfInBounds_toArray, List.set_cons_zero, List.set_cons_succ])
  refine wpAnyH_take (i := 1) (oi := _) (v := ?_) rfl (by kernel_rfl) (by kernel_rfl) (by kernel_rfl) (fun _ _ _ h => h) (Or.inl ⟨by rfl, ?_⟩) (by assumption) ?_
  rotate_left
  · (intro w hSw; (try dsimp only at hSw); go_simp)
    all_goals (with_reducible rfl)
  (try simp only [Act.put, List.setIfInBounds_toArray, List.set_cons_zero, List.set_cons_succ])
  refine wpAnyH_take (i := 4) (oi := _) (v := ?_) rfl (by kernel_rfl) (by kernel_rfl) (by kernel_rfl) (fun _ _ _ h => h) (Or.inl ⟨by rfl, ?_⟩) (by assumption) ?_
  rotate_left
  · (intro w hSw; (try dsimp only at hSw); go_simp)
    all_goals (with_reducible rfl)
  (try simp only [Act.put, List.setIfInBounds_toArray, List.set_cons_zero, List.set_cons_succ])
  refine wpAnyH_take (i := 5) (oi := _) (v := ?_) rfl (by kernel_rfl) (by kernel_rfl) (by kernel_rfl) (fun _ _ _ h => h) (Or.inl ⟨by rfl, ?_⟩) (by assumption) ?_
  rotate_left
  · (intro w hSw; (try dsimp only at hSw); go_simp)
    all_goals (with_reducible rfl)
  (try simp only [Act.put, List.setIfInBounds_toArray, List.set_cons_zero, List.set_cons_succ])
  refine wpAnyH_take (i := 11) (oi := _) (v := ?_) rfl (by kernel_rfl) (by kernel_rfl) (by kernel_rfl) (fun _ _ _ h => h) (Or.inl ⟨by rfl, ?_⟩) (by assumption) ?_
  rotate_left
  · (intro w hSw; (try dsimp only at hSw); go_simp)
    all_goals (with_reducible rfl)
  (try simp only [Act.put, List.setIfInBounds_toArray, List.set_cons_zero, List.set_cons_succ])
  refine wpAnyH_take (i := 12) (oi := _) (v := ?_) rfl (by kernel_rfl) (by kernel_rfl) (by kernel_rfl) (fun _ _ _ h => h) (Or.inl ⟨by rfl, ?_⟩) (by assumption) ?_
  rotate_left
  · (intro w hSw; (try dsimp only at hSw); go_simp)
    all_goals (with_reducible rfl)
  (try simp only [Act.put, List.setIfInBounds_toArray, List.set_cons_zero, List.set_cons_succ])
  refine wpAnyH_ready (rs := [2]) (by kernel_rfl) (by simp) ?_
  refine AllReadyH.cons rfl (fun K hK => ?_) AllReadyH.nil
  go_simp
  (go_at_call 33; (with_reducible refine (HPA.out _).mono ?_); rintro e w' ⟨rfl, rfl⟩)
  go_wp2_with fail
  refine hK.out _ _ ?_ (fun hHeld => ?_)
  · (try dsimp only)
    (first | (with_reducible exact ⟨cell_dr c0, cell_dr c1, cell_dr c2⟩) | (with_reducible exact ⟨cell_dr (cell_al _ c0), cell_dr (cell_al _ c1), cell_dr (cell_al _ c2)⟩) | (with_reducible exact ⟨cell_dr (cell_al _ (HK.out.1 _ _ _)), cell_dr (cell_al _ (HK.out.2.1 _ _ _)), cell_dr (cell_al _ (HK.out.2.2 _ _ _))⟩))
  clear hK K
  (try simp only [Act.put, List.setIfInBounds_toArray, List.set_cons_zero, List.set_cons_succ])
  refine wpAnyH_take (i := 3) (oi := _) (v := ?_) rfl (by kernel_rfl) (by kernel_rfl) (by kernel_rfl) (fun _ _ _ h => h) (Or.inl ⟨by rfl, ?_⟩) (by assumption) ?_
  rotate_left
  · (intro w hSw; (try dsimp only at hSw); go_simp)
    all_goals (with_reducible rfl)
  (try simp only [Act.put, List.setIfInBounds_toArray, List.set_cons_zero, List.set_cons_succ])
  refine wpAnyH_ready (rs := [6]) (by kernel_rfl) (by simp) ?_
  refine AllReadyH.cons rfl (fun K hK => ?_) AllReadyH.nil
  go_simp
  (go_at_call 33; (with_reducible refine (HPB.out _).mono ?_); rintro e w' ⟨rfl, rfl⟩)
  go_wp2_with fail
  refine hK.out _ _ ?_ (fun hHeld => ?_)
  · (try dsimp only)
    (first | (with_reducible exact ⟨cell_dr c0, cell_dr c1, cell_dr c2⟩) | (with_reducible exact ⟨cell_dr (cell_al _ c0), cell_dr (cell_al _ c1), cell_dr (cell_al _ c2)⟩) | (with_reducible exact ⟨cell_dr (cell_al _ (HK.out.1 _ _ _)), cell_dr (cell_al _ (HK.out.2.1 _ _ _)), cell_dr (cell_al _ (HK.out.2.2 _ _ _))⟩))
  clear hK K
  (try simp only [Act.put, List.setIfInBounds_toArray, List.set_cons_zero, List.set_cons_succ])
  refine wpAnyH_take (i := 7) (oi := _) (v := ?_) rfl (by kernel_rfl) (by kernel_rfl) (by kernel_rfl) (fun _ _ _ h => h) (Or.inl ⟨by rfl, ?_⟩) (by assumption) ?_
  rotate_left
  · (intro w hSw; (try dsimp only at hSw); go_simp)
    all_goals (with_reducible rfl)
  (try simp only [Act.put, List.setIfInBounds_toArray, List.set_cons_zero, List.set_cons_succ])
  refine wpAnyH_take (i := 8) (oi := _) (v := ?_) rfl (by kernel_rfl) (by kernel_rfl) (by kernel_rfl) (fun _ _ _ h => h) (Or.inl ⟨by rfl, ?_⟩) (by assumption) ?_
  rotate_left
  · (intro w hSw; (try dsimp only at hSw); go_simp)
    all_goals (with_reducible rfl)
  (try simp only [Act.put, List.setIfInBounds_toArray, List.set_cons_zero, List.set_cons_succ])
  refine wpAnyH_ready (rs := [9, 13]) (by kernel_rfl) (by simp) ?_
  refine AllReadyH.cons rfl (fun K hK => ?_) (AllReadyH.cons rfl (fun K hK => ?_) AllReadyH.nil)
  · go_simp
    refine hK.out _ _ ?_ (fun hHeld => ?_)
    · (try dsimp only)
      (first | (with_reducible exact ⟨cell_dr c0, cell_dr c1, cell_dr c2⟩) | (with_reducible exact ⟨cell_dr (cell_al _ c0), cell_dr (cell_al _ c1), cell_dr (cell_al _ c2)⟩) | (with_reducible exact ⟨cell_dr (cell_al _ (HK.out.1 _ _ _)), cell_dr (cell_al _ (HK.out.2.1 _ _ _)), cell_dr (cell_al _ (HK.out.2.2 _ _ _))⟩))
    clear hK K
    (try simp only [Act.put, List.setIfInBounds_toArray, List.set_cons_zero, List.set_cons_succ])
    refine wpAnyH_ready (rs := [10, 13]) (by kernel_rfl) (by simp) ?_
    refine AllReadyH.cons rfl (fun K hK => ?_) (AllReadyH.cons rfl (fun K hK => ?_) AllReadyH.nil)
    · go_simp
      refine hK.out _ _ ?_ (fun hHeld => ?_)
      · (try dsimp only)
        (first | (with_reducible exact ⟨cell_dr c0, cell_dr c1, cell_dr c2⟩) | (with_reducible exact ⟨cell_dr (cell_al _ c0), cell_dr (cell_al _ c1), cell_dr (cell_al _ c2)⟩) | (with_reducible exact ⟨cell_dr (cell_al _ (HK.out.1 _ _ _)), cell_dr (cell_al _ (HK.out.2.1 _ _ _)), cell_dr (cell_al _ (HK.out.2.2 _ _ _))⟩))
      clear hK K
      (try simp only [Act.put, List.setIfInBounds_toArray, List.set_cons_zero, List.set_cons_succ])
      refine wpAnyH_ready (rs := [13]) (by kernel_rfl) (by simp) ?_
      refine AllReadyH.cons rfl (fun K hK => ?_) AllReadyH.nil
      go_simp
      (go_at_call 33; (with_reducible refine (HPC.out _).mono ?_); rintro e w' ⟨rfl, rfl⟩)
      go_wp2_with fail
      refine hK.out _ _ ?_ (fun hHeld => ?_)
      · (try dsimp only)
        (first | (with_reducible exact ⟨cell_dr c0, cell_dr c1, cell_dr c2⟩) | (with_reducible exact ⟨cell_dr (cell_al _ c0), cell_dr (cell_al _ c1), cell_dr (cell_al _ c2)⟩) | (with_reducible exact ⟨cell_dr (cell_al _ (HK.out.1 _ _ _)), cell_dr (cell_al _ (HK.out.2.1 _ _ _)), cell_dr (cell_al _ (HK.out.2.2 _ _ _))⟩))
      clear hK K
      (try simp only [Act.put, List.setIfInBounds_toArray, List.set_cons_zero, List.set_cons_succ])
      refine wpAnyH_take (i := 14) (oi := _) (v := ?_) rfl (by kernel_rfl) (by kernel_rfl) (by kernel_rfl) (fun _ _ _ h => h) (Or.inl ⟨by rfl, ?_⟩) (by assumption) ?_
      rotate_left
      · (intro w hSw; (try dsimp only at hSw); go_simp)
        all_goals (with_reducible rfl)
      (try simp only [Act.put, List.setIfInBounds_toArray, List.set_cons_zero, List.set_cons_succ])
      refine wpAnyH_take (i := 15) (oi := _) (v := ?_) rfl (by kernel_rfl) (by kernel_rfl) (by kernel_rfl) (fun _ _ _ h => h) (Or.inl ⟨by rfl, ?_⟩) (by assumption) ?_
      rotate_left
      · (intro w hSw; (try dsimp only at hSw); go_simp)
        all_goals (with_reducible rfl)
      (try simp only [Act.put, List.setIfInBounds_toArray, List.set_cons_zero, List.set_cons_succ])
      refine wpAnyH_ready (rs := [16]) (by kernel_rfl) (by simp) ?_
      refine AllReadyH.cons rfl (fun K hK => ?_) AllReadyH.nil
      go_simp
      refine hK.out _ _ ?_ (fun hHeld => ?_)
      · (try dsimp only)
        (first | (with_reducible exact ⟨cell_dr c0, cell_dr c1, cell_dr c2⟩) | (with_reducible exact ⟨cell_dr (cell_al _ c0), cell_dr (cell_al _ c1), cell_dr (cell_al _ c2)⟩) | (with_reducible exact ⟨cell_dr (cell_al _ (HK.out.1 _ _ _)), cell_dr (cell_al _ (HK.out.2.1 _ _ _)), cell_dr (cell_al _ (HK.out.2.2 _ _ _))⟩))
      clear hK K
      (try simp only [Act.put, List.setIfInBounds_toArray, List.set_cons_zero, List.set_cons_succ])
      refine wpAnyH_done (by kernel_rfl) ?_ _
      obtain ⟨z0, z1, z2⟩ := HR.out (.int .i64 (1 + pa)) (.string ⟨#[97 + UInt8.ofNat d]⟩) (.int .i64 (1 + pc))
      have y0 := cell_dr (cell_al (.cells #[.int .u8 (IntKind.u8.wrap (IntKind.i64.wrap (97 + (d : Int))))] 5) z0)
      have y1 := cell_dr (cell_al (.cells #[.int .u8 (IntKind.u8.wrap (IntKind.i64.wrap (97 + (d : Int))))] 5) z1)
      have y2 := cell_dr (cell_al (.cells #[.int .u8 (IntKind.u8.wrap (IntKind.i64.wrap (97 + (d : Int))))] 5) z2)
      clear c0 c1 c2 r0 r1' r2' f0 f1 f2 hd2 hHeld
      go_wp2_with fail
      refine bodyPost_ret (by simp [results, Tryd.results16, go_sem, y0, y1, y2]; try rfl) rfl ?_
      refine ⟨by rw [HV.out]; first | rfl | (rw [UInt8.ofNat_add]; rfl), (((((HB0.out.setCell (p := ⟨w.heap.size + 1, 0, none⟩) (by show w.heap.size ≤ w.heap.size + 1; omega) _).setCell (p := ⟨w.heap.size + 1, 1, none⟩) (by show w.heap.size ≤ w.heap.size + 1; omega) _).setCell (p := ⟨w.heap.size + 1, 2, none⟩) (by show w.heap.size ≤ w.heap.size + 1; omega) _)).alloc (by simp; omega) _).drew⟩
    · go_simp
      (go_at_call 33; (with_reducible refine (HPC.out _).mono ?_); rintro e w' ⟨rfl, rfl⟩)
      go_wp2_with fail
      refine hK.out _ _ ?_ (fun hHeld => ?_)
      · (try dsimp only)
        (first | (with_reducible exact ⟨cell_dr c0, cell_dr c1, cell_dr c2⟩) | (with_reducible exact ⟨cell_dr (cell_al _ c0), cell_dr (cell_al _ c1), cell_dr (cell_al _ c2)⟩) | (with_reducible exact ⟨cell_dr (cell_al _ (HK.out.1 _ _ _)), cell_dr (cell_al _ (HK.out.2.1 _ _ _)), cell_dr (cell_al _ (HK.out.2.2 _ _ _))⟩))
      clear hK K
      (try simp only [Act.put, List.setIfInBounds_toArray, List.set_cons_zero, List.set_cons_succ])
      refine wpAnyH_take (i := 14) (oi := _) (v := ?_) rfl (by kernel_rfl) (by kernel_rfl) (by kernel_rfl) (fun _ _ _ h => h) (Or.inl ⟨by rfl, ?_⟩) (by assumption) ?_
      rotate_left
      · (intro w hSw; (try dsimp only at hSw); go_simp)
        all_goals (with_reducible rfl)
      (try simp only [Act.put, List.setIfInBounds_toArray, List.set_cons_zero, List.set_cons_succ])
      refine wpAnyH_ready (rs := [10]) (by kernel_rfl) (by simp) ?_
      refine AllReadyH.cons rfl (fun K hK => ?_) AllReadyH.nil
      go_simp
      refine hK.out _ _ ?_ (fun hHeld => ?_)
      · (try dsimp only)
        (first | (with_reducible exact ⟨cell_dr c0, cell_dr c1, cell_dr c2⟩) | (with_reducible exact ⟨cell_dr (cell_al _ c0), cell_dr (cell_al _ c1), cell_dr (cell_al _ c2)⟩) | (with_reducible exact ⟨cell_dr (cell_al _ (HK.out.1 _ _ _)), cell_dr (cell_al _ (HK.out.2.1 _ _ _)), cell_dr (cell_al _ (HK.out.2.2 _ _ _))⟩))
      clear hK K
      (try simp only [Act.put, List.setIfInBounds_toArray, List.set_cons_zero, List.set_cons_succ])
      refine wpAnyH_take (i := 15) (oi := _) (v := ?_) rfl (by kernel_rfl) (by kernel_rfl) (by kernel_rfl) (fun _ _ _ h => h) (Or.inl ⟨by rfl, ?_⟩) (by assumption) ?_
      rotate_left
      · (intro w hSw; (try dsimp only at hSw); go_simp)
        all_goals (with_reducible rfl)
      (try simp only [Act.put, List.setIfInBounds_toArray, List.set_cons_zero, List.set_cons_succ])
      refine wpAnyH_ready (rs := [16]) (by kernel_rfl) (by simp) ?_
      refine AllReadyH.cons rfl (fun K hK => ?_) AllReadyH.nil
      go_simp
      refine hK.out _ _ ?_ (fun hHeld => ?_)
      · (try dsimp only)
        (first | (with_reducible exact ⟨cell_dr c0, cell_dr c1, cell_dr c2⟩) | (with_reducible exact ⟨cell_dr (cell_al _ c0), cell_dr (cell_al _ c1), cell_dr (cell_al _ c2)⟩) | (with_reducible exact ⟨cell_dr (cell_al _ (HK.out.1 _ _ _)), cell_dr (cell_al _ (HK.out.2.1 _ _ _)), cell_dr (cell_al _ (HK.out.2.2 _ _ _))⟩))
      clear hK K
      (try simp only [Act.put, List.setIfInBounds_toArray, List.set_cons_zero, List.set_cons_succ])
      refine wpAnyH_done (by kernel_rfl) ?_ _
      obtain ⟨z0, z1, z2⟩ := HR.out (.int .i64 (1 + pa)) (.string ⟨#[97 + UInt8.ofNat d]⟩) (.int .i64 (1 + pc))
      have y0 := cell_dr (cell_al (.cells #[.int .u8 (IntKind.u8.wrap (IntKind.i64.wrap (97 + (d : Int))))] 5) z0)
      have y1 := cell_dr (cell_al (.cells #[.int .u8 (IntKind.u8.wrap (IntKind.i64.wrap (97 + (d : Int))))] 5) z1)
      have y2 := cell_dr (cell_al (.cells #[.int .u8 (IntKind.u8.wrap (IntKind.i64.wrap (97 + (d : Int))))] 5) z2)
      clear c0 c1 c2 r0 r1' r2' f0 f1 f2 hd2 hHeld
      go_wp2_with fail
      refine bodyPost_ret (by simp [results, Tryd.results16, go_sem, y0, y1, y2]; try rfl) rfl ?_
      refine ⟨by rw [HV.out]; first | rfl | (rw [UInt8.ofNat_add]; rfl), (((((HB0.out.setCell (p := ⟨w.heap.size + 1, 0, none⟩) (by show w.heap.size ≤ w.heap.size + 1; omega) _).setCell (p := ⟨w.heap.size + 1, 1, none⟩) (by show w.heap.size ≤ w.heap.size + 1; omega) _).setCell (p := ⟨w.heap.size + 1, 2, none⟩) (by show w.heap.size ≤ w.heap.size + 1; omega) _)).alloc (by simp; omega) _).drew⟩
  · go_simp
    (go_at_call 33; (with_reducible refine (HPC.out _).mono ?_); rintro e w' ⟨rfl, rfl⟩)
    go_wp2_with fail
    refine hK.out _ _ ?_ (fun hHeld => ?_)
    · (try dsimp only)
      (first | (with_reducible exact ⟨cell_dr c0, cell_dr c1, cell_dr c2⟩) | (with_reducible exact ⟨cell_dr (cell_al _ c0), cell_dr (cell_al _ c1), cell_dr (cell_al _ c2)⟩) | (with_reducible exact ⟨cell_dr (cell_al _ (HK.out.1 _ _ _)), cell_dr (cell_al _ (HK.out.2.1 _ _ _)), cell_dr (cell_al _ (HK.out.2.2 _ _ _))⟩))
    clear hK K
    (try simp only [Act.put, List.setIfInBounds_toArray, List.set_cons_zero, List.set_cons_succ])
    refine wpAnyH_take (i := 14) (oi := _) (v := ?_) rfl (by kernel_rfl) (by kernel_rfl) (by kernel_rfl) (fun _ _ _ h => h) (Or.inl ⟨by rfl, ?_⟩) (by assumption) ?_
    rotate_left
    · (intro w hSw; (try dsimp only at hSw); go_simp)
      all_goals (with_reducible rfl)
    (try simp only [Act.put, List.setIfInBounds_toArray, List.set_cons_zero, List.set_cons_succ])
    refine wpAnyH_ready (rs := [9]) (by kernel_rfl) (by simp) ?_
    refine AllReadyH.cons rfl (fun K hK => ?_) AllReadyH.nil
    go_simp
    refine hK.out _ _ ?_ (fun hHeld => ?_)
    · (try dsimp only)
      (first | (with_reducible exact ⟨cell_dr c0, cell_dr c1, cell_dr c2⟩) | (with_reducible exact ⟨cell_dr (cell_al _ c0), cell_dr (cell_al _ c1), cell_dr (cell_al _ c2)⟩) | (with_reducible exact ⟨cell_dr (cell_al _ (HK.out.1 _ _ _)), cell_dr (cell_al _ (HK.out.2.1 _ _ _)), cell_dr (cell_al _ (HK.out.2.2 _ _ _))⟩))
    clear hK K
    (try simp only [Act.put, List.setIfInBounds_toArray, List.set_cons_zero, List.set_cons_succ])
    refine wpAnyH_ready (rs := [10]) (by kernel_rfl) (by simp) ?_
    refine AllReadyH.cons rfl (fun K hK => ?_) AllReadyH.nil
    go_simp
    refine hK.out _ _ ?_ (fun hHeld => ?_)
    · (try dsimp only)
      (first | (with_reducible exact ⟨cell_dr c0, cell_dr c1, cell_dr c2⟩) | (with_reducible exact ⟨cell_dr (cell_al _ c0), cell_dr (cell_al _ c1), cell_dr (cell_al _ c2)⟩) | (with_reducible exact ⟨cell_dr (cell_al _ (HK.out.1 _ _ _)), cell_dr (cell_al _ (HK.out.2.1 _ _ _)), cell_dr (cell_al _ (HK.out.2.2 _ _ _))⟩))
    clear hK K
    (try simp only [Act.put, List.setIfInBounds_toArray, List.set_cons_zero, List.set_cons_succ])
    refine wpAnyH_take (i := 15) (oi := _) (v := ?_) rfl (by kernel_rfl) (by kernel_rfl) (by kernel_rfl) (fun _ _ _ h => h) (Or.inl ⟨by rfl, ?_⟩) (by assumption) ?_
    rotate_left
    · (intro w hSw; (try dsimp only at hSw); go_simp)
      all_goals (with_reducible rfl)
    (try simp only [Act.put, List.setIfInBounds_toArray, List.set_cons_zero, List.set_cons_succ])
    refine wpAnyH_ready (rs := [16]) (by kernel_rfl) (by simp) ?_
    refine AllReadyH.cons rfl (fun K hK => ?_) AllReadyH.nil
    go_simp
    refine hK.out _ _ ?_ (fun hHeld => ?_)
    · (try dsimp only)
      (first | (with_reducible exact ⟨cell_dr c0, cell_dr c1, cell_dr c2⟩) | (with_reducible exact ⟨cell_dr (cell_al _ c0), cell_dr (cell_al _ c1), cell_dr (cell_al _ c2)⟩) | (with_reducible exact ⟨cell_dr (cell_al _ (HK.out.1 _ _ _)), cell_dr (cell_al _ (HK.out.2.1 _ _ _)), cell_dr (cell_al _ (HK.out.2.2 _ _ _))⟩))
    clear hK K
    (try simp only [Act.put, List.setIfInBounds_toArray, List.set_cons_zero, List.set_cons_succ])
    refine wpAnyH_done (by kernel_rfl) ?_ _
    obtain ⟨z0, z1, z2⟩ := HR.out (.int .i64 (1 + pa)) (.string ⟨#[97 + UInt8.ofNat d]⟩) (.int .i64 (1 + pc))
    have y0 := cell_dr (cell_al (.cells #[.int .u8 (IntKind.u8.wrap (IntKind.i64.wrap (97 + (d : Int))))] 5) z0)
    have y1 := cell_dr (cell_al (.cells #[.int .u8 (IntKind.u8.wrap (IntKind.i64.wrap (97 + (d : Int))))] 5) z1)
    have y2 := cell_dr (cell_al (.cells #[.int .u8 (IntKind.u8.wrap (IntKind.i64.wrap (97 + (d : Int))))] 5) z2)
    clear c0 c1 c2 r0 r1' r2' f0 f1 f2 hd2 hHeld
    go_wp2_with fail
    refine bodyPost_ret (by simp [results, Tryd.results16, go_sem, y0, y1, y2]; try rfl) rfl ?_
    refine ⟨by rw [HV.out]; first | rfl | (rw [UInt8.ofNat_add]; rfl), (((((HB0.out.setCell (p := ⟨w.heap.size + 1, 0, none⟩) (by show w.heap.size ≤ w.heap.size + 1; omega) _).setCell (p := ⟨w.heap.size + 1, 1, none⟩) (by show w.heap.size ≤ w.heap.size + 1; omega) _).setCell (p := ⟨w.heap.size + 1, 2, none⟩) (by show w.heap.size ≤ w.heap.size + 1; omega) _)).alloc (by simp; omega) _).drew⟩
end Go.Proofs.YtpddlckkncmlmabDoor
