/- For whom each one waits: the program. -/
import Derived.Test.YtpddlckkncmlmabDoorZf
import Derived.Test.YtpddlckkncmlmabDoorNh
import Derived.Test.YtpddlckkncmlmabDoorMc
import Derived.Deep.RegionHeld3
import Derived.Deep.AppendLies
namespace Go.Proofs.YtpddlckkncmlmabDoor
open Go.ChangeShapes Go.WideShapes Go.ChangeAt Go.RowKit
set_option linter.unusedVariables false
set_option linter.unusedSimpArgs false
set_option maxHeartbeats 4000000
set_option maxRecDepth 100000
theorem wts_len (H A : List Lk) (x : Lk) : (wts H A x).length ≤ H.length + A.length := by
  have h1 := txs_le (agB x) H
  have h2 := txs_le (thB x) A
  unfold wts
  rw [List.length_append]
  split
  · omega
  · simp
    omega
theorem call_al {W : World} {a : Addr} {v : Value} (o : Obj) (h : W.cell? a = some v) : (W.alloc o).cell? a = some v := (World.cell?_of_block (Below.heap_alloc W _ _ (lt_cell h))).trans h
theorem own_n {w : World} {B k : Nat} {v : Value} {vs : List Value} {f : Nat → List Int} (h : w.ownsRow B 34 1 v ((List.range k).map f).length vs) : w.ownsRow B 34 1 v k vs := by
  rwa [List.length_map, List.length_range] at h
/-- Cells that lie below what is owned, or behind the world in which it was. -/
theorem grow_far {w w3 w4 : World} {B e s n : Nat} {v : Value} {xs : List Value} (h : w.ownsRow B e s v n xs) (hle : w.heap.size ≤ w3.heap.size) (hg : w3.grownBy w4 v.ownBlock) : ∀ a : Addr, a.block < w3.heap.size → (a.block < B ∨ w.heap.size ≤ a.block) → w4.cell? a = w3.cell? a := by
  intro a h1 h2
  refine hg.cell_far a h1 (fun e => ?_)
  have := h.lt _ e.symm
  omega
/-- What Waits answers. -/
def WaitsIs (H Q : List Lk) (w : World) (e : Ending) (w' : World) : Prop :=
  ∃ v, e = .returned (.tuple #[v, .int .i64 (lksF H Q)]) ∧ RJ w' v (if lksF H Q = 0 then wRows H Q else []) ∧ Below w.heap.size w w'
theorem waits_bad (w : World) (hT : Tog w) (hJ : Jnd w) (nh n : Nat) (hv qv : Value) (held l : List Lk) (hrh : Rd w 3 nh hv (lkc held)) (hr : Rd w 3 n qv (lkc l)) (h1 : nh ≤ 1000000000000000) (h2 : n ≤ 1000000000000000) (hbad : lksF held l ≠ 0) :
    Calls Tryd.prog 11 #[.agg #[hv, qv]] w (WaitsIs held l w) := by
  have hb0 := (Below.refl w.heap.size w).alloc (Nat.le_refl _) (.cells #[hv, qv] 24)
  have hck := check_any _ (hT.below hb0) (hJ.below hb0) nh n hv qv held l (hrh.below hb0) (hr.below hb0) h1 h2
  have h11 : lksF held l = 11 := (lks_or held l).resolve_left hbad
  rw [h11] at hck
  obtain ⟨ah, ch, rfl⟩ := row_shape hrh
  obtain ⟨aq, cq, rfl⟩ := row_shape hr
  have HCK := Lib.hid hck
  have HB0 := Lib.hid hb0
  have H11 := Lib.hid h11
  clear hck hb0 h11 hrh hr hbad
  go_enter Tryd.func11, Tryd.ntmps11
  go_wp2_with fail
  refine HCK.out.mono ?_
  rintro e w1 ⟨rfl, hb1⟩
  have HB1 := Lib.hid (into HB0.out hb1)
  clear hb1
  go_wp2_with fail
  go_ret2
  unfold WaitsIs
  rw [H11.out, if_neg (by omega)]
  exact ⟨_, rfl, RJ.nil _, HB1.out⟩
theorem waits_good (w : World) (hT : Tog w) (hJ : Jnd w) (nh n : Nat) (hv qv : Value) (held l : List Lk) (hrh : Rd w 3 nh hv (lkc held)) (hr : Rd w 3 n qv (lkc l)) (hok : Okl held l) :
    Calls Tryd.prog 11 #[.agg #[hv, qv]] w (WaitsIs held l w) := by
  have hlh := len_l hrh
  have hlq := len_l hr
  have hfew := hok.few
  have hMd : Mds held := fun y hy => mods (hok.hf y hy)
  have hlk : lksF held l = 0 := (okl_iff held l).2 hok
  obtain ⟨ah, ch, rfl⟩ := row_shape hrh
  obtain ⟨aq, cq, rfl⟩ := row_shape hr
  obtain ⟨W0, hW0⟩ : ∃ W0 : World, W0 = w.alloc (.cells #[.slice ah nh ch, .slice aq n cq] 24) := ⟨_, rfl⟩
  have hb0 : Below w.heap.size w W0 := by rw [hW0]; exact (Below.refl _ _).alloc (Nat.le_refl _) _
  have q0 : W0.cell? ⟨w.heap.size, 0, none⟩ = some (.slice ah nh ch) := by rw [hW0]; go_simp
  have q1 : W0.cell? ⟨w.heap.size, 1, none⟩ = some (.slice aq n cq) := by rw [hW0]; go_simp
  have hck := check_any W0 (hT.below hb0) (hJ.below hb0) nh n _ _ held l (hrh.below hb0) (hr.below hb0) (by omega) (by omega)
  rw [hlk] at hck
  have HCK := Lib.hid hck
  have HW0 := Lib.hid hW0
  have HB0 := Lib.hid hb0
  have HQ := Lib.hid (And.intro q0 q1)
  have HT := Lib.hid hT
  have HR := Lib.hid hr
  have HRH := Lib.hid hrh
  have HOK := Lib.hid (And.intro hok (And.intro hMd (And.intro hlk hlq)))
  have hnh200 : nh ≤ 200 := by omega
  have hn200 : n ≤ 200 := by omega
  clear hck hW0 hb0 hT hJ hr hrh hok hMd hlk hlh hlq hfew q0 q1
  go_enter Tryd.func11, Tryd.ntmps11
  go_wp2_with fail
  rw [← HW0.out]
  refine HCK.out.mono ?_
  rintro e w1 ⟨rfl, hb1⟩
  have q0 := (hb1.cell (lt_cell HQ.out.1)).trans HQ.out.1
  have q1 := (hb1.cell (lt_cell HQ.out.2)).trans HQ.out.2
  have HQ1 := Lib.hid (And.intro q0 q1)
  have HB1 := Lib.hid (into HB0.out hb1)
  have hz1 : w.heap.size < w1.heap.size := lt_cell q0
  clear hb1
  go_wp2_with fail
  clear q0 q1
  go_loopw [4, 13] (fun vv iv wr => ∃ (k : Nat) (vs : List Value), k ≤ n ∧ iv = .int .i64 (k : Int) ∧ Hid (OJ wr w1.heap.size vv vs ((List.range k).map (wRow held l))) ∧ Hid (Below w1.heap.size w1 wr)) (fun _ iv _ => n - (intOf iv).toNat)
  case atStart => exact ⟨0, [], by omega, rfl, OJ.nil _ _, Below.refl _ _⟩
  case round =>
    obtain ⟨k, vs, hk, rfl, HO, HB⟩ := hrel
    have q0 := cell_of_below HB.out HQ1.out.1
    have q1 := cell_of_below HB.out HQ1.out.2
    by_cases hlt : k < n
    · obtain ⟨b, o, cap, hsh, hcap, hcm, hbw, hcell⟩ := lks_of HR.out (by omega)
      simp only [Value.slice.injEq] at hsh
      obtain ⟨rfl, -, rfl⟩ := hsh
      have hB := into HB1.out HB.out
      obtain ⟨g0, g1, g2⟩ := hcell k hlt
      have c0 := (hB.cell (p := ⟨b, o + k * 3, none⟩) hbw).trans g0
      have c1 := (hB.cell (p := ⟨b, o + k * 3 + 1, none⟩) hbw).trans g1
      have c2 := (hB.cell (p := ⟨b, o + k * 3 + 2, none⟩) hbw).trans g2
      have hkl : k < l.length := by rw [← HOK.out.2.2.2]; exact hlt
      have hum := mods (HOK.out.1.qf _ (by rw [gd hkl]; exact List.getElem_mem hkl) : frm (l.getD k nlk) = 0)
      have hwr : wRow held l k = onceL (wts held (l.take k) (l.getD k nlk)) := rfl
      obtain ⟨u, hu⟩ : ∃ u, u = l.getD k nlk := ⟨_, rfl⟩
      rw [← hu] at c0 c1 c2 hum hwr
      obtain ⟨ut, uth, um⟩ := u
      simp only at c0 c1 c2 hum
      obtain ⟨W2, hW2⟩ : ∃ W2 : World, W2 = wr.alloc (.cells #[.int .i64 ut, .string uth, .int .i64 um] 33) := ⟨_, rfl⟩
      have hb2 : Below wr.heap.size wr W2 := by rw [hW2]; exact (Below.refl _ _).alloc (Nat.le_refl _) _
      have hz2 : W2.heap.size = wr.heap.size + 1 := by rw [hW2]; simp
      obtain ⟨p0, p1, p2⟩ := BxL.new wr ⟨ut, uth, um⟩
      simp only at p0 p1 p2
      rw [← hW2] at p0 p1 p2
      have t0 := cell_of_below hb2 q0
      have t1 := cell_of_below hb2 q1
      have hwz := HB.out.size
      have hD : Below W2.heap.size W2 W2.drew := (Below.refl _ _).drew
      have hrt : Rd wr 3 k (.slice (some ⟨b, o, none⟩) k cq) (lkc (l.take k)) := by
        have h := (HR.out.below hB).take k (by omega)
        rwa [lkc_take] at h
      obtain ⟨mu, hmu⟩ : ∃ mu, mu = (wRow held l k).length := ⟨_, rfl⟩
      have hw2 : ∀ W, Below W2.heap.size W2 W → Calls Tryd.prog 25 #[.slice ah nh ch, .slice (some ⟨b, o, none⟩) k cq, .agg #[.int .i64 ut, .string uth, .int .i64 um]] W fun e w' => ∃ (a : Option Addr) (c : Nat), e = .returned (.slice a mu c) ∧ w'.ownsRow W.heap.size 3 1 (.slice a mu c) mu (ic (wRow held l k)) ∧ Below W.heap.size W w' := fun W hW => by
        have hBW := hB.trans ((hb2.trans (hW.mono (by omega))).mono hB.size)
        refine (waitsFor_any W (HT.out.below hBW) nh k _ _ held (l.take k) ⟨ut, uth, um⟩ hum HOK.out.2.1 (HRH.out.below hBW) (hrt.below (hb2.trans (hW.mono (by omega)))) (by omega) (by omega)).mono ?_
        rintro e w' ⟨v', h1, h2, h3⟩
        rw [← hwr, ← hmu] at h2
        obtain ⟨a, c, rfl⟩ := row_shape (Rd.own h2)
        exact ⟨a, c, h1, h2, h3⟩
      have hrow40 : (wRow held l k).length ≤ 1000 := by
        rw [hwr]
        have e1 := Lib.compact_length_le (srtL (wts held (l.take k) ⟨ut, uth, um⟩))
        rw [srtL_len] at e1
        have e2 := wts_len held (l.take k) ⟨ut, uth, um⟩
        have e3 : (l.take k).length ≤ l.length := by rw [List.length_take]; omega
        have := HOK.out.1.few
        unfold onceL
        omega
      have hkeep : ∀ (w3 w4 : World) (X : Obj), Below W2.drew.heap.size W2.drew w3 → (w3.alloc X).grownBy w4 u4.ownBlock → w4.cell? ⟨w.heap.size, 0, none⟩ = some (.slice ah nh ch) ∧ w4.cell? ⟨w.heap.size, 1, none⟩ = some (.slice (some ⟨b, o, none⟩) n cq) ∧ w4.cell? ⟨wr.heap.size, 0, none⟩ = some (.int .i64 ut) ∧ w4.cell? ⟨wr.heap.size, 1, none⟩ = some (.string uth) ∧ w4.cell? ⟨wr.heap.size, 2, none⟩ = some (.int .i64 um) := by
        intro w3 w4 X h3 h4
        have hz := (into hD h3).size
        have gfar := grow_far HO.out.own (w3 := w3) (by omega) ((World.grownBy_alloc w3 _ _).trans h4)
        have e0 : w.heap.size < w3.heap.size := by omega
        have e1 : wr.heap.size < w3.heap.size := by omega
        exact ⟨(gfar ⟨w.heap.size, 0, none⟩ e0 (.inl hz1)).trans (cell_of_below h3 (cell_dr t0)), (gfar ⟨w.heap.size, 1, none⟩ e0 (.inl hz1)).trans (cell_of_below h3 (cell_dr t1)), (gfar ⟨wr.heap.size, 0, none⟩ e1 (.inr (Nat.le_refl _))).trans (cell_of_below h3 (cell_dr p0)), (gfar ⟨wr.heap.size, 1, none⟩ e1 (.inr (Nat.le_refl _))).trans (cell_of_below h3 (cell_dr p1)), (gfar ⟨wr.heap.size, 2, none⟩ e1 (.inr (Nat.le_refl _))).trans (cell_of_below h3 (cell_dr p2))⟩
      have hbase : ∀ (w3 : World) (X : Obj), Below W2.drew.heap.size W2.drew w3 → w1.heap.size ≤ (w3.alloc X).heap.size := by
        intro w3 X h3
        have hz := (into hD h3).size
        rw [World.size_alloc]
        omega
      have hown3 : ∀ (w3 : World) (X : Obj), Below W2.drew.heap.size W2.drew w3 → (w3.alloc X).ownsRow w1.heap.size 34 1 u4 k vs := fun w3 X h3 => (own_below (own_n HO.out.own) (into hb2 (into hD h3))).alloc _
      have HKE := Lib.hid hkeep
      have HBA := Lib.hid hbase
      have HOW := Lib.hid hown3
      have hkm : k + 1 ≤ maxLen := by unfold maxLen; omega
      clear hkeep hbase hown3
      have HW2 := Lib.hid hw2
      have HMU := Lib.hid hmu
      have HD := Lib.hid hD
      have HWW := Lib.hid hW2
      have HBB := Lib.hid hb2
      have hkI : (0 : Int) ≤ (k : Int) := by omega
      have hkn : (k : Int) < (n : Int) := by omega
      have hkc : (k : Int) ≤ (cq : Int) := by omega
      unfold maxLen at hcm
      clear hcell g0 g1 g2 hB hu hum hwr hb2 hrt hw2 hD hkl hW2 hmu hrow40
      go_wp2_with fail
      rw [← HWW.out]
      obtain ⟨i9, hi0, hz0, hz1, hz2⟩ := info_parts Tryd.info34
      go_region_held3 (fun wx => wx.cell? ⟨w.heap.size, 0, none⟩ = some (.slice ah nh ch) ∧ wx.cell? ⟨w.heap.size, 1, none⟩ = some (.slice (some ⟨b, o, none⟩) n cq) ∧ wx.cell? ⟨wr.heap.size, 0, none⟩ = some (.int .i64 ut) ∧ wx.cell? ⟨wr.heap.size, 1, none⟩ = some (.string uth) ∧ wx.cell? ⟨wr.heap.size, 2, none⟩ = some (.int .i64 um))
        ((first
          | (with_reducible exact ⟨cell_dr t0, cell_dr t1, cell_dr p0, cell_dr p1, cell_dr p2⟩)
          | (with_reducible exact ⟨s0, s1, s2, s3, s4⟩)
          | (with_reducible exact ⟨call_al _ s0, call_al _ s1, call_al _ s2, call_al _ s3, call_al _ s4⟩)
          | (with_reducible exact ⟨r0, r1, r2, r3, r4⟩)))
        ((first
          | (go_at_call 25; ((with_reducible refine (HW2.out W2.drew HD.out).mono ?_); rintro e w3 ⟨au, cu, rfl, hou, hb3⟩; have s0 := cell_of_below hb3 (cell_dr t0); have s1 := cell_of_below hb3 (cell_dr t1); have s2 := cell_of_below hb3 (cell_dr p0); have s3 := cell_of_below hb3 (cell_dr p1); have s4 := cell_of_below hb3 (cell_dr p2)))
          | (refine step_append_lies _ (by rfl) _ _ _ (by rfl) w1.heap.size 34 i9 _ 1 24 Tryd.underlying38 hi0 hz0 hz1 hz2 rfl Nat.one_pos u4 k vs (by rfl) (HOW.out w3 _ hb3) ⟨w3.heap.size, 0, none⟩ 1 1 [.slice au mu cu] (by rfl) (by rfl) (new_cells w3 _ _) (one_one rfl) Nat.one_pos hkm (by omega) (HBA.out w3 _ hb3) (w3.heap.size + 1) (World.size_alloc _ _) ?_; intro gg cap1 w4 hown4 hgrow hat4 hlt4; obtain ⟨r0, r1, r2, r3, r4⟩ := HKE.out w3 w4 _ hb3 hgrow)))
      have hk1 : (k : Nat) = ((List.range k).map (wRow held l)).length := by rw [List.length_map, List.length_range]
      have hpush : OJ w4 w1.heap.size (.slice (some ⟨gg, 0, none⟩) (k + 1) cap1) (vs ++ [.slice au mu cu]) ((List.range (k + 1)).map (wRow held l)) := by
        rw [List.range_succ, List.map_append]
        have hB3 := into HBB.out (into HD.out hb3)
        have ho := (HO.out.below hB3).below ((Below.refl _ _).alloc (Nat.le_refl _) (.cells #[.slice au mu cu] 34))
        refine ho.push (H := w3.heap.size + 1) (own_below (by rw [← HMU.out]; exact own_mono hou (by have := HD.out.size; omega)) ((Below.refl _ _).alloc (Nat.le_refl _) _)) (fun b hb e => ?_) (by rw [← hk1]; exact hown4) hgrow ?_ (by simp)
        · have h1 := (hou.lt b hb).1
          have h2 := (HO.out.own.lt b e).2
          have := HD.out.size
          omega
        · rcases hat4 with h | h
          · exact .inl h.symm
          · exact .inr (by rw [← h]; rfl)
      have hbel : Below w1.heap.size w1 w4 := HB.out.trans (((into HBB.out (into HD.out hb3)).mono hwz).trans ((Below.refl _ w3).grown ((World.grownBy_alloc w3 _ _).trans hgrow) (by have := (into HBB.out (into HD.out hb3)).size; omega) (fun j hj => (HO.out.own.lt j hj).1)))
      have HP := Lib.hid hpush
      have HBE := Lib.hid hbel
      clear hpush hbel hown4 hgrow hat4 hlt4 r0 r1 r2 r3 r4 s0 s1 s2 s3 s4 hou hb3 t0 t1 p0 p1 p2 c0 c1 c2 hk1 q0 q1
      go_wp2_with fail
      go_roundw
      case rel => exact ⟨k + 1, _, by omega, by go_num, HP.out, HBE.out⟩
      case measure => simp [intOf]; omega
    · obtain rfl : k = n := by omega
      have hres : (if lksF held l = 0 then wRows held l else []) = (List.range k).map (wRow held l) := by
        rw [if_pos HOK.out.2.2.1]
        unfold wRows
        rw [← HOK.out.2.2.2]
      have HRES := Lib.hid hres
      have HBE := Lib.hid (into HB1.out HB.out)
      clear hres
      go_wp2_with fail
      go_ret2
      unfold WaitsIs
      rw [HRES.out, HOK.out.2.2.1]
      exact ⟨_, rfl, HO.out.rj, HBE.out⟩
theorem waits_any (w : World) (hT : Tog w) (hJ : Jnd w) (nh n : Nat) (hv qv : Value) (held l : List Lk) (hrh : Rd w 3 nh hv (lkc held)) (hr : Rd w 3 n qv (lkc l)) (h1 : nh ≤ 1000000000000000) (h2 : n ≤ 1000000000000000) :
    Calls Tryd.prog 11 #[.agg #[hv, qv]] w (WaitsIs held l w) := by
  by_cases h : lksF held l = 0
  · exact waits_good w hT hJ nh n hv qv held l hrh hr ((okl_iff held l).1 h)
  · exact waits_bad w hT hJ nh n hv qv held l hrh hr h1 h2 h
end Go.Proofs.YtpddlckkncmlmabDoor
