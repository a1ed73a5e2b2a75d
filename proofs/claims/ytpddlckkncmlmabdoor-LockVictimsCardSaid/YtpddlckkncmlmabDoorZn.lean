/- The victim: the program. -/
import Derived.Test.YtpddlckkncmlmabDoorZm
import Derived.Deep.RegionHeld3
namespace Go.Proofs.YtpddlckkncmlmabDoor
open Go.ChangeShapes Go.WideShapes Go.ChangeAt Go.RowKit
set_option linter.unusedVariables false
set_option linter.unusedSimpArgs false
set_option maxHeartbeats 8000000
set_option maxRecDepth 100000
noncomputable def vicA (H Q : List Lk) : Int := if lksF H Q = 0 then vicL H Q else 0
def VicIs (H Q : List Lk) (w : World) (e : Ending) (w' : World) : Prop := e = .returned (.tuple #[.int .i64 (vicA H Q), .int .i64 (lksF H Q)]) ∧ Below w.heap.size w w'
theorem look_run (w : World) {M n : Nat} {D : DataW Unit} (h : OM w M n D) (x : Int) (hkey : keyOf Tryd.prog 3 (.int .i64 x) = some (.int .i64 x)) :
    (Instr.lookup 45 (.map (some M)) (.int .i64 x) true).run Tryd.prog w = .ok (.tuple #[.agg #[], .bool (Maps.has D (.int .i64 x))]) w := by
  obtain ⟨v, ps, hrun, hv⟩ := World.ownsMap.look_ok h int_law Tryd.underlying45 (unit_zero w) unitElem_mk hkey
  obtain ⟨rfl, _⟩ := unitElem_inv hv
  exact hrun
theorem victim_bad (w : World) (hT : Tog w) (hJ : Jnd w) (nh n : Nat) (hv qv : Value) (held l : List Lk) (hrh : Rd w 3 nh hv (lkc held)) (hr : Rd w 3 n qv (lkc l)) (h1 : nh ≤ 1000000000000000) (h2 : n ≤ 1000000000000000) (hbad : lksF held l ≠ 0) :
    Calls Tryd.prog 6 #[.agg #[hv, qv]] w (VicIs held l w) := by
  have hb0 := (Below.refl w.heap.size w).alloc (Nat.le_refl _) (.cells #[hv, qv] 24)
  have hwt := waits_any _ (hT.below hb0) (hJ.below hb0) nh n hv qv held l (hrh.below hb0) (hr.below hb0) h1 h2
  have h11 : lksF held l = 11 := (lks_or held l).resolve_left hbad
  have hwt2 : Calls Tryd.prog 11 #[.agg #[hv, qv]] (w.alloc (.cells #[hv, qv] 24)) fun e w' => ∃ v, e = .returned (.tuple #[v, .int .i64 11]) ∧ Below (w.alloc (.cells #[hv, qv] 24)).heap.size (w.alloc (.cells #[hv, qv] 24)) w' := hwt.mono fun e w' ⟨v, g1, _, g3⟩ => ⟨v, by rw [← h11]; exact g1, g3⟩
  have hva : vicA held l = 0 := by unfold vicA; rw [if_neg hbad]
  obtain ⟨ah, ch, rfl⟩ := row_shape hrh
  obtain ⟨aq, cq, rfl⟩ := row_shape hr
  have HWT := Lib.hid hwt2
  have HB0 := Lib.hid hb0
  have H11 := Lib.hid (And.intro h11 hva)
  clear hwt hwt2 hb0 h11 hrh hr hbad hva
  go_enter Tryd.func6, Tryd.ntmps6
  go_wp2_with fail
  refine HWT.out.mono ?_
  rintro e w1 ⟨v, rfl, hb1⟩
  have HB1 := Lib.hid (into HB0.out hb1)
  clear hb1
  go_wp2_with fail
  go_ret2
  unfold VicIs
  rw [H11.out.1, H11.out.2]
  exact ⟨rfl, HB1.out⟩
theorem victim_good (w : World) (hT : Tog w) (hJ : Jnd w) (nh n : Nat) (hv qv : Value) (held l : List Lk) (hrh : Rd w 3 nh hv (lkc held)) (hr : Rd w 3 n qv (lkc l)) (hok : Okl held l) :
    Calls Tryd.prog 6 #[.agg #[hv, qv]] w (VicIs held l w) := by
  have hln := len_l hr
  have hlh := len_l hrh
  have hfew := hok.few
  have hlk : lksF held l = 0 := (okl_iff held l).2 hok
  obtain ⟨ah, ch, rfl⟩ := row_shape hrh
  obtain ⟨aq, cq, rfl⟩ := row_shape hr
  obtain ⟨W0, hW0⟩ : ∃ W0 : World, W0 = w.alloc (.cells #[.slice ah nh ch, .slice aq n cq] 24) := ⟨_, rfl⟩
  have hb0 : Below w.heap.size w W0 := by rw [hW0]; exact (Below.refl _ _).alloc (Nat.le_refl _) _
  have q1 : W0.cell? ⟨w.heap.size, 1, none⟩ = some (.slice aq n cq) := by rw [hW0]; go_simp
  have hwt : Calls Tryd.prog 11 #[.agg #[.slice ah nh ch, .slice aq n cq]] W0 fun e w' => ∃ (a : Option Addr) (c : Nat), e = .returned (.tuple #[.slice a n c, .int .i64 0]) ∧ RJ w' (.slice a n c) (wRows held l) ∧ Below W0.heap.size W0 w' :=
    (waits_any W0 (hT.below hb0) (hJ.below hb0) nh n _ _ held l (hrh.below hb0) (hr.below hb0) (by omega) (by omega)).mono fun e w' ⟨v, g1, g2, g3⟩ => by
      rw [hlk] at g1 g2
      rw [if_pos rfl] at g2
      obtain ⟨vs, e1, e2⟩ := id g2
      have hl : (wRows held l).length = n := by unfold wRows; rw [List.length_map, List.length_range, hln]
      rw [hl] at e1
      obtain ⟨a, c, rfl⟩ := row_shape e1
      exact ⟨a, c, g1, g2, g3⟩
  have HWT := Lib.hid hwt
  have HW0 := Lib.hid hW0
  have HB0 := Lib.hid hb0
  have HQ1 := Lib.hid q1
  have HR := Lib.hid hr
  have HOK := Lib.hid (And.intro hok (And.intro hlk hln))
  have hn200 : n ≤ 200 := by omega
  clear hwt hW0 hb0 hT hJ hr hrh hok hlk hln hlh hfew q1
  go_enter Tryd.func6, Tryd.ntmps6
  go_wp2_with fail
  rw [← HW0.out]
  refine HWT.out.mono ?_
  rintro e w1 ⟨aw, cw, rfl, hrj, hb1⟩
  have q1 := cell_of_below hb1 HQ1.out
  have HQ2 := Lib.hid q1
  have HRJ := Lib.hid hrj
  have HB1 := Lib.hid (into HB0.out hb1)
  have hz1 : w.heap.size < w1.heap.size := lt_cell q1
  clear hrj hb1
  go_wp2_with fail
  clear q1
  go_loopw [6, 22] (fun vv iv wr => ∃ (k : Nat) (V : Int), k ≤ n ∧ iv = .int .i64 (k : Int) ∧ vv = .int .i64 V ∧ Hid (V = vicS (cycB held l) (l.take k)) ∧ Hid (Below w1.heap.size w1 wr)) (fun _ iv _ => n - (intOf iv).toNat)
  case atStart => exact ⟨0, 0, by omega, rfl, rfl, rfl, Below.refl _ _⟩
  case round =>
    obtain ⟨k, V, hk, rfl, rfl, HV, HB⟩ := hrel
    have q1 := cell_of_below HB.out HQ2.out
    by_cases hlt : k < n
    · have hB := into HB1.out HB.out
      have hkl : k < l.length := by rw [← HOK.out.2.2]; exact hlt
      obtain ⟨b, o, cap, hsh, hcap, hcm, hbw, hcell⟩ := lks_of HR.out (by omega)
      simp only [Value.slice.injEq] at hsh
      obtain ⟨rfl, -, rfl⟩ := hsh
      obtain ⟨g0, g1, g2⟩ := hcell k hlt
      have c0 := (hB.cell (p := ⟨b, o + k * 3, none⟩) hbw).trans g0
      have c1 := (hB.cell (p := ⟨b, o + k * 3 + 1, none⟩) hbw).trans g1
      have c2 := (hB.cell (p := ⟨b, o + k * 3 + 2, none⟩) hbw).trans g2
      have hxr := (frm_ok.1 (HOK.out.1.qf _ (by rw [gd hkl]; exact List.getElem_mem hkl) : frm (l.getD k nlk) = 0)).1
      have hsn : vicS (cycB held l) (l.take (k + 1)) = if cycB held l (l.getD k nlk).t = true then max V (l.getD k nlk).t else V := by
        rw [List.take_succ_eq_append_getElem hkl, vicS_snoc, ← HV.out, gd hkl]
      obtain ⟨u, hu⟩ : ∃ u, u = l.getD k nlk := ⟨_, rfl⟩
      rw [← hu] at c0 c1 c2 hxr hsn
      obtain ⟨ut, uth, um⟩ := u
      simp only at c0 c1 c2 hxr hsn
      obtain ⟨W2, hW2⟩ : ∃ W2 : World, W2 = wr.alloc (.cells #[.int .i64 ut, .string uth, .int .i64 um] 33) := ⟨_, rfl⟩
      have hb2 : Below wr.heap.size wr W2 := by rw [hW2]; exact (Below.refl _ _).alloc (Nat.le_refl _) _
      have hz2 : W2.heap.size = wr.heap.size + 1 := by rw [hW2]; simp
      obtain ⟨p0, p1, p2⟩ := BxL.new wr ⟨ut, uth, um⟩
      simp only at p0 p1 p2
      rw [← hW2] at p0 p1 p2
      have t1 := cell_of_below hb2 q1
      have HRE : Hid (∀ W, Below W2.heap.size W2 W → Calls Tryd.prog 14 #[.slice (some ⟨b, o, none⟩) n cq, .slice aw n cw, .int .i64 ut] W (ReachIs held l ut W)) := fun W hW => reached_any W n _ _ held l ut (HR.out.below (into hB (into hb2 hW))) (HRJ.out.below (into HB.out (into hb2 hW))) HOK.out.1 hxr (by omega)
      have HD : Hid (Below W2.heap.size W2 W2.drew) := (Below.refl _ _).drew
      have HDA : Hid (Below W2.heap.size W2 (W2.alloc (.cells #[] 43)).drew) := ((Below.refl _ _).alloc (Nat.le_refl _) _).drew
      have HW2 := Lib.hid hW2
      have HBB := Lib.hid hb2
      have HSN := Lib.hid hsn
      have hkey : keyOf Tryd.prog 3 (.int .i64 ut) = some (.int .i64 ut) := Maps.keyOf_int_mk Tryd.underlying3 (by simp [Lit.wf, IntKind.min, IntKind.max, IntKind.signed, IntKind.bits]; omega)
      have hwz := HB.out.size
      have hkI : (0 : Int) ≤ (k : Int) := by omega
      have hkn : (k : Int) < (n : Int) := by omega
      unfold maxLen at hcm
      clear hcell g0 g1 g2 hB hu hb2 hW2 hkl hxr hsn
      go_wp2_with fail
      rw [← HW2.out]
      go_region_held3 (fun wx => wx.cell? ⟨w.heap.size, 1, none⟩ = some (.slice (some ⟨b, o, none⟩) n cq) ∧ wx.cell? ⟨wr.heap.size, 0, none⟩ = some (.int .i64 ut))
        ((first
          | (with_reducible exact ⟨cell_dr t1, cell_dr p0⟩)
          | (with_reducible exact ⟨cell_dr (call_al _ t1), cell_dr (call_al _ p0)⟩)
          | (with_reducible exact ⟨s0, s1⟩)
          | (with_reducible exact ⟨call_al _ s0, call_al _ s1⟩)))
        ((first
          | (go_at_call 14; ((with_reducible refine (HRE.out W2.drew HD.out).mono ?_); rintro e w3 ⟨M, DD, rfl, hom, hre, hb3⟩; have s0 := cell_of_below hb3 (cell_dr t1); have s1 := cell_of_below hb3 (cell_dr p0); have hbx : Below W2.heap.size W2 w3 := into HD.out hb3; have hl0 := look_run w3 hom ut hkey; have hl1 := look_run _ (hom.alloc (.cells #[] 43)) ut hkey; rw [has_MS] at hl0 hl1; have HRE3 := Lib.hid hre))
          | (go_at_call 14; ((with_reducible refine (HRE.out (W2.alloc (.cells #[] 43)).drew HDA.out).mono ?_); rintro e w3 ⟨M, DD, rfl, hom, hre, hb3⟩; have s0 := cell_of_below hb3 (cell_dr (call_al _ t1)); have s1 := cell_of_below hb3 (cell_dr (call_al _ p0)); have hbx : Below W2.heap.size W2 w3 := into HDA.out hb3; have hl0 := look_run w3 hom ut hkey; have hl1 := look_run _ (hom.alloc (.cells #[] 43)) ut hkey; rw [has_MS] at hl0 hl1; have HRE3 := Lib.hid hre))))
      all_goals (
        have hdec : decide (ut ∈ DD) = cycB held l ut := by
          rw [Bool.eq_iff_iff, decide_eq_true_eq, cycB_iff]
          exact HRE3.out ut
        rw [hdec]
        have s1a := call_al (.cells #[] 43) s1
        have HBE : Hid (Below w1.heap.size w1 w3) := HB.out.trans ((into HBB.out hbx).mono hwz)
        have hw3 := HBE.out.size
        obtain ⟨q, hq⟩ : ∃ q, q = cycB held l ut := ⟨_, rfl⟩
        rw [← hq]
        have HQQ := Lib.hid hq
        clear hdec hq hl0 hl1 s0 hb3 hom hre hbx HRE3 t1 p0 p1 p2 c0 c1 c2 hkey
        cases q
        · have he : vicS (cycB held l) (l.take (k + 1)) = V := by rw [HSN.out, ← HQQ.out]; simp
          have HE := Lib.hid he
          clear he
          go_wp2_with fail
          go_roundw
          case rel => exact ⟨k + 1, V, by omega, by go_num, rfl, HE.out.symm, by first | exact HBE.out | exact HBE.out.alloc hw3 _⟩
          case measure => simp [intOf]; omega
        · have he : vicS (cycB held l) (l.take (k + 1)) = max V ut := by rw [HSN.out, ← HQQ.out]; simp
          have HE := Lib.hid he
          clear he
          go_wp2_with fail
          go_roundw
          case rel => exact ⟨k + 1, max V ut, by omega, by go_num, rfl, HE.out.symm, by first | exact HBE.out | exact HBE.out.alloc hw3 _⟩
          case measure => simp [intOf]; omega)
    · obtain rfl : k = n := by omega
      have hva : vicA held l = V := by
        unfold vicA vicL
        rw [if_pos HOK.out.2.1, HV.out, List.take_of_length_le (by rw [← HOK.out.2.2]; exact Nat.le_refl _)]
      have HVA := Lib.hid hva
      clear hva
      go_wp2_with fail
      go_ret2
      unfold VicIs
      rw [HVA.out, HOK.out.2.1]
      exact ⟨rfl, into HB1.out HB.out⟩
theorem victim_any (w : World) (hT : Tog w) (hJ : Jnd w) (nh n : Nat) (hv qv : Value) (held l : List Lk) (hrh : Rd w 3 nh hv (lkc held)) (hr : Rd w 3 n qv (lkc l)) (h1 : nh ≤ 1000000000000000) (h2 : n ≤ 1000000000000000) :
    Calls Tryd.prog 6 #[.agg #[hv, qv]] w (VicIs held l w) := by
  by_cases h : lksF held l = 0
  · exact victim_good w hT hJ nh n hv qv held l hrh hr ((okl_iff held l).1 h)
  · exact victim_bad w hT hJ nh n hv qv held l hrh hr h1 h2 h
end Go.Proofs.YtpddlckkncmlmabDoor
