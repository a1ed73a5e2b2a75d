/- For whom a lock waits: the document. -/
import Derived.Test.YtpddlckkncmlmaaDoorNi
namespace Go.Proofs.YtpddlckkncmlmaaDoor
open Go.ChangeShapes Go.WideShapes Go.ChangeAt Go.RowKit
set_option linter.unusedVariables false
set_option linter.unusedSimpArgs false
set_option maxHeartbeats 4000000
theorem take_of_take {l : List Lk} {i k : Nat} (h : k ≤ i) : (l.take i).take k = l.take k := by rw [List.take_take, Nat.min_eq_left h]
theorem txs_snoc2 {p : Lk → Bool} {l : List Lk} {k : Nat} (h : k < l.length) {u : Lk} (hu : u = l.getD k nlk) {r : Bool} (hr : p u = r) : txs p (l.take (k + 1)) = txs p (l.take k) ++ (if r = true then [u.t] else []) := by
  rw [txs_snoc h, ← hu, hr]
theorem aheadOf_any (w : World) (ah : Option Addr) (nh ch n i : Nat) (v : Value) (l : List Lk) (hn : n ≤ 1000000) (hi : i < n) (hr : Rd w 3 n v (lkc l)) :
    Calls Tryd.prog 49 #[.agg #[.slice ah nh ch, v], .int .i64 (i : Int)] w fun e w' => ∃ v', e = .returned v' ∧ w'.ownsRow w.heap.size 3 1 v' (txs (thB (l.getD i nlk)) (l.take i)).length (ic (txs (thB (l.getD i nlk)) (l.take i))) ∧ Below w.heap.size w w' := by
  have hml := len_l hr
  obtain ⟨b, o, cap, rfl, _, _, hbw, hcell⟩ := lks_of hr (by omega)
  obtain ⟨i0, i1, i2⟩ := hcell i hi
  obtain ⟨x, hx⟩ : ∃ x, x = l.getD i nlk := ⟨_, rfl⟩
  rw [← hx] at i1 ⊢
  have HC := Lib.hid hcell
  have HN := Lib.hid hml
  have HI := Lib.hid i1
  clear hcell hr hml hx i0 i1 i2
  obtain ⟨xt, xth, xm⟩ := x
  go_enter Tryd.func49, Tryd.ntmps49
  go_wp2
  obtain ⟨W0, hW0⟩ : ∃ W0 : World, W0 = w.alloc (.cells #[.slice ah nh ch, .slice (some ⟨b, o, none⟩) n cap] 24) := ⟨_, rfl⟩
  have hb0 : Below w.heap.size w W0 := by rw [hW0]; exact (Below.refl _ _).alloc (Nat.le_refl _) _
  have s1 : W0.cell? ⟨w.heap.size, 1, none⟩ = some (.slice (some ⟨b, o, none⟩) n cap) := by rw [hW0]; go_simp
  have hz0 : W0.heap.size = w.heap.size + 1 := by rw [hW0]; simp
  rw [← hW0]
  have HB0 := Lib.hid hb0
  have HS := Lib.hid s1
  clear hW0 hb0 s1
  go_loopw [5, 6] (fun vv iv wr => ∃ (k c : Nat), k ≤ i ∧ c ≤ k ∧ iv = .int .i64 (k : Int) ∧ Hid (c = (txs (thB ⟨xt, xth, xm⟩) (l.take k)).length) ∧ Hid (wr.ownsRow W0.heap.size 3 1 vv c (ic (txs (thB ⟨xt, xth, xm⟩) (l.take k)))) ∧ Hid (Below W0.heap.size W0 wr)) (fun _ iv _ => i - (intOf iv).toNat)
  case atStart => exact ⟨0, 0, by omega, by omega, rfl, rfl, World.ownsRow_nil _ _ _ _, Below.refl _ _⟩
  case round =>
    obtain ⟨k, c, hk, hck, rfl, HLE, HO, HB⟩ := hrel
    have hwz := HB.out.size
    by_cases hlt : k < i
    · have hltI : (k : Int) < (i : Int) := by omega
      obtain ⟨g0, g1, g2⟩ := HC.out k (by omega)
      have hB := into HB0.out HB.out
      have c0 := (hB.cell (p := ⟨b, o + k * 3, none⟩) hbw).trans g0
      have c1 := (hB.cell (p := ⟨b, o + k * 3 + 1, none⟩) hbw).trans g1
      have e1 := (hB.cell (p := ⟨b, o + i * 3 + 1, none⟩) hbw).trans HI.out
      have y1 := cell_of_below HB.out HS.out
      obtain ⟨u, hu⟩ : ∃ u, u = l.getD k nlk := ⟨_, rfl⟩
      obtain ⟨q, hq⟩ : ∃ q, q = (u.th.toList == xth.toList) := ⟨_, rfl⟩
      have hsn := txs_snoc2 (p := thB ⟨xt, xth, xm⟩) (l := l) (k := k) (by rw [← HN.out]; omega) hu (r := q) (by rw [hq]; rfl)
      rw [← hu] at c0 c1
      have HSN := Lib.hid hsn
      clear g0 g1 g2 hu hB hsn
      obtain ⟨ut, uth, um⟩ := u
      simp only at c0 c1 hq HSN
      have hq' := hq.symm
      clear hq
      have hkn : (k : Int) < (n : Int) := by omega
      have hin : (i : Int) < (n : Int) := by omega
      cases q
      · have HNO : Hid (txs (thB ⟨xt, xth, xm⟩) (l.take (k + 1)) = txs (thB ⟨xt, xth, xm⟩) (l.take k)) := by show _ = _; rw [HSN.out]; simp
        clear HSN
        go_wp2_with fail
        go_quiet (fail)
        go_wp2_with fail
        go_roundw
        case rel => exact ⟨k + 1, c, by omega, by omega, by go_num, by rw [HNO.out]; exact HLE.out, by rw [HNO.out]; exact own_below HO.out (below_drewN (Below.refl _ _) _), below_drewN HB.out _⟩
        case measure => simp [intOf]; omega
      · have HYES : Hid (txs (thB ⟨xt, xth, xm⟩) (l.take (k + 1)) = txs (thB ⟨xt, xth, xm⟩) (l.take k) ++ [ut]) := by show _ = _; rw [HSN.out]; simp
        clear HSN
        go_wp2_with fail
        go_quiet (fail)
        go_wp2_with (at_builtin; refine apg _ 1 rfl _ _ 38 3 _ 1 8 Tryd.underlying38 Tryd.info3 rfl (by omega) rfl ((own_below HO.out (below_drewN (Below.refl _ _) _)).alloc _) (by simp; omega) (by omega) (by unfold maxLen; omega) (ic_one _) (ic1_rd _ ut wr.heap.size rfl) rfl rfl ?_; intro v3 w3 hown3 hb3 _; have HO3 := Lib.hid hown3; have HB3 := Lib.hid (((below_drewN HB.out _).alloc hwz _).trans hb3); clear hown3 hb3)
        go_roundw
        case rel => exact ⟨k + 1, c + 1, by omega, by omega, by go_num, by rw [HYES.out, List.length_append, ← HLE.out]; rfl, by rw [HYES.out, ic_app]; exact HO3.out, HB3.out⟩
        case measure => simp [intOf]; omega
    · obtain rfl : k = i := by omega
      have hle := HLE.out
      subst hle
      go_wp2_with fail
      go_ret
      exact ⟨_, rfl, own_mono HO.out (by omega), into HB0.out HB.out⟩
/-- For whom a lock of the queue waits, as the document has it. -/
def wtsD (held queue : List Lk) (i : Nat) : List Int := txs (agD (queue.getD i nlk)) held ++ (if hmd held (queue.getD i nlk) = 0 then txs (thB (queue.getD i nlk)) (queue.take i) else [])
theorem dwaits_any (w : World) (nh n i : Nat) (hv v : Value) (held l : List Lk) (hnh : nh ≤ 1000) (hn : n ≤ 1000) (hi : i < n) (hrh : Rd w 3 nh hv (lkc held)) (hr : Rd w 3 n v (lkc l)) :
    Calls Tryd.prog 27 #[.agg #[hv, v], .int .i64 (i : Int)] w fun e w' => ∃ v', e = .returned v' ∧ w'.ownsRow w.heap.size 3 1 v' (wtsD held l i).length (ic (wtsD held l i)) ∧ Below w.heap.size w w' := by
  have hml := len_l hr
  have hmh := len_l hrh
  obtain ⟨_, ah, ch, rfl, _⟩ := id hrh
  have hD : wtsD held l i = txs (agD (l.getD i nlk)) held ++ (if hmd held (l.getD i nlk) = 0 then txs (thB (l.getD i nlk)) (l.take i) else []) := rfl
  have HAO : Hid (∀ W, Below w.heap.size w W → Calls Tryd.prog 49 #[.agg #[.slice ah nh ch, v], .int .i64 (i : Int)] W fun e w' => ∃ v', e = .returned v' ∧ w'.ownsRow W.heap.size 3 1 v' (txs (thB (l.getD i nlk)) (l.take i)).length (ic (txs (thB (l.getD i nlk)) (l.take i))) ∧ Below W.heap.size W w') := fun W hW => aheadOf_any W ah nh ch n i v l (by omega) hi (hr.below hW)
  have HAG : Hid (∀ W, Below w.heap.size w W → Calls Tryd.prog 47 #[.slice ah nh ch, lkv (l.getD i nlk)] W fun e w' => ∃ v', e = .returned v' ∧ w'.ownsRow W.heap.size 3 1 v' (txs (agD (l.getD i nlk)) held).length (ic (txs (agD (l.getD i nlk)) held)) ∧ Below W.heap.size W w') := fun W hW => against_any W nh _ held _ (by omega) (hrh.below hW)
  have HMO : Hid (∀ W, Below w.heap.size w W → Calls Tryd.prog 25 #[.slice ah nh ch, .int .i64 (l.getD i nlk).t, .string (l.getD i nlk).th] W fun e w' => e = .returned (.int .i64 (hmd held (l.getD i nlk))) ∧ W = w') := fun W hW => modeOf_any W nh _ held _ (hrh.below hW)
  obtain ⟨b, o, cap, rfl, _, _, hbw, hcell⟩ := lks_of hr (by omega)
  obtain ⟨c0, c1, c2⟩ := hcell i hi
  have hl1 := txs_le (agD (l.getD i nlk)) held
  have hl2 := txs_le (thB (l.getD i nlk)) (l.take i)
  have hl3 : (l.take i).length ≤ l.length := by rw [List.length_take]; omega
  obtain ⟨l1, hl1e⟩ : ∃ l1, l1 = txs (agD (l.getD i nlk)) held := ⟨_, rfl⟩
  obtain ⟨l2, hl2e⟩ : ∃ l2, l2 = txs (thB (l.getD i nlk)) (l.take i) := ⟨_, rfl⟩
  obtain ⟨d, hd⟩ : ∃ d, d = hmd held (l.getD i nlk) := ⟨_, rfl⟩
  rw [← hl1e, ← hl2e, ← hd] at hD
  rw [← hl1e] at HAG hl1
  rw [← hl2e] at HAO hl2
  rw [← hd] at HMO
  obtain ⟨x, hx⟩ : ∃ x, x = l.getD i nlk := ⟨_, rfl⟩
  rw [← hx] at c0 c1 c2 HAG HMO
  obtain ⟨xt, xth, xm⟩ := x
  simp only at c0 c1 c2 HMO
  have hq1 : l1.length ≤ 1000 := by omega
  have hq2 : l2.length ≤ 1000 := by omega
  have HD := Lib.hid hD
  have hin : (i : Int) < (n : Int) := by omega
  clear hcell hl1 hl2 hl3 hl1e hl2e hd hx hD hml hmh hrh hr
  obtain ⟨W0, hW0⟩ : ∃ W0 : World, W0 = w.alloc (.cells #[.slice ah nh ch, .slice (some ⟨b, o, none⟩) n cap] 24) := ⟨_, rfl⟩
  have hb0 : Below w.heap.size w W0 := by rw [hW0]; exact (Below.refl _ _).alloc (Nat.le_refl _) _
  have s0 : W0.cell? ⟨w.heap.size, 0, none⟩ = some (.slice ah nh ch) := by rw [hW0]; go_simp
  have s1 : W0.cell? ⟨w.heap.size, 1, none⟩ = some (.slice (some ⟨b, o, none⟩) n cap) := by rw [hW0]; go_simp
  have hz0 : W0.heap.size = w.heap.size + 1 := by rw [hW0]; simp
  obtain ⟨W1, hW1⟩ : ∃ W1 : World, W1 = W0.alloc (.cells #[.int .i64 xt, .string xth, .int .i64 xm] 26) := ⟨_, rfl⟩
  have hb01 : Below W0.heap.size W0 W1 := by rw [hW1]; exact (Below.refl _ _).alloc (Nat.le_refl _) _
  have hz1 : W1.heap.size = w.heap.size + 1 + 1 := by rw [hW1]; simp [hz0]
  obtain ⟨p0, p1, p2⟩ := BxL.new W0 ⟨xt, xth, xm⟩
  simp only at p0 p1 p2
  rw [← hW1, hz0] at p0 p1 p2
  have t0 := cell_of_below hb01 s0
  have t1 := cell_of_below hb01 s1
  have HB1 := Lib.hid (into hb0 hb01)
  have HF := Lib.hid (And.intro p0 (And.intro p1 (And.intro p2 (And.intro t0 t1))))
  have HW0 := Lib.hid hW0
  have HW1 := Lib.hid hW1
  clear hW0 hW1 hb0 hb01 s0 s1 p0 p1 p2 t0 t1
  by_cases hd0 : d = 0
  · subst hd0
    go_enter Tryd.func27, Tryd.ntmps27
    go_wp2_with fail
    rw [← HW0.out, ← HW1.out]
    refine (HAG.out _ HB1.out).mono ?_
    rintro e w2 ⟨v1, rfl, hown2, hb2⟩
    obtain ⟨f0, f1, f2, f3, f4⟩ := HF.out
    have p0 := cell_of_below hb2 f0
    have p1 := cell_of_below hb2 f1
    have t0 := cell_of_below hb2 f3
    have t1 := cell_of_below hb2 f4
    have HO2 := Lib.hid hown2
    have HB2 := Lib.hid (And.intro (into HB1.out hb2) hb2)
    clear hown2 hb2 f0 f1 f2 f3 f4 c0 c1 c2
    go_wp2_with fail
    refine (HMO.out _ HB2.out.1).mono ?_
    rintro e w' ⟨rfl, rfl⟩
    go_wp2_with fail
    refine (HAO.out _ HB2.out.1).mono ?_
    rintro e w3 ⟨v2, rfl, hown3, hb3⟩
    have hz3 := (into HB2.out.2 hb3).size
    have HO3 := Lib.hid (own_below HO2.out hb3)
    have HR3 := Lib.hid (Rd.own hown3)
    have HB3 := Lib.hid (into HB2.out.1 hb3)
    clear hown3 hb3 p0 p1 t0 t1
    go_wp2_with (at_builtin; refine apg w3 l2.length rfl _ _ 38 3 _ 1 8 Tryd.underlying38 Tryd.info3 rfl (by omega) rfl HO3.out (by omega) (by omega) (by unfold maxLen; omega) (ic_one _) HR3.out rfl rfl ?_; intro v5 w5 hown5 hb5 _; have HO5 := Lib.hid hown5; have HB5 := Lib.hid (HB3.out.trans (hb5.mono (by omega))); clear hown5 hb5)
    go_ret
    refine ⟨v5, rfl, ?_, HB5.out⟩
    have hd1 : wtsD held l i = l1 ++ l2 := by rw [HD.out]; simp
    rw [hd1, List.length_append, ic_app]
    exact own_mono HO5.out (by omega)
  · have hd0' : (d == 0) = false := by simpa using hd0
    go_enter Tryd.func27, Tryd.ntmps27
    go_wp2_with fail
    rw [← HW0.out, ← HW1.out]
    refine (HAG.out _ HB1.out).mono ?_
    rintro e w2 ⟨v1, rfl, hown2, hb2⟩
    obtain ⟨f0, f1, f2, f3, f4⟩ := HF.out
    have p0 := cell_of_below hb2 f0
    have p1 := cell_of_below hb2 f1
    have t0 := cell_of_below hb2 f3
    have t1 := cell_of_below hb2 f4
    have HO2 := Lib.hid hown2
    have HB2 := Lib.hid (And.intro (into HB1.out hb2) hb2)
    clear hown2 hb2 f0 f1 f2 f3 f4 c0 c1 c2
    go_wp2_with fail
    refine (HMO.out _ HB2.out.1).mono ?_
    rintro e w' ⟨rfl, rfl⟩
    go_wp2_with fail
    go_ret
    refine ⟨v1, rfl, ?_, HB2.out.1⟩
    rw [HD.out, if_neg hd0, List.append_nil]
    exact own_mono HO2.out (by omega)
end Go.Proofs.YtpddlckkncmlmaaDoor
