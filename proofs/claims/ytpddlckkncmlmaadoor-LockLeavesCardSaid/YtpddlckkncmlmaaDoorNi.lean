/- Locks: the document's parts. -/
import Derived.Test.YtpddlckkncmlmaaDoorNh
import Derived.Test.YtpddlckkncmlmaaDoorJb
import Derived.BigQuiet
namespace Go.Proofs.YtpddlckkncmlmaaDoor
open Go.ChangeShapes Go.WideShapes Go.ChangeAt Go.RowKit
set_option linter.unusedVariables false
set_option linter.unusedSimpArgs false
set_option maxHeartbeats 4000000
theorem inq_is (w : World) (a b c : Int) (r : Bool) (h : (decide (b ≤ a) && decide (a ≤ c)) = r) : Calls Tryd.prog 35 #[.int .i64 a, .int .i64 b, .int .i64 c] w fun e w' => e = .returned (.bool r) ∧ w = w' := by
  subst h
  exact in_any w a b c
theorem lockFault_any (w : World) (x : Lk) : Calls Tryd.prog 24 #[lkv x] w fun e w' => e = .returned (.int .i64 (frm x)) ∧ Below w.heap.size w w' := by
  obtain ⟨t, th, m⟩ := x
  obtain ⟨q, hq⟩ : ∃ q, q = (decide (1 ≤ t) && decide (t ≤ 1048576)) := ⟨_, rfl⟩
  obtain ⟨r, hr⟩ : ∃ r, r = (decide (1 ≤ m) && decide (m ≤ 5)) := ⟨_, rfl⟩
  have H1 := Lib.hid (fun w => inq_is w t 1 1048576 q hq.symm)
  have H2 := Lib.hid (fun w => inq_is w m 1 5 r hr.symm)
  have hF : frm ⟨t, th, m⟩ = if q = false then 3 else if 120 < th.size then 1 else if r = false then 2 else 0 := by
    unfold frm
    have e1 : (t < 1 ∨ 1048576 < t) ↔ q = false := by rw [hq]; simp; omega
    have e2 : (m < 1 ∨ 5 < m) ↔ r = false := by rw [hr]; simp; omega
    simp only [e1, e2]
  have HF := Lib.hid hF
  clear hF hq hr
  cases q <;> cases r
  all_goals (
    by_cases hs : 120 < th.size
    all_goals (
      go_enter Tryd.func24, Tryd.ntmps24
      go_wp2_with (first | (go_at_call 35; ((with_reducible refine (H1.out _).mono ?_); rintro e w' ⟨rfl, rfl⟩)) | (go_at_call 35; ((with_reducible refine (H2.out _).mono ?_); rintro e w' ⟨rfl, rfl⟩)))
      go_ret
      refine ⟨ri ?_, (Below.refl _ _).alloc (Nat.le_refl _) _⟩
      rw [HF.out]
      simp
      try omega))
theorem hmd_hit {l : List Lk} {x : Lk} {k : Nat} (hk : k < l.length) (ha : ∀ j, j < k → onB x (l.getD j nlk) = false) (h : onB x (l.getD k nlk) = true) : hmd l x = (l.getD k nlk).m := by
  unfold hmd
  rw [idx_hit hk ha h, if_neg (by omega)]
  simp
theorem hmd_noneD {l : List Lk} {x : Lk} (ha : ∀ j, j < l.length → onB x (l.getD j nlk) = false) : hmd l x = 0 := by
  unfold hmd
  rw [idx_none ha, if_pos (by omega)]
theorem modeOf_any (w : World) (n : Nat) (v : Value) (l : List Lk) (x : Lk) (hr : Rd w 3 n v (lkc l)) : Calls Tryd.prog 25 #[v, .int .i64 x.t, .string x.th] w fun e w' => e = .returned (.int .i64 (hmd l x)) ∧ w = w' := by
  have hml := len_l hr
  have hmax := hr.len
  unfold maxLen at hmax
  by_cases h0 : n = 0
  · have hl0 : l = [] := List.eq_nil_of_length_eq_zero (by omega)
    subst hl0 h0
    obtain ⟨_, ao, cap, rfl, _⟩ := hr.zero
    clear hml
    go_enter Tryd.func25, Tryd.ntmps25
    go_wp2
    go_rounds 1
    go_ret
    exact ⟨rfl, rfl⟩
  · obtain ⟨b, o, cap, rfl, _, _, hbw, hcell⟩ := lks_of hr (by omega)
    have HC := Lib.hid hcell
    have HN := Lib.hid hml
    clear hcell hr hml
    obtain ⟨xt, xth, xm⟩ := x
    go_enter Tryd.func25, Tryd.ntmps25
    go_wp2
    go_loop [7] (fun i => ∃ k : Nat, k ≤ n ∧ i = .int .i64 (k : Int) ∧ Hid (∀ j, j < k → onB ⟨xt, xth, xm⟩ (l.getD j nlk) = false)) (fun i => n - (intOf i).toNat)
    case atStart => exact ⟨0, by omega, rfl, fun j hj => absurd hj (by omega)⟩
    case round =>
      obtain ⟨k, hk, rfl, HA⟩ := hrel
      by_cases hlt : k < n
      · obtain ⟨c0, c1, c2⟩ := HC.out k hlt
        have hO : onB ⟨xt, xth, xm⟩ (l.getD k nlk) = ((l.getD k nlk).t == xt && (l.getD k nlk).th.toList == xth.toList) := rfl
        obtain ⟨u, hu⟩ : ∃ u, u = l.getD k nlk := ⟨_, rfl⟩
        have HU := Lib.hid hu
        rw [← hu] at c0 c1 c2 hO
        clear hu
        obtain ⟨ut, uth, um⟩ := u
        simp only at c0 c1 c2 hO
        by_cases ht : ut = xt
        · subst ht
          obtain ⟨q, hq⟩ : ∃ q, q = (uth.toList == xth.toList) := ⟨_, rfl⟩
          have hO2 : onB ⟨ut, xth, xm⟩ ⟨ut, uth, um⟩ = q := by rw [hO, ← hq]; simp
          have HO := Lib.hid hO2
          have hq' := hq.symm
          clear hO hO2 hq
          cases q
          · go_wp2_with fail
            go_round
            case rel =>
              refine ⟨k + 1, by omega, by go_num, fun j hj => ?_⟩
              rcases Nat.lt_or_ge j k with h | h
              · exact HA.out j h
              · obtain rfl : j = k := by omega
                rw [← HU.out]
                exact HO.out
            case measure => simp [intOf]; omega
          · go_wp2_with fail
            go_ret
            exact ⟨ri (by rw [hmd_hit (by rw [← HN.out]; exact hlt) HA.out (by rw [← HU.out]; exact HO.out), ← HU.out]), rfl⟩
        · have ht' : (ut == xt) = false := by simpa using ht
          have hO2 : onB ⟨xt, xth, xm⟩ ⟨ut, uth, um⟩ = false := by rw [hO, ht']; simp
          have HO := Lib.hid hO2
          clear hO hO2
          go_wp2_with fail
          go_round
          case rel =>
            refine ⟨k + 1, by omega, by go_num, fun j hj => ?_⟩
            rcases Nat.lt_or_ge j k with h | h
            · exact HA.out j h
            · obtain rfl : j = k := by omega
              rw [← HU.out]
              exact HO.out
          case measure => simp [intOf]; omega
      · obtain rfl : k = n := by omega
        go_wp2
        go_ret
        exact ⟨ri (by rw [hmd_noneD (fun j hj => HA.out j (by rw [HN.out]; exact hj))]), rfl⟩
/-- Does not go with it, as the document has it. -/
def agD (x l : Lk) : Bool := (l.th.toList == x.th.toList && l.t != x.t) && !fitI l.m x.m
theorem ic1_rd (w : World) (x : Int) (B : Nat) (hB : w.heap.size = B) : Rd (w.alloc (.cells #[.int .i64 x] 3)) 1 1 (.slice (some ⟨B, 0, none⟩) 1 1) (ic [x]) := by
  subst hB
  exact Rd.own (World.ownsRow_lit (base := w.heap.size) w #[.int .i64 x] 1 (Nat.le_refl _) (by unfold maxLen; omega) rfl)
theorem against_any (w : World) (n : Nat) (v : Value) (l : List Lk) (x : Lk) (hn : n ≤ 1000000) (hr : Rd w 3 n v (lkc l)) :
    Calls Tryd.prog 47 #[v, lkv x] w fun e w' => ∃ v', e = .returned v' ∧ w'.ownsRow w.heap.size 3 1 v' (txs (agD x) l).length (ic (txs (agD x) l)) ∧ Below w.heap.size w w' := by
  have hml := len_l hr
  by_cases h0 : n = 0
  · have hl0 : l = [] := List.eq_nil_of_length_eq_zero (by omega)
    subst hl0 h0
    obtain ⟨_, ao, cap, rfl, _⟩ := hr.zero
    clear hml
    go_enter Tryd.func47, Tryd.ntmps47
    go_wp2
    go_rounds 1
    go_ret
    exact ⟨_, rfl, World.ownsRow_nil _ _ _ _, (Below.refl _ _).alloc (Nat.le_refl _) _⟩
  · obtain ⟨b, o, cap, rfl, _, _, hbw, hcell⟩ := lks_of hr (by omega)
    have HC := Lib.hid hcell
    have HN := Lib.hid hml
    clear hcell hr hml
    obtain ⟨xt, xth, xm⟩ := x
    go_enter Tryd.func47, Tryd.ntmps47
    go_wp2
    obtain ⟨W0, hW0⟩ : ∃ W0 : World, W0 = w.alloc (.cells #[.int .i64 xt, .string xth, .int .i64 xm] 26) := ⟨_, rfl⟩
    have hb0 : Below w.heap.size w W0 := by rw [hW0]; exact (Below.refl _ _).alloc (Nat.le_refl _) _
    have hbx : BxL W0 w.heap.size ⟨xt, xth, xm⟩ := by rw [hW0]; exact BxL.new w ⟨xt, xth, xm⟩
    have hz0 : W0.heap.size = w.heap.size + 1 := by rw [hW0]; simp
    rw [← hW0]
    have HB0 := Lib.hid hb0
    have HBX := Lib.hid hbx
    clear hW0 hb0 hbx
    go_loopw [5, 6] (fun vv i wr => ∃ (k c : Nat), k ≤ n ∧ c ≤ k ∧ i = .int .i64 (k : Int) ∧ Hid (c = (txs (agD ⟨xt, xth, xm⟩) (l.take k)).length) ∧ Hid (wr.ownsRow W0.heap.size 3 1 vv c (ic (txs (agD ⟨xt, xth, xm⟩) (l.take k)))) ∧ Hid (Below W0.heap.size W0 wr)) (fun _ i _ => n - (intOf i).toNat)
    case atStart => exact ⟨0, 0, by omega, by omega, rfl, rfl, World.ownsRow_nil _ _ _ _, Below.refl _ _⟩
    case round =>
      obtain ⟨k, c, hk, hck, rfl, HLE, HO, HB⟩ := hrel
      have hwz := HB.out.size
      by_cases hlt : k < n
      · obtain ⟨g0, g1, g2⟩ := HC.out k hlt
        have hB := into HB0.out HB.out
        have c0 := (hB.cell (p := ⟨b, o + k * 3, none⟩) hbw).trans g0
        have c1 := (hB.cell (p := ⟨b, o + k * 3 + 1, none⟩) hbw).trans g1
        have c2 := (hB.cell (p := ⟨b, o + k * 3 + 2, none⟩) hbw).trans g2
        obtain ⟨p0, p1, p2⟩ := HBX.out.below HB.out
        simp only at p0 p1 p2
        have hsn := txs_snoc (p := agD ⟨xt, xth, xm⟩) (l := l) (k := k) (by rw [← HN.out]; exact hlt)
        obtain ⟨u, hu⟩ : ∃ u, u = l.getD k nlk := ⟨_, rfl⟩
        rw [← hu] at c0 c1 c2 hsn
        clear g0 g1 g2 hu hB
        obtain ⟨ut, uth, um⟩ := u
        simp only at c0 c1 c2 hsn
        have hag : agD ⟨xt, xth, xm⟩ ⟨ut, uth, um⟩ = ((uth.toList == xth.toList && ut != xt) && !fitI um xm) := rfl
        obtain ⟨q, hq⟩ : ∃ q, q = (uth.toList == xth.toList) := ⟨_, rfl⟩
        obtain ⟨f, hf⟩ : ∃ f, f = fitI um xm := ⟨_, rfl⟩
        have HFT : Hid (∀ W, Calls Tryd.prog 60 #[.int .i64 um, .int .i64 xm] W fun e w' => e = .returned (.bool f) ∧ w' = W) := fun W => (fitting_any W um xm).mono fun e w' h => ⟨by rw [hf]; exact h.1, h.2.symm⟩
        rw [← hq, ← hf] at hag
        have HAG := Lib.hid hag
        have HSN := Lib.hid hsn
        have hq' := hq.symm
        clear hag hsn hq hf
        have stay : Hid (agD ⟨xt, xth, xm⟩ ⟨ut, uth, um⟩ = false → txs (agD ⟨xt, xth, xm⟩) (l.take (k + 1)) = txs (agD ⟨xt, xth, xm⟩) (l.take k)) := fun h => by rw [HSN.out, h]; simp
        have more : Hid (agD ⟨xt, xth, xm⟩ ⟨ut, uth, um⟩ = true → txs (agD ⟨xt, xth, xm⟩) (l.take (k + 1)) = txs (agD ⟨xt, xth, xm⟩) (l.take k) ++ [ut]) := fun h => by rw [HSN.out, h]; simp
        clear HSN
        cases q
        · have HNO := Lib.hid (stay.out (by rw [HAG.out]; simp))
          clear stay more HAG
          go_wp2_with fail
          go_quiet (fail)
          go_wp2_with fail
          go_roundw
          case rel => exact ⟨k + 1, c, by omega, by omega, by go_num, by rw [HNO.out]; exact HLE.out, by rw [HNO.out]; exact own_below HO.out (below_drewN (Below.refl _ _) _), below_drewN HB.out _⟩
          case measure => simp [intOf]; omega
        · by_cases ht : ut = xt
          · have ht' : (ut == xt) = true := by simpa using ht
            have ht2 : (ut != xt) = false := by simpa using ht
            have HNO := Lib.hid (stay.out (by rw [HAG.out, ht2]; simp))
            clear stay more HAG
            subst ht
            go_wp2_with fail
            go_quiet (fail)
            go_wp2_with fail
            go_roundw
            case rel => exact ⟨k + 1, c, by omega, by omega, by go_num, by rw [HNO.out]; exact HLE.out, by rw [HNO.out]; exact own_below HO.out (below_drewN (Below.refl _ _) _), below_drewN HB.out _⟩
            case measure => simp [intOf]; omega
          · have ht' : (ut == xt) = false := by simpa using ht
            have ht2 : (ut != xt) = true := by simpa using ht
            cases f
            · have HYES := Lib.hid (more.out (by rw [HAG.out, ht2]; simp))
              clear stay more HAG
              go_wp2_with fail
              go_quiet ((go_at_call 60; exact Calls.quiet_of_same (HFT.out _)))
              go_wp2_with (at_builtin; refine apg _ 1 rfl _ _ 38 3 _ 1 8 Tryd.underlying38 Tryd.info3 rfl (by omega) rfl ((own_below HO.out (below_drewN (Below.refl _ _) _)).alloc _) (by simp; omega) (by omega) (by unfold maxLen; omega) (ic_one _) (ic1_rd _ ut wr.heap.size rfl) rfl rfl ?_; intro v3 w3 hown3 hb3 _; have HO3 := Lib.hid hown3; have HB3 := Lib.hid (((below_drewN HB.out _).alloc hwz _).trans hb3); clear hown3 hb3)
              go_roundw
              case rel => exact ⟨k + 1, c + 1, by omega, by omega, by go_num, by rw [HYES.out, List.length_append, ← HLE.out]; rfl, by rw [HYES.out, ic_app]; exact HO3.out, HB3.out⟩
              case measure => simp [intOf]; omega
            · have HNO := Lib.hid (stay.out (by rw [HAG.out, ht2]; simp))
              clear stay more HAG
              go_wp2_with fail
              go_quiet ((go_at_call 60; exact Calls.quiet_of_same (HFT.out _)))
              go_wp2_with fail
              go_roundw
              case rel => exact ⟨k + 1, c, by omega, by omega, by go_num, by rw [HNO.out]; exact HLE.out, by rw [HNO.out]; exact own_below HO.out (below_drewN (Below.refl _ _) _), below_drewN HB.out _⟩
              case measure => simp [intOf]; omega
      · obtain rfl : k = n := by omega
        have e : l.take k = l := List.take_of_length_le (by rw [← HN.out]; exact Nat.le_refl _)
        have hle := HLE.out
        rw [e] at HO hle
        subst hle
        go_wp2_with fail
        go_ret
        exact ⟨_, rfl, own_mono HO.out (by omega), into HB0.out HB.out⟩
end Go.Proofs.YtpddlckkncmlmaaDoor
