/- Who waits waits for somebody else that holds the thing, or stands ahead: at every list of wishes. The row lists the program's two tables; the card ties them to the program's text. -/
import Derived.Test.YtpddlckkncmlmabDoorJl
import Derived.Test.YtpddlckkncmlmabDoorB2
import Derived.Test.YtpddlckkncmlmabDoorMv
import Derived.Test.YtpddlckkncmlmabDoorZh
import Derived.Test.YtpddlckkncmlmabDoorZb
namespace Go.Proofs.YtpddlckkncmlmabDoor.lWaitsSomebody
open Go.ChangeShapes Go.WideShapes Go.ChangeAt Go.RowKit Go.Joins
open Go.ChangeMaps (open_string shut_string)
set_option linter.unusedVariables false
set_option linter.unusedSimpArgs false
set_option maxHeartbeats 400000

def thT (t : Int) (th : ByteArray) (z : Lk) : Bool := z.t == t && z.th.toList == th.toList
theorem any_step {p : Lk → Bool} {H : List Lk} {i : Nat} (hi : i < H.length) : (H.take (i + 1)).any p = ((H.take i).any p || p (H.getD i nlk)) := by
  rw [List.take_succ_eq_append_getElem hi, List.any_append, gd hi]
  simp
theorem known_at {H Q : List Lk} (hok : Okl H Q) {i : Nat} (hi : i < Q.length) {t : Int} (ht : t ∈ wRow H Q i) :
    (decide (0 < hmd H ⟨t, (Q.getD i nlk).th, 0⟩) || (Q.take i).any (thT t (Q.getD i nlk).th)) = true ∧ (t == (Q.getD i nlk).t) = false := by
  obtain ⟨h1, -, h3⟩ := row_in hok hi ht
  refine ⟨?_, by simpa using h1⟩
  rw [Bool.or_eq_true]
  rcases h3 with ⟨m, hm⟩ | ⟨j, hj, h4, h5⟩
  · exact .inl (by have : 0 < hmd H ⟨t, (Q.getD i nlk).th, 0⟩ := hm; simpa using this)
  · refine .inr (List.any_eq_true.2 ⟨Q.getD j nlk, ?_, by unfold thT; rw [h4, h5]; simp⟩)
    have hjq : j < Q.length := by omega
    rw [gd hjq]
    exact List.mem_iff_getElem.2 ⟨j, by simp; omega, by simp⟩
theorem bad_one : lksF [] [⟨1, ⟨#[]⟩, 1⟩] = 11 := by
  rcases lks_or [] [⟨1, ⟨#[]⟩, 1⟩] with h | h
  · have := ((okl_iff _ _).1 h).qw 0 (by simp)
    simp [wts, txs, hmd_find] at this
  · exact h
theorem rows_at {w : World} {n : Nat} {a : Option Addr} {c : Nat} {H Q : List Lk} (h : RJ w (.slice a n c) (wRows H Q)) (hok : Okl H Q) (hn : n = Q.length) (h0 : 0 < n) :
    ∃ b o, a = some ⟨b, o, none⟩ ∧ ∀ i, i < n → ∃ br os cr, w.cell? ⟨b, o + i, none⟩ = some (.slice (some ⟨br, os, none⟩) (wRow H Q i).length cr) ∧ ∀ k, k < (wRow H Q i).length → w.cell? ⟨br, os + k, none⟩ = some (.int .i64 ((wRow H Q i).getD k 0)) := by
  obtain ⟨vs, g1, g2⟩ := h
  have hl : (wRows H Q).length = n := by unfold wRows; rw [List.length_map, List.length_range, hn]
  rw [hl] at g1
  obtain ⟨b, o, cap, he, _, _, _, hc⟩ := g1.pos h0 (by omega)
  simp only [Value.slice.injEq] at he
  refine ⟨b, o, he.1, fun i hi => ?_⟩
  have hg : (wRows H Q)[i]? = some (wRow H Q i) := by
    unfold wRows
    rw [List.getElem?_map, List.getElem?_range (by omega)]
    rfl
  obtain ⟨a', c', e1, e2⟩ := g2 i _ hg
  have hp := row_pos hok (i := i) (by omega)
  obtain ⟨br, os, cr, he2, _, _, _, hc2⟩ := e2.pos hp (by omega)
  simp only [Value.slice.injEq] at he2
  refine ⟨br, os, c', by rw [← he2.1]; exact hc i _ e1, fun k hk => hc2 k _ (by simp [ic, List.getD, hk])⟩
theorem rj_shape {w : World} {v : Value} {H Q : List Lk} {n : Nat} (h : RJ w v (wRows H Q)) (hn : n = Q.length) : ∃ a c, v = .slice a n c := by
  obtain ⟨vs, g1, _⟩ := h
  have hl : (wRows H Q).length = n := by unfold wRows; rw [List.length_map, List.length_range, hn]
  rw [hl] at g1
  exact row_shape g1
set_option maxRecDepth 100000 in
set_option maxHeartbeats 16000000 in
theorem walk (W : World) (hL : Tog W ∧ Jnd W) (n : Nat) (v : Value) (l : List Wi) (hr : Rd W 3 n v (wic l)) (hz : n * 24 ≤ 140737488351232) (hs : ∀ o ∈ l, WiOk o) :
    Calls Tryd.prog 5 #[v] W fun e w' => e = .returned (.bool true) ∧ Below W.heap.size W w' := by
  have HT := Lib.hid hL
  have HLK := Lib.hid (locks_any W hL n v l hr hs)
  obtain ⟨_, av, cv, rfl, _⟩ := id hr
  clear hL hr hs hz
  go_enter Tryd.func5, Tryd.ntmps5
  go_wp2_with fail
  refine HLK.out.mono ?_
  rintro e w1 ⟨x1, n1, c1, x2, n2, c2, H, Q, rfl, hg0, g1, g2, hb1⟩
  have hlb := LB.new w1 g1 g2
  have hn1 := len_l g1
  have hn2 := len_l g2
  obtain ⟨W2, hW2⟩ : ∃ W2 : World, W2 = w1.alloc (.cells #[.slice x1 n1 c1, .slice x2 n2 c2] 24) := ⟨_, rfl⟩
  have hb2 : Below W.heap.size W W2 := by rw [hW2]; exact hb1.alloc hb1.size _
  rw [← hW2] at hlb
  have hfw : H.length + Q.length ≤ 40 := hg0.few
  have hwt := waits_any W2 (HT.out.1.below hb2) (HT.out.2.below hb2) n1 n2 _ _ H Q hlb.h hlb.q (by omega) (by omega)
  have hwt2 : Calls Tryd.prog 11 #[.agg #[.slice x1 n1 c1, .slice x2 n2 c2]] W2 fun e w' => ∃ (a : Option Addr) (c : Nat), e = .returned (.tuple #[.slice a n2 c, .int .i64 0]) ∧ RJ w' (.slice a n2 c) (wRows H Q) ∧ Below W2.heap.size W2 w' := hwt.mono fun e w' ⟨v, h1, h2, h3⟩ => by
    rw [(okl_iff H Q).2 hg0.ok] at h1 h2
    rw [if_pos rfl] at h2
    obtain ⟨a, c, rfl⟩ := rj_shape h2 hn2
    exact ⟨a, c, h1, h2, h3⟩
  have HWT := Lib.hid hwt2
  have HLB := Lib.hid hlb
  have HB2 := Lib.hid hb2
  have HG := Lib.hid hg0
  have HN := Lib.hid (And.intro hn1 hn2)
  have HW2 := Lib.hid hW2
  have hn240 : n2 ≤ 40 := by omega
  obtain ⟨e0, e1, -, -⟩ := box2 hlb.b
  rw [hW2] at e0 e1
  clear g1 g2 hb1 hlb hb2 HLK hg0 hn1 hn2 hW2 hwt hwt2 hfw
  go_wp2_with fail
  rw [← HW2.out]
  refine HWT.out.mono ?_
  rintro e w3 ⟨aw, cw, rfl, hrj, hb3⟩
  have hl3 := HLB.out.below hb3
  clear e0 e1
  obtain ⟨e0, e1, -, -⟩ := box2 hl3.b
  have HLB3 := Lib.hid hl3
  have HRJ := Lib.hid hrj
  have HB3 := Lib.hid (into HB2.out hb3)
  clear hb3 hrj hl3
  obtain ⟨W4, hW4⟩ : ∃ W4 : World, W4 = w3.alloc (.cells #[.int .i64 1, .string ⟨#[]⟩, .int .i64 1] 33) := ⟨_, rfl⟩
  have hb4 : Below w3.heap.size w3 W4 := by rw [hW4]; exact (Below.refl _ _).alloc (Nat.le_refl _) _
  have hrd : Rd W4 3 1 (.slice (some ⟨w3.heap.size, 0, none⟩) 1 1) (lkc [⟨1, ⟨#[]⟩, 1⟩]) := by
    refine ⟨rfl, _, _, rfl, Nat.le_refl _, by unfold maxLen; omega, (fun h => by cases h), fun a ha j u hu => ?_⟩
    cases ha
    rw [hW4]
    exact new_cells w3 [.int .i64 1, .string ⟨#[]⟩, .int .i64 1] _ j u hu
  have hck := check_any W4 (HT.out.1.below (into HB3.out hb4)) (HT.out.2.below (into HB3.out hb4)) 0 1 (.slice none 0 0) _ [] [⟨1, ⟨#[]⟩, 1⟩] (Rd.nil _ _) hrd (by omega) (by omega)
  rw [bad_one] at hck
  have HCK := Lib.hid hck
  have HW4 := Lib.hid hW4
  have HB4 := Lib.hid hb4
  clear hW4 hb4 hrd hck
  go_wp2_with fail
  rw [← HW4.out]
  refine HCK.out.mono ?_
  rintro e w5 ⟨rfl, hb5⟩
  have hb35 := into HB4.out hb5
  have HB35 := Lib.hid hb35
  have HLB5 := Lib.hid (HLB3.out.below hb35)
  have HRJ5 := Lib.hid (HRJ.out.below hb35)
  have HB5 := Lib.hid (into HB3.out hb35)
  clear hb5 hb35 e0 e1
  go_wp2_with fail
  go_loopw [6] (fun iv wr => ∃ i : Nat, i ≤ n2 ∧ iv = .int .i64 (i : Int) ∧ Hid (Below w5.heap.size w5 wr)) (fun iv _ => n2 - (intOf iv).toNat)
  case atStart => exact ⟨0, by omega, rfl, Below.refl _ _⟩
  case round =>
    obtain ⟨i, hi, rfl, HB⟩ := hrel
    obtain ⟨wo, rfl⟩ : ∃ wo : World, wo = wr := ⟨_, rfl⟩
    by_cases hlt : i < n2
    · have hiq : i < Q.length := by rw [← HN.out.2]; exact hlt
      obtain ⟨bv, ov, hav, hrows⟩ := rows_at HRJ5.out HG.out.ok HN.out.2 (by omega)
      cases hav
      obtain ⟨br, os, cr, hrow, hcells⟩ := hrows i hlt
      obtain ⟨bq, oq, capq, hsh, _, _, _, hq⟩ := lks_of HLB5.out.q (by omega)
      simp only [Value.slice.injEq] at hsh
      obtain ⟨rfl, -, rfl⟩ := hsh
      obtain ⟨q0, q1, -⟩ := hq i hlt
      have hmp := row_pos HG.out.ok hiq
      have hm1000 : (wRow H Q i).length ≤ 1000 := by
        have e1 := Lib.compact_length_le (srtL (wts H (Q.take i) (Q.getD i nlk)))
        rw [srtL_len] at e1
        have e2 := wts_len H (Q.take i) (Q.getD i nlk)
        have e3 : (Q.take i).length ≤ Q.length := by rw [List.length_take]; omega
        have := HG.out.few
        unfold wRow onceL
        omega
      obtain ⟨R, hR⟩ : ∃ R, R = wRow H Q i := ⟨_, rfl⟩
      have hinc : R.Pairwise (· < ·) := by rw [hR]; exact once_inc _
      rw [← hR] at hrow hcells hmp hm1000
      obtain ⟨m, hm⟩ : ∃ m, m = R.length := ⟨_, rfl⟩
      rw [← hm] at hrow hcells hmp hm1000
      obtain ⟨u, hu⟩ : ∃ u, u = Q.getD i nlk := ⟨_, rfl⟩
      rw [← hu] at q0 q1
      have hkn : ∀ k, k < m → (decide (0 < hmd H ⟨R.getD k 0, u.th, 0⟩) || (Q.take i).any (thT (R.getD k 0) u.th)) = true ∧ (R.getD k 0 == u.t) = false := fun k hk => by
        rw [hu]
        exact known_at HG.out.ok hiq (by rw [← hR, gd0 (by omega)]; exact List.getElem_mem _)
      have hpr : ∀ k, k + 1 < m → R.getD k 0 < R.getD (k + 1) 0 := fun k hk => by
        rw [gd0 (by omega), gd0 (by omega)]
        exact (List.pairwise_iff_getElem.1 hinc) k (k + 1) (by omega) (by omega) (by omega)
      have HQ := Lib.hid hq
      have HKN := Lib.hid hkn
      have HPR := Lib.hid hpr
      have HC := Lib.hid hcells
      have HR := Lib.hid (And.intro hrow (And.intro q0 q1))
      obtain ⟨ut, uth, um⟩ := u
      have r0 := cell_of_below HB.out hrow
      have hm0 : ((m : Int) == 0) = false := by
        have : ¬ (m : Int) = 0 := by omega
        simpa using this
      have hltI : (i : Int) < (n2 : Int) := by omega
      clear hrows hrow hcells hq q0 q1 hinc hR hm hu hkn hpr hiq
      go_wp2_with fail
      clear r0
      go_loopw [7] (fun kv wr => ∃ k : Nat, k ≤ m ∧ kv = .int .i64 (k : Int) ∧ Hid (Below w5.heap.size w5 wr)) (fun kv _ => m - (intOf kv).toNat)
      case atStart => exact ⟨0, by omega, rfl, HB.out⟩
      case round =>
        obtain ⟨k, hk, rfl, HBk⟩ := hrel
        obtain ⟨wp, rfl⟩ : ∃ wp : World, wp = wr := ⟨_, rfl⟩
        have r0 := cell_of_below HBk.out HR.out.1
        by_cases hltk : k < m
        · have tc := cell_of_below HBk.out (HC.out k hltk)
          obtain ⟨hk1, hk2⟩ := HKN.out k hltk
          obtain ⟨t, ht⟩ : ∃ t, t = R.getD k 0 := ⟨_, rfl⟩
          rw [← ht] at tc hk1 hk2
          (try simp only at hk1 hk2)
          obtain ⟨d, hd⟩ : ∃ d, d = hmd H ⟨t, uth, 0⟩ := ⟨_, rfl⟩
          rw [← hd] at hk1
          have hlk := HLB5.out.below HBk.out
          obtain ⟨e0, e1, -, -⟩ := box2 hlk.b
          have q1 := cell_of_below HBk.out HR.out.2.2
          have HKM : Hid (∀ w, Below wp.heap.size wp w → Calls Tryd.prog 13 #[.agg #[.slice x1 n1 c1, .slice (some ⟨bq, oq, none⟩) n2 c2], .int .i64 t, .string uth] w fun e w' => e = .returned (.int .i64 d) ∧ Below w.heap.size w w') := fun w hw => by
            have := kmode_any w (x2 := some ⟨bq, oq, none⟩) (n2 := n2) (c2 := c2) t uth 0 (hlk.h.below hw)
            rw [← hd] at this
            exact this
          have HD : Hid (Below wp.heap.size wp wp.drew) := (Below.refl _ _).drew
          have HTT := Lib.hid ht
          have HK1 := Lib.hid hk1
          have HK2 := Lib.hid hk2
          have hkI : (k : Int) < (m : Int) := by omega
          clear hlk hd ht hk1 hk2
          go_wp2_with fail
          go_region_held3 (fun wx => wx.cell? ⟨w1.heap.size, 0, none⟩ = some (.slice x1 n1 c1) ∧ wx.cell? ⟨w1.heap.size, 1, none⟩ = some (.slice (some ⟨bq, oq, none⟩) n2 c2) ∧ wx.cell? ⟨bq, oq + i * 3 + 1, none⟩ = some (.string uth))
            ((first
              | (with_reducible exact ⟨cell_dr e0, cell_dr e1, cell_dr q1⟩)
              | (with_reducible exact ⟨cell_of_below hbm (cell_dr e0), cell_of_below hbm (cell_dr e1), cell_of_below hbm (cell_dr q1)⟩)))
            ((first
              | (go_at_call 13; ((with_reducible refine (HKM.out _ HD.out).mono ?_); rintro e w7 ⟨rfl, hbm⟩))))
          have HB7 := Lib.hid (HBk.out.trans ((into HD.out hbm).mono HBk.out.size))
          clear hbm e0 e1 q1 r0 tc HKM
          go_wp2_with fail
          go_loopw [9, 10] (fun bv jv wr => ∃ (j : Nat) (b : Bool), j ≤ i ∧ jv = .int .i64 (j : Int) ∧ bv = .bool b ∧ Hid (b = (decide (0 < d) || (Q.take j).any (thT t uth))) ∧ Hid (Below w5.heap.size w5 wr)) (fun _ jv _ => i - (intOf jv).toNat)
          case atStart => exact ⟨0, decide (0 < d), by omega, rfl, rfl, Lib.hid (by simp), HB7.out⟩
          case round =>
            obtain ⟨j, b, hj, rfl, rfl, HBB, HBj⟩ := hrel
            have hlj := HLB5.out.below HBj.out
            obtain ⟨e0, e1, -, -⟩ := box2 hlj.b
            have q0 := cell_of_below HBj.out HR.out.2.1
            have q1 := cell_of_below HBj.out HR.out.2.2
            by_cases hltj : j < i
            · obtain ⟨z0, z1, -⟩ := HQ.out j (by omega)
              have z0' := cell_of_below HBj.out z0
              have z1' := cell_of_below HBj.out z1
              have hst := any_step (p := thT t uth) (H := Q) (i := j) (by rw [← HN.out.2]; omega)
              obtain ⟨z, hz⟩ : ∃ z, z = Q.getD j nlk := ⟨_, rfl⟩
              rw [← hz] at z0' z1' hst
              obtain ⟨zt, zth, zm⟩ := z
              simp only at z0' z1'
              have hth : thT t uth ⟨zt, zth, zm⟩ = (zt == t && zth.toList == uth.toList) := rfl
              rw [hth] at hst
              have HST := Lib.hid hst
              have hjI : (j : Int) < (i : Int) := by omega
              have hjn : (j : Int) < (n2 : Int) := by omega
              clear hlj z0 z1 hst hz hth
              cases b
              · by_cases hzt : zt = t
                · subst hzt
                  obtain ⟨dd, hdd⟩ : ∃ dd, dd = (zth.toList == uth.toList) := ⟨_, rfl⟩
                  have hdd' := hdd.symm
                  have HDD := Lib.hid hdd
                  clear hdd
                  cases dd
                  all_goals (
                    go_wp2_with fail
                    go_quiet (fail)
                    go_wp2_with fail
                    go_roundw
                    case rel => exact ⟨j + 1, _, by omega, by go_num, rfl, Lib.hid (by rw [HST.out, ← Bool.or_assoc, ← HBB.out, ← HDD.out]; simp), below_drewN HBj.out _⟩
                    case measure => (simp [intOf]) <;> omega)
                · have hzt' : (zt == t) = false := by simpa using hzt
                  have HZT := Lib.hid hzt'
                  go_wp2_with fail
                  go_quiet (fail)
                  go_wp2_with fail
                  go_roundw
                  case rel => exact ⟨j + 1, _, by omega, by go_num, rfl, Lib.hid (by rw [HST.out, ← Bool.or_assoc, ← HBB.out, HZT.out]; simp), below_drewN HBj.out _⟩
                  case measure => (simp [intOf]) <;> omega
              · go_wp2_with fail
                go_quiet (fail)
                go_wp2_with fail
                go_roundw
                case rel => exact ⟨j + 1, _, by omega, by go_num, rfl, Lib.hid (by rw [HST.out, ← Bool.or_assoc, ← HBB.out]; simp), below_drewN HBj.out _⟩
                case measure => (simp [intOf]) <;> omega
            · obtain rfl : j = i := by omega
              have hbt : b = true := by rw [HBB.out]; exact HK1.out
              subst hbt
              have hk2 := HK2.out
              have r0 := cell_of_below HBj.out HR.out.1
              have hjI : ¬ (j : Int) < (j : Int) := by omega
              clear hlj HBB HK1 HK2 hltj
              cases k with
              | zero =>
                go_wp2_with fail
                go_roundw
                case rel => exact ⟨1, by omega, by go_num, HBj.out⟩
                case measure => (simp [intOf]) <;> omega
              | succ k =>
                have pc := cell_of_below HBj.out (HC.out k (by omega))
                have hp := HPR.out k (by omega)
                rw [← HTT.out] at hp
                obtain ⟨p, hpp⟩ : ∃ p, p = R.getD k 0 := ⟨_, rfl⟩
                rw [← hpp] at pc hp
                have hle : ¬ t ≤ p := by omega
                have hkm : (k : Int) < (m : Int) := by omega
                have hk9 : (k : Int) ≤ 1000 := by omega
                clear hpp
                go_wp2_with fail
                go_roundw
                case rel => exact ⟨k + 1 + 1, by omega, by go_num, HBj.out⟩
                case measure => (simp [intOf]) <;> omega
        · obtain rfl : k = m := by omega
          have hkI : ¬ (k : Int) < (k : Int) := by omega
          clear hltk
          go_wp2_with fail
          go_roundw
          case rel => exact ⟨i + 1, by omega, by go_num, HBk.out⟩
          case measure => (simp [intOf]) <;> omega
    · obtain rfl : i = n2 := by omega
      go_wp2_with fail
      go_ret
      exact ⟨rfl, into HB5.out HB.out⟩

set_option maxRecDepth 100000 in
theorem lifted (os : Os) (started : os.Started) (H : Type) (enc : TypeId × Value → H) :
    ReturnsInHanded {} Tryd.checked os 5 .any (fun w args => (Rows.waitsSomebodySpec.pre enc Tryd.prog Tryd.f5 [] false w args ∧ laidTJ w) ∧ sizedMet enc Tryd.prog Tryd.f5 (OpenSpec.ofChange Rows.waitsSomebodySpec) false w args) (Rows.waitsSomebodySpec.post enc Tryd.prog Tryd.f5 false true false false) := by
  refine returnsInHanded_of_change_and (C := Tryd.checked) (X := fun w _ => laidTJ w) (fun _ _ _ hh h => h.of_heap hh) Tryd.own started (by kernel_rfl) Tryd.func5
    (ChangeSpec.witness_at (enc := enc) (C := Tryd.checked) (os := os) (X := fun w _ => laidTJ w) false (tabled os) #[.slice none 0 0] 8 rfl (by kernel_rfl) (by kernel_rfl) (by kernel_rfl) (by kernel_rfl) (by kernel_rfl) (tabled_laidTJ os _)) ?_
  intro W base args ds gs before hval0 hW hcnd hsz0 hL _
  have hsz : (DataW.weightsEach Tryd.prog (Tryd.f5.params.toList ++ Rows.waitsSomebodySpec.plain.varTypes Tryd.prog) (ds ++ gs)).all (· ≤ reachBytes) = true := hsz0
  have hval : ∀ (j : Nat) t v, Tryd.f5.params[j]? = some t → args[j]? = some v → Value.okWide Tryd.prog W .any base t v := hval0
  have hW' := hW
  obtain ⟨p, q, hA0, hV, rfl, hfz, hnd⟩ := hW
  have hA : DataW.TrodAll enc Tryd.prog W 0 (fun _ => true) true Tryd.f5.params.toList args.toList ds p := hA0
  rw [Tryd.params5] at hA hval hsz
  obtain ⟨v0, d0, rfl, rfl, h0⟩ := trodAll_one hA
  obtain ⟨rfl, rfl⟩ := trodVars_none hV
  have sm0 : small Tryd.prog 30 d0 := fun q hq => by
    have := List.all_eq_true.1 hsz q (weights_each (j := 0) rfl rfl q hq)
    simpa using this
  obtain ⟨n0, l0, hr0, hz0, hs0⟩ := open_wishes (hval 0 30 v0 rfl rfl) h0 sm0
  clear hA0 hval0
  refine (walk W (TJ_of hL) n0 v0 l0 hr0 hz0 hs0).mono fun e W' ⟨he, hg⟩ => ?_
  subst he
  exact ⟨_, rfl, law_post (tb := 4) Tryd.laidOut (by kernel_rfl) (by kernel_rfl) Tryd.underlying4 rfl hW' hg rfl rfl rfl⟩

theorem bare : Rows.WaitsSomebodySaid :=
  OpenClaim.holds_of_wide 5 Tryd.f5 rfl rfl rfl rfl rfl rfl rfl ⟨rfl, rfl, rfl, rfl, rfl⟩ rfl rfl rfl rfl rfl (by kernel_rfl) Tryd.func5 (by kernel_rfl)
    (of_decide_eq_true (by kernel_rfl)) (by unfold Func.isWrapper; first | (rw [if_pos (by decide +kernel)]; kernel_rfl) | (rw [if_neg (by decide +kernel)]; exact ⟨rfl, rfl⟩))
    (fun os started H enc _ => lifted os started H enc)
/-- The card: the row's one listed variable is tied to the program's text. -/
theorem proved : Rows.WaitsSomebodyCardSaid :=
  Claim7.holds_tied_plain_at .later [] [.data, .data] true _ false bare (fun _ h => by cases h) (by kernel_rfl) (fun _ h => by cases h) waitsSomebody_row_tie rfl ⟨rfl, rfl⟩ (by kernel_rfl) rfl
    (fun f fn hf hfn => by
      obtain rfl : f = 5 := Option.some.inj ((show Tryd.prog.funcNamed "padlock/padlockkeep.WaitsSomebody" = some 5 by kernel_rfl).symm.trans hf) |>.symm
      obtain rfl : fn = Tryd.f5 := (Option.some.inj (Tryd.func5.symm.trans hfn)).symm
      refine ⟨by kernel_rfl, fun j t ht => ?_⟩
      rw [Tryd.params5] at ht
      rcases j with _ | j <;> simp at ht <;> subst ht <;> kernel_rfl)
    (by kernel_rfl)
#print axioms proved
end Go.Proofs.YtpddlckkncmlmabDoor.lWaitsSomebody
