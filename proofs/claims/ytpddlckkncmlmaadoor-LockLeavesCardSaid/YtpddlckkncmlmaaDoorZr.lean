/- Leaving, as the document has it. -/
import Derived.Test.YtpddlckkncmlmaaDoorZl
namespace Go.Proofs.YtpddlckkncmlmaaDoor
open Go.ChangeShapes Go.WideShapes Go.ChangeAt Go.RowKit
set_option linter.unusedVariables false
set_option linter.unusedSimpArgs false
set_option maxHeartbeats 16000000
set_option maxRecDepth 100000
theorem filt_next {l : List Lk} {k : Nat} {t : Int} (h : k < l.length) : (l.take (k + 1)).filter (notB t) = (l.take k).filter (notB t) ++ (if (l.getD k nlk).t = t then [] else [l.getD k nlk]) := by
  rw [List.take_succ_eq_append_getElem h, List.filter_append, gd h]
  congr 1
  by_cases e : (l[k]).t = t
  · rw [if_pos e]
    simp [List.filter, notB, ofB, e]
  · rw [if_neg e]
    have e2 : ((l[k]).t == t) = false := by simpa using e
    simp [List.filter, notB, ofB, e2]
theorem lkc_snoc (l : List Lk) (x : Lk) : lkc (l ++ [x]) = lkc l ++ [.int .i64 x.t, .string x.th, .int .i64 x.m] := lkc_app _ _
theorem wake_stop {H Q : List Lk} {A : List Int} (h : freeI H Q < 0) : ∀ n, wakeL n H Q A = (H, Q, A)
  | 0 => rfl
  | n + 1 => by unfold wakeL; rw [if_pos h]
theorem wake_step {H Q : List Lk} {A : List Int} {k : Nat} (h : freeI H Q = (k : Int)) (n : Nat) : wakeL (n + 1) H Q A = wakeL n (giveL H (Q.getD k nlk)) (Q.eraseIdx k) (A ++ [(Q.getD k nlk).t]) := by
  rw [wakeL, h, if_neg (by omega)]
  simp
theorem era_skip (Q : List Lk) (k : Nat) : (Q.take (k + 1)).eraseIdx k = (Q.take k).eraseIdx k := by
  rw [List.eraseIdx_eq_take_drop_succ, List.eraseIdx_of_length_le (by simp; omega), List.take_take, List.drop_of_length_le (by simp; omega), List.append_nil, Nat.min_eq_left (by omega)]
theorem era_next {Q : List Lk} {j k : Nat} (hj : j < Q.length) (hne : j ≠ k) : (Q.take (j + 1)).eraseIdx k = (Q.take j).eraseIdx k ++ [Q.getD j nlk] := by
  rw [List.take_succ_eq_append_getElem hj, gd hj]
  rcases Nat.lt_or_ge k j with h | h
  · rw [List.eraseIdx_append_of_lt_length (by simp; omega)]
  · rw [List.eraseIdx_of_length_le (by simp; omega), List.eraseIdx_of_length_le (by simp; omega)]
theorem left_good (w : World) (nh n : Nat) (hv qv : Value) (held l : List Lk) (t : Int) (hrh : Rd w 3 nh hv (lkc held)) (hr : Rd w 3 n qv (lkc l)) (hok : Okl held l) (ht : 1 ≤ t ∧ t ≤ 1048576) :
    Calls Tryd.prog 14 #[.agg #[hv, qv], .int .i64 t] w (LeaveIs held l t w) := by
  have hlh := len_l hrh
  have hlq := len_l hr
  have hfew := hok.few
  have hlk := (okl_iff held l).2 hok
  obtain ⟨ah, ch, rfl⟩ := rd_shape hrh
  obtain ⟨aq, cq, rfl⟩ := rd_shape hr
  obtain ⟨W0, hW0⟩ : ∃ W0 : World, W0 = (w.alloc (.cells #[.slice ah nh ch, .slice aq n cq] 24)).alloc (.cells #[.slice none 0 0, .slice none 0 0] 24) := ⟨_, rfl⟩
  have hb0 : Below w.heap.size w W0 := by rw [hW0]; exact lf_two _ _ _
  have hbp : W0.heap[w.heap.size]? = some (.cells #[.slice ah nh ch, .slice aq n cq] 24 (0, 0)) := by
    rw [hW0]
    exact (Below.heap_alloc _ _ _ (by simp)).trans (new0 w _)
  have hbx : W0.heap[w.heap.size + 1]? = some (.cells #[.slice none 0 0, .slice none 0 0] 24 (0, 0)) := by rw [hW0]; exact new1 _ _ _
  have hz0 : W0.heap.size = w.heap.size + 2 := by rw [hW0]; simp
  have hft := fault_any W0 nh n _ _ held l (hrh.below hb0) (hr.below hb0) (by omega) (by omega)
  rw [lks_same, hlk] at hft
  have HIN : Hid (∀ W, Calls Tryd.prog 35 #[.int .i64 t, .int .i64 1, .int .i64 1048576] W fun e w' => e = .returned (.bool true) ∧ W = w') := fun W => by
    have := in_any W t 1 1048576
    rwa [show (decide (1 ≤ t) && decide (t ≤ 1048576)) = true by simp; omega] at this
  have HBP := Lib.hid (And.intro hbp hbx)
  have HB0 := Lib.hid hb0
  have HW0 := Lib.hid hW0
  have HFT := Lib.hid hft
  have HRH := Lib.hid hrh
  have HRQ := Lib.hid hr
  have HOK := Lib.hid (And.intro hok (And.intro hlh hlq))
  have hnh200 : nh ≤ 200 := by omega
  have hn200 : n ≤ 200 := by omega
  have HTT := Lib.hid ht
  clear hft hbp hbx hb0 hW0 hrh hr hlh hlq hfew hlk hok ht
  go_enter Tryd.func14, Tryd.ntmps14
  go_wp2_with fail
  rw [← HW0.out]
  refine HFT.out.mono ?_
  rintro e w1 ⟨rfl, hb1⟩
  have hz1 := hb1.size
  obtain ⟨C, hC⟩ : ∃ C, C = w1.heap.size := ⟨_, rfl⟩
  obtain ⟨W1, hW1⟩ : ∃ W1 : World, W1 = w1.alloc (.cells #[.slice none 0 0, .slice none 0 0] 24) := ⟨_, rfl⟩
  have hb11 : Below w1.heap.size w1 W1 := by rw [hW1]; exact (Below.refl _ _).alloc (Nat.le_refl _) _
  have hbC : W1.heap[C]? = some (.cells #[.slice none 0 0, .slice none 0 0] 24 (0, 0)) := by rw [hW1, hC]; exact new0 _ _
  have hzC : W1.heap.size = C + 1 := by rw [hW1, hC]; simp
  have hbw := into HB0.out (into hb1 hb11)
  have hPC : w.heap.size + 1 < C := by omega
  have HPB := Lib.hid (And.intro ((into hb1 hb11).block _ (by omega) |>.trans HBP.out.1) ((into hb1 hb11).block _ (by omega) |>.trans HBP.out.2))
  have HC0 := Lib.hid hbC
  have HBW := Lib.hid hbw
  have HCC := Lib.hid hC
  have HW1 := Lib.hid hW1
  clear hb1 hb11 hbC hbw hC hW1 hz1
  go_wp2_with (go_at_call 35; ((with_reducible refine (HIN.out _).mono ?_); rintro e w' ⟨rfl, rfl⟩))
  rw [← HW1.out, ← HCC.out]
  go_loopw [9] (fun iv wr => ∃ (k : Nat) (av : Option Addr) (m cv : Nat), k ≤ nh ∧ m ≤ k ∧ iv = .int .i64 (k : Int) ∧ Hid (wr.ownsRow (C + 1) 26 3 (.slice av m cv) m (lkc ((held.take k).filter (notB t)))) ∧ Hid (wr.heap[C]? = some (.cells #[.slice av m cv, .slice none 0 0] 24 (0, 0))) ∧ Hid (Below C W1 wr)) (fun iv _ => nh - (intOf iv).toNat)
  case atStart => exact ⟨0, none, 0, 0, by omega, by omega, rfl, World.ownsRow_nil _ _ _ _, HC0.out, Below.refl _ _⟩
  case round =>
    obtain ⟨k, av, m, cv, hk, hmk, rfl, HO, HX, HB⟩ := hrel
    have hzr := HB.out.size
    obtain ⟨p0, p1, -, -⟩ := box2 ((HB.out.block _ (by omega)).trans HPB.out.1)
    by_cases hlt : k < nh
    · obtain ⟨b, o, cap, hsh, hcap, hcm, hbh, hcell⟩ := lks_of HRH.out (by omega)
      simp only [Value.slice.injEq] at hsh
      obtain ⟨rfl, -, hcc⟩ := hsh
      subst hcc
      unfold maxLen at hcm
      obtain ⟨g0, g1, g2⟩ := hcell k hlt
      have hbl : ∀ {a : Addr} {v : Value}, a.block < w.heap.size → w.cell? a = some v → wr.cell? a = some v := fun ha hc => (HB.out.cell (by omega)).trans ((HBW.out.cell ha).trans hc)
      have e0 := hbl (a := ⟨b, o + k * 3, none⟩) hbh g0
      have e1 := hbl (a := ⟨b, o + k * 3 + 1, none⟩) hbh g1
      have e2 := hbl (a := ⟨b, o + k * 3 + 2, none⟩) hbh g2
      have hfn := filt_next (l := held) (k := k) (t := t) (by have := HOK.out.2.1; omega)
      obtain ⟨u, hu⟩ : ∃ u, u = held.getD k nlk := ⟨_, rfl⟩
      rw [← hu] at e0 e1 e2 hfn
      obtain ⟨ut, uth, um⟩ := u
      simp only at e0 e1 e2 hfn
      have HFN := Lib.hid hfn
      have hkI : (k : Int) < (nh : Int) := by omega
      clear hcell g0 g1 g2 hbl hu hfn
      by_cases he : ut = t
      · subst he
        have hsm : (held.take (k + 1)).filter (notB ut) = (held.take k).filter (notB ut) := by rw [HFN.out, if_pos rfl, List.append_nil]
        have HSM := Lib.hid hsm
        clear hsm
        go_wp2_with fail
        go_roundw
        case rel => exact ⟨k + 1, av, m, cv, by omega, by omega, by go_num, by rw [HSM.out]; exact HO.out, HX.out, HB.out⟩
        case measure => simp [intOf]; omega
      · have he' : (ut == t) = false := by simpa using he
        have hne : (ut != t) = true := by simpa using he
        have hsm : lkc ((held.take (k + 1)).filter (notB t)) = lkc ((held.take k).filter (notB t)) ++ [.int .i64 ut, .string uth, .int .i64 um] := by rw [HFN.out, if_neg he, lkc_snoc]
        have HSM := Lib.hid hsm
        clear hsm
        go_wp2_with fail
        change Code.wp _ ((regionOf 11 (Tryd.f14.body.getD .skip)).getD .skip) _ _ _
        refine lb11 _ _ _ _ _ _ _ _ _ _ _ _ _ _ _ _ _ _ _ _ _ _ _ _ _ _ _ _ _ _ _ _ _ _ _ _ _ _ _ _ _ _ _ _ _ _ _ _ _ _ _ _ _ _ _ _ _ _ _ _ _ _ _ _ _ _ _ _ _ _ _ _ _ _ _ _ _ _ _ _ _ _ _ _ _ _ _ _ _ _ _ _ _ _ _ _ _ _ _ _ _ _ _ _ _ _ _ _ _ _ _ _ _ _ _ _ _ _ _ _ _ _ _ _ _ _ _ _ _ _ wr w.heap.size C (C + 1) b o k nh ch m cv av (.slice none 0 0) ut um uth _ p0 e0 e1 e2 HX.out HO (by omega) (by omega) (by omega) (by omega) (by omega) (by omega) hlt (by omega) (by omega) (Lib.hid ?_)
        intro u45 u46 u47 u48 u49 u50 u51 u52 u53 u54 w5 gg cap1 r1 hx5
        have hB5 : Below C W1 w5 := HB.out.trans (r1.gr.below (Nat.le_refl _) (fun q hq => by have := (HO.out.lt q hq).1; omega) (by omega))
        have HR := Lib.hid r1
        have HX5 := Lib.hid hx5
        have HB5 := Lib.hid hB5
        clear r1 hx5 hB5 p0 p1 e0 e1 e2
        go_wp2_with fail
        go_roundw
        case rel => exact ⟨k + 1, some ⟨gg, 0, none⟩, m + 1, cap1, by omega, by omega, by go_num, by rw [HSM.out]; exact HR.out.own, HX5.out, HB5.out⟩
        case measure => simp [intOf]; omega
    · obtain rfl : k = nh := by omega
      obtain ⟨H0, hH0⟩ : ∃ H0, H0 = held.filter (notB t) := ⟨_, rfl⟩
      have ho := HO.out
      rw [List.take_of_length_le (by have := HOK.out.2.1; omega), ← hH0] at ho
      obtain ⟨a1, rfl⟩ : ∃ a1, a1 = av := ⟨_, rfl⟩
      obtain ⟨m1, rfl⟩ : ∃ m1, m1 = m := ⟨_, rfl⟩
      obtain ⟨c1, rfl⟩ : ∃ c1, c1 = cv := ⟨_, rfl⟩
      obtain ⟨W2, rfl⟩ : ∃ W2 : World, W2 = wr := ⟨_, rfl⟩
      have HO1 := Lib.hid ho
      have HX1 := HX
      have HB1 := HB
      have HH0 := Lib.hid hH0
      have hkI : ¬ (k : Int) < (k : Int) := by omega
      have hm1 : m1 ≤ 200 := by omega
      clear ho hH0 HO HX HB hlt hmk
      go_wp2_with fail
      clear p0 p1
      go_loopw [10] (fun iv wr => ∃ (j : Nat) (av : Option Addr) (m cv : Nat), j ≤ n ∧ m ≤ j ∧ iv = .int .i64 (j : Int) ∧ Hid (wr.ownsRow (C + 1) 26 3 (.slice a1 m1 c1) m1 (lkc H0)) ∧ Hid (wr.ownsRow (C + 1) 26 3 (.slice av m cv) m (lkc ((l.take j).filter (notB t)))) ∧ Hid (wr.heap[C]? = some (.cells #[.slice a1 m1 c1, .slice av m cv] 24 (0, 0))) ∧ Hid (∀ q, (Value.slice a1 m1 c1).ownBlock = some q → (Value.slice av m cv).ownBlock ≠ some q) ∧ Hid (Below C W1 wr)) (fun iv _ => n - (intOf iv).toNat)
      case atStart => exact ⟨0, none, 0, 0, by omega, by omega, rfl, HO1.out, World.ownsRow_nil _ _ _ _, HX1.out, (fun q _ e => by cases e), HB1.out⟩
      case round =>
        obtain ⟨j, av, m, cv, hj, hmj, rfl, HO, HO2, HX, HNE, HB⟩ := hrel
        have hzr := HB.out.size
        obtain ⟨p0, p1, -, -⟩ := box2 ((HB.out.block _ (by omega)).trans HPB.out.1)
        by_cases hlt : j < n
        · obtain ⟨b, o, cap, hsh, hcap, hcm, hbh, hcell⟩ := lks_of HRQ.out (by omega)
          simp only [Value.slice.injEq] at hsh
          obtain ⟨rfl, -, hcc⟩ := hsh
          subst hcc
          unfold maxLen at hcm
          obtain ⟨g0, g1, g2⟩ := hcell j hlt
          have hbl : ∀ {a : Addr} {v : Value}, a.block < w.heap.size → w.cell? a = some v → wr.cell? a = some v := fun ha hc => (HB.out.cell (by omega)).trans ((HBW.out.cell ha).trans hc)
          have e0 := hbl (a := ⟨b, o + j * 3, none⟩) hbh g0
          have e1 := hbl (a := ⟨b, o + j * 3 + 1, none⟩) hbh g1
          have e2 := hbl (a := ⟨b, o + j * 3 + 2, none⟩) hbh g2
          have hfn := filt_next (l := l) (k := j) (t := t) (by have := HOK.out.2.2; omega)
          obtain ⟨u, hu⟩ : ∃ u, u = l.getD j nlk := ⟨_, rfl⟩
          rw [← hu] at e0 e1 e2 hfn
          obtain ⟨ut, uth, um⟩ := u
          simp only at e0 e1 e2 hfn
          have HFN := Lib.hid hfn
          have hjI : (j : Int) < (n : Int) := by omega
          clear hcell g0 g1 g2 hbl hu hfn
          by_cases he : ut = t
          · subst he
            have hsm : (l.take (j + 1)).filter (notB ut) = (l.take j).filter (notB ut) := by rw [HFN.out, if_pos rfl, List.append_nil]
            have HSM := Lib.hid hsm
            clear hsm
            go_wp2_with fail
            go_roundw
            case rel => exact ⟨j + 1, av, m, cv, by omega, by omega, by go_num, HO.out, by rw [HSM.out]; exact HO2.out, HX.out, HNE.out, HB.out⟩
            case measure => simp [intOf]; omega
          · have he' : (ut == t) = false := by simpa using he
            have hne : (ut != t) = true := by simpa using he
            have hsm : lkc ((l.take (j + 1)).filter (notB t)) = lkc ((l.take j).filter (notB t)) ++ [.int .i64 ut, .string uth, .int .i64 um] := by rw [HFN.out, if_neg he, lkc_snoc]
            have HSM := Lib.hid hsm
            clear hsm
            go_wp2_with fail
            change Code.wp _ ((regionOf 16 (Tryd.f14.body.getD .skip)).getD .skip) _ _ _
            refine lb16 _ _ _ _ _ _ _ _ _ _ _ _ _ _ _ _ _ _ _ _ _ _ _ _ _ _ _ _ _ _ _ _ _ _ _ _ _ _ _ _ _ _ _ _ _ _ _ _ _ _ _ _ _ _ _ _ _ _ _ _ _ _ _ _ _ _ _ _ _ _ _ _ _ _ _ _ _ _ _ _ _ _ _ _ _ _ _ _ _ _ _ _ _ _ _ _ _ _ _ _ _ _ _ _ _ _ _ _ _ _ _ _ _ _ _ _ _ _ _ _ _ _ _ _ _ _ _ _ _ _ wr w.heap.size C (C + 1) b o j n cq m cv av (.slice a1 m1 c1) ut um uth _ p1 e0 e1 e2 HX.out HO2 (by omega) (by omega) (by omega) (by omega) (by omega) (by omega) hlt (by omega) (by omega) (Lib.hid ?_)
            intro u70 u71 u72 u73 u74 u75 u76 u77 u78 u79 w5 gg cap1 r1 hx5
            have hB5 : Below C W1 w5 := HB.out.trans (r1.gr.below (Nat.le_refl _) (fun q hq => by have := (HO2.out.lt q hq).1; omega) (by omega))
            have hO5 := r1.gr.own HO.out (fun q hq => by have := (HO.out.lt q hq).1; omega) (fun q hq e => HNE.out q hq e.symm)
            have hN5 : ∀ q, (Value.slice a1 m1 c1).ownBlock = some q → (Value.slice (some ⟨gg, 0, none⟩) (m + 1) cap1).ownBlock ≠ some q := fun q hq e => by
              have e9 : gg = q := Option.some.inj e
              rcases r1.at_ with h | h
              · exact HNE.out q hq (by rw [h, e9])
              · have := (HO.out.lt q hq).2
                omega
            have HR := Lib.hid r1
            have HX5 := Lib.hid hx5
            have HB5 := Lib.hid hB5
            have HO5 := Lib.hid hO5
            have HN5 := Lib.hid hN5
            clear r1 hx5 hB5 hO5 hN5 p0 p1 e0 e1 e2
            go_wp2_with fail
            go_roundw
            case rel => exact ⟨j + 1, some ⟨gg, 0, none⟩, m + 1, cap1, by omega, by omega, by go_num, HO5.out, by rw [HSM.out]; exact HR.out.own, HX5.out, HN5.out, HB5.out⟩
            case measure => simp [intOf]; omega
        · obtain rfl : j = n := by omega
          obtain ⟨Q0, hQ0⟩ : ∃ Q0, Q0 = l.filter (notB t) := ⟨_, rfl⟩
          have ho2 := HO2.out
          rw [List.take_of_length_le (by have := HOK.out.2.2; omega), ← hQ0] at ho2
          have hlst : Lst wr C a1 m1 c1 av m cv none 0 0 H0 Q0 [] := ⟨HX.out, HO.out, ho2, World.ownsRow_nil _ _ _ _, HNE.out, (fun q _ e => by cases e), (fun q _ e => by cases e)⟩
          have hsemi : Semi H0 Q0 := by rw [HH0.out, hQ0]; exact gone_semi HOK.out.1.semi t
          have hm2 : m = Q0.length := lk_of_len ho2
          have hLE : leaveL held l t = ((wakeL m H0 Q0 []).1, (wakeL m H0 Q0 []).2.1, (wakeL m H0 Q0 []).2.2, 0) := by
            unfold leaveL
            rw [if_neg (by simp [(okl_iff held l).2 HOK.out.1]), if_neg (by have := HTT.out; omega), ← hQ0, ← HH0.out, ← hm2]
          have HLS := Lib.hid hlst
          have HSE := Lib.hid hsemi
          have HLE := Lib.hid hLE
          have HBS := HB
          have hjI : ¬ (j : Int) < (j : Int) := by omega
          clear ho2 hlst hsemi hm2 hLE hQ0 HO HO2 HX HNE HO1 HX1 HB1 hlt HRH HRQ HFT HW0 HB0 HIN HBP
          go_wp2_with fail
          go_loopg [11, 12] (2 * m + 1) (fun g v11 v12 wr => ∃ (x1 : Option Addr) (y1 z1 : Nat) (x2 : Option Addr) (y2 z2 : Nat) (x3 : Option Addr) (y3 z3 : Nat) (H Q : List Lk) (A : List Int) (ag : Bool), v11 = .slice x3 y3 z3 ∧ v12 = .bool ag ∧ 2 * y2 + (if ag = true then 1 else 0) ≤ g ∧ Hid (Lst wr C x1 y1 z1 x2 y2 z2 x3 y3 z3 H Q A) ∧ Hid (Semi H Q) ∧ Hid ((ag = true → wakeL y2 H Q A = wakeL m H0 Q0 []) ∧ (ag = false → (H, Q, A) = wakeL m H0 Q0 [])) ∧ Hid (Below C W1 wr) ∧ y3 + y2 ≤ 200)
          case atStart => exact ⟨a1, m1, c1, av, m, cv, none, 0, 0, H0, Q0, [], true, rfl, rfl, by simp, HLS.out, HSE.out, ⟨fun _ => rfl, fun h => by cases h⟩, HBS.out, by omega⟩
          case round =>
            obtain ⟨x1, y1, z1, x2, y2, z2, x3, y3, z3, H, Q, A, ag, rfl, rfl, hg, HS, HSM, HWK, HB, hy⟩ := hrel
            have hzr := HB.out.size
            have hy1 := lk_of_len HS.out.h
            have hy2 := lk_of_len HS.out.q
            have hfw := HSM.out.few
            cases ag
            · obtain ⟨e0, e1, -, -⟩ := box2 HS.out.box
              obtain ⟨r0, r1, rf0, rf1⟩ := box2 ((HB.out.block _ (by omega)).trans HPB.out.2)
              obtain ⟨t0, t1⟩ := box2_set (P := w.heap.size + 1) (x := .slice x1 y1 z1) (y := .slice x2 y2 z2) r0 r1
              have HY := Lib.hid (And.intro hy1 hy2)
              have hLL : leaveL held l t = (H, Q, A, 0) := by rw [HLE.out, ← HWK.out.2 rfl]
              have HLL := Lib.hid hLL
              have hy3 : y3 = A.length := by have := HS.out.a.1; simp [ic] at this; omega
              have HY3 := Lib.hid hy3
              clear hy1 hy2 hfw hLL hy3
              go_upto_region 36 with (fail)
              repeat (first | go_values | go_skip | go_guarded | go_step | go_upon)
              refine bodyPost_ret (by simp [results, Tryd.results14, go_sem, t0, t1]; try rfl) rfl ?_
              unfold LeaveIs
              rw [HLL.out]
              have k1 := ownsRow_setCell_below (ownsRow_setCell_below HS.out.h (a := ⟨w.heap.size + 1, 0, none⟩) (by show w.heap.size + 1 < _; omega) (.slice x1 y1 z1)) (a := ⟨w.heap.size + 1, 1, none⟩) (by show w.heap.size + 1 < _; omega) (.slice x2 y2 z2)
              have k2 := ownsRow_setCell_below (ownsRow_setCell_below HS.out.q (a := ⟨w.heap.size + 1, 0, none⟩) (by show w.heap.size + 1 < _; omega) (.slice x1 y1 z1)) (a := ⟨w.heap.size + 1, 1, none⟩) (by show w.heap.size + 1 < _; omega) (.slice x2 y2 z2)
              have k3 := ownsRow_setCell_below (ownsRow_setCell_below HS.out.a (a := ⟨w.heap.size + 1, 0, none⟩) (by show w.heap.size + 1 < _; omega) (.slice x1 y1 z1)) (a := ⟨w.heap.size + 1, 1, none⟩) (by show w.heap.size + 1 < _; omega) (.slice x2 y2 z2)
              exact ⟨_, _, _, rfl, by rw [← HY.out.1]; exact Rd.own k1, by rw [← HY.out.2]; exact Rd.own k2, by rw [← HY3.out]; exact Rd.own k3, ((HBW.out.trans (HB.out.mono (by omega))).setCell (by show w.heap.size ≤ w.heap.size + 1; omega) _).setCell (by show w.heap.size ≤ w.heap.size + 1; omega) _⟩
            · have HY := Lib.hid (And.intro hy1 hy2)
              have hyb : y1 ≤ 200 ∧ y2 ≤ 200 := by omega
              have hg' : 2 * y2 + 1 ≤ gk := by simpa using hg
              clear hy1 hy2 hfw hg
              obtain ⟨hyb1, hyb2⟩ := hyb
              go_wp2_with fail
              go_loopg [11, 12, 13] (y2 + 1) (fun g v11 v12 v13 wr =>
                (∃ k : Nat, v12 = .bool false ∧ v11 = .slice x3 y3 z3 ∧ v13 = .int .i64 (k : Int) ∧ k ≤ y2 ∧ y2 - k < g ∧ Hid (Lst wr C x1 y1 z1 x2 y2 z2 x3 y3 z3 H Q A) ∧ Hid (∀ j, j < k → freeP H Q j = false) ∧ Hid (Below C W1 wr)) ∨
                (∃ (k : Nat) (x1' : Option Addr) (y1' z1' : Nat) (x2' : Option Addr) (y2' z2' : Nat) (x3' : Option Addr) (y3' z3' : Nat) (H' Q' : List Lk) (A' : List Int), v12 = .bool true ∧ v11 = .slice x3' y3' z3' ∧ v13 = .int .i64 (k : Int) ∧ k ≤ 1000 ∧ y2' + 1 = y2 ∧ y3' = y3 + 1 ∧ Hid (Lst wr C x1' y1' z1' x2' y2' z2' x3' y3' z3' H' Q' A') ∧ Hid (Semi H' Q') ∧ Hid (wakeL y2' H' Q' A' = wakeL m H0 Q0 []) ∧ Hid (Below C W1 wr)))
              case atStart => exact .inl ⟨0, rfl, rfl, rfl, by omega, by omega, HS.out, (fun j hj => by omega), HB.out⟩
              case round =>
                rcases hrel with ⟨k, rfl, rfl, rfl, hk, hkg, HS, HFR, HB⟩ | ⟨k, x1', y1', z1', x2', y2', z2', x3', y3', z3', H', Q', A', rfl, rfl, rfl, hk, hyy, hyy3, HS, HSM, HWK2, HB⟩
                · obtain ⟨e0, e1, f0, f1⟩ := box2 HS.out.box
                  by_cases hlt : k < y2
                  · have hzr3 := HB.out.size
                    have hqk : k < Q.length := by rw [← HY.out.2]; exact hlt
                    have hMoH : Mo H := fun y hy => (frm_ok.1 (HSM.out.hf y hy)).2.2
                    have hMoQ : Mo Q := fun y hy => (frm_ok.1 (HSM.out.qf y hy)).2.2
                    have hdw := dwaits_any wr y1 y2 k _ _ H Q (by omega) (by omega) hlt (Rd.own HS.out.h) (Rd.own HS.out.q)
                    rw [wts_is hMoH hqk hMoQ] at hdw
                    obtain ⟨N, hN⟩ : ∃ N, N = (wts H (Q.take k) (Q.getD k nlk)).length := ⟨_, rfl⟩
                    rw [← hN] at hdw
                    have HDW : Hid (Calls Tryd.prog 27 #[.agg #[.slice x1 y1 z1, .slice x2 y2 z2], .int .i64 (k : Int)] wr fun e w' => ∃ (a : Option Addr) (c : Nat), e = .returned (.slice a N c) ∧ Below wr.heap.size wr w') := hdw.mono fun e w' ⟨v', g1, g2, g3⟩ => by
                      obtain ⟨a, c, rfl⟩ := rd_shape (Rd.own g2)
                      exact ⟨a, c, g1, g3⟩
                    have hfp : freeP H Q k = decide (N = 0) := by
                      unfold freeP
                      rw [hN, Bool.eq_iff_iff, decide_eq_true_eq]
                      exact len_emp.symm
                    obtain ⟨b, o, cap, hsh, hcap, hcm, hbw, hcell⟩ := lks_of (Rd.own HS.out.q) (by omega)
                    simp only [Value.slice.injEq] at hsh
                    obtain ⟨rfl, -, rfl⟩ := hsh
                    unfold maxLen at hcm
                    have HCE := Lib.hid hcell
                    have HBH := Lib.hid hbw
                    have HFP := Lib.hid hfp
                    have HQK := Lib.hid hqk
                    have hkI : (k : Int) < (y2 : Int) := by omega
                    clear hcell hbw hfp hqk hMoH hMoQ hdw hN
                    go_wp2_with fail
                    refine HDW.out.mono ?_
                    rintro e w3 ⟨av3, cv3, rfl, hb3⟩
                    have HS3 := Lib.hid (HS.out.below hb3)
                    have HB3 := Lib.hid (HB.out.trans (hb3.mono (by omega)))
                    have HB33 := Lib.hid hb3
                    clear e0 e1 f0 f1 hb3
                    by_cases hN0 : N = 0
                    · subst hN0
                      have hfi : freeI H Q = (k : Int) := freeI_hit HQK.out HFR.out (by rw [HFP.out]; rfl)
                      have hqk := HQK.out
                      have hsemi := HSM.out.step (by rw [hfi]; omega)
                      rw [hfi] at hsemi
                      simp only [Int.toNat_natCast] at hsemi
                      obtain ⟨g0, g1, g2⟩ := HCE.out k hlt
                      have c0 := (HB33.out.cell (p := ⟨b, o + k * 3, none⟩) HBH.out).trans g0
                      have c1 := (HB33.out.cell (p := ⟨b, o + k * 3 + 1, none⟩) HBH.out).trans g1
                      have c2 := (HB33.out.cell (p := ⟨b, o + k * 3 + 2, none⟩) HBH.out).trans g2
                      have hwk := wake_step (H := H) (Q := Q) (A := A) hfi (Q.eraseIdx k).length
                      have hel : (Q.eraseIdx k).length + 1 = y2 := by rw [List.length_eraseIdx, if_pos hqk, ← HY.out.2]; omega
                      rw [hel, HWK.out.1 (by trivial)] at hwk
                      obtain ⟨u, hu⟩ : ∃ u, u = Q.getD k nlk := ⟨_, rfl⟩
                      rw [← hu] at c0 c1 c2 hsemi hwk
                      obtain ⟨ut, uth, um⟩ := u
                      simp only at c0 c1 c2
                      obtain ⟨W4, hW4⟩ : ∃ W4 : World, W4 = w3.alloc (.cells #[.int .i64 ut, .string uth, .int .i64 um] 26) := ⟨_, rfl⟩
                      have hb4 : Below w3.heap.size w3 W4 := by rw [hW4]; exact (Below.refl _ _).alloc (Nat.le_refl _) _
                      have hdx : W4.heap[w3.heap.size]? = some (.cells #[.int .i64 ut, .string uth, .int .i64 um] 26 (0, 0)) := by rw [hW4]; exact new0 _ _
                      have hz4 : W4.heap.size = w3.heap.size + 1 := by rw [hW4]; simp
                      have hz3 := HB3.out.size
                      have HS4 := Lib.hid (HS3.out.below hb4)
                      have HB4 := Lib.hid (HB3.out.trans (hb4.mono (by omega)))
                      have HB43 := Lib.hid (into HB33.out hb4)
                      have HDX := Lib.hid hdx
                      have HSEM := Lib.hid hsemi
                      have HWKN := Lib.hid hwk
                      have HEL := Lib.hid hel
                      have HU := Lib.hid hu
                      have HW4 := Lib.hid hW4
                      obtain ⟨e0, e1, f0, f1⟩ := box2 HS3.out.box
                      clear hfi hqk hsemi g0 g1 g2 hwk hel hu hW4 hb4 hdx
                      go_wp2_with fail
                      rw [← HW4.out]
                      clear e0 e1 f0 f1 c0 c1 c2
                      go_loopw [15, 16] (fun rv jv wr => ∃ (j : Nat) (ar : Option Addr) (mr cr : Nat), j ≤ y2 ∧ mr ≤ j ∧ jv = .int .i64 (j : Int) ∧ rv = .slice ar mr cr ∧ Hid (wr.ownsRow W4.heap.size 26 3 (.slice ar mr cr) mr (lkc ((Q.take j).eraseIdx k))) ∧ Hid (Below W4.heap.size W4 wr)) (fun _ jv _ => y2 - (intOf jv).toNat)
                      case atStart => exact ⟨0, none, 0, 0, by omega, by omega, rfl, rfl, by simp only [List.take_zero, List.eraseIdx_nil]; exact World.ownsRow_nil _ _ _ _, Below.refl _ _⟩
                      case round =>
                        obtain ⟨j, ar, mr, cr, hj, hmr, rfl, rfl, HO5, HB5⟩ := hrel
                        have hz5 := HB5.out.size
                        obtain ⟨e0, e1, f0, f1⟩ := box2 (HS4.out.below HB5.out).box
                        by_cases hltj : j < y2
                        · obtain ⟨g0, g1, g2⟩ := HCE.out j hltj
                          have hbb := into HB43.out HB5.out
                          have c0 := (hbb.cell (p := ⟨b, o + j * 3, none⟩) HBH.out).trans g0
                          have c1 := (hbb.cell (p := ⟨b, o + j * 3 + 1, none⟩) HBH.out).trans g1
                          have c2 := (hbb.cell (p := ⟨b, o + j * 3 + 2, none⟩) HBH.out).trans g2
                          have hjl : j < Q.length := by rw [← HY.out.2]; exact hltj
                          have hnx : j ≠ k → lkc ((Q.take (j + 1)).eraseIdx k) = lkc ((Q.take j).eraseIdx k) ++ [.int .i64 (Q.getD j nlk).t, .string (Q.getD j nlk).th, .int .i64 (Q.getD j nlk).m] := fun h => by rw [era_next hjl h, lkc_snoc]
                          obtain ⟨z, hz⟩ : ∃ z, z = Q.getD j nlk := ⟨_, rfl⟩
                          rw [← hz] at c0 c1 c2 hnx
                          obtain ⟨zt, zth, zm⟩ := z
                          simp only at c0 c1 c2 hnx
                          have HNX := Lib.hid hnx
                          have hjI : (j : Int) < (y2 : Int) := by omega
                          clear g0 g1 g2 hbb hjl hnx hz
                          by_cases hjk : j = k
                          · subst hjk
                            have HSK : Hid ((Q.take (j + 1)).eraseIdx j = (Q.take j).eraseIdx j) := era_skip Q j
                            go_wp2_with fail
                            go_roundw
                            case rel => exact ⟨j + 1, ar, mr, cr, by omega, by omega, by go_num, rfl, by rw [HSK.out]; exact HO5.out, HB5.out⟩
                            case measure => simp [intOf]; omega
                          · have hjk' : ((j : Int) != (k : Int)) = true := by
                              have : ¬ (j : Int) = (k : Int) := by omega
                              simpa using this
                            have HSK := Lib.hid (HNX.out hjk)
                            go_wp2_with (at_builtin; refine apx wr 1 rfl _ _ 22 26 _ 3 32 Tryd.underlying22 Tryd.info26 rfl (by omega) rfl HO5.out hz5 (by omega) (by unfold maxLen; omega) [.int .i64 zt, .string zth, .int .i64 zm] rfl (by simp [Value.oneCell']) wr.heap.size rfl rfl rfl ?_; intro v6 w6 hown6 hbel6 _ _; obtain ⟨a6, c6, rfl⟩ := rd_shape (Rd.own hown6); have HO6 := Lib.hid hown6; have HB6 := Lib.hid (HB5.out.trans hbel6); clear hown6 hbel6)
                            go_roundw
                            case rel => exact ⟨j + 1, a6, mr + 1, c6, by omega, by omega, by go_num, rfl, by rw [HSK.out]; exact HO6.out, HB6.out⟩
                            case measure => simp [intOf]; omega
                        · obtain rfl : j = y2 := by omega
                          have hQl := HY.out.2
                          have ho5 := HO5.out
                          rw [List.take_of_length_le (by omega)] at ho5
                          have hmr5 : mr = (Q.eraseIdx k).length := lk_of_len ho5
                          have hel5 : mr + 1 = j := by rw [hmr5]; exact HEL.out
                          have hCW := HS4.out.szC
                          have hL4 := HS4.out.below HB5.out
                          have hl1 : ∀ q, (Value.slice x1 y1 z1).ownBlock = some q → q < w3.heap.size := fun q hq => (HS3.out.h.lt q hq).2
                          have hl3 : ∀ q, (Value.slice x3 y3 z3).ownBlock = some q → q < w3.heap.size := fun q hq => (HS3.out.a.lt q hq).2
                          have hL5 := hL4.rest ho5 (by omega) (fun q hq => by have := hl1 q hq; omega) (fun q hq => by have := hl3 q hq; omega)
                          have hD5 := heap_far (P := C) (j := 1) ((HB5.out.block w3.heap.size (by omega)).trans HDX.out) (by have := HS3.out.szC; omega) (.slice ar mr cr)
                          have hB5 := (HB4.out.trans (HB5.out.mono (Nat.le_of_lt hCW))).setCell (p := ⟨C, 1, none⟩) (Nat.le_refl C) (.slice ar mr cr)
                          obtain ⟨j0, j1, -, -⟩ := box2 hL5.box
                          obtain ⟨b0, b1, b2, -, -, -⟩ := has3 hD5 (Below.refl _ _)
                          obtain ⟨W5, hW5⟩ : ∃ W5 : World, W5 = wr.setCell ⟨C, 1, none⟩ (.slice ar mr cr) := ⟨_, rfl⟩
                          have hz6 : W5.heap.size = wr.heap.size := by rw [hW5]; simp
                          rw [← hW5] at hL5 hD5 hB5
                          have hgh := hL5.h
                          rw [HY.out.1] at hgh
                          have HGV := Lib.hid (given_any W5 (C + 1) (.slice x1 H.length z1) ar mr cr H ⟨ut, uth, um⟩ hgh (by omega) (by have := HSM.out.few; omega))
                          rw [← HY.out.1] at HGV
                          have HW5 := Lib.hid hW5
                          have HL5 := Lib.hid hL5
                          have HD5 := Lib.hid hD5
                          have HB6 := Lib.hid hB5
                          have HMR := Lib.hid hmr5
                          have HL1 := Lib.hid hl1
                          have hjI : ¬ (j : Int) < (j : Int) := by omega
                          clear ho5 hmr5 hL4 hl1 hl3 hL5 hD5 hB5 hW5 hgh hQl hltj
                          go_wp2_with fail
                          rw [← HW5.out]
                          refine HGV.out.mono ?_
                          rintro e w6 ⟨a6, c6, rfl, ho6, hg6, hl6⟩
                          obtain ⟨G, hG⟩ : ∃ G, G = (giveL H ⟨ut, uth, um⟩).length := ⟨_, rfl⟩
                          rw [← hG] at ho6 hl6 ⊢
                          obtain ⟨hL7, hb7, hx6⟩ := HL5.out.gave ho6 hg6 hl6
                          have hz7 := hg6.size
                          have hd6 := (hg6.block w3.heap.size (by omega) (fun e => by have := HL1.out _ e.symm; omega)).trans HD5.out
                          have hne3 : w3.heap.size ≠ C := by have := HS3.out.szC; omega
                          have hd7 := heap_far (P := C) (j := 1) (heap_far (P := C) (j := 0) hd6 hne3 (.slice a6 G c6)) hne3 (.slice ar mr cr)
                          have hB7 := HB6.out.trans hb7
                          clear e0 e1 f0 f1 j0 j1 b0 b1 b2
                          obtain ⟨e0, e1, f0, f1⟩ := box2 hx6
                          obtain ⟨t0, t1⟩ := box2_set (P := C) (x := .slice a6 G c6) (y := .slice ar mr cr) e0 e1
                          obtain ⟨b0, -, -, -, -, -⟩ := has3 hd7 (Below.refl _ _)
                          have HL7 := Lib.hid hL7
                          have HB7 := Lib.hid hB7
                          have HG := Lib.hid hG
                          clear ho6 hg6 hl6 hL7 hb7 hx6 hd6 hd7 hB7 hG HGV HL5 HD5 HB6 HW5
                          go_upto_region 34 with (fail)
                          obtain ⟨W7, hW7⟩ : ∃ W7 : World, W7 = (w6.setCell ⟨C, 0, none⟩ (.slice a6 G c6)).setCell ⟨C, 1, none⟩ (.slice ar mr cr) := ⟨_, rfl⟩
                          rw [← hW7] at HL7 HB7 b0 ⊢
                          clear hW7 e0 e1 f0 f1 t0 t1
                          have hC7 := HL7.out.szC
                          go_wp2_with (at_builtin; refine apx W7 1 rfl _ _ 38 3 _ 1 8 Tryd.underlying38 Tryd.info3 rfl (by omega) rfl HL7.out.a (by omega) (by omega) (by unfold maxLen; omega) [.int .i64 ut] rfl (by simp [Value.oneCell']) W7.heap.size rfl rfl rfl ?_; intro v9 w9 hown9 _ hg9 hat9; obtain ⟨a8, c8, rfl⟩ := rd_shape (Rd.own hown9); have HL9 := Lib.hid (HL7.out.woke hown9 hg9 hat9); have HB9 := Lib.hid (HB7.out.grown hg9 (by omega) (fun q hq => by have := (HL7.out.a.lt q hq).1; omega)); clear hown9 hg9 hat9)
                          go_roundg (j - k)
                          case measure => exact hkg
                          case rel => exact .inr ⟨k + 1, a6, G, c6, ar, mr, cr, a8, y3 + 1, c8, giveL H ⟨ut, uth, um⟩, Q.eraseIdx k, A ++ [ut], rfl, rfl, by go_num, by omega, by omega, rfl, HL9.out, HSEM.out, by rw [HMR.out]; exact HWKN.out.symm, HB9.out⟩
                    · have hNI : (0 : Int) < (N : Int) := by omega
                      have hfr' : ∀ j, j < k + 1 → freeP H Q j = false := fun j hj => by
                        rcases Nat.lt_or_ge j k with h | h
                        · exact HFR.out j h
                        · obtain rfl : j = k := by omega
                          rw [HFP.out, decide_eq_false hN0]
                      have HFN := Lib.hid hfr'
                      clear hfr'
                      go_wp2_with fail
                      go_roundg (y2 - k)
                      case measure => exact hkg
                      case rel => exact .inl ⟨k + 1, rfl, rfl, by go_num, by omega, by omega, HS3.out, HFN.out, HB3.out⟩
                  · obtain rfl : k = y2 := by omega
                    have hfr : freeI H Q < 0 := by rw [freeI_none (fun j hj => HFR.out j (by rw [HY.out.2]; exact hj))]; omega
                    have hwk : (H, Q, A) = wakeL m H0 Q0 [] := by rw [← HWK.out.1 (by trivial), wake_stop hfr]
                    have HWN := Lib.hid hwk
                    have hkI : ¬ (k : Int) < (k : Int) := by omega
                    clear hfr hwk hlt
                    go_wp2_with fail
                    go_roundg (2 * k)
                    case measure => omega
                    case rel => exact ⟨x1, y1, z1, x2, k, z2, x3, y3, z3, H, Q, A, false, rfl, rfl, by simp, HS.out, HSM.out, ⟨fun h => (by cases h), fun _ => HWN.out⟩, HB.out, hy⟩
                · obtain ⟨e0, e1, f0, f1⟩ := box2 HS.out.box
                  by_cases hlt : k < y2'
                  all_goals (
                    go_wp2_with fail
                    go_roundg (2 * y2' + 1)
                    case measure => omega
                    case rel => exact ⟨x1', y1', z1', x2', y2', z2', x3', y3', z3', H', Q', A', true, rfl, rfl, by simp, HS.out, HSM.out, ⟨fun _ => HWK2.out, fun h => (by cases h)⟩, HB.out, by omega⟩)
end Go.Proofs.YtpddlckkncmlmaaDoor
/- Leaving, as the document has it: at every argument; and how long the answers are. -/
namespace Go.Proofs.YtpddlckkncmlmaaDoor
set_option linter.unusedVariables false
theorem left_any (w : World) (nh n : Nat) (hv qv : Value) (held l : List Lk) (t : Int) (hrh : Rd w 3 nh hv (lkc held)) (hr : Rd w 3 n qv (lkc l)) (h1 : nh ≤ 1000000000000000) (h2 : n ≤ 1000000000000000) :
    Calls Tryd.prog 14 #[.agg #[hv, qv], .int .i64 t] w (LeaveIs held l t w) := by
  by_cases hbad : lksF held l ≠ 0 ∨ (t < 1 ∨ 1048576 < t)
  · exact left_bad w nh n hv qv held l t hrh hr h1 h2 hbad
  · exact left_good w nh n hv qv held l t hrh hr ((okl_iff _ _).1 (by omega)) (by omega)
theorem wake_woken : ∀ (n : Nat) (H Q : List Lk) (a : List Int), (wakeL n H Q a).2.2.length ≤ a.length + n
  | 0, H, Q, a => Nat.le_refl _
  | n + 1, H, Q, a => by
    unfold wakeL
    split
    · simp only; omega
    · refine Nat.le_trans (wake_woken n _ _ _) ?_
      simp
      omega
theorem leave_len (H Q : List Lk) (t : Int) : (leaveL H Q t).1.length ≤ 200 ∧ (leaveL H Q t).2.1.length ≤ 200 ∧ (leaveL H Q t).2.2.1.length ≤ 200 := by
  unfold leaveL
  split
  · simp
  split
  · simp
  · rename_i h _
    have hf := ((okl_iff H Q).1 (by omega)).few
    have h1 := List.length_filter_le (notB t) H
    have h2 := List.length_filter_le (notB t) Q
    have h3 := wake_few (Q.filter (notB t)).length (H.filter (notB t)) (Q.filter (notB t)) []
    have h4 := wake_woken (Q.filter (notB t)).length (H.filter (notB t)) (Q.filter (notB t)) []
    simp only [List.length_nil] at h4
    simp only
    omega
end Go.Proofs.YtpddlckkncmlmaaDoor
