/- Who leaves has nothing; who is woken has what they waited for, and waits no more: at every list of wishes and every raw number. The row lists the program's two tables; the card ties them to the program's text. -/
import Derived.Test.YtoiaedjglhcidaaDoorJl
import Derived.Test.YtoiaedjglhcidaaDoorB2
import Derived.Test.YtoiaedjglhcidaaDoorMv
import Derived.Test.YtoiaedjglhcidaaDoorMc
namespace Go.Proofs.YtoiaedjglhcidaaDoor.lLeaveFrees
open Go.ChangeShapes Go.WideShapes Go.ChangeAt Go.RowKit Go.Joins
open Go.ChangeMaps (open_string shut_string)
set_option linter.unusedVariables false
set_option linter.unusedSimpArgs false
set_option maxHeartbeats 400000

theorem gone_0 {H Q : List Lk} (hok : Okl H Q) : leaveL H Q 0 = ([], [], [], 3) := by
  unfold leaveL
  rw [if_neg (by simp [(okl_iff H Q).2 hok]), if_pos (by omega)]
theorem woken_of {w : World} {n : Nat} {x : Option Addr} {c : Nat} {A : List Int} (h : Rd w 1 n (.slice x n c) (ic A)) (hn : 0 < n) : ∃ b o, x = some ⟨b, o, none⟩ ∧ b < w.heap.size ∧ ∀ k, k < n → w.cell? ⟨b, o + k, none⟩ = some (.int .i64 (A.getD k 0)) := by
  obtain ⟨b, o, cap, he, _, _, hb, hc⟩ := h.pos hn (by omega)
  simp only [Value.slice.injEq] at he
  have hl : n = A.length := by have := h.1; simp [ic] at this; omega
  exact ⟨b, o, he.1, hb, fun k hk => hc k _ (by simp [ic, List.getD, List.getElem?_eq_getElem (show k < A.length by omega)])⟩
theorem geti_mem {A : List Int} {k : Nat} (h : k < A.length) : A.getD k 0 ∈ A := by
  simp only [List.getD, List.getElem?_eq_getElem h, Option.getD_some]
  exact List.getElem_mem h
theorem count_step {p : Lk → Bool} {H : List Lk} {i : Nat} (hi : i < H.length) : ((H.take (i + 1)).filter p).length = ((H.take i).filter p).length + (if p (H.getD i nlk) = true then 1 else 0) := by
  rw [List.take_succ_eq_append_getElem hi, List.filter_append, List.length_append, gd hi]
  cases h : p H[i] <;> simp [List.filter, h]
set_option maxRecDepth 100000 in
set_option maxHeartbeats 16000000 in
theorem walk (W : World) (hL : Tog W ∧ Jnd W) (n : Nat) (v : Value) (l : List Wi) (hr : Rd W 3 n v (wic l)) (hz : n * 24 ≤ 140737488351232) (hs : ∀ o ∈ l, WiOk o) (x : Int) (wx : (Lit.int .i64 x).wf = true) :
    Calls Tryd.prog 5 #[v, .int .i64 x] W fun e w' => e = .returned (.bool true) ∧ Below W.heap.size W w' := by
  have HT := Lib.hid hL
  have HLK := Lib.hid (locks_any W hL n v l hr hs)
  obtain ⟨_, av, cv, rfl, _⟩ := id hr
  have hwx := rn_of wx
  obtain ⟨p1, p2⟩ := pck_in x 6 (by omega)
  have hpx := fun W => pck_any x 6 W hwx (by omega) (by omega)
  obtain ⟨t, ht⟩ : ∃ t, t = 1 + pck x 6 := ⟨_, rfl⟩
  obtain ⟨a, ha⟩ : ∃ a, a = pck x 6 := ⟨_, rfl⟩
  rw [← ha] at hpx ht p1 p2
  have ht6 : 1 ≤ t ∧ t ≤ 6 := by omega
  have hta : 1 + a = t := ht.symm
  have HPX := Lib.hid hpx
  clear hL hr hs wx hwx ha ht p1 p2 hpx
  go_enter Tryd.func5, Tryd.ntmps5
  go_wp2_with fail
  refine HLK.out.mono ?_
  rintro e w1 ⟨x1, n1, c1, x2, n2, c2, H, Q, rfl, hg0, g1, g2, hb1⟩
  have hlb := LB.new w1 g1 g2
  have hb2 : Below W.heap.size W (w1.alloc (.cells #[.slice x1 n1 c1, .slice x2 n2 c2] 25)) := hb1.alloc hb1.size _
  have hn1 := len_l g1
  have hn2 := len_l g2
  have hfw : H.length + Q.length ≤ 40 := hg0.few
  rcases hlv : leaveL H Q t with ⟨H', Q', A, er⟩
  have her : er = 0 := by
    have := leave_e (t := t) hg0.ok
    rw [hlv, if_neg (by omega)] at this
    exact this
  subst her
  have hgr := hg0.leave (t := t) ⟨by omega, by omega⟩
  have hfr := leave_frees (t := t) hg0.ok ⟨by omega, by omega⟩
  rw [hlv] at hgr hfr
  simp only at hgr hfr
  obtain ⟨e0, e1, -, -⟩ := box2 hlb.b
  have hlvv := leave_v _ ⟨HT.out.1.below hb2, HT.out.2.below hb2⟩ hlb.h hlb.q (by omega) hlv
  obtain ⟨nA, hnA⟩ : ∃ nA, nA = A.length := ⟨_, rfl⟩
  rw [← hnA] at hlvv
  have HLV := Lib.hid hlvv
  have HNA := Lib.hid hnA
  have HLB := Lib.hid hlb
  have HB2 := Lib.hid hb2
  have HG := Lib.hid hg0
  have HN := Lib.hid (And.intro hn1 hn2)
  have HGR := Lib.hid hgr
  have HFR := Lib.hid hfr
  have hn240 : n2 ≤ 40 := by omega
  clear g1 g2 hb1 hlb hb2 HLK hg0 hn1 hn2 hlv hgr hfr hlvv hnA
  go_wp2_with (go_at_call 15; ((with_reducible refine (HPX.out _).mono ?_); rintro e w' ⟨rfl, rfl⟩))
  refine HLV.out.mono ?_
  rintro e w3 ⟨y1, m1, d1, y2, m2, d2, y3, d3, rfl, g1, g2, g3, hb3⟩
  have hba : Below (w1.alloc (.cells #[.slice x1 n1 c1, .slice x2 n2 c2] 25)).heap.size (w1.alloc (.cells #[.slice x1 n1 c1, .slice x2 n2 c2] 25)) (w3.alloc (.cells #[.slice y1 m1 d1, .slice y2 m2 d2] 25)) := hb3.alloc hb3.size _
  have hly := LB.new w3 g1 g2
  have hlx := HLB.out.below hba
  have hb4 : Below W.heap.size W (w3.alloc (.cells #[.slice y1 m1 d1, .slice y2 m2 d2] 25)) := into HB2.out hba
  have hnA := HNA.out
  have hwk : Rd (w3.alloc (.cells #[.slice y1 m1 d1, .slice y2 m2 d2] 25)) 1 nA (.slice y3 nA d3) (ic A) := g3.below ((Below.refl _ _).alloc (Nat.le_refl _) _)
  have hm1 := len_l g1
  have hm2 := len_l g2
  have hck := check_any _ (HT.out.1.below hb4) (HT.out.2.below hb4) m1 m2 _ _ H' Q' hly.h hly.q (by have := HGR.out.few; omega) (by have := HGR.out.few; omega)
  rw [(okl_iff H' Q').2 HGR.out.ok] at hck
  obtain ⟨y0, y1', -, -⟩ := box2 hly.b
  have hcnt := HFR.out.2.2
  have hm240 : m2 ≤ 40 := by have := HGR.out.few; omega
  have hm140 : m1 ≤ 40 := by have := HGR.out.few; omega
  have hnA40 : nA ≤ 40 := by have := HN.out.2; omega
  rw [← hm2, ← hnA, ← HN.out.2] at hcnt
  have HCK := Lib.hid hck
  have HLY := Lib.hid hly
  have HLX := Lib.hid hlx
  have HWK := Lib.hid hwk
  have HB4 := Lib.hid hb4
  have HM := Lib.hid (And.intro hm1 (And.intro hm2 hnA))
  have HCNT := Lib.hid hcnt
  clear g1 g2 g3 hb3 hba hly hlx hb4 hwk hm1 hm2 hck e0 e1 hnA hcnt HLV HLB HB2
  go_wp2_with fail
  refine HCK.out.mono ?_
  rintro e w5 ⟨rfl, hb5⟩
  have HLY5 := Lib.hid (HLY.out.below hb5)
  have HLX5 := Lib.hid (HLX.out.below hb5)
  have HWK5 := Lib.hid (HWK.out.below hb5)
  have HB5 := Lib.hid (into HB4.out hb5)
  clear y0 y1' hb5 HCK HLY HLX HWK HB4
  go_wp2_with fail
  go_loopw [10] (fun iv wr => ∃ i : Nat, i ≤ m1 ∧ iv = .int .i64 (i : Int) ∧ Hid (Below w5.heap.size w5 wr)) (fun iv _ => m1 - (intOf iv).toNat)
  case atStart => exact ⟨0, by omega, rfl, Below.refl _ _⟩
  case round =>
    obtain ⟨i, him, rfl, HB⟩ := hrel
    have hy := HLY5.out.below HB.out
    obtain ⟨y0, y1', -, -⟩ := box2 hy.b
    by_cases hlt : i < m1
    · have hltI : (i : Int) < (m1 : Int) := by omega
      obtain ⟨b, o, cap, hsh, _, _, _, hcell⟩ := lks_of hy.h (by omega)
      simp only [Value.slice.injEq] at hsh
      obtain ⟨rfl, -, rfl⟩ := hsh
      obtain ⟨a0, -, -⟩ := hcell i hlt
      have hne := HFR.out.1 _ (mem_getD (l := H') (k := i) (by rw [← HM.out.1]; exact hlt))
      obtain ⟨u, hu⟩ : ∃ u, u = (H'.getD i nlk).t := ⟨_, rfl⟩
      rw [← hu] at a0 hne
      have hnb : (u == t) = false := by simpa using hne
      clear hcell hu hy
      go_wp2_with fail
      go_roundw
      case rel => exact ⟨i + 1, by omega, by go_num, HB.out⟩
      case measure => (simp [intOf]) <;> omega
    · obtain rfl : i = m1 := by omega
      have hnI : ¬ (i : Int) < (i : Int) := by omega
      clear hy hlt
      go_wp2_with fail
      clear y0 y1' hnI
      go_loopw [11] (fun iv wx => ∃ j : Nat, j ≤ nA ∧ iv = .int .i64 (j : Int) ∧ Hid (Below w5.heap.size w5 wx)) (fun iv _ => nA - (intOf iv).toNat)
      case atStart => exact ⟨0, by omega, rfl, HB.out⟩
      case round =>
        obtain ⟨j, hjn, rfl, HBj⟩ := hrel
        by_cases hltj : j < nA
        · have hltI : (j : Int) < (nA : Int) := by omega
          have hfj := HFR.out.2.1 _ (geti_mem (A := A) (k := j) (by rw [← HM.out.2.2]; exact hltj))
          obtain ⟨bw, ow, hw1, hw2, hw3⟩ := woken_of HWK5.out (by omega)
          have hwc := hw3 j hltj
          obtain ⟨u, hu⟩ : ∃ u, u = A.getD j 0 := ⟨_, rfl⟩
          rw [← hu] at hfj hwc
          have HFJ := Lib.hid hfj
          have HWC := Lib.hid hwc
          cases hw1
          clear hw3 hu hfj hwc
          go_wp2_with fail
          go_loopw [12] (fun iv wy => ∃ k : Nat, k ≤ n2 ∧ iv = .int .i64 (k : Int) ∧ Hid (Below w5.heap.size w5 wy)) (fun iv _ => n2 - (intOf iv).toNat)
          case atStart => exact ⟨0, by omega, rfl, HBj.out⟩
          case round =>
            obtain ⟨k, hkn, rfl, HBk⟩ := hrel
            have hx := HLX5.out.below HBk.out
            have hy := HLY5.out.below HBk.out
            obtain ⟨e0, e1, -, -⟩ := box2 hx.b
            obtain ⟨y0, y1', -, -⟩ := box2 hy.b
            have wc := cell_of_below HBk.out HWC.out
            by_cases hltk : k < n2
            · have hltkI : (k : Int) < (n2 : Int) := by omega
              obtain ⟨b, o, cap, hsh, _, _, _, hcell⟩ := lks_of hx.q (by omega)
              simp only [Value.slice.injEq] at hsh
              obtain ⟨rfl, -, rfl⟩ := hsh
              obtain ⟨a0, a1, a2⟩ := hcell k hltk
              have hqm := HFJ.out.2.1 _ (mem_getD (l := Q) (k := k) (by rw [← HN.out.2]; exact hltk))
              obtain ⟨q, hq⟩ : ∃ q, q = Q.getD k nlk := ⟨_, rfl⟩
              rw [← hq] at a0 a1 a2 hqm
              obtain ⟨qt, qth, qm⟩ := q
              simp only at a0 a1 a2 hqm
              by_cases he : qt = u
              · subst he
                have hmo := hqm rfl
                have HKM : Hid (∀ w, Below wr.heap.size wr w → Calls Tryd.prog 13 #[.agg #[.slice y1 i d1, .slice y2 m2 d2], .int .i64 qt, .string qth] w fun e w' => e = .returned (.int .i64 qm) ∧ Below wr.heap.size wr w') := fun w hw => by
                  have := kmode_any w (x2 := y2) (n2 := m2) (c2 := d2) qt qth qm (hy.h.below hw)
                  rw [hmo] at this
                  exact this.mono fun e w' h => ⟨h.1, into hw h.2⟩
                have hD : Below wr.heap.size wr wr.drew := (Below.refl _ _).drew
                have HD := Lib.hid hD
                clear hcell hq hx hy hqm hmo hD
                go_wp2_with fail
                go_region_held3 (fun wx => wx.cell? ⟨w1.heap.size, 1, none⟩ = some (.slice (some ⟨b, o, none⟩) n2 c2) ∧ wx.cell? ⟨w3.heap.size, 0, none⟩ = some (.slice y1 i d1) ∧ wx.cell? ⟨w3.heap.size, 1, none⟩ = some (.slice y2 m2 d2) ∧ wx.cell? ⟨b, o + k * 3, none⟩ = some (.int .i64 qt) ∧ wx.cell? ⟨b, o + k * 3 + 1, none⟩ = some (.string qth) ∧ wx.cell? ⟨b, o + k * 3 + 2, none⟩ = some (.int .i64 qm) ∧ wx.cell? ⟨bw, ow + j, none⟩ = some (.int .i64 qt))
                  ((first
                    | (with_reducible exact ⟨cell_dr e1, cell_dr y0, cell_dr y1', cell_dr a0, cell_dr a1, cell_dr a2, cell_dr wc⟩)
                    | (with_reducible exact ⟨cell_of_below hbm e1, cell_of_below hbm y0, cell_of_below hbm y1', cell_of_below hbm a0, cell_of_below hbm a1, cell_of_below hbm a2, cell_of_below hbm wc⟩)))
                  ((first
                    | (go_at_call 13; ((with_reducible refine (HKM.out _ HD.out).mono ?_); rintro e w7 ⟨rfl, hbm⟩))))
                have HB7 := Lib.hid (into HBk.out hbm)
                clear hbm e0 e1 y0 y1' wc a0 a1 a2
                go_wp2_with fail
                go_roundw
                case rel => exact ⟨k + 1, by omega, by go_num, HB7.out⟩
                case measure => (simp [intOf]) <;> omega
              · have he' : (qt == u) = false := by simpa using he
                clear hcell hq hx hy hqm
                go_wp2_with fail
                go_quiet (fail)
                go_wp2_with fail
                go_roundw
                case rel => exact ⟨k + 1, by omega, by go_num, below_drewN HBk.out _⟩
                case measure => (simp [intOf]) <;> omega
            · obtain rfl : k = n2 := by omega
              have hnkI : ¬ (k : Int) < (k : Int) := by omega
              clear hx hy hltk
              go_wp2_with fail
              clear e0 e1 y0 y1' wc hnkI
              go_loopw [13] (fun iv wz => ∃ s : Nat, s ≤ m2 ∧ iv = .int .i64 (s : Int) ∧ Hid (Below w5.heap.size w5 wz)) (fun iv _ => m2 - (intOf iv).toNat)
              case atStart => exact ⟨0, by omega, rfl, HBk.out⟩
              case round =>
                obtain ⟨s, hsm, rfl, HBs⟩ := hrel
                have hy := HLY5.out.below HBs.out
                obtain ⟨y0, y1', -, -⟩ := box2 hy.b
                have wc := cell_of_below HBs.out HWC.out
                by_cases hlts : s < m2
                · have hltsI : (s : Int) < (m2 : Int) := by omega
                  obtain ⟨b, o, cap, hsh, _, _, _, hcell⟩ := lks_of hy.q (by omega)
                  simp only [Value.slice.injEq] at hsh
                  obtain ⟨rfl, -, rfl⟩ := hsh
                  obtain ⟨a0, -, -⟩ := hcell s hlts
                  have hne := HFJ.out.2.2 _ (mem_getD (l := Q') (k := s) (by rw [← HM.out.2.1]; exact hlts))
                  obtain ⟨z, hz'⟩ : ∃ z, z = (Q'.getD s nlk).t := ⟨_, rfl⟩
                  rw [← hz'] at a0 hne
                  have hnb : (z == u) = false := by simpa using hne
                  have hut := HFJ.out.1
                  have hutb : (u == t) = false := by simpa using hut
                  clear hcell hz' hy
                  go_wp2_with fail
                  go_quiet (fail)
                  go_wp2_with fail
                  go_roundw
                  case rel => exact ⟨s + 1, by omega, by go_num, below_drewN HBs.out _⟩
                  case measure => (simp [intOf]) <;> omega
                · obtain rfl : s = m2 := by omega
                  have hnsI : ¬ (s : Int) < (s : Int) := by omega
                  clear hy hlts
                  go_wp2_with fail
                  go_roundw
                  case rel => exact ⟨j + 1, by omega, by go_num, HBs.out⟩
                  case measure => (simp [intOf]) <;> omega
        · obtain rfl : j = nA := by omega
          have hnjI : ¬ (j : Int) < (j : Int) := by omega
          clear hltj
          go_wp2_with fail
          clear hnjI
          go_loopw [14, 15] (fun mv iv wy => ∃ s : Nat, s ≤ n2 ∧ iv = .int .i64 (s : Int) ∧ (∃ c : Nat, c ≤ s ∧ mv = .int .i64 (c : Int) ∧ Hid (c = ((Q.take s).filter (ofB t)).length)) ∧ Hid (Below w5.heap.size w5 wy)) (fun _ iv _ => n2 - (intOf iv).toNat)
          case atStart => exact ⟨0, by omega, rfl, ⟨0, by omega, rfl, Lib.hid (by simp)⟩, HBj.out⟩
          case round =>
            obtain ⟨s, hsn, rfl, ⟨c, hcs, rfl, HC⟩, HBs⟩ := hrel
            have hx := HLX5.out.below HBs.out
            have hy := HLY5.out.below HBs.out
            obtain ⟨e0, e1, -, -⟩ := box2 hx.b
            obtain ⟨y0, y1', -, -⟩ := box2 hy.b
            by_cases hlts : s < n2
            · have hltsI : (s : Int) < (n2 : Int) := by omega
              obtain ⟨b, o, cap, hsh, _, _, _, hcell⟩ := lks_of hx.q (by omega)
              simp only [Value.slice.injEq] at hsh
              obtain ⟨rfl, -, rfl⟩ := hsh
              obtain ⟨a0, -, -⟩ := hcell s hlts
              have hst := count_step (p := ofB t) (H := Q) (i := s) (by rw [← HN.out.2]; exact hlts)
              have hof : ofB t (Q.getD s nlk) = ((Q.getD s nlk).t == t) := rfl
              obtain ⟨z, hz'⟩ : ∃ z, z = (Q.getD s nlk).t := ⟨_, rfl⟩
              rw [hof, ← hz'] at hst
              rw [← hz'] at a0
              have HST := Lib.hid hst
              clear hcell hz' hx hy hst hof
              by_cases he : z = t
              · subst he
                go_wp2_with fail
                go_roundw
                case rel => exact ⟨s + 1, by omega, by go_num, ⟨c + 1, by omega, by go_num, Lib.hid (by rw [HST.out, ← HC.out]; simp)⟩, HBs.out⟩
                case measure => (simp [intOf]) <;> omega
              · have he' : (z == t) = false := by simpa using he
                go_wp2_with fail
                go_roundw
                case rel => exact ⟨s + 1, by omega, by go_num, ⟨c, by omega, rfl, Lib.hid (by rw [HST.out, ← HC.out, he']; simp)⟩, HBs.out⟩
                case measure => (simp [intOf]) <;> omega
            · obtain rfl : s = n2 := by omega
              have hnsI : ¬ (s : Int) < (s : Int) := by omega
              have hbw : Below W.heap.size W wr := into HB5.out HBs.out
              have HLV := Lib.hid (leave_v wr ⟨HT.out.1.below hbw, HT.out.2.below hbw⟩ hx.h hx.q (by omega) (gone_0 HG.out.ok))
              have hc := HC.out
              rw [List.take_of_length_le (by rw [← HN.out.2]; exact Nat.le_refl _)] at hc
              have hsum : m2 + j + c = s := by have := HCNT.out; omega
              have hsumI : (m2 : Int) + (j : Int) + (c : Int) = (s : Int) := by omega
              have HXX := Lib.hid hx
              have HYY := Lib.hid hy
              have HBW := Lib.hid hbw
              clear hc hsum hx hy hbw hlts HC
              go_wp2_with fail
              refine HLV.out.mono ?_
              rintro e w9 ⟨z1, r1, s1, z2, r2, s2, z3, s3, rfl, -, -, -, hb9⟩
              have hba : Below wr.heap.size wr (w9.alloc (.cells #[.slice z1 r1 s1, .slice z2 r2 s2] 25)) := hb9.alloc hb9.size _
              clear e0 e1 y0 y1'
              obtain ⟨e0, e1, -, -⟩ := box2 (HXX.out.below hba).b
              obtain ⟨y0, y1', -, -⟩ := box2 (HYY.out.below hba).b
              have HB9 := Lib.hid (into HBW.out hba)
              clear hba hb9 HLV
              go_wp2_with fail
              go_ret
              exact ⟨by simp, HB9.out⟩

set_option maxRecDepth 100000 in
theorem lifted (os : Os) (started : os.Started) (H : Type) (enc : TypeId × Value → H) :
    ReturnsInHanded {} Tryd.checked os 5 .any (fun w args => (Rows.leaveFreesSpec.pre enc Tryd.prog Tryd.f5 [] false w args ∧ laidTJ w) ∧ sizedMet enc Tryd.prog Tryd.f5 (OpenSpec.ofChange Rows.leaveFreesSpec) false w args) (Rows.leaveFreesSpec.post enc Tryd.prog Tryd.f5 false true false false) := by
  refine returnsInHanded_of_change_and (C := Tryd.checked) (X := fun w _ => laidTJ w) (fun _ _ _ hh h => h.of_heap hh) Tryd.own started (by kernel_rfl) Tryd.func5
    (ChangeSpec.witness_at (enc := enc) (C := Tryd.checked) (os := os) (X := fun w _ => laidTJ w) false (tabled os) #[.slice none 0 0, .int .i64 0] 8 rfl (by kernel_rfl) (by kernel_rfl) (by kernel_rfl) (by kernel_rfl) (by kernel_rfl) (tabled_laidTJ os _)) ?_
  intro W base args ds gs before hval0 hW hcnd hsz0 hL _
  have hsz : (DataW.weightsEach Tryd.prog (Tryd.f5.params.toList ++ Rows.leaveFreesSpec.plain.varTypes Tryd.prog) (ds ++ gs)).all (· ≤ reachBytes) = true := hsz0
  have hval : ∀ (j : Nat) t v, Tryd.f5.params[j]? = some t → args[j]? = some v → Value.okWide Tryd.prog W .any base t v := hval0
  have hW' := hW
  obtain ⟨p, q, hA0, hV, rfl, hfz, hnd⟩ := hW
  have hA : DataW.TrodAll enc Tryd.prog W 0 (fun _ => true) true Tryd.f5.params.toList args.toList ds p := hA0
  rw [Tryd.params5] at hA hval hsz
  obtain ⟨v0, v1, d0, d1, p0, p1, rfl, rfl, rfl, h0, h1⟩ := trodAll_two hA
  obtain ⟨rfl, rfl⟩ := trodVars_none hV
  have sm0 : small Tryd.prog 22 d0 := fun q hq => by
    have := List.all_eq_true.1 hsz q (weights_each (j := 0) rfl rfl q hq)
    simpa using this
  obtain ⟨n0, l0, hr0, hz0, hs0⟩ := open_wishes (hval 0 22 v0 rfl rfl) h0 sm0
  obtain ⟨a1, rfl, rfl, rfl, w1⟩ := open_int Tryd.underlying3 (hval 1 3 v1 rfl rfl) h1
  clear hA0 hval0
  refine (walk W (TJ_of hL) n0 v0 l0 hr0 hz0 hs0 a1 w1).mono fun e W' ⟨he, hg⟩ => ?_
  subst he
  exact ⟨_, rfl, law_post (tb := 4) Tryd.laidOut (by kernel_rfl) (by kernel_rfl) Tryd.underlying4 rfl hW' hg rfl rfl rfl⟩

theorem bare : Rows.LeaveFreesSaid :=
  OpenClaim.holds_of_wide 5 Tryd.f5 rfl rfl rfl rfl rfl rfl rfl ⟨rfl, rfl, rfl, rfl, rfl⟩ rfl rfl rfl rfl rfl (by kernel_rfl) Tryd.func5 (by kernel_rfl)
    (of_decide_eq_true (by kernel_rfl)) (by unfold Func.isWrapper; first | (rw [if_pos (by decide +kernel)]; kernel_rfl) | (rw [if_neg (by decide +kernel)]; exact ⟨rfl, rfl⟩))
    (fun os started H enc _ => lifted os started H enc)
/-- The card: the row's one listed variable is tied to the program's text. -/
theorem proved : Rows.LeaveFreesCardSaid :=
  Claim7.holds_tied_plain_at .later [] [.data, .data] true _ false bare (fun _ h => by cases h) (by kernel_rfl) (fun _ h => by cases h) leaveFrees_row_tie rfl ⟨rfl, rfl⟩ (by kernel_rfl) rfl
    (fun f fn hf hfn => by
      obtain rfl : f = 5 := Option.some.inj ((show Tryd.prog.funcNamed "padlock/padlockkeep.LeaveFrees" = some 5 by kernel_rfl).symm.trans hf) |>.symm
      obtain rfl : fn = Tryd.f5 := (Option.some.inj (Tryd.func5.symm.trans hfn)).symm
      refine ⟨by kernel_rfl, fun j t ht => ?_⟩
      rw [Tryd.params5] at ht
      rcases j with _ | _ | j <;> simp at ht <;> subst ht <;> kernel_rfl)
    (by kernel_rfl)
#print axioms proved
end Go.Proofs.YtoiaedjglhcidaaDoor.lLeaveFrees
