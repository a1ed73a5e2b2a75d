/- Asking, as the document has it. -/
import Derived.Test.YtpddlckkncmlmaaDoorNr
import Derived.Deep.DeepCutAuto
namespace Go.Proofs.YtpddlckkncmlmaaDoor
open Go.ChangeShapes Go.WideShapes Go.ChangeAt Go.RowKit
set_option linter.unusedVariables false
set_option linter.unusedSimpArgs false
set_option maxHeartbeats 16000000
set_option maxRecDepth 100000
theorem rd_shape {w : World} {s n : Nat} {v : Value} {xs : List Value} (h : Rd w s n v xs) : ∃ a c, v = .slice a n c := by
  obtain ⟨_, a, c, e, _⟩ := h
  exact ⟨a, c, e⟩
theorem any_at {l : List Lk} {t : Int} {k : Nat} (hk : k < l.length) (h : ofB t (l.getD k nlk) = true) : l.any (ofB t) = true := List.any_eq_true.2 ⟨_, lget_mem hk, h⟩
theorem none_at {l : List Lk} {t : Int} (h : ∀ j, j < l.length → ofB t (l.getD j nlk) = false) : l.any (ofB t) = false := by
  rw [List.any_eq_false]
  intro x hx
  obtain ⟨j, hj, rfl⟩ := List.getElem_of_mem hx
  have := h j hj
  rw [lget hj] at this
  simp [this]
theorem own_past {w w' : World} {B e s n : Nat} {v : Value} {xs : List Value} {row : Option Nat} (h : w.ownsRow B e s v n xs) (hg : w.grownBy w' row) (hne : ∀ k, v.ownBlock = some k → row ≠ some k) : w'.ownsRow B e s v n xs := h.kept hg (by
  cases h1 : v.ownBlock with
  | none => exact .inl rfl
  | some k => exact .inr (fun e => hne k h1 e.symm))
theorem Two.past {w w' : World} {B : Nat} {v1 v2 : Value} {H Q : List Lk} {row : Option Nat} (h : Two w B v1 v2 H Q) (hg : w.grownBy w' row) (h1 : ∀ k, v1.ownBlock = some k → row ≠ some k) (h2 : ∀ k, v2.ownBlock = some k → row ≠ some k) : Two w' B v1 v2 H Q := ⟨own_past h.h hg h1, own_past h.q hg h2, h.ne⟩
theorem Bxs.far {W : World} {P C j : Nat} {hv qv u : Value} {x : Lk} (h : Bxs W P hv qv x) (hC : P + 3 ≤ C) : Bxs (W.setCell ⟨C, j, none⟩ u) P hv qv x := ⟨heap_far h.a (by omega) _, heap_far h.b (by omega) _, heap_far h.c (by omega) _⟩
theorem wtsD_app {held l : List Lk} {x : Lk} (hh : Mo held) (hl : Mo l) (hx : 1 ≤ x.m ∧ x.m ≤ 5) : wtsD held (l ++ [x]) l.length = wts held l x := by
  have hq : Mo (l ++ [x]) := by
    intro y hy
    rcases List.mem_append.1 hy with h | h
    · exact hl y h
    · rw [List.mem_singleton] at h
      rw [h]
      exact hx
  rw [wts_is hh (by simp) hq]
  congr 1
  · simp
  · simp [List.getD]
/-- Locks that may be, and a lock that may be. -/
theorem asked_yes (w : World) (nh n : Nat) (hv qv : Value) (held l : List Lk) (x : Lk) (hrh : Rd w 3 nh hv (lkc held)) (hr : Rd w 3 n qv (lkc l)) (hlk : lksF held l = 0) (hfx : frm x = 0) :
    Calls Tryd.prog 8 #[.agg #[hv, qv], lkv x] w (AskIs held l x w) := by
  have hok := (okl_iff held l).1 hlk
  have hfew := hok.few
  have HMQ : Hid (Mo held ∧ Mo l) := ⟨fun y hy => (frm_ok.1 (hok.hf y hy)).2.2, fun y hy => (frm_ok.1 (hok.qf y hy)).2.2⟩
  have hmh := len_l hrh
  have hml := len_l hr
  have hxm := (frm_ok.1 hfx).2.2
  obtain ⟨ah, ch, rfl⟩ := rd_shape hrh
  obtain ⟨aq, cq, rfl⟩ := rd_shape hr
  have hft0 := fun W h => fault_any W nh n _ _ held l (Rd.below hrh h) (Rd.below hr h) (by omega) (by omega)
  simp only [lks_same, hlk] at hft0
  have hlf := fun W => lockFault_any W x
  rw [hfx] at hlf
  have hR : refL held l x = if l.any (ofB x.t) = true then 9 else 0 := by
    unfold refL
    rw [if_neg (by rw [hlk]; simp), if_neg (by rw [hfx]; simp)]
  have hmd := hmd_inD (mo_of (l := held) (by
    rw [List.any_eq_false]
    intro y hy
    unfold bad
    rw [hok.hf y hy]
    simp)) x
  obtain ⟨xt, xth, xm⟩ := x
  obtain ⟨W0, hW0⟩ : ∃ W0 : World, W0 = ((w.alloc (.cells #[.slice ah nh ch, .slice aq n cq] 24)).alloc (.cells #[.int .i64 xt, .string xth, .int .i64 xm] 26)).alloc (.cells #[.slice none 0 0, .slice none 0 0] 24) := ⟨_, rfl⟩
  have hb0 : Below w.heap.size w W0 := by rw [hW0]; exact three_below _ _ _ _
  have hbx : Bxs W0 w.heap.size (.slice ah nh ch) (.slice aq n cq) ⟨xt, xth, xm⟩ := by
    rw [hW0]
    obtain ⟨g1, g2, g3⟩ := three_new w (.cells #[.slice ah nh ch, .slice aq n cq] 24) (.cells #[.int .i64 xt, .string xth, .int .i64 xm] 26) (.cells #[.slice none 0 0, .slice none 0 0] 24)
    exact ⟨g1, g2, g3⟩
  have HFT := Lib.hid (hft0 W0 hb0)
  have HLF := Lib.hid hlf
  have HRR := Lib.hid hR
  have HMD := Lib.hid hmd
  have HL := Lib.hid (And.intro hmh hml)
  have HRH := Lib.hid hrh
  have HRQ := Lib.hid hr
  have HBX := Lib.hid hbx
  have HB0 := Lib.hid hb0
  have HW0 := Lib.hid hW0
  have HXM := Lib.hid hxm
  have hn200 : nh + n ≤ 200 := by omega
  obtain ⟨⟨y0, y1, yf0, yf1⟩, ⟨x0, x1, x2, -, -, -⟩, ⟨z0, z1, zf0, zf1⟩⟩ := hbx.cells
  simp only at x0 x1 x2
  clear hrh hr hft0 hlf hbx hb0 hW0 hR hmd hmh hml hfew hok hlk hfx hxm
  have hlk : lkv ⟨xt, xth, xm⟩ = .agg #[.int .i64 xt, .string xth, .int .i64 xm] := rfl
  rw [hlk]
  clear hlk
  go_enter Tryd.func8, Tryd.ntmps8
  go_wp2_with fail
  rw [← HW0.out]
  refine HFT.out.mono ?_
  rintro e w1 ⟨rfl, hb1⟩
  have HX1 := Lib.hid (HBX.out.below hb1)
  have HB1 := Lib.hid (into HB0.out hb1)
  clear y0 y1 yf0 yf1 x0 x1 x2 z0 z1 zf0 zf1 hb1
  obtain ⟨-, ⟨x0, x1, x2, -, -, -⟩, -⟩ := HX1.out.cells
  simp only at x0 x1 x2
  go_wp2_with fail
  refine (HLF.out _).mono ?_
  rintro e w2 ⟨rfl, hb2⟩
  have HX2 := Lib.hid (HX1.out.below hb2)
  have HB2 := Lib.hid (into HB1.out hb2)
  clear x0 x1 x2 hb2 HX1
  go_wp2_with fail
  go_loopw [7, 8] (fun ev i wr => ∃ (k : Nat), k ≤ n ∧ i = .int .i64 (k : Int) ∧ Hid (Below w2.heap.size w2 wr) ∧ ((ev = .int .i64 0 ∧ Hid (∀ j, j < k → ofB xt (l.getD j nlk) = false)) ∨ (ev = .int .i64 9 ∧ Hid (l.any (ofB xt) = true)))) (fun _ i _ => n - (intOf i).toNat)
  case atStart => exact ⟨0, by omega, rfl, Below.refl _ _, .inl ⟨rfl, fun j hj => absurd hj (by omega)⟩⟩
  case round =>
    obtain ⟨k, hk, rfl, HB, hev⟩ := hrel
    have HX := Lib.hid (HX2.out.below HB.out)
    obtain ⟨⟨y0, y1, yf0, yf1⟩, ⟨x0, x1, x2, -, -, -⟩, ⟨z0, z1, zf0, zf1⟩⟩ := HX.out.cells
    simp only at x0 x1 x2
    rcases hev with ⟨rfl, HA⟩ | ⟨rfl, HA⟩
    · by_cases hlt : k < n
      · obtain ⟨b, o, cap, hsh, hcap, hcm, hbw, hcell⟩ := lks_of HRQ.out (by omega)
        simp only [Value.slice.injEq] at hsh
        obtain ⟨rfl, -, hcc⟩ := hsh
        subst hcc
        obtain ⟨e0, -, -⟩ := hcell k hlt
        have c0 := ((into HB2.out HB.out).cell (p := ⟨b, o + k * 3, none⟩) hbw).trans e0
        obtain ⟨v, hv⟩ : ∃ v, v = (l.getD k nlk).t := ⟨_, rfl⟩
        rw [← hv] at c0
        have HV := Lib.hid hv
        have i0 : (0 : Int) ≤ (k : Int) := by omega
        have i1 : (k : Int) < (n : Int) := by omega
        clear e0 hcell hv
        by_cases hvt : v = xt
        · have hany : l.any (ofB xt) = true := any_at (k := k) (by have := HL.out.2; omega) (by rw [ofB, ← HV.out, hvt]; simp)
          have HAN := Lib.hid hany
          clear hany
          subst hvt
          go_wp2_with fail
          go_quiet (fail)
          have HBn : Hid (Below w2.heap.size w2 (wr.drewN nq)) := HB.out.trans ((bdQ _ _).mono HB.out.size)
          clear c0 x0 x1 x2 y0 y1 yf0 yf1 z0 z1 zf0 zf1
          go_wp2_with fail
          go_roundw
          case rel => exact ⟨k + 1, by omega, by go_num, HBn.out, .inr ⟨rfl, HAN.out⟩⟩
          case measure => simp [intOf]; omega
        · have hno : ofB xt (l.getD k nlk) = false := by rw [ofB, ← HV.out]; simpa using hvt
          have HNO := Lib.hid hno
          clear hno
          go_wp2_with fail
          go_quiet (fail)
          have HBn : Hid (Below w2.heap.size w2 (wr.drewN nq)) := HB.out.trans ((bdQ _ _).mono HB.out.size)
          clear c0 x0 x1 x2 y0 y1 yf0 yf1 z0 z1 zf0 zf1
          go_wp2_with fail
          go_roundw
          case rel =>
            refine ⟨k + 1, by omega, by go_num, HBn.out, .inl ⟨rfl, fun j hj => ?_⟩⟩
            rcases Nat.lt_or_ge j k with h | h
            · exact HA.out j h
            · obtain rfl : j = k := by omega
              exact HNO.out
          case measure => simp [intOf]; omega
      · obtain rfl : n = k := by omega
        have hrf : refL held l ⟨xt, xth, xm⟩ = 0 := by rw [HRR.out, none_at (fun j hj => HA.out j (by have := HL.out.2; omega))]; simp
        have HRF := Lib.hid hrf
        clear hrf
        have HCP := Lib.hid (copy_two wr nh n _ _ held l (HRH.out.below (into HB2.out HB.out)) (HRQ.out.below (into HB2.out HB.out)) (by omega) (by omega))
        go_wp2_with fail
        refine HCP.out.mono ?_
        rintro e w3 ⟨a1, c1, a2, c2, rfl, ht3, hb3⟩
        obtain ⟨W4, hW4⟩ : ∃ W4 : World, W4 = w3.alloc (.cells #[.slice a1 nh c1, .slice a2 n c2] 24) := ⟨_, rfl⟩
        have hb4 : Below w3.heap.size w3 W4 := by rw [hW4]; exact (Below.refl _ _).alloc (Nat.le_refl _) _
        have hc4 : W4.heap[w3.heap.size]? = some (.cells #[.slice a1 nh c1, .slice a2 n c2] 24 (0, 0)) := by rw [hW4]; exact new0 w3 _
        have hbr := hb3.trans (hb4.mono hb3.size)
        have HX4 := Lib.hid (HX.out.below hbr)
        have HT4 := Lib.hid (ht3.below hb4)
        have HU3 : Hid (∀ k, (Value.slice a1 nh c1).ownBlock = some k → k < w3.heap.size) := fun k hk => (ht3.h.lt k hk).2
        have HU3q : Hid (∀ k, (Value.slice a2 n c2).ownBlock = some k → k < w3.heap.size) := fun k hk => (ht3.q.lt k hk).2
        have HC4 := Lib.hid hc4
        have HB4 := Lib.hid (into (into HB2.out HB.out) hbr)
        have hz3 := hb3.size
        have hz4 := HX.out.lt
        have HW4 := Lib.hid hW4
        have hmo := modeOf_any W4 nh _ held ⟨xt, xth, xm⟩ (HRH.out.below HB4.out)
        obtain ⟨m, hm⟩ : ∃ m, m = hmd held ⟨xt, xth, xm⟩ := ⟨_, rfl⟩
        rw [← hm] at hmo HMD
        have HM := Lib.hid hm
        have HMO := Lib.hid hmo
        clear hb4 hc4 hbr hW4 ht3 hb3 hmo hm y0 y1 yf0 yf1 x0 x1 x2 z0 z1 zf0 zf1
        have hxe := HX4.out
        rw [HW4.out] at hxe
        obtain ⟨⟨y0, y1, -, -⟩, ⟨x0, x1, x2, -, -, -⟩, -⟩ := hxe.cells
        simp only at x0 x1 x2
        clear hxe
        go_wp2_with fail
        rw [← HW4.out]
        refine HMO.out.mono ?_
        rintro e w' ⟨rfl, rfl⟩
        clear y0 y1 x0 x1 x2
        obtain ⟨⟨y0, y1, yf0, yf1⟩, ⟨x0, x1, x2, xf0, xf1, xf2⟩, ⟨z0, z1, zf0, zf1⟩⟩ := HX4.out.cells
        simp only at x0 x1 x2
        by_cases hm0 : 0 < m
        · have HJO : Hid (∀ W, Calls Tryd.prog 26 #[.int .i64 m, .int .i64 xm] W fun e w' => e = .returned (.int .i64 (firI m xm)) ∧ W = w') := fun W => joined_any W m xm
          have hup : upL held ⟨xt, xth, xm⟩ = ⟨xt, xth, firI m xm⟩ := by
            unfold upL
            rw [← HM.out, joi_is (by have := HMD.out; omega) HXM.out]
          obtain ⟨jo, hjo⟩ : ∃ jo, jo = firI m xm := ⟨_, rfl⟩
          rw [← hjo] at HJO hup
          have HJ5 : Hid (1 ≤ jo ∧ jo ≤ 5) := by
            have := joi_in (a := m) (b := xm) (by have := HMD.out; omega) HXM.out
            rw [joi_is (by have := HMD.out; omega) HXM.out, ← hjo] at this
            exact this
          have HUP := Lib.hid hup
          clear hup hjo
          go_wp2_with fail
          refine (HJO.out _).mono ?_
          rintro e w' ⟨rfl, rfl⟩
          obtain ⟨⟨y0', y1', -, -⟩, ⟨x0', x1', x2', -, -, -⟩, ⟨z0', z1', zf0', zf1'⟩⟩ := (HX4.out.setM jo).cells
          simp only at x0' x1' x2'
          obtain ⟨d0, d1, -, -⟩ := box2 (heap_far (P := w.heap.size + 1) (j := 2) HC4.out (by omega) (.int .i64 jo))
          obtain ⟨t0, t1⟩ := box2_set (x := .slice a1 nh c1) (y := .slice a2 n c2) z0' z1'
          by_cases hje : jo = m
          · have hA : askL held l ⟨xt, xth, xm⟩ = (held, l, true, 0) := by
              unfold askL
              rw [HRF.out, if_neg (by omega), HUP.out, if_pos (by rw [← HM.out]; exact hje)]
            have HAK := Lib.hid hA
            clear hA
            subst hje
            go_wp2_with fail
            refine bodyPost_ret (by simp [results, Tryd.results8, go_sem, t0, t1]; try rfl) rfl ?_
            unfold AskIs
            rw [HAK.out]
            have ht := ((HT4.out.set (a := ⟨w.heap.size + 1, 2, none⟩) (by show w.heap.size + 1 < _; omega) (.int .i64 jo)).set (a := ⟨w.heap.size + 2, 0, none⟩) (by show w.heap.size + 2 < _; omega) (.slice a1 nh c1)).set (a := ⟨w.heap.size + 2, 1, none⟩) (by show w.heap.size + 2 < _; omega) (.slice a2 n c2)
            exact ⟨_, _, rfl, Rd.own ht.h, Rd.own ht.q, ((HB4.out.setCell (by show w.heap.size ≤ w.heap.size + 1; omega) _).setCell (by show w.heap.size ≤ w.heap.size + 2; omega) _).setCell (by show w.heap.size ≤ w.heap.size + 2; omega) _⟩
          · have HJM : Hid (jo ≠ m ∧ 1 ≤ jo ∧ jo ≤ 5) := ⟨hje, HJ5.out⟩
            obtain ⟨W5, hW5⟩ : ∃ W5 : World, W5 = W4.setCell ⟨w.heap.size + 1, 2, none⟩ (.int .i64 jo) := ⟨_, rfl⟩
            have HX5 : Hid (Bxs W5 w.heap.size (.slice ah nh ch) (.slice aq n cq) ⟨xt, xth, jo⟩) := by rw [hW5]; exact HX4.out.setM jo
            have HC5 : Hid (W5.heap[w3.heap.size]? = some (.cells #[.slice a1 nh c1, .slice a2 n c2] 24 (0, 0))) := by rw [hW5]; exact heap_far (P := w.heap.size + 1) (j := 2) HC4.out (by omega) (.int .i64 jo)
            have HT5 : Hid (Two W5 wr.heap.size (.slice a1 nh c1) (.slice a2 n c2) held l) := by rw [hW5]; exact HT4.out.set (a := ⟨w.heap.size + 1, 2, none⟩) (by show w.heap.size + 1 < _; omega) (.int .i64 jo)
            have HB5 : Hid (Below w.heap.size w W5) := by rw [hW5]; exact HB4.out.setCell (by show w.heap.size ≤ w.heap.size + 1; omega) _
            have HW5 := Lib.hid hW5
            have hz5 : W5.heap.size = w3.heap.size + 1 := by rw [hW5, HW4.out]; simp
            go_wp2_with fail
            rw [← HW5.out]
            clear hW5 y0' y1' x0' x1' x2' z0' z1' zf0' zf1' d0 d1 t0 t1 y0 y1 yf0 yf1 x0 x1 x2 xf0 xf1 xf2 z0 z1 zf0 zf1 hje
            have HCQ := Lib.hid (copy_two W5 nh n _ _ held l (HRH.out.below HB5.out) (HRQ.out.below HB5.out) (by omega) (by omega))
            clear HFT HLF HRR HBX HB0 HW0 HB1 HX2 HB2 HX HA HCP HX4 HC4 HB4 HMO HMD HT4 HRH HRQ hlt
            (try clear HJO HJ5)
            refine HCQ.out.mono ?_
            rintro e w6 ⟨a3, c3, a4, c4, rfl, ht6, hb6⟩
            obtain ⟨W7, hW7⟩ : ∃ W7 : World, W7 = w6.alloc (.cells #[.slice a3 nh c3, .slice a4 n c4] 24) := ⟨_, rfl⟩
            have hb7 : Below w6.heap.size w6 W7 := by rw [hW7]; exact (Below.refl _ _).alloc (Nat.le_refl _) _
            have hc7 : W7.heap[w6.heap.size]? = some (.cells #[.slice a3 nh c3, .slice a4 n c4] 24 (0, 0)) := by rw [hW7]; exact new0 w6 _
            have hz6 := hb6.size
            have hz7 : W7.heap.size = w6.heap.size + 1 := by rw [hW7]; simp
            have hb57 := hb6.trans (hb7.mono hb6.size)
            have HX7 := Lib.hid (HX5.out.below hb57)
            have HC7 := Lib.hid ((hb57.block w3.heap.size (by omega)).trans HC5.out)
            have HT7 := Lib.hid (HT5.out.below hb57)
            have HU7 := Lib.hid (ht6.below hb7)
            have HB7 := Lib.hid (into HB5.out hb57)
            have HD7 := Lib.hid hc7
            have HW7 := Lib.hid hW7
            have hown : W7.ownsRow W5.heap.size 26 3 (.slice a4 n c4) n (lkc l) := by
              have h := HU7.out.q
              rw [← HL.out.2] at h
              exact h
            have HO7 := Lib.hid hown
            have hltq : ∀ k, (Value.slice a4 n c4).ownBlock = some k → W5.heap.size ≤ k ∧ k < w6.heap.size := fun k hk => by
              have h := ht6.q
              rw [← HL.out.2] at h
              exact h.lt k hk
            have HLQ := Lib.hid hltq
            have HUL : Hid (∀ k, (Value.slice a3 nh c3).ownBlock = some k → k < w6.heap.size) := fun k hk => (ht6.h.lt k hk).2
            have hxe := HX7.out
            rw [HW7.out] at hxe
            obtain ⟨-, ⟨x0, x1, x2, -, -, -⟩, -⟩ := hxe.cells
            simp only at x0 x1 x2
            clear ht6 hb6 hb7 hc7 hb57 hW7 hown hltq hxe
            go_wp2_with (at_builtin; rw [← HW7.out]; refine apx W7 1 rfl _ _ 22 26 _ 3 32 Tryd.underlying22 Tryd.info26 rfl (by omega) rfl HO7.out (by omega) (by omega) (by unfold maxLen; omega) [.int .i64 xt, .string xth, .int .i64 jo] rfl (by simp [Value.oneCell']) (w6.heap.size + 1) hz7 rfl rfl ?_; intro v8 w8 hown8 _ hg8 he8; obtain ⟨a5, c5, rfl⟩ := rd_shape (Rd.own hown8); have hx8 := HX7.out.grown hg8 (fun k hk => by have := HLQ.out k hk; omega); obtain ⟨⟨y0, y1, -, -⟩, -, -⟩ := (hx8.far (C := w6.heap.size) (j := 1) (u := .slice a5 (n + 1) c5) (by omega)).cells; obtain ⟨p0, p1, pf0, pf1⟩ := box2 ((hg8.block w6.heap.size (by omega) (fun e => by have := HLQ.out _ e.symm; omega)).trans HD7.out); have HX8 := Lib.hid hx8; have HO8 := Lib.hid hown8; have HG8 := Lib.hid hg8; have HE8 := Lib.hid he8; clear hx8 hown8 hg8 he8 x0 x1 x2)
            have hz8 := HG8.out.size
            have hl5 : ∀ k, (Value.slice a5 (n + 1) c5).ownBlock = some k → W5.heap.size ≤ k ∧ k ≠ w6.heap.size := fun k hk => by
              rcases HE8.out with h | h
              · rw [h] at hk
                have := HLQ.out k hk
                omega
              · rw [h] at hk
                have := Option.some.inj hk
                omega
            obtain ⟨W9, hW9⟩ : ∃ W9 : World, W9 = w8.setCell ⟨w6.heap.size, 1, none⟩ (.slice a5 (n + 1) c5) := ⟨_, rfl⟩
            have hxl : lkc (l ++ [⟨xt, xth, jo⟩]) = lkc l ++ [.int .i64 xt, .string xth, .int .i64 jo] := lkc_app _ _
            have HX9 : Hid (Bxs W9 w.heap.size (.slice ah nh ch) (.slice aq n cq) ⟨xt, xth, jo⟩) := by rw [hW9]; exact HX8.out.far (by omega)
            have HQ9 : Hid (W9.ownsRow W5.heap.size 26 3 (.slice a5 (n + 1) c5) (n + 1) (lkc (l ++ [⟨xt, xth, jo⟩]))) := by
              rw [hW9, hxl]
              exact own_past HO8.out (gc_set _ _ _ _) (fun k hk e => (hl5 k hk).2 (Option.some.inj e).symm)
            have HH9 : Hid (W9.ownsRow W5.heap.size 26 3 (.slice a3 nh c3) held.length (lkc held)) := by
              rw [hW9]
              exact own_past (own_past HU7.out.h HG8.out (fun k hk e => HU7.out.ne k hk e)) (gc_set _ _ _ _) (fun k hk e => by have := HUL.out k hk; have := Option.some.inj e; omega)
            have HT9 : Hid (Two W9 wr.heap.size (.slice a1 nh c1) (.slice a2 n c2) held l) := by
              rw [hW9]
              exact (HT7.out.past HG8.out (fun k hk e => by have := (HT5.out.h.lt k hk).2; have := HLQ.out k e; omega) (fun k hk e => by have := (HT5.out.q.lt k hk).2; have := HLQ.out k e; omega)).past (gc_set _ _ _ _) (fun k hk e => by have := (HT5.out.h.lt k hk).2; have := Option.some.inj e; omega) (fun k hk e => by have := (HT5.out.q.lt k hk).2; have := Option.some.inj e; omega)
            have HC9 : Hid (W9.heap[w3.heap.size]? = some (.cells #[.slice a1 nh c1, .slice a2 n c2] 24 (0, 0))) := by
              rw [hW9]
              exact heap_far ((HG8.out.block _ (by omega) (fun e => by have := HLQ.out _ e.symm; omega)).trans HC7.out) (by omega) _
            have HD9 : Hid (W9.heap[w6.heap.size]? = some (.cells #[.slice a3 nh c3, .slice a5 (n + 1) c5] 24 (0, 0))) := by
              rw [hW9]
              show _ = _
              rw [Lib.heap_setCell_same ((HG8.out.block _ (by omega) (fun e => by have := HLQ.out _ e.symm; omega)).trans HD7.out)]
              rfl
            have HB9 : Hid (Below w.heap.size w W9) := by
              rw [hW9]
              exact (HB7.out.grown HG8.out (by omega) (fun k hk => by have := HLQ.out k hk; omega)).setCell (p := ⟨w6.heap.size, 1, none⟩) (by show w.heap.size ≤ w6.heap.size; omega) _
            have hz9 : W9.heap.size = w8.heap.size := by rw [hW9]; simp
            have hH9 : Rd W9 3 nh (.slice a3 nh c3) (lkc held) := by
              have h := HH9.out
              rw [← HL.out.1] at h
              exact Rd.own h
            have hwt := dwaits_any W9 nh (n + 1) n _ _ held (l ++ [⟨xt, xth, jo⟩]) (by omega) (by omega) (by omega) hH9 (Rd.own HQ9.out)
            rw [show n = l.length from HL.out.2, wtsD_app HMQ.out.1 HMQ.out.2 ⟨HJM.out.2.1, HJM.out.2.2⟩, ← HL.out.2] at hwt
            have hen : (wts held l ⟨xt, xth, jo⟩).length = 0 ↔ (wts held l ⟨xt, xth, jo⟩).isEmpty = true := len_emp
            have HWT : Hid (Calls Tryd.prog 27 #[.agg #[.slice a3 nh c3, .slice a5 (n + 1) c5], .int .i64 (n : Int)] W9 fun e w' => ∃ (av : Option Addr) (nv cv : Nat), e = .returned (.slice av nv cv) ∧ nv = (wts held l ⟨xt, xth, jo⟩).length ∧ Below W9.heap.size W9 w') := hwt.mono fun e w' ⟨v', g1, g2, g3⟩ => by
              obtain ⟨_, av, cv, rfl, _⟩ := Rd.own g2
              exact ⟨av, _, cv, g1, rfl, g3⟩
            obtain ⟨N, hN⟩ : ∃ N, N = (wts held l ⟨xt, xth, jo⟩).length := ⟨_, rfl⟩
            rw [← hN] at HWT hen
            have HEN := Lib.hid hen
            rw [← hW9]
            clear hwt hen hN hH9 hxl hl5 hW9 y0 y1 p0 p1 pf0 pf1
            refine HWT.out.mono ?_
            rintro e w10 ⟨av, nv, cv, rfl, rfl, hb10⟩
            have hz10 := hb10.size
            have HX10 := Lib.hid (HX9.out.below hb10)
            have HT10 := Lib.hid (HT9.out.below hb10)
            have HC10 := Lib.hid ((hb10.block w3.heap.size (by omega)).trans HC9.out)
            have HD10 := Lib.hid ((hb10.block w6.heap.size (by omega)).trans HD9.out)
            have HQ10 := Lib.hid (own_below HQ9.out hb10)
            have HH10 := Lib.hid (own_below HH9.out hb10)
            have HB10 := Lib.hid (into HB9.out hb10)
            clear hb10
            obtain ⟨⟨y0, y1, -, -⟩, ⟨x0, x1, x2, -, -, -⟩, ⟨z0, z1, zf0, zf1⟩⟩ := HX10.out.cells
            simp only at x0 x1 x2
            obtain ⟨k0, k1, kf0, kf1⟩ := box2 HC10.out
            obtain ⟨p0, p1, -, -⟩ := box2 HD10.out
            by_cases hN0 : nv = 0
            · have hem := HEN.out.1 hN0
              have hA : askL held l ⟨xt, xth, xm⟩ = (if 200 < (giveL held ⟨xt, xth, jo⟩).length + l.length then ([], [], false, 10) else (giveL held ⟨xt, xth, jo⟩, l, true, 0)) := by
                unfold askL
                rw [HRF.out, if_neg (by omega), HUP.out, if_neg (by rw [← HM.out]; exact HJM.out.1), if_pos hem]
              have HAK := Lib.hid hA
              have HGV := Lib.hid (given_any w10 wr.heap.size (.slice a1 nh c1) a2 n c2 held ⟨xt, xth, jo⟩ HT10.out.h (by omega) (by have := HL.out.1; omega))
              clear hA hem HEN
              subst hN0
              go_wp2_with fail
              refine HGV.out.mono ?_
              rintro e w11 ⟨a6, c6, rfl, ho11, hg11, hl11⟩
              obtain ⟨G, hG⟩ : ∃ G, G = (giveL held ⟨xt, xth, jo⟩).length := ⟨_, rfl⟩
              rw [← hG] at ho11 hl11 HAK ⊢
              have hGn : G ≤ nh + 1 := by
                have := HL.out.1
                rcases give_len held ⟨xt, xth, jo⟩ with h | ⟨h, -⟩ <;> omega
              have HG := Lib.hid hG
              have hz11 := hg11.size
              have hrow : ∀ k, (Value.slice a1 nh c1).ownBlock = some k → wr.heap.size ≤ k ∧ k < w3.heap.size := fun k hk => ⟨(HT10.out.h.lt k hk).1, HU3.out k hk⟩
              have HR := Lib.hid hrow
              have hc11 := (hg11.block w3.heap.size (by omega) (fun e => by have := (hrow _ e.symm).2; omega)).trans HC10.out
              have HX11 := Lib.hid (HX10.out.grown hg11 (fun k hk => by have := hrow k hk; omega))
              have HB11 := Lib.hid (HB10.out.grown hg11 (by have := HB10.out.size; omega) (fun k hk => by have := hrow k hk; omega))
              have HQ11 := Lib.hid (own_past HT10.out.q hg11 (fun k hk e => HT10.out.ne k e hk))
              have HO11 := Lib.hid ho11
              have HLL := Lib.hid hl11
              clear y0 y1 x0 x1 x2 z0 z1 zf0 zf1 k0 k1 kf0 kf1 p0 p1 hG hrow ho11 hl11 hg11 HX5 HC5 HB5 HW5 HW4 HCQ HX7 HC7 HT7 HU7 HB7 HD7 HW7 HO7 HLQ HUL HX8 HO8 HG8 HE8 HX9 HQ9 HH9 HT9 HC9 HD9 HB9 HX10 HC10 HD10 HQ10 HH10 HB10 HGV HWT
              obtain ⟨q0, q1, qf0, qf1⟩ := box2 hc11
              obtain ⟨u0, u1⟩ := box2_set (P := w3.heap.size) (x := .slice a6 G c6) (y := .slice a2 n c2) q0 q1
              have hx12 := (HX11.out.far (C := w3.heap.size) (j := 0) (u := .slice a6 G c6) (by omega)).far (C := w3.heap.size) (j := 1) (u := .slice a2 n c2) (by omega)
              obtain ⟨-, -, ⟨z0, z1, zf0, zf1⟩⟩ := hx12.cells
              go_upto_region 23 with (fail)
              obtain ⟨W12, hW12⟩ : ∃ W12 : World, W12 = (w11.setCell ⟨w3.heap.size, 0, none⟩ (.slice a6 G c6)).setCell ⟨w3.heap.size, 1, none⟩ (.slice a2 n c2) := ⟨_, rfl⟩
              rw [← hW12] at u0 u1 z0 z1 zf0 zf1 ⊢
              have HW12 := Lib.hid hW12
              clear hx12 hc11 q0 q1 qf0 qf1 hW12
              have hB12 : Below w.heap.size w W12 := by
                rw [HW12.out]
                exact (HB11.out.setCell (p := ⟨w3.heap.size, 0, none⟩) (by show w.heap.size ≤ w3.heap.size; omega) _).setCell (p := ⟨w3.heap.size, 1, none⟩) (by show w.heap.size ≤ w3.heap.size; omega) _
              have HB12 := Lib.hid hB12
              clear hB12
              by_cases hfl : 200 < G + n
              · have hI : (200 : Int) < (G : Int) + (n : Int) := by omega
                obtain ⟨t0, t1⟩ := box2_set (P := w.heap.size + 2) (x := .slice none 0 0) (y := .slice none 0 0) z0 z1
                go_upto_region 24 with (fail)
                repeat (first | go_values | go_skip | go_guarded | go_step | go_upon)
                refine bodyPost_ret (by simp [results, Tryd.results8, go_sem, t0, t1]; try rfl) rfl ?_
                unfold AskIs
                rw [HAK.out, if_pos (by have := HL.out.2; omega)]
                exact ⟨_, _, rfl, Rd.nil _ _, Rd.nil _ _, (HB12.out.setCell (p := ⟨w.heap.size + 2, 0, none⟩) (by show w.heap.size ≤ w.heap.size + 2; omega) _).setCell (p := ⟨w.heap.size + 2, 1, none⟩) (by show w.heap.size ≤ w.heap.size + 2; omega) _⟩
              · have hI : ¬ (200 : Int) < (G : Int) + (n : Int) := by omega
                obtain ⟨t0, t1⟩ := box2_set (P := w.heap.size + 2) (x := .slice a6 G c6) (y := .slice a2 n c2) z0 z1
                go_upto_region 25 with (fail)
                repeat (first | go_values | go_skip | go_guarded | go_step | go_upon)
                refine bodyPost_ret (by simp [results, Tryd.results8, go_sem, t0, t1]; try rfl) rfl ?_
                unfold AskIs
                rw [HAK.out, if_neg (by have := HL.out.2; omega)]
                have n6 : ∀ k, (Value.slice a6 G c6).ownBlock = some k → k ≠ w3.heap.size ∧ k ≠ w.heap.size + 2 := fun k hk => by
                  rcases HLL.out k hk with h | h
                  · have := HR.out k h
                    omega
                  · omega
                have n2 : ∀ k, (Value.slice a2 n c2).ownBlock = some k → k ≠ w3.heap.size ∧ k ≠ w.heap.size + 2 := fun k hk => by
                  have := HU3q.out k hk
                  have := (HQ11.out.lt k hk).1
                  omega
                have hO : W12.ownsRow wr.heap.size 26 3 (.slice a6 G c6) G (lkc (giveL held ⟨xt, xth, jo⟩)) := by
                  rw [HW12.out]
                  exact own_past (own_past HO11.out (gc_set _ w3.heap.size 0 (.slice a6 G c6)) (fun k hk e => (n6 k hk).1 (Option.some.inj e).symm)) (gc_set _ w3.heap.size 1 (.slice a2 n c2)) (fun k hk e => (n6 k hk).1 (Option.some.inj e).symm)
                have hQ : W12.ownsRow wr.heap.size 26 3 (.slice a2 n c2) n (lkc l) := by
                  rw [HW12.out]
                  have h := HQ11.out
                  rw [← HL.out.2] at h
                  exact own_past (own_past h (gc_set _ w3.heap.size 0 (.slice a6 G c6)) (fun k hk e => (n2 k hk).1 (Option.some.inj e).symm)) (gc_set _ w3.heap.size 1 (.slice a2 n c2)) (fun k hk e => (n2 k hk).1 (Option.some.inj e).symm)
                have hO2 := own_past (own_past hO (gc_set _ (w.heap.size + 2) 0 (.slice a6 G c6)) (fun k hk e => (n6 k hk).2 (Option.some.inj e).symm)) (gc_set _ (w.heap.size + 2) 1 (.slice a2 n c2)) (fun k hk e => (n6 k hk).2 (Option.some.inj e).symm)
                have hQ2 := own_past (own_past hQ (gc_set _ (w.heap.size + 2) 0 (.slice a6 G c6)) (fun k hk e => (n2 k hk).2 (Option.some.inj e).symm)) (gc_set _ (w.heap.size + 2) 1 (.slice a2 n c2)) (fun k hk e => (n2 k hk).2 (Option.some.inj e).symm)
                exact ⟨_, _, rfl, by rw [← HG.out]; exact Rd.own hO2, by rw [← HL.out.2]; exact Rd.own hQ2, (HB12.out.setCell (p := ⟨w.heap.size + 2, 0, none⟩) (by show w.heap.size ≤ w.heap.size + 2; omega) _).setCell (p := ⟨w.heap.size + 2, 1, none⟩) (by show w.heap.size ≤ w.heap.size + 2; omega) _⟩
            · have hem : ¬ (wts held l ⟨xt, xth, jo⟩).isEmpty = true := fun h => hN0 (HEN.out.2 h)
              have hA : askL held l ⟨xt, xth, xm⟩ = (if 200 < held.length + (l.length + 1) then ([], [], false, 10) else (held, l ++ [⟨xt, xth, jo⟩], false, 0)) := by
                unfold askL
                rw [HRF.out, if_neg (by omega), HUP.out, if_neg (by rw [← HM.out]; exact HJM.out.1), if_neg hem]
              have HAK := Lib.hid hA
              have hnv : ((nv : Int) == 0) = false := by
                have : ¬ (nv : Int) = 0 := by omega
                simpa using this
              clear hA hem HEN y0 y1 x0 x1 x2 z0 z1 zf0 zf1 HX5 HC5 HB5 HW5 HW4 HCQ HX7 HC7 HT7 HU7 HB7 HD7 HW7 HO7 HLQ HUL HX8 HO8 HG8 HE8 HX9 HQ9 HH9 HT9 HC9 HD9 HB9 HC10 HD10 HWT
              obtain ⟨u0, u1⟩ := box2_set (P := w3.heap.size) (x := .slice a3 nh c3) (y := .slice a5 (n + 1) c5) k0 k1
              have hx12 := (HX10.out.far (C := w3.heap.size) (j := 0) (u := .slice a3 nh c3) (by omega)).far (C := w3.heap.size) (j := 1) (u := .slice a5 (n + 1) c5) (by omega)
              obtain ⟨-, -, ⟨z0, z1, zf0, zf1⟩⟩ := hx12.cells
              go_upto_region 23 with (fail)
              obtain ⟨W12, hW12⟩ : ∃ W12 : World, W12 = (w10.setCell ⟨w3.heap.size, 0, none⟩ (.slice a3 nh c3)).setCell ⟨w3.heap.size, 1, none⟩ (.slice a5 (n + 1) c5) := ⟨_, rfl⟩
              rw [← hW12] at u0 u1 z0 z1 zf0 zf1 ⊢
              have HW12 := Lib.hid hW12
              clear hx12 k0 k1 kf0 kf1 p0 p1 hW12
              have hB12 : Below w.heap.size w W12 := by
                rw [HW12.out]
                exact (HB10.out.setCell (p := ⟨w3.heap.size, 0, none⟩) (by show w.heap.size ≤ w3.heap.size; omega) _).setCell (p := ⟨w3.heap.size, 1, none⟩) (by show w.heap.size ≤ w3.heap.size; omega) _
              have HB12 := Lib.hid hB12
              clear hB12
              by_cases hfl : 200 < nh + (n + 1)
              · have hI : (200 : Int) < (nh : Int) + ((n : Int) + 1) := by omega
                obtain ⟨t0, t1⟩ := box2_set (P := w.heap.size + 2) (x := .slice none 0 0) (y := .slice none 0 0) z0 z1
                go_upto_region 24 with (fail)
                repeat (first | go_values | go_skip | go_guarded | go_step | go_upon)
                refine bodyPost_ret (by simp [results, Tryd.results8, go_sem, t0, t1]; try rfl) rfl ?_
                unfold AskIs
                rw [HAK.out, if_pos (by have := HL.out; omega)]
                exact ⟨_, _, rfl, Rd.nil _ _, Rd.nil _ _, (HB12.out.setCell (p := ⟨w.heap.size + 2, 0, none⟩) (by show w.heap.size ≤ w.heap.size + 2; omega) _).setCell (p := ⟨w.heap.size + 2, 1, none⟩) (by show w.heap.size ≤ w.heap.size + 2; omega) _⟩
              · have hI : ¬ (200 : Int) < (nh : Int) + ((n : Int) + 1) := by omega
                obtain ⟨t0, t1⟩ := box2_set (P := w.heap.size + 2) (x := .slice a3 nh c3) (y := .slice a5 (n + 1) c5) z0 z1
                go_upto_region 25 with (fail)
                repeat (first | go_values | go_skip | go_guarded | go_step | go_upon)
                refine bodyPost_ret (by simp [results, Tryd.results8, go_sem, t0, t1]; try rfl) rfl ?_
                unfold AskIs
                rw [HAK.out, if_neg (by have := HL.out; omega)]
                have n6 : ∀ k, (Value.slice a3 nh c3).ownBlock = some k → k ≠ w3.heap.size ∧ k ≠ w.heap.size + 2 := fun k hk => by
                  have := (HH10.out.lt k hk).1
                  omega
                have n2 : ∀ k, (Value.slice a5 (n + 1) c5).ownBlock = some k → k ≠ w3.heap.size ∧ k ≠ w.heap.size + 2 := fun k hk => by
                  have := (HQ10.out.lt k hk).1
                  omega
                have hO : W12.ownsRow W5.heap.size 26 3 (.slice a3 nh c3) held.length (lkc held) := by
                  rw [HW12.out]
                  exact own_past (own_past HH10.out (gc_set _ w3.heap.size 0 (.slice a3 nh c3)) (fun k hk e => (n6 k hk).1 (Option.some.inj e).symm)) (gc_set _ w3.heap.size 1 (.slice a5 (n + 1) c5)) (fun k hk e => (n6 k hk).1 (Option.some.inj e).symm)
                have hQ : W12.ownsRow W5.heap.size 26 3 (.slice a5 (n + 1) c5) (n + 1) (lkc (l ++ [⟨xt, xth, jo⟩])) := by
                  rw [HW12.out]
                  exact own_past (own_past HQ10.out (gc_set _ w3.heap.size 0 (.slice a3 nh c3)) (fun k hk e => (n2 k hk).1 (Option.some.inj e).symm)) (gc_set _ w3.heap.size 1 (.slice a5 (n + 1) c5)) (fun k hk e => (n2 k hk).1 (Option.some.inj e).symm)
                have hO2 := own_past (own_past hO (gc_set _ (w.heap.size + 2) 0 (.slice a3 nh c3)) (fun k hk e => (n6 k hk).2 (Option.some.inj e).symm)) (gc_set _ (w.heap.size + 2) 1 (.slice a5 (n + 1) c5)) (fun k hk e => (n6 k hk).2 (Option.some.inj e).symm)
                have hQ2 := own_past (own_past hQ (gc_set _ (w.heap.size + 2) 0 (.slice a3 nh c3)) (fun k hk e => (n2 k hk).2 (Option.some.inj e).symm)) (gc_set _ (w.heap.size + 2) 1 (.slice a5 (n + 1) c5)) (fun k hk e => (n2 k hk).2 (Option.some.inj e).symm)
                have hql : (l ++ [(⟨xt, xth, jo⟩ : Lk)]).length = n + 1 := by rw [List.length_append, ← HL.out.2]; rfl
                exact ⟨_, _, rfl, Rd.own hO2, by rw [hql]; exact Rd.own hQ2, (HB12.out.setCell (p := ⟨w.heap.size + 2, 0, none⟩) (by show w.heap.size ≤ w.heap.size + 2; omega) _).setCell (p := ⟨w.heap.size + 2, 1, none⟩) (by show w.heap.size ≤ w.heap.size + 2; omega) _⟩
        · have hm1 : m = 0 := by have := HMD.out; omega
          obtain ⟨jo, hjo⟩ : ∃ jo, jo = xm := ⟨_, rfl⟩
          have hup : upL held ⟨xt, xth, xm⟩ = ⟨xt, xth, jo⟩ := by
            unfold upL
            rw [← HM.out, hm1, joi_0 HXM.out, hjo]
          have HUP := Lib.hid hup
          have HJM : Hid (jo ≠ m ∧ 1 ≤ jo ∧ jo ≤ 5) := by
            have := HXM.out
            exact ⟨by omega, by omega, by omega⟩
          obtain ⟨W5, hW5⟩ : ∃ W5 : World, W5 = W4 := ⟨_, rfl⟩
          have HX5 : Hid (Bxs W5 w.heap.size (.slice ah nh ch) (.slice aq n cq) ⟨xt, xth, jo⟩) := by rw [hW5, hjo]; exact HX4.out
          have HC5 : Hid (W5.heap[w3.heap.size]? = some (.cells #[.slice a1 nh c1, .slice a2 n c2] 24 (0, 0))) := by rw [hW5]; exact HC4.out
          have HT5 : Hid (Two W5 wr.heap.size (.slice a1 nh c1) (.slice a2 n c2) held l) := by rw [hW5]; exact HT4.out
          have HB5 : Hid (Below w.heap.size w W5) := by rw [hW5]; exact HB4.out
          have HW5 := Lib.hid hW5
          have hz5 : W5.heap.size = w3.heap.size + 1 := by rw [hW5, HW4.out]; simp
          clear hup hjo hW5
          go_wp2_with fail
          rw [← HW5.out]
          clear y0 y1 yf0 yf1 x0 x1 x2 xf0 xf1 xf2 z0 z1 zf0 zf1
          have HCQ := Lib.hid (copy_two W5 nh n _ _ held l (HRH.out.below HB5.out) (HRQ.out.below HB5.out) (by omega) (by omega))
          clear HFT HLF HRR HBX HB0 HW0 HB1 HX2 HB2 HX HA HCP HX4 HC4 HB4 HMO HMD HT4 HRH HRQ hlt
          (try clear HJO HJ5)
          refine HCQ.out.mono ?_
          rintro e w6 ⟨a3, c3, a4, c4, rfl, ht6, hb6⟩
          obtain ⟨W7, hW7⟩ : ∃ W7 : World, W7 = w6.alloc (.cells #[.slice a3 nh c3, .slice a4 n c4] 24) := ⟨_, rfl⟩
          have hb7 : Below w6.heap.size w6 W7 := by rw [hW7]; exact (Below.refl _ _).alloc (Nat.le_refl _) _
          have hc7 : W7.heap[w6.heap.size]? = some (.cells #[.slice a3 nh c3, .slice a4 n c4] 24 (0, 0)) := by rw [hW7]; exact new0 w6 _
          have hz6 := hb6.size
          have hz7 : W7.heap.size = w6.heap.size + 1 := by rw [hW7]; simp
          have hb57 := hb6.trans (hb7.mono hb6.size)
          have HX7 := Lib.hid (HX5.out.below hb57)
          have HC7 := Lib.hid ((hb57.block w3.heap.size (by omega)).trans HC5.out)
          have HT7 := Lib.hid (HT5.out.below hb57)
          have HU7 := Lib.hid (ht6.below hb7)
          have HB7 := Lib.hid (into HB5.out hb57)
          have HD7 := Lib.hid hc7
          have HW7 := Lib.hid hW7
          have hown : W7.ownsRow W5.heap.size 26 3 (.slice a4 n c4) n (lkc l) := by
            have h := HU7.out.q
            rw [← HL.out.2] at h
            exact h
          have HO7 := Lib.hid hown
          have hltq : ∀ k, (Value.slice a4 n c4).ownBlock = some k → W5.heap.size ≤ k ∧ k < w6.heap.size := fun k hk => by
            have h := ht6.q
            rw [← HL.out.2] at h
            exact h.lt k hk
          have HLQ := Lib.hid hltq
          have HUL : Hid (∀ k, (Value.slice a3 nh c3).ownBlock = some k → k < w6.heap.size) := fun k hk => (ht6.h.lt k hk).2
          have hxe := HX7.out
          rw [HW7.out] at hxe
          obtain ⟨-, ⟨x0, x1, x2, -, -, -⟩, -⟩ := hxe.cells
          simp only at x0 x1 x2
          clear ht6 hb6 hb7 hc7 hb57 hW7 hown hltq hxe
          go_wp2_with (at_builtin; rw [← HW7.out]; refine apx W7 1 rfl _ _ 22 26 _ 3 32 Tryd.underlying22 Tryd.info26 rfl (by omega) rfl HO7.out (by omega) (by omega) (by unfold maxLen; omega) [.int .i64 xt, .string xth, .int .i64 jo] rfl (by simp [Value.oneCell']) (w6.heap.size + 1) hz7 rfl rfl ?_; intro v8 w8 hown8 _ hg8 he8; obtain ⟨a5, c5, rfl⟩ := rd_shape (Rd.own hown8); have hx8 := HX7.out.grown hg8 (fun k hk => by have := HLQ.out k hk; omega); obtain ⟨⟨y0, y1, -, -⟩, -, -⟩ := (hx8.far (C := w6.heap.size) (j := 1) (u := .slice a5 (n + 1) c5) (by omega)).cells; obtain ⟨p0, p1, pf0, pf1⟩ := box2 ((hg8.block w6.heap.size (by omega) (fun e => by have := HLQ.out _ e.symm; omega)).trans HD7.out); have HX8 := Lib.hid hx8; have HO8 := Lib.hid hown8; have HG8 := Lib.hid hg8; have HE8 := Lib.hid he8; clear hx8 hown8 hg8 he8 x0 x1 x2)
          have hz8 := HG8.out.size
          have hl5 : ∀ k, (Value.slice a5 (n + 1) c5).ownBlock = some k → W5.heap.size ≤ k ∧ k ≠ w6.heap.size := fun k hk => by
            rcases HE8.out with h | h
            · rw [h] at hk
              have := HLQ.out k hk
              omega
            · rw [h] at hk
              have := Option.some.inj hk
              omega
          obtain ⟨W9, hW9⟩ : ∃ W9 : World, W9 = w8.setCell ⟨w6.heap.size, 1, none⟩ (.slice a5 (n + 1) c5) := ⟨_, rfl⟩
          have hxl : lkc (l ++ [⟨xt, xth, jo⟩]) = lkc l ++ [.int .i64 xt, .string xth, .int .i64 jo] := lkc_app _ _
          have HX9 : Hid (Bxs W9 w.heap.size (.slice ah nh ch) (.slice aq n cq) ⟨xt, xth, jo⟩) := by rw [hW9]; exact HX8.out.far (by omega)
          have HQ9 : Hid (W9.ownsRow W5.heap.size 26 3 (.slice a5 (n + 1) c5) (n + 1) (lkc (l ++ [⟨xt, xth, jo⟩]))) := by
            rw [hW9, hxl]
            exact own_past HO8.out (gc_set _ _ _ _) (fun k hk e => (hl5 k hk).2 (Option.some.inj e).symm)
          have HH9 : Hid (W9.ownsRow W5.heap.size 26 3 (.slice a3 nh c3) held.length (lkc held)) := by
            rw [hW9]
            exact own_past (own_past HU7.out.h HG8.out (fun k hk e => HU7.out.ne k hk e)) (gc_set _ _ _ _) (fun k hk e => by have := HUL.out k hk; have := Option.some.inj e; omega)
          have HT9 : Hid (Two W9 wr.heap.size (.slice a1 nh c1) (.slice a2 n c2) held l) := by
            rw [hW9]
            exact (HT7.out.past HG8.out (fun k hk e => by have := (HT5.out.h.lt k hk).2; have := HLQ.out k e; omega) (fun k hk e => by have := (HT5.out.q.lt k hk).2; have := HLQ.out k e; omega)).past (gc_set _ _ _ _) (fun k hk e => by have := (HT5.out.h.lt k hk).2; have := Option.some.inj e; omega) (fun k hk e => by have := (HT5.out.q.lt k hk).2; have := Option.some.inj e; omega)
          have HC9 : Hid (W9.heap[w3.heap.size]? = some (.cells #[.slice a1 nh c1, .slice a2 n c2] 24 (0, 0))) := by
            rw [hW9]
            exact heap_far ((HG8.out.block _ (by omega) (fun e => by have := HLQ.out _ e.symm; omega)).trans HC7.out) (by omega) _
          have HD9 : Hid (W9.heap[w6.heap.size]? = some (.cells #[.slice a3 nh c3, .slice a5 (n + 1) c5] 24 (0, 0))) := by
            rw [hW9]
            show _ = _
            rw [Lib.heap_setCell_same ((HG8.out.block _ (by omega) (fun e => by have := HLQ.out _ e.symm; omega)).trans HD7.out)]
            rfl
          have HB9 : Hid (Below w.heap.size w W9) := by
            rw [hW9]
            exact (HB7.out.grown HG8.out (by omega) (fun k hk => by have := HLQ.out k hk; omega)).setCell (p := ⟨w6.heap.size, 1, none⟩) (by show w.heap.size ≤ w6.heap.size; omega) _
          have hz9 : W9.heap.size = w8.heap.size := by rw [hW9]; simp
          have hH9 : Rd W9 3 nh (.slice a3 nh c3) (lkc held) := by
            have h := HH9.out
            rw [← HL.out.1] at h
            exact Rd.own h
          have hwt := dwaits_any W9 nh (n + 1) n _ _ held (l ++ [⟨xt, xth, jo⟩]) (by omega) (by omega) (by omega) hH9 (Rd.own HQ9.out)
          rw [show n = l.length from HL.out.2, wtsD_app HMQ.out.1 HMQ.out.2 ⟨HJM.out.2.1, HJM.out.2.2⟩, ← HL.out.2] at hwt
          have hen : (wts held l ⟨xt, xth, jo⟩).length = 0 ↔ (wts held l ⟨xt, xth, jo⟩).isEmpty = true := len_emp
          have HWT : Hid (Calls Tryd.prog 27 #[.agg #[.slice a3 nh c3, .slice a5 (n + 1) c5], .int .i64 (n : Int)] W9 fun e w' => ∃ (av : Option Addr) (nv cv : Nat), e = .returned (.slice av nv cv) ∧ nv = (wts held l ⟨xt, xth, jo⟩).length ∧ Below W9.heap.size W9 w') := hwt.mono fun e w' ⟨v', g1, g2, g3⟩ => by
            obtain ⟨_, av, cv, rfl, _⟩ := Rd.own g2
            exact ⟨av, _, cv, g1, rfl, g3⟩
          obtain ⟨N, hN⟩ : ∃ N, N = (wts held l ⟨xt, xth, jo⟩).length := ⟨_, rfl⟩
          rw [← hN] at HWT hen
          have HEN := Lib.hid hen
          rw [← hW9]
          clear hwt hen hN hH9 hxl hl5 hW9 y0 y1 p0 p1 pf0 pf1
          refine HWT.out.mono ?_
          rintro e w10 ⟨av, nv, cv, rfl, rfl, hb10⟩
          have hz10 := hb10.size
          have HX10 := Lib.hid (HX9.out.below hb10)
          have HT10 := Lib.hid (HT9.out.below hb10)
          have HC10 := Lib.hid ((hb10.block w3.heap.size (by omega)).trans HC9.out)
          have HD10 := Lib.hid ((hb10.block w6.heap.size (by omega)).trans HD9.out)
          have HQ10 := Lib.hid (own_below HQ9.out hb10)
          have HH10 := Lib.hid (own_below HH9.out hb10)
          have HB10 := Lib.hid (into HB9.out hb10)
          clear hb10
          obtain ⟨⟨y0, y1, -, -⟩, ⟨x0, x1, x2, -, -, -⟩, ⟨z0, z1, zf0, zf1⟩⟩ := HX10.out.cells
          simp only at x0 x1 x2
          obtain ⟨k0, k1, kf0, kf1⟩ := box2 HC10.out
          obtain ⟨p0, p1, -, -⟩ := box2 HD10.out
          by_cases hN0 : nv = 0
          · have hem := HEN.out.1 hN0
            have hA : askL held l ⟨xt, xth, xm⟩ = (if 200 < (giveL held ⟨xt, xth, jo⟩).length + l.length then ([], [], false, 10) else (giveL held ⟨xt, xth, jo⟩, l, true, 0)) := by
              unfold askL
              rw [HRF.out, if_neg (by omega), HUP.out, if_neg (by rw [← HM.out]; exact HJM.out.1), if_pos hem]
            have HAK := Lib.hid hA
            have HGV := Lib.hid (given_any w10 wr.heap.size (.slice a1 nh c1) a2 n c2 held ⟨xt, xth, jo⟩ HT10.out.h (by omega) (by have := HL.out.1; omega))
            clear hA hem HEN
            subst hN0
            go_wp2_with fail
            refine HGV.out.mono ?_
            rintro e w11 ⟨a6, c6, rfl, ho11, hg11, hl11⟩
            obtain ⟨G, hG⟩ : ∃ G, G = (giveL held ⟨xt, xth, jo⟩).length := ⟨_, rfl⟩
            rw [← hG] at ho11 hl11 HAK ⊢
            have hGn : G ≤ nh + 1 := by
              have := HL.out.1
              rcases give_len held ⟨xt, xth, jo⟩ with h | ⟨h, -⟩ <;> omega
            have HG := Lib.hid hG
            have hz11 := hg11.size
            have hrow : ∀ k, (Value.slice a1 nh c1).ownBlock = some k → wr.heap.size ≤ k ∧ k < w3.heap.size := fun k hk => ⟨(HT10.out.h.lt k hk).1, HU3.out k hk⟩
            have HR := Lib.hid hrow
            have hc11 := (hg11.block w3.heap.size (by omega) (fun e => by have := (hrow _ e.symm).2; omega)).trans HC10.out
            have HX11 := Lib.hid (HX10.out.grown hg11 (fun k hk => by have := hrow k hk; omega))
            have HB11 := Lib.hid (HB10.out.grown hg11 (by have := HB10.out.size; omega) (fun k hk => by have := hrow k hk; omega))
            have HQ11 := Lib.hid (own_past HT10.out.q hg11 (fun k hk e => HT10.out.ne k e hk))
            have HO11 := Lib.hid ho11
            have HLL := Lib.hid hl11
            clear y0 y1 x0 x1 x2 z0 z1 zf0 zf1 k0 k1 kf0 kf1 p0 p1 hG hrow ho11 hl11 hg11 HX5 HC5 HB5 HW5 HW4 HCQ HX7 HC7 HT7 HU7 HB7 HD7 HW7 HO7 HLQ HUL HX8 HO8 HG8 HE8 HX9 HQ9 HH9 HT9 HC9 HD9 HB9 HX10 HC10 HD10 HQ10 HH10 HB10 HGV HWT
            obtain ⟨q0, q1, qf0, qf1⟩ := box2 hc11
            obtain ⟨u0, u1⟩ := box2_set (P := w3.heap.size) (x := .slice a6 G c6) (y := .slice a2 n c2) q0 q1
            have hx12 := (HX11.out.far (C := w3.heap.size) (j := 0) (u := .slice a6 G c6) (by omega)).far (C := w3.heap.size) (j := 1) (u := .slice a2 n c2) (by omega)
            obtain ⟨-, -, ⟨z0, z1, zf0, zf1⟩⟩ := hx12.cells
            go_upto_region 23 with (fail)
            obtain ⟨W12, hW12⟩ : ∃ W12 : World, W12 = (w11.setCell ⟨w3.heap.size, 0, none⟩ (.slice a6 G c6)).setCell ⟨w3.heap.size, 1, none⟩ (.slice a2 n c2) := ⟨_, rfl⟩
            rw [← hW12] at u0 u1 z0 z1 zf0 zf1 ⊢
            have HW12 := Lib.hid hW12
            clear hx12 hc11 q0 q1 qf0 qf1 hW12
            have hB12 : Below w.heap.size w W12 := by
              rw [HW12.out]
              exact (HB11.out.setCell (p := ⟨w3.heap.size, 0, none⟩) (by show w.heap.size ≤ w3.heap.size; omega) _).setCell (p := ⟨w3.heap.size, 1, none⟩) (by show w.heap.size ≤ w3.heap.size; omega) _
            have HB12 := Lib.hid hB12
            clear hB12
            by_cases hfl : 200 < G + n
            · have hI : (200 : Int) < (G : Int) + (n : Int) := by omega
              obtain ⟨t0, t1⟩ := box2_set (P := w.heap.size + 2) (x := .slice none 0 0) (y := .slice none 0 0) z0 z1
              go_upto_region 24 with (fail)
              repeat (first | go_values | go_skip | go_guarded | go_step | go_upon)
              refine bodyPost_ret (by simp [results, Tryd.results8, go_sem, t0, t1]; try rfl) rfl ?_
              unfold AskIs
              rw [HAK.out, if_pos (by have := HL.out.2; omega)]
              exact ⟨_, _, rfl, Rd.nil _ _, Rd.nil _ _, (HB12.out.setCell (p := ⟨w.heap.size + 2, 0, none⟩) (by show w.heap.size ≤ w.heap.size + 2; omega) _).setCell (p := ⟨w.heap.size + 2, 1, none⟩) (by show w.heap.size ≤ w.heap.size + 2; omega) _⟩
            · have hI : ¬ (200 : Int) < (G : Int) + (n : Int) := by omega
              obtain ⟨t0, t1⟩ := box2_set (P := w.heap.size + 2) (x := .slice a6 G c6) (y := .slice a2 n c2) z0 z1
              go_upto_region 25 with (fail)
              repeat (first | go_values | go_skip | go_guarded | go_step | go_upon)
              refine bodyPost_ret (by simp [results, Tryd.results8, go_sem, t0, t1]; try rfl) rfl ?_
              unfold AskIs
              rw [HAK.out, if_neg (by have := HL.out.2; omega)]
              have n6 : ∀ k, (Value.slice a6 G c6).ownBlock = some k → k ≠ w3.heap.size ∧ k ≠ w.heap.size + 2 := fun k hk => by
                rcases HLL.out k hk with h | h
                · have := HR.out k h
                  omega
                · omega
              have n2 : ∀ k, (Value.slice a2 n c2).ownBlock = some k → k ≠ w3.heap.size ∧ k ≠ w.heap.size + 2 := fun k hk => by
                have := HU3q.out k hk
                have := (HQ11.out.lt k hk).1
                omega
              have hO : W12.ownsRow wr.heap.size 26 3 (.slice a6 G c6) G (lkc (giveL held ⟨xt, xth, jo⟩)) := by
                rw [HW12.out]
                exact own_past (own_past HO11.out (gc_set _ w3.heap.size 0 (.slice a6 G c6)) (fun k hk e => (n6 k hk).1 (Option.some.inj e).symm)) (gc_set _ w3.heap.size 1 (.slice a2 n c2)) (fun k hk e => (n6 k hk).1 (Option.some.inj e).symm)
              have hQ : W12.ownsRow wr.heap.size 26 3 (.slice a2 n c2) n (lkc l) := by
                rw [HW12.out]
                have h := HQ11.out
                rw [← HL.out.2] at h
                exact own_past (own_past h (gc_set _ w3.heap.size 0 (.slice a6 G c6)) (fun k hk e => (n2 k hk).1 (Option.some.inj e).symm)) (gc_set _ w3.heap.size 1 (.slice a2 n c2)) (fun k hk e => (n2 k hk).1 (Option.some.inj e).symm)
              have hO2 := own_past (own_past hO (gc_set _ (w.heap.size + 2) 0 (.slice a6 G c6)) (fun k hk e => (n6 k hk).2 (Option.some.inj e).symm)) (gc_set _ (w.heap.size + 2) 1 (.slice a2 n c2)) (fun k hk e => (n6 k hk).2 (Option.some.inj e).symm)
              have hQ2 := own_past (own_past hQ (gc_set _ (w.heap.size + 2) 0 (.slice a6 G c6)) (fun k hk e => (n2 k hk).2 (Option.some.inj e).symm)) (gc_set _ (w.heap.size + 2) 1 (.slice a2 n c2)) (fun k hk e => (n2 k hk).2 (Option.some.inj e).symm)
              exact ⟨_, _, rfl, by rw [← HG.out]; exact Rd.own hO2, by rw [← HL.out.2]; exact Rd.own hQ2, (HB12.out.setCell (p := ⟨w.heap.size + 2, 0, none⟩) (by show w.heap.size ≤ w.heap.size + 2; omega) _).setCell (p := ⟨w.heap.size + 2, 1, none⟩) (by show w.heap.size ≤ w.heap.size + 2; omega) _⟩
          · have hem : ¬ (wts held l ⟨xt, xth, jo⟩).isEmpty = true := fun h => hN0 (HEN.out.2 h)
            have hA : askL held l ⟨xt, xth, xm⟩ = (if 200 < held.length + (l.length + 1) then ([], [], false, 10) else (held, l ++ [⟨xt, xth, jo⟩], false, 0)) := by
              unfold askL
              rw [HRF.out, if_neg (by omega), HUP.out, if_neg (by rw [← HM.out]; exact HJM.out.1), if_neg hem]
            have HAK := Lib.hid hA
            have hnv : ((nv : Int) == 0) = false := by
              have : ¬ (nv : Int) = 0 := by omega
              simpa using this
            clear hA hem HEN y0 y1 x0 x1 x2 z0 z1 zf0 zf1 HX5 HC5 HB5 HW5 HW4 HCQ HX7 HC7 HT7 HU7 HB7 HD7 HW7 HO7 HLQ HUL HX8 HO8 HG8 HE8 HX9 HQ9 HH9 HT9 HC9 HD9 HB9 HC10 HD10 HWT
            obtain ⟨u0, u1⟩ := box2_set (P := w3.heap.size) (x := .slice a3 nh c3) (y := .slice a5 (n + 1) c5) k0 k1
            have hx12 := (HX10.out.far (C := w3.heap.size) (j := 0) (u := .slice a3 nh c3) (by omega)).far (C := w3.heap.size) (j := 1) (u := .slice a5 (n + 1) c5) (by omega)
            obtain ⟨-, -, ⟨z0, z1, zf0, zf1⟩⟩ := hx12.cells
            go_upto_region 23 with (fail)
            obtain ⟨W12, hW12⟩ : ∃ W12 : World, W12 = (w10.setCell ⟨w3.heap.size, 0, none⟩ (.slice a3 nh c3)).setCell ⟨w3.heap.size, 1, none⟩ (.slice a5 (n + 1) c5) := ⟨_, rfl⟩
            rw [← hW12] at u0 u1 z0 z1 zf0 zf1 ⊢
            have HW12 := Lib.hid hW12
            clear hx12 k0 k1 kf0 kf1 p0 p1 hW12
            have hB12 : Below w.heap.size w W12 := by
              rw [HW12.out]
              exact (HB10.out.setCell (p := ⟨w3.heap.size, 0, none⟩) (by show w.heap.size ≤ w3.heap.size; omega) _).setCell (p := ⟨w3.heap.size, 1, none⟩) (by show w.heap.size ≤ w3.heap.size; omega) _
            have HB12 := Lib.hid hB12
            clear hB12
            by_cases hfl : 200 < nh + (n + 1)
            · have hI : (200 : Int) < (nh : Int) + ((n : Int) + 1) := by omega
              obtain ⟨t0, t1⟩ := box2_set (P := w.heap.size + 2) (x := .slice none 0 0) (y := .slice none 0 0) z0 z1
              go_upto_region 24 with (fail)
              repeat (first | go_values | go_skip | go_guarded | go_step | go_upon)
              refine bodyPost_ret (by simp [results, Tryd.results8, go_sem, t0, t1]; try rfl) rfl ?_
              unfold AskIs
              rw [HAK.out, if_pos (by have := HL.out; omega)]
              exact ⟨_, _, rfl, Rd.nil _ _, Rd.nil _ _, (HB12.out.setCell (p := ⟨w.heap.size + 2, 0, none⟩) (by show w.heap.size ≤ w.heap.size + 2; omega) _).setCell (p := ⟨w.heap.size + 2, 1, none⟩) (by show w.heap.size ≤ w.heap.size + 2; omega) _⟩
            · have hI : ¬ (200 : Int) < (nh : Int) + ((n : Int) + 1) := by omega
              obtain ⟨t0, t1⟩ := box2_set (P := w.heap.size + 2) (x := .slice a3 nh c3) (y := .slice a5 (n + 1) c5) z0 z1
              go_upto_region 25 with (fail)
              repeat (first | go_values | go_skip | go_guarded | go_step | go_upon)
              refine bodyPost_ret (by simp [results, Tryd.results8, go_sem, t0, t1]; try rfl) rfl ?_
              unfold AskIs
              rw [HAK.out, if_neg (by have := HL.out; omega)]
              have n6 : ∀ k, (Value.slice a3 nh c3).ownBlock = some k → k ≠ w3.heap.size ∧ k ≠ w.heap.size + 2 := fun k hk => by
                have := (HH10.out.lt k hk).1
                omega
              have n2 : ∀ k, (Value.slice a5 (n + 1) c5).ownBlock = some k → k ≠ w3.heap.size ∧ k ≠ w.heap.size + 2 := fun k hk => by
                have := (HQ10.out.lt k hk).1
                omega
              have hO : W12.ownsRow W5.heap.size 26 3 (.slice a3 nh c3) held.length (lkc held) := by
                rw [HW12.out]
                exact own_past (own_past HH10.out (gc_set _ w3.heap.size 0 (.slice a3 nh c3)) (fun k hk e => (n6 k hk).1 (Option.some.inj e).symm)) (gc_set _ w3.heap.size 1 (.slice a5 (n + 1) c5)) (fun k hk e => (n6 k hk).1 (Option.some.inj e).symm)
              have hQ : W12.ownsRow W5.heap.size 26 3 (.slice a5 (n + 1) c5) (n + 1) (lkc (l ++ [⟨xt, xth, jo⟩])) := by
                rw [HW12.out]
                exact own_past (own_past HQ10.out (gc_set _ w3.heap.size 0 (.slice a3 nh c3)) (fun k hk e => (n2 k hk).1 (Option.some.inj e).symm)) (gc_set _ w3.heap.size 1 (.slice a5 (n + 1) c5)) (fun k hk e => (n2 k hk).1 (Option.some.inj e).symm)
              have hO2 := own_past (own_past hO (gc_set _ (w.heap.size + 2) 0 (.slice a3 nh c3)) (fun k hk e => (n6 k hk).2 (Option.some.inj e).symm)) (gc_set _ (w.heap.size + 2) 1 (.slice a5 (n + 1) c5)) (fun k hk e => (n6 k hk).2 (Option.some.inj e).symm)
              have hQ2 := own_past (own_past hQ (gc_set _ (w.heap.size + 2) 0 (.slice a3 nh c3)) (fun k hk e => (n2 k hk).2 (Option.some.inj e).symm)) (gc_set _ (w.heap.size + 2) 1 (.slice a5 (n + 1) c5)) (fun k hk e => (n2 k hk).2 (Option.some.inj e).symm)
              have hql : (l ++ [(⟨xt, xth, jo⟩ : Lk)]).length = n + 1 := by rw [List.length_append, ← HL.out.2]; rfl
              exact ⟨_, _, rfl, Rd.own hO2, by rw [hql]; exact Rd.own hQ2, (HB12.out.setCell (p := ⟨w.heap.size + 2, 0, none⟩) (by show w.heap.size ≤ w.heap.size + 2; omega) _).setCell (p := ⟨w.heap.size + 2, 1, none⟩) (by show w.heap.size ≤ w.heap.size + 2; omega) _⟩
    · have hA : askL held l ⟨xt, xth, xm⟩ = ([], [], false, 9) := by
        unfold askL
        rw [HRR.out, if_pos HA.out, if_pos (by omega)]
      have HAK := Lib.hid hA
      obtain ⟨t0, t1⟩ := box2_set (x := .slice none 0 0) (y := .slice none 0 0) z0 z1
      clear hA
      by_cases hlt : k < n
      all_goals (
        go_wp2_with fail
        refine bodyPost_ret (by simp [results, Tryd.results8, go_sem, t0, t1]; try rfl) rfl ?_
        unfold AskIs
        rw [HAK.out]
        exact ⟨_, _, rfl, Rd.nil _ _, Rd.nil _ _, ((into HB2.out HB.out).setCell (by show w.heap.size ≤ w.heap.size + 2; omega) _).setCell (by show w.heap.size ≤ w.heap.size + 2; omega) _⟩)
/-- Asking, as the document has it: at all locks. -/
theorem asked_any (w : World) (nh n : Nat) (hv qv : Value) (held l : List Lk) (x : Lk) (hrh : Rd w 3 nh hv (lkc held)) (hr : Rd w 3 n qv (lkc l)) (h1 : nh ≤ 100000000000000) (h2 : n ≤ 100000000000000) :
    Calls Tryd.prog 8 #[.agg #[hv, qv], lkv x] w (AskIs held l x w) := by
  by_cases h : lksF held l = 0 ∧ frm x = 0
  · exact asked_yes w nh n hv qv held l x hrh hr h.1 h.2
  · exact asked_no w nh n hv qv held l x hrh hr (by omega) (by omega) (by omega)
end Go.Proofs.YtpddlckkncmlmaaDoor
