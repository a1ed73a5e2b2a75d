/- Leaving: the program, where nothing is wrong. -/
import Derived.Test.YtpddlckkncmlmaaDoorMq
namespace Go.Proofs.YtpddlckkncmlmaaDoor
open Go.ChangeShapes Go.WideShapes Go.ChangeAt Go.RowKit
set_option linter.unusedVariables false
set_option linter.unusedSimpArgs false
set_option maxHeartbeats 16000000
set_option maxRecDepth 100000
/-- Rows of things of two types lie in two blocks. -/
theorem row_ne {w : World} {B B' : Nat} {e e' : TypeId} {s s' n n' : Nat} {v v' : Value} {xs xs' : List Value} (he : e ≠ e') (h : w.ownsRow B e s v n xs) (h' : w.ownsRow B' e' s' v' n' xs') : v.ownBlock = none ∨ v.ownBlock ≠ v'.ownBlock := by
  rcases h.2 with ⟨rfl, _⟩ | ⟨g, cap, cur, rfl, _, hg, _⟩
  · exact .inl rfl
  · rcases h'.2 with ⟨rfl, _⟩ | ⟨g', cap', cur', rfl, _, hg', _⟩
    · exact .inr (by simp [Value.ownBlock])
    · refine .inr fun e2 => ?_
      simp [Value.ownBlock] at e2
      subst e2
      rw [hg] at hg'
      simp at hg'
      exact he hg'.2
theorem ne_row {v v' : Value} (h : ∀ k, v.ownBlock = some k → v'.ownBlock ≠ some k) : v.ownBlock = none ∨ v.ownBlock ≠ v'.ownBlock := by
  cases h1 : v.ownBlock with
  | none => exact .inl rfl
  | some k => exact .inr fun e => h k h1 e.symm
theorem ne_row2 {v v' : Value} (h : ∀ k, v.ownBlock = some k → v'.ownBlock ≠ some k) : v'.ownBlock = none ∨ v'.ownBlock ≠ v.ownBlock := by
  cases h1 : v'.ownBlock with
  | none => exact .inl rfl
  | some k => exact .inr fun e => h k e.symm h1
def lenV : Value → Nat
  | .slice _ n _ => n
  | _ => 0
theorem wake_end {H Q : List Lk} {A : List Int} (h : freeI H Q < 0) : wakeL Q.length H Q A = (H, Q, A) := by
  cases hq : Q.length with
  | zero => rfl
  | succ n => unfold wakeL; rw [if_pos h]
theorem wake_next {H Q : List Lk} {A : List Int} {i : Nat} (h : freeI H Q = (i : Int)) (hi : i < Q.length) : wakeL Q.length H Q A = wakeL (Q.eraseIdx i).length (giveL H (Q.getD i nlk)) (Q.eraseIdx i) (A ++ [(Q.getD i nlk).t]) := by
  have e : Q.length = (Q.eraseIdx i).length + 1 := by rw [List.length_eraseIdx, if_pos hi]; omega
  rw [e]
  conv => lhs; unfold wakeL
  rw [if_neg (by rw [h]; omega), h]
  rfl
theorem semi_md {H Q : List Lk} (h : Semi H Q) : Mds H ∧ Mds Q := ⟨fun y hy => mods (h.hf y hy), fun y hy => mods (h.qf y hy)⟩
theorem leave_good (w : World) (hT : Tog w) (hJ : Jnd w) (nh n : Nat) (hv qv : Value) (held l : List Lk) (t : Int) (hrh : Rd w 3 nh hv (lkc held)) (hr : Rd w 3 n qv (lkc l)) (h1 : nh ≤ 1000000000000000) (h2 : n ≤ 1000000000000000) (hok : Okl held l) (ht : 1 ≤ t ∧ t ≤ 1048576) :
    Calls Tryd.prog 13 #[.agg #[hv, qv], .int .i64 t] w (LeaveIs held l t w) := by
  have hlh := len_l hrh
  have hlq := len_l hr
  obtain ⟨_, ah, ch, rfl, _⟩ := id hrh
  obtain ⟨_, aq, cq, rfl, _⟩ := id hr
  have hA : leaveL held l t = ((wakeL (l.filter (notB t)).length (held.filter (notB t)) (l.filter (notB t)) []).1, (wakeL (l.filter (notB t)).length (held.filter (notB t)) (l.filter (notB t)) []).2.1, (wakeL (l.filter (notB t)).length (held.filter (notB t)) (l.filter (notB t)) []).2.2, 0) := by unfold leaveL; rw [if_neg (by simp [(okl_iff held l).2 hok]), if_neg (by omega)]
  have hsm := gone_semi hok.semi t
  have hHs : ∀ y ∈ held, y.th.size ≤ 1000 := fun y hy => by have := (frm_ok.1 (hok.hf y hy)).2.1; omega
  have hQs : ∀ y ∈ l, y.th.size ≤ 1000 := fun y hy => by have := (frm_ok.1 (hok.qf y hy)).2.1; omega
  have hfew := hok.few
  obtain ⟨W0, hW0⟩ : ∃ W0 : World, W0 = (w.alloc (.cells #[.slice ah nh ch, .slice aq n cq] 24)).alloc (.cells #[.slice none 0 0, .slice none 0 0] 24) := ⟨_, rfl⟩
  have hb0 : Below w.heap.size w W0 := by rw [hW0]; exact two_below _ _ _
  have hz0 : W0.heap.size = w.heap.size + 1 + 1 := by rw [hW0]; simp
  have hbx : Bx2 W0 w.heap.size (.slice ah nh ch) (.slice aq n cq) := by
    rw [hW0]
    obtain ⟨g1, g2⟩ := two_new w (.cells #[.slice ah nh ch, .slice aq n cq] 24) (.cells #[.slice none 0 0, .slice none 0 0] 24)
    exact ⟨g1, g2⟩
  have hck := check_any W0 (hT.below hb0) (hJ.below hb0) nh n _ _ held l (hrh.below hb0) (hr.below hb0) h1 h2
  rw [(okl_iff held l).2 hok] at hck
  have HR := Lib.hid hck
  have HI : Hid (∀ W, Calls Tryd.prog 30 #[.int .i64 t] W fun e w' => e = .returned (.bool true) ∧ W = w') := fun W => by
    have := isTxn_any W t
    rw [show (decide (1 ≤ t) && decide (t ≤ 1048576)) = true by simp; omega] at this
    exact this
  have HFR : Hid (∀ W, Below W0.heap.size W0 W → Calls Tryd.prog 17 #[.agg #[.slice ah nh ch, .slice aq n cq]] W fun e w' => ∃ a1 c1 a2 c2, e = .returned (.agg #[.slice a1 nh c1, .slice a2 n c2]) ∧ Two w' W.heap.size (.slice a1 nh c1) (.slice a2 n c2) held l ∧ Below W.heap.size W w') := fun W hW =>
    (fresh_any W nh n _ _ held l (hrh.below (into hb0 hW)) (hr.below (into hb0 hW)) (by omega) (by omega) hHs hQs).mono fun e w' ⟨v1, v2, g1, g2, g3⟩ => by
      obtain ⟨_, a1, c1, rfl, _⟩ := Rd.own g2.h
      obtain ⟨_, a2, c2, rfl, _⟩ := Rd.own g2.q
      rw [← hlh, ← hlq] at g1 g2
      exact ⟨a1, c1, a2, c2, g1, g2, g3⟩
  have HT := Lib.hid hT
  have HA := Lib.hid hA
  have HSM := Lib.hid hsm
  have HBX := Lib.hid hbx
  have HB0 := Lib.hid hb0
  have HW0 := Lib.hid hW0
  have HL := Lib.hid (And.intro hlh hlq)
  clear hT hJ hrh hr hA hbx hb0 hW0 hck hlh hlq hHs hQs hsm hok ht
  obtain ⟨⟨e0, e1, -, -⟩, -⟩ := HBX.out.cells
  go_enter Tryd.func13, Tryd.ntmps13
  go_wp2_with fail
  rw [← HW0.out]
  refine HR.out.mono ?_
  rintro e w1 ⟨rfl, hb1⟩
  clear e0 e1
  obtain ⟨⟨e0, e1, -, -⟩, -⟩ := (HBX.out.below hb1).cells
  have HB1 := Lib.hid hb1
  clear hb1
  go_wp2_with (go_at_call 30; ((with_reducible refine (HI.out _).mono ?_); rintro e w' ⟨rfl, rfl⟩))
  refine (HFR.out _ HB1.out).mono ?_
  rintro e w2 ⟨a1, c1, a2, c2, rfl, ht2, hb2⟩
  have hx2 := HBX.out.below (into HB1.out hb2)
  have hz1 := HB1.out.size
  clear e0 e1
  obtain ⟨⟨e0, e1, fe0, fe1⟩, -⟩ := hx2.cells
  have hx3 : Bx2 ((w2.setCell ⟨w.heap.size, 0, none⟩ (.slice a1 nh c1)).setCell ⟨w.heap.size, 1, none⟩ (.slice a2 n c2)) w.heap.size (.slice a1 nh c1) (.slice a2 n c2) := (hx2.set0 _).set1 _
  have ht3 := ((ht2.mono (B' := w.heap.size + 2) (by omega)).set (a := ⟨w.heap.size, 0, none⟩) (by show w.heap.size < _; omega) (.slice a1 nh c1)).set (a := ⟨w.heap.size, 1, none⟩) (by show w.heap.size < _; omega) (.slice a2 n c2)
  have hb3 := ((into (into HB0.out HB1.out) hb2).setCell (p := ⟨w.heap.size, 0, none⟩) (Nat.le_refl _) (.slice a1 nh c1)).setCell (p := ⟨w.heap.size, 1, none⟩) (Nat.le_refl _) (.slice a2 n c2)
  obtain ⟨W3, hW3⟩ : ∃ W3, W3 = (w2.setCell ⟨w.heap.size, 0, none⟩ (.slice a1 nh c1)).setCell ⟨w.heap.size, 1, none⟩ (.slice a2 n c2) := ⟨_, rfl⟩
  rw [← hW3] at hx3 ht3 hb3
  have HX3 := Lib.hid hx3
  have HT3 := Lib.hid ht3
  have HB3 := Lib.hid hb3
  have HW3 := Lib.hid hW3
  clear hx3 ht3 hb3 hW3 ht2 hb2 hx2 HFR HI HR HB1
  go_wp2_with fail
  rw [← HW3.out]
  clear e0 e1 fe0 fe1
  obtain ⟨⟨e0, e1, fe0, fe1⟩, -⟩ := HX3.out.cells
  have HOF : Hid (∀ W, Below W3.heap.size W3 W → Calls Tryd.prog 32 #[.int .i64 t] W fun e w' => ∃ Pc : Nat, e = .returned (.func (.func 53) #[] #[.pointer (some ⟨Pc, 0, none⟩)]) ∧ Below W3.heap.size W3 w' ∧
      Calls Tryd.prog 31 #[.slice a1 nh c1, .func (.func 53) #[] #[.pointer (some ⟨Pc, 0, none⟩)]] w' fun e w2 => ∃ a m c, e = .returned (.slice a m c) ∧
        (m = (held.filter (notB t)).length ∧ w2.ownsRow (w.heap.size + 2) 26 3 (.slice a m c) m (lkc (held.filter (notB t))) ∧ w2.ownsRow (w.heap.size + 2) 26 3 (.slice a2 n c2) n (lkc l) ∧ (∀ k, (Value.slice a m c).ownBlock = some k → (Value.slice a2 n c2).ownBlock ≠ some k) ∧ Bx2 w2 w.heap.size (.slice a1 nh c1) (.slice a2 n c2) ∧ Below w.heap.size w w2) ∧
        w2.cell? ⟨w.heap.size, 0, none⟩ = some (.slice a1 nh c1) ∧ w2.frozen? ⟨w.heap.size, 0, none⟩ = false) := by
    intro W hW
    refine (of_maker W t).mono ?_
    rintro e w' ⟨rfl, rfl⟩
    have hbn : Below W3.heap.size W3 (W.alloc (.cells #[.int .i64 t] 3)) := hW.alloc hW.size _
    have hTn := HT3.out.below hbn
    have hXn := HX3.out.below hbn
    have hlt := hXn.lt
    have hrow : ∀ k, (Value.slice a1 nh c1).ownBlock = some k → w.heap.size + 2 ≤ k := fun k hk => (hTn.h.lt k hk).1
    have hnl : held.length ≤ 1000000 := by omega
    refine ⟨_, rfl, hbn, (deleteOf_any _ (w.heap.size + 2) W.heap.size (.slice a1 nh c1) held t hTn.h (by omega) hnl (by unfold BxI; simp) (fun e => by have := (HT3.out.h.lt _ e).2; have := hW.size; omega)).mono ?_⟩
    rintro e w5 ⟨v', rfl, g1, g2, g3⟩
    obtain ⟨_, a, c, rfl, _⟩ := Rd.own g1
    have hx5 := hXn.grown g2 hrow
    have hq5 := hTn.q.kept g2 (ne_row2 hTn.ne)
    rw [← HL.out.2] at hq5
    obtain ⟨⟨q0, -, q1, -⟩, -⟩ := hx5.cells
    exact ⟨a, _, c, rfl, ⟨rfl, g1, hq5, fun k hk => hTn.ne k (g3 k hk), hx5, (into HB3.out hbn).grown g2 (by omega) (fun k hk => by have := hrow k hk; omega)⟩, q0, q1⟩
  change Code.wp _ ((regionOf 6 (Tryd.f13.body.getD .skip)).getD .skip) _ _ _
  refine lv6 _ _ _ _ _ _ _ _ _ _ _ _ _ _ _ _ _ _ _ _ _ _ _ _ _ _ _ _ _ _ _ _ _ _ _ _ _ _ _ _ _ _ _ _ _ _ _ _ _ _ _ _ _ _ _ _ _ _ _ _ _ _ _ W3 w.heap.size nh c1 a1 t _ e0 fe0 HOF (Lib.hid ?_)
  intro u22 u23 u24 u25 u26 u27 w4 a3 m3 c3 ⟨hm3, ho4, hq4, hne4, hx4, hb4⟩
  have hx5 := hx4.set0 (.slice a3 m3 c3)
  have ho5 := ownsRow_setCell_below ho4 (a := ⟨w.heap.size, 0, none⟩) (by show w.heap.size < _; omega) (.slice a3 m3 c3)
  have hq5 := ownsRow_setCell_below hq4 (a := ⟨w.heap.size, 0, none⟩) (by show w.heap.size < _; omega) (.slice a3 m3 c3)
  have hb5 := hb4.setCell (p := ⟨w.heap.size, 0, none⟩) (Nat.le_refl _) (.slice a3 m3 c3)
  obtain ⟨W5, hW5⟩ : ∃ W5, W5 = w4.setCell ⟨w.heap.size, 0, none⟩ (.slice a3 m3 c3) := ⟨_, rfl⟩
  rw [← hW5] at hx5 ho5 hq5 hb5 ⊢
  have HX5 := Lib.hid hx5
  have HO5 := Lib.hid ho5
  have HQ5 := Lib.hid hq5
  have HB5 := Lib.hid hb5
  have HNE5 := Lib.hid hne4
  have HM3 := Lib.hid hm3
  clear hx5 ho5 hq5 hb5 hW5 hm3 ho4 hq4 hne4 hx4 hb4 HOF HX3 HT3 HB3 HW3 e0 e1 fe0 fe1
  obtain ⟨⟨e0, e1, fe0, fe1⟩, -⟩ := HX5.out.cells
  go_wp2_with fail
  have HOF : Hid (∀ W, Below W5.heap.size W5 W → Calls Tryd.prog 32 #[.int .i64 t] W fun e w' => ∃ Pc : Nat, e = .returned (.func (.func 53) #[] #[.pointer (some ⟨Pc, 0, none⟩)]) ∧ Below W5.heap.size W5 w' ∧
      Calls Tryd.prog 31 #[.slice a2 n c2, .func (.func 53) #[] #[.pointer (some ⟨Pc, 0, none⟩)]] w' fun e w2 => ∃ a m c, e = .returned (.slice a m c) ∧
        (m = (l.filter (notB t)).length ∧ w2.ownsRow (w.heap.size + 2) 26 3 (.slice a m c) m (lkc (l.filter (notB t))) ∧ w2.ownsRow (w.heap.size + 2) 26 3 (.slice a3 m3 c3) m3 (lkc (held.filter (notB t))) ∧ (∀ k, (Value.slice a3 m3 c3).ownBlock = some k → (Value.slice a m c).ownBlock ≠ some k) ∧ Bx2 w2 w.heap.size (.slice a3 m3 c3) (.slice a2 n c2) ∧ Below w.heap.size w w2) ∧
        w2.cell? ⟨w.heap.size, 1, none⟩ = some (.slice a2 n c2) ∧ w2.frozen? ⟨w.heap.size, 1, none⟩ = false) := by
    intro W hW
    refine (of_maker W t).mono ?_
    rintro e w' ⟨rfl, rfl⟩
    have hbn : Below W5.heap.size W5 (W.alloc (.cells #[.int .i64 t] 3)) := hW.alloc hW.size _
    have hOn := own_below HO5.out hbn
    have hQn := own_below HQ5.out hbn
    have hXn := HX5.out.below hbn
    have hlt := hXn.lt
    have hrow : ∀ k, (Value.slice a2 n c2).ownBlock = some k → w.heap.size + 2 ≤ k := fun k hk => (hQn.lt k hk).1
    have hnl : l.length ≤ 1000000 := by omega
    have hQn2 := hQn
    rw [HL.out.2] at hQn2
    have hq52 := HQ5.out
    rw [HL.out.2] at hq52
    refine ⟨_, rfl, hbn, ?_⟩
    have hd := deleteOf_any (W.alloc (.cells #[.int .i64 t] 3)) (w.heap.size + 2) W.heap.size (.slice a2 l.length c2) l t hQn2 (by omega) hnl (by unfold BxI; simp) (fun e => by have := (hq52.lt _ e).2; have := hW.size; omega)
    rw [← HL.out.2] at hd
    refine hd.mono ?_
    rintro e w5 ⟨v', rfl, g1, g2, g3⟩
    obtain ⟨_, a, c, rfl, _⟩ := Rd.own g1
    have hx5 := hXn.grown g2 hrow
    have ho5 := hOn.kept g2 (ne_row HNE5.out)
    obtain ⟨⟨-, q0, -, q1⟩, -⟩ := hx5.cells
    exact ⟨a, _, c, rfl, ⟨rfl, g1, ho5, fun k hk h2 => HNE5.out k hk (g3 k h2), hx5, (into HB5.out hbn).grown g2 (by omega) (fun k hk => by have := hrow k hk; omega)⟩, q0, q1⟩
  change Code.wp _ ((regionOf 7 (Tryd.f13.body.getD .skip)).getD .skip) _ _ _
  refine lv7 _ _ _ _ _ _ _ _ _ _ _ _ _ _ _ _ _ _ _ _ _ _ _ _ _ _ _ _ _ _ _ _ _ _ _ _ _ _ _ _ _ _ _ _ _ _ _ _ _ _ _ _ _ _ _ _ _ _ _ _ _ _ _ W5 w.heap.size n c2 a2 t _ e1 fe1 HOF (Lib.hid ?_)
  intro u28 u29 u30 u31 u32 u33 w6 a4 m4 c4 ⟨hm4, hq6, ho6, hne6, hx6, hb6⟩
  have hx7 := hx6.set1 (.slice a4 m4 c4)
  have ho7 := ownsRow_setCell_below ho6 (a := ⟨w.heap.size, 1, none⟩) (by show w.heap.size < _; omega) (.slice a4 m4 c4)
  have hq7 := ownsRow_setCell_below hq6 (a := ⟨w.heap.size, 1, none⟩) (by show w.heap.size < _; omega) (.slice a4 m4 c4)
  have hb7 := hb6.setCell (p := ⟨w.heap.size, 1, none⟩) (Nat.le_refl _) (.slice a4 m4 c4)
  obtain ⟨W7, hW7⟩ : ∃ W7, W7 = w6.setCell ⟨w.heap.size, 1, none⟩ (.slice a4 m4 c4) := ⟨_, rfl⟩
  rw [← hW7] at hx7 ho7 hq7 hb7 ⊢
  rw [HM3.out] at ho7
  rw [hm4] at hq7
  have hT7 : Two W7 (w.heap.size + 2) (.slice a3 m3 c3) (.slice a4 m4 c4) (held.filter (notB t)) (l.filter (notB t)) := ⟨by rw [HM3.out]; exact ho7, by rw [hm4]; exact hq7, hne6⟩
  have HX7 := Lib.hid hx7
  have HT7 := Lib.hid hT7
  have HB7 := Lib.hid hb7
  clear hx7 ho7 hq7 hb7 hW7 hm4 ho6 hq6 hne6 hx6 hb6 HOF HX5 HO5 HQ5 HB5 HNE5 HM3 hT7 e0 e1 fe0 fe1 HL
  generalize held.filter (notB t) = H1 at *
  generalize l.filter (notB t) = Q1 at *
  obtain ⟨_, y1, d1, he1, _⟩ := Rd.own HT7.out.h
  obtain ⟨_, y2, d2, he2, _⟩ := Rd.own HT7.out.q
  simp only [Value.slice.injEq] at he1 he2
  have HM := Lib.hid (And.intro he1.2.1 he2.2.1)
  clear he1 he2
  have hf1 : H1.length + Q1.length ≤ 200 := HSM.out.few
  have hm4b : m4 ≤ 200 := by have := HM.out.2; omega
  have HFF : Hid (∀ W H Q x1 n1 c1 x2 n2 c2, Below w.heap.size w W → Two W (w.heap.size + 2) (.slice x1 n1 c1) (.slice x2 n2 c2) H Q → Semi H Q → Calls Tryd.prog 33 #[.agg #[.slice x1 n1 c1, .slice x2 n2 c2]] W fun e w' => e = .returned (.int .i64 (freeI H Q)) ∧ Below W.heap.size W w') := fun W H Q x1 n1 c1 x2 n2 c2 hb hT hS => by
    obtain ⟨m1, m2⟩ := semi_md hS
    have := hS.few
    exact firstFree_any W (HT.out.below hb) H.length Q.length _ _ H Q (Rd.own hT.h) (Rd.own hT.q) m1 m2 (by omega) (by omega)
  obtain ⟨⟨e0, e1, fe0, fe1⟩, -⟩ := HX7.out.cells
  go_wp2_with fail
  refine (HFF.out W7 H1 Q1 _ _ _ _ _ _ HB7.out HT7.out HSM.out).mono ?_
  rintro e w8 ⟨rfl, hb8⟩
  have HX8 := Lib.hid (HX7.out.below hb8)
  have HT8 := Lib.hid (HT7.out.below hb8)
  have HB8 := Lib.hid (into HB7.out hb8)
  clear hb8 e0 e1 fe0 fe1 HX7 HT7 HB7
  go_wp2_with fail
  go_loopw [7, 8] (fun hvv att wr => ∃ (H Q : List Lk) (L : List Int) (x1 : Option Addr) (n1 c1 : Nat) (x2 : Option Addr) (n2 c2 : Nat) (x3 : Option Addr) (n3 c3 : Nat), hvv = .slice x3 n3 c3 ∧ att = .int .i64 (freeI H Q) ∧ (n1 ≤ 200 ∧ n2 ≤ 200 ∧ n3 + n2 = m4) ∧ Hid (n1 = H.length ∧ n2 = Q.length ∧ n3 = L.length) ∧ Hid (Semi H Q) ∧ Hid (wakeL Q.length H Q L = wakeL Q1.length H1 Q1 []) ∧ Hid (Bx2 wr w.heap.size (.slice x1 n1 c1) (.slice x2 n2 c2)) ∧ Hid (Two wr (w.heap.size + 2) (.slice x1 n1 c1) (.slice x2 n2 c2) H Q) ∧ Hid (wr.ownsRow (w.heap.size + 2) 3 1 (.slice x3 n3 c3) n3 (ic L)) ∧ Hid (Below w.heap.size w wr)) (fun hvv _ _ => m4 - lenV hvv)
  case atStart =>
    exact ⟨H1, Q1, [], _, m3, _, _, m4, _, none, 0, 0, rfl, rfl, ⟨by have := HM.out.1; omega, by have := HM.out.2; omega, by omega⟩, ⟨HM.out.1, HM.out.2, rfl⟩, HSM.out, rfl, HX8.out, HT8.out, World.ownsRow_nil _ _ _ _, HB8.out⟩
  case round =>
    obtain ⟨H, Q, L, x1, n1, c1, x2, n2, c2, x3, n3, c3, rfl, rfl, ⟨hn1, hn2, hn3⟩, HN, HS, HW, HX, HTT, HO3, HB⟩ := hrel
    obtain ⟨fi, hfi⟩ : ∃ fi, fi = freeI H Q := ⟨_, rfl⟩
    rw [← hfi]
    have HFI := Lib.hid hfi
    clear hfi
    have hlt := HX.out.lt
    by_cases hneg : fi < 0
    · have hwe := wake_end (A := L) (H := H) (Q := Q) (by rw [← HFI.out]; exact hneg)
      have hAA : leaveL held l t = (H, Q, L, 0) := by rw [HA.out, ← HW.out, hwe]
      have HAA := Lib.hid hAA
      obtain ⟨⟨e0, e1, fe0, fe1⟩, ⟨y0, y1, yf0, yf1⟩⟩ := HX.out.cells
      obtain ⟨z0, z1⟩ := box2_set (x := .slice x1 n1 c1) (y := .slice x2 n2 c2) y0 y1
      have hnegI : ¬ (0 : Int) ≤ fi := by omega
      clear hwe hAA HFF
      go_wp2_with fail
      refine bodyPost_ret (by simp [results, Tryd.results13, go_sem, z0, z1]; try rfl) rfl ?_
      have hTT := (HTT.out.set (a := ⟨w.heap.size + 1, 0, none⟩) (by show w.heap.size + 1 < _; omega) (.slice x1 n1 c1)).set (a := ⟨w.heap.size + 1, 1, none⟩) (by show w.heap.size + 1 < _; omega) (.slice x2 n2 c2)
      have hO := ownsRow_setCell_below (ownsRow_setCell_below HO3.out (a := ⟨w.heap.size + 1, 0, none⟩) (by show w.heap.size + 1 < _; omega) (.slice x1 n1 c1)) (a := ⟨w.heap.size + 1, 1, none⟩) (by show w.heap.size + 1 < _; omega) (.slice x2 n2 c2)
      rw [HN.out.2.2] at hO
      unfold LeaveIs
      rw [HAA.out]
      exact ⟨_, _, _, rfl, Rd.own hTT.h, Rd.own hTT.q, Rd.own (by rw [HN.out.2.2]; exact hO), (HB.out.setCell (by show w.heap.size ≤ w.heap.size + 1; omega) _).setCell (by show w.heap.size ≤ w.heap.size + 1; omega) _⟩
    · obtain ⟨hi1, hi2, hi3⟩ := freeI_yes (H := H) (Q := Q) (by rw [← HFI.out]; exact hneg)
      rw [← HFI.out] at hi1 hi3
      obtain ⟨i, rfl⟩ : ∃ i : Nat, fi = (i : Int) := ⟨_, hi3⟩
      simp only [Int.toNat_natCast] at hi1
      have hin : i < n2 := by rw [HN.out.2.1]; exact hi1
      obtain ⟨g2, cap2, he2, hBg2, hg2, hcap2, hcm2⟩ := own_head HTT.out.q (by omega)
      simp only [Value.slice.injEq] at he2
      obtain ⟨rfl, -, rfl⟩ := he2
      unfold maxLen at hcm2
      rw [← HN.out.2.1] at hcap2
      have hqr := HTT.out.q
      rw [← HN.out.2.1] at hqr
      obtain ⟨⟨k0, k1, k2⟩, -⟩ := own_lk hqr hin
      have hnx := wake_next (A := L) HFI.out.symm hi1
      have hstep := HS.out.step (by rw [← HFI.out]; exact hneg)
      rw [← HFI.out] at hstep
      simp only [Int.toNat_natCast] at hstep
      obtain ⟨u, hu⟩ : ∃ u, u = Q.getD i nlk := ⟨_, rfl⟩
      rw [← hu] at k0 k1 k2 hnx hstep
      have hQe : (Q.eraseIdx i).length = n2 - 1 := by rw [List.length_eraseIdx, if_pos hi1, HN.out.2.1]
      obtain ⟨ut, uth, um⟩ := u
      simp only at k0 k1 k2
      have hnx2 := hnx.symm.trans HW.out
      have HNX := Lib.hid hnx2
      have HST := Lib.hid hstep
      have HQE := Lib.hid hQe
      have hiI : (i : Int) < (n2 : Int) := by omega
      have hba : Below wr.heap.size wr (wr.alloc (.cells #[.int .i64 ut, .string uth, .int .i64 um] 26)) := (Below.refl _ _).alloc (Nat.le_refl _) _
      have hbu : (wr.alloc (.cells #[.int .i64 ut, .string uth, .int .i64 um] 26)).heap[wr.heap.size]? = some (.cells #[.int .i64 ut, .string uth, .int .i64 um] 26 (0, 0)) := new0 _ _
      have hdl := delete_any (wr.alloc (.cells #[.int .i64 ut, .string uth, .int .i64 um] 26)) (w.heap.size + 2) g2 c2 n2 Q i (i + 1) rfl (own_below hqr hba) (by omega) hin
      have hcast : (((i + 1 : Nat)) : Int) = (i : Int) + 1 := by omega
      rw [hcast] at hdl
      obtain ⟨⟨e0, e1, fe0, fe1⟩, -⟩ := (HX.out.below hba).cells
      obtain ⟨⟨ee0, ee1, -, -⟩, -⟩ := HX.out.cells
      obtain ⟨Wa, hWa⟩ : ∃ Wa, Wa = wr.alloc (.cells #[.int .i64 ut, .string uth, .int .i64 um] 26) := ⟨_, rfl⟩
      rw [← hWa] at hba hbu hdl
      have HDL := Lib.hid hdl
      have HBA := Lib.hid hba
      have HBU := Lib.hid hbu
      have HWA := Lib.hid hWa
      clear hnx hnx2 hstep hQe hba hbu hdl hWa hu hqr hi2 hi3 hcast
      go_wp2_with fail
      rw [← HWA.out]
      refine HDL.out.mono ?_
      rintro e w5 ⟨rfl, ho5, hg5⟩
      have hza := HBA.out.size
      have hzl : wr.heap.size < Wa.heap.size := (Array.getElem?_eq_some_iff.1 HBU.out).1
      have hne5 : ∀ k, (some g2 : Option Nat) = some k → w.heap.size + 2 ≤ k := fun k hk => by cases hk; exact hBg2
      have hx5 := (HX.out.below HBA.out).grown hg5 hne5
      have hh5 := (own_below HTT.out.h HBA.out).kept hg5 (ne_row HTT.out.ne)
      have h35 := (own_below HO3.out HBA.out).kept hg5 (row_ne (by decide) HO3.out HTT.out.q)
      have hbu5 := (hg5.block _ hzl (fun e => by cases e; omega)).trans HBU.out
      have hb5 := (into HB.out HBA.out).grown hg5 (by omega) (fun k hk => by have := hne5 k hk; omega)
      have hz5 := hg5.size
      clear e0 e1 fe0 fe1 ee0 ee1
      obtain ⟨⟨e0, e1, fe0, fe1⟩, -⟩ := hx5.cells
      have hx6 := hx5.set1 (.slice (some ⟨g2, 0, none⟩) (n2 - 1) c2)
      have hh6 := ownsRow_setCell_below hh5 (a := ⟨w.heap.size, 1, none⟩) (by show w.heap.size < _; omega) (.slice (some ⟨g2, 0, none⟩) (n2 - 1) c2)
      have h36 := ownsRow_setCell_below h35 (a := ⟨w.heap.size, 1, none⟩) (by show w.heap.size < _; omega) (.slice (some ⟨g2, 0, none⟩) (n2 - 1) c2)
      have hq6 := ownsRow_setCell_below ho5 (a := ⟨w.heap.size, 1, none⟩) (by show w.heap.size < _; omega) (.slice (some ⟨g2, 0, none⟩) (n2 - 1) c2)
      have hbu6 := heap_far (P := w.heap.size) (j := 1) hbu5 (by omega) (.slice (some ⟨g2, 0, none⟩) (n2 - 1) c2)
      have hb6 := hb5.setCell (p := ⟨w.heap.size, 1, none⟩) (Nat.le_refl _) (.slice (some ⟨g2, 0, none⟩) (n2 - 1) c2)
      obtain ⟨⟨j0, j1, -, -⟩, -⟩ := hx6.cells
      obtain ⟨b0, b1, b2, -, -, -⟩ := has3 hbu6 (Below.refl _ _)
      obtain ⟨W6, hW6⟩ : ∃ W6, W6 = w5.setCell ⟨w.heap.size, 1, none⟩ (.slice (some ⟨g2, 0, none⟩) (n2 - 1) c2) := ⟨_, rfl⟩
      have hz6 : W6.heap.size = w5.heap.size := by rw [hW6]; simp
      rw [← hW6] at hx6 hh6 h36 hq6 hbu6 hb6
      have hgv := give_any W6 (w.heap.size + 2) (.slice x1 n1 c1) H ⟨ut, uth, um⟩ hh6 (by omega) (by have := HN.out.1; omega)
      have HGV : Hid (Calls Tryd.prog 21 #[.slice x1 n1 c1, .agg #[.int .i64 ut, .string uth, .int .i64 um]] W6 fun e w' => ∃ (a3 : Option Addr) (m3 c3 : Nat), e = .returned (.slice a3 m3 c3) ∧ m3 = (giveL H ⟨ut, uth, um⟩).length ∧ w'.ownsRow (w.heap.size + 2) 26 3 (.slice a3 m3 c3) m3 (lkc (giveL H ⟨ut, uth, um⟩)) ∧ W6.grownBy w' (Value.slice x1 n1 c1).ownBlock ∧ ((Value.slice a3 m3 c3).ownBlock = (Value.slice x1 n1 c1).ownBlock ∨ ∀ k, (Value.slice a3 m3 c3).ownBlock = some k → W6.heap.size ≤ k)) := hgv.mono fun e w' ⟨v', g1, g2, g3, g4⟩ => by
        obtain ⟨_, a3, c3, rfl, _⟩ := Rd.own g2
        exact ⟨a3, _, c3, g1, rfl, g2, g3, g4⟩
      have HX6 := Lib.hid hx6
      have HQ6 := Lib.hid hq6
      have H36 := Lib.hid h36
      have HBU6 := Lib.hid hbu6
      have HB6 := Lib.hid hb6
      have HW6 := Lib.hid hW6
      have hr1 : ∀ k, (Value.slice x1 n1 c1).ownBlock = some k → w.heap.size + 2 ≤ k ∧ k < wr.heap.size := fun k hk => HTT.out.h.lt k hk
      clear hx6 hq6 h36 hbu6 hb6 hW6 hgv hh6 hx5 hh5 h35 hbu5 hb5 ho5 hg5 HDL HWA HBU
      go_wp2_with fail
      rw [← HW6.out]
      refine HGV.out.mono ?_
      rintro e w7 ⟨x1', n1', c1', rfl, hm7, ho7, hg7, hbk7⟩
      have hne7 : ∀ k, (Value.slice x1 n1 c1).ownBlock = some k → w.heap.size + 2 ≤ k := fun k hk => (hr1 k hk).1
      have hx7 := HX6.out.grown hg7 hne7
      have hq7 := HQ6.out.kept hg7 (ne_row2 HTT.out.ne)
      have h37 := H36.out.kept hg7 (row_ne (by decide) HO3.out HTT.out.h)
      have hbu7 := (hg7.block _ (by omega) (fun e => by have := (hr1 _ e.symm).2; omega)).trans HBU6.out
      have hb7 := HB6.out.grown hg7 (by omega) (fun k hk => by have := hne7 k hk; omega)
      have hz7 := hg7.size
      clear e0 e1 fe0 fe1 j0 j1 b0 b1 b2
      obtain ⟨⟨e0, e1, fe0, fe1⟩, -⟩ := hx7.cells
      have hx8 := hx7.set0 (.slice x1' n1' c1')
      have ho8 := ownsRow_setCell_below ho7 (a := ⟨w.heap.size, 0, none⟩) (by show w.heap.size < _; omega) (.slice x1' n1' c1')
      have hq8 := ownsRow_setCell_below hq7 (a := ⟨w.heap.size, 0, none⟩) (by show w.heap.size < _; omega) (.slice x1' n1' c1')
      have h38 := ownsRow_setCell_below h37 (a := ⟨w.heap.size, 0, none⟩) (by show w.heap.size < _; omega) (.slice x1' n1' c1')
      have hbu8 := heap_far (P := w.heap.size) (j := 0) hbu7 (by omega) (.slice x1' n1' c1')
      have hb8 := hb7.setCell (p := ⟨w.heap.size, 0, none⟩) (Nat.le_refl _) (.slice x1' n1' c1')
      obtain ⟨b0, -, -, -, -, -⟩ := has3 hbu8 (Below.refl _ _)
      have hz8 : (w7.setCell ⟨w.heap.size, 0, none⟩ (.slice x1' n1' c1')).heap.size = w7.heap.size := by simp
      have HX8 := Lib.hid hx8
      have HO8 := Lib.hid ho8
      have HQ8 := Lib.hid hq8
      have H38 := Lib.hid h38
      have HB8 := Lib.hid hb8
      have HM7 := Lib.hid hm7
      have HK7 := Lib.hid hbk7
      have hr3 : ∀ k, (Value.slice x3 n3 c3).ownBlock = some k → w.heap.size + 2 ≤ k := fun k hk => (HO3.out.lt k hk).1
      clear hx8 ho8 hq8 h38 hbu8 hb8 hm7 hbk7 hx7 hq7 h37 hbu7 hb7 ho7 hg7 HGV HX6 HQ6 H36 HBU6 HB6 HW6
      go_wp2_with (at_builtin; refine apx (w7.setCell ⟨w.heap.size, 0, none⟩ (.slice x1' n1' c1')) 1 rfl _ _ 38 3 _ 1 8 Tryd.underlying38 Tryd.info3 rfl (by omega) rfl H38.out (by omega) (by omega) (by unfold maxLen; omega) [.int .i64 ut] rfl (by simp [Value.oneCell']) w7.heap.size hz8 rfl rfl ?_; intro v9 w9 hown9 _ hg9 _; obtain ⟨_, x3', c3', rfl, _⟩ := Rd.own hown9; have hx9 := HX8.out.grown hg9 hr3; clear e0 e1 fe0 fe1 b0; obtain ⟨⟨e0, e1, -, -⟩, -⟩ := hx9.cells)
      have hO9 := HO8.out.kept hg9 (row_ne (by decide) HO8.out H38.out)
      have hQ9 := HQ8.out.kept hg9 (row_ne (by decide) HQ8.out H38.out)
      have hT9 : Two w9 (w.heap.size + 2) (.slice x1' n1' c1') (.slice (some ⟨g2, 0, none⟩) (n2 - 1) c2) (giveL H ⟨ut, uth, um⟩) (Q.eraseIdx i) := by
        refine ⟨by rw [← HM7.out]; exact hO9, by rw [HQE.out]; exact hQ9, fun k h1 h2 => ?_⟩
        rcases HK7.out with e | e
        · exact HTT.out.ne k (e.symm.trans h1) h2
        · have h3 := e k h1
          have h4 : g2 = k := Option.some.inj h2
          have := HBA.out.size
          omega
      have hB9 := HB8.out.grown hg9 (by omega) (fun k hk => by have := hr3 k hk; omega)
      have HX9 := Lib.hid hx9
      have HT9 := Lib.hid hT9
      have HB9 := Lib.hid hB9
      have H39 := Lib.hid hown9
      clear hO9 hQ9 hT9 hB9 hx9 hown9 hg9 HX8 HO8 HQ8 H38 HB8
      refine (HFF.out w9 _ _ _ _ _ _ _ _ HB9.out HT9.out HST.out).mono ?_
      rintro e wF ⟨rfl, hbF⟩
      have HXF := Lib.hid (HX9.out.below hbF)
      have HTF := Lib.hid (HT9.out.below hbF)
      have HBF := Lib.hid (into HB9.out hbF)
      have H3F := Lib.hid (own_below H39.out hbF)
      clear hbF e0 e1 HX9 HT9 HB9 H39
      go_wp2_with fail
      go_roundw
      case rel =>
        exact ⟨giveL H ⟨ut, uth, um⟩, Q.eraseIdx i, L ++ [ut], x1', n1', c1', _, n2 - 1, c2, x3', n3 + 1, c3', rfl, rfl, ⟨by have := HST.out.few; have := HM7.out; omega, by omega, by omega⟩, Lib.hid ⟨HM7.out, HQE.out.symm, by rw [List.length_append, ← HN.out.2.2]; rfl⟩, Lib.hid HST.out, Lib.hid HNX.out, Lib.hid HXF.out, Lib.hid HTF.out, Lib.hid (by rw [ic_app]; exact H3F.out), Lib.hid HBF.out⟩
      case measure => (simp [lenV]) <;> omega
theorem leave_any (w : World) (hT : Tog w) (hJ : Jnd w) (nh n : Nat) (hv qv : Value) (held l : List Lk) (t : Int) (hrh : Rd w 3 nh hv (lkc held)) (hr : Rd w 3 n qv (lkc l)) (h1 : nh ≤ 1000000000000000) (h2 : n ≤ 1000000000000000) :
    Calls Tryd.prog 13 #[.agg #[hv, qv], .int .i64 t] w (LeaveIs held l t w) := by
  by_cases hbad : lksF held l ≠ 0 ∨ (t < 1 ∨ 1048576 < t)
  · exact leave_bad w hT hJ nh n hv qv held l t hrh hr h1 h2 hbad
  · refine leave_good w hT hJ nh n hv qv held l t hrh hr h1 h2 ((okl_iff _ _).1 ?_) (by omega)
    cases Decidable.em (lksF held l = 0) with
    | inl h => exact h
    | inr h => exact absurd (.inl h) hbad
end Go.Proofs.YtpddlckkncmlmaaDoor
