/- A lock is held now, as the document has it. -/
import Derived.Test.YtpddlckkncmlmaaDoorNo
import Derived.Test.YtpddlckkncmlmaaDoorNi
import Derived.Test.YtpddlckkncmlmaaDoorMa
namespace Go.Proofs.YtpddlckkncmlmaaDoor
open Go.ChangeShapes Go.WideShapes Go.ChangeAt Go.RowKit
set_option linter.unusedVariables false
set_option linter.unusedSimpArgs false
set_option maxHeartbeats 8000000
set_option maxRecDepth 100000
theorem Bxs.grownB {W W' : World} {P : Nat} {hv qv : Value} {x : Lk} {row : Option Nat} (h : Bxs W P hv qv x) (hg : W.grownBy W' row) (hr : ∀ k, row = some k → k < P) : Bxs W' P hv qv x := by
  have := h.lt
  have hne : ∀ k, P ≤ k → some k ≠ row := fun k hk e => by have := hr k e.symm; omega
  exact ⟨(hg.block _ (by omega) (hne _ (by omega))).trans h.a, (hg.block _ (by omega) (hne _ (by omega))).trans h.b, (hg.block _ (by omega) (hne _ (by omega))).trans h.c⟩
theorem gb_put {w W : World} {row : Option Nat} (h : w.grownBy W row) {p : Addr} (hp : w.heap.size ≤ p.block) (v : Value) : w.grownBy (W.setCell p v) row :=
  ⟨h.os, h.tape, h.output, by simpa using h.size, fun k hk hne => (Below.heap_setCell _ _ _ _ (by omega)).trans (h.block k hk hne)⟩
theorem bdQ (w : World) (n : Nat) : Below w.heap.size w (w.drewN n) := ⟨rfl, rfl, rfl, Nat.le_refl _, fun k _ => rfl⟩
theorem give_hit {l : List Lk} {x : Lk} {k : Nat} (hk : k < l.length) (ha : ∀ j, j < k → onB x (l.getD j nlk) = false) (h : onB x (l.getD k nlk) = true) : giveL l x = l.set k x := by
  unfold giveL
  rw [idx_hit hk ha h, if_neg (by omega)]
  simp
theorem give_none {l : List Lk} {x : Lk} (ha : ∀ j, j < l.length → onB x (l.getD j nlk) = false) : giveL l x = l ++ [x] := by
  unfold giveL
  rw [idx_none ha, if_pos (by omega)]
theorem set_mode : ∀ {l : List Lk} {k : Nat} {t : Int} {th : ByteArray} {m m' : Int}, k < l.length → l.getD k nlk = ⟨t, th, m⟩ → (lkc l).set (k * 3 + 2) (.int .i64 m') = lkc (l.set k ⟨t, th, m'⟩)
  | [], k, _, _, _, _, h, _ => by simp at h
  | a :: l, 0, _, _, _, _, _, h => by
    simp [List.getD] at h
    subst h
    simp [lkc]
  | a :: l, k + 1, t, th, m, m', h, h2 => by
    have e : (k + 1) * 3 + 2 = k * 3 + 2 + 1 + 1 + 1 := by omega
    rw [e]
    have ih := set_mode (l := l) (k := k) (m' := m') (by simpa using h) (by simpa using h2)
    simp only [lkc, List.set_cons_succ]
    rw [ih]
theorem given_any (w : World) (B : Nat) (v : Value) (aq : Option Addr) (n cq : Nat) (held : List Lk) (x : Lk) (hown : w.ownsRow B 26 3 v held.length (lkc held)) (hB : B ≤ w.heap.size) (hn : held.length ≤ 1000000) :
    Calls Tryd.prog 28 #[.agg #[v, .slice aq n cq], lkv x] w fun e w' => ∃ (a : Option Addr) (c : Nat), e = .returned (.agg #[.slice a (giveL held x).length c, .slice aq n cq]) ∧ w'.ownsRow B 26 3 (.slice a (giveL held x).length c) (giveL held x).length (lkc (giveL held x)) ∧ w.grownBy w' v.ownBlock ∧ ∀ k, (Value.slice a (giveL held x).length c).ownBlock = some k → v.ownBlock = some k ∨ w.heap.size + 3 ≤ k := by
  obtain ⟨_, a0, c0, rfl, _⟩ := Rd.own hown
  obtain ⟨nh, hnn⟩ : ∃ nh, nh = held.length := ⟨_, rfl⟩
  have HN := Lib.hid hnn
  rw [← hnn] at hown hn
  obtain ⟨xt, xth, xm⟩ := x
  obtain ⟨W0, hW0⟩ : ∃ W0 : World, W0 = ((w.alloc (.cells #[.slice a0 nh c0, .slice aq n cq] 24)).alloc (.cells #[.int .i64 xt, .string xth, .int .i64 xm] 26)).alloc (.cells #[.slice none 0 0, .slice none 0 0] 24) := ⟨_, rfl⟩
  have hb0 : Below w.heap.size w W0 := by rw [hW0]; exact three_below _ _ _ _
  have hbx : Bxs W0 w.heap.size (.slice a0 nh c0) (.slice aq n cq) ⟨xt, xth, xm⟩ := by
    rw [hW0]
    obtain ⟨g1, g2, g3⟩ := three_new w (.cells #[.slice a0 nh c0, .slice aq n cq] 24) (.cells #[.int .i64 xt, .string xth, .int .i64 xm] 26) (.cells #[.slice none 0 0, .slice none 0 0] 24)
    exact ⟨g1, g2, g3⟩
  have HO := Lib.hid hown
  have HBX := Lib.hid hbx
  have HB0 := Lib.hid hb0
  have HW0 := Lib.hid hW0
  have HLT : Hid (∀ k, (Value.slice a0 nh c0).ownBlock = some k → k < w.heap.size) := fun k hk => (HO.out.lt k hk).2
  rw [← hnn]
  clear hown hbx hb0 hW0 hnn
  have hlk : lkv ⟨xt, xth, xm⟩ = .agg #[.int .i64 xt, .string xth, .int .i64 xm] := rfl
  rw [hlk]
  clear hlk
  go_enter Tryd.func28, Tryd.ntmps28
  go_wp2_with fail
  rw [← HW0.out]
  go_loopw [5] (fun i wr => ∃ k : Nat, k ≤ nh ∧ i = .int .i64 (k : Int) ∧ Hid (∀ j, j < k → onB ⟨xt, xth, xm⟩ (held.getD j nlk) = false) ∧ Hid (Below W0.heap.size W0 wr)) (fun i _ => nh - (intOf i).toNat)
  case atStart => exact ⟨0, by omega, rfl, (fun j hj => absurd hj (by omega)), Below.refl _ _⟩
  case round =>
    obtain ⟨k, hk, rfl, HA, HB⟩ := hrel
    have hx1 := HBX.out.below HB.out
    have HX1 := Lib.hid hx1
    obtain ⟨⟨y0, y1, yf0, yf1⟩, ⟨x0, x1, x2, -, -, -⟩, ⟨z0, z1, zf0, zf1⟩⟩ := hx1.cells
    simp only at x0 x1 x2
    have ho1 := own_below HO.out (into HB0.out HB.out)
    have HO1 := Lib.hid ho1
    have hzr := HB.out.size
    have hz0 := HB0.out.size
    have hlt0 := HBX.out.lt
    clear hx1 ho1
    by_cases hlt : k < nh
    · obtain ⟨g, cap, he, hBg, hg, hcap, hcm⟩ := own_head HO.out (by omega)
      simp only [Value.slice.injEq] at he
      obtain ⟨rfl, -, rfl⟩ := he
      unfold maxLen at hcm
      obtain ⟨⟨c0', c1', c2'⟩, f0, f1, f2⟩ := own_lk HO1.out hlt
      have hO : onB ⟨xt, xth, xm⟩ (held.getD k nlk) = ((held.getD k nlk).t == xt && (held.getD k nlk).th.toList == xth.toList) := rfl
      obtain ⟨u, hu⟩ : ∃ u, u = held.getD k nlk := ⟨_, rfl⟩
      have HU := Lib.hid hu
      rw [← hu] at c0' c1' c2' hO
      have i0 : (0 : Int) ≤ (k : Int) := by omega
      have i1 : (k : Int) < (nh : Int) := by omega
      obtain ⟨ut, uth, um⟩ := u
      simp only at c0' c1' c2' hO
      clear hu
      obtain ⟨q, hq⟩ : ∃ q, q = onB ⟨xt, xth, xm⟩ ⟨ut, uth, um⟩ := ⟨_, rfl⟩
      have HQ := Lib.hid hq
      cases q
      · have hNO : onB ⟨xt, xth, xm⟩ (held.getD k nlk) = false := by rw [← HU.out, ← HQ.out]
        have HNO := Lib.hid hNO
        rw [← HQ.out] at hO
        clear hNO hq
        by_cases ht : ut = xt
        · subst ht
          have hth : (uth.toList == xth.toList) = false := by simpa using hO.symm
          clear hO
          go_wp2_with fail
          go_quiet (fail)
          have HBn : Hid (Below W0.heap.size W0 (wr.drewN nq)) := HB.out.trans ((bdQ _ _).mono HB.out.size)
          clear c0' c1' c2' f0 f1 f2 x0 x1 x2 y0 y1 yf0 yf1 z0 z1 zf0 zf1
          go_wp2_with fail
          go_roundw
          case rel =>
            refine ⟨k + 1, by omega, by go_num, fun j hj => ?_, HBn.out⟩
            rcases Nat.lt_or_ge j k with h | h
            · exact HA.out j h
            · obtain rfl : j = k := by omega
              exact HNO.out
          case measure => simp [intOf]; omega
        · clear hO
          go_wp2_with fail
          go_quiet (fail)
          have HBn : Hid (Below W0.heap.size W0 (wr.drewN nq)) := HB.out.trans ((bdQ _ _).mono HB.out.size)
          clear c0' c1' c2' f0 f1 f2 x0 x1 x2 y0 y1 yf0 yf1 z0 z1 zf0 zf1
          go_wp2_with fail
          go_roundw
          case rel =>
            refine ⟨k + 1, by omega, by go_num, fun j hj => ?_, HBn.out⟩
            rcases Nat.lt_or_ge j k with h | h
            · exact HA.out j h
            · obtain rfl : j = k := by omega
              exact HNO.out
          case measure => simp [intOf]; omega
      · obtain ⟨e1, e2⟩ := on_eq hq.symm
        simp only at e1 e2
        have hset : giveL held ⟨xt, xth, xm⟩ = held.set k ⟨xt, xth, xm⟩ := give_hit (by have := HN.out; omega) HA.out (by rw [← HU.out]; exact HQ.out.symm)
        have HSET := Lib.hid hset
        clear hO hq hset
        subst e1 e2
        go_wp2_with fail
        go_quiet (fail)
        obtain ⟨W2, hW2⟩ : ∃ W2 : World, W2 = wr.drewN nq := ⟨_, rfl⟩
        have hB2 : Below wr.heap.size wr W2 := by rw [hW2]; exact bdQ _ _
        rw [← hW2]
        have HX2 := Lib.hid (HX1.out.below hB2)
        have HO2 := Lib.hid (own_below HO1.out hB2)
        have HB2 := Lib.hid (into HB0.out (into HB.out hB2))
        clear c0' c1' c2' f0 f1 f2 x0 x1 x2 y0 y1 yf0 yf1 z0 z1 zf0 zf1 hB2 hW2
        obtain ⟨⟨y0, y1, yf0, yf1⟩, ⟨x0, x1, x2, -, -, -⟩, -⟩ := HX2.out.cells
        obtain ⟨⟨c0', c1', c2'⟩, f0, f1, f2⟩ := own_lk HO2.out hlt
        simp only at x0 x1 x2
        obtain ⟨o3, b3⟩ := HO2.out.stored (k * 3 + 2) (.int .i64 xm)
        have hx3 := HX2.out.grownB b3 (fun k hk => by have := HLT.out k hk; omega)
        have HX3 := Lib.hid hx3
        obtain ⟨⟨v0, v1, -, -⟩, -, ⟨z0, z1, zf0, zf1⟩⟩ := hx3.cells
        have HO3 := Lib.hid o3
        have HG3 := Lib.hid (gb_trans (gb_below HB2.out) b3)
        clear o3 b3 hx3
        obtain ⟨t0, t1⟩ := box2_set (P := w.heap.size + 1 + 1) (x := .slice (some ⟨g, 0, none⟩) nh c0) (y := .slice aq n cq) z0 z1
        go_wp2_with fail
        refine bodyPost_ret (by simp [results, Tryd.results28, go_sem, t0, t1]; try rfl) rfl ?_
        have hl : (giveL held ⟨ut, uth, xm⟩).length = nh := by rw [HSET.out, List.length_set, HN.out]
        rw [hl]
        have hO : (W2.setCell ⟨g, k * 3 + 2, none⟩ (.int .i64 xm)).ownsRow B 26 3 (.slice (some ⟨g, 0, none⟩) nh c0) nh (lkc (giveL held ⟨ut, uth, xm⟩)) := by
          have h := HO3.out
          rw [HSET.out]
          rw [set_mode (by have := HN.out; omega) HU.out.symm] at h
          exact h
        exact ⟨_, _, rfl, (hO.kept (gc_set _ (w.heap.size + 2) 0 _) (.inr fun e => by have e2 : g = w.heap.size + 2 := Option.some.inj e; omega)).kept (gc_set _ (w.heap.size + 2) 1 _) (.inr fun e => by have e2 : g = w.heap.size + 2 := Option.some.inj e; omega), gb_put (gb_put HG3.out (p := ⟨w.heap.size + 2, 0, none⟩) (by show w.heap.size ≤ w.heap.size + 2; omega) _) (p := ⟨w.heap.size + 2, 1, none⟩) (by show w.heap.size ≤ w.heap.size + 2; omega) _, fun k hk => .inl hk⟩
    · obtain rfl : nh = k := by omega
      have hset : giveL held ⟨xt, xth, xm⟩ = held ++ [⟨xt, xth, xm⟩] := give_none (fun j hj => HA.out j (by rw [HN.out]; exact hj))
      have HSET := Lib.hid hset
      clear hset
      go_wp2_with (at_builtin; refine apx wr 1 rfl _ _ 22 26 _ 3 32 Tryd.underlying22 Tryd.info26 rfl (by omega) rfl HO1.out (by omega) (by omega) (by unfold maxLen; omega) [.int .i64 xt, .string xth, .int .i64 xm] rfl (by simp [Value.oneCell']) _ rfl rfl rfl ?_; intro v3 w3 hown3 _ hg3 he3; obtain ⟨_, a3, c3, rfl, _⟩ := Rd.own hown3; have hx3 := HX1.out.grownB hg3 (fun k hk => HLT.out k hk); obtain ⟨⟨u0, u1, uf0, uf1⟩, -, -⟩ := hx3.cells; have HX3 := Lib.hid hx3; obtain ⟨⟨v0, v1, -, -⟩, -, ⟨s0, s1, sf0, sf1⟩⟩ := (hx3.set0 (.slice a3 (nh + 1) c3)).cells; have HO3 := Lib.hid hown3; have HG3 := Lib.hid hg3; have HE3 := Lib.hid he3; clear hx3 hown3 hg3 he3 x0 x1 x2 y0 y1 yf0 yf1 z0 z1 zf0 zf1)
      obtain ⟨t0, t1⟩ := box2_set (P := w.heap.size + 1 + 1) (x := .slice a3 (nh + 1) c3) (y := .slice aq n cq) s0 s1
      refine bodyPost_ret (by simp [results, Tryd.results28, go_sem, t0, t1]; try rfl) rfl ?_
      have hl : (giveL held ⟨xt, xth, xm⟩).length = nh + 1 := by rw [HSET.out, List.length_append, HN.out]; rfl
      rw [hl]
      have hfar : ∀ P, w.heap.size ≤ P → P < w.heap.size + 3 → (Value.slice a3 (nh + 1) c3).ownBlock ≠ some P := by
        intro P h1 h2 e
        rcases HE3.out with h | h
        · rw [h] at e
          have := HLT.out P e
          omega
        · rw [h] at e
          have := Option.some.inj e
          omega
      have hO : w3.ownsRow B 26 3 (.slice a3 (nh + 1) c3) (nh + 1) (lkc (giveL held ⟨xt, xth, xm⟩)) := by
        rw [HSET.out, lkc_app]
        exact HO3.out
      have hg : w.grownBy w3 (Value.slice a0 nh c0).ownBlock := gb_trans (gb_below (into HB0.out HB.out)) HG3.out
      exact ⟨_, _, rfl, ((hO.kept (gc_set _ w.heap.size 0 _) (.inr (hfar _ (by omega) (by omega)))).kept (gc_set _ (w.heap.size + 2) 0 _) (.inr (hfar _ (by omega) (by omega)))).kept (gc_set _ (w.heap.size + 2) 1 _) (.inr (hfar _ (by omega) (by omega))), gb_put (gb_put (gb_put hg (p := ⟨w.heap.size, 0, none⟩) (by show w.heap.size ≤ w.heap.size; omega) _) (p := ⟨w.heap.size + 2, 0, none⟩) (by show w.heap.size ≤ w.heap.size + 2; omega) _) (p := ⟨w.heap.size + 2, 1, none⟩) (by show w.heap.size ≤ w.heap.size + 2; omega) _, fun k hk => (HE3.out.elim (fun h => .inl (h ▸ hk)) (fun h => .inr (by rw [h] at hk; have := Option.some.inj hk; omega)))⟩
end Go.Proofs.YtpddlckkncmlmaaDoor
