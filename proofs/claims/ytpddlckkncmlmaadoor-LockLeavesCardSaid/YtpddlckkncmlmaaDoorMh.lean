/- Locks anew, both lists; a lock given. -/
import Derived.Test.YtpddlckkncmlmaaDoorMf
import Derived.Deep.RegionHeld3
namespace Go.Proofs.YtpddlckkncmlmaaDoor
open Go.ChangeShapes Go.WideShapes Go.ChangeAt Go.RowKit
set_option linter.unusedVariables false
set_option linter.unusedSimpArgs false
set_option maxHeartbeats 4000000
set_option maxRecDepth 100000
/-- Two rows of locks that the call owns, each in memory of its own. -/
structure Two (w : World) (B : Nat) (v1 v2 : Value) (H Q : List Lk) : Prop where
  h : w.ownsRow B 26 3 v1 H.length (lkc H)
  q : w.ownsRow B 26 3 v2 Q.length (lkc Q)
  ne : ∀ k, v1.ownBlock = some k → v2.ownBlock ≠ some k
theorem Two.below {w w' : World} {B : Nat} {v1 v2 : Value} {H Q : List Lk} (h : Two w B v1 v2 H Q) (hb : Below w.heap.size w w') : Two w' B v1 v2 H Q := ⟨own_below h.h hb, own_below h.q hb, h.ne⟩
theorem Two.mono {w : World} {B B' : Nat} {v1 v2 : Value} {H Q : List Lk} (h : Two w B v1 v2 H Q) (hB : B' ≤ B) : Two w B' v1 v2 H Q := ⟨own_mono h.h hB, own_mono h.q hB, h.ne⟩
theorem Two.set {w : World} {B : Nat} {v1 v2 : Value} {H Q : List Lk} (h : Two w B v1 v2 H Q) {a : Addr} (ha : a.block < B) (u : Value) : Two (w.setCell a u) B v1 v2 H Q := ⟨ownsRow_setCell_below h.h ha u, ownsRow_setCell_below h.q ha u, h.ne⟩
/-- A box of two cells, both written. -/
theorem box2_set {W : World} {P : Nat} {u v x y : Value} (h0 : W.cell? ⟨P, 0, none⟩ = some u) (h1 : W.cell? ⟨P, 1, none⟩ = some v) :
    ((W.setCell ⟨P, 0, none⟩ x).setCell ⟨P, 1, none⟩ y).cell? ⟨P, 0, none⟩ = some x ∧ ((W.setCell ⟨P, 0, none⟩ x).setCell ⟨P, 1, none⟩ y).cell? ⟨P, 1, none⟩ = some y := by
  exact ⟨(World.cell?_setCell_other _ _ _ _ (by simp)).trans (World.cell?_setCell_same _ _ _ h0), World.cell?_setCell_same _ _ _ ((World.cell?_setCell_other _ _ _ _ (by simp)).trans h1)⟩
theorem frz_of_below {W W' : World} {a : Addr} {v : Value} (hb : Below W.heap.size W W') (hc : W.cell? a = some v) (h : W.frozen? a = false) : W'.frozen? a = false := (hb.frozen (lt_cell hc)).trans h
theorem fresh_any (w : World) (nh n : Nat) (hv qv : Value) (held l : List Lk) (hrh : Rd w 3 nh hv (lkc held)) (hr : Rd w 3 n qv (lkc l)) (h1 : nh ≤ 1000000) (h2 : n ≤ 1000000) (s1 : ∀ x ∈ held, x.th.size ≤ 1000) (s2 : ∀ x ∈ l, x.th.size ≤ 1000) :
    Calls Tryd.prog 17 #[.agg #[hv, qv]] w fun e w' => ∃ v1 v2, e = .returned (.agg #[v1, v2]) ∧ Two w' w.heap.size v1 v2 held l ∧ Below w.heap.size w w' := by
  have hlh := len_l hrh
  have hlq := len_l hr
  subst hlh hlq
  obtain ⟨_, ah, ch, rfl, _⟩ := id hrh
  obtain ⟨_, aq, cq, rfl, _⟩ := id hr
  obtain ⟨nh, hnh⟩ : ∃ nh, nh = held.length := ⟨_, rfl⟩
  obtain ⟨nq, hnq⟩ : ∃ nq, nq = l.length := ⟨_, rfl⟩
  have HNH := Lib.hid hnh
  have HNQ := Lib.hid hnq
  rw [← hnh] at hrh h1 ⊢
  rw [← hnq] at hr h2 ⊢
  have HF : Hid (∀ W, Below w.heap.size w W → Calls Tryd.prog 38 #[.slice ah nh ch] W fun e w' => ∃ a c, e = .returned (.slice a nh c) ∧ w'.ownsRow W.heap.size 26 3 (.slice a nh c) nh (lkc held) ∧ Below W.heap.size W w') := fun W hW => (freshList_any W nh _ held (hrh.below hW) h1 s1).mono fun e w' ⟨v', g1, g2, g3⟩ => by
    obtain ⟨_, a, c, rfl, _⟩ := Rd.own g2
    exact ⟨a, c, g1, g2, g3⟩
  have HQ : Hid (∀ W, Below w.heap.size w W → Calls Tryd.prog 38 #[.slice aq nq cq] W fun e w' => ∃ a c, e = .returned (.slice a nq c) ∧ w'.ownsRow W.heap.size 26 3 (.slice a nq c) nq (lkc l) ∧ Below W.heap.size W w') := fun W hW => (freshList_any W nq _ l (hr.below hW) h2 s2).mono fun e w' ⟨v', g1, g2, g3⟩ => by
    obtain ⟨_, a, c, rfl, _⟩ := Rd.own g2
    exact ⟨a, c, g1, g2, g3⟩
  clear hrh hr s1 s2 hnh hnq
  obtain ⟨W0, hW0⟩ : ∃ W0 : World, W0 = (w.alloc (.cells #[.slice ah nh ch, .slice aq nq cq] 24)).alloc (.cells #[.slice none 0 0, .slice none 0 0] 24) := ⟨_, rfl⟩
  have hb0 : Below w.heap.size w W0 := by rw [hW0]; exact ((Below.refl _ _).alloc (Nat.le_refl _) _).alloc (by simp) _
  have hz0 : W0.heap.size = w.heap.size + 1 + 1 := by rw [hW0]; simp
  have s0 : W0.cell? ⟨w.heap.size, 0, none⟩ = some (.slice ah nh ch) := by rw [hW0]; go_simp
  have s1 : W0.cell? ⟨w.heap.size, 1, none⟩ = some (.slice aq nq cq) := by rw [hW0]; go_simp
  have r0 : W0.cell? ⟨w.heap.size + 1, 0, none⟩ = some (.slice none 0 0) := by rw [hW0]; go_simp
  have r1 : W0.cell? ⟨w.heap.size + 1, 1, none⟩ = some (.slice none 0 0) := by rw [hW0]; go_simp
  have f0 : W0.frozen? ⟨w.heap.size + 1, 0, none⟩ = false := by rw [hW0]; go_simp
  have f1 : W0.frozen? ⟨w.heap.size + 1, 1, none⟩ = false := by rw [hW0]; go_simp
  have HW0 := Lib.hid hW0
  clear hW0
  have HD : Hid (Below w.heap.size w W0.drew) := hb0.drew
  have n1 : w.heap.size + 1 ≠ w.heap.size := by omega
  clear hb0
  go_enter Tryd.func17, Tryd.ntmps17
  go_wp2_with fail
  rw [← HW0.out]
  go_region_held3 (fun wx => wx.cell? ⟨w.heap.size, 0, none⟩ = some (.slice ah nh ch) ∧ wx.cell? ⟨w.heap.size, 1, none⟩ = some (.slice aq nq cq))
    ((first
      | (with_reducible exact ⟨cell_dr s0, cell_dr s1⟩)
      | (with_reducible exact ⟨cell_of_below hbb (cell_of_below hba (cell_dr s0)), cell_of_below hbb (cell_of_below hba (cell_dr s1))⟩)
      | (with_reducible exact ⟨cell_of_below hba (cell_of_below hbb (cell_dr s0)), cell_of_below hba (cell_of_below hbb (cell_dr s1))⟩)
      | (with_reducible exact ⟨cell_of_below hba (cell_dr s0), cell_of_below hba (cell_dr s1)⟩)
      | (with_reducible exact ⟨cell_of_below hbb (cell_dr s0), cell_of_below hbb (cell_dr s1)⟩)
      | (simp only [World.cell?_setCell_far, n1, ne_eq, not_false_eq_true]; first
        | (with_reducible exact ⟨cell_of_below hbb (cell_of_below hba (cell_dr s0)), cell_of_below hbb (cell_of_below hba (cell_dr s1))⟩)
        | (with_reducible exact ⟨cell_of_below hba (cell_of_below hbb (cell_dr s0)), cell_of_below hba (cell_of_below hbb (cell_dr s1))⟩))))
    ((first
      | (go_at_call 38; ((with_reducible refine (HF.out W0.drew HD.out).mono ?_); rintro e wa ⟨aa, ca, rfl, owna, hba⟩))
      | (go_at_call 38; ((with_reducible refine (HQ.out W0.drew HD.out).mono ?_); rintro e wb ⟨ab, cb, rfl, ownb, hbb⟩))
      | (go_at_call 38; ((with_reducible refine (HQ.out wa (into HD.out hba)).mono ?_); rintro e wb ⟨ab, cb, rfl, ownb, hbb⟩; have y0 := cell_of_below hbb (cell_of_below hba (cell_dr r0)); have y1 := cell_of_below hbb (cell_of_below hba (cell_dr r1)); have g0 := frz_of_below hbb (cell_of_below hba (cell_dr r0)) (frz_of_below hba (cell_dr r0) f0); have g1 := frz_of_below hbb (cell_of_below hba (cell_dr r1)) (frz_of_below hba (cell_dr r1) f1)))
      | (go_at_call 38; ((with_reducible refine (HF.out wb (into HD.out hbb)).mono ?_); rintro e wa ⟨aa, ca, rfl, owna, hba⟩; have y0 := cell_of_below hba (cell_of_below hbb (cell_dr r0)); have y1 := cell_of_below hba (cell_of_below hbb (cell_dr r1)); have g0 := frz_of_below hba (cell_of_below hbb (cell_dr r0)) (frz_of_below hbb (cell_dr r0) f0); have g1 := frz_of_below hba (cell_of_below hbb (cell_dr r1)) (frz_of_below hbb (cell_dr r1) f1)))))
  have hT : Two wb (w.heap.size + 1 + 1) (.slice aa nh ca) (.slice ab nq cb) held l := by
    have hz1 : W0.drew.heap.size = w.heap.size + 1 + 1 := hz0
    refine ⟨?_, ?_, fun k h1 h2 => ?_⟩
    · rw [← HNH.out]; exact own_mono (own_below owna hbb) (by omega)
    · rw [← HNQ.out]; exact own_mono ownb (by have := hba.size; omega)
    · have := (owna.lt k h1).2
      have := (ownb.lt k h2).1
      omega
  have HT := Lib.hid hT
  have HB := Lib.hid (into (into HD.out hba) hbb)
  obtain ⟨z0, z1⟩ := box2_set (x := .slice aa nh ca) (y := .slice ab nq cb) y0 y1
  clear hT owna ownb hba hbb s0 s1 r0 r1 f0 f1
  go_wp2_with fail
  refine bodyPost_ret (by simp [results, Tryd.results17, go_sem, z0, z1]; try rfl) rfl ?_
  exact ⟨_, _, rfl, ((HT.out.set (by show w.heap.size + 1 < _; omega) _).set (by show w.heap.size + 1 < _; omega) _).mono (by omega), (HB.out.setCell (by show w.heap.size ≤ w.heap.size + 1; omega) _).setCell (by show w.heap.size ≤ w.heap.size + 1; omega) _⟩
section
variable {ops : Array Oper} {rest : List Oper} {o : Oper} {a : Act} {Q : Exit → Act → World → Prop}
/-- 'append(v, literal)', v the call's own. -/
theorem apx (w : World) (m : Nat) (hgd : o.guard = none) (s x : Operand) (t e : TypeId) (z : Value) (size bytes : Nat) (ht : Tryd.prog.underlying t = some (.slice e)) (hinf : (Tryd.prog.info? e).map (fun i => (i.zero, i.size, i.bytes)) = some (some z, size, bytes)) (hzs : z.cells.size = size) (hsz : 0 < size)
    (ho : o.op = .call { callee := .builtin .append, args := #[s, x], argTypes := #[t, t] })
    {B n : Nat} {v : Value} {xs : List Value} (hown : w.ownsRow B e size v n xs) (hB : B ≤ w.heap.size) (hnm : (n + m) * bytes ≤ 140737488355328) (h63 : n + m ≤ maxLen) (news : List Value) (hl : news.length = m * size) (hX : ∀ u ∈ news, u.oneCell' = true)
    (H : Nat) (hH : w.heap.size = H) (hs : a.eval s = v) (hx : a.eval x = .slice (some ⟨H, 0, none⟩) m m)
    (h : ∀ v' w', w'.ownsRow B e size v' (n + m) (xs ++ news) → Below B w w' → w.grownBy w' v.ownBlock → (v'.ownBlock = v.ownBlock ∨ v'.ownBlock = some (H + 1)) → wpList Tryd.prog ops Q rest (a.put o.dst v') w') : wpList Tryd.prog ops Q (o :: rest) a (w.alloc (.cells news.toArray e)) := by
  subst hH
  obtain ⟨i0, hi, hz0, hz1, hz2⟩ := info_parts hinf
  refine wpList_append_own_at _ hgd s x _ ho B e i0 z size bytes ht hi hz0 hz1 hz2 hzs hsz v n xs hs (hown.alloc _) _ m m news hx hl (new_cells w news _) hX h63 hnm (by simp; omega) ?_
  intro v' w' h1 h2 h3 h4
  have hg : w.grownBy w' v.ownBlock := (World.grownBy_alloc w _ _).trans h2
  exact h v' w' h1 ((Below.refl B w).grown hg hB (own_ge hown)) hg (by simpa using h4)
end
theorem gb_below {w w1 : World} {row : Option Nat} (h : Below w.heap.size w w1) : w.grownBy w1 row := ⟨h.os, h.tape, h.output, h.size, fun k hk _ => h.block k hk⟩
theorem gb_trans {w w1 w2 : World} {row : Option Nat} (h1 : w.grownBy w1 row) (h2 : w1.grownBy w2 row) : w.grownBy w2 row :=
  ⟨h2.os.trans h1.os, h2.tape.trans h1.tape, h2.output.trans h1.output, Nat.le_trans h1.size h2.size, fun k hk hne => (h2.block k (Nat.lt_of_lt_of_le hk h1.size) hne).trans (h1.block k hk hne)⟩
theorem lk_of_len {w : World} {B n : Nat} {v : Value} {l : List Lk} (h : w.ownsRow B 26 3 v n (lkc l)) : n = l.length := by have := h.1; rw [lkc_length] at this; omega
theorem lkc_set : ∀ (l : List Lk) (k : Nat) (x : Lk), k < l.length → ((((lkc l).set (k * 3) (.int .i64 x.t)).set (k * 3 + 1) (.string x.th)).set (k * 3 + 2) (.int .i64 x.m)) = lkc (l.set k x)
  | a :: l, 0, x, _ => by simp [lkc]
  | a :: l, k + 1, x, h => by
    have e : (k + 1) * 3 = k * 3 + 1 + 1 + 1 := by omega
    rw [e]
    have ih := lkc_set l k x (by simpa using h)
    simp only [lkc, List.set_cons_succ]
    rw [ih]
/-- A lock given. -/
theorem give_any (w : World) (B : Nat) (v : Value) (l : List Lk) (x : Lk) (hown : w.ownsRow B 26 3 v l.length (lkc l)) (hB : B ≤ w.heap.size) (hn : l.length ≤ 1000000) :
    Calls Tryd.prog 21 #[v, lkv x] w fun e w' => ∃ v', e = .returned v' ∧ w'.ownsRow B 26 3 v' (giveL l x).length (lkc (giveL l x)) ∧ w.grownBy w' v.ownBlock ∧ (v'.ownBlock = v.ownBlock ∨ ∀ k, v'.ownBlock = some k → w.heap.size ≤ k) := by
  obtain ⟨_, a0, c0, rfl, _⟩ := Rd.own hown
  obtain ⟨n, hnn⟩ : ∃ n, n = l.length := ⟨_, rfl⟩
  have HN := Lib.hid hnn
  rw [← hnn] at hown hn ⊢
  have hon := on_says (w.alloc (.cells #[.int .i64 x.t, .string x.th, .int .i64 x.m] 26)) x l
  have hmk := on_maker (w.alloc (.cells #[.int .i64 x.t, .string x.th, .int .i64 x.m] 26)) x
  obtain ⟨W0, hW0⟩ : ∃ W0 : World, W0 = w.alloc (.cells #[.int .i64 x.t, .string x.th, .int .i64 x.m] 26) := ⟨_, rfl⟩
  have hb0 : Below w.heap.size w W0 := by rw [hW0]; exact (Below.refl _ _).alloc (Nat.le_refl _) _
  obtain ⟨p0, p1, p2⟩ := BxL.new w x
  rw [← hW0] at hon hmk p0 p1 p2
  have hb1 : Below W0.heap.size W0 (W0.alloc (.cells #[.int .i64 x.t, .string x.th, .int .i64 x.m] 26)) := (Below.refl _ _).alloc (Nat.le_refl _) _
  have hix := idx_on _ n _ l (onB x) _ ((Rd.own hown).below (into hb0 hb1)) hon
  obtain ⟨W1, hW1⟩ : ∃ W1 : World, W1 = W0.alloc (.cells #[.int .i64 x.t, .string x.th, .int .i64 x.m] 26) := ⟨_, rfl⟩
  rw [← hW1] at hmk hix hb1
  have HMK := Lib.hid hmk
  have HIX := Lib.hid hix
  have HO := Lib.hid hown
  have HB := Lib.hid (And.intro hb0 hb1)
  have HP := Lib.hid (And.intro p0 (And.intro p1 p2))
  have HW0 := Lib.hid hW0
  obtain ⟨ix, hixx⟩ : ∃ ix, ix = idx (onB x) l := ⟨_, rfl⟩
  rw [← hixx] at HIX
  have HI := Lib.hid hixx
  clear hmk hix hown hb0 hb1 p0 p1 p2 hW0 hW1 hon hixx hnn
  obtain ⟨xt, xth, xm⟩ := x
  by_cases hneg : ix < 0
  · go_enter Tryd.func21, Tryd.ntmps21
    go_wp2_with fail
    rw [← HW0.out]
    refine HMK.out.mono ?_
    rintro e w' ⟨rfl, rfl⟩
    go_wp2_with fail
    refine HIX.out.mono ?_
    rintro e w2 ⟨rfl, hb2⟩
    have HO2 := Lib.hid (own_below HO.out (into HB.out.1 (into HB.out.2 hb2)))
    have HB2 := Lib.hid (into HB.out.1 (into HB.out.2 hb2))
    have c0 := cell_of_below (into HB.out.2 hb2) HP.out.1
    have c1 := cell_of_below (into HB.out.2 hb2) HP.out.2.1
    have c2 := cell_of_below (into HB.out.2 hb2) HP.out.2.2
    have hz2 := HB2.out.size
    (try simp only at c0 c1 c2)
    clear hb2
    go_wp2_with (at_builtin; refine apx w2 1 rfl _ _ 22 26 _ 3 32 Tryd.underlying22 Tryd.info26 rfl (by omega) rfl HO2.out (by omega) (by omega) (by unfold maxLen; omega) [.int .i64 xt, .string xth, .int .i64 xm] rfl (by simp [Value.oneCell']) _ rfl rfl rfl ?_; intro v3 w3 hown3 _ hg3 he3; have HO3 := Lib.hid hown3; have HG3 := Lib.hid hg3; have HE3 := Lib.hid he3; clear hown3 hg3 he3)
    go_ret
    have hgv : giveL l ⟨xt, xth, xm⟩ = l ++ [⟨xt, xth, xm⟩] := by unfold giveL; rw [if_pos (by rw [← HI.out]; exact hneg)]
    refine ⟨_, rfl, ?_, ?_, ?_⟩
    · rw [hgv, List.length_append, ← HN.out, lkc_app]
      exact HO3.out
    · exact ⟨HG3.out.os.trans HB2.out.os, HG3.out.tape.trans HB2.out.tape, HG3.out.output.trans HB2.out.output, Nat.le_trans hz2 HG3.out.size, fun k hk hne => (HG3.out.block k (by omega) hne).trans (HB2.out.block k hk)⟩
    · rcases HE3.out with h | h
      · exact .inl h
      · exact .inr fun k hk => by have hk2 := h.symm.trans hk; cases hk2; omega
  · have hi0 := idx_at (p := onB ⟨xt, xth, xm⟩) (H := l) (by rw [← HI.out]; exact hneg)
    obtain ⟨hi, -⟩ := hi0
    rw [← HI.out, ← HN.out] at hi
    obtain ⟨i, rfl⟩ : ∃ i : Nat, ix = (i : Int) := ⟨ix.toNat, by omega⟩
    have hi' : i < n := by simpa using hi
    obtain ⟨g, cap, he, hBg, hg, hcap, hcm⟩ := own_head HO.out (by omega)
    simp only [Value.slice.injEq] at he
    obtain ⟨rfl, -, rfl⟩ := he
    unfold maxLen at hcm
    have hin : (i : Int) < (n : Int) := by omega
    clear hi
    go_enter Tryd.func21, Tryd.ntmps21
    go_wp2_with fail
    rw [← HW0.out]
    refine HMK.out.mono ?_
    rintro e w' ⟨rfl, rfl⟩
    go_wp2_with fail
    refine HIX.out.mono ?_
    rintro e w2 ⟨rfl, hb2⟩
    have HO2 := Lib.hid (own_below HO.out (into HB.out.1 (into HB.out.2 hb2)))
    have HB2 := Lib.hid (into HB.out.1 (into HB.out.2 hb2))
    have c0 := cell_of_below (into HB.out.2 hb2) HP.out.1
    have c1 := cell_of_below (into HB.out.2 hb2) HP.out.2.1
    have c2 := cell_of_below (into HB.out.2 hb2) HP.out.2.2
    have hz2 := HB2.out.size
    (try simp only at c0 c1 c2)
    obtain ⟨⟨d0, d1, d2⟩, f0, f1, f2⟩ := own_lk HO2.out hi'
    clear hb2
    go_wp2_with fail
    go_ret
    have hgv : giveL l ⟨xt, xth, xm⟩ = l.set i ⟨xt, xth, xm⟩ := by unfold giveL; rw [if_neg (by rw [← HI.out]; omega), ← HI.out]; rfl
    obtain ⟨o1, b1⟩ := HO2.out.stored (i * 3) (.int .i64 xt)
    obtain ⟨o2, b2⟩ := o1.stored (i * 3 + 1) (.string xth)
    obtain ⟨o3, b3⟩ := o2.stored (i * 3 + 2) (.int .i64 xm)
    rw [lkc_set l i ⟨xt, xth, xm⟩ (by rw [← HN.out]; exact hi')] at o3
    refine ⟨_, rfl, ?_, ?_, .inl rfl⟩
    · rw [hgv, List.length_set, ← HN.out]
      exact o3
    · exact gb_trans (gb_below HB2.out) (gb_trans b1 (gb_trans b2 b3))
end Go.Proofs.YtpddlckkncmlmaaDoor
