/- A scan: the entries from a key on, up to another one. -/
import Derived.Test.YtacpeibkamfibaaTx
import Derived.Test.YtacpeibkamfibaaXb
import Derived.Test.YtacpeibkamfibaaIx
import Derived.Maps.OwnIn
import Derived.Lib.BufferMore
namespace Go.Proofs.Ytacpeibkamfibaa
open Go.ChangeShapes Go.WideShapes Go.ChangeAt Go.RowKit Go.Shelf
set_option linter.unusedVariables false
set_option linter.unusedSimpArgs false
set_option maxHeartbeats 8000000
set_option maxRecDepth 100000
attribute [local go_sem] Oper.semAt_some
/-- 'append(l, x, ..)' inside a fence. -/
theorem apxIn {F : Fence} {nF : Nat} {ops : Array Oper} {rest : List Oper} {o : Oper} {a : Act} {Q : Exit → Act → World → Prop} (w : World) (m : Nat) (hgd : o.guard = none) (s x : Operand) (t e : TypeId) (z : Value) (size bytes : Nat) (ht : Try.prog.underlying t = some (.slice e)) (hinf : (Try.prog.info? e).map (fun i => (i.zero, i.size, i.bytes)) = some (some z, size, bytes)) (hzs : z.cells.size = size) (hsz : 0 < size)
    (ho : o.op = .call { callee := .builtin .append, args := #[s, x], argTypes := #[t, t] })
    {B n : Nat} {v : Value} {xs : List Value} (hown : w.ownsRow B e size v n xs) (hB : B ≤ w.heap.size) (hnm : (n + m) * bytes ≤ 140737488355328) (h63 : n + m ≤ maxLen) (news : List Value) (hl : news.length = m * size) (hX : ∀ u ∈ news, u.oneCell' = true)
    (H : Nat) (hH : w.heap.size = H) (hs : a.eval s = v) (hx : a.eval x = .slice (some ⟨H, 0, none⟩) m m)
    (h : ∀ v' w', w'.ownsRow B e size v' (n + m) (xs ++ news) → Below B w w' → w.grownBy w' v.ownBlock → (v'.ownBlock = v.ownBlock ∨ v'.ownBlock = some (H + 1)) → wpListIn F nF Try.prog ops Q rest (a.put o.dst v') w') : wpListIn F nF Try.prog ops Q (o :: rest) a (w.alloc (.cells news.toArray e)) := by
  subst hH
  obtain ⟨i0, hi, hz0, hz1, hz2⟩ := info_parts hinf
  refine wpListIn_append_own_at _ hgd s x _ ho B e i0 z size bytes ht hi hz0 hz1 hz2 hzs hsz v n xs hs (hown.alloc _) _ m m news hx hl (new_cells w news _) hX h63 hnm (by simp; omega) ?_
  intro v' w' h1 h2 h3 h4
  have hg : w.grownBy w' v.ownBlock := (World.grownBy_alloc w _ _).trans h2
  exact h v' w' h1 ((Below.refl B w).grown hg hB (own_ge hown)) hg (by simpa using h4)
/-- Entries one more. -/
theorem EntC.more {W W' : World} {B : Nat} {v v' : Value} {n : Nat} {cs : List Value} {es : List (Key × Int)} {x : Value} {k : Key} {r : Int} (hown : W.ownsRow B 36 2 v n cs) (h : EntC W (KeyOn B W v) cs es) (hx : W.ownsRow B 5 1 x k.length (bc k))
    (hg : W.grownBy W' v.ownBlock) (hv : v'.ownBlock = v.ownBlock ∨ ∃ H, W.heap.size ≤ H ∧ v'.ownBlock = some H) : EntC W' (KeyOn B W' v') (cs ++ [x, .int .i64 r]) (es ++ [(k, r)]) := by
  have key : ∀ (y : Value) (q : Key), RB W (KeyOn B W v) y q → RB W' (KeyOn B W' v') y q := fun y q hq => by
    refine RB.mono (RB.agree hq fun b hb hlt => hg.block b hlt hb.2.2) fun b hb => ⟨hb.1, by have := hg.size; omega, fun e => ?_⟩
    rcases hv with h1 | ⟨H, h1, h2⟩
    · exact hb.2.2 (by rw [e, h1])
    · rw [h2] at e
      have := Option.some.inj e
      have := hb.2.1
      omega
  refine EntC.app (EntC.map_ key h) (EntC.single (key x k ⟨Rd.own hx, fun a n c e hn => ?_⟩))
  have hb : x.ownBlock = some a.block := by rw [e]; rfl
  obtain ⟨h1, h2⟩ := hx.lt a.block hb
  refine ⟨h1, h2, fun e2 => ?_⟩
  obtain ⟨c1, s1, g1⟩ := own_ty hx hb
  obtain ⟨c2, s2, g2⟩ := own_ty hown e2.symm
  rw [g1] at g2
  simp at g2
theorem rd_kept {A B : World} {row : Option Nat} (hg : A.grownBy B row) (hr : ∀ r, row = some r → ∃ o : Obj, A.heap[r]? = some o ∧ o.isCells = false) {s n : Nat} {v : Value} {xs : List Value} (h : Rd A s n v xs) : Rd B s n v xs := by
  obtain ⟨h1, ao, cap, h2, h3, h4, h5, h6⟩ := h
  exact ⟨h1, ao, cap, h2, h3, h4, h5, fun a ha j u hu => cell_kept (h6 a ha j u hu) hg hr⟩
theorem EntC.kept {A B : World} {row : Option Nat} (hg : A.grownBy B row) (hr : ∀ r, row = some r → ∃ o : Obj, A.heap[r]? = some o ∧ o.isCells = false) {n : Nat} {v : Value} {cs : List Value} {es : List (Key × Int)} (h : EntC A (KeyOn n A v) cs es) : EntC B (KeyOn n B v) cs es :=
  (EntC.map_ (fun _ _ g => ⟨rd_kept hg hr g.1, g.2⟩) h).mono fun b g => ⟨g.1, by have := hg.size; omega, g.2.2⟩
theorem EntC.below2 {A B : World} {n : Nat} {v : Value} {cs : List Value} {es : List (Key × Int)} (hb : Below A.heap.size A B) (h : EntC A (KeyOn n A v) cs es) : EntC B (KeyOn n B v) cs es :=
  (h.below hb).mono fun b g => ⟨g.1, by have := hb.size; omega, g.2.2⟩
theorem keeps_grown {B B0 e s n : Nat} {W W' : World} {v : Value} {xs : List Value} (hown : W.ownsRow B0 e s v n xs) (hg : W.grownBy W' v.ownBlock) : KeepsFrom B W W' :=
  ⟨hg.size, fun i o _ hi ho => (hg.block i (Array.getElem?_eq_some_iff.1 hi).1 (fun e => by obtain ⟨cur, sp, hc⟩ := own_ty hown e.symm; rw [hi] at hc; cases hc; cases ho)).trans hi⟩
theorem KpE.grown {n₀ B n : Nat} {W W' : World} {v : Value} {xs : List Value} (hown : W.ownsRow B 36 2 v n xs) (hb : Below n₀ W W') (hg : W.grownBy W' v.ownBlock) : KpE n₀ W W' :=
  ⟨hb, fun b C T sp hT hc => (hg.block b (Array.getElem?_eq_some_iff.1 hc).1 (fun e => by obtain ⟨cur, s2, h2⟩ := own_ty hown e.symm; rw [hc] at h2; simp only [Option.some.injEq, Obj.cells.injEq] at h2; rw [h2.2.1] at hT; rcases hT with h | h | h <;> cases h)).trans hc⟩
theorem KpE.box {n₀ Bl : Nat} {W : World} {u v : Value} (hn : n₀ ≤ Bl) (hx : W.heap[Bl]? = some (Obj.cells #[u] 27 (0, 0))) : KpE n₀ W (W.setCell ⟨Bl, 0, none⟩ v) :=
  ⟨(Below.refl _ _).setCell (p := ⟨Bl, 0, none⟩) hn _, fun b C T sp hT hc => by
    have hne : b ≠ Bl := fun e => by rw [e, hx] at hc; simp only [Option.some.injEq, Obj.cells.injEq] at hc; rw [← hc.2.1] at hT; rcases hT with h | h | h <;> cases h
    exact (Below.heap_setCell _ _ _ _ hne).trans hc⟩
theorem box1_set {W : World} {Bl : Nat} {u v : Value} {T : TypeId} (hx : W.heap[Bl]? = some (Obj.cells #[u] T (0, 0))) : (W.setCell ⟨Bl, 0, none⟩ v).heap[Bl]? = some (Obj.cells #[v] T (0, 0)) := by
  rw [Lib.heap_setCell_same hx]; rfl
theorem rd_box {W : World} {Bl n m c : Nat} {a : Option Addr} {u x : Value} {T : TypeId} {l : List UInt8} (hbox : W.heap[Bl]? = some (.cells #[.slice a m c] T (0, 0))) (h : Rd W 1 n x (bc l)) : Rd (W.setCell ⟨Bl, 0, none⟩ u) 1 n x (bc l) := by
  obtain ⟨h1, ao, cap, h2, h3, h4, h5, h6⟩ := h
  refine ⟨h1, ao, cap, h2, h3, h4, h5, fun d hd j y hy => ?_⟩
  have hc := h6 d hd j y hy
  by_cases hb : Bl = (d.add j).block
  · exfalso
    have hm : y ∈ bc l := List.mem_of_getElem? hy
    obtain ⟨b, _, rfl⟩ := List.mem_map.1 hm
    unfold World.cell? at hc
    rw [← hb, hbox] at hc
    simp only at hc
    split at hc
    · cases hc
    · rcases hq : (d.add j).off with _ | q
      · rw [hq] at hc; simp at hc
      · rw [hq] at hc; simp at hc
  · exact set_far (p := ⟨Bl, 0, none⟩) hb hc
/-- One more entry, stored into the list's box. -/
theorem scan_put {w W w4 : World} {Bl B2 n2 c2 : Nat} {a2 a4 av : Option Addr} {c4 cv : Nat} {E : List (Key × Int)} {to : Key} {pre : List EntX} {xk : Key} {xr : Int} {x : Value} {cs : List Value} (hBl : w.heap.size + 2 ≤ Bl) (hB : Below w.heap.size w W) (hown : W.ownsRow w.heap.size 36 2 (.slice av pre.length cv) pre.length cs) (hx : W.ownsRow w.heap.size 5 1 x xk.length (bc xk))
    (h4 : w4.ownsRow w.heap.size 36 2 (.slice a4 (pre.length + 1) c4) (pre.length + 1) (cs ++ [x, .int .i64 xr])) (hb4 : Below w.heap.size W w4) (hg : W.grownBy w4 (Value.slice av pre.length cv).ownBlock) (hat : (Value.slice a4 (pre.length + 1) c4).ownBlock = (Value.slice av pre.length cv).ownBlock ∨ (Value.slice a4 (pre.length + 1) c4).ownBlock = some (W.heap.size + 1))
    (hx4 : w4.heap[Bl]? = some (Obj.cells #[.slice av pre.length cv] 27 (0, 0))) (q1 : ∀ x ∈ pre, toOk to x.2 = true) (q2 : pre.map (·.2) = E.take pre.length) (q3 : W.heap[w.heap.size + 1]? = some (Obj.cells #[.slice a2 n2 c2] 25 (0, 0))) (q4 : Bl < W.heap.size) (he : EntC W (KeyOn w.heap.size W (.slice av pre.length cv)) cs (pre.map (·.2))) (b5 : E[pre.length]? = some (xk, xr)) (htk : toOk to (xk, xr) = true) :
    KeepsFrom B2 W (w4.setCell ⟨Bl, 0, none⟩ (.slice a4 (pre.length + 1) c4)) ∧ KpE w.heap.size W (w4.setCell ⟨Bl, 0, none⟩ (.slice a4 (pre.length + 1) c4)) ∧
    ((∀ y ∈ pre ++ [(x, (xk, xr))], toOk to y.2 = true) ∧ (pre ++ [(x, (xk, xr))]).map (·.2) = E.take (pre ++ [(x, (xk, xr))]).length ∧ (w4.setCell ⟨Bl, 0, none⟩ (.slice a4 (pre.length + 1) c4)).heap[w.heap.size + 1]? = some (Obj.cells #[.slice a2 n2 c2] 25 (0, 0)) ∧ Bl < (w4.setCell ⟨Bl, 0, none⟩ (.slice a4 (pre.length + 1) c4)).heap.size ∧
      ∃ v cs', (w4.setCell ⟨Bl, 0, none⟩ (.slice a4 (pre.length + 1) c4)).heap[Bl]? = some (Obj.cells #[v] 27 (0, 0)) ∧ (w4.setCell ⟨Bl, 0, none⟩ (.slice a4 (pre.length + 1) c4)).ownsRow w.heap.size 36 2 v (pre ++ [(x, (xk, xr))]).length cs' ∧
      EntC (w4.setCell ⟨Bl, 0, none⟩ (.slice a4 (pre.length + 1) c4)) (KeyOn w.heap.size (w4.setCell ⟨Bl, 0, none⟩ (.slice a4 (pre.length + 1) c4)) v) cs' ((pre ++ [(x, (xk, xr))]).map (·.2)) ∧ (pre ++ [(x, (xk, xr))] = [] → v = .slice none 0 0)) ∧ Below w.heap.size w (w4.setCell ⟨Bl, 0, none⟩ (.slice a4 (pre.length + 1) c4)) := by
  have hbs := hb4.setCell (p := ⟨Bl, 0, none⟩) (by show w.heap.size ≤ Bl; omega) (.slice a4 (pre.length + 1) c4)
  have hgz := hg.size
  have he4 := EntC.more (r := xr) hown he hx hg (hat.elim .inl (fun h => .inr ⟨_, by omega, h⟩))
  refine ⟨(keeps_grown hown hg).trans ((KeepsOthers.setCell _ _ _).from _), (KpE.grown hown hb4 hg).trans (KpE.box (by omega) hx4), ⟨fun y hy => ?_, ?_, ?_, ?_, _, cs ++ [x, .int .i64 xr], box1_set hx4, ?_, ?_, fun h => by simp at h⟩, hB.trans hbs⟩
  · rcases List.mem_append.1 hy with h1 | h1
    · exact q1 y h1
    · rw [List.mem_singleton.1 h1]; exact htk
  · rw [List.map_append, q2, List.length_append, List.length_singleton, List.take_add_one, b5]
    rfl
  · rw [Below.heap_setCell _ _ _ _ (by show w.heap.size + 1 ≠ Bl; omega)]
    refine (hg.block _ (Array.getElem?_eq_some_iff.1 q3).1 (fun e => ?_)).trans q3
    obtain ⟨cur, sp, hc⟩ := own_ty hown e.symm
    rw [q3] at hc
    simp at hc
  · simp only [World.size_setCell]; omega
  · rw [List.length_append, List.length_singleton]
    refine own_far h4 fun g hgb => Below.heap_setCell _ _ _ _ fun e => ?_
    obtain ⟨cur, sp, hc⟩ := own_ty h4 hgb
    rw [e] at hc
    change w4.heap[Bl]? = _ at hc
    rw [hx4] at hc
    simp at hc
  · rw [List.map_append]
    exact (EntC.map_ (fun y q hq => ⟨rd_box hx4 hq.1, hq.2⟩) he4).mono fun b hb => ⟨hb.1, by have := hb.2.1; simpa using this, hb.2.2⟩
def ScanIs (es : List (Key × Int)) (w : World) (e : Ending) (w' : World) : Prop :=
  ∃ v cs, e = .returned (.tuple #[v, .int .i64 0]) ∧ w'.ownsRow w.heap.size 36 2 v es.length cs ∧ EntC w' (KeyOn w.heap.size w' v) cs es ∧ Below w.heap.size w w' ∧ (es = [] → v = .slice none 0 0)
theorem scan_in (w : World) (ok ok' ok2 : Nat → Prop) (hok : ∀ b, ok b → b < w.heap.size) (ao : Option Addr) (N cap : Nat) (ak : Option Addr) (nk ck : Nat) (a2 : Option Addr) (n2 c2 : Nat) (T : Tr) (h : Nat) (t : Tb h) (k to : Key)
    (ht : RT w ok (.agg #[.slice ao N cap, .int .i64 T.root]) T) (hr : Reps T h t) (hk : RB w ok' (.slice ak nk ck) k) (hk2 : RB w ok2 (.slice a2 n2 c2) to) (hN : T.pages.length ≤ 4000) (hs : Small T) (hkl : k.length ≤ 100) (hkl2 : to.length ≤ 100) (E : List (Key × Int)) (hE : E = (entT h t).filter fun e => !kl e.1 k) (hEl : E.length ≤ 1000000) :
    CallsIn Fence.wide 5 Try.prog 17 #[.agg #[.slice ao N cap, .int .i64 T.root], .slice ak nk ck, .slice a2 n2 c2] w (ScanIs (E.takeWhile (toOk to)) w) := by
  have hc := fun (W : World) (hB : Below w.heap.size w W) => check_any W ok (fun b hb' => by have := hok b hb'; have := hB.size; omega) _ T (ht.below hB) hs.1 hs.2
  unfold ChkIs at hc
  rw [chkT_yes hN (reps_pass hr)] at hc
  have HCH := Lib.hid hc
  have hnk : nk = k.length := by have := hk.sh; obtain ⟨a, c, e⟩ := this; simp only [Value.slice.injEq] at e; exact e.2.1
  have hn2 : n2 = to.length := by have := hk2.sh; obtain ⟨a, c, e⟩ := this; simp only [Value.slice.injEq] at e; exact e.2.1
  have hnk1 : (nk : Int) ≤ 100 := by omega
  have hnk2 : (n2 : Int) ≤ 100 := by omega
  have HT := Lib.hid (And.intro ht (And.intro hr (And.intro hk (And.intro hN (And.intro hE (And.intro hk2 (And.intro hn2 hEl)))))))
  clear hc ht hr hk hk2 hN hE hs hkl hkl2 hnk hn2 hEl
  refine callsIn_of_wp_marks Try.func17 rfl trivial ?_ rfl
  simp only [Try.ntmps17, List.size_toArray, List.length_cons, List.length_nil, Nat.reduceAdd, Nat.reduceSub, Array.replicate_succ, Array.replicate_zero, List.push_toArray, List.append_toArray, List.nil_append, List.cons_append]
  have hf1 : Fence.wide.fn 33 := trivial
  have hf2 : Fence.wide.fn 36 := trivial
  gi_wp2_with fail
  obtain ⟨W0, hW0⟩ : ∃ W0 : World, W0 = ((w.alloc (.cells #[.slice ao N cap, .int .i64 T.root] 24)).alloc (.cells #[.slice a2 n2 c2] 25)) := ⟨_, rfl⟩
  rw [← hW0]
  have hb0 : Below w.heap.size w W0 := by rw [hW0]; go_grown
  have hx0 : W0.cell? ⟨w.heap.size, 0, none⟩ = some (.slice ao N cap) := by rw [hW0]; go_simp
  have hx1 : W0.cell? ⟨w.heap.size, 1, none⟩ = some (.int .i64 T.root) := by rw [hW0]; go_simp
  have hx2 : W0.heap[w.heap.size + 1]? = some (Obj.cells #[.slice a2 n2 c2] 25 (0, 0)) := by rw [hW0]; exact new_b2 w _ _
  have hz0 : W0.heap.size = w.heap.size + 2 := by rw [hW0]; simp
  clear hW0
  refine (callsIn_wide.2 (HCH.out W0 hb0)).mono ?_
  rintro e w1 ⟨rfl, hb1⟩
  have y0 := cell_of_below hb1 hx0
  have y1 := cell_of_below hb1 hx1
  have y2 := (hb1.block _ (Array.getElem?_eq_some_iff.1 hx2).1).trans hx2
  have y2c := box1 y2
  have hbw := hb0.trans (hb1.mono hb0.size)
  have hz1 := hb1.size
  have HB1 := Lib.hid hbw
  clear hx0 hx1 hx2 hb0 hb1 hbw
  have y0' := cell_al (Obj.cells #[.slice none 0 0] 27 (0, 0)) y0
  have y1' := cell_al (Obj.cells #[.slice none 0 0] 27 (0, 0)) y1
  gi_wp2_with (gi_at_call 36; refine (entries_in _ _ _ _ _ _ _ _ _).mono ?_; rintro e w' ⟨rfl, rfl⟩)
  obtain ⟨W2, hW2⟩ : ∃ W2 : World, W2 = ((w1.alloc (.cells #[.slice none 0 0] 27)).alloc (.cells #[.slice ao N cap, .int .i64 T.root] 24)).alloc (.cells #[.slice ak nk ck] 25) := ⟨_, rfl⟩
  rw [← hW2]
  have hb2 : Below w1.heap.size w1 W2 := by rw [hW2]; go_grown
  have hbl : W2.heap[w1.heap.size]? = some (.cells #[.slice none 0 0] 27 (0, 0)) := by rw [hW2]; exact (Below.heap_alloc _ _ _ (by simp; omega)).trans (new_a2 w1 _ _)
  have hbt : W2.heap[w1.heap.size + 1]? = some (.cells #[.slice ao N cap, .int .i64 T.root] 24 (0, 0)) := by rw [hW2]; have q := new_a2 (w1.alloc (.cells #[.slice none 0 0] 27)) (.cells #[.slice ao N cap, .int .i64 T.root] 24) (.cells #[.slice ak nk ck] 25); rwa [World.size_alloc] at q
  have hbk : W2.heap[w1.heap.size + 1 + 1]? = some (.cells #[.slice ak nk ck] 25 (0, 0)) := by rw [hW2]; have q := new_b2 (w1.alloc (.cells #[.slice none 0 0] 27)) (.cells #[.slice ao N cap, .int .i64 T.root] 24) (.cells #[.slice ak nk ck] 25); rwa [World.size_alloc] at q
  have x2 := (hb2.block _ (Array.getElem?_eq_some_iff.1 y2).1).trans y2
  have hbw2 : Below w.heap.size w W2 := into HB1.out hb2
  have hz2 := hb2.size
  obtain ⟨Bl, hBl⟩ : ∃ x, x = w1.heap.size := ⟨_, rfl⟩
  obtain ⟨Bt, hBt⟩ : ∃ x, x = w1.heap.size + 1 := ⟨_, rfl⟩
  obtain ⟨Bk, hBk⟩ : ∃ x, x = w1.heap.size + 1 + 1 := ⟨_, rfl⟩
  rw [← hBk] at hbk ⊢
  rw [← hBt] at hbt ⊢
  rw [← hBl] at hbl ⊢
  obtain ⟨a1, a2', a3, a4, a5, a6, a7, a8⟩ := HT.out
  have HW2 := Lib.hid hbw2
  have hBlw : w.heap.size + 2 ≤ Bl := by omega
  have hBlW : Bl < W2.heap.size := (Array.getElem?_eq_some_iff.1 hbl).1
  clear hBl hz2
  clear hW2 hb2 y0 y1 y2 y2c y0' y1' hBt hBk hz1 hz0
  refine rf_law (α := EntX) rfl (by omega) (gf := 61) (lb := #[.pointer (some ⟨Bt, 0, none⟩), .pointer (some ⟨Bk, 0, none⟩)]) rfl trivial (enters_of Try.func61 (by kernel_rfl) rfl) (encs := encE)
    (ents_hands 4 Bt Bk (by omega) w W2 ok ok' hok ao N cap ak nk ck T h t k a1 a2' a3 a4 E a5 hbw2 hbt hbk) (fun h g => h.trans g) (fun W l o o' hl ho hc hw => KpE.obj (w := W2) hbw2.size W l o o' hl ho hc hw) (Below.refl _ _) (fun _ => rfl)
    (fun pre W => ((∀ x ∈ pre, toOk to x.2 = true) ∧ pre.map (·.2) = E.take pre.length ∧ W.heap[w.heap.size + 1]? = some (Obj.cells #[.slice a2 n2 c2] 25 (0, 0)) ∧ Bl < W.heap.size ∧ ∃ v cs, W.heap[Bl]? = some (Obj.cells #[v] 27 (0, 0)) ∧ W.ownsRow w.heap.size 36 2 v pre.length cs ∧ EntC W (KeyOn w.heap.size W v) cs (pre.map (·.2)) ∧ (pre = [] → v = .slice none 0 0)) ∧ Below w.heap.size w W)
    (fun c pre W => (c = .exit 1 ∧ ∃ p v cs, E.takeWhile (toOk to) = p ∧ W.heap[Bl]? = some (Obj.cells #[v] 27 (0, 0)) ∧ W.ownsRow w.heap.size 36 2 v p.length cs ∧ EntC W (KeyOn w.heap.size W v) cs p ∧ (p = [] → v = .slice none 0 0)) ∧ Below w.heap.size w W)
    ?hI ?hIx
    ⟨⟨by simp, by simp, x2, hBlW, .slice none 0 0, [], hbl, World.ownsRow_nil _ _ _ _, trivial, fun _ => rfl⟩, hbw2⟩
    (fun pre x a' W => ∃ Bx, w.heap.size ≤ Bx ∧ Bx < W.heap.size ∧ W.cell? ⟨Bx, 0, none⟩ = some x.1 ∧ W.cell? ⟨Bx, 1, none⟩ = some (.int .i64 x.2.2) ∧ E[pre.length]? = some x.2 ∧ W.ownsRow w.heap.size 5 1 x.1 x.2.1.length (bc x.2.1) ∧ a' = { tmps := #[Value.agg #[Value.slice ao N cap, Value.int IntKind.i64 T.root], Value.slice ak nk ck, Value.slice a2 n2 c2, Value.pointer (some ⟨w.heap.size, 0, none⟩), undef, Value.pointer (some ⟨w.heap.size + 1, 0, none⟩), Value.slice none 0 0, Value.int IntKind.i64 0, Value.pointer (some ⟨Bl, 0, none⟩), Value.pointer (some ⟨Bx, 0, none⟩), Value.bool false, Value.agg #[Value.slice ao N cap, Value.int IntKind.i64 T.root], Value.int IntKind.i64 0, Value.bool false, Value.bool (decide ((100 : Int) < (nk : Int)) || decide ((100 : Int) < (n2 : Int))), Value.slice ak nk ck, Value.int IntKind.i64 (nk : Int), Value.bool (decide ((100 : Int) < (nk : Int))), Value.bool (decide ((100 : Int) < (nk : Int))), Value.slice a2 n2 c2, Value.int IntKind.i64 (n2 : Int), Value.bool (decide ((100 : Int) < (n2 : Int))), Value.bool (decide ((100 : Int) < (nk : Int)) || decide ((100 : Int) < (n2 : Int))), Value.agg #[Value.slice ao N cap, Value.int IntKind.i64 T.root], Value.slice ak nk ck, Value.func (Fn.func 61) #[] #[Value.pointer (some ⟨Bt, 0, none⟩), Value.pointer (some ⟨Bk, 0, none⟩)], Value.agg #[x.1, Value.int IntKind.i64 x.2.2], undef, undef, undef, undef, undef, undef, undef, undef, undef, undef, undef, undef, undef, undef, undef], defers := [] })
    ?ax ?assign ?body ?done ?stop
  case hI =>
    refine OwnFrom.and (Own.from (fun s A B row hs hg hr => ?_) _) (ownFrom_below (Nat.le_refl _) hbw2.size)
    obtain ⟨q1, q2, q3, q4, vv, cs, q5, q6, q7, q8⟩ := hs
    exact ⟨q1, q2, (grownBy_keeps_cells hg hr q3 rfl).trans q3, Nat.lt_of_lt_of_le q4 hg.size, vv, cs, (grownBy_keeps_cells hg hr q5 rfl).trans q5, own_kept q6 hg hr, q7.kept hg hr, q8⟩
  case hIx =>
    refine fun c => OwnFrom.and (Own.from (fun s A B row hs hg hr => ?_) _) (ownFrom_below (Nat.le_refl _) hbw2.size)
    obtain ⟨q0, p, vv, cs, q1, q5, q6, q7, q8⟩ := hs
    exact ⟨q0, p, vv, cs, q1, (grownBy_keeps_cells hg hr q5 rfl).trans q5, own_kept q6 hg hr, q7.kept hg hr, q8⟩
  case ax =>
    rintro pre x a' s A B row ⟨Bx, h1, h2, h3, h4, h5, h6, h7⟩ hg hr
    exact ⟨Bx, h1, by have := hg.size; omega, cell_kept h3 hg (fun r e => (hr r e).2), cell_kept h4 hg (fun r e => (hr r e).2), h5, own_kept h6 hg (fun r e => (hr r e).2), h7⟩
  case assign =>
    rintro l pre x W K ⟨⟨q1, q2, q3, q4, vv, cs, q5, q6, q7, q8⟩, hB⟩ ⟨hG1, hG2⟩ hK
    clear a1 a2' a3 a4 a5 a6 a7 a8
    obtain ⟨xv, xk, xr⟩ := x
    simp only at hG1 hG2
    have HO := Lib.hid hG2
    obtain ⟨xn, hxn⟩ : ∃ n, n = xk.length := ⟨_, rfl⟩
    rw [← hxn] at hG2
    obtain ⟨_, xa, xc, rfl, -⟩ := Rd.own hG2
    clear hG2
    have HXN := Lib.hid hxn
    clear hxn
    unfold encE
    gi_wp2_with fail
    exact hK _ _ ((KeepsOthers.alloc _ _).from _) (KpE.of_below ((Below.refl _ W).alloc (Nat.le_refl _) _) hB.size) ⟨⟨q1, q2, (Below.heap_alloc _ _ _ (Array.getElem?_eq_some_iff.1 q3).1).trans q3, by simp; omega, vv, cs, (Below.heap_alloc _ _ _ q4).trans q5, own_below q6 ((Below.refl _ W).alloc (Nat.le_refl _) _), q7.below2 ((Below.refl _ W).alloc (Nat.le_refl _) _), q8⟩, hB.alloc hB.size _⟩
      ⟨W.heap.size, hB.size, by simp, by simp, by simp, hG1, own_below HO.out ((Below.refl _ W).alloc (Nat.le_refl _) _), rfl⟩
  case body =>
    rintro l pre x a' W hl hlW ⟨⟨q1, q2, q3, q4, vv, cs, q5, q6, q7, q8⟩, hB⟩ ⟨Bx, b1, b2, b3, b4, b5, b6, rfl⟩
    obtain ⟨xv, xk, xr⟩ := x
    simp only at b3 b4 b5 b6
    clear a1 a2' a3 a4 a5 a6 a7 a8
    obtain ⟨xn, hxn⟩ : ∃ n, n = xk.length := ⟨_, rfl⟩
    have hcm' := fun (ha : Rd W 1 xk.length xv (bc xk)) => cmp_any W xv (.slice a2 n2 c2) xk to ha (by have q := (HT.out.2.2.2.2.2.1.below hB).1; exact q)
    have hcm := hcm' (Rd.own b6)
    have hpl : pre.length < E.length := (List.getElem?_eq_some_iff.1 b5).1
    have hEl := HT.out.2.2.2.2.2.2.2
    have hn2 := HT.out.2.2.2.2.2.2.1
    have HOX := Lib.hid b6
    have b6' := b6
    rw [← hxn] at b6'
    obtain ⟨_, xa, xc, rfl, -⟩ := Rd.own b6'
    have HOW := Lib.hid q6
    obtain ⟨_, va, vc, rfl, -⟩ := Rd.own q6
    have HXN := Lib.hid hxn
    have HE := Lib.hid q7
    have HB := Lib.hid hB
    have hBs := hB.size
    have z3 := box1 q3
    obtain ⟨c, hc⟩ : ∃ c, c = cmpK xk to := ⟨_, rfl⟩
    have hcg := cmpK_gt xk to
    rw [← hc] at hcm hcg
    have HCM := Lib.hid hcm
    have u0 := box1 q5
    have f0 : W.frozen? ⟨Bl, 0, none⟩ = false := by simp [World.frozen?, q5]
    have hf6 : Fence.wide.fn 37 := trivial
    have hf5 : (Fence.wide.inRound l).fn 37 := trivial
    have htk : toOk to (xk, xr) = (to.isEmpty || !kl to xk) := rfl
    clear b6 b6' hxn hcm hcm' hc q6 q7
    by_cases h0 : (0 : Int) < (n2 : Int)
    · have hne : to.isEmpty = false := by rcases to with _ | ⟨a, r⟩; (simp at hn2; omega); rfl
      by_cases hcc : 0 < c
      · have hno : toOk to (xk, xr) = false := by rw [htk, hne, hcg.1 hcc]; rfl
        have HTK := Lib.hid hno
        clear hno htk hne hcg hn2
        gi_wp2_with (gi_at_call 37; refine (CallsIn.inRound _ (callsIn_wide.2 HCM.out)).mono ?_; rintro e w' ⟨rfl, rfl⟩)
        have hp := scan_stop (n := pre.length) (to := to) (fun x hx => by rw [← q2] at hx; obtain ⟨y, hy, rfl⟩ := List.mem_map.1 hx; exact q1 y hy) b5 HTK.out
        rw [← q2] at hp
        exact ⟨keeps_below (Below.refl _ _), ⟨rfl, _, _, cs, hp, q5, by rw [List.length_map]; exact HOW.out, HE.out, fun h => q8 (by simpa using h)⟩, HB.out⟩
      · have hyes : toOk to (xk, xr) = true := by rw [htk, hne]; have : ¬ kl to xk = true := fun h => hcc (hcg.2 h); simp [this]
        have HTK := Lib.hid hyes
        clear hyes htk hne hcg hn2
        gi_wp2_with (first | (gi_at_call 37; refine (CallsIn.inRound _ (callsIn_wide.2 HCM.out)).mono ?_; rintro e w' ⟨rfl, rfl⟩) | (gi_at_builtin; refine apxIn W 1 rfl _ _ 27 36 _ 2 32 Try.underlying27 Try.info36 rfl (by omega) rfl HOW.out hBs (by omega) (by unfold maxLen; omega) [.slice xa xn xc, .int .i64 xr] rfl (by intro u hu; simp at hu; rcases hu with rfl | rfl <;> rfl) W.heap.size rfl rfl rfl ?_))
        intro v4 w4 hown4 hb4 hg4 hat4
        have hx4 := (hg4.block Bl q4 (fun e => by obtain ⟨cur, sp, hc⟩ := own_ty HOW.out e.symm; rw [q5] at hc; simp at hc)).trans q5
        have z4 := box1 hx4
        have f4 : w4.frozen? ⟨Bl, 0, none⟩ = false := by simp [World.frozen?, hx4]
        obtain ⟨_, a4, c4, rfl, -⟩ := Rd.own hown4; have HB4 := Lib.hid hb4; have HX4 := Lib.hid hx4; have HO4 := Lib.hid (And.intro hown4 (And.intro hg4 hat4)); clear hb4 hx4 hown4 hg4 hat4
        gi_wp2_with fail
        exact scan_put hBlw HB.out HOW.out HOX.out HO4.out.1 HB4.out HO4.out.2.1 HO4.out.2.2 HX4.out q1 q2 q3 q4 HE.out b5 HTK.out
    · have hne : to.isEmpty = true := by rcases to with _ | ⟨a, r⟩; rfl; (simp at hn2; omega)
      have hyes : toOk to (xk, xr) = true := by rw [htk, hne]; rfl
      have HTK := Lib.hid hyes
      clear hyes htk hne hcg hn2
      gi_wp2_with (gi_at_builtin; refine apxIn W 1 rfl _ _ 27 36 _ 2 32 Try.underlying27 Try.info36 rfl (by omega) rfl HOW.out hBs (by omega) (by unfold maxLen; omega) [.slice xa xn xc, .int .i64 xr] rfl (by intro u hu; simp at hu; rcases hu with rfl | rfl <;> rfl) W.heap.size rfl rfl rfl ?_)
      intro v4 w4 hown4 hb4 hg4 hat4
      have hx4 := (hg4.block Bl q4 (fun e => by obtain ⟨cur, sp, hc⟩ := own_ty HOW.out e.symm; rw [q5] at hc; simp at hc)).trans q5
      have z4 := box1 hx4
      have f4 : w4.frozen? ⟨Bl, 0, none⟩ = false := by simp [World.frozen?, hx4]
      obtain ⟨_, a4, c4, rfl, -⟩ := Rd.own hown4; have HB4 := Lib.hid hb4; have HX4 := Lib.hid hx4; have HO4 := Lib.hid (And.intro hown4 (And.intro hg4 hat4)); clear hb4 hx4 hown4 hg4 hat4
      gi_wp2_with fail
      exact scan_put hBlw HB.out HOW.out HOX.out HO4.out.1 HB4.out HO4.out.2.1 HO4.out.2.2 HX4.out q1 q2 q3 q4 HE.out b5 HTK.out
  case done =>
    rintro D xs W hD hS ⟨⟨q1, q2, q3, q4, vv, cs, q5, q6, q7, q8⟩, hB⟩ hK
    clear a1 a2' a3 a4 a5 a6 a7 a8
    have hxl : xs.length = E.length := by rw [← hS, List.length_map]
    have hall := scan_all (to := to) (E := E) (fun x hx => by rw [← hS] at hx; obtain ⟨y, hy, rfl⟩ := List.mem_map.1 hx; exact q1 y hy)
    obtain ⟨_, va, vc, rfl, -⟩ := Rd.own q6
    have u0 := box1 q5
    have HQ := Lib.hid (And.intro q6 (And.intro q7 q8))
    have HA := Lib.hid (And.intro hxl (And.intro hall hS))
    clear q1 q2 q6 q7 q8 hxl hall hS
    gi_wp2_with fail
    refine ⟨by simp, .inl ⟨_, _, rfl, run_takeDeferred hK, ?_⟩⟩
    have hkg := grownBy_putObj' W D (.deferred none)
    have hkr : ∀ r, some D = some r → ∃ o : Obj, W.heap[r]? = some o ∧ o.isCells = false := fun r e => by cases e; exact ⟨_, hK, rfl⟩
    refine ⟨.tuple #[.slice va xs.length vc, .int .i64 0], by simp [results, Try.f17, go_sem], _, cs, rfl, ?_, ?_, hB.trans (belowK_b (w := w) (Nat.le_refl _) W D _ _ (by have := hbw2.size; omega) hK rfl rfl), ?_⟩
    · rw [HA.out.2.1, ← HA.out.1]
      exact own_kept HQ.out.1 hkg hkr
    · rw [HA.out.2.1, ← HA.out.2.2]
      exact HQ.out.2.1.kept hkg hkr
    · intro h
      rw [HA.out.2.1] at h
      refine HQ.out.2.2 (List.eq_nil_of_length_eq_zero ?_)
      rw [HA.out.1, h]
      rfl
  case stop =>
    clear a1 a2' a3 a4 a5 a6 a7 a8
    rintro D c pre W hD - ⟨⟨rfl, p, vv, cs, q1, q5, q6, q7, q8⟩, hB⟩ hK
    obtain ⟨_, va, vc, rfl, -⟩ := Rd.own q6
    have u0 := box1 q5
    have HQ := Lib.hid (And.intro q6 (And.intro q7 q8))
    clear q6 q7 q8
    gi_wp2_with fail
    refine ⟨by simp, .inl ⟨_, _, rfl, run_takeDeferred hK, ?_⟩⟩
    have hkg := grownBy_putObj' W D (.deferred none)
    have hkr : ∀ r, some D = some r → ∃ o : Obj, W.heap[r]? = some o ∧ o.isCells = false := fun r e => by cases e; exact ⟨_, hK, rfl⟩
    refine ⟨.tuple #[.slice va p.length vc, .int .i64 0], by simp [results, Try.f17, go_sem], _, cs, rfl, ?_, ?_, hB.trans (belowK_b (w := w) (Nat.le_refl _) W D _ _ (by have := hbw2.size; omega) hK rfl rfl), ?_⟩
    · rw [q1]; exact own_kept HQ.out.1 hkg hkr
    · rw [q1]; exact HQ.out.2.1.kept hkg hkr
    · rw [q1]; exact HQ.out.2.2
end Go.Proofs.Ytacpeibkamfibaa
