import Derived.Test.YtdeollmeljaaoaaDoorCjk
import Derived.Test.YtdeollmeljaaoaaDoorAyk
import Derived.Test.YtdeollmeljaaoaaDoorAzk
set_option linter.unusedVariables false
set_option linter.unusedSimpArgs false
set_option maxHeartbeats 4000000
set_option maxRecDepth 100000
open Go.ChangeAt Go.ChangeShapes Go.Joins Go.RowKit Go.WideShapes
open Go.Lib (hid)
namespace Go.Proofs.YtdeollmeljaaoaaDoor.rd
open Go.Proofs.YtdeollmeljaaoaaDoor.cs
theorem stk_keep (m : Nat) (v v' : Value) (l : List Tk) (w : World) (hr : Rd w 3 m v (tkc l)) (hr' : Rd w 3 m v' (tkc l)) :
  Calls Tryd.prog 31 #[v, v'] w fun e w' => e = .returned (.bool true) ∧ Below w.heap.size w w' := by
 have hml := len_t hr
 subst hml
 have hmax := hr.len
 unfold maxLen at hmax
 by_cases h0 : l.length = 0
 ·have hl0 : l = [] := List.eq_nil_of_length_eq_zero h0
  subst hl0
  obtain ⟨_, ao, cap, rfl, _⟩ := hr.zero
  obtain ⟨_, ao', cap', rfl, _⟩ := hr'.zero
  go_enter Tryd.func31, Tryd.ntmps31
  go_wp2
  go_rounds 1
  go_ret
  exact ⟨rfl, Below.refl _ _⟩
 ·obtain ⟨_, b, o, cap, rfl, _, _, hbw, hcell⟩ := toks_of hr (by omega)
  obtain ⟨_, b', o', cap', rfl, _, _, hbw', hcell'⟩ := toks_of hr' (by omega)
  obtain ⟨n, hn⟩ : ∃ n, n = l.length := ⟨_, rfl⟩
  rw [← hn] at h0 hcell hcell' hmax ⊢
  have HC := hid hcell
  have HC' := hid hcell'
  clear hcell hcell' hr hr' hn
  go_enter Tryd.func31, Tryd.ntmps31
  go_wp2
  go_loopw [5] (fun i wr => ∃ k : Nat, k ≤ n ∧ i = .int .i64 (k : Int) ∧ Below w.heap.size w wr) (fun i _ => n - (intOf i).toNat)
  case atStart => exact ⟨0, by omega, rfl, Below.refl _ _⟩
  case round =>
   obtain ⟨k, hk, rfl, hb⟩ := hrel
   by_cases hlt : k < n
   ·obtain ⟨g1, g2, g3⟩ := HC.out k hlt
    obtain ⟨g1', g2', g3'⟩ := HC'.out k hlt
    have c1 := (hb.cell (p := ⟨b, o + k * 3, none⟩) hbw).trans g1
    have c2 := (hb.cell (p := ⟨b, o + k * 3 + 1, none⟩) hbw).trans g2
    have c3 := (hb.cell (p := ⟨b, o + k * 3 + 2, none⟩) hbw).trans g3
    have c1' := (hb.cell (p := ⟨b', o' + k * 3, none⟩) hbw').trans g1'
    have c2' := (hb.cell (p := ⟨b', o' + k * 3 + 1, none⟩) hbw').trans g2'
    have c3' := (hb.cell (p := ⟨b', o' + k * 3 + 2, none⟩) hbw').trans g3'
    obtain ⟨u, hu⟩ : ∃ u, u = l.getD k tk0 := ⟨_, rfl⟩
    rw [← hu] at c1 c2 c3 c1' c2' c3'
    clear g1 g2 g3 g1' g2' g3' hu
    obtain ⟨uk, ut, un⟩ := u
    simp only at c1 c2 c3 c1' c2' c3'
    obtain ⟨us, hus⟩ : ∃ us : ByteArray, us = ⟨ut.toArray⟩ := ⟨_, rfl⟩
    rw [← hus] at c2 c2'
    clear hus
    go_wp2_with fail
    go_quiet (fail)
    go_wp2_with fail
    go_roundw
    case rel => exact ⟨k + 1, by omega, by go_num, hb.trans ((below_drewN _ _).mono hb.size)⟩
    case measure => simp [intOf]; omega
   ·obtain rfl : k = n := by omega
    go_wp2_with fail
    go_ret
    exact ⟨rfl, hb⟩
theorem same_any (W : World) (hT : Tby W) (s : Sq) (p p' : Ps) (hr : StR W s p) (hr' : StR W s p') (h0 : stF s = 0) (hz : SqZ s) (hs : SqS s) :
  Calls Tryd.prog 13 #[stV s p, stV s p'] W fun e w' => e = .returned (.bool true) ∧ Below W.heap.size W w' := by
 obtain ⟨L, hL'⟩ : ∃ L, L = shT s := ⟨_, rfl⟩
 obtain ⟨n, hn⟩ : ∃ n, n = L.length := ⟨_, rfl⟩
 have HSW : Hid (∀ w q, Below W.heap.size W w → StR W s q → Calls Tryd.prog 10 #[stV s q] w fun e w' => ∃ v, e = .returned (.tuple #[v, .int .i64 0]) ∧ w'.ownsRow w.heap.size 45 3 v n (tkc L) ∧ Below w.heap.size w w') := fun w q hb h => by
  have := Show_any w (hT.p.below hb) s q (h.below hb) hz hs
  rw [h0, if_pos rfl, ← hL', ← hn] at this
  exact this
 have HTK : Hid (∀ w v v', Rd w 3 n v (tkc L) → Rd w 3 n v' (tkc L) → Calls Tryd.prog 31 #[v, v'] w fun e w' => e = .returned (.bool true) ∧ Below w.heap.size w w') := fun w v v' h h' => stk_keep n v v' L w h h'
 have HNEW : Hid (∀ W0, W0 = (W.alloc (.cells (stC s p) 33)).alloc (.cells (stC s p') 33) → Below W.heap.size W W0 ∧ W0.heap[W.heap.size]? = some (.cells (stC s p) 33 (0, 0)) ∧ W0.heap[W.heap.size + 1]? = some (.cells (stC s p') 33 (0, 0))) := fun W0 h => by
  rw [h]
  exact ⟨((Below.refl _ _).alloc (Nat.le_refl _) _).alloc (by simp) _, (Below.heap_alloc _ _ _ (by simp)).trans (new0 _ _), new1 _ _ _⟩
 obtain ⟨l2, l3, l4, l6, l11⟩ := hr.lens
 obtain ⟨l2', l3', l4', l6', l11'⟩ := hr'.lens
 have e3 : Hid (p'.n3 = p.n3) := l3'.trans l3.symm
 have e6 : Hid (p'.n6 = p.n6) := l6'.trans l6.symm
 have HR := hid (And.intro hr hr')
 clear hL' hn hr hr' hT h0 hz hs l2 l3 l4 l6 l11 l2' l3' l4' l6' l11'
 obtain ⟨k, t, cols, row, names, cnt, wh, ord, dn, lim, st_, to_⟩ := s
 obtain ⟨a2, n2, c2, a3, n3, c3, a4, n4, c4, a6, n6, c6, a11, n11, c11⟩ := p
 obtain ⟨a2', n2', c2', a3', n3', c3', a4', n4', c4', a6', n6', c6', a11', n11', c11'⟩ := p'
 obtain rfl : n3' = n3 := e3.out
 obtain rfl : n6' = n6 := e6.out
 clear e3 e6
 go_enter Tryd.func13, Tryd.ntmps13
 go_wp2_with fail
 refine calls_nm (fun W0 hW => ?_)
 obtain ⟨hb0, hp0, hq0⟩ := HNEW.out W0 hW
 have HB0 := hid hb0
 have HP := hid (And.intro hp0 hq0)
 clear hW hb0 hp0 hq0 HNEW
 refine (HSW.out W0 _ HB0.out HR.out.1).mono ?_
 rintro e w1 ⟨v1, rfl, ho1, hb1⟩
 obtain ⟨x0, x1, x2, x3, x4, x5, x6, x7, x8, x9, x10, x11, -⟩ := box12 ((hb1.block _ (blk_lt HP.out.2)).trans HP.out.2)
 have HB1 := hid (into HB0.out hb1)
 have HO1 := hid ho1
 have HL1 := hid hb1
 clear ho1 hb1
 go_wp2_with fail
 refine (HSW.out w1 _ HB1.out HR.out.2).mono ?_
 rintro e w2 ⟨v2, rfl, ho2, hb2⟩
 have HL2 := hid (into HL1.out hb2)
 clear x0 x1 x2 x3 x4 x5 x6 x7 x8 x9 x10 x11
 obtain ⟨x0, x1, x2, x3, x4, x5, x6, x7, x8, x9, x10, x11, -⟩ := box12 ((HL2.out.block _ (blk_lt HP.out.1)).trans HP.out.1)
 obtain ⟨y0, y1, y2, y3, y4, y5, y6, y7, y8, y9, y10, y11, -⟩ := box12 ((HL2.out.block _ (blk_lt HP.out.2)).trans HP.out.2)
 have HB2 := hid (into HB1.out hb2)
 have HK := hid (HTK.out w2 v1 v2 ((Rd.own HO1.out).below hb2) (Rd.own ho2))
 clear ho2 hb2
 go_wp2_with fail
 refine HK.out.mono ?_
 rintro e w3 ⟨rfl, hb3⟩
 have HB3 := hid (into HB2.out hb3)
 clear hb3
 go_wp2_with fail
 go_returns
 exact ⟨rfl, HB3.out⟩
open Go.Proofs.YtdeollmeljaaoaaDoor.cs
theorem k_nm {p : Act → World → Prop} {a : Act} {w : World} (h : ∀ W, W = w → p a W) : p a w := h w rfl
theorem al_below {w W : World} {o : Obj} (h : W = w.alloc o) : Below w.heap.size w W := by rw [h]; exact (Below.refl _ _).alloc (Nat.le_refl _) _
theorem al_new {w W : World} {cs : Array Value} {T : TypeId} (h : W = w.alloc (.cells cs T)) : W.heap[w.heap.size]? = some (.cells cs T (0, 0)) := by rw [h]; exact new0 _ _
theorem rd_blk {w : World} {b n s : Nat} {xs : List Value} {T : TypeId} (h : w.heap[b]? = some (.cells xs.toArray T (0, 0))) (hl : xs.length = n * s) (hn : n ≤ 1000) : Rd w s n (.slice (some ⟨b, 0, none⟩) n n) xs := by
 refine ⟨hl, _, _, rfl, Nat.le_refl _, by unfold maxLen; omega, fun h => (by cases h), fun x hx j u hu => ?_⟩
 obtain rfl := Option.some.inj hx
 rw [Addr.add_lit]
 simp only [World.cell?]
 rw [h]
 simpa using hu
section
variable {ops : Array Oper} {o : Oper} {a : Act} {K : Act → World → Prop} {Q : Exit → Act → World → Prop} {E : Prop} {w : World}
end
def Tri (x : Int) (X : Nat) (w0 w : World) : Prop :=
 w.cell? ⟨X, 0, none⟩ = some (.int .i64 2) ∧ w.cell? ⟨X, 1, none⟩ = some (.string ⟨#[]⟩) ∧ w.cell? ⟨X, 2, none⟩ = some (.int .i64 x) ∧
 w.cell? ⟨X + 1, 0, none⟩ = some (.int .i64 4) ∧ w.cell? ⟨X + 1, 1, none⟩ = some (.string ⟨#[45]⟩) ∧ w.cell? ⟨X + 1, 2, none⟩ = some (.int .i64 0) ∧ Below w0.heap.size w0 w
theorem Tri.step {x : Int} {X : Nat} {w0 w w' : World} (h : Tri x X w0 w0) (h' : Tri x X w0 w) (hb : Below w0.heap.size w w') : Tri x X w0 w' := by
 obtain ⟨a0, a1, a2, a3, a4, a5, -⟩ := h
 have hb0 := h'.2.2.2.2.2.2.trans hb
 exact ⟨(hb0.cell (lt_cell a0)).trans a0, (hb0.cell (lt_cell a1)).trans a1, (hb0.cell (lt_cell a2)).trans a2, (hb0.cell (lt_cell a3)).trans a3, (hb0.cell (lt_cell a4)).trans a4, (hb0.cell (lt_cell a5)).trans a5, hb0⟩
theorem Tri.go {x : Int} {X : Nat} {w0 w w' : World} (h : Tri x X w0 w0) (h' : Tri x X w0 w) (hb : Below w.heap.size w w') : Tri x X w0 w' := h.step h' (hb.mono h'.2.2.2.2.2.2.size)
theorem st12b {w W : World} {B : Nat} {x0 x1 x2 x3 x4 x5 x6 x7 x8 x9 x10 x11 : Value} {T : TypeId} (h : w.heap[B]? = some (.cells #[x0, x1, x2, x3, x4, x5, x6, x7, x8, x9, x10, x11] T (0, 0))) (y0 y1 y2 y3 y4 y5 y6 y7 y8 y9 y10 y11 : Value)
  (hW : W = (World.setCell (World.setCell (World.setCell (World.setCell (World.setCell (World.setCell (World.setCell (World.setCell (World.setCell (World.setCell (World.setCell (World.setCell w ⟨B, 0, none⟩ y0) ⟨B, 1, none⟩ y1) ⟨B, 2, none⟩ y2) ⟨B, 3, none⟩ y3) ⟨B, 4, none⟩ y4) ⟨B, 5, none⟩ y5) ⟨B, 6, none⟩ y6) ⟨B, 7, none⟩ y7) ⟨B, 8, none⟩ y8) ⟨B, 9, none⟩ y9) ⟨B, 10, none⟩ y10) ⟨B, 11, none⟩ y11)) :
  Below B w W ∧ W.heap[B]? = some (.cells #[y0, y1, y2, y3, y4, y5, y6, y7, y8, y9, y10, y11] T (0, 0)) ∧ ∀ k, k ≠ B → W.heap[k]? = w.heap[k]? := by
 have h0 := Lib.heap_setCell_same (i := 0) h y0
 have h1 := Lib.heap_setCell_same (i := 1) h0 y1
 have h2 := Lib.heap_setCell_same (i := 2) h1 y2
 have h3 := Lib.heap_setCell_same (i := 3) h2 y3
 have h4 := Lib.heap_setCell_same (i := 4) h3 y4
 have h5 := Lib.heap_setCell_same (i := 5) h4 y5
 have h6 := Lib.heap_setCell_same (i := 6) h5 y6
 have h7 := Lib.heap_setCell_same (i := 7) h6 y7
 have h8 := Lib.heap_setCell_same (i := 8) h7 y8
 have h9 := Lib.heap_setCell_same (i := 9) h8 y9
 have h10 := Lib.heap_setCell_same (i := 10) h9 y10
 have h11 := Lib.heap_setCell_same (i := 11) h10 y11
 refine ⟨?_, by rw [hW]; simpa using h11, fun k hk => ?_⟩
 ·rw [hW]
  exact ((((((((((((Below.refl B w).setCell (p := ⟨B, 0, none⟩) (Nat.le_refl _) _).setCell (p := ⟨B, 1, none⟩) (Nat.le_refl _) _).setCell (p := ⟨B, 2, none⟩) (Nat.le_refl _) _).setCell (p := ⟨B, 3, none⟩) (Nat.le_refl _) _).setCell (p := ⟨B, 4, none⟩) (Nat.le_refl _) _).setCell (p := ⟨B, 5, none⟩) (Nat.le_refl _) _).setCell (p := ⟨B, 6, none⟩) (Nat.le_refl _) _).setCell (p := ⟨B, 7, none⟩) (Nat.le_refl _) _).setCell (p := ⟨B, 8, none⟩) (Nat.le_refl _) _).setCell (p := ⟨B, 9, none⟩) (Nat.le_refl _) _).setCell (p := ⟨B, 10, none⟩) (Nat.le_refl _) _).setCell (p := ⟨B, 11, none⟩) (Nat.le_refl _) _
 ·rw [hW]
  iterate 12 rw [Below.heap_setCell _ _ _ _ hk]
theorem wpT_begin2 {P : Program} {ops : Array Oper} {Q : Exit → Act → World → Prop} {S : World → Prop} (L : List Nat) {id : Nat} {a : Act} {w : World} (hm : P.follows .mixedOrders = true) (hS : S w.drew)
  (h : ∀ W : World, S W → wpAnyT P .any ops Q S L ops.size (Array.replicate ops.size false) a W) : (Code.region id ops true).wp P Q a w := wpT_begin L hm hS (h _)
theorem StO.box {w w' : World} {E A : Nat} {s : Sq} {p : Ps} {cs : Array Value} (h : StO w E s p) (hA : w.heap[A]? = some (.cells cs 33 (0, 0))) (hk : ∀ k, k ≠ A → w'.heap[k]? = w.heap[k]?) : StO w' E s p := by
 have go : ∀ {e z n : Nat} {v : Value} {xs : List Value}, e ≠ 33 → w.ownsRow E e z v n xs → w'.ownsRow E e z v n xs := fun {e z n v xs} he ho => own_far ho fun g hg => hk g fun eg => by
  obtain ⟨cur, sp, hc⟩ := own_tyk ho hg
  rw [eg, hA] at hc
  injection hc with hc
  injection hc with _ hc _
  exact he hc.symm
 exact ⟨go (by decide) h.o2, go (by decide) h.o3, go (by decide) h.o4, go (by decide) h.o6, go (by decide) h.o11⟩
end Go.Proofs.YtdeollmeljaaoaaDoor.rd
