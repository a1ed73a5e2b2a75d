import Derived.Test.YtdeollmeljaaoaaDoorAwk
set_option linter.unusedVariables false
set_option linter.unusedSimpArgs false
set_option maxHeartbeats 4000000
set_option maxRecDepth 100000
open Go.ChangeAt Go.ChangeShapes Go.RowKit Go.WideShapes
open Go.Lib (hid)
namespace Go.Proofs.YtdeollmeljaaoaaDoor.rd
open Go.Proofs.YtdeollmeljaaoaaDoor.cs
def sqz : Sq := ⟨0, ⟨#[]⟩, [], [], [], false, [], ⟨#[]⟩, false, 0, ⟨#[]⟩, []⟩
def badL : Nat → List Tk → Option (Nat × Int)
 | _, [] => none
 | j, t :: l => if tkF t.k t.t t.n ≠ 0 then some (j, tkF t.k t.t t.n) else badL (j + 1) l
def parseF (L : List Tk) : Sq × Int × Int :=
 if 100 < L.length then (sqz, 0, 10) else match badL 0 L with
  | some x => (sqz, (x.1 : Int), x.2)
  | none => match stmtF L L.length with
   | .inl f => (sqz, f.1, f.2)
   | .inr s => (s, 0, 0)
theorem bad_none : ∀ (l : List Tk) (j : Nat), badL j l = none → ∀ t ∈ l, tkF t.k t.t t.n = 0
 | [], j, h, t, ht => by simp at ht
 | x :: l, j, h, t, ht => by
  unfold badL at h
  split at h
  ·cases h
  ·rename_i h0
   simp only [List.mem_cons] at ht
   rcases ht with rfl | ht
   ·simpa using h0
   ·exact bad_none l (j + 1) h t ht
theorem tdrop_cons {l : List Tk} {k : Nat} (h : k < l.length) : l.drop k = l.getD k tk0 :: l.drop (k + 1) := by
 rw [List.drop_eq_getElem_cons h]
 simp [List.getD, h]
theorem tmem {l : List Tk} {k : Nat} (h : k < l.length) : l.getD k tk0 ∈ l := by
 rw [List.getD, List.getElem?_eq_getElem h]
 exact List.getElem_mem h
theorem tok_ok {L : List Tk} (hz : ∀ k, (L.getD k tk0).t.length ≤ maxLen ∧ (L.getD k tk0).n ≤ 9223372036854775807) (hb : ∀ t ∈ L, tkF t.k t.t t.n = 0) : TokOk L := fun k => by
 refine ⟨(hz k).1, ?_, (hz k).2⟩
 by_cases hk : k < L.length
 ·have h := hb _ (tmem hk)
  unfold tkF at h
  split at h
  ·omega
  ·split at h
   ·omega
   ·rename_i h1 h2
    split at h
    ·omega
    ·rename_i h3
     by_cases h4 : (L.getD k tk0).k = 2
     ·by_cases h5 : (L.getD k tk0).n < 0
      ·exact absurd ⟨h4, h5⟩ h2
      ·omega
     ·by_cases h5 : (L.getD k tk0).n = 0
      ·omega
      ·exact absurd (Or.inl ⟨h4, h5⟩) h3
 ·rw [show L.getD k tk0 = tk0 by simp [List.getD, List.getElem?_eq_none (show L.length ≤ k by omega)]]
  simp [tk0]
def Pz (w : World) (r : Sq × Int × Int) (e : Ending) (w' : World) : Prop := ∃ p, e = .returned (.tuple #[stV r.1 p, .int .i64 r.2.1, .int .i64 r.2.2]) ∧ StO w' w.heap.size r.1 p ∧ Below w.heap.size w w'
theorem bodyD_nm {p : Program} {f : Func} {Q : Ending → World → Prop} {e : Exit} {a : Act} {w : World} (h : ∀ W, W = w → bodyPostD p f Q e a W) : bodyPostD p f Q e a w := h w rfl
theorem three {w : World} {R : Nat} {s : Sq} {p : Ps} {q e : Int} (hR : w.heap[R]? = some (.cells (stC s p) 33 (0, 0))) (hP : w.heap[R + 1]? = some (.cells #[.int .i64 q] 3 (0, 0))) (hQ : w.heap[R + 2]? = some (.cells #[.int .i64 e] 36 (0, 0))) {tm : Array Value} (t2 : tm[2]?.getD undef = .pointer (some ⟨R, 0, none⟩)) (t3 : tm[3]?.getD undef = .pointer (some ⟨R + 1, 0, none⟩)) (t4 : tm[4]?.getD undef = .pointer (some ⟨R + 2, 0, none⟩)) :
  (results Tryd.f12 tm).run Tryd.prog w = .ok (.tuple #[stV s p, .int .i64 q, .int .i64 e]) w := by
 obtain ⟨v0, v1, v2, v3, v4, v5, v6, v7, v8, v9, v10, v11, -⟩ := box12 hR
 have u0 := bx1 hP
 have u1 := bx1 hQ
 simp [results, Tryd.results12, go_sem, t2, t3, t4, v0, v1, v2, v3, v4, v5, v6, v7, v8, v9, v10, v11, u0, u1]
 try rfl
theorem store_end {A R : Nat} {w W X : World} {x0 x1 x2 x3 x4 x5 x6 x7 x8 x9 x10 x11 u v : Value} (hb : Below A w W) (hA : A ≤ R) (hR : W.heap[R]? = some (.cells #[x0, x1, x2, x3, x4, x5, x6, x7, x8, x9, x10, x11] 33 (0, 0))) (hP : W.heap[R + 1]? = some (.cells #[u] 3 (0, 0))) (hQ : W.heap[R + 2]? = some (.cells #[v] 36 (0, 0))) (y0 y1 y2 y3 y4 y5 y6 y7 y8 y9 y10 y11 p q : Value)
  (hX : X = ((World.setCell (World.setCell (World.setCell (World.setCell (World.setCell (World.setCell (World.setCell (World.setCell (World.setCell (World.setCell (World.setCell (World.setCell W ⟨R, 0, none⟩ y0) ⟨R, 1, none⟩ y1) ⟨R, 2, none⟩ y2) ⟨R, 3, none⟩ y3) ⟨R, 4, none⟩ y4) ⟨R, 5, none⟩ y5) ⟨R, 6, none⟩ y6) ⟨R, 7, none⟩ y7) ⟨R, 8, none⟩ y8) ⟨R, 9, none⟩ y9) ⟨R, 10, none⟩ y10) ⟨R, 11, none⟩ y11).setCell ⟨R + 1, 0, none⟩ p).setCell ⟨R + 2, 0, none⟩ q) :
  Below A w X ∧ X.heap[R]? = some (.cells #[y0, y1, y2, y3, y4, y5, y6, y7, y8, y9, y10, y11] 33 (0, 0)) ∧ X.heap[R + 1]? = some (.cells #[p] 3 (0, 0)) ∧ X.heap[R + 2]? = some (.cells #[q] 36 (0, 0)) ∧ ∀ k, k ≠ R → k ≠ R + 1 → k ≠ R + 2 → X.heap[k]? = W.heap[k]? := by
 have h1 := below12 hb hA y0 y1 y2 y3 y4 y5 y6 y7 y8 y9 y10 y11
 have h2 := set12_same hR y0 y1 y2 y3 y4 y5 y6 y7 y8 y9 y10 y11
 have h3 : ∀ k, k ≠ R → (World.setCell (World.setCell (World.setCell (World.setCell (World.setCell (World.setCell (World.setCell (World.setCell (World.setCell (World.setCell (World.setCell (World.setCell W ⟨R, 0, none⟩ y0) ⟨R, 1, none⟩ y1) ⟨R, 2, none⟩ y2) ⟨R, 3, none⟩ y3) ⟨R, 4, none⟩ y4) ⟨R, 5, none⟩ y5) ⟨R, 6, none⟩ y6) ⟨R, 7, none⟩ y7) ⟨R, 8, none⟩ y8) ⟨R, 9, none⟩ y9) ⟨R, 10, none⟩ y10) ⟨R, 11, none⟩ y11).heap[k]? = W.heap[k]? := fun k hk => set12_far _ _ _ _ _ _ _ _ _ _ _ _ k hk
 obtain ⟨Y, hY⟩ : ∃ Y, Y = (World.setCell (World.setCell (World.setCell (World.setCell (World.setCell (World.setCell (World.setCell (World.setCell (World.setCell (World.setCell (World.setCell (World.setCell W ⟨R, 0, none⟩ y0) ⟨R, 1, none⟩ y1) ⟨R, 2, none⟩ y2) ⟨R, 3, none⟩ y3) ⟨R, 4, none⟩ y4) ⟨R, 5, none⟩ y5) ⟨R, 6, none⟩ y6) ⟨R, 7, none⟩ y7) ⟨R, 8, none⟩ y8) ⟨R, 9, none⟩ y9) ⟨R, 10, none⟩ y10) ⟨R, 11, none⟩ y11) := ⟨_, rfl⟩
 rw [← hY] at h1 h2 h3 hX
 subst hX
 have p1 := (h3 (R + 1) (by omega)).trans hP
 have q1 := (h3 (R + 2) (by omega)).trans hQ
 have e1 : (Y.setCell ⟨R + 1, 0, none⟩ p).heap[R + 1]? = some (.cells #[p] 3 (0, 0)) := by simpa using Lib.heap_setCell_same (i := 0) p1 p
 have e2 : (Y.setCell ⟨R + 1, 0, none⟩ p).heap[R + 2]? = some (.cells #[v] 36 (0, 0)) := (Below.heap_setCell _ _ _ _ (by simp)).trans q1
 have e3 : ((Y.setCell ⟨R + 1, 0, none⟩ p).setCell ⟨R + 2, 0, none⟩ q).heap[R + 2]? = some (.cells #[q] 36 (0, 0)) := by simpa using Lib.heap_setCell_same (i := 0) e2 q
 refine ⟨(h1.setCell (p := ⟨R + 1, 0, none⟩) (by show A ≤ R + 1; omega) _).setCell (p := ⟨R + 2, 0, none⟩) (by show A ≤ R + 2; omega) _, ?_, ?_, e3, fun k hk1 hk2 hk3 => ?_⟩
 ·exact (Below.heap_setCell _ _ _ _ (by simp)).trans ((Below.heap_setCell _ _ _ _ (by simp)).trans h2)
 ·exact (Below.heap_setCell _ _ _ _ (by simp)).trans e1
 ·exact (Below.heap_setCell _ _ _ _ hk3).trans ((Below.heap_setCell _ _ _ _ hk2).trans (h3 k hk1))
theorem parse_long (w : World) (n : Nat) (v : Value) (L : List Tk) (hr : Rd w 3 n v (tkc L)) (h : 100 < n) :
  Calls Tryd.prog 12 #[v] w (Pz w (sqz, 0, 10)) := by
 obtain ⟨_, a, c, rfl, _, _, _⟩ := hr
 have hmf : ∀ (fn : Fn) (first cap : Array Value) (w : World), (Instr.makeFunc fn first cap).run Tryd.prog w = .ok (.func fn first cap) w := fun _ _ _ _ => rfl
 go_enter_defers Tryd.func12, Tryd.ntmps12
 go_wp2_with fail
 refine bodyD_nm (fun W hW => ?_)
 have hb : Below w.heap.size w W := by rw [hW]; exact (((Below.refl _ _).alloc (Nat.le_refl _) _).alloc (by simp) _).alloc (by simp; omega) _
 have hR : W.heap[w.heap.size]? = some (.cells (stC sqz p0) 33 (0, 0)) := by rw [hW]; exact (Below.heap_alloc _ _ _ (by simp; omega)).trans ((Below.heap_alloc _ _ _ (by simp)).trans (new0 _ _))
 have hP : W.heap[w.heap.size + 1]? = some (.cells #[.int .i64 0] 3 (0, 0)) := by rw [hW]; exact (Below.heap_alloc _ _ _ (by simp)).trans (new1 _ _ _)
 have hQ : W.heap[w.heap.size + 2]? = some (.cells #[.int .i64 10] 36 (0, 0)) := by rw [hW]; exact new2 _ _ _ _
 exact ⟨_, three hR hP hQ rfl rfl rfl, p0, rfl, ⟨World.ownsRow_nil _ _ _ _, World.ownsRow_nil _ _ _ _, World.ownsRow_nil _ _ _ _, World.ownsRow_nil _ _ _ _, World.ownsRow_nil _ _ _ _⟩, hb⟩
theorem off_of {w : World} (h : Tbq w) {B : Nat} (hB : w.heap.size ≤ B) : Off B := by
 obtain ⟨⟨t1, r1, h1⟩, ⟨t2, r2, h2⟩, ⟨t3, r3, h3⟩, ⟨t4, r4, h4⟩, ⟨t5, r5, h5⟩, ⟨t6, r6, h6⟩⟩ := h
 exact ⟨Nat.lt_of_lt_of_le (blk_lt h1) hB, Nat.lt_of_lt_of_le (blk_lt h2) hB, Nat.lt_of_lt_of_le (blk_lt h3) hB, Nat.lt_of_lt_of_le (blk_lt h4) hB, Nat.lt_of_lt_of_le (blk_lt h5) hB, Nat.lt_of_lt_of_le (blk_lt h6) hB⟩
theorem rs_new {w wr W : World} {n : Nat} {a : Option Addr} {c : Nat} {L : List Tk} (hT : Tbq w) (hr : Rd w 3 n (.slice a n c) (tkc L)) (hok : TokOk L) (hn : n ≤ 100) (hb : Below w.heap.size w wr) (hW : W = wr.alloc (.cells #[.slice a n c, .int .i64 0, .slice none 0 0] 71)) : Rs W wr.heap.size a n c L 0 := by
 have hbW : Below w.heap.size w W := by rw [hW]; exact hb.alloc hb.size _
 refine ⟨⟨.slice none 0 0, ⟨by rw [hW]; exact new0 _ _, hr.below hbW, Nat.zero_le _, hn, fun x e hn0 => ?_⟩⟩, hT.below hbW, off_of hT hb.size, hok⟩
 subst e
 have := Rd.blk hr (by omega) x c rfl hn0
 have := hb.size
 omega
def answer (L : List Tk) (bl : Option (Nat × Int)) : Sq × Int × Int := match bl with
  | some x => (sqz, (x.1 : Int), x.2)
  | none => match stmtF L L.length with
   | .inl f => (sqz, f.1, f.2)
   | .inr s => (s, 0, 0)
theorem parse_short (w : World) (n : Nat) (v : Value) (L : List Tk) (hT : Tbq w) (hr : Rd w 3 n v (tkc L)) (hz : ∀ k, (L.getD k tk0).t.length ≤ maxLen ∧ (L.getD k tk0).n ≤ 9223372036854775807) (h : n ≤ 100) :
  Calls Tryd.prog 12 #[v] w (Pz w (answer L (badL 0 L))) := by
 have hml := len_t hr
 obtain ⟨a, c, rfl⟩ : ∃ a c, v = .slice a n c := by
  obtain ⟨_, a, c, e, _⟩ := hr
  exact ⟨a, c, e⟩
 have hmf : ∀ (fn : Fn) (first cap : Array Value) (w : World), (Instr.makeFunc fn first cap).run Tryd.prog w = .ok (.func fn first cap) w := fun _ _ _ _ => rfl
 have HCK : Hid (∀ W k, Below w.heap.size w W → Calls Tryd.prog 28 #[tokV (L.getD k tk0)] W fun e w' => e = .returned (.int .i64 (tkF (L.getD k tk0).k (L.getD k tk0).t (L.getD k tk0).n)) ∧ Below W.heap.size W w') := fun W k hW => check_any W (hT.m.below hW) _ _ _ (by show (L.getD k tk0).t.toArray.size ≤ _; rw [List.size_toArray]; exact (hz k).1)
 have HR := hid hr
 have HT := hid hT
 have HZ := hid hz
 have HN := hid hml
 obtain ⟨bl, hbl⟩ : ∃ bl, bl = badL 0 L := ⟨_, rfl⟩
 rw [← hbl]
 have HBL := hid hbl
 clear hr hT hz hml hbl
 go_enter_defers Tryd.func12, Tryd.ntmps12
 go_wp2_with fail
 refine code_nm (fun W3 hW => ?_)
 have hb : Below w.heap.size w W3 := by rw [hW]; exact (((Below.refl _ _).alloc (Nat.le_refl _) _).alloc (by simp) _).alloc (by simp; omega) _
 have hR : W3.heap[w.heap.size]? = some (.cells (stC sqz p0) 33 (0, 0)) := by rw [hW]; exact (Below.heap_alloc _ _ _ (by simp; omega)).trans ((Below.heap_alloc _ _ _ (by simp)).trans (new0 _ _))
 have hP : W3.heap[w.heap.size + 1]? = some (.cells #[.int .i64 0] 3 (0, 0)) := by rw [hW]; exact (Below.heap_alloc _ _ _ (by simp)).trans (new1 _ _ _)
 have hQ : W3.heap[w.heap.size + 2]? = some (.cells #[.int .i64 0] 36 (0, 0)) := by rw [hW]; exact new2 _ _ _ _
 have HB3 := hid hb
 have HX := hid (And.intro hR (And.intro hP hQ))
 clear hb hR hP hQ hW
 go_loopw [15] (fun i wr => ∃ j : Nat, j ≤ n ∧ i = .int .i64 (j : Int) ∧ Hid (bl = badL j (L.drop j)) ∧ Hid (Below W3.heap.size W3 wr)) (fun i _ => n - (intOf i).toNat)
 case atStart => exact ⟨0, by omega, rfl, HBL, Below.refl _ _⟩
 case round =>
  obtain ⟨j, hj, rfl, HQ1, HBR⟩ := hrel
  by_cases hlt : j < n
  ·obtain ⟨_, b, o, cap, he, _, _, hbw, hcell⟩ := toks_of HR.out (by omega)
   simp only [Value.slice.injEq, true_and] at he
   obtain ⟨rfl, rfl⟩ := he
   have hbw3 := into HB3.out HBR.out
   obtain ⟨g0, g1, g2⟩ := hcell j hlt
   have g0 := (hbw3.cell (p := ⟨b, o + j * 3, none⟩) hbw).trans g0
   have g1 := (hbw3.cell (p := ⟨b, o + j * 3 + 1, none⟩) hbw).trans g1
   have g2 := (hbw3.cell (p := ⟨b, o + j * 3 + 2, none⟩) hbw).trans g2
   have hq := HQ1.out
   rw [tdrop_cons (by rw [← HN.out]; exact hlt)] at hq
   unfold badL at hq
   have HC0 := hid (fun W hW => HCK.out W j hW)
   have HB4 := hid hbw3
   obtain ⟨u, hu⟩ : ∃ u, u = L.getD j tk0 := ⟨_, rfl⟩
   rw [← hu] at g0 g1 g2 hq HC0
   obtain ⟨uk, ut, un⟩ := u
   simp only [tokV] at g0 g1 g2 hq HC0
   obtain ⟨us, hus⟩ : ∃ us : ByteArray, us = ⟨ut.toArray⟩ := ⟨_, rfl⟩
   obtain ⟨f, hf⟩ : ∃ f, f = tkF uk ut un := ⟨_, rfl⟩
   rw [← hus] at g1 HC0
   rw [← hf] at hq HC0
   have HQ2 := hid hq
   clear hq hcell hu hus hf hbw3 HQ1 HCK
   go_wp2_with fail
   refine calls_nm (fun W5 hW => ?_)
   have hb5 : Below wr.heap.size wr W5 := by rw [hW]; exact (Below.refl _ _).alloc (Nat.le_refl _) _
   have HB5 := hid (into HBR.out hb5)
   have HC5 := HC0.out W5 (into HB4.out hb5)
   clear hb5 hW
   refine HC5.mono ?_
   rintro e w6 ⟨rfl, hb6⟩
   have HB6 := hid (into HB5.out hb6)
   clear hb6 HC5
   by_cases hf0 : f = 0
   ·subst hf0
    have HQ3 : Hid (bl = badL (j + 1) (L.drop (j + 1))) := by show _ = _; rw [HQ2.out]; rfl
    go_wp2_with fail
    go_roundw
    case rel => exact ⟨j + 1, by omega, by go_num, HQ3, HB6⟩
    case measure => simp [intOf]; omega
   ·have hfn : (f != 0) = true := by simpa using hf0
    obtain rfl : bl = some (j, f) := by rw [HQ2.out, if_pos hf0]
    have hR6 := (HB6.out.block _ (blk_lt HX.out.1)).trans HX.out.1
    have hP6 := (HB6.out.block _ (blk_lt HX.out.2.1)).trans HX.out.2.1
    have hQ6 := (HB6.out.block _ (blk_lt HX.out.2.2)).trans HX.out.2.2
    obtain ⟨y0, y1, y2, y3, y4, y5, y6, y7, y8, y9, y10, y11, q0, q1, q2, q3, q4, q5, q6, q7, q8, q9, q10, q11⟩ := box12 hR6
    have u0 := bx1 hP6
    have u1 := bx1f hP6
    have v0 := bx1 hQ6
    have v1 := bx1f hQ6
    have HR6 := hid hR6
    have HP6 := hid hP6
    have HQ6 := hid hQ6
    clear hR6 hP6 hQ6 HC0 HQ2 g0 g1 g2
    go_wp2_with fail
    refine bodyD_nm (fun W hW => ?_)
    obtain ⟨hbw, hRw, hPw, hQw, -⟩ := store_end (into HB3.out HB6.out) (Nat.le_refl _) HR6.out HP6.out HQ6.out _ _ _ _ _ _ _ _ _ _ _ _ _ _ hW
    exact ⟨_, three (s := sqz) (p := p0) hRw hPw hQw rfl rfl rfl, p0, rfl, ⟨World.ownsRow_nil _ _ _ _, World.ownsRow_nil _ _ _ _, World.ownsRow_nil _ _ _ _, World.ownsRow_nil _ _ _ _, World.ownsRow_nil _ _ _ _⟩, hbw⟩
  ·obtain rfl : j = n := by omega
   have hbn : bl = none := by
    have := HQ1.out
    rw [List.drop_eq_nil_of_le (by have := HN.out; omega)] at this
    exact this
   subst hbn
   have HOK : Hid (TokOk L) := tok_ok HZ.out (bad_none L 0 HBL.out.symm)
   clear HQ1 HCK
   go_wp2_with fail
   refine calls_nm (fun W5 hW => ?_)
   have hrs : Rs W5 wr.heap.size a j c L 0 := rs_new HT.out HR.out HOK.out h (into HB3.out HBR.out) hW
   have hb5 : Below wr.heap.size wr W5 := by rw [hW]; exact (Below.refl _ _).alloc (Nat.le_refl _) _
   have hw5 : wr.heap.size < W5.heap.size := by rw [hW]; simp
   have hR5 := ((into HBR.out hb5).block _ (blk_lt HX.out.1)).trans HX.out.1
   have hP5 := ((into HBR.out hb5).block _ (blk_lt HX.out.2.1)).trans HX.out.2.1
   have hQ5 := ((into HBR.out hb5).block _ (blk_lt HX.out.2.2)).trans HX.out.2.2
   have hlR : w.heap.size + 2 < wr.heap.size := Nat.lt_of_lt_of_le (blk_lt HX.out.2.2) HBR.out.size
   have HB5 := hid (into (into HB3.out HBR.out) hb5)
   have HRS := hid (sentence_any hrs)
   obtain ⟨r, hrr⟩ : ∃ r, r = stmtF L j := ⟨_, rfl⟩
   have HQA : Hid (answer L none = match (generalizing := false) r with
    | .inl f => (sqz, f.1, f.2)
    | .inr s => (s, 0, 0)) := by show _ = _; rw [hrr, HN.out]; rfl
   rw [← hrr] at HRS
   clear hrr hrs hb5 hW
   refine HRS.out.mono ?_
   rintro e w6 ⟨hN6, h6⟩
   have hR6 := (hN6.block _ (by omega) (by omega)).trans hR5
   have hP6 := (hN6.block _ (by omega) (by omega)).trans hP5
   have hQ6 := (hN6.block _ (by omega) (by omega)).trans hQ5
   have hB6 : Below w.heap.size w w6 := ⟨hN6.os.trans HB5.out.os, hN6.tape.trans HB5.out.tape, hN6.output.trans HB5.out.output, Nat.le_trans HB5.out.size hN6.size, fun k hk => (hN6.block k (by have := HB5.out.size; omega) (by omega)).trans (HB5.out.block k hk)⟩
   rcases r with f | s
   ·obtain rfl : e = flt f.1 f.2 := h6
    rw [HQA.out]
    refine leaves_cons (f := 29) (args := #[.pointer (some ⟨w.heap.size, 0, none⟩), .pointer (some ⟨w.heap.size + 1, 0, none⟩), .pointer (some ⟨w.heap.size + 2, 0, none⟩)]) (by simp) (by simp [go_sem]) ?_
    refine (catch_fault w.heap.size f.1 f.2 [] w6 hR6 hP6 hQ6).mono ?_
    rintro e u' w7 ⟨rfl, rfl, hb7, h1, h2, h3⟩
    exact ⟨_, three (s := sqz) (p := p0) h1 h2 h3 rfl rfl rfl, p0, rfl, ⟨World.ownsRow_nil _ _ _ _, World.ownsRow_nil _ _ _ _, World.ownsRow_nil _ _ _ _, World.ownsRow_nil _ _ _ _, World.ownsRow_nil _ _ _ _⟩, hB6.trans hb7⟩
   ·obtain ⟨p, rfl, hown⟩ := h6
    have HOW := hid hown
    have HB6 := hid hB6
    have HR6 := hid hR6
    have HP6 := hid hP6
    have HQ6 := hid hQ6
    have HS5 : Hid (w.heap.size + 2 < W5.heap.size) := by show _ < _; omega
    obtain ⟨y0, y1, y2, y3, y4, y5, y6, y7, y8, y9, y10, y11, q0, q1, q2, q3, q4, q5, q6, q7, q8, q9, q10, q11⟩ := box12 hR6
    have u0 := bx1 hP6
    have u1 := bx1f hP6
    have v0 := bx1 hQ6
    have v1 := bx1f hQ6
    clear hR5 hP5 hQ5 hR6 hP6 hQ6 hB6 hown hN6 HRS
    obtain ⟨k_, t_, cols_, row_, names_, cnt_, wh_, ord_, dn_, lim_, st_, to_⟩ := s
    obtain ⟨a2, n2, c2, a3, n3, c3, a4, n4, c4, a6, n6, c6, a11, n11, c11⟩ := p
    go_wp2_with fail
    rw [HQA.out]
    refine bodyD_nm (fun W hW => ?_)
    obtain ⟨hbw, hRw, hPw, hQw, hfar⟩ := store_end HB6.out (Nat.le_refl _) HR6.out HP6.out HQ6.out _ _ _ _ _ _ _ _ _ _ _ _ _ _ hW
    have hown := HOW.out.far (w' := W) fun k hk hl => hfar k (by have := HS5.out; omega) (by have := HS5.out; omega) (by have := HS5.out; omega)
    have hmono : w.heap.size ≤ W5.heap.size := by have := HS5.out; omega
    refine leaves_cons (f := 29) (args := #[.pointer (some ⟨w.heap.size, 0, none⟩), .pointer (some ⟨w.heap.size + 1, 0, none⟩), .pointer (some ⟨w.heap.size + 2, 0, none⟩)]) (by simp) (by simp [go_sem]) ?_
    refine (catch_idle ⟨w.heap.size, 0, none⟩ ⟨w.heap.size + 1, 0, none⟩ ⟨w.heap.size + 2, 0, none⟩ W).mono ?_
    rintro e u' w7 ⟨rfl, rfl, rfl⟩
    exact ⟨_, three (s := ⟨k_, t_, cols_, row_, names_, cnt_, wh_, ord_, dn_, lim_, st_, to_⟩) (p := ⟨a2, n2, c2, a3, n3, c3, a4, n4, c4, a6, n6, c6, a11, n11, c11⟩) hRw hPw hQw rfl rfl rfl, ⟨a2, n2, c2, a3, n3, c3, a4, n4, c4, a6, n6, c6, a11, n11, c11⟩, rfl, ⟨own_mono hown.o2 hmono, own_mono hown.o3 hmono, own_mono hown.o4 hmono, own_mono hown.o6 hmono, own_mono hown.o11 hmono⟩, hbw⟩
theorem parse_any (w : World) (n : Nat) (v : Value) (L : List Tk) (hT : Tbq w) (hr : Rd w 3 n v (tkc L)) (hz : ∀ k, (L.getD k tk0).t.length ≤ maxLen ∧ (L.getD k tk0).n ≤ 9223372036854775807) :
  Calls Tryd.prog 12 #[v] w (Pz w (parseF L)) := by
 have hml := len_t hr
 unfold parseF
 by_cases h : 100 < L.length
 ·rw [if_pos h]
  exact parse_long w n v L hr (by omega)
 ·rw [if_neg h]
  exact parse_short w n v L hT hr hz (by omega)
open Go.Proofs.YtdeollmeljaaoaaDoor.cs
abbrev wd (l : List UInt8) : Tk := ⟨1, l, 0⟩
theorem bad_of : ∀ (l : List Tk) (j : Nat), (∀ t ∈ l, tkF t.k t.t t.n = 0) → badL j l = none
 | [], j, h => rfl
 | x :: l, j, h => by
  unfold badL
  rw [if_neg (by simp [h x (by simp)])]
  exact bad_of l (j + 1) fun t ht => h t (by simp [ht])
theorem parse_good {L : List Tk} {s : Sq} (hl : L.length ≤ 100) (hb : ∀ t ∈ L, tkF t.k t.t t.n = 0) (hs : stmtF L L.length = .inr s) : parseF L = (s, 0, 0) := by
 unfold parseF
 rw [if_neg (by omega), bad_of L 0 hb, hs]
theorem parse_flt {L : List Tk} {f : F} (hl : L.length ≤ 100) (hb : ∀ t ∈ L, tkF t.k t.t t.n = 0) (hs : stmtF L L.length = .inl f) : parseF L = (sqz, f.1, f.2) := by
 unfold parseF
 rw [if_neg (by omega), bad_of L 0 hb, hs]
theorem tk_nu {x : Int} (h : 0 ≤ x) : tkF 2 [] x = 0 := by
 unfold tkF txt
 simp
 omega
end Go.Proofs.YtdeollmeljaaoaaDoor.rd
