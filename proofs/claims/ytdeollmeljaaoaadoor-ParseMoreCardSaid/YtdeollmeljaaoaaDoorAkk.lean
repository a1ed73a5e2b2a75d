import Derived.Test.YtdeollmeljaaoaaDoorAik
set_option linter.unusedVariables false
set_option linter.unusedSimpArgs false
set_option maxHeartbeats 4000000
set_option maxRecDepth 100000
open Go.ChangeAt Go.ChangeShapes Go.RowKit Go.WideShapes
open Go.Lib (hid)
namespace Go.Proofs.YtdeollmeljaaoaaDoor.rd
open Go.Proofs.YtdeollmeljaaoaaDoor.cs
def Grows (T : TypeId) : Prop := T = 75 ∨ T = 50 ∨ T = 9
structure ButS (B S E : Nat) (w w' : World) : Prop where
 os : w'.os = w.os
 tape : w'.tape = w.tape
 output : w'.output = w.output
 size : w.heap.size ≤ w'.heap.size
 block : ∀ k, k < w.heap.size → k ≠ B → k ≠ S → (k < E ∨ ∀ cs T fr, Grows T → w.heap[k]? ≠ some (.cells cs T fr)) → w'.heap[k]? = w.heap[k]?
theorem But.toS {B : Nat} (S E : Nat) {w w' : World} (h : But B w w') : ButS B S E w w' := ⟨h.os, h.tape, h.output, h.size, fun k hk hn _ _ => h.block k hk hn⟩
theorem But.toS' {S : Nat} (B E : Nat) {w w' : World} (h : But S w w') : ButS B S E w w' := ⟨h.os, h.tape, h.output, h.size, fun k hk _ hn _ => h.block k hk hn⟩
theorem ButS.refl (B S E : Nat) (w : World) : ButS B S E w w := (But.of (Below.refl _ _)).toS S E
theorem ButS.trans {B S E : Nat} {a b c : World} (h : ButS B S E a b) (g : ButS B S E b c) : ButS B S E a c :=
 ⟨g.os.trans h.os, g.tape.trans h.tape, g.output.trans h.output, Nat.le_trans h.size g.size, fun k hk hn hs ht => by
  have e := h.block k hk hn hs ht
  exact (g.block k (Nat.lt_of_lt_of_le hk h.size) hn hs (by rw [e]; exact ht)).trans e⟩
theorem ButS.keep {B S E k : Nat} {w w' : World} {cs : Array Value} {T : TypeId} {fr : Nat × Nat} (h : ButS B S E w w') (hk : k ≠ B) (hs : k ≠ S) (hT : ¬ Grows T) (hb : w.heap[k]? = some (.cells cs T fr)) : w'.heap[k]? = some (.cells cs T fr) :=
 (h.block k (blk_lt hb) hk hs (.inr (fun cs' T' fr' hg e => by rw [hb] at e; simp only [Option.some.injEq, Obj.cells.injEq] at e; exact hT (e.2.1 ▸ hg)))).trans hb
structure StO (w : World) (E : Nat) (s : Sq) (p : Ps) : Prop where
 o2 : w.ownsRow E 75 2 (.slice p.a2 p.n2 p.c2) p.n2 (ccs s.cols)
 o3 : w.ownsRow E 50 3 (.slice p.a3 p.n3 p.c3) p.n3 (vc s.row)
 o4 : w.ownsRow E 9 1 (.slice p.a4 p.n4 p.c4) p.n4 (s.names.map Value.string)
 o6 : w.ownsRow E 54 5 (.slice p.a6 p.n6 p.c6) p.n6 (ocs s.wh)
 o11 : w.ownsRow E 54 5 (.slice p.a11 p.n11 p.c11) p.n11 (ocs s.to)
theorem StO.rd {w : World} {E : Nat} {s : Sq} {p : Ps} (h : StO w E s p) : StR w s p := ⟨Rd.own h.o2, Rd.own h.o3, Rd.own h.o4, Rd.own h.o6, Rd.own h.o11⟩
theorem own_far {w w' : World} {E e s n : Nat} {v : Value} {xs : List Value} (h : w.ownsRow E e s v n xs) (hb : ∀ g, v.ownBlock = some g → w'.heap[g]? = w.heap[g]?) : w'.ownsRow E e s v n xs := by
 refine ⟨h.1, ?_⟩
 rcases h.2 with h0 | ⟨g, cap, cur, hv, h1, h2, h3⟩
 ·exact .inl h0
 ·exact .inr ⟨g, cap, cur, hv, h1, (hb g (by rw [hv]; rfl)).trans h2, h3⟩
theorem StO.far {w w' : World} {E : Nat} {s : Sq} {p : Ps} (h : StO w E s p) (hb : ∀ k, E ≤ k → k < w.heap.size → w'.heap[k]? = w.heap[k]?) : StO w' E s p :=
 ⟨own_far h.o2 fun g hg => hb g (h.o2.lt g hg).1 (h.o2.lt g hg).2, own_far h.o3 fun g hg => hb g (h.o3.lt g hg).1 (h.o3.lt g hg).2, own_far h.o4 fun g hg => hb g (h.o4.lt g hg).1 (h.o4.lt g hg).2, own_far h.o6 fun g hg => hb g (h.o6.lt g hg).1 (h.o6.lt g hg).2, own_far h.o11 fun g hg => hb g (h.o11.lt g hg).1 (h.o11.lt g hg).2⟩
section
variable {B S E : Nat} {a : Option Addr} {n c : Nat} {L : List Tk}
structure Ss (w : World) (B S E : Nat) (a : Option Addr) (n c : Nat) (L : List Tk) (k : Nat) (s : Sq) (p : Ps) : Prop where
 rs : Rs w B a n c L k
 box : w.heap[S]? = some (.cells (stC s p) 33 (0, 0))
 own : StO w E s p
 ne : S ≠ B
 tok : ∀ x, a = some x → 0 < n → x.block ≠ S ∧ x.block < E
 off : Off S
 lb : B < E
 ls : S < E
 le : E ≤ w.heap.size
theorem Ss.go {w w' : World} {k k' : Nat} {s : Sq} {p : Ps} (h : Ss w B S E a n c L k s p) (hN : But B w w') (hr : Rs w' B a n c L k') : Ss w' B S E a n c L k' s p :=
 ⟨hr, (hN.block S (blk_lt h.box) h.ne).trans h.box, h.own.far fun k hk hl => hN.block k hl (by have := h.lb; omega), h.ne, h.tok, h.off, h.lb, h.ls, Nat.le_trans h.le hN.size⟩
theorem Ss.later {w w' : World} {k : Nat} {s : Sq} {p : Ps} (h : Ss w B S E a n c L k s p) (hb : Below w.heap.size w w') : Ss w' B S E a n c L k s p := h.go (But.of hb) (h.rs.later hb)
theorem Tbq.any {w w' : World} (h : Tbq w) {S : Nat} (o : Off S) (hb : ∀ k, k < S → k < w.heap.size → w'.heap[k]? = w.heap[k]?) : Tbq w' := by
 obtain ⟨⟨t1, r1, h1⟩, ⟨t2, r2, h2⟩, ⟨t3, r3, h3⟩, ⟨t4, r4, h4⟩, ⟨t5, r5, h5⟩, ⟨t6, r6, h6⟩⟩ := h
 exact ⟨⟨t1, r1, (hb _ o.m (blk_lt h1)).trans h1⟩, ⟨t2, r2, (hb _ o.k (blk_lt h2)).trans h2⟩, ⟨t3, r3, (hb _ o.d (blk_lt h3)).trans h3⟩, ⟨t4, r4, (hb _ o.s (blk_lt h4)).trans h4⟩, ⟨t5, r5, (hb _ o.c (blk_lt h5)).trans h5⟩, ⟨t6, r6, (hb _ o.x (blk_lt h6)).trans h6⟩⟩
theorem Rs.far {w w' : World} {k : Nat} (h : Rs w B a n c L k) (hN : But S w w') (hne : S ≠ B) (ht : ∀ x, a = some x → 0 < n → x.block ≠ S) (ho : Off S) : Rs w' B a n c L k := by
 obtain ⟨⟨ov, hr⟩, h1, h2, h3⟩ := h
 refine ⟨⟨ov, (hN.block B (heap_lt hr.box) (Ne.symm hne)).trans hr.box, rd_but hr.row hN (fun x cap e hn => by cases e; exact ht x rfl hn) (by omega), hr.le, hr.sm, hr.ne⟩, ?_, h2, h3⟩
 exact h1.any ho fun k hk hl => hN.block k hl (by omega)
theorem Ss.put {w : World} {k : Nat} {s s' : Sq} {p p' : Ps} (h : Ss w B S E a n c L k s p) (i : Nat) (v : Value) (hc : (stC s p).setIfInBounds i v = stC s' p') (ho : StO w E s' p') : Ss (w.setCell ⟨S, i, none⟩ v) B S E a n c L k s' p' := by
 have hN := But.set w S i v
 refine ⟨h.rs.far hN h.ne (fun x e hn => (h.tok x e hn).1) h.off, ?_, ho.far fun k hk hl => hN.block k hl (by have := h.ls; omega), h.ne, h.tok, h.off, h.lb, h.ls, Nat.le_trans h.le hN.size⟩
 rw [← hc]
 exact Lib.heap_setCell_same h.box v
theorem Ss.x {w : World} {k : Nat} {s : Sq} {p : Ps} (h : Ss w B S E a n c L k s p) (i : Nat) (hi : i < 12) : w.cell? ⟨S, i, none⟩ = (stC s p)[i]? ∧ w.frozen? ⟨S, i, none⟩ = false := by
 constructor
 ·simp only [World.cell?]; rw [h.box]; simp
 ·simp only [World.frozen?]; rw [h.box]; simp
theorem smust {w : World} {k : Nat} (h : Rs w B a n c L k) {b : Nat} {ts : List ByteArray} (hk : w.heap[b]? = some (.cells (ts.map Value.string).toArray 9 (0, 0))) (hb : b ≠ B) (h0 : 0 < ts.length) (h9 : ts.length ≤ 9) :
  Calls Tryd.prog 52 #[.pointer (some ⟨B, 0, none⟩), .slice (some ⟨b, 0, none⟩) ts.length ts.length] w fun e w' => But B w w' ∧ match mustF L n k ts with
   | .inl f => e = flt f.1 f.2
   | .inr k' => e = .returned (.tuple #[]) ∧ Rs w' B a n c L k' := by
 have hh := h
 obtain ⟨⟨ov, hr⟩, _⟩ := h
 have hrd := rd_new hk (by simp; omega)
 rw [show (ts.map Value.string).length = ts.length by simp] at hrd
 refine (must_any w B a n c L k ov hr ts.length _ ts h0 hrd (fun x cap e hn => by cases e; exact hb)).mono ?_
 rintro e w' ⟨h1, h2⟩
 refine ⟨h1, ?_⟩
 cases hm : mustF L n k ts with
 | inl f =>
  rw [hm] at h2
  exact h2
 | inr k' =>
  rw [hm] at h2
  exact ⟨h2.1, hh.go h1 h2.2⟩
theorem slit {w : World} {k : Nat} (h : Rs w B a n c L k) :
  Calls Tryd.prog 78 #[.pointer (some ⟨B, 0, none⟩)] w fun e w' => But B w w' ∧ match litG L n k with
   | .inl f => e = flt f.1 f.2
   | .inr (v, k') => e = .returned (.tuple #[vV (v.getD v0).k (v.getD v0).n (v.getD v0).t, .bool v.isSome]) ∧ Rs w' B a n c L k' := by
 have hh := h
 obtain ⟨⟨ov, hr⟩, _⟩ := h
 refine (literal_any w hh.tb B (by have := hh.off.c; omega) a n c L k ov hr (hh.ok _).2.1 (hh.ok _).2.2).mono ?_
 rintro e w' ⟨h1, h2⟩
 refine ⟨h1, ?_⟩
 rw [litF_G] at h2
 rcases hm : litG L n k with f | ⟨v, k'⟩
 ·rw [hm] at h2
  exact h2
 ·rw [hm] at h2
  cases v with
  | none => exact ⟨h2.1, hh.go h1 h2.2⟩
  | some v => exact ⟨h2.1, hh.go h1 h2.2⟩
theorem sname {w : World} {k : Nat} (h : Rs w B a n c L k) :
  Calls Tryd.prog 53 #[.pointer (some ⟨B, 0, none⟩)] w fun e w' => But B w w' ∧ match nameG L n k with
   | .inl f => e = flt f.1 f.2
   | .inr (t, k') => e = .returned (.string t) ∧ Rs w' B a n c L k' := by
 have hh := h
 obtain ⟨⟨ov, hr⟩, _⟩ := h
 refine (rname_any w hh.tb B a n c L k ov hr (hh.ok _).1).mono ?_
 rintro e w' ⟨h1, h2⟩
 refine ⟨h1, ?_⟩
 rw [nameF_G] at h2
 rcases hm : nameG L n k with f | ⟨v, k'⟩
 ·rw [hm] at h2
  exact h2
 ·rw [hm] at h2
  exact ⟨h2.1, hh.go h1 h2.2⟩
theorem snum {w : World} {k : Nat} (h : Rs w B a n c L k) :
  Calls Tryd.prog 80 #[.pointer (some ⟨B, 0, none⟩)] w fun e w' => But B w w' ∧ match numG L n k with
   | .inl f => e = flt f.1 f.2
   | .inr (x, k') => e = .returned (.int .i64 x) ∧ Rs w' B a n c L k' := by
 have hh := h
 obtain ⟨⟨ov, hr⟩, _⟩ := h
 refine (number_any w B a n c L k ov hr).mono ?_
 rintro e w' ⟨h1, h2⟩
 refine ⟨h1, ?_⟩
 unfold numF at h2
 unfold numG
 by_cases h3 : (L.getD k tk0).k = 2
 ·rw [if_pos h3] at h2 ⊢
  exact ⟨h2.1, hh.go h1 h2.2⟩
 ·rw [if_neg h3] at h2 ⊢
  exact h2
theorem sgive {w : World} {k : Nat} (h : Rs w B a n c L k) (q : Int) :
  Calls Tryd.prog 58 #[.pointer (some ⟨B, 0, none⟩), .int .i64 q] w fun e w' => e = flt (fl n k q).1 (fl n k q).2 ∧ But B w w' := by
 obtain ⟨⟨ov, hr⟩, _⟩ := h
 refine (giveUp_any w B a n c L k ov hr q).mono ?_
 rintro e w' ⟨rfl, h2⟩
 exact ⟨rfl, But.of h2⟩
theorem sback {w : World} {k : Nat} (h : Rs w B a n c L k) (q : Int) :
  Calls Tryd.prog 75 #[.pointer (some ⟨B, 0, none⟩), .int .i64 q] w fun e w' => e = flt ((k : Int) - 1) q ∧ But B w w' := by
 obtain ⟨⟨ov, hr⟩, _⟩ := h
 refine (giveBack_any w B a n c L k ov hr q).mono ?_
 rintro e w' ⟨rfl, h2⟩
 exact ⟨rfl, But.of h2⟩
end
theorem list_any {σ : Type} {B : Nat} {a : Option Addr} {n c : Nat} {L : List Tk} (Inv : World → Nat → σ → Prop) (Rl : World → World → Prop) (th : Nat → σ → F ⊕ (Nat × σ)) (f : FuncId) (x y : Value)
  (he : ∀ args w, (callFunc f args).run Tryd.prog w = .ok (.enter f args) w)
  (hI : ∀ W k s, Inv W k s → Rs W B a n c L k) (hm : ∀ W W' k k' s, Inv W k s → k ≤ k' → But B W W' → Rs W' B a n c L k' → Inv W' k' s) (hrl : ∀ W W', But B W W' → Rl W W') (htr : ∀ W1 W2 W3, Rl W1 W2 → Rl W2 W3 → Rl W1 W3)
  (hth : ∀ W k s, Inv W k s → Calls Tryd.prog f #[x, y] W fun e w' => Rl W w' ∧ match th k s with
   | .inl f => e = flt f.1 f.2
   | .inr (k', s') => e = .returned (.tuple #[]) ∧ Inv w' k' s')
  (w : World) (k : Nat) (s : σ) (h : Inv w k s) :
  Calls Tryd.prog 73 #[.pointer (some ⟨B, 0, none⟩), .func (.func f) #[] #[x, y]] w fun e w' => Rl w w' ∧ match listF L th k s with
   | .inl f => e = flt f.1 f.2
   | .inr (k', s') => e = .returned (.tuple #[]) ∧ Inv w' k' s' := by
 have HE := hid he
 have HT := hid hth
 have HMY : Hid (∀ W k s, Inv W k s → Calls Tryd.prog 50 #[.pointer (some ⟨B, 0, none⟩), .string sComma] W fun e w' => e = .returned (.bool (mayB L k sComma)) ∧ Rl W w' ∧ Inv w' (if mayB L k sComma then k + 1 else k) s) := fun W k s hx => by
  refine (smay (hI _ _ _ hx) sComma).mono ?_
  rintro e w' ⟨rfl, h1, h2⟩
  exact ⟨rfl, hrl _ _ h1, hm _ _ _ _ _ hx (by split <;> omega) h1 h2⟩
 have HGB : Hid (∀ W k s, Inv W k s → Calls Tryd.prog 75 #[.pointer (some ⟨B, 0, none⟩), .int .i64 10] W fun e w' => e = flt ((k : Int) - 1) 10 ∧ Rl W w') := fun W k s hx => by
  refine (sback (hI _ _ _ hx) 10).mono ?_
  rintro e w' ⟨rfl, h1⟩
  exact ⟨rfl, hrl _ _ h1⟩
 have HTR := hid htr
 obtain ⟨r0, hr0⟩ : ∃ r0, r0 = th k s := ⟨_, rfl⟩
 obtain ⟨r, hr⟩ : ∃ r, r = listF L th k s := ⟨_, rfl⟩
 have hq : r = bd r0 fun x => listL L th 5 x.1 x.2 := by rw [hr, hr0]; rfl
 have HC := hth w k s h
 rw [← hr0] at HC
 rw [← hr]
 have HC := hid HC
 have HQ := hid hq
 clear he hI hm hrl htr hth h hr0 hr hq
 go_enter Tryd.func73, Tryd.ntmps73
 go_wp2_with fail
 rw [HE.out, Oper.upon_enter]
 refine HC.out.mono ?_
 rintro e w1 ⟨hX1, hr1⟩
 have HX1 := hid hX1
 clear hX1
 rcases r0 with f0 | ⟨k1, s1⟩
 ·obtain rfl : e = flt f0.1 f0.2 := hr1
  obtain rfl : r = .inl f0 := HQ.out
  exact ⟨rfl, HX1.out, rfl⟩
 ·obtain ⟨rfl, hx1⟩ := hr1
  have HQ1 : Hid (r = listL L th 5 k1 s1) := HQ.out
  have HS1 := hid hx1
  clear hx1 HQ HC
  go_wp2_with fail
  go_loopg [4] 5 (fun u t4 wr => ∃ (k1 : Nat) (s1 : σ) (j : Nat), t4 = .int .i64 (j : Int) ∧ j + u = 6 ∧ Hid (r = listL L th u k1 s1) ∧ Hid (Rl w wr) ∧ Hid (Inv wr k1 s1))
  case atStart => exact ⟨k1, s1, 1, rfl, rfl, HQ1, HX1, HS1⟩
  case round =>
   obtain ⟨k2, s2, j, rfl, hj, HQ2, HX2, HS2⟩ := hrel
   have HM0 := HMY.out wr k2 s2 HS2.out
   by_cases hmm : mayB L k2 sComma = true
   ·rw [hmm] at HM0
    have HM := hid HM0
    clear HM0
    cases gk with
    | zero =>
     obtain rfl : j = 6 := by omega
     have HR : Hid (r = .inl ((k2 : Int), 10)) := by show _ = _; rw [HQ2.out]; show (if mayB L k2 sComma then _ else _) = _; rw [if_pos hmm]
     clear HQ2 hmm
     go_wp2_with fail
     refine HM.out.mono ?_
     rintro e w3 ⟨rfl, hX, hx⟩
     have hx : Inv w3 (k2 + 1) s2 := hx
     have HX3 := hid (HTR.out _ _ _ HX2.out hX)
     have HG := hid (HGB.out w3 (k2 + 1) s2 hx)
     clear hX hx HM
     go_wp2_with fail
     refine HG.out.mono ?_
     rintro e w4 ⟨rfl, hX4⟩
     obtain rfl : r = .inl ((k2 : Int), 10) := HR.out
     refine ⟨rfl, HTR.out _ _ _ HX3.out hX4, ?_⟩
     rw [show ((k2 + 1 : Nat) : Int) - 1 = (k2 : Int) by omega]
    | succ u =>
     have hj6 : ((j : Int) == 6) = false := by simp; omega
     have hj7 : ¬ (j : Int) = 6 := by omega
     have HR : Hid (r = bd (th (k2 + 1) s2) fun x => listL L th u x.1 x.2) := by show _ = _; rw [HQ2.out]; show (if mayB L k2 sComma then _ else _) = _; rw [if_pos hmm]
     clear HQ2 hmm
     obtain ⟨r1, hr1⟩ : ∃ r1, r1 = th (k2 + 1) s2 := ⟨_, rfl⟩
     rw [← hr1] at HR
     have HRR := hid hr1
     clear hr1
     go_wp2_with fail
     refine HM.out.mono ?_
     rintro e w3 ⟨rfl, hX, hx⟩
     have hx : Inv w3 (k2 + 1) s2 := hx
     have HX3 := hid (HTR.out _ _ _ HX2.out hX)
     have HC := HT.out w3 (k2 + 1) s2 hx
     rw [← HRR.out] at HC
     have HC := hid HC
     clear hX hx HM HRR
     go_wp2_with fail
     rw [HE.out, Oper.upon_enter]
     refine HC.out.mono ?_
     rintro e w4 ⟨hX4, h4⟩
     have HX4 := hid (HTR.out _ _ _ HX3.out hX4)
     clear hX4 HC
     rcases r1 with f0 | ⟨k4, s4⟩
     ·obtain rfl : e = flt f0.1 f0.2 := h4
      obtain rfl : r = .inl f0 := HR.out
      exact ⟨rfl, HX4.out, rfl⟩
     ·obtain ⟨rfl, hx4⟩ := h4
      have HR4 : Hid (r = listL L th u k4 s4) := HR.out
      have HS4 := hid hx4
      clear hx4 HR
      go_wp2_with fail
      go_roundg u
      case measure => exact Nat.lt_succ_self u
      case rel => exact ⟨k4, s4, j + 1, by go_num, by omega, HR4, HX4, HS4⟩
   ·have hmm : mayB L k2 sComma = false := by simpa using hmm
    rw [hmm] at HM0
    have HM := hid HM0
    have hr : r = .inr (k2, s2) := by
     rw [HQ2.out]
     cases gk with
     | zero => show (if mayB L k2 sComma then _ else _) = _; rw [if_neg (by simp [hmm])]
     | succ u => show (if mayB L k2 sComma then _ else _) = _; rw [if_neg (by simp [hmm])]
    subst hr
    clear HM0 HQ2 hmm
    go_wp2_with fail
    refine HM.out.mono ?_
    rintro e w3 ⟨rfl, hX, hx⟩
    have hx : Inv w3 k2 s2 := hx
    have HX3 := hid (HTR.out _ _ _ HX2.out hX)
    have HS3 := hid hx
    clear hX hx HM
    go_wp2_with fail
    go_returns
    exact ⟨HX3.out, rfl, HS3.out⟩
open Go.Proofs.YtdeollmeljaaoaaDoor.cs
theorem info_col : (Tryd.prog.info? 75).map (fun i => (i.zero, i.size, i.bytes)) = some (some (.agg #[.string ⟨#[]⟩, .int .i64 0]), 2, 24) := by kernel_rfl
theorem info_val : (Tryd.prog.info? 50).map (fun i => (i.zero, i.size, i.bytes)) = some (some (.agg #[.int .i64 0, .int .i64 0, .string ⟨#[]⟩]), 3, 32) := by kernel_rfl
theorem info_str : (Tryd.prog.info? 9).map (fun i => (i.zero, i.size, i.bytes)) = some (some (.string ⟨#[]⟩), 1, 16) := by kernel_rfl
theorem kd_ix0 (w : World) : (Instr.index 101 (.agg kdC) (.int .i64 (0 : Int))).run Tryd.prog w = .ok kdC[0]! w := by kernel_rfl
theorem kd_ix1 (w : World) : (Instr.index 101 (.agg kdC) (.int .i64 (1 : Int))).run Tryd.prog w = .ok kdC[1]! w := by kernel_rfl
theorem kd_ix2 (w : World) : (Instr.index 101 (.agg kdC) (.int .i64 (2 : Int))).run Tryd.prog w = .ok kdC[2]! w := by kernel_rfl
theorem kd_ix3 (w : World) : (Instr.index 101 (.agg kdC) (.int .i64 (3 : Int))).run Tryd.prog w = .ok kdC[3]! w := by kernel_rfl
theorem kd_ix (j : Nat) (hj : j < 4) (w : World) : (Instr.index 101 (.agg kdC) (.int .i64 (j : Int))).run Tryd.prog w = .ok (.string ⟨(kwL.getD j (0, [])).2.toArray⟩) w := by
 match j, hj with
 | 0, _ => exact kd_ix0 w
 | 1, _ => exact kd_ix1 w
 | 2, _ => exact kd_ix2 w
 | 3, _ => exact kd_ix3 w
theorem kw_drop (j : Nat) (hj : j < 4) : kwL.drop j = (j, (kwL.getD j (0, [])).2) :: kwL.drop (j + 1) := by
 match j, hj with
 | 0, _ => rfl
 | 1, _ => rfl
 | 2, _ => rfl
 | 3, _ => rfl
section
variable {B S E P Q : Nat} {a : Option Addr} {n c : Nat} {L : List Tk}
def kindR (n k : Nat) (km : Option Nat) : F ⊕ (Nat × Nat) := match km with
 | some q => .inr (q, k + 1)
 | none => .inl (fl n k 6)
theorem skind {w : World} {k : Nat} (h : Rs w B a n c L k) :
  Calls Tryd.prog 76 #[.pointer (some ⟨B, 0, none⟩)] w fun e w' => But B w w' ∧ match kindG L n k with
   | .inl f => e = flt f.1 f.2
   | .inr (q, k') => e = .returned (.int .i64 (q : Int)) ∧ Rs w' B a n c L k' := by
 have HMY : Hid (∀ W s, Rs W B a n c L k → Calls Tryd.prog 50 #[.pointer (some ⟨B, 0, none⟩), .string s] W fun e w' => e = .returned (.bool (mayB L k s)) ∧ But B W w' ∧ Rs w' B a n c L (if mayB L k s then k + 1 else k)) := fun W s hx => smay hx s
 have HGV : Hid (∀ W, Rs W B a n c L k → Calls Tryd.prog 58 #[.pointer (some ⟨B, 0, none⟩), .int .i64 6] W fun e w' => e = flt (fl n k 6).1 (fl n k 6).2 ∧ But B W w') := fun W hx => sgive hx 6
 have HS0 := hid h
 obtain ⟨ct, cf, hco⟩ := h.tb.d
 have HCO := hid hco
 obtain ⟨CA, hCA⟩ : ∃ CA, CA = kdC := ⟨_, rfl⟩
 have HIX : Hid (∀ j : Nat, j < 4 → ∀ w : World, (Instr.index 101 (.agg CA) (.int .i64 (j : Int))).run Tryd.prog w = .ok (.string ⟨(kwL.getD j (0, [])).2.toArray⟩) w) := fun j hj w => by rw [hCA]; exact kd_ix j hj w
 obtain ⟨r, hr⟩ : ∃ r, r = kindG L n k := ⟨_, rfl⟩
 rw [← hr]
 obtain ⟨km, hkm⟩ : ∃ km, km = kindF L k kwL := ⟨_, rfl⟩
 have HR : Hid (r = kindR n k km) := by show _ = _; rw [hr, hkm]; rfl
 have HK0 : Hid (km = kindF L k (kwL.drop 0)) := hkm
 clear hr hkm hco h
 go_enter Tryd.func76, Tryd.ntmps76
 go_wp2_with (refine wpList_load_row rfl _ _ rfl _ rfl _ _ _ _ HCO.out Tryd.underlying101 rfl (by kernel_rfl) ?_)
 rw [← hCA]
 clear hCA
 go_loopw [6] (fun i wr => ∃ j : Nat, j ≤ 4 ∧ i = .int .i64 (j : Int) ∧ Hid (km = kindF L k (kwL.drop j)) ∧ Hid (But B w wr) ∧ Hid (Rs wr B a n c L k)) (fun i _ => 4 - (intOf i).toNat)
 case atStart => exact ⟨0, by omega, rfl, HK0, But.of (Below.refl _ _), HS0⟩
 case round =>
  obtain ⟨j, hj, rfl, HQ, HX, HS⟩ := hrel
  by_cases hlt : j < 4
  ·have HIJ := HIX.out j hlt
   have hq := HQ.out
   rw [kw_drop j hlt] at hq
   unfold kindF at hq
   simp only at hq
   obtain ⟨sg, hsg⟩ : ∃ sg : ByteArray, sg = ⟨(kwL.getD j (0, [])).2.toArray⟩ := ⟨_, rfl⟩
   rw [← hsg] at HIJ hq
   have HM0 := HMY.out wr sg HS.out
   obtain ⟨mm, hmm⟩ : ∃ mm, mm = mayB L k sg := ⟨_, rfl⟩
   rw [← hmm] at HM0 hq
   have HQ1 := hid hq
   have HM := hid HM0
   clear hq HQ HIX hsg hmm HM0
   cases mm with
   | false =>
    have HQ4 : Hid (km = kindF L k (kwL.drop (j + 1))) := HQ1.out
    go_wp2_with fail
    refine HM.out.mono ?_
    rintro e w4 ⟨rfl, hX4, hx4⟩
    have hx4 : Rs w4 B a n c L k := hx4
    have HX4 := hid (HX.out.trans hX4)
    have HS4 := hid hx4
    clear hX4 hx4 HM
    go_wp2_with fail
    go_roundw
    case rel => exact ⟨j + 1, by omega, by go_num, HQ4, HX4, HS4⟩
    case measure => simp [intOf]; omega
   | true =>
    obtain rfl : km = some j := HQ1.out
    obtain rfl : r = .inr (j, k + 1) := HR.out
    clear HR HQ1 HK0
    go_wp2_with fail
    refine HM.out.mono ?_
    rintro e w4 ⟨rfl, hX4, hx4⟩
    have hx4 : Rs w4 B a n c L (k + 1) := hx4
    have HX4 := hid (HX.out.trans hX4)
    have HS4 := hid hx4
    clear hX4 hx4 HM
    go_wp2_with fail
    go_returns
    exact ⟨HX4.out, rfl, HS4.out⟩
  ·obtain rfl : j = 4 := by omega
   obtain rfl : km = none := HQ.out
   obtain rfl : r = .inl (fl n k 6) := HR.out
   have HG := hid (HGV.out wr HS.out)
   clear HIX HK0 HS0 HR
   go_wp2_with fail
   refine HG.out.mono ?_
   rintro e w4 ⟨rfl, hX4⟩
   exact ⟨rfl, HX.out.trans hX4, rfl⟩
structure Cl (W : World) (B S E P Q : Nat) (a : Option Addr) (n c : Nat) (L : List Tk) (k : Nat) (s : Sq) (p : Ps) : Prop where
 ss : Ss W B S E a n c L k s p
 bp : W.heap[P]? = some (.cells #[.pointer (some ⟨B, 0, none⟩)] 91 (0, 0))
 bq : W.heap[Q]? = some (.cells #[.pointer (some ⟨S, 0, none⟩)] 93 (0, 0))
 pb : P ≠ B
 ps : P ≠ S
 qb : Q ≠ B
 qs : Q ≠ S
theorem Cl.go {w w' : World} {k k' : Nat} {s : Sq} {p : Ps} (h : Cl w B S E P Q a n c L k s p) (hN : But B w w') (hr : Rs w' B a n c L k') : Cl w' B S E P Q a n c L k' s p :=
 ⟨h.ss.go hN hr, (hN.block P (blk_lt h.bp) h.pb).trans h.bp, (hN.block Q (blk_lt h.bq) h.qb).trans h.bq, h.pb, h.ps, h.qb, h.qs⟩
theorem Cl.later {w w' : World} {k : Nat} {s : Sq} {p : Ps} (h : Cl w B S E P Q a n c L k s p) (hb : Below w.heap.size w w') : Cl w' B S E P Q a n c L k s p := h.go (But.of hb) (h.ss.rs.later hb)
theorem bx1 {w : World} {B : Nat} {x : Value} {T : TypeId} (h : w.heap[B]? = some (.cells #[x] T (0, 0))) : w.cell? ⟨B, 0, none⟩ = some x := by
 simp only [World.cell?]; rw [h]; rfl
theorem Cl.grown {w w7 : World} {k : Nat} {s s' : Sq} {p p' : Ps} {row : Option Nat} (h : Cl w B S E P Q a n c L k s p) (hg : w.grownBy w7 row) (hrow : ∀ g, row = some g → E ≤ g ∧ ∃ cs T fr, Grows T ∧ w.heap[g]? = some (.cells cs T fr)) (i : Nat) (v : Value) (hc : (stC s p).setIfInBounds i v = stC s' p') (ho : StO w7 E s' p') : Cl (w7.setCell ⟨S, i, none⟩ v) B S E P Q a n c L k s' p' := by
 have hX : ButS B S E w w7 := ⟨hg.os, hg.tape, hg.output, hg.size, fun j hj hn hs ht => hg.block j hj (fun e => by
  obtain ⟨h1, cs, T, fr, h2, h3⟩ := hrow j e.symm
  rcases ht with h4 | h4
  ·omega
  ·exact h4 _ _ _ h2 h3)⟩
 have hlo : ∀ j, j < E → j < w.heap.size → w7.heap[j]? = w.heap[j]? := fun j hj hl => hg.block j hl (fun e => by
  have := (hrow j e.symm).1
  omega)
 have hrs : Rs w7 B a n c L k := by
  obtain ⟨⟨ov, hr⟩, h1, h2, h3⟩ := h.ss.rs
  refine ⟨⟨ov, (hlo B h.ss.lb (heap_lt hr.box)).trans hr.box, ?_, hr.le, hr.sm, hr.ne⟩, h1.any h2 fun j hj hl => hlo j (by have := h.ss.lb; omega) hl, h2, h3⟩
  obtain ⟨q1, ao, cap, q2, q3, q4, q5, q6⟩ := hr.row
  refine ⟨q1, ao, cap, q2, q3, q4, q5, fun x hx j u hu => ?_⟩
  have hcell := q6 x hx j u hu
  simp only [Value.slice.injEq, true_and] at q2
  obtain ⟨q2, rfl⟩ := q2
  subst q2
  have hn : 0 < n := by
   rcases Nat.eq_zero_or_pos n with h0 | h0
   ·subst h0
    have := (List.getElem?_eq_some_iff.1 hu).1
    omega
   ·exact h0
  have he : (x.add j).block = x.block := by
   obtain ⟨b, o, s⟩ := x
   simp only [Addr.add]
   split <;> rfl
  have hl := lt_cell hcell
  unfold World.cell? at hcell ⊢
  rw [hlo _ (by rw [he]; exact (h.ss.tok x hx hn).2) hl]
  exact hcell
 have hN := But.set w7 S i v
 have hbS : w7.heap[S]? = some (.cells (stC s p) 33 (0, 0)) := (hlo S h.ss.ls (blk_lt h.ss.box)).trans h.ss.box
 have hk : ∀ j (cs : Array Value) (T : TypeId), ¬ Grows T → j ≠ B → j ≠ S → w.heap[j]? = some (.cells cs T (0, 0)) → (w7.setCell ⟨S, i, none⟩ v).heap[j]? = some (.cells cs T (0, 0)) := fun j cs T hT h1 h2 h3 => (hN.block j (blk_lt (hX.keep h1 h2 hT h3)) h2).trans (hX.keep h1 h2 hT h3)
 refine ⟨⟨hrs.far hN h.ss.ne (fun x e hn => (h.ss.tok x e hn).1) h.ss.off, ?_, ho.far fun j hj hl => hN.block j hl (by have := h.ss.ls; omega), h.ss.ne, h.ss.tok, h.ss.off, h.ss.lb, h.ss.ls, Nat.le_trans h.ss.le (Nat.le_trans hg.size hN.size)⟩, hk P _ _ (by unfold Grows; decide) h.pb h.ps h.bp, hk Q _ _ (by unfold Grows; decide) h.qb h.qs h.bq, h.pb, h.ps, h.qb, h.qs⟩
 rw [← hc]
 exact Lib.heap_setCell_same hbS v
end
end Go.Proofs.YtdeollmeljaaoaaDoor.rd
