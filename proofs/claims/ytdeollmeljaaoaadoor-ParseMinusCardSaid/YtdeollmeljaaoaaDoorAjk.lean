import Derived.Test.YtdeollmeljaaoaaDoorAgk
/- Expressions, whole; the expression behind WHERE. -/
namespace Go.Proofs.YtdeollmeljaaoaaDoor.rd
open Go.ChangeShapes Go.WideShapes Go.ChangeAt Go.RowKit Go.Proofs.YtdeollmeljaaoaaDoor.cs
set_option linter.unusedVariables false
set_option linter.unusedSimpArgs false
set_option maxHeartbeats 4000000
set_option maxRecDepth 100000
section
variable {B E : Nat} {a : Option Addr} {n c : Nat} {L : List Tk}
theorem eith_any : ∀ d, Rt B E a n c L (n + 1 - d) 85 (eithD L n d)
  | 0 => fun W k os hk h => by have := h.kn; omega
  | d + 1 => by
    have ih : Rt B E a n c L (n - d + 1) 85 (eithD L n d) := (eith_any d).mono (by omega)
    have u0 := eithD_up L n d
    have l0 := eithD_lg L n d
    have u1 := thing_up (L := L) (n := n) u0
    have l1 := thing_lg (L := L) (n := n) l0
    have u2 := chain_up (L := L) u1 [10]
    have l2 := chain_lg (L := L) l1 [10]
    have u3 := chain_up (L := L) u2 [8, 9]
    have l3 := chain_lg (L := L) l2 [8, 9]
    have u4 := comparison_up (L := L) (n := n) u3
    have u5 := denied_up (L := L) u4 L.length
    have u6 := chain_up (L := L) u5 [3]
    have h1 := thing_any ih
    have h2 := product_any h1 u1
    have h3 := sum_any h2 u2
    have h4 := comparison_any h3 u3 l3
    have h5 := denied_any h4
    have h6 := both_any h5 u5
    have h7 := either_any h6 u6
    rw [show n + 1 - (d + 1) = n - d by omega]
    exact h7
/-- A reader between expressions. -/
structure Rs (w : World) (B : Nat) (a : Option Addr) (n c : Nat) (L : List Tk) (k : Nat) : Prop where
  rd : ∃ ov, Rdr w B a n c L k ov
  tb : Tbq w
  off : Off B
  ok : TokOk L
theorem Rs.lt {w : World} {k : Nat} (h : Rs w B a n c L k) : B < w.heap.size := by
  obtain ⟨⟨ov, hr⟩, _⟩ := h
  exact heap_lt hr.box
theorem Tbq.to {w w' : World} (h : Tbq w) (o : Off B) (hB : B < w.heap.size) (hb : But B w w') : Tbq w' := h.but (E := w.heap.size) o hB (hb.to _)
theorem Rs.go {w w' : World} {k k' : Nat} {ov : Value} (h : Rs w B a n c L k) (hN : But B w w') (hr : Rdr w' B a n c L k' ov) : Rs w' B a n c L k' := ⟨⟨ov, hr⟩, h.tb.to h.off h.lt hN, h.off, h.ok⟩
theorem Rs.later {w w' : World} {k : Nat} (h : Rs w B a n c L k) (hb : Below w.heap.size w w') : Rs w' B a n c L k := by
  obtain ⟨⟨ov, hr⟩, h1, h2, h3⟩ := h
  exact ⟨⟨ov, hr.below hb⟩, h1.below hb, h2, h3⟩
theorem Rs.kn {w : World} {k : Nat} (h : Rs w B a n c L k) : k ≤ n ∧ n = L.length := by
  obtain ⟨⟨ov, hr⟩, _⟩ := h
  exact ⟨hr.le, len_t hr.row⟩
theorem ButX.but {w w' : World} (h : ButX B w.heap.size w w') : But B w w' := ⟨h.os, h.tape, h.output, h.size, fun k hk hn => h.block k hk hn (.inl hk)⟩
/-- What a reader of an expression does. -/
def Xp (w : World) (B : Nat) (a : Option Addr) (n c : Nat) (L : List Tk) (r : F ⊕ (Nat × List Oq)) (e : Ending) (w' : World) : Prop :=
  But B w w' ∧ match r with
    | .inl f => e = flt f.1 f.2
    | .inr (k', os') => ∃ va vc, e = .returned (.slice va os'.length vc) ∧ w'.ownsRow w.heap.size 54 5 (.slice va os'.length vc) os'.length (ocs os') ∧ os'.length ≤ 40 ∧ Rs w' B a n c L k'
theorem exp_any (w : World) (k : Nat) (h : Rs w B a n c L k) : Calls Tryd.prog 81 #[.pointer (some ⟨B, 0, none⟩)] w (Xp w B a n c L (expF L n k)) := by
  obtain ⟨⟨ov, hr⟩, htb, hoff, hok⟩ := h
  have hlt := heap_lt hr.box
  obtain ⟨x0, x1, x2, f0, f1, f2⟩ := hr.cells
  have HE : Hid (∀ W, W = w.setCell ⟨B, 2, none⟩ (.slice none 0 0) → Calls Tryd.prog 85 #[.pointer (some ⟨B, 0, none⟩)] W (Ex W B w.heap.size a n c L (expF L n k)) ∧ But B w W) := fun W hW => by
    subst hW
    have hn := len_t hr.row
    have hN := But.set w B 2 (.slice none 0 0)
    have hsz : (w.setCell ⟨B, 2, none⟩ (.slice none 0 0)).heap.size = w.heap.size := by simp
    have hrd : Rdr (w.setCell ⟨B, 2, none⟩ (.slice none 0 0)) B a n c L k (.slice none 0 0) := ⟨by simpa using Lib.heap_setCell_same (i := 2) hr.box (.slice none 0 0), rd_but hr.row hN (fun x cap e hn => by cases e; exact hr.ne x rfl hn) (by omega), hr.le, hr.sm, hr.ne⟩
    have hx : Xs (w.setCell ⟨B, 2, none⟩ (.slice none 0 0)) B w.heap.size a n c L k [] := ⟨⟨_, hrd, World.ownsRow_nil _ _ _ _⟩, by simp, hlt, by rw [hsz]; exact Nat.le_refl _, fun x e hn => (by subst e; exact Rd.blk hr.row (by omega) x c rfl hn), htb.to hoff hlt hN, hoff, hok⟩
    exact ⟨by have := eith_any (B := B) (E := w.heap.size) (a := a) (n := n) (c := c) (L := L) (L.length + 1) _ k [] (by omega) hx; exact this, hN⟩
  obtain ⟨r, hr1⟩ : ∃ r, r = expF L n k := ⟨_, rfl⟩
  rw [← hr1] at HE ⊢
  clear hr htb hr1
  go_enter Tryd.func81, Tryd.ntmps81
  go_wp2_with fail
  refine calls_nm (fun W hW => ?_)
  obtain ⟨he, hN⟩ := HE.out W hW
  have HC := Lib.hid he
  have HN := Lib.hid hN
  have hWs : Hid (W.heap.size = w.heap.size) := by rw [hW]; show _ = _; simp
  clear he hN hW HE
  refine HC.out.mono ?_
  rintro e w1 ⟨hX, h1⟩
  have HB := Lib.hid (HN.out.trans (ButX.but (by rw [hWs.out]; exact hX)))
  clear hX HC
  rcases r with f0 | ⟨k1, os1⟩
  · obtain rfl : e = flt f0.1 f0.2 := h1
    exact ⟨rfl, HB.out, rfl⟩
  · obtain ⟨rfl, hx1⟩ := h1
    obtain ⟨ob, oc, z2, hR, hO⟩ := hx1.sl
    have HS := Lib.hid hx1
    have HR := Lib.hid hR
    have HO := Lib.hid hO
    clear hx1 hR hO
    go_wp2_with fail
    go_returns
    exact ⟨HB.out, _, _, rfl, HO.out, HS.out.few, ⟨_, HR.out⟩, HS.out.tb, hoff, hok⟩
theorem smay {w : World} {k : Nat} (h : Rs w B a n c L k) (s : ByteArray) :
    Calls Tryd.prog 50 #[.pointer (some ⟨B, 0, none⟩), .string s] w fun e w' => e = .returned (.bool (mayB L k s)) ∧ But B w w' ∧ Rs w' B a n c L (if mayB L k s then k + 1 else k) := by
  have hh := h
  obtain ⟨⟨ov, hr⟩, _⟩ := h
  refine (may_any w B a n c L k ov hr s).mono ?_
  rintro e w' ⟨rfl, h1, h2⟩
  exact ⟨rfl, h2, hh.go h2 h1⟩
theorem where_any (w : World) (k : Nat) (h : Rs w B a n c L k) : Calls Tryd.prog 57 #[.pointer (some ⟨B, 0, none⟩)] w (Xp w B a n c L (whereF L n k)) := by
  have HM0 := smay h sWHERE
  have HE : Hid (∀ W k, Rs W B a n c L k → Calls Tryd.prog 81 #[.pointer (some ⟨B, 0, none⟩)] W (Xp W B a n c L (expF L n k))) := fun W k hx => exp_any W k hx
  by_cases hm : mayB L k sWHERE = true
  · unfold whereF
    rw [if_pos hm]
    rw [hm] at HM0
    have HM := Lib.hid HM0
    obtain ⟨r, hr⟩ : ∃ r, r = expF L n (k + 1) := ⟨_, rfl⟩
    rw [← hr]
    have HR := Lib.hid hr
    clear h hm HM0 hr
    go_enter Tryd.func57, Tryd.ntmps57
    go_wp2_with fail
    refine HM.out.mono ?_
    rintro e w1 ⟨rfl, hN, hx⟩
    have hx : Rs w1 B a n c L (k + 1) := hx
    have HN := Lib.hid hN
    have HC := HE.out w1 (k + 1) hx
    rw [← HR.out] at HC
    have HC := Lib.hid HC
    clear hN hx HM HR HE
    go_wp2_with fail
    refine HC.out.mono ?_
    rintro e w2 ⟨hN2, h2⟩
    have HN2 := Lib.hid (HN.out.trans hN2)
    clear hN2 HC
    rcases r with f0 | ⟨k2, os2⟩
    · obtain rfl : e = flt f0.1 f0.2 := h2
      exact ⟨rfl, HN2.out, rfl⟩
    · obtain ⟨va, vc, rfl, ho, hl, hs⟩ := h2
      have HO := Lib.hid (own_mono ho HN.out.size)
      have HS := Lib.hid hs
      have HL := Lib.hid hl
      clear ho hs hl
      go_wp2_with fail
      go_returns
      exact ⟨HN2.out, _, _, rfl, HO.out, HL.out, HS.out⟩
  · have hm : mayB L k sWHERE = false := by simpa using hm
    unfold whereF
    rw [if_neg (by simp [hm])]
    rw [hm] at HM0
    have HM := Lib.hid HM0
    clear h hm HM0 HE
    go_enter Tryd.func57, Tryd.ntmps57
    go_wp2_with fail
    refine HM.out.mono ?_
    rintro e w1 ⟨rfl, hN, hx⟩
    have hx : Rs w1 B a n c L k := hx
    have HN := Lib.hid hN
    have HS := Lib.hid hx
    clear hN hx
    go_wp2_with fail
    go_returns
    exact ⟨HN.out, _, _, rfl, World.ownsRow_nil _ _ _ _, by simp, HS.out⟩
end
end Go.Proofs.YtdeollmeljaaoaaDoor.rd
/- A reader and the statement that it fills; a column's kind; lists with commas. -/
namespace Go.Proofs.YtdeollmeljaaoaaDoor.rd
open Go.ChangeShapes Go.WideShapes Go.ChangeAt Go.RowKit Go.Proofs.YtdeollmeljaaoaaDoor.cs
set_option linter.unusedVariables false
set_option linter.unusedSimpArgs false
set_option maxHeartbeats 4000000
set_option maxRecDepth 100000
/-- The types of the rows that a statement's lists grow in. -/
def Grows (T : TypeId) : Prop := T = 75 ∨ T = 50 ∨ T = 9
/-- All stands but for two boxes, and for rows of lists from E on. -/
structure ButS (B S E : Nat) (w w' : World) : Prop where
  os : w'.os = w.os
  tape : w'.tape = w.tape
  output : w'.output = w.output
  size : w.heap.size ≤ w'.heap.size
  block : ∀ k, k < w.heap.size → k ≠ B → k ≠ S → (k < E ∨ ∀ cs T fr, Grows T → w.heap[k]? ≠ some (.cells cs T fr)) → w'.heap[k]? = w.heap[k]?
theorem But.toS {B : Nat} (S E : Nat) {w w' : World} (h : But B w w') : ButS B S E w w' := ⟨h.os, h.tape, h.output, h.size, fun k hk hn _ _ => h.block k hk hn⟩
theorem But.toS' {S : Nat} (B E : Nat) {w w' : World} (h : But S w w') : ButS B S E w w' := ⟨h.os, h.tape, h.output, h.size, fun k hk _ hn _ => h.block k hk hn⟩
theorem ButS.refl (B S E : Nat) (w : World) : ButS B S E w w := (But.of (Below.refl _ _)).toS S E
theorem ButS.trans {B S E : Nat} {a b c : World} (h : ButS B S E a b) (g : ButS B S E b c) : ButS B S E a c :=
  ⟨g.os.trans h.os, g.tape.trans h.tape, g.output.trans h.output, Nat.le_trans h.size g.size, fun k hk hn hs ht => by
    have e := h.block k hk hn hs ht
    exact (g.block k (Nat.lt_of_lt_of_le hk h.size) hn hs (by rw [e]; exact ht)).trans e⟩
theorem ButS.keep {B S E k : Nat} {w w' : World} {cs : Array Value} {T : TypeId} {fr : Nat × Nat} (h : ButS B S E w w') (hk : k ≠ B) (hs : k ≠ S) (hT : ¬ Grows T) (hb : w.heap[k]? = some (.cells cs T fr)) : w'.heap[k]? = some (.cells cs T fr) :=
  (h.block k (blk_lt hb) hk hs (.inr (fun cs' T' fr' hg e => by rw [hb] at e; simp only [Option.some.injEq, Obj.cells.injEq] at e; exact hT (e.2.1 ▸ hg)))).trans hb
/-- What a statement's slices read as: rows of its own from E on. -/
structure StO (w : World) (E : Nat) (s : Sq) (p : Ps) : Prop where
  o2 : w.ownsRow E 75 2 (.slice p.a2 p.n2 p.c2) p.n2 (ccs s.cols)
  o3 : w.ownsRow E 50 3 (.slice p.a3 p.n3 p.c3) p.n3 (vc s.row)
  o4 : w.ownsRow E 9 1 (.slice p.a4 p.n4 p.c4) p.n4 (s.names.map Value.string)
  o6 : w.ownsRow E 54 5 (.slice p.a6 p.n6 p.c6) p.n6 (ocs s.wh)
  o11 : w.ownsRow E 54 5 (.slice p.a11 p.n11 p.c11) p.n11 (ocs s.to)
theorem StO.rd {w : World} {E : Nat} {s : Sq} {p : Ps} (h : StO w E s p) : StR w s p := ⟨Rd.own h.o2, Rd.own h.o3, Rd.own h.o4, Rd.own h.o6, Rd.own h.o11⟩
theorem own_far {w w' : World} {E e s n : Nat} {v : Value} {xs : List Value} (h : w.ownsRow E e s v n xs) (hb : ∀ g, v.ownBlock = some g → w'.heap[g]? = w.heap[g]?) : w'.ownsRow E e s v n xs := by
  refine ⟨h.1, ?_⟩
  rcases h.2 with h0 | ⟨g, cap, cur, hv, h1, h2, h3⟩
  · exact .inl h0
  · exact .inr ⟨g, cap, cur, hv, h1, (hb g (by rw [hv]; rfl)).trans h2, h3⟩
theorem StO.far {w w' : World} {E : Nat} {s : Sq} {p : Ps} (h : StO w E s p) (hb : ∀ k, E ≤ k → k < w.heap.size → w'.heap[k]? = w.heap[k]?) : StO w' E s p :=
  ⟨own_far h.o2 fun g hg => hb g (h.o2.lt g hg).1 (h.o2.lt g hg).2, own_far h.o3 fun g hg => hb g (h.o3.lt g hg).1 (h.o3.lt g hg).2, own_far h.o4 fun g hg => hb g (h.o4.lt g hg).1 (h.o4.lt g hg).2, own_far h.o6 fun g hg => hb g (h.o6.lt g hg).1 (h.o6.lt g hg).2, own_far h.o11 fun g hg => hb g (h.o11.lt g hg).1 (h.o11.lt g hg).2⟩
section
variable {B S E : Nat} {a : Option Addr} {n c : Nat} {L : List Tk}
/-- A reader in its box, a statement in another one. -/
structure Ss (w : World) (B S E : Nat) (a : Option Addr) (n c : Nat) (L : List Tk) (k : Nat) (s : Sq) (p : Ps) : Prop where
  rs : Rs w B a n c L k
  box : w.heap[S]? = some (.cells (stC s p) 33 (0, 0))
  own : StO w E s p
  ne : S ≠ B
  tok : ∀ x, a = some x → 0 < n → x.block ≠ S ∧ x.block < E
  off : Off S
  lb : B < E
  ls : S < E
  le : E ≤ w.heap.size
theorem Ss.go {w w' : World} {k k' : Nat} {s : Sq} {p : Ps} (h : Ss w B S E a n c L k s p) (hN : But B w w') (hr : Rs w' B a n c L k') : Ss w' B S E a n c L k' s p :=
  ⟨hr, (hN.block S (blk_lt h.box) h.ne).trans h.box, h.own.far fun k hk hl => hN.block k hl (by have := h.lb; omega), h.ne, h.tok, h.off, h.lb, h.ls, Nat.le_trans h.le hN.size⟩
theorem Ss.later {w w' : World} {k : Nat} {s : Sq} {p : Ps} (h : Ss w B S E a n c L k s p) (hb : Below w.heap.size w w') : Ss w' B S E a n c L k s p := h.go (But.of hb) (h.rs.later hb)
theorem Tbq.any {w w' : World} (h : Tbq w) {S : Nat} (o : Off S) (hb : ∀ k, k < S → k < w.heap.size → w'.heap[k]? = w.heap[k]?) : Tbq w' := by
  obtain ⟨⟨t1, r1, h1⟩, ⟨t2, r2, h2⟩, ⟨t3, r3, h3⟩, ⟨t4, r4, h4⟩, ⟨t5, r5, h5⟩, ⟨t6, r6, h6⟩⟩ := h
  exact ⟨⟨t1, r1, (hb _ o.m (blk_lt h1)).trans h1⟩, ⟨t2, r2, (hb _ o.k (blk_lt h2)).trans h2⟩, ⟨t3, r3, (hb _ o.d (blk_lt h3)).trans h3⟩, ⟨t4, r4, (hb _ o.s (blk_lt h4)).trans h4⟩, ⟨t5, r5, (hb _ o.c (blk_lt h5)).trans h5⟩, ⟨t6, r6, (hb _ o.x (blk_lt h6)).trans h6⟩⟩
/-- A reader, where all but another box stands. -/
theorem Rs.far {w w' : World} {k : Nat} (h : Rs w B a n c L k) (hN : But S w w') (hne : S ≠ B) (ht : ∀ x, a = some x → 0 < n → x.block ≠ S) (ho : Off S) : Rs w' B a n c L k := by
  obtain ⟨⟨ov, hr⟩, h1, h2, h3⟩ := h
  refine ⟨⟨ov, (hN.block B (heap_lt hr.box) (Ne.symm hne)).trans hr.box, rd_but hr.row hN (fun x cap e hn => by cases e; exact ht x rfl hn) (by omega), hr.le, hr.sm, hr.ne⟩, ?_, h2, h3⟩
  exact h1.any ho fun k hk hl => hN.block k hl (by omega)
/-- A field of the statement stored. -/
theorem Ss.put {w : World} {k : Nat} {s s' : Sq} {p p' : Ps} (h : Ss w B S E a n c L k s p) (i : Nat) (v : Value) (hc : (stC s p).setIfInBounds i v = stC s' p') (ho : StO w E s' p') : Ss (w.setCell ⟨S, i, none⟩ v) B S E a n c L k s' p' := by
  have hN := But.set w S i v
  refine ⟨h.rs.far hN h.ne (fun x e hn => (h.tok x e hn).1) h.off, ?_, ho.far fun k hk hl => hN.block k hl (by have := h.ls; omega), h.ne, h.tok, h.off, h.lb, h.ls, Nat.le_trans h.le hN.size⟩
  rw [← hc]
  exact Lib.heap_setCell_same h.box v
theorem Ss.x {w : World} {k : Nat} {s : Sq} {p : Ps} (h : Ss w B S E a n c L k s p) (i : Nat) (hi : i < 12) : w.cell? ⟨S, i, none⟩ = (stC s p)[i]? ∧ w.frozen? ⟨S, i, none⟩ = false := by
  constructor
  · simp only [World.cell?]; rw [h.box]; simp
  · simp only [World.frozen?]; rw [h.box]; simp
theorem smust {w : World} {k : Nat} (h : Rs w B a n c L k) {b : Nat} {ts : List ByteArray} (hk : w.heap[b]? = some (.cells (ts.map Value.string).toArray 9 (0, 0))) (hb : b ≠ B) (h0 : 0 < ts.length) (h9 : ts.length ≤ 9) :
    Calls Tryd.prog 52 #[.pointer (some ⟨B, 0, none⟩), .slice (some ⟨b, 0, none⟩) ts.length ts.length] w fun e w' => But B w w' ∧ match mustF L n k ts with
      | .inl f => e = flt f.1 f.2
      | .inr k' => e = .returned (.tuple #[]) ∧ Rs w' B a n c L k' := by
  have hh := h
  obtain ⟨⟨ov, hr⟩, _⟩ := h
  have hrd := rd_new hk (by simp; omega)
  rw [show (ts.map Value.string).length = ts.length by simp] at hrd
  refine (must_any w B a n c L k ov hr ts.length _ ts h0 hrd (fun x cap e hn => by cases e; exact hb)).mono ?_
  rintro e w' ⟨h1, h2⟩
  refine ⟨h1, ?_⟩
  cases hm : mustF L n k ts with
  | inl f =>
    rw [hm] at h2
    exact h2
  | inr k' =>
    rw [hm] at h2
    exact ⟨h2.1, hh.go h1 h2.2⟩
theorem slit {w : World} {k : Nat} (h : Rs w B a n c L k) :
    Calls Tryd.prog 78 #[.pointer (some ⟨B, 0, none⟩)] w fun e w' => But B w w' ∧ match litG L n k with
      | .inl f => e = flt f.1 f.2
      | .inr (v, k') => e = .returned (.tuple #[vV (v.getD v0).k (v.getD v0).n (v.getD v0).t, .bool v.isSome]) ∧ Rs w' B a n c L k' := by
  have hh := h
  obtain ⟨⟨ov, hr⟩, _⟩ := h
  refine (literal_any w hh.tb B (by have := hh.off.c; omega) a n c L k ov hr (hh.ok _).2.1 (hh.ok _).2.2).mono ?_
  rintro e w' ⟨h1, h2⟩
  refine ⟨h1, ?_⟩
  rw [litF_G] at h2
  rcases hm : litG L n k with f | ⟨v, k'⟩
  · rw [hm] at h2
    exact h2
  · rw [hm] at h2
    cases v with
    | none => exact ⟨h2.1, hh.go h1 h2.2⟩
    | some v => exact ⟨h2.1, hh.go h1 h2.2⟩
theorem sname {w : World} {k : Nat} (h : Rs w B a n c L k) :
    Calls Tryd.prog 53 #[.pointer (some ⟨B, 0, none⟩)] w fun e w' => But B w w' ∧ match nameG L n k with
      | .inl f => e = flt f.1 f.2
      | .inr (t, k') => e = .returned (.string t) ∧ Rs w' B a n c L k' := by
  have hh := h
  obtain ⟨⟨ov, hr⟩, _⟩ := h
  refine (rname_any w hh.tb B a n c L k ov hr (hh.ok _).1).mono ?_
  rintro e w' ⟨h1, h2⟩
  refine ⟨h1, ?_⟩
  rw [nameF_G] at h2
  rcases hm : nameG L n k with f | ⟨v, k'⟩
  · rw [hm] at h2
    exact h2
  · rw [hm] at h2
    exact ⟨h2.1, hh.go h1 h2.2⟩
theorem snum {w : World} {k : Nat} (h : Rs w B a n c L k) :
    Calls Tryd.prog 80 #[.pointer (some ⟨B, 0, none⟩)] w fun e w' => But B w w' ∧ match numG L n k with
      | .inl f => e = flt f.1 f.2
      | .inr (x, k') => e = .returned (.int .i64 x) ∧ Rs w' B a n c L k' := by
  have hh := h
  obtain ⟨⟨ov, hr⟩, _⟩ := h
  refine (number_any w B a n c L k ov hr).mono ?_
  rintro e w' ⟨h1, h2⟩
  refine ⟨h1, ?_⟩
  unfold numF at h2
  unfold numG
  by_cases h3 : (L.getD k tk0).k = 2
  · rw [if_pos h3] at h2 ⊢
    exact ⟨h2.1, hh.go h1 h2.2⟩
  · rw [if_neg h3] at h2 ⊢
    exact h2
theorem sgive {w : World} {k : Nat} (h : Rs w B a n c L k) (q : Int) :
    Calls Tryd.prog 58 #[.pointer (some ⟨B, 0, none⟩), .int .i64 q] w fun e w' => e = flt (fl n k q).1 (fl n k q).2 ∧ But B w w' := by
  obtain ⟨⟨ov, hr⟩, _⟩ := h
  refine (giveUp_any w B a n c L k ov hr q).mono ?_
  rintro e w' ⟨rfl, h2⟩
  exact ⟨rfl, But.of h2⟩
theorem sback {w : World} {k : Nat} (h : Rs w B a n c L k) (q : Int) :
    Calls Tryd.prog 75 #[.pointer (some ⟨B, 0, none⟩), .int .i64 q] w fun e w' => e = flt ((k : Int) - 1) q ∧ But B w w' := by
  obtain ⟨⟨ov, hr⟩, _⟩ := h
  refine (giveBack_any w B a n c L k ov hr q).mono ?_
  rintro e w' ⟨rfl, h2⟩
  exact ⟨rfl, But.of h2⟩
end
/-- Lists: whatever its things do. -/
theorem list_any {σ : Type} {B : Nat} {a : Option Addr} {n c : Nat} {L : List Tk} (Inv : World → Nat → σ → Prop) (Rl : World → World → Prop) (th : Nat → σ → F ⊕ (Nat × σ)) (f : FuncId) (x y : Value)
    (he : ∀ args w, (callFunc f args).run Tryd.prog w = .ok (.enter f args) w)
    (hI : ∀ W k s, Inv W k s → Rs W B a n c L k) (hm : ∀ W W' k k' s, Inv W k s → k ≤ k' → But B W W' → Rs W' B a n c L k' → Inv W' k' s) (hrl : ∀ W W', But B W W' → Rl W W') (htr : ∀ W1 W2 W3, Rl W1 W2 → Rl W2 W3 → Rl W1 W3)
    (hth : ∀ W k s, Inv W k s → Calls Tryd.prog f #[x, y] W fun e w' => Rl W w' ∧ match th k s with
      | .inl f => e = flt f.1 f.2
      | .inr (k', s') => e = .returned (.tuple #[]) ∧ Inv w' k' s')
    (w : World) (k : Nat) (s : σ) (h : Inv w k s) :
    Calls Tryd.prog 73 #[.pointer (some ⟨B, 0, none⟩), .func (.func f) #[] #[x, y]] w fun e w' => Rl w w' ∧ match listF L th k s with
      | .inl f => e = flt f.1 f.2
      | .inr (k', s') => e = .returned (.tuple #[]) ∧ Inv w' k' s' := by
  have HE := Lib.hid he
  have HT := Lib.hid hth
  have HMY : Hid (∀ W k s, Inv W k s → Calls Tryd.prog 50 #[.pointer (some ⟨B, 0, none⟩), .string sComma] W fun e w' => e = .returned (.bool (mayB L k sComma)) ∧ Rl W w' ∧ Inv w' (if mayB L k sComma then k + 1 else k) s) := fun W k s hx => by
    refine (smay (hI _ _ _ hx) sComma).mono ?_
    rintro e w' ⟨rfl, h1, h2⟩
    exact ⟨rfl, hrl _ _ h1, hm _ _ _ _ _ hx (by split <;> omega) h1 h2⟩
  have HGB : Hid (∀ W k s, Inv W k s → Calls Tryd.prog 75 #[.pointer (some ⟨B, 0, none⟩), .int .i64 10] W fun e w' => e = flt ((k : Int) - 1) 10 ∧ Rl W w') := fun W k s hx => by
    refine (sback (hI _ _ _ hx) 10).mono ?_
    rintro e w' ⟨rfl, h1⟩
    exact ⟨rfl, hrl _ _ h1⟩
  have HTR := Lib.hid htr
  obtain ⟨r0, hr0⟩ : ∃ r0, r0 = th k s := ⟨_, rfl⟩
  obtain ⟨r, hr⟩ : ∃ r, r = listF L th k s := ⟨_, rfl⟩
  have hq : r = bd r0 fun x => listL L th 5 x.1 x.2 := by rw [hr, hr0]; rfl
  have HC := hth w k s h
  rw [← hr0] at HC
  rw [← hr]
  have HC := Lib.hid HC
  have HQ := Lib.hid hq
  clear he hI hm hrl htr hth h hr0 hr hq
  go_enter Tryd.func73, Tryd.ntmps73
  go_wp2_with fail
  rw [HE.out, Oper.upon_enter]
  refine HC.out.mono ?_
  rintro e w1 ⟨hX1, hr1⟩
  have HX1 := Lib.hid hX1
  clear hX1
  rcases r0 with f0 | ⟨k1, s1⟩
  · obtain rfl : e = flt f0.1 f0.2 := hr1
    obtain rfl : r = .inl f0 := HQ.out
    exact ⟨rfl, HX1.out, rfl⟩
  · obtain ⟨rfl, hx1⟩ := hr1
    have HQ1 : Hid (r = listL L th 5 k1 s1) := HQ.out
    have HS1 := Lib.hid hx1
    clear hx1 HQ HC
    go_wp2_with fail
    go_loopg [4] 5 (fun u t4 wr => ∃ (k1 : Nat) (s1 : σ) (j : Nat), t4 = .int .i64 (j : Int) ∧ j + u = 6 ∧ Hid (r = listL L th u k1 s1) ∧ Hid (Rl w wr) ∧ Hid (Inv wr k1 s1))
    case atStart => exact ⟨k1, s1, 1, rfl, rfl, HQ1, HX1, HS1⟩
    case round =>
      obtain ⟨k2, s2, j, rfl, hj, HQ2, HX2, HS2⟩ := hrel
      have HM0 := HMY.out wr k2 s2 HS2.out
      by_cases hmm : mayB L k2 sComma = true
      · rw [hmm] at HM0
        have HM := Lib.hid HM0
        clear HM0
        cases gk with
        | zero =>
          obtain rfl : j = 6 := by omega
          have HR : Hid (r = .inl ((k2 : Int), 10)) := by show _ = _; rw [HQ2.out]; show (if mayB L k2 sComma then _ else _) = _; rw [if_pos hmm]
          clear HQ2 hmm
          go_wp2_with fail
          refine HM.out.mono ?_
          rintro e w3 ⟨rfl, hX, hx⟩
          have hx : Inv w3 (k2 + 1) s2 := hx
          have HX3 := Lib.hid (HTR.out _ _ _ HX2.out hX)
          have HG := Lib.hid (HGB.out w3 (k2 + 1) s2 hx)
          clear hX hx HM
          go_wp2_with fail
          refine HG.out.mono ?_
          rintro e w4 ⟨rfl, hX4⟩
          obtain rfl : r = .inl ((k2 : Int), 10) := HR.out
          refine ⟨rfl, HTR.out _ _ _ HX3.out hX4, ?_⟩
          rw [show ((k2 + 1 : Nat) : Int) - 1 = (k2 : Int) by omega]
        | succ u =>
          have hj6 : ((j : Int) == 6) = false := by simp; omega
          have hj7 : ¬ (j : Int) = 6 := by omega
          have HR : Hid (r = bd (th (k2 + 1) s2) fun x => listL L th u x.1 x.2) := by show _ = _; rw [HQ2.out]; show (if mayB L k2 sComma then _ else _) = _; rw [if_pos hmm]
          clear HQ2 hmm
          obtain ⟨r1, hr1⟩ : ∃ r1, r1 = th (k2 + 1) s2 := ⟨_, rfl⟩
          rw [← hr1] at HR
          have HRR := Lib.hid hr1
          clear hr1
          go_wp2_with fail
          refine HM.out.mono ?_
          rintro e w3 ⟨rfl, hX, hx⟩
          have hx : Inv w3 (k2 + 1) s2 := hx
          have HX3 := Lib.hid (HTR.out _ _ _ HX2.out hX)
          have HC := HT.out w3 (k2 + 1) s2 hx
          rw [← HRR.out] at HC
          have HC := Lib.hid HC
          clear hX hx HM HRR
          go_wp2_with fail
          rw [HE.out, Oper.upon_enter]
          refine HC.out.mono ?_
          rintro e w4 ⟨hX4, h4⟩
          have HX4 := Lib.hid (HTR.out _ _ _ HX3.out hX4)
          clear hX4 HC
          rcases r1 with f0 | ⟨k4, s4⟩
          · obtain rfl : e = flt f0.1 f0.2 := h4
            obtain rfl : r = .inl f0 := HR.out
            exact ⟨rfl, HX4.out, rfl⟩
          · obtain ⟨rfl, hx4⟩ := h4
            have HR4 : Hid (r = listL L th u k4 s4) := HR.out
            have HS4 := Lib.hid hx4
            clear hx4 HR
            go_wp2_with fail
            go_roundg u
            case measure => exact Nat.lt_succ_self u
            case rel => exact ⟨k4, s4, j + 1, by go_num, by omega, HR4, HX4, HS4⟩
      · have hmm : mayB L k2 sComma = false := by simpa using hmm
        rw [hmm] at HM0
        have HM := Lib.hid HM0
        have hr : r = .inr (k2, s2) := by
          rw [HQ2.out]
          cases gk with
          | zero => show (if mayB L k2 sComma then _ else _) = _; rw [if_neg (by simp [hmm])]
          | succ u => show (if mayB L k2 sComma then _ else _) = _; rw [if_neg (by simp [hmm])]
        subst hr
        clear HM0 HQ2 hmm
        go_wp2_with fail
        refine HM.out.mono ?_
        rintro e w3 ⟨rfl, hX, hx⟩
        have hx : Inv w3 k2 s2 := hx
        have HX3 := Lib.hid (HTR.out _ _ _ HX2.out hX)
        have HS3 := Lib.hid hx
        clear hX hx HM
        go_wp2_with fail
        go_returns
        exact ⟨HX3.out, rfl, HS3.out⟩
end Go.Proofs.YtdeollmeljaaoaaDoor.rd
