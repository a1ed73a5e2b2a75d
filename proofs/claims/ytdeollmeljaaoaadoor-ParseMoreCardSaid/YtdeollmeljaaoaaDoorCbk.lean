import Derived.Test.YtdeollmeljaaoaaDoorQrk
import Derived.Test.YtdeollmeljaaoaaDoorUgk
import Derived.Deep.RegionHeld3
import Derived.Deep.RegionWith
import Derived.Deep.RegionLaw
set_option linter.unusedVariables false
set_option linter.unusedSimpArgs false
set_option maxHeartbeats 8000000
set_option maxRecDepth 1000000
open Go.ChangeAt Go.ChangeShapes Go.RowKit Go.WideShapes
open Go.Lib (hid)
namespace Go.Proofs.YtdeollmeljaaoaaDoor.cs
structure Ps where
 a2 : Option Addr
 n2 : Nat
 c2 : Nat
 a3 : Option Addr
 n3 : Nat
 c3 : Nat
 a4 : Option Addr
 n4 : Nat
 c4 : Nat
 a6 : Option Addr
 n6 : Nat
 c6 : Nat
 a11 : Option Addr
 n11 : Nat
 c11 : Nat
abbrev stC (s : Sq) (p : Ps) : Array Value := #[.int .i64 s.k, .string s.t, .slice p.a2 p.n2 p.c2, .slice p.a3 p.n3 p.c3, .slice p.a4 p.n4 p.c4, .bool s.cnt, .slice p.a6 p.n6 p.c6, .string s.ord, .bool s.dn, .int .i64 s.lim, .string s.st, .slice p.a11 p.n11 p.c11]
abbrev stV (s : Sq) (p : Ps) : Value := .agg (stC s p)
structure StR (w : World) (s : Sq) (p : Ps) : Prop where
 r2 : Rd w 2 p.n2 (.slice p.a2 p.n2 p.c2) (ccs s.cols)
 r3 : Rd w 3 p.n3 (.slice p.a3 p.n3 p.c3) (vc s.row)
 r4 : Rd w 1 p.n4 (.slice p.a4 p.n4 p.c4) (s.names.map Value.string)
 r6 : Rd w 5 p.n6 (.slice p.a6 p.n6 p.c6) (ocs s.wh)
 r11 : Rd w 5 p.n11 (.slice p.a11 p.n11 p.c11) (ocs s.to)
theorem len_s {w : World} {n : Nat} {v : Value} {l : List ByteArray} (h : Rd w 1 n v (l.map Value.string)) : n = l.length := by have := h.1; simp at this; omega
theorem StR.lens {w : World} {s : Sq} {p : Ps} (h : StR w s p) : p.n2 = s.cols.length ∧ p.n3 = s.row.length ∧ p.n4 = s.names.length ∧ p.n6 = s.wh.length ∧ p.n11 = s.to.length :=
 ⟨len_c h.r2, len_v h.r3, len_s h.r4, len_o h.r6, len_o h.r11⟩
theorem StR.below {w w' : World} {s : Sq} {p : Ps} (h : StR w s p) (hb : Below w.heap.size w w') : StR w' s p := ⟨h.r2.below hb, h.r3.below hb, h.r4.below hb, h.r6.below hb, h.r11.below hb⟩
structure SqZ (s : Sq) : Prop where
 t : s.t.size ≤ maxLen
 o : s.ord.size ≤ maxLen
 e : s.st.size ≤ maxLen
 c : ∀ o ∈ s.cols, o.t.size ≤ maxLen
 r : ∀ o ∈ s.row, (Lit.int .i64 o.n).wf = true ∧ o.t.size ≤ maxLen
 n : ∀ o ∈ s.names, o.size ≤ maxLen
 h : ∀ o ∈ s.wh, (Lit.int .i64 o.v.n).wf = true ∧ o.v.t.size ≤ maxLen ∧ o.t.size ≤ maxLen
 x : ∀ o ∈ s.to, (Lit.int .i64 o.v.n).wf = true ∧ o.v.t.size ≤ maxLen ∧ o.t.size ≤ maxLen
structure StB (w : World) (B : Nat) (s : Sq) (p : Ps) : Prop where
 c0 : w.cell? ⟨B, 0, none⟩ = some (.int .i64 s.k)
 c1 : w.cell? ⟨B, 1, none⟩ = some (.string s.t)
 c2 : w.cell? ⟨B, 2, none⟩ = some (.slice p.a2 p.n2 p.c2)
 c3 : w.cell? ⟨B, 3, none⟩ = some (.slice p.a3 p.n3 p.c3)
 c4 : w.cell? ⟨B, 4, none⟩ = some (.slice p.a4 p.n4 p.c4)
 c5 : w.cell? ⟨B, 5, none⟩ = some (.bool s.cnt)
 c6 : w.cell? ⟨B, 6, none⟩ = some (.slice p.a6 p.n6 p.c6)
 c7 : w.cell? ⟨B, 7, none⟩ = some (.string s.ord)
 c8 : w.cell? ⟨B, 8, none⟩ = some (.bool s.dn)
 c9 : w.cell? ⟨B, 9, none⟩ = some (.int .i64 s.lim)
 c10 : w.cell? ⟨B, 10, none⟩ = some (.string s.st)
 c11 : w.cell? ⟨B, 11, none⟩ = some (.slice p.a11 p.n11 p.c11)
theorem StB.new (w : World) (s : Sq) (p : Ps) {w1 : World} (hb : Below (w.alloc (.cells (stC s p) 33)).heap.size (w.alloc (.cells (stC s p) 33)) w1) : StB w1 w.heap.size s p := by
 have h1 : w1.heap[w.heap.size]? = some (.cells (stC s p) 33 (0, 0)) := (hb.block w.heap.size (by simp)).trans (new0 _ _)
 refine ⟨?_, ?_, ?_, ?_, ?_, ?_, ?_, ?_, ?_, ?_, ?_, ?_⟩ <;> simp [World.cell?, h1]
theorem StB.below {w w' : World} {B : Nat} {s : Sq} {p : Ps} (h : StB w B s p) (hb : Below w.heap.size w w') : StB w' B s p := by
 obtain ⟨c0, c1, c2, c3, c4, c5, c6, c7, c8, c9, c10, c11⟩ := h
 refine ⟨?_, ?_, ?_, ?_, ?_, ?_, ?_, ?_, ?_, ?_, ?_, ?_⟩
 ·exact cell_blz hb c0
 ·exact cell_blz hb c1
 ·exact cell_blz hb c2
 ·exact cell_blz hb c3
 ·exact cell_blz hb c4
 ·exact cell_blz hb c5
 ·exact cell_blz hb c6
 ·exact cell_blz hb c7
 ·exact cell_blz hb c8
 ·exact cell_blz hb c9
 ·exact cell_blz hb c10
 ·exact cell_blz hb c11
theorem vgetD_mem {l : List V} {k : Nat} (h : k < l.length) : l.getD k nul ∈ l := by
 rw [List.getD, List.getElem?_eq_getElem h]
 exact List.getElem_mem h
theorem sdrop_cons {l : List ByteArray} {k : Nat} (h : k < l.length) : l.drop k = l.getD k nby :: l.drop (k + 1) := by
 rw [List.drop_eq_getElem_cons h]
 simp [List.getD, List.getElem?_eq_getElem h]
theorem checkRow_any (w : World) (n : Nat) (v : Value) (l : List V) (hr : Rd w 3 n v (vc l)) :
  Calls Tryd.prog 44 #[v] w fun e w' => e = .returned (.int .i64 (insF l)) ∧ Below w.heap.size w w' := by
 have hml := len_v hr
 have hmax := hr.len
 unfold maxLen at hmax
 have HR := hid hr
 obtain ⟨_, ao, cap, rfl, hcap, _⟩ := hr
 by_cases h1 : n < 1 ∨ 6 < n
 ·have HF : Hid (insF l = 1) := by
   show _ = _
   unfold insF
   rw [if_pos (by omega)]
  clear hml HR
  go_enter Tryd.func44, Tryd.ntmps44
  go_wp2_with fail
  all_goals (go_ret; exact ⟨ri HF.out.symm, Below.refl _ _⟩)
 ·have HF : Hid (insF l = rowL l) := by
   show _ = _
   unfold insF
   rw [if_neg (by omega)]
  obtain ⟨_, b, o, cap', hv, _, _, hbw, hcell⟩ := vals_of HR.out (by omega)
  simp only [Value.slice.injEq] at hv
  obtain ⟨rfl, -, rfl⟩ := hv
  have HC := hid hcell
  have HN := hid hml
  clear hcell hml
  go_enter Tryd.func44, Tryd.ntmps44
  go_wp2_with fail
  go_loopw [16] (fun i wr => ∃ k : Nat, k ≤ n ∧ i = .int .i64 (k : Int) ∧ Hid (rowL l = rowL (l.drop k)) ∧ Hid (Below w.heap.size w wr)) (fun i _ => n - (intOf i).toNat)
  case atStart => exact ⟨0, by omega, rfl, by simp [Hid], Below.refl _ _⟩
  case round =>
   obtain ⟨k, hk, rfl, HE, HB⟩ := hrel
   by_cases hlt : k < n
   ·obtain ⟨g0, g1, g2⟩ := HC.out k hlt
    have c0 := (HB.out.cell (p := ⟨b, o + k * 3, none⟩) hbw).trans g0
    have c1 := (HB.out.cell (p := ⟨b, o + k * 3 + 1, none⟩) hbw).trans g1
    have c2 := (HB.out.cell (p := ⟨b, o + k * 3 + 2, none⟩) hbw).trans g2
    have hll : k < l.length := by rw [← HN.out]; exact hlt
    have hdr := vdrop_cons hll
    obtain ⟨u, hu⟩ : ∃ u, u = l.getD k nul := ⟨_, rfl⟩
    rw [← hu] at c0 c1 c2 hdr
    clear g0 g1 g2 hu hll
    obtain ⟨uk, un, ut⟩ := u
    simp only at c0 c1 c2
    have hlc := fun W => lit_any uk un ut W
    have hE : rowL (l.drop k) = if litF uk un ut ≠ 0 then litF uk un ut else rowL (l.drop (k + 1)) := by rw [hdr]; rfl
    obtain ⟨r, hr⟩ : ∃ r, r = litF uk un ut := ⟨_, rfl⟩
    rw [← hr] at hlc hE
    have HL := hid hlc
    have HEQ := hid hE
    clear hE hr hdr hlc
    by_cases hr0 : r = 0
    ·subst hr0
     go_wp2_with (go_at_call 66; ((with_reducible refine (HL.out _).mono ?_); rintro e w2 ⟨rfl, hb2⟩; have HB2 := hid (into (HB.out.alloc HB.out.size _) hb2); clear hb2))
     go_roundw
     case rel => exact ⟨k + 1, by omega, by go_num, by show _ = _; rw [HE.out, HEQ.out]; rfl, HB2.out⟩
     case measure => simp [intOf]; omega
    ·have hr0' : (r == 0) = false := by simpa using hr0
     go_wp2_with (go_at_call 66; ((with_reducible refine (HL.out _).mono ?_); rintro e w2 ⟨rfl, hb2⟩; have HB2 := hid (into (HB.out.alloc HB.out.size _) hb2); clear hb2))
     go_ret
     exact ⟨ri (by rw [HF.out, HE.out, HEQ.out, if_pos hr0]), HB2.out⟩
   ·obtain rfl : k = n := by omega
    have HG : Hid (insF l = 0) := by
     show _ = _
     rw [HF.out, HE.out, List.drop_eq_nil_of_le (by rw [← HN.out]; exact Nat.le_refl _)]
     rfl
    go_wp2_with fail
    go_ret
    exact ⟨ri HG.out.symm, HB.out⟩
theorem checkWhere_any (w : World) (hT : Tbs w) (n : Nat) (v : Value) (l : List Oq) (hr : Rd w 5 n v (ocs l)) (hs : ∀ o ∈ l, o.t.size ≤ maxLen) :
  Calls Tryd.prog 48 #[v] w fun e w' => e = .returned (.int .i64 (whF l)) ∧ Below w.heap.size w w' := by
 have hml := len_o hr
 have hc := expr_any w hT.m hT.k hT.o n v l hr hs
 obtain ⟨_, ao, cap, rfl, _⟩ := hr
 by_cases h0 : n = 0
 ·have HF : Hid (whF l = 0) := by
   show _ = _
   unfold whF
   rw [if_pos (by omega)]
  subst h0
  clear hml hc
  go_enter Tryd.func48, Tryd.ntmps48
  go_wp2_with fail
  go_ret
  exact ⟨ri HF.out.symm, Below.refl _ _⟩
 ·have HF : Hid (whF l = exprF l) := by
   show _ = _
   unfold whF
   rw [if_neg (by omega)]
  rw [← HF.out] at hc
  have HC := hid hc
  have hn : ¬ (n : Int) = 0 := by omega
  clear hml hc HF h0
  go_enter Tryd.func48, Tryd.ntmps48
  go_wp2_with fail
  refine HC.out.mono ?_
  rintro e w1 ⟨rfl, hb1⟩
  go_wp2_with fail
  go_ret
  exact ⟨rfl, hb1⟩
theorem firstOf_any (w : World) (a b c : Int) (B : Nat) (h0 : w.cell? ⟨B, 0, none⟩ = some (.int .i64 a)) (h1 : w.cell? ⟨B, 1, none⟩ = some (.int .i64 b)) (h2 : w.cell? ⟨B, 2, none⟩ = some (.int .i64 c)) :
  Calls Tryd.prog 46 #[.slice (some ⟨B, 0, none⟩) 3 3] w fun e w' => e = .returned (.int .i64 (f3 a b c)) ∧ w = w' := by
 have hF : f3 a b c = if a ≠ 0 then a else if b ≠ 0 then b else c := rfl
 have HF := hid hF
 clear hF
 by_cases ha : a = 0
 ·subst ha
  by_cases hb : b = 0
  ·subst hb
   by_cases hc : c = 0
   ·subst hc
    go_enter Tryd.func46, Tryd.ntmps46
    go_wp2_with fail
    go_rounds 4
    go_ret
    exact ⟨ri (by rw [HF.out]; rfl), rfl⟩
   ·have hc' : (c == 0) = false := by simpa using hc
    go_enter Tryd.func46, Tryd.ntmps46
    go_wp2_with fail
    go_rounds 3
    go_ret
    exact ⟨ri (by rw [HF.out]; rfl), rfl⟩
  ·have hb' : (b == 0) = false := by simpa using hb
   go_enter Tryd.func46, Tryd.ntmps46
   go_wp2_with fail
   go_rounds 2
   go_ret
   exact ⟨ri (by rw [HF.out, if_neg (by simp), if_pos hb]), rfl⟩
 ·have ha' : (a == 0) = false := by simpa using ha
  go_enter Tryd.func46, Tryd.ntmps46
  go_wp2_with fail
  go_rounds 1
  go_ret
  exact ⟨ri (by rw [HF.out, if_pos ha]), rfl⟩
theorem rd_lit3 (w : World) (a b c : ByteArray) (B : Nat) (hB : w.heap.size = B) : Rd (w.alloc (.cells #[.string a, .string b, .string c] 9)) 1 3 (.slice (some ⟨B, 0, none⟩) 3 3) ([a, b, c].map Value.string) := by
 subst hB
 exact Rd.own (World.ownsRow_lit (base := w.heap.size) w #[.string a, .string b, .string c] 3 (Nat.le_refl _) (by unfold maxLen; omega) rfl)
theorem rd_lit5 (w : World) (a b c d e : ByteArray) (B : Nat) (hB : w.heap.size = B) : Rd (w.alloc (.cells #[.string a, .string b, .string c, .string d, .string e] 9)) 1 5 (.slice (some ⟨B, 0, none⟩) 5 5) ([a, b, c, d, e].map Value.string) := by
 subst hB
 exact Rd.own (World.ownsRow_lit (base := w.heap.size) w #[.string a, .string b, .string c, .string d, .string e] 5 (Nat.le_refl _) (by unfold maxLen; omega) rfl)
theorem rd_sl2 (w : World) (a b : Value) (B : Nat) (hB : w.heap.size = B) : Rd (w.alloc (.cells #[a, b] 35)) 1 2 (.slice (some ⟨B, 0, none⟩) 2 2) [a, b] := by
 subst hB
 exact Rd.own (World.ownsRow_lit (base := w.heap.size) w #[a, b] 2 (Nat.le_refl _) (by unfold maxLen; omega) rfl)
theorem rd_sl4 (w : World) (a b c d : Value) (B : Nat) (hB : w.heap.size = B) : Rd (w.alloc (.cells #[a, b, c, d] 35)) 1 4 (.slice (some ⟨B, 0, none⟩) 4 4) [a, b, c, d] := by
 subst hB
 exact Rd.own (World.ownsRow_lit (base := w.heap.size) w #[a, b, c, d] 4 (Nat.le_refl _) (by unfold maxLen; omega) rfl)
theorem rd_sl5 (w : World) (a b c d e : Value) (B : Nat) (hB : w.heap.size = B) : Rd (w.alloc (.cells #[a, b, c, d, e] 35)) 1 5 (.slice (some ⟨B, 0, none⟩) 5 5) [a, b, c, d, e] := by
 subst hB
 exact Rd.own (World.ownsRow_lit (base := w.heap.size) w #[a, b, c, d, e] 5 (Nat.le_refl _) (by unfold maxLen; omega) rfl)
theorem concat2 (w : World) (v v1 v2 : Value) (l1 l2 : List Tk) (n1 n2 : Nat) (hr : Rd w 1 2 v [v1, v2]) (h1 : Rd w 3 n1 v1 (tkc l1)) (h2 : Rd w 3 n2 v2 (tkc l2)) (hT : l1.length + (l2.length) ≤ 1000000) :
  Calls Tryd.prog 33 #[v] w (ToksIs (l1 ++ l2) w) := by
 have q1 : n1 = l1.length := by have := h1.1; rw [tkc_length] at this; omega
 have q2 : n2 = l2.length := by have := h2.1; rw [tkc_length] at this; omega
 subst q1 q2
 have e : ptl [⟨v1, l1⟩, ⟨v2, l2⟩] = (l1 ++ l2) := by simp [ptl]
 refine (concat_any w 2 v [⟨v1, l1⟩, ⟨v2, l2⟩] (by omega) (by omega) hr ?_ (by rw [e]; simp only [List.length_append]; exact hT)).mono ?_
 ·intro p hp
  simp only [List.mem_cons, List.not_mem_nil, or_false] at hp
  rcases hp with rfl | rfl
  ·exact h1
  ·exact h2
 ·rintro e' w' ⟨v', g1, g2, g3⟩
  rw [e] at g2
  exact ⟨v', g1, g2, g3⟩
theorem concat4 (w : World) (v v1 v2 v3 v4 : Value) (l1 l2 l3 l4 : List Tk) (n1 n2 n3 n4 : Nat) (hr : Rd w 1 4 v [v1, v2, v3, v4]) (h1 : Rd w 3 n1 v1 (tkc l1)) (h2 : Rd w 3 n2 v2 (tkc l2)) (h3 : Rd w 3 n3 v3 (tkc l3)) (h4 : Rd w 3 n4 v4 (tkc l4)) (hT : l1.length + (l2.length + (l3.length + (l4.length))) ≤ 1000000) :
  Calls Tryd.prog 33 #[v] w (ToksIs (l1 ++ (l2 ++ (l3 ++ l4))) w) := by
 have q1 : n1 = l1.length := by have := h1.1; rw [tkc_length] at this; omega
 have q2 : n2 = l2.length := by have := h2.1; rw [tkc_length] at this; omega
 have q3 : n3 = l3.length := by have := h3.1; rw [tkc_length] at this; omega
 have q4 : n4 = l4.length := by have := h4.1; rw [tkc_length] at this; omega
 subst q1 q2 q3 q4
 have e : ptl [⟨v1, l1⟩, ⟨v2, l2⟩, ⟨v3, l3⟩, ⟨v4, l4⟩] = (l1 ++ (l2 ++ (l3 ++ l4))) := by simp [ptl]
 refine (concat_any w 4 v [⟨v1, l1⟩, ⟨v2, l2⟩, ⟨v3, l3⟩, ⟨v4, l4⟩] (by omega) (by omega) hr ?_ (by rw [e]; simp only [List.length_append]; exact hT)).mono ?_
 ·intro p hp
  simp only [List.mem_cons, List.not_mem_nil, or_false] at hp
  rcases hp with rfl | rfl | rfl | rfl
  ·exact h1
  ·exact h2
  ·exact h3
  ·exact h4
 ·rintro e' w' ⟨v', g1, g2, g3⟩
  rw [e] at g2
  exact ⟨v', g1, g2, g3⟩
theorem concat5 (w : World) (v v1 v2 v3 v4 v5 : Value) (l1 l2 l3 l4 l5 : List Tk) (n1 n2 n3 n4 n5 : Nat) (hr : Rd w 1 5 v [v1, v2, v3, v4, v5]) (h1 : Rd w 3 n1 v1 (tkc l1)) (h2 : Rd w 3 n2 v2 (tkc l2)) (h3 : Rd w 3 n3 v3 (tkc l3)) (h4 : Rd w 3 n4 v4 (tkc l4)) (h5 : Rd w 3 n5 v5 (tkc l5)) (hT : l1.length + (l2.length + (l3.length + (l4.length + (l5.length)))) ≤ 1000000) :
  Calls Tryd.prog 33 #[v] w (ToksIs (l1 ++ (l2 ++ (l3 ++ (l4 ++ l5)))) w) := by
 have q1 : n1 = l1.length := by have := h1.1; rw [tkc_length] at this; omega
 have q2 : n2 = l2.length := by have := h2.1; rw [tkc_length] at this; omega
 have q3 : n3 = l3.length := by have := h3.1; rw [tkc_length] at this; omega
 have q4 : n4 = l4.length := by have := h4.1; rw [tkc_length] at this; omega
 have q5 : n5 = l5.length := by have := h5.1; rw [tkc_length] at this; omega
 subst q1 q2 q3 q4 q5
 have e : ptl [⟨v1, l1⟩, ⟨v2, l2⟩, ⟨v3, l3⟩, ⟨v4, l4⟩, ⟨v5, l5⟩] = (l1 ++ (l2 ++ (l3 ++ (l4 ++ l5)))) := by simp [ptl]
 refine (concat_any w 5 v [⟨v1, l1⟩, ⟨v2, l2⟩, ⟨v3, l3⟩, ⟨v4, l4⟩, ⟨v5, l5⟩] (by omega) (by omega) hr ?_ (by rw [e]; simp only [List.length_append]; exact hT)).mono ?_
 ·intro p hp
  simp only [List.mem_cons, List.not_mem_nil, or_false] at hp
  rcases hp with rfl | rfl | rfl | rfl | rfl
  ·exact h1
  ·exact h2
  ·exact h3
  ·exact h4
  ·exact h5
 ·rintro e' w' ⟨v', g1, g2, g3⟩
  rw [e] at g2
  exact ⟨v', g1, g2, g3⟩
theorem op7 (Q : Exit → Act → World → Prop) {c0 c3 c4 c5 c6 c7 c8 c9 c10 c11 c12 c13 c14 c15 c16 c17 c18 c19 c20 c21 c22 c23 c24 c25 c26 c27 c28 c29 c30 c31 c32 c33 c34 c35 c36 c37 c38 c39 c40 c41 c42 c43 c44 c45 c46 c47 c48 c49 c50 c51 c52 c53 c54 c55 c56 c57 : Value} (w0 : World) (P : Nat) (hP : P < w0.heap.size) (b o cap : Nat) (a0 : Option Addr) (n0 d0 : Nat) (A : List Tk) 
  (p0 : w0.cell? ⟨b, o, none⟩ = some (.slice a0 n0 d0))
  (r0 : Rd w0 3 n0 (.slice a0 n0 d0) (tkc A))
  (HPA : Hid (∀ W B, Below w0.heap.size w0 W → Rd W 1 2 (.slice (some ⟨B, 0, none⟩) 2 2) ([sOpen, sNOT].map Value.string) → Calls Tryd.prog 34 #[.slice (some ⟨B, 0, none⟩) 2 2] W (ToksIs [ptk sOpen, ptk sNOT] W)))
  (HPB : Hid (∀ W B, Below w0.heap.size w0 W → Rd W 1 1 (.slice (some ⟨B, 0, none⟩) 1 1) ([sClose].map Value.string) → Calls Tryd.prog 34 #[.slice (some ⟨B, 0, none⟩) 1 1] W (ToksIs [ptk sClose] W)))
  (HLN : Hid ([ptk sOpen, ptk sNOT].length + (A.length + ([ptk sClose].length)) ≤ 1000000))
  (hout : Hid (∀ (u20 u21 u22 u23 u24 u25 u26 u27 u28 : Value) (vout : Value) (w' : World), ToksIs ([ptk sOpen, ptk sNOT] ++ (A ++ [ptk sClose])) w0 (.returned vout) w' → Q .normal ⟨List.toArray (c0 :: (.slice (some ⟨b, o, none⟩) 1 cap) :: (.pointer (some ⟨P, 0, none⟩)) :: c3 :: vout :: c5 :: c6 :: c7 :: c8 :: c9 :: c10 :: c11 :: c12 :: c13 :: c14 :: c15 :: c16 :: c17 :: c18 :: c19 :: u20 :: u21 :: u22 :: u23 :: u24 :: u25 :: u26 :: u27 :: u28 :: c29 :: c30 :: c31 :: c32 :: c33 :: c34 :: c35 :: c36 :: c37 :: c38 :: c39 :: c40 :: c41 :: c42 :: c43 :: c44 :: c45 :: c46 :: c47 :: c48 :: c49 :: c50 :: c51 :: c52 :: c53 :: c54 :: c55 :: c56 :: c57 :: []), []⟩ w')) :
  Code.wp Tryd.prog ((regionOf 7 (Tryd.f64.body.getD .skip)).getD .skip) Q ⟨List.toArray (c0 :: (.slice (some ⟨b, o, none⟩) 1 cap) :: (.pointer (some ⟨P, 0, none⟩)) :: c3 :: c4 :: c5 :: c6 :: c7 :: c8 :: c9 :: c10 :: c11 :: c12 :: c13 :: c14 :: c15 :: c16 :: c17 :: c18 :: c19 :: c20 :: c21 :: c22 :: c23 :: c24 :: c25 :: c26 :: c27 :: c28 :: c29 :: c30 :: c31 :: c32 :: c33 :: c34 :: c35 :: c36 :: c37 :: c38 :: c39 :: c40 :: c41 :: c42 :: c43 :: c44 :: c45 :: c46 :: c47 :: c48 :: c49 :: c50 :: c51 :: c52 :: c53 :: c54 :: c55 :: c56 :: c57 :: []), []⟩ w0 := by
 refine Code.wp_mono (Q := NQ Q) nq_to ?_
 conv => arg 2; whnf
 have hB0 : Below w0.heap.size w0 w0 := Below.refl _ _
 go_region_held3 (fun wx => wx.cell? ⟨b, o, none⟩ = some (.slice a0 n0 d0))
  ((repeat' (first | (with_reducible assumption) | (with_reducible refine cell_dr ?_) | (with_reducible refine cell_al _ ?_) | (with_reducible refine cell_of_below hbz ?_) | (with_reducible refine cell_of_below hbB ?_) | (with_reducible refine cell_of_below hbA ?_))))
  ((first
   | (go_at_call 34; (with_reducible refine (HPA.out _ _ (by go_grown) (by ((repeat' (first | (with_reducible assumption) | (with_reducible refine rd_lit1 _ _ _ ?_) | (with_reducible refine rd_lit2 _ _ _ _ ?_) | (with_reducible refine rd_sl3 _ _ _ _ _ ?_) | (with_reducible refine Rd.below ?_ hbz) | (with_reducible refine Rd.below ?_ hbB) | (with_reducible refine Rd.below ?_ hbA) | (with_reducible refine rd_drew ?_) | (with_reducible refine rd_alloc ?_ _) | (simp; done))); (first | done | fail)))).mono ?_); rintro e wA ⟨vA, rfl, hownA, hbA⟩; obtain ⟨aA, qA, rfl⟩ := own_shape hownA; have rA : Rd wA 3 2 (.slice aA 2 qA) (tkc [ptk sOpen, ptk sNOT]) := Rd.own hownA; have hBA : Below w0.heap.size w0 wA := into (by go_grown) hbA; have hzA := hBA.size)
   | (go_at_call 34; (with_reducible refine (HPB.out _ _ (by go_grown) (by ((repeat' (first | (with_reducible assumption) | (with_reducible refine rd_lit1 _ _ _ ?_) | (with_reducible refine rd_lit2 _ _ _ _ ?_) | (with_reducible refine rd_sl3 _ _ _ _ _ ?_) | (with_reducible refine Rd.below ?_ hbz) | (with_reducible refine Rd.below ?_ hbB) | (with_reducible refine Rd.below ?_ hbA) | (with_reducible refine rd_drew ?_) | (with_reducible refine rd_alloc ?_ _) | (simp; done))); (first | done | fail)))).mono ?_); rintro e wB ⟨vB, rfl, hownB, hbB⟩; obtain ⟨aB, qB, rfl⟩ := own_shape hownB; have rB : Rd wB 3 1 (.slice aB 1 qB) (tkc [ptk sClose]) := Rd.own hownB; have hBB : Below w0.heap.size w0 wB := into (by go_grown) hbB; have hzB := hBB.size)
   | (go_at_call 33; (with_reducible refine (concat3 _ _ _ _ _ [ptk sOpen, ptk sNOT] A [ptk sClose] (2) (n0) (1) (by ((repeat' (first | (with_reducible assumption) | (with_reducible refine rd_lit1 _ _ _ ?_) | (with_reducible refine rd_lit2 _ _ _ _ ?_) | (with_reducible refine rd_sl3 _ _ _ _ _ ?_) | (with_reducible refine Rd.below ?_ hbz) | (with_reducible refine Rd.below ?_ hbB) | (with_reducible refine Rd.below ?_ hbA) | (with_reducible refine rd_drew ?_) | (with_reducible refine rd_alloc ?_ _) | (simp; done))); (first | done | fail))) (by ((repeat' (first | (with_reducible assumption) | (with_reducible refine rd_lit1 _ _ _ ?_) | (with_reducible refine rd_lit2 _ _ _ _ ?_) | (with_reducible refine rd_sl3 _ _ _ _ _ ?_) | (with_reducible refine Rd.below ?_ hbz) | (with_reducible refine Rd.below ?_ hbB) | (with_reducible refine Rd.below ?_ hbA) | (with_reducible refine rd_drew ?_) | (with_reducible refine rd_alloc ?_ _) | (simp; done))); (first | done | fail))) (by ((repeat' (first | (with_reducible assumption) | (with_reducible refine rd_lit1 _ _ _ ?_) | (with_reducible refine rd_lit2 _ _ _ _ ?_) | (with_reducible refine rd_sl3 _ _ _ _ _ ?_) | (with_reducible refine Rd.below ?_ hbz) | (with_reducible refine Rd.below ?_ hbB) | (with_reducible refine Rd.below ?_ hbA) | (with_reducible refine rd_drew ?_) | (with_reducible refine rd_alloc ?_ _) | (simp; done))); (first | done | fail))) (by ((repeat' (first | (with_reducible assumption) | (with_reducible refine rd_lit1 _ _ _ ?_) | (with_reducible refine rd_lit2 _ _ _ _ ?_) | (with_reducible refine rd_sl3 _ _ _ _ _ ?_) | (with_reducible refine Rd.below ?_ hbz) | (with_reducible refine Rd.below ?_ hbB) | (with_reducible refine Rd.below ?_ hbA) | (with_reducible refine rd_drew ?_) | (with_reducible refine rd_alloc ?_ _) | (simp; done))); (first | done | fail))) HLN.out).mono ?_); rintro e wz ⟨vz, rfl, hownz, hbz⟩; have hTz := ToksIs.from ⟨vz, rfl, hownz, hbz⟩ (show Below w0.heap.size w0 _ by go_grown))))
 all_goals exact hout.out _ _ _ _ _ _ _ _ _ _ _ hTz
theorem op9 (Q : Exit → Act → World → Prop) {c0 c3 c4 c5 c6 c7 c8 c9 c10 c11 c12 c13 c14 c15 c16 c17 c18 c19 c20 c21 c22 c23 c24 c25 c26 c27 c28 c29 c30 c31 c32 c33 c34 c35 c36 c37 c38 c39 c40 c41 c42 c43 c44 c45 c46 c47 c48 c49 c50 c51 c52 c53 c54 c55 c56 c57 : Value} (w0 : World) (P : Nat) (hP : P < w0.heap.size) (b o cap : Nat) (a0 : Option Addr) (n0 d0 : Nat) (A : List Tk) 
  (p0 : w0.cell? ⟨b, o, none⟩ = some (.slice a0 n0 d0))
  (r0 : Rd w0 3 n0 (.slice a0 n0 d0) (tkc A))
  (HPA : Hid (∀ W B, Below w0.heap.size w0 W → Rd W 1 1 (.slice (some ⟨B, 0, none⟩) 1 1) ([sOpen].map Value.string) → Calls Tryd.prog 34 #[.slice (some ⟨B, 0, none⟩) 1 1] W (ToksIs [ptk sOpen] W)))
  (HPB : Hid (∀ W B, Below w0.heap.size w0 W → Rd W 1 3 (.slice (some ⟨B, 0, none⟩) 3 3) ([sIS, sNULL, sClose].map Value.string) → Calls Tryd.prog 34 #[.slice (some ⟨B, 0, none⟩) 3 3] W (ToksIs [ptk sIS, ptk sNULL, ptk sClose] W)))
  (HLN : Hid ([ptk sOpen].length + (A.length + ([ptk sIS, ptk sNULL, ptk sClose].length)) ≤ 1000000))
  (hout : Hid (∀ (u31 u32 u33 u34 u35 u36 u37 u38 u39 : Value) (vout : Value) (w' : World), ToksIs ([ptk sOpen] ++ (A ++ [ptk sIS, ptk sNULL, ptk sClose])) w0 (.returned vout) w' → Q .normal ⟨List.toArray (c0 :: (.slice (some ⟨b, o, none⟩) 1 cap) :: (.pointer (some ⟨P, 0, none⟩)) :: c3 :: vout :: c5 :: c6 :: c7 :: c8 :: c9 :: c10 :: c11 :: c12 :: c13 :: c14 :: c15 :: c16 :: c17 :: c18 :: c19 :: c20 :: c21 :: c22 :: c23 :: c24 :: c25 :: c26 :: c27 :: c28 :: c29 :: c30 :: u31 :: u32 :: u33 :: u34 :: u35 :: u36 :: u37 :: u38 :: u39 :: c40 :: c41 :: c42 :: c43 :: c44 :: c45 :: c46 :: c47 :: c48 :: c49 :: c50 :: c51 :: c52 :: c53 :: c54 :: c55 :: c56 :: c57 :: []), []⟩ w')) :
  Code.wp Tryd.prog ((regionOf 9 (Tryd.f64.body.getD .skip)).getD .skip) Q ⟨List.toArray (c0 :: (.slice (some ⟨b, o, none⟩) 1 cap) :: (.pointer (some ⟨P, 0, none⟩)) :: c3 :: c4 :: c5 :: c6 :: c7 :: c8 :: c9 :: c10 :: c11 :: c12 :: c13 :: c14 :: c15 :: c16 :: c17 :: c18 :: c19 :: c20 :: c21 :: c22 :: c23 :: c24 :: c25 :: c26 :: c27 :: c28 :: c29 :: c30 :: c31 :: c32 :: c33 :: c34 :: c35 :: c36 :: c37 :: c38 :: c39 :: c40 :: c41 :: c42 :: c43 :: c44 :: c45 :: c46 :: c47 :: c48 :: c49 :: c50 :: c51 :: c52 :: c53 :: c54 :: c55 :: c56 :: c57 :: []), []⟩ w0 := by
 refine Code.wp_mono (Q := NQ Q) nq_to ?_
 conv => arg 2; whnf
 have hB0 : Below w0.heap.size w0 w0 := Below.refl _ _
 go_region_held3 (fun wx => wx.cell? ⟨b, o, none⟩ = some (.slice a0 n0 d0))
  ((repeat' (first | (with_reducible assumption) | (with_reducible refine cell_dr ?_) | (with_reducible refine cell_al _ ?_) | (with_reducible refine cell_of_below hbz ?_) | (with_reducible refine cell_of_below hbB ?_) | (with_reducible refine cell_of_below hbA ?_))))
  ((first
   | (go_at_call 34; (with_reducible refine (HPA.out _ _ (by go_grown) (by ((repeat' (first | (with_reducible assumption) | (with_reducible refine rd_lit1 _ _ _ ?_) | (with_reducible refine rd_lit3 _ _ _ _ _ ?_) | (with_reducible refine rd_sl3 _ _ _ _ _ ?_) | (with_reducible refine Rd.below ?_ hbz) | (with_reducible refine Rd.below ?_ hbB) | (with_reducible refine Rd.below ?_ hbA) | (with_reducible refine rd_drew ?_) | (with_reducible refine rd_alloc ?_ _) | (simp; done))); (first | done | fail)))).mono ?_); rintro e wA ⟨vA, rfl, hownA, hbA⟩; obtain ⟨aA, qA, rfl⟩ := own_shape hownA; have rA : Rd wA 3 1 (.slice aA 1 qA) (tkc [ptk sOpen]) := Rd.own hownA; have hBA : Below w0.heap.size w0 wA := into (by go_grown) hbA; have hzA := hBA.size)
   | (go_at_call 34; (with_reducible refine (HPB.out _ _ (by go_grown) (by ((repeat' (first | (with_reducible assumption) | (with_reducible refine rd_lit1 _ _ _ ?_) | (with_reducible refine rd_lit3 _ _ _ _ _ ?_) | (with_reducible refine rd_sl3 _ _ _ _ _ ?_) | (with_reducible refine Rd.below ?_ hbz) | (with_reducible refine Rd.below ?_ hbB) | (with_reducible refine Rd.below ?_ hbA) | (with_reducible refine rd_drew ?_) | (with_reducible refine rd_alloc ?_ _) | (simp; done))); (first | done | fail)))).mono ?_); rintro e wB ⟨vB, rfl, hownB, hbB⟩; obtain ⟨aB, qB, rfl⟩ := own_shape hownB; have rB : Rd wB 3 3 (.slice aB 3 qB) (tkc [ptk sIS, ptk sNULL, ptk sClose]) := Rd.own hownB; have hBB : Below w0.heap.size w0 wB := into (by go_grown) hbB; have hzB := hBB.size)
   | (go_at_call 33; (with_reducible refine (concat3 _ _ _ _ _ [ptk sOpen] A [ptk sIS, ptk sNULL, ptk sClose] (1) (n0) (3) (by ((repeat' (first | (with_reducible assumption) | (with_reducible refine rd_lit1 _ _ _ ?_) | (with_reducible refine rd_lit3 _ _ _ _ _ ?_) | (with_reducible refine rd_sl3 _ _ _ _ _ ?_) | (with_reducible refine Rd.below ?_ hbz) | (with_reducible refine Rd.below ?_ hbB) | (with_reducible refine Rd.below ?_ hbA) | (with_reducible refine rd_drew ?_) | (with_reducible refine rd_alloc ?_ _) | (simp; done))); (first | done | fail))) (by ((repeat' (first | (with_reducible assumption) | (with_reducible refine rd_lit1 _ _ _ ?_) | (with_reducible refine rd_lit3 _ _ _ _ _ ?_) | (with_reducible refine rd_sl3 _ _ _ _ _ ?_) | (with_reducible refine Rd.below ?_ hbz) | (with_reducible refine Rd.below ?_ hbB) | (with_reducible refine Rd.below ?_ hbA) | (with_reducible refine rd_drew ?_) | (with_reducible refine rd_alloc ?_ _) | (simp; done))); (first | done | fail))) (by ((repeat' (first | (with_reducible assumption) | (with_reducible refine rd_lit1 _ _ _ ?_) | (with_reducible refine rd_lit3 _ _ _ _ _ ?_) | (with_reducible refine rd_sl3 _ _ _ _ _ ?_) | (with_reducible refine Rd.below ?_ hbz) | (with_reducible refine Rd.below ?_ hbB) | (with_reducible refine Rd.below ?_ hbA) | (with_reducible refine rd_drew ?_) | (with_reducible refine rd_alloc ?_ _) | (simp; done))); (first | done | fail))) (by ((repeat' (first | (with_reducible assumption) | (with_reducible refine rd_lit1 _ _ _ ?_) | (with_reducible refine rd_lit3 _ _ _ _ _ ?_) | (with_reducible refine rd_sl3 _ _ _ _ _ ?_) | (with_reducible refine Rd.below ?_ hbz) | (with_reducible refine Rd.below ?_ hbB) | (with_reducible refine Rd.below ?_ hbA) | (with_reducible refine rd_drew ?_) | (with_reducible refine rd_alloc ?_ _) | (simp; done))); (first | done | fail))) HLN.out).mono ?_); rintro e wz ⟨vz, rfl, hownz, hbz⟩; have hTz := ToksIs.from ⟨vz, rfl, hownz, hbz⟩ (show Below w0.heap.size w0 _ by go_grown))))
 all_goals exact hout.out _ _ _ _ _ _ _ _ _ _ _ hTz
theorem op10 (Q : Exit → Act → World → Prop) {c0 c3 c4 c5 c6 c7 c8 c9 c10 c11 c12 c13 c14 c15 c16 c17 c18 c19 c20 c21 c22 c23 c24 c25 c26 c27 c28 c29 c30 c31 c32 c33 c34 c35 c36 c37 c38 c39 c40 c41 c42 c43 c44 c45 c46 c47 c48 c49 c50 c51 c52 c53 c54 c55 c56 c57 : Value} (w0 : World) (P : Nat) (hP : P < w0.heap.size) (b o cap : Nat) (a0 : Option Addr) (n0 d0 : Nat) (A : List Tk) (a1 : Option Addr) (n1 d1 : Nat) (C : List Tk) (k : Nat) (sg : ByteArray) (hk : (k : Int) < 11)
  (p0 : w0.cell? ⟨b, o, none⟩ = some (.slice a0 n0 d0))
  (p1 : w0.cell? ⟨b, o + 1, none⟩ = some (.slice a1 n1 d1))
  (p2 : w0.cell? ⟨P, 0, none⟩ = some (.int .i64 (k : Int)))
  (p3 : w0.cell? ⟨4, k, none⟩ = some (.string sg))
  (r0 : Rd w0 3 n0 (.slice a0 n0 d0) (tkc A))
  (r1 : Rd w0 3 n1 (.slice a1 n1 d1) (tkc C))
  (HPA : Hid (∀ W B, Below w0.heap.size w0 W → Rd W 1 1 (.slice (some ⟨B, 0, none⟩) 1 1) ([sOpen].map Value.string) → Calls Tryd.prog 34 #[.slice (some ⟨B, 0, none⟩) 1 1] W (ToksIs [ptk sOpen] W)))
  (HPB : Hid (∀ W B, Below w0.heap.size w0 W → Rd W 1 1 (.slice (some ⟨B, 0, none⟩) 1 1) ([sClose].map Value.string) → Calls Tryd.prog 34 #[.slice (some ⟨B, 0, none⟩) 1 1] W (ToksIs [ptk sClose] W)))
  (HPS : Hid (∀ W B, Below w0.heap.size w0 W → Rd W 1 1 (.slice (some ⟨B, 0, none⟩) 1 1) ([sg].map Value.string) → Calls Tryd.prog 34 #[.slice (some ⟨B, 0, none⟩) 1 1] W (ToksIs [ptk sg] W)))
  (HLN : Hid ([ptk sOpen].length + (A.length + ([ptk sg].length + (C.length + ([ptk sClose].length)))) ≤ 1000000))
  (hout : Hid (∀ (u40 u41 u42 u43 u44 u45 u46 u47 u48 u49 u50 u51 u52 u53 u54 u55 u56 u57 : Value) (vout : Value) (w' : World), ToksIs ([ptk sOpen] ++ (A ++ ([ptk sg] ++ (C ++ [ptk sClose])))) w0 (.returned vout) w' → Q .normal ⟨List.toArray (c0 :: (.slice (some ⟨b, o, none⟩) 2 cap) :: (.pointer (some ⟨P, 0, none⟩)) :: c3 :: vout :: c5 :: c6 :: c7 :: c8 :: c9 :: c10 :: c11 :: c12 :: c13 :: c14 :: c15 :: c16 :: c17 :: c18 :: c19 :: c20 :: c21 :: c22 :: c23 :: c24 :: c25 :: c26 :: c27 :: c28 :: c29 :: c30 :: c31 :: c32 :: c33 :: c34 :: c35 :: c36 :: c37 :: c38 :: c39 :: u40 :: u41 :: u42 :: u43 :: u44 :: u45 :: u46 :: u47 :: u48 :: u49 :: u50 :: u51 :: u52 :: u53 :: u54 :: u55 :: u56 :: u57 :: []), []⟩ w')) :
  Code.wp Tryd.prog ((regionOf 10 (Tryd.f64.body.getD .skip)).getD .skip) Q ⟨List.toArray (c0 :: (.slice (some ⟨b, o, none⟩) 2 cap) :: (.pointer (some ⟨P, 0, none⟩)) :: c3 :: c4 :: c5 :: c6 :: c7 :: c8 :: c9 :: c10 :: c11 :: c12 :: c13 :: c14 :: c15 :: c16 :: c17 :: c18 :: c19 :: c20 :: c21 :: c22 :: c23 :: c24 :: c25 :: c26 :: c27 :: c28 :: c29 :: c30 :: c31 :: c32 :: c33 :: c34 :: c35 :: c36 :: c37 :: c38 :: c39 :: c40 :: c41 :: c42 :: c43 :: c44 :: c45 :: c46 :: c47 :: c48 :: c49 :: c50 :: c51 :: c52 :: c53 :: c54 :: c55 :: c56 :: c57 :: []), []⟩ w0 := by
 refine Code.wp_mono (Q := NQ Q) nq_to ?_
 conv => arg 2; whnf
 have hB0 : Below w0.heap.size w0 w0 := Below.refl _ _
 go_region_held3 (fun wx => wx.cell? ⟨b, o, none⟩ = some (.slice a0 n0 d0) ∧ wx.cell? ⟨b, o + 1, none⟩ = some (.slice a1 n1 d1) ∧ wx.cell? ⟨P, 0, none⟩ = some (.int .i64 (k : Int)) ∧ wx.cell? ⟨4, k, none⟩ = some (.string sg))
  ((refine ⟨?_, ?_, ?_, ?_⟩ <;> (repeat' (first | (with_reducible assumption) | (with_reducible refine cell_dr ?_) | (with_reducible refine cell_al _ ?_) | (with_reducible refine cell_of_below hbz ?_) | (with_reducible refine cell_of_below hbS ?_) | (with_reducible refine cell_of_below hbB ?_) | (with_reducible refine cell_of_below hbA ?_)))))
  ((first
   | (go_at_call 34; (with_reducible refine (HPA.out _ _ (by go_grown) (by ((repeat' (first | (with_reducible assumption) | (with_reducible refine rd_lit1 _ _ _ ?_) | (with_reducible refine rd_sl5 _ _ _ _ _ _ _ ?_) | (with_reducible refine Rd.below ?_ hbz) | (with_reducible refine Rd.below ?_ hbS) | (with_reducible refine Rd.below ?_ hbB) | (with_reducible refine Rd.below ?_ hbA) | (with_reducible refine rd_drew ?_) | (with_reducible refine rd_alloc ?_ _) | (simp; done))); (first | done | fail)))).mono ?_); rintro e wA ⟨vA, rfl, hownA, hbA⟩; obtain ⟨aA, qA, rfl⟩ := own_shape hownA; have rA : Rd wA 3 1 (.slice aA 1 qA) (tkc [ptk sOpen]) := Rd.own hownA; have hBA : Below w0.heap.size w0 wA := into (by go_grown) hbA; have hzA := hBA.size)
   | (go_at_call 34; (with_reducible refine (HPB.out _ _ (by go_grown) (by ((repeat' (first | (with_reducible assumption) | (with_reducible refine rd_lit1 _ _ _ ?_) | (with_reducible refine rd_sl5 _ _ _ _ _ _ _ ?_) | (with_reducible refine Rd.below ?_ hbz) | (with_reducible refine Rd.below ?_ hbS) | (with_reducible refine Rd.below ?_ hbB) | (with_reducible refine Rd.below ?_ hbA) | (with_reducible refine rd_drew ?_) | (with_reducible refine rd_alloc ?_ _) | (simp; done))); (first | done | fail)))).mono ?_); rintro e wB ⟨vB, rfl, hownB, hbB⟩; obtain ⟨aB, qB, rfl⟩ := own_shape hownB; have rB : Rd wB 3 1 (.slice aB 1 qB) (tkc [ptk sClose]) := Rd.own hownB; have hBB : Below w0.heap.size w0 wB := into (by go_grown) hbB; have hzB := hBB.size)
   | (go_at_call 34; (with_reducible refine (HPS.out _ _ (by go_grown) (by ((repeat' (first | (with_reducible assumption) | (with_reducible refine rd_lit1 _ _ _ ?_) | (with_reducible refine rd_sl5 _ _ _ _ _ _ _ ?_) | (with_reducible refine Rd.below ?_ hbz) | (with_reducible refine Rd.below ?_ hbS) | (with_reducible refine Rd.below ?_ hbB) | (with_reducible refine Rd.below ?_ hbA) | (with_reducible refine rd_drew ?_) | (with_reducible refine rd_alloc ?_ _) | (simp; done))); (first | done | fail)))).mono ?_); rintro e wS ⟨vS, rfl, hownS, hbS⟩; obtain ⟨aS, qS, rfl⟩ := own_shape hownS; have rS : Rd wS 3 1 (.slice aS 1 qS) (tkc [ptk sg]) := Rd.own hownS; have hBS : Below w0.heap.size w0 wS := into (by go_grown) hbS; have hzS := hBS.size)
   | (go_at_call 33; (with_reducible refine (concat5 _ _ _ _ _ _ _ [ptk sOpen] A [ptk sg] C [ptk sClose] (1) (n0) (1) (n1) (1) (by ((repeat' (first | (with_reducible assumption) | (with_reducible refine rd_lit1 _ _ _ ?_) | (with_reducible refine rd_sl5 _ _ _ _ _ _ _ ?_) | (with_reducible refine Rd.below ?_ hbz) | (with_reducible refine Rd.below ?_ hbS) | (with_reducible refine Rd.below ?_ hbB) | (with_reducible refine Rd.below ?_ hbA) | (with_reducible refine rd_drew ?_) | (with_reducible refine rd_alloc ?_ _) | (simp; done))); (first | done | fail))) (by ((repeat' (first | (with_reducible assumption) | (with_reducible refine rd_lit1 _ _ _ ?_) | (with_reducible refine rd_sl5 _ _ _ _ _ _ _ ?_) | (with_reducible refine Rd.below ?_ hbz) | (with_reducible refine Rd.below ?_ hbS) | (with_reducible refine Rd.below ?_ hbB) | (with_reducible refine Rd.below ?_ hbA) | (with_reducible refine rd_drew ?_) | (with_reducible refine rd_alloc ?_ _) | (simp; done))); (first | done | fail))) (by ((repeat' (first | (with_reducible assumption) | (with_reducible refine rd_lit1 _ _ _ ?_) | (with_reducible refine rd_sl5 _ _ _ _ _ _ _ ?_) | (with_reducible refine Rd.below ?_ hbz) | (with_reducible refine Rd.below ?_ hbS) | (with_reducible refine Rd.below ?_ hbB) | (with_reducible refine Rd.below ?_ hbA) | (with_reducible refine rd_drew ?_) | (with_reducible refine rd_alloc ?_ _) | (simp; done))); (first | done | fail))) (by ((repeat' (first | (with_reducible assumption) | (with_reducible refine rd_lit1 _ _ _ ?_) | (with_reducible refine rd_sl5 _ _ _ _ _ _ _ ?_) | (with_reducible refine Rd.below ?_ hbz) | (with_reducible refine Rd.below ?_ hbS) | (with_reducible refine Rd.below ?_ hbB) | (with_reducible refine Rd.below ?_ hbA) | (with_reducible refine rd_drew ?_) | (with_reducible refine rd_alloc ?_ _) | (simp; done))); (first | done | fail))) (by ((repeat' (first | (with_reducible assumption) | (with_reducible refine rd_lit1 _ _ _ ?_) | (with_reducible refine rd_sl5 _ _ _ _ _ _ _ ?_) | (with_reducible refine Rd.below ?_ hbz) | (with_reducible refine Rd.below ?_ hbS) | (with_reducible refine Rd.below ?_ hbB) | (with_reducible refine Rd.below ?_ hbA) | (with_reducible refine rd_drew ?_) | (with_reducible refine rd_alloc ?_ _) | (simp; done))); (first | done | fail))) (by ((repeat' (first | (with_reducible assumption) | (with_reducible refine rd_lit1 _ _ _ ?_) | (with_reducible refine rd_sl5 _ _ _ _ _ _ _ ?_) | (with_reducible refine Rd.below ?_ hbz) | (with_reducible refine Rd.below ?_ hbS) | (with_reducible refine Rd.below ?_ hbB) | (with_reducible refine Rd.below ?_ hbA) | (with_reducible refine rd_drew ?_) | (with_reducible refine rd_alloc ?_ _) | (simp; done))); (first | done | fail))) HLN.out).mono ?_); rintro e wz ⟨vz, rfl, hownz, hbz⟩; have hTz := ToksIs.from ⟨vz, rfl, hownz, hbz⟩ (show Below w0.heap.size w0 _ by go_grown))))
 all_goals exact hout.out _ _ _ _ _ _ _ _ _ _ _ _ _ _ _ _ _ _ _ _ hTz
end Go.Proofs.YtdeollmeljaaoaaDoor.cs
