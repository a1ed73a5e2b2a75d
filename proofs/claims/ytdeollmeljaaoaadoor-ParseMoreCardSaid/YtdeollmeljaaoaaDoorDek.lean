import Derived.Test.YtdeollmeljaaoaaDoorDck
import Derived.Test.YtdeollmeljaaoaaDoorCkk
set_option linter.unusedVariables false
set_option linter.unusedSimpArgs false
set_option maxHeartbeats 4000000
set_option maxRecDepth 100000
open Go.ChangeAt Go.ChangeShapes Go.RowKit Go.WideShapes
open Go.Lib (hid)
namespace Go.Proofs.YtdeollmeljaaoaaDoor.rd
open Go.Proofs.YtdeollmeljaaoaaDoor.cs
def signF (L : List Tk) (k : Nat) : List Nat → Option Nat
 | [] => none
 | q :: l => if mayB L k ⟨(sgL.getD q []).toArray⟩ then some q else signF L k l
theorem in_at {l : List Nat} {k : Nat} (h : k < l.length) : (l.map (fun (q : Nat) => Value.int .i64 (q : Int)))[k]? = some (.int .i64 ((l.getD k 0 : Nat) : Int)) := by
 simp [List.getD, List.getElem?_eq_getElem h]
theorem idrop_cons {l : List Nat} {k : Nat} (h : k < l.length) : l.drop k = l.getD k 0 :: l.drop (k + 1) := by
 rw [List.drop_eq_getElem_cons h]
 simp [List.getD, List.getElem?_eq_getElem h]
theorem igetD_mem {l : List Nat} {k : Nat} (h : k < l.length) : l.getD k 0 ∈ l := by
 rw [List.getD, List.getElem?_eq_getElem h]
 exact List.getElem_mem h
theorem sign_any (w : World) (hT : Tbq w) (B : Nat) (a : Option Addr) (n c : Nat) (L : List Tk) (k : Nat) (ov : Value) (h : Rdr w B a n c L k ov) (hg : B ≠ 4) (m : Nat) (v : Value) (ks : List Nat) (hk : ∀ q ∈ ks, q < 11) (hm : 0 < m) (hr : Rd w 1 m v (ks.map (fun (q : Nat) => Value.int .i64 (q : Int)))) (hB : ∀ x cap, v = .slice (some x) m cap → 0 < m → x.block ≠ B) :
  Calls Tryd.prog 90 #[.pointer (some ⟨B, 0, none⟩), v] w fun e w' => But B w w' ∧ match signF L k ks with
   | some q => e = .returned (.tuple #[.int .i64 (q : Int), .bool true]) ∧ Rdr w' B a n c L (k + 1) ov
   | none => e = .returned (.tuple #[.int .i64 0, .bool false]) ∧ Rdr w' B a n c L k ov := by
 have hml : m = ks.length := by have := hr.1; simp at this; omega
 obtain ⟨b, o, cap, rfl, _, _, hbw, hcell0⟩ := hr.pos hm (by omega)
 have hcell : ∀ j, j < m → w.cell? ⟨b, o + j, none⟩ = some (.int .i64 ((ks.getD j 0 : Nat) : Int)) := fun j hj => hcell0 j _ (in_at (by omega))
 have hbB : b ≠ B := hB _ cap rfl hm
 have hmax := hr.len
 unfold maxLen at hmax
 have HC := hid hcell
 have HM : Hid (∀ W s, Rdr W B a n c L k ov → Calls Tryd.prog 50 #[.pointer (some ⟨B, 0, none⟩), .string s] W fun e w' => e = .returned (.bool (mayB L k s)) ∧ Rdr w' B a n c L (if mayB L k s then k + 1 else k) ov ∧ But B W w') := fun W s g => may_any W B a n c L k ov g s
 have HL := hid hml
 have HH := hid h
 have HK := hid hk
 have hgw : 4 < w.heap.size := by
  have := sg_at hT.s (k := 0) (by omega)
  unfold World.cell? at this
  split at this
  ·rename_i hh
   exact heap_lt hh
  all_goals first | exact absurd this (by simp) | (rename_i hh; exact heap_lt hh)
 have HS : Hid (∀ W q, But B w W → q < 11 → W.cell? ⟨4, q, none⟩ = some (.string ⟨(sgL.getD q []).toArray⟩)) := fun W q hN hq => by
  have := sg_at hT.s hq
  unfold World.cell? at this ⊢
  rw [hN.block _ hgw (fun e => hg e.symm)]
  exact this
 obtain ⟨r, hrr⟩ : ∃ r, r = signF L k ks := ⟨_, rfl⟩
 rw [← hrr]
 have HQ := hid hrr
 clear hcell hcell0 hr hB hml h hrr hT hk hgw
 go_enter Tryd.func90, Tryd.ntmps90
 go_wp2_with fail
 go_loopw [7, 10] (fun t i wr => ∃ j : Nat, j ≤ m ∧ i = .int .i64 (j : Int) ∧ r = signF L k (ks.drop j) ∧ Rdr wr B a n c L k ov ∧ But B w wr) (fun _ i _ => m - (intOf i).toNat)
 case atStart => exact ⟨0, by omega, rfl, HQ.out, HH.out, But.of (Below.refl _ _)⟩
 case round =>
  obtain ⟨j, hj, rfl, hq, hR, hN⟩ := hrel
  by_cases hlt : j < m
  ·have c0 : wr.cell? ⟨b, o + j, none⟩ = some (.int .i64 ((ks.getD j 0 : Nat) : Int)) := by
    have := HC.out j hlt
    unfold World.cell? at this ⊢
    rw [hN.block b hbw hbB]
    exact this
   have hd : ks.drop j = ks.getD j 0 :: ks.drop (j + 1) := idrop_cons (by have := HL.out; omega)
   have h11 : ks.getD j 0 < 11 := HK.out _ (igetD_mem (by have := HL.out; omega))
   rw [hd] at hq
   obtain ⟨s, hs⟩ : ∃ s, s = ks.getD j 0 := ⟨_, rfl⟩
   rw [← hs] at c0 hq h11
   have c1 := HS.out wr s hN h11
   unfold signF at hq
   obtain ⟨u, hu⟩ : ∃ u : ByteArray, u = ⟨(sgL.getD s []).toArray⟩ := ⟨_, rfl⟩
   rw [← hu] at c1 hq
   have HW := hid hN
   have HY := hid hq
   have HV := hid (HM.out wr u hR)
   obtain ⟨q, hqq⟩ : ∃ q, q = mayB L k u := ⟨_, rfl⟩
   rw [← hqq] at HV HY
   clear hd hs hq hR hN hqq hu
   cases q
   ·have HY' : Hid (r = signF L k (ks.drop (j + 1))) := by show _ = _; rw [HY.out]; rfl
    clear HY
    go_wp2_with fail
    refine HV.out.mono ?_
    rintro e w1 ⟨rfl, hr1, hb1⟩
    have hr1 : Rdr w1 B a n c L k ov := hr1
    have HR1 := hid hr1
    have HB1 := hid hb1
    clear hr1 hb1
    go_wp2_with fail
    go_roundw
    case rel => exact ⟨j + 1, by omega, by go_num, HY'.out, HR1.out, HW.out.trans HB1.out⟩
    case measure => simp [intOf]; omega
   ·obtain rfl : r = some s := by rw [HY.out]; rfl
    clear HY HQ
    go_wp2_with fail
    refine HV.out.mono ?_
    rintro e w1 ⟨rfl, hr1, hb1⟩
    have hr1 : Rdr w1 B a n c L (k + 1) ov := hr1
    have HR1 := hid hr1
    have HB1 := hid hb1
    clear hr1 hb1
    go_wp2_with fail
    go_returns
    exact ⟨HW.out.trans HB1.out, rfl, HR1.out⟩
  ·obtain rfl : j = m := by omega
   have hd : ks.drop j = [] := List.drop_eq_nil_of_le (by have := HL.out; omega)
   rw [hd] at hq
   have HW := hid hN
   have HR1 := hid hR
   obtain rfl : r = none := hq
   clear hd hN hR HQ
   go_wp2_with fail
   go_returns
   exact ⟨HW.out, rfl, HR1.out⟩
open Go.Proofs.YtdeollmeljaaoaaDoor.cs
def vV (k n : Int) (t : ByteArray) : Value := .agg #[.int .i64 k, .int .i64 n, .string t]
def litF (L : List Tk) (n k : Nat) : (Int × Int) ⊕ (Value × Nat) :=
 if mayB L k sNULL then .inr (.tuple #[vV 0 0 ⟨#[]⟩, .bool true], k + 1)
 else if mayB L k sFALSE then .inr (.tuple #[vV 1 0 ⟨#[]⟩, .bool true], k + 1)
 else if mayB L k sTRUE then .inr (.tuple #[vV 1 1 ⟨#[]⟩, .bool true], k + 1)
 else if mayB L k sMinus then (if (L.getD (k + 1) tk0).k = 2 then .inr (.tuple #[vV 2 (-(L.getD (k + 1) tk0).n) ⟨#[]⟩, .bool true], k + 2) else .inl (fl n (k + 1) 6))
 else if (L.getD k tk0).k = 2 then .inr (.tuple #[vV 2 (L.getD k tk0).n ⟨#[]⟩, .bool true], k + 1)
 else if (L.getD k tk0).k = 3 then (if 20 < (L.getD k tk0).t.length then .inl (fl n k 1) else .inr (.tuple #[vV 3 0 ⟨(L.getD k tk0).t.toArray⟩, .bool true], k + 1))
 else .inr (.tuple #[vV 0 0 ⟨#[]⟩, .bool false], k)
theorem But.own {B P i : Nat} {w w1 : World} {v : Value} (h : But B w w1) (hP : w.heap.size ≤ P) : But B w (w1.setCell ⟨P, i, none⟩ v) := by
 have g := (Below.refl 0 w1).setCell (p := ⟨P, i, none⟩) (Nat.zero_le _) v
 exact ⟨g.os.trans h.os, g.tape.trans h.tape, g.output.trans h.output, Nat.le_trans h.size g.size, fun k hk hn => (Below.heap_setCell _ _ _ _ (show k ≠ P by omega)).trans (h.block k hk hn)⟩
theorem Rdr.fin {w w1 w' : World} {B : Nat} {a : Option Addr} {n c : Nat} {L : List Tk} {k k' : Nat} {ov ov' : Value} (h : Rdr w B a n c L k ov) (hN : But B w w') (h1 : Rdr w1 B a n c L k' ov') (hb : w'.heap[B]? = w1.heap[B]?) : Rdr w' B a n c L k' ov' :=
 ⟨hb.trans h1.box, rd_but h.row hN (fun x cap e hn => h.ne x (by cases e; rfl) hn) (by omega), h1.le, h1.sm, h1.ne⟩
theorem goes3 {w w1 : World} {B P : Nat} {a : Option Addr} {n c : Nat} {L : List Tk} {k k' : Nat} {ov : Value} (h : Rdr w B a n c L k ov) (hN : But B w w1) (h1 : Rdr w1 B a n c L k' ov) (hP : w.heap.size ≤ P) (x y z : Value) :
  But B w (((w1.setCell ⟨P, 0, none⟩ x).setCell ⟨P, 1, none⟩ y).setCell ⟨P, 2, none⟩ z) ∧ Rdr (((w1.setCell ⟨P, 0, none⟩ x).setCell ⟨P, 1, none⟩ y).setCell ⟨P, 2, none⟩ z) B a n c L k' ov := by
 have hlt := heap_lt h.box
 have hne : B ≠ P := by omega
 have hN' := ((hN.own (i := 0) (v := x) hP).own (i := 1) (v := y) hP).own (i := 2) (v := z) hP
 exact ⟨hN', h.fin hN' h1 ((Below.heap_setCell _ _ _ _ hne).trans ((Below.heap_setCell _ _ _ _ hne).trans (Below.heap_setCell _ _ _ _ hne)))⟩
theorem bx4 {w : World} {B : Nat} {x y z u : Value} {T : TypeId} (h : w.heap[B]? = some (.cells #[x, y, z, u] T (0, 0))) :
  w.cell? ⟨B, 0, none⟩ = some x ∧ w.cell? ⟨B, 1, none⟩ = some y ∧ w.cell? ⟨B, 2, none⟩ = some z ∧ w.cell? ⟨B, 3, none⟩ = some u := by
 refine ⟨?_, ?_, ?_, ?_⟩ <;> (simp only [World.cell?]; rw [h]; rfl)
theorem lit0 (w : World) (hT : Tbq w) (B : Nat) (hB : B ≠ 1) (a : Option Addr) (n c : Nat) (L : List Tk) (k : Nat) (ov : Value) (h : Rdr w B a n c L k ov) (m0 : mayB L k sNULL = true) :
  Calls Tryd.prog 78 #[.pointer (some ⟨B, 0, none⟩)] w (Goes w B a n c L ov (.inr (.tuple #[vV 0 0 ⟨#[]⟩, .bool true], k + 1))) := by
 obtain ⟨ct, cf, hco⟩ := hT.c
 have hb0 : Below w.heap.size w (w.alloc (.cells #[.int .i64 0, .int .i64 0, .string ⟨#[]⟩] 50)) := (Below.refl _ _).alloc (Nat.le_refl _) _
 have HCO : Hid ((w.alloc (.cells #[.int .i64 0, .int .i64 0, .string ⟨#[]⟩] 50)).heap[1]? = some (.cells coC ct cf)) := (hb0.block _ (heap_lt hco)).trans hco
 have HI0 := con0
 have HI1 := con1
 have HI2 := con2
 have HM0 : Hid (∀ W, Rdr W B a n c L k ov → Calls Tryd.prog 50 #[.pointer (some ⟨B, 0, none⟩), .string sNULL] W fun e w' => e = .returned (.bool true) ∧ Rdr w' B a n c L (k + 1) ov ∧ But B W w') := fun W g => by
  have := may_any W B a n c L k ov g sNULL
  rw [m0] at this
  exact this
 simp only [coC] at HI0 HI1 HI2 HCO
 have hlt := heap_lt h.box
 have HH := hid h
 clear m0
 clear hco hT h
 go_enter Tryd.func78, Tryd.ntmps78
 go_wp2_with (refine wpList_load_row rfl _ _ rfl _ rfl _ _ _ _ HCO.out Tryd.underlying103 rfl (by kernel_rfl) ?_)
 refine wp_loop_rounds 4 ?_
 rw [rounds_succ]
 go_wp2_with fail
 refine calls_nm (fun W0 hW => ?_)
 have hB0 : Below w.heap.size w W0 := by rw [hW]; exact hb0.trans (((Below.refl _ _).alloc (Nat.le_refl _) _).mono (by simp))
 have hN0 : But B w W0 := But.of hB0
 have hR0 := HH.out.below hB0
 have hp0 : W0.heap[w.heap.size]? = some (.cells #[.int .i64 0, .int .i64 0, .string ⟨#[]⟩] 50 (0, 0)) := by rw [hW]; exact (Below.heap_alloc _ _ _ (by simp)).trans (new0 _ _)
 have hq0 : W0.heap[w.heap.size + 1]? = some (.cells #[.string sNULL, .int .i64 0, .int .i64 0, .string ⟨#[]⟩] 102 (0, 0)) := by rw [hW]; exact new1 _ _ _
 have hs0 : W0.heap.size = w.heap.size + 2 := by rw [hW]; simp
 clear hB0
 clear hW
 refine (HM0.out W0 hR0).mono ?_
 rintro e w1 ⟨rfl, hr, hN⟩
 have hp := (hN.block _ (by omega) (by omega)).trans hp0
 have hq := (hN.block _ (by omega) (by omega)).trans hq0
 have hz1 : w.heap.size + 2 ≤ w1.heap.size := by have := hN.size; omega
 have HP1 := hid hp
 have HR1 := hid hr
 have HN1 := hid (hN0.trans hN)
 obtain ⟨x0, x1, x2, f0, f1, f2⟩ := bx3 hp
 obtain ⟨y0, y1, y2, y3⟩ := bx4 hq
 clear hp hq hr hN hN0 hR0 hp0 hq0 hs0
 go_wp2_with fail
 obtain ⟨_, r0, r1, r2⟩ := st3 (Below.refl 0 w1) (Nat.zero_le _) HP1.out (.int .i64 0) (.int .i64 0) (.string ⟨#[]⟩)
 refine bodyPost_ret (v := .tuple #[.agg #[.int .i64 0, .int .i64 0, .string ⟨#[]⟩], .bool true]) (by simp [results, Tryd.results78, go_sem, r0, r1, r2]; try rfl) rfl ?_
 obtain ⟨g1, g2⟩ := goes3 HH.out HN1.out HR1.out (Nat.le_refl w.heap.size) (.int .i64 0) (.int .i64 0) (.string ⟨#[]⟩)
 exact ⟨g1, rfl, g2⟩
theorem lit1 (w : World) (hT : Tbq w) (B : Nat) (hB : B ≠ 1) (a : Option Addr) (n c : Nat) (L : List Tk) (k : Nat) (ov : Value) (h : Rdr w B a n c L k ov) (m0 : mayB L k sNULL = false) (m1 : mayB L k sFALSE = true) :
  Calls Tryd.prog 78 #[.pointer (some ⟨B, 0, none⟩)] w (Goes w B a n c L ov (.inr (.tuple #[vV 1 0 ⟨#[]⟩, .bool true], k + 1))) := by
 obtain ⟨ct, cf, hco⟩ := hT.c
 have hb0 : Below w.heap.size w (w.alloc (.cells #[.int .i64 0, .int .i64 0, .string ⟨#[]⟩] 50)) := (Below.refl _ _).alloc (Nat.le_refl _) _
 have HCO : Hid ((w.alloc (.cells #[.int .i64 0, .int .i64 0, .string ⟨#[]⟩] 50)).heap[1]? = some (.cells coC ct cf)) := (hb0.block _ (heap_lt hco)).trans hco
 have HI0 := con0
 have HI1 := con1
 have HI2 := con2
 have HM0 : Hid (∀ W, Rdr W B a n c L k ov → Calls Tryd.prog 50 #[.pointer (some ⟨B, 0, none⟩), .string sNULL] W fun e w' => e = .returned (.bool false) ∧ Rdr w' B a n c L k ov ∧ But B W w') := fun W g => by
  have := may_any W B a n c L k ov g sNULL
  rw [m0] at this
  exact this
 have HM1 : Hid (∀ W, Rdr W B a n c L k ov → Calls Tryd.prog 50 #[.pointer (some ⟨B, 0, none⟩), .string sFALSE] W fun e w' => e = .returned (.bool true) ∧ Rdr w' B a n c L (k + 1) ov ∧ But B W w') := fun W g => by
  have := may_any W B a n c L k ov g sFALSE
  rw [m1] at this
  exact this
 simp only [coC] at HI0 HI1 HI2 HCO
 have hlt := heap_lt h.box
 have HH := hid h
 clear m0 m1
 clear hco hT h
 go_enter Tryd.func78, Tryd.ntmps78
 go_wp2_with (refine wpList_load_row rfl _ _ rfl _ rfl _ _ _ _ HCO.out Tryd.underlying103 rfl (by kernel_rfl) ?_)
 refine wp_loop_rounds 4 ?_
 rw [rounds_succ]
 go_wp2_with fail
 refine calls_nm (fun W0 hW => ?_)
 have hB0 : Below w.heap.size w W0 := by rw [hW]; exact hb0.trans (((Below.refl _ _).alloc (Nat.le_refl _) _).mono (by simp))
 have hN0 : But B w W0 := But.of hB0
 have hR0 := HH.out.below hB0
 have hp0 : W0.heap[w.heap.size]? = some (.cells #[.int .i64 0, .int .i64 0, .string ⟨#[]⟩] 50 (0, 0)) := by rw [hW]; exact (Below.heap_alloc _ _ _ (by simp)).trans (new0 _ _)
 have hq0 : W0.heap[w.heap.size + 1]? = some (.cells #[.string sNULL, .int .i64 0, .int .i64 0, .string ⟨#[]⟩] 102 (0, 0)) := by rw [hW]; exact new1 _ _ _
 have hs0 : W0.heap.size = w.heap.size + 2 := by rw [hW]; simp
 clear hB0
 clear hW
 refine (HM0.out W0 hR0).mono ?_
 rintro e w1 ⟨rfl, hr, hN⟩
 have hp := (hN.block _ (by omega) (by omega)).trans hp0
 have hq := (hN.block _ (by omega) (by omega)).trans hq0
 have hz1 : w.heap.size + 2 ≤ w1.heap.size := by have := hN.size; omega
 have HP1 := hid hp
 have HR1 := hid hr
 have HN1 := hid (hN0.trans hN)
 clear hp hq hr hN hN0 hR0 hp0 hq0 hs0
 go_wp2_with fail
 rw [rounds_succ]
 go_wp2_with fail
 refine calls_nm (fun W1 hW => ?_)
 have hN1 : But B w W1 := by rw [hW]; exact HN1.out.trans (But.of ((Below.refl _ _).alloc (Nat.le_refl _) _))
 have hR1 : Rdr W1 B a n c L k ov := by rw [hW]; exact HR1.out.below ((Below.refl _ _).alloc (Nat.le_refl _) _)
 have hp1 : W1.heap[w.heap.size]? = some (.cells #[.int .i64 0, .int .i64 0, .string ⟨#[]⟩] 50 (0, 0)) := by rw [hW]; exact (Below.heap_alloc _ _ _ (by omega)).trans HP1.out
 have hq1 : W1.heap[w1.heap.size]? = some (.cells #[.string sFALSE, .int .i64 1, .int .i64 0, .string ⟨#[]⟩] 102 (0, 0)) := by rw [hW]; exact new0 _ _
 have hs1 : W1.heap.size = w1.heap.size + 1 := by rw [hW]; simp
 clear hW
 refine (HM1.out W1 hR1).mono ?_
 rintro e w2 ⟨rfl, hr, hN⟩
 have hp := (hN.block _ (by omega) (by omega)).trans hp1
 have hq := (hN.block _ (by omega) (by omega)).trans hq1
 have hz2 : w.heap.size + 2 ≤ w2.heap.size := by have := hN.size; omega
 have HP2 := hid hp
 have HR2 := hid hr
 have HN2 := hid (hN1.trans hN)
 obtain ⟨x0, x1, x2, f0, f1, f2⟩ := bx3 hp
 obtain ⟨y0, y1, y2, y3⟩ := bx4 hq
 clear hp hq hr hN hN1 hR1 hp1 hq1 hs1
 go_wp2_with fail
 obtain ⟨_, r0, r1, r2⟩ := st3 (Below.refl 0 w2) (Nat.zero_le _) HP2.out (.int .i64 1) (.int .i64 0) (.string ⟨#[]⟩)
 refine bodyPost_ret (v := .tuple #[.agg #[.int .i64 1, .int .i64 0, .string ⟨#[]⟩], .bool true]) (by simp [results, Tryd.results78, go_sem, r0, r1, r2]; try rfl) rfl ?_
 obtain ⟨g1, g2⟩ := goes3 HH.out HN2.out HR2.out (Nat.le_refl w.heap.size) (.int .i64 1) (.int .i64 0) (.string ⟨#[]⟩)
 exact ⟨g1, rfl, g2⟩
theorem lit2 (w : World) (hT : Tbq w) (B : Nat) (hB : B ≠ 1) (a : Option Addr) (n c : Nat) (L : List Tk) (k : Nat) (ov : Value) (h : Rdr w B a n c L k ov) (m0 : mayB L k sNULL = false) (m1 : mayB L k sFALSE = false) (m2 : mayB L k sTRUE = true) :
  Calls Tryd.prog 78 #[.pointer (some ⟨B, 0, none⟩)] w (Goes w B a n c L ov (.inr (.tuple #[vV 1 1 ⟨#[]⟩, .bool true], k + 1))) := by
 obtain ⟨ct, cf, hco⟩ := hT.c
 have hb0 : Below w.heap.size w (w.alloc (.cells #[.int .i64 0, .int .i64 0, .string ⟨#[]⟩] 50)) := (Below.refl _ _).alloc (Nat.le_refl _) _
 have HCO : Hid ((w.alloc (.cells #[.int .i64 0, .int .i64 0, .string ⟨#[]⟩] 50)).heap[1]? = some (.cells coC ct cf)) := (hb0.block _ (heap_lt hco)).trans hco
 have HI0 := con0
 have HI1 := con1
 have HI2 := con2
 have HM0 : Hid (∀ W, Rdr W B a n c L k ov → Calls Tryd.prog 50 #[.pointer (some ⟨B, 0, none⟩), .string sNULL] W fun e w' => e = .returned (.bool false) ∧ Rdr w' B a n c L k ov ∧ But B W w') := fun W g => by
  have := may_any W B a n c L k ov g sNULL
  rw [m0] at this
  exact this
 have HM1 : Hid (∀ W, Rdr W B a n c L k ov → Calls Tryd.prog 50 #[.pointer (some ⟨B, 0, none⟩), .string sFALSE] W fun e w' => e = .returned (.bool false) ∧ Rdr w' B a n c L k ov ∧ But B W w') := fun W g => by
  have := may_any W B a n c L k ov g sFALSE
  rw [m1] at this
  exact this
 have HM2 : Hid (∀ W, Rdr W B a n c L k ov → Calls Tryd.prog 50 #[.pointer (some ⟨B, 0, none⟩), .string sTRUE] W fun e w' => e = .returned (.bool true) ∧ Rdr w' B a n c L (k + 1) ov ∧ But B W w') := fun W g => by
  have := may_any W B a n c L k ov g sTRUE
  rw [m2] at this
  exact this
 simp only [coC] at HI0 HI1 HI2 HCO
 have hlt := heap_lt h.box
 have HH := hid h
 clear m0 m1 m2
 clear hco hT h
 go_enter Tryd.func78, Tryd.ntmps78
 go_wp2_with (refine wpList_load_row rfl _ _ rfl _ rfl _ _ _ _ HCO.out Tryd.underlying103 rfl (by kernel_rfl) ?_)
 refine wp_loop_rounds 4 ?_
 rw [rounds_succ]
 go_wp2_with fail
 refine calls_nm (fun W0 hW => ?_)
 have hB0 : Below w.heap.size w W0 := by rw [hW]; exact hb0.trans (((Below.refl _ _).alloc (Nat.le_refl _) _).mono (by simp))
 have hN0 : But B w W0 := But.of hB0
 have hR0 := HH.out.below hB0
 have hp0 : W0.heap[w.heap.size]? = some (.cells #[.int .i64 0, .int .i64 0, .string ⟨#[]⟩] 50 (0, 0)) := by rw [hW]; exact (Below.heap_alloc _ _ _ (by simp)).trans (new0 _ _)
 have hq0 : W0.heap[w.heap.size + 1]? = some (.cells #[.string sNULL, .int .i64 0, .int .i64 0, .string ⟨#[]⟩] 102 (0, 0)) := by rw [hW]; exact new1 _ _ _
 have hs0 : W0.heap.size = w.heap.size + 2 := by rw [hW]; simp
 clear hB0
 clear hW
 refine (HM0.out W0 hR0).mono ?_
 rintro e w1 ⟨rfl, hr, hN⟩
 have hp := (hN.block _ (by omega) (by omega)).trans hp0
 have hq := (hN.block _ (by omega) (by omega)).trans hq0
 have hz1 : w.heap.size + 2 ≤ w1.heap.size := by have := hN.size; omega
 have HP1 := hid hp
 have HR1 := hid hr
 have HN1 := hid (hN0.trans hN)
 clear hp hq hr hN hN0 hR0 hp0 hq0 hs0
 go_wp2_with fail
 rw [rounds_succ]
 go_wp2_with fail
 refine calls_nm (fun W1 hW => ?_)
 have hN1 : But B w W1 := by rw [hW]; exact HN1.out.trans (But.of ((Below.refl _ _).alloc (Nat.le_refl _) _))
 have hR1 : Rdr W1 B a n c L k ov := by rw [hW]; exact HR1.out.below ((Below.refl _ _).alloc (Nat.le_refl _) _)
 have hp1 : W1.heap[w.heap.size]? = some (.cells #[.int .i64 0, .int .i64 0, .string ⟨#[]⟩] 50 (0, 0)) := by rw [hW]; exact (Below.heap_alloc _ _ _ (by omega)).trans HP1.out
 have hq1 : W1.heap[w1.heap.size]? = some (.cells #[.string sFALSE, .int .i64 1, .int .i64 0, .string ⟨#[]⟩] 102 (0, 0)) := by rw [hW]; exact new0 _ _
 have hs1 : W1.heap.size = w1.heap.size + 1 := by rw [hW]; simp
 clear hW
 refine (HM1.out W1 hR1).mono ?_
 rintro e w2 ⟨rfl, hr, hN⟩
 have hp := (hN.block _ (by omega) (by omega)).trans hp1
 have hq := (hN.block _ (by omega) (by omega)).trans hq1
 have hz2 : w.heap.size + 2 ≤ w2.heap.size := by have := hN.size; omega
 have HP2 := hid hp
 have HR2 := hid hr
 have HN2 := hid (hN1.trans hN)
 clear hp hq hr hN hN1 hR1 hp1 hq1 hs1
 go_wp2_with fail
 rw [rounds_succ]
 go_wp2_with fail
 refine calls_nm (fun W2 hW => ?_)
 have hN2 : But B w W2 := by rw [hW]; exact HN2.out.trans (But.of ((Below.refl _ _).alloc (Nat.le_refl _) _))
 have hR2 : Rdr W2 B a n c L k ov := by rw [hW]; exact HR2.out.below ((Below.refl _ _).alloc (Nat.le_refl _) _)
 have hp2 : W2.heap[w.heap.size]? = some (.cells #[.int .i64 0, .int .i64 0, .string ⟨#[]⟩] 50 (0, 0)) := by rw [hW]; exact (Below.heap_alloc _ _ _ (by omega)).trans HP2.out
 have hq2 : W2.heap[w2.heap.size]? = some (.cells #[.string sTRUE, .int .i64 1, .int .i64 1, .string ⟨#[]⟩] 102 (0, 0)) := by rw [hW]; exact new0 _ _
 have hs2 : W2.heap.size = w2.heap.size + 1 := by rw [hW]; simp
 clear hW
 refine (HM2.out W2 hR2).mono ?_
 rintro e w3 ⟨rfl, hr, hN⟩
 have hp := (hN.block _ (by omega) (by omega)).trans hp2
 have hq := (hN.block _ (by omega) (by omega)).trans hq2
 have hz3 : w.heap.size + 2 ≤ w3.heap.size := by have := hN.size; omega
 have HP3 := hid hp
 have HR3 := hid hr
 have HN3 := hid (hN2.trans hN)
 obtain ⟨x0, x1, x2, f0, f1, f2⟩ := bx3 hp
 obtain ⟨y0, y1, y2, y3⟩ := bx4 hq
 clear hp hq hr hN hN2 hR2 hp2 hq2 hs2
 go_wp2_with fail
 obtain ⟨_, r0, r1, r2⟩ := st3 (Below.refl 0 w3) (Nat.zero_le _) HP3.out (.int .i64 1) (.int .i64 1) (.string ⟨#[]⟩)
 refine bodyPost_ret (v := .tuple #[.agg #[.int .i64 1, .int .i64 1, .string ⟨#[]⟩], .bool true]) (by simp [results, Tryd.results78, go_sem, r0, r1, r2]; try rfl) rfl ?_
 obtain ⟨g1, g2⟩ := goes3 HH.out HN3.out HR3.out (Nat.le_refl w.heap.size) (.int .i64 1) (.int .i64 1) (.string ⟨#[]⟩)
 exact ⟨g1, rfl, g2⟩
theorem lit3 (w : World) (hT : Tbq w) (B : Nat) (hB : B ≠ 1) (a : Option Addr) (n c : Nat) (L : List Tk) (k : Nat) (ov : Value) (h : Rdr w B a n c L k ov) (m0 : mayB L k sNULL = false) (m1 : mayB L k sFALSE = false) (m2 : mayB L k sTRUE = false) (m3 : mayB L k sMinus = true) (hn : (L.getD (k + 1) tk0).k = 2) (z0 : 0 ≤ (L.getD (k + 1) tk0).n) (z1 : (L.getD (k + 1) tk0).n ≤ 9223372036854775807) :
  Calls Tryd.prog 78 #[.pointer (some ⟨B, 0, none⟩)] w (Goes w B a n c L ov (.inr (.tuple #[vV 2 (-(L.getD (k + 1) tk0).n) ⟨#[]⟩, .bool true], k + 2))) := by
 obtain ⟨ct, cf, hco⟩ := hT.c
 have hb0 : Below w.heap.size w (w.alloc (.cells #[.int .i64 0, .int .i64 0, .string ⟨#[]⟩] 50)) := (Below.refl _ _).alloc (Nat.le_refl _) _
 have HCO : Hid ((w.alloc (.cells #[.int .i64 0, .int .i64 0, .string ⟨#[]⟩] 50)).heap[1]? = some (.cells coC ct cf)) := (hb0.block _ (heap_lt hco)).trans hco
 have HI0 := con0
 have HI1 := con1
 have HI2 := con2
 have HM0 : Hid (∀ W, Rdr W B a n c L k ov → Calls Tryd.prog 50 #[.pointer (some ⟨B, 0, none⟩), .string sNULL] W fun e w' => e = .returned (.bool false) ∧ Rdr w' B a n c L k ov ∧ But B W w') := fun W g => by
  have := may_any W B a n c L k ov g sNULL
  rw [m0] at this
  exact this
 have HM1 : Hid (∀ W, Rdr W B a n c L k ov → Calls Tryd.prog 50 #[.pointer (some ⟨B, 0, none⟩), .string sFALSE] W fun e w' => e = .returned (.bool false) ∧ Rdr w' B a n c L k ov ∧ But B W w') := fun W g => by
  have := may_any W B a n c L k ov g sFALSE
  rw [m1] at this
  exact this
 have HM2 : Hid (∀ W, Rdr W B a n c L k ov → Calls Tryd.prog 50 #[.pointer (some ⟨B, 0, none⟩), .string sTRUE] W fun e w' => e = .returned (.bool false) ∧ Rdr w' B a n c L k ov ∧ But B W w') := fun W g => by
  have := may_any W B a n c L k ov g sTRUE
  rw [m2] at this
  exact this
 have HM3 : Hid (∀ W, Rdr W B a n c L k ov → Calls Tryd.prog 50 #[.pointer (some ⟨B, 0, none⟩), .string sMinus] W fun e w' => e = .returned (.bool true) ∧ Rdr w' B a n c L (k + 1) ov ∧ But B W w') := fun W g => by
  have := may_any W B a n c L k ov g sMinus
  rw [m3] at this
  exact this
 simp only [coC] at HI0 HI1 HI2 HCO
 have hlt := heap_lt h.box
 have HH := hid h
 have HU : Hid (∀ W, Rdr W B a n c L (k + 1) ov → Calls Tryd.prog 80 #[.pointer (some ⟨B, 0, none⟩)] W (Goes W B a n c L ov (numF L n (k + 1)))) := fun W g => number_any W B a n c L (k + 1) ov g
 clear m0 m1 m2 m3
 have hQ : numF L n (k + 1) = .inr (.int .i64 (L.getD (k + 1) tk0).n, k + 2) := by unfold numF; rw [if_pos hn]
 obtain ⟨x, hx⟩ : ∃ x, x = (L.getD (k + 1) tk0).n := ⟨_, rfl⟩
 rw [← hx] at hQ z0 z1 ⊢
 clear hx hn
 clear hco hT h
 go_enter Tryd.func78, Tryd.ntmps78
 go_wp2_with (refine wpList_load_row rfl _ _ rfl _ rfl _ _ _ _ HCO.out Tryd.underlying103 rfl (by kernel_rfl) ?_)
 refine wp_loop_rounds 4 ?_
 rw [rounds_succ]
 go_wp2_with fail
 refine calls_nm (fun W0 hW => ?_)
 have hB0 : Below w.heap.size w W0 := by rw [hW]; exact hb0.trans (((Below.refl _ _).alloc (Nat.le_refl _) _).mono (by simp))
 have hN0 : But B w W0 := But.of hB0
 have hR0 := HH.out.below hB0
 have hp0 : W0.heap[w.heap.size]? = some (.cells #[.int .i64 0, .int .i64 0, .string ⟨#[]⟩] 50 (0, 0)) := by rw [hW]; exact (Below.heap_alloc _ _ _ (by simp)).trans (new0 _ _)
 have hq0 : W0.heap[w.heap.size + 1]? = some (.cells #[.string sNULL, .int .i64 0, .int .i64 0, .string ⟨#[]⟩] 102 (0, 0)) := by rw [hW]; exact new1 _ _ _
 have hs0 : W0.heap.size = w.heap.size + 2 := by rw [hW]; simp
 clear hB0
 clear hW
 refine (HM0.out W0 hR0).mono ?_
 rintro e w1 ⟨rfl, hr, hN⟩
 have hp := (hN.block _ (by omega) (by omega)).trans hp0
 have hq := (hN.block _ (by omega) (by omega)).trans hq0
 have hz1 : w.heap.size + 2 ≤ w1.heap.size := by have := hN.size; omega
 have HP1 := hid hp
 have HR1 := hid hr
 have HN1 := hid (hN0.trans hN)
 clear hp hq hr hN hN0 hR0 hp0 hq0 hs0
 go_wp2_with fail
 rw [rounds_succ]
 go_wp2_with fail
 refine calls_nm (fun W1 hW => ?_)
 have hN1 : But B w W1 := by rw [hW]; exact HN1.out.trans (But.of ((Below.refl _ _).alloc (Nat.le_refl _) _))
 have hR1 : Rdr W1 B a n c L k ov := by rw [hW]; exact HR1.out.below ((Below.refl _ _).alloc (Nat.le_refl _) _)
 have hp1 : W1.heap[w.heap.size]? = some (.cells #[.int .i64 0, .int .i64 0, .string ⟨#[]⟩] 50 (0, 0)) := by rw [hW]; exact (Below.heap_alloc _ _ _ (by omega)).trans HP1.out
 have hq1 : W1.heap[w1.heap.size]? = some (.cells #[.string sFALSE, .int .i64 1, .int .i64 0, .string ⟨#[]⟩] 102 (0, 0)) := by rw [hW]; exact new0 _ _
 have hs1 : W1.heap.size = w1.heap.size + 1 := by rw [hW]; simp
 clear hW
 refine (HM1.out W1 hR1).mono ?_
 rintro e w2 ⟨rfl, hr, hN⟩
 have hp := (hN.block _ (by omega) (by omega)).trans hp1
 have hq := (hN.block _ (by omega) (by omega)).trans hq1
 have hz2 : w.heap.size + 2 ≤ w2.heap.size := by have := hN.size; omega
 have HP2 := hid hp
 have HR2 := hid hr
 have HN2 := hid (hN1.trans hN)
 clear hp hq hr hN hN1 hR1 hp1 hq1 hs1
 go_wp2_with fail
 rw [rounds_succ]
 go_wp2_with fail
 refine calls_nm (fun W2 hW => ?_)
 have hN2 : But B w W2 := by rw [hW]; exact HN2.out.trans (But.of ((Below.refl _ _).alloc (Nat.le_refl _) _))
 have hR2 : Rdr W2 B a n c L k ov := by rw [hW]; exact HR2.out.below ((Below.refl _ _).alloc (Nat.le_refl _) _)
 have hp2 : W2.heap[w.heap.size]? = some (.cells #[.int .i64 0, .int .i64 0, .string ⟨#[]⟩] 50 (0, 0)) := by rw [hW]; exact (Below.heap_alloc _ _ _ (by omega)).trans HP2.out
 have hq2 : W2.heap[w2.heap.size]? = some (.cells #[.string sTRUE, .int .i64 1, .int .i64 1, .string ⟨#[]⟩] 102 (0, 0)) := by rw [hW]; exact new0 _ _
 have hs2 : W2.heap.size = w2.heap.size + 1 := by rw [hW]; simp
 clear hW
 refine (HM2.out W2 hR2).mono ?_
 rintro e w3 ⟨rfl, hr, hN⟩
 have hp := (hN.block _ (by omega) (by omega)).trans hp2
 have hq := (hN.block _ (by omega) (by omega)).trans hq2
 have hz3 : w.heap.size + 2 ≤ w3.heap.size := by have := hN.size; omega
 have HP3 := hid hp
 have HR3 := hid hr
 have HN3 := hid (hN2.trans hN)
 clear hp hq hr hN hN2 hR2 hp2 hq2 hs2
 go_wp2_with fail
 rw [rounds_succ]
 go_wp2_with fail
 refine (HM3.out w3 HR3.out).mono ?_
 rintro e w4 ⟨rfl, hr, hN⟩
 have hp := (hN.block _ (by omega) (by omega)).trans HP3.out
 have HP4 := hid hp
 have HR4 := hid hr
 have HN4 := hid (HN3.out.trans hN)
 have hz4 : w.heap.size + 2 ≤ w4.heap.size := by have := hN.size; omega
 clear hp hr hN
 go_wp2_with fail
 refine (HU.out w4 HR4.out).mono ?_
 rintro e w5 ⟨hN, he⟩
 rw [hQ] at he
 obtain ⟨rfl, hr⟩ := he
 have hp := (hN.block _ (by omega) (by omega)).trans HP4.out
 obtain ⟨x0, x1, x2, f0, f1, f2⟩ := bx3 hp
 have HP5 := hid hp
 have HR5 := hid hr
 have HN5 := hid (HN4.out.trans hN)
 clear hp hr hN
 go_wp2_with fail
 obtain ⟨_, r0, r1, r2⟩ := st3 (Below.refl 0 w5) (Nat.zero_le _) HP5.out (.int .i64 2) (.int .i64 (-x)) (.string ⟨#[]⟩)
 refine bodyPost_ret (v := .tuple #[.agg #[.int .i64 2, .int .i64 (-x), .string ⟨#[]⟩], .bool true]) (by simp [results, Tryd.results78, go_sem, r0, r1, r2]; try rfl) rfl ?_
 obtain ⟨g1, g2⟩ := goes3 HH.out HN5.out HR5.out (Nat.le_refl w.heap.size) (.int .i64 2) (.int .i64 (-x)) (.string ⟨#[]⟩)
 exact ⟨g1, rfl, g2⟩
theorem lit4 (w : World) (hT : Tbq w) (B : Nat) (hB : B ≠ 1) (a : Option Addr) (n c : Nat) (L : List Tk) (k : Nat) (ov : Value) (h : Rdr w B a n c L k ov) (m0 : mayB L k sNULL = false) (m1 : mayB L k sFALSE = false) (m2 : mayB L k sTRUE = false) (m3 : mayB L k sMinus = true) (hn : ¬ (L.getD (k + 1) tk0).k = 2) :
  Calls Tryd.prog 78 #[.pointer (some ⟨B, 0, none⟩)] w (Goes w B a n c L ov (.inl (fl n (k + 1) 6))) := by
 obtain ⟨ct, cf, hco⟩ := hT.c
 have hb0 : Below w.heap.size w (w.alloc (.cells #[.int .i64 0, .int .i64 0, .string ⟨#[]⟩] 50)) := (Below.refl _ _).alloc (Nat.le_refl _) _
 have HCO : Hid ((w.alloc (.cells #[.int .i64 0, .int .i64 0, .string ⟨#[]⟩] 50)).heap[1]? = some (.cells coC ct cf)) := (hb0.block _ (heap_lt hco)).trans hco
 have HI0 := con0
 have HI1 := con1
 have HI2 := con2
 have HM0 : Hid (∀ W, Rdr W B a n c L k ov → Calls Tryd.prog 50 #[.pointer (some ⟨B, 0, none⟩), .string sNULL] W fun e w' => e = .returned (.bool false) ∧ Rdr w' B a n c L k ov ∧ But B W w') := fun W g => by
  have := may_any W B a n c L k ov g sNULL
  rw [m0] at this
  exact this
 have HM1 : Hid (∀ W, Rdr W B a n c L k ov → Calls Tryd.prog 50 #[.pointer (some ⟨B, 0, none⟩), .string sFALSE] W fun e w' => e = .returned (.bool false) ∧ Rdr w' B a n c L k ov ∧ But B W w') := fun W g => by
  have := may_any W B a n c L k ov g sFALSE
  rw [m1] at this
  exact this
 have HM2 : Hid (∀ W, Rdr W B a n c L k ov → Calls Tryd.prog 50 #[.pointer (some ⟨B, 0, none⟩), .string sTRUE] W fun e w' => e = .returned (.bool false) ∧ Rdr w' B a n c L k ov ∧ But B W w') := fun W g => by
  have := may_any W B a n c L k ov g sTRUE
  rw [m2] at this
  exact this
 have HM3 : Hid (∀ W, Rdr W B a n c L k ov → Calls Tryd.prog 50 #[.pointer (some ⟨B, 0, none⟩), .string sMinus] W fun e w' => e = .returned (.bool true) ∧ Rdr w' B a n c L (k + 1) ov ∧ But B W w') := fun W g => by
  have := may_any W B a n c L k ov g sMinus
  rw [m3] at this
  exact this
 simp only [coC] at HI0 HI1 HI2 HCO
 have hlt := heap_lt h.box
 have HH := hid h
 have HU : Hid (∀ W, Rdr W B a n c L (k + 1) ov → Calls Tryd.prog 80 #[.pointer (some ⟨B, 0, none⟩)] W (Goes W B a n c L ov (numF L n (k + 1)))) := fun W g => number_any W B a n c L (k + 1) ov g
 clear m0 m1 m2 m3
 have hQ : numF L n (k + 1) = .inl (fl n (k + 1) 6) := by unfold numF; rw [if_neg hn]
 clear hn
 clear hco hT h
 go_enter Tryd.func78, Tryd.ntmps78
 go_wp2_with (refine wpList_load_row rfl _ _ rfl _ rfl _ _ _ _ HCO.out Tryd.underlying103 rfl (by kernel_rfl) ?_)
 refine wp_loop_rounds 4 ?_
 rw [rounds_succ]
 go_wp2_with fail
 refine calls_nm (fun W0 hW => ?_)
 have hB0 : Below w.heap.size w W0 := by rw [hW]; exact hb0.trans (((Below.refl _ _).alloc (Nat.le_refl _) _).mono (by simp))
 have hN0 : But B w W0 := But.of hB0
 have hR0 := HH.out.below hB0
 have hp0 : W0.heap[w.heap.size]? = some (.cells #[.int .i64 0, .int .i64 0, .string ⟨#[]⟩] 50 (0, 0)) := by rw [hW]; exact (Below.heap_alloc _ _ _ (by simp)).trans (new0 _ _)
 have hq0 : W0.heap[w.heap.size + 1]? = some (.cells #[.string sNULL, .int .i64 0, .int .i64 0, .string ⟨#[]⟩] 102 (0, 0)) := by rw [hW]; exact new1 _ _ _
 have hs0 : W0.heap.size = w.heap.size + 2 := by rw [hW]; simp
 clear hB0
 clear hW
 refine (HM0.out W0 hR0).mono ?_
 rintro e w1 ⟨rfl, hr, hN⟩
 have hp := (hN.block _ (by omega) (by omega)).trans hp0
 have hq := (hN.block _ (by omega) (by omega)).trans hq0
 have hz1 : w.heap.size + 2 ≤ w1.heap.size := by have := hN.size; omega
 have HP1 := hid hp
 have HR1 := hid hr
 have HN1 := hid (hN0.trans hN)
 clear hp hq hr hN hN0 hR0 hp0 hq0 hs0
 go_wp2_with fail
 rw [rounds_succ]
 go_wp2_with fail
 refine calls_nm (fun W1 hW => ?_)
 have hN1 : But B w W1 := by rw [hW]; exact HN1.out.trans (But.of ((Below.refl _ _).alloc (Nat.le_refl _) _))
 have hR1 : Rdr W1 B a n c L k ov := by rw [hW]; exact HR1.out.below ((Below.refl _ _).alloc (Nat.le_refl _) _)
 have hp1 : W1.heap[w.heap.size]? = some (.cells #[.int .i64 0, .int .i64 0, .string ⟨#[]⟩] 50 (0, 0)) := by rw [hW]; exact (Below.heap_alloc _ _ _ (by omega)).trans HP1.out
 have hq1 : W1.heap[w1.heap.size]? = some (.cells #[.string sFALSE, .int .i64 1, .int .i64 0, .string ⟨#[]⟩] 102 (0, 0)) := by rw [hW]; exact new0 _ _
 have hs1 : W1.heap.size = w1.heap.size + 1 := by rw [hW]; simp
 clear hW
 refine (HM1.out W1 hR1).mono ?_
 rintro e w2 ⟨rfl, hr, hN⟩
 have hp := (hN.block _ (by omega) (by omega)).trans hp1
 have hq := (hN.block _ (by omega) (by omega)).trans hq1
 have hz2 : w.heap.size + 2 ≤ w2.heap.size := by have := hN.size; omega
 have HP2 := hid hp
 have HR2 := hid hr
 have HN2 := hid (hN1.trans hN)
 clear hp hq hr hN hN1 hR1 hp1 hq1 hs1
 go_wp2_with fail
 rw [rounds_succ]
 go_wp2_with fail
 refine calls_nm (fun W2 hW => ?_)
 have hN2 : But B w W2 := by rw [hW]; exact HN2.out.trans (But.of ((Below.refl _ _).alloc (Nat.le_refl _) _))
 have hR2 : Rdr W2 B a n c L k ov := by rw [hW]; exact HR2.out.below ((Below.refl _ _).alloc (Nat.le_refl _) _)
 have hp2 : W2.heap[w.heap.size]? = some (.cells #[.int .i64 0, .int .i64 0, .string ⟨#[]⟩] 50 (0, 0)) := by rw [hW]; exact (Below.heap_alloc _ _ _ (by omega)).trans HP2.out
 have hq2 : W2.heap[w2.heap.size]? = some (.cells #[.string sTRUE, .int .i64 1, .int .i64 1, .string ⟨#[]⟩] 102 (0, 0)) := by rw [hW]; exact new0 _ _
 have hs2 : W2.heap.size = w2.heap.size + 1 := by rw [hW]; simp
 clear hW
 refine (HM2.out W2 hR2).mono ?_
 rintro e w3 ⟨rfl, hr, hN⟩
 have hp := (hN.block _ (by omega) (by omega)).trans hp2
 have hq := (hN.block _ (by omega) (by omega)).trans hq2
 have hz3 : w.heap.size + 2 ≤ w3.heap.size := by have := hN.size; omega
 have HP3 := hid hp
 have HR3 := hid hr
 have HN3 := hid (hN2.trans hN)
 clear hp hq hr hN hN2 hR2 hp2 hq2 hs2
 go_wp2_with fail
 rw [rounds_succ]
 go_wp2_with fail
 refine (HM3.out w3 HR3.out).mono ?_
 rintro e w4 ⟨rfl, hr, hN⟩
 have hp := (hN.block _ (by omega) (by omega)).trans HP3.out
 have HP4 := hid hp
 have HR4 := hid hr
 have HN4 := hid (HN3.out.trans hN)
 have hz4 : w.heap.size + 2 ≤ w4.heap.size := by have := hN.size; omega
 clear hp hr hN
 go_wp2_with fail
 refine (HU.out w4 HR4.out).mono ?_
 rintro e w5 ⟨hN, he⟩
 rw [hQ] at he
 obtain rfl := he
 exact ⟨rfl, HN4.out.trans hN, rfl⟩
theorem lit8 (w : World) (hT : Tbq w) (B : Nat) (hB : B ≠ 1) (a : Option Addr) (n c : Nat) (L : List Tk) (k : Nat) (ov : Value) (h : Rdr w B a n c L k ov) (m0 : mayB L k sNULL = false) (m1 : mayB L k sFALSE = false) (m2 : mayB L k sTRUE = false) (m3 : mayB L k sMinus = false) (hn : (L.getD k tk0).k ≠ 2 ∧ (L.getD k tk0).k ≠ 3) :
  Calls Tryd.prog 78 #[.pointer (some ⟨B, 0, none⟩)] w (Goes w B a n c L ov (.inr (.tuple #[vV 0 0 ⟨#[]⟩, .bool false], k))) := by
 obtain ⟨ct, cf, hco⟩ := hT.c
 have hb0 : Below w.heap.size w (w.alloc (.cells #[.int .i64 0, .int .i64 0, .string ⟨#[]⟩] 50)) := (Below.refl _ _).alloc (Nat.le_refl _) _
 have HCO : Hid ((w.alloc (.cells #[.int .i64 0, .int .i64 0, .string ⟨#[]⟩] 50)).heap[1]? = some (.cells coC ct cf)) := (hb0.block _ (heap_lt hco)).trans hco
 have HI0 := con0
 have HI1 := con1
 have HI2 := con2
 have HM0 : Hid (∀ W, Rdr W B a n c L k ov → Calls Tryd.prog 50 #[.pointer (some ⟨B, 0, none⟩), .string sNULL] W fun e w' => e = .returned (.bool false) ∧ Rdr w' B a n c L k ov ∧ But B W w') := fun W g => by
  have := may_any W B a n c L k ov g sNULL
  rw [m0] at this
  exact this
 have HM1 : Hid (∀ W, Rdr W B a n c L k ov → Calls Tryd.prog 50 #[.pointer (some ⟨B, 0, none⟩), .string sFALSE] W fun e w' => e = .returned (.bool false) ∧ Rdr w' B a n c L k ov ∧ But B W w') := fun W g => by
  have := may_any W B a n c L k ov g sFALSE
  rw [m1] at this
  exact this
 have HM2 : Hid (∀ W, Rdr W B a n c L k ov → Calls Tryd.prog 50 #[.pointer (some ⟨B, 0, none⟩), .string sTRUE] W fun e w' => e = .returned (.bool false) ∧ Rdr w' B a n c L k ov ∧ But B W w') := fun W g => by
  have := may_any W B a n c L k ov g sTRUE
  rw [m2] at this
  exact this
 have HM3 : Hid (∀ W, Rdr W B a n c L k ov → Calls Tryd.prog 50 #[.pointer (some ⟨B, 0, none⟩), .string sMinus] W fun e w' => e = .returned (.bool false) ∧ Rdr w' B a n c L k ov ∧ But B W w') := fun W g => by
  have := may_any W B a n c L k ov g sMinus
  rw [m3] at this
  exact this
 simp only [coC] at HI0 HI1 HI2 HCO
 have hlt := heap_lt h.box
 have HH := hid h
 have HNO : Hid (∀ W, Rdr W B a n c L k ov → Calls Tryd.prog 72 #[.pointer (some ⟨B, 0, none⟩)] W fun e w' => e = .returned (tokV (L.getD k tk0)) ∧ Below W.heap.size W w') := fun W g => now_any W B a n c L k ov g
 have HU : Hid (∀ W, Rdr W B a n c L k ov → Calls Tryd.prog 80 #[.pointer (some ⟨B, 0, none⟩)] W (Goes W B a n c L ov (numF L n k))) := fun W g => number_any W B a n c L k ov g
 have HG : Hid (∀ W, Rdr W B a n c L k ov → Calls Tryd.prog 58 #[.pointer (some ⟨B, 0, none⟩), .int .i64 1] W fun e w' => e = flt k (if k = n then 7 else 1) ∧ Below W.heap.size W w') := fun W g => giveUp_any W B a n c L k ov g 1
 have hml := len_t h.row
 have HST : Hid ((L.getD k tk0).k ≠ 0 → ∀ w1, Rdr w1 B a n c L k ov → Rdr (w1.setCell ⟨B, 1, none⟩ (.int .i64 ((k : Int) + 1))) B a n c L (k + 1) ov) := fun hm w1 g => by
  have := g.step (k + 1) (by have := kind_lt (L := L) (k := k) hm; omega)
  rwa [show ((k + 1 : Nat) : Int) = (k : Int) + 1 by omega] at this
 have hle := h.le
 have hsm := h.sm
 clear m0 m1 m2 m3 hml
 obtain ⟨u, hu⟩ : ∃ u, u = L.getD k tk0 := ⟨_, rfl⟩
 (try rw [← hu] at HNO)
 (try rw [← hu] at HST)
 rw [← hu] at hn
 clear hu
 obtain ⟨uk, ut, un⟩ := u
 simp only [tokV] at *
 obtain ⟨us, hus⟩ : ∃ us : ByteArray, us = ⟨ut.toArray⟩ := ⟨_, rfl⟩
 have hsz : us.size = ut.length := by rw [hus]; exact List.size_toArray
 rw [← hus] at HNO
 (try rw [← hus])
 clear hus
 clear hco hT h
 go_enter Tryd.func78, Tryd.ntmps78
 go_wp2_with (refine wpList_load_row rfl _ _ rfl _ rfl _ _ _ _ HCO.out Tryd.underlying103 rfl (by kernel_rfl) ?_)
 refine wp_loop_rounds 4 ?_
 rw [rounds_succ]
 go_wp2_with fail
 refine calls_nm (fun W0 hW => ?_)
 have hB0 : Below w.heap.size w W0 := by rw [hW]; exact hb0.trans (((Below.refl _ _).alloc (Nat.le_refl _) _).mono (by simp))
 have hN0 : But B w W0 := But.of hB0
 have hR0 := HH.out.below hB0
 have hp0 : W0.heap[w.heap.size]? = some (.cells #[.int .i64 0, .int .i64 0, .string ⟨#[]⟩] 50 (0, 0)) := by rw [hW]; exact (Below.heap_alloc _ _ _ (by simp)).trans (new0 _ _)
 have hq0 : W0.heap[w.heap.size + 1]? = some (.cells #[.string sNULL, .int .i64 0, .int .i64 0, .string ⟨#[]⟩] 102 (0, 0)) := by rw [hW]; exact new1 _ _ _
 have hs0 : W0.heap.size = w.heap.size + 2 := by rw [hW]; simp
 clear hB0
 clear hW
 refine (HM0.out W0 hR0).mono ?_
 rintro e w1 ⟨rfl, hr, hN⟩
 have hp := (hN.block _ (by omega) (by omega)).trans hp0
 have hq := (hN.block _ (by omega) (by omega)).trans hq0
 have hz1 : w.heap.size + 2 ≤ w1.heap.size := by have := hN.size; omega
 have HP1 := hid hp
 have HR1 := hid hr
 have HN1 := hid (hN0.trans hN)
 clear hp hq hr hN hN0 hR0 hp0 hq0 hs0
 go_wp2_with fail
 rw [rounds_succ]
 go_wp2_with fail
 refine calls_nm (fun W1 hW => ?_)
 have hN1 : But B w W1 := by rw [hW]; exact HN1.out.trans (But.of ((Below.refl _ _).alloc (Nat.le_refl _) _))
 have hR1 : Rdr W1 B a n c L k ov := by rw [hW]; exact HR1.out.below ((Below.refl _ _).alloc (Nat.le_refl _) _)
 have hp1 : W1.heap[w.heap.size]? = some (.cells #[.int .i64 0, .int .i64 0, .string ⟨#[]⟩] 50 (0, 0)) := by rw [hW]; exact (Below.heap_alloc _ _ _ (by omega)).trans HP1.out
 have hq1 : W1.heap[w1.heap.size]? = some (.cells #[.string sFALSE, .int .i64 1, .int .i64 0, .string ⟨#[]⟩] 102 (0, 0)) := by rw [hW]; exact new0 _ _
 have hs1 : W1.heap.size = w1.heap.size + 1 := by rw [hW]; simp
 clear hW
 refine (HM1.out W1 hR1).mono ?_
 rintro e w2 ⟨rfl, hr, hN⟩
 have hp := (hN.block _ (by omega) (by omega)).trans hp1
 have hq := (hN.block _ (by omega) (by omega)).trans hq1
 have hz2 : w.heap.size + 2 ≤ w2.heap.size := by have := hN.size; omega
 have HP2 := hid hp
 have HR2 := hid hr
 have HN2 := hid (hN1.trans hN)
 clear hp hq hr hN hN1 hR1 hp1 hq1 hs1
 go_wp2_with fail
 rw [rounds_succ]
 go_wp2_with fail
 refine calls_nm (fun W2 hW => ?_)
 have hN2 : But B w W2 := by rw [hW]; exact HN2.out.trans (But.of ((Below.refl _ _).alloc (Nat.le_refl _) _))
 have hR2 : Rdr W2 B a n c L k ov := by rw [hW]; exact HR2.out.below ((Below.refl _ _).alloc (Nat.le_refl _) _)
 have hp2 : W2.heap[w.heap.size]? = some (.cells #[.int .i64 0, .int .i64 0, .string ⟨#[]⟩] 50 (0, 0)) := by rw [hW]; exact (Below.heap_alloc _ _ _ (by omega)).trans HP2.out
 have hq2 : W2.heap[w2.heap.size]? = some (.cells #[.string sTRUE, .int .i64 1, .int .i64 1, .string ⟨#[]⟩] 102 (0, 0)) := by rw [hW]; exact new0 _ _
 have hs2 : W2.heap.size = w2.heap.size + 1 := by rw [hW]; simp
 clear hW
 refine (HM2.out W2 hR2).mono ?_
 rintro e w3 ⟨rfl, hr, hN⟩
 have hp := (hN.block _ (by omega) (by omega)).trans hp2
 have hq := (hN.block _ (by omega) (by omega)).trans hq2
 have hz3 : w.heap.size + 2 ≤ w3.heap.size := by have := hN.size; omega
 have HP3 := hid hp
 have HR3 := hid hr
 have HN3 := hid (hN2.trans hN)
 clear hp hq hr hN hN2 hR2 hp2 hq2 hs2
 go_wp2_with fail
 rw [rounds_succ]
 go_wp2_with fail
 refine (HM3.out w3 HR3.out).mono ?_
 rintro e w4 ⟨rfl, hr, hN⟩
 have hp := (hN.block _ (by omega) (by omega)).trans HP3.out
 have HP4 := hid hp
 have HR4 := hid hr
 have HN4 := hid (HN3.out.trans hN)
 have hz4 : w.heap.size + 2 ≤ w4.heap.size := by have := hN.size; omega
 clear hp hr hN
 go_wp2_with fail
 refine (HNO.out w4 HR4.out).mono ?_
 rintro e w5 ⟨rfl, hb5⟩
 have hz5 : w.heap.size + 2 ≤ w5.heap.size := by have := hb5.size; omega
 have HP5 := hid ((hb5.block _ (by omega)).trans HP4.out)
 have HR5 := hid (HR4.out.below hb5)
 have HN5 := hid (HN4.out.trans (But.of hb5))
 clear hb5
 go_upto_region 10 with (fail)
 refine code_nm (fun W5 hW => ?_)
 have hN6 : But B w W5 := by rw [hW]; exact HN5.out.trans (But.of ((Below.refl _ _).alloc (Nat.le_refl _) _))
 have hR6 : Rdr W5 B a n c L k ov := by rw [hW]; exact HR5.out.below ((Below.refl _ _).alloc (Nat.le_refl _) _)
 have hp6 : W5.heap[w.heap.size]? = some (.cells #[.int .i64 0, .int .i64 0, .string ⟨#[]⟩] 50 (0, 0)) := by rw [hW]; exact (Below.heap_alloc _ _ _ (by omega)).trans HP5.out
 have hq6 : W5.heap[w5.heap.size]? = some (.cells #[.int .i64 uk, .string us, .int .i64 un] 45 (0, 0)) := by rw [hW]; exact new0 _ _
 have hs6 : W5.heap.size = w5.heap.size + 1 := by rw [hW]; simp
 obtain ⟨x0, x1, x2, f0, f1, f2⟩ := bx3 hp6
 obtain ⟨y0, y1, y2, g0, g1, g2⟩ := bx3 hq6
 obtain ⟨v0, v1, v2, e0, e1, e2⟩ := hR6.cells
 have HP6 := hid hp6
 have HR6 := hid hR6
 have HN6 := hid hN6
 clear hW hN6 hR6 hp6 hq6
 obtain ⟨n2, n3⟩ := hn
 have n2e : (uk == 2) = false := by simpa using n2
 have n3e : (uk == 3) = false := by simpa using n3
 go_wp2_with fail
 obtain ⟨_, r0, r1, r2⟩ := st3 (Below.refl 0 W5) (Nat.zero_le _) HP6.out (.int .i64 0) (.int .i64 0) (.string ⟨#[]⟩)
 refine bodyPost_ret (v := .tuple #[.agg #[.int .i64 0, .int .i64 0, .string ⟨#[]⟩], .bool false]) (by simp [results, Tryd.results78, go_sem, r0, r1, r2]; try rfl) rfl ?_
 obtain ⟨g1, g2⟩ := goes3 HH.out HN6.out HR6.out (Nat.le_refl w.heap.size) (.int .i64 0) (.int .i64 0) (.string ⟨#[]⟩)
 exact ⟨g1, rfl, g2⟩
theorem lit5 (w : World) (hT : Tbq w) (B : Nat) (hB : B ≠ 1) (a : Option Addr) (n c : Nat) (L : List Tk) (k : Nat) (ov : Value) (h : Rdr w B a n c L k ov) (m0 : mayB L k sNULL = false) (m1 : mayB L k sFALSE = false) (m2 : mayB L k sTRUE = false) (m3 : mayB L k sMinus = false) (hn : (L.getD k tk0).k = 2) :
  Calls Tryd.prog 78 #[.pointer (some ⟨B, 0, none⟩)] w (Goes w B a n c L ov (.inr (.tuple #[vV 2 (L.getD k tk0).n ⟨#[]⟩, .bool true], k + 1))) := by
 obtain ⟨ct, cf, hco⟩ := hT.c
 have hb0 : Below w.heap.size w (w.alloc (.cells #[.int .i64 0, .int .i64 0, .string ⟨#[]⟩] 50)) := (Below.refl _ _).alloc (Nat.le_refl _) _
 have HCO : Hid ((w.alloc (.cells #[.int .i64 0, .int .i64 0, .string ⟨#[]⟩] 50)).heap[1]? = some (.cells coC ct cf)) := (hb0.block _ (heap_lt hco)).trans hco
 have HI0 := con0
 have HI1 := con1
 have HI2 := con2
 have HM0 : Hid (∀ W, Rdr W B a n c L k ov → Calls Tryd.prog 50 #[.pointer (some ⟨B, 0, none⟩), .string sNULL] W fun e w' => e = .returned (.bool false) ∧ Rdr w' B a n c L k ov ∧ But B W w') := fun W g => by
  have := may_any W B a n c L k ov g sNULL
  rw [m0] at this
  exact this
 have HM1 : Hid (∀ W, Rdr W B a n c L k ov → Calls Tryd.prog 50 #[.pointer (some ⟨B, 0, none⟩), .string sFALSE] W fun e w' => e = .returned (.bool false) ∧ Rdr w' B a n c L k ov ∧ But B W w') := fun W g => by
  have := may_any W B a n c L k ov g sFALSE
  rw [m1] at this
  exact this
 have HM2 : Hid (∀ W, Rdr W B a n c L k ov → Calls Tryd.prog 50 #[.pointer (some ⟨B, 0, none⟩), .string sTRUE] W fun e w' => e = .returned (.bool false) ∧ Rdr w' B a n c L k ov ∧ But B W w') := fun W g => by
  have := may_any W B a n c L k ov g sTRUE
  rw [m2] at this
  exact this
 have HM3 : Hid (∀ W, Rdr W B a n c L k ov → Calls Tryd.prog 50 #[.pointer (some ⟨B, 0, none⟩), .string sMinus] W fun e w' => e = .returned (.bool false) ∧ Rdr w' B a n c L k ov ∧ But B W w') := fun W g => by
  have := may_any W B a n c L k ov g sMinus
  rw [m3] at this
  exact this
 simp only [coC] at HI0 HI1 HI2 HCO
 have hlt := heap_lt h.box
 have HH := hid h
 have HNO : Hid (∀ W, Rdr W B a n c L k ov → Calls Tryd.prog 72 #[.pointer (some ⟨B, 0, none⟩)] W fun e w' => e = .returned (tokV (L.getD k tk0)) ∧ Below W.heap.size W w') := fun W g => now_any W B a n c L k ov g
 have HU : Hid (∀ W, Rdr W B a n c L k ov → Calls Tryd.prog 80 #[.pointer (some ⟨B, 0, none⟩)] W (Goes W B a n c L ov (numF L n k))) := fun W g => number_any W B a n c L k ov g
 have HG : Hid (∀ W, Rdr W B a n c L k ov → Calls Tryd.prog 58 #[.pointer (some ⟨B, 0, none⟩), .int .i64 1] W fun e w' => e = flt k (if k = n then 7 else 1) ∧ Below W.heap.size W w') := fun W g => giveUp_any W B a n c L k ov g 1
 have hml := len_t h.row
 have HST : Hid ((L.getD k tk0).k ≠ 0 → ∀ w1, Rdr w1 B a n c L k ov → Rdr (w1.setCell ⟨B, 1, none⟩ (.int .i64 ((k : Int) + 1))) B a n c L (k + 1) ov) := fun hm w1 g => by
  have := g.step (k + 1) (by have := kind_lt (L := L) (k := k) hm; omega)
  rwa [show ((k + 1 : Nat) : Int) = (k : Int) + 1 by omega] at this
 have hle := h.le
 have hsm := h.sm
 clear m0 m1 m2 m3 hml
 have hQ : numF L n k = .inr (.int .i64 (L.getD k tk0).n, k + 1) := by unfold numF; rw [if_pos hn]
 obtain ⟨u, hu⟩ : ∃ u, u = L.getD k tk0 := ⟨_, rfl⟩
 (try rw [← hu] at HNO)
 (try rw [← hu] at HST)
 rw [← hu] at hn hQ ⊢
 clear hu
 obtain ⟨uk, ut, un⟩ := u
 simp only [tokV] at *
 obtain ⟨us, hus⟩ : ∃ us : ByteArray, us = ⟨ut.toArray⟩ := ⟨_, rfl⟩
 have hsz : us.size = ut.length := by rw [hus]; exact List.size_toArray
 rw [← hus] at HNO
 (try rw [← hus])
 clear hus
 subst hn
 clear hco hT h
 go_enter Tryd.func78, Tryd.ntmps78
 go_wp2_with (refine wpList_load_row rfl _ _ rfl _ rfl _ _ _ _ HCO.out Tryd.underlying103 rfl (by kernel_rfl) ?_)
 refine wp_loop_rounds 4 ?_
 rw [rounds_succ]
 go_wp2_with fail
 refine calls_nm (fun W0 hW => ?_)
 have hB0 : Below w.heap.size w W0 := by rw [hW]; exact hb0.trans (((Below.refl _ _).alloc (Nat.le_refl _) _).mono (by simp))
 have hN0 : But B w W0 := But.of hB0
 have hR0 := HH.out.below hB0
 have hp0 : W0.heap[w.heap.size]? = some (.cells #[.int .i64 0, .int .i64 0, .string ⟨#[]⟩] 50 (0, 0)) := by rw [hW]; exact (Below.heap_alloc _ _ _ (by simp)).trans (new0 _ _)
 have hq0 : W0.heap[w.heap.size + 1]? = some (.cells #[.string sNULL, .int .i64 0, .int .i64 0, .string ⟨#[]⟩] 102 (0, 0)) := by rw [hW]; exact new1 _ _ _
 have hs0 : W0.heap.size = w.heap.size + 2 := by rw [hW]; simp
 clear hB0
 clear hW
 refine (HM0.out W0 hR0).mono ?_
 rintro e w1 ⟨rfl, hr, hN⟩
 have hp := (hN.block _ (by omega) (by omega)).trans hp0
 have hq := (hN.block _ (by omega) (by omega)).trans hq0
 have hz1 : w.heap.size + 2 ≤ w1.heap.size := by have := hN.size; omega
 have HP1 := hid hp
 have HR1 := hid hr
 have HN1 := hid (hN0.trans hN)
 clear hp hq hr hN hN0 hR0 hp0 hq0 hs0
 go_wp2_with fail
 rw [rounds_succ]
 go_wp2_with fail
 refine calls_nm (fun W1 hW => ?_)
 have hN1 : But B w W1 := by rw [hW]; exact HN1.out.trans (But.of ((Below.refl _ _).alloc (Nat.le_refl _) _))
 have hR1 : Rdr W1 B a n c L k ov := by rw [hW]; exact HR1.out.below ((Below.refl _ _).alloc (Nat.le_refl _) _)
 have hp1 : W1.heap[w.heap.size]? = some (.cells #[.int .i64 0, .int .i64 0, .string ⟨#[]⟩] 50 (0, 0)) := by rw [hW]; exact (Below.heap_alloc _ _ _ (by omega)).trans HP1.out
 have hq1 : W1.heap[w1.heap.size]? = some (.cells #[.string sFALSE, .int .i64 1, .int .i64 0, .string ⟨#[]⟩] 102 (0, 0)) := by rw [hW]; exact new0 _ _
 have hs1 : W1.heap.size = w1.heap.size + 1 := by rw [hW]; simp
 clear hW
 refine (HM1.out W1 hR1).mono ?_
 rintro e w2 ⟨rfl, hr, hN⟩
 have hp := (hN.block _ (by omega) (by omega)).trans hp1
 have hq := (hN.block _ (by omega) (by omega)).trans hq1
 have hz2 : w.heap.size + 2 ≤ w2.heap.size := by have := hN.size; omega
 have HP2 := hid hp
 have HR2 := hid hr
 have HN2 := hid (hN1.trans hN)
 clear hp hq hr hN hN1 hR1 hp1 hq1 hs1
 go_wp2_with fail
 rw [rounds_succ]
 go_wp2_with fail
 refine calls_nm (fun W2 hW => ?_)
 have hN2 : But B w W2 := by rw [hW]; exact HN2.out.trans (But.of ((Below.refl _ _).alloc (Nat.le_refl _) _))
 have hR2 : Rdr W2 B a n c L k ov := by rw [hW]; exact HR2.out.below ((Below.refl _ _).alloc (Nat.le_refl _) _)
 have hp2 : W2.heap[w.heap.size]? = some (.cells #[.int .i64 0, .int .i64 0, .string ⟨#[]⟩] 50 (0, 0)) := by rw [hW]; exact (Below.heap_alloc _ _ _ (by omega)).trans HP2.out
 have hq2 : W2.heap[w2.heap.size]? = some (.cells #[.string sTRUE, .int .i64 1, .int .i64 1, .string ⟨#[]⟩] 102 (0, 0)) := by rw [hW]; exact new0 _ _
 have hs2 : W2.heap.size = w2.heap.size + 1 := by rw [hW]; simp
 clear hW
 refine (HM2.out W2 hR2).mono ?_
 rintro e w3 ⟨rfl, hr, hN⟩
 have hp := (hN.block _ (by omega) (by omega)).trans hp2
 have hq := (hN.block _ (by omega) (by omega)).trans hq2
 have hz3 : w.heap.size + 2 ≤ w3.heap.size := by have := hN.size; omega
 have HP3 := hid hp
 have HR3 := hid hr
 have HN3 := hid (hN2.trans hN)
 clear hp hq hr hN hN2 hR2 hp2 hq2 hs2
 go_wp2_with fail
 rw [rounds_succ]
 go_wp2_with fail
 refine (HM3.out w3 HR3.out).mono ?_
 rintro e w4 ⟨rfl, hr, hN⟩
 have hp := (hN.block _ (by omega) (by omega)).trans HP3.out
 have HP4 := hid hp
 have HR4 := hid hr
 have HN4 := hid (HN3.out.trans hN)
 have hz4 : w.heap.size + 2 ≤ w4.heap.size := by have := hN.size; omega
 clear hp hr hN
 go_wp2_with fail
 refine (HNO.out w4 HR4.out).mono ?_
 rintro e w5 ⟨rfl, hb5⟩
 have hz5 : w.heap.size + 2 ≤ w5.heap.size := by have := hb5.size; omega
 have HP5 := hid ((hb5.block _ (by omega)).trans HP4.out)
 have HR5 := hid (HR4.out.below hb5)
 have HN5 := hid (HN4.out.trans (But.of hb5))
 clear hb5
 go_upto_region 10 with (fail)
 refine code_nm (fun W5 hW => ?_)
 have hN6 : But B w W5 := by rw [hW]; exact HN5.out.trans (But.of ((Below.refl _ _).alloc (Nat.le_refl _) _))
 have hR6 : Rdr W5 B a n c L k ov := by rw [hW]; exact HR5.out.below ((Below.refl _ _).alloc (Nat.le_refl _) _)
 have hp6 : W5.heap[w.heap.size]? = some (.cells #[.int .i64 0, .int .i64 0, .string ⟨#[]⟩] 50 (0, 0)) := by rw [hW]; exact (Below.heap_alloc _ _ _ (by omega)).trans HP5.out
 have hq6 : W5.heap[w5.heap.size]? = some (.cells #[.int .i64 2, .string us, .int .i64 un] 45 (0, 0)) := by rw [hW]; exact new0 _ _
 have hs6 : W5.heap.size = w5.heap.size + 1 := by rw [hW]; simp
 obtain ⟨x0, x1, x2, f0, f1, f2⟩ := bx3 hp6
 obtain ⟨y0, y1, y2, g0, g1, g2⟩ := bx3 hq6
 obtain ⟨v0, v1, v2, e0, e1, e2⟩ := hR6.cells
 have HP6 := hid hp6
 have HR6 := hid hR6
 have HN6 := hid hN6
 clear hW hN6 hR6 hp6 hq6
 go_wp2_with fail
 refine (HU.out W5 HR6.out).mono ?_
 rintro e w7 ⟨hN, he⟩
 rw [hQ] at he
 obtain ⟨rfl, hr⟩ := he
 have hp := (hN.block _ (by omega) (by omega)).trans HP6.out
 clear x0 x1 x2 f0 f1 f2 v0 v1 v2 e0 e1 e2
 obtain ⟨x0, x1, x2, f0, f1, f2⟩ := bx3 hp
 have HP7 := hid hp
 have HR7 := hid hr
 have HN7 := hid (HN6.out.trans hN)
 clear hp hr hN
 go_wp2_with fail
 obtain ⟨_, r0, r1, r2⟩ := st3 (Below.refl 0 w7) (Nat.zero_le _) HP7.out (.int .i64 2) (.int .i64 un) (.string ⟨#[]⟩)
 refine bodyPost_ret (v := .tuple #[.agg #[.int .i64 2, .int .i64 un, .string ⟨#[]⟩], .bool true]) (by simp [results, Tryd.results78, go_sem, r0, r1, r2]; try rfl) rfl ?_
 obtain ⟨g1, g2⟩ := goes3 HH.out HN7.out HR7.out (Nat.le_refl w.heap.size) (.int .i64 2) (.int .i64 un) (.string ⟨#[]⟩)
 exact ⟨g1, rfl, g2⟩
theorem lit6 (w : World) (hT : Tbq w) (B : Nat) (hB : B ≠ 1) (a : Option Addr) (n c : Nat) (L : List Tk) (k : Nat) (ov : Value) (h : Rdr w B a n c L k ov) (m0 : mayB L k sNULL = false) (m1 : mayB L k sFALSE = false) (m2 : mayB L k sTRUE = false) (m3 : mayB L k sMinus = false) (hn : (L.getD k tk0).k = 3) (hl : 20 < (L.getD k tk0).t.length) :
  Calls Tryd.prog 78 #[.pointer (some ⟨B, 0, none⟩)] w (Goes w B a n c L ov (.inl (fl n k 1))) := by
 obtain ⟨ct, cf, hco⟩ := hT.c
 have hb0 : Below w.heap.size w (w.alloc (.cells #[.int .i64 0, .int .i64 0, .string ⟨#[]⟩] 50)) := (Below.refl _ _).alloc (Nat.le_refl _) _
 have HCO : Hid ((w.alloc (.cells #[.int .i64 0, .int .i64 0, .string ⟨#[]⟩] 50)).heap[1]? = some (.cells coC ct cf)) := (hb0.block _ (heap_lt hco)).trans hco
 have HI0 := con0
 have HI1 := con1
 have HI2 := con2
 have HM0 : Hid (∀ W, Rdr W B a n c L k ov → Calls Tryd.prog 50 #[.pointer (some ⟨B, 0, none⟩), .string sNULL] W fun e w' => e = .returned (.bool false) ∧ Rdr w' B a n c L k ov ∧ But B W w') := fun W g => by
  have := may_any W B a n c L k ov g sNULL
  rw [m0] at this
  exact this
 have HM1 : Hid (∀ W, Rdr W B a n c L k ov → Calls Tryd.prog 50 #[.pointer (some ⟨B, 0, none⟩), .string sFALSE] W fun e w' => e = .returned (.bool false) ∧ Rdr w' B a n c L k ov ∧ But B W w') := fun W g => by
  have := may_any W B a n c L k ov g sFALSE
  rw [m1] at this
  exact this
 have HM2 : Hid (∀ W, Rdr W B a n c L k ov → Calls Tryd.prog 50 #[.pointer (some ⟨B, 0, none⟩), .string sTRUE] W fun e w' => e = .returned (.bool false) ∧ Rdr w' B a n c L k ov ∧ But B W w') := fun W g => by
  have := may_any W B a n c L k ov g sTRUE
  rw [m2] at this
  exact this
 have HM3 : Hid (∀ W, Rdr W B a n c L k ov → Calls Tryd.prog 50 #[.pointer (some ⟨B, 0, none⟩), .string sMinus] W fun e w' => e = .returned (.bool false) ∧ Rdr w' B a n c L k ov ∧ But B W w') := fun W g => by
  have := may_any W B a n c L k ov g sMinus
  rw [m3] at this
  exact this
 simp only [coC] at HI0 HI1 HI2 HCO
 have hlt := heap_lt h.box
 have HH := hid h
 have HNO : Hid (∀ W, Rdr W B a n c L k ov → Calls Tryd.prog 72 #[.pointer (some ⟨B, 0, none⟩)] W fun e w' => e = .returned (tokV (L.getD k tk0)) ∧ Below W.heap.size W w') := fun W g => now_any W B a n c L k ov g
 have HU : Hid (∀ W, Rdr W B a n c L k ov → Calls Tryd.prog 80 #[.pointer (some ⟨B, 0, none⟩)] W (Goes W B a n c L ov (numF L n k))) := fun W g => number_any W B a n c L k ov g
 have HG : Hid (∀ W, Rdr W B a n c L k ov → Calls Tryd.prog 58 #[.pointer (some ⟨B, 0, none⟩), .int .i64 1] W fun e w' => e = flt k (if k = n then 7 else 1) ∧ Below W.heap.size W w') := fun W g => giveUp_any W B a n c L k ov g 1
 have hml := len_t h.row
 have HST : Hid ((L.getD k tk0).k ≠ 0 → ∀ w1, Rdr w1 B a n c L k ov → Rdr (w1.setCell ⟨B, 1, none⟩ (.int .i64 ((k : Int) + 1))) B a n c L (k + 1) ov) := fun hm w1 g => by
  have := g.step (k + 1) (by have := kind_lt (L := L) (k := k) hm; omega)
  rwa [show ((k + 1 : Nat) : Int) = (k : Int) + 1 by omega] at this
 have hle := h.le
 have hsm := h.sm
 clear m0 m1 m2 m3 hml
 obtain ⟨u, hu⟩ : ∃ u, u = L.getD k tk0 := ⟨_, rfl⟩
 (try rw [← hu] at HNO)
 (try rw [← hu] at HST)
 rw [← hu] at hn hl
 clear hu
 obtain ⟨uk, ut, un⟩ := u
 simp only [tokV] at *
 obtain ⟨us, hus⟩ : ∃ us : ByteArray, us = ⟨ut.toArray⟩ := ⟨_, rfl⟩
 have hsz : us.size = ut.length := by rw [hus]; exact List.size_toArray
 rw [← hus] at HNO
 (try rw [← hus])
 clear hus
 subst hn
 clear hco hT h
 go_enter Tryd.func78, Tryd.ntmps78
 go_wp2_with (refine wpList_load_row rfl _ _ rfl _ rfl _ _ _ _ HCO.out Tryd.underlying103 rfl (by kernel_rfl) ?_)
 refine wp_loop_rounds 4 ?_
 rw [rounds_succ]
 go_wp2_with fail
 refine calls_nm (fun W0 hW => ?_)
 have hB0 : Below w.heap.size w W0 := by rw [hW]; exact hb0.trans (((Below.refl _ _).alloc (Nat.le_refl _) _).mono (by simp))
 have hN0 : But B w W0 := But.of hB0
 have hR0 := HH.out.below hB0
 have hp0 : W0.heap[w.heap.size]? = some (.cells #[.int .i64 0, .int .i64 0, .string ⟨#[]⟩] 50 (0, 0)) := by rw [hW]; exact (Below.heap_alloc _ _ _ (by simp)).trans (new0 _ _)
 have hq0 : W0.heap[w.heap.size + 1]? = some (.cells #[.string sNULL, .int .i64 0, .int .i64 0, .string ⟨#[]⟩] 102 (0, 0)) := by rw [hW]; exact new1 _ _ _
 have hs0 : W0.heap.size = w.heap.size + 2 := by rw [hW]; simp
 clear hB0
 clear hW
 refine (HM0.out W0 hR0).mono ?_
 rintro e w1 ⟨rfl, hr, hN⟩
 have hp := (hN.block _ (by omega) (by omega)).trans hp0
 have hq := (hN.block _ (by omega) (by omega)).trans hq0
 have hz1 : w.heap.size + 2 ≤ w1.heap.size := by have := hN.size; omega
 have HP1 := hid hp
 have HR1 := hid hr
 have HN1 := hid (hN0.trans hN)
 clear hp hq hr hN hN0 hR0 hp0 hq0 hs0
 go_wp2_with fail
 rw [rounds_succ]
 go_wp2_with fail
 refine calls_nm (fun W1 hW => ?_)
 have hN1 : But B w W1 := by rw [hW]; exact HN1.out.trans (But.of ((Below.refl _ _).alloc (Nat.le_refl _) _))
 have hR1 : Rdr W1 B a n c L k ov := by rw [hW]; exact HR1.out.below ((Below.refl _ _).alloc (Nat.le_refl _) _)
 have hp1 : W1.heap[w.heap.size]? = some (.cells #[.int .i64 0, .int .i64 0, .string ⟨#[]⟩] 50 (0, 0)) := by rw [hW]; exact (Below.heap_alloc _ _ _ (by omega)).trans HP1.out
 have hq1 : W1.heap[w1.heap.size]? = some (.cells #[.string sFALSE, .int .i64 1, .int .i64 0, .string ⟨#[]⟩] 102 (0, 0)) := by rw [hW]; exact new0 _ _
 have hs1 : W1.heap.size = w1.heap.size + 1 := by rw [hW]; simp
 clear hW
 refine (HM1.out W1 hR1).mono ?_
 rintro e w2 ⟨rfl, hr, hN⟩
 have hp := (hN.block _ (by omega) (by omega)).trans hp1
 have hq := (hN.block _ (by omega) (by omega)).trans hq1
 have hz2 : w.heap.size + 2 ≤ w2.heap.size := by have := hN.size; omega
 have HP2 := hid hp
 have HR2 := hid hr
 have HN2 := hid (hN1.trans hN)
 clear hp hq hr hN hN1 hR1 hp1 hq1 hs1
 go_wp2_with fail
 rw [rounds_succ]
 go_wp2_with fail
 refine calls_nm (fun W2 hW => ?_)
 have hN2 : But B w W2 := by rw [hW]; exact HN2.out.trans (But.of ((Below.refl _ _).alloc (Nat.le_refl _) _))
 have hR2 : Rdr W2 B a n c L k ov := by rw [hW]; exact HR2.out.below ((Below.refl _ _).alloc (Nat.le_refl _) _)
 have hp2 : W2.heap[w.heap.size]? = some (.cells #[.int .i64 0, .int .i64 0, .string ⟨#[]⟩] 50 (0, 0)) := by rw [hW]; exact (Below.heap_alloc _ _ _ (by omega)).trans HP2.out
 have hq2 : W2.heap[w2.heap.size]? = some (.cells #[.string sTRUE, .int .i64 1, .int .i64 1, .string ⟨#[]⟩] 102 (0, 0)) := by rw [hW]; exact new0 _ _
 have hs2 : W2.heap.size = w2.heap.size + 1 := by rw [hW]; simp
 clear hW
 refine (HM2.out W2 hR2).mono ?_
 rintro e w3 ⟨rfl, hr, hN⟩
 have hp := (hN.block _ (by omega) (by omega)).trans hp2
 have hq := (hN.block _ (by omega) (by omega)).trans hq2
 have hz3 : w.heap.size + 2 ≤ w3.heap.size := by have := hN.size; omega
 have HP3 := hid hp
 have HR3 := hid hr
 have HN3 := hid (hN2.trans hN)
 clear hp hq hr hN hN2 hR2 hp2 hq2 hs2
 go_wp2_with fail
 rw [rounds_succ]
 go_wp2_with fail
 refine (HM3.out w3 HR3.out).mono ?_
 rintro e w4 ⟨rfl, hr, hN⟩
 have hp := (hN.block _ (by omega) (by omega)).trans HP3.out
 have HP4 := hid hp
 have HR4 := hid hr
 have HN4 := hid (HN3.out.trans hN)
 have hz4 : w.heap.size + 2 ≤ w4.heap.size := by have := hN.size; omega
 clear hp hr hN
 go_wp2_with fail
 refine (HNO.out w4 HR4.out).mono ?_
 rintro e w5 ⟨rfl, hb5⟩
 have hz5 : w.heap.size + 2 ≤ w5.heap.size := by have := hb5.size; omega
 have HP5 := hid ((hb5.block _ (by omega)).trans HP4.out)
 have HR5 := hid (HR4.out.below hb5)
 have HN5 := hid (HN4.out.trans (But.of hb5))
 clear hb5
 go_upto_region 10 with (fail)
 refine code_nm (fun W5 hW => ?_)
 have hN6 : But B w W5 := by rw [hW]; exact HN5.out.trans (But.of ((Below.refl _ _).alloc (Nat.le_refl _) _))
 have hR6 : Rdr W5 B a n c L k ov := by rw [hW]; exact HR5.out.below ((Below.refl _ _).alloc (Nat.le_refl _) _)
 have hp6 : W5.heap[w.heap.size]? = some (.cells #[.int .i64 0, .int .i64 0, .string ⟨#[]⟩] 50 (0, 0)) := by rw [hW]; exact (Below.heap_alloc _ _ _ (by omega)).trans HP5.out
 have hq6 : W5.heap[w5.heap.size]? = some (.cells #[.int .i64 3, .string us, .int .i64 un] 45 (0, 0)) := by rw [hW]; exact new0 _ _
 have hs6 : W5.heap.size = w5.heap.size + 1 := by rw [hW]; simp
 obtain ⟨x0, x1, x2, f0, f1, f2⟩ := bx3 hp6
 obtain ⟨y0, y1, y2, g0, g1, g2⟩ := bx3 hq6
 obtain ⟨v0, v1, v2, e0, e1, e2⟩ := hR6.cells
 have HP6 := hid hp6
 have HR6 := hid hR6
 have HN6 := hid hN6
 clear hW hN6 hR6 hp6 hq6
 have i20 : (20 : Int) < (us.size : Int) := by omega
 go_wp2_with fail
 refine (HG.out W5 HR6.out).mono ?_
 rintro e w7 ⟨rfl, hb⟩
 exact ⟨rfl, HN6.out.trans (But.of hb), rfl⟩
theorem lit7 (w : World) (hT : Tbq w) (B : Nat) (hB : B ≠ 1) (a : Option Addr) (n c : Nat) (L : List Tk) (k : Nat) (ov : Value) (h : Rdr w B a n c L k ov) (m0 : mayB L k sNULL = false) (m1 : mayB L k sFALSE = false) (m2 : mayB L k sTRUE = false) (m3 : mayB L k sMinus = false) (hn : (L.getD k tk0).k = 3) (hl : ¬ 20 < (L.getD k tk0).t.length) :
  Calls Tryd.prog 78 #[.pointer (some ⟨B, 0, none⟩)] w (Goes w B a n c L ov (.inr (.tuple #[vV 3 0 ⟨(L.getD k tk0).t.toArray⟩, .bool true], k + 1))) := by
 obtain ⟨ct, cf, hco⟩ := hT.c
 have hb0 : Below w.heap.size w (w.alloc (.cells #[.int .i64 0, .int .i64 0, .string ⟨#[]⟩] 50)) := (Below.refl _ _).alloc (Nat.le_refl _) _
 have HCO : Hid ((w.alloc (.cells #[.int .i64 0, .int .i64 0, .string ⟨#[]⟩] 50)).heap[1]? = some (.cells coC ct cf)) := (hb0.block _ (heap_lt hco)).trans hco
 have HI0 := con0
 have HI1 := con1
 have HI2 := con2
 have HM0 : Hid (∀ W, Rdr W B a n c L k ov → Calls Tryd.prog 50 #[.pointer (some ⟨B, 0, none⟩), .string sNULL] W fun e w' => e = .returned (.bool false) ∧ Rdr w' B a n c L k ov ∧ But B W w') := fun W g => by
  have := may_any W B a n c L k ov g sNULL
  rw [m0] at this
  exact this
 have HM1 : Hid (∀ W, Rdr W B a n c L k ov → Calls Tryd.prog 50 #[.pointer (some ⟨B, 0, none⟩), .string sFALSE] W fun e w' => e = .returned (.bool false) ∧ Rdr w' B a n c L k ov ∧ But B W w') := fun W g => by
  have := may_any W B a n c L k ov g sFALSE
  rw [m1] at this
  exact this
 have HM2 : Hid (∀ W, Rdr W B a n c L k ov → Calls Tryd.prog 50 #[.pointer (some ⟨B, 0, none⟩), .string sTRUE] W fun e w' => e = .returned (.bool false) ∧ Rdr w' B a n c L k ov ∧ But B W w') := fun W g => by
  have := may_any W B a n c L k ov g sTRUE
  rw [m2] at this
  exact this
 have HM3 : Hid (∀ W, Rdr W B a n c L k ov → Calls Tryd.prog 50 #[.pointer (some ⟨B, 0, none⟩), .string sMinus] W fun e w' => e = .returned (.bool false) ∧ Rdr w' B a n c L k ov ∧ But B W w') := fun W g => by
  have := may_any W B a n c L k ov g sMinus
  rw [m3] at this
  exact this
 simp only [coC] at HI0 HI1 HI2 HCO
 have hlt := heap_lt h.box
 have HH := hid h
 have HNO : Hid (∀ W, Rdr W B a n c L k ov → Calls Tryd.prog 72 #[.pointer (some ⟨B, 0, none⟩)] W fun e w' => e = .returned (tokV (L.getD k tk0)) ∧ Below W.heap.size W w') := fun W g => now_any W B a n c L k ov g
 have HU : Hid (∀ W, Rdr W B a n c L k ov → Calls Tryd.prog 80 #[.pointer (some ⟨B, 0, none⟩)] W (Goes W B a n c L ov (numF L n k))) := fun W g => number_any W B a n c L k ov g
 have HG : Hid (∀ W, Rdr W B a n c L k ov → Calls Tryd.prog 58 #[.pointer (some ⟨B, 0, none⟩), .int .i64 1] W fun e w' => e = flt k (if k = n then 7 else 1) ∧ Below W.heap.size W w') := fun W g => giveUp_any W B a n c L k ov g 1
 have hml := len_t h.row
 have HST : Hid ((L.getD k tk0).k ≠ 0 → ∀ w1, Rdr w1 B a n c L k ov → Rdr (w1.setCell ⟨B, 1, none⟩ (.int .i64 ((k : Int) + 1))) B a n c L (k + 1) ov) := fun hm w1 g => by
  have := g.step (k + 1) (by have := kind_lt (L := L) (k := k) hm; omega)
  rwa [show ((k + 1 : Nat) : Int) = (k : Int) + 1 by omega] at this
 have hle := h.le
 have hsm := h.sm
 clear m0 m1 m2 m3 hml
 obtain ⟨u, hu⟩ : ∃ u, u = L.getD k tk0 := ⟨_, rfl⟩
 (try rw [← hu] at HNO)
 (try rw [← hu] at HST)
 rw [← hu] at hn hl ⊢
 clear hu
 obtain ⟨uk, ut, un⟩ := u
 simp only [tokV] at *
 obtain ⟨us, hus⟩ : ∃ us : ByteArray, us = ⟨ut.toArray⟩ := ⟨_, rfl⟩
 have hsz : us.size = ut.length := by rw [hus]; exact List.size_toArray
 rw [← hus] at HNO
 (try rw [← hus])
 clear hus
 subst hn
 clear hco hT h
 go_enter Tryd.func78, Tryd.ntmps78
 go_wp2_with (refine wpList_load_row rfl _ _ rfl _ rfl _ _ _ _ HCO.out Tryd.underlying103 rfl (by kernel_rfl) ?_)
 refine wp_loop_rounds 4 ?_
 rw [rounds_succ]
 go_wp2_with fail
 refine calls_nm (fun W0 hW => ?_)
 have hB0 : Below w.heap.size w W0 := by rw [hW]; exact hb0.trans (((Below.refl _ _).alloc (Nat.le_refl _) _).mono (by simp))
 have hN0 : But B w W0 := But.of hB0
 have hR0 := HH.out.below hB0
 have hp0 : W0.heap[w.heap.size]? = some (.cells #[.int .i64 0, .int .i64 0, .string ⟨#[]⟩] 50 (0, 0)) := by rw [hW]; exact (Below.heap_alloc _ _ _ (by simp)).trans (new0 _ _)
 have hq0 : W0.heap[w.heap.size + 1]? = some (.cells #[.string sNULL, .int .i64 0, .int .i64 0, .string ⟨#[]⟩] 102 (0, 0)) := by rw [hW]; exact new1 _ _ _
 have hs0 : W0.heap.size = w.heap.size + 2 := by rw [hW]; simp
 clear hB0
 clear hW
 refine (HM0.out W0 hR0).mono ?_
 rintro e w1 ⟨rfl, hr, hN⟩
 have hp := (hN.block _ (by omega) (by omega)).trans hp0
 have hq := (hN.block _ (by omega) (by omega)).trans hq0
 have hz1 : w.heap.size + 2 ≤ w1.heap.size := by have := hN.size; omega
 have HP1 := hid hp
 have HR1 := hid hr
 have HN1 := hid (hN0.trans hN)
 clear hp hq hr hN hN0 hR0 hp0 hq0 hs0
 go_wp2_with fail
 rw [rounds_succ]
 go_wp2_with fail
 refine calls_nm (fun W1 hW => ?_)
 have hN1 : But B w W1 := by rw [hW]; exact HN1.out.trans (But.of ((Below.refl _ _).alloc (Nat.le_refl _) _))
 have hR1 : Rdr W1 B a n c L k ov := by rw [hW]; exact HR1.out.below ((Below.refl _ _).alloc (Nat.le_refl _) _)
 have hp1 : W1.heap[w.heap.size]? = some (.cells #[.int .i64 0, .int .i64 0, .string ⟨#[]⟩] 50 (0, 0)) := by rw [hW]; exact (Below.heap_alloc _ _ _ (by omega)).trans HP1.out
 have hq1 : W1.heap[w1.heap.size]? = some (.cells #[.string sFALSE, .int .i64 1, .int .i64 0, .string ⟨#[]⟩] 102 (0, 0)) := by rw [hW]; exact new0 _ _
 have hs1 : W1.heap.size = w1.heap.size + 1 := by rw [hW]; simp
 clear hW
 refine (HM1.out W1 hR1).mono ?_
 rintro e w2 ⟨rfl, hr, hN⟩
 have hp := (hN.block _ (by omega) (by omega)).trans hp1
 have hq := (hN.block _ (by omega) (by omega)).trans hq1
 have hz2 : w.heap.size + 2 ≤ w2.heap.size := by have := hN.size; omega
 have HP2 := hid hp
 have HR2 := hid hr
 have HN2 := hid (hN1.trans hN)
 clear hp hq hr hN hN1 hR1 hp1 hq1 hs1
 go_wp2_with fail
 rw [rounds_succ]
 go_wp2_with fail
 refine calls_nm (fun W2 hW => ?_)
 have hN2 : But B w W2 := by rw [hW]; exact HN2.out.trans (But.of ((Below.refl _ _).alloc (Nat.le_refl _) _))
 have hR2 : Rdr W2 B a n c L k ov := by rw [hW]; exact HR2.out.below ((Below.refl _ _).alloc (Nat.le_refl _) _)
 have hp2 : W2.heap[w.heap.size]? = some (.cells #[.int .i64 0, .int .i64 0, .string ⟨#[]⟩] 50 (0, 0)) := by rw [hW]; exact (Below.heap_alloc _ _ _ (by omega)).trans HP2.out
 have hq2 : W2.heap[w2.heap.size]? = some (.cells #[.string sTRUE, .int .i64 1, .int .i64 1, .string ⟨#[]⟩] 102 (0, 0)) := by rw [hW]; exact new0 _ _
 have hs2 : W2.heap.size = w2.heap.size + 1 := by rw [hW]; simp
 clear hW
 refine (HM2.out W2 hR2).mono ?_
 rintro e w3 ⟨rfl, hr, hN⟩
 have hp := (hN.block _ (by omega) (by omega)).trans hp2
 have hq := (hN.block _ (by omega) (by omega)).trans hq2
 have hz3 : w.heap.size + 2 ≤ w3.heap.size := by have := hN.size; omega
 have HP3 := hid hp
 have HR3 := hid hr
 have HN3 := hid (hN2.trans hN)
 clear hp hq hr hN hN2 hR2 hp2 hq2 hs2
 go_wp2_with fail
 rw [rounds_succ]
 go_wp2_with fail
 refine (HM3.out w3 HR3.out).mono ?_
 rintro e w4 ⟨rfl, hr, hN⟩
 have hp := (hN.block _ (by omega) (by omega)).trans HP3.out
 have HP4 := hid hp
 have HR4 := hid hr
 have HN4 := hid (HN3.out.trans hN)
 have hz4 : w.heap.size + 2 ≤ w4.heap.size := by have := hN.size; omega
 clear hp hr hN
 go_wp2_with fail
 refine (HNO.out w4 HR4.out).mono ?_
 rintro e w5 ⟨rfl, hb5⟩
 have hz5 : w.heap.size + 2 ≤ w5.heap.size := by have := hb5.size; omega
 have HP5 := hid ((hb5.block _ (by omega)).trans HP4.out)
 have HR5 := hid (HR4.out.below hb5)
 have HN5 := hid (HN4.out.trans (But.of hb5))
 clear hb5
 go_upto_region 10 with (fail)
 refine code_nm (fun W5 hW => ?_)
 have hN6 : But B w W5 := by rw [hW]; exact HN5.out.trans (But.of ((Below.refl _ _).alloc (Nat.le_refl _) _))
 have hR6 : Rdr W5 B a n c L k ov := by rw [hW]; exact HR5.out.below ((Below.refl _ _).alloc (Nat.le_refl _) _)
 have hp6 : W5.heap[w.heap.size]? = some (.cells #[.int .i64 0, .int .i64 0, .string ⟨#[]⟩] 50 (0, 0)) := by rw [hW]; exact (Below.heap_alloc _ _ _ (by omega)).trans HP5.out
 have hq6 : W5.heap[w5.heap.size]? = some (.cells #[.int .i64 3, .string us, .int .i64 un] 45 (0, 0)) := by rw [hW]; exact new0 _ _
 have hs6 : W5.heap.size = w5.heap.size + 1 := by rw [hW]; simp
 obtain ⟨x0, x1, x2, f0, f1, f2⟩ := bx3 hp6
 obtain ⟨y0, y1, y2, g0, g1, g2⟩ := bx3 hq6
 obtain ⟨v0, v1, v2, e0, e1, e2⟩ := hR6.cells
 have HP6 := hid hp6
 have HR6 := hid hR6
 have HN6 := hid hN6
 clear hW hN6 hR6 hp6 hq6
 have i20 : ¬ (20 : Int) < (us.size : Int) := by omega
 have HCL := hid (fun W => clone_any W us (by omega))
 have hS := hid (HST.out (by simp) W5 HR6.out)
 have hne1 : ¬ B = w.heap.size := by omega
 have hne2 : ¬ w5.heap.size = B := by omega
 have hne3 : ¬ B = w5.heap.size := by omega
 go_wp2_with fail
 refine calls_nm (fun W6 hW => ?_)
 have hN7 : But B w W6 := by rw [hW]; exact HN6.out.trans (But.set _ _ _ _)
 have hR7 : Rdr W6 B a n c L (k + 1) ov := by rw [hW]; exact hS.out
 have hp7 : W6.heap[w.heap.size]? = some (.cells #[.int .i64 0, .int .i64 0, .string ⟨#[]⟩] 50 (0, 0)) := by rw [hW]; exact (Below.heap_setCell _ _ _ _ (fun e => hne1 e.symm)).trans HP6.out
 have hs7 : W6.heap.size = W5.heap.size := by rw [hW]; simp
 clear hW x0 x1 x2 f0 f1 f2 v0 v1 v2 e0 e1 e2 y0 y1 y2 g0 g1 g2
 refine (HCL.out W6).mono ?_
 rintro e w8 ⟨rfl, hb⟩
 have hp := (hb.block _ (by omega)).trans hp7
 obtain ⟨x0, x1, x2, f0, f1, f2⟩ := bx3 hp
 have HP8 := hid hp
 have HR8 := hid (hR7.below hb)
 have HN8 := hid (hN7.trans (But.of hb))
 clear hp hb hp7 hR7 hN7 hs7
 go_wp2_with fail
 obtain ⟨_, r0, r1, r2⟩ := st3 (Below.refl 0 w8) (Nat.zero_le _) HP8.out (.int .i64 3) (.int .i64 0) (.string us)
 refine bodyPost_ret (v := .tuple #[.agg #[.int .i64 3, .int .i64 0, .string us], .bool true]) (by simp [results, Tryd.results78, go_sem, r0, r1, r2]; try rfl) rfl ?_
 obtain ⟨g1, g2⟩ := goes3 HH.out HN8.out HR8.out (Nat.le_refl w.heap.size) (.int .i64 3) (.int .i64 0) (.string us)
 exact ⟨g1, rfl, g2⟩
end Go.Proofs.YtdeollmeljaaoaaDoor.rd
