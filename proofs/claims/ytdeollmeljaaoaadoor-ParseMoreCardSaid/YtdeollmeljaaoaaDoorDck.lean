import Derived.Test.YtdeollmeljaaoaaDoorDak
set_option linter.unusedVariables false
set_option linter.unusedSimpArgs false
set_option maxHeartbeats 4000000
set_option maxRecDepth 100000
open Go.ChangeAt Go.ChangeShapes Go.RowKit Go.WideShapes
open Go.Lib (hid)
namespace Go.Proofs.YtdeollmeljaaoaaDoor.rd
open Go.Proofs.YtdeollmeljaaoaaDoor.cs
def fl (n k : Nat) (q : Int) : Int × Int := (k, if k = n then 7 else q)
def Goes (w : World) (B : Nat) (a : Option Addr) (n c : Nat) (L : List Tk) (ov : Value) (r : (Int × Int) ⊕ (Value × Nat)) (e : Ending) (w' : World) : Prop :=
 But B w w' ∧ match r with
  | .inl f => e = flt f.1 f.2
  | .inr (v, k') => e = .returned v ∧ Rdr w' B a n c L k' ov
def numF (L : List Tk) (n k : Nat) : (Int × Int) ⊕ (Value × Nat) := if (L.getD k tk0).k = 2 then .inr (.int .i64 (L.getD k tk0).n, k + 1) else .inl (fl n k 6)
theorem kind_lt {L : List Tk} {k : Nat} (h : (L.getD k tk0).k ≠ 0) : k < L.length := by
 by_cases hk : k < L.length
 ·exact hk
 ·exact absurd (by rw [show L.getD k tk0 = tk0 by simp [List.getD, List.getElem?_eq_none (show L.length ≤ k by omega)]]; rfl) h
theorem number_any (w : World) (B : Nat) (a : Option Addr) (n c : Nat) (L : List Tk) (k : Nat) (ov : Value) (h : Rdr w B a n c L k ov) :
  Calls Tryd.prog 80 #[.pointer (some ⟨B, 0, none⟩)] w (Goes w B a n c L ov (numF L n k)) := by
 have HN := hid (now_any w B a n c L k ov h)
 have HG : Hid (∀ W, Below w.heap.size w W → Calls Tryd.prog 58 #[.pointer (some ⟨B, 0, none⟩), .int .i64 6] W fun e w' => e = flt k (if k = n then 7 else 6) ∧ Below W.heap.size W w') := fun W hW => giveUp_any W B a n c L k ov (h.below hW) 6
 have hml := len_t h.row
 have HR : Hid (∀ w1, Below w.heap.size w w1 → Rdr w1 B a n c L k ov) := fun w1 hb => h.below hb
 have HST : Hid ((L.getD k tk0).k = 2 → ∀ w1, Below w.heap.size w w1 → Rdr (w1.setCell ⟨B, 1, none⟩ (.int .i64 ((k : Int) + 1))) B a n c L (k + 1) ov) := fun hm w1 hb => by
  have := (h.below hb).step (k + 1) (by have := kind_lt (L := L) (k := k) (by omega); omega)
  rwa [show ((k + 1 : Nat) : Int) = (k : Int) + 1 by omega] at this
 have hle := h.le
 have hsm := h.sm
 have hlt := heap_lt h.box
 clear hml
 unfold numF
 obtain ⟨u, hu⟩ : ∃ u, u = L.getD k tk0 := ⟨_, rfl⟩
 rw [← hu] at HN HST ⊢
 clear hu h
 obtain ⟨uk, ut, un⟩ := u
 simp only [tokV] at HN HST ⊢
 obtain ⟨us, hus⟩ : ∃ us : ByteArray, us = ⟨ut.toArray⟩ := ⟨_, rfl⟩
 rw [← hus] at HN
 clear hus
 by_cases k2 : uk = 2
 ·subst k2
  rw [if_pos rfl]
  have HS := hid (HST.out rfl)
  clear HST
  go_enter Tryd.func80, Tryd.ntmps80
  go_wp2_with fail
  refine HN.out.mono ?_
  rintro e w1 ⟨rfl, hb1⟩
  obtain ⟨x0, x1, x2, f0, f1, f2⟩ := (HR.out w1 hb1).cells
  have hl1 := hb1.size
  have hB1 : B < w1.heap.size := by omega
  have hne : ¬ B = w1.heap.size := by omega
  have HSS := hid ((HS.out _ hb1).below ((Below.refl _ _).alloc (Nat.le_refl _) (.cells #[.int .i64 2, .string us, .int .i64 un] 45)))
  have HB1 := hid hb1
  clear hb1
  go_wp2_with fail
  go_returns
  exact ⟨((But.of HB1.out).trans (But.set _ _ _ _)).trans (But.of ((Below.refl _ _).alloc (Nat.le_refl _) _)), rfl, HSS.out⟩
 ·rw [if_neg k2]
  have k2n : (uk != 2) = true := by simpa using k2
  go_enter Tryd.func80, Tryd.ntmps80
  go_wp2_with fail
  refine HN.out.mono ?_
  rintro e w1 ⟨rfl, hb1⟩
  have HB1 := hid hb1
  have HB2 := hid (into hb1 ((Below.refl w1.heap.size w1).alloc (Nat.le_refl _) (.cells #[.int .i64 uk, .string us, .int .i64 un] 45)))
  clear hb1
  go_wp2_with fail
  refine (HG.out _ HB2.out).mono ?_
  rintro e w2 ⟨rfl, hb2⟩
  exact ⟨rfl, But.of (into HB2.out hb2), rfl⟩
def nameF (L : List Tk) (n k : Nat) : (Int × Int) ⊕ (Value × Nat) :=
 if (L.getD k tk0).k = 1 then (if nmF (L.getD k tk0).t = 0 then .inr (.string ⟨(L.getD k tk0).t.toArray⟩, k + 1) else .inl (fl n k (nmF (L.getD k tk0).t))) else .inl (fl n k 6)
theorem nmF_len {l : List UInt8} (h : nmF l = 0) : l.length ≤ 8 := by
 unfold nmF at h
 split at h
 ·cases h
 ·omega
theorem rname_any (w : World) (hT : Tbq w) (B : Nat) (a : Option Addr) (n c : Nat) (L : List Tk) (k : Nat) (ov : Value) (h : Rdr w B a n c L k ov) (hs : (L.getD k tk0).t.length ≤ maxLen) :
  Calls Tryd.prog 53 #[.pointer (some ⟨B, 0, none⟩)] w (Goes w B a n c L ov (nameF L n k)) := by
 have HN := hid (now_any w B a n c L k ov h)
 have HG : Hid (∀ W q, Below w.heap.size w W → Calls Tryd.prog 58 #[.pointer (some ⟨B, 0, none⟩), .int .i64 q] W fun e w' => e = flt k (if k = n then 7 else q) ∧ Below W.heap.size W w') := fun W q hW => giveUp_any W B a n c L k ov (h.below hW) q
 have HM : Hid (∀ W, Below w.heap.size w W → Calls Tryd.prog 25 #[.string ⟨(L.getD k tk0).t.toArray⟩] W fun e w' => e = .returned (.int .i64 (nmF (L.getD k tk0).t)) ∧ Below W.heap.size W w') := fun W hW => name_any W (hT.m.below hW) (hT.k.below hW) _ (by show (L.getD k tk0).t.toArray.size ≤ _; rw [List.size_toArray]; exact hs)
 have HC : Hid (nmF (L.getD k tk0).t = 0 → ∀ W, Calls Tryd.prog 61 #[.string ⟨(L.getD k tk0).t.toArray⟩] W fun e w' => e = .returned (.string ⟨(L.getD k tk0).t.toArray⟩) ∧ Below W.heap.size W w') := fun h0 W => clone_any W _ (by show (L.getD k tk0).t.toArray.size ≤ _; rw [List.size_toArray]; have := nmF_len h0; omega)
 have hml := len_t h.row
 have HR : Hid (∀ w1, Below w.heap.size w w1 → Rdr w1 B a n c L k ov) := fun w1 hb => h.below hb
 have HST : Hid ((L.getD k tk0).k = 1 → ∀ w1, Below w.heap.size w w1 → Rdr (w1.setCell ⟨B, 1, none⟩ (.int .i64 ((k : Int) + 1))) B a n c L (k + 1) ov) := fun hm w1 hb => by
  have := (h.below hb).step (k + 1) (by have := kind_lt (L := L) (k := k) (by omega); omega)
  rwa [show ((k + 1 : Nat) : Int) = (k : Int) + 1 by omega] at this
 have hle := h.le
 have hsm := h.sm
 have hlt := heap_lt h.box
 clear hml hs
 unfold nameF
 obtain ⟨u, hu⟩ : ∃ u, u = L.getD k tk0 := ⟨_, rfl⟩
 rw [← hu] at HN HST HM HC ⊢
 clear hu h
 obtain ⟨uk, ut, un⟩ := u
 simp only [tokV] at HN HST HM HC ⊢
 obtain ⟨us, hus⟩ : ∃ us : ByteArray, us = ⟨ut.toArray⟩ := ⟨_, rfl⟩
 rw [← hus] at HN HM HC ⊢
 obtain ⟨m, hm⟩ : ∃ m, m = nmF ut := ⟨_, rfl⟩
 rw [← hm] at HM HC ⊢
 clear hus hm
 by_cases k1 : uk = 1
 ·subst k1
  rw [if_pos rfl]
  have HS := hid (HST.out rfl)
  clear HST
  obtain ⟨r, hr⟩ : ∃ r : (Int × Int) ⊕ (Value × Nat), r = if m = 0 then .inr (.string us, k + 1) else .inl (fl n k m) := ⟨_, rfl⟩
  rw [← hr]
  have HQ := hid hr
  clear hr
  go_enter Tryd.func53, Tryd.ntmps53
  go_wp2_with fail
  refine HN.out.mono ?_
  rintro e w1 ⟨rfl, hb1⟩
  have hl1 := hb1.size
  have hW2 : ∀ W2, W2 = w1.alloc (.cells #[.int .i64 1, .string us, .int .i64 un] 45) → Below w1.heap.size w1 W2 ∧ W2.heap[w1.heap.size]? = some (.cells #[.int .i64 1, .string us, .int .i64 un] 45 (0, 0)) ∧ W2.heap.size = w1.heap.size + 1 := fun W2 h => by
   subst h
   exact ⟨(Below.refl _ _).alloc (Nat.le_refl _) _, new0 _ _, by simp⟩
  have HW2 := hid hW2
  have HB1 := hid hb1
  clear hb1 hW2
  go_wp2_with fail
  refine calls_nm (fun W2 hW => ?_)
  obtain ⟨hb2, ht2, hl2⟩ := HW2.out W2 hW
  have HB2 := hid (into HB1.out hb2)
  clear hW hb2
  refine (HM.out _ HB2.out).mono ?_
  rintro e w3 ⟨rfl, hb3⟩
  have ht3 := (hb3.block w1.heap.size (by omega)).trans ht2
  obtain ⟨y0, y1, y2, g0, g1, g2⟩ := bx3 ht3
  have HB3 := hid (into HB2.out hb3)
  have hl3 := hb3.size
  clear hb3 ht2
  obtain ⟨x0, x1, x2, f0, f1, f2⟩ := (HR.out w3 HB3.out).cells
  by_cases hm0 : m = 0
  ·subst hm0
   have HC0 := hid (HC.out rfl)
   clear HC
   have HSS := hid (HS.out _ HB3.out)
   have hne : ¬ w1.heap.size = B := by omega
   have hne' : ¬ B = w1.heap.size := by omega
   go_wp2_with fail
   refine calls_nm (fun W4 hW => ?_)
   have hS4 : Rdr W4 B a n c L (k + 1) ov := by rw [hW]; exact HSS.out
   have hN4 : But B w W4 := by rw [hW]; exact (But.of HB3.out).trans (But.set _ _ _ _)
   refine (HC0.out _).mono ?_
   rintro e w5 ⟨rfl, hb5⟩
   have HZ : Goes w B a n c L ov r (.returned (.string us)) w5 := by
    rw [HQ.out, if_pos trivial]
    exact ⟨hN4.trans (But.of hb5), rfl, hS4.below hb5⟩
   have HZ := hid HZ
   clear hS4 hN4 hb5 hW
   go_wp2_with fail
   go_returns
   exact HZ.out
  ·have hmn : (m != 0) = true := by simpa using hm0
   go_wp2_with fail
   refine (HG.out _ _ HB3.out).mono ?_
   rintro e w4 ⟨rfl, hb4⟩
   have HZ : Goes w B a n c L ov r (flt k (if k = n then 7 else m)) w4 := by
    rw [HQ.out, if_neg hm0]
    exact ⟨But.of (into HB3.out hb4), rfl⟩
   exact ⟨rfl, HZ⟩
 ·rw [if_neg k1]
  have k1n : (uk != 1) = true := by simpa using k1
  go_enter Tryd.func53, Tryd.ntmps53
  go_wp2_with fail
  refine HN.out.mono ?_
  rintro e w1 ⟨rfl, hb1⟩
  have HB1 := hid hb1
  have HB2 := hid (into hb1 ((Below.refl w1.heap.size w1).alloc (Nat.le_refl _) (.cells #[.int .i64 uk, .string us, .int .i64 un] 45)))
  clear hb1
  go_wp2_with fail
  refine (HG.out _ _ HB2.out).mono ?_
  rintro e w2 ⟨rfl, hb2⟩
  exact ⟨rfl, But.of (into HB2.out hb2), rfl⟩
open Go.Proofs.YtdeollmeljaaoaaDoor.cs
def mustF (L : List Tk) (n : Nat) : Nat → List ByteArray → (Int × Int) ⊕ Nat
 | k, [] => .inr k
 | k, s :: l => if mayB L k s then mustF L n (k + 1) l else .inl (fl n k 6)
theorem must_any (w : World) (B : Nat) (a : Option Addr) (n c : Nat) (L : List Tk) (k : Nat) (ov : Value) (h : Rdr w B a n c L k ov) (m : Nat) (v : Value) (ts : List ByteArray) (hm : 0 < m) (hr : Rd w 1 m v (ts.map Value.string)) (hB : ∀ x cap, v = .slice (some x) m cap → 0 < m → x.block ≠ B) :
  Calls Tryd.prog 52 #[.pointer (some ⟨B, 0, none⟩), v] w fun e w' => But B w w' ∧ match mustF L n k ts with
   | .inl f => e = flt f.1 f.2
   | .inr k' => e = .returned (.tuple #[]) ∧ Rdr w' B a n c L k' ov := by
 have hml := len_s hr
 obtain ⟨b, o, cap, rfl, _, _, hbw, hcell0⟩ := hr.pos hm (by omega)
 have hcell : ∀ j, j < m → w.cell? ⟨b, o + j, none⟩ = some (.string (ts.getD j nby)) := fun j hj => hcell0 j _ (st_at (by omega))
 have hbB : b ≠ B := hB _ cap rfl hm
 have hmax := hr.len
 unfold maxLen at hmax
 have HC := hid hcell
 have HM : Hid (∀ W k' s, Rdr W B a n c L k' ov → Calls Tryd.prog 50 #[.pointer (some ⟨B, 0, none⟩), .string s] W fun e w' => e = .returned (.bool (mayB L k' s)) ∧ Rdr w' B a n c L (if mayB L k' s then k' + 1 else k') ov ∧ But B W w') := fun W k' s g => may_any W B a n c L k' ov g s
 have HG : Hid (∀ W k', Rdr W B a n c L k' ov → Calls Tryd.prog 58 #[.pointer (some ⟨B, 0, none⟩), .int .i64 6] W fun e w' => e = flt k' (if k' = n then 7 else 6) ∧ Below W.heap.size W w') := fun W k' g => giveUp_any W B a n c L k' ov g 6
 have HL := hid hml
 have HH := hid h
 obtain ⟨r, hrr⟩ : ∃ r, r = mustF L n k ts := ⟨_, rfl⟩
 rw [← hrr]
 have HQ := hid hrr
 clear hcell hcell0 hr hB hml h hrr
 go_enter Tryd.func52, Tryd.ntmps52
 go_wp2_with fail
 go_loopw [5, 8] (fun t i wr => ∃ j k' : Nat, j ≤ m ∧ i = .int .i64 (j : Int) ∧ r = mustF L n k' (ts.drop j) ∧ Rdr wr B a n c L k' ov ∧ But B w wr) (fun _ i _ => m - (intOf i).toNat)
 case atStart => exact ⟨0, k, by omega, rfl, HQ.out, HH.out, But.of (Below.refl _ _)⟩
 case round =>
  obtain ⟨j, k', hj, rfl, hq, hR, hN⟩ := hrel
  by_cases hlt : j < m
  ·have c0 : wr.cell? ⟨b, o + j, none⟩ = some (.string (ts.getD j nby)) := by
    have := HC.out j hlt
    unfold World.cell? at this ⊢
    rw [hN.block b hbw hbB]
    exact this
   have hd : ts.drop j = ts.getD j nby :: ts.drop (j + 1) := sdrop_cons (by have := HL.out; omega)
   rw [hd] at hq
   obtain ⟨s, hs⟩ : ∃ s, s = ts.getD j nby := ⟨_, rfl⟩
   rw [← hs] at c0 hq
   unfold mustF at hq
   have HW := hid hN
   have HY := hid hq
   have HV := hid (HM.out wr k' s hR)
   obtain ⟨q, hqq⟩ : ∃ q, q = mayB L k' s := ⟨_, rfl⟩
   rw [← hqq] at HV HY
   clear hd hs hq hR hN hqq
   cases q
   ·have HY' : Hid (r = .inl (fl n k' 6)) := by show _ = _; rw [HY.out]; rfl
    clear HY
    go_wp2_with fail
    refine HV.out.mono ?_
    rintro e w1 ⟨rfl, hr1, hb1⟩
    have hr1 : Rdr w1 B a n c L k' ov := hr1
    have HR1 := hid hr1
    have HB1 := hid hb1
    clear hr1 hb1
    go_wp2_with fail
    refine (HG.out _ _ HR1.out).mono ?_
    rintro e w2 ⟨rfl, hb2⟩
    refine ⟨rfl, (HW.out.trans HB1.out).trans (But.of hb2), ?_⟩
    rw [HY'.out]
    rfl
   ·have HY' : Hid (r = mustF L n (k' + 1) (ts.drop (j + 1))) := by show _ = _; rw [HY.out]; rfl
    clear HY
    go_wp2_with fail
    refine HV.out.mono ?_
    rintro e w1 ⟨rfl, hr1, hb1⟩
    have hr1 : Rdr w1 B a n c L (k' + 1) ov := hr1
    have HR1 := hid hr1
    have HB1 := hid hb1
    clear hr1 hb1
    go_wp2_with fail
    go_roundw
    case rel => exact ⟨j + 1, k' + 1, by omega, by go_num, HY'.out, HR1.out, HW.out.trans HB1.out⟩
    case measure => simp [intOf]; omega
  ·obtain rfl : j = m := by omega
   have hd : ts.drop j = [] := List.drop_eq_nil_of_le (by have := HL.out; omega)
   rw [hd] at hq
   have HW := hid hN
   have HR1 := hid hR
   obtain rfl : r = .inr k' := hq
   clear hd hN hR HQ
   go_wp2_with fail
   go_returns
   exact ⟨HW.out, rfl, HR1.out⟩
end Go.Proofs.YtdeollmeljaaoaaDoor.rd
