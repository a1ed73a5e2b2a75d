import Derived.Test.YtdeollmeljaaoaaDoorDbk
/- Words that must stand there. -/
namespace Go.Proofs.YtdeollmeljaaoaaDoor.rd
open Go.ChangeShapes Go.WideShapes Go.ChangeAt Go.RowKit Go.Proofs.YtdeollmeljaaoaaDoor.cs
set_option linter.unusedVariables false
set_option linter.unusedSimpArgs false
set_option maxHeartbeats 4000000
set_option maxRecDepth 100000
def mustF (L : List Tk) (n : Nat) : Nat → List ByteArray → (Int × Int) ⊕ Nat
  | k, [] => .inr k
  | k, s :: l => if mayB L k s then mustF L n (k + 1) l else .inl (fl n k 6)
theorem must_any (w : World) (B : Nat) (a : Option Addr) (n c : Nat) (L : List Tk) (k : Nat) (ov : Value) (h : Rdr w B a n c L k ov) (m : Nat) (v : Value) (ts : List ByteArray) (hm : 0 < m) (hr : Rd w 1 m v (ts.map Value.string)) (hB : ∀ x cap, v = .slice (some x) m cap → 0 < m → x.block ≠ B) :
    Calls Tryd.prog 52 #[.pointer (some ⟨B, 0, none⟩), v] w fun e w' => But B w w' ∧ match mustF L n k ts with
      | .inl f => e = flt f.1 f.2
      | .inr k' => e = .returned (.tuple #[]) ∧ Rdr w' B a n c L k' ov := by
  have hml := len_s hr
  obtain ⟨b, o, cap, rfl, _, _, hbw, hcell0⟩ := hr.pos hm (by omega)
  have hcell : ∀ j, j < m → w.cell? ⟨b, o + j, none⟩ = some (.string (ts.getD j nby)) := fun j hj => hcell0 j _ (st_at (by omega))
  have hbB : b ≠ B := hB _ cap rfl hm
  have hmax := hr.len
  unfold maxLen at hmax
  have HC := Lib.hid hcell
  have HM : Hid (∀ W k' s, Rdr W B a n c L k' ov → Calls Tryd.prog 50 #[.pointer (some ⟨B, 0, none⟩), .string s] W fun e w' => e = .returned (.bool (mayB L k' s)) ∧ Rdr w' B a n c L (if mayB L k' s then k' + 1 else k') ov ∧ But B W w') := fun W k' s g => may_any W B a n c L k' ov g s
  have HG : Hid (∀ W k', Rdr W B a n c L k' ov → Calls Tryd.prog 58 #[.pointer (some ⟨B, 0, none⟩), .int .i64 6] W fun e w' => e = flt k' (if k' = n then 7 else 6) ∧ Below W.heap.size W w') := fun W k' g => giveUp_any W B a n c L k' ov g 6
  have HL := Lib.hid hml
  have HH := Lib.hid h
  obtain ⟨r, hrr⟩ : ∃ r, r = mustF L n k ts := ⟨_, rfl⟩
  rw [← hrr]
  have HQ := Lib.hid hrr
  clear hcell hcell0 hr hB hml h hrr
  go_enter Tryd.func52, Tryd.ntmps52
  go_wp2_with fail
  go_loopw [5, 8] (fun t i wr => ∃ j k' : Nat, j ≤ m ∧ i = .int .i64 (j : Int) ∧ r = mustF L n k' (ts.drop j) ∧ Rdr wr B a n c L k' ov ∧ But B w wr) (fun _ i _ => m - (intOf i).toNat)
  case atStart => exact ⟨0, k, by omega, rfl, HQ.out, HH.out, But.of (Below.refl _ _)⟩
  case round =>
    obtain ⟨j, k', hj, rfl, hq, hR, hN⟩ := hrel
    by_cases hlt : j < m
    · have c0 : wr.cell? ⟨b, o + j, none⟩ = some (.string (ts.getD j nby)) := by
        have := HC.out j hlt
        unfold World.cell? at this ⊢
        rw [hN.block b hbw hbB]
        exact this
      have hd : ts.drop j = ts.getD j nby :: ts.drop (j + 1) := sdrop_cons (by have := HL.out; omega)
      rw [hd] at hq
      obtain ⟨s, hs⟩ : ∃ s, s = ts.getD j nby := ⟨_, rfl⟩
      rw [← hs] at c0 hq
      unfold mustF at hq
      have HW := Lib.hid hN
      have HY := Lib.hid hq
      have HV := Lib.hid (HM.out wr k' s hR)
      obtain ⟨q, hqq⟩ : ∃ q, q = mayB L k' s := ⟨_, rfl⟩
      rw [← hqq] at HV HY
      clear hd hs hq hR hN hqq
      cases q
      · have HY' : Hid (r = .inl (fl n k' 6)) := by show _ = _; rw [HY.out]; rfl
        clear HY
        go_wp2_with fail
        refine HV.out.mono ?_
        rintro e w1 ⟨rfl, hr1, hb1⟩
        have hr1 : Rdr w1 B a n c L k' ov := hr1
        have HR1 := Lib.hid hr1
        have HB1 := Lib.hid hb1
        clear hr1 hb1
        go_wp2_with fail
        refine (HG.out _ _ HR1.out).mono ?_
        rintro e w2 ⟨rfl, hb2⟩
        refine ⟨rfl, (HW.out.trans HB1.out).trans (But.of hb2), ?_⟩
        rw [HY'.out]
        rfl
      · have HY' : Hid (r = mustF L n (k' + 1) (ts.drop (j + 1))) := by show _ = _; rw [HY.out]; rfl
        clear HY
        go_wp2_with fail
        refine HV.out.mono ?_
        rintro e w1 ⟨rfl, hr1, hb1⟩
        have hr1 : Rdr w1 B a n c L (k' + 1) ov := hr1
        have HR1 := Lib.hid hr1
        have HB1 := Lib.hid hb1
        clear hr1 hb1
        go_wp2_with fail
        go_roundw
        case rel => exact ⟨j + 1, k' + 1, by omega, by go_num, HY'.out, HR1.out, HW.out.trans HB1.out⟩
        case measure => simp [intOf]; omega
    · obtain rfl : j = m := by omega
      have hd : ts.drop j = [] := List.drop_eq_nil_of_le (by have := HL.out; omega)
      rw [hd] at hq
      have HW := Lib.hid hN
      have HR1 := Lib.hid hR
      obtain rfl : r = .inr k' := hq
      clear hd hN hR HQ
      go_wp2_with fail
      go_returns
      exact ⟨HW.out, rfl, HR1.out⟩
end Go.Proofs.YtdeollmeljaaoaaDoor.rd
/- A reader's signs of ops. -/
namespace Go.Proofs.YtdeollmeljaaoaaDoor.rd
open Go.ChangeShapes Go.WideShapes Go.ChangeAt Go.RowKit Go.Proofs.YtdeollmeljaaoaaDoor.cs
set_option linter.unusedVariables false
set_option linter.unusedSimpArgs false
set_option maxHeartbeats 4000000
set_option maxRecDepth 100000
/-- The first of these ops whose sign stands there. -/
def signF (L : List Tk) (k : Nat) : List Nat → Option Nat
  | [] => none
  | q :: l => if mayB L k ⟨(sgL.getD q []).toArray⟩ then some q else signF L k l
theorem in_at {l : List Nat} {k : Nat} (h : k < l.length) : (l.map (fun (q : Nat) => Value.int .i64 (q : Int)))[k]? = some (.int .i64 ((l.getD k 0 : Nat) : Int)) := by
  simp [List.getD, List.getElem?_eq_getElem h]
theorem idrop_cons {l : List Nat} {k : Nat} (h : k < l.length) : l.drop k = l.getD k 0 :: l.drop (k + 1) := by
  rw [List.drop_eq_getElem_cons h]
  simp [List.getD, List.getElem?_eq_getElem h]
theorem igetD_mem {l : List Nat} {k : Nat} (h : k < l.length) : l.getD k 0 ∈ l := by
  rw [List.getD, List.getElem?_eq_getElem h]
  exact List.getElem_mem h
theorem sign_any (w : World) (hT : Tbq w) (B : Nat) (a : Option Addr) (n c : Nat) (L : List Tk) (k : Nat) (ov : Value) (h : Rdr w B a n c L k ov) (hg : B ≠ 4) (m : Nat) (v : Value) (ks : List Nat) (hk : ∀ q ∈ ks, q < 11) (hm : 0 < m) (hr : Rd w 1 m v (ks.map (fun (q : Nat) => Value.int .i64 (q : Int)))) (hB : ∀ x cap, v = .slice (some x) m cap → 0 < m → x.block ≠ B) :
    Calls Tryd.prog 90 #[.pointer (some ⟨B, 0, none⟩), v] w fun e w' => But B w w' ∧ match signF L k ks with
      | some q => e = .returned (.tuple #[.int .i64 (q : Int), .bool true]) ∧ Rdr w' B a n c L (k + 1) ov
      | none => e = .returned (.tuple #[.int .i64 0, .bool false]) ∧ Rdr w' B a n c L k ov := by
  have hml : m = ks.length := by have := hr.1; simp at this; omega
  obtain ⟨b, o, cap, rfl, _, _, hbw, hcell0⟩ := hr.pos hm (by omega)
  have hcell : ∀ j, j < m → w.cell? ⟨b, o + j, none⟩ = some (.int .i64 ((ks.getD j 0 : Nat) : Int)) := fun j hj => hcell0 j _ (in_at (by omega))
  have hbB : b ≠ B := hB _ cap rfl hm
  have hmax := hr.len
  unfold maxLen at hmax
  have HC := Lib.hid hcell
  have HM : Hid (∀ W s, Rdr W B a n c L k ov → Calls Tryd.prog 50 #[.pointer (some ⟨B, 0, none⟩), .string s] W fun e w' => e = .returned (.bool (mayB L k s)) ∧ Rdr w' B a n c L (if mayB L k s then k + 1 else k) ov ∧ But B W w') := fun W s g => may_any W B a n c L k ov g s
  have HL := Lib.hid hml
  have HH := Lib.hid h
  have HK := Lib.hid hk
  have hgw : 4 < w.heap.size := by
    have := sg_at hT.s (k := 0) (by omega)
    unfold World.cell? at this
    split at this
    · rename_i hh
      exact heap_lt hh
    all_goals first | exact absurd this (by simp) | (rename_i hh; exact heap_lt hh)
  have HS : Hid (∀ W q, But B w W → q < 11 → W.cell? ⟨4, q, none⟩ = some (.string ⟨(sgL.getD q []).toArray⟩)) := fun W q hN hq => by
    have := sg_at hT.s hq
    unfold World.cell? at this ⊢
    rw [hN.block _ hgw (fun e => hg e.symm)]
    exact this
  obtain ⟨r, hrr⟩ : ∃ r, r = signF L k ks := ⟨_, rfl⟩
  rw [← hrr]
  have HQ := Lib.hid hrr
  clear hcell hcell0 hr hB hml h hrr hT hk hgw
  go_enter Tryd.func90, Tryd.ntmps90
  go_wp2_with fail
  go_loopw [7, 10] (fun t i wr => ∃ j : Nat, j ≤ m ∧ i = .int .i64 (j : Int) ∧ r = signF L k (ks.drop j) ∧ Rdr wr B a n c L k ov ∧ But B w wr) (fun _ i _ => m - (intOf i).toNat)
  case atStart => exact ⟨0, by omega, rfl, HQ.out, HH.out, But.of (Below.refl _ _)⟩
  case round =>
    obtain ⟨j, hj, rfl, hq, hR, hN⟩ := hrel
    by_cases hlt : j < m
    · have c0 : wr.cell? ⟨b, o + j, none⟩ = some (.int .i64 ((ks.getD j 0 : Nat) : Int)) := by
        have := HC.out j hlt
        unfold World.cell? at this ⊢
        rw [hN.block b hbw hbB]
        exact this
      have hd : ks.drop j = ks.getD j 0 :: ks.drop (j + 1) := idrop_cons (by have := HL.out; omega)
      have h11 : ks.getD j 0 < 11 := HK.out _ (igetD_mem (by have := HL.out; omega))
      rw [hd] at hq
      obtain ⟨s, hs⟩ : ∃ s, s = ks.getD j 0 := ⟨_, rfl⟩
      rw [← hs] at c0 hq h11
      have c1 := HS.out wr s hN h11
      unfold signF at hq
      obtain ⟨u, hu⟩ : ∃ u : ByteArray, u = ⟨(sgL.getD s []).toArray⟩ := ⟨_, rfl⟩
      rw [← hu] at c1 hq
      have HW := Lib.hid hN
      have HY := Lib.hid hq
      have HV := Lib.hid (HM.out wr u hR)
      obtain ⟨q, hqq⟩ : ∃ q, q = mayB L k u := ⟨_, rfl⟩
      rw [← hqq] at HV HY
      clear hd hs hq hR hN hqq hu
      cases q
      · have HY' : Hid (r = signF L k (ks.drop (j + 1))) := by show _ = _; rw [HY.out]; rfl
        clear HY
        go_wp2_with fail
        refine HV.out.mono ?_
        rintro e w1 ⟨rfl, hr1, hb1⟩
        have hr1 : Rdr w1 B a n c L k ov := hr1
        have HR1 := Lib.hid hr1
        have HB1 := Lib.hid hb1
        clear hr1 hb1
        go_wp2_with fail
        go_roundw
        case rel => exact ⟨j + 1, by omega, by go_num, HY'.out, HR1.out, HW.out.trans HB1.out⟩
        case measure => simp [intOf]; omega
      · obtain rfl : r = some s := by rw [HY.out]; rfl
        clear HY HQ
        go_wp2_with fail
        refine HV.out.mono ?_
        rintro e w1 ⟨rfl, hr1, hb1⟩
        have hr1 : Rdr w1 B a n c L (k + 1) ov := hr1
        have HR1 := Lib.hid hr1
        have HB1 := Lib.hid hb1
        clear hr1 hb1
        go_wp2_with fail
        go_returns
        exact ⟨HW.out.trans HB1.out, rfl, HR1.out⟩
    · obtain rfl : j = m := by omega
      have hd : ks.drop j = [] := List.drop_eq_nil_of_le (by have := HL.out; omega)
      rw [hd] at hq
      have HW := Lib.hid hN
      have HR1 := Lib.hid hR
      obtain rfl : r = none := hq
      clear hd hN hR HQ
      go_wp2_with fail
      go_returns
      exact ⟨HW.out, rfl, HR1.out⟩
end Go.Proofs.YtdeollmeljaaoaaDoor.rd
