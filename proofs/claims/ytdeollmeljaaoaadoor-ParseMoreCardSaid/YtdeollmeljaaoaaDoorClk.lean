import Derived.Test.YtdeollmeljaaoaaDoorCkk
import Derived.Test.YtdeollmeljaaoaaDoorCbk
import Derived.Deep.RegionHeld3
import Derived.Deep.RegionWith
import Derived.Deep.RegionLaw
set_option linter.unusedVariables false
set_option linter.unusedSimpArgs false
set_option maxHeartbeats 8000000
set_option maxRecDepth 1000000
open Go.ChangeAt Go.ChangeShapes Go.RowKit Go.WideShapes
open Go.Lib (hid)
namespace Go.Proofs.YtdeollmeljaaoaaDoor.cs
theorem vtake_snoc {l : List V} {k : Nat} (h : k < l.length) : l.take (k + 1) = l.take k ++ [l.getD k nul] := by
 rw [List.take_succ_eq_append_getElem h]
 simp [List.getD, List.getElem?_eq_getElem h]
theorem stk_snoc {l : List ByteArray} {k : Nat} (h : k < l.length) : l.take (k + 1) = l.take k ++ [l.getD k nby] := by
 rw [List.take_succ_eq_append_getElem h]
 simp [List.getD, List.getElem?_eq_getElem h]
theorem shN_len (t : ByteArray) : (shN t).length = 1 := rfl
set_option maxRecDepth 100000 in
theorem btv_any (w : World) (hT : Tbp w) (n : Nat) (v : Value) (l : List V) (hn0 : 0 < n) (hn : n ≤ 1000) (hr : Rd w 3 n v (vc l)) (hok : ∀ x ∈ l, VOk x) :
  Calls Tryd.prog 37 #[v, .func (.func 38) #[] #[]] w (ToksIs (btw comma valT l) w) := by
 have hml := len_v hr
 obtain ⟨_, b, o, cap, rfl, _, _, hbw, hcell⟩ := vals_of hr hn0
 have HC := hid hcell
 have HN := hid hml
 have HOK := hid hok
 have HT := hid hT
 clear hcell hml hok hT hr
 go_enter Tryd.func37, Tryd.ntmps37
 go_wp2_with fail
 go_loopw [5, 10] (fun u i wr => ∃ k : Nat, k ≤ n ∧ i = .int .i64 (k : Int) ∧ Hid (wr.ownsRow w.heap.size 45 3 u (btw comma valT (l.take k)).length (tkc (btw comma valT (l.take k)))) ∧ Hid (Below w.heap.size w wr)) (fun _ i _ => n - (intOf i).toNat)
 case atStart => exact ⟨0, by omega, rfl, World.ownsRow_nil _ _ _ _, Below.refl _ _⟩
 case round =>
  obtain ⟨k, hk, rfl, HU, HB⟩ := hrel
  by_cases hlt : k < n
  ·obtain ⟨g0, g1, g2⟩ := HC.out k hlt
   have c0 := (HB.out.cell (p := ⟨b, o + k * 3, none⟩) hbw).trans g0
   have c1 := (HB.out.cell (p := ⟨b, o + k * 3 + 1, none⟩) hbw).trans g1
   have c2 := (HB.out.cell (p := ⟨b, o + k * 3 + 2, none⟩) hbw).trans g2
   have hll : k < l.length := by rw [← HN.out]; exact hlt
   have hco := HOK.out _ (vgetD_mem hll)
   have htk := vtake_snoc hll
   have hlen := btwv_len (l.take k)
   rw [List.length_take_of_le (by omega)] at hlen
   obtain ⟨c, hc⟩ : ∃ c, c = l.getD k nul := ⟨_, rfl⟩
   rw [← hc] at c0 c1 c2 hco htk
   obtain ⟨L, hL⟩ : ∃ L, L = btw comma valT (l.take k) := ⟨_, rfl⟩
   have hL2 : btw comma valT (l.take (k + 1)) = if k = 0 then valT c else L ++ (comma ++ valT c) := by
    rw [htk, hL]
    split
    ·rename_i h
     subst h
     exact btw_one _ _ _
    ·rename_i h
     exact btw_snoc _ _ _ _ (by
      intro e
      have := congrArg List.length e
      rw [List.length_take_of_le (by omega)] at this
      simp at this
      omega)
   have hL0 : k = 0 → L = [] := fun h => by rw [hL, h]; rfl
   rw [← hL] at HU hlen
   obtain ⟨q, hq⟩ : ∃ q, q = L.length := ⟨_, rfl⟩
   rw [← hq] at HU hlen
   have HQ := hid hq
   have HL2 := hid hL2
   have HL0 := hid hL0
   have HBX : Hid (Below w.heap.size w (wr.alloc (.cells #[.int .i64 c.k, .int .i64 c.n, .string c.t] 50))) := HB.out.alloc HB.out.size _
   have HSC : Hid (∀ W, Below w.heap.size w W → Calls Tryd.prog 38 #[.agg #[.int .i64 c.k, .int .i64 c.n, .string c.t]] W (ToksIs (valT c) W)) := fun W hW => showValue_any W (HT.out.below hW) c hco
   have HPL : Hid (∀ W, Below w.heap.size w W → ∀ B, W.heap.size = B → Calls Tryd.prog 34 #[.slice (some ⟨B, 0, none⟩) 1 1] (W.alloc (.cells #[.string ⟨#[44]⟩] 9)) (ToksIs comma W)) := fun W hW B hB => plain1 W (HT.out.b.m.below hW) _ (by decide) B hB
   have HLT : Hid (∀ kk, u5.ownBlock = some kk → kk < wr.heap.size) := fun kk h => (HU.out.lt kk h).2
   have hnew := new0 wr (.cells #[.int .i64 c.k, .int .i64 c.n, .string c.t] 50)
   have HNEW := hid hnew
   obtain ⟨ck, cn, ct⟩ := c
   simp only at c0 c1 c2
   clear g0 g1 g2 hc htk hL hL2 hL0 hq hco hll hnew
   by_cases hk0 : k = 0
   ·have HK0 := hid hk0
    have hk1 : k < 1 := by omega
    clear hk0
    obtain ⟨x0, x1, x2, -, -, -⟩ := has3 HNEW.out (Below.refl _ _)
    go_wp2_with fail
    refine (HSC.out _ HBX.out).mono ?_
    rintro e w2 ⟨v2, rfl, hown2, hb2⟩
    have HR2 := hid (Rd.own hown2)
    have HW2 := hid (into HBX.out hb2)
    have HO2 := hid (own_below (HU.out.alloc (.cells #[.int .i64 ck, .int .i64 cn, .string ct] 50)) hb2)
    have hz2 := HW2.out.size
    clear hown2 hb2
    go_wp2_with (at_builtin; refine apg w2 (valT ⟨ck, cn, ct⟩).length rfl _ _ 35 45 _ 3 32 Tryd.underlying35 Tryd.info45 rfl (by omega) rfl HO2.out hz2 (by have := valT_len ⟨ck, cn, ct⟩; omega) (by have := valT_len ⟨ck, cn, ct⟩; unfold maxLen; omega) (tkc_one _) HR2.out rfl rfl ?_; intro v3 w3 hown3 hb3 _; have HO3 := hid hown3; have HB3 := hid (HW2.out.trans hb3); clear hown3 hb3)
    go_roundw
    case rel =>
     refine ⟨k + 1, by omega, by go_num, ?_, HB3.out⟩
     show World.ownsRow _ _ _ _ _ _ _
     rw [HL2.out, if_pos HK0.out]
     have h := HO3.out
     have e := HL0.out HK0.out
     rw [HQ.out, e] at h
     simpa [tkc] using h
    case measure => (simp [intOf]) <;> omega
   ·have hk0' : (0 : Int) < (k : Int) := by omega
    go_wp2_with fail
    refine (HPL.out (wr.alloc (.cells #[.int .i64 ck, .int .i64 cn, .string ct] 50)) HBX.out (wr.heap.size + 1) (by simp)).mono ?_
    rintro e w2 ⟨v2, rfl, hown2, hb2⟩
    have HR2 := hid (Rd.own hown2)
    have HW2 := hid (into HBX.out hb2)
    have HO2 := hid (own_below (HU.out.alloc (.cells #[.int .i64 ck, .int .i64 cn, .string ct] 50)) hb2)
    have hz2 := HW2.out.size
    have hzr := HB.out.size
    have hbk2 := hb2.block wr.heap.size (by simp)
    have hzb : wr.heap.size < w2.heap.size := by have := hb2.size; simp at this; omega
    have HBK2 := hid hbk2
    clear hown2 hb2 hbk2
    go_wp2_with (at_builtin; refine apg w2 comma.length rfl _ _ 35 45 _ 3 32 Tryd.underlying35 Tryd.info45 rfl (by omega) rfl HO2.out hz2 (by have h1 : comma.length = 1 := rfl; omega) (by have h1 : comma.length = 1 := rfl; unfold maxLen; omega) (tkc_one _) HR2.out rfl rfl ?_; intro v3 w3 hown3 hb3 hg3; have HO3 := hid hown3; have HB3 := hid (HW2.out.trans hb3); have hbk3 := hg3.block wr.heap.size hzb (fun e => by have := HLT.out _ e.symm; omega); have x0 := cell_blk (o := 0) (hbk3.trans HBK2.out) (has3 HNEW.out (Below.refl _ _)).1; have x1 := cell_blk (o := 1) (hbk3.trans HBK2.out) (has3 HNEW.out (Below.refl _ _)).2.1; have x2 := cell_blk (o := 2) (hbk3.trans HBK2.out) (has3 HNEW.out (Below.refl _ _)).2.2.1; clear hown3 hb3 hg3 hbk3)
    refine (HSC.out _ HB3.out).mono ?_
    rintro e w4 ⟨v4, rfl, hown4, hb4⟩
    have HR4 := hid (Rd.own hown4)
    have HW4 := hid (into HB3.out hb4)
    have HO4 := hid (own_below HO3.out hb4)
    have hz4 := HW4.out.size
    clear hown4 hb4
    go_wp2_with (at_builtin; refine apg w4 (valT ⟨ck, cn, ct⟩).length rfl _ _ 35 45 _ 3 32 Tryd.underlying35 Tryd.info45 rfl (by omega) rfl HO4.out hz4 (by have := valT_len ⟨ck, cn, ct⟩; have h1 : comma.length = 1 := rfl; omega) (by have := valT_len ⟨ck, cn, ct⟩; have h1 : comma.length = 1 := rfl; unfold maxLen; omega) (tkc_one _) HR4.out rfl rfl ?_; intro v5 w5 hown5 hb5 _; have HO5 := hid hown5; have HB5 := hid (HW4.out.trans hb5); clear hown5 hb5)
    go_roundw
    case rel =>
     refine ⟨k + 1, by omega, by go_num, ?_, HB5.out⟩
     show World.ownsRow _ _ _ _ _ _ _
     rw [HL2.out, if_neg (by omega)]
     have h := HO5.out
     rw [HQ.out] at h
     rw [tkc_app, tkc_app, List.length_append, List.length_append, ← Nat.add_assoc, ← List.append_assoc]
     exact h
    case measure => (simp [intOf]) <;> omega
  ·obtain rfl : k = n := by omega
   have HE : Hid (l.take k = l) := by
    show _ = _
    rw [List.take_of_length_le (by rw [← HN.out]; exact Nat.le_refl _)]
   go_wp2_with fail
   go_ret
   refine ⟨_, rfl, ?_, HB.out⟩
   have h := HU.out
   rw [HE.out] at h
   exact h
set_option maxRecDepth 100000 in
theorem btn_any (w : World) (hT : Tbp w) (n : Nat) (v : Value) (l : List ByteArray) (hn0 : 0 < n) (hn : n ≤ 1000) (hr : Rd w 1 n v (l.map Value.string)) (hs : ∀ c ∈ l, c.size ≤ 1000) :
  Calls Tryd.prog 62 #[v, .func (.func 63) #[] #[]] w (ToksIs (btw comma shN l) w) := by
 have hml := len_s hr
 obtain ⟨b, o, cap, rfl, _, _, hbw, hcell0⟩ := hr.pos hn0 (by omega)
 have hcell : ∀ k, k < n → w.cell? ⟨b, o + k, none⟩ = some (.string (l.getD k nby)) := fun k hk => hcell0 k _ (st_at (by omega))
 clear hcell0
 have HC := hid hcell
 have HN := hid hml
 have HS := hid hs
 have HT := hid hT
 clear hcell hml hs hT hr
 go_enter Tryd.func62, Tryd.ntmps62
 go_wp2_with fail
 go_loopw [5, 10] (fun u i wr => ∃ k : Nat, k ≤ n ∧ i = .int .i64 (k : Int) ∧ Hid (wr.ownsRow w.heap.size 45 3 u (btw comma shN (l.take k)).length (tkc (btw comma shN (l.take k)))) ∧ Hid (Below w.heap.size w wr)) (fun _ i _ => n - (intOf i).toNat)
 case atStart => exact ⟨0, by omega, rfl, World.ownsRow_nil _ _ _ _, Below.refl _ _⟩
 case round =>
  obtain ⟨k, hk, rfl, HU, HB⟩ := hrel
  by_cases hlt : k < n
  ·have g0 := HC.out k hlt
   have c0 := (HB.out.cell (p := ⟨b, o + k, none⟩) hbw).trans g0
   have hll : k < l.length := by rw [← HN.out]; exact hlt
   have hsz := HS.out _ (sgetD_mem hll)
   have htk := stk_snoc hll
   have hlen := btwn_len (l.take k)
   rw [List.length_take_of_le (by omega)] at hlen
   obtain ⟨c, hc⟩ : ∃ c, c = l.getD k nby := ⟨_, rfl⟩
   rw [← hc] at c0 hsz htk
   obtain ⟨L, hL⟩ : ∃ L, L = btw comma shN (l.take k) := ⟨_, rfl⟩
   have hL2 : btw comma shN (l.take (k + 1)) = if k = 0 then shN c else L ++ (comma ++ shN c) := by
    rw [htk, hL]
    split
    ·rename_i h
     subst h
     exact btw_one _ _ _
    ·rename_i h
     exact btw_snoc _ _ _ _ (by
      intro e
      have := congrArg List.length e
      rw [List.length_take_of_le (by omega)] at this
      simp at this
      omega)
   have hL0 : k = 0 → L = [] := fun h => by rw [hL, h]; rfl
   rw [← hL] at HU hlen
   obtain ⟨q, hq⟩ : ∃ q, q = L.length := ⟨_, rfl⟩
   rw [← hq] at HU hlen
   have HQ := hid hq
   have HL2 := hid hL2
   have HL0 := hid hL0
   have HBX : Hid (Below w.heap.size w (wr)) := HB.out
   have HSC : Hid (∀ W, Below w.heap.size w W → Calls Tryd.prog 63 #[.string c] W (ToksIs (shN c) W)) := fun W hW => showName_any W (HT.out.below hW) c hsz
   have HPL : Hid (∀ W, Below w.heap.size w W → ∀ B, W.heap.size = B → Calls Tryd.prog 34 #[.slice (some ⟨B, 0, none⟩) 1 1] (W.alloc (.cells #[.string ⟨#[44]⟩] 9)) (ToksIs comma W)) := fun W hW B hB => plain1 W (HT.out.b.m.below hW) _ (by decide) B hB
   have HLT : Hid (∀ kk, u5.ownBlock = some kk → kk < wr.heap.size) := fun kk h => (HU.out.lt kk h).2
   clear g0 hc htk hL hL2 hL0 hq hsz hll
   by_cases hk0 : k = 0
   ·have HK0 := hid hk0
    have hk1 : k < 1 := by omega
    clear hk0
    go_wp2_with fail
    refine (HSC.out _ HBX.out).mono ?_
    rintro e w2 ⟨v2, rfl, hown2, hb2⟩
    have HR2 := hid (Rd.own hown2)
    have HW2 := hid (into HBX.out hb2)
    have HO2 := hid (own_below HU.out hb2)
    have hz2 := HW2.out.size
    clear hown2 hb2
    go_wp2_with (at_builtin; refine apg w2 (shN c).length rfl _ _ 35 45 _ 3 32 Tryd.underlying35 Tryd.info45 rfl (by omega) rfl HO2.out hz2 (by have := shN_len c; omega) (by have := shN_len c; unfold maxLen; omega) (tkc_one _) HR2.out rfl rfl ?_; intro v3 w3 hown3 hb3 _; have HO3 := hid hown3; have HB3 := hid (HW2.out.trans hb3); clear hown3 hb3)
    go_roundw
    case rel =>
     refine ⟨k + 1, by omega, by go_num, ?_, HB3.out⟩
     show World.ownsRow _ _ _ _ _ _ _
     rw [HL2.out, if_pos HK0.out]
     have h := HO3.out
     have e := HL0.out HK0.out
     rw [HQ.out, e] at h
     simpa [tkc] using h
    case measure => (simp [intOf]) <;> omega
   ·have hk0' : (0 : Int) < (k : Int) := by omega
    go_wp2_with fail
    refine (HPL.out wr HBX.out wr.heap.size rfl).mono ?_
    rintro e w2 ⟨v2, rfl, hown2, hb2⟩
    have HR2 := hid (Rd.own hown2)
    have HW2 := hid (into HBX.out hb2)
    have HO2 := hid (own_below HU.out hb2)
    have hz2 := HW2.out.size
    have hzr := HB.out.size
    clear hown2 hb2
    go_wp2_with (at_builtin; refine apg w2 comma.length rfl _ _ 35 45 _ 3 32 Tryd.underlying35 Tryd.info45 rfl (by omega) rfl HO2.out hz2 (by have h1 : comma.length = 1 := rfl; omega) (by have h1 : comma.length = 1 := rfl; unfold maxLen; omega) (tkc_one _) HR2.out rfl rfl ?_; intro v3 w3 hown3 hb3 hg3; have HO3 := hid hown3; have HB3 := hid (HW2.out.trans hb3); clear hown3 hb3 hg3)
    refine (HSC.out _ HB3.out).mono ?_
    rintro e w4 ⟨v4, rfl, hown4, hb4⟩
    have HR4 := hid (Rd.own hown4)
    have HW4 := hid (into HB3.out hb4)
    have HO4 := hid (own_below HO3.out hb4)
    have hz4 := HW4.out.size
    clear hown4 hb4
    go_wp2_with (at_builtin; refine apg w4 (shN c).length rfl _ _ 35 45 _ 3 32 Tryd.underlying35 Tryd.info45 rfl (by omega) rfl HO4.out hz4 (by have := shN_len c; have h1 : comma.length = 1 := rfl; omega) (by have := shN_len c; have h1 : comma.length = 1 := rfl; unfold maxLen; omega) (tkc_one _) HR4.out rfl rfl ?_; intro v5 w5 hown5 hb5 _; have HO5 := hid hown5; have HB5 := hid (HW4.out.trans hb5); clear hown5 hb5)
    go_roundw
    case rel =>
     refine ⟨k + 1, by omega, by go_num, ?_, HB5.out⟩
     show World.ownsRow _ _ _ _ _ _ _
     rw [HL2.out, if_neg (by omega)]
     have h := HO5.out
     rw [HQ.out] at h
     rw [tkc_app, tkc_app, List.length_append, List.length_append, ← Nat.add_assoc, ← List.append_assoc]
     exact h
    case measure => (simp [intOf]) <;> omega
  ·obtain rfl : k = n := by omega
   have HE : Hid (l.take k = l) := by
    show _ = _
    rw [List.take_of_length_le (by rw [← HN.out]; exact Nat.le_refl _)]
   go_wp2_with fail
   go_ret
   refine ⟨_, rfl, ?_, HB.out⟩
   have h := HU.out
   rw [HE.out] at h
   exact h
theorem sel6 (Q : Exit → Act → World → Prop) {c0 c2 c4 c5 c6 c7 c8 c9 c10 c11 c12 c13 c14 c15 c16 c17 c18 c19 c20 c21 c22 c23 c24 c25 c26 c27 c28 c29 c30 c31 c32 c33 c34 c35 c36 c37 c38 c39 c40 c41 c42 c43 c44 c45 c46 c47 c48 c49 c50 c51 c52 c53 c54 c55 c56 c57 c58 c59 c60 c61 c62 c63 : Value} (w0 : World) (P : Nat) (hP : P < w0.heap.size) (t : ByteArray) (a0 : Option Addr) (n0 d0 : Nat) (a4 : Option Addr) (n4 d4 : Nat) (a6 : Option Addr) (n6 d6 : Nat) (A L M : List Tk)
  (p0 : w0.cell? ⟨P, 4, none⟩ = some (.slice a4 n4 d4))
  (p1 : w0.cell? ⟨P, 1, none⟩ = some (.string t))
  (p2 : w0.cell? ⟨P, 6, none⟩ = some (.slice a6 n6 d6))
  (r0 : Rd w0 3 n0 (.slice a0 n0 d0) (tkc A))
  (HPB : Hid (∀ W B, Below w0.heap.size w0 W → Rd W 1 2 (.slice (some ⟨B, 0, none⟩) 2 2) ([sFROM, t].map Value.string) → Calls Tryd.prog 34 #[.slice (some ⟨B, 0, none⟩) 2 2] W (ToksIs [ptk sFROM, ptk t] W)))
  (HCC : Hid (∀ W, Below w0.heap.size w0 W → Calls Tryd.prog 62 #[.slice a4 n4 d4, .func (.func 63) #[] #[]] W (ToksIs L W)))
  (HCD : Hid (∀ W, Below w0.heap.size w0 W → Calls Tryd.prog 41 #[.slice a6 n6 d6] W (ToksIs M W)))
  (HLN : Hid (A.length + (L.length + ([ptk sFROM, ptk t].length + (M.length))) ≤ 1000000))
  (hout : Hid (∀ (u22 u23 u24 u25 u26 u27 u28 u29 u30 u31 u32 u33 u34 : Value) (vout : Value) (w' : World), ToksIs (A ++ (L ++ ([ptk sFROM, ptk t] ++ M))) w0 (.returned vout) w' → Q .normal ⟨List.toArray (c0 :: (.pointer (some ⟨P, 0, none⟩)) :: c2 :: vout :: c4 :: c5 :: c6 :: c7 :: c8 :: c9 :: c10 :: c11 :: c12 :: c13 :: c14 :: c15 :: c16 :: c17 :: c18 :: c19 :: c20 :: c21 :: u22 :: u23 :: u24 :: u25 :: u26 :: u27 :: u28 :: u29 :: u30 :: u31 :: u32 :: u33 :: u34 :: c35 :: c36 :: c37 :: c38 :: c39 :: c40 :: c41 :: c42 :: c43 :: c44 :: c45 :: c46 :: c47 :: c48 :: c49 :: c50 :: c51 :: c52 :: c53 :: c54 :: c55 :: c56 :: c57 :: c58 :: c59 :: c60 :: c61 :: c62 :: c63 :: []), []⟩ w')) :
  Code.wp Tryd.prog ((regionOf 6 (Tryd.f39.body.getD .skip)).getD .skip) Q ⟨List.toArray (c0 :: (.pointer (some ⟨P, 0, none⟩)) :: c2 :: (.slice a0 n0 d0) :: c4 :: c5 :: c6 :: c7 :: c8 :: c9 :: c10 :: c11 :: c12 :: c13 :: c14 :: c15 :: c16 :: c17 :: c18 :: c19 :: c20 :: c21 :: c22 :: c23 :: c24 :: c25 :: c26 :: c27 :: c28 :: c29 :: c30 :: c31 :: c32 :: c33 :: c34 :: c35 :: c36 :: c37 :: c38 :: c39 :: c40 :: c41 :: c42 :: c43 :: c44 :: c45 :: c46 :: c47 :: c48 :: c49 :: c50 :: c51 :: c52 :: c53 :: c54 :: c55 :: c56 :: c57 :: c58 :: c59 :: c60 :: c61 :: c62 :: c63 :: []), []⟩ w0 := by
 refine Code.wp_mono (Q := NQ Q) nq_to ?_
 conv => arg 2; whnf
 have hB0 : Below w0.heap.size w0 w0 := Below.refl _ _
 go_region_held3 (fun wx => wx.cell? ⟨P, 4, none⟩ = some (.slice a4 n4 d4) ∧ wx.cell? ⟨P, 1, none⟩ = some (.string t) ∧ wx.cell? ⟨P, 6, none⟩ = some (.slice a6 n6 d6))
  ((refine ⟨?_, ?_, ?_⟩ <;> (repeat' (first | (with_reducible assumption) | (with_reducible refine cell_dr ?_) | (with_reducible refine cell_al _ ?_) | (with_reducible refine cell_of_below hbz ?_) | (with_reducible refine cell_of_below hbD ?_) | (with_reducible refine cell_of_below hbC ?_) | (with_reducible refine cell_of_below hbB ?_)))))
  ((first
   | (go_at_call 34; (with_reducible refine (HPB.out _ _ (by go_grown) (by ((repeat' (first | (with_reducible assumption) | (with_reducible refine rd_lit2 _ _ _ _ ?_) | (with_reducible refine rd_sl4 _ _ _ _ _ _ ?_) | (with_reducible refine Rd.below ?_ hbz) | (with_reducible refine Rd.below ?_ hbD) | (with_reducible refine Rd.below ?_ hbC) | (with_reducible refine Rd.below ?_ hbB) | (with_reducible refine rd_drew ?_) | (with_reducible refine rd_alloc ?_ _) | (simp; done))); (first | done | fail)))).mono ?_); rintro e wB ⟨vB, rfl, hownB, hbB⟩; obtain ⟨aB, qB, rfl⟩ := own_shape hownB; have rB : Rd wB 3 2 (.slice aB 2 qB) (tkc [ptk sFROM, ptk t]) := Rd.own hownB; have hBB : Below w0.heap.size w0 wB := into (by go_grown) hbB; have hzB := hBB.size)
   | (go_at_call 62; (with_reducible refine (HCC.out _ (by go_grown)).mono ?_); rintro e wC ⟨vC, rfl, hownC, hbC⟩; obtain ⟨aC, qC, rfl⟩ := own_shape hownC; have rC := Rd.own hownC; have hBC : Below w0.heap.size w0 wC := into (by go_grown) hbC; have hzC := hBC.size)
   | (go_at_call 41; (with_reducible refine (HCD.out _ (by go_grown)).mono ?_); rintro e wD ⟨vD, rfl, hownD, hbD⟩; obtain ⟨aD, qD, rfl⟩ := own_shape hownD; have rD := Rd.own hownD; have hBD : Below w0.heap.size w0 wD := into (by go_grown) hbD; have hzD := hBD.size)
   | (go_at_call 33; (with_reducible refine (concat4 _ _ _ _ _ _ A L [ptk sFROM, ptk t] M (n0) (L.length) (2) (M.length) (by ((repeat' (first | (with_reducible assumption) | (with_reducible refine rd_lit2 _ _ _ _ ?_) | (with_reducible refine rd_sl4 _ _ _ _ _ _ ?_) | (with_reducible refine Rd.below ?_ hbz) | (with_reducible refine Rd.below ?_ hbD) | (with_reducible refine Rd.below ?_ hbC) | (with_reducible refine Rd.below ?_ hbB) | (with_reducible refine rd_drew ?_) | (with_reducible refine rd_alloc ?_ _) | (simp; done))); (first | done | fail))) (by ((repeat' (first | (with_reducible assumption) | (with_reducible refine rd_lit2 _ _ _ _ ?_) | (with_reducible refine rd_sl4 _ _ _ _ _ _ ?_) | (with_reducible refine Rd.below ?_ hbz) | (with_reducible refine Rd.below ?_ hbD) | (with_reducible refine Rd.below ?_ hbC) | (with_reducible refine Rd.below ?_ hbB) | (with_reducible refine rd_drew ?_) | (with_reducible refine rd_alloc ?_ _) | (simp; done))); (first | done | fail))) (by ((repeat' (first | (with_reducible assumption) | (with_reducible refine rd_lit2 _ _ _ _ ?_) | (with_reducible refine rd_sl4 _ _ _ _ _ _ ?_) | (with_reducible refine Rd.below ?_ hbz) | (with_reducible refine Rd.below ?_ hbD) | (with_reducible refine Rd.below ?_ hbC) | (with_reducible refine Rd.below ?_ hbB) | (with_reducible refine rd_drew ?_) | (with_reducible refine rd_alloc ?_ _) | (simp; done))); (first | done | fail))) (by ((repeat' (first | (with_reducible assumption) | (with_reducible refine rd_lit2 _ _ _ _ ?_) | (with_reducible refine rd_sl4 _ _ _ _ _ _ ?_) | (with_reducible refine Rd.below ?_ hbz) | (with_reducible refine Rd.below ?_ hbD) | (with_reducible refine Rd.below ?_ hbC) | (with_reducible refine Rd.below ?_ hbB) | (with_reducible refine rd_drew ?_) | (with_reducible refine rd_alloc ?_ _) | (simp; done))); (first | done | fail))) (by ((repeat' (first | (with_reducible assumption) | (with_reducible refine rd_lit2 _ _ _ _ ?_) | (with_reducible refine rd_sl4 _ _ _ _ _ _ ?_) | (with_reducible refine Rd.below ?_ hbz) | (with_reducible refine Rd.below ?_ hbD) | (with_reducible refine Rd.below ?_ hbC) | (with_reducible refine Rd.below ?_ hbB) | (with_reducible refine rd_drew ?_) | (with_reducible refine rd_alloc ?_ _) | (simp; done))); (first | done | fail))) HLN.out).mono ?_); rintro e wz ⟨vz, rfl, hownz, hbz⟩; have hTz := ToksIs.from ⟨vz, rfl, hownz, hbz⟩ (show Below w0.heap.size w0 _ by go_grown))))
 all_goals exact hout.out _ _ _ _ _ _ _ _ _ _ _ _ _ _ _ hTz
theorem plain3 (w : World) (hM : Mk w) (a b c : ByteArray) (ha : a.size ≤ 1000) (hb : b.size ≤ 1000) (hc : c.size ≤ 1000) (B : Nat) (hB : w.heap.size = B) : Calls Tryd.prog 34 #[.slice (some ⟨B, 0, none⟩) 3 3] (w.alloc (.cells #[.string a, .string b, .string c] 9)) (ToksIs [ptk a, ptk b, ptk c] w) :=
 (plain_any _ (hM.alloc _) 3 _ [a, b, c] (by omega) (by omega) (rd_lit3 w a b c B hB) (by simp; exact ⟨ha, hb, hc⟩)).mono fun e w' h => ToksIs.from h ((Below.refl _ _).alloc (Nat.le_refl _) _)
theorem plain4 (w : World) (hM : Mk w) (a b c d : ByteArray) (ha : a.size ≤ 1000) (hb : b.size ≤ 1000) (hc : c.size ≤ 1000) (hd : d.size ≤ 1000) (B : Nat) (hB : w.heap.size = B) : Calls Tryd.prog 34 #[.slice (some ⟨B, 0, none⟩) 4 4] (w.alloc (.cells #[.string a, .string b, .string c, .string d] 9)) (ToksIs [ptk a, ptk b, ptk c, ptk d] w) :=
 (plain_any _ (hM.alloc _) 4 _ [a, b, c, d] (by omega) (by omega) (rd_lit4 w a b c d B hB) (by simp; exact ⟨ha, hb, hc, hd⟩)).mono fun e w' h => ToksIs.from h ((Below.refl _ _).alloc (Nat.le_refl _) _)
theorem ToksIs.base {L : List Tk} {w W : World} {B : Nat} {v : Value} (h : ToksIs L w (.returned v) W) (hB : B ≤ w.heap.size) : W.ownsRow B 45 3 v L.length (tkc L) := by
 obtain ⟨v', h1, h2, h3⟩ := h
 cases h1
 exact own_mono h2 hB
section
variable {ops : Array Oper} {rest : List Oper} {o : Oper} {a : Act} {Q : Exit → Act → World → Prop}
theorem aptk (w : World) (L M : List Tk) (n : Nat) (hn : Hid (n = L.length)) (hgd : o.guard = none) (s x : Operand) (ho : o.op = .call { callee := .builtin .append, args := #[s, x], argTypes := #[35, 35] })
  {B : Nat} {v u : Value} (hown : w.ownsRow B 45 3 v n (tkc L)) (hr : Rd w 3 M.length u (tkc M)) (hB : B ≤ w.heap.size) (hL : n ≤ 10000) (hM : M.length ≤ 10000) (hs : a.eval s = v) (hx : a.eval x = u)
  (h : ∀ v' w' L' n', Hid (L' = L ++ M) → Hid (n' = L'.length) → n' ≤ n + M.length → w'.ownsRow B 45 3 v' n' (tkc L') → Below B w w' → wpList Tryd.prog ops Q rest (a.put o.dst v') w') : wpList Tryd.prog ops Q (o :: rest) a w :=
 apg w M.length hgd s x 35 45 _ 3 32 Tryd.underlying35 Tryd.info45 rfl (by omega) ho hown hB (by omega) (by unfold maxLen; omega) (tkc_one _) hr hs hx (fun v' w' h1 h2 _ => h v' w' (L ++ M) (n + M.length) rfl (by show _ = _; rw [List.length_append, hn.out]) (Nat.le_refl _) (by rw [tkc_app]; exact h1) h2)
end
theorem btn0 (w : World) (ao : Option Addr) (cap : Nat) : Calls Tryd.prog 62 #[.slice ao 0 cap, .func (.func 63) #[] #[]] w (ToksIs [] w) := by
 go_enter Tryd.func62, Tryd.ntmps62
 go_wp2_with fail
 go_rounds 1
 go_ret
 exact ⟨_, rfl, World.ownsRow_nil _ _ _ _, Below.refl _ _⟩
theorem showWhere_any (w : World) (hT : Tbp w) (n : Nat) (v : Value) (l : List Oq) (hr : Rd w 5 n v (ocs l)) (hF : whF l = 0) (hok : ∀ o ∈ l, OOk o) :
  Calls Tryd.prog 41 #[v] w (ToksIs (whT l) w) := by
 have hml := len_o hr
 by_cases h0 : n = 0
 ·have HF : Hid (whT l = []) := by
   show _ = _
   unfold whT
   rw [if_pos (by omega)]
  subst h0
  obtain ⟨_, ao, cap, rfl, _⟩ := hr.zero
  clear hml hok hF hT
  go_enter Tryd.func41, Tryd.ntmps41
  go_wp2_with fail
  go_ret
  rw [HF.out]
  exact ⟨_, rfl, World.ownsRow_nil _ _ _ _, Below.refl _ _⟩
 ·have HF : Hid (whT l = [ptk sWHERE] ++ exT l) := by
   show _ = _
   unfold whT
   rw [if_neg (by omega)]
  have hex : exprF l = 0 := by
   unfold whF at hF
   rw [if_neg (by omega)] at hF
   exact hF
  have hlen := exT_len hex
  have HX : Hid (∀ W, Below w.heap.size w W → Calls Tryd.prog 40 #[v] W (ToksIs (exT l) W)) := fun W hW => showExp_any W (hT.below hW) n v l (hr.below hW) hex hok
  have HP := hid (plain1 w hT.b.m sWHERE (by decide) w.heap.size rfl)
  obtain ⟨_, ao, cap, rfl, _⟩ := hr
  obtain ⟨E, hE⟩ : ∃ E, E = exT l := ⟨_, rfl⟩
  rw [← hE] at HX HF hlen
  have hn : ¬ (n : Int) = 0 := by omega
  clear hml hok hF hT hex hE h0
  go_enter Tryd.func41, Tryd.ntmps41
  go_wp2_with fail
  refine HP.out.mono ?_
  rintro e w1 ⟨v1, rfl, h1, h2⟩
  have HO1 := hid h1
  have HB1 := hid h2
  clear h1 h2 HP
  go_wp2_with fail
  refine (HX.out _ HB1.out).mono ?_
  rintro e w2 ⟨v2, rfl, h1, h2⟩
  have HR2 := hid (Rd.own h1)
  have HO2 := hid (own_below HO1.out h2)
  have HB2 := hid (into HB1.out h2)
  have hz2 := HB2.out.size
  clear h1 h2 HX HO1
  go_wp2_with (at_builtin; refine aptk w2 [ptk sWHERE] E 1 rfl rfl _ _ rfl HO2.out HR2.out hz2 (by omega) (by omega) rfl rfl ?_; intro v3 w3 L3 n3 hL3 hn3 _ hown3 hb3; have HO3 := hid hown3; have HB3 := hid (HB2.out.trans hb3); clear hown3 hb3)
  go_ret
  rw [HF.out, ← hL3.out]
  refine ⟨_, rfl, ?_, HB3.out⟩
  rw [← hn3.out]
  exact HO3.out
theorem nms_all' : ∀ {l : List ByteArray}, nmsF l = 0 → ∀ t ∈ l, nmF t.data.toList = 0
 | [], _, t, ht => by cases ht
 | x :: l, h, t, ht => by
  unfold nmsF at h
  split at h
  ·omega
  ·rename_i h0
   rcases List.mem_cons.1 ht with rfl | ht
   ·simpa using h0
   ·exact nms_all' h t ht
theorem showSel_any (w : World) (hT : Tbp w) (s : Sq) (p : Ps) (hr : StR w s p) (hF : selF s = 0) (ht : s.t.size ≤ 1000) (hok : ∀ o ∈ s.wh, OOk o) :
  Calls Tryd.prog 39 #[stV s p] w (ToksIs (selT s) w) := by
 obtain ⟨l2, l3, l4, l6, l11⟩ := hr.lens
 obtain ⟨g1, g2, g3, g4, g5, g6, g7⟩ := sel_zero hF
 have hnames : ∀ c ∈ s.names, c.size ≤ 1000 := fun c hc => by have := nm_size (nms_all' g5 c hc); omega
 have hord : s.ord.size ≤ 1000 := by
  unfold ordF at g7
  cases he : em s.ord
  ·rw [he] at g7
   have := nm_size (t := s.ord) (by simpa using g7)
   omega
  ·unfold em at he
   rw [Lib.toList_data] at he
   have hs := len_size s.ord
   have : s.ord.data.toList = [] := by simpa using he
   rw [this] at hs
   simp at hs
   omega
 have hmid : (midT s).length ≤ 300 := by
  have h1 := whT_len g6
  have h2 := btwn_len s.names
  have e1 : (whatT s).length ≤ 4 := by unfold whatT; split; simp; split <;> simp
  unfold midT
  simp only [List.length_append, List.length_cons, List.length_nil] at *
  omega
 have hwh := whT_len g6
 have hbt := btwn_len s.names
 have hb0 : Below w.heap.size w (w.alloc (.cells (stC s p) 33)) := (Below.refl _ _).alloc (Nat.le_refl _) _
 obtain ⟨W0, hW0⟩ : ∃ W0, W0 = w.alloc (.cells (stC s p) 33) := ⟨_, rfl⟩
 have hsz : w.heap.size < W0.heap.size := by rw [hW0]; simp
 have HNW : Hid (∀ w1, Below W0.heap.size W0 w1 → StB w1 w.heap.size s p) := fun w1 hb => by
  have := StB.new w s p (w1 := w1)
  rw [← hW0] at this
  exact this hb
 rw [← hW0] at hb0
 have HM : Hid (∀ W, Below W0.heap.size W0 W → Mk W) := fun W hW => hT.b.m.below (into hb0 hW)
 have HWH : Hid (∀ W, Below W0.heap.size W0 W → Calls Tryd.prog 41 #[.slice p.a6 p.n6 p.c6] W (ToksIs (whT s.wh) W)) := fun W hW => showWhere_any W (hT.below (into hb0 hW)) _ _ s.wh (hr.r6.below (into hb0 hW)) g6 hok
 have HBN : Hid (∀ W, Below W0.heap.size W0 W → Calls Tryd.prog 62 #[.slice p.a4 p.n4 p.c4, .func (.func 63) #[] #[]] W (ToksIs (btw comma shN s.names) W)) := fun W hW => by
  by_cases h0 : p.n4 = 0
  ·have hl0 : s.names = [] := List.eq_nil_of_length_eq_zero (by omega)
   rw [hl0, h0]
   exact btn0 W _ _
  ·exact btn_any W (hT.below (into hb0 hW)) p.n4 _ s.names (by omega) (by omega) (hr.r4.below (into hb0 hW)) hnames
 have hmidE : midT s = ([ptk sSELECT] ++ whatT s) ++ (btw comma shN s.names ++ ([ptk sFROM, ptk s.t] ++ whT s.wh)) := rfl
 have hwE : whatT s = if s.cnt = true then [ptk sCOUNT, ptk sOpen, ptk sStar, ptk sClose] else if p.n4 = 0 then [ptk sStar] else [] := by
  rw [l4]
  rfl
 have hsE : selT s = ((midT s ++ ordT s) ++ dnT s) ++ limT s := rfl
 have hoE : ordT s = if em s.ord = true then [] else [ptk sORDER, ptk sBY, ptk s.ord] := rfl
 have hdE : dnT s = if s.dn = true then [ptk sDESC] else [] := rfl
 have hlE : limT s = if 0 ≤ s.lim then [ptk sLIMIT, ⟨2, [], s.lim⟩] else [] := rfl
 have hcn : s.cnt = true → p.n4 = 0 := fun h => by
  by_cases h0 : p.n4 = 0
  ·exact h0
  ·exact absurd ⟨h, by omega⟩ g3
 obtain ⟨BT, hBT⟩ : ∃ E, E = btw comma shN s.names := ⟨_, rfl⟩
 obtain ⟨WT, hWT⟩ : ∃ E, E = whT s.wh := ⟨_, rfl⟩
 rw [← hBT] at HBN hmidE hbt
 rw [← hWT] at HWH hmidE hwh
 obtain ⟨SEL, hSEL⟩ : ∃ E, E = selT s := ⟨_, rfl⟩
 obtain ⟨MID, hMID⟩ : ∃ E, E = midT s := ⟨_, rfl⟩
 obtain ⟨ORD, hORD⟩ : ∃ E, E = ordT s := ⟨_, rfl⟩
 obtain ⟨DNT, hDNT⟩ : ∃ E, E = dnT s := ⟨_, rfl⟩
 obtain ⟨LIM, hLIM⟩ : ∃ E, E = limT s := ⟨_, rfl⟩
 obtain ⟨WHAT, hWHAT⟩ : ∃ E, E = whatT s := ⟨_, rfl⟩
 rw [← hSEL]
 rw [← hSEL, ← hMID, ← hORD, ← hDNT, ← hLIM] at hsE
 rw [← hMID, ← hWHAT] at hmidE
 rw [← hORD] at hoE
 rw [← hDNT] at hdE
 rw [← hLIM] at hlE
 rw [← hWHAT] at hwE
 rw [← hMID] at hmid
 have hbt6 : BT.length ≤ 100 := by omega
 clear hSEL hMID hORD hDNT hLIM hWHAT hBT hWT hbt g3 g4 g5 g6 g7 hnames hok hF hT hr l2 l3 l4 l6 l11
 obtain ⟨k, t, cols, row, names, cnt, wh, ord, dn, lim, st, to⟩ := s
 obtain ⟨a2, n2, c2, a3, n3, c3, a4, n4, c4, a6, n6, c6, a11, n11, c11⟩ := p
 simp only at ht hord HWH HBN hmidE hwE hoE hdE hlE hcn g1 g2
 obtain ⟨e, he⟩ : ∃ e, e = ord.toList.isEmpty := ⟨_, rfl⟩
 have hee : em ord = e := by rw [he]; rfl
 replace he := he.symm
 rw [hee] at hoE
 have HS := hid hsE
 have HMI := hid hmidE
 have HB0 := hid hb0
 have HWE := hid hW0
 have HSZ := hid hsz
 have HMID := hid hmid
 have HW6 := hid (And.intro hwh hbt6)
 have HSE : Hid (W0.heap.size = w.heap.size + 1) := by show _ = _; rw [hW0]; simp
 clear hsE hmidE hb0 hW0 hsz hee hmid hwh hbt6
 have HPS := hid (plain1 W0 (HM.out W0 (Below.refl _ _)) sSELECT (by decide) (w.heap.size + 1) HSE.out)
 by_cases hlim : 0 ≤ lim
 ·rcases (show cnt = true ∨ (cnt = false ∧ n4 = 0) ∨ (cnt = false ∧ ¬ n4 = 0) by cases cnt <;> simp <;> omega) with rfl | ⟨rfl, rfl⟩ | ⟨rfl, h0⟩
  ·have h4 := hcn rfl
   subst h4
   cases e
   ·cases dn
    ·go_enter Tryd.func39, Tryd.ntmps39
     go_wp2_with fail
     rw [← HWE.out]
     refine HPS.out.mono ?_
     rintro e0 w1 ⟨v1, rfl, h1, h2⟩
     obtain ⟨L1, hL1⟩ : ∃ L, L = [ptk sSELECT] := ⟨_, rfl⟩
     obtain ⟨n1q, hn1⟩ : ∃ n, n = [ptk sSELECT].length := ⟨_, rfl⟩
     have hle1 : n1q ≤ 1 := by rw [hn1]; exact Nat.le_refl _
     rw [← hn1, ← hL1] at h1
     rw [← hL1] at hn1
     have HL1 := hid hL1
     have HN1 := hid hn1
     have HO1 := hid h1
     have HB1 := hid h2
     obtain ⟨oa1, oc1, rfl⟩ := own_shape h1
     clear hL1 hn1
     obtain ⟨x0, x1, x2, x3, x4, x5, x6, x7, x8, x9, x10, x11⟩ := HNW.out _ HB1.out
     simp only at x0 x1 x2 x3 x4 x5 x6 x7 x8 x9 x10 x11
     clear h1 h2 HPS
     go_wp2_with fail
     refine (plain4 w1 (HM.out _ HB1.out) sCOUNT sOpen sStar sClose (by decide) (by decide) (by decide) (by decide) w1.heap.size rfl).mono ?_
     rintro e2 y2 ⟨v2, rfl, h1, h2⟩
     have HR2 := hid (Rd.own h1)
     have HY2 := hid (own_below HO1.out h2)
     have HZ2 := hid (HB1.out.trans (h2.mono HB1.out.size))
     have hz2 := HZ2.out.size
     clear h1 h2 HO1 HB1 x0 x1 x2 x3 x4 x5 x6 x7 x8 x9 x10 x11
     go_wp2_with (at_builtin; refine aptk y2 L1 [ptk sCOUNT, ptk sOpen, ptk sStar, ptk sClose] n1q HN1 rfl _ _ rfl HY2.out HR2.out hz2 (by omega) (by simp) rfl rfl ?_; intro u2 w2 L2 n2q HL2 HN2 hle2 hown hb; have hle2 : n2q ≤ n1q + 4 := hle2; have HO2 := hid hown; have HB2 := hid (HZ2.out.trans hb); obtain ⟨x0, x1, x2, x3, x4, x5, x6, x7, x8, x9, x10, x11⟩ := HNW.out _ HB2.out; simp only at x0 x1 x2 x3 x4 x5 x6 x7 x8 x9 x10 x11; obtain ⟨oa2, oc2, rfl⟩ := own_shape hown; clear hown hb)
     change Code.wp _ ((regionOf 6 (Tryd.f39.body.getD .skip)).getD .skip) _ _ _
     have HM6 : Hid (MID = L2 ++ (BT ++ ([ptk sFROM, ptk t] ++ WT))) := by
      show _ = _
      rw [HMI.out, hwE, HL2.out, HL1.out]
      rfl
     refine sel6 _ w2 w.heap.size (Nat.lt_of_lt_of_le HSZ.out HB2.out.size) t oa2 n2q oc2 a4 0 c4 a6 n6 c6 L2 BT WT x4 x1 x6 (Rd.own HO2.out) (plainH _ (HM.out _ HB2.out) [sFROM, t] 2 (by omega) (by omega) (by simp; exact ⟨by decide, ht⟩) [ptk sFROM, ptk t] rfl) (hid fun W hW => HBN.out W (HB2.out.trans (hW.mono HB2.out.size))) (hid fun W hW => HWH.out W (HB2.out.trans (hW.mono HB2.out.size))) (hid (by show _ ≤ _; have := HW6.out; have := HN2.out; simp only [List.length_append, List.length_cons, List.length_nil]; omega)) (hid ?_)
     intro z22 z23 z24 z25 z26 z27 z28 z29 z30 z31 z32 z33 z34 vm w3 h
     rw [← HM6.out] at h
     obtain ⟨n3q, hn3⟩ : ∃ n, n = MID.length := ⟨_, rfl⟩
     have HN3 := hid hn3
     have hle3 : n3q ≤ 300 := by rw [hn3]; exact HMID.out
     have HO3 : Hid (w3.ownsRow W0.heap.size 45 3 vm n3q (tkc MID)) := by rw [hn3]; exact ToksIs.base h HB2.out.size
     obtain ⟨L3, hL3⟩ : ∃ L, L = MID := ⟨_, rfl⟩
     rw [← hL3] at HO3 HN3
     have HL3 := hid hL3
     clear hn3 hL3
     have HB3 : Hid (Below W0.heap.size W0 w3) := by
      obtain ⟨_, _, _, h3⟩ := h
      exact HB2.out.trans (h3.mono HB2.out.size)
     obtain ⟨oa3, oc3, rfl⟩ := own_shape HO3.out
     clear h x0 x1 x2 x3 x4 x5 x6 x7 x8 x9 x10 x11 HM6
     obtain ⟨x0, x1, x2, x3, x4, x5, x6, x7, x8, x9, x10, x11⟩ := HNW.out _ HB3.out
     simp only at x0 x1 x2 x3 x4 x5 x6 x7 x8 x9 x10 x11
     go_wp2_with fail
     refine (plain3 w3 (HM.out _ HB3.out) sORDER sBY ord (by decide) (by decide) hord w3.heap.size rfl).mono ?_
     rintro e4 y4 ⟨v4, rfl, h1, h2⟩
     have HR4 := hid (Rd.own h1)
     have HY4 := hid (own_below HO3.out h2)
     have HZ4 := hid (HB3.out.trans (h2.mono HB3.out.size))
     have hz4 := HZ4.out.size
     clear h1 h2 HO3 HB3 x0 x1 x2 x3 x4 x5 x6 x7 x8 x9 x10 x11
     go_wp2_with (at_builtin; refine aptk y4 L3 [ptk sORDER, ptk sBY, ptk ord] n3q HN3 rfl _ _ rfl HY4.out HR4.out hz4 (by omega) (by simp) rfl rfl ?_; intro u4 w4 L4 n4q HL4 HN4 hle4 hown hb; have hle4 : n4q ≤ n3q + 3 := hle4; have HO4 := hid hown; have HB4 := hid (HZ4.out.trans hb); obtain ⟨x0, x1, x2, x3, x4, x5, x6, x7, x8, x9, x10, x11⟩ := HNW.out _ HB4.out; simp only at x0 x1 x2 x3 x4 x5 x6 x7 x8 x9 x10 x11; obtain ⟨oa4, oc4, rfl⟩ := own_shape hown; clear hown hb)
     go_wp2_with fail
     refine (plain1 w4 (HM.out _ HB4.out) sLIMIT (by decide) w4.heap.size rfl).mono ?_
     rintro e5 y5 ⟨v5, rfl, h1, h2⟩
     have HR5 := hid (Rd.own h1)
     have HY5 := hid (own_below HO4.out h2)
     have HZ5 := hid (HB4.out.trans (h2.mono HB4.out.size))
     have hz5 := HZ5.out.size
     clear h1 h2 HO4 HB4 x0 x1 x2 x3 x4 x5 x6 x7 x8 x9 x10 x11
     go_wp2_with (first | (at_builtin; refine aptk y5 L4 [ptk sLIMIT] n4q HN4 rfl _ _ rfl HY5.out HR5.out hz5 (by omega) (by simp) rfl rfl ?_; intro u5 w5 L5 n5q HL5 HN5 hle5 hown hb; have hle5 : n5q ≤ n4q + 1 := hle5; have HO5 := hid hown; have HB5 := hid (HZ5.out.trans hb); obtain ⟨x0, x1, x2, x3, x4, x5, x6, x7, x8, x9, x10, x11⟩ := HNW.out _ HB5.out; simp only at x0 x1 x2 x3 x4 x5 x6 x7 x8 x9 x10 x11; obtain ⟨oa5, oc5, rfl⟩ := own_shape hown; clear hown hb) | (at_builtin; refine aptk (w5.alloc (.cells #[.int .i64 2, .string ⟨#[]⟩, .int .i64 lim] 45)) L5 [⟨2, [], lim⟩] n5q HN5 rfl _ _ rfl (HO5.out.alloc _) (rd_tk1 w5 2 lim ⟨#[]⟩ _ rfl) (by have := HB5.out.size; simp; omega) (by omega) (by simp) rfl rfl ?_; intro u6 w6 L6 n6q HL6 HN6 hle6 hown hb; have HO6 := hid hown; have HB6 := hid ((HB5.out.alloc HB5.out.size _).trans hb); clear hown hb))
     go_ret
     have HQ : SEL = L6 := by
      rw [HS.out, hoE, hdE, hlE, HL6.out, HL5.out, HL4.out, HL3.out]
      simp [hlim]
     rw [HQ]
     refine ⟨_, rfl, ?_, HB0.out.trans (HB6.out.mono (Nat.le_of_lt HSZ.out))⟩
     rw [← HN6.out]
     exact own_mono HO6.out (Nat.le_of_lt HSZ.out)
    ·go_enter Tryd.func39, Tryd.ntmps39
     go_wp2_with fail
     rw [← HWE.out]
     refine HPS.out.mono ?_
     rintro e0 w1 ⟨v1, rfl, h1, h2⟩
     obtain ⟨L1, hL1⟩ : ∃ L, L = [ptk sSELECT] := ⟨_, rfl⟩
     obtain ⟨n1q, hn1⟩ : ∃ n, n = [ptk sSELECT].length := ⟨_, rfl⟩
     have hle1 : n1q ≤ 1 := by rw [hn1]; exact Nat.le_refl _
     rw [← hn1, ← hL1] at h1
     rw [← hL1] at hn1
     have HL1 := hid hL1
     have HN1 := hid hn1
     have HO1 := hid h1
     have HB1 := hid h2
     obtain ⟨oa1, oc1, rfl⟩ := own_shape h1
     clear hL1 hn1
     obtain ⟨x0, x1, x2, x3, x4, x5, x6, x7, x8, x9, x10, x11⟩ := HNW.out _ HB1.out
     simp only at x0 x1 x2 x3 x4 x5 x6 x7 x8 x9 x10 x11
     clear h1 h2 HPS
     go_wp2_with fail
     refine (plain4 w1 (HM.out _ HB1.out) sCOUNT sOpen sStar sClose (by decide) (by decide) (by decide) (by decide) w1.heap.size rfl).mono ?_
     rintro e2 y2 ⟨v2, rfl, h1, h2⟩
     have HR2 := hid (Rd.own h1)
     have HY2 := hid (own_below HO1.out h2)
     have HZ2 := hid (HB1.out.trans (h2.mono HB1.out.size))
     have hz2 := HZ2.out.size
     clear h1 h2 HO1 HB1 x0 x1 x2 x3 x4 x5 x6 x7 x8 x9 x10 x11
     go_wp2_with (at_builtin; refine aptk y2 L1 [ptk sCOUNT, ptk sOpen, ptk sStar, ptk sClose] n1q HN1 rfl _ _ rfl HY2.out HR2.out hz2 (by omega) (by simp) rfl rfl ?_; intro u2 w2 L2 n2q HL2 HN2 hle2 hown hb; have hle2 : n2q ≤ n1q + 4 := hle2; have HO2 := hid hown; have HB2 := hid (HZ2.out.trans hb); obtain ⟨x0, x1, x2, x3, x4, x5, x6, x7, x8, x9, x10, x11⟩ := HNW.out _ HB2.out; simp only at x0 x1 x2 x3 x4 x5 x6 x7 x8 x9 x10 x11; obtain ⟨oa2, oc2, rfl⟩ := own_shape hown; clear hown hb)
     change Code.wp _ ((regionOf 6 (Tryd.f39.body.getD .skip)).getD .skip) _ _ _
     have HM6 : Hid (MID = L2 ++ (BT ++ ([ptk sFROM, ptk t] ++ WT))) := by
      show _ = _
      rw [HMI.out, hwE, HL2.out, HL1.out]
      rfl
     refine sel6 _ w2 w.heap.size (Nat.lt_of_lt_of_le HSZ.out HB2.out.size) t oa2 n2q oc2 a4 0 c4 a6 n6 c6 L2 BT WT x4 x1 x6 (Rd.own HO2.out) (plainH _ (HM.out _ HB2.out) [sFROM, t] 2 (by omega) (by omega) (by simp; exact ⟨by decide, ht⟩) [ptk sFROM, ptk t] rfl) (hid fun W hW => HBN.out W (HB2.out.trans (hW.mono HB2.out.size))) (hid fun W hW => HWH.out W (HB2.out.trans (hW.mono HB2.out.size))) (hid (by show _ ≤ _; have := HW6.out; have := HN2.out; simp only [List.length_append, List.length_cons, List.length_nil]; omega)) (hid ?_)
     intro z22 z23 z24 z25 z26 z27 z28 z29 z30 z31 z32 z33 z34 vm w3 h
     rw [← HM6.out] at h
     obtain ⟨n3q, hn3⟩ : ∃ n, n = MID.length := ⟨_, rfl⟩
     have HN3 := hid hn3
     have hle3 : n3q ≤ 300 := by rw [hn3]; exact HMID.out
     have HO3 : Hid (w3.ownsRow W0.heap.size 45 3 vm n3q (tkc MID)) := by rw [hn3]; exact ToksIs.base h HB2.out.size
     obtain ⟨L3, hL3⟩ : ∃ L, L = MID := ⟨_, rfl⟩
     rw [← hL3] at HO3 HN3
     have HL3 := hid hL3
     clear hn3 hL3
     have HB3 : Hid (Below W0.heap.size W0 w3) := by
      obtain ⟨_, _, _, h3⟩ := h
      exact HB2.out.trans (h3.mono HB2.out.size)
     obtain ⟨oa3, oc3, rfl⟩ := own_shape HO3.out
     clear h x0 x1 x2 x3 x4 x5 x6 x7 x8 x9 x10 x11 HM6
     obtain ⟨x0, x1, x2, x3, x4, x5, x6, x7, x8, x9, x10, x11⟩ := HNW.out _ HB3.out
     simp only at x0 x1 x2 x3 x4 x5 x6 x7 x8 x9 x10 x11
     go_wp2_with fail
     refine (plain3 w3 (HM.out _ HB3.out) sORDER sBY ord (by decide) (by decide) hord w3.heap.size rfl).mono ?_
     rintro e4 y4 ⟨v4, rfl, h1, h2⟩
     have HR4 := hid (Rd.own h1)
     have HY4 := hid (own_below HO3.out h2)
     have HZ4 := hid (HB3.out.trans (h2.mono HB3.out.size))
     have hz4 := HZ4.out.size
     clear h1 h2 HO3 HB3 x0 x1 x2 x3 x4 x5 x6 x7 x8 x9 x10 x11
     go_wp2_with (at_builtin; refine aptk y4 L3 [ptk sORDER, ptk sBY, ptk ord] n3q HN3 rfl _ _ rfl HY4.out HR4.out hz4 (by omega) (by simp) rfl rfl ?_; intro u4 w4 L4 n4q HL4 HN4 hle4 hown hb; have hle4 : n4q ≤ n3q + 3 := hle4; have HO4 := hid hown; have HB4 := hid (HZ4.out.trans hb); obtain ⟨x0, x1, x2, x3, x4, x5, x6, x7, x8, x9, x10, x11⟩ := HNW.out _ HB4.out; simp only at x0 x1 x2 x3 x4 x5 x6 x7 x8 x9 x10 x11; obtain ⟨oa4, oc4, rfl⟩ := own_shape hown; clear hown hb)
     go_wp2_with fail
     refine (plain1 w4 (HM.out _ HB4.out) sDESC (by decide) w4.heap.size rfl).mono ?_
     rintro e5 y5 ⟨v5, rfl, h1, h2⟩
     have HR5 := hid (Rd.own h1)
     have HY5 := hid (own_below HO4.out h2)
     have HZ5 := hid (HB4.out.trans (h2.mono HB4.out.size))
     have hz5 := HZ5.out.size
     clear h1 h2 HO4 HB4 x0 x1 x2 x3 x4 x5 x6 x7 x8 x9 x10 x11
     go_wp2_with (at_builtin; refine aptk y5 L4 [ptk sDESC] n4q HN4 rfl _ _ rfl HY5.out HR5.out hz5 (by omega) (by simp) rfl rfl ?_; intro u5 w5 L5 n5q HL5 HN5 hle5 hown hb; have hle5 : n5q ≤ n4q + 1 := hle5; have HO5 := hid hown; have HB5 := hid (HZ5.out.trans hb); obtain ⟨x0, x1, x2, x3, x4, x5, x6, x7, x8, x9, x10, x11⟩ := HNW.out _ HB5.out; simp only at x0 x1 x2 x3 x4 x5 x6 x7 x8 x9 x10 x11; obtain ⟨oa5, oc5, rfl⟩ := own_shape hown; clear hown hb)
     go_wp2_with fail
     refine (plain1 w5 (HM.out _ HB5.out) sLIMIT (by decide) w5.heap.size rfl).mono ?_
     rintro e6 y6 ⟨v6, rfl, h1, h2⟩
     have HR6 := hid (Rd.own h1)
     have HY6 := hid (own_below HO5.out h2)
     have HZ6 := hid (HB5.out.trans (h2.mono HB5.out.size))
     have hz6 := HZ6.out.size
     clear h1 h2 HO5 HB5 x0 x1 x2 x3 x4 x5 x6 x7 x8 x9 x10 x11
     go_wp2_with (first | (at_builtin; refine aptk y6 L5 [ptk sLIMIT] n5q HN5 rfl _ _ rfl HY6.out HR6.out hz6 (by omega) (by simp) rfl rfl ?_; intro u6 w6 L6 n6q HL6 HN6 hle6 hown hb; have hle6 : n6q ≤ n5q + 1 := hle6; have HO6 := hid hown; have HB6 := hid (HZ6.out.trans hb); obtain ⟨x0, x1, x2, x3, x4, x5, x6, x7, x8, x9, x10, x11⟩ := HNW.out _ HB6.out; simp only at x0 x1 x2 x3 x4 x5 x6 x7 x8 x9 x10 x11; obtain ⟨oa6, oc6, rfl⟩ := own_shape hown; clear hown hb) | (at_builtin; refine aptk (w6.alloc (.cells #[.int .i64 2, .string ⟨#[]⟩, .int .i64 lim] 45)) L6 [⟨2, [], lim⟩] n6q HN6 rfl _ _ rfl (HO6.out.alloc _) (rd_tk1 w6 2 lim ⟨#[]⟩ _ rfl) (by have := HB6.out.size; simp; omega) (by omega) (by simp) rfl rfl ?_; intro u7 w7 L7 n7q HL7 HN7 hle7 hown hb; have HO7 := hid hown; have HB7 := hid ((HB6.out.alloc HB6.out.size _).trans hb); clear hown hb))
     go_ret
     have HQ : SEL = L7 := by
      rw [HS.out, hoE, hdE, hlE, HL7.out, HL6.out, HL5.out, HL4.out, HL3.out]
      simp [hlim]
     rw [HQ]
     refine ⟨_, rfl, ?_, HB0.out.trans (HB7.out.mono (Nat.le_of_lt HSZ.out))⟩
     rw [← HN7.out]
     exact own_mono HO7.out (Nat.le_of_lt HSZ.out)
   ·cases dn
    ·go_enter Tryd.func39, Tryd.ntmps39
     go_wp2_with fail
     rw [← HWE.out]
     refine HPS.out.mono ?_
     rintro e0 w1 ⟨v1, rfl, h1, h2⟩
     obtain ⟨L1, hL1⟩ : ∃ L, L = [ptk sSELECT] := ⟨_, rfl⟩
     obtain ⟨n1q, hn1⟩ : ∃ n, n = [ptk sSELECT].length := ⟨_, rfl⟩
     have hle1 : n1q ≤ 1 := by rw [hn1]; exact Nat.le_refl _
     rw [← hn1, ← hL1] at h1
     rw [← hL1] at hn1
     have HL1 := hid hL1
     have HN1 := hid hn1
     have HO1 := hid h1
     have HB1 := hid h2
     obtain ⟨oa1, oc1, rfl⟩ := own_shape h1
     clear hL1 hn1
     obtain ⟨x0, x1, x2, x3, x4, x5, x6, x7, x8, x9, x10, x11⟩ := HNW.out _ HB1.out
     simp only at x0 x1 x2 x3 x4 x5 x6 x7 x8 x9 x10 x11
     clear h1 h2 HPS
     go_wp2_with fail
     refine (plain4 w1 (HM.out _ HB1.out) sCOUNT sOpen sStar sClose (by decide) (by decide) (by decide) (by decide) w1.heap.size rfl).mono ?_
     rintro e2 y2 ⟨v2, rfl, h1, h2⟩
     have HR2 := hid (Rd.own h1)
     have HY2 := hid (own_below HO1.out h2)
     have HZ2 := hid (HB1.out.trans (h2.mono HB1.out.size))
     have hz2 := HZ2.out.size
     clear h1 h2 HO1 HB1 x0 x1 x2 x3 x4 x5 x6 x7 x8 x9 x10 x11
     go_wp2_with (at_builtin; refine aptk y2 L1 [ptk sCOUNT, ptk sOpen, ptk sStar, ptk sClose] n1q HN1 rfl _ _ rfl HY2.out HR2.out hz2 (by omega) (by simp) rfl rfl ?_; intro u2 w2 L2 n2q HL2 HN2 hle2 hown hb; have hle2 : n2q ≤ n1q + 4 := hle2; have HO2 := hid hown; have HB2 := hid (HZ2.out.trans hb); obtain ⟨x0, x1, x2, x3, x4, x5, x6, x7, x8, x9, x10, x11⟩ := HNW.out _ HB2.out; simp only at x0 x1 x2 x3 x4 x5 x6 x7 x8 x9 x10 x11; obtain ⟨oa2, oc2, rfl⟩ := own_shape hown; clear hown hb)
     change Code.wp _ ((regionOf 6 (Tryd.f39.body.getD .skip)).getD .skip) _ _ _
     have HM6 : Hid (MID = L2 ++ (BT ++ ([ptk sFROM, ptk t] ++ WT))) := by
      show _ = _
      rw [HMI.out, hwE, HL2.out, HL1.out]
      rfl
     refine sel6 _ w2 w.heap.size (Nat.lt_of_lt_of_le HSZ.out HB2.out.size) t oa2 n2q oc2 a4 0 c4 a6 n6 c6 L2 BT WT x4 x1 x6 (Rd.own HO2.out) (plainH _ (HM.out _ HB2.out) [sFROM, t] 2 (by omega) (by omega) (by simp; exact ⟨by decide, ht⟩) [ptk sFROM, ptk t] rfl) (hid fun W hW => HBN.out W (HB2.out.trans (hW.mono HB2.out.size))) (hid fun W hW => HWH.out W (HB2.out.trans (hW.mono HB2.out.size))) (hid (by show _ ≤ _; have := HW6.out; have := HN2.out; simp only [List.length_append, List.length_cons, List.length_nil]; omega)) (hid ?_)
     intro z22 z23 z24 z25 z26 z27 z28 z29 z30 z31 z32 z33 z34 vm w3 h
     rw [← HM6.out] at h
     obtain ⟨n3q, hn3⟩ : ∃ n, n = MID.length := ⟨_, rfl⟩
     have HN3 := hid hn3
     have hle3 : n3q ≤ 300 := by rw [hn3]; exact HMID.out
     have HO3 : Hid (w3.ownsRow W0.heap.size 45 3 vm n3q (tkc MID)) := by rw [hn3]; exact ToksIs.base h HB2.out.size
     obtain ⟨L3, hL3⟩ : ∃ L, L = MID := ⟨_, rfl⟩
     rw [← hL3] at HO3 HN3
     have HL3 := hid hL3
     clear hn3 hL3
     have HB3 : Hid (Below W0.heap.size W0 w3) := by
      obtain ⟨_, _, _, h3⟩ := h
      exact HB2.out.trans (h3.mono HB2.out.size)
     obtain ⟨oa3, oc3, rfl⟩ := own_shape HO3.out
     clear h x0 x1 x2 x3 x4 x5 x6 x7 x8 x9 x10 x11 HM6
     obtain ⟨x0, x1, x2, x3, x4, x5, x6, x7, x8, x9, x10, x11⟩ := HNW.out _ HB3.out
     simp only at x0 x1 x2 x3 x4 x5 x6 x7 x8 x9 x10 x11
     go_wp2_with fail
     refine (plain1 w3 (HM.out _ HB3.out) sLIMIT (by decide) w3.heap.size rfl).mono ?_
     rintro e4 y4 ⟨v4, rfl, h1, h2⟩
     have HR4 := hid (Rd.own h1)
     have HY4 := hid (own_below HO3.out h2)
     have HZ4 := hid (HB3.out.trans (h2.mono HB3.out.size))
     have hz4 := HZ4.out.size
     clear h1 h2 HO3 HB3 x0 x1 x2 x3 x4 x5 x6 x7 x8 x9 x10 x11
     go_wp2_with (first | (at_builtin; refine aptk y4 L3 [ptk sLIMIT] n3q HN3 rfl _ _ rfl HY4.out HR4.out hz4 (by omega) (by simp) rfl rfl ?_; intro u4 w4 L4 n4q HL4 HN4 hle4 hown hb; have hle4 : n4q ≤ n3q + 1 := hle4; have HO4 := hid hown; have HB4 := hid (HZ4.out.trans hb); obtain ⟨x0, x1, x2, x3, x4, x5, x6, x7, x8, x9, x10, x11⟩ := HNW.out _ HB4.out; simp only at x0 x1 x2 x3 x4 x5 x6 x7 x8 x9 x10 x11; obtain ⟨oa4, oc4, rfl⟩ := own_shape hown; clear hown hb) | (at_builtin; refine aptk (w4.alloc (.cells #[.int .i64 2, .string ⟨#[]⟩, .int .i64 lim] 45)) L4 [⟨2, [], lim⟩] n4q HN4 rfl _ _ rfl (HO4.out.alloc _) (rd_tk1 w4 2 lim ⟨#[]⟩ _ rfl) (by have := HB4.out.size; simp; omega) (by omega) (by simp) rfl rfl ?_; intro u5 w5 L5 n5q HL5 HN5 hle5 hown hb; have HO5 := hid hown; have HB5 := hid ((HB4.out.alloc HB4.out.size _).trans hb); clear hown hb))
     go_ret
     have HQ : SEL = L5 := by
      rw [HS.out, hoE, hdE, hlE, HL5.out, HL4.out, HL3.out]
      simp [hlim]
     rw [HQ]
     refine ⟨_, rfl, ?_, HB0.out.trans (HB5.out.mono (Nat.le_of_lt HSZ.out))⟩
     rw [← HN5.out]
     exact own_mono HO5.out (Nat.le_of_lt HSZ.out)
    ·go_enter Tryd.func39, Tryd.ntmps39
     go_wp2_with fail
     rw [← HWE.out]
     refine HPS.out.mono ?_
     rintro e0 w1 ⟨v1, rfl, h1, h2⟩
     obtain ⟨L1, hL1⟩ : ∃ L, L = [ptk sSELECT] := ⟨_, rfl⟩
     obtain ⟨n1q, hn1⟩ : ∃ n, n = [ptk sSELECT].length := ⟨_, rfl⟩
     have hle1 : n1q ≤ 1 := by rw [hn1]; exact Nat.le_refl _
     rw [← hn1, ← hL1] at h1
     rw [← hL1] at hn1
     have HL1 := hid hL1
     have HN1 := hid hn1
     have HO1 := hid h1
     have HB1 := hid h2
     obtain ⟨oa1, oc1, rfl⟩ := own_shape h1
     clear hL1 hn1
     obtain ⟨x0, x1, x2, x3, x4, x5, x6, x7, x8, x9, x10, x11⟩ := HNW.out _ HB1.out
     simp only at x0 x1 x2 x3 x4 x5 x6 x7 x8 x9 x10 x11
     clear h1 h2 HPS
     go_wp2_with fail
     refine (plain4 w1 (HM.out _ HB1.out) sCOUNT sOpen sStar sClose (by decide) (by decide) (by decide) (by decide) w1.heap.size rfl).mono ?_
     rintro e2 y2 ⟨v2, rfl, h1, h2⟩
     have HR2 := hid (Rd.own h1)
     have HY2 := hid (own_below HO1.out h2)
     have HZ2 := hid (HB1.out.trans (h2.mono HB1.out.size))
     have hz2 := HZ2.out.size
     clear h1 h2 HO1 HB1 x0 x1 x2 x3 x4 x5 x6 x7 x8 x9 x10 x11
     go_wp2_with (at_builtin; refine aptk y2 L1 [ptk sCOUNT, ptk sOpen, ptk sStar, ptk sClose] n1q HN1 rfl _ _ rfl HY2.out HR2.out hz2 (by omega) (by simp) rfl rfl ?_; intro u2 w2 L2 n2q HL2 HN2 hle2 hown hb; have hle2 : n2q ≤ n1q + 4 := hle2; have HO2 := hid hown; have HB2 := hid (HZ2.out.trans hb); obtain ⟨x0, x1, x2, x3, x4, x5, x6, x7, x8, x9, x10, x11⟩ := HNW.out _ HB2.out; simp only at x0 x1 x2 x3 x4 x5 x6 x7 x8 x9 x10 x11; obtain ⟨oa2, oc2, rfl⟩ := own_shape hown; clear hown hb)
     change Code.wp _ ((regionOf 6 (Tryd.f39.body.getD .skip)).getD .skip) _ _ _
     have HM6 : Hid (MID = L2 ++ (BT ++ ([ptk sFROM, ptk t] ++ WT))) := by
      show _ = _
      rw [HMI.out, hwE, HL2.out, HL1.out]
      rfl
     refine sel6 _ w2 w.heap.size (Nat.lt_of_lt_of_le HSZ.out HB2.out.size) t oa2 n2q oc2 a4 0 c4 a6 n6 c6 L2 BT WT x4 x1 x6 (Rd.own HO2.out) (plainH _ (HM.out _ HB2.out) [sFROM, t] 2 (by omega) (by omega) (by simp; exact ⟨by decide, ht⟩) [ptk sFROM, ptk t] rfl) (hid fun W hW => HBN.out W (HB2.out.trans (hW.mono HB2.out.size))) (hid fun W hW => HWH.out W (HB2.out.trans (hW.mono HB2.out.size))) (hid (by show _ ≤ _; have := HW6.out; have := HN2.out; simp only [List.length_append, List.length_cons, List.length_nil]; omega)) (hid ?_)
     intro z22 z23 z24 z25 z26 z27 z28 z29 z30 z31 z32 z33 z34 vm w3 h
     rw [← HM6.out] at h
     obtain ⟨n3q, hn3⟩ : ∃ n, n = MID.length := ⟨_, rfl⟩
     have HN3 := hid hn3
     have hle3 : n3q ≤ 300 := by rw [hn3]; exact HMID.out
     have HO3 : Hid (w3.ownsRow W0.heap.size 45 3 vm n3q (tkc MID)) := by rw [hn3]; exact ToksIs.base h HB2.out.size
     obtain ⟨L3, hL3⟩ : ∃ L, L = MID := ⟨_, rfl⟩
     rw [← hL3] at HO3 HN3
     have HL3 := hid hL3
     clear hn3 hL3
     have HB3 : Hid (Below W0.heap.size W0 w3) := by
      obtain ⟨_, _, _, h3⟩ := h
      exact HB2.out.trans (h3.mono HB2.out.size)
     obtain ⟨oa3, oc3, rfl⟩ := own_shape HO3.out
     clear h x0 x1 x2 x3 x4 x5 x6 x7 x8 x9 x10 x11 HM6
     obtain ⟨x0, x1, x2, x3, x4, x5, x6, x7, x8, x9, x10, x11⟩ := HNW.out _ HB3.out
     simp only at x0 x1 x2 x3 x4 x5 x6 x7 x8 x9 x10 x11
     go_wp2_with fail
     refine (plain1 w3 (HM.out _ HB3.out) sDESC (by decide) w3.heap.size rfl).mono ?_
     rintro e4 y4 ⟨v4, rfl, h1, h2⟩
     have HR4 := hid (Rd.own h1)
     have HY4 := hid (own_below HO3.out h2)
     have HZ4 := hid (HB3.out.trans (h2.mono HB3.out.size))
     have hz4 := HZ4.out.size
     clear h1 h2 HO3 HB3 x0 x1 x2 x3 x4 x5 x6 x7 x8 x9 x10 x11
     go_wp2_with (at_builtin; refine aptk y4 L3 [ptk sDESC] n3q HN3 rfl _ _ rfl HY4.out HR4.out hz4 (by omega) (by simp) rfl rfl ?_; intro u4 w4 L4 n4q HL4 HN4 hle4 hown hb; have hle4 : n4q ≤ n3q + 1 := hle4; have HO4 := hid hown; have HB4 := hid (HZ4.out.trans hb); obtain ⟨x0, x1, x2, x3, x4, x5, x6, x7, x8, x9, x10, x11⟩ := HNW.out _ HB4.out; simp only at x0 x1 x2 x3 x4 x5 x6 x7 x8 x9 x10 x11; obtain ⟨oa4, oc4, rfl⟩ := own_shape hown; clear hown hb)
     go_wp2_with fail
     refine (plain1 w4 (HM.out _ HB4.out) sLIMIT (by decide) w4.heap.size rfl).mono ?_
     rintro e5 y5 ⟨v5, rfl, h1, h2⟩
     have HR5 := hid (Rd.own h1)
     have HY5 := hid (own_below HO4.out h2)
     have HZ5 := hid (HB4.out.trans (h2.mono HB4.out.size))
     have hz5 := HZ5.out.size
     clear h1 h2 HO4 HB4 x0 x1 x2 x3 x4 x5 x6 x7 x8 x9 x10 x11
     go_wp2_with (first | (at_builtin; refine aptk y5 L4 [ptk sLIMIT] n4q HN4 rfl _ _ rfl HY5.out HR5.out hz5 (by omega) (by simp) rfl rfl ?_; intro u5 w5 L5 n5q HL5 HN5 hle5 hown hb; have hle5 : n5q ≤ n4q + 1 := hle5; have HO5 := hid hown; have HB5 := hid (HZ5.out.trans hb); obtain ⟨x0, x1, x2, x3, x4, x5, x6, x7, x8, x9, x10, x11⟩ := HNW.out _ HB5.out; simp only at x0 x1 x2 x3 x4 x5 x6 x7 x8 x9 x10 x11; obtain ⟨oa5, oc5, rfl⟩ := own_shape hown; clear hown hb) | (at_builtin; refine aptk (w5.alloc (.cells #[.int .i64 2, .string ⟨#[]⟩, .int .i64 lim] 45)) L5 [⟨2, [], lim⟩] n5q HN5 rfl _ _ rfl (HO5.out.alloc _) (rd_tk1 w5 2 lim ⟨#[]⟩ _ rfl) (by have := HB5.out.size; simp; omega) (by omega) (by simp) rfl rfl ?_; intro u6 w6 L6 n6q HL6 HN6 hle6 hown hb; have HO6 := hid hown; have HB6 := hid ((HB5.out.alloc HB5.out.size _).trans hb); clear hown hb))
     go_ret
     have HQ : SEL = L6 := by
      rw [HS.out, hoE, hdE, hlE, HL6.out, HL5.out, HL4.out, HL3.out]
      simp [hlim]
     rw [HQ]
     refine ⟨_, rfl, ?_, HB0.out.trans (HB6.out.mono (Nat.le_of_lt HSZ.out))⟩
     rw [← HN6.out]
     exact own_mono HO6.out (Nat.le_of_lt HSZ.out)
  ·have hz0 := trivial
   cases e
   ·cases dn
    ·go_enter Tryd.func39, Tryd.ntmps39
     go_wp2_with fail
     rw [← HWE.out]
     refine HPS.out.mono ?_
     rintro e0 w1 ⟨v1, rfl, h1, h2⟩
     obtain ⟨L1, hL1⟩ : ∃ L, L = [ptk sSELECT] := ⟨_, rfl⟩
     obtain ⟨n1q, hn1⟩ : ∃ n, n = [ptk sSELECT].length := ⟨_, rfl⟩
     have hle1 : n1q ≤ 1 := by rw [hn1]; exact Nat.le_refl _
     rw [← hn1, ← hL1] at h1
     rw [← hL1] at hn1
     have HL1 := hid hL1
     have HN1 := hid hn1
     have HO1 := hid h1
     have HB1 := hid h2
     obtain ⟨oa1, oc1, rfl⟩ := own_shape h1
     clear hL1 hn1
     obtain ⟨x0, x1, x2, x3, x4, x5, x6, x7, x8, x9, x10, x11⟩ := HNW.out _ HB1.out
     simp only at x0 x1 x2 x3 x4 x5 x6 x7 x8 x9 x10 x11
     clear h1 h2 HPS
     go_wp2_with fail
     refine (plain1 w1 (HM.out _ HB1.out) sStar (by decide) w1.heap.size rfl).mono ?_
     rintro e2 y2 ⟨v2, rfl, h1, h2⟩
     have HR2 := hid (Rd.own h1)
     have HY2 := hid (own_below HO1.out h2)
     have HZ2 := hid (HB1.out.trans (h2.mono HB1.out.size))
     have hz2 := HZ2.out.size
     clear h1 h2 HO1 HB1 x0 x1 x2 x3 x4 x5 x6 x7 x8 x9 x10 x11
     go_wp2_with (at_builtin; refine aptk y2 L1 [ptk sStar] n1q HN1 rfl _ _ rfl HY2.out HR2.out hz2 (by omega) (by simp) rfl rfl ?_; intro u2 w2 L2 n2q HL2 HN2 hle2 hown hb; have hle2 : n2q ≤ n1q + 1 := hle2; have HO2 := hid hown; have HB2 := hid (HZ2.out.trans hb); obtain ⟨x0, x1, x2, x3, x4, x5, x6, x7, x8, x9, x10, x11⟩ := HNW.out _ HB2.out; simp only at x0 x1 x2 x3 x4 x5 x6 x7 x8 x9 x10 x11; obtain ⟨oa2, oc2, rfl⟩ := own_shape hown; clear hown hb)
     change Code.wp _ ((regionOf 6 (Tryd.f39.body.getD .skip)).getD .skip) _ _ _
     have HM6 : Hid (MID = L2 ++ (BT ++ ([ptk sFROM, ptk t] ++ WT))) := by
      show _ = _
      rw [HMI.out, hwE, HL2.out, HL1.out]
      rfl
     refine sel6 _ w2 w.heap.size (Nat.lt_of_lt_of_le HSZ.out HB2.out.size) t oa2 n2q oc2 a4 0 c4 a6 n6 c6 L2 BT WT x4 x1 x6 (Rd.own HO2.out) (plainH _ (HM.out _ HB2.out) [sFROM, t] 2 (by omega) (by omega) (by simp; exact ⟨by decide, ht⟩) [ptk sFROM, ptk t] rfl) (hid fun W hW => HBN.out W (HB2.out.trans (hW.mono HB2.out.size))) (hid fun W hW => HWH.out W (HB2.out.trans (hW.mono HB2.out.size))) (hid (by show _ ≤ _; have := HW6.out; have := HN2.out; simp only [List.length_append, List.length_cons, List.length_nil]; omega)) (hid ?_)
     intro z22 z23 z24 z25 z26 z27 z28 z29 z30 z31 z32 z33 z34 vm w3 h
     rw [← HM6.out] at h
     obtain ⟨n3q, hn3⟩ : ∃ n, n = MID.length := ⟨_, rfl⟩
     have HN3 := hid hn3
     have hle3 : n3q ≤ 300 := by rw [hn3]; exact HMID.out
     have HO3 : Hid (w3.ownsRow W0.heap.size 45 3 vm n3q (tkc MID)) := by rw [hn3]; exact ToksIs.base h HB2.out.size
     obtain ⟨L3, hL3⟩ : ∃ L, L = MID := ⟨_, rfl⟩
     rw [← hL3] at HO3 HN3
     have HL3 := hid hL3
     clear hn3 hL3
     have HB3 : Hid (Below W0.heap.size W0 w3) := by
      obtain ⟨_, _, _, h3⟩ := h
      exact HB2.out.trans (h3.mono HB2.out.size)
     obtain ⟨oa3, oc3, rfl⟩ := own_shape HO3.out
     clear h x0 x1 x2 x3 x4 x5 x6 x7 x8 x9 x10 x11 HM6
     obtain ⟨x0, x1, x2, x3, x4, x5, x6, x7, x8, x9, x10, x11⟩ := HNW.out _ HB3.out
     simp only at x0 x1 x2 x3 x4 x5 x6 x7 x8 x9 x10 x11
     go_wp2_with fail
     refine (plain3 w3 (HM.out _ HB3.out) sORDER sBY ord (by decide) (by decide) hord w3.heap.size rfl).mono ?_
     rintro e4 y4 ⟨v4, rfl, h1, h2⟩
     have HR4 := hid (Rd.own h1)
     have HY4 := hid (own_below HO3.out h2)
     have HZ4 := hid (HB3.out.trans (h2.mono HB3.out.size))
     have hz4 := HZ4.out.size
     clear h1 h2 HO3 HB3 x0 x1 x2 x3 x4 x5 x6 x7 x8 x9 x10 x11
     go_wp2_with (at_builtin; refine aptk y4 L3 [ptk sORDER, ptk sBY, ptk ord] n3q HN3 rfl _ _ rfl HY4.out HR4.out hz4 (by omega) (by simp) rfl rfl ?_; intro u4 w4 L4 n4q HL4 HN4 hle4 hown hb; have hle4 : n4q ≤ n3q + 3 := hle4; have HO4 := hid hown; have HB4 := hid (HZ4.out.trans hb); obtain ⟨x0, x1, x2, x3, x4, x5, x6, x7, x8, x9, x10, x11⟩ := HNW.out _ HB4.out; simp only at x0 x1 x2 x3 x4 x5 x6 x7 x8 x9 x10 x11; obtain ⟨oa4, oc4, rfl⟩ := own_shape hown; clear hown hb)
     go_wp2_with fail
     refine (plain1 w4 (HM.out _ HB4.out) sLIMIT (by decide) w4.heap.size rfl).mono ?_
     rintro e5 y5 ⟨v5, rfl, h1, h2⟩
     have HR5 := hid (Rd.own h1)
     have HY5 := hid (own_below HO4.out h2)
     have HZ5 := hid (HB4.out.trans (h2.mono HB4.out.size))
     have hz5 := HZ5.out.size
     clear h1 h2 HO4 HB4 x0 x1 x2 x3 x4 x5 x6 x7 x8 x9 x10 x11
     go_wp2_with (first | (at_builtin; refine aptk y5 L4 [ptk sLIMIT] n4q HN4 rfl _ _ rfl HY5.out HR5.out hz5 (by omega) (by simp) rfl rfl ?_; intro u5 w5 L5 n5q HL5 HN5 hle5 hown hb; have hle5 : n5q ≤ n4q + 1 := hle5; have HO5 := hid hown; have HB5 := hid (HZ5.out.trans hb); obtain ⟨x0, x1, x2, x3, x4, x5, x6, x7, x8, x9, x10, x11⟩ := HNW.out _ HB5.out; simp only at x0 x1 x2 x3 x4 x5 x6 x7 x8 x9 x10 x11; obtain ⟨oa5, oc5, rfl⟩ := own_shape hown; clear hown hb) | (at_builtin; refine aptk (w5.alloc (.cells #[.int .i64 2, .string ⟨#[]⟩, .int .i64 lim] 45)) L5 [⟨2, [], lim⟩] n5q HN5 rfl _ _ rfl (HO5.out.alloc _) (rd_tk1 w5 2 lim ⟨#[]⟩ _ rfl) (by have := HB5.out.size; simp; omega) (by omega) (by simp) rfl rfl ?_; intro u6 w6 L6 n6q HL6 HN6 hle6 hown hb; have HO6 := hid hown; have HB6 := hid ((HB5.out.alloc HB5.out.size _).trans hb); clear hown hb))
     go_ret
     have HQ : SEL = L6 := by
      rw [HS.out, hoE, hdE, hlE, HL6.out, HL5.out, HL4.out, HL3.out]
      simp [hlim]
     rw [HQ]
     refine ⟨_, rfl, ?_, HB0.out.trans (HB6.out.mono (Nat.le_of_lt HSZ.out))⟩
     rw [← HN6.out]
     exact own_mono HO6.out (Nat.le_of_lt HSZ.out)
    ·go_enter Tryd.func39, Tryd.ntmps39
     go_wp2_with fail
     rw [← HWE.out]
     refine HPS.out.mono ?_
     rintro e0 w1 ⟨v1, rfl, h1, h2⟩
     obtain ⟨L1, hL1⟩ : ∃ L, L = [ptk sSELECT] := ⟨_, rfl⟩
     obtain ⟨n1q, hn1⟩ : ∃ n, n = [ptk sSELECT].length := ⟨_, rfl⟩
     have hle1 : n1q ≤ 1 := by rw [hn1]; exact Nat.le_refl _
     rw [← hn1, ← hL1] at h1
     rw [← hL1] at hn1
     have HL1 := hid hL1
     have HN1 := hid hn1
     have HO1 := hid h1
     have HB1 := hid h2
     obtain ⟨oa1, oc1, rfl⟩ := own_shape h1
     clear hL1 hn1
     obtain ⟨x0, x1, x2, x3, x4, x5, x6, x7, x8, x9, x10, x11⟩ := HNW.out _ HB1.out
     simp only at x0 x1 x2 x3 x4 x5 x6 x7 x8 x9 x10 x11
     clear h1 h2 HPS
     go_wp2_with fail
     refine (plain1 w1 (HM.out _ HB1.out) sStar (by decide) w1.heap.size rfl).mono ?_
     rintro e2 y2 ⟨v2, rfl, h1, h2⟩
     have HR2 := hid (Rd.own h1)
     have HY2 := hid (own_below HO1.out h2)
     have HZ2 := hid (HB1.out.trans (h2.mono HB1.out.size))
     have hz2 := HZ2.out.size
     clear h1 h2 HO1 HB1 x0 x1 x2 x3 x4 x5 x6 x7 x8 x9 x10 x11
     go_wp2_with (at_builtin; refine aptk y2 L1 [ptk sStar] n1q HN1 rfl _ _ rfl HY2.out HR2.out hz2 (by omega) (by simp) rfl rfl ?_; intro u2 w2 L2 n2q HL2 HN2 hle2 hown hb; have hle2 : n2q ≤ n1q + 1 := hle2; have HO2 := hid hown; have HB2 := hid (HZ2.out.trans hb); obtain ⟨x0, x1, x2, x3, x4, x5, x6, x7, x8, x9, x10, x11⟩ := HNW.out _ HB2.out; simp only at x0 x1 x2 x3 x4 x5 x6 x7 x8 x9 x10 x11; obtain ⟨oa2, oc2, rfl⟩ := own_shape hown; clear hown hb)
     change Code.wp _ ((regionOf 6 (Tryd.f39.body.getD .skip)).getD .skip) _ _ _
     have HM6 : Hid (MID = L2 ++ (BT ++ ([ptk sFROM, ptk t] ++ WT))) := by
      show _ = _
      rw [HMI.out, hwE, HL2.out, HL1.out]
      rfl
     refine sel6 _ w2 w.heap.size (Nat.lt_of_lt_of_le HSZ.out HB2.out.size) t oa2 n2q oc2 a4 0 c4 a6 n6 c6 L2 BT WT x4 x1 x6 (Rd.own HO2.out) (plainH _ (HM.out _ HB2.out) [sFROM, t] 2 (by omega) (by omega) (by simp; exact ⟨by decide, ht⟩) [ptk sFROM, ptk t] rfl) (hid fun W hW => HBN.out W (HB2.out.trans (hW.mono HB2.out.size))) (hid fun W hW => HWH.out W (HB2.out.trans (hW.mono HB2.out.size))) (hid (by show _ ≤ _; have := HW6.out; have := HN2.out; simp only [List.length_append, List.length_cons, List.length_nil]; omega)) (hid ?_)
     intro z22 z23 z24 z25 z26 z27 z28 z29 z30 z31 z32 z33 z34 vm w3 h
     rw [← HM6.out] at h
     obtain ⟨n3q, hn3⟩ : ∃ n, n = MID.length := ⟨_, rfl⟩
     have HN3 := hid hn3
     have hle3 : n3q ≤ 300 := by rw [hn3]; exact HMID.out
     have HO3 : Hid (w3.ownsRow W0.heap.size 45 3 vm n3q (tkc MID)) := by rw [hn3]; exact ToksIs.base h HB2.out.size
     obtain ⟨L3, hL3⟩ : ∃ L, L = MID := ⟨_, rfl⟩
     rw [← hL3] at HO3 HN3
     have HL3 := hid hL3
     clear hn3 hL3
     have HB3 : Hid (Below W0.heap.size W0 w3) := by
      obtain ⟨_, _, _, h3⟩ := h
      exact HB2.out.trans (h3.mono HB2.out.size)
     obtain ⟨oa3, oc3, rfl⟩ := own_shape HO3.out
     clear h x0 x1 x2 x3 x4 x5 x6 x7 x8 x9 x10 x11 HM6
     obtain ⟨x0, x1, x2, x3, x4, x5, x6, x7, x8, x9, x10, x11⟩ := HNW.out _ HB3.out
     simp only at x0 x1 x2 x3 x4 x5 x6 x7 x8 x9 x10 x11
     go_wp2_with fail
     refine (plain3 w3 (HM.out _ HB3.out) sORDER sBY ord (by decide) (by decide) hord w3.heap.size rfl).mono ?_
     rintro e4 y4 ⟨v4, rfl, h1, h2⟩
     have HR4 := hid (Rd.own h1)
     have HY4 := hid (own_below HO3.out h2)
     have HZ4 := hid (HB3.out.trans (h2.mono HB3.out.size))
     have hz4 := HZ4.out.size
     clear h1 h2 HO3 HB3 x0 x1 x2 x3 x4 x5 x6 x7 x8 x9 x10 x11
     go_wp2_with (at_builtin; refine aptk y4 L3 [ptk sORDER, ptk sBY, ptk ord] n3q HN3 rfl _ _ rfl HY4.out HR4.out hz4 (by omega) (by simp) rfl rfl ?_; intro u4 w4 L4 n4q HL4 HN4 hle4 hown hb; have hle4 : n4q ≤ n3q + 3 := hle4; have HO4 := hid hown; have HB4 := hid (HZ4.out.trans hb); obtain ⟨x0, x1, x2, x3, x4, x5, x6, x7, x8, x9, x10, x11⟩ := HNW.out _ HB4.out; simp only at x0 x1 x2 x3 x4 x5 x6 x7 x8 x9 x10 x11; obtain ⟨oa4, oc4, rfl⟩ := own_shape hown; clear hown hb)
     go_wp2_with fail
     refine (plain1 w4 (HM.out _ HB4.out) sDESC (by decide) w4.heap.size rfl).mono ?_
     rintro e5 y5 ⟨v5, rfl, h1, h2⟩
     have HR5 := hid (Rd.own h1)
     have HY5 := hid (own_below HO4.out h2)
     have HZ5 := hid (HB4.out.trans (h2.mono HB4.out.size))
     have hz5 := HZ5.out.size
     clear h1 h2 HO4 HB4 x0 x1 x2 x3 x4 x5 x6 x7 x8 x9 x10 x11
     go_wp2_with (at_builtin; refine aptk y5 L4 [ptk sDESC] n4q HN4 rfl _ _ rfl HY5.out HR5.out hz5 (by omega) (by simp) rfl rfl ?_; intro u5 w5 L5 n5q HL5 HN5 hle5 hown hb; have hle5 : n5q ≤ n4q + 1 := hle5; have HO5 := hid hown; have HB5 := hid (HZ5.out.trans hb); obtain ⟨x0, x1, x2, x3, x4, x5, x6, x7, x8, x9, x10, x11⟩ := HNW.out _ HB5.out; simp only at x0 x1 x2 x3 x4 x5 x6 x7 x8 x9 x10 x11; obtain ⟨oa5, oc5, rfl⟩ := own_shape hown; clear hown hb)
     go_wp2_with fail
     refine (plain1 w5 (HM.out _ HB5.out) sLIMIT (by decide) w5.heap.size rfl).mono ?_
     rintro e6 y6 ⟨v6, rfl, h1, h2⟩
     have HR6 := hid (Rd.own h1)
     have HY6 := hid (own_below HO5.out h2)
     have HZ6 := hid (HB5.out.trans (h2.mono HB5.out.size))
     have hz6 := HZ6.out.size
     clear h1 h2 HO5 HB5 x0 x1 x2 x3 x4 x5 x6 x7 x8 x9 x10 x11
     go_wp2_with (first | (at_builtin; refine aptk y6 L5 [ptk sLIMIT] n5q HN5 rfl _ _ rfl HY6.out HR6.out hz6 (by omega) (by simp) rfl rfl ?_; intro u6 w6 L6 n6q HL6 HN6 hle6 hown hb; have hle6 : n6q ≤ n5q + 1 := hle6; have HO6 := hid hown; have HB6 := hid (HZ6.out.trans hb); obtain ⟨x0, x1, x2, x3, x4, x5, x6, x7, x8, x9, x10, x11⟩ := HNW.out _ HB6.out; simp only at x0 x1 x2 x3 x4 x5 x6 x7 x8 x9 x10 x11; obtain ⟨oa6, oc6, rfl⟩ := own_shape hown; clear hown hb) | (at_builtin; refine aptk (w6.alloc (.cells #[.int .i64 2, .string ⟨#[]⟩, .int .i64 lim] 45)) L6 [⟨2, [], lim⟩] n6q HN6 rfl _ _ rfl (HO6.out.alloc _) (rd_tk1 w6 2 lim ⟨#[]⟩ _ rfl) (by have := HB6.out.size; simp; omega) (by omega) (by simp) rfl rfl ?_; intro u7 w7 L7 n7q HL7 HN7 hle7 hown hb; have HO7 := hid hown; have HB7 := hid ((HB6.out.alloc HB6.out.size _).trans hb); clear hown hb))
     go_ret
     have HQ : SEL = L7 := by
      rw [HS.out, hoE, hdE, hlE, HL7.out, HL6.out, HL5.out, HL4.out, HL3.out]
      simp [hlim]
     rw [HQ]
     refine ⟨_, rfl, ?_, HB0.out.trans (HB7.out.mono (Nat.le_of_lt HSZ.out))⟩
     rw [← HN7.out]
     exact own_mono HO7.out (Nat.le_of_lt HSZ.out)
   ·cases dn
    ·go_enter Tryd.func39, Tryd.ntmps39
     go_wp2_with fail
     rw [← HWE.out]
     refine HPS.out.mono ?_
     rintro e0 w1 ⟨v1, rfl, h1, h2⟩
     obtain ⟨L1, hL1⟩ : ∃ L, L = [ptk sSELECT] := ⟨_, rfl⟩
     obtain ⟨n1q, hn1⟩ : ∃ n, n = [ptk sSELECT].length := ⟨_, rfl⟩
     have hle1 : n1q ≤ 1 := by rw [hn1]; exact Nat.le_refl _
     rw [← hn1, ← hL1] at h1
     rw [← hL1] at hn1
     have HL1 := hid hL1
     have HN1 := hid hn1
     have HO1 := hid h1
     have HB1 := hid h2
     obtain ⟨oa1, oc1, rfl⟩ := own_shape h1
     clear hL1 hn1
     obtain ⟨x0, x1, x2, x3, x4, x5, x6, x7, x8, x9, x10, x11⟩ := HNW.out _ HB1.out
     simp only at x0 x1 x2 x3 x4 x5 x6 x7 x8 x9 x10 x11
     clear h1 h2 HPS
     go_wp2_with fail
     refine (plain1 w1 (HM.out _ HB1.out) sStar (by decide) w1.heap.size rfl).mono ?_
     rintro e2 y2 ⟨v2, rfl, h1, h2⟩
     have HR2 := hid (Rd.own h1)
     have HY2 := hid (own_below HO1.out h2)
     have HZ2 := hid (HB1.out.trans (h2.mono HB1.out.size))
     have hz2 := HZ2.out.size
     clear h1 h2 HO1 HB1 x0 x1 x2 x3 x4 x5 x6 x7 x8 x9 x10 x11
     go_wp2_with (at_builtin; refine aptk y2 L1 [ptk sStar] n1q HN1 rfl _ _ rfl HY2.out HR2.out hz2 (by omega) (by simp) rfl rfl ?_; intro u2 w2 L2 n2q HL2 HN2 hle2 hown hb; have hle2 : n2q ≤ n1q + 1 := hle2; have HO2 := hid hown; have HB2 := hid (HZ2.out.trans hb); obtain ⟨x0, x1, x2, x3, x4, x5, x6, x7, x8, x9, x10, x11⟩ := HNW.out _ HB2.out; simp only at x0 x1 x2 x3 x4 x5 x6 x7 x8 x9 x10 x11; obtain ⟨oa2, oc2, rfl⟩ := own_shape hown; clear hown hb)
     change Code.wp _ ((regionOf 6 (Tryd.f39.body.getD .skip)).getD .skip) _ _ _
     have HM6 : Hid (MID = L2 ++ (BT ++ ([ptk sFROM, ptk t] ++ WT))) := by
      show _ = _
      rw [HMI.out, hwE, HL2.out, HL1.out]
      rfl
     refine sel6 _ w2 w.heap.size (Nat.lt_of_lt_of_le HSZ.out HB2.out.size) t oa2 n2q oc2 a4 0 c4 a6 n6 c6 L2 BT WT x4 x1 x6 (Rd.own HO2.out) (plainH _ (HM.out _ HB2.out) [sFROM, t] 2 (by omega) (by omega) (by simp; exact ⟨by decide, ht⟩) [ptk sFROM, ptk t] rfl) (hid fun W hW => HBN.out W (HB2.out.trans (hW.mono HB2.out.size))) (hid fun W hW => HWH.out W (HB2.out.trans (hW.mono HB2.out.size))) (hid (by show _ ≤ _; have := HW6.out; have := HN2.out; simp only [List.length_append, List.length_cons, List.length_nil]; omega)) (hid ?_)
     intro z22 z23 z24 z25 z26 z27 z28 z29 z30 z31 z32 z33 z34 vm w3 h
     rw [← HM6.out] at h
     obtain ⟨n3q, hn3⟩ : ∃ n, n = MID.length := ⟨_, rfl⟩
     have HN3 := hid hn3
     have hle3 : n3q ≤ 300 := by rw [hn3]; exact HMID.out
     have HO3 : Hid (w3.ownsRow W0.heap.size 45 3 vm n3q (tkc MID)) := by rw [hn3]; exact ToksIs.base h HB2.out.size
     obtain ⟨L3, hL3⟩ : ∃ L, L = MID := ⟨_, rfl⟩
     rw [← hL3] at HO3 HN3
     have HL3 := hid hL3
     clear hn3 hL3
     have HB3 : Hid (Below W0.heap.size W0 w3) := by
      obtain ⟨_, _, _, h3⟩ := h
      exact HB2.out.trans (h3.mono HB2.out.size)
     obtain ⟨oa3, oc3, rfl⟩ := own_shape HO3.out
     clear h x0 x1 x2 x3 x4 x5 x6 x7 x8 x9 x10 x11 HM6
     obtain ⟨x0, x1, x2, x3, x4, x5, x6, x7, x8, x9, x10, x11⟩ := HNW.out _ HB3.out
     simp only at x0 x1 x2 x3 x4 x5 x6 x7 x8 x9 x10 x11
     go_wp2_with fail
     refine (plain1 w3 (HM.out _ HB3.out) sLIMIT (by decide) w3.heap.size rfl).mono ?_
     rintro e4 y4 ⟨v4, rfl, h1, h2⟩
     have HR4 := hid (Rd.own h1)
     have HY4 := hid (own_below HO3.out h2)
     have HZ4 := hid (HB3.out.trans (h2.mono HB3.out.size))
     have hz4 := HZ4.out.size
     clear h1 h2 HO3 HB3 x0 x1 x2 x3 x4 x5 x6 x7 x8 x9 x10 x11
     go_wp2_with (first | (at_builtin; refine aptk y4 L3 [ptk sLIMIT] n3q HN3 rfl _ _ rfl HY4.out HR4.out hz4 (by omega) (by simp) rfl rfl ?_; intro u4 w4 L4 n4q HL4 HN4 hle4 hown hb; have hle4 : n4q ≤ n3q + 1 := hle4; have HO4 := hid hown; have HB4 := hid (HZ4.out.trans hb); obtain ⟨x0, x1, x2, x3, x4, x5, x6, x7, x8, x9, x10, x11⟩ := HNW.out _ HB4.out; simp only at x0 x1 x2 x3 x4 x5 x6 x7 x8 x9 x10 x11; obtain ⟨oa4, oc4, rfl⟩ := own_shape hown; clear hown hb) | (at_builtin; refine aptk (w4.alloc (.cells #[.int .i64 2, .string ⟨#[]⟩, .int .i64 lim] 45)) L4 [⟨2, [], lim⟩] n4q HN4 rfl _ _ rfl (HO4.out.alloc _) (rd_tk1 w4 2 lim ⟨#[]⟩ _ rfl) (by have := HB4.out.size; simp; omega) (by omega) (by simp) rfl rfl ?_; intro u5 w5 L5 n5q HL5 HN5 hle5 hown hb; have HO5 := hid hown; have HB5 := hid ((HB4.out.alloc HB4.out.size _).trans hb); clear hown hb))
     go_ret
     have HQ : SEL = L5 := by
      rw [HS.out, hoE, hdE, hlE, HL5.out, HL4.out, HL3.out]
      simp [hlim]
     rw [HQ]
     refine ⟨_, rfl, ?_, HB0.out.trans (HB5.out.mono (Nat.le_of_lt HSZ.out))⟩
     rw [← HN5.out]
     exact own_mono HO5.out (Nat.le_of_lt HSZ.out)
    ·go_enter Tryd.func39, Tryd.ntmps39
     go_wp2_with fail
     rw [← HWE.out]
     refine HPS.out.mono ?_
     rintro e0 w1 ⟨v1, rfl, h1, h2⟩
     obtain ⟨L1, hL1⟩ : ∃ L, L = [ptk sSELECT] := ⟨_, rfl⟩
     obtain ⟨n1q, hn1⟩ : ∃ n, n = [ptk sSELECT].length := ⟨_, rfl⟩
     have hle1 : n1q ≤ 1 := by rw [hn1]; exact Nat.le_refl _
     rw [← hn1, ← hL1] at h1
     rw [← hL1] at hn1
     have HL1 := hid hL1
     have HN1 := hid hn1
     have HO1 := hid h1
     have HB1 := hid h2
     obtain ⟨oa1, oc1, rfl⟩ := own_shape h1
     clear hL1 hn1
     obtain ⟨x0, x1, x2, x3, x4, x5, x6, x7, x8, x9, x10, x11⟩ := HNW.out _ HB1.out
     simp only at x0 x1 x2 x3 x4 x5 x6 x7 x8 x9 x10 x11
     clear h1 h2 HPS
     go_wp2_with fail
     refine (plain1 w1 (HM.out _ HB1.out) sStar (by decide) w1.heap.size rfl).mono ?_
     rintro e2 y2 ⟨v2, rfl, h1, h2⟩
     have HR2 := hid (Rd.own h1)
     have HY2 := hid (own_below HO1.out h2)
     have HZ2 := hid (HB1.out.trans (h2.mono HB1.out.size))
     have hz2 := HZ2.out.size
     clear h1 h2 HO1 HB1 x0 x1 x2 x3 x4 x5 x6 x7 x8 x9 x10 x11
     go_wp2_with (at_builtin; refine aptk y2 L1 [ptk sStar] n1q HN1 rfl _ _ rfl HY2.out HR2.out hz2 (by omega) (by simp) rfl rfl ?_; intro u2 w2 L2 n2q HL2 HN2 hle2 hown hb; have hle2 : n2q ≤ n1q + 1 := hle2; have HO2 := hid hown; have HB2 := hid (HZ2.out.trans hb); obtain ⟨x0, x1, x2, x3, x4, x5, x6, x7, x8, x9, x10, x11⟩ := HNW.out _ HB2.out; simp only at x0 x1 x2 x3 x4 x5 x6 x7 x8 x9 x10 x11; obtain ⟨oa2, oc2, rfl⟩ := own_shape hown; clear hown hb)
     change Code.wp _ ((regionOf 6 (Tryd.f39.body.getD .skip)).getD .skip) _ _ _
     have HM6 : Hid (MID = L2 ++ (BT ++ ([ptk sFROM, ptk t] ++ WT))) := by
      show _ = _
      rw [HMI.out, hwE, HL2.out, HL1.out]
      rfl
     refine sel6 _ w2 w.heap.size (Nat.lt_of_lt_of_le HSZ.out HB2.out.size) t oa2 n2q oc2 a4 0 c4 a6 n6 c6 L2 BT WT x4 x1 x6 (Rd.own HO2.out) (plainH _ (HM.out _ HB2.out) [sFROM, t] 2 (by omega) (by omega) (by simp; exact ⟨by decide, ht⟩) [ptk sFROM, ptk t] rfl) (hid fun W hW => HBN.out W (HB2.out.trans (hW.mono HB2.out.size))) (hid fun W hW => HWH.out W (HB2.out.trans (hW.mono HB2.out.size))) (hid (by show _ ≤ _; have := HW6.out; have := HN2.out; simp only [List.length_append, List.length_cons, List.length_nil]; omega)) (hid ?_)
     intro z22 z23 z24 z25 z26 z27 z28 z29 z30 z31 z32 z33 z34 vm w3 h
     rw [← HM6.out] at h
     obtain ⟨n3q, hn3⟩ : ∃ n, n = MID.length := ⟨_, rfl⟩
     have HN3 := hid hn3
     have hle3 : n3q ≤ 300 := by rw [hn3]; exact HMID.out
     have HO3 : Hid (w3.ownsRow W0.heap.size 45 3 vm n3q (tkc MID)) := by rw [hn3]; exact ToksIs.base h HB2.out.size
     obtain ⟨L3, hL3⟩ : ∃ L, L = MID := ⟨_, rfl⟩
     rw [← hL3] at HO3 HN3
     have HL3 := hid hL3
     clear hn3 hL3
     have HB3 : Hid (Below W0.heap.size W0 w3) := by
      obtain ⟨_, _, _, h3⟩ := h
      exact HB2.out.trans (h3.mono HB2.out.size)
     obtain ⟨oa3, oc3, rfl⟩ := own_shape HO3.out
     clear h x0 x1 x2 x3 x4 x5 x6 x7 x8 x9 x10 x11 HM6
     obtain ⟨x0, x1, x2, x3, x4, x5, x6, x7, x8, x9, x10, x11⟩ := HNW.out _ HB3.out
     simp only at x0 x1 x2 x3 x4 x5 x6 x7 x8 x9 x10 x11
     go_wp2_with fail
     refine (plain1 w3 (HM.out _ HB3.out) sDESC (by decide) w3.heap.size rfl).mono ?_
     rintro e4 y4 ⟨v4, rfl, h1, h2⟩
     have HR4 := hid (Rd.own h1)
     have HY4 := hid (own_below HO3.out h2)
     have HZ4 := hid (HB3.out.trans (h2.mono HB3.out.size))
     have hz4 := HZ4.out.size
     clear h1 h2 HO3 HB3 x0 x1 x2 x3 x4 x5 x6 x7 x8 x9 x10 x11
     go_wp2_with (at_builtin; refine aptk y4 L3 [ptk sDESC] n3q HN3 rfl _ _ rfl HY4.out HR4.out hz4 (by omega) (by simp) rfl rfl ?_; intro u4 w4 L4 n4q HL4 HN4 hle4 hown hb; have hle4 : n4q ≤ n3q + 1 := hle4; have HO4 := hid hown; have HB4 := hid (HZ4.out.trans hb); obtain ⟨x0, x1, x2, x3, x4, x5, x6, x7, x8, x9, x10, x11⟩ := HNW.out _ HB4.out; simp only at x0 x1 x2 x3 x4 x5 x6 x7 x8 x9 x10 x11; obtain ⟨oa4, oc4, rfl⟩ := own_shape hown; clear hown hb)
     go_wp2_with fail
     refine (plain1 w4 (HM.out _ HB4.out) sLIMIT (by decide) w4.heap.size rfl).mono ?_
     rintro e5 y5 ⟨v5, rfl, h1, h2⟩
     have HR5 := hid (Rd.own h1)
     have HY5 := hid (own_below HO4.out h2)
     have HZ5 := hid (HB4.out.trans (h2.mono HB4.out.size))
     have hz5 := HZ5.out.size
     clear h1 h2 HO4 HB4 x0 x1 x2 x3 x4 x5 x6 x7 x8 x9 x10 x11
     go_wp2_with (first | (at_builtin; refine aptk y5 L4 [ptk sLIMIT] n4q HN4 rfl _ _ rfl HY5.out HR5.out hz5 (by omega) (by simp) rfl rfl ?_; intro u5 w5 L5 n5q HL5 HN5 hle5 hown hb; have hle5 : n5q ≤ n4q + 1 := hle5; have HO5 := hid hown; have HB5 := hid (HZ5.out.trans hb); obtain ⟨x0, x1, x2, x3, x4, x5, x6, x7, x8, x9, x10, x11⟩ := HNW.out _ HB5.out; simp only at x0 x1 x2 x3 x4 x5 x6 x7 x8 x9 x10 x11; obtain ⟨oa5, oc5, rfl⟩ := own_shape hown; clear hown hb) | (at_builtin; refine aptk (w5.alloc (.cells #[.int .i64 2, .string ⟨#[]⟩, .int .i64 lim] 45)) L5 [⟨2, [], lim⟩] n5q HN5 rfl _ _ rfl (HO5.out.alloc _) (rd_tk1 w5 2 lim ⟨#[]⟩ _ rfl) (by have := HB5.out.size; simp; omega) (by omega) (by simp) rfl rfl ?_; intro u6 w6 L6 n6q HL6 HN6 hle6 hown hb; have HO6 := hid hown; have HB6 := hid ((HB5.out.alloc HB5.out.size _).trans hb); clear hown hb))
     go_ret
     have HQ : SEL = L6 := by
      rw [HS.out, hoE, hdE, hlE, HL6.out, HL5.out, HL4.out, HL3.out]
      simp [hlim]
     rw [HQ]
     refine ⟨_, rfl, ?_, HB0.out.trans (HB6.out.mono (Nat.le_of_lt HSZ.out))⟩
     rw [← HN6.out]
     exact own_mono HO6.out (Nat.le_of_lt HSZ.out)
  ·have hz0 := trivial
   cases e
   ·cases dn
    ·go_enter Tryd.func39, Tryd.ntmps39
     go_wp2_with fail
     rw [← HWE.out]
     refine HPS.out.mono ?_
     rintro e0 w1 ⟨v1, rfl, h1, h2⟩
     obtain ⟨L1, hL1⟩ : ∃ L, L = [ptk sSELECT] := ⟨_, rfl⟩
     obtain ⟨n1q, hn1⟩ : ∃ n, n = [ptk sSELECT].length := ⟨_, rfl⟩
     have hle1 : n1q ≤ 1 := by rw [hn1]; exact Nat.le_refl _
     rw [← hn1, ← hL1] at h1
     rw [← hL1] at hn1
     have HL1 := hid hL1
     have HN1 := hid hn1
     have HO1 := hid h1
     have HB1 := hid h2
     obtain ⟨oa1, oc1, rfl⟩ := own_shape h1
     clear hL1 hn1
     obtain ⟨x0, x1, x2, x3, x4, x5, x6, x7, x8, x9, x10, x11⟩ := HNW.out _ HB1.out
     simp only at x0 x1 x2 x3 x4 x5 x6 x7 x8 x9 x10 x11
     clear h1 h2 HPS
     go_wp2_with fail
     change Code.wp _ ((regionOf 6 (Tryd.f39.body.getD .skip)).getD .skip) _ _ _
     have HM6 : Hid (MID = L1 ++ (BT ++ ([ptk sFROM, ptk t] ++ WT))) := by
      show _ = _
      rw [HMI.out, hwE, HL1.out]
      rw [if_neg (by simp), if_neg h0]
      rfl
     refine sel6 _ w1 w.heap.size (Nat.lt_of_lt_of_le HSZ.out HB1.out.size) t oa1 n1q oc1 a4 n4 c4 a6 n6 c6 L1 BT WT x4 x1 x6 (Rd.own HO1.out) (plainH _ (HM.out _ HB1.out) [sFROM, t] 2 (by omega) (by omega) (by simp; exact ⟨by decide, ht⟩) [ptk sFROM, ptk t] rfl) (hid fun W hW => HBN.out W (HB1.out.trans (hW.mono HB1.out.size))) (hid fun W hW => HWH.out W (HB1.out.trans (hW.mono HB1.out.size))) (hid (by show _ ≤ _; have := HW6.out; have := HN1.out; simp only [List.length_append, List.length_cons, List.length_nil]; omega)) (hid ?_)
     intro z22 z23 z24 z25 z26 z27 z28 z29 z30 z31 z32 z33 z34 vm w3 h
     rw [← HM6.out] at h
     obtain ⟨n3q, hn3⟩ : ∃ n, n = MID.length := ⟨_, rfl⟩
     have HN3 := hid hn3
     have hle3 : n3q ≤ 300 := by rw [hn3]; exact HMID.out
     have HO3 : Hid (w3.ownsRow W0.heap.size 45 3 vm n3q (tkc MID)) := by rw [hn3]; exact ToksIs.base h HB1.out.size
     obtain ⟨L3, hL3⟩ : ∃ L, L = MID := ⟨_, rfl⟩
     rw [← hL3] at HO3 HN3
     have HL3 := hid hL3
     clear hn3 hL3
     have HB3 : Hid (Below W0.heap.size W0 w3) := by
      obtain ⟨_, _, _, h3⟩ := h
      exact HB1.out.trans (h3.mono HB1.out.size)
     obtain ⟨oa3, oc3, rfl⟩ := own_shape HO3.out
     clear h x0 x1 x2 x3 x4 x5 x6 x7 x8 x9 x10 x11 HM6
     obtain ⟨x0, x1, x2, x3, x4, x5, x6, x7, x8, x9, x10, x11⟩ := HNW.out _ HB3.out
     simp only at x0 x1 x2 x3 x4 x5 x6 x7 x8 x9 x10 x11
     go_wp2_with fail
     refine (plain3 w3 (HM.out _ HB3.out) sORDER sBY ord (by decide) (by decide) hord w3.heap.size rfl).mono ?_
     rintro e4 y4 ⟨v4, rfl, h1, h2⟩
     have HR4 := hid (Rd.own h1)
     have HY4 := hid (own_below HO3.out h2)
     have HZ4 := hid (HB3.out.trans (h2.mono HB3.out.size))
     have hz4 := HZ4.out.size
     clear h1 h2 HO3 HB3 x0 x1 x2 x3 x4 x5 x6 x7 x8 x9 x10 x11
     go_wp2_with (at_builtin; refine aptk y4 L3 [ptk sORDER, ptk sBY, ptk ord] n3q HN3 rfl _ _ rfl HY4.out HR4.out hz4 (by omega) (by simp) rfl rfl ?_; intro u4 w4 L4 n4q HL4 HN4 hle4 hown hb; have hle4 : n4q ≤ n3q + 3 := hle4; have HO4 := hid hown; have HB4 := hid (HZ4.out.trans hb); obtain ⟨x0, x1, x2, x3, x4, x5, x6, x7, x8, x9, x10, x11⟩ := HNW.out _ HB4.out; simp only at x0 x1 x2 x3 x4 x5 x6 x7 x8 x9 x10 x11; obtain ⟨oa4, oc4, rfl⟩ := own_shape hown; clear hown hb)
     go_wp2_with fail
     refine (plain1 w4 (HM.out _ HB4.out) sLIMIT (by decide) w4.heap.size rfl).mono ?_
     rintro e5 y5 ⟨v5, rfl, h1, h2⟩
     have HR5 := hid (Rd.own h1)
     have HY5 := hid (own_below HO4.out h2)
     have HZ5 := hid (HB4.out.trans (h2.mono HB4.out.size))
     have hz5 := HZ5.out.size
     clear h1 h2 HO4 HB4 x0 x1 x2 x3 x4 x5 x6 x7 x8 x9 x10 x11
     go_wp2_with (first | (at_builtin; refine aptk y5 L4 [ptk sLIMIT] n4q HN4 rfl _ _ rfl HY5.out HR5.out hz5 (by omega) (by simp) rfl rfl ?_; intro u5 w5 L5 n5q HL5 HN5 hle5 hown hb; have hle5 : n5q ≤ n4q + 1 := hle5; have HO5 := hid hown; have HB5 := hid (HZ5.out.trans hb); obtain ⟨x0, x1, x2, x3, x4, x5, x6, x7, x8, x9, x10, x11⟩ := HNW.out _ HB5.out; simp only at x0 x1 x2 x3 x4 x5 x6 x7 x8 x9 x10 x11; obtain ⟨oa5, oc5, rfl⟩ := own_shape hown; clear hown hb) | (at_builtin; refine aptk (w5.alloc (.cells #[.int .i64 2, .string ⟨#[]⟩, .int .i64 lim] 45)) L5 [⟨2, [], lim⟩] n5q HN5 rfl _ _ rfl (HO5.out.alloc _) (rd_tk1 w5 2 lim ⟨#[]⟩ _ rfl) (by have := HB5.out.size; simp; omega) (by omega) (by simp) rfl rfl ?_; intro u6 w6 L6 n6q HL6 HN6 hle6 hown hb; have HO6 := hid hown; have HB6 := hid ((HB5.out.alloc HB5.out.size _).trans hb); clear hown hb))
     go_ret
     have HQ : SEL = L6 := by
      rw [HS.out, hoE, hdE, hlE, HL6.out, HL5.out, HL4.out, HL3.out]
      simp [hlim]
     rw [HQ]
     refine ⟨_, rfl, ?_, HB0.out.trans (HB6.out.mono (Nat.le_of_lt HSZ.out))⟩
     rw [← HN6.out]
     exact own_mono HO6.out (Nat.le_of_lt HSZ.out)
    ·go_enter Tryd.func39, Tryd.ntmps39
     go_wp2_with fail
     rw [← HWE.out]
     refine HPS.out.mono ?_
     rintro e0 w1 ⟨v1, rfl, h1, h2⟩
     obtain ⟨L1, hL1⟩ : ∃ L, L = [ptk sSELECT] := ⟨_, rfl⟩
     obtain ⟨n1q, hn1⟩ : ∃ n, n = [ptk sSELECT].length := ⟨_, rfl⟩
     have hle1 : n1q ≤ 1 := by rw [hn1]; exact Nat.le_refl _
     rw [← hn1, ← hL1] at h1
     rw [← hL1] at hn1
     have HL1 := hid hL1
     have HN1 := hid hn1
     have HO1 := hid h1
     have HB1 := hid h2
     obtain ⟨oa1, oc1, rfl⟩ := own_shape h1
     clear hL1 hn1
     obtain ⟨x0, x1, x2, x3, x4, x5, x6, x7, x8, x9, x10, x11⟩ := HNW.out _ HB1.out
     simp only at x0 x1 x2 x3 x4 x5 x6 x7 x8 x9 x10 x11
     clear h1 h2 HPS
     go_wp2_with fail
     change Code.wp _ ((regionOf 6 (Tryd.f39.body.getD .skip)).getD .skip) _ _ _
     have HM6 : Hid (MID = L1 ++ (BT ++ ([ptk sFROM, ptk t] ++ WT))) := by
      show _ = _
      rw [HMI.out, hwE, HL1.out]
      rw [if_neg (by simp), if_neg h0]
      rfl
     refine sel6 _ w1 w.heap.size (Nat.lt_of_lt_of_le HSZ.out HB1.out.size) t oa1 n1q oc1 a4 n4 c4 a6 n6 c6 L1 BT WT x4 x1 x6 (Rd.own HO1.out) (plainH _ (HM.out _ HB1.out) [sFROM, t] 2 (by omega) (by omega) (by simp; exact ⟨by decide, ht⟩) [ptk sFROM, ptk t] rfl) (hid fun W hW => HBN.out W (HB1.out.trans (hW.mono HB1.out.size))) (hid fun W hW => HWH.out W (HB1.out.trans (hW.mono HB1.out.size))) (hid (by show _ ≤ _; have := HW6.out; have := HN1.out; simp only [List.length_append, List.length_cons, List.length_nil]; omega)) (hid ?_)
     intro z22 z23 z24 z25 z26 z27 z28 z29 z30 z31 z32 z33 z34 vm w3 h
     rw [← HM6.out] at h
     obtain ⟨n3q, hn3⟩ : ∃ n, n = MID.length := ⟨_, rfl⟩
     have HN3 := hid hn3
     have hle3 : n3q ≤ 300 := by rw [hn3]; exact HMID.out
     have HO3 : Hid (w3.ownsRow W0.heap.size 45 3 vm n3q (tkc MID)) := by rw [hn3]; exact ToksIs.base h HB1.out.size
     obtain ⟨L3, hL3⟩ : ∃ L, L = MID := ⟨_, rfl⟩
     rw [← hL3] at HO3 HN3
     have HL3 := hid hL3
     clear hn3 hL3
     have HB3 : Hid (Below W0.heap.size W0 w3) := by
      obtain ⟨_, _, _, h3⟩ := h
      exact HB1.out.trans (h3.mono HB1.out.size)
     obtain ⟨oa3, oc3, rfl⟩ := own_shape HO3.out
     clear h x0 x1 x2 x3 x4 x5 x6 x7 x8 x9 x10 x11 HM6
     obtain ⟨x0, x1, x2, x3, x4, x5, x6, x7, x8, x9, x10, x11⟩ := HNW.out _ HB3.out
     simp only at x0 x1 x2 x3 x4 x5 x6 x7 x8 x9 x10 x11
     go_wp2_with fail
     refine (plain3 w3 (HM.out _ HB3.out) sORDER sBY ord (by decide) (by decide) hord w3.heap.size rfl).mono ?_
     rintro e4 y4 ⟨v4, rfl, h1, h2⟩
     have HR4 := hid (Rd.own h1)
     have HY4 := hid (own_below HO3.out h2)
     have HZ4 := hid (HB3.out.trans (h2.mono HB3.out.size))
     have hz4 := HZ4.out.size
     clear h1 h2 HO3 HB3 x0 x1 x2 x3 x4 x5 x6 x7 x8 x9 x10 x11
     go_wp2_with (at_builtin; refine aptk y4 L3 [ptk sORDER, ptk sBY, ptk ord] n3q HN3 rfl _ _ rfl HY4.out HR4.out hz4 (by omega) (by simp) rfl rfl ?_; intro u4 w4 L4 n4q HL4 HN4 hle4 hown hb; have hle4 : n4q ≤ n3q + 3 := hle4; have HO4 := hid hown; have HB4 := hid (HZ4.out.trans hb); obtain ⟨x0, x1, x2, x3, x4, x5, x6, x7, x8, x9, x10, x11⟩ := HNW.out _ HB4.out; simp only at x0 x1 x2 x3 x4 x5 x6 x7 x8 x9 x10 x11; obtain ⟨oa4, oc4, rfl⟩ := own_shape hown; clear hown hb)
     go_wp2_with fail
     refine (plain1 w4 (HM.out _ HB4.out) sDESC (by decide) w4.heap.size rfl).mono ?_
     rintro e5 y5 ⟨v5, rfl, h1, h2⟩
     have HR5 := hid (Rd.own h1)
     have HY5 := hid (own_below HO4.out h2)
     have HZ5 := hid (HB4.out.trans (h2.mono HB4.out.size))
     have hz5 := HZ5.out.size
     clear h1 h2 HO4 HB4 x0 x1 x2 x3 x4 x5 x6 x7 x8 x9 x10 x11
     go_wp2_with (at_builtin; refine aptk y5 L4 [ptk sDESC] n4q HN4 rfl _ _ rfl HY5.out HR5.out hz5 (by omega) (by simp) rfl rfl ?_; intro u5 w5 L5 n5q HL5 HN5 hle5 hown hb; have hle5 : n5q ≤ n4q + 1 := hle5; have HO5 := hid hown; have HB5 := hid (HZ5.out.trans hb); obtain ⟨x0, x1, x2, x3, x4, x5, x6, x7, x8, x9, x10, x11⟩ := HNW.out _ HB5.out; simp only at x0 x1 x2 x3 x4 x5 x6 x7 x8 x9 x10 x11; obtain ⟨oa5, oc5, rfl⟩ := own_shape hown; clear hown hb)
     go_wp2_with fail
     refine (plain1 w5 (HM.out _ HB5.out) sLIMIT (by decide) w5.heap.size rfl).mono ?_
     rintro e6 y6 ⟨v6, rfl, h1, h2⟩
     have HR6 := hid (Rd.own h1)
     have HY6 := hid (own_below HO5.out h2)
     have HZ6 := hid (HB5.out.trans (h2.mono HB5.out.size))
     have hz6 := HZ6.out.size
     clear h1 h2 HO5 HB5 x0 x1 x2 x3 x4 x5 x6 x7 x8 x9 x10 x11
     go_wp2_with (first | (at_builtin; refine aptk y6 L5 [ptk sLIMIT] n5q HN5 rfl _ _ rfl HY6.out HR6.out hz6 (by omega) (by simp) rfl rfl ?_; intro u6 w6 L6 n6q HL6 HN6 hle6 hown hb; have hle6 : n6q ≤ n5q + 1 := hle6; have HO6 := hid hown; have HB6 := hid (HZ6.out.trans hb); obtain ⟨x0, x1, x2, x3, x4, x5, x6, x7, x8, x9, x10, x11⟩ := HNW.out _ HB6.out; simp only at x0 x1 x2 x3 x4 x5 x6 x7 x8 x9 x10 x11; obtain ⟨oa6, oc6, rfl⟩ := own_shape hown; clear hown hb) | (at_builtin; refine aptk (w6.alloc (.cells #[.int .i64 2, .string ⟨#[]⟩, .int .i64 lim] 45)) L6 [⟨2, [], lim⟩] n6q HN6 rfl _ _ rfl (HO6.out.alloc _) (rd_tk1 w6 2 lim ⟨#[]⟩ _ rfl) (by have := HB6.out.size; simp; omega) (by omega) (by simp) rfl rfl ?_; intro u7 w7 L7 n7q HL7 HN7 hle7 hown hb; have HO7 := hid hown; have HB7 := hid ((HB6.out.alloc HB6.out.size _).trans hb); clear hown hb))
     go_ret
     have HQ : SEL = L7 := by
      rw [HS.out, hoE, hdE, hlE, HL7.out, HL6.out, HL5.out, HL4.out, HL3.out]
      simp [hlim]
     rw [HQ]
     refine ⟨_, rfl, ?_, HB0.out.trans (HB7.out.mono (Nat.le_of_lt HSZ.out))⟩
     rw [← HN7.out]
     exact own_mono HO7.out (Nat.le_of_lt HSZ.out)
   ·cases dn
    ·go_enter Tryd.func39, Tryd.ntmps39
     go_wp2_with fail
     rw [← HWE.out]
     refine HPS.out.mono ?_
     rintro e0 w1 ⟨v1, rfl, h1, h2⟩
     obtain ⟨L1, hL1⟩ : ∃ L, L = [ptk sSELECT] := ⟨_, rfl⟩
     obtain ⟨n1q, hn1⟩ : ∃ n, n = [ptk sSELECT].length := ⟨_, rfl⟩
     have hle1 : n1q ≤ 1 := by rw [hn1]; exact Nat.le_refl _
     rw [← hn1, ← hL1] at h1
     rw [← hL1] at hn1
     have HL1 := hid hL1
     have HN1 := hid hn1
     have HO1 := hid h1
     have HB1 := hid h2
     obtain ⟨oa1, oc1, rfl⟩ := own_shape h1
     clear hL1 hn1
     obtain ⟨x0, x1, x2, x3, x4, x5, x6, x7, x8, x9, x10, x11⟩ := HNW.out _ HB1.out
     simp only at x0 x1 x2 x3 x4 x5 x6 x7 x8 x9 x10 x11
     clear h1 h2 HPS
     go_wp2_with fail
     change Code.wp _ ((regionOf 6 (Tryd.f39.body.getD .skip)).getD .skip) _ _ _
     have HM6 : Hid (MID = L1 ++ (BT ++ ([ptk sFROM, ptk t] ++ WT))) := by
      show _ = _
      rw [HMI.out, hwE, HL1.out]
      rw [if_neg (by simp), if_neg h0]
      rfl
     refine sel6 _ w1 w.heap.size (Nat.lt_of_lt_of_le HSZ.out HB1.out.size) t oa1 n1q oc1 a4 n4 c4 a6 n6 c6 L1 BT WT x4 x1 x6 (Rd.own HO1.out) (plainH _ (HM.out _ HB1.out) [sFROM, t] 2 (by omega) (by omega) (by simp; exact ⟨by decide, ht⟩) [ptk sFROM, ptk t] rfl) (hid fun W hW => HBN.out W (HB1.out.trans (hW.mono HB1.out.size))) (hid fun W hW => HWH.out W (HB1.out.trans (hW.mono HB1.out.size))) (hid (by show _ ≤ _; have := HW6.out; have := HN1.out; simp only [List.length_append, List.length_cons, List.length_nil]; omega)) (hid ?_)
     intro z22 z23 z24 z25 z26 z27 z28 z29 z30 z31 z32 z33 z34 vm w3 h
     rw [← HM6.out] at h
     obtain ⟨n3q, hn3⟩ : ∃ n, n = MID.length := ⟨_, rfl⟩
     have HN3 := hid hn3
     have hle3 : n3q ≤ 300 := by rw [hn3]; exact HMID.out
     have HO3 : Hid (w3.ownsRow W0.heap.size 45 3 vm n3q (tkc MID)) := by rw [hn3]; exact ToksIs.base h HB1.out.size
     obtain ⟨L3, hL3⟩ : ∃ L, L = MID := ⟨_, rfl⟩
     rw [← hL3] at HO3 HN3
     have HL3 := hid hL3
     clear hn3 hL3
     have HB3 : Hid (Below W0.heap.size W0 w3) := by
      obtain ⟨_, _, _, h3⟩ := h
      exact HB1.out.trans (h3.mono HB1.out.size)
     obtain ⟨oa3, oc3, rfl⟩ := own_shape HO3.out
     clear h x0 x1 x2 x3 x4 x5 x6 x7 x8 x9 x10 x11 HM6
     obtain ⟨x0, x1, x2, x3, x4, x5, x6, x7, x8, x9, x10, x11⟩ := HNW.out _ HB3.out
     simp only at x0 x1 x2 x3 x4 x5 x6 x7 x8 x9 x10 x11
     go_wp2_with fail
     refine (plain1 w3 (HM.out _ HB3.out) sLIMIT (by decide) w3.heap.size rfl).mono ?_
     rintro e4 y4 ⟨v4, rfl, h1, h2⟩
     have HR4 := hid (Rd.own h1)
     have HY4 := hid (own_below HO3.out h2)
     have HZ4 := hid (HB3.out.trans (h2.mono HB3.out.size))
     have hz4 := HZ4.out.size
     clear h1 h2 HO3 HB3 x0 x1 x2 x3 x4 x5 x6 x7 x8 x9 x10 x11
     go_wp2_with (first | (at_builtin; refine aptk y4 L3 [ptk sLIMIT] n3q HN3 rfl _ _ rfl HY4.out HR4.out hz4 (by omega) (by simp) rfl rfl ?_; intro u4 w4 L4 n4q HL4 HN4 hle4 hown hb; have hle4 : n4q ≤ n3q + 1 := hle4; have HO4 := hid hown; have HB4 := hid (HZ4.out.trans hb); obtain ⟨x0, x1, x2, x3, x4, x5, x6, x7, x8, x9, x10, x11⟩ := HNW.out _ HB4.out; simp only at x0 x1 x2 x3 x4 x5 x6 x7 x8 x9 x10 x11; obtain ⟨oa4, oc4, rfl⟩ := own_shape hown; clear hown hb) | (at_builtin; refine aptk (w4.alloc (.cells #[.int .i64 2, .string ⟨#[]⟩, .int .i64 lim] 45)) L4 [⟨2, [], lim⟩] n4q HN4 rfl _ _ rfl (HO4.out.alloc _) (rd_tk1 w4 2 lim ⟨#[]⟩ _ rfl) (by have := HB4.out.size; simp; omega) (by omega) (by simp) rfl rfl ?_; intro u5 w5 L5 n5q HL5 HN5 hle5 hown hb; have HO5 := hid hown; have HB5 := hid ((HB4.out.alloc HB4.out.size _).trans hb); clear hown hb))
     go_ret
     have HQ : SEL = L5 := by
      rw [HS.out, hoE, hdE, hlE, HL5.out, HL4.out, HL3.out]
      simp [hlim]
     rw [HQ]
     refine ⟨_, rfl, ?_, HB0.out.trans (HB5.out.mono (Nat.le_of_lt HSZ.out))⟩
     rw [← HN5.out]
     exact own_mono HO5.out (Nat.le_of_lt HSZ.out)
    ·go_enter Tryd.func39, Tryd.ntmps39
     go_wp2_with fail
     rw [← HWE.out]
     refine HPS.out.mono ?_
     rintro e0 w1 ⟨v1, rfl, h1, h2⟩
     obtain ⟨L1, hL1⟩ : ∃ L, L = [ptk sSELECT] := ⟨_, rfl⟩
     obtain ⟨n1q, hn1⟩ : ∃ n, n = [ptk sSELECT].length := ⟨_, rfl⟩
     have hle1 : n1q ≤ 1 := by rw [hn1]; exact Nat.le_refl _
     rw [← hn1, ← hL1] at h1
     rw [← hL1] at hn1
     have HL1 := hid hL1
     have HN1 := hid hn1
     have HO1 := hid h1
     have HB1 := hid h2
     obtain ⟨oa1, oc1, rfl⟩ := own_shape h1
     clear hL1 hn1
     obtain ⟨x0, x1, x2, x3, x4, x5, x6, x7, x8, x9, x10, x11⟩ := HNW.out _ HB1.out
     simp only at x0 x1 x2 x3 x4 x5 x6 x7 x8 x9 x10 x11
     clear h1 h2 HPS
     go_wp2_with fail
     change Code.wp _ ((regionOf 6 (Tryd.f39.body.getD .skip)).getD .skip) _ _ _
     have HM6 : Hid (MID = L1 ++ (BT ++ ([ptk sFROM, ptk t] ++ WT))) := by
      show _ = _
      rw [HMI.out, hwE, HL1.out]
      rw [if_neg (by simp), if_neg h0]
      rfl
     refine sel6 _ w1 w.heap.size (Nat.lt_of_lt_of_le HSZ.out HB1.out.size) t oa1 n1q oc1 a4 n4 c4 a6 n6 c6 L1 BT WT x4 x1 x6 (Rd.own HO1.out) (plainH _ (HM.out _ HB1.out) [sFROM, t] 2 (by omega) (by omega) (by simp; exact ⟨by decide, ht⟩) [ptk sFROM, ptk t] rfl) (hid fun W hW => HBN.out W (HB1.out.trans (hW.mono HB1.out.size))) (hid fun W hW => HWH.out W (HB1.out.trans (hW.mono HB1.out.size))) (hid (by show _ ≤ _; have := HW6.out; have := HN1.out; simp only [List.length_append, List.length_cons, List.length_nil]; omega)) (hid ?_)
     intro z22 z23 z24 z25 z26 z27 z28 z29 z30 z31 z32 z33 z34 vm w3 h
     rw [← HM6.out] at h
     obtain ⟨n3q, hn3⟩ : ∃ n, n = MID.length := ⟨_, rfl⟩
     have HN3 := hid hn3
     have hle3 : n3q ≤ 300 := by rw [hn3]; exact HMID.out
     have HO3 : Hid (w3.ownsRow W0.heap.size 45 3 vm n3q (tkc MID)) := by rw [hn3]; exact ToksIs.base h HB1.out.size
     obtain ⟨L3, hL3⟩ : ∃ L, L = MID := ⟨_, rfl⟩
     rw [← hL3] at HO3 HN3
     have HL3 := hid hL3
     clear hn3 hL3
     have HB3 : Hid (Below W0.heap.size W0 w3) := by
      obtain ⟨_, _, _, h3⟩ := h
      exact HB1.out.trans (h3.mono HB1.out.size)
     obtain ⟨oa3, oc3, rfl⟩ := own_shape HO3.out
     clear h x0 x1 x2 x3 x4 x5 x6 x7 x8 x9 x10 x11 HM6
     obtain ⟨x0, x1, x2, x3, x4, x5, x6, x7, x8, x9, x10, x11⟩ := HNW.out _ HB3.out
     simp only at x0 x1 x2 x3 x4 x5 x6 x7 x8 x9 x10 x11
     go_wp2_with fail
     refine (plain1 w3 (HM.out _ HB3.out) sDESC (by decide) w3.heap.size rfl).mono ?_
     rintro e4 y4 ⟨v4, rfl, h1, h2⟩
     have HR4 := hid (Rd.own h1)
     have HY4 := hid (own_below HO3.out h2)
     have HZ4 := hid (HB3.out.trans (h2.mono HB3.out.size))
     have hz4 := HZ4.out.size
     clear h1 h2 HO3 HB3 x0 x1 x2 x3 x4 x5 x6 x7 x8 x9 x10 x11
     go_wp2_with (at_builtin; refine aptk y4 L3 [ptk sDESC] n3q HN3 rfl _ _ rfl HY4.out HR4.out hz4 (by omega) (by simp) rfl rfl ?_; intro u4 w4 L4 n4q HL4 HN4 hle4 hown hb; have hle4 : n4q ≤ n3q + 1 := hle4; have HO4 := hid hown; have HB4 := hid (HZ4.out.trans hb); obtain ⟨x0, x1, x2, x3, x4, x5, x6, x7, x8, x9, x10, x11⟩ := HNW.out _ HB4.out; simp only at x0 x1 x2 x3 x4 x5 x6 x7 x8 x9 x10 x11; obtain ⟨oa4, oc4, rfl⟩ := own_shape hown; clear hown hb)
     go_wp2_with fail
     refine (plain1 w4 (HM.out _ HB4.out) sLIMIT (by decide) w4.heap.size rfl).mono ?_
     rintro e5 y5 ⟨v5, rfl, h1, h2⟩
     have HR5 := hid (Rd.own h1)
     have HY5 := hid (own_below HO4.out h2)
     have HZ5 := hid (HB4.out.trans (h2.mono HB4.out.size))
     have hz5 := HZ5.out.size
     clear h1 h2 HO4 HB4 x0 x1 x2 x3 x4 x5 x6 x7 x8 x9 x10 x11
     go_wp2_with (first | (at_builtin; refine aptk y5 L4 [ptk sLIMIT] n4q HN4 rfl _ _ rfl HY5.out HR5.out hz5 (by omega) (by simp) rfl rfl ?_; intro u5 w5 L5 n5q HL5 HN5 hle5 hown hb; have hle5 : n5q ≤ n4q + 1 := hle5; have HO5 := hid hown; have HB5 := hid (HZ5.out.trans hb); obtain ⟨x0, x1, x2, x3, x4, x5, x6, x7, x8, x9, x10, x11⟩ := HNW.out _ HB5.out; simp only at x0 x1 x2 x3 x4 x5 x6 x7 x8 x9 x10 x11; obtain ⟨oa5, oc5, rfl⟩ := own_shape hown; clear hown hb) | (at_builtin; refine aptk (w5.alloc (.cells #[.int .i64 2, .string ⟨#[]⟩, .int .i64 lim] 45)) L5 [⟨2, [], lim⟩] n5q HN5 rfl _ _ rfl (HO5.out.alloc _) (rd_tk1 w5 2 lim ⟨#[]⟩ _ rfl) (by have := HB5.out.size; simp; omega) (by omega) (by simp) rfl rfl ?_; intro u6 w6 L6 n6q HL6 HN6 hle6 hown hb; have HO6 := hid hown; have HB6 := hid ((HB5.out.alloc HB5.out.size _).trans hb); clear hown hb))
     go_ret
     have HQ : SEL = L6 := by
      rw [HS.out, hoE, hdE, hlE, HL6.out, HL5.out, HL4.out, HL3.out]
      simp [hlim]
     rw [HQ]
     refine ⟨_, rfl, ?_, HB0.out.trans (HB6.out.mono (Nat.le_of_lt HSZ.out))⟩
     rw [← HN6.out]
     exact own_mono HO6.out (Nat.le_of_lt HSZ.out)
 ·rcases (show cnt = true ∨ (cnt = false ∧ n4 = 0) ∨ (cnt = false ∧ ¬ n4 = 0) by cases cnt <;> simp <;> omega) with rfl | ⟨rfl, rfl⟩ | ⟨rfl, h0⟩
  ·have h4 := hcn rfl
   subst h4
   cases e
   ·cases dn
    ·go_enter Tryd.func39, Tryd.ntmps39
     go_wp2_with fail
     rw [← HWE.out]
     refine HPS.out.mono ?_
     rintro e0 w1 ⟨v1, rfl, h1, h2⟩
     obtain ⟨L1, hL1⟩ : ∃ L, L = [ptk sSELECT] := ⟨_, rfl⟩
     obtain ⟨n1q, hn1⟩ : ∃ n, n = [ptk sSELECT].length := ⟨_, rfl⟩
     have hle1 : n1q ≤ 1 := by rw [hn1]; exact Nat.le_refl _
     rw [← hn1, ← hL1] at h1
     rw [← hL1] at hn1
     have HL1 := hid hL1
     have HN1 := hid hn1
     have HO1 := hid h1
     have HB1 := hid h2
     obtain ⟨oa1, oc1, rfl⟩ := own_shape h1
     clear hL1 hn1
     obtain ⟨x0, x1, x2, x3, x4, x5, x6, x7, x8, x9, x10, x11⟩ := HNW.out _ HB1.out
     simp only at x0 x1 x2 x3 x4 x5 x6 x7 x8 x9 x10 x11
     clear h1 h2 HPS
     go_wp2_with fail
     refine (plain4 w1 (HM.out _ HB1.out) sCOUNT sOpen sStar sClose (by decide) (by decide) (by decide) (by decide) w1.heap.size rfl).mono ?_
     rintro e2 y2 ⟨v2, rfl, h1, h2⟩
     have HR2 := hid (Rd.own h1)
     have HY2 := hid (own_below HO1.out h2)
     have HZ2 := hid (HB1.out.trans (h2.mono HB1.out.size))
     have hz2 := HZ2.out.size
     clear h1 h2 HO1 HB1 x0 x1 x2 x3 x4 x5 x6 x7 x8 x9 x10 x11
     go_wp2_with (at_builtin; refine aptk y2 L1 [ptk sCOUNT, ptk sOpen, ptk sStar, ptk sClose] n1q HN1 rfl _ _ rfl HY2.out HR2.out hz2 (by omega) (by simp) rfl rfl ?_; intro u2 w2 L2 n2q HL2 HN2 hle2 hown hb; have hle2 : n2q ≤ n1q + 4 := hle2; have HO2 := hid hown; have HB2 := hid (HZ2.out.trans hb); obtain ⟨x0, x1, x2, x3, x4, x5, x6, x7, x8, x9, x10, x11⟩ := HNW.out _ HB2.out; simp only at x0 x1 x2 x3 x4 x5 x6 x7 x8 x9 x10 x11; obtain ⟨oa2, oc2, rfl⟩ := own_shape hown; clear hown hb)
     change Code.wp _ ((regionOf 6 (Tryd.f39.body.getD .skip)).getD .skip) _ _ _
     have HM6 : Hid (MID = L2 ++ (BT ++ ([ptk sFROM, ptk t] ++ WT))) := by
      show _ = _
      rw [HMI.out, hwE, HL2.out, HL1.out]
      rfl
     refine sel6 _ w2 w.heap.size (Nat.lt_of_lt_of_le HSZ.out HB2.out.size) t oa2 n2q oc2 a4 0 c4 a6 n6 c6 L2 BT WT x4 x1 x6 (Rd.own HO2.out) (plainH _ (HM.out _ HB2.out) [sFROM, t] 2 (by omega) (by omega) (by simp; exact ⟨by decide, ht⟩) [ptk sFROM, ptk t] rfl) (hid fun W hW => HBN.out W (HB2.out.trans (hW.mono HB2.out.size))) (hid fun W hW => HWH.out W (HB2.out.trans (hW.mono HB2.out.size))) (hid (by show _ ≤ _; have := HW6.out; have := HN2.out; simp only [List.length_append, List.length_cons, List.length_nil]; omega)) (hid ?_)
     intro z22 z23 z24 z25 z26 z27 z28 z29 z30 z31 z32 z33 z34 vm w3 h
     rw [← HM6.out] at h
     obtain ⟨n3q, hn3⟩ : ∃ n, n = MID.length := ⟨_, rfl⟩
     have HN3 := hid hn3
     have hle3 : n3q ≤ 300 := by rw [hn3]; exact HMID.out
     have HO3 : Hid (w3.ownsRow W0.heap.size 45 3 vm n3q (tkc MID)) := by rw [hn3]; exact ToksIs.base h HB2.out.size
     obtain ⟨L3, hL3⟩ : ∃ L, L = MID := ⟨_, rfl⟩
     rw [← hL3] at HO3 HN3
     have HL3 := hid hL3
     clear hn3 hL3
     have HB3 : Hid (Below W0.heap.size W0 w3) := by
      obtain ⟨_, _, _, h3⟩ := h
      exact HB2.out.trans (h3.mono HB2.out.size)
     obtain ⟨oa3, oc3, rfl⟩ := own_shape HO3.out
     clear h x0 x1 x2 x3 x4 x5 x6 x7 x8 x9 x10 x11 HM6
     obtain ⟨x0, x1, x2, x3, x4, x5, x6, x7, x8, x9, x10, x11⟩ := HNW.out _ HB3.out
     simp only at x0 x1 x2 x3 x4 x5 x6 x7 x8 x9 x10 x11
     go_wp2_with fail
     refine (plain3 w3 (HM.out _ HB3.out) sORDER sBY ord (by decide) (by decide) hord w3.heap.size rfl).mono ?_
     rintro e4 y4 ⟨v4, rfl, h1, h2⟩
     have HR4 := hid (Rd.own h1)
     have HY4 := hid (own_below HO3.out h2)
     have HZ4 := hid (HB3.out.trans (h2.mono HB3.out.size))
     have hz4 := HZ4.out.size
     clear h1 h2 HO3 HB3 x0 x1 x2 x3 x4 x5 x6 x7 x8 x9 x10 x11
     go_wp2_with (at_builtin; refine aptk y4 L3 [ptk sORDER, ptk sBY, ptk ord] n3q HN3 rfl _ _ rfl HY4.out HR4.out hz4 (by omega) (by simp) rfl rfl ?_; intro u4 w4 L4 n4q HL4 HN4 hle4 hown hb; have hle4 : n4q ≤ n3q + 3 := hle4; have HO4 := hid hown; have HB4 := hid (HZ4.out.trans hb); obtain ⟨x0, x1, x2, x3, x4, x5, x6, x7, x8, x9, x10, x11⟩ := HNW.out _ HB4.out; simp only at x0 x1 x2 x3 x4 x5 x6 x7 x8 x9 x10 x11; obtain ⟨oa4, oc4, rfl⟩ := own_shape hown; clear hown hb)
     go_wp2_with fail
     go_ret
     have HQ : SEL = L4 := by
      rw [HS.out, hoE, hdE, hlE, HL4.out, HL3.out]
      simp [hlim]
     rw [HQ]
     refine ⟨_, rfl, ?_, HB0.out.trans (HB4.out.mono (Nat.le_of_lt HSZ.out))⟩
     rw [← HN4.out]
     exact own_mono HO4.out (Nat.le_of_lt HSZ.out)
    ·go_enter Tryd.func39, Tryd.ntmps39
     go_wp2_with fail
     rw [← HWE.out]
     refine HPS.out.mono ?_
     rintro e0 w1 ⟨v1, rfl, h1, h2⟩
     obtain ⟨L1, hL1⟩ : ∃ L, L = [ptk sSELECT] := ⟨_, rfl⟩
     obtain ⟨n1q, hn1⟩ : ∃ n, n = [ptk sSELECT].length := ⟨_, rfl⟩
     have hle1 : n1q ≤ 1 := by rw [hn1]; exact Nat.le_refl _
     rw [← hn1, ← hL1] at h1
     rw [← hL1] at hn1
     have HL1 := hid hL1
     have HN1 := hid hn1
     have HO1 := hid h1
     have HB1 := hid h2
     obtain ⟨oa1, oc1, rfl⟩ := own_shape h1
     clear hL1 hn1
     obtain ⟨x0, x1, x2, x3, x4, x5, x6, x7, x8, x9, x10, x11⟩ := HNW.out _ HB1.out
     simp only at x0 x1 x2 x3 x4 x5 x6 x7 x8 x9 x10 x11
     clear h1 h2 HPS
     go_wp2_with fail
     refine (plain4 w1 (HM.out _ HB1.out) sCOUNT sOpen sStar sClose (by decide) (by decide) (by decide) (by decide) w1.heap.size rfl).mono ?_
     rintro e2 y2 ⟨v2, rfl, h1, h2⟩
     have HR2 := hid (Rd.own h1)
     have HY2 := hid (own_below HO1.out h2)
     have HZ2 := hid (HB1.out.trans (h2.mono HB1.out.size))
     have hz2 := HZ2.out.size
     clear h1 h2 HO1 HB1 x0 x1 x2 x3 x4 x5 x6 x7 x8 x9 x10 x11
     go_wp2_with (at_builtin; refine aptk y2 L1 [ptk sCOUNT, ptk sOpen, ptk sStar, ptk sClose] n1q HN1 rfl _ _ rfl HY2.out HR2.out hz2 (by omega) (by simp) rfl rfl ?_; intro u2 w2 L2 n2q HL2 HN2 hle2 hown hb; have hle2 : n2q ≤ n1q + 4 := hle2; have HO2 := hid hown; have HB2 := hid (HZ2.out.trans hb); obtain ⟨x0, x1, x2, x3, x4, x5, x6, x7, x8, x9, x10, x11⟩ := HNW.out _ HB2.out; simp only at x0 x1 x2 x3 x4 x5 x6 x7 x8 x9 x10 x11; obtain ⟨oa2, oc2, rfl⟩ := own_shape hown; clear hown hb)
     change Code.wp _ ((regionOf 6 (Tryd.f39.body.getD .skip)).getD .skip) _ _ _
     have HM6 : Hid (MID = L2 ++ (BT ++ ([ptk sFROM, ptk t] ++ WT))) := by
      show _ = _
      rw [HMI.out, hwE, HL2.out, HL1.out]
      rfl
     refine sel6 _ w2 w.heap.size (Nat.lt_of_lt_of_le HSZ.out HB2.out.size) t oa2 n2q oc2 a4 0 c4 a6 n6 c6 L2 BT WT x4 x1 x6 (Rd.own HO2.out) (plainH _ (HM.out _ HB2.out) [sFROM, t] 2 (by omega) (by omega) (by simp; exact ⟨by decide, ht⟩) [ptk sFROM, ptk t] rfl) (hid fun W hW => HBN.out W (HB2.out.trans (hW.mono HB2.out.size))) (hid fun W hW => HWH.out W (HB2.out.trans (hW.mono HB2.out.size))) (hid (by show _ ≤ _; have := HW6.out; have := HN2.out; simp only [List.length_append, List.length_cons, List.length_nil]; omega)) (hid ?_)
     intro z22 z23 z24 z25 z26 z27 z28 z29 z30 z31 z32 z33 z34 vm w3 h
     rw [← HM6.out] at h
     obtain ⟨n3q, hn3⟩ : ∃ n, n = MID.length := ⟨_, rfl⟩
     have HN3 := hid hn3
     have hle3 : n3q ≤ 300 := by rw [hn3]; exact HMID.out
     have HO3 : Hid (w3.ownsRow W0.heap.size 45 3 vm n3q (tkc MID)) := by rw [hn3]; exact ToksIs.base h HB2.out.size
     obtain ⟨L3, hL3⟩ : ∃ L, L = MID := ⟨_, rfl⟩
     rw [← hL3] at HO3 HN3
     have HL3 := hid hL3
     clear hn3 hL3
     have HB3 : Hid (Below W0.heap.size W0 w3) := by
      obtain ⟨_, _, _, h3⟩ := h
      exact HB2.out.trans (h3.mono HB2.out.size)
     obtain ⟨oa3, oc3, rfl⟩ := own_shape HO3.out
     clear h x0 x1 x2 x3 x4 x5 x6 x7 x8 x9 x10 x11 HM6
     obtain ⟨x0, x1, x2, x3, x4, x5, x6, x7, x8, x9, x10, x11⟩ := HNW.out _ HB3.out
     simp only at x0 x1 x2 x3 x4 x5 x6 x7 x8 x9 x10 x11
     go_wp2_with fail
     refine (plain3 w3 (HM.out _ HB3.out) sORDER sBY ord (by decide) (by decide) hord w3.heap.size rfl).mono ?_
     rintro e4 y4 ⟨v4, rfl, h1, h2⟩
     have HR4 := hid (Rd.own h1)
     have HY4 := hid (own_below HO3.out h2)
     have HZ4 := hid (HB3.out.trans (h2.mono HB3.out.size))
     have hz4 := HZ4.out.size
     clear h1 h2 HO3 HB3 x0 x1 x2 x3 x4 x5 x6 x7 x8 x9 x10 x11
     go_wp2_with (at_builtin; refine aptk y4 L3 [ptk sORDER, ptk sBY, ptk ord] n3q HN3 rfl _ _ rfl HY4.out HR4.out hz4 (by omega) (by simp) rfl rfl ?_; intro u4 w4 L4 n4q HL4 HN4 hle4 hown hb; have hle4 : n4q ≤ n3q + 3 := hle4; have HO4 := hid hown; have HB4 := hid (HZ4.out.trans hb); obtain ⟨x0, x1, x2, x3, x4, x5, x6, x7, x8, x9, x10, x11⟩ := HNW.out _ HB4.out; simp only at x0 x1 x2 x3 x4 x5 x6 x7 x8 x9 x10 x11; obtain ⟨oa4, oc4, rfl⟩ := own_shape hown; clear hown hb)
     go_wp2_with fail
     refine (plain1 w4 (HM.out _ HB4.out) sDESC (by decide) w4.heap.size rfl).mono ?_
     rintro e5 y5 ⟨v5, rfl, h1, h2⟩
     have HR5 := hid (Rd.own h1)
     have HY5 := hid (own_below HO4.out h2)
     have HZ5 := hid (HB4.out.trans (h2.mono HB4.out.size))
     have hz5 := HZ5.out.size
     clear h1 h2 HO4 HB4 x0 x1 x2 x3 x4 x5 x6 x7 x8 x9 x10 x11
     go_wp2_with (at_builtin; refine aptk y5 L4 [ptk sDESC] n4q HN4 rfl _ _ rfl HY5.out HR5.out hz5 (by omega) (by simp) rfl rfl ?_; intro u5 w5 L5 n5q HL5 HN5 hle5 hown hb; have hle5 : n5q ≤ n4q + 1 := hle5; have HO5 := hid hown; have HB5 := hid (HZ5.out.trans hb); obtain ⟨x0, x1, x2, x3, x4, x5, x6, x7, x8, x9, x10, x11⟩ := HNW.out _ HB5.out; simp only at x0 x1 x2 x3 x4 x5 x6 x7 x8 x9 x10 x11; obtain ⟨oa5, oc5, rfl⟩ := own_shape hown; clear hown hb)
     go_wp2_with fail
     go_ret
     have HQ : SEL = L5 := by
      rw [HS.out, hoE, hdE, hlE, HL5.out, HL4.out, HL3.out]
      simp [hlim]
     rw [HQ]
     refine ⟨_, rfl, ?_, HB0.out.trans (HB5.out.mono (Nat.le_of_lt HSZ.out))⟩
     rw [← HN5.out]
     exact own_mono HO5.out (Nat.le_of_lt HSZ.out)
   ·cases dn
    ·go_enter Tryd.func39, Tryd.ntmps39
     go_wp2_with fail
     rw [← HWE.out]
     refine HPS.out.mono ?_
     rintro e0 w1 ⟨v1, rfl, h1, h2⟩
     obtain ⟨L1, hL1⟩ : ∃ L, L = [ptk sSELECT] := ⟨_, rfl⟩
     obtain ⟨n1q, hn1⟩ : ∃ n, n = [ptk sSELECT].length := ⟨_, rfl⟩
     have hle1 : n1q ≤ 1 := by rw [hn1]; exact Nat.le_refl _
     rw [← hn1, ← hL1] at h1
     rw [← hL1] at hn1
     have HL1 := hid hL1
     have HN1 := hid hn1
     have HO1 := hid h1
     have HB1 := hid h2
     obtain ⟨oa1, oc1, rfl⟩ := own_shape h1
     clear hL1 hn1
     obtain ⟨x0, x1, x2, x3, x4, x5, x6, x7, x8, x9, x10, x11⟩ := HNW.out _ HB1.out
     simp only at x0 x1 x2 x3 x4 x5 x6 x7 x8 x9 x10 x11
     clear h1 h2 HPS
     go_wp2_with fail
     refine (plain4 w1 (HM.out _ HB1.out) sCOUNT sOpen sStar sClose (by decide) (by decide) (by decide) (by decide) w1.heap.size rfl).mono ?_
     rintro e2 y2 ⟨v2, rfl, h1, h2⟩
     have HR2 := hid (Rd.own h1)
     have HY2 := hid (own_below HO1.out h2)
     have HZ2 := hid (HB1.out.trans (h2.mono HB1.out.size))
     have hz2 := HZ2.out.size
     clear h1 h2 HO1 HB1 x0 x1 x2 x3 x4 x5 x6 x7 x8 x9 x10 x11
     go_wp2_with (at_builtin; refine aptk y2 L1 [ptk sCOUNT, ptk sOpen, ptk sStar, ptk sClose] n1q HN1 rfl _ _ rfl HY2.out HR2.out hz2 (by omega) (by simp) rfl rfl ?_; intro u2 w2 L2 n2q HL2 HN2 hle2 hown hb; have hle2 : n2q ≤ n1q + 4 := hle2; have HO2 := hid hown; have HB2 := hid (HZ2.out.trans hb); obtain ⟨x0, x1, x2, x3, x4, x5, x6, x7, x8, x9, x10, x11⟩ := HNW.out _ HB2.out; simp only at x0 x1 x2 x3 x4 x5 x6 x7 x8 x9 x10 x11; obtain ⟨oa2, oc2, rfl⟩ := own_shape hown; clear hown hb)
     change Code.wp _ ((regionOf 6 (Tryd.f39.body.getD .skip)).getD .skip) _ _ _
     have HM6 : Hid (MID = L2 ++ (BT ++ ([ptk sFROM, ptk t] ++ WT))) := by
      show _ = _
      rw [HMI.out, hwE, HL2.out, HL1.out]
      rfl
     refine sel6 _ w2 w.heap.size (Nat.lt_of_lt_of_le HSZ.out HB2.out.size) t oa2 n2q oc2 a4 0 c4 a6 n6 c6 L2 BT WT x4 x1 x6 (Rd.own HO2.out) (plainH _ (HM.out _ HB2.out) [sFROM, t] 2 (by omega) (by omega) (by simp; exact ⟨by decide, ht⟩) [ptk sFROM, ptk t] rfl) (hid fun W hW => HBN.out W (HB2.out.trans (hW.mono HB2.out.size))) (hid fun W hW => HWH.out W (HB2.out.trans (hW.mono HB2.out.size))) (hid (by show _ ≤ _; have := HW6.out; have := HN2.out; simp only [List.length_append, List.length_cons, List.length_nil]; omega)) (hid ?_)
     intro z22 z23 z24 z25 z26 z27 z28 z29 z30 z31 z32 z33 z34 vm w3 h
     rw [← HM6.out] at h
     obtain ⟨n3q, hn3⟩ : ∃ n, n = MID.length := ⟨_, rfl⟩
     have HN3 := hid hn3
     have hle3 : n3q ≤ 300 := by rw [hn3]; exact HMID.out
     have HO3 : Hid (w3.ownsRow W0.heap.size 45 3 vm n3q (tkc MID)) := by rw [hn3]; exact ToksIs.base h HB2.out.size
     obtain ⟨L3, hL3⟩ : ∃ L, L = MID := ⟨_, rfl⟩
     rw [← hL3] at HO3 HN3
     have HL3 := hid hL3
     clear hn3 hL3
     have HB3 : Hid (Below W0.heap.size W0 w3) := by
      obtain ⟨_, _, _, h3⟩ := h
      exact HB2.out.trans (h3.mono HB2.out.size)
     obtain ⟨oa3, oc3, rfl⟩ := own_shape HO3.out
     clear h x0 x1 x2 x3 x4 x5 x6 x7 x8 x9 x10 x11 HM6
     obtain ⟨x0, x1, x2, x3, x4, x5, x6, x7, x8, x9, x10, x11⟩ := HNW.out _ HB3.out
     simp only at x0 x1 x2 x3 x4 x5 x6 x7 x8 x9 x10 x11
     go_wp2_with fail
     go_ret
     have HQ : SEL = L3 := by
      rw [HS.out, hoE, hdE, hlE, HL3.out]
      simp [hlim]
     rw [HQ]
     refine ⟨_, rfl, ?_, HB0.out.trans (HB3.out.mono (Nat.le_of_lt HSZ.out))⟩
     rw [← HN3.out]
     exact own_mono HO3.out (Nat.le_of_lt HSZ.out)
    ·go_enter Tryd.func39, Tryd.ntmps39
     go_wp2_with fail
     rw [← HWE.out]
     refine HPS.out.mono ?_
     rintro e0 w1 ⟨v1, rfl, h1, h2⟩
     obtain ⟨L1, hL1⟩ : ∃ L, L = [ptk sSELECT] := ⟨_, rfl⟩
     obtain ⟨n1q, hn1⟩ : ∃ n, n = [ptk sSELECT].length := ⟨_, rfl⟩
     have hle1 : n1q ≤ 1 := by rw [hn1]; exact Nat.le_refl _
     rw [← hn1, ← hL1] at h1
     rw [← hL1] at hn1
     have HL1 := hid hL1
     have HN1 := hid hn1
     have HO1 := hid h1
     have HB1 := hid h2
     obtain ⟨oa1, oc1, rfl⟩ := own_shape h1
     clear hL1 hn1
     obtain ⟨x0, x1, x2, x3, x4, x5, x6, x7, x8, x9, x10, x11⟩ := HNW.out _ HB1.out
     simp only at x0 x1 x2 x3 x4 x5 x6 x7 x8 x9 x10 x11
     clear h1 h2 HPS
     go_wp2_with fail
     refine (plain4 w1 (HM.out _ HB1.out) sCOUNT sOpen sStar sClose (by decide) (by decide) (by decide) (by decide) w1.heap.size rfl).mono ?_
     rintro e2 y2 ⟨v2, rfl, h1, h2⟩
     have HR2 := hid (Rd.own h1)
     have HY2 := hid (own_below HO1.out h2)
     have HZ2 := hid (HB1.out.trans (h2.mono HB1.out.size))
     have hz2 := HZ2.out.size
     clear h1 h2 HO1 HB1 x0 x1 x2 x3 x4 x5 x6 x7 x8 x9 x10 x11
     go_wp2_with (at_builtin; refine aptk y2 L1 [ptk sCOUNT, ptk sOpen, ptk sStar, ptk sClose] n1q HN1 rfl _ _ rfl HY2.out HR2.out hz2 (by omega) (by simp) rfl rfl ?_; intro u2 w2 L2 n2q HL2 HN2 hle2 hown hb; have hle2 : n2q ≤ n1q + 4 := hle2; have HO2 := hid hown; have HB2 := hid (HZ2.out.trans hb); obtain ⟨x0, x1, x2, x3, x4, x5, x6, x7, x8, x9, x10, x11⟩ := HNW.out _ HB2.out; simp only at x0 x1 x2 x3 x4 x5 x6 x7 x8 x9 x10 x11; obtain ⟨oa2, oc2, rfl⟩ := own_shape hown; clear hown hb)
     change Code.wp _ ((regionOf 6 (Tryd.f39.body.getD .skip)).getD .skip) _ _ _
     have HM6 : Hid (MID = L2 ++ (BT ++ ([ptk sFROM, ptk t] ++ WT))) := by
      show _ = _
      rw [HMI.out, hwE, HL2.out, HL1.out]
      rfl
     refine sel6 _ w2 w.heap.size (Nat.lt_of_lt_of_le HSZ.out HB2.out.size) t oa2 n2q oc2 a4 0 c4 a6 n6 c6 L2 BT WT x4 x1 x6 (Rd.own HO2.out) (plainH _ (HM.out _ HB2.out) [sFROM, t] 2 (by omega) (by omega) (by simp; exact ⟨by decide, ht⟩) [ptk sFROM, ptk t] rfl) (hid fun W hW => HBN.out W (HB2.out.trans (hW.mono HB2.out.size))) (hid fun W hW => HWH.out W (HB2.out.trans (hW.mono HB2.out.size))) (hid (by show _ ≤ _; have := HW6.out; have := HN2.out; simp only [List.length_append, List.length_cons, List.length_nil]; omega)) (hid ?_)
     intro z22 z23 z24 z25 z26 z27 z28 z29 z30 z31 z32 z33 z34 vm w3 h
     rw [← HM6.out] at h
     obtain ⟨n3q, hn3⟩ : ∃ n, n = MID.length := ⟨_, rfl⟩
     have HN3 := hid hn3
     have hle3 : n3q ≤ 300 := by rw [hn3]; exact HMID.out
     have HO3 : Hid (w3.ownsRow W0.heap.size 45 3 vm n3q (tkc MID)) := by rw [hn3]; exact ToksIs.base h HB2.out.size
     obtain ⟨L3, hL3⟩ : ∃ L, L = MID := ⟨_, rfl⟩
     rw [← hL3] at HO3 HN3
     have HL3 := hid hL3
     clear hn3 hL3
     have HB3 : Hid (Below W0.heap.size W0 w3) := by
      obtain ⟨_, _, _, h3⟩ := h
      exact HB2.out.trans (h3.mono HB2.out.size)
     obtain ⟨oa3, oc3, rfl⟩ := own_shape HO3.out
     clear h x0 x1 x2 x3 x4 x5 x6 x7 x8 x9 x10 x11 HM6
     obtain ⟨x0, x1, x2, x3, x4, x5, x6, x7, x8, x9, x10, x11⟩ := HNW.out _ HB3.out
     simp only at x0 x1 x2 x3 x4 x5 x6 x7 x8 x9 x10 x11
     go_wp2_with fail
     refine (plain1 w3 (HM.out _ HB3.out) sDESC (by decide) w3.heap.size rfl).mono ?_
     rintro e4 y4 ⟨v4, rfl, h1, h2⟩
     have HR4 := hid (Rd.own h1)
     have HY4 := hid (own_below HO3.out h2)
     have HZ4 := hid (HB3.out.trans (h2.mono HB3.out.size))
     have hz4 := HZ4.out.size
     clear h1 h2 HO3 HB3 x0 x1 x2 x3 x4 x5 x6 x7 x8 x9 x10 x11
     go_wp2_with (at_builtin; refine aptk y4 L3 [ptk sDESC] n3q HN3 rfl _ _ rfl HY4.out HR4.out hz4 (by omega) (by simp) rfl rfl ?_; intro u4 w4 L4 n4q HL4 HN4 hle4 hown hb; have hle4 : n4q ≤ n3q + 1 := hle4; have HO4 := hid hown; have HB4 := hid (HZ4.out.trans hb); obtain ⟨x0, x1, x2, x3, x4, x5, x6, x7, x8, x9, x10, x11⟩ := HNW.out _ HB4.out; simp only at x0 x1 x2 x3 x4 x5 x6 x7 x8 x9 x10 x11; obtain ⟨oa4, oc4, rfl⟩ := own_shape hown; clear hown hb)
     go_wp2_with fail
     go_ret
     have HQ : SEL = L4 := by
      rw [HS.out, hoE, hdE, hlE, HL4.out, HL3.out]
      simp [hlim]
     rw [HQ]
     refine ⟨_, rfl, ?_, HB0.out.trans (HB4.out.mono (Nat.le_of_lt HSZ.out))⟩
     rw [← HN4.out]
     exact own_mono HO4.out (Nat.le_of_lt HSZ.out)
  ·have hz0 := trivial
   cases e
   ·cases dn
    ·go_enter Tryd.func39, Tryd.ntmps39
     go_wp2_with fail
     rw [← HWE.out]
     refine HPS.out.mono ?_
     rintro e0 w1 ⟨v1, rfl, h1, h2⟩
     obtain ⟨L1, hL1⟩ : ∃ L, L = [ptk sSELECT] := ⟨_, rfl⟩
     obtain ⟨n1q, hn1⟩ : ∃ n, n = [ptk sSELECT].length := ⟨_, rfl⟩
     have hle1 : n1q ≤ 1 := by rw [hn1]; exact Nat.le_refl _
     rw [← hn1, ← hL1] at h1
     rw [← hL1] at hn1
     have HL1 := hid hL1
     have HN1 := hid hn1
     have HO1 := hid h1
     have HB1 := hid h2
     obtain ⟨oa1, oc1, rfl⟩ := own_shape h1
     clear hL1 hn1
     obtain ⟨x0, x1, x2, x3, x4, x5, x6, x7, x8, x9, x10, x11⟩ := HNW.out _ HB1.out
     simp only at x0 x1 x2 x3 x4 x5 x6 x7 x8 x9 x10 x11
     clear h1 h2 HPS
     go_wp2_with fail
     refine (plain1 w1 (HM.out _ HB1.out) sStar (by decide) w1.heap.size rfl).mono ?_
     rintro e2 y2 ⟨v2, rfl, h1, h2⟩
     have HR2 := hid (Rd.own h1)
     have HY2 := hid (own_below HO1.out h2)
     have HZ2 := hid (HB1.out.trans (h2.mono HB1.out.size))
     have hz2 := HZ2.out.size
     clear h1 h2 HO1 HB1 x0 x1 x2 x3 x4 x5 x6 x7 x8 x9 x10 x11
     go_wp2_with (at_builtin; refine aptk y2 L1 [ptk sStar] n1q HN1 rfl _ _ rfl HY2.out HR2.out hz2 (by omega) (by simp) rfl rfl ?_; intro u2 w2 L2 n2q HL2 HN2 hle2 hown hb; have hle2 : n2q ≤ n1q + 1 := hle2; have HO2 := hid hown; have HB2 := hid (HZ2.out.trans hb); obtain ⟨x0, x1, x2, x3, x4, x5, x6, x7, x8, x9, x10, x11⟩ := HNW.out _ HB2.out; simp only at x0 x1 x2 x3 x4 x5 x6 x7 x8 x9 x10 x11; obtain ⟨oa2, oc2, rfl⟩ := own_shape hown; clear hown hb)
     change Code.wp _ ((regionOf 6 (Tryd.f39.body.getD .skip)).getD .skip) _ _ _
     have HM6 : Hid (MID = L2 ++ (BT ++ ([ptk sFROM, ptk t] ++ WT))) := by
      show _ = _
      rw [HMI.out, hwE, HL2.out, HL1.out]
      rfl
     refine sel6 _ w2 w.heap.size (Nat.lt_of_lt_of_le HSZ.out HB2.out.size) t oa2 n2q oc2 a4 0 c4 a6 n6 c6 L2 BT WT x4 x1 x6 (Rd.own HO2.out) (plainH _ (HM.out _ HB2.out) [sFROM, t] 2 (by omega) (by omega) (by simp; exact ⟨by decide, ht⟩) [ptk sFROM, ptk t] rfl) (hid fun W hW => HBN.out W (HB2.out.trans (hW.mono HB2.out.size))) (hid fun W hW => HWH.out W (HB2.out.trans (hW.mono HB2.out.size))) (hid (by show _ ≤ _; have := HW6.out; have := HN2.out; simp only [List.length_append, List.length_cons, List.length_nil]; omega)) (hid ?_)
     intro z22 z23 z24 z25 z26 z27 z28 z29 z30 z31 z32 z33 z34 vm w3 h
     rw [← HM6.out] at h
     obtain ⟨n3q, hn3⟩ : ∃ n, n = MID.length := ⟨_, rfl⟩
     have HN3 := hid hn3
     have hle3 : n3q ≤ 300 := by rw [hn3]; exact HMID.out
     have HO3 : Hid (w3.ownsRow W0.heap.size 45 3 vm n3q (tkc MID)) := by rw [hn3]; exact ToksIs.base h HB2.out.size
     obtain ⟨L3, hL3⟩ : ∃ L, L = MID := ⟨_, rfl⟩
     rw [← hL3] at HO3 HN3
     have HL3 := hid hL3
     clear hn3 hL3
     have HB3 : Hid (Below W0.heap.size W0 w3) := by
      obtain ⟨_, _, _, h3⟩ := h
      exact HB2.out.trans (h3.mono HB2.out.size)
     obtain ⟨oa3, oc3, rfl⟩ := own_shape HO3.out
     clear h x0 x1 x2 x3 x4 x5 x6 x7 x8 x9 x10 x11 HM6
     obtain ⟨x0, x1, x2, x3, x4, x5, x6, x7, x8, x9, x10, x11⟩ := HNW.out _ HB3.out
     simp only at x0 x1 x2 x3 x4 x5 x6 x7 x8 x9 x10 x11
     go_wp2_with fail
     refine (plain3 w3 (HM.out _ HB3.out) sORDER sBY ord (by decide) (by decide) hord w3.heap.size rfl).mono ?_
     rintro e4 y4 ⟨v4, rfl, h1, h2⟩
     have HR4 := hid (Rd.own h1)
     have HY4 := hid (own_below HO3.out h2)
     have HZ4 := hid (HB3.out.trans (h2.mono HB3.out.size))
     have hz4 := HZ4.out.size
     clear h1 h2 HO3 HB3 x0 x1 x2 x3 x4 x5 x6 x7 x8 x9 x10 x11
     go_wp2_with (at_builtin; refine aptk y4 L3 [ptk sORDER, ptk sBY, ptk ord] n3q HN3 rfl _ _ rfl HY4.out HR4.out hz4 (by omega) (by simp) rfl rfl ?_; intro u4 w4 L4 n4q HL4 HN4 hle4 hown hb; have hle4 : n4q ≤ n3q + 3 := hle4; have HO4 := hid hown; have HB4 := hid (HZ4.out.trans hb); obtain ⟨x0, x1, x2, x3, x4, x5, x6, x7, x8, x9, x10, x11⟩ := HNW.out _ HB4.out; simp only at x0 x1 x2 x3 x4 x5 x6 x7 x8 x9 x10 x11; obtain ⟨oa4, oc4, rfl⟩ := own_shape hown; clear hown hb)
     go_wp2_with fail
     go_ret
     have HQ : SEL = L4 := by
      rw [HS.out, hoE, hdE, hlE, HL4.out, HL3.out]
      simp [hlim]
     rw [HQ]
     refine ⟨_, rfl, ?_, HB0.out.trans (HB4.out.mono (Nat.le_of_lt HSZ.out))⟩
     rw [← HN4.out]
     exact own_mono HO4.out (Nat.le_of_lt HSZ.out)
    ·go_enter Tryd.func39, Tryd.ntmps39
     go_wp2_with fail
     rw [← HWE.out]
     refine HPS.out.mono ?_
     rintro e0 w1 ⟨v1, rfl, h1, h2⟩
     obtain ⟨L1, hL1⟩ : ∃ L, L = [ptk sSELECT] := ⟨_, rfl⟩
     obtain ⟨n1q, hn1⟩ : ∃ n, n = [ptk sSELECT].length := ⟨_, rfl⟩
     have hle1 : n1q ≤ 1 := by rw [hn1]; exact Nat.le_refl _
     rw [← hn1, ← hL1] at h1
     rw [← hL1] at hn1
     have HL1 := hid hL1
     have HN1 := hid hn1
     have HO1 := hid h1
     have HB1 := hid h2
     obtain ⟨oa1, oc1, rfl⟩ := own_shape h1
     clear hL1 hn1
     obtain ⟨x0, x1, x2, x3, x4, x5, x6, x7, x8, x9, x10, x11⟩ := HNW.out _ HB1.out
     simp only at x0 x1 x2 x3 x4 x5 x6 x7 x8 x9 x10 x11
     clear h1 h2 HPS
     go_wp2_with fail
     refine (plain1 w1 (HM.out _ HB1.out) sStar (by decide) w1.heap.size rfl).mono ?_
     rintro e2 y2 ⟨v2, rfl, h1, h2⟩
     have HR2 := hid (Rd.own h1)
     have HY2 := hid (own_below HO1.out h2)
     have HZ2 := hid (HB1.out.trans (h2.mono HB1.out.size))
     have hz2 := HZ2.out.size
     clear h1 h2 HO1 HB1 x0 x1 x2 x3 x4 x5 x6 x7 x8 x9 x10 x11
     go_wp2_with (at_builtin; refine aptk y2 L1 [ptk sStar] n1q HN1 rfl _ _ rfl HY2.out HR2.out hz2 (by omega) (by simp) rfl rfl ?_; intro u2 w2 L2 n2q HL2 HN2 hle2 hown hb; have hle2 : n2q ≤ n1q + 1 := hle2; have HO2 := hid hown; have HB2 := hid (HZ2.out.trans hb); obtain ⟨x0, x1, x2, x3, x4, x5, x6, x7, x8, x9, x10, x11⟩ := HNW.out _ HB2.out; simp only at x0 x1 x2 x3 x4 x5 x6 x7 x8 x9 x10 x11; obtain ⟨oa2, oc2, rfl⟩ := own_shape hown; clear hown hb)
     change Code.wp _ ((regionOf 6 (Tryd.f39.body.getD .skip)).getD .skip) _ _ _
     have HM6 : Hid (MID = L2 ++ (BT ++ ([ptk sFROM, ptk t] ++ WT))) := by
      show _ = _
      rw [HMI.out, hwE, HL2.out, HL1.out]
      rfl
     refine sel6 _ w2 w.heap.size (Nat.lt_of_lt_of_le HSZ.out HB2.out.size) t oa2 n2q oc2 a4 0 c4 a6 n6 c6 L2 BT WT x4 x1 x6 (Rd.own HO2.out) (plainH _ (HM.out _ HB2.out) [sFROM, t] 2 (by omega) (by omega) (by simp; exact ⟨by decide, ht⟩) [ptk sFROM, ptk t] rfl) (hid fun W hW => HBN.out W (HB2.out.trans (hW.mono HB2.out.size))) (hid fun W hW => HWH.out W (HB2.out.trans (hW.mono HB2.out.size))) (hid (by show _ ≤ _; have := HW6.out; have := HN2.out; simp only [List.length_append, List.length_cons, List.length_nil]; omega)) (hid ?_)
     intro z22 z23 z24 z25 z26 z27 z28 z29 z30 z31 z32 z33 z34 vm w3 h
     rw [← HM6.out] at h
     obtain ⟨n3q, hn3⟩ : ∃ n, n = MID.length := ⟨_, rfl⟩
     have HN3 := hid hn3
     have hle3 : n3q ≤ 300 := by rw [hn3]; exact HMID.out
     have HO3 : Hid (w3.ownsRow W0.heap.size 45 3 vm n3q (tkc MID)) := by rw [hn3]; exact ToksIs.base h HB2.out.size
     obtain ⟨L3, hL3⟩ : ∃ L, L = MID := ⟨_, rfl⟩
     rw [← hL3] at HO3 HN3
     have HL3 := hid hL3
     clear hn3 hL3
     have HB3 : Hid (Below W0.heap.size W0 w3) := by
      obtain ⟨_, _, _, h3⟩ := h
      exact HB2.out.trans (h3.mono HB2.out.size)
     obtain ⟨oa3, oc3, rfl⟩ := own_shape HO3.out
     clear h x0 x1 x2 x3 x4 x5 x6 x7 x8 x9 x10 x11 HM6
     obtain ⟨x0, x1, x2, x3, x4, x5, x6, x7, x8, x9, x10, x11⟩ := HNW.out _ HB3.out
     simp only at x0 x1 x2 x3 x4 x5 x6 x7 x8 x9 x10 x11
     go_wp2_with fail
     refine (plain3 w3 (HM.out _ HB3.out) sORDER sBY ord (by decide) (by decide) hord w3.heap.size rfl).mono ?_
     rintro e4 y4 ⟨v4, rfl, h1, h2⟩
     have HR4 := hid (Rd.own h1)
     have HY4 := hid (own_below HO3.out h2)
     have HZ4 := hid (HB3.out.trans (h2.mono HB3.out.size))
     have hz4 := HZ4.out.size
     clear h1 h2 HO3 HB3 x0 x1 x2 x3 x4 x5 x6 x7 x8 x9 x10 x11
     go_wp2_with (at_builtin; refine aptk y4 L3 [ptk sORDER, ptk sBY, ptk ord] n3q HN3 rfl _ _ rfl HY4.out HR4.out hz4 (by omega) (by simp) rfl rfl ?_; intro u4 w4 L4 n4q HL4 HN4 hle4 hown hb; have hle4 : n4q ≤ n3q + 3 := hle4; have HO4 := hid hown; have HB4 := hid (HZ4.out.trans hb); obtain ⟨x0, x1, x2, x3, x4, x5, x6, x7, x8, x9, x10, x11⟩ := HNW.out _ HB4.out; simp only at x0 x1 x2 x3 x4 x5 x6 x7 x8 x9 x10 x11; obtain ⟨oa4, oc4, rfl⟩ := own_shape hown; clear hown hb)
     go_wp2_with fail
     refine (plain1 w4 (HM.out _ HB4.out) sDESC (by decide) w4.heap.size rfl).mono ?_
     rintro e5 y5 ⟨v5, rfl, h1, h2⟩
     have HR5 := hid (Rd.own h1)
     have HY5 := hid (own_below HO4.out h2)
     have HZ5 := hid (HB4.out.trans (h2.mono HB4.out.size))
     have hz5 := HZ5.out.size
     clear h1 h2 HO4 HB4 x0 x1 x2 x3 x4 x5 x6 x7 x8 x9 x10 x11
     go_wp2_with (at_builtin; refine aptk y5 L4 [ptk sDESC] n4q HN4 rfl _ _ rfl HY5.out HR5.out hz5 (by omega) (by simp) rfl rfl ?_; intro u5 w5 L5 n5q HL5 HN5 hle5 hown hb; have hle5 : n5q ≤ n4q + 1 := hle5; have HO5 := hid hown; have HB5 := hid (HZ5.out.trans hb); obtain ⟨x0, x1, x2, x3, x4, x5, x6, x7, x8, x9, x10, x11⟩ := HNW.out _ HB5.out; simp only at x0 x1 x2 x3 x4 x5 x6 x7 x8 x9 x10 x11; obtain ⟨oa5, oc5, rfl⟩ := own_shape hown; clear hown hb)
     go_wp2_with fail
     go_ret
     have HQ : SEL = L5 := by
      rw [HS.out, hoE, hdE, hlE, HL5.out, HL4.out, HL3.out]
      simp [hlim]
     rw [HQ]
     refine ⟨_, rfl, ?_, HB0.out.trans (HB5.out.mono (Nat.le_of_lt HSZ.out))⟩
     rw [← HN5.out]
     exact own_mono HO5.out (Nat.le_of_lt HSZ.out)
   ·cases dn
    ·go_enter Tryd.func39, Tryd.ntmps39
     go_wp2_with fail
     rw [← HWE.out]
     refine HPS.out.mono ?_
     rintro e0 w1 ⟨v1, rfl, h1, h2⟩
     obtain ⟨L1, hL1⟩ : ∃ L, L = [ptk sSELECT] := ⟨_, rfl⟩
     obtain ⟨n1q, hn1⟩ : ∃ n, n = [ptk sSELECT].length := ⟨_, rfl⟩
     have hle1 : n1q ≤ 1 := by rw [hn1]; exact Nat.le_refl _
     rw [← hn1, ← hL1] at h1
     rw [← hL1] at hn1
     have HL1 := hid hL1
     have HN1 := hid hn1
     have HO1 := hid h1
     have HB1 := hid h2
     obtain ⟨oa1, oc1, rfl⟩ := own_shape h1
     clear hL1 hn1
     obtain ⟨x0, x1, x2, x3, x4, x5, x6, x7, x8, x9, x10, x11⟩ := HNW.out _ HB1.out
     simp only at x0 x1 x2 x3 x4 x5 x6 x7 x8 x9 x10 x11
     clear h1 h2 HPS
     go_wp2_with fail
     refine (plain1 w1 (HM.out _ HB1.out) sStar (by decide) w1.heap.size rfl).mono ?_
     rintro e2 y2 ⟨v2, rfl, h1, h2⟩
     have HR2 := hid (Rd.own h1)
     have HY2 := hid (own_below HO1.out h2)
     have HZ2 := hid (HB1.out.trans (h2.mono HB1.out.size))
     have hz2 := HZ2.out.size
     clear h1 h2 HO1 HB1 x0 x1 x2 x3 x4 x5 x6 x7 x8 x9 x10 x11
     go_wp2_with (at_builtin; refine aptk y2 L1 [ptk sStar] n1q HN1 rfl _ _ rfl HY2.out HR2.out hz2 (by omega) (by simp) rfl rfl ?_; intro u2 w2 L2 n2q HL2 HN2 hle2 hown hb; have hle2 : n2q ≤ n1q + 1 := hle2; have HO2 := hid hown; have HB2 := hid (HZ2.out.trans hb); obtain ⟨x0, x1, x2, x3, x4, x5, x6, x7, x8, x9, x10, x11⟩ := HNW.out _ HB2.out; simp only at x0 x1 x2 x3 x4 x5 x6 x7 x8 x9 x10 x11; obtain ⟨oa2, oc2, rfl⟩ := own_shape hown; clear hown hb)
     change Code.wp _ ((regionOf 6 (Tryd.f39.body.getD .skip)).getD .skip) _ _ _
     have HM6 : Hid (MID = L2 ++ (BT ++ ([ptk sFROM, ptk t] ++ WT))) := by
      show _ = _
      rw [HMI.out, hwE, HL2.out, HL1.out]
      rfl
     refine sel6 _ w2 w.heap.size (Nat.lt_of_lt_of_le HSZ.out HB2.out.size) t oa2 n2q oc2 a4 0 c4 a6 n6 c6 L2 BT WT x4 x1 x6 (Rd.own HO2.out) (plainH _ (HM.out _ HB2.out) [sFROM, t] 2 (by omega) (by omega) (by simp; exact ⟨by decide, ht⟩) [ptk sFROM, ptk t] rfl) (hid fun W hW => HBN.out W (HB2.out.trans (hW.mono HB2.out.size))) (hid fun W hW => HWH.out W (HB2.out.trans (hW.mono HB2.out.size))) (hid (by show _ ≤ _; have := HW6.out; have := HN2.out; simp only [List.length_append, List.length_cons, List.length_nil]; omega)) (hid ?_)
     intro z22 z23 z24 z25 z26 z27 z28 z29 z30 z31 z32 z33 z34 vm w3 h
     rw [← HM6.out] at h
     obtain ⟨n3q, hn3⟩ : ∃ n, n = MID.length := ⟨_, rfl⟩
     have HN3 := hid hn3
     have hle3 : n3q ≤ 300 := by rw [hn3]; exact HMID.out
     have HO3 : Hid (w3.ownsRow W0.heap.size 45 3 vm n3q (tkc MID)) := by rw [hn3]; exact ToksIs.base h HB2.out.size
     obtain ⟨L3, hL3⟩ : ∃ L, L = MID := ⟨_, rfl⟩
     rw [← hL3] at HO3 HN3
     have HL3 := hid hL3
     clear hn3 hL3
     have HB3 : Hid (Below W0.heap.size W0 w3) := by
      obtain ⟨_, _, _, h3⟩ := h
      exact HB2.out.trans (h3.mono HB2.out.size)
     obtain ⟨oa3, oc3, rfl⟩ := own_shape HO3.out
     clear h x0 x1 x2 x3 x4 x5 x6 x7 x8 x9 x10 x11 HM6
     obtain ⟨x0, x1, x2, x3, x4, x5, x6, x7, x8, x9, x10, x11⟩ := HNW.out _ HB3.out
     simp only at x0 x1 x2 x3 x4 x5 x6 x7 x8 x9 x10 x11
     go_wp2_with fail
     go_ret
     have HQ : SEL = L3 := by
      rw [HS.out, hoE, hdE, hlE, HL3.out]
      simp [hlim]
     rw [HQ]
     refine ⟨_, rfl, ?_, HB0.out.trans (HB3.out.mono (Nat.le_of_lt HSZ.out))⟩
     rw [← HN3.out]
     exact own_mono HO3.out (Nat.le_of_lt HSZ.out)
    ·go_enter Tryd.func39, Tryd.ntmps39
     go_wp2_with fail
     rw [← HWE.out]
     refine HPS.out.mono ?_
     rintro e0 w1 ⟨v1, rfl, h1, h2⟩
     obtain ⟨L1, hL1⟩ : ∃ L, L = [ptk sSELECT] := ⟨_, rfl⟩
     obtain ⟨n1q, hn1⟩ : ∃ n, n = [ptk sSELECT].length := ⟨_, rfl⟩
     have hle1 : n1q ≤ 1 := by rw [hn1]; exact Nat.le_refl _
     rw [← hn1, ← hL1] at h1
     rw [← hL1] at hn1
     have HL1 := hid hL1
     have HN1 := hid hn1
     have HO1 := hid h1
     have HB1 := hid h2
     obtain ⟨oa1, oc1, rfl⟩ := own_shape h1
     clear hL1 hn1
     obtain ⟨x0, x1, x2, x3, x4, x5, x6, x7, x8, x9, x10, x11⟩ := HNW.out _ HB1.out
     simp only at x0 x1 x2 x3 x4 x5 x6 x7 x8 x9 x10 x11
     clear h1 h2 HPS
     go_wp2_with fail
     refine (plain1 w1 (HM.out _ HB1.out) sStar (by decide) w1.heap.size rfl).mono ?_
     rintro e2 y2 ⟨v2, rfl, h1, h2⟩
     have HR2 := hid (Rd.own h1)
     have HY2 := hid (own_below HO1.out h2)
     have HZ2 := hid (HB1.out.trans (h2.mono HB1.out.size))
     have hz2 := HZ2.out.size
     clear h1 h2 HO1 HB1 x0 x1 x2 x3 x4 x5 x6 x7 x8 x9 x10 x11
     go_wp2_with (at_builtin; refine aptk y2 L1 [ptk sStar] n1q HN1 rfl _ _ rfl HY2.out HR2.out hz2 (by omega) (by simp) rfl rfl ?_; intro u2 w2 L2 n2q HL2 HN2 hle2 hown hb; have hle2 : n2q ≤ n1q + 1 := hle2; have HO2 := hid hown; have HB2 := hid (HZ2.out.trans hb); obtain ⟨x0, x1, x2, x3, x4, x5, x6, x7, x8, x9, x10, x11⟩ := HNW.out _ HB2.out; simp only at x0 x1 x2 x3 x4 x5 x6 x7 x8 x9 x10 x11; obtain ⟨oa2, oc2, rfl⟩ := own_shape hown; clear hown hb)
     change Code.wp _ ((regionOf 6 (Tryd.f39.body.getD .skip)).getD .skip) _ _ _
     have HM6 : Hid (MID = L2 ++ (BT ++ ([ptk sFROM, ptk t] ++ WT))) := by
      show _ = _
      rw [HMI.out, hwE, HL2.out, HL1.out]
      rfl
     refine sel6 _ w2 w.heap.size (Nat.lt_of_lt_of_le HSZ.out HB2.out.size) t oa2 n2q oc2 a4 0 c4 a6 n6 c6 L2 BT WT x4 x1 x6 (Rd.own HO2.out) (plainH _ (HM.out _ HB2.out) [sFROM, t] 2 (by omega) (by omega) (by simp; exact ⟨by decide, ht⟩) [ptk sFROM, ptk t] rfl) (hid fun W hW => HBN.out W (HB2.out.trans (hW.mono HB2.out.size))) (hid fun W hW => HWH.out W (HB2.out.trans (hW.mono HB2.out.size))) (hid (by show _ ≤ _; have := HW6.out; have := HN2.out; simp only [List.length_append, List.length_cons, List.length_nil]; omega)) (hid ?_)
     intro z22 z23 z24 z25 z26 z27 z28 z29 z30 z31 z32 z33 z34 vm w3 h
     rw [← HM6.out] at h
     obtain ⟨n3q, hn3⟩ : ∃ n, n = MID.length := ⟨_, rfl⟩
     have HN3 := hid hn3
     have hle3 : n3q ≤ 300 := by rw [hn3]; exact HMID.out
     have HO3 : Hid (w3.ownsRow W0.heap.size 45 3 vm n3q (tkc MID)) := by rw [hn3]; exact ToksIs.base h HB2.out.size
     obtain ⟨L3, hL3⟩ : ∃ L, L = MID := ⟨_, rfl⟩
     rw [← hL3] at HO3 HN3
     have HL3 := hid hL3
     clear hn3 hL3
     have HB3 : Hid (Below W0.heap.size W0 w3) := by
      obtain ⟨_, _, _, h3⟩ := h
      exact HB2.out.trans (h3.mono HB2.out.size)
     obtain ⟨oa3, oc3, rfl⟩ := own_shape HO3.out
     clear h x0 x1 x2 x3 x4 x5 x6 x7 x8 x9 x10 x11 HM6
     obtain ⟨x0, x1, x2, x3, x4, x5, x6, x7, x8, x9, x10, x11⟩ := HNW.out _ HB3.out
     simp only at x0 x1 x2 x3 x4 x5 x6 x7 x8 x9 x10 x11
     go_wp2_with fail
     refine (plain1 w3 (HM.out _ HB3.out) sDESC (by decide) w3.heap.size rfl).mono ?_
     rintro e4 y4 ⟨v4, rfl, h1, h2⟩
     have HR4 := hid (Rd.own h1)
     have HY4 := hid (own_below HO3.out h2)
     have HZ4 := hid (HB3.out.trans (h2.mono HB3.out.size))
     have hz4 := HZ4.out.size
     clear h1 h2 HO3 HB3 x0 x1 x2 x3 x4 x5 x6 x7 x8 x9 x10 x11
     go_wp2_with (at_builtin; refine aptk y4 L3 [ptk sDESC] n3q HN3 rfl _ _ rfl HY4.out HR4.out hz4 (by omega) (by simp) rfl rfl ?_; intro u4 w4 L4 n4q HL4 HN4 hle4 hown hb; have hle4 : n4q ≤ n3q + 1 := hle4; have HO4 := hid hown; have HB4 := hid (HZ4.out.trans hb); obtain ⟨x0, x1, x2, x3, x4, x5, x6, x7, x8, x9, x10, x11⟩ := HNW.out _ HB4.out; simp only at x0 x1 x2 x3 x4 x5 x6 x7 x8 x9 x10 x11; obtain ⟨oa4, oc4, rfl⟩ := own_shape hown; clear hown hb)
     go_wp2_with fail
     go_ret
     have HQ : SEL = L4 := by
      rw [HS.out, hoE, hdE, hlE, HL4.out, HL3.out]
      simp [hlim]
     rw [HQ]
     refine ⟨_, rfl, ?_, HB0.out.trans (HB4.out.mono (Nat.le_of_lt HSZ.out))⟩
     rw [← HN4.out]
     exact own_mono HO4.out (Nat.le_of_lt HSZ.out)
  ·have hz0 := trivial
   cases e
   ·cases dn
    ·go_enter Tryd.func39, Tryd.ntmps39
     go_wp2_with fail
     rw [← HWE.out]
     refine HPS.out.mono ?_
     rintro e0 w1 ⟨v1, rfl, h1, h2⟩
     obtain ⟨L1, hL1⟩ : ∃ L, L = [ptk sSELECT] := ⟨_, rfl⟩
     obtain ⟨n1q, hn1⟩ : ∃ n, n = [ptk sSELECT].length := ⟨_, rfl⟩
     have hle1 : n1q ≤ 1 := by rw [hn1]; exact Nat.le_refl _
     rw [← hn1, ← hL1] at h1
     rw [← hL1] at hn1
     have HL1 := hid hL1
     have HN1 := hid hn1
     have HO1 := hid h1
     have HB1 := hid h2
     obtain ⟨oa1, oc1, rfl⟩ := own_shape h1
     clear hL1 hn1
     obtain ⟨x0, x1, x2, x3, x4, x5, x6, x7, x8, x9, x10, x11⟩ := HNW.out _ HB1.out
     simp only at x0 x1 x2 x3 x4 x5 x6 x7 x8 x9 x10 x11
     clear h1 h2 HPS
     go_wp2_with fail
     change Code.wp _ ((regionOf 6 (Tryd.f39.body.getD .skip)).getD .skip) _ _ _
     have HM6 : Hid (MID = L1 ++ (BT ++ ([ptk sFROM, ptk t] ++ WT))) := by
      show _ = _
      rw [HMI.out, hwE, HL1.out]
      rw [if_neg (by simp), if_neg h0]
      rfl
     refine sel6 _ w1 w.heap.size (Nat.lt_of_lt_of_le HSZ.out HB1.out.size) t oa1 n1q oc1 a4 n4 c4 a6 n6 c6 L1 BT WT x4 x1 x6 (Rd.own HO1.out) (plainH _ (HM.out _ HB1.out) [sFROM, t] 2 (by omega) (by omega) (by simp; exact ⟨by decide, ht⟩) [ptk sFROM, ptk t] rfl) (hid fun W hW => HBN.out W (HB1.out.trans (hW.mono HB1.out.size))) (hid fun W hW => HWH.out W (HB1.out.trans (hW.mono HB1.out.size))) (hid (by show _ ≤ _; have := HW6.out; have := HN1.out; simp only [List.length_append, List.length_cons, List.length_nil]; omega)) (hid ?_)
     intro z22 z23 z24 z25 z26 z27 z28 z29 z30 z31 z32 z33 z34 vm w3 h
     rw [← HM6.out] at h
     obtain ⟨n3q, hn3⟩ : ∃ n, n = MID.length := ⟨_, rfl⟩
     have HN3 := hid hn3
     have hle3 : n3q ≤ 300 := by rw [hn3]; exact HMID.out
     have HO3 : Hid (w3.ownsRow W0.heap.size 45 3 vm n3q (tkc MID)) := by rw [hn3]; exact ToksIs.base h HB1.out.size
     obtain ⟨L3, hL3⟩ : ∃ L, L = MID := ⟨_, rfl⟩
     rw [← hL3] at HO3 HN3
     have HL3 := hid hL3
     clear hn3 hL3
     have HB3 : Hid (Below W0.heap.size W0 w3) := by
      obtain ⟨_, _, _, h3⟩ := h
      exact HB1.out.trans (h3.mono HB1.out.size)
     obtain ⟨oa3, oc3, rfl⟩ := own_shape HO3.out
     clear h x0 x1 x2 x3 x4 x5 x6 x7 x8 x9 x10 x11 HM6
     obtain ⟨x0, x1, x2, x3, x4, x5, x6, x7, x8, x9, x10, x11⟩ := HNW.out _ HB3.out
     simp only at x0 x1 x2 x3 x4 x5 x6 x7 x8 x9 x10 x11
     go_wp2_with fail
     refine (plain3 w3 (HM.out _ HB3.out) sORDER sBY ord (by decide) (by decide) hord w3.heap.size rfl).mono ?_
     rintro e4 y4 ⟨v4, rfl, h1, h2⟩
     have HR4 := hid (Rd.own h1)
     have HY4 := hid (own_below HO3.out h2)
     have HZ4 := hid (HB3.out.trans (h2.mono HB3.out.size))
     have hz4 := HZ4.out.size
     clear h1 h2 HO3 HB3 x0 x1 x2 x3 x4 x5 x6 x7 x8 x9 x10 x11
     go_wp2_with (at_builtin; refine aptk y4 L3 [ptk sORDER, ptk sBY, ptk ord] n3q HN3 rfl _ _ rfl HY4.out HR4.out hz4 (by omega) (by simp) rfl rfl ?_; intro u4 w4 L4 n4q HL4 HN4 hle4 hown hb; have hle4 : n4q ≤ n3q + 3 := hle4; have HO4 := hid hown; have HB4 := hid (HZ4.out.trans hb); obtain ⟨x0, x1, x2, x3, x4, x5, x6, x7, x8, x9, x10, x11⟩ := HNW.out _ HB4.out; simp only at x0 x1 x2 x3 x4 x5 x6 x7 x8 x9 x10 x11; obtain ⟨oa4, oc4, rfl⟩ := own_shape hown; clear hown hb)
     go_wp2_with fail
     go_ret
     have HQ : SEL = L4 := by
      rw [HS.out, hoE, hdE, hlE, HL4.out, HL3.out]
      simp [hlim]
     rw [HQ]
     refine ⟨_, rfl, ?_, HB0.out.trans (HB4.out.mono (Nat.le_of_lt HSZ.out))⟩
     rw [← HN4.out]
     exact own_mono HO4.out (Nat.le_of_lt HSZ.out)
    ·go_enter Tryd.func39, Tryd.ntmps39
     go_wp2_with fail
     rw [← HWE.out]
     refine HPS.out.mono ?_
     rintro e0 w1 ⟨v1, rfl, h1, h2⟩
     obtain ⟨L1, hL1⟩ : ∃ L, L = [ptk sSELECT] := ⟨_, rfl⟩
     obtain ⟨n1q, hn1⟩ : ∃ n, n = [ptk sSELECT].length := ⟨_, rfl⟩
     have hle1 : n1q ≤ 1 := by rw [hn1]; exact Nat.le_refl _
     rw [← hn1, ← hL1] at h1
     rw [← hL1] at hn1
     have HL1 := hid hL1
     have HN1 := hid hn1
     have HO1 := hid h1
     have HB1 := hid h2
     obtain ⟨oa1, oc1, rfl⟩ := own_shape h1
     clear hL1 hn1
     obtain ⟨x0, x1, x2, x3, x4, x5, x6, x7, x8, x9, x10, x11⟩ := HNW.out _ HB1.out
     simp only at x0 x1 x2 x3 x4 x5 x6 x7 x8 x9 x10 x11
     clear h1 h2 HPS
     go_wp2_with fail
     change Code.wp _ ((regionOf 6 (Tryd.f39.body.getD .skip)).getD .skip) _ _ _
     have HM6 : Hid (MID = L1 ++ (BT ++ ([ptk sFROM, ptk t] ++ WT))) := by
      show _ = _
      rw [HMI.out, hwE, HL1.out]
      rw [if_neg (by simp), if_neg h0]
      rfl
     refine sel6 _ w1 w.heap.size (Nat.lt_of_lt_of_le HSZ.out HB1.out.size) t oa1 n1q oc1 a4 n4 c4 a6 n6 c6 L1 BT WT x4 x1 x6 (Rd.own HO1.out) (plainH _ (HM.out _ HB1.out) [sFROM, t] 2 (by omega) (by omega) (by simp; exact ⟨by decide, ht⟩) [ptk sFROM, ptk t] rfl) (hid fun W hW => HBN.out W (HB1.out.trans (hW.mono HB1.out.size))) (hid fun W hW => HWH.out W (HB1.out.trans (hW.mono HB1.out.size))) (hid (by show _ ≤ _; have := HW6.out; have := HN1.out; simp only [List.length_append, List.length_cons, List.length_nil]; omega)) (hid ?_)
     intro z22 z23 z24 z25 z26 z27 z28 z29 z30 z31 z32 z33 z34 vm w3 h
     rw [← HM6.out] at h
     obtain ⟨n3q, hn3⟩ : ∃ n, n = MID.length := ⟨_, rfl⟩
     have HN3 := hid hn3
     have hle3 : n3q ≤ 300 := by rw [hn3]; exact HMID.out
     have HO3 : Hid (w3.ownsRow W0.heap.size 45 3 vm n3q (tkc MID)) := by rw [hn3]; exact ToksIs.base h HB1.out.size
     obtain ⟨L3, hL3⟩ : ∃ L, L = MID := ⟨_, rfl⟩
     rw [← hL3] at HO3 HN3
     have HL3 := hid hL3
     clear hn3 hL3
     have HB3 : Hid (Below W0.heap.size W0 w3) := by
      obtain ⟨_, _, _, h3⟩ := h
      exact HB1.out.trans (h3.mono HB1.out.size)
     obtain ⟨oa3, oc3, rfl⟩ := own_shape HO3.out
     clear h x0 x1 x2 x3 x4 x5 x6 x7 x8 x9 x10 x11 HM6
     obtain ⟨x0, x1, x2, x3, x4, x5, x6, x7, x8, x9, x10, x11⟩ := HNW.out _ HB3.out
     simp only at x0 x1 x2 x3 x4 x5 x6 x7 x8 x9 x10 x11
     go_wp2_with fail
     refine (plain3 w3 (HM.out _ HB3.out) sORDER sBY ord (by decide) (by decide) hord w3.heap.size rfl).mono ?_
     rintro e4 y4 ⟨v4, rfl, h1, h2⟩
     have HR4 := hid (Rd.own h1)
     have HY4 := hid (own_below HO3.out h2)
     have HZ4 := hid (HB3.out.trans (h2.mono HB3.out.size))
     have hz4 := HZ4.out.size
     clear h1 h2 HO3 HB3 x0 x1 x2 x3 x4 x5 x6 x7 x8 x9 x10 x11
     go_wp2_with (at_builtin; refine aptk y4 L3 [ptk sORDER, ptk sBY, ptk ord] n3q HN3 rfl _ _ rfl HY4.out HR4.out hz4 (by omega) (by simp) rfl rfl ?_; intro u4 w4 L4 n4q HL4 HN4 hle4 hown hb; have hle4 : n4q ≤ n3q + 3 := hle4; have HO4 := hid hown; have HB4 := hid (HZ4.out.trans hb); obtain ⟨x0, x1, x2, x3, x4, x5, x6, x7, x8, x9, x10, x11⟩ := HNW.out _ HB4.out; simp only at x0 x1 x2 x3 x4 x5 x6 x7 x8 x9 x10 x11; obtain ⟨oa4, oc4, rfl⟩ := own_shape hown; clear hown hb)
     go_wp2_with fail
     refine (plain1 w4 (HM.out _ HB4.out) sDESC (by decide) w4.heap.size rfl).mono ?_
     rintro e5 y5 ⟨v5, rfl, h1, h2⟩
     have HR5 := hid (Rd.own h1)
     have HY5 := hid (own_below HO4.out h2)
     have HZ5 := hid (HB4.out.trans (h2.mono HB4.out.size))
     have hz5 := HZ5.out.size
     clear h1 h2 HO4 HB4 x0 x1 x2 x3 x4 x5 x6 x7 x8 x9 x10 x11
     go_wp2_with (at_builtin; refine aptk y5 L4 [ptk sDESC] n4q HN4 rfl _ _ rfl HY5.out HR5.out hz5 (by omega) (by simp) rfl rfl ?_; intro u5 w5 L5 n5q HL5 HN5 hle5 hown hb; have hle5 : n5q ≤ n4q + 1 := hle5; have HO5 := hid hown; have HB5 := hid (HZ5.out.trans hb); obtain ⟨x0, x1, x2, x3, x4, x5, x6, x7, x8, x9, x10, x11⟩ := HNW.out _ HB5.out; simp only at x0 x1 x2 x3 x4 x5 x6 x7 x8 x9 x10 x11; obtain ⟨oa5, oc5, rfl⟩ := own_shape hown; clear hown hb)
     go_wp2_with fail
     go_ret
     have HQ : SEL = L5 := by
      rw [HS.out, hoE, hdE, hlE, HL5.out, HL4.out, HL3.out]
      simp [hlim]
     rw [HQ]
     refine ⟨_, rfl, ?_, HB0.out.trans (HB5.out.mono (Nat.le_of_lt HSZ.out))⟩
     rw [← HN5.out]
     exact own_mono HO5.out (Nat.le_of_lt HSZ.out)
   ·cases dn
    ·go_enter Tryd.func39, Tryd.ntmps39
     go_wp2_with fail
     rw [← HWE.out]
     refine HPS.out.mono ?_
     rintro e0 w1 ⟨v1, rfl, h1, h2⟩
     obtain ⟨L1, hL1⟩ : ∃ L, L = [ptk sSELECT] := ⟨_, rfl⟩
     obtain ⟨n1q, hn1⟩ : ∃ n, n = [ptk sSELECT].length := ⟨_, rfl⟩
     have hle1 : n1q ≤ 1 := by rw [hn1]; exact Nat.le_refl _
     rw [← hn1, ← hL1] at h1
     rw [← hL1] at hn1
     have HL1 := hid hL1
     have HN1 := hid hn1
     have HO1 := hid h1
     have HB1 := hid h2
     obtain ⟨oa1, oc1, rfl⟩ := own_shape h1
     clear hL1 hn1
     obtain ⟨x0, x1, x2, x3, x4, x5, x6, x7, x8, x9, x10, x11⟩ := HNW.out _ HB1.out
     simp only at x0 x1 x2 x3 x4 x5 x6 x7 x8 x9 x10 x11
     clear h1 h2 HPS
     go_wp2_with fail
     change Code.wp _ ((regionOf 6 (Tryd.f39.body.getD .skip)).getD .skip) _ _ _
     have HM6 : Hid (MID = L1 ++ (BT ++ ([ptk sFROM, ptk t] ++ WT))) := by
      show _ = _
      rw [HMI.out, hwE, HL1.out]
      rw [if_neg (by simp), if_neg h0]
      rfl
     refine sel6 _ w1 w.heap.size (Nat.lt_of_lt_of_le HSZ.out HB1.out.size) t oa1 n1q oc1 a4 n4 c4 a6 n6 c6 L1 BT WT x4 x1 x6 (Rd.own HO1.out) (plainH _ (HM.out _ HB1.out) [sFROM, t] 2 (by omega) (by omega) (by simp; exact ⟨by decide, ht⟩) [ptk sFROM, ptk t] rfl) (hid fun W hW => HBN.out W (HB1.out.trans (hW.mono HB1.out.size))) (hid fun W hW => HWH.out W (HB1.out.trans (hW.mono HB1.out.size))) (hid (by show _ ≤ _; have := HW6.out; have := HN1.out; simp only [List.length_append, List.length_cons, List.length_nil]; omega)) (hid ?_)
     intro z22 z23 z24 z25 z26 z27 z28 z29 z30 z31 z32 z33 z34 vm w3 h
     rw [← HM6.out] at h
     obtain ⟨n3q, hn3⟩ : ∃ n, n = MID.length := ⟨_, rfl⟩
     have HN3 := hid hn3
     have hle3 : n3q ≤ 300 := by rw [hn3]; exact HMID.out
     have HO3 : Hid (w3.ownsRow W0.heap.size 45 3 vm n3q (tkc MID)) := by rw [hn3]; exact ToksIs.base h HB1.out.size
     obtain ⟨L3, hL3⟩ : ∃ L, L = MID := ⟨_, rfl⟩
     rw [← hL3] at HO3 HN3
     have HL3 := hid hL3
     clear hn3 hL3
     have HB3 : Hid (Below W0.heap.size W0 w3) := by
      obtain ⟨_, _, _, h3⟩ := h
      exact HB1.out.trans (h3.mono HB1.out.size)
     obtain ⟨oa3, oc3, rfl⟩ := own_shape HO3.out
     clear h x0 x1 x2 x3 x4 x5 x6 x7 x8 x9 x10 x11 HM6
     obtain ⟨x0, x1, x2, x3, x4, x5, x6, x7, x8, x9, x10, x11⟩ := HNW.out _ HB3.out
     simp only at x0 x1 x2 x3 x4 x5 x6 x7 x8 x9 x10 x11
     go_wp2_with fail
     go_ret
     have HQ : SEL = L3 := by
      rw [HS.out, hoE, hdE, hlE, HL3.out]
      simp [hlim]
     rw [HQ]
     refine ⟨_, rfl, ?_, HB0.out.trans (HB3.out.mono (Nat.le_of_lt HSZ.out))⟩
     rw [← HN3.out]
     exact own_mono HO3.out (Nat.le_of_lt HSZ.out)
    ·go_enter Tryd.func39, Tryd.ntmps39
     go_wp2_with fail
     rw [← HWE.out]
     refine HPS.out.mono ?_
     rintro e0 w1 ⟨v1, rfl, h1, h2⟩
     obtain ⟨L1, hL1⟩ : ∃ L, L = [ptk sSELECT] := ⟨_, rfl⟩
     obtain ⟨n1q, hn1⟩ : ∃ n, n = [ptk sSELECT].length := ⟨_, rfl⟩
     have hle1 : n1q ≤ 1 := by rw [hn1]; exact Nat.le_refl _
     rw [← hn1, ← hL1] at h1
     rw [← hL1] at hn1
     have HL1 := hid hL1
     have HN1 := hid hn1
     have HO1 := hid h1
     have HB1 := hid h2
     obtain ⟨oa1, oc1, rfl⟩ := own_shape h1
     clear hL1 hn1
     obtain ⟨x0, x1, x2, x3, x4, x5, x6, x7, x8, x9, x10, x11⟩ := HNW.out _ HB1.out
     simp only at x0 x1 x2 x3 x4 x5 x6 x7 x8 x9 x10 x11
     clear h1 h2 HPS
     go_wp2_with fail
     change Code.wp _ ((regionOf 6 (Tryd.f39.body.getD .skip)).getD .skip) _ _ _
     have HM6 : Hid (MID = L1 ++ (BT ++ ([ptk sFROM, ptk t] ++ WT))) := by
      show _ = _
      rw [HMI.out, hwE, HL1.out]
      rw [if_neg (by simp), if_neg h0]
      rfl
     refine sel6 _ w1 w.heap.size (Nat.lt_of_lt_of_le HSZ.out HB1.out.size) t oa1 n1q oc1 a4 n4 c4 a6 n6 c6 L1 BT WT x4 x1 x6 (Rd.own HO1.out) (plainH _ (HM.out _ HB1.out) [sFROM, t] 2 (by omega) (by omega) (by simp; exact ⟨by decide, ht⟩) [ptk sFROM, ptk t] rfl) (hid fun W hW => HBN.out W (HB1.out.trans (hW.mono HB1.out.size))) (hid fun W hW => HWH.out W (HB1.out.trans (hW.mono HB1.out.size))) (hid (by show _ ≤ _; have := HW6.out; have := HN1.out; simp only [List.length_append, List.length_cons, List.length_nil]; omega)) (hid ?_)
     intro z22 z23 z24 z25 z26 z27 z28 z29 z30 z31 z32 z33 z34 vm w3 h
     rw [← HM6.out] at h
     obtain ⟨n3q, hn3⟩ : ∃ n, n = MID.length := ⟨_, rfl⟩
     have HN3 := hid hn3
     have hle3 : n3q ≤ 300 := by rw [hn3]; exact HMID.out
     have HO3 : Hid (w3.ownsRow W0.heap.size 45 3 vm n3q (tkc MID)) := by rw [hn3]; exact ToksIs.base h HB1.out.size
     obtain ⟨L3, hL3⟩ : ∃ L, L = MID := ⟨_, rfl⟩
     rw [← hL3] at HO3 HN3
     have HL3 := hid hL3
     clear hn3 hL3
     have HB3 : Hid (Below W0.heap.size W0 w3) := by
      obtain ⟨_, _, _, h3⟩ := h
      exact HB1.out.trans (h3.mono HB1.out.size)
     obtain ⟨oa3, oc3, rfl⟩ := own_shape HO3.out
     clear h x0 x1 x2 x3 x4 x5 x6 x7 x8 x9 x10 x11 HM6
     obtain ⟨x0, x1, x2, x3, x4, x5, x6, x7, x8, x9, x10, x11⟩ := HNW.out _ HB3.out
     simp only at x0 x1 x2 x3 x4 x5 x6 x7 x8 x9 x10 x11
     go_wp2_with fail
     refine (plain1 w3 (HM.out _ HB3.out) sDESC (by decide) w3.heap.size rfl).mono ?_
     rintro e4 y4 ⟨v4, rfl, h1, h2⟩
     have HR4 := hid (Rd.own h1)
     have HY4 := hid (own_below HO3.out h2)
     have HZ4 := hid (HB3.out.trans (h2.mono HB3.out.size))
     have hz4 := HZ4.out.size
     clear h1 h2 HO3 HB3 x0 x1 x2 x3 x4 x5 x6 x7 x8 x9 x10 x11
     go_wp2_with (at_builtin; refine aptk y4 L3 [ptk sDESC] n3q HN3 rfl _ _ rfl HY4.out HR4.out hz4 (by omega) (by simp) rfl rfl ?_; intro u4 w4 L4 n4q HL4 HN4 hle4 hown hb; have hle4 : n4q ≤ n3q + 1 := hle4; have HO4 := hid hown; have HB4 := hid (HZ4.out.trans hb); obtain ⟨x0, x1, x2, x3, x4, x5, x6, x7, x8, x9, x10, x11⟩ := HNW.out _ HB4.out; simp only at x0 x1 x2 x3 x4 x5 x6 x7 x8 x9 x10 x11; obtain ⟨oa4, oc4, rfl⟩ := own_shape hown; clear hown hb)
     go_wp2_with fail
     go_ret
     have HQ : SEL = L4 := by
      rw [HS.out, hoE, hdE, hlE, HL4.out, HL3.out]
      simp [hlim]
     rw [HQ]
     refine ⟨_, rfl, ?_, HB0.out.trans (HB4.out.mono (Nat.le_of_lt HSZ.out))⟩
     rw [← HN4.out]
     exact own_mono HO4.out (Nat.le_of_lt HSZ.out)
theorem st_at' {l : List ByteArray} {k : Nat} (h : k < l.length) : (l.map Value.string)[k]? = some (.string (l.getD k nby)) := st_at h
theorem checkSelect_any (w : World) (hT : Tbs w) (s : Sq) (p : Ps) (hr : StR w s p) (hz : SqZ s) :
  Calls Tryd.prog 45 #[stV s p] w fun e w' => e = .returned (.int .i64 (selF s)) ∧ Below w.heap.size w w' := by
 obtain ⟨l2, l3, l4, l6, l11⟩ := hr.lens
 have hb0 : Below w.heap.size w (w.alloc (.cells (stC s p) 33)) := (Below.refl _ _).alloc (Nat.le_refl _) _
 have hnew := fun w1 hb => StB.new w s p (w1 := w1) hb
 obtain ⟨k, t, cols, row, names, cnt, wh, ord, dn, lim, st, to⟩ := s
 obtain ⟨a2, n2, c2, a3, n3, c3, a4, n4, c4, a6, n6, c6, a11, n11, c11⟩ := p
 obtain ⟨r2, r3, r4, r6, r11⟩ := hr
 obtain ⟨zt, zo, ze, zc, zr, zn, zh, zx⟩ := hz
 simp only at l2 l3 l4 l6 l11 r2 r3 r4 r6 r11 zt zo ze zc zr zn zh zx
 have hF : selF ⟨k, t, cols, row, names, cnt, wh, ord, dn, lim, st, to⟩ = if sel0 n4 lim cnt dn ord ≠ 0 then sel0 n4 lim cnt dn ord else f3 (nmsF names) (whF wh) (ordF ord) := by
  unfold selF
  simp only [l4]
 have HF := hid hF
 have hm4 := r4.len
 unfold maxLen at hm4
 have HW : Hid (∀ W, Below w.heap.size w W → Calls Tryd.prog 48 #[.slice a6 n6 c6] W fun e w' => e = .returned (.int .i64 (whF wh)) ∧ Below W.heap.size W w') := fun W hW => checkWhere_any W (hT.below hW) n6 _ wh (r6.below hW) (fun o ho => (zh o ho).2.2)
 have HO : Hid (∀ W, Below w.heap.size w W → Calls Tryd.prog 25 #[.string ord] W fun e w' => e = .returned (.int .i64 (nmF ord.data.toList)) ∧ Below W.heap.size W w') := fun W hW => name_any W (hT.m.below hW) (hT.k.below hW) ord zo
 have HN : Hid (∀ x ∈ names, ∀ W, Below w.heap.size w W → Calls Tryd.prog 25 #[.string x] W fun e w' => e = .returned (.int .i64 (nmF x.data.toList)) ∧ Below W.heap.size W w') := fun x hx W hW => name_any W (hT.m.below hW) (hT.k.below hW) x (zn x hx)
 have HR4 := hid r4
 have HL4 := hid l4
 have HB0 := hid hb0
 have HNEW := hid hnew
 clear hF l2 l3 l4 l6 l11 r2 r3 r4 r6 r11 zt zo ze zc zr zn zh zx hT hb0 hnew
 by_cases h6 : 6 < n4
 ·have HG : Hid (sel0 n4 lim cnt dn ord = 1) := by
   show _ = _
   unfold sel0
   rw [if_pos h6]
  go_enter Tryd.func45, Tryd.ntmps45
  go_wp2_with fail
  go_ret
  exact ⟨ri (by rw [HF.out, HG.out]; rfl), HB0.out⟩
 by_cases hlim : lim < -1
 ·have HG : Hid (sel0 n4 lim cnt dn ord = 3) := by
   show _ = _
   unfold sel0
   rw [if_neg h6, if_pos hlim]
  go_enter Tryd.func45, Tryd.ntmps45
  go_wp2_with fail
  go_ret
  exact ⟨ri (by rw [HF.out, HG.out]; rfl), HB0.out⟩
 obtain ⟨e, he⟩ : ∃ e, e = ord.toList.isEmpty := ⟨_, rfl⟩
 have HE : Hid (em ord = e) := by show _ = _; rw [he]; rfl
 replace he := he.symm
 by_cases hbad : (cnt = true ∧ 0 < n4) ∨ (dn = true ∧ e = true)
 ·have HG : Hid (sel0 n4 lim cnt dn ord = 6) := by
   show _ = _
   unfold sel0
   rw [if_neg h6, if_neg hlim, HE.out, if_pos hbad]
  rcases hbad with ⟨rfl, h0⟩ | ⟨rfl, rfl⟩
  ·go_enter Tryd.func45, Tryd.ntmps45
   go_wp2_with fail
   all_goals (
    go_ret
    exact ⟨ri (by rw [HF.out, HG.out]; rfl), HB0.out⟩)
  ·cases cnt
   ·go_enter Tryd.func45, Tryd.ntmps45
    go_wp2_with fail
    all_goals (
     go_ret
     exact ⟨ri (by rw [HF.out, HG.out]; rfl), HB0.out⟩)
   ·by_cases h0 : 0 < n4
    ·go_enter Tryd.func45, Tryd.ntmps45
     go_wp2_with fail
     all_goals (
      go_ret
      exact ⟨ri (by rw [HF.out, HG.out]; rfl), HB0.out⟩)
    ·go_enter Tryd.func45, Tryd.ntmps45
     go_wp2_with fail
     all_goals (
      go_ret
      exact ⟨ri (by rw [HF.out, HG.out]; rfl), HB0.out⟩)
 ·have HG : Hid (selF ⟨k, t, cols, row, names, cnt, wh, ord, dn, lim, st, to⟩ = f3 (nmsF names) (whF wh) (ordF ord)) := by
   show _ = _
   rw [HF.out]
   have : sel0 n4 lim cnt dn ord = 0 := by
    unfold sel0
    rw [if_neg h6, if_neg hlim, HE.out, if_neg hbad]
   rw [this]
   simp
  have hc : cnt = false ∨ (cnt = true ∧ n4 = 0) := by
   cases cnt
   ·exact .inl rfl
   ·refine .inr ⟨rfl, ?_⟩
    by_cases h : 0 < n4
    ·exact absurd (.inl ⟨rfl, h⟩) hbad
    ·omega
  have hd : dn = false ∨ (dn = true ∧ e = false) := by
   cases dn
   ·exact .inl rfl
   ·refine .inr ⟨rfl, ?_⟩
    cases e
    ·rfl
    ·exact absurd (.inr ⟨rfl, rfl⟩) hbad
  clear HF hbad
  obtain ⟨W0, hW0⟩ : ∃ W0, W0 = w.alloc (.cells (stC ⟨k, t, cols, row, names, cnt, wh, ord, dn, lim, st, to⟩ ⟨a2, n2, c2, a3, n3, c3, a4, n4, c4, a6, n6, c6, a11, n11, c11⟩) 33) := ⟨_, rfl⟩
  have HNW : Hid (∀ w1, Below W0.heap.size W0 w1 → StB w1 w.heap.size ⟨k, t, cols, row, names, cnt, wh, ord, dn, lim, st, to⟩ ⟨a2, n2, c2, a3, n3, c3, a4, n4, c4, a6, n6, c6, a11, n11, c11⟩) := fun w1 hb => HNEW.out w1 (by rw [← hW0]; exact hb)
  have HBW : Hid (Below w.heap.size w W0) := by show Below _ _ _; rw [hW0]; exact HB0.out
  have HWE := hid hW0
  clear hW0 HNEW HB0
  rcases hc with rfl | ⟨rfl, rfl⟩
  ·rcases hd with rfl | ⟨rfl, rfl⟩
   ·go_enter Tryd.func45, Tryd.ntmps45
    go_wp2_with fail
    rw [← HWE.out]
    go_loopw [37] (fun i wr => ∃ j : Nat, j ≤ n4 ∧ i = .int .i64 (j : Int) ∧ Hid (nmsF names = nmsF (names.drop j)) ∧ Hid (Below W0.heap.size W0 wr)) (fun i _ => n4 - (intOf i).toNat)
    case atStart => exact ⟨0, by omega, rfl, by simp [Hid], Below.refl _ _⟩
    case round =>
     obtain ⟨j, hj, rfl, HX, HB⟩ := hrel
     by_cases hlt : j < n4
     ·first
      | omega
      | (obtain ⟨b, o, cap, hv, _, _, hbw, hcell⟩ := HR4.out.pos (by omega) (by omega)
         simp only [Value.slice.injEq] at hv
         obtain ⟨rfl, -, rfl⟩ := hv
         have hll : j < names.length := by rw [← HL4.out]; exact hlt
         have c0 := (HB.out.cell (p := ⟨b, o + j, none⟩) (Nat.lt_of_lt_of_le hbw HBW.out.size)).trans ((HBW.out.cell (p := ⟨b, o + j, none⟩) hbw).trans (hcell _ _ (st_at' hll)))
         have hmem := sgetD_mem hll
         have hdr := sdrop_cons hll
         obtain ⟨x, hx⟩ : ∃ x, x = names.getD j nby := ⟨_, rfl⟩
         rw [← hx] at c0 hmem hdr
         have hc := HN.out x hmem wr (into HBW.out HB.out)
         have hE : nmsF (names.drop j) = if nmF x.data.toList ≠ 0 then nmF x.data.toList else nmsF (names.drop (j + 1)) := by rw [hdr]; rfl
         obtain ⟨r, hr⟩ : ∃ r, r = nmF x.data.toList := ⟨_, rfl⟩
         rw [← hr] at hc hE
         have HC := hid hc
         have HEQ := hid hE
         clear hcell hx hmem hdr hc hE hr hll
         by_cases hr0 : r = 0
         ·subst hr0
          go_wp2_with (go_at_call 25; ((with_reducible refine HC.out.mono ?_); rintro e w2 ⟨rfl, hb2⟩; have HB2 := hid (HB.out.trans (hb2.mono HB.out.size)); clear hb2))
          go_roundw
          case rel => exact ⟨j + 1, by omega, by go_num, by show _ = _; rw [HX.out, HEQ.out]; rfl, HB2.out⟩
          case measure => simp [intOf]; omega
         ·have hr0' : (r == 0) = false := by simpa using hr0
          go_wp2_with (go_at_call 25; ((with_reducible refine HC.out.mono ?_); rintro e w2 ⟨rfl, hb2⟩; have HB2 := hid (HB.out.trans (hb2.mono HB.out.size)); clear hb2))
          go_ret
          refine ⟨ri ?_, into HBW.out HB2.out⟩
          rw [HG.out, HX.out, HEQ.out]
          unfold f3
          rw [if_pos hr0, if_pos hr0])
     ·obtain rfl : j = n4 := by omega
      have HQ : Hid (selF ⟨k, t, cols, row, names, false, wh, ord, false, lim, st, to⟩ = if whF wh ≠ 0 then whF wh else ordF ord) := by
       show _ = _
       rw [HG.out, HX.out, List.drop_eq_nil_of_le (by rw [← HL4.out]; exact Nat.le_refl _)]
       rfl
      obtain ⟨x0, x1, x2, x3, x4, x5, x6, x7, x8, x9, x10, x11⟩ := HNW.out wr HB.out
      have hc := HW.out wr (into HBW.out HB.out)
      obtain ⟨r, hr⟩ : ∃ r, r = whF wh := ⟨_, rfl⟩
      rw [← hr] at hc HQ
      have HC := hid hc
      clear hc hr HX HG
      simp only at x0 x1 x2 x3 x4 x5 x6 x7 x8 x9 x10 x11
      go_wp2_with fail
      refine HC.out.mono ?_
      rintro e2 w2 ⟨rfl, hb2⟩
      have HB2 := hid (HB.out.trans (hb2.mono HB.out.size))
      clear hb2 x0 x1 x2 x3 x4 x5 x6 x7 x8 x9 x10 x11
      obtain ⟨x0, x1, x2, x3, x4, x5, x6, x7, x8, x9, x10, x11⟩ := HNW.out w2 HB2.out
      simp only at x0 x1 x2 x3 x4 x5 x6 x7 x8 x9 x10 x11
      by_cases hr0 : r = 0
      ·subst hr0
       have HO2 := hid (HO.out w2 (into HBW.out HB2.out))
       cases e
       ·have HZ : Hid (ordF ord = nmF ord.data.toList) := by
         show _ = _
         unfold ordF
         rw [HE.out]
         rfl
        go_wp2_with fail
        refine HO2.out.mono ?_
        rintro e3 w3 ⟨rfl, hb3⟩
        go_wp2_with fail
        go_ret
        exact ⟨ri (by rw [HQ.out, HZ.out]; rfl), into HBW.out (HB2.out.trans (hb3.mono HB2.out.size))⟩
       ·have HZ : Hid (ordF ord = 0) := by
         show _ = _
         unfold ordF
         rw [HE.out]
         rfl
        go_wp2_with fail
        go_ret
        exact ⟨ri (by rw [HQ.out, HZ.out]; rfl), into HBW.out HB2.out⟩
      ·have hr0' : (r == 0) = false := by simpa using hr0
       go_wp2_with fail
       go_ret
       exact ⟨ri (by rw [HQ.out, if_pos hr0]), into HBW.out HB2.out⟩
   ·go_enter Tryd.func45, Tryd.ntmps45
    go_wp2_with fail
    rw [← HWE.out]
    go_loopw [37] (fun i wr => ∃ j : Nat, j ≤ n4 ∧ i = .int .i64 (j : Int) ∧ Hid (nmsF names = nmsF (names.drop j)) ∧ Hid (Below W0.heap.size W0 wr)) (fun i _ => n4 - (intOf i).toNat)
    case atStart => exact ⟨0, by omega, rfl, by simp [Hid], Below.refl _ _⟩
    case round =>
     obtain ⟨j, hj, rfl, HX, HB⟩ := hrel
     by_cases hlt : j < n4
     ·first
      | omega
      | (obtain ⟨b, o, cap, hv, _, _, hbw, hcell⟩ := HR4.out.pos (by omega) (by omega)
         simp only [Value.slice.injEq] at hv
         obtain ⟨rfl, -, rfl⟩ := hv
         have hll : j < names.length := by rw [← HL4.out]; exact hlt
         have c0 := (HB.out.cell (p := ⟨b, o + j, none⟩) (Nat.lt_of_lt_of_le hbw HBW.out.size)).trans ((HBW.out.cell (p := ⟨b, o + j, none⟩) hbw).trans (hcell _ _ (st_at' hll)))
         have hmem := sgetD_mem hll
         have hdr := sdrop_cons hll
         obtain ⟨x, hx⟩ : ∃ x, x = names.getD j nby := ⟨_, rfl⟩
         rw [← hx] at c0 hmem hdr
         have hc := HN.out x hmem wr (into HBW.out HB.out)
         have hE : nmsF (names.drop j) = if nmF x.data.toList ≠ 0 then nmF x.data.toList else nmsF (names.drop (j + 1)) := by rw [hdr]; rfl
         obtain ⟨r, hr⟩ : ∃ r, r = nmF x.data.toList := ⟨_, rfl⟩
         rw [← hr] at hc hE
         have HC := hid hc
         have HEQ := hid hE
         clear hcell hx hmem hdr hc hE hr hll
         by_cases hr0 : r = 0
         ·subst hr0
          go_wp2_with (go_at_call 25; ((with_reducible refine HC.out.mono ?_); rintro e w2 ⟨rfl, hb2⟩; have HB2 := hid (HB.out.trans (hb2.mono HB.out.size)); clear hb2))
          go_roundw
          case rel => exact ⟨j + 1, by omega, by go_num, by show _ = _; rw [HX.out, HEQ.out]; rfl, HB2.out⟩
          case measure => simp [intOf]; omega
         ·have hr0' : (r == 0) = false := by simpa using hr0
          go_wp2_with (go_at_call 25; ((with_reducible refine HC.out.mono ?_); rintro e w2 ⟨rfl, hb2⟩; have HB2 := hid (HB.out.trans (hb2.mono HB.out.size)); clear hb2))
          go_ret
          refine ⟨ri ?_, into HBW.out HB2.out⟩
          rw [HG.out, HX.out, HEQ.out]
          unfold f3
          rw [if_pos hr0, if_pos hr0])
     ·obtain rfl : j = n4 := by omega
      have HQ : Hid (selF ⟨k, t, cols, row, names, false, wh, ord, true, lim, st, to⟩ = if whF wh ≠ 0 then whF wh else ordF ord) := by
       show _ = _
       rw [HG.out, HX.out, List.drop_eq_nil_of_le (by rw [← HL4.out]; exact Nat.le_refl _)]
       rfl
      obtain ⟨x0, x1, x2, x3, x4, x5, x6, x7, x8, x9, x10, x11⟩ := HNW.out wr HB.out
      have hc := HW.out wr (into HBW.out HB.out)
      obtain ⟨r, hr⟩ : ∃ r, r = whF wh := ⟨_, rfl⟩
      rw [← hr] at hc HQ
      have HC := hid hc
      clear hc hr HX HG
      simp only at x0 x1 x2 x3 x4 x5 x6 x7 x8 x9 x10 x11
      go_wp2_with fail
      refine HC.out.mono ?_
      rintro e2 w2 ⟨rfl, hb2⟩
      have HB2 := hid (HB.out.trans (hb2.mono HB.out.size))
      clear hb2 x0 x1 x2 x3 x4 x5 x6 x7 x8 x9 x10 x11
      obtain ⟨x0, x1, x2, x3, x4, x5, x6, x7, x8, x9, x10, x11⟩ := HNW.out w2 HB2.out
      simp only at x0 x1 x2 x3 x4 x5 x6 x7 x8 x9 x10 x11
      by_cases hr0 : r = 0
      ·subst hr0
       have HO2 := hid (HO.out w2 (into HBW.out HB2.out))
       have HZ : Hid (ordF ord = nmF ord.data.toList) := by
        show _ = _
        unfold ordF
        rw [HE.out]
        rfl
       go_wp2_with fail
       refine HO2.out.mono ?_
       rintro e3 w3 ⟨rfl, hb3⟩
       go_wp2_with fail
       go_ret
       exact ⟨ri (by rw [HQ.out, HZ.out]; rfl), into HBW.out (HB2.out.trans (hb3.mono HB2.out.size))⟩
      ·have hr0' : (r == 0) = false := by simpa using hr0
       go_wp2_with fail
       go_ret
       exact ⟨ri (by rw [HQ.out, if_pos hr0]), into HBW.out HB2.out⟩
  ·rcases hd with rfl | ⟨rfl, rfl⟩
   ·go_enter Tryd.func45, Tryd.ntmps45
    go_wp2_with fail
    rw [← HWE.out]
    go_loopw [37] (fun i wr => ∃ j : Nat, j ≤ 0 ∧ i = .int .i64 (j : Int) ∧ Hid (nmsF names = nmsF (names.drop j)) ∧ Hid (Below W0.heap.size W0 wr)) (fun i _ => 0 - (intOf i).toNat)
    case atStart => exact ⟨0, by omega, rfl, by simp [Hid], Below.refl _ _⟩
    case round =>
     obtain ⟨j, hj, rfl, HX, HB⟩ := hrel
     by_cases hlt : j < 0
     ·first
      | omega
      | (obtain ⟨b, o, cap, hv, _, _, hbw, hcell⟩ := HR4.out.pos (by omega) (by omega)
         simp only [Value.slice.injEq] at hv
         obtain ⟨rfl, -, rfl⟩ := hv
         have hll : j < names.length := by rw [← HL4.out]; exact hlt
         have c0 := (HB.out.cell (p := ⟨b, o + j, none⟩) (Nat.lt_of_lt_of_le hbw HBW.out.size)).trans ((HBW.out.cell (p := ⟨b, o + j, none⟩) hbw).trans (hcell _ _ (st_at' hll)))
         have hmem := sgetD_mem hll
         have hdr := sdrop_cons hll
         obtain ⟨x, hx⟩ : ∃ x, x = names.getD j nby := ⟨_, rfl⟩
         rw [← hx] at c0 hmem hdr
         have hc := HN.out x hmem wr (into HBW.out HB.out)
         have hE : nmsF (names.drop j) = if nmF x.data.toList ≠ 0 then nmF x.data.toList else nmsF (names.drop (j + 1)) := by rw [hdr]; rfl
         obtain ⟨r, hr⟩ : ∃ r, r = nmF x.data.toList := ⟨_, rfl⟩
         rw [← hr] at hc hE
         have HC := hid hc
         have HEQ := hid hE
         clear hcell hx hmem hdr hc hE hr hll
         by_cases hr0 : r = 0
         ·subst hr0
          go_wp2_with (go_at_call 25; ((with_reducible refine HC.out.mono ?_); rintro e w2 ⟨rfl, hb2⟩; have HB2 := hid (HB.out.trans (hb2.mono HB.out.size)); clear hb2))
          go_roundw
          case rel => exact ⟨j + 1, by omega, by go_num, by show _ = _; rw [HX.out, HEQ.out]; rfl, HB2.out⟩
          case measure => simp [intOf]; omega
         ·have hr0' : (r == 0) = false := by simpa using hr0
          go_wp2_with (go_at_call 25; ((with_reducible refine HC.out.mono ?_); rintro e w2 ⟨rfl, hb2⟩; have HB2 := hid (HB.out.trans (hb2.mono HB.out.size)); clear hb2))
          go_ret
          refine ⟨ri ?_, into HBW.out HB2.out⟩
          rw [HG.out, HX.out, HEQ.out]
          unfold f3
          rw [if_pos hr0, if_pos hr0])
     ·obtain rfl : j = 0 := by omega
      have HQ : Hid (selF ⟨k, t, cols, row, names, true, wh, ord, false, lim, st, to⟩ = if whF wh ≠ 0 then whF wh else ordF ord) := by
       show _ = _
       rw [HG.out, HX.out, List.drop_eq_nil_of_le (by rw [← HL4.out]; exact Nat.le_refl _)]
       rfl
      obtain ⟨x0, x1, x2, x3, x4, x5, x6, x7, x8, x9, x10, x11⟩ := HNW.out wr HB.out
      have hc := HW.out wr (into HBW.out HB.out)
      obtain ⟨r, hr⟩ : ∃ r, r = whF wh := ⟨_, rfl⟩
      rw [← hr] at hc HQ
      have HC := hid hc
      clear hc hr HX HG
      simp only at x0 x1 x2 x3 x4 x5 x6 x7 x8 x9 x10 x11
      go_wp2_with fail
      refine HC.out.mono ?_
      rintro e2 w2 ⟨rfl, hb2⟩
      have HB2 := hid (HB.out.trans (hb2.mono HB.out.size))
      clear hb2 x0 x1 x2 x3 x4 x5 x6 x7 x8 x9 x10 x11
      obtain ⟨x0, x1, x2, x3, x4, x5, x6, x7, x8, x9, x10, x11⟩ := HNW.out w2 HB2.out
      simp only at x0 x1 x2 x3 x4 x5 x6 x7 x8 x9 x10 x11
      by_cases hr0 : r = 0
      ·subst hr0
       have HO2 := hid (HO.out w2 (into HBW.out HB2.out))
       cases e
       ·have HZ : Hid (ordF ord = nmF ord.data.toList) := by
         show _ = _
         unfold ordF
         rw [HE.out]
         rfl
        go_wp2_with fail
        refine HO2.out.mono ?_
        rintro e3 w3 ⟨rfl, hb3⟩
        go_wp2_with fail
        go_ret
        exact ⟨ri (by rw [HQ.out, HZ.out]; rfl), into HBW.out (HB2.out.trans (hb3.mono HB2.out.size))⟩
       ·have HZ : Hid (ordF ord = 0) := by
         show _ = _
         unfold ordF
         rw [HE.out]
         rfl
        go_wp2_with fail
        go_ret
        exact ⟨ri (by rw [HQ.out, HZ.out]; rfl), into HBW.out HB2.out⟩
      ·have hr0' : (r == 0) = false := by simpa using hr0
       go_wp2_with fail
       go_ret
       exact ⟨ri (by rw [HQ.out, if_pos hr0]), into HBW.out HB2.out⟩
   ·go_enter Tryd.func45, Tryd.ntmps45
    go_wp2_with fail
    rw [← HWE.out]
    go_loopw [37] (fun i wr => ∃ j : Nat, j ≤ 0 ∧ i = .int .i64 (j : Int) ∧ Hid (nmsF names = nmsF (names.drop j)) ∧ Hid (Below W0.heap.size W0 wr)) (fun i _ => 0 - (intOf i).toNat)
    case atStart => exact ⟨0, by omega, rfl, by simp [Hid], Below.refl _ _⟩
    case round =>
     obtain ⟨j, hj, rfl, HX, HB⟩ := hrel
     by_cases hlt : j < 0
     ·first
      | omega
      | (obtain ⟨b, o, cap, hv, _, _, hbw, hcell⟩ := HR4.out.pos (by omega) (by omega)
         simp only [Value.slice.injEq] at hv
         obtain ⟨rfl, -, rfl⟩ := hv
         have hll : j < names.length := by rw [← HL4.out]; exact hlt
         have c0 := (HB.out.cell (p := ⟨b, o + j, none⟩) (Nat.lt_of_lt_of_le hbw HBW.out.size)).trans ((HBW.out.cell (p := ⟨b, o + j, none⟩) hbw).trans (hcell _ _ (st_at' hll)))
         have hmem := sgetD_mem hll
         have hdr := sdrop_cons hll
         obtain ⟨x, hx⟩ : ∃ x, x = names.getD j nby := ⟨_, rfl⟩
         rw [← hx] at c0 hmem hdr
         have hc := HN.out x hmem wr (into HBW.out HB.out)
         have hE : nmsF (names.drop j) = if nmF x.data.toList ≠ 0 then nmF x.data.toList else nmsF (names.drop (j + 1)) := by rw [hdr]; rfl
         obtain ⟨r, hr⟩ : ∃ r, r = nmF x.data.toList := ⟨_, rfl⟩
         rw [← hr] at hc hE
         have HC := hid hc
         have HEQ := hid hE
         clear hcell hx hmem hdr hc hE hr hll
         by_cases hr0 : r = 0
         ·subst hr0
          go_wp2_with (go_at_call 25; ((with_reducible refine HC.out.mono ?_); rintro e w2 ⟨rfl, hb2⟩; have HB2 := hid (HB.out.trans (hb2.mono HB.out.size)); clear hb2))
          go_roundw
          case rel => exact ⟨j + 1, by omega, by go_num, by show _ = _; rw [HX.out, HEQ.out]; rfl, HB2.out⟩
          case measure => simp [intOf]; omega
         ·have hr0' : (r == 0) = false := by simpa using hr0
          go_wp2_with (go_at_call 25; ((with_reducible refine HC.out.mono ?_); rintro e w2 ⟨rfl, hb2⟩; have HB2 := hid (HB.out.trans (hb2.mono HB.out.size)); clear hb2))
          go_ret
          refine ⟨ri ?_, into HBW.out HB2.out⟩
          rw [HG.out, HX.out, HEQ.out]
          unfold f3
          rw [if_pos hr0, if_pos hr0])
     ·obtain rfl : j = 0 := by omega
      have HQ : Hid (selF ⟨k, t, cols, row, names, true, wh, ord, true, lim, st, to⟩ = if whF wh ≠ 0 then whF wh else ordF ord) := by
       show _ = _
       rw [HG.out, HX.out, List.drop_eq_nil_of_le (by rw [← HL4.out]; exact Nat.le_refl _)]
       rfl
      obtain ⟨x0, x1, x2, x3, x4, x5, x6, x7, x8, x9, x10, x11⟩ := HNW.out wr HB.out
      have hc := HW.out wr (into HBW.out HB.out)
      obtain ⟨r, hr⟩ : ∃ r, r = whF wh := ⟨_, rfl⟩
      rw [← hr] at hc HQ
      have HC := hid hc
      clear hc hr HX HG
      simp only at x0 x1 x2 x3 x4 x5 x6 x7 x8 x9 x10 x11
      go_wp2_with fail
      refine HC.out.mono ?_
      rintro e2 w2 ⟨rfl, hb2⟩
      have HB2 := hid (HB.out.trans (hb2.mono HB.out.size))
      clear hb2 x0 x1 x2 x3 x4 x5 x6 x7 x8 x9 x10 x11
      obtain ⟨x0, x1, x2, x3, x4, x5, x6, x7, x8, x9, x10, x11⟩ := HNW.out w2 HB2.out
      simp only at x0 x1 x2 x3 x4 x5 x6 x7 x8 x9 x10 x11
      by_cases hr0 : r = 0
      ·subst hr0
       have HO2 := hid (HO.out w2 (into HBW.out HB2.out))
       have HZ : Hid (ordF ord = nmF ord.data.toList) := by
        show _ = _
        unfold ordF
        rw [HE.out]
        rfl
       go_wp2_with fail
       refine HO2.out.mono ?_
       rintro e3 w3 ⟨rfl, hb3⟩
       go_wp2_with fail
       go_ret
       exact ⟨ri (by rw [HQ.out, HZ.out]; rfl), into HBW.out (HB2.out.trans (hb3.mono HB2.out.size))⟩
      ·have hr0' : (r == 0) = false := by simpa using hr0
       go_wp2_with fail
       go_ret
       exact ⟨ri (by rw [HQ.out, if_pos hr0]), into HBW.out HB2.out⟩
theorem parts9 (Q : Exit → Act → World → Prop) {c0 c2 c3 c4 c5 c6 c7 c8 c9 c10 c11 c12 c13 c14 c15 c16 c17 c18 c19 c20 c21 c22 c23 c24 c25 c26 c27 c28 c29 c30 c31 c32 c33 c34 c35 c36 : Value} (w0 : World) (P : Nat) (hP : P < w0.heap.size) (t : ByteArray) (a11 : Option Addr) (n11 d11 : Nat) (a6 : Option Addr) (n6 d6 : Nat) (a b c : Int)
  (p0 : w0.cell? ⟨P, 10, none⟩ = some (.string t)) (p1 : w0.cell? ⟨P, 11, none⟩ = some (.slice a11 n11 d11)) (p2 : w0.cell? ⟨P, 6, none⟩ = some (.slice a6 n6 d6))
  (HA : Hid (∀ W, Below w0.heap.size w0 W → Calls Tryd.prog 25 #[.string t] W fun e w' => e = .returned (.int .i64 a) ∧ Below W.heap.size W w'))
  (HB : Hid (∀ W, Below w0.heap.size w0 W → Calls Tryd.prog 47 #[.slice a11 n11 d11] W fun e w' => e = .returned (.int .i64 b) ∧ Below W.heap.size W w'))
  (HC : Hid (∀ W, Below w0.heap.size w0 W → Calls Tryd.prog 48 #[.slice a6 n6 d6] W fun e w' => e = .returned (.int .i64 c) ∧ Below W.heap.size W w'))
  (hout : Hid (∀ (u21 u22 u23 u24 u25 u26 u27 u28 u29 u30 u31 : Value) (w' : World), Below w0.heap.size w0 w' → Q .normal ⟨List.toArray (c0 :: (.pointer (some ⟨P, 0, none⟩)) :: (.int .i64 (f3 a b c)) :: c3 :: c4 :: c5 :: c6 :: c7 :: c8 :: c9 :: c10 :: c11 :: c12 :: c13 :: c14 :: c15 :: c16 :: c17 :: c18 :: c19 :: c20 :: u21 :: u22 :: u23 :: u24 :: u25 :: u26 :: u27 :: u28 :: u29 :: u30 :: u31 :: c32 :: c33 :: c34 :: c35 :: c36 :: []), []⟩ w')) :
  Code.wp Tryd.prog ((regionOf 9 (Tryd.f26.body.getD .skip)).getD .skip) Q ⟨List.toArray (c0 :: (.pointer (some ⟨P, 0, none⟩)) :: c2 :: c3 :: c4 :: c5 :: c6 :: c7 :: c8 :: c9 :: c10 :: c11 :: c12 :: c13 :: c14 :: c15 :: c16 :: c17 :: c18 :: c19 :: c20 :: c21 :: c22 :: c23 :: c24 :: c25 :: c26 :: c27 :: c28 :: c29 :: c30 :: c31 :: c32 :: c33 :: c34 :: c35 :: c36 :: []), []⟩ w0 := by
 refine Code.wp_mono (Q := NQ Q) nq_to ?_
 conv => arg 2; whnf
 have hB0 : Below w0.heap.size w0 w0 := Below.refl _ _
 go_region_held3 (fun wx => wx.cell? ⟨P, 10, none⟩ = some (.string t) ∧ wx.cell? ⟨P, 11, none⟩ = some (.slice a11 n11 d11) ∧ wx.cell? ⟨P, 6, none⟩ = some (.slice a6 n6 d6))
  ((refine ⟨?_, ?_, ?_⟩ <;> (repeat' (first | (with_reducible assumption) | (with_reducible refine cell_dr ?_) | (with_reducible refine cell_al _ ?_) | (with_reducible refine cell_of_below hb3 ?_) | (with_reducible refine cell_of_below hb2 ?_) | (with_reducible refine cell_of_below hb1 ?_)))))
  ((first
   | (go_at_call 25; (with_reducible refine (HA.out _ (by go_grown)).mono ?_); rintro e w1 ⟨rfl, hb1⟩; have hB1 : Below w0.heap.size w0 w1 := into (by go_grown) hb1; have hz1 := hB1.size)
   | (go_at_call 47; (with_reducible refine (HB.out _ (by go_grown)).mono ?_); rintro e w2 ⟨rfl, hb2⟩; have hB2 : Below w0.heap.size w0 w2 := into (by go_grown) hb2; have hz2 := hB2.size)
   | (go_at_call 48; (with_reducible refine (HC.out _ (by go_grown)).mono ?_); rintro e w3 ⟨rfl, hb3⟩; have hB3 : Below w0.heap.size w0 w3 := into (by go_grown) hb3; have hz3 := hB3.size)
   | (go_at_call 46; (with_reducible refine (firstOf_any _ a b c _ (by simp) (by simp) (by simp)).mono ?_); rintro e w4 ⟨rfl, rfl⟩)))
 all_goals exact hout.out _ _ _ _ _ _ _ _ _ _ _ _ (by go_grown)
theorem checkParts_any (w : World) (hT : Tbs w) (s : Sq) (p : Ps) (hr : StR w s p) (hz : SqZ s) :
  Calls Tryd.prog 26 #[stV s p] w fun e w' => e = .returned (.int .i64 (partsF s)) ∧ Below w.heap.size w w' := by
 have hb0 : Below w.heap.size w (w.alloc (.cells (stC s p) 33)) := (Below.refl _ _).alloc (Nat.le_refl _) _
 obtain ⟨W0, hW0⟩ : ∃ W0, W0 = w.alloc (.cells (stC s p) 33) := ⟨_, rfl⟩
 have hsz : w.heap.size < W0.heap.size := by rw [hW0]; simp
 have hbx := StB.new w s p (w1 := W0) (by rw [hW0]; exact Below.refl _ _)
 rw [← hW0] at hb0
 have HSEL : Hid (∀ W, Below W0.heap.size W0 W → Calls Tryd.prog 45 #[stV s p] W fun e w' => e = .returned (.int .i64 (selF s)) ∧ Below W.heap.size W w') := fun W hW => checkSelect_any W (hT.below (into hb0 hW)) s p (hr.below (into hb0 hW)) hz
 have HCOL : Hid (∀ W, Below W0.heap.size W0 W → Calls Tryd.prog 43 #[.slice p.a2 p.n2 p.c2] W fun e w' => e = .returned (.int .i64 (colsF s.cols)) ∧ Below W.heap.size W w') := fun W hW => checkCols_any W (hT.m.below (into hb0 hW)) (hT.k.below (into hb0 hW)) _ _ s.cols (hr.r2.below (into hb0 hW)) hz.c
 have HROW : Hid (∀ W, Below W0.heap.size W0 W → Calls Tryd.prog 44 #[.slice p.a3 p.n3 p.c3] W fun e w' => e = .returned (.int .i64 (insF s.row)) ∧ Below W.heap.size W w') := fun W hW => checkRow_any W _ _ s.row (hr.r3.below (into hb0 hW))
 have HWH : Hid (∀ W, Below W0.heap.size W0 W → Calls Tryd.prog 48 #[.slice p.a6 p.n6 p.c6] W fun e w' => e = .returned (.int .i64 (whF s.wh)) ∧ Below W.heap.size W w') := fun W hW => checkWhere_any W (hT.below (into hb0 hW)) _ _ s.wh (hr.r6.below (into hb0 hW)) (fun o ho => (hz.h o ho).2.2)
 have HEX : Hid (∀ W, Below W0.heap.size W0 W → Calls Tryd.prog 47 #[.slice p.a11 p.n11 p.c11] W fun e w' => e = .returned (.int .i64 (exprF s.to)) ∧ Below W.heap.size W w') := fun W hW => expr_any W (hT.m.below (into hb0 hW)) (hT.k.below (into hb0 hW)) (hT.o.below (into hb0 hW)) _ _ s.to (hr.r11.below (into hb0 hW)) (fun o ho => (hz.x o ho).2.2)
 have HNM : Hid (∀ W, Below W0.heap.size W0 W → Calls Tryd.prog 25 #[.string s.st] W fun e w' => e = .returned (.int .i64 (nmF s.st.data.toList)) ∧ Below W.heap.size W w') := fun W hW => name_any W (hT.m.below (into hb0 hW)) (hT.k.below (into hb0 hW)) s.st hz.e
 have hF : partsF s = if s.k = 1 then colsF s.cols else if s.k = 3 then insF s.row else if s.k = 4 then selF s else if s.k = 5 then f3 (nmF s.st.data.toList) (exprF s.to) (whF s.wh) else if s.k = 6 then whF s.wh else 0 := rfl
 obtain ⟨qc, hqc⟩ : ∃ q, q = colsF s.cols := ⟨_, rfl⟩
 obtain ⟨qr, hqr⟩ : ∃ q, q = insF s.row := ⟨_, rfl⟩
 obtain ⟨qs, hqs⟩ : ∃ q, q = selF s := ⟨_, rfl⟩
 obtain ⟨qn, hqn⟩ : ∃ q, q = nmF s.st.data.toList := ⟨_, rfl⟩
 obtain ⟨qx, hqx⟩ : ∃ q, q = exprF s.to := ⟨_, rfl⟩
 obtain ⟨qw, hqw⟩ : ∃ q, q = whF s.wh := ⟨_, rfl⟩
 rw [← hqc, ← hqr, ← hqs, ← hqn, ← hqx, ← hqw] at hF
 rw [← hqc] at HCOL
 rw [← hqr] at HROW
 rw [← hqs] at HSEL
 rw [← hqn] at HNM
 rw [← hqx] at HEX
 rw [← hqw] at HWH
 have HF := hid hF
 have HB0 := hid hb0
 have HWE := hid hW0
 have HSZ := hid hsz
 have HBX := hid hbx
 clear hF hqc hqr hqs hqn hqx hqw hT hr hz hb0 hW0 hsz hbx
 obtain ⟨k, t, cols, row, names, cnt, wh, ord, dn, lim, st, to⟩ := s
 obtain ⟨a2, n2, c2, a3, n3, c3, a4, n4, c4, a6, n6, c6, a11, n11, c11⟩ := p
 simp only at HF HSEL HCOL HROW HWH HEX HNM
 by_cases h1 : k = 1
 ·subst h1
  go_enter Tryd.func26, Tryd.ntmps26
  go_wp2_with fail
  refine (HCOL.out _ (by rw [HWE.out]; exact Below.refl _ _)).mono ?_
  rintro e w1 ⟨rfl, hb1⟩
  go_wp2_with fail
  go_ret
  exact ⟨ri (by rw [HF.out]; rfl), into HB0.out (by rw [HWE.out]; exact hb1)⟩
 by_cases h3 : k = 3
 ·subst h3
  go_enter Tryd.func26, Tryd.ntmps26
  go_wp2_with fail
  refine (HROW.out _ (by rw [HWE.out]; exact Below.refl _ _)).mono ?_
  rintro e w1 ⟨rfl, hb1⟩
  go_wp2_with fail
  go_ret
  exact ⟨ri (by rw [HF.out]; rfl), into HB0.out (by rw [HWE.out]; exact hb1)⟩
 by_cases h4 : k = 4
 ·subst h4
  go_enter Tryd.func26, Tryd.ntmps26
  go_wp2_with fail
  refine (HSEL.out _ (by rw [HWE.out]; exact Below.refl _ _)).mono ?_
  rintro e w1 ⟨rfl, hb1⟩
  go_wp2_with fail
  go_ret
  exact ⟨ri (by rw [HF.out]; rfl), into HB0.out (by rw [HWE.out]; exact hb1)⟩
 by_cases h5 : k = 5
 ·subst h5
  obtain ⟨x0, x1, x2, x3, x4, x5, x6, x7, x8, x9, x10, x11⟩ := HBX.out
  simp only at x0 x1 x2 x3 x4 x5 x6 x7 x8 x9 x10 x11
  have X10 := hid x10
  have X11 := hid x11
  have X6 := hid x6
  clear x0 x1 x2 x3 x4 x5 x6 x7 x8 x9 x10 x11
  go_enter Tryd.func26, Tryd.ntmps26
  go_wp2_with fail
  rw [← HWE.out]
  change Code.wp _ ((regionOf 9 (Tryd.f26.body.getD .skip)).getD .skip) _ _ _
  refine parts9 _ W0 w.heap.size HSZ.out st a11 n11 c11 a6 n6 c6 qn qx qw X10.out X11.out X6.out HNM HEX HWH (hid ?_)
  intro u21 u22 u23 u24 u25 u26 u27 u28 u29 u30 u31 w1 hb1
  have HB1 := hid hb1
  clear hb1
  go_wp2_with fail
  go_ret
  exact ⟨ri (by rw [HF.out]; rfl), into HB0.out HB1.out⟩
 by_cases h6 : k = 6
 ·subst h6
  go_enter Tryd.func26, Tryd.ntmps26
  go_wp2_with fail
  refine (HWH.out _ (by rw [HWE.out]; exact Below.refl _ _)).mono ?_
  rintro e w1 ⟨rfl, hb1⟩
  go_wp2_with fail
  go_ret
  exact ⟨ri (by rw [HF.out]; rfl), into HB0.out (by rw [HWE.out]; exact hb1)⟩
 ·have e1 : (k == 1) = false := by simpa using h1
  have e3 : (k == 3) = false := by simpa using h3
  have e4 : (k == 4) = false := by simpa using h4
  have e5 : (k == 5) = false := by simpa using h5
  have e6 : (k == 6) = false := by simpa using h6
  go_enter Tryd.func26, Tryd.ntmps26
  go_wp2_with fail
  go_ret
  exact ⟨ri (by rw [HF.out, if_neg h1, if_neg h3, if_neg h4, if_neg h5, if_neg h6]), (Below.refl _ _).alloc (Nat.le_refl _) _⟩
end Go.Proofs.YtdeollmeljaaoaaDoor.cs
