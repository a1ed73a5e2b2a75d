import Derived.Test.YtdeollmeljaaoaaDoorCkk
import Derived.Test.YtdeollmeljaaoaaDoorCbk
import Derived.Deep.RegionHeld3
import Derived.Deep.RegionWith
import Derived.Deep.RegionLaw
/- Values and names with commas between them: the program. -/
namespace Go.Proofs.YtdeollmeljaaoaaDoor.cs
open Go.ChangeShapes Go.WideShapes Go.ChangeAt Go.RowKit
set_option linter.unusedVariables false
set_option linter.unusedSimpArgs false
set_option maxHeartbeats 2000000
theorem vtake_snoc {l : List V} {k : Nat} (h : k < l.length) : l.take (k + 1) = l.take k ++ [l.getD k nul] := by
  rw [List.take_succ_eq_append_getElem h]
  simp [List.getD, List.getElem?_eq_getElem h]
theorem stk_snoc {l : List ByteArray} {k : Nat} (h : k < l.length) : l.take (k + 1) = l.take k ++ [l.getD k nby] := by
  rw [List.take_succ_eq_append_getElem h]
  simp [List.getD, List.getElem?_eq_getElem h]
theorem shN_len (t : ByteArray) : (shN t).length = 1 := rfl
set_option maxRecDepth 100000 in
theorem btv_any (w : World) (hT : Tbp w) (n : Nat) (v : Value) (l : List V) (hn0 : 0 < n) (hn : n ≤ 1000) (hr : Rd w 3 n v (vc l)) (hok : ∀ x ∈ l, VOk x) :
    Calls Tryd.prog 37 #[v, .func (.func 38) #[] #[]] w (ToksIs (btw comma valT l) w) := by
  have hml := len_v hr
  obtain ⟨_, b, o, cap, rfl, _, _, hbw, hcell⟩ := vals_of hr hn0
  have HC := Lib.hid hcell
  have HN := Lib.hid hml
  have HOK := Lib.hid hok
  have HT := Lib.hid hT
  clear hcell hml hok hT hr
  go_enter Tryd.func37, Tryd.ntmps37
  go_wp2_with fail
  go_loopw [5, 10] (fun u i wr => ∃ k : Nat, k ≤ n ∧ i = .int .i64 (k : Int) ∧ Hid (wr.ownsRow w.heap.size 45 3 u (btw comma valT (l.take k)).length (tkc (btw comma valT (l.take k)))) ∧ Hid (Below w.heap.size w wr)) (fun _ i _ => n - (intOf i).toNat)
  case atStart => exact ⟨0, by omega, rfl, World.ownsRow_nil _ _ _ _, Below.refl _ _⟩
  case round =>
    obtain ⟨k, hk, rfl, HU, HB⟩ := hrel
    by_cases hlt : k < n
    · obtain ⟨g0, g1, g2⟩ := HC.out k hlt
      have c0 := (HB.out.cell (p := ⟨b, o + k * 3, none⟩) hbw).trans g0
      have c1 := (HB.out.cell (p := ⟨b, o + k * 3 + 1, none⟩) hbw).trans g1
      have c2 := (HB.out.cell (p := ⟨b, o + k * 3 + 2, none⟩) hbw).trans g2
      have hll : k < l.length := by rw [← HN.out]; exact hlt
      have hco := HOK.out _ (vgetD_mem hll)
      have htk := vtake_snoc hll
      have hlen := btwv_len (l.take k)
      rw [List.length_take_of_le (by omega)] at hlen
      obtain ⟨c, hc⟩ : ∃ c, c = l.getD k nul := ⟨_, rfl⟩
      rw [← hc] at c0 c1 c2 hco htk
      obtain ⟨L, hL⟩ : ∃ L, L = btw comma valT (l.take k) := ⟨_, rfl⟩
      have hL2 : btw comma valT (l.take (k + 1)) = if k = 0 then valT c else L ++ (comma ++ valT c) := by
        rw [htk, hL]
        split
        · rename_i h
          subst h
          exact btw_one _ _ _
        · rename_i h
          exact btw_snoc _ _ _ _ (by
            intro e
            have := congrArg List.length e
            rw [List.length_take_of_le (by omega)] at this
            simp at this
            omega)
      have hL0 : k = 0 → L = [] := fun h => by rw [hL, h]; rfl
      rw [← hL] at HU hlen
      obtain ⟨q, hq⟩ : ∃ q, q = L.length := ⟨_, rfl⟩
      rw [← hq] at HU hlen
      have HQ := Lib.hid hq
      have HL2 := Lib.hid hL2
      have HL0 := Lib.hid hL0
      have HBX : Hid (Below w.heap.size w (wr.alloc (.cells #[.int .i64 c.k, .int .i64 c.n, .string c.t] 50))) := HB.out.alloc HB.out.size _
      have HSC : Hid (∀ W, Below w.heap.size w W → Calls Tryd.prog 38 #[.agg #[.int .i64 c.k, .int .i64 c.n, .string c.t]] W (ToksIs (valT c) W)) := fun W hW => showValue_any W (HT.out.below hW) c hco
      have HPL : Hid (∀ W, Below w.heap.size w W → ∀ B, W.heap.size = B → Calls Tryd.prog 34 #[.slice (some ⟨B, 0, none⟩) 1 1] (W.alloc (.cells #[.string ⟨#[44]⟩] 9)) (ToksIs comma W)) := fun W hW B hB => plain1 W (HT.out.b.m.below hW) _ (by decide) B hB
      have HLT : Hid (∀ kk, u5.ownBlock = some kk → kk < wr.heap.size) := fun kk h => (HU.out.lt kk h).2
      have hnew := new0 wr (.cells #[.int .i64 c.k, .int .i64 c.n, .string c.t] 50)
      have HNEW := Lib.hid hnew
      obtain ⟨ck, cn, ct⟩ := c
      simp only at c0 c1 c2
      clear g0 g1 g2 hc htk hL hL2 hL0 hq hco hll hnew
      by_cases hk0 : k = 0
      · have HK0 := Lib.hid hk0
        have hk1 : k < 1 := by omega
        clear hk0
        obtain ⟨x0, x1, x2, -, -, -⟩ := has3 HNEW.out (Below.refl _ _)
        go_wp2_with fail
        refine (HSC.out _ HBX.out).mono ?_
        rintro e w2 ⟨v2, rfl, hown2, hb2⟩
        have HR2 := Lib.hid (Rd.own hown2)
        have HW2 := Lib.hid (into HBX.out hb2)
        have HO2 := Lib.hid (own_below (HU.out.alloc (.cells #[.int .i64 ck, .int .i64 cn, .string ct] 50)) hb2)
        have hz2 := HW2.out.size
        clear hown2 hb2
        go_wp2_with (at_builtin; refine apg w2 (valT ⟨ck, cn, ct⟩).length rfl _ _ 35 45 _ 3 32 Tryd.underlying35 Tryd.info45 rfl (by omega) rfl HO2.out hz2 (by have := valT_len ⟨ck, cn, ct⟩; omega) (by have := valT_len ⟨ck, cn, ct⟩; unfold maxLen; omega) (tkc_one _) HR2.out rfl rfl ?_; intro v3 w3 hown3 hb3 _; have HO3 := Lib.hid hown3; have HB3 := Lib.hid (HW2.out.trans hb3); clear hown3 hb3)
        go_roundw
        case rel =>
          refine ⟨k + 1, by omega, by go_num, ?_, HB3.out⟩
          show World.ownsRow _ _ _ _ _ _ _
          rw [HL2.out, if_pos HK0.out]
          have h := HO3.out
          have e := HL0.out HK0.out
          rw [HQ.out, e] at h
          simpa [tkc] using h
        case measure => (simp [intOf]) <;> omega
      · have hk0' : (0 : Int) < (k : Int) := by omega
        go_wp2_with fail
        refine (HPL.out (wr.alloc (.cells #[.int .i64 ck, .int .i64 cn, .string ct] 50)) HBX.out (wr.heap.size + 1) (by simp)).mono ?_
        rintro e w2 ⟨v2, rfl, hown2, hb2⟩
        have HR2 := Lib.hid (Rd.own hown2)
        have HW2 := Lib.hid (into HBX.out hb2)
        have HO2 := Lib.hid (own_below (HU.out.alloc (.cells #[.int .i64 ck, .int .i64 cn, .string ct] 50)) hb2)
        have hz2 := HW2.out.size
        have hzr := HB.out.size
        have hbk2 := hb2.block wr.heap.size (by simp)
        have hzb : wr.heap.size < w2.heap.size := by have := hb2.size; simp at this; omega
        have HBK2 := Lib.hid hbk2
        clear hown2 hb2 hbk2
        go_wp2_with (at_builtin; refine apg w2 comma.length rfl _ _ 35 45 _ 3 32 Tryd.underlying35 Tryd.info45 rfl (by omega) rfl HO2.out hz2 (by have h1 : comma.length = 1 := rfl; omega) (by have h1 : comma.length = 1 := rfl; unfold maxLen; omega) (tkc_one _) HR2.out rfl rfl ?_; intro v3 w3 hown3 hb3 hg3; have HO3 := Lib.hid hown3; have HB3 := Lib.hid (HW2.out.trans hb3); have hbk3 := hg3.block wr.heap.size hzb (fun e => by have := HLT.out _ e.symm; omega); have x0 := cell_blk (o := 0) (hbk3.trans HBK2.out) (has3 HNEW.out (Below.refl _ _)).1; have x1 := cell_blk (o := 1) (hbk3.trans HBK2.out) (has3 HNEW.out (Below.refl _ _)).2.1; have x2 := cell_blk (o := 2) (hbk3.trans HBK2.out) (has3 HNEW.out (Below.refl _ _)).2.2.1; clear hown3 hb3 hg3 hbk3)
        refine (HSC.out _ HB3.out).mono ?_
        rintro e w4 ⟨v4, rfl, hown4, hb4⟩
        have HR4 := Lib.hid (Rd.own hown4)
        have HW4 := Lib.hid (into HB3.out hb4)
        have HO4 := Lib.hid (own_below HO3.out hb4)
        have hz4 := HW4.out.size
        clear hown4 hb4
        go_wp2_with (at_builtin; refine apg w4 (valT ⟨ck, cn, ct⟩).length rfl _ _ 35 45 _ 3 32 Tryd.underlying35 Tryd.info45 rfl (by omega) rfl HO4.out hz4 (by have := valT_len ⟨ck, cn, ct⟩; have h1 : comma.length = 1 := rfl; omega) (by have := valT_len ⟨ck, cn, ct⟩; have h1 : comma.length = 1 := rfl; unfold maxLen; omega) (tkc_one _) HR4.out rfl rfl ?_; intro v5 w5 hown5 hb5 _; have HO5 := Lib.hid hown5; have HB5 := Lib.hid (HW4.out.trans hb5); clear hown5 hb5)
        go_roundw
        case rel =>
          refine ⟨k + 1, by omega, by go_num, ?_, HB5.out⟩
          show World.ownsRow _ _ _ _ _ _ _
          rw [HL2.out, if_neg (by omega)]
          have h := HO5.out
          rw [HQ.out] at h
          rw [tkc_app, tkc_app, List.length_append, List.length_append, ← Nat.add_assoc, ← List.append_assoc]
          exact h
        case measure => (simp [intOf]) <;> omega
    · obtain rfl : k = n := by omega
      have HE : Hid (l.take k = l) := by
        show _ = _
        rw [List.take_of_length_le (by rw [← HN.out]; exact Nat.le_refl _)]
      go_wp2_with fail
      go_ret
      refine ⟨_, rfl, ?_, HB.out⟩
      have h := HU.out
      rw [HE.out] at h
      exact h
set_option maxRecDepth 100000 in
theorem btn_any (w : World) (hT : Tbp w) (n : Nat) (v : Value) (l : List ByteArray) (hn0 : 0 < n) (hn : n ≤ 1000) (hr : Rd w 1 n v (l.map Value.string)) (hs : ∀ c ∈ l, c.size ≤ 1000) :
    Calls Tryd.prog 62 #[v, .func (.func 63) #[] #[]] w (ToksIs (btw comma shN l) w) := by
  have hml := len_s hr
  obtain ⟨b, o, cap, rfl, _, _, hbw, hcell0⟩ := hr.pos hn0 (by omega)
  have hcell : ∀ k, k < n → w.cell? ⟨b, o + k, none⟩ = some (.string (l.getD k nby)) := fun k hk => hcell0 k _ (st_at (by omega))
  clear hcell0
  have HC := Lib.hid hcell
  have HN := Lib.hid hml
  have HS := Lib.hid hs
  have HT := Lib.hid hT
  clear hcell hml hs hT hr
  go_enter Tryd.func62, Tryd.ntmps62
  go_wp2_with fail
  go_loopw [5, 10] (fun u i wr => ∃ k : Nat, k ≤ n ∧ i = .int .i64 (k : Int) ∧ Hid (wr.ownsRow w.heap.size 45 3 u (btw comma shN (l.take k)).length (tkc (btw comma shN (l.take k)))) ∧ Hid (Below w.heap.size w wr)) (fun _ i _ => n - (intOf i).toNat)
  case atStart => exact ⟨0, by omega, rfl, World.ownsRow_nil _ _ _ _, Below.refl _ _⟩
  case round =>
    obtain ⟨k, hk, rfl, HU, HB⟩ := hrel
    by_cases hlt : k < n
    · have g0 := HC.out k hlt
      have c0 := (HB.out.cell (p := ⟨b, o + k, none⟩) hbw).trans g0
      have hll : k < l.length := by rw [← HN.out]; exact hlt
      have hsz := HS.out _ (sgetD_mem hll)
      have htk := stk_snoc hll
      have hlen := btwn_len (l.take k)
      rw [List.length_take_of_le (by omega)] at hlen
      obtain ⟨c, hc⟩ : ∃ c, c = l.getD k nby := ⟨_, rfl⟩
      rw [← hc] at c0 hsz htk
      obtain ⟨L, hL⟩ : ∃ L, L = btw comma shN (l.take k) := ⟨_, rfl⟩
      have hL2 : btw comma shN (l.take (k + 1)) = if k = 0 then shN c else L ++ (comma ++ shN c) := by
        rw [htk, hL]
        split
        · rename_i h
          subst h
          exact btw_one _ _ _
        · rename_i h
          exact btw_snoc _ _ _ _ (by
            intro e
            have := congrArg List.length e
            rw [List.length_take_of_le (by omega)] at this
            simp at this
            omega)
      have hL0 : k = 0 → L = [] := fun h => by rw [hL, h]; rfl
      rw [← hL] at HU hlen
      obtain ⟨q, hq⟩ : ∃ q, q = L.length := ⟨_, rfl⟩
      rw [← hq] at HU hlen
      have HQ := Lib.hid hq
      have HL2 := Lib.hid hL2
      have HL0 := Lib.hid hL0
      have HBX : Hid (Below w.heap.size w (wr)) := HB.out
      have HSC : Hid (∀ W, Below w.heap.size w W → Calls Tryd.prog 63 #[.string c] W (ToksIs (shN c) W)) := fun W hW => showName_any W (HT.out.below hW) c hsz
      have HPL : Hid (∀ W, Below w.heap.size w W → ∀ B, W.heap.size = B → Calls Tryd.prog 34 #[.slice (some ⟨B, 0, none⟩) 1 1] (W.alloc (.cells #[.string ⟨#[44]⟩] 9)) (ToksIs comma W)) := fun W hW B hB => plain1 W (HT.out.b.m.below hW) _ (by decide) B hB
      have HLT : Hid (∀ kk, u5.ownBlock = some kk → kk < wr.heap.size) := fun kk h => (HU.out.lt kk h).2
      clear g0 hc htk hL hL2 hL0 hq hsz hll
      by_cases hk0 : k = 0
      · have HK0 := Lib.hid hk0
        have hk1 : k < 1 := by omega
        clear hk0
        go_wp2_with fail
        refine (HSC.out _ HBX.out).mono ?_
        rintro e w2 ⟨v2, rfl, hown2, hb2⟩
        have HR2 := Lib.hid (Rd.own hown2)
        have HW2 := Lib.hid (into HBX.out hb2)
        have HO2 := Lib.hid (own_below HU.out hb2)
        have hz2 := HW2.out.size
        clear hown2 hb2
        go_wp2_with (at_builtin; refine apg w2 (shN c).length rfl _ _ 35 45 _ 3 32 Tryd.underlying35 Tryd.info45 rfl (by omega) rfl HO2.out hz2 (by have := shN_len c; omega) (by have := shN_len c; unfold maxLen; omega) (tkc_one _) HR2.out rfl rfl ?_; intro v3 w3 hown3 hb3 _; have HO3 := Lib.hid hown3; have HB3 := Lib.hid (HW2.out.trans hb3); clear hown3 hb3)
        go_roundw
        case rel =>
          refine ⟨k + 1, by omega, by go_num, ?_, HB3.out⟩
          show World.ownsRow _ _ _ _ _ _ _
          rw [HL2.out, if_pos HK0.out]
          have h := HO3.out
          have e := HL0.out HK0.out
          rw [HQ.out, e] at h
          simpa [tkc] using h
        case measure => (simp [intOf]) <;> omega
      · have hk0' : (0 : Int) < (k : Int) := by omega
        go_wp2_with fail
        refine (HPL.out wr HBX.out wr.heap.size rfl).mono ?_
        rintro e w2 ⟨v2, rfl, hown2, hb2⟩
        have HR2 := Lib.hid (Rd.own hown2)
        have HW2 := Lib.hid (into HBX.out hb2)
        have HO2 := Lib.hid (own_below HU.out hb2)
        have hz2 := HW2.out.size
        have hzr := HB.out.size
        clear hown2 hb2
        go_wp2_with (at_builtin; refine apg w2 comma.length rfl _ _ 35 45 _ 3 32 Tryd.underlying35 Tryd.info45 rfl (by omega) rfl HO2.out hz2 (by have h1 : comma.length = 1 := rfl; omega) (by have h1 : comma.length = 1 := rfl; unfold maxLen; omega) (tkc_one _) HR2.out rfl rfl ?_; intro v3 w3 hown3 hb3 hg3; have HO3 := Lib.hid hown3; have HB3 := Lib.hid (HW2.out.trans hb3); clear hown3 hb3 hg3)
        refine (HSC.out _ HB3.out).mono ?_
        rintro e w4 ⟨v4, rfl, hown4, hb4⟩
        have HR4 := Lib.hid (Rd.own hown4)
        have HW4 := Lib.hid (into HB3.out hb4)
        have HO4 := Lib.hid (own_below HO3.out hb4)
        have hz4 := HW4.out.size
        clear hown4 hb4
        go_wp2_with (at_builtin; refine apg w4 (shN c).length rfl _ _ 35 45 _ 3 32 Tryd.underlying35 Tryd.info45 rfl (by omega) rfl HO4.out hz4 (by have := shN_len c; have h1 : comma.length = 1 := rfl; omega) (by have := shN_len c; have h1 : comma.length = 1 := rfl; unfold maxLen; omega) (tkc_one _) HR4.out rfl rfl ?_; intro v5 w5 hown5 hb5 _; have HO5 := Lib.hid hown5; have HB5 := Lib.hid (HW4.out.trans hb5); clear hown5 hb5)
        go_roundw
        case rel =>
          refine ⟨k + 1, by omega, by go_num, ?_, HB5.out⟩
          show World.ownsRow _ _ _ _ _ _ _
          rw [HL2.out, if_neg (by omega)]
          have h := HO5.out
          rw [HQ.out] at h
          rw [tkc_app, tkc_app, List.length_append, List.length_append, ← Nat.add_assoc, ← List.append_assoc]
          exact h
        case measure => (simp [intOf]) <;> omega
    · obtain rfl : k = n := by omega
      have HE : Hid (l.take k = l) := by
        show _ = _
        rw [List.take_of_length_le (by rw [← HN.out]; exact Nat.le_refl _)]
      go_wp2_with fail
      go_ret
      refine ⟨_, rfl, ?_, HB.out⟩
      have h := HU.out
      rw [HE.out] at h
      exact h
end Go.Proofs.YtdeollmeljaaoaaDoor.cs
/- A Select shown: the region that draws its order. -/
namespace Go.Proofs.YtdeollmeljaaoaaDoor.cs
open Go.ChangeShapes Go.WideShapes Go.ChangeAt Go.RowKit
set_option linter.unusedVariables false
set_option linter.unusedSimpArgs false
set_option maxHeartbeats 8000000
set_option maxRecDepth 1000000
theorem sel6 (Q : Exit → Act → World → Prop) (c0 c2 c4 c5 c6 c7 c8 c9 c10 c11 c12 c13 c14 c15 c16 c17 c18 c19 c20 c21 c22 c23 c24 c25 c26 c27 c28 c29 c30 c31 c32 c33 c34 c35 c36 c37 c38 c39 c40 c41 c42 c43 c44 c45 c46 c47 c48 c49 c50 c51 c52 c53 c54 c55 c56 c57 c58 c59 c60 c61 c62 c63 : Value) (w0 : World) (P : Nat) (hP : P < w0.heap.size) (t : ByteArray) (a0 : Option Addr) (n0 d0 : Nat) (a4 : Option Addr) (n4 d4 : Nat) (a6 : Option Addr) (n6 d6 : Nat) (A L M : List Tk)
    (p0 : w0.cell? ⟨P, 4, none⟩ = some (.slice a4 n4 d4))
    (p1 : w0.cell? ⟨P, 1, none⟩ = some (.string t))
    (p2 : w0.cell? ⟨P, 6, none⟩ = some (.slice a6 n6 d6))
    (r0 : Rd w0 3 n0 (.slice a0 n0 d0) (tkc A))
    (HPB : Hid (∀ W B, Below w0.heap.size w0 W → Rd W 1 2 (.slice (some ⟨B, 0, none⟩) 2 2) ([sFROM, t].map Value.string) → Calls Tryd.prog 34 #[.slice (some ⟨B, 0, none⟩) 2 2] W (ToksIs [ptk sFROM, ptk t] W)))
    (HCC : Hid (∀ W, Below w0.heap.size w0 W → Calls Tryd.prog 62 #[.slice a4 n4 d4, .func (.func 63) #[] #[]] W (ToksIs L W)))
    (HCD : Hid (∀ W, Below w0.heap.size w0 W → Calls Tryd.prog 41 #[.slice a6 n6 d6] W (ToksIs M W)))
    (HLN : Hid (A.length + (L.length + ([ptk sFROM, ptk t].length + (M.length))) ≤ 1000000))
    (hout : Hid (∀ (u22 u23 u24 u25 u26 u27 u28 u29 u30 u31 u32 u33 u34 : Value) (vout : Value) (w' : World), ToksIs (A ++ (L ++ ([ptk sFROM, ptk t] ++ M))) w0 (.returned vout) w' → Q .normal ⟨List.toArray (c0 :: (.pointer (some ⟨P, 0, none⟩)) :: c2 :: vout :: c4 :: c5 :: c6 :: c7 :: c8 :: c9 :: c10 :: c11 :: c12 :: c13 :: c14 :: c15 :: c16 :: c17 :: c18 :: c19 :: c20 :: c21 :: u22 :: u23 :: u24 :: u25 :: u26 :: u27 :: u28 :: u29 :: u30 :: u31 :: u32 :: u33 :: u34 :: c35 :: c36 :: c37 :: c38 :: c39 :: c40 :: c41 :: c42 :: c43 :: c44 :: c45 :: c46 :: c47 :: c48 :: c49 :: c50 :: c51 :: c52 :: c53 :: c54 :: c55 :: c56 :: c57 :: c58 :: c59 :: c60 :: c61 :: c62 :: c63 :: []), []⟩ w')) :
    Code.wp Tryd.prog ((regionOf 6 (Tryd.f39.body.getD .skip)).getD .skip) Q ⟨List.toArray (c0 :: (.pointer (some ⟨P, 0, none⟩)) :: c2 :: (.slice a0 n0 d0) :: c4 :: c5 :: c6 :: c7 :: c8 :: c9 :: c10 :: c11 :: c12 :: c13 :: c14 :: c15 :: c16 :: c17 :: c18 :: c19 :: c20 :: c21 :: c22 :: c23 :: c24 :: c25 :: c26 :: c27 :: c28 :: c29 :: c30 :: c31 :: c32 :: c33 :: c34 :: c35 :: c36 :: c37 :: c38 :: c39 :: c40 :: c41 :: c42 :: c43 :: c44 :: c45 :: c46 :: c47 :: c48 :: c49 :: c50 :: c51 :: c52 :: c53 :: c54 :: c55 :: c56 :: c57 :: c58 :: c59 :: c60 :: c61 :: c62 :: c63 :: []), []⟩ w0 := by
  refine Code.wp_mono (Q := NQ Q) nq_to ?_
  conv => arg 2; whnf
  have hB0 : Below w0.heap.size w0 w0 := Below.refl _ _
  go_region_held3 (fun wx => wx.cell? ⟨P, 4, none⟩ = some (.slice a4 n4 d4) ∧ wx.cell? ⟨P, 1, none⟩ = some (.string t) ∧ wx.cell? ⟨P, 6, none⟩ = some (.slice a6 n6 d6))
    ((refine ⟨?_, ?_, ?_⟩ <;> (repeat' (first | (with_reducible assumption) | (with_reducible refine cell_dr ?_) | (with_reducible refine cell_al _ ?_) | (with_reducible refine cell_of_below hbz ?_) | (with_reducible refine cell_of_below hbD ?_) | (with_reducible refine cell_of_below hbC ?_) | (with_reducible refine cell_of_below hbB ?_)))))
    ((first
      | (go_at_call 34; (with_reducible refine (HPB.out _ _ (by go_grown) (by ((repeat' (first | (with_reducible assumption) | (with_reducible refine rd_lit2 _ _ _ _ ?_) | (with_reducible refine rd_sl4 _ _ _ _ _ _ ?_) | (with_reducible refine Rd.below ?_ hbz) | (with_reducible refine Rd.below ?_ hbD) | (with_reducible refine Rd.below ?_ hbC) | (with_reducible refine Rd.below ?_ hbB) | (with_reducible refine rd_drew ?_) | (with_reducible refine rd_alloc ?_ _) | (simp; done))); (first | done | fail)))).mono ?_); rintro e wB ⟨vB, rfl, hownB, hbB⟩; obtain ⟨aB, qB, rfl⟩ := own_shape hownB; have rB : Rd wB 3 2 (.slice aB 2 qB) (tkc [ptk sFROM, ptk t]) := Rd.own hownB; have hBB : Below w0.heap.size w0 wB := into (by go_grown) hbB; have hzB := hBB.size)
      | (go_at_call 62; (with_reducible refine (HCC.out _ (by go_grown)).mono ?_); rintro e wC ⟨vC, rfl, hownC, hbC⟩; obtain ⟨aC, qC, rfl⟩ := own_shape hownC; have rC := Rd.own hownC; have hBC : Below w0.heap.size w0 wC := into (by go_grown) hbC; have hzC := hBC.size)
      | (go_at_call 41; (with_reducible refine (HCD.out _ (by go_grown)).mono ?_); rintro e wD ⟨vD, rfl, hownD, hbD⟩; obtain ⟨aD, qD, rfl⟩ := own_shape hownD; have rD := Rd.own hownD; have hBD : Below w0.heap.size w0 wD := into (by go_grown) hbD; have hzD := hBD.size)
      | (go_at_call 33; (with_reducible refine (concat4 _ _ _ _ _ _ A L [ptk sFROM, ptk t] M (n0) (L.length) (2) (M.length) (by ((repeat' (first | (with_reducible assumption) | (with_reducible refine rd_lit2 _ _ _ _ ?_) | (with_reducible refine rd_sl4 _ _ _ _ _ _ ?_) | (with_reducible refine Rd.below ?_ hbz) | (with_reducible refine Rd.below ?_ hbD) | (with_reducible refine Rd.below ?_ hbC) | (with_reducible refine Rd.below ?_ hbB) | (with_reducible refine rd_drew ?_) | (with_reducible refine rd_alloc ?_ _) | (simp; done))); (first | done | fail))) (by ((repeat' (first | (with_reducible assumption) | (with_reducible refine rd_lit2 _ _ _ _ ?_) | (with_reducible refine rd_sl4 _ _ _ _ _ _ ?_) | (with_reducible refine Rd.below ?_ hbz) | (with_reducible refine Rd.below ?_ hbD) | (with_reducible refine Rd.below ?_ hbC) | (with_reducible refine Rd.below ?_ hbB) | (with_reducible refine rd_drew ?_) | (with_reducible refine rd_alloc ?_ _) | (simp; done))); (first | done | fail))) (by ((repeat' (first | (with_reducible assumption) | (with_reducible refine rd_lit2 _ _ _ _ ?_) | (with_reducible refine rd_sl4 _ _ _ _ _ _ ?_) | (with_reducible refine Rd.below ?_ hbz) | (with_reducible refine Rd.below ?_ hbD) | (with_reducible refine Rd.below ?_ hbC) | (with_reducible refine Rd.below ?_ hbB) | (with_reducible refine rd_drew ?_) | (with_reducible refine rd_alloc ?_ _) | (simp; done))); (first | done | fail))) (by ((repeat' (first | (with_reducible assumption) | (with_reducible refine rd_lit2 _ _ _ _ ?_) | (with_reducible refine rd_sl4 _ _ _ _ _ _ ?_) | (with_reducible refine Rd.below ?_ hbz) | (with_reducible refine Rd.below ?_ hbD) | (with_reducible refine Rd.below ?_ hbC) | (with_reducible refine Rd.below ?_ hbB) | (with_reducible refine rd_drew ?_) | (with_reducible refine rd_alloc ?_ _) | (simp; done))); (first | done | fail))) (by ((repeat' (first | (with_reducible assumption) | (with_reducible refine rd_lit2 _ _ _ _ ?_) | (with_reducible refine rd_sl4 _ _ _ _ _ _ ?_) | (with_reducible refine Rd.below ?_ hbz) | (with_reducible refine Rd.below ?_ hbD) | (with_reducible refine Rd.below ?_ hbC) | (with_reducible refine Rd.below ?_ hbB) | (with_reducible refine rd_drew ?_) | (with_reducible refine rd_alloc ?_ _) | (simp; done))); (first | done | fail))) HLN.out).mono ?_); rintro e wz ⟨vz, rfl, hownz, hbz⟩; have hTz := ToksIs.from ⟨vz, rfl, hownz, hbz⟩ (show Below w0.heap.size w0 _ by go_grown))))
  all_goals exact hout.out _ _ _ _ _ _ _ _ _ _ _ _ _ _ _ hTz
end Go.Proofs.YtdeollmeljaaoaaDoor.cs
