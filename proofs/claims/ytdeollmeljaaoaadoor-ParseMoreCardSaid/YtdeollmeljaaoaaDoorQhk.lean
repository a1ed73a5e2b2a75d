import Derived.Test.YtdeollmeljaaoaaDoorQgk
set_option linter.unusedVariables false
set_option linter.unusedSimpArgs false
set_option maxHeartbeats 4000000
open Go.ChangeAt Go.ChangeShapes Go.RowKit Go.WideShapes
open Go.Lib (hid)
namespace Go.Proofs.YtdeollmeljaaoaaDoor
theorem cell_blk {w w1 : World} {b o : Nat} {u : Value} (h : w1.heap[b]? = w.heap[b]?) (hc : w.cell? ⟨b, o, none⟩ = some u) : w1.cell? ⟨b, o, none⟩ = some u := by
 simp only [World.cell?] at hc ⊢
 rw [h]
 exact hc
theorem shC_len (c : Cq) : (shC c).length = 2 := rfl
theorem btwc_len (l : List Cq) : (btw comma shC l).length ≤ l.length * 3 := btw_len comma shC 3 (fun y => by simp [comma, shC]) l
set_option maxRecDepth 100000 in
theorem between_any (w : World) (hT : Tbs w) (n : Nat) (v : Value) (l : List Cq) (hn0 : 0 < n) (hn : n ≤ 1000) (hr : Rd w 2 n v (ccs l)) (hok : ColOk l) (hs : ∀ c ∈ l, c.t.size ≤ 1000) :
  Calls Tryd.prog 35 #[v, .func (.func 36) #[] #[]] w (ToksIs (btw comma shC l) w) := by
 have hml := len_c hr
 obtain ⟨b, o, cap, rfl, _, _, hbw, hcell⟩ := cols_of hr hn0
 have HC := hid hcell
 have HN := hid hml
 have HOK := hid hok
 have HS := hid hs
 have HT := hid hT
 clear hcell hml hok hs hT hr
 go_enter Tryd.func35, Tryd.ntmps35
 go_wp2_with fail
 go_loopw [5, 10] (fun u i wr => ∃ k : Nat, k ≤ n ∧ i = .int .i64 (k : Int) ∧ Hid (wr.ownsRow w.heap.size 45 3 u (btw comma shC (l.take k)).length (tkc (btw comma shC (l.take k)))) ∧ Hid (Below w.heap.size w wr)) (fun _ i _ => n - (intOf i).toNat)
 case atStart => exact ⟨0, by omega, rfl, World.ownsRow_nil _ _ _ _, Below.refl _ _⟩
 case round =>
  obtain ⟨k, hk, rfl, HU, HB⟩ := hrel
  by_cases hlt : k < n
  ·obtain ⟨g0, g1⟩ := HC.out k hlt
   have c0 := (HB.out.cell (p := ⟨b, o + k * 2, none⟩) hbw).trans g0
   have c1 := (HB.out.cell (p := ⟨b, o + k * 2 + 1, none⟩) hbw).trans g1
   have hll : k < l.length := by rw [← HN.out]; exact hlt
   have hsz := HS.out _ (cgetD_mem hll)
   have hco := HOK.out _ (cgetD_mem hll)
   have htk := ctake_snoc hll
   have hlen := btwc_len (l.take k)
   rw [List.length_take_of_le (by omega)] at hlen
   obtain ⟨c, hc⟩ : ∃ c, c = l.getD k ncq := ⟨_, rfl⟩
   rw [← hc] at c0 c1 hsz hco htk
   obtain ⟨L, hL⟩ : ∃ L, L = btw comma shC (l.take k) := ⟨_, rfl⟩
   have hL2 : btw comma shC (l.take (k + 1)) = if k = 0 then shC c else L ++ (comma ++ shC c) := by
    rw [htk, hL]
    split
    ·rename_i h
     subst h
     exact btw_one _ _ _
    ·rename_i h
     exact btw_snoc _ _ _ _ (by
      intro e
      have := congrArg List.length e
      rw [List.length_take_of_le (by omega)] at this
      simp at this
      omega)
   have hL0 : k = 0 → L = [] := fun h => by rw [hL, h]; rfl
   rw [← hL] at HU hlen
   obtain ⟨q, hq⟩ : ∃ q, q = L.length := ⟨_, rfl⟩
   rw [← hq] at HU hlen
   have HQ := hid hq
   have HL2 := hid hL2
   have HL0 := hid hL0
   have HBX : Hid (Below w.heap.size w (wr.alloc (.cells #[.string c.t, .int .i64 c.k] 75))) := HB.out.alloc HB.out.size _
   have HSC : Hid (∀ W, Below w.heap.size w W → Calls Tryd.prog 36 #[.agg #[.string c.t, .int .i64 c.k]] W (ToksIs (shC c) W)) := fun W hW => showCol_any W (HT.out.below hW) c hco.2.1 hco.2.2 hsz
   have HPL : Hid (∀ W, Below w.heap.size w W → ∀ B, W.heap.size = B → Calls Tryd.prog 34 #[.slice (some ⟨B, 0, none⟩) 1 1] (W.alloc (.cells #[.string ⟨#[44]⟩] 9)) (ToksIs comma W)) := fun W hW B hB => plain1 W (HT.out.m.below hW) _ (by decide) B hB
   have HLT : Hid (∀ kk, u5.ownBlock = some kk → kk < wr.heap.size) := fun kk h => (HU.out.lt kk h).2
   have hnew := new0 wr (.cells #[.string c.t, .int .i64 c.k] 75)
   have HNEW := hid hnew
   obtain ⟨ct, ck⟩ := c
   simp only at c0 c1
   clear g0 g1 hc htk hL hL2 hL0 hq hsz hco hll hnew
   by_cases hk0 : k = 0
   ·have HK0 := hid hk0
    have hk1 : k < 1 := by omega
    clear hk0
    obtain ⟨x0, x1⟩ := has2 HNEW.out (Below.refl _ _)
    go_wp2_with fail
    refine (HSC.out _ HBX.out).mono ?_
    rintro e w2 ⟨v2, rfl, hown2, hb2⟩
    have HR2 := hid (Rd.own hown2)
    have HW2 := hid (into HBX.out hb2)
    have HO2 := hid (own_below (HU.out.alloc (.cells #[.string ct, .int .i64 ck] 75)) hb2)
    have hz2 := HW2.out.size
    clear hown2 hb2
    go_wp2_with (at_builtin; refine apg w2 (shC ⟨ct, ck⟩).length rfl _ _ 35 45 _ 3 32 Tryd.underlying35 Tryd.info45 rfl (by omega) rfl HO2.out hz2 (by have := shC_len ⟨ct, ck⟩; omega) (by have := shC_len ⟨ct, ck⟩; unfold maxLen; omega) (tkc_one _) HR2.out rfl rfl ?_; intro v3 w3 hown3 hb3 _; have HO3 := hid hown3; have HB3 := hid (HW2.out.trans hb3); clear hown3 hb3)
    go_roundw
    case rel =>
     refine ⟨k + 1, by omega, by go_num, ?_, HB3.out⟩
     show World.ownsRow _ _ _ _ _ _ _
     rw [HL2.out, if_pos HK0.out]
     have h := HO3.out
     have e := HL0.out HK0.out
     rw [HQ.out, e] at h
     simpa [tkc] using h
    case measure => (simp [intOf]) <;> omega
   ·have hk0' : (0 : Int) < (k : Int) := by omega
    go_wp2_with fail
    refine (HPL.out (wr.alloc (.cells #[.string ct, .int .i64 ck] 75)) HBX.out (wr.heap.size + 1) (by simp)).mono ?_
    rintro e w2 ⟨v2, rfl, hown2, hb2⟩
    have HR2 := hid (Rd.own hown2)
    have HW2 := hid (into HBX.out hb2)
    have HO2 := hid (own_below (HU.out.alloc (.cells #[.string ct, .int .i64 ck] 75)) hb2)
    have hz2 := HW2.out.size
    have hzr := HB.out.size
    have hbk2 := hb2.block wr.heap.size (by simp)
    have hzb : wr.heap.size < w2.heap.size := by have := hb2.size; simp at this; omega
    have HBK2 := hid hbk2
    clear hown2 hb2 hbk2
    go_wp2_with (at_builtin; refine apg w2 comma.length rfl _ _ 35 45 _ 3 32 Tryd.underlying35 Tryd.info45 rfl (by omega) rfl HO2.out hz2 (by have h1 : comma.length = 1 := rfl; omega) (by have h1 : comma.length = 1 := rfl; unfold maxLen; omega) (tkc_one _) HR2.out rfl rfl ?_; intro v3 w3 hown3 hb3 hg3; have HO3 := hid hown3; have HB3 := hid (HW2.out.trans hb3); have hbk3 := hg3.block wr.heap.size hzb (fun e => by have := HLT.out _ e.symm; omega); have x0 := cell_blk (o := 0) (hbk3.trans HBK2.out) (has2 HNEW.out (Below.refl _ _)).1; have x1 := cell_blk (o := 1) (hbk3.trans HBK2.out) (has2 HNEW.out (Below.refl _ _)).2; clear hown3 hb3 hg3 hbk3)
    refine (HSC.out _ HB3.out).mono ?_
    rintro e w4 ⟨v4, rfl, hown4, hb4⟩
    have HR4 := hid (Rd.own hown4)
    have HW4 := hid (into HB3.out hb4)
    have HO4 := hid (own_below HO3.out hb4)
    have hz4 := HW4.out.size
    clear hown4 hb4
    go_wp2_with (at_builtin; refine apg w4 (shC ⟨ct, ck⟩).length rfl _ _ 35 45 _ 3 32 Tryd.underlying35 Tryd.info45 rfl (by omega) rfl HO4.out hz4 (by have := shC_len ⟨ct, ck⟩; have h1 : comma.length = 1 := rfl; omega) (by have := shC_len ⟨ct, ck⟩; have h1 : comma.length = 1 := rfl; unfold maxLen; omega) (tkc_one _) HR4.out rfl rfl ?_; intro v5 w5 hown5 hb5 _; have HO5 := hid hown5; have HB5 := hid (HW4.out.trans hb5); clear hown5 hb5)
    go_roundw
    case rel =>
     refine ⟨k + 1, by omega, by go_num, ?_, HB5.out⟩
     show World.ownsRow _ _ _ _ _ _ _
     rw [HL2.out, if_neg (by omega)]
     have h := HO5.out
     rw [HQ.out] at h
     rw [tkc_app, tkc_app, List.length_append, List.length_append, ← Nat.add_assoc, ← List.append_assoc]
     exact h
    case measure => (simp [intOf]) <;> omega
  ·obtain rfl : k = n := by omega
   have HE : Hid (l.take k = l) := by
    show _ = _
    rw [List.take_of_length_le (by rw [← HN.out]; exact Nat.le_refl _)]
   go_wp2_with fail
   go_ret
   refine ⟨_, rfl, ?_, HB.out⟩
   have h := HU.out
   rw [HE.out] at h
   exact h
end Go.Proofs.YtdeollmeljaaoaaDoor
