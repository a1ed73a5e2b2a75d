import Derived.Test.YtnheepkmaibofaaDoorRkk
/- A statement as tokens: the document. -/
namespace Go.Proofs.YtnheepkmaibofaaDoor.cs
open Go.ChangeShapes Go.WideShapes Go.ChangeAt Go.RowKit
set_option linter.unusedVariables false
set_option linter.unusedSimpArgs false
set_option maxHeartbeats 8000000
set_option maxRecDepth 1000000
theorem stok_create (w : World) (t : ByteArray) (ht : nmF t.data.toList = 0) (a2 : Option Addr) (n cap : Nat) (l : List Cq) (hn0 : 0 < n) (hn : n ≤ 6) (hr : Rd w 2 n (.slice a2 n cap) (ccs l)) (hok : ColOk l) (row : List V) (names : List ByteArray) (cnt : Bool) (wh : List Oq) (ord : ByteArray) (dn : Bool) (lim : Int) (st : ByteArray) (to : List Oq) (a3 : Option Addr) (n3 c3 : Nat) (a4 : Option Addr) (n4 c4 : Nat) (a6 : Option Addr) (n6 c6 : Nat) (a11 : Option Addr) (n11 c11 : Nat) :
    Calls Tryd.prog 27 #[stV ⟨1, t, l, row, names, cnt, wh, ord, dn, lim, st, to⟩ ⟨a2, n, cap, a3, n3, c3, a4, n4, c4, a6, n6, c6, a11, n11, c11⟩] w (ToksIs (crT t l) w) := by
  have hml := len_c hr
  have htz := nm_size ht
  obtain ⟨b, o, cap', hv, _, _, hbw, hcell⟩ := cols_of hr hn0
  simp only [Value.slice.injEq] at hv
  obtain ⟨rfl, -, rfl⟩ := hv
  have HTK0 := Lib.hid (toks_is (tz_head ht) (by rw [size_app, size_app]; show 13 + t.size + 2 ≤ 1000; omega))
  have HTKC := Lib.hid (toks_is (s := ⟨#[44]⟩) tz_comma (by decide))
  have HTKE := Lib.hid (toks_is (s := ⟨#[41]⟩) tz_close (by decide))
  have hs1 : ¬ 9223372036854775807 < 13 + t.size := by omega
  have hs2 : ¬ 9223372036854775807 < 13 + t.size + 2 := by omega
  obtain ⟨W0, hW0⟩ : ∃ W0, W0 = w.alloc (.cells (stC ⟨1, t, l, row, names, cnt, wh, ord, dn, lim, st, to⟩ ⟨some ⟨b, o, none⟩, n, cap, a3, n3, c3, a4, n4, c4, a6, n6, c6, a11, n11, c11⟩) 27) := ⟨_, rfl⟩
  have HW := Lib.hid hW0
  have hbx := (StB.new w ⟨1, t, l, row, names, cnt, wh, ord, dn, lim, st, to⟩ ⟨some ⟨b, o, none⟩, n, cap, a3, n3, c3, a4, n4, c4, a6, n6, c6, a11, n11, c11⟩ (w1 := W0) (by rw [hW0]; exact Below.refl _ _)).c2
  have HB0 : Hid (Below w.heap.size w W0) := by show Below _ _ _; rw [hW0]; exact (Below.refl _ _).alloc (Nat.le_refl _) _
  have hP : w.heap.size < W0.heap.size := by rw [hW0]; simp
  have hbw0 : b < W0.heap.size := Nat.lt_of_lt_of_le hbw HB0.out.size
  have HC0 : Hid (∀ k, k < n → W0.cell? ⟨b, o + k * 2, none⟩ = some (.string (l.getD k ncq).t) ∧ W0.cell? ⟨b, o + k * 2 + 1, none⟩ = some (.int .i64 (l.getD k ncq).k)) := fun k hk => ⟨(HB0.out.cell (p := ⟨b, o + k * 2, none⟩) hbw).trans (hcell k hk).1, (HB0.out.cell (p := ⟨b, o + k * 2 + 1, none⟩) hbw).trans (hcell k hk).2⟩
  have HN := Lib.hid hml
  have HOK := Lib.hid hok
  have hlb := btwc_len l
  have HLB := Lib.hid hlb
  clear hcell hml hok hW0 hlb hr htz
  go_enter Tryd.func27, Tryd.ntmps27
  go_wp2_with fail
  rw [← HW.out]
  refine (HTK0.out W0).mono ?_
  rintro e w1 ⟨v1, rfl, hown1, hb1⟩
  have HO1 := Lib.hid hown1
  have HB1 := Lib.hid hb1
  clear hown1 hb1
  go_wp2_with fail
  clear hs1 hs2
  go_loopw [3, 4] (fun u i wr => ∃ k : Nat, k ≤ n ∧ i = .int .i64 (k : Int) ∧ Hid (wr.ownsRow W0.heap.size 39 3 u (4 + (btw comma shC (l.take k)).length) (tkc ([ptk sCREATE, ptk sTABLE, ptk t, ptk sOpen] ++ btw comma shC (l.take k)))) ∧ Hid (Below W0.heap.size W0 wr)) (fun _ i _ => n - (intOf i).toNat)
  case atStart => exact ⟨0, by omega, rfl, HO1.out, HB1.out⟩
  case round =>
    obtain ⟨k, hk, rfl, HU, HB⟩ := hrel
    have x2 := cell_blw HB.out hbx
    have hwz := HB.out.size
    have hlk := btwc_len (l.take k)
    rw [List.length_take_of_le (by rw [← HN.out]; exact hk)] at hlk
    obtain ⟨L, hL⟩ : ∃ L, L = btw comma shC (l.take k) := ⟨_, rfl⟩
    obtain ⟨H4, h4⟩ : ∃ H4, H4 = [ptk sCREATE, ptk sTABLE, ptk t, ptk sOpen] := ⟨_, rfl⟩
    have HH4 := Lib.hid h4
    have HLL := Lib.hid hL
    rw [← hL] at HU hlk
    rw [← h4] at HU
    clear hL h4
    obtain ⟨q, hq⟩ : ∃ q, q = 4 + L.length := ⟨_, rfl⟩
    have HQ := Lib.hid hq
    rw [← hq] at HU
    have hq100 : q ≤ 100 := by omega
    clear hq hlk
    by_cases hlt : k < n
    · obtain ⟨g0, g1⟩ := HC0.out k hlt
      have c0 := cell_blw HB.out g0
      have c1 := cell_blw HB.out g1
      have hll : k < l.length := by rw [← HN.out]; exact hlt
      have htk := ctake_snoc hll
      have hco := HOK.out _ (cgetD_mem hll)
      obtain ⟨u, hu⟩ : ∃ u, u = l.getD k ncq := ⟨_, rfl⟩
      rw [← hu] at c0 c1 hco htk
      have hL2 : btw comma shC (l.take (k + 1)) = if k = 0 then shC u else L ++ (comma ++ shC u) := by
        rw [htk, HLL.out]
        split
        · rename_i h
          subst h
          exact btw_one _ _ _
        · rename_i h
          exact btw_snoc _ _ _ _ (by
            intro e
            have := congrArg List.length e
            rw [List.length_take_of_le (by omega)] at this
            simp at this
            omega)
      have hL0 : k = 0 → L = [] := fun h => by rw [HLL.out, h]; rfl
      have HL2 := Lib.hid hL2
      have HL0 := Lib.hid hL0
      obtain ⟨kk, kd, hkk, hkd, hor⟩ := kd_of hco.2.1 hco.2.2
      have hks := kd_len hor
      have hus := nm_size hco.1
      have HTK := Lib.hid (toks_is (tz_col hco.1 hco.2.1 hco.2.2) (by rw [size_app, size_app, ← hkd]; show u.t.size + 1 + kd.size ≤ 1000; omega))
      rw [← hkd] at HTK
      rw [hkk] at c1
      have HOR := Lib.hid hor
      obtain ⟨ut, uk⟩ := u
      simp only at c0 hus HTK
      have HTK' : Hid (∀ W, Calls Tryd.prog 55 #[.string (ut ++ ⟨#[32]⟩ ++ kd)] W (ToksIs [ptk ut, ptk ⟨(kdL.getD uk.toNat []).toArray⟩] W)) := HTK
      clear g0 g1 hu htk hco hL2 hL0 hkk hkd hor hks hll HTK
      have hkn : (k : Int) < (n : Int) := by omega
      by_cases hk0 : k = 0
      · have HK0 := Lib.hid hk0
        have hk1 : k < 1 := by omega
        clear hk0
        go_wp2_with fail
        change Code.wp _ ((regionOf 9 (Tryd.f27.body.getD .skip)).getD .skip) _ _ _
        refine st9 _ _ _ _ _ _ _ _ _ _ _ _ _ _ _ _ _ _ _ _ _ _ _ _ _ _ _ _ _ _ _ _ _ _ _ _ _ _ _ _ _ _ _ _ _ _ _ _ _ _ _ _ _ _ _ _ _ _ _ _ _ _ _ _ _ _ _ _ _ _ _ _ _ _ _ _ _ _ _ _ _ _ _ _ _ _ _ _ _ _ _ _ _ _ _ _ _ _ _ _ _ _ _ _ _ _ _ _ _ _ _ _ _ _ _ _ _ _ _ _ _ _ _ _ _ _ _ _ _ _ _ _ _ _ _ _ _ _ _ _ _ _ _ _ _ _ _ _ _ _ _ _ _ _ _ _ _ _ _ _ _ _ _ _ _ _ _ _ _ _ _ _ _ _ _ _ _ _ _ _ _ _ _ _ _ _ _ wr w.heap.size W0.heap.size b o n cap k q kk _ _ ut kd _ _ HOR.out hwz hP hbw0 (by omega) hkn (by omega) x2 c0 c1 HU HTK' (Lib.hid ?_)
        intro e32 e33 e34 e35 e36 e37 e38 e39 e40 e41 e42 e43 e44 e45 e46 e47 e48 e49 e50 e51 v5 w5 hown5 hb5
        have HO5 := Lib.hid hown5
        have HB5 := Lib.hid (HB.out.trans hb5)
        clear hown5 hb5
        go_wp2_with fail
        go_roundw
        case rel =>
          refine ⟨k + 1, by omega, by go_num, ?_, HB5.out⟩
          show World.ownsRow _ _ _ _ _ _ _
          have h := HO5.out
          have e := HL0.out HK0.out
          rw [HL2.out, if_pos HK0.out, ← HH4.out, tkc_app]
          rw [HQ.out, e, List.append_nil] at h
          exact h
        case measure => (simp [intOf]) <;> omega
      · have hk0' : (0 : Int) < (k : Int) := by omega
        go_wp2_with fail
        refine (HTKC.out wr).mono ?_
        rintro e w2 ⟨v2, rfl, hown2, hb2⟩
        have HR2 := Lib.hid (Rd.own hown2)
        have HO2 := Lib.hid (own_below HU.out hb2)
        have HW2 := Lib.hid (into HB.out hb2)
        have hz2 := HW2.out.size
        replace x2 := cell_blw hb2 x2
        replace c0 := cell_blw hb2 c0
        replace c1 := cell_blw hb2 c1
        clear hown2 hb2
        go_wp2_with (at_builtin; refine apg w2 comma.length rfl _ _ 32 39 _ 3 32 Tryd.underlying32 Tryd.info39 rfl (by omega) rfl HO2.out hz2 (by have h1 : comma.length = 1 := rfl; omega) (by have h1 : comma.length = 1 := rfl; unfold maxLen; omega) (tkc_one _) HR2.out rfl rfl ?_; intro v3 w3 hown3 hb3 _; have HO3 : Hid (w3.ownsRow W0.heap.size 39 3 v3 (q + 1) (tkc (H4 ++ L) ++ tkc comma)) := Lib.hid hown3; have HB3 := Lib.hid (HW2.out.trans hb3); have y2 := (hb3.cell (p := ⟨w.heap.size, 2, none⟩) hP).trans x2; have d0 := (hb3.cell (p := ⟨b, o + k * 2, none⟩) hbw0).trans c0; have d1 := (hb3.cell (p := ⟨b, o + k * 2 + 1, none⟩) hbw0).trans c1; have hz3 := HB3.out.size; clear hown3 hb3)
        change Code.wp _ ((regionOf 9 (Tryd.f27.body.getD .skip)).getD .skip) _ _ _
        refine st9 _ _ _ _ _ _ _ _ _ _ _ _ _ _ _ _ _ _ _ _ _ _ _ _ _ _ _ _ _ _ _ _ _ _ _ _ _ _ _ _ _ _ _ _ _ _ _ _ _ _ _ _ _ _ _ _ _ _ _ _ _ _ _ _ _ _ _ _ _ _ _ _ _ _ _ _ _ _ _ _ _ _ _ _ _ _ _ _ _ _ _ _ _ _ _ _ _ _ _ _ _ _ _ _ _ _ _ _ _ _ _ _ _ _ _ _ _ _ _ _ _ _ _ _ _ _ _ _ _ _ _ _ _ _ _ _ _ _ _ _ _ _ _ _ _ _ _ _ _ _ _ _ _ _ _ _ _ _ _ _ _ _ _ _ _ _ _ _ _ _ _ _ _ _ _ _ _ _ _ _ _ _ _ _ _ _ _ w3 w.heap.size W0.heap.size b o n cap k (q + 1) kk _ (H4 ++ L ++ comma) ut kd _ _ HOR.out hz3 hP hbw0 (by omega) hkn (by omega) y2 d0 d1 (Lib.hid (by rw [tkc_app]; exact HO3.out)) HTK' (Lib.hid ?_)
        intro e32 e33 e34 e35 e36 e37 e38 e39 e40 e41 e42 e43 e44 e45 e46 e47 e48 e49 e50 e51 v5 w5 hown5 hb5
        have HO5 := Lib.hid hown5
        have HB5 := Lib.hid (HB3.out.trans hb5)
        clear hown5 hb5
        go_wp2_with fail
        go_roundw
        case rel =>
          refine ⟨k + 1, by omega, by go_num, ?_, HB5.out⟩
          show World.ownsRow _ _ _ _ _ _ _
          have h := HO5.out
          rw [HL2.out, if_neg hk0, ← HH4.out, ← List.append_assoc, ← List.append_assoc, tkc_app]
          rw [HQ.out] at h
          have hl3 : (L ++ comma ++ shC ⟨ut, uk⟩).length = L.length + 1 + 2 := by
            rw [List.length_append, List.length_append, shC_len]
            rfl
          rw [hl3, ← List.append_assoc H4 L comma, show 4 + (L.length + 1 + 2) = 4 + L.length + 1 + 2 by omega]
          exact h
        case measure => (simp [intOf]) <;> omega
    · obtain rfl : k = n := by omega
      have HE : Hid (l.take k = l) := by
        show _ = _
        rw [List.take_of_length_le (by rw [← HN.out]; exact Nat.le_refl _)]
      go_wp2_with fail
      refine (HTKE.out wr).mono ?_
      rintro e w2 ⟨v2, rfl, hown2, hb2⟩
      have HR2 := Lib.hid (Rd.own hown2)
      have HO2 := Lib.hid (own_below HU.out hb2)
      have HW2 := Lib.hid (into HB.out hb2)
      have hz2 := HW2.out.size
      clear hown2 hb2
      go_wp2_with (at_builtin; refine apg w2 [ptk sClose].length rfl _ _ 32 39 _ 3 32 Tryd.underlying32 Tryd.info39 rfl (by omega) rfl HO2.out hz2 (by have h1 : [ptk sClose].length = 1 := rfl; omega) (by have h1 : [ptk sClose].length = 1 := rfl; unfold maxLen; omega) (tkc_one _) HR2.out rfl rfl ?_; intro v3 w3 hown3 hb3 _; have HO3 := Lib.hid hown3; have HB3 := Lib.hid (HW2.out.trans hb3); clear hown3 hb3)
      go_ret
      refine ToksIs.from ⟨_, rfl, ?_, HB3.out⟩ HB0.out
      have h := HO3.out
      rw [HQ.out, HLL.out, HH4.out, HE.out] at h
      unfold crT
      rw [← List.append_assoc, tkc_app, List.length_append, List.length_append]
      exact h
theorem stok_drop (w : World) (t : ByteArray) (cols : List Cq) (row : List V) (names : List ByteArray) (cnt : Bool) (wh : List Oq) (ord : ByteArray) (dn : Bool) (lim : Int) (st : ByteArray) (to : List Oq) (a2 : Option Addr) (n2 c2 : Nat) (a3 : Option Addr) (n3 c3 : Nat) (a4 : Option Addr) (n4 c4 : Nat) (a6 : Option Addr) (n6 c6 : Nat) (a11 : Option Addr) (n11 c11 : Nat) (ht : nmF t.data.toList = 0) :
    Calls Tryd.prog 27 #[stV ⟨2, t, cols, row, names, cnt, wh, ord, dn, lim, st, to⟩ ⟨a2, n2, c2, a3, n3, c3, a4, n4, c4, a6, n6, c6, a11, n11, c11⟩] w (ToksIs ([ptk sDROP, ptk sTABLE, ptk t]) w) := by
  obtain ⟨W0, hW0⟩ : ∃ W0, W0 = w.alloc (.cells (stC ⟨2, t, cols, row, names, cnt, wh, ord, dn, lim, st, to⟩ ⟨a2, n2, c2, a3, n3, c3, a4, n4, c4, a6, n6, c6, a11, n11, c11⟩) 27) := ⟨_, rfl⟩
  have HWE := Lib.hid hW0
  have HNW : Hid (∀ w1, Below W0.heap.size W0 w1 → StB w1 w.heap.size ⟨2, t, cols, row, names, cnt, wh, ord, dn, lim, st, to⟩ ⟨a2, n2, c2, a3, n3, c3, a4, n4, c4, a6, n6, c6, a11, n11, c11⟩) := fun w1 hb => by
    have := StB.new w ⟨2, t, cols, row, names, cnt, wh, ord, dn, lim, st, to⟩ ⟨a2, n2, c2, a3, n3, c3, a4, n4, c4, a6, n6, c6, a11, n11, c11⟩ (w1 := w1)
    rw [← hW0] at this
    exact this hb
  have HB0 : Hid (Below w.heap.size w W0) := by show Below _ _ _; rw [hW0]; exact (Below.refl _ _).alloc (Nat.le_refl _) _
  have HSZ : Hid (w.heap.size < W0.heap.size) := by show _ < _; rw [hW0]; simp
  clear hW0
  have hs1 : ¬ 9223372036854775807 < 11 + t.size := by have := nm_size ht; omega
  have HP := Lib.hid (toks_is (s := ⟨#[68, 82, 79, 80, 32, 84, 65, 66, 76, 69, 32]⟩ ++ t) (tz_drop (wd_name ht)) (by have := nm_size ht; rw [size_app]; show 11 + t.size ≤ 1000; omega))
  go_enter Tryd.func27, Tryd.ntmps27
  go_wp2_with fail
  rw [← HWE.out]
  refine (HP.out W0).mono ?_
  rintro e w1 ⟨v1, rfl, h1, h2⟩
  have H := Lib.hid (show ToksIs _ _ (.returned v1) w1 from ⟨v1, rfl, h1, h2⟩)
  clear h1 h2
  go_wp2_with fail
  go_ret
  exact ToksIs.from H.out HB0.out
theorem stok_begin (w : World) (t : ByteArray) (cols : List Cq) (row : List V) (names : List ByteArray) (cnt : Bool) (wh : List Oq) (ord : ByteArray) (dn : Bool) (lim : Int) (st : ByteArray) (to : List Oq) (a2 : Option Addr) (n2 c2 : Nat) (a3 : Option Addr) (n3 c3 : Nat) (a4 : Option Addr) (n4 c4 : Nat) (a6 : Option Addr) (n6 c6 : Nat) (a11 : Option Addr) (n11 c11 : Nat)  :
    Calls Tryd.prog 27 #[stV ⟨7, t, cols, row, names, cnt, wh, ord, dn, lim, st, to⟩ ⟨a2, n2, c2, a3, n3, c3, a4, n4, c4, a6, n6, c6, a11, n11, c11⟩] w (ToksIs ([ptk sBEGIN]) w) := by
  obtain ⟨W0, hW0⟩ : ∃ W0, W0 = w.alloc (.cells (stC ⟨7, t, cols, row, names, cnt, wh, ord, dn, lim, st, to⟩ ⟨a2, n2, c2, a3, n3, c3, a4, n4, c4, a6, n6, c6, a11, n11, c11⟩) 27) := ⟨_, rfl⟩
  have HWE := Lib.hid hW0
  have HNW : Hid (∀ w1, Below W0.heap.size W0 w1 → StB w1 w.heap.size ⟨7, t, cols, row, names, cnt, wh, ord, dn, lim, st, to⟩ ⟨a2, n2, c2, a3, n3, c3, a4, n4, c4, a6, n6, c6, a11, n11, c11⟩) := fun w1 hb => by
    have := StB.new w ⟨7, t, cols, row, names, cnt, wh, ord, dn, lim, st, to⟩ ⟨a2, n2, c2, a3, n3, c3, a4, n4, c4, a6, n6, c6, a11, n11, c11⟩ (w1 := w1)
    rw [← hW0] at this
    exact this hb
  have HB0 : Hid (Below w.heap.size w W0) := by show Below _ _ _; rw [hW0]; exact (Below.refl _ _).alloc (Nat.le_refl _) _
  have HSZ : Hid (w.heap.size < W0.heap.size) := by show _ < _; rw [hW0]; simp
  clear hW0
  have HP := Lib.hid (toks_is (s := sBEGIN) (wd_tz wBEGIN) (by decide))
  go_enter Tryd.func27, Tryd.ntmps27
  go_wp2_with fail
  rw [← HWE.out]
  refine (HP.out W0).mono ?_
  rintro e w1 ⟨v1, rfl, h1, h2⟩
  have H := Lib.hid (show ToksIs _ _ (.returned v1) w1 from ⟨v1, rfl, h1, h2⟩)
  clear h1 h2
  go_wp2_with fail
  go_ret
  exact ToksIs.from H.out HB0.out
theorem stok_commit (w : World) (t : ByteArray) (cols : List Cq) (row : List V) (names : List ByteArray) (cnt : Bool) (wh : List Oq) (ord : ByteArray) (dn : Bool) (lim : Int) (st : ByteArray) (to : List Oq) (a2 : Option Addr) (n2 c2 : Nat) (a3 : Option Addr) (n3 c3 : Nat) (a4 : Option Addr) (n4 c4 : Nat) (a6 : Option Addr) (n6 c6 : Nat) (a11 : Option Addr) (n11 c11 : Nat)  :
    Calls Tryd.prog 27 #[stV ⟨8, t, cols, row, names, cnt, wh, ord, dn, lim, st, to⟩ ⟨a2, n2, c2, a3, n3, c3, a4, n4, c4, a6, n6, c6, a11, n11, c11⟩] w (ToksIs ([ptk sCOMMIT]) w) := by
  obtain ⟨W0, hW0⟩ : ∃ W0, W0 = w.alloc (.cells (stC ⟨8, t, cols, row, names, cnt, wh, ord, dn, lim, st, to⟩ ⟨a2, n2, c2, a3, n3, c3, a4, n4, c4, a6, n6, c6, a11, n11, c11⟩) 27) := ⟨_, rfl⟩
  have HWE := Lib.hid hW0
  have HNW : Hid (∀ w1, Below W0.heap.size W0 w1 → StB w1 w.heap.size ⟨8, t, cols, row, names, cnt, wh, ord, dn, lim, st, to⟩ ⟨a2, n2, c2, a3, n3, c3, a4, n4, c4, a6, n6, c6, a11, n11, c11⟩) := fun w1 hb => by
    have := StB.new w ⟨8, t, cols, row, names, cnt, wh, ord, dn, lim, st, to⟩ ⟨a2, n2, c2, a3, n3, c3, a4, n4, c4, a6, n6, c6, a11, n11, c11⟩ (w1 := w1)
    rw [← hW0] at this
    exact this hb
  have HB0 : Hid (Below w.heap.size w W0) := by show Below _ _ _; rw [hW0]; exact (Below.refl _ _).alloc (Nat.le_refl _) _
  have HSZ : Hid (w.heap.size < W0.heap.size) := by show _ < _; rw [hW0]; simp
  clear hW0
  have HP := Lib.hid (toks_is (s := sCOMMIT) (wd_tz wCOMMIT) (by decide))
  go_enter Tryd.func27, Tryd.ntmps27
  go_wp2_with fail
  rw [← HWE.out]
  refine (HP.out W0).mono ?_
  rintro e w1 ⟨v1, rfl, h1, h2⟩
  have H := Lib.hid (show ToksIs _ _ (.returned v1) w1 from ⟨v1, rfl, h1, h2⟩)
  clear h1 h2
  go_wp2_with fail
  go_ret
  exact ToksIs.from H.out HB0.out
theorem stok_roll (w : World) (t : ByteArray) (cols : List Cq) (row : List V) (names : List ByteArray) (cnt : Bool) (wh : List Oq) (ord : ByteArray) (dn : Bool) (lim : Int) (st : ByteArray) (to : List Oq) (a2 : Option Addr) (n2 c2 : Nat) (a3 : Option Addr) (n3 c3 : Nat) (a4 : Option Addr) (n4 c4 : Nat) (a6 : Option Addr) (n6 c6 : Nat) (a11 : Option Addr) (n11 c11 : Nat)  :
    Calls Tryd.prog 27 #[stV ⟨9, t, cols, row, names, cnt, wh, ord, dn, lim, st, to⟩ ⟨a2, n2, c2, a3, n3, c3, a4, n4, c4, a6, n6, c6, a11, n11, c11⟩] w (ToksIs ([ptk sROLLBACK]) w) := by
  obtain ⟨W0, hW0⟩ : ∃ W0, W0 = w.alloc (.cells (stC ⟨9, t, cols, row, names, cnt, wh, ord, dn, lim, st, to⟩ ⟨a2, n2, c2, a3, n3, c3, a4, n4, c4, a6, n6, c6, a11, n11, c11⟩) 27) := ⟨_, rfl⟩
  have HWE := Lib.hid hW0
  have HNW : Hid (∀ w1, Below W0.heap.size W0 w1 → StB w1 w.heap.size ⟨9, t, cols, row, names, cnt, wh, ord, dn, lim, st, to⟩ ⟨a2, n2, c2, a3, n3, c3, a4, n4, c4, a6, n6, c6, a11, n11, c11⟩) := fun w1 hb => by
    have := StB.new w ⟨9, t, cols, row, names, cnt, wh, ord, dn, lim, st, to⟩ ⟨a2, n2, c2, a3, n3, c3, a4, n4, c4, a6, n6, c6, a11, n11, c11⟩ (w1 := w1)
    rw [← hW0] at this
    exact this hb
  have HB0 : Hid (Below w.heap.size w W0) := by show Below _ _ _; rw [hW0]; exact (Below.refl _ _).alloc (Nat.le_refl _) _
  have HSZ : Hid (w.heap.size < W0.heap.size) := by show _ < _; rw [hW0]; simp
  clear hW0
  have HP := Lib.hid (toks_is (s := sROLLBACK) (wd_tz wROLLBACK) (by decide))
  go_enter Tryd.func27, Tryd.ntmps27
  go_wp2_with fail
  rw [← HWE.out]
  refine (HP.out W0).mono ?_
  rintro e w1 ⟨v1, rfl, h1, h2⟩
  have H := Lib.hid (show ToksIs _ _ (.returned v1) w1 from ⟨v1, rfl, h1, h2⟩)
  clear h1 h2
  go_wp2_with fail
  go_ret
  exact ToksIs.from H.out HB0.out
theorem stok_insert (w : World) (t : ByteArray) (cols : List Cq) (row : List V) (names : List ByteArray) (cnt : Bool) (wh : List Oq) (ord : ByteArray) (dn : Bool) (lim : Int) (st : ByteArray) (to : List Oq) (a2 : Option Addr) (n2 c2 : Nat) (a3 : Option Addr) (n3 c3 : Nat) (a4 : Option Addr) (n4 c4 : Nat) (a6 : Option Addr) (n6 c6 : Nat) (a11 : Option Addr) (n11 c11 : Nat) (ht : nmF t.data.toList = 0) (hn0 : 0 < n3) (hn : n3 ≤ 6) (hr : Rd w 3 n3 (.slice a3 n3 c3) (vc row)) (hok : ∀ v ∈ row, VOk v) :
    Calls Tryd.prog 27 #[stV ⟨3, t, cols, row, names, cnt, wh, ord, dn, lim, st, to⟩ ⟨a2, n2, c2, a3, n3, c3, a4, n4, c4, a6, n6, c6, a11, n11, c11⟩] w (ToksIs ([ptk sINSERT, ptk sINTO, ptk t, ptk sVALUES, ptk sOpen] ++ (btw comma valT row ++ [ptk sClose])) w) := by
  obtain ⟨W0, hW0⟩ : ∃ W0, W0 = w.alloc (.cells (stC ⟨3, t, cols, row, names, cnt, wh, ord, dn, lim, st, to⟩ ⟨a2, n2, c2, a3, n3, c3, a4, n4, c4, a6, n6, c6, a11, n11, c11⟩) 27) := ⟨_, rfl⟩
  have HWE := Lib.hid hW0
  have HNW : Hid (∀ w1, Below W0.heap.size W0 w1 → StB w1 w.heap.size ⟨3, t, cols, row, names, cnt, wh, ord, dn, lim, st, to⟩ ⟨a2, n2, c2, a3, n3, c3, a4, n4, c4, a6, n6, c6, a11, n11, c11⟩) := fun w1 hb => by
    have := StB.new w ⟨3, t, cols, row, names, cnt, wh, ord, dn, lim, st, to⟩ ⟨a2, n2, c2, a3, n3, c3, a4, n4, c4, a6, n6, c6, a11, n11, c11⟩ (w1 := w1)
    rw [← hW0] at this
    exact this hb
  have HB0 : Hid (Below w.heap.size w W0) := by show Below _ _ _; rw [hW0]; exact (Below.refl _ _).alloc (Nat.le_refl _) _
  have HSZ : Hid (w.heap.size < W0.heap.size) := by show _ < _; rw [hW0]; simp
  clear hW0
  have htz := nm_size ht
  have hml := len_v hr
  obtain ⟨_, b, o, cap', hv, _, _, hbw, hcell⟩ := vals_of hr hn0
  simp only [Value.slice.injEq] at hv
  obtain ⟨rfl, -, rfl⟩ := hv
  have hs1 : ¬ 9223372036854775807 < 12 + t.size := by omega
  have hs2 : ¬ 9223372036854775807 < 12 + t.size + 9 := by omega
  have HTK0 := Lib.hid (toks_is (tz_ins (wd_name ht)) (by rw [size_app, size_app]; show 12 + t.size + 9 ≤ 1000; omega))
  have HTKC := Lib.hid (toks_is (s := ⟨#[44]⟩) tz_comma (by decide))
  have HTKE := Lib.hid (toks_is (s := ⟨#[41]⟩) tz_close (by decide))
  have HN := Lib.hid hml
  have HVT : Hid (∀ x ∈ row, ∀ W : World, Calls Tryd.prog 56 #[.agg #[.int .i64 x.k, .int .i64 x.n, .string x.t]] W (ToksIs (valT x) W)) := fun x hx W => valueToks_any W x (hok x hx)
  have hbw0 : b < W0.heap.size := Nat.lt_of_lt_of_le hbw HB0.out.size
  have HC0 : Hid (∀ k, k < n3 → W0.cell? ⟨b, o + k * 3, none⟩ = some (.int .i64 (row.getD k nul).k) ∧ W0.cell? ⟨b, o + k * 3 + 1, none⟩ = some (.int .i64 (row.getD k nul).n) ∧ W0.cell? ⟨b, o + k * 3 + 2, none⟩ = some (.string (row.getD k nul).t)) := fun k hk => ⟨(HB0.out.cell (p := ⟨b, o + k * 3, none⟩) hbw).trans (hcell k hk).1, (HB0.out.cell (p := ⟨b, o + k * 3 + 1, none⟩) hbw).trans (hcell k hk).2.1, (HB0.out.cell (p := ⟨b, o + k * 3 + 2, none⟩) hbw).trans (hcell k hk).2.2⟩
  obtain ⟨H5, hH5⟩ : ∃ H, H = [ptk sINSERT, ptk sINTO, ptk t, ptk sVALUES, ptk sOpen] := ⟨_, rfl⟩
  rw [← hH5] at HTK0 ⊢
  have HHL : Hid (H5.length = 5) := by show _ = _; rw [hH5]; rfl
  clear hcell hml hr htz hok hH5 ht
  go_enter Tryd.func27, Tryd.ntmps27
  go_wp2_with fail
  rw [← HWE.out]
  refine (HTK0.out W0).mono ?_
  rintro e w1 ⟨v1, rfl, h1, h2⟩
  rw [HHL.out] at h1
  have HO1 := Lib.hid h1
  have HB1 := Lib.hid h2
  clear h1 h2
  go_wp2_with fail
  clear hs1 hs2
  go_loopw [5, 6] (fun u i wr => ∃ (k : Nat) (L : List Tk) (q : Nat), k ≤ n3 ∧ i = .int .i64 (k : Int) ∧ Hid (L = H5 ++ btw comma valT (row.take k)) ∧ Hid (q = L.length) ∧ q ≤ 5 + 3 * k ∧ Hid (wr.ownsRow W0.heap.size 39 3 u q (tkc L)) ∧ Hid (Below W0.heap.size W0 wr)) (fun _ i _ => n3 - (intOf i).toNat)
  case atStart => exact ⟨0, H5, 5, by omega, rfl, by simp [Hid, btw], HHL.out.symm, by omega, HO1.out, HB1.out⟩
  case round =>
    obtain ⟨k, L, q, hk, rfl, HL, HQ, hq, HU, HB⟩ := hrel
    obtain ⟨x0, x1, x2, x3, x4, x5, x6, x7, x8, x9, x10, x11⟩ := HNW.out wr HB.out
    simp only at x3
    have X3 := Lib.hid x3
    clear x0 x1 x2 x4 x5 x6 x7 x8 x9 x10 x11
    have hwz := HB.out.size
    obtain ⟨au, cu, rfl⟩ := own_shape HU.out
    by_cases hlt : k < n3
    · obtain ⟨g0, g1, g2⟩ := HC0.out k hlt
      have hll : k < row.length := by rw [← HN.out]; exact hlt
      have htk := vtake_snoc hll
      have hvt := HVT.out _ (vgetD_mem hll)
      obtain ⟨x, hx⟩ : ∃ x, x = row.getD k nul := ⟨_, rfl⟩
      rw [← hx] at g0 g1 g2 htk hvt
      have hL2 : H5 ++ btw comma valT (row.take (k + 1)) = if k = 0 then L ++ valT x else (L ++ comma) ++ valT x := by
        rw [htk, HL.out]
        split
        · rename_i h
          subst h
          rw [show row.take 0 ++ [x] = [x] from rfl, btw_one]
          simp [btw]
        · rename_i h
          rw [btw_snoc _ _ _ _ (by
            intro e
            have := congrArg List.length e
            rw [List.length_take_of_le (by omega)] at this
            simp at this
            omega)]
          simp
      have hvl := valT_len x
      obtain ⟨VT, hVT⟩ : ∃ T, T = valT x := ⟨_, rfl⟩
      rw [← hVT] at hL2 hvt hvl
      have HL2 := Lib.hid hL2
      have HV := Lib.hid hvt
      have G0 := Lib.hid g0
      have G1 := Lib.hid g1
      have G2 := Lib.hid g2
      obtain ⟨vk, vn, vt⟩ := x
      simp only at G0 G1 G2 HV
      have hkn : (k : Int) < (n3 : Int) := by omega
      clear g0 g1 g2 htk hvt hL2 hVT hx hll
      by_cases hk0 : k = 0
      · have HK0 := Lib.hid hk0
        have hk1 : k < 1 := by omega
        clear hk0
        have c0 := cell_blw HB.out G0.out
        have c1 := cell_blw HB.out G1.out
        have c2 := cell_blw HB.out G2.out
        go_wp2_with fail
        refine (HV.out wr).mono ?_
        rintro e w2 ⟨v2, rfl, h1, h2⟩
        have HR2 := Lib.hid (Rd.own h1)
        have HO2 := Lib.hid (own_below HU.out h2)
        have HW2 := Lib.hid (HB.out.trans (h2.mono hwz))
        have hz2 := HW2.out.size
        clear h1 h2
        go_wp2_with (at_builtin; refine aptk w2 L VT q HQ rfl _ _ rfl HO2.out HR2.out hz2 (by omega) (by omega) rfl rfl ?_; intro v3 w3 L3 n3q HL3 HN3 hle3 hown hb; have HO3 := Lib.hid hown; have HB3 := Lib.hid (HW2.out.trans hb); clear hown hb)
        go_roundw
        case rel =>
          refine ⟨k + 1, L3, n3q, by omega, by go_num, ?_, HN3.out, by omega, HO3.out, HB3.out⟩
          show _ = _
          rw [HL3.out, HL2.out, if_pos HK0.out]
        case measure => (simp [intOf]) <;> omega
      · have hk0' : (0 : Int) < (k : Int) := by omega
        go_wp2_with fail
        refine (HTKC.out wr).mono ?_
        rintro e w2 ⟨v2, rfl, h1, h2⟩
        have HR2 := Lib.hid (Rd.own h1)
        have HO2 := Lib.hid (own_below HU.out h2)
        have HW2 := Lib.hid (HB.out.trans (h2.mono hwz))
        have hz2 := HW2.out.size
        clear h1 h2 x3
        go_wp2_with (at_builtin; refine aptk w2 L comma q HQ rfl _ _ rfl HO2.out HR2.out hz2 (by omega) (by decide) rfl rfl ?_; intro v3 w3 L3 n3q HL3 HN3 hle3 hown hb; have hle3 : n3q ≤ q + 1 := hle3; have HO3 := Lib.hid hown; have HB3 := Lib.hid (HW2.out.trans hb); have x3 := (HNW.out _ HB3.out).c3; simp only at x3; have c0 := cell_blw HB3.out G0.out; have c1 := cell_blw HB3.out G1.out; have c2 := cell_blw HB3.out G2.out; obtain ⟨au3, cu3, rfl⟩ := own_shape hown; clear hown hb)
        refine (HV.out w3).mono ?_
        rintro e w4 ⟨v4, rfl, h1, h2⟩
        have HR4 := Lib.hid (Rd.own h1)
        have HO4 := Lib.hid (own_below HO3.out h2)
        have HW4 := Lib.hid (HB3.out.trans (h2.mono HB3.out.size))
        have hz4 := HW4.out.size
        clear h1 h2
        go_wp2_with (at_builtin; refine aptk w4 L3 VT n3q HN3 rfl _ _ rfl HO4.out HR4.out hz4 (by omega) (by omega) rfl rfl ?_; intro v5 w5 L5 n5q HL5 HN5 hle5 hown hb; have HO5 := Lib.hid hown; have HB5 := Lib.hid (HW4.out.trans hb); clear hown hb)
        go_roundw
        case rel =>
          refine ⟨k + 1, L5, n5q, by omega, by go_num, ?_, HN5.out, by omega, HO5.out, HB5.out⟩
          show _ = _
          rw [HL5.out, HL3.out, HL2.out, if_neg hk0]
        case measure => (simp [intOf]) <;> omega
    · obtain rfl : k = n3 := by omega
      have HE : Hid (L = H5 ++ btw comma valT row) := by
        show _ = _
        rw [HL.out, List.take_of_length_le (by rw [← HN.out]; exact Nat.le_refl _)]
      go_wp2_with fail
      refine (HTKE.out wr).mono ?_
      rintro e w2 ⟨v2, rfl, h1, h2⟩
      have HR2 := Lib.hid (Rd.own h1)
      have HO2 := Lib.hid (own_below HU.out h2)
      have HW2 := Lib.hid (HB.out.trans (h2.mono hwz))
      have hz2 := HW2.out.size
      clear h1 h2 x3
      go_wp2_with (at_builtin; refine aptk w2 L [ptk sClose] q HQ rfl _ _ rfl HO2.out HR2.out hz2 (by omega) (by simp) rfl rfl ?_; intro v3 w3 L3 n3q HL3 HN3 hle3 hown hb; have HO3 := Lib.hid hown; have HB3 := Lib.hid (HW2.out.trans hb); clear hown hb)
      go_ret
      rw [← List.append_assoc, ← HE.out, ← HL3.out]
      refine ⟨_, rfl, ?_, HB0.out.trans (HB3.out.mono HB0.out.size)⟩
      rw [← HN3.out]
      exact own_mono HO3.out HB0.out.size
theorem stok_update (w : World) (t : ByteArray) (cols : List Cq) (row : List V) (names : List ByteArray) (cnt : Bool) (wh : List Oq) (ord : ByteArray) (dn : Bool) (lim : Int) (st : ByteArray) (to : List Oq) (a2 : Option Addr) (n2 c2 : Nat) (a3 : Option Addr) (n3 c3 : Nat) (a4 : Option Addr) (n4 c4 : Nat) (a6 : Option Addr) (n6 c6 : Nat) (a11 : Option Addr) (n11 c11 : Nat) (ht : nmF t.data.toList = 0) (hst : nmF st.data.toList = 0) (hx : exprF to = 0) (hw : whF wh = 0) (hr6 : Rd w 5 n6 (.slice a6 n6 c6) (ocs wh)) (hr11 : Rd w 5 n11 (.slice a11 n11 c11) (ocs to)) (hok : ∀ o ∈ wh, OOk o) (hokx : ∀ o ∈ to, OOk o) :
    Calls Tryd.prog 27 #[stV ⟨5, t, cols, row, names, cnt, wh, ord, dn, lim, st, to⟩ ⟨a2, n2, c2, a3, n3, c3, a4, n4, c4, a6, n6, c6, a11, n11, c11⟩] w (ToksIs ([ptk sUPDATE, ptk t, ptk sSET, ptk st, ptk sEq] ++ (exT to ++ whT wh)) w) := by
  obtain ⟨W0, hW0⟩ : ∃ W0, W0 = w.alloc (.cells (stC ⟨5, t, cols, row, names, cnt, wh, ord, dn, lim, st, to⟩ ⟨a2, n2, c2, a3, n3, c3, a4, n4, c4, a6, n6, c6, a11, n11, c11⟩) 27) := ⟨_, rfl⟩
  have HWE := Lib.hid hW0
  have HNW : Hid (∀ w1, Below W0.heap.size W0 w1 → StB w1 w.heap.size ⟨5, t, cols, row, names, cnt, wh, ord, dn, lim, st, to⟩ ⟨a2, n2, c2, a3, n3, c3, a4, n4, c4, a6, n6, c6, a11, n11, c11⟩) := fun w1 hb => by
    have := StB.new w ⟨5, t, cols, row, names, cnt, wh, ord, dn, lim, st, to⟩ ⟨a2, n2, c2, a3, n3, c3, a4, n4, c4, a6, n6, c6, a11, n11, c11⟩ (w1 := w1)
    rw [← hW0] at this
    exact this hb
  have HB0 : Hid (Below w.heap.size w W0) := by show Below _ _ _; rw [hW0]; exact (Below.refl _ _).alloc (Nat.le_refl _) _
  have HSZ : Hid (w.heap.size < W0.heap.size) := by show _ < _; rw [hW0]; simp
  clear hW0
  have htz := nm_size ht
  have hsz := nm_size hst
  have hs1 : ¬ 9223372036854775807 < 7 + t.size := by omega
  have hs2 : ¬ 9223372036854775807 < 7 + t.size + 5 := by omega
  have hs3 : ¬ 9223372036854775807 < 7 + t.size + 5 + st.size := by omega
  have hs4 : ¬ 9223372036854775807 < 7 + t.size + 5 + st.size + 2 := by omega
  have HA := Lib.hid (fun (W : World) (_ : Below W0.heap.size W0 W) => toks_is (tz_upd (wd_name ht) (wd_name hst)) (by rw [size_app, size_app, size_app, size_app]; show 7 + t.size + 5 + st.size + 2 ≤ 1000; omega) W)
  have HC : Hid (∀ W, Below W0.heap.size W0 W → Calls Tryd.prog 59 #[.slice a11 n11 c11] W (ToksIs (exT to) W)) := fun W hW => ops_toks W n11 _ to (hr11.below (into HB0.out hW)) hx hokx
  have HD : Hid (∀ W, Below W0.heap.size W0 W → Calls Tryd.prog 58 #[.slice a6 n6 c6] W (ToksIs (whT wh) W)) := fun W hW => whereToks_any W n6 _ wh (hr6.below (into HB0.out hW)) hw hok
  have hl1 := exT_len hx
  have hl2 := whT_len hw
  have HLN : Hid ([ptk sUPDATE, ptk t, ptk sSET, ptk st, ptk sEq].length + ((exT to).length + ((whT wh).length)) ≤ 100000) := by
    show _ ≤ _
    simp only [List.length_cons, List.length_nil]
    omega
  obtain ⟨x0, x1, x2, x3, x4, x5, x6, x7, x8, x9, x10, x11⟩ := HNW.out W0 (Below.refl _ _)
  simp only at x1 x6 x10 x11
  have X1 := Lib.hid x1
  have X6 := Lib.hid x6
  have X10 := Lib.hid x10
  have X11 := Lib.hid x11
  clear x0 x1 x2 x3 x4 x5 x6 x7 x8 x9 x10 x11 hl1 hl2 hx hw hok hokx hr6 hr11 htz hsz ht hst
  go_enter Tryd.func27, Tryd.ntmps27
  go_wp2_with fail
  rw [← HWE.out]
  change Code.wp _ ((regionOf 42 (Tryd.f27.body.getD .skip)).getD .skip) _ _ _
  refine rst42 _ _ _ _ _ _ _ _ _ _ _ _ _ _ _ _ _ _ _ _ _ _ _ _ _ _ _ _ _ _ _ _ _ _ _ _ _ _ _ _ _ _ _ _ _ _ _ _ _ _ _ _ _ _ _ _ _ _ _ _ _ _ _ _ _ _ _ _ _ _ _ _ _ _ _ _ _ _ _ _ _ _ _ _ _ _ _ _ _ _ _ _ _ _ _ _ _ _ _ _ _ _ _ _ _ _ _ _ _ _ _ _ _ _ _ _ _ _ _ _ _ _ _ _ _ _ _ _ _ _ _ _ _ _ _ _ _ _ _ _ _ _ _ _ _ _ _ _ _ _ _ _ _ _ _ _ _ _ _ _ _ _ _ _ _ _ _ _ _ _ _ _ _ _ _ _ _ _ _ _ _ _ _ _ _ _ _ _ _ W0 w.heap.size HSZ.out t st a11 n11 c11 a6 n6 c6 _ (exT to) (whT wh) hs1 hs2 hs3 hs4 X1.out X10.out X11.out X6.out HA HC HD HLN (Lib.hid ?_)
  intro e154 e155 e156 e157 e158 e159 e160 e161 e162 e163 e164 e165 e166 e167 e168 e169 e170 v5 w5 h5
  have H5 := Lib.hid h5
  clear h5
  go_wp2_with fail
  go_ret
  exact ToksIs.from H5.out HB0.out
theorem stok_delete (w : World) (t : ByteArray) (cols : List Cq) (row : List V) (names : List ByteArray) (cnt : Bool) (wh : List Oq) (ord : ByteArray) (dn : Bool) (lim : Int) (st : ByteArray) (to : List Oq) (a2 : Option Addr) (n2 c2 : Nat) (a3 : Option Addr) (n3 c3 : Nat) (a4 : Option Addr) (n4 c4 : Nat) (a6 : Option Addr) (n6 c6 : Nat) (a11 : Option Addr) (n11 c11 : Nat) (ht : nmF t.data.toList = 0) (hw : whF wh = 0) (hr6 : Rd w 5 n6 (.slice a6 n6 c6) (ocs wh)) (hok : ∀ o ∈ wh, OOk o) :
    Calls Tryd.prog 27 #[stV ⟨6, t, cols, row, names, cnt, wh, ord, dn, lim, st, to⟩ ⟨a2, n2, c2, a3, n3, c3, a4, n4, c4, a6, n6, c6, a11, n11, c11⟩] w (ToksIs ([ptk sDELETE, ptk sFROM, ptk t] ++ whT wh) w) := by
  obtain ⟨W0, hW0⟩ : ∃ W0, W0 = w.alloc (.cells (stC ⟨6, t, cols, row, names, cnt, wh, ord, dn, lim, st, to⟩ ⟨a2, n2, c2, a3, n3, c3, a4, n4, c4, a6, n6, c6, a11, n11, c11⟩) 27) := ⟨_, rfl⟩
  have HWE := Lib.hid hW0
  have HNW : Hid (∀ w1, Below W0.heap.size W0 w1 → StB w1 w.heap.size ⟨6, t, cols, row, names, cnt, wh, ord, dn, lim, st, to⟩ ⟨a2, n2, c2, a3, n3, c3, a4, n4, c4, a6, n6, c6, a11, n11, c11⟩) := fun w1 hb => by
    have := StB.new w ⟨6, t, cols, row, names, cnt, wh, ord, dn, lim, st, to⟩ ⟨a2, n2, c2, a3, n3, c3, a4, n4, c4, a6, n6, c6, a11, n11, c11⟩ (w1 := w1)
    rw [← hW0] at this
    exact this hb
  have HB0 : Hid (Below w.heap.size w W0) := by show Below _ _ _; rw [hW0]; exact (Below.refl _ _).alloc (Nat.le_refl _) _
  have HSZ : Hid (w.heap.size < W0.heap.size) := by show _ < _; rw [hW0]; simp
  clear hW0
  have htz := nm_size ht
  have hs1 : ¬ 9223372036854775807 < 12 + t.size := by omega
  have HA := Lib.hid (fun (W : World) (_ : Below W0.heap.size W0 W) => toks_is (tz_del (wd_name ht)) (by rw [size_app]; show 12 + t.size ≤ 1000; omega) W)
  have HD : Hid (∀ W, Below W0.heap.size W0 W → Calls Tryd.prog 58 #[.slice a6 n6 c6] W (ToksIs (whT wh) W)) := fun W hW => whereToks_any W n6 _ wh (hr6.below (into HB0.out hW)) hw hok
  have hl2 := whT_len hw
  have HLN : Hid ([ptk sDELETE, ptk sFROM, ptk t].length + ((whT wh).length) ≤ 100000) := by
    show _ ≤ _
    simp only [List.length_cons, List.length_nil]
    omega
  obtain ⟨x0, x1, x2, x3, x4, x5, x6, x7, x8, x9, x10, x11⟩ := HNW.out W0 (Below.refl _ _)
  simp only at x1 x6
  have X1 := Lib.hid x1
  have X6 := Lib.hid x6
  clear x0 x1 x2 x3 x4 x5 x6 x7 x8 x9 x10 x11 hl2 hw hok hr6 htz ht
  go_enter Tryd.func27, Tryd.ntmps27
  go_wp2_with fail
  rw [← HWE.out]
  change Code.wp _ ((regionOf 44 (Tryd.f27.body.getD .skip)).getD .skip) _ _ _
  refine rst44 _ _ _ _ _ _ _ _ _ _ _ _ _ _ _ _ _ _ _ _ _ _ _ _ _ _ _ _ _ _ _ _ _ _ _ _ _ _ _ _ _ _ _ _ _ _ _ _ _ _ _ _ _ _ _ _ _ _ _ _ _ _ _ _ _ _ _ _ _ _ _ _ _ _ _ _ _ _ _ _ _ _ _ _ _ _ _ _ _ _ _ _ _ _ _ _ _ _ _ _ _ _ _ _ _ _ _ _ _ _ _ _ _ _ _ _ _ _ _ _ _ _ _ _ _ _ _ _ _ _ _ _ _ _ _ _ _ _ _ _ _ _ _ _ _ _ _ _ _ _ _ _ _ _ _ _ _ _ _ _ _ _ _ _ _ _ _ _ _ _ _ _ _ _ _ _ _ _ _ _ _ _ _ _ _ _ _ _ _ W0 w.heap.size HSZ.out t a6 n6 c6 _ (whT wh) hs1 X1.out X6.out HA HD HLN (Lib.hid ?_)
  intro e173 e174 e175 e176 e177 e178 e179 e180 e181 v5 w5 h5
  have H5 := Lib.hid h5
  clear h5
  go_wp2_with fail
  go_ret
  exact ToksIs.from H5.out HB0.out
end Go.Proofs.YtnheepkmaibofaaDoor.cs
