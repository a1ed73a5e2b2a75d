import Derived.Test.YtmfkdpfcpdmkdaaGreatDoorQnk
import Derived.Test.YtmfkdpfcpdmkdaaGreatDoorKbk
import Derived.Test.YtmfkdpfcpdmkdaaGreatDoorYdk
/- A Create that makes columns, and columns alone: what they lack, by the document. -/
namespace Go.Proofs.YtmfkdpfcpdmkdaaGreatDoor
open Go.ChangeShapes Go.WideShapes Go.ChangeAt Go.RowKit
set_option linter.unusedVariables false
set_option linter.unusedSimpArgs false
set_option maxHeartbeats 4000000
set_option maxRecDepth 1000000
theorem toks_is {s : ByteArray} {L : List Tk} (h : tz s.data.toList = L) (hs : s.size ≤ 1000) (W : World) : Calls Tryz.prog 82 #[.string s] W (ToksIs L W) := by
  subst h
  exact (toks_any W s hs).mono fun e w' h => h
theorem kd_of {k : Int} (h1 : 1 ≤ k) (h3 : k ≤ 3) : ∃ (kk : Nat) (kd : ByteArray), k = (kk : Int) ∧ kd = ⟨(kdL.getD k.toNat []).toArray⟩ ∧ ((kk = 1 ∧ kd = ⟨#[66, 79, 79, 76]⟩) ∨ (kk = 2 ∧ kd = ⟨#[73, 78, 84]⟩) ∨ (kk = 3 ∧ kd = ⟨#[84, 69, 88, 84]⟩)) := by
  have h : k = 1 ∨ k = 2 ∨ k = 3 := by omega
  rcases h with rfl | rfl | rfl
  · exact ⟨1, _, rfl, rfl, .inl ⟨rfl, rfl⟩⟩
  · exact ⟨2, _, rfl, rfl, .inr (.inl ⟨rfl, rfl⟩)⟩
  · exact ⟨3, _, rfl, rfl, .inr (.inr ⟨rfl, rfl⟩)⟩
theorem kd_len {kk : Nat} {kd : ByteArray} (h : (kk = 1 ∧ kd = ⟨#[66, 79, 79, 76]⟩) ∨ (kk = 2 ∧ kd = ⟨#[73, 78, 84]⟩) ∨ (kk = 3 ∧ kd = ⟨#[84, 69, 88, 84]⟩)) : kd.size ≤ 4 := by
  rcases h with ⟨-, rfl⟩ | ⟨-, rfl⟩ | ⟨-, rfl⟩ <;> decide
theorem size_app (a b : ByteArray) : (a ++ b).size = a.size + b.size := by simp
theorem stoks_create (w : World) (t : ByteArray) (ht : nmF t.data.toList = 0) (n : Nat) (v : Value) (l : List Cq) (hn0 : 0 < n) (hn : n ≤ 6) (hr : Rd w 2 n v (ccs l)) (hok : ColOk l) :
    Calls Tryz.prog 56 #[crV t v] w (ToksIs (crT t l) w) := by
  have hml := len_c hr
  have htz := nm_size ht
  obtain ⟨b, o, cap, rfl, _, _, hbw, hcell⟩ := cols_of hr hn0
  have HTK0 := Lib.hid (toks_is (tz_head ht) (by rw [size_app, size_app]; show 13 + t.size + 2 ≤ 1000; omega))
  have HTKC := Lib.hid (toks_is (s := ⟨#[44]⟩) tz_comma (by decide))
  have HTKE := Lib.hid (toks_is (s := ⟨#[41]⟩) tz_close (by decide))
  have hs1 : ¬ 9223372036854775807 < 13 + t.size := by omega
  have hs2 : ¬ 9223372036854775807 < 13 + t.size + 2 := by omega
  obtain ⟨W0, hW0⟩ : ∃ W0, W0 = w.alloc (.cells (crC t (.slice (some ⟨b, o, none⟩) n cap)) 63) := ⟨_, rfl⟩
  have HW := Lib.hid hW0
  have hbx := (CrB.new w t (.slice (some ⟨b, o, none⟩) n cap) (w1 := W0) (by rw [hW0]; exact Below.refl _ _)).c2
  have HB0 : Hid (Below w.heap.size w W0) := by show Below _ _ _; rw [hW0]; exact (Below.refl _ _).alloc (Nat.le_refl _) _
  have hP : w.heap.size < W0.heap.size := by rw [hW0]; simp
  have hbw0 : b < W0.heap.size := Nat.lt_of_lt_of_le hbw HB0.out.size
  have HC0 : Hid (∀ k, k < n → W0.cell? ⟨b, o + k * 2, none⟩ = some (.string (l.getD k ncq).t) ∧ W0.cell? ⟨b, o + k * 2 + 1, none⟩ = some (.int .i64 (l.getD k ncq).k)) := fun k hk => ⟨(HB0.out.cell (p := ⟨b, o + k * 2, none⟩) hbw).trans (hcell k hk).1, (HB0.out.cell (p := ⟨b, o + k * 2 + 1, none⟩) hbw).trans (hcell k hk).2⟩
  have HN := Lib.hid hml
  have HOK := Lib.hid hok
  have hlb := btwc_len l
  have HLB := Lib.hid hlb
  clear hcell hml hok hW0 hlb hr htz
  go_enter Tryz.func56, Tryz.ntmps56
  go_wp2_with fail
  rw [← HW.out]
  refine (HTK0.out W0).mono ?_
  rintro e w1 ⟨v1, rfl, hown1, hb1⟩
  have HO1 := Lib.hid hown1
  have HB1 := Lib.hid hb1
  clear hown1 hb1
  go_wp2_with fail
  clear hs1 hs2
  go_loopw [3, 4] (fun u i wr => ∃ k : Nat, k ≤ n ∧ i = .int .i64 (k : Int) ∧ Hid (wr.ownsRow W0.heap.size 94 3 u (4 + (btw comma shC (l.take k)).length) (tkc ([ptk sCREATE, ptk sTABLE, ptk t, ptk sOpen] ++ btw comma shC (l.take k)))) ∧ Hid (Below W0.heap.size W0 wr)) (fun _ i _ => n - (intOf i).toNat)
  case atStart => exact ⟨0, by omega, rfl, HO1.out, HB1.out⟩
  case round =>
    obtain ⟨k, hk, rfl, HU, HB⟩ := hrel
    have x2 := cell_blw HB.out hbx
    have hwz := HB.out.size
    have hlk := btwc_len (l.take k)
    rw [List.length_take_of_le (by rw [← HN.out]; exact hk)] at hlk
    obtain ⟨L, hL⟩ : ∃ L, L = btw comma shC (l.take k) := ⟨_, rfl⟩
    obtain ⟨H4, h4⟩ : ∃ H4, H4 = [ptk sCREATE, ptk sTABLE, ptk t, ptk sOpen] := ⟨_, rfl⟩
    have HH4 := Lib.hid h4
    have HLL := Lib.hid hL
    rw [← hL] at HU hlk
    rw [← h4] at HU
    clear hL h4
    obtain ⟨q, hq⟩ : ∃ q, q = 4 + L.length := ⟨_, rfl⟩
    have HQ := Lib.hid hq
    rw [← hq] at HU
    have hq100 : q ≤ 100 := by omega
    clear hq hlk
    by_cases hlt : k < n
    · obtain ⟨g0, g1⟩ := HC0.out k hlt
      have c0 := cell_blw HB.out g0
      have c1 := cell_blw HB.out g1
      have hll : k < l.length := by rw [← HN.out]; exact hlt
      have htk := ctake_snoc hll
      have hco := HOK.out _ (cgetD_mem hll)
      obtain ⟨u, hu⟩ : ∃ u, u = l.getD k ncq := ⟨_, rfl⟩
      rw [← hu] at c0 c1 hco htk
      have hL2 : btw comma shC (l.take (k + 1)) = if k = 0 then shC u else L ++ (comma ++ shC u) := by
        rw [htk, HLL.out]
        split
        · rename_i h
          subst h
          exact btw_one _ _ _
        · rename_i h
          exact btw_snoc _ _ _ _ (by
            intro e
            have := congrArg List.length e
            rw [List.length_take_of_le (by omega)] at this
            simp at this
            omega)
      have hL0 : k = 0 → L = [] := fun h => by rw [HLL.out, h]; rfl
      have HL2 := Lib.hid hL2
      have HL0 := Lib.hid hL0
      obtain ⟨kk, kd, hkk, hkd, hor⟩ := kd_of hco.2.1 hco.2.2
      have hks := kd_len hor
      have hus := nm_size hco.1
      have HTK := Lib.hid (toks_is (tz_col hco.1 hco.2.1 hco.2.2) (by rw [size_app, size_app, ← hkd]; show u.t.size + 1 + kd.size ≤ 1000; omega))
      rw [← hkd] at HTK
      rw [hkk] at c1
      have HOR := Lib.hid hor
      obtain ⟨ut, uk⟩ := u
      simp only at c0 hus HTK
      have HTK' : Hid (∀ W, Calls Tryz.prog 82 #[.string (ut ++ ⟨#[32]⟩ ++ kd)] W (ToksIs [ptk ut, ptk ⟨(kdL.getD uk.toNat []).toArray⟩] W)) := HTK
      clear g0 g1 hu htk hco hL2 hL0 hkk hkd hor hks hll HTK
      have hkn : (k : Int) < (n : Int) := by omega
      by_cases hk0 : k = 0
      · have HK0 := Lib.hid hk0
        have hk1 : k < 1 := by omega
        clear hk0
        go_wp2_with fail
        change Code.wp _ ((regionOf 9 (Tryz.f56.body.getD .skip)).getD .skip) _ _ _
        refine st9 _ _ _ _ _ _ _ _ _ _ _ _ _ _ _ _ _ _ _ _ _ _ _ _ _ _ _ _ _ _ _ _ _ _ _ _ _ _ _ _ _ _ _ _ _ _ _ _ _ _ _ _ _ _ _ _ _ _ _ _ _ _ _ _ _ _ _ _ _ _ _ _ _ _ _ _ _ _ _ _ _ _ _ _ _ _ _ _ _ _ _ _ _ _ _ _ _ _ _ _ _ _ _ _ _ _ _ _ _ _ _ _ _ _ _ _ _ _ _ _ _ _ _ _ _ _ _ _ _ _ _ _ _ _ _ _ _ _ _ _ _ _ _ _ _ _ _ _ _ _ _ _ _ _ _ _ _ _ _ _ _ _ _ _ _ _ _ _ _ _ _ _ _ _ _ _ _ _ _ _ _ _ _ _ _ _ _ wr w.heap.size W0.heap.size b o n cap k q kk _ _ ut kd _ _ HOR.out hwz hP hbw0 (by omega) hkn (by omega) x2 c0 c1 HU HTK' (Lib.hid ?_)
        intro e32 e33 e34 e35 e36 e37 e38 e39 e40 e41 e42 e43 e44 e45 e46 e47 e48 e49 e50 e51 v5 w5 hown5 hb5
        have HO5 := Lib.hid hown5
        have HB5 := Lib.hid (HB.out.trans hb5)
        clear hown5 hb5
        go_wp2_with fail
        go_roundw
        case rel =>
          refine ⟨k + 1, by omega, by go_num, ?_, HB5.out⟩
          show World.ownsRow _ _ _ _ _ _ _
          have h := HO5.out
          have e := HL0.out HK0.out
          rw [HL2.out, if_pos HK0.out, ← HH4.out, tkc_app]
          rw [HQ.out, e, List.append_nil] at h
          exact h
        case measure => (simp [intOf]) <;> omega
      · have hk0' : (0 : Int) < (k : Int) := by omega
        go_wp2_with fail
        refine (HTKC.out wr).mono ?_
        rintro e w2 ⟨v2, rfl, hown2, hb2⟩
        have HR2 := Lib.hid (Rd.own hown2)
        have HO2 := Lib.hid (own_below HU.out hb2)
        have HW2 := Lib.hid (into HB.out hb2)
        have hz2 := HW2.out.size
        replace x2 := cell_blw hb2 x2
        replace c0 := cell_blw hb2 c0
        replace c1 := cell_blw hb2 c1
        clear hown2 hb2
        go_wp2_with (at_builtin; refine apg w2 comma.length rfl _ _ 79 94 _ 3 32 Tryz.underlying79 Tryz.info94 rfl (by omega) rfl HO2.out hz2 (by have h1 : comma.length = 1 := rfl; omega) (by have h1 : comma.length = 1 := rfl; unfold maxLen; omega) (tkc_one _) HR2.out rfl rfl ?_; intro v3 w3 hown3 hb3 _; have HO3 : Hid (w3.ownsRow W0.heap.size 94 3 v3 (q + 1) (tkc (H4 ++ L) ++ tkc comma)) := Lib.hid hown3; have HB3 := Lib.hid (HW2.out.trans hb3); have y2 := (hb3.cell (p := ⟨w.heap.size, 2, none⟩) hP).trans x2; have d0 := (hb3.cell (p := ⟨b, o + k * 2, none⟩) hbw0).trans c0; have d1 := (hb3.cell (p := ⟨b, o + k * 2 + 1, none⟩) hbw0).trans c1; have hz3 := HB3.out.size; clear hown3 hb3)
        change Code.wp _ ((regionOf 9 (Tryz.f56.body.getD .skip)).getD .skip) _ _ _
        refine st9 _ _ _ _ _ _ _ _ _ _ _ _ _ _ _ _ _ _ _ _ _ _ _ _ _ _ _ _ _ _ _ _ _ _ _ _ _ _ _ _ _ _ _ _ _ _ _ _ _ _ _ _ _ _ _ _ _ _ _ _ _ _ _ _ _ _ _ _ _ _ _ _ _ _ _ _ _ _ _ _ _ _ _ _ _ _ _ _ _ _ _ _ _ _ _ _ _ _ _ _ _ _ _ _ _ _ _ _ _ _ _ _ _ _ _ _ _ _ _ _ _ _ _ _ _ _ _ _ _ _ _ _ _ _ _ _ _ _ _ _ _ _ _ _ _ _ _ _ _ _ _ _ _ _ _ _ _ _ _ _ _ _ _ _ _ _ _ _ _ _ _ _ _ _ _ _ _ _ _ _ _ _ _ _ _ _ _ w3 w.heap.size W0.heap.size b o n cap k (q + 1) kk _ (H4 ++ L ++ comma) ut kd _ _ HOR.out hz3 hP hbw0 (by omega) hkn (by omega) y2 d0 d1 (Lib.hid (by rw [tkc_app]; exact HO3.out)) HTK' (Lib.hid ?_)
        intro e32 e33 e34 e35 e36 e37 e38 e39 e40 e41 e42 e43 e44 e45 e46 e47 e48 e49 e50 e51 v5 w5 hown5 hb5
        have HO5 := Lib.hid hown5
        have HB5 := Lib.hid (HB3.out.trans hb5)
        clear hown5 hb5
        go_wp2_with fail
        go_roundw
        case rel =>
          refine ⟨k + 1, by omega, by go_num, ?_, HB5.out⟩
          show World.ownsRow _ _ _ _ _ _ _
          have h := HO5.out
          rw [HL2.out, if_neg hk0, ← HH4.out, ← List.append_assoc, ← List.append_assoc, tkc_app]
          rw [HQ.out] at h
          have hl3 : (L ++ comma ++ shC ⟨ut, uk⟩).length = L.length + 1 + 2 := by
            rw [List.length_append, List.length_append, shC_len]
            rfl
          rw [hl3, ← List.append_assoc H4 L comma, show 4 + (L.length + 1 + 2) = 4 + L.length + 1 + 2 by omega]
          exact h
        case measure => (simp [intOf]) <;> omega
    · obtain rfl : k = n := by omega
      have HE : Hid (l.take k = l) := by
        show _ = _
        rw [List.take_of_length_le (by rw [← HN.out]; exact Nat.le_refl _)]
      go_wp2_with fail
      refine (HTKE.out wr).mono ?_
      rintro e w2 ⟨v2, rfl, hown2, hb2⟩
      have HR2 := Lib.hid (Rd.own hown2)
      have HO2 := Lib.hid (own_below HU.out hb2)
      have HW2 := Lib.hid (into HB.out hb2)
      have hz2 := HW2.out.size
      clear hown2 hb2
      go_wp2_with (at_builtin; refine apg w2 [ptk sClose].length rfl _ _ 79 94 _ 3 32 Tryz.underlying79 Tryz.info94 rfl (by omega) rfl HO2.out hz2 (by have h1 : [ptk sClose].length = 1 := rfl; omega) (by have h1 : [ptk sClose].length = 1 := rfl; unfold maxLen; omega) (tkc_one _) HR2.out rfl rfl ?_; intro v3 w3 hown3 hb3 _; have HO3 := Lib.hid hown3; have HB3 := Lib.hid (HW2.out.trans hb3); clear hown3 hb3)
      go_ret
      refine ToksIs.from ⟨_, rfl, ?_, HB3.out⟩ HB0.out
      have h := HO3.out
      rw [HQ.out, HLL.out, HH4.out, HE.out] at h
      unfold crT
      rw [← List.append_assoc, tkc_app, List.length_append, List.length_append]
      exact h
theorem sfault_create (w : World) (t : ByteArray) (ht : t.size ≤ maxLen) (n : Nat) (v : Value) (l : List Cq) (hr : Rd w 2 n v (ccs l)) (hs : ∀ c ∈ l, c.t.size ≤ maxLen) :
    Calls Tryz.prog 35 #[crV t v] w fun e w' => e = .returned (.int .i64 (crF t l)) ∧ Below w.heap.size w w' := by
  have hnl := len_c hr
  obtain ⟨ao, cap, rfl⟩ : ∃ ao cap, v = .slice ao n cap := by
    obtain ⟨_, ao, cap, h, _⟩ := id hr
    exact ⟨ao, cap, h⟩
  have HB0 : Hid (Below w.heap.size w (w.alloc (.cells (crC t (.slice ao n cap)) 63))) := (Below.refl _ _).alloc (Nat.le_refl _) _
  have HNEW := Lib.hid (fun w1 hb => CrB.new w t (.slice ao n cap) (w1 := w1) hb)
  have hF : crF t l = if nmF t.data.toList ≠ 0 then nmF t.data.toList else colsF l := rfl
  have hnm := fun W => nameFault_any W t ht
  have hpt := fun W (hW : Below w.heap.size w W) => partsFault_create W t n _ l (hr.below hW) hs
  have hsh : nmF t.data.toList = 0 → colsF l = 0 → ∀ W, Below w.heap.size w W → Calls Tryz.prog 56 #[crV t (.slice ao n cap)] W (ToksIs (crT t l) W) ∧ (crT t l).length ≤ 23 := fun h0 hc W hW => by
    obtain ⟨g1, g2, g3⟩ := colsF_ok hc
    refine ⟨stoks_create W t h0 n _ l (by omega) (by omega) (hr.below hW) g1, ?_⟩
    have := crT_len t l
    omega
  obtain ⟨r, hr'⟩ : ∃ r, r = nmF t.data.toList := ⟨_, rfl⟩
  rw [← hr'] at hF hnm hsh
  obtain ⟨q, hq⟩ : ∃ q, q = colsF l := ⟨_, rfl⟩
  rw [← hq] at hF hpt hsh
  have HF := Lib.hid hF
  have HNM := Lib.hid hnm
  have HPT := Lib.hid hpt
  have HSH := Lib.hid hsh
  have HI := Lib.hid (fun w => inp_any w 1 1 9 true (by decide))
  clear hF hnm hpt hsh hr' hq hr hs hnl ht
  by_cases h0 : r = 0
  · subst h0
    by_cases hq0 : q = 0
    · subst hq0
      go_enter Tryz.func35, Tryz.ntmps35
      go_wp2_with (go_at_call 53; ((with_reducible refine (HI.out _).mono ?_); rintro e w' ⟨rfl, rfl⟩))
      refine (HNM.out _).mono ?_
      rintro e w1 ⟨rfl, hb1⟩
      obtain ⟨x0, x1, x2, x3, x4, x5, x6, x7, x8, x9, x10, x11⟩ := HNEW.out w1 hb1
      have HI1 := Lib.hid hb1
      have HB1 := Lib.hid (into HB0.out hb1)
      clear hb1
      go_wp2_with fail
      refine (HPT.out _ HB1.out).mono ?_
      rintro e w2 ⟨rfl, hb2⟩
      clear x0 x1 x2 x3 x4 x5 x6 x7 x8 x9 x10 x11
      obtain ⟨x0, x1, x2, x3, x4, x5, x6, x7, x8, x9, x10, x11⟩ := HNEW.out w2 (into HI1.out hb2)
      have HB2 := Lib.hid (into HB1.out hb2)
      clear hb2
      go_wp2_with fail
      refine (HSH.out trivial trivial _ HB2.out).1.mono ?_
      have hln := (HSH.out trivial trivial _ HB2.out).2
      rintro e w4 ⟨v4, rfl, hown4, hb4⟩
      obtain ⟨a4, q4, rfl⟩ := own_shape hown4
      obtain ⟨m, hm⟩ : ∃ m, m = (crT t l).length := ⟨_, rfl⟩
      rw [← hm] at hln
      rw [← hm]
      have HB4 := Lib.hid (into HB2.out hb4)
      clear hb4 hown4 hm x0 x1 x2 x3 x4 x5 x6 x7 x8 x9 x10 x11
      go_wp2_with fail
      go_ret
      exact ⟨ri (by rw [HF.out]; rfl), HB4.out⟩
    · have hq0' : (q == 0) = false := by simpa using hq0
      go_enter Tryz.func35, Tryz.ntmps35
      go_wp2_with (go_at_call 53; ((with_reducible refine (HI.out _).mono ?_); rintro e w' ⟨rfl, rfl⟩))
      refine (HNM.out _).mono ?_
      rintro e w1 ⟨rfl, hb1⟩
      obtain ⟨x0, x1, x2, x3, x4, x5, x6, x7, x8, x9, x10, x11⟩ := HNEW.out w1 hb1
      have HB1 := Lib.hid (into HB0.out hb1)
      clear hb1
      go_wp2_with fail
      refine (HPT.out _ HB1.out).mono ?_
      rintro e w2 ⟨rfl, hb2⟩
      have HB2 := Lib.hid (into HB1.out hb2)
      clear hb2 x0 x1 x2 x3 x4 x5 x6 x7 x8 x9 x10 x11
      go_wp2_with fail
      go_ret
      exact ⟨ri (by rw [HF.out]; rfl), HB2.out⟩
  · have h0' : (r == 0) = false := by simpa using h0
    go_enter Tryz.func35, Tryz.ntmps35
    go_wp2_with (go_at_call 53; ((with_reducible refine (HI.out _).mono ?_); rintro e w' ⟨rfl, rfl⟩))
    refine (HNM.out _).mono ?_
    rintro e w1 ⟨rfl, hb1⟩
    have HB1 := Lib.hid (into HB0.out hb1)
    clear hb1
    go_wp2_with fail
    go_ret
    exact ⟨ri (by rw [HF.out, if_pos h0]), HB1.out⟩
theorem crF_t (l : List Cq) : crF ⟨#[116]⟩ l = colsF l := by
  unfold crF
  rw [show (⟨#[116]⟩ : ByteArray).data.toList = [116] from rfl, nm_t, if_neg (by simp)]
theorem colsFault_any (w : World) (n : Nat) (v : Value) (l : List Cq) (hr : Rd w 2 n v (ccs l)) (hs : ∀ c ∈ l, c.t.size ≤ maxLen) :
    Calls Tryz.prog 18 #[v] w fun e w' => e = .returned (.int .i64 (colsF l)) ∧ Below w.heap.size w w' := by
  obtain ⟨ao, cap, rfl⟩ : ∃ ao cap, v = .slice ao n cap := by
    obtain ⟨_, ao, cap, h, _⟩ := id hr
    exact ⟨ao, cap, h⟩
  have hc := sfault_create w ⟨#[116]⟩ (by show (1 : Nat) ≤ maxLen; unfold maxLen; omega) n _ l hr hs
  rw [crF_t] at hc
  have HC := Lib.hid hc
  clear hc hr hs
  go_enter Tryz.func18, Tryz.ntmps18
  go_wp2_with fail
  refine HC.out.mono ?_
  rintro e w1 ⟨rfl, hb1⟩
  go_wp2_with fail
  go_ret
  exact ⟨rfl, hb1⟩
end Go.Proofs.YtmfkdpfcpdmkdaaGreatDoor
/- The kind of an expression: the document, whole. -/
namespace Go.Proofs.YtmfkdpfcpdmkdaaGreatDoor
open Go.ChangeShapes Go.WideShapes Go.ChangeAt Go.RowKit
set_option linter.unusedVariables false
set_option linter.unusedSimpArgs false
set_option maxHeartbeats 4000000
set_option maxRecDepth 100000
theorem dkindOf_any : ∀ (t : Tx), t.ok → t.flat.length ≤ 1000 → ∀ (w : World) (n : Nat) (v u : Value) (l : List Cq), Rd w 2 n v (ccs l) → Rd w 5 t.flat.length u (ocs t.flat) →
    Calls Tryz.prog 37 #[v, u] w (LeafIs (evT (lfK l) onK twK t) w)
  | .leaf o, ht, _, w, n, v, u, l, hr, hu => kd_leaf w n v u l o ht hr hu
  | .un o a, ht, hm, w, n, v, u, l, hr, hu => by
    have hl : (Tx.un o a).flat.length = a.flat.length + 1 := by simp [Tx.flat]
    rw [hl] at hm hu
    exact kd_un w n (a.flat.length + 1) v u l o a ht.1 rfl hm hr hu fun W u' hW hu' => dkindOf_any a ht.2.2 (by omega) W n v u' l (hr.below hW) hu'
  | .bi o a b, ht, hm, w, n, v, u, l, hr, hu => by
    have hl : (Tx.bi o a b).flat.length = a.flat.length + b.flat.length + 1 := by simp [Tx.flat]; omega
    rw [hl] at hm hu
    exact kd_bi w n (a.flat.length + b.flat.length + 1) v u l o a b ht.1 ht.2.2.2 rfl hm hr hu (fun W u' hW hu' => dkindOf_any a ht.2.2.1 (by omega) W n v u' l (hr.below hW) hu') fun W u' hW hu' => dkindOf_any b ht.2.2.2 (by omega) W n v u' l (hr.below hW) hu'
/-- What both are refused for. -/
def coF (l : List Cq) (ops : List Oq) : Int := if colsF l ≠ 0 then colsF l else exprF ops
theorem colsAndOps_any (w : World) (n m : Nat) (v u : Value) (l : List Cq) (ops : List Oq) (hr : Rd w 2 n v (ccs l)) (hs : ∀ c ∈ l, c.t.size ≤ maxLen) (hu : Rd w 5 m u (ocs ops)) (hos : ∀ o ∈ ops, o.t.size ≤ maxLen) :
    Calls Tryz.prog 36 #[v, u] w fun e w' => e = .returned (.int .i64 (coF l ops)) ∧ Below w.heap.size w w' := by
  have HC := Lib.hid (colsFault_any w n v l hr hs)
  have HE := Lib.hid (fun (W : World) (h : Below w.heap.size w W) => rexpr_any W m u ops (hu.below h) hos)
  have hF : coF l ops = if colsF l ≠ 0 then colsF l else exprF ops := rfl
  obtain ⟨q, hq⟩ : ∃ q, q = colsF l := ⟨_, rfl⟩
  obtain ⟨x, hx⟩ : ∃ x, x = exprF ops := ⟨_, rfl⟩
  rw [← hq] at HC hF
  rw [← hx] at HE hF
  have HF := Lib.hid hF
  clear hF hr hs hu hos hq hx
  by_cases h0 : q = 0
  · subst h0
    go_enter Tryz.func36, Tryz.ntmps36
    go_wp2_with fail
    refine HC.out.mono ?_
    rintro e w1 ⟨rfl, hb1⟩
    have HB1 := Lib.hid hb1
    clear hb1
    go_wp2_with fail
    refine (HE.out _ HB1.out).mono ?_
    rintro e w2 ⟨rfl, hb2⟩
    have HB2 := Lib.hid (into HB1.out hb2)
    clear hb2
    go_wp2_with fail
    go_returns
    rw [HF.out]
    exact ⟨rfl, HB2.out⟩
  · have b1 : (q == 0) = false := by simpa using h0
    have HZ : Hid (coF l ops = q) := Lib.hid (by rw [HF.out, if_pos h0])
    go_enter Tryz.func36, Tryz.ntmps36
    go_wp2_with fail
    refine HC.out.mono ?_
    rintro e w1 ⟨rfl, hb1⟩
    have HB1 := Lib.hid hb1
    clear hb1
    go_wp2_with fail
    go_returns
    rw [HZ.out]
    exact ⟨rfl, HB1.out⟩
theorem dKindOf_any (w : World) (n m : Nat) (v u : Value) (l : List Cq) (ops : List Oq) (hr : Rd w 2 n v (ccs l)) (hs : ∀ c ∈ l, c.t.size ≤ maxLen) (hu : Rd w 5 m u (ocs ops)) (hos : ∀ o ∈ ops, o.t.size ≤ maxLen) :
    Calls Tryz.prog 19 #[v, u] w fun e w' => e = .returned (.tuple #[.int .i64 (kindF l ops).2, .int .i64 (kindF l ops).1]) ∧ Below w.heap.size w w' := by
  have hml := len_o hu
  have HC := Lib.hid (colsAndOps_any w n m v u l ops hr hs hu hos)
  by_cases h0 : coF l ops = 0
  · have h1 : colsF l = 0 := by
      by_cases h : colsF l = 0
      · exact h
      · unfold coF at h0; rw [if_pos h] at h0; exact h0
    have h2 : exprF ops = 0 := by unfold coF at h0; rw [if_neg (by simpa using h1)] at h0; exact h0
    obtain ⟨hl40, t, ht, rfl⟩ := expr_tree h2
    have hk := kindF_tree (l := l) ht h1 h2
    rw [hml] at hu
    have HD := Lib.hid (fun (W : World) (h : Below w.heap.size w W) => dkindOf_any t ht (by omega) W n v u l (hr.below h) (hu.below h))
    obtain ⟨R, hR⟩ : ∃ R, R = evT (lfK l) onK twK t := ⟨_, rfl⟩
    have hz := evK_zero l t
    rw [← hR] at hz hk HD
    have hk2 : kindF l t.flat = R := by
      rw [hk]
      by_cases h : R.1 = 0
      · rw [if_neg (by simpa using h)]
      · rw [if_pos h, ← hz h]
    obtain ⟨r1, r2⟩ := R
    rw [h0] at HC
    have HK := Lib.hid hk2
    unfold LeafIs at HD
    clear h0 h1 h2 hk hk2 hz hR hr hs hu hos ht hl40 hml
    go_enter Tryz.func19, Tryz.ntmps19
    go_wp2_with fail
    refine HC.out.mono ?_
    rintro e w1 ⟨rfl, hb1⟩
    have HB1 := Lib.hid hb1
    clear hb1
    go_wp2_with fail
    refine (HD.out _ HB1.out).mono ?_
    rintro e w2 ⟨rfl, hb2⟩
    have HB2 := Lib.hid (into HB1.out hb2)
    clear hb2
    go_wp2_with fail
    go_returns
    rw [HK.out]
    exact ⟨rfl, HB2.out⟩
  · have hk : kindF l ops = (coF l ops, 0) := by
      unfold kindF coF at *
      by_cases h : colsF l = 0
      · rw [if_neg (by simpa using h)] at h0
        rw [if_neg (by simpa using h), if_pos h0, if_neg (by simpa using h)]
      · rw [if_pos h, if_pos h]
    obtain ⟨q, hq⟩ : ∃ q, q = coF l ops := ⟨_, rfl⟩
    rw [← hq] at HC hk h0
    have b1 : (q == 0) = false := by simpa using h0
    have b2 : (q != 0) = true := by simpa using h0
    have HK := Lib.hid hk
    clear h0 hk hq hr hs hu hos hml
    go_enter Tryz.func19, Tryz.ntmps19
    go_wp2_with fail
    refine HC.out.mono ?_
    rintro e w1 ⟨rfl, hb1⟩
    have HB1 := Lib.hid hb1
    clear hb1
    go_wp2_with fail
    go_returns
    rw [HK.out]
    exact ⟨rfl, HB1.out⟩
end Go.Proofs.YtmfkdpfcpdmkdaaGreatDoor
