import Derived.Test.YtnheepkmaibofaaDoorRlk
/- A Select as tokens: the document. -/
namespace Go.Proofs.YtnheepkmaibofaaDoor.cs
open Go.ChangeShapes Go.WideShapes Go.ChangeAt Go.RowKit
set_option linter.unusedVariables false
set_option linter.unusedSimpArgs false
set_option maxHeartbeats 8000000
set_option maxRecDepth 1000000
/-- What a Select tells, as a text. -/
def whB (init : ByteArray) : List ByteArray → ByteArray
  | [] => init
  | t :: r => wnB r t
theorem whB_snoc (init : ByteArray) {l : List ByteArray} (x : ByteArray) (h : l ≠ []) : whB init (l ++ [x]) = whB init l ++ ⟨#[32, 44, 32]⟩ ++ x := by
  match l, h with
  | t :: r, _ => exact wn_snoc r x t
theorem rd_tk2 (w : World) (k n k2 n2 : Int) (t t2 : ByteArray) (B : Nat) (hB : w.heap.size = B) : Rd (w.alloc (.cells #[.int .i64 k, .string t, .int .i64 n, .int .i64 k2, .string t2, .int .i64 n2] 39)) 3 2 (.slice (some ⟨B, 0, none⟩) 2 2) [.int .i64 k, .string t, .int .i64 n, .int .i64 k2, .string t2, .int .i64 n2] := by
  subst hB
  exact Rd.own (World.ownsRow_lit (base := w.heap.size) w #[.int .i64 k, .string t, .int .i64 n, .int .i64 k2, .string t2, .int .i64 n2] 2 (Nat.le_refl _) (by unfold maxLen; omega) rfl)
theorem tz_whB {names : List ByteArray} {cnt : Bool} (h5 : nmsF names = 0) (hc : cnt = true → names = []) : tz (whB (if cnt = true then ⟨#[67, 79, 85, 78, 84, 32, 40, 32, 42, 32, 41]⟩ else sStar) names).data.toList = (if cnt = true then [ptk sCOUNT, ptk sOpen, ptk sStar, ptk sClose] else if names.length = 0 then [ptk sStar] else []) ++ btw comma shN names := by
  match names, h5, hc with
  | [], _, _ =>
    cases cnt
    · exact wd_tz wStar
    · exact tz_count
  | t :: r, h5, hc =>
    cases cnt
    · show tz (wnB r t).data.toList = _
      rw [tz_names h5]
      rfl
    · have := hc rfl
      cases this
theorem stok_select (w : World) (t : ByteArray) (cols : List Cq) (row : List V) (names : List ByteArray) (cnt : Bool) (wh : List Oq) (ord : ByteArray) (dn : Bool) (lim : Int) (st : ByteArray) (to : List Oq) (a2 : Option Addr) (n2 c2 : Nat) (a3 : Option Addr) (n3 c3 : Nat) (a4 : Option Addr) (n4 c4 : Nat) (a6 : Option Addr) (n6 c6 : Nat) (a11 : Option Addr) (n11 c11 : Nat) (ht : nmF t.data.toList = 0) (hF : selF ⟨4, t, cols, row, names, cnt, wh, ord, dn, lim, st, to⟩ = 0) (hr4 : Rd w 1 n4 (.slice a4 n4 c4) (names.map Value.string)) (hr6 : Rd w 5 n6 (.slice a6 n6 c6) (ocs wh)) (hok : ∀ o ∈ wh, OOk o) :
    Calls Tryd.prog 27 #[stV ⟨4, t, cols, row, names, cnt, wh, ord, dn, lim, st, to⟩ ⟨a2, n2, c2, a3, n3, c3, a4, n4, c4, a6, n6, c6, a11, n11, c11⟩] w (ToksIs (selT ⟨4, t, cols, row, names, cnt, wh, ord, dn, lim, st, to⟩) w) := by
  obtain ⟨W0, hW0⟩ : ∃ W0, W0 = w.alloc (.cells (stC ⟨4, t, cols, row, names, cnt, wh, ord, dn, lim, st, to⟩ ⟨a2, n2, c2, a3, n3, c3, a4, n4, c4, a6, n6, c6, a11, n11, c11⟩) 27) := ⟨_, rfl⟩
  have HWE := Lib.hid hW0
  have HNW : Hid (∀ w1, Below W0.heap.size W0 w1 → StB w1 w.heap.size ⟨4, t, cols, row, names, cnt, wh, ord, dn, lim, st, to⟩ ⟨a2, n2, c2, a3, n3, c3, a4, n4, c4, a6, n6, c6, a11, n11, c11⟩) := fun w1 hb => by
    have := StB.new w ⟨4, t, cols, row, names, cnt, wh, ord, dn, lim, st, to⟩ ⟨a2, n2, c2, a3, n3, c3, a4, n4, c4, a6, n6, c6, a11, n11, c11⟩ (w1 := w1)
    rw [← hW0] at this
    exact this hb
  have HB0 : Hid (Below w.heap.size w W0) := by show Below _ _ _; rw [hW0]; exact (Below.refl _ _).alloc (Nat.le_refl _) _
  have HSZ : Hid (w.heap.size < W0.heap.size) := by show _ < _; rw [hW0]; simp
  clear hW0
  have htz := nm_size ht
  obtain ⟨g1, g2, g3, g4, g5, g6, g7⟩ := sel_zero hF
  simp only at g1 g2 g3 g4 g5 g6 g7
  have hml := len_s hr4
  have hnz : ∀ x ∈ names, x.size ≤ 8 := fun x hx => nm_size (nms_all g5 x hx)
  have hcn : cnt = true → names = [] := fun h => List.eq_nil_of_length_eq_zero (by
    by_cases h0 : 0 < names.length
    · exact absurd ⟨h, h0⟩ g3
    · omega)
  have htw := tz_whB (cnt := cnt) g5 hcn
  have hc0 : cnt = true → n4 = 0 := fun h => by rw [hml, hcn h]; rfl
  have hord : em ord = false → Wd ord ∧ ord.size ≤ 8 := fun h => by
    unfold ordF at g7
    rw [h] at g7
    exact ⟨wd_name (by simpa using g7), nm_size (by simpa using g7)⟩
  have hde : dn = true → em ord = false := fun h => by
    cases he : em ord
    · rfl
    · exact absurd ⟨h, he⟩ g4
  have hwl := whT_len g6
  have hbl := btwn_len names
  have HD : Hid (∀ W, Below W0.heap.size W0 W → Calls Tryd.prog 58 #[.slice a6 n6 c6] W (ToksIs (whT wh) W)) := fun W hW => whereToks_any W n6 _ wh (hr6.below (into HB0.out hW)) g6 hok
  have hsE : selT ⟨4, t, cols, row, names, cnt, wh, ord, dn, lim, st, to⟩ = (([ptk sSELECT] ++ (((if cnt = true then [ptk sCOUNT, ptk sOpen, ptk sStar, ptk sClose] else if names.length = 0 then [ptk sStar] else []) ++ btw comma shN names) ++ [ptk sFROM, ptk t])) ++ (whT wh ++ ((if em ord = true then [] else [ptk sORDER, ptk sBY, ptk ord]) ++ (if dn = true then [ptk sDESC] else [])))) ++ (if 0 ≤ lim then [ptk sLIMIT, ⟨2, [], lim⟩] else []) := by
    unfold selT midT whatT ordT dnT limT
    simp only [List.append_assoc]
  rw [← htw] at hsE
  obtain ⟨WT, hWT⟩ : ∃ E, E = whT wh := ⟨_, rfl⟩
  rw [← hWT] at HD hsE hwl
  obtain ⟨SEL, hSEL⟩ : ∃ E, E = selT ⟨4, t, cols, row, names, cnt, wh, ord, dn, lim, st, to⟩ := ⟨_, rfl⟩
  rw [← hSEL] at hsE ⊢
  have hlm : (tz (whB (if cnt = true then ⟨#[67, 79, 85, 78, 84, 32, 40, 32, 42, 32, 41]⟩ else sStar) names).data.toList).length ≤ 30 := by
    rw [htw, List.length_append]
    have : (if cnt = true then [ptk sCOUNT, ptk sOpen, ptk sStar, ptk sClose] else if names.length = 0 then [ptk sStar] else []).length ≤ 4 := by split; simp; split <;> simp
    omega
  have HS := Lib.hid hsE
  have HN := Lib.hid hml
  have HNZ := Lib.hid hnz
  have HR4 := Lib.hid (hr4.below HB0.out)
  have HWL := Lib.hid (And.intro hwl hlm)
  have HO := Lib.hid hord
  have hn6 : n4 ≤ 6 := by omega
  have HT := Lib.hid ht
  clear htz hF hml hnz hcn htw g1 g3 g4 g5 g6 g7 hwl hbl hsE hWT hSEL hr4 hr6 hok hlm ht
  obtain ⟨x0, x1, x2, x3, x4, x5, x6, x7, x8, x9, x10, x11⟩ := HNW.out W0 (Below.refl _ _)
  simp only at x0 x1 x2 x3 x4 x5 x6 x7 x8 x9 x10 x11
  obtain ⟨e, he⟩ : ∃ e, e = ord.toList.isEmpty := ⟨_, rfl⟩
  have hee : em ord = e := by rw [he]; rfl
  replace he := he.symm
  rw [hee] at hord hde HS HO
  clear hee hord
  cases cnt
  · clear hc0
    go_enter Tryd.func27, Tryd.ntmps27
    go_wp2_with fail
    rw [← HWE.out]
    go_loopw [7, 8] (fun u i wr => ∃ (k : Nat) (Wk : ByteArray), k ≤ n4 ∧ i = .int .i64 (k : Int) ∧ u = .string Wk ∧ Hid (Wk = whB sStar (names.take k)) ∧ Wk.size ≤ 20 + 11 * k ∧ wr = W0) (fun _ i _ => n4 - (intOf i).toNat)
    case atStart => exact ⟨0, sStar, by omega, rfl, rfl, rfl, by decide, rfl⟩
    case round =>
      obtain ⟨k, Wk, hk, rfl, rfl, HWW, hwk, hwr⟩ := hrel
      obtain rfl : W0 = wr := hwr.symm
      by_cases hlt : k < n4
      · obtain ⟨b, o, cap, hv, _, _, hbw, hcell⟩ := HR4.out.pos (by omega) (by omega)
        simp only [Value.slice.injEq] at hv
        obtain ⟨rfl, -, rfl⟩ := hv
        have hll : k < names.length := by rw [← HN.out]; exact hlt
        have c0 := hcell _ _ (st_at hll)
        have hxz := HNZ.out _ (sgetD_mem hll)
        have htk := stk_snoc hll
        obtain ⟨x, hx⟩ : ∃ x, x = names.getD k nby := ⟨_, rfl⟩
        rw [← hx] at c0 hxz htk
        have hkn : (k : Int) < (n4 : Int) := by omega
        have hkz : (0 : Int) ≤ (k : Int) := by omega
        have HTKS := Lib.hid htk
        have HLLN : Hid (k ≤ names.length) := by show _ ≤ _; omega
        clear hcell htk hx hll
        by_cases hk0 : k = 0
        · have HK0 := Lib.hid hk0
          have hk1 : k < 1 := by omega
          have hkb : ((k : Int) == 0) = true := by simpa using hk0
          clear hk0
          go_wp2_with fail
          go_roundw
          case rel =>
            refine ⟨k + 1, x, by omega, by go_num, rfl, ?_, by omega, trivial⟩
            show _ = _
            rw [HTKS.out, HK0.out]
            rfl
          case measure => (simp [intOf]) <;> omega
        · have hkb : ((k : Int) == 0) = false := by simpa using hk0
          have hz1 : ¬ 9223372036854775807 < Wk.size + 3 := by omega
          have hz2 : ¬ 9223372036854775807 < Wk.size + 3 + x.size := by omega
          go_wp2_with fail
          go_roundw
          case rel =>
            refine ⟨k + 1, Wk ++ ⟨#[32, 44, 32]⟩ ++ x, by omega, by go_num, rfl, ?_, ?_, trivial⟩
            · show _ = _
              rw [HTKS.out, whB_snoc _ _ (by
                intro e
                have := congrArg List.length e
                rw [List.length_take_of_le HLLN.out] at this
                simp at this
                omega), ← HWW.out]
            · rw [size_app, size_app]
              show Wk.size + 3 + x.size ≤ _
              omega
          case measure => (simp [intOf]) <;> omega
      · obtain rfl : k = n4 := by omega
        have HWK : Hid (Wk = whB sStar names) := by
          show _ = _
          rw [HWW.out, List.take_of_length_le (by rw [← HN.out]; exact Nat.le_refl _)]
        have hzw : Wk.size ≤ 100 := by omega
        have hst := nm_size HT.out
        have hs1 : ¬ 9223372036854775807 < 7 + Wk.size := by omega
        have hs2 : ¬ 9223372036854775807 < 7 + Wk.size + 6 := by omega
        have hs3 : ¬ 9223372036854775807 < 7 + Wk.size + 6 + t.size := by omega
        obtain ⟨A, hA⟩ : ∃ A, A = [ptk sSELECT] ++ (tz Wk.data.toList ++ [ptk sFROM, ptk t]) := ⟨_, rfl⟩
        have HA : Hid (∀ W, Below W0.heap.size W0 W → Calls Tryd.prog 55 #[.string (⟨#[83, 69, 76, 69, 67, 84, 32]⟩ ++ Wk ++ ⟨#[32, 70, 82, 79, 77, 32]⟩ ++ t)] W (ToksIs A W)) := fun W _ => by
          rw [hA]
          exact toks_is (tz_sel (wd_name HT.out)) (by rw [size_app, size_app, size_app]; show 7 + Wk.size + 6 + t.size ≤ 1000; omega) W
        have HAE : Hid (A = [ptk sSELECT] ++ (tz (whB sStar names).data.toList ++ [ptk sFROM, ptk t])) := by show _ = _; rw [hA, HWK.out]
        have HAL : Hid (A.length ≤ 33) := by
          show _ ≤ _
          have : (tz (whB sStar names).data.toList).length ≤ 30 := HWL.out.2
          rw [HAE.out]
          simp only [List.length_append, List.length_cons, List.length_nil]
          omega
        clear hst hA
        rcases (show (e = true ∧ dn = false) ∨ (e = false ∧ dn = false) ∨ (e = false ∧ dn = true) by cases e <;> cases dn <;> simp at hde ⊢) with ⟨rfl, rfl⟩ | ⟨rfl, rfl⟩ | ⟨rfl, rfl⟩
        · by_cases hlim : 0 ≤ lim
          · have HTO : Hid (∀ W, Below W0.heap.size W0 W → Calls Tryd.prog 55 #[.string ⟨#[]⟩] W (ToksIs ([] : List Tk) W)) := fun W _ => toks_is (s := ⟨#[]⟩) (L := []) rfl (by decide) W
            go_wp2_with fail
            change Code.wp _ ((regionOf 37 (Tryd.f27.body.getD .skip)).getD .skip) _ _ _
            refine rst37 _ _ _ _ _ _ _ _ _ _ _ _ _ _ _ _ _ _ _ _ _ _ _ _ _ _ _ _ _ _ _ _ _ _ _ _ _ _ _ _ _ _ _ _ _ _ _ _ _ _ _ _ _ _ _ _ _ _ _ _ _ _ _ _ _ _ _ _ _ _ _ _ _ _ _ _ _ _ _ _ _ _ _ _ _ _ _ _ _ _ _ _ _ _ _ _ _ _ _ _ _ _ _ _ _ _ _ _ _ _ _ _ _ _ _ _ _ _ _ _ _ _ _ _ _ _ _ _ _ _ _ _ _ _ _ _ _ _ _ _ _ _ _ _ _ _ _ _ _ _ _ _ _ _ _ _ _ _ _ _ _ _ _ _ _ _ _ _ _ _ _ _ _ _ _ _ _ _ _ _ _ _ _ _ _ _ _ W0 w.heap.size HSZ.out t Wk _ a6 n6 c6 A WT ([] : List Tk) hs1 hs2 hs3 x1 x6 HA HD HTO (Lib.hid (by show _ ≤ _; have := HWL.out; have := HAL.out; simp only [List.length_cons, List.length_nil]; omega)) (Lib.hid ?_)
            intro e127 e128 e129 e130 e131 e132 e133 e134 e135 e136 e137 e138 e139 e140 v5 w5 h5
            obtain ⟨L5, hL5⟩ : ∃ L, L = A ++ (WT ++ ([] : List Tk)) := ⟨_, rfl⟩
            rw [← hL5] at h5
            have hl5 : L5.length ≤ 300 := by
              rw [hL5]
              have := HWL.out
              have := HAL.out
              simp only [List.length_append, List.length_cons, List.length_nil]
              omega
            obtain ⟨q5, hq5⟩ : ∃ q, q = L5.length := ⟨_, rfl⟩
            rw [← hq5] at hl5
            have HO5 : Hid (w5.ownsRow W0.heap.size 39 3 v5 q5 (tkc L5)) := by rw [hq5]; exact ToksIs.base h5 (Nat.le_refl _)
            have HB5 : Hid (Below W0.heap.size W0 w5) := by
              obtain ⟨_, _, _, h⟩ := h5
              exact h
            have HL5 := Lib.hid hL5
            have HQ5 := Lib.hid hq5
            obtain ⟨a5, c5, rfl⟩ := own_shape HO5.out
            clear h5 hL5 hq5 x0 x1 x2 x3 x4 x5 x6 x7 x8 x9 x10 x11
            obtain ⟨x0, x1, x2, x3, x4, x5, x6, x7, x8, x9, x10, x11⟩ := HNW.out w5 HB5.out
            simp only at x0 x1 x2 x3 x4 x5 x6 x7 x8 x9 x10 x11
            go_wp2_with (at_builtin; refine aptk (w5.alloc (.cells #[.int .i64 1, .string sLIMIT, .int .i64 0, .int .i64 2, .string ⟨#[]⟩, .int .i64 lim] 39)) L5 [⟨1, sLIMIT.data.toList, 0⟩, ⟨2, [], lim⟩] q5 HQ5 rfl _ _ rfl (HO5.out.alloc _) (rd_tk2 w5 1 0 2 lim sLIMIT ⟨#[]⟩ _ rfl) (by have := HB5.out.size; simp; omega) (by omega) (by simp) rfl rfl ?_; intro v6 w6 L6 q6 HL6 HQ6 hle6 hown hb; have HO6 := Lib.hid hown; have HB6 := Lib.hid ((HB5.out.alloc HB5.out.size _).trans hb); clear hown hb)
            go_ret
            have HQ : SEL = L6 := by
              rw [HS.out, HL6.out, HL5.out, HAE.out, limit_tk]
              simp [hlim]
            rw [HQ]
            refine ⟨_, rfl, ?_, HB0.out.trans (HB6.out.mono HB0.out.size)⟩
            rw [← HQ6.out]
            exact own_mono HO6.out HB0.out.size
          · have HTO : Hid (∀ W, Below W0.heap.size W0 W → Calls Tryd.prog 55 #[.string ⟨#[]⟩] W (ToksIs ([] : List Tk) W)) := fun W _ => toks_is (s := ⟨#[]⟩) (L := []) rfl (by decide) W
            go_wp2_with fail
            change Code.wp _ ((regionOf 37 (Tryd.f27.body.getD .skip)).getD .skip) _ _ _
            refine rst37 _ _ _ _ _ _ _ _ _ _ _ _ _ _ _ _ _ _ _ _ _ _ _ _ _ _ _ _ _ _ _ _ _ _ _ _ _ _ _ _ _ _ _ _ _ _ _ _ _ _ _ _ _ _ _ _ _ _ _ _ _ _ _ _ _ _ _ _ _ _ _ _ _ _ _ _ _ _ _ _ _ _ _ _ _ _ _ _ _ _ _ _ _ _ _ _ _ _ _ _ _ _ _ _ _ _ _ _ _ _ _ _ _ _ _ _ _ _ _ _ _ _ _ _ _ _ _ _ _ _ _ _ _ _ _ _ _ _ _ _ _ _ _ _ _ _ _ _ _ _ _ _ _ _ _ _ _ _ _ _ _ _ _ _ _ _ _ _ _ _ _ _ _ _ _ _ _ _ _ _ _ _ _ _ _ _ _ W0 w.heap.size HSZ.out t Wk _ a6 n6 c6 A WT ([] : List Tk) hs1 hs2 hs3 x1 x6 HA HD HTO (Lib.hid (by show _ ≤ _; have := HWL.out; have := HAL.out; simp only [List.length_cons, List.length_nil]; omega)) (Lib.hid ?_)
            intro e127 e128 e129 e130 e131 e132 e133 e134 e135 e136 e137 e138 e139 e140 v5 w5 h5
            obtain ⟨L5, hL5⟩ : ∃ L, L = A ++ (WT ++ ([] : List Tk)) := ⟨_, rfl⟩
            rw [← hL5] at h5
            have hl5 : L5.length ≤ 300 := by
              rw [hL5]
              have := HWL.out
              have := HAL.out
              simp only [List.length_append, List.length_cons, List.length_nil]
              omega
            obtain ⟨q5, hq5⟩ : ∃ q, q = L5.length := ⟨_, rfl⟩
            rw [← hq5] at hl5
            have HO5 : Hid (w5.ownsRow W0.heap.size 39 3 v5 q5 (tkc L5)) := by rw [hq5]; exact ToksIs.base h5 (Nat.le_refl _)
            have HB5 : Hid (Below W0.heap.size W0 w5) := by
              obtain ⟨_, _, _, h⟩ := h5
              exact h
            have HL5 := Lib.hid hL5
            have HQ5 := Lib.hid hq5
            obtain ⟨a5, c5, rfl⟩ := own_shape HO5.out
            clear h5 hL5 hq5 x0 x1 x2 x3 x4 x5 x6 x7 x8 x9 x10 x11
            obtain ⟨x0, x1, x2, x3, x4, x5, x6, x7, x8, x9, x10, x11⟩ := HNW.out w5 HB5.out
            simp only at x0 x1 x2 x3 x4 x5 x6 x7 x8 x9 x10 x11
            go_wp2_with fail
            go_ret
            have HQ : SEL = L5 := by
              rw [HS.out, HL5.out, HAE.out]
              simp [hlim]
            rw [HQ]
            refine ⟨_, rfl, ?_, HB0.out.trans (HB5.out.mono HB0.out.size)⟩
            rw [← HQ5.out]
            exact own_mono HO5.out HB0.out.size
        · by_cases hlim : 0 ≤ lim
          · obtain ⟨hwo, hso⟩ := HO.out rfl
            have hs4 : ¬ 9223372036854775807 < 9 + ord.size := by omega
            have hs5 : ¬ 9223372036854775807 < 9 + ord.size + 5 := by omega
            have HTO : Hid (∀ W, Below W0.heap.size W0 W → Calls Tryd.prog 55 #[.string (⟨#[79, 82, 68, 69, 82, 32, 66, 89, 32]⟩ ++ ord)] W (ToksIs [ptk sORDER, ptk sBY, ptk ord] W)) := fun W _ => toks_is (tz_ord hwo) (by rw [size_app]; show 9 + ord.size ≤ 1000; omega) W
            clear hwo
            go_wp2_with fail
            change Code.wp _ ((regionOf 37 (Tryd.f27.body.getD .skip)).getD .skip) _ _ _
            refine rst37 _ _ _ _ _ _ _ _ _ _ _ _ _ _ _ _ _ _ _ _ _ _ _ _ _ _ _ _ _ _ _ _ _ _ _ _ _ _ _ _ _ _ _ _ _ _ _ _ _ _ _ _ _ _ _ _ _ _ _ _ _ _ _ _ _ _ _ _ _ _ _ _ _ _ _ _ _ _ _ _ _ _ _ _ _ _ _ _ _ _ _ _ _ _ _ _ _ _ _ _ _ _ _ _ _ _ _ _ _ _ _ _ _ _ _ _ _ _ _ _ _ _ _ _ _ _ _ _ _ _ _ _ _ _ _ _ _ _ _ _ _ _ _ _ _ _ _ _ _ _ _ _ _ _ _ _ _ _ _ _ _ _ _ _ _ _ _ _ _ _ _ _ _ _ _ _ _ _ _ _ _ _ _ _ _ _ _ W0 w.heap.size HSZ.out t Wk _ a6 n6 c6 A WT [ptk sORDER, ptk sBY, ptk ord] hs1 hs2 hs3 x1 x6 HA HD HTO (Lib.hid (by show _ ≤ _; have := HWL.out; have := HAL.out; simp only [List.length_cons, List.length_nil]; omega)) (Lib.hid ?_)
            intro e127 e128 e129 e130 e131 e132 e133 e134 e135 e136 e137 e138 e139 e140 v5 w5 h5
            obtain ⟨L5, hL5⟩ : ∃ L, L = A ++ (WT ++ [ptk sORDER, ptk sBY, ptk ord]) := ⟨_, rfl⟩
            rw [← hL5] at h5
            have hl5 : L5.length ≤ 300 := by
              rw [hL5]
              have := HWL.out
              have := HAL.out
              simp only [List.length_append, List.length_cons, List.length_nil]
              omega
            obtain ⟨q5, hq5⟩ : ∃ q, q = L5.length := ⟨_, rfl⟩
            rw [← hq5] at hl5
            have HO5 : Hid (w5.ownsRow W0.heap.size 39 3 v5 q5 (tkc L5)) := by rw [hq5]; exact ToksIs.base h5 (Nat.le_refl _)
            have HB5 : Hid (Below W0.heap.size W0 w5) := by
              obtain ⟨_, _, _, h⟩ := h5
              exact h
            have HL5 := Lib.hid hL5
            have HQ5 := Lib.hid hq5
            obtain ⟨a5, c5, rfl⟩ := own_shape HO5.out
            clear h5 hL5 hq5 x0 x1 x2 x3 x4 x5 x6 x7 x8 x9 x10 x11
            obtain ⟨x0, x1, x2, x3, x4, x5, x6, x7, x8, x9, x10, x11⟩ := HNW.out w5 HB5.out
            simp only at x0 x1 x2 x3 x4 x5 x6 x7 x8 x9 x10 x11
            go_wp2_with (at_builtin; refine aptk (w5.alloc (.cells #[.int .i64 1, .string sLIMIT, .int .i64 0, .int .i64 2, .string ⟨#[]⟩, .int .i64 lim] 39)) L5 [⟨1, sLIMIT.data.toList, 0⟩, ⟨2, [], lim⟩] q5 HQ5 rfl _ _ rfl (HO5.out.alloc _) (rd_tk2 w5 1 0 2 lim sLIMIT ⟨#[]⟩ _ rfl) (by have := HB5.out.size; simp; omega) (by omega) (by simp) rfl rfl ?_; intro v6 w6 L6 q6 HL6 HQ6 hle6 hown hb; have HO6 := Lib.hid hown; have HB6 := Lib.hid ((HB5.out.alloc HB5.out.size _).trans hb); clear hown hb)
            go_ret
            have HQ : SEL = L6 := by
              rw [HS.out, HL6.out, HL5.out, HAE.out, limit_tk]
              simp [hlim]
            rw [HQ]
            refine ⟨_, rfl, ?_, HB0.out.trans (HB6.out.mono HB0.out.size)⟩
            rw [← HQ6.out]
            exact own_mono HO6.out HB0.out.size
          · obtain ⟨hwo, hso⟩ := HO.out rfl
            have hs4 : ¬ 9223372036854775807 < 9 + ord.size := by omega
            have hs5 : ¬ 9223372036854775807 < 9 + ord.size + 5 := by omega
            have HTO : Hid (∀ W, Below W0.heap.size W0 W → Calls Tryd.prog 55 #[.string (⟨#[79, 82, 68, 69, 82, 32, 66, 89, 32]⟩ ++ ord)] W (ToksIs [ptk sORDER, ptk sBY, ptk ord] W)) := fun W _ => toks_is (tz_ord hwo) (by rw [size_app]; show 9 + ord.size ≤ 1000; omega) W
            clear hwo
            go_wp2_with fail
            change Code.wp _ ((regionOf 37 (Tryd.f27.body.getD .skip)).getD .skip) _ _ _
            refine rst37 _ _ _ _ _ _ _ _ _ _ _ _ _ _ _ _ _ _ _ _ _ _ _ _ _ _ _ _ _ _ _ _ _ _ _ _ _ _ _ _ _ _ _ _ _ _ _ _ _ _ _ _ _ _ _ _ _ _ _ _ _ _ _ _ _ _ _ _ _ _ _ _ _ _ _ _ _ _ _ _ _ _ _ _ _ _ _ _ _ _ _ _ _ _ _ _ _ _ _ _ _ _ _ _ _ _ _ _ _ _ _ _ _ _ _ _ _ _ _ _ _ _ _ _ _ _ _ _ _ _ _ _ _ _ _ _ _ _ _ _ _ _ _ _ _ _ _ _ _ _ _ _ _ _ _ _ _ _ _ _ _ _ _ _ _ _ _ _ _ _ _ _ _ _ _ _ _ _ _ _ _ _ _ _ _ _ _ W0 w.heap.size HSZ.out t Wk _ a6 n6 c6 A WT [ptk sORDER, ptk sBY, ptk ord] hs1 hs2 hs3 x1 x6 HA HD HTO (Lib.hid (by show _ ≤ _; have := HWL.out; have := HAL.out; simp only [List.length_cons, List.length_nil]; omega)) (Lib.hid ?_)
            intro e127 e128 e129 e130 e131 e132 e133 e134 e135 e136 e137 e138 e139 e140 v5 w5 h5
            obtain ⟨L5, hL5⟩ : ∃ L, L = A ++ (WT ++ [ptk sORDER, ptk sBY, ptk ord]) := ⟨_, rfl⟩
            rw [← hL5] at h5
            have hl5 : L5.length ≤ 300 := by
              rw [hL5]
              have := HWL.out
              have := HAL.out
              simp only [List.length_append, List.length_cons, List.length_nil]
              omega
            obtain ⟨q5, hq5⟩ : ∃ q, q = L5.length := ⟨_, rfl⟩
            rw [← hq5] at hl5
            have HO5 : Hid (w5.ownsRow W0.heap.size 39 3 v5 q5 (tkc L5)) := by rw [hq5]; exact ToksIs.base h5 (Nat.le_refl _)
            have HB5 : Hid (Below W0.heap.size W0 w5) := by
              obtain ⟨_, _, _, h⟩ := h5
              exact h
            have HL5 := Lib.hid hL5
            have HQ5 := Lib.hid hq5
            obtain ⟨a5, c5, rfl⟩ := own_shape HO5.out
            clear h5 hL5 hq5 x0 x1 x2 x3 x4 x5 x6 x7 x8 x9 x10 x11
            obtain ⟨x0, x1, x2, x3, x4, x5, x6, x7, x8, x9, x10, x11⟩ := HNW.out w5 HB5.out
            simp only at x0 x1 x2 x3 x4 x5 x6 x7 x8 x9 x10 x11
            go_wp2_with fail
            go_ret
            have HQ : SEL = L5 := by
              rw [HS.out, HL5.out, HAE.out]
              simp [hlim]
            rw [HQ]
            refine ⟨_, rfl, ?_, HB0.out.trans (HB5.out.mono HB0.out.size)⟩
            rw [← HQ5.out]
            exact own_mono HO5.out HB0.out.size
        · by_cases hlim : 0 ≤ lim
          · obtain ⟨hwo, hso⟩ := HO.out rfl
            have hs4 : ¬ 9223372036854775807 < 9 + ord.size := by omega
            have hs5 : ¬ 9223372036854775807 < 9 + ord.size + 5 := by omega
            have HTO : Hid (∀ W, Below W0.heap.size W0 W → Calls Tryd.prog 55 #[.string (⟨#[79, 82, 68, 69, 82, 32, 66, 89, 32]⟩ ++ ord ++ ⟨#[32, 68, 69, 83, 67]⟩)] W (ToksIs [ptk sORDER, ptk sBY, ptk ord, ptk sDESC] W)) := fun W _ => toks_is (tz_ordd hwo) (by rw [size_app, size_app]; show 9 + ord.size + 5 ≤ 1000; omega) W
            clear hwo
            go_wp2_with fail
            change Code.wp _ ((regionOf 37 (Tryd.f27.body.getD .skip)).getD .skip) _ _ _
            refine rst37 _ _ _ _ _ _ _ _ _ _ _ _ _ _ _ _ _ _ _ _ _ _ _ _ _ _ _ _ _ _ _ _ _ _ _ _ _ _ _ _ _ _ _ _ _ _ _ _ _ _ _ _ _ _ _ _ _ _ _ _ _ _ _ _ _ _ _ _ _ _ _ _ _ _ _ _ _ _ _ _ _ _ _ _ _ _ _ _ _ _ _ _ _ _ _ _ _ _ _ _ _ _ _ _ _ _ _ _ _ _ _ _ _ _ _ _ _ _ _ _ _ _ _ _ _ _ _ _ _ _ _ _ _ _ _ _ _ _ _ _ _ _ _ _ _ _ _ _ _ _ _ _ _ _ _ _ _ _ _ _ _ _ _ _ _ _ _ _ _ _ _ _ _ _ _ _ _ _ _ _ _ _ _ _ _ _ _ W0 w.heap.size HSZ.out t Wk _ a6 n6 c6 A WT [ptk sORDER, ptk sBY, ptk ord, ptk sDESC] hs1 hs2 hs3 x1 x6 HA HD HTO (Lib.hid (by show _ ≤ _; have := HWL.out; have := HAL.out; simp only [List.length_cons, List.length_nil]; omega)) (Lib.hid ?_)
            intro e127 e128 e129 e130 e131 e132 e133 e134 e135 e136 e137 e138 e139 e140 v5 w5 h5
            obtain ⟨L5, hL5⟩ : ∃ L, L = A ++ (WT ++ [ptk sORDER, ptk sBY, ptk ord, ptk sDESC]) := ⟨_, rfl⟩
            rw [← hL5] at h5
            have hl5 : L5.length ≤ 300 := by
              rw [hL5]
              have := HWL.out
              have := HAL.out
              simp only [List.length_append, List.length_cons, List.length_nil]
              omega
            obtain ⟨q5, hq5⟩ : ∃ q, q = L5.length := ⟨_, rfl⟩
            rw [← hq5] at hl5
            have HO5 : Hid (w5.ownsRow W0.heap.size 39 3 v5 q5 (tkc L5)) := by rw [hq5]; exact ToksIs.base h5 (Nat.le_refl _)
            have HB5 : Hid (Below W0.heap.size W0 w5) := by
              obtain ⟨_, _, _, h⟩ := h5
              exact h
            have HL5 := Lib.hid hL5
            have HQ5 := Lib.hid hq5
            obtain ⟨a5, c5, rfl⟩ := own_shape HO5.out
            clear h5 hL5 hq5 x0 x1 x2 x3 x4 x5 x6 x7 x8 x9 x10 x11
            obtain ⟨x0, x1, x2, x3, x4, x5, x6, x7, x8, x9, x10, x11⟩ := HNW.out w5 HB5.out
            simp only at x0 x1 x2 x3 x4 x5 x6 x7 x8 x9 x10 x11
            go_wp2_with (at_builtin; refine aptk (w5.alloc (.cells #[.int .i64 1, .string sLIMIT, .int .i64 0, .int .i64 2, .string ⟨#[]⟩, .int .i64 lim] 39)) L5 [⟨1, sLIMIT.data.toList, 0⟩, ⟨2, [], lim⟩] q5 HQ5 rfl _ _ rfl (HO5.out.alloc _) (rd_tk2 w5 1 0 2 lim sLIMIT ⟨#[]⟩ _ rfl) (by have := HB5.out.size; simp; omega) (by omega) (by simp) rfl rfl ?_; intro v6 w6 L6 q6 HL6 HQ6 hle6 hown hb; have HO6 := Lib.hid hown; have HB6 := Lib.hid ((HB5.out.alloc HB5.out.size _).trans hb); clear hown hb)
            go_ret
            have HQ : SEL = L6 := by
              rw [HS.out, HL6.out, HL5.out, HAE.out, limit_tk]
              simp [hlim]
            rw [HQ]
            refine ⟨_, rfl, ?_, HB0.out.trans (HB6.out.mono HB0.out.size)⟩
            rw [← HQ6.out]
            exact own_mono HO6.out HB0.out.size
          · obtain ⟨hwo, hso⟩ := HO.out rfl
            have hs4 : ¬ 9223372036854775807 < 9 + ord.size := by omega
            have hs5 : ¬ 9223372036854775807 < 9 + ord.size + 5 := by omega
            have HTO : Hid (∀ W, Below W0.heap.size W0 W → Calls Tryd.prog 55 #[.string (⟨#[79, 82, 68, 69, 82, 32, 66, 89, 32]⟩ ++ ord ++ ⟨#[32, 68, 69, 83, 67]⟩)] W (ToksIs [ptk sORDER, ptk sBY, ptk ord, ptk sDESC] W)) := fun W _ => toks_is (tz_ordd hwo) (by rw [size_app, size_app]; show 9 + ord.size + 5 ≤ 1000; omega) W
            clear hwo
            go_wp2_with fail
            change Code.wp _ ((regionOf 37 (Tryd.f27.body.getD .skip)).getD .skip) _ _ _
            refine rst37 _ _ _ _ _ _ _ _ _ _ _ _ _ _ _ _ _ _ _ _ _ _ _ _ _ _ _ _ _ _ _ _ _ _ _ _ _ _ _ _ _ _ _ _ _ _ _ _ _ _ _ _ _ _ _ _ _ _ _ _ _ _ _ _ _ _ _ _ _ _ _ _ _ _ _ _ _ _ _ _ _ _ _ _ _ _ _ _ _ _ _ _ _ _ _ _ _ _ _ _ _ _ _ _ _ _ _ _ _ _ _ _ _ _ _ _ _ _ _ _ _ _ _ _ _ _ _ _ _ _ _ _ _ _ _ _ _ _ _ _ _ _ _ _ _ _ _ _ _ _ _ _ _ _ _ _ _ _ _ _ _ _ _ _ _ _ _ _ _ _ _ _ _ _ _ _ _ _ _ _ _ _ _ _ _ _ _ W0 w.heap.size HSZ.out t Wk _ a6 n6 c6 A WT [ptk sORDER, ptk sBY, ptk ord, ptk sDESC] hs1 hs2 hs3 x1 x6 HA HD HTO (Lib.hid (by show _ ≤ _; have := HWL.out; have := HAL.out; simp only [List.length_cons, List.length_nil]; omega)) (Lib.hid ?_)
            intro e127 e128 e129 e130 e131 e132 e133 e134 e135 e136 e137 e138 e139 e140 v5 w5 h5
            obtain ⟨L5, hL5⟩ : ∃ L, L = A ++ (WT ++ [ptk sORDER, ptk sBY, ptk ord, ptk sDESC]) := ⟨_, rfl⟩
            rw [← hL5] at h5
            have hl5 : L5.length ≤ 300 := by
              rw [hL5]
              have := HWL.out
              have := HAL.out
              simp only [List.length_append, List.length_cons, List.length_nil]
              omega
            obtain ⟨q5, hq5⟩ : ∃ q, q = L5.length := ⟨_, rfl⟩
            rw [← hq5] at hl5
            have HO5 : Hid (w5.ownsRow W0.heap.size 39 3 v5 q5 (tkc L5)) := by rw [hq5]; exact ToksIs.base h5 (Nat.le_refl _)
            have HB5 : Hid (Below W0.heap.size W0 w5) := by
              obtain ⟨_, _, _, h⟩ := h5
              exact h
            have HL5 := Lib.hid hL5
            have HQ5 := Lib.hid hq5
            obtain ⟨a5, c5, rfl⟩ := own_shape HO5.out
            clear h5 hL5 hq5 x0 x1 x2 x3 x4 x5 x6 x7 x8 x9 x10 x11
            obtain ⟨x0, x1, x2, x3, x4, x5, x6, x7, x8, x9, x10, x11⟩ := HNW.out w5 HB5.out
            simp only at x0 x1 x2 x3 x4 x5 x6 x7 x8 x9 x10 x11
            go_wp2_with fail
            go_ret
            have HQ : SEL = L5 := by
              rw [HS.out, HL5.out, HAE.out]
              simp [hlim]
            rw [HQ]
            refine ⟨_, rfl, ?_, HB0.out.trans (HB5.out.mono HB0.out.size)⟩
            rw [← HQ5.out]
            exact own_mono HO5.out HB0.out.size
  · have h40 := hc0 rfl
    subst h40
    go_enter Tryd.func27, Tryd.ntmps27
    go_wp2_with fail
    rw [← HWE.out]
    go_loopw [7, 8] (fun u i wr => ∃ (k : Nat) (Wk : ByteArray), k ≤ 0 ∧ i = .int .i64 (k : Int) ∧ u = .string Wk ∧ Hid (Wk = whB ⟨#[67, 79, 85, 78, 84, 32, 40, 32, 42, 32, 41]⟩ (names.take k)) ∧ Wk.size ≤ 20 + 11 * k ∧ wr = W0) (fun _ i _ => 0 - (intOf i).toNat)
    case atStart => exact ⟨0, ⟨#[67, 79, 85, 78, 84, 32, 40, 32, 42, 32, 41]⟩, by omega, rfl, rfl, rfl, by decide, rfl⟩
    case round =>
      obtain ⟨k, Wk, hk, rfl, rfl, HWW, hwk, hwr⟩ := hrel
      obtain rfl : W0 = wr := hwr.symm
      obtain rfl : k = 0 := by omega
      have HWK : Hid (Wk = whB ⟨#[67, 79, 85, 78, 84, 32, 40, 32, 42, 32, 41]⟩ names) := by
        show _ = _
        rw [HWW.out, List.take_of_length_le (by rw [← HN.out]; exact Nat.le_refl _)]
      have hzw : Wk.size ≤ 100 := by omega
      have hst := nm_size HT.out
      have hs1 : ¬ 9223372036854775807 < 7 + Wk.size := by omega
      have hs2 : ¬ 9223372036854775807 < 7 + Wk.size + 6 := by omega
      have hs3 : ¬ 9223372036854775807 < 7 + Wk.size + 6 + t.size := by omega
      obtain ⟨A, hA⟩ : ∃ A, A = [ptk sSELECT] ++ (tz Wk.data.toList ++ [ptk sFROM, ptk t]) := ⟨_, rfl⟩
      have HA : Hid (∀ W, Below W0.heap.size W0 W → Calls Tryd.prog 55 #[.string (⟨#[83, 69, 76, 69, 67, 84, 32]⟩ ++ Wk ++ ⟨#[32, 70, 82, 79, 77, 32]⟩ ++ t)] W (ToksIs A W)) := fun W _ => by
        rw [hA]
        exact toks_is (tz_sel (wd_name HT.out)) (by rw [size_app, size_app, size_app]; show 7 + Wk.size + 6 + t.size ≤ 1000; omega) W
      have HAE : Hid (A = [ptk sSELECT] ++ (tz (whB ⟨#[67, 79, 85, 78, 84, 32, 40, 32, 42, 32, 41]⟩ names).data.toList ++ [ptk sFROM, ptk t])) := by show _ = _; rw [hA, HWK.out]
      have HAL : Hid (A.length ≤ 33) := by
        show _ ≤ _
        have : (tz (whB ⟨#[67, 79, 85, 78, 84, 32, 40, 32, 42, 32, 41]⟩ names).data.toList).length ≤ 30 := HWL.out.2
        rw [HAE.out]
        simp only [List.length_append, List.length_cons, List.length_nil]
        omega
      clear hst hA
      rcases (show (e = true ∧ dn = false) ∨ (e = false ∧ dn = false) ∨ (e = false ∧ dn = true) by cases e <;> cases dn <;> simp at hde ⊢) with ⟨rfl, rfl⟩ | ⟨rfl, rfl⟩ | ⟨rfl, rfl⟩
      · by_cases hlim : 0 ≤ lim
        · have HTO : Hid (∀ W, Below W0.heap.size W0 W → Calls Tryd.prog 55 #[.string ⟨#[]⟩] W (ToksIs ([] : List Tk) W)) := fun W _ => toks_is (s := ⟨#[]⟩) (L := []) rfl (by decide) W
          go_wp2_with fail
          change Code.wp _ ((regionOf 37 (Tryd.f27.body.getD .skip)).getD .skip) _ _ _
          refine rst37 _ _ _ _ _ _ _ _ _ _ _ _ _ _ _ _ _ _ _ _ _ _ _ _ _ _ _ _ _ _ _ _ _ _ _ _ _ _ _ _ _ _ _ _ _ _ _ _ _ _ _ _ _ _ _ _ _ _ _ _ _ _ _ _ _ _ _ _ _ _ _ _ _ _ _ _ _ _ _ _ _ _ _ _ _ _ _ _ _ _ _ _ _ _ _ _ _ _ _ _ _ _ _ _ _ _ _ _ _ _ _ _ _ _ _ _ _ _ _ _ _ _ _ _ _ _ _ _ _ _ _ _ _ _ _ _ _ _ _ _ _ _ _ _ _ _ _ _ _ _ _ _ _ _ _ _ _ _ _ _ _ _ _ _ _ _ _ _ _ _ _ _ _ _ _ _ _ _ _ _ _ _ _ _ _ _ _ W0 w.heap.size HSZ.out t Wk _ a6 n6 c6 A WT ([] : List Tk) hs1 hs2 hs3 x1 x6 HA HD HTO (Lib.hid (by show _ ≤ _; have := HWL.out; have := HAL.out; simp only [List.length_cons, List.length_nil]; omega)) (Lib.hid ?_)
          intro e127 e128 e129 e130 e131 e132 e133 e134 e135 e136 e137 e138 e139 e140 v5 w5 h5
          obtain ⟨L5, hL5⟩ : ∃ L, L = A ++ (WT ++ ([] : List Tk)) := ⟨_, rfl⟩
          rw [← hL5] at h5
          have hl5 : L5.length ≤ 300 := by
            rw [hL5]
            have := HWL.out
            have := HAL.out
            simp only [List.length_append, List.length_cons, List.length_nil]
            omega
          obtain ⟨q5, hq5⟩ : ∃ q, q = L5.length := ⟨_, rfl⟩
          rw [← hq5] at hl5
          have HO5 : Hid (w5.ownsRow W0.heap.size 39 3 v5 q5 (tkc L5)) := by rw [hq5]; exact ToksIs.base h5 (Nat.le_refl _)
          have HB5 : Hid (Below W0.heap.size W0 w5) := by
            obtain ⟨_, _, _, h⟩ := h5
            exact h
          have HL5 := Lib.hid hL5
          have HQ5 := Lib.hid hq5
          obtain ⟨a5, c5, rfl⟩ := own_shape HO5.out
          clear h5 hL5 hq5 x0 x1 x2 x3 x4 x5 x6 x7 x8 x9 x10 x11
          obtain ⟨x0, x1, x2, x3, x4, x5, x6, x7, x8, x9, x10, x11⟩ := HNW.out w5 HB5.out
          simp only at x0 x1 x2 x3 x4 x5 x6 x7 x8 x9 x10 x11
          go_wp2_with (at_builtin; refine aptk (w5.alloc (.cells #[.int .i64 1, .string sLIMIT, .int .i64 0, .int .i64 2, .string ⟨#[]⟩, .int .i64 lim] 39)) L5 [⟨1, sLIMIT.data.toList, 0⟩, ⟨2, [], lim⟩] q5 HQ5 rfl _ _ rfl (HO5.out.alloc _) (rd_tk2 w5 1 0 2 lim sLIMIT ⟨#[]⟩ _ rfl) (by have := HB5.out.size; simp; omega) (by omega) (by simp) rfl rfl ?_; intro v6 w6 L6 q6 HL6 HQ6 hle6 hown hb; have HO6 := Lib.hid hown; have HB6 := Lib.hid ((HB5.out.alloc HB5.out.size _).trans hb); clear hown hb)
          go_ret
          have HQ : SEL = L6 := by
            rw [HS.out, HL6.out, HL5.out, HAE.out, limit_tk]
            simp [hlim]
          rw [HQ]
          refine ⟨_, rfl, ?_, HB0.out.trans (HB6.out.mono HB0.out.size)⟩
          rw [← HQ6.out]
          exact own_mono HO6.out HB0.out.size
        · have HTO : Hid (∀ W, Below W0.heap.size W0 W → Calls Tryd.prog 55 #[.string ⟨#[]⟩] W (ToksIs ([] : List Tk) W)) := fun W _ => toks_is (s := ⟨#[]⟩) (L := []) rfl (by decide) W
          go_wp2_with fail
          change Code.wp _ ((regionOf 37 (Tryd.f27.body.getD .skip)).getD .skip) _ _ _
          refine rst37 _ _ _ _ _ _ _ _ _ _ _ _ _ _ _ _ _ _ _ _ _ _ _ _ _ _ _ _ _ _ _ _ _ _ _ _ _ _ _ _ _ _ _ _ _ _ _ _ _ _ _ _ _ _ _ _ _ _ _ _ _ _ _ _ _ _ _ _ _ _ _ _ _ _ _ _ _ _ _ _ _ _ _ _ _ _ _ _ _ _ _ _ _ _ _ _ _ _ _ _ _ _ _ _ _ _ _ _ _ _ _ _ _ _ _ _ _ _ _ _ _ _ _ _ _ _ _ _ _ _ _ _ _ _ _ _ _ _ _ _ _ _ _ _ _ _ _ _ _ _ _ _ _ _ _ _ _ _ _ _ _ _ _ _ _ _ _ _ _ _ _ _ _ _ _ _ _ _ _ _ _ _ _ _ _ _ _ W0 w.heap.size HSZ.out t Wk _ a6 n6 c6 A WT ([] : List Tk) hs1 hs2 hs3 x1 x6 HA HD HTO (Lib.hid (by show _ ≤ _; have := HWL.out; have := HAL.out; simp only [List.length_cons, List.length_nil]; omega)) (Lib.hid ?_)
          intro e127 e128 e129 e130 e131 e132 e133 e134 e135 e136 e137 e138 e139 e140 v5 w5 h5
          obtain ⟨L5, hL5⟩ : ∃ L, L = A ++ (WT ++ ([] : List Tk)) := ⟨_, rfl⟩
          rw [← hL5] at h5
          have hl5 : L5.length ≤ 300 := by
            rw [hL5]
            have := HWL.out
            have := HAL.out
            simp only [List.length_append, List.length_cons, List.length_nil]
            omega
          obtain ⟨q5, hq5⟩ : ∃ q, q = L5.length := ⟨_, rfl⟩
          rw [← hq5] at hl5
          have HO5 : Hid (w5.ownsRow W0.heap.size 39 3 v5 q5 (tkc L5)) := by rw [hq5]; exact ToksIs.base h5 (Nat.le_refl _)
          have HB5 : Hid (Below W0.heap.size W0 w5) := by
            obtain ⟨_, _, _, h⟩ := h5
            exact h
          have HL5 := Lib.hid hL5
          have HQ5 := Lib.hid hq5
          obtain ⟨a5, c5, rfl⟩ := own_shape HO5.out
          clear h5 hL5 hq5 x0 x1 x2 x3 x4 x5 x6 x7 x8 x9 x10 x11
          obtain ⟨x0, x1, x2, x3, x4, x5, x6, x7, x8, x9, x10, x11⟩ := HNW.out w5 HB5.out
          simp only at x0 x1 x2 x3 x4 x5 x6 x7 x8 x9 x10 x11
          go_wp2_with fail
          go_ret
          have HQ : SEL = L5 := by
            rw [HS.out, HL5.out, HAE.out]
            simp [hlim]
          rw [HQ]
          refine ⟨_, rfl, ?_, HB0.out.trans (HB5.out.mono HB0.out.size)⟩
          rw [← HQ5.out]
          exact own_mono HO5.out HB0.out.size
      · by_cases hlim : 0 ≤ lim
        · obtain ⟨hwo, hso⟩ := HO.out rfl
          have hs4 : ¬ 9223372036854775807 < 9 + ord.size := by omega
          have hs5 : ¬ 9223372036854775807 < 9 + ord.size + 5 := by omega
          have HTO : Hid (∀ W, Below W0.heap.size W0 W → Calls Tryd.prog 55 #[.string (⟨#[79, 82, 68, 69, 82, 32, 66, 89, 32]⟩ ++ ord)] W (ToksIs [ptk sORDER, ptk sBY, ptk ord] W)) := fun W _ => toks_is (tz_ord hwo) (by rw [size_app]; show 9 + ord.size ≤ 1000; omega) W
          clear hwo
          go_wp2_with fail
          change Code.wp _ ((regionOf 37 (Tryd.f27.body.getD .skip)).getD .skip) _ _ _
          refine rst37 _ _ _ _ _ _ _ _ _ _ _ _ _ _ _ _ _ _ _ _ _ _ _ _ _ _ _ _ _ _ _ _ _ _ _ _ _ _ _ _ _ _ _ _ _ _ _ _ _ _ _ _ _ _ _ _ _ _ _ _ _ _ _ _ _ _ _ _ _ _ _ _ _ _ _ _ _ _ _ _ _ _ _ _ _ _ _ _ _ _ _ _ _ _ _ _ _ _ _ _ _ _ _ _ _ _ _ _ _ _ _ _ _ _ _ _ _ _ _ _ _ _ _ _ _ _ _ _ _ _ _ _ _ _ _ _ _ _ _ _ _ _ _ _ _ _ _ _ _ _ _ _ _ _ _ _ _ _ _ _ _ _ _ _ _ _ _ _ _ _ _ _ _ _ _ _ _ _ _ _ _ _ _ _ _ _ _ W0 w.heap.size HSZ.out t Wk _ a6 n6 c6 A WT [ptk sORDER, ptk sBY, ptk ord] hs1 hs2 hs3 x1 x6 HA HD HTO (Lib.hid (by show _ ≤ _; have := HWL.out; have := HAL.out; simp only [List.length_cons, List.length_nil]; omega)) (Lib.hid ?_)
          intro e127 e128 e129 e130 e131 e132 e133 e134 e135 e136 e137 e138 e139 e140 v5 w5 h5
          obtain ⟨L5, hL5⟩ : ∃ L, L = A ++ (WT ++ [ptk sORDER, ptk sBY, ptk ord]) := ⟨_, rfl⟩
          rw [← hL5] at h5
          have hl5 : L5.length ≤ 300 := by
            rw [hL5]
            have := HWL.out
            have := HAL.out
            simp only [List.length_append, List.length_cons, List.length_nil]
            omega
          obtain ⟨q5, hq5⟩ : ∃ q, q = L5.length := ⟨_, rfl⟩
          rw [← hq5] at hl5
          have HO5 : Hid (w5.ownsRow W0.heap.size 39 3 v5 q5 (tkc L5)) := by rw [hq5]; exact ToksIs.base h5 (Nat.le_refl _)
          have HB5 : Hid (Below W0.heap.size W0 w5) := by
            obtain ⟨_, _, _, h⟩ := h5
            exact h
          have HL5 := Lib.hid hL5
          have HQ5 := Lib.hid hq5
          obtain ⟨a5, c5, rfl⟩ := own_shape HO5.out
          clear h5 hL5 hq5 x0 x1 x2 x3 x4 x5 x6 x7 x8 x9 x10 x11
          obtain ⟨x0, x1, x2, x3, x4, x5, x6, x7, x8, x9, x10, x11⟩ := HNW.out w5 HB5.out
          simp only at x0 x1 x2 x3 x4 x5 x6 x7 x8 x9 x10 x11
          go_wp2_with (at_builtin; refine aptk (w5.alloc (.cells #[.int .i64 1, .string sLIMIT, .int .i64 0, .int .i64 2, .string ⟨#[]⟩, .int .i64 lim] 39)) L5 [⟨1, sLIMIT.data.toList, 0⟩, ⟨2, [], lim⟩] q5 HQ5 rfl _ _ rfl (HO5.out.alloc _) (rd_tk2 w5 1 0 2 lim sLIMIT ⟨#[]⟩ _ rfl) (by have := HB5.out.size; simp; omega) (by omega) (by simp) rfl rfl ?_; intro v6 w6 L6 q6 HL6 HQ6 hle6 hown hb; have HO6 := Lib.hid hown; have HB6 := Lib.hid ((HB5.out.alloc HB5.out.size _).trans hb); clear hown hb)
          go_ret
          have HQ : SEL = L6 := by
            rw [HS.out, HL6.out, HL5.out, HAE.out, limit_tk]
            simp [hlim]
          rw [HQ]
          refine ⟨_, rfl, ?_, HB0.out.trans (HB6.out.mono HB0.out.size)⟩
          rw [← HQ6.out]
          exact own_mono HO6.out HB0.out.size
        · obtain ⟨hwo, hso⟩ := HO.out rfl
          have hs4 : ¬ 9223372036854775807 < 9 + ord.size := by omega
          have hs5 : ¬ 9223372036854775807 < 9 + ord.size + 5 := by omega
          have HTO : Hid (∀ W, Below W0.heap.size W0 W → Calls Tryd.prog 55 #[.string (⟨#[79, 82, 68, 69, 82, 32, 66, 89, 32]⟩ ++ ord)] W (ToksIs [ptk sORDER, ptk sBY, ptk ord] W)) := fun W _ => toks_is (tz_ord hwo) (by rw [size_app]; show 9 + ord.size ≤ 1000; omega) W
          clear hwo
          go_wp2_with fail
          change Code.wp _ ((regionOf 37 (Tryd.f27.body.getD .skip)).getD .skip) _ _ _
          refine rst37 _ _ _ _ _ _ _ _ _ _ _ _ _ _ _ _ _ _ _ _ _ _ _ _ _ _ _ _ _ _ _ _ _ _ _ _ _ _ _ _ _ _ _ _ _ _ _ _ _ _ _ _ _ _ _ _ _ _ _ _ _ _ _ _ _ _ _ _ _ _ _ _ _ _ _ _ _ _ _ _ _ _ _ _ _ _ _ _ _ _ _ _ _ _ _ _ _ _ _ _ _ _ _ _ _ _ _ _ _ _ _ _ _ _ _ _ _ _ _ _ _ _ _ _ _ _ _ _ _ _ _ _ _ _ _ _ _ _ _ _ _ _ _ _ _ _ _ _ _ _ _ _ _ _ _ _ _ _ _ _ _ _ _ _ _ _ _ _ _ _ _ _ _ _ _ _ _ _ _ _ _ _ _ _ _ _ _ W0 w.heap.size HSZ.out t Wk _ a6 n6 c6 A WT [ptk sORDER, ptk sBY, ptk ord] hs1 hs2 hs3 x1 x6 HA HD HTO (Lib.hid (by show _ ≤ _; have := HWL.out; have := HAL.out; simp only [List.length_cons, List.length_nil]; omega)) (Lib.hid ?_)
          intro e127 e128 e129 e130 e131 e132 e133 e134 e135 e136 e137 e138 e139 e140 v5 w5 h5
          obtain ⟨L5, hL5⟩ : ∃ L, L = A ++ (WT ++ [ptk sORDER, ptk sBY, ptk ord]) := ⟨_, rfl⟩
          rw [← hL5] at h5
          have hl5 : L5.length ≤ 300 := by
            rw [hL5]
            have := HWL.out
            have := HAL.out
            simp only [List.length_append, List.length_cons, List.length_nil]
            omega
          obtain ⟨q5, hq5⟩ : ∃ q, q = L5.length := ⟨_, rfl⟩
          rw [← hq5] at hl5
          have HO5 : Hid (w5.ownsRow W0.heap.size 39 3 v5 q5 (tkc L5)) := by rw [hq5]; exact ToksIs.base h5 (Nat.le_refl _)
          have HB5 : Hid (Below W0.heap.size W0 w5) := by
            obtain ⟨_, _, _, h⟩ := h5
            exact h
          have HL5 := Lib.hid hL5
          have HQ5 := Lib.hid hq5
          obtain ⟨a5, c5, rfl⟩ := own_shape HO5.out
          clear h5 hL5 hq5 x0 x1 x2 x3 x4 x5 x6 x7 x8 x9 x10 x11
          obtain ⟨x0, x1, x2, x3, x4, x5, x6, x7, x8, x9, x10, x11⟩ := HNW.out w5 HB5.out
          simp only at x0 x1 x2 x3 x4 x5 x6 x7 x8 x9 x10 x11
          go_wp2_with fail
          go_ret
          have HQ : SEL = L5 := by
            rw [HS.out, HL5.out, HAE.out]
            simp [hlim]
          rw [HQ]
          refine ⟨_, rfl, ?_, HB0.out.trans (HB5.out.mono HB0.out.size)⟩
          rw [← HQ5.out]
          exact own_mono HO5.out HB0.out.size
      · by_cases hlim : 0 ≤ lim
        · obtain ⟨hwo, hso⟩ := HO.out rfl
          have hs4 : ¬ 9223372036854775807 < 9 + ord.size := by omega
          have hs5 : ¬ 9223372036854775807 < 9 + ord.size + 5 := by omega
          have HTO : Hid (∀ W, Below W0.heap.size W0 W → Calls Tryd.prog 55 #[.string (⟨#[79, 82, 68, 69, 82, 32, 66, 89, 32]⟩ ++ ord ++ ⟨#[32, 68, 69, 83, 67]⟩)] W (ToksIs [ptk sORDER, ptk sBY, ptk ord, ptk sDESC] W)) := fun W _ => toks_is (tz_ordd hwo) (by rw [size_app, size_app]; show 9 + ord.size + 5 ≤ 1000; omega) W
          clear hwo
          go_wp2_with fail
          change Code.wp _ ((regionOf 37 (Tryd.f27.body.getD .skip)).getD .skip) _ _ _
          refine rst37 _ _ _ _ _ _ _ _ _ _ _ _ _ _ _ _ _ _ _ _ _ _ _ _ _ _ _ _ _ _ _ _ _ _ _ _ _ _ _ _ _ _ _ _ _ _ _ _ _ _ _ _ _ _ _ _ _ _ _ _ _ _ _ _ _ _ _ _ _ _ _ _ _ _ _ _ _ _ _ _ _ _ _ _ _ _ _ _ _ _ _ _ _ _ _ _ _ _ _ _ _ _ _ _ _ _ _ _ _ _ _ _ _ _ _ _ _ _ _ _ _ _ _ _ _ _ _ _ _ _ _ _ _ _ _ _ _ _ _ _ _ _ _ _ _ _ _ _ _ _ _ _ _ _ _ _ _ _ _ _ _ _ _ _ _ _ _ _ _ _ _ _ _ _ _ _ _ _ _ _ _ _ _ _ _ _ _ W0 w.heap.size HSZ.out t Wk _ a6 n6 c6 A WT [ptk sORDER, ptk sBY, ptk ord, ptk sDESC] hs1 hs2 hs3 x1 x6 HA HD HTO (Lib.hid (by show _ ≤ _; have := HWL.out; have := HAL.out; simp only [List.length_cons, List.length_nil]; omega)) (Lib.hid ?_)
          intro e127 e128 e129 e130 e131 e132 e133 e134 e135 e136 e137 e138 e139 e140 v5 w5 h5
          obtain ⟨L5, hL5⟩ : ∃ L, L = A ++ (WT ++ [ptk sORDER, ptk sBY, ptk ord, ptk sDESC]) := ⟨_, rfl⟩
          rw [← hL5] at h5
          have hl5 : L5.length ≤ 300 := by
            rw [hL5]
            have := HWL.out
            have := HAL.out
            simp only [List.length_append, List.length_cons, List.length_nil]
            omega
          obtain ⟨q5, hq5⟩ : ∃ q, q = L5.length := ⟨_, rfl⟩
          rw [← hq5] at hl5
          have HO5 : Hid (w5.ownsRow W0.heap.size 39 3 v5 q5 (tkc L5)) := by rw [hq5]; exact ToksIs.base h5 (Nat.le_refl _)
          have HB5 : Hid (Below W0.heap.size W0 w5) := by
            obtain ⟨_, _, _, h⟩ := h5
            exact h
          have HL5 := Lib.hid hL5
          have HQ5 := Lib.hid hq5
          obtain ⟨a5, c5, rfl⟩ := own_shape HO5.out
          clear h5 hL5 hq5 x0 x1 x2 x3 x4 x5 x6 x7 x8 x9 x10 x11
          obtain ⟨x0, x1, x2, x3, x4, x5, x6, x7, x8, x9, x10, x11⟩ := HNW.out w5 HB5.out
          simp only at x0 x1 x2 x3 x4 x5 x6 x7 x8 x9 x10 x11
          go_wp2_with (at_builtin; refine aptk (w5.alloc (.cells #[.int .i64 1, .string sLIMIT, .int .i64 0, .int .i64 2, .string ⟨#[]⟩, .int .i64 lim] 39)) L5 [⟨1, sLIMIT.data.toList, 0⟩, ⟨2, [], lim⟩] q5 HQ5 rfl _ _ rfl (HO5.out.alloc _) (rd_tk2 w5 1 0 2 lim sLIMIT ⟨#[]⟩ _ rfl) (by have := HB5.out.size; simp; omega) (by omega) (by simp) rfl rfl ?_; intro v6 w6 L6 q6 HL6 HQ6 hle6 hown hb; have HO6 := Lib.hid hown; have HB6 := Lib.hid ((HB5.out.alloc HB5.out.size _).trans hb); clear hown hb)
          go_ret
          have HQ : SEL = L6 := by
            rw [HS.out, HL6.out, HL5.out, HAE.out, limit_tk]
            simp [hlim]
          rw [HQ]
          refine ⟨_, rfl, ?_, HB0.out.trans (HB6.out.mono HB0.out.size)⟩
          rw [← HQ6.out]
          exact own_mono HO6.out HB0.out.size
        · obtain ⟨hwo, hso⟩ := HO.out rfl
          have hs4 : ¬ 9223372036854775807 < 9 + ord.size := by omega
          have hs5 : ¬ 9223372036854775807 < 9 + ord.size + 5 := by omega
          have HTO : Hid (∀ W, Below W0.heap.size W0 W → Calls Tryd.prog 55 #[.string (⟨#[79, 82, 68, 69, 82, 32, 66, 89, 32]⟩ ++ ord ++ ⟨#[32, 68, 69, 83, 67]⟩)] W (ToksIs [ptk sORDER, ptk sBY, ptk ord, ptk sDESC] W)) := fun W _ => toks_is (tz_ordd hwo) (by rw [size_app, size_app]; show 9 + ord.size + 5 ≤ 1000; omega) W
          clear hwo
          go_wp2_with fail
          change Code.wp _ ((regionOf 37 (Tryd.f27.body.getD .skip)).getD .skip) _ _ _
          refine rst37 _ _ _ _ _ _ _ _ _ _ _ _ _ _ _ _ _ _ _ _ _ _ _ _ _ _ _ _ _ _ _ _ _ _ _ _ _ _ _ _ _ _ _ _ _ _ _ _ _ _ _ _ _ _ _ _ _ _ _ _ _ _ _ _ _ _ _ _ _ _ _ _ _ _ _ _ _ _ _ _ _ _ _ _ _ _ _ _ _ _ _ _ _ _ _ _ _ _ _ _ _ _ _ _ _ _ _ _ _ _ _ _ _ _ _ _ _ _ _ _ _ _ _ _ _ _ _ _ _ _ _ _ _ _ _ _ _ _ _ _ _ _ _ _ _ _ _ _ _ _ _ _ _ _ _ _ _ _ _ _ _ _ _ _ _ _ _ _ _ _ _ _ _ _ _ _ _ _ _ _ _ _ _ _ _ _ _ W0 w.heap.size HSZ.out t Wk _ a6 n6 c6 A WT [ptk sORDER, ptk sBY, ptk ord, ptk sDESC] hs1 hs2 hs3 x1 x6 HA HD HTO (Lib.hid (by show _ ≤ _; have := HWL.out; have := HAL.out; simp only [List.length_cons, List.length_nil]; omega)) (Lib.hid ?_)
          intro e127 e128 e129 e130 e131 e132 e133 e134 e135 e136 e137 e138 e139 e140 v5 w5 h5
          obtain ⟨L5, hL5⟩ : ∃ L, L = A ++ (WT ++ [ptk sORDER, ptk sBY, ptk ord, ptk sDESC]) := ⟨_, rfl⟩
          rw [← hL5] at h5
          have hl5 : L5.length ≤ 300 := by
            rw [hL5]
            have := HWL.out
            have := HAL.out
            simp only [List.length_append, List.length_cons, List.length_nil]
            omega
          obtain ⟨q5, hq5⟩ : ∃ q, q = L5.length := ⟨_, rfl⟩
          rw [← hq5] at hl5
          have HO5 : Hid (w5.ownsRow W0.heap.size 39 3 v5 q5 (tkc L5)) := by rw [hq5]; exact ToksIs.base h5 (Nat.le_refl _)
          have HB5 : Hid (Below W0.heap.size W0 w5) := by
            obtain ⟨_, _, _, h⟩ := h5
            exact h
          have HL5 := Lib.hid hL5
          have HQ5 := Lib.hid hq5
          obtain ⟨a5, c5, rfl⟩ := own_shape HO5.out
          clear h5 hL5 hq5 x0 x1 x2 x3 x4 x5 x6 x7 x8 x9 x10 x11
          obtain ⟨x0, x1, x2, x3, x4, x5, x6, x7, x8, x9, x10, x11⟩ := HNW.out w5 HB5.out
          simp only at x0 x1 x2 x3 x4 x5 x6 x7 x8 x9 x10 x11
          go_wp2_with fail
          go_ret
          have HQ : SEL = L5 := by
            rw [HS.out, HL5.out, HAE.out]
            simp [hlim]
          rw [HQ]
          refine ⟨_, rfl, ?_, HB0.out.trans (HB5.out.mono HB0.out.size)⟩
          rw [← HQ5.out]
          exact own_mono HO5.out HB0.out.size
end Go.Proofs.YtnheepkmaibofaaDoor.cs
