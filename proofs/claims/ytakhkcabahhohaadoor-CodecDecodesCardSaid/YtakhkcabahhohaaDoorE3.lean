import Derived.Test.YtakhkcabahhohaaDoorE2
namespace Go.Proofs.YtakhkcabahhohaaDoor
open Go.ChangeShapes Go.WideShapes Go.ChangeAt Go.RowKit
set_option linter.unusedVariables false
set_option linter.unusedSimpArgs false
set_option maxHeartbeats 4000000
set_option maxRecDepth 100000
theorem kv_any (n : Nat) (v : Value) (l : List UInt8) (w : World) (hr : Rd w 1 n v (bc l)) :
    Calls Tryd.prog 10 #[v] w fun e w' => ∃ v', e = .returned (.tuple #[v', .int .i64 (dec l).2]) ∧ w'.ownsRow w.heap.size 35 3 v' (dec l).1.length (vc (dec l).1) ∧ Below w.heap.size w w' := by
  have hnl := len_b hr
  have HR := Lib.hid hr
  obtain ⟨_, ao, cap, rfl, hc1, hc2, _, _⟩ := hr
  unfold maxLen at hc2
  by_cases h100 : 100 < n
  · have h100' : (100 : Int) < (n : Int) := by omega
    have he : dec l = ([], 5) := by rw [dec, if_pos (by omega)]
    have HE := Lib.hid he
    clear he
    go_enter Tryd.func10, Tryd.ntmps10
    go_wp2
    go_ret2
    rw [HE.out]
    exact ⟨_, rfl, World.ownsRow_nil _ _ _ _, Below.refl _ _⟩
  · have h100' : ¬ (100 : Int) < (n : Int) := by omega
    have he : dec l = decm 6 l := by rw [dec, if_neg (by omega)]
    have HE := Lib.hid he
    have HNL := Lib.hid hnl
    clear he hnl
    go_enter Tryd.func10, Tryd.ntmps10
    go_wp2
    go_loopw [4, 5] (fun vl i wr => ∃ (p : Nat) (acc : List V), p ≤ n ∧ i = .int .i64 (p : Int) ∧ wr.ownsRow w.heap.size 35 3 vl acc.length (vc acc) ∧ acc.length ≤ 6 ∧ fin acc (decm (6 - acc.length) (l.drop p)) = decm 6 l ∧ Below w.heap.size w wr) (fun _ i _ => n - (intOf i).toNat)
    case atStart => exact ⟨0, [], by omega, rfl, by simpa [vc] using World.ownsRow_nil _ _ _ _, by simp, fin_nil _ (decm_bad 6 l), Below.refl _ _⟩
    case round =>
      obtain ⟨p, acc, hp, rfl, hown, hacc, hfin, hb⟩ := hrel
      have hz := hb.size
      have HW := Lib.hid hown
      have HF := Lib.hid hfin
      clear hown hfin
      obtain ⟨_, ao2, cap2, rfl, _, _⟩ := Rd.own HW.out
      by_cases hlt : p < n
      · obtain ⟨_, b, o, cap', hav, _, _, hbw, hcell⟩ := bytes_of HR.out (by omega)
        simp only [Value.slice.injEq] at hav
        obtain ⟨rfl, -, rfl⟩ := hav
        have HC := Lib.hid hcell
        obtain ⟨k, hk⟩ : ∃ k, k = l.getD p 0 := ⟨_, rfl⟩
        obtain ⟨r, hrr⟩ : ∃ r, r = l.drop (p + 1) := ⟨_, rfl⟩
        have c0 := (hb.cell (p := ⟨b, o + p, none⟩) hbw).trans (hcell p hlt)
        rw [← hk] at c0
        have HD : Hid (l.drop p = k :: r) := by rw [hk, hrr]; exact drop_one (by have := HNL.out; omega)
        have HRR := Lib.hid hrr
        have hrl : r.length = n - (p + 1) := by rw [hrr, List.length_drop, ← HNL.out]
        have HRL := Lib.hid hrl
        obtain ⟨q, hq⟩ : ∃ q, acc.length = q := ⟨_, rfl⟩
        have HQ := Lib.hid hq
        rw [hq] at HW hacc HF ⊢
        clear hcell hk hrr hrl hq
        by_cases h6 : q = 6
        · subst h6
          go_wp2_with fail
          go_ret2
          have e : dec l = ([], 1) := by
            rw [HE.out, ← HF.out, HD.out]
            simp [decm, fin]
          rw [e]
          exact ⟨_, rfl, World.ownsRow_nil _ _ _ _, hb⟩
        · have h6' : ¬ (q : Int) = 6 := by omega
          have HDR := Lib.hid (dec_round HD.out HQ.out (by omega) HF.out)
          have hk256 : k.toNat < 256 := k.toNat_lt
          by_cases hk4 : 3 < k.toNat
          · have hk4' : (3 : Int) < (k.toNat : Int) := by omega
            have hk256' : (k.toNat : Int) < 256 := by omega
            have ht := tak_bad (r := r) hk4
            have e : dec l = ([], 2) := by rw [HE.out, HDR.out.1 (by rw [ht]; simp), ht]
            have HEE := Lib.hid e
            clear ht e
            go_wp2_with fail
            go_ret2
            rw [HEE.out]
            exact ⟨_, rfl, World.ownsRow_nil _ _ _ _, by go_grown⟩
          · have hkk : k.toNat = 0 ∨ k.toNat = 1 ∨ k.toNat = 2 ∨ k.toNat = 3 := by omega
            rcases hkk with h | h | h | h
            · have hki : (k.toNat : Int) = 0 := by omega
              have ht := tak_0 (r := r) h
              have HN := Lib.hid (HDR.out.2 (by rw [ht]))
              rw [ht] at HN
              clear ht h hk4 hk256
              go_wp2_with (at_builtin; refine apv _ rfl (.tmp 123) (.tmp 125) rfl (own_below HW.out (by go_grown)) (by simp; omega) (by omega) (wr.heap.size + 2) (by simp) rfl rfl ?_; intro v2 w2 hown2 hb2 _)
              go_roundw
              case rel =>
                refine ⟨p + 1, acc ++ [nul], by omega, by go_num, ?_, by rw [List.length_append, HQ.out]; simp; omega, ?_, ?_⟩
                · rw [vc_app, List.length_append, HQ.out]; exact hown2
                · rw [List.length_append, HQ.out, ← HRR.out]; exact HN.out
                · exact Below.trans (by go_grown) hb2
              case measure => simp [intOf]; omega
            · have hki : (k.toNat : Int) = 1 := by omega
              by_cases hs : p + 1 < n
              · obtain ⟨x, hx⟩ : ∃ x, x = l.getD (p + 1) 0 := ⟨_, rfl⟩
                have c1 := (hb.cell (p := ⟨b, o + (p + 1), none⟩) hbw).trans (HC.out (p + 1) hs)
                rw [← hx] at c1
                have hsI : ¬ (n : Int) < (p : Int) + 1 + 1 := by omega
                have hbr : b < wr.heap.size := by omega
                have hbr2 : b < wr.heap.size + 1 := by omega
                have hxh : r.headD 0 = x := by
                  rw [HRR.out, drop_one (by have := HNL.out; omega), hx]
                  rfl
                have hrd : r.drop 1 = l.drop (p + 2) := by rw [HRR.out, List.drop_drop]
                have ht := tak_1 (r := r) h (by rw [HRL.out]; omega)
                have hx256 : x.toNat < 256 := x.toNat_lt
                have hx256' : (x.toNat : Int) < 256 := by omega
                by_cases hx1 : 1 < x.toNat
                · have hx1' : (1 : Int) < (x.toNat : Int) := by omega
                  have ht2 : tak k r = (nul, [], 6) := by rw [ht, takB, hxh, if_pos hx1]
                  have e : dec l = ([], 6) := by rw [HE.out, HDR.out.1 (by rw [ht2]; simp), ht2]
                  have HEE := Lib.hid e
                  clear ht ht2 e h hk4 hk256 hx hxh hrd hx256
                  go_wp2_with fail
                  go_ret2
                  rw [HEE.out]
                  exact ⟨_, rfl, World.ownsRow_nil _ _ _ _, by go_grown⟩
                · have hx1' : ¬ (1 : Int) < (x.toNat : Int) := by omega
                  have ht2 : tak k r = (⟨1, x.toNat, ⟨#[]⟩⟩, l.drop (p + 2), 0) := by rw [ht, takB, hxh, if_neg hx1, hrd]
                  have HN := Lib.hid (HDR.out.2 (by rw [ht2]))
                  rw [ht2] at HN
                  clear ht ht2 h hk4 hk256 hx hxh hrd hx256
                  go_wp2_with (at_builtin; refine apv _ rfl (.tmp 123) (.tmp 125) rfl (own_below HW.out (by go_grown)) (by simp; omega) (by omega) (wr.heap.size + 2) (by simp) rfl rfl ?_; intro v2 w2 hown2 hb2 _)
                  go_roundw
                  case rel =>
                    refine ⟨p + 2, acc ++ [⟨1, x.toNat, ⟨#[]⟩⟩], by omega, by go_num, ?_, by rw [List.length_append, HQ.out]; simp; omega, ?_, ?_⟩
                    · rw [vc_app, List.length_append, HQ.out]; exact hown2
                    · rw [List.length_append, HQ.out]; exact HN.out
                    · exact Below.trans (by go_grown) hb2
                  case measure => simp [intOf]; omega
              · have ht := tak_short (k := k) (r := r) (by omega) (by rw [HRL.out, h]; show n - (p + 1) < 1; omega)
                have hsI : (n : Int) < (p : Int) + 1 + 1 := by omega
                have e : dec l = ([], 7) := by rw [HE.out, HDR.out.1 (by rw [ht]; simp), ht]
                have HEE := Lib.hid e
                clear ht e h hk4 hk256
                go_wp2_with fail
                go_ret2
                rw [HEE.out]
                exact ⟨_, rfl, World.ownsRow_nil _ _ _ _, by go_grown⟩
            · have hki : (k.toNat : Int) = 2 := by omega
              by_cases hs : p + 8 < n
              · obtain ⟨x, hx⟩ : ∃ x, x = l.getD (p + 1) 0 := ⟨_, rfl⟩
                have c1 := (hb.cell (p := ⟨b, o + (p + 1), none⟩) hbw).trans (HC.out (p + 1) (by omega))
                rw [← hx] at c1
                have hsI : ¬ (n : Int) < (p : Int) + 1 + 8 := by omega
                have hbr : b < wr.heap.size := by omega
                have hbr2 : b < wr.heap.size + 1 := by omega
                have hx256 : x.toNat < 256 := x.toNat_lt
                have hx256' : (x.toNat : Int) < 256 := by omega
                have ht := tak_2 (r := r) h (by rw [HRL.out]; omega)
                have hr8 : r.take 8 = x :: (l.drop (p + 2)).take 7 := by
                  rw [HRR.out, drop_one (by have := HNL.out; omega), hx]
                  rfl
                have hrd : r.drop 8 = l.drop (p + 9) := by rw [HRR.out, List.drop_drop]
                have ht2 : tak k r = (⟨2, numf ((x.toNat : Int) - 128) ((l.drop (p + 2)).take 7), ⟨#[]⟩⟩, l.drop (p + 9), 0) := by
                  rw [ht, takN, hr8, hrd, numf_all x _ (by rw [List.length_take, List.length_drop]; have := HNL.out; omega)]
                have HN := Lib.hid (HDR.out.2 (by rw [ht2]))
                rw [ht2] at HN
                clear ht ht2 h hk4 hk256 hx hr8 hrd hx256
                go_wp2_with fail
                obtain ⟨wo, hwo⟩ : ∃ wo : World, wo = wr := ⟨_, rfl⟩
                subst hwo
                go_loopw [8, 9] (fun u i wr => ∃ j : Nat, 1 ≤ j ∧ j ≤ 8 ∧ i = .int .i64 (j : Int) ∧ u = .int .i64 (numf ((x.toNat : Int) - 128) ((l.drop (p + 2)).take (j - 1))) ∧ wr = (wo.alloc (.cells #[.int .i64 2, .int .i64 0, .string ⟨#[]⟩] 35)).alloc (.cells #[.int .i64 0, .int .i64 1, .int .i64 8, .int .i64 2] 3)) (fun _ i _ => 8 - (intOf i).toNat)
                case atStart => exact ⟨1, by omega, by omega, rfl, by simp [numf], rfl⟩
                case round =>
                  obtain ⟨j, hj1, hj8, rfl, rfl, rfl⟩ := hrel
                  by_cases hjl : j < 8
                  · have c2 := (hb.cell (p := ⟨b, o + (p + 1 + j), none⟩) hbw).trans (HC.out (p + 1 + j) (by omega))
                    have hbd := fold_bound ((x.toNat : Int) - 128) ((l.drop (p + 2)).take (j - 1)) (by omega) (by omega) (by rw [List.length_take]; omega)
                    have hnx := numf_next ((x.toNat : Int) - 128) ((l.drop (p + 2)).take (j - 1)) (l.getD (p + 1 + j) 0)
                    have htk : (l.drop (p + 2)).take (j - 1) ++ [l.getD (p + 1 + j) 0] = (l.drop (p + 2)).take (j + 1 - 1) := by
                      have e1 : j + 1 - 1 = (j - 1) + 1 := by omega
                      rw [e1, byte_next (by rw [List.length_drop]; have := HNL.out; omega)]
                      congr 2
                      simp only [List.getD, List.getElem?_drop]
                      rw [show p + 2 + (j - 1) = p + 1 + j by omega]
                    rw [htk] at hnx
                    obtain ⟨N, hN⟩ : ∃ N, N = numf ((x.toNat : Int) - 128) ((l.drop (p + 2)).take (j - 1)) := ⟨_, rfl⟩
                    obtain ⟨y, hy⟩ : ∃ y, y = l.getD (p + 1 + j) 0 := ⟨_, rfl⟩
                    rw [← hN] at hbd hnx ⊢
                    rw [← hy] at c2 hnx
                    have hy256 : y.toNat < 256 := y.toNat_lt
                    have hy256' : (y.toNat : Int) < 256 := by omega
                    have HNX := Lib.hid hnx
                    clear htk hnx hN hy hy256
                    go_wp2_with fail
                    go_roundw
                    case rel => exact ⟨j + 1, by omega, by omega, by go_num, by rw [HNX.out], trivial⟩
                    case measure => simp [intOf]; omega
                  · obtain rfl : j = 8 := by omega
                    obtain ⟨N, hN⟩ : ∃ N, N = numf ((x.toNat : Int) - 128) ((l.drop (p + 2)).take (8 - 1)) := ⟨_, rfl⟩
                    rw [← hN]
                    have HN2 := Lib.hid hN
                    clear hN
                    go_wp2_with (at_builtin; refine apv _ rfl (.tmp 123) (.tmp 125) rfl (own_below HW.out (by go_grown)) (by simp; omega) (by omega) (wo.heap.size + 2) (by simp) rfl rfl ?_; intro v2 w2 hown2 hb2 _)
                    go_roundw
                    case rel =>
                      refine ⟨p + 9, acc ++ [⟨2, N, ⟨#[]⟩⟩], by omega, by go_num, ?_, by rw [List.length_append, HQ.out]; simp; omega, ?_, ?_⟩
                      · rw [vc_app, List.length_append, HQ.out]; exact hown2
                      · rw [List.length_append, HQ.out, HN2.out]; exact HN.out
                      · exact Below.trans (by go_grown) hb2
                    case measure => simp [intOf]; omega
              · have ht := tak_short (k := k) (r := r) (by omega) (by rw [HRL.out, h]; show n - (p + 1) < 8; omega)
                have hsI : (n : Int) < (p : Int) + 1 + 8 := by omega
                have e : dec l = ([], 7) := by rw [HE.out, HDR.out.1 (by rw [ht]; simp), ht]
                have HEE := Lib.hid e
                clear ht e h hk4 hk256
                go_wp2_with fail
                go_ret2
                rw [HEE.out]
                exact ⟨_, rfl, World.ownsRow_nil _ _ _ _, by go_grown⟩
            · have hki : (k.toNat : Int) = 3 := by omega
              by_cases hs : p + 2 < n
              · have hsI : ¬ (n : Int) < (p : Int) + 1 + 2 := by omega
                have hbr : b < wr.heap.size := by omega
                have hbr2 : b < wr.heap.size + 1 := by omega
                have ht := tak_3 (r := r) h (by rw [HRL.out]; omega)
                have HTE : Hid (∀ wx, Below w.heap.size w wx → Calls Tryd.prog 17 #[.slice (some ⟨b, o, none⟩) n cap, .int .i64 ((p : Int) + 1)] wx fun e w' => e = .returned (.int .i64 (tplace l (p + 1))) ∧ Below wx.heap.size wx w') := fun wx hbx => by
                  rw [show ((p : Int) + 1) = ((p + 1 : Nat) : Int) by omega]
                  exact te_any n _ l (p + 1) wx (by omega) (by omega) (by omega) (HR.out.below hbx)
                have hT := takT_ref l (p + 1)
                rw [HRR.out] at ht
                rw [← HRR.out] at hT
                rw [← HRR.out] at ht
                cases htd : tend r with
                | none =>
                  rw [htd] at hT
                  have ht2 : tak k r = (nul, [], 6) := by rw [ht, hT]
                  have e : dec l = ([], 6) := by rw [HE.out, HDR.out.1 (by rw [ht2]; simp), ht2]
                  have hpl : tplace l (p + 1) = -1 := by rw [tplace, ← HRR.out, htd]
                  have HEE := Lib.hid e
                  have HPL := Lib.hid hpl
                  clear ht ht2 e h hk4 hk256 hT htd hpl
                  go_wp2_with fail
                  refine (HTE.out _ (hb.trans (Below.mono (B := wr.heap.size) (by go_grown) hz))).mono ?_
                  rw [HPL.out]
                  rintro e w3 ⟨rfl, hb3⟩
                  go_wp2_with fail
                  go_ret2
                  rw [HEE.out]
                  exact ⟨_, rfl, World.ownsRow_nil _ _ _ _, Below.trans (Below.trans hb (by go_grown)) (hb3.mono (by simp; omega))⟩
                | some e =>
                  rw [htd] at hT
                  have hel := tend_lt r e htd
                  rw [HRL.out] at hel
                  obtain ⟨E, hE⟩ : ∃ E, E = p + 1 + e := ⟨_, rfl⟩
                  have hEn : E + 2 ≤ n := by omega
                  have hEp : p + 1 ≤ E := by omega
                  have hpl : tplace l (p + 1) = (E : Int) := by rw [tplace, ← HRR.out, htd, hE]
                  simp only [← hE] at hT
                  obtain ⟨C, hC⟩ : ∃ C, C = unesc (part l (p + 1) E) := ⟨_, rfl⟩
                  rw [← hC] at hT
                  have hC100 : C.length ≤ 100 := by
                    have h1 := un_len (part l (p + 1) E)
                    have h2 : (part l (p + 1) E).length ≤ E := by unfold part; rw [List.length_take]; omega
                    rw [hC]
                    omega
                  have HPL := Lib.hid hpl
                  have HCC := Lib.hid hC
                  have HTT : Hid (tak k r = if 20 < C.length then (nul, [], 1) else (⟨3, 0, ⟨C.toArray⟩⟩, l.drop (E + 2), 0)) := by rw [ht]; exact hT
                  clear ht h hk4 hk256 hT htd hpl hel hE hC
                  go_wp2_with fail
                  refine (HTE.out _ (hb.trans (Below.mono (B := wr.heap.size) (by go_grown) hz))).mono ?_
                  rw [HPL.out]
                  rintro e w3 ⟨rfl, hb3⟩
                  have hVT : ((wr.alloc (.cells #[.int .i64 3, .int .i64 0, .string ⟨#[]⟩] 35)).alloc (.cells #[.int .i64 0, .int .i64 1, .int .i64 8, .int .i64 2] 3)).heap[wr.heap.size]? = some (.cells #[.int .i64 3, .int .i64 0, .string ⟨#[]⟩] 35 (0, 0)) := by
                    rw [Below.heap_alloc _ _ _ (by simp), new0]
                  have hz3 := hb3.size
                  simp only [World.size_alloc] at hz3
                  have H3V : Hid (w3.heap[wr.heap.size]? = some (.cells #[.int .i64 3, .int .i64 0, .string ⟨#[]⟩] 35 (0, 0))) := (hb3.block _ (by simp; omega)).trans hVT
                  have hbo3 : Below wr.heap.size wr w3 := Below.trans (by go_grown) (hb3.mono (by simp; omega))
                  obtain ⟨r0, r1, r2, r3, r4, r5⟩ := has3 (w1 := w3) H3V.out (Below.refl _ _)
                  obtain ⟨wo, hwo⟩ : ∃ wo : World, wo = wr := ⟨_, rfl⟩
                  subst hwo
                  have HB3 := Lib.hid hbo3
                  clear hb3 hVT hbo3
                  go_wp2_with fail
                  go_loopw [11, 12] (fun u i wr => ∃ (j : Nat) (d : List UInt8), p + 1 ≤ j ∧ j ≤ E + 1 ∧ i = .int .i64 (j : Int) ∧ wr.ownsRow w3.heap.size 5 1 u d.length (bc d) ∧ d ++ unesc (part l j E) = C ∧ Below w3.heap.size w3 wr) (fun _ i _ => E + 1 - (intOf i).toNat)
                  case atStart => exact ⟨p + 1, [], by omega, by omega, by go_num, by simpa [bc] using World.ownsRow_nil _ _ _ _, by rw [List.nil_append, HCC.out], Below.refl _ _⟩
                  case round =>
                    obtain ⟨j, d, hj1, hj2, rfl, hown, hd, hb4⟩ := hrel
                    have hz4 := hb4.size
                    have HX := Lib.hid hown
                    have HDD := Lib.hid hd
                    have hd100 : d.length ≤ 100 := by
                      have := congrArg List.length hd
                      rw [List.length_append] at this
                      omega
                    obtain ⟨s0, s1, s2, s3, s4, s5⟩ := has3 H3V.out hb4
                    have HBW : Hid (Below wo.heap.size wo wr) := HB3.out.trans (hb4.mono (by omega))
                    clear hown hd
                    by_cases hjE : j < E
                    · obtain ⟨y, hy⟩ : ∃ y, y = l.getD j 0 := ⟨_, rfl⟩
                      have hbB : Below w.heap.size w wr := hb.trans (HBW.out.mono hz)
                      have HCY : Hid (∀ wx, Below w.heap.size w wx → wx.cell? ⟨b, o + j, none⟩ = some (.int .u8 (y.toNat : Int))) := fun wx hbx => by
                        rw [hy]
                        exact (hbx.cell (p := ⟨b, o + j, none⟩) hbw).trans (HC.out j (by omega))
                      have cy := HCY.out _ hbB
                      have hjl : E ≤ l.length := by have := HNL.out; omega
                      have hjE' : (j : Int) < (E : Int) := by omega
                      have hjn' : (j : Int) < (n : Int) := by omega
                      by_cases hy0 : y = 0
                      · have hyn : (y.toNat : Int) = 0 := by rw [hy0]; rfl
                        have hun := part_zero hjE hjl (by rw [← hy, hy0])
                        have HU := Lib.hid hun
                        clear hun hy
                        go_wp2_with (at_builtin; refine ap1 wr rfl (.tmp 96) (.tmp 101) rfl HX.out hz4 (by omega) rfl _ rfl rfl rfl ?_; intro v5 w5 hown5 hb5 _; have cy5 := HCY.out _ (hbB.trans (hb5.mono (by omega))))
                        go_roundw
                        case rel =>
                          refine ⟨j + 2, d ++ [0], by omega, by omega, by go_num, ?_, ?_, hb4.trans hb5⟩
                          · rw [bc_app, List.length_append]
                            exact hown5
                          · rw [← HDD.out, HU.out]; simp
                        case measure => simp [intOf]; omega
                      · have hyn : ¬ (y.toNat : Int) = 0 := fun g => hy0 (UInt8.toNat_inj.1 (by simpa using g))
                        have hun := part_byte hjE hjl (by rw [← hy]; exact hy0)
                        rw [← hy] at hun
                        have HU := Lib.hid hun
                        clear hun hy
                        go_wp2_with (at_builtin; refine ap1 wr rfl (.tmp 96) (.tmp 101) rfl HX.out hz4 (by omega) rfl _ rfl rfl rfl ?_; intro v5 w5 hown5 hb5 _; have cy5 := HCY.out _ (hbB.trans (hb5.mono (by omega))))
                        go_roundw
                        case rel =>
                          refine ⟨j + 1, d ++ [y], by omega, by omega, by go_num, ?_, ?_, hb4.trans hb5⟩
                          · rw [bc_app, List.length_append]; exact hown5
                          · rw [← HDD.out, HU.out]; simp
                        case measure => simp [intOf]; omega
                    · have hjE' : ¬ (j : Int) < (E : Int) := by omega
                      have hdC : d = C := by
                        have := HDD.out
                        rw [part_end (by omega)] at this
                        simpa [unesc] using this
                      subst hdC
                      obtain ⟨_, ao5, cap5, rfl, _, _⟩ := Rd.own HX.out
                      by_cases h20 : 20 < d.length
                      · have h20' : (20 : Int) < (d.length : Int) := by omega
                        have ht2 : tak k r = (nul, [], 1) := by rw [HTT.out, if_pos h20]
                        have e : dec l = ([], 1) := by rw [HE.out, HDR.out.1 (by rw [ht2]; simp), ht2]
                        have HEE := Lib.hid e
                        clear ht2 e
                        go_wp2_with fail
                        go_ret2
                        rw [HEE.out]
                        exact ⟨_, rfl, World.ownsRow_nil _ _ _ _, hb.trans (HBW.out.mono hz)⟩
                      · have h20' : ¬ (20 : Int) < (d.length : Int) := by omega
                        have ht2 : tak k r = (⟨3, 0, ⟨d.toArray⟩⟩, l.drop (E + 2), 0) := by rw [HTT.out, if_neg h20]
                        have HN := Lib.hid (HDR.out.2 (by rw [ht2]))
                        rw [ht2] at HN
                        have q1 := str_of (Rd.own HX.out)
                        clear ht2
                        go_wp2_with (at_builtin; refine apv (wr.setCell ⟨wo.heap.size, 2, none⟩ (.string ⟨d.toArray⟩)) rfl (.tmp 123) (.tmp 125) rfl (own_below HW.out (HBW.out.setCell (p := ⟨wo.heap.size, 2, none⟩) (Nat.le_refl _) _)) (by simp; omega) (by omega) wr.heap.size (by simp) rfl rfl ?_; intro v2 w2 hown2 hb2 _)
                        go_roundw
                        case rel =>
                          refine ⟨E + 2, acc ++ [⟨3, 0, ⟨d.toArray⟩⟩], by omega, by go_num, ?_, by rw [List.length_append, HQ.out]; simp; omega, ?_, ?_⟩
                          · rw [vc_app, List.length_append, HQ.out]; exact hown2
                          · rw [List.length_append, HQ.out]; exact HN.out
                          · exact (hb.trans ((HBW.out.setCell (p := ⟨wo.heap.size, 2, none⟩) (Nat.le_refl _) _).mono hz)).trans hb2
                        case measure => simp [intOf]; omega
              · have ht := tak_short (k := k) (r := r) (by omega) (by rw [HRL.out, h]; show n - (p + 1) < 2; omega)
                have hsI : (n : Int) < (p : Int) + 1 + 2 := by omega
                have e : dec l = ([], 7) := by rw [HE.out, HDR.out.1 (by rw [ht]; simp), ht]
                have HEE := Lib.hid e
                clear ht e h hk4 hk256
                go_wp2_with fail
                go_ret2
                rw [HEE.out]
                exact ⟨_, rfl, World.ownsRow_nil _ _ _ _, by go_grown⟩
      · obtain rfl : p = n := by omega
        have hd : l.drop p = [] := by rw [List.drop_eq_nil_iff]; have := HNL.out; omega
        have e : dec l = (acc, 0) := by
          rw [HE.out, ← HF.out, hd]
          cases (6 - acc.length) <;> simp [decm, fin]
        have HEE := Lib.hid e
        clear hd e
        go_wp2_with fail
        go_ret2
        rw [HEE.out]
        exact ⟨_, rfl, HW.out, hb⟩
end Go.Proofs.YtakhkcabahhohaaDoor
