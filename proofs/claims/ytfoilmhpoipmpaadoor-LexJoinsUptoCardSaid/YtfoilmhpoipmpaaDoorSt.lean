/- The token at a place: the document: numbers. -/
import Derived.Test.YtfoilmhpoipmpaaDoorSs
namespace Go.Proofs.YtfoilmhpoipmpaaDoor
open Go.ChangeShapes Go.WideShapes Go.ChangeAt Go.RowKit
set_option linter.unusedVariables false
set_option linter.unusedSimpArgs false
set_option maxRecDepth 100000
set_option maxHeartbeats 2000000
theorem take_more {l : List UInt8} {i e : Nat} (hi : i ≤ e) (he : e < l.length) : (l.drop i).take (e + 1 - i) = (l.drop i).take (e - i) ++ [l.getD e 0] := by
  rw [show e + 1 - i = (e - i) + 1 by omega, List.take_succ_eq_append_getElem (by rw [List.length_drop]; omega)]
  congr 1
  rw [List.getElem_drop]
  simp [List.getD, List.getElem?_eq_getElem he, show i + (e - i) = e by omega]
/-- The document's reckoning of a number, behind the digits up to e. -/
structure NumAt (l : List UInt8) (i e : Nat) (n : Int) (big : Bool) : Prop where
  dig : ∀ j, i ≤ j → j < e → dg (l.getD j 0) = true
  no : big = false → n = (numOf ((l.drop i).take (e - i)) : Int)
  yes : big = true → 9223372036854775808 ≤ numOf ((l.drop i).take (e - i))
  lo : 0 ≤ n
  hi : n ≤ 9223372036854775807
theorem NumAt.start (l : List UInt8) (i : Nat) : NumAt l i i 0 false := by
  refine ⟨fun j h1 h2 => by omega, fun _ => ?_, fun h => (by cases h), by omega, by omega⟩
  rw [Nat.sub_self, List.take_zero]
  unfold numOf
  rw [numF_nil]
  rfl
theorem num_more {l : List UInt8} {i e : Nat} (hi : i ≤ e) (he : e < l.length) : numOf ((l.drop i).take (e + 1 - i)) = numOf ((l.drop i).take (e - i)) * 10 + ((l.getD e 0).toNat - 48) := by
  rw [take_more hi he]
  unfold numOf
  rw [numF_app, numF_cons, numF_nil]
theorem dg_in {b : UInt8} (h : dg b = true) : 48 ≤ b.toNat ∧ b.toNat ≤ 57 := by simpa [dg] using h
theorem NumAt.digs {l : List UInt8} {i e : Nat} {n : Int} {big : Bool} (h : NumAt l i e n big) (hd : dg (l.getD e 0) = true) : ∀ j, i ≤ j → j < e + 1 → dg (l.getD j 0) = true := fun j h1 h2 => by
  rcases Nat.lt_or_ge j e with h' | h'
  · exact h.dig j h1 h'
  · obtain rfl : j = e := by omega
    exact hd
theorem NumAt.over {l : List UInt8} {i e : Nat} {n x : Int} {big : Bool} (h : NumAt l i e n big) (hi : i ≤ e) (he : e < l.length) (hd : dg (l.getD e 0) = true) (hx : x = ((l.getD e 0).toNat : Int)) (ht : (9223372036854775807 - (x - 48)) / 10 < n) : NumAt l i (e + 1) (x - 48) true := by
  have hb := dg_in hd
  have hm := num_more hi he
  refine ⟨h.digs hd, fun h => (by cases h), fun _ => ?_, by omega, by omega⟩
  rw [hm]
  cases big with
  | false => have := h.no rfl; omega
  | true => have := h.yes rfl; omega
theorem NumAt.fits {l : List UInt8} {i e : Nat} {n x : Int} {big : Bool} (h : NumAt l i e n big) (hi : i ≤ e) (he : e < l.length) (hd : dg (l.getD e 0) = true) (hx : x = ((l.getD e 0).toNat : Int)) (ht : ¬ (9223372036854775807 - (x - 48)) / 10 < n) : NumAt l i (e + 1) (10 * n + (x - 48)) big := by
  have hb := dg_in hd
  have hm := num_more hi he
  have hlo := h.lo
  refine ⟨h.digs hd, fun g => ?_, fun g => ?_, by omega, by omega⟩
  · have := h.no g; rw [hm]; omega
  · have := h.yes g; rw [hm]; omega
theorem NumAt.stop {l : List UInt8} {i e : Nat} {n : Int} {big : Bool} (h : NumAt l i e n big) (hi : i ≤ e) (he : e < l.length) (hd : dg (l.getD e 0) = false) : spn dg (l.drop i) = e - i := spn_stop hi he h.dig hd
/-- What is answered of a number that ends before e. -/
theorem num_ans {l : List UInt8} {i e : Nat} {n : Int} {big : Bool} (h : NumAt l i e n big) (hs : spn dg (l.drop i) = e - i) (hie : i ≤ e) (hel : e ≤ l.length) :
    numT (l.drop i) = if e < l.length ∧ iw (l.getD e 0) = true then .bad 6 else if big = true then .bad 5 else .tok ⟨2, [], n⟩ (e - i) := by
  unfold numT
  rw [hs, List.length_drop, getD_drop, show i + (e - i) = e by omega]
  by_cases hc : e < l.length ∧ iw (l.getD e 0) = true
  · rw [if_pos ⟨by omega, hc.2⟩, if_pos hc]
  · rw [if_neg (fun g => hc ⟨by omega, g.2⟩), if_neg hc]
    cases big with
    | false =>
      have := h.no rfl
      have := h.hi
      rw [if_pos (by omega), if_neg (by simp), ← h.no rfl]
    | true => rw [if_neg (by have := h.yes rfl; omega), if_pos rfl]
theorem rtok_num (w : World) (s : ByteArray) (i : Nat) (hs : s.size ≤ 400) (hi : i < s.size) (hw : dg (s.data.toList.getD i 0) = true) :
    Calls Tryd.prog 27 #[.string s, .int .i64 (i : Int)] w fun e w' => e = .returned (hdR i (tokT (s.data.toList.drop i))) ∧ Below w.heap.size w w' := by
  have hsz := len_size s
  have h0 : (s.data.toList.drop i).getD 0 0 = s.data.toList.getD i 0 := by rw [getD_drop]; rfl
  have hT : tokT (s.data.toList.drop i) = numT (s.data.toList.drop i) := by
    unfold tokT
    rw [h0, if_pos hw]
  have hw1 := wordByte_any (tkW w) s[i]
  rw [byte_at s i hi, wb_dg hw, ← byte_at s i hi] at hw1
  have hd1 := numberByte_any (tkW w) s[i]
  rw [byte_at s i hi, hw, ← byte_at s i hi] at hd1
  have HW := Lib.hid hw1
  have HD := Lib.hid hd1
  have HT := Lib.hid hT
  have HL := Lib.hid hsz
  clear hw1 hd1 hT hsz h0 hw
  go_enter Tryd.func27, Tryd.ntmps27
  go_wp2_with (first | (go_at_call 31; ((with_reducible refine HW.out.mono ?_); rintro e w' ⟨rfl, rfl⟩)) | (go_at_call 30; ((with_reducible refine HD.out.mono ?_); rintro e w' ⟨rfl, rfl⟩)))
  go_loop [7, 8, 9] (fun t u v => ∃ (e : Nat) (n : Int) (big : Bool), i ≤ e ∧ e ≤ s.size ∧ t = .int .i64 (e : Int) ∧ u = .int .i64 n ∧ v = .bool big ∧ Hid (NumAt s.data.toList i e n big)) (fun t _ _ => s.size - (intOf t).toNat)
  case atStart => exact ⟨i, 0, false, Nat.le_refl _, by omega, rfl, rfl, rfl, NumAt.start _ _⟩
  case round =>
    obtain ⟨e, n, big, hie, hes, rfl, rfl, rfl, HA⟩ := hrel
    by_cases hlt : e < s.size
    · have hel : e < s.data.toList.length := by rw [HL.out]; exact hlt
      by_cases hd : dg (s.data.toList.getD e 0) = true
      · obtain ⟨x, hx⟩ : ∃ x : Int, ((s[e]).toNat : Int) = x := ⟨_, rfl⟩
        have hb := dg_in hd
        rw [← byte_at s e hlt] at hb
        have hx1 : 48 ≤ x := by omega
        have hx2 : x ≤ 57 := by omega
        have h2 := numberByte_any (tkW w) s[e]
        rw [byte_at s e hlt, hd, ← byte_at s e hlt, hx] at h2
        have hxl : x = ((s.data.toList.getD e 0).toNat : Int) := by rw [← byte_at s e hlt]; exact hx.symm
        have H2 := Lib.hid h2
        have HX := Lib.hid hxl
        have HDD := Lib.hid hd
        have hlo := HA.out.lo
        have hhi := HA.out.hi
        clear h2 hxl hd hb
        by_cases ht : (9223372036854775807 - (x - 48)) / 10 < n
        · have HN := Lib.hid (HA.out.over hie hel HDD.out HX.out ht)
          go_wp2_with (go_at_call 30; ((with_reducible refine H2.out.mono ?_); rintro e w' ⟨rfl, rfl⟩))
          go_round
          case rel => exact ⟨e + 1, x - 48, true, by omega, by omega, by go_num, rfl, rfl, HN.out⟩
          case measure => simp [intOf]; omega
        · have HN := Lib.hid (HA.out.fits hie hel HDD.out HX.out ht)
          have b1 : 10 * n + (x - 48) ≤ 9223372036854775807 := by omega
          have b2 : 10 * n ≤ 9223372036854775807 := by omega
          have b3 : 0 ≤ 10 * n := by omega
          go_wp2_with (go_at_call 30; ((with_reducible refine H2.out.mono ?_); rintro e w' ⟨rfl, rfl⟩))
          go_round
          case rel => exact ⟨e + 1, 10 * n + (x - 48), big, by omega, by omega, by go_num, rfl, rfl, HN.out⟩
          case measure => simp [intOf]; omega
      · have hd' : dg (s.data.toList.getD e 0) = false := by simpa using hd
        have hsp := HA.out.stop hie hel hd'
        have hA := num_ans HA.out hsp hie (by omega)
        have h2 := numberByte_any (tkW w) s[e]
        rw [byte_at s e hlt, hd', ← byte_at s e hlt] at h2
        have h3 := wordByte_any (tkW w) s[e]
        have hiw : iw (s.data.toList.getD e 0) = wb s[e] := by
          rw [← byte_at s e hlt] at hd' ⊢
          unfold iw
          rw [hd', Bool.or_false]
        obtain ⟨c, hc⟩ : ∃ c, c = wb s[e] := ⟨_, rfl⟩
        rw [← hc] at h3 hiw
        rw [hiw] at hA
        have H2 := Lib.hid h2
        have H3 := Lib.hid h3
        clear h2 h3 hsp hd hd' hiw hc
        cases c
        · cases big
          · have HF : Hid (numT (s.data.toList.drop i) = .tok ⟨2, [], n⟩ (e - i)) := by show _ = _; rw [hA]; simp
            clear hA
            go_wp2_with (first | (go_at_call 30; ((with_reducible refine H2.out.mono ?_); rintro e w' ⟨rfl, rfl⟩)) | (go_at_call 31; ((with_reducible refine H3.out.mono ?_); rintro e w' ⟨rfl, rfl⟩)))
            go_returns
            rw [HT.out, HF.out]
            refine ⟨?_, by go_grown⟩
            simp only [hdR]
            rw [show (i : Int) + ((e - i : Nat) : Int) = (e : Int) by omega]
          · have HF : Hid (numT (s.data.toList.drop i) = .bad 5) := by show _ = _; rw [hA]; simp
            clear hA
            go_wp2_with (first | (go_at_call 30; ((with_reducible refine H2.out.mono ?_); rintro e w' ⟨rfl, rfl⟩)) | (go_at_call 31; ((with_reducible refine H3.out.mono ?_); rintro e w' ⟨rfl, rfl⟩)))
            go_returns
            rw [HT.out, HF.out]
            exact ⟨rfl, by go_grown⟩
        · have HF : Hid (numT (s.data.toList.drop i) = .bad 6) := by show _ = _; rw [hA, if_pos ⟨hel, by rfl⟩]
          clear hA
          go_wp2_with (first | (go_at_call 30; ((with_reducible refine H2.out.mono ?_); rintro e w' ⟨rfl, rfl⟩)) | (go_at_call 31; ((with_reducible refine H3.out.mono ?_); rintro e w' ⟨rfl, rfl⟩)))
          go_returns
          rw [HT.out, HF.out]
          exact ⟨rfl, by go_grown⟩
    · obtain rfl : e = s.size := by omega
      have hsp := spn_full (p := dg) (l := s.data.toList) (i := i) (by rw [HL.out]; omega) (fun j h1 h2 => HA.out.dig j h1 (by rw [HL.out] at h2; exact h2))
      rw [HL.out] at hsp
      have hA := num_ans HA.out hsp hie (by rw [HL.out]; exact Nat.le_refl _)
      rw [if_neg (by rw [HL.out]; omega)] at hA
      clear hsp
      cases big
      · have HF : Hid (numT (s.data.toList.drop i) = .tok ⟨2, [], n⟩ (s.size - i)) := by show _ = _; rw [hA]; simp
        clear hA
        go_wp2
        go_returns
        rw [HT.out, HF.out]
        refine ⟨?_, by go_grown⟩
        simp only [hdR]
        rw [show (i : Int) + ((s.size - i : Nat) : Int) = (s.size : Int) by omega]
      · have HF : Hid (numT (s.data.toList.drop i) = .bad 5) := by show _ = _; rw [hA]; simp
        clear hA
        go_wp2
        go_returns
        rw [HT.out, HF.out]
        exact ⟨rfl, by go_grown⟩
end Go.Proofs.YtfoilmhpoipmpaaDoor
