/- The token at a place: the document: words, marks. -/
import Derived.Test.YtfoilmhpoipmpaaDoorSr
namespace Go.Proofs.YtfoilmhpoipmpaaDoor
open Go.ChangeShapes Go.WideShapes Go.ChangeAt Go.RowKit
set_option linter.unusedVariables false
set_option linter.unusedSimpArgs false
set_option maxRecDepth 100000
set_option maxHeartbeats 2000000
def hdR (i : Nat) : Hd → Value
  | .tok x n => .tuple #[tkv x, .int .i64 ((i : Int) + (n : Int)), .int .i64 0]
  | .bad e => .tuple #[tkv tk0, .int .i64 (i : Int), .int .i64 e]
theorem getD_drop (l : List UInt8) (i j : Nat) : (l.drop i).getD j 0 = l.getD (i + j) 0 := by simp [List.getD, List.getElem?_drop]
theorem spn_stop {p : UInt8 → Bool} {l : List UInt8} {i e : Nat} (hi : i ≤ e) (he : e < l.length) (ha : ∀ j, i ≤ j → j < e → p (l.getD j 0) = true) (h : p (l.getD e 0) = false) : spn p (l.drop i) = e - i := by
  refine spn_at p _ (e - i) (fun j hj => ?_) (by rw [List.length_drop]; omega) ?_
  · rw [getD_drop]; exact ha _ (by omega) (by omega)
  · rw [getD_drop, show i + (e - i) = e by omega]; exact h
theorem spn_full {p : UInt8 → Bool} {l : List UInt8} {i : Nat} (hi : i ≤ l.length) (ha : ∀ j, i ≤ j → j < l.length → p (l.getD j 0) = true) : spn p (l.drop i) = l.length - i := by
  rw [spn_all p _ (fun j hj => ?_), List.length_drop]
  rw [List.length_drop] at hj
  rw [getD_drop]
  exact ha _ (by omega) (by omega)
theorem ext_is (s : ByteArray) (i e : Nat) : s.extract i e = ⟨((s.data.toList.drop i).take (e - i)).toArray⟩ := Lib.extract_eq s i e
theorem rtok_word (w : World) (s : ByteArray) (i : Nat) (hs : s.size ≤ 400) (hi : i < s.size) (hw : wb (s.data.toList.getD i 0) = true) :
    Calls Tryd.prog 27 #[.string s, .int .i64 (i : Int)] w fun e w' => e = .returned (hdR i (tokT (s.data.toList.drop i))) ∧ Below w.heap.size w w' := by
  have hsz := len_size s
  have h0 : (s.data.toList.drop i).getD 0 0 = s.data.toList.getD i 0 := by rw [getD_drop]; rfl
  have hT : tokT (s.data.toList.drop i) = .tok ⟨1, (s.data.toList.drop i).take (spn iw (s.data.toList.drop i)), 0⟩ (spn iw (s.data.toList.drop i)) := by
    unfold tokT
    rw [h0]
    have hd : dg (s.data.toList.getD i 0) = false := by
      rw [Bool.eq_false_iff]
      intro h
      rw [wb_dg h] at hw
      cases hw
    rw [if_neg (by rw [hd]; simp), if_pos (by unfold iw; rw [hw]; rfl)]
  have hw1 := wordByte_any (tkW w) s[i]
  rw [byte_at s i hi, hw, ← byte_at s i hi] at hw1
  have HW := Lib.hid hw1
  have HT := Lib.hid hT
  have HL := Lib.hid hsz
  clear hw1 hT hsz h0 hw
  go_enter Tryd.func27, Tryd.ntmps27
  go_wp2_with (go_at_call 31; ((with_reducible refine HW.out.mono ?_); rintro e w' ⟨rfl, rfl⟩))
  go_loop [7] (fun t => ∃ e : Nat, i ≤ e ∧ e ≤ s.size ∧ t = .int .i64 (e : Int) ∧ Hid (∀ j, i ≤ j → j < e → iw (s.data.toList.getD j 0) = true)) (fun t => s.size - (intOf t).toNat)
  case atStart => exact ⟨i, Nat.le_refl _, by omega, rfl, fun j h1 h2 => by omega⟩
  case round =>
    obtain ⟨e, hie, hes, rfl, HA⟩ := hrel
    by_cases hlt : e < s.size
    · have h1 := wordByte_any (tkW w) s[e]
      have h2 := numberByte_any (tkW w) s[e]
      have hiw : iw (s.data.toList.getD e 0) = (wb s[e] || dg s[e]) := by rw [byte_at s e hlt]; rfl
      obtain ⟨x, hx1⟩ : ∃ x, x = wb s[e] := ⟨_, rfl⟩
      obtain ⟨y, hy1⟩ : ∃ y, y = dg s[e] := ⟨_, rfl⟩
      rw [← hx1, ← hy1] at hiw
      rw [← hx1] at h1
      rw [← hy1] at h2
      have HI := Lib.hid hiw
      have H1 := Lib.hid h1
      have H2 := Lib.hid h2
      clear hiw h1 h2 hx1 hy1
      cases x <;> cases y
      · have HE := Lib.hid (spn_stop (p := iw) hie (by rw [HL.out]; exact hlt) HA.out HI.out)
        go_wp2_with (first | (go_at_call 31; ((with_reducible refine H1.out.mono ?_); rintro e w' ⟨rfl, rfl⟩)) | (go_at_call 30; ((with_reducible refine H2.out.mono ?_); rintro e w' ⟨rfl, rfl⟩)))
        go_returns
        rw [HT.out, HE.out]
        refine ⟨?_, by go_grown⟩
        rw [ext_is]
        simp only [hdR]
        rw [show (i : Int) + ((e - i : Nat) : Int) = (e : Int) by omega]
      all_goals (
        go_wp2_with (first | (go_at_call 31; ((with_reducible refine H1.out.mono ?_); rintro e w' ⟨rfl, rfl⟩)) | (go_at_call 30; ((with_reducible refine H2.out.mono ?_); rintro e w' ⟨rfl, rfl⟩)))
        go_round
        case rel =>
          refine ⟨e + 1, by omega, by omega, by go_num, fun j h1 h2 => ?_⟩
          rcases Nat.lt_or_ge j e with h | h
          · exact HA.out j h1 h
          · obtain rfl : j = e := by omega
            exact HI.out
        case measure => simp [intOf]; omega)
    · obtain rfl : e = s.size := by omega
      have HE := Lib.hid (spn_full (p := iw) (l := s.data.toList) (i := i) (by rw [HL.out]; omega) (fun j h1 h2 => HA.out j h1 (by rw [HL.out] at h2; exact h2)))
      go_wp2
      go_returns
      rw [HT.out, HE.out]
      refine ⟨?_, by go_grown⟩
      rw [ext_is, HL.out]
      simp only [hdR]
      rw [show (i : Int) + ((s.size - i : Nat) : Int) = (s.size : Int) by omega]
theorem rtok_mark (w : World) (s : ByteArray) (i : Nat) (hs : s.size ≤ 400) (hi : i < s.size) (hw : iw (s.data.toList.getD i 0) = false) (hq : ¬ s.data.toList.getD i 0 = 39) :
    Calls Tryd.prog 27 #[.string s, .int .i64 (i : Int)] w fun e w' => e = .returned (hdR i (tokT (s.data.toList.drop i))) ∧ Below w.heap.size w w' := by
  have hsz := len_size s
  have h0 : (s.data.toList.drop i).getD 0 0 = s.data.toList.getD i 0 := by rw [getD_drop]; rfl
  have hwb : wb (s.data.toList.getD i 0) = false ∧ dg (s.data.toList.getD i 0) = false := by
    unfold iw at hw
    simpa using hw
  have hT : tokT (s.data.toList.drop i) = if mkOf (s.data.toList.drop i) = 0 then .bad 6 else .tok ⟨4, (s.data.toList.drop i).take (mkOf (s.data.toList.drop i)), 0⟩ (mkOf (s.data.toList.drop i)) := by
    unfold tokT
    rw [h0, if_neg (by rw [hwb.2]; simp), if_neg (by rw [hw]; simp), if_neg hq]
  have hw1 := wordByte_any (tkW w) s[i]
  rw [byte_at s i hi, hwb.1, ← byte_at s i hi] at hw1
  have hd1 := numberByte_any (tkW w) s[i]
  rw [byte_at s i hi, hwb.2, ← byte_at s i hi] at hd1
  have hb39 : ¬ ((s[i]).toNat : Int) = 39 := by
    rw [byte_at s i hi]
    exact fun h => hq (q_of h)
  have hb39' : (((s[i]).toNat : Int) == 39) = false := by simpa using hb39
  have hmk := rmark_any (tkW w) s i (by unfold maxLen; omega) hi
  have hR := mkR_is (s.data.toList.drop i)
  have hle := mkOf_le (s.data.toList.drop i)
  rw [List.length_drop, hsz] at hle
  have hl2 := mkOf_two_le (s.data.toList.drop i)
  obtain ⟨n, hn⟩ : ∃ n, n = mkOf (s.data.toList.drop i) := ⟨_, rfl⟩
  rw [← hn] at hT hR hle hl2
  rw [hR] at hmk
  have hlen : ((s.data.toList.drop i).take n).length = n := by rw [List.length_take, List.length_drop, hsz]; omega
  obtain ⟨t, ht⟩ : ∃ t, t = (s.data.toList.drop i).take n := ⟨_, rfl⟩
  rw [← ht] at hT hmk hlen
  have HW := Lib.hid hw1
  have HD := Lib.hid hd1
  have HM := Lib.hid hmk
  by_cases hn0 : n = 0
  · rw [if_pos hn0] at hT
    have ht0 : t = [] := List.eq_nil_of_length_eq_zero (by omega)
    subst ht0
    have HT := Lib.hid hT
    clear hT hw1 hd1 hmk hR hsz h0 hw hq hwb hn hle hl2 hlen ht hb39 hn0
    go_enter Tryd.func27, Tryd.ntmps27
    go_wp2_with (first | (go_at_call 31; ((with_reducible refine HW.out.mono ?_); rintro e w' ⟨rfl, rfl⟩)) | (go_at_call 30; ((with_reducible refine HD.out.mono ?_); rintro e w' ⟨rfl, rfl⟩)) | (go_at_call 32; ((with_reducible refine HM.out.mono ?_); rintro e w' ⟨rfl, rfl⟩)))
    go_returns
    rw [HT.out]
    exact ⟨rfl, by go_grown⟩
  · rw [if_neg hn0] at hT
    have HT := Lib.hid hT
    obtain ⟨m, hm⟩ : ∃ m : ByteArray, m = ⟨t.toArray⟩ := ⟨_, rfl⟩
    have hmz : m.size = n := by rw [hm, ← hlen]; rfl
    have hmd : m.toList = t := by rw [Lib.toList_data, hm]
    have hme : m.toList.isEmpty = false := by
      rw [hmd]
      cases t with
      | nil => simp at hlen; omega
      | cons a b => rfl
    have hmn : ¬ m.toList = [] := by intro h; rw [h] at hme; cases hme
    rw [← hm] at HM
    have HMM := Lib.hid hm
    have HMZ := Lib.hid hmz
    have hmz4 : m.size ≤ 2 := by omega
    clear hT hw1 hd1 hmk hR hsz h0 hw hq hwb hn hle hl2 hlen ht hb39 hn0 hm hmd hmz
    go_enter Tryd.func27, Tryd.ntmps27
    go_wp2_with (first | (go_at_call 31; ((with_reducible refine HW.out.mono ?_); rintro e w' ⟨rfl, rfl⟩)) | (go_at_call 30; ((with_reducible refine HD.out.mono ?_); rintro e w' ⟨rfl, rfl⟩)) | (go_at_call 32; ((with_reducible refine HM.out.mono ?_); rintro e w' ⟨rfl, rfl⟩)))
    go_returns
    rw [HT.out]
    refine ⟨?_, by go_grown⟩
    simp only [hdR]
    rw [← HMZ.out, HMM.out]
end Go.Proofs.YtfoilmhpoipmpaaDoor
