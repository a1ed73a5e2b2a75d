import Derived.Test.YtnheepkmaibofaaDoorSfk
/- What a token lacks: the document's answer. -/
namespace Go.Proofs.YtnheepkmaibofaaDoor
open Go.ChangeShapes Go.WideShapes Go.ChangeAt Go.RowKit
set_option linter.unusedVariables false
set_option linter.unusedSimpArgs false
set_option maxRecDepth 100000
set_option maxHeartbeats 2000000
theorem tf_bad (w : World) (k n : Int) (s : ByteArray) (hk : k < 1 ∨ 4 < k) :
    Calls Tryd.prog 50 #[.agg #[.int .i64 k, .string s, .int .i64 n]] w fun e w' => e = .returned (.int .i64 (tkF k s.data.toList n)) ∧ Below w.heap.size w w' := by
  have hc := fun W => in_any W k 1 4
  have e : (decide (1 ≤ k) && decide (k ≤ 4)) = false := by
    rw [Bool.eq_false_iff]
    simp
    omega
  rw [e] at hc
  have HC := Lib.hid hc
  have HF : Hid (tkF k s.data.toList n = 2) := if_pos hk
  clear hc e
  go_enter Tryd.func50, Tryd.ntmps50
  go_wp2_with (go_at_call 24; refine (HC.out _).mono ?_; rintro e w' ⟨rfl, rfl⟩)
  go_ret
  exact ⟨ri HF.out.symm, (Below.refl _ _).alloc (Nat.le_refl _) _⟩
theorem in_yes (W : World) {k : Int} (h1 : 1 ≤ k) (h4 : k ≤ 4) : Calls Tryd.prog 24 #[.int .i64 k, .int .i64 1, .int .i64 4] W fun e w' => e = .returned (.bool true) ∧ W = w' := by
  have hc := in_any W k 1 4
  have e : (decide (1 ≤ k) && decide (k ≤ 4)) = true := by simp; omega
  rwa [e] at hc
theorem tf_number (w : World) (n : Int) (s : ByteArray) :
    Calls Tryd.prog 50 #[.agg #[.int .i64 2, .string s, .int .i64 n]] w fun e w' => e = .returned (.int .i64 (tkF 2 s.data.toList n)) ∧ Below w.heap.size w w' := by
  have HC := Lib.hid (fun W => in_yes W (k := 2) (by omega) (by omega))
  by_cases hn : n < 0
  · have HF : Hid (tkF 2 s.data.toList n = 3) := by show _ = _; unfold tkF; simp [hn]
    go_enter Tryd.func50, Tryd.ntmps50
    go_wp2_with (go_at_call 24; refine (HC.out _).mono ?_; rintro e w' ⟨rfl, rfl⟩)
    go_ret
    exact ⟨ri HF.out.symm, (Below.refl _ _).alloc (Nat.le_refl _) _⟩
  · by_cases ht : s.toList.isEmpty = true
    · obtain rfl := empty_is ht
      have HF : Hid (tkF 2 (⟨#[]⟩ : ByteArray).data.toList n = 0) := by show _ = _; unfold tkF txt; simp [hn]
      by_cases h0 : n = 0
      all_goals (
        go_enter Tryd.func50, Tryd.ntmps50
        go_wp2_with (go_at_call 24; refine (HC.out _).mono ?_; rintro e w' ⟨rfl, rfl⟩)
        go_ret
        exact ⟨ri HF.out.symm, (Below.refl _ _).alloc (Nat.le_refl _) _⟩)
    · have ht' : s.toList.isEmpty = false := by simpa using ht
      clear ht
      obtain ⟨hx, hz, hd1, hd2⟩ := full_is ht'
      have HF : Hid (tkF 2 s.data.toList n = 6) := by show _ = _; unfold tkF txt; simp only [hd1]; simp [hn]
      clear hd1 hd2
      by_cases h0 : n = 0
      all_goals (
        go_enter Tryd.func50, Tryd.ntmps50
        go_wp2_with (go_at_call 24; refine (HC.out _).mono ?_; rintro e w' ⟨rfl, rfl⟩)
        go_ret
        exact ⟨ri HF.out.symm, (Below.refl _ _).alloc (Nat.le_refl _) _⟩)
theorem tf_string (w : World) (n : Int) (s : ByteArray) :
    Calls Tryd.prog 50 #[.agg #[.int .i64 3, .string s, .int .i64 n]] w fun e w' => e = .returned (.int .i64 (tkF 3 s.data.toList n)) ∧ Below w.heap.size w w' := by
  have HC := Lib.hid (fun W => in_yes W (k := 3) (by omega) (by omega))
  have HF : Hid (tkF 3 s.data.toList n = if n = 0 then 0 else 6) := by show _ = _; unfold tkF txt; simp
  by_cases h0 : n = 0
  all_goals (
    go_enter Tryd.func50, Tryd.ntmps50
    go_wp2_with (go_at_call 24; refine (HC.out _).mono ?_; rintro e w' ⟨rfl, rfl⟩)
    go_ret
    exact ⟨ri (by rw [HF.out]; simp [h0]), (Below.refl _ _).alloc (Nat.le_refl _) _⟩)
theorem tf_mark (w : World) (n : Int) (s : ByteArray) (hs : s.size ≤ maxLen) :
    Calls Tryd.prog 50 #[.agg #[.int .i64 4, .string s, .int .i64 n]] w fun e w' => e = .returned (.int .i64 (tkF 4 s.data.toList n)) ∧ Below w.heap.size w w' := by
  have HC := Lib.hid (fun W => in_yes W (k := 4) (by omega) (by omega))
  by_cases h0 : n = 0
  · subst h0
    by_cases ht : s.toList.isEmpty = true
    · obtain rfl := empty_is ht
      go_enter Tryd.func50, Tryd.ntmps50
      go_wp2_with (go_at_call 24; refine (HC.out _).mono ?_; rintro e w' ⟨rfl, rfl⟩)
      go_quiet (fail)
      go_wp2
      go_ret
      exact ⟨rfl, ((Below.refl _ _).alloc (Nat.le_refl _) _).trans ((below_drewN _ _).mono (by simp))⟩
    · have ht' : s.toList.isEmpty = false := by simpa using ht
      clear ht
      obtain ⟨hx, hz, hd1, hd2⟩ := full_is ht'
      have hm := fun W => rmark_any W s 0 hs hz
      rw [List.drop_zero] at hm
      have hR := mkR_is s.data.toList
      have hle := mkOf_le s.data.toList
      have hF : tkF 4 s.data.toList 0 = if mkOf s.data.toList = s.data.toList.length then 0 else 6 := by
        unfold tkF txt
        simp only [hd1]
        by_cases e : mkOf s.data.toList = s.data.toList.length <;> simp [e]
      obtain ⟨m, hmm⟩ : ∃ m : ByteArray, m = ⟨(mkR s.data.toList).toArray⟩ := ⟨_, rfl⟩
      rw [← hmm] at hm
      by_cases he : mkOf s.data.toList = s.data.toList.length
      · have hms : m = s := by
          rw [hmm, hR, he, List.take_length]
        subst hms
        rw [if_pos he] at hF
        have HM := Lib.hid hm
        have HF := Lib.hid hF
        clear hm hF hd1 hd2 hR he hmm hle
        unfold maxLen at hs
        go_enter Tryd.func50, Tryd.ntmps50
        go_wp2_with (go_at_call 24; refine (HC.out _).mono ?_; rintro e w' ⟨rfl, rfl⟩)
        go_quiet ((go_at_call 80; exact Calls.quiet_of_same (flip_w (HM.out _))))
        go_wp2
        go_ret
        exact ⟨ri HF.out.symm, ((Below.refl _ _).alloc (Nat.le_refl _) _).trans ((below_drewN _ _).mono (by simp))⟩
      · have hms : ¬ m.toList = s.toList := by
          rw [Lib.toList_data, Lib.toList_data, hmm]
          intro h
          have h' : mkR s.data.toList = s.data.toList := h
          have := congrArg List.length (hR.symm.trans h')
          rw [List.length_take] at this
          omega
        have hms' : (m.toList == s.toList) = false := by simpa using hms
        clear hms
        rw [if_neg he] at hF
        have HM := Lib.hid hm
        have HF := Lib.hid hF
        clear hm hF hd1 hd2 hR he hmm hle
        unfold maxLen at hs
        go_enter Tryd.func50, Tryd.ntmps50
        go_wp2_with (go_at_call 24; refine (HC.out _).mono ?_; rintro e w' ⟨rfl, rfl⟩)
        go_quiet ((go_at_call 80; exact Calls.quiet_of_same (flip_w (HM.out _))))
        go_wp2
        go_ret
        exact ⟨ri HF.out.symm, ((Below.refl _ _).alloc (Nat.le_refl _) _).trans ((below_drewN _ _).mono (by simp))⟩
  · have HF : Hid (tkF 4 s.data.toList n = 6) := by show _ = _; unfold tkF; simp [h0]
    go_enter Tryd.func50, Tryd.ntmps50
    go_wp2_with (go_at_call 24; refine (HC.out _).mono ?_; rintro e w' ⟨rfl, rfl⟩)
    go_quiet (fail)
    go_wp2
    go_ret
    exact ⟨ri HF.out.symm, ((Below.refl _ _).alloc (Nat.le_refl _) _).trans ((below_drewN _ _).mono (by simp))⟩
theorem all_snoc {p : UInt8 → Bool} {l : List UInt8} {k : Nat} (h : k < l.length) : (l.take (k + 1)).all p = ((l.take k).all p && p (l.getD k 0)) := by
  rw [List.take_succ_eq_append_getElem h, List.all_append]
  simp [List.getD, List.getElem?_eq_getElem h]
theorem tf_word (w : World) (n : Int) (s : ByteArray) (hs : s.size ≤ maxLen) :
    Calls Tryd.prog 50 #[.agg #[.int .i64 1, .string s, .int .i64 n]] w fun e w' => e = .returned (.int .i64 (tkF 1 s.data.toList n)) ∧ Below w.heap.size w w' := by
  have HC := Lib.hid (fun W => in_yes W (k := 1) (by omega) (by omega))
  have hsz := len_size s
  obtain ⟨c0, hc0⟩ : ∃ c0, c0 = (decide (n = 0) && (!s.data.toList.isEmpty && !dg (s.data.toList.getD 0 0))) := ⟨_, rfl⟩
  have hF : tkF 1 s.data.toList n = if (c0 && s.data.toList.all iw) = true then 0 else 6 := by
    rw [hc0]
    unfold tkF txt
    by_cases h0 : n = 0
    · subst h0
      cases s.data.toList.isEmpty <;> cases dg (s.data.toList.getD 0 0) <;> cases s.data.toList.all iw <;> simp
    · simp [h0]
  have HF := Lib.hid hF
  have HL := Lib.hid hsz
  clear hF hsz
  have hnb : ∀ (W : World) (h : 0 < s.size), Calls Tryd.prog 78 #[.int .u8 ((s[0]).toNat : Int)] W fun e w' => e = .returned (.bool (dg s[0])) ∧ W = w' := fun W h => numberByte_any W s[0]
  unfold maxLen at hs
  have fin : ∀ (W : World) (a : Act) (P : Exit → Act → World → Prop), True := fun _ _ _ => trivial
  clear fin
  by_cases h0 : n = 0
  · by_cases ht : s.toList.isEmpty = true
    · obtain rfl := empty_is ht
      have hc : c0 = false := by rw [hc0]; simp
      rw [hc] at HF
      clear hnb ht hc0
      subst h0
      have HF' : Hid (tkF 1 (⟨#[]⟩ : ByteArray).data.toList 0 = 6) := rfl
      go_enter Tryd.func50, Tryd.ntmps50
      go_wp2_with (go_at_call 24; refine (HC.out _).mono ?_; rintro e w' ⟨rfl, rfl⟩)
      go_rounds 1
      go_ret
      exact ⟨ri HF'.out.symm, (Below.refl _ _).alloc (Nat.le_refl _) _⟩
    · have ht' : s.toList.isEmpty = false := by simpa using ht
      clear ht
      obtain ⟨hx, hz, hd1, hd2⟩ := full_is ht'
      have e0 : s.data.toList.getD 0 0 = s[0] := (byte_at s 0 hz).symm
      have hc : c0 = !dg s[0] := by rw [hc0, e0, hd1]; simp [h0]
      have hnb' := fun W => hnb W hz
      obtain ⟨d, hd⟩ : ∃ d, d = dg s[0] := ⟨_, rfl⟩
      rw [← hd] at hc hnb'
      have HN := Lib.hid hnb'
      have HC0 := Lib.hid hc
      clear hnb hnb' hc hd e0 hd1 hd2 hc0
      subst h0
      cases d
      all_goals (
        go_enter Tryd.func50, Tryd.ntmps50
        go_wp2_with (first | (go_at_call 24; ((with_reducible refine (HC.out _).mono ?_); rintro e w' ⟨rfl, rfl⟩)) | (go_at_call 78; ((with_reducible refine (HN.out _).mono ?_); rintro e w' ⟨rfl, rfl⟩)))
        go_loop [3, 4] (fun o i => ∃ (k : Nat) (c : Bool), k ≤ s.size ∧ i = .int .i64 (k : Int) ∧ o = .bool c ∧ Hid (c = (c0 && (s.data.toList.take k).all iw))) (fun _ i => s.size - (intOf i).toNat)
        case atStart => exact ⟨0, _, by omega, rfl, rfl, by rw [HC0.out]; rfl⟩
        case round =>
          obtain ⟨k, c, hk, rfl, rfl, HK⟩ := hrel
          by_cases hlt : k < s.size
          · have hA := all_snoc (p := iw) (show k < s.data.toList.length by rw [HL.out]; exact hlt)
            rw [← byte_at s k hlt] at hA
            have h1 := wordByte_any (w.alloc (.cells #[.int .i64 1, .string s, .int .i64 0] 39)) s[k]
            have h2 := numberByte_any (w.alloc (.cells #[.int .i64 1, .string s, .int .i64 0] 39)) s[k]
            have hiw : iw s[k] = (wb s[k] || dg s[k]) := rfl
            obtain ⟨x, hx1⟩ : ∃ x, x = wb s[k] := ⟨_, rfl⟩
            obtain ⟨y, hy1⟩ : ∃ y, y = dg s[k] := ⟨_, rfl⟩
            rw [← hx1, ← hy1] at hiw
            rw [← hx1] at h1
            rw [← hy1] at h2
            have HA := Lib.hid hA
            have HI := Lib.hid hiw
            have H1 := Lib.hid h1
            have H2 := Lib.hid h2
            clear hA hiw h1 h2 hx1 hy1
            cases c <;> cases x <;> cases y
            all_goals (
              go_wp2_with (first | (go_at_call 79; ((with_reducible refine H1.out.mono ?_); rintro e w' ⟨rfl, rfl⟩)) | (go_at_call 78; ((with_reducible refine H2.out.mono ?_); rintro e w' ⟨rfl, rfl⟩)))
              go_round
              case rel => exact ⟨k + 1, _, by omega, by go_num, rfl, by rw [HA.out, HI.out, ← Bool.and_assoc, ← HK.out]; rfl⟩
              case measure => simp [intOf]; omega)
          · obtain rfl : k = s.size := by omega
            cases c
            all_goals (
              go_wp2
              go_ret
              refine ⟨ri ?_, (Below.refl _ _).alloc (Nat.le_refl _) _⟩
              have hk' := HK.out
              rw [List.take_of_length_le (by rw [HL.out]; exact Nat.le_refl _)] at hk'
              rw [HF.out, ← hk']
              rfl))
  · have hc : c0 = false := by rw [hc0]; simp [h0]
    have HC0 := Lib.hid hc
    clear hc hc0 hnb
    have hn0 : (n == 0) = false := by simpa using h0
    go_enter Tryd.func50, Tryd.ntmps50
    go_wp2_with (go_at_call 24; refine (HC.out _).mono ?_; rintro e w' ⟨rfl, rfl⟩)
    go_loop [3, 4] (fun o i => ∃ (k : Nat), k ≤ s.size ∧ i = .int .i64 (k : Int) ∧ o = .bool false) (fun _ i => s.size - (intOf i).toNat)
    case atStart => exact ⟨0, by omega, rfl, rfl⟩
    case round =>
      obtain ⟨k, hk, rfl, rfl⟩ := hrel
      by_cases hlt : k < s.size
      · go_wp2
        go_round
        case rel => exact ⟨k + 1, by omega, by go_num, rfl⟩
        case measure => simp [intOf]; omega
      · obtain rfl : k = s.size := by omega
        go_wp2
        go_ret
        refine ⟨ri ?_, (Below.refl _ _).alloc (Nat.le_refl _) _⟩
        rw [HF.out, HC0.out]
        rfl
theorem tf_any (w : World) (k n : Int) (s : ByteArray) (hs : s.size ≤ maxLen) :
    Calls Tryd.prog 50 #[.agg #[.int .i64 k, .string s, .int .i64 n]] w fun e w' => e = .returned (.int .i64 (tkF k s.data.toList n)) ∧ Below w.heap.size w w' := by
  by_cases hk : k < 1 ∨ 4 < k
  · exact tf_bad w k n s hk
  · have : k = 1 ∨ k = 2 ∨ k = 3 ∨ k = 4 := by omega
    rcases this with rfl | rfl | rfl | rfl
    · exact tf_word w n s hs
    · exact tf_number w n s
    · exact tf_string w n s
    · exact tf_mark w n s hs
end Go.Proofs.YtnheepkmaibofaaDoor
