import Derived.Test.YtdeollmeljaaoaaDoorShak
/- May a token have its text? -/
namespace Go.Proofs.YtdeollmeljaaoaaDoor
open Go.ChangeShapes Go.WideShapes Go.ChangeAt Go.RowKit
set_option linter.unusedVariables false
set_option linter.unusedSimpArgs false
set_option maxHeartbeats 400000
theorem flip_w {f : FuncId} {args : Array Value} {w : World} {v : Value} (h : Calls Tryd.prog f args w fun e w' => e = .returned v ∧ w = w') : Calls Tryd.prog f args w fun e w' => e = .returned v ∧ w' = w := h.mono fun _ _ ⟨h, g⟩ => ⟨h, g.symm⟩
theorem below_drewN (w : World) (n : Nat) : Below w.heap.size w (w.drewN n) := ⟨rfl, rfl, rfl, Nat.le_refl _, fun k _ => rfl⟩
theorem len_size (s : ByteArray) : s.data.toList.length = s.size := by rw [Array.length_toList]; rfl
theorem empty_is {s : ByteArray} (h : s.toList.isEmpty = true) : s = ⟨#[]⟩ := empty_of (List.isEmpty_iff.1 h)
theorem full_is {s : ByteArray} (h : s.toList.isEmpty = false) : ¬ s.toList = [] ∧ 0 < s.size ∧ s.data.toList.isEmpty = false ∧ s.data.toList ≠ [] := by
  rw [Lib.toList_data] at h ⊢
  have hne : s.data.toList ≠ [] := by
    intro e
    rw [e] at h
    cases h
  refine ⟨hne, ?_, h, hne⟩
  rw [← len_size]
  exact List.length_pos_iff.2 hne
theorem txt_word (l : List UInt8) (h : l.isEmpty = false) : txt 1 l = (!dg (l.getD 0 0) && decide (spn iw l = l.length)) := by
  unfold txt
  rw [if_pos rfl, h]
  have : l.all iw = decide (spn iw l = l.length) := by
    rw [Bool.eq_iff_iff, decide_eq_true_eq]
    exact (spn_len iw l).symm
  rw [this]
  simp
set_option maxHeartbeats 1000000 in
theorem tmb_word (w : World) (n : Int) (s : ByteArray) (hs : s.size ≤ maxLen) :
    Calls Tryd.prog 49 #[.agg #[.int .i64 1, .string s, .int .i64 n]] w fun e w' => e = .returned (.bool (txt 1 s.data.toList)) ∧ Below w.heap.size w w' := by
  by_cases ht : s.toList.isEmpty = true
  · obtain rfl := empty_is ht
    go_enter Tryd.func49, Tryd.ntmps49
    go_wp2
    go_quiet (fail)
    go_wp2
    go_ret
    exact ⟨rfl, ((Below.refl _ _).alloc (Nat.le_refl _) _).trans ((below_drewN _ _).mono (by simp))⟩
  · have ht' : s.toList.isEmpty = false := by simpa using ht
    clear ht
    obtain ⟨hn, hz, hd1, hd2⟩ := full_is ht'
    have HT := Lib.hid (txt_word _ hd1)
    have h0 := fun W => isDigit_any W s[0]
    have e0 : s.data.toList.getD 0 0 = s[0] := (byte_at s 0 hz).symm
    rw [e0] at HT
    have h1 := fun W => span_word W s hs
    have hle := spn_le iw s.data.toList
    have hsz := len_size s
    rw [← hsz] at hs
    obtain ⟨d, hd⟩ : ∃ d, d = dg s[0] := ⟨_, rfl⟩
    obtain ⟨p, hp⟩ : ∃ p, p = spn iw s.data.toList := ⟨_, rfl⟩
    obtain ⟨L, hL⟩ : ∃ L, L = s.data.toList.length := ⟨_, rfl⟩
    rw [← hd] at h0
    rw [← hd, ← hp, ← hL] at HT
    rw [← hp] at h1
    rw [← hp, ← hL] at hle
    rw [← hL] at hs hsz
    have hz' : 0 < L := by omega
    have H0 := Lib.hid h0
    have H1 := Lib.hid h1
    have HL := Lib.hid hsz
    clear h0 h1 hd hp hL e0 hd1 hd2 hsz
    unfold maxLen at hs
    by_cases hpl : p = s.size
    all_goals (
      (try have hpI : ¬ (p : Int) = (s.size : Int) := by omega)
      cases d
      all_goals (
        go_enter Tryd.func49, Tryd.ntmps49
        go_wp2
        go_quiet ((first | (go_at_call 68; exact Calls.quiet_of_same (flip_w (H0.out _))) | (go_at_call 69; exact Calls.quiet_of_same (flip_w (H1.out _)))))
        all_goals (
          go_wp2
          go_ret
          refine ⟨rb ?_, ((Below.refl _ _).alloc (Nat.le_refl _) _).trans ((below_drewN _ _).mono (by simp))⟩
          rw [HT.out, HL.out]
          simp [hpl])))
    all_goals omega
theorem Mk.alloc {w : World} (h : Mk w) (o : Obj) : Mk (w.alloc o) := h.below ((Below.refl _ _).alloc (Nat.le_refl _) _)
theorem Mk.drewN {w : World} (h : Mk w) (n : Nat) : Mk (w.drewN n) := h.below (below_drewN _ _)
theorem tmb_number (w : World) (n : Int) (s : ByteArray) :
    Calls Tryd.prog 49 #[.agg #[.int .i64 2, .string s, .int .i64 n]] w fun e w' => e = .returned (.bool (txt 2 s.data.toList)) ∧ Below w.heap.size w w' := by
  by_cases ht : s.toList.isEmpty = true
  · obtain rfl := empty_is ht
    go_enter Tryd.func49, Tryd.ntmps49
    go_wp2
    go_ret
    exact ⟨rfl, (Below.refl _ _).alloc (Nat.le_refl _) _⟩
  · have ht' : s.toList.isEmpty = false := by simpa using ht
    clear ht
    obtain ⟨hn, hz, hd1, hd2⟩ := full_is ht'
    have HT : Hid (txt 2 s.data.toList = false) := by show _ = _; unfold txt; simp; simpa using hd2
    clear hd1 hd2
    go_enter Tryd.func49, Tryd.ntmps49
    go_wp2
    go_ret
    exact ⟨rb HT.out.symm, (Below.refl _ _).alloc (Nat.le_refl _) _⟩
theorem tmb_other (w : World) (k n : Int) (s : ByteArray) (h1 : k ≠ 1) (h2 : k ≠ 2) (h4 : k ≠ 4) :
    Calls Tryd.prog 49 #[.agg #[.int .i64 k, .string s, .int .i64 n]] w fun e w' => e = .returned (.bool (txt k s.data.toList)) ∧ Below w.heap.size w w' := by
  have HT : Hid (txt k s.data.toList = true) := by show _ = _; unfold txt; simp [h1, h2, h4]
  go_enter Tryd.func49, Tryd.ntmps49
  go_wp2
  go_ret
  exact ⟨rb HT.out.symm, (Below.refl _ _).alloc (Nat.le_refl _) _⟩
set_option maxHeartbeats 1000000 in
theorem tmb_mark (w : World) (hm : Mk w) (n : Int) (s : ByteArray) (hs : s.size ≤ maxLen) :
    Calls Tryd.prog 49 #[.agg #[.int .i64 4, .string s, .int .i64 n]] w fun e w' => e = .returned (.bool (txt 4 s.data.toList)) ∧ Below w.heap.size w w' := by
  by_cases ht : s.toList.isEmpty = true
  · obtain rfl := empty_is ht
    go_enter Tryd.func49, Tryd.ntmps49
    go_wp2
    go_quiet (fail)
    go_wp2
    go_ret
    exact ⟨rfl, ((Below.refl _ _).alloc (Nat.le_refl _) _).trans ((below_drewN _ _).mono (by simp))⟩
  · have ht' : s.toList.isEmpty = false := by simpa using ht
    clear ht
    obtain ⟨hn, hz, hd1, hd2⟩ := full_is ht'
    have HT : Hid (txt 4 s.data.toList = decide (mkOf s.data.toList = s.data.toList.length)) := by show _ = _; unfold txt; rw [hd1]; simp
    have h1 := fun (W : World) (hW : Mk W) => markAt_any W hW s
    have hle := mkOf_le s.data.toList
    have hsz := len_size s
    rw [← hsz] at hs
    obtain ⟨p, hp⟩ : ∃ p, p = mkOf s.data.toList := ⟨_, rfl⟩
    obtain ⟨L, hL⟩ : ∃ L, L = s.data.toList.length := ⟨_, rfl⟩
    rw [← hp, ← hL] at HT
    rw [← hp] at h1
    rw [← hp, ← hL] at hle
    rw [← hL] at hs hsz
    have hz' : 0 < L := by omega
    have H1 := Lib.hid h1
    have HL := Lib.hid hsz
    have HM := Lib.hid hm
    clear h1 hp hL hd1 hd2 hsz hm
    unfold maxLen at hs
    by_cases hpl : p = s.size
    all_goals (
      (try have hpI : ¬ (p : Int) = (s.size : Int) := by omega)
      go_enter Tryd.func49, Tryd.ntmps49
      go_wp2
      go_quiet ((go_at_call 71; exact Calls.quiet_of_same (flip_w (H1.out _ (by first | exact HM.out.alloc _ | exact (HM.out.alloc _).drewN _)))))
      all_goals (
        go_wp2
        go_ret
        refine ⟨rb ?_, ((Below.refl _ _).alloc (Nat.le_refl _) _).trans ((below_drewN _ _).mono (by simp))⟩
        rw [HT.out, HL.out]
        simp [hpl]))
    all_goals omega
theorem tmb_any (w : World) (hm : Mk w) (k n : Int) (s : ByteArray) (hs : s.size ≤ maxLen) :
    Calls Tryd.prog 49 #[.agg #[.int .i64 k, .string s, .int .i64 n]] w fun e w' => e = .returned (.bool (txt k s.data.toList)) ∧ Below w.heap.size w w' := by
  by_cases h1 : k = 1
  · subst h1; exact tmb_word w n s hs
  · by_cases h2 : k = 2
    · subst h2; exact tmb_number w n s
    · by_cases h4 : k = 4
      · subst h4; exact tmb_mark w hm n s hs
      · exact tmb_other w k n s h1 h2 h4
end Go.Proofs.YtdeollmeljaaoaaDoor
