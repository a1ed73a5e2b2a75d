import Derived.Shelf.Strings.Prefix
import Derived.Test.YtdeollmeljaaoaaDoorProg
import Derived.Test.YtdeollmeljaaoaaDoorSck
import Derived.Laws.Rows
set_option linter.unusedVariables false
set_option linter.unusedSimpArgs false
set_option maxHeartbeats 400000
open Go.ChangeAt Go.ChangeShapes Go.RowKit Go.Shelf Go.WideShapes
open Go.Lib (hid)
namespace Go.Proofs
def Tryd.lays99_ren : Go.Shelf.Ren := ⟨fun | 99 => 84 | 206 => 87 | n => n, fun | 9 => 9 | 4 => 4 | 3 => 3 | n => n, fun | n => n⟩
theorem Tryd.lays99 : Go.Proofs.Lays.n99 Tryd.prog Tryd.lays99_ren := {
 mixed := by kernel_rfl
 f99 := Tryd.func84.trans (congrArg some (by kernel_rfl))
 f206 := Tryd.func87.trans (congrArg some (by kernel_rfl))
 t3 := Tryd.underlying3
 a3 := Tryd.isAgg3
 z3 := Tryd.sizeOf3
 v3 := Tryd.zeroValue3
 t4 := Tryd.underlying4
 a4 := Tryd.isAgg4
 z4 := Tryd.sizeOf4
 v4 := Tryd.zeroValue4
 t9 := Tryd.underlying9
 a9 := Tryd.isAgg9
 z9 := Tryd.sizeOf9
 v9 := Tryd.zeroValue9 }
open Go.RowKit Go.Lib in
theorem Tryd.strings_HasPrefix (s p : ByteArray) (w : World) :
  Calls Tryd.prog 84 #[.string s, .string p] w fun e w' => e = .returned (.bool (Lib.hasPrefix s.data.toList p.data.toList)) ∧ w' = w := Any.strings_HasPrefix Tryd.lays99 s p w
end Go.Proofs
namespace Go.Proofs.YtdeollmeljaaoaaDoor
def mkC : Array Value := (mkL.map fun m => Value.string ⟨m.toArray⟩).toArray
def Mk (w : World) : Prop := ∃ t fr, w.heap[5]? = some (.cells mkC t fr)
theorem Mk.below {w w' : World} (h : Mk w) (hb : Below w.heap.size w w') : Mk w' := by
 obtain ⟨t, fr, h1⟩ := h
 have hlt : 5 < w.heap.size := by
  rcases Nat.lt_or_ge 5 w.heap.size with g | g
  ·exact g
  ·rw [Array.getElem?_eq_none g] at h1; cases h1
 exact ⟨t, fr, (hb.block _ hlt).trans h1⟩
theorem mark0 (w : World) : (Instr.index 122 (.agg mkC) (.int .i64 ((0 : Nat) : Int))).run Tryd.prog w = .ok (.string ⟨(mkL.getD 0 []).toArray⟩) w := by kernel_rfl
theorem mark1 (w : World) : (Instr.index 122 (.agg mkC) (.int .i64 ((1 : Nat) : Int))).run Tryd.prog w = .ok (.string ⟨(mkL.getD 1 []).toArray⟩) w := by kernel_rfl
theorem mark2 (w : World) : (Instr.index 122 (.agg mkC) (.int .i64 ((2 : Nat) : Int))).run Tryd.prog w = .ok (.string ⟨(mkL.getD 2 []).toArray⟩) w := by kernel_rfl
theorem mark3 (w : World) : (Instr.index 122 (.agg mkC) (.int .i64 ((3 : Nat) : Int))).run Tryd.prog w = .ok (.string ⟨(mkL.getD 3 []).toArray⟩) w := by kernel_rfl
theorem mark4 (w : World) : (Instr.index 122 (.agg mkC) (.int .i64 ((4 : Nat) : Int))).run Tryd.prog w = .ok (.string ⟨(mkL.getD 4 []).toArray⟩) w := by kernel_rfl
theorem mark5 (w : World) : (Instr.index 122 (.agg mkC) (.int .i64 ((5 : Nat) : Int))).run Tryd.prog w = .ok (.string ⟨(mkL.getD 5 []).toArray⟩) w := by kernel_rfl
theorem mark6 (w : World) : (Instr.index 122 (.agg mkC) (.int .i64 ((6 : Nat) : Int))).run Tryd.prog w = .ok (.string ⟨(mkL.getD 6 []).toArray⟩) w := by kernel_rfl
theorem mark7 (w : World) : (Instr.index 122 (.agg mkC) (.int .i64 ((7 : Nat) : Int))).run Tryd.prog w = .ok (.string ⟨(mkL.getD 7 []).toArray⟩) w := by kernel_rfl
theorem mark8 (w : World) : (Instr.index 122 (.agg mkC) (.int .i64 ((8 : Nat) : Int))).run Tryd.prog w = .ok (.string ⟨(mkL.getD 8 []).toArray⟩) w := by kernel_rfl
theorem mark9 (w : World) : (Instr.index 122 (.agg mkC) (.int .i64 ((9 : Nat) : Int))).run Tryd.prog w = .ok (.string ⟨(mkL.getD 9 []).toArray⟩) w := by kernel_rfl
theorem mark10 (w : World) : (Instr.index 122 (.agg mkC) (.int .i64 ((10 : Nat) : Int))).run Tryd.prog w = .ok (.string ⟨(mkL.getD 10 []).toArray⟩) w := by kernel_rfl
theorem mark11 (w : World) : (Instr.index 122 (.agg mkC) (.int .i64 ((11 : Nat) : Int))).run Tryd.prog w = .ok (.string ⟨(mkL.getD 11 []).toArray⟩) w := by kernel_rfl
theorem mark_at (k : Nat) (hk : k < 12) (w : World) : (Instr.index 122 (.agg mkC) (.int .i64 (k : Int))).run Tryd.prog w = .ok (.string ⟨(mkL.getD k []).toArray⟩) w := by
 match k, hk with
 | 0, _ => exact mark0 w
 | 1, _ => exact mark1 w
 | 2, _ => exact mark2 w
 | 3, _ => exact mark3 w
 | 4, _ => exact mark4 w
 | 5, _ => exact mark5 w
 | 6, _ => exact mark6 w
 | 7, _ => exact mark7 w
 | 8, _ => exact mark8 w
 | 9, _ => exact mark9 w
 | 10, _ => exact mark10 w
 | 11, _ => exact mark11 w
theorem mk_two : ∀ k, k < 12 → (mkL.getD k []).length ≤ 2 := by decide
theorem mk_hit {l : List UInt8} {k : Nat} (hk : k < 12) (ha : ∀ j, j < k → (mkL.getD j []).isPrefixOf l = false) (h : (mkL.getD k []).isPrefixOf l = true) : mkOf l = (mkL.getD k []).length := by
 unfold mkOf
 have hlen : mkL.length = 12 := rfl
 have : mkL.find? (fun m => m.isPrefixOf l) = some (mkL.getD k []) := by
  rw [List.find?_eq_some_iff_getElem]
  refine ⟨h, k, by omega, by simp [List.getD, List.getElem?_eq_getElem (show k < mkL.length by omega)], fun j hj => ?_⟩
  have := ha j hj
  simp only [List.getD, List.getElem?_eq_getElem (show j < mkL.length by omega), Option.getD_some] at this
  simp [this]
 rw [this]
 rfl
theorem mk_none {l : List UInt8} (ha : ∀ j, j < 12 → (mkL.getD j []).isPrefixOf l = false) : mkOf l = 0 := by
 unfold mkOf
 have hlen : mkL.length = 12 := rfl
 have : mkL.find? (fun m => m.isPrefixOf l) = none := by
  rw [List.find?_eq_none]
  intro x hx
  obtain ⟨j, hj, rfl⟩ := List.getElem_of_mem hx
  have := ha j (by omega)
  simp only [List.getD, List.getElem?_eq_getElem hj, Option.getD_some] at this
  simp [this]
 rw [this]
 rfl
set_option maxHeartbeats 1000000 in
theorem markAt_any (w : World) (hm : Mk w) (s : ByteArray) : Calls Tryd.prog 71 #[.string s] w fun e w' => e = .returned (.int .i64 (mkOf s.data.toList : Nat)) ∧ w = w' := by
 obtain ⟨t, fr, hm⟩ := hm
 have HM := hid hm
 clear hm
 go_enter Tryd.func71, Tryd.ntmps71
 go_wp2_with (refine wpList_load_row rfl _ _ rfl _ rfl _ _ _ _ HM.out Tryd.underlying122 rfl (by kernel_rfl) ?_)
 go_loop [6] (fun i => ∃ k : Nat, k ≤ 12 ∧ i = .int .i64 (k : Int) ∧ Hid (∀ j, j < k → (mkL.getD j []).isPrefixOf s.data.toList = false)) (fun i => 12 - (intOf i).toNat)
 case atStart => exact ⟨0, by omega, rfl, fun j hj => absurd hj (by omega)⟩
 case round =>
  obtain ⟨k, hk, rfl, HA⟩ := hrel
  by_cases hlt : k < 12
  ·have hi := mark_at k hlt
   have hc := Tryd.strings_HasPrefix s ⟨(mkL.getD k []).toArray⟩ w
   have hl : (⟨(mkL.getD k []).toArray⟩ : ByteArray).size = (mkL.getD k []).length := by show Array.size _ = _; simp
   obtain ⟨d, hd⟩ : ∃ d, d = Lib.hasPrefix s.data.toList (mkL.getD k []) := ⟨_, rfl⟩
   rw [← hd] at hc
   unfold Lib.hasPrefix at hd
   obtain ⟨m, hmm⟩ : ∃ m : ByteArray, m = ⟨(mkL.getD k []).toArray⟩ := ⟨_, rfl⟩
   rw [← hmm] at hi hc hl
   have hlm := mk_two k hlt
   have HC := hid hc
   have HD := hid hd
   have HS := hid hl
   clear hc hd hl hmm
   cases d
   ·go_wp2_with (go_at_call 84; refine HC.out.mono ?_; rintro e w' ⟨rfl, rfl⟩)
    go_round
    case rel =>
     refine ⟨k + 1, by omega, by go_num, fun j hj => ?_⟩
     rcases Nat.lt_or_ge j k with h | h
     ·exact HA.out j h
     ·obtain rfl : j = k := by omega
      exact HD.out.symm
    case measure => simp [intOf]; omega
   ·go_wp2_with (go_at_call 84; refine HC.out.mono ?_; rintro e w' ⟨rfl, rfl⟩)
    go_ret
    exact ⟨ri (by rw [HS.out, mk_hit hlt HA.out HD.out.symm]), rfl⟩
  ·obtain rfl : k = 12 := by omega
   go_wp2
   go_ret
   exact ⟨ri (by rw [mk_none HA.out]; rfl), rfl⟩
theorem flip_w {f : FuncId} {args : Array Value} {w : World} {v : Value} (h : Calls Tryd.prog f args w fun e w' => e = .returned v ∧ w = w') : Calls Tryd.prog f args w fun e w' => e = .returned v ∧ w' = w := h.mono fun _ _ ⟨h, g⟩ => ⟨h, g.symm⟩
theorem below_drewN (w : World) (n : Nat) : Below w.heap.size w (w.drewN n) := ⟨rfl, rfl, rfl, Nat.le_refl _, fun k _ => rfl⟩
theorem len_size (s : ByteArray) : s.data.toList.length = s.size := by rw [Array.length_toList]; rfl
theorem empty_is {s : ByteArray} (h : s.toList.isEmpty = true) : s = ⟨#[]⟩ := empty_of (List.isEmpty_iff.1 h)
theorem full_is {s : ByteArray} (h : s.toList.isEmpty = false) : ¬ s.toList = [] ∧ 0 < s.size ∧ s.data.toList.isEmpty = false ∧ s.data.toList ≠ [] := by
 rw [Lib.toList_data] at h ⊢
 have hne : s.data.toList ≠ [] := by
  intro e
  rw [e] at h
  cases h
 refine ⟨hne, ?_, h, hne⟩
 rw [← len_size]
 exact List.length_pos_iff.2 hne
theorem txt_word (l : List UInt8) (h : l.isEmpty = false) : txt 1 l = (!dg (l.getD 0 0) && decide (spn iw l = l.length)) := by
 unfold txt
 rw [if_pos rfl, h]
 have : l.all iw = decide (spn iw l = l.length) := by
  rw [Bool.eq_iff_iff, decide_eq_true_eq]
  exact (spn_len iw l).symm
 rw [this]
 simp
set_option maxHeartbeats 1000000 in
theorem tmb_word (w : World) (n : Int) (s : ByteArray) (hs : s.size ≤ maxLen) :
  Calls Tryd.prog 49 #[.agg #[.int .i64 1, .string s, .int .i64 n]] w fun e w' => e = .returned (.bool (txt 1 s.data.toList)) ∧ Below w.heap.size w w' := by
 by_cases ht : s.toList.isEmpty = true
 ·obtain rfl := empty_is ht
  go_enter Tryd.func49, Tryd.ntmps49
  go_wp2
  go_quiet (fail)
  go_wp2
  go_ret
  exact ⟨rfl, ((Below.refl _ _).alloc (Nat.le_refl _) _).trans ((below_drewN _ _).mono (by simp))⟩
 ·have ht' : s.toList.isEmpty = false := by simpa using ht
  clear ht
  obtain ⟨hn, hz, hd1, hd2⟩ := full_is ht'
  have HT := hid (txt_word _ hd1)
  have h0 := fun W => isDigit_any W s[0]
  have e0 : s.data.toList.getD 0 0 = s[0] := (byte_at s 0 hz).symm
  rw [e0] at HT
  have h1 := fun W => span_word W s hs
  have hle := spn_le iw s.data.toList
  have hsz := len_size s
  rw [← hsz] at hs
  obtain ⟨d, hd⟩ : ∃ d, d = dg s[0] := ⟨_, rfl⟩
  obtain ⟨p, hp⟩ : ∃ p, p = spn iw s.data.toList := ⟨_, rfl⟩
  obtain ⟨L, hL⟩ : ∃ L, L = s.data.toList.length := ⟨_, rfl⟩
  rw [← hd] at h0
  rw [← hd, ← hp, ← hL] at HT
  rw [← hp] at h1
  rw [← hp, ← hL] at hle
  rw [← hL] at hs hsz
  have hz' : 0 < L := by omega
  have H0 := hid h0
  have H1 := hid h1
  have HL := hid hsz
  clear h0 h1 hd hp hL e0 hd1 hd2 hsz
  unfold maxLen at hs
  by_cases hpl : p = s.size
  all_goals (
   (try have hpI : ¬ (p : Int) = (s.size : Int) := by omega)
   cases d
   all_goals (
    go_enter Tryd.func49, Tryd.ntmps49
    go_wp2
    go_quiet ((first | (go_at_call 68; exact Calls.quiet_of_same (flip_w (H0.out _))) | (go_at_call 69; exact Calls.quiet_of_same (flip_w (H1.out _)))))
    all_goals (
     go_wp2
     go_ret
     refine ⟨rb ?_, ((Below.refl _ _).alloc (Nat.le_refl _) _).trans ((below_drewN _ _).mono (by simp))⟩
     rw [HT.out, HL.out]
     simp [hpl])))
  all_goals omega
theorem Mk.alloc {w : World} (h : Mk w) (o : Obj) : Mk (w.alloc o) := h.below ((Below.refl _ _).alloc (Nat.le_refl _) _)
theorem Mk.drewN {w : World} (h : Mk w) (n : Nat) : Mk (w.drewN n) := h.below (below_drewN _ _)
theorem tmb_number (w : World) (n : Int) (s : ByteArray) :
  Calls Tryd.prog 49 #[.agg #[.int .i64 2, .string s, .int .i64 n]] w fun e w' => e = .returned (.bool (txt 2 s.data.toList)) ∧ Below w.heap.size w w' := by
 by_cases ht : s.toList.isEmpty = true
 ·obtain rfl := empty_is ht
  go_enter Tryd.func49, Tryd.ntmps49
  go_wp2
  go_ret
  exact ⟨rfl, (Below.refl _ _).alloc (Nat.le_refl _) _⟩
 ·have ht' : s.toList.isEmpty = false := by simpa using ht
  clear ht
  obtain ⟨hn, hz, hd1, hd2⟩ := full_is ht'
  have HT : Hid (txt 2 s.data.toList = false) := by show _ = _; unfold txt; simp; simpa using hd2
  clear hd1 hd2
  go_enter Tryd.func49, Tryd.ntmps49
  go_wp2
  go_ret
  exact ⟨rb HT.out.symm, (Below.refl _ _).alloc (Nat.le_refl _) _⟩
theorem tmb_other (w : World) (k n : Int) (s : ByteArray) (h1 : k ≠ 1) (h2 : k ≠ 2) (h4 : k ≠ 4) :
  Calls Tryd.prog 49 #[.agg #[.int .i64 k, .string s, .int .i64 n]] w fun e w' => e = .returned (.bool (txt k s.data.toList)) ∧ Below w.heap.size w w' := by
 have HT : Hid (txt k s.data.toList = true) := by show _ = _; unfold txt; simp [h1, h2, h4]
 go_enter Tryd.func49, Tryd.ntmps49
 go_wp2
 go_ret
 exact ⟨rb HT.out.symm, (Below.refl _ _).alloc (Nat.le_refl _) _⟩
set_option maxHeartbeats 1000000 in
theorem tmb_mark (w : World) (hm : Mk w) (n : Int) (s : ByteArray) (hs : s.size ≤ maxLen) :
  Calls Tryd.prog 49 #[.agg #[.int .i64 4, .string s, .int .i64 n]] w fun e w' => e = .returned (.bool (txt 4 s.data.toList)) ∧ Below w.heap.size w w' := by
 by_cases ht : s.toList.isEmpty = true
 ·obtain rfl := empty_is ht
  go_enter Tryd.func49, Tryd.ntmps49
  go_wp2
  go_quiet (fail)
  go_wp2
  go_ret
  exact ⟨rfl, ((Below.refl _ _).alloc (Nat.le_refl _) _).trans ((below_drewN _ _).mono (by simp))⟩
 ·have ht' : s.toList.isEmpty = false := by simpa using ht
  clear ht
  obtain ⟨hn, hz, hd1, hd2⟩ := full_is ht'
  have HT : Hid (txt 4 s.data.toList = decide (mkOf s.data.toList = s.data.toList.length)) := by show _ = _; unfold txt; rw [hd1]; simp
  have h1 := fun (W : World) (hW : Mk W) => markAt_any W hW s
  have hle := mkOf_le s.data.toList
  have hsz := len_size s
  rw [← hsz] at hs
  obtain ⟨p, hp⟩ : ∃ p, p = mkOf s.data.toList := ⟨_, rfl⟩
  obtain ⟨L, hL⟩ : ∃ L, L = s.data.toList.length := ⟨_, rfl⟩
  rw [← hp, ← hL] at HT
  rw [← hp] at h1
  rw [← hp, ← hL] at hle
  rw [← hL] at hs hsz
  have hz' : 0 < L := by omega
  have H1 := hid h1
  have HL := hid hsz
  have HM := hid hm
  clear h1 hp hL hd1 hd2 hsz hm
  unfold maxLen at hs
  by_cases hpl : p = s.size
  all_goals (
   (try have hpI : ¬ (p : Int) = (s.size : Int) := by omega)
   go_enter Tryd.func49, Tryd.ntmps49
   go_wp2
   go_quiet ((go_at_call 71; exact Calls.quiet_of_same (flip_w (H1.out _ (by first | exact HM.out.alloc _ | exact (HM.out.alloc _).drewN _)))))
   all_goals (
    go_wp2
    go_ret
    refine ⟨rb ?_, ((Below.refl _ _).alloc (Nat.le_refl _) _).trans ((below_drewN _ _).mono (by simp))⟩
    rw [HT.out, HL.out]
    simp [hpl]))
  all_goals omega
theorem tmb_any (w : World) (hm : Mk w) (k n : Int) (s : ByteArray) (hs : s.size ≤ maxLen) :
  Calls Tryd.prog 49 #[.agg #[.int .i64 k, .string s, .int .i64 n]] w fun e w' => e = .returned (.bool (txt k s.data.toList)) ∧ Below w.heap.size w w' := by
 by_cases h1 : k = 1
 ·subst h1; exact tmb_word w n s hs
 ·by_cases h2 : k = 2
  ·subst h2; exact tmb_number w n s
  ·by_cases h4 : k = 4
   ·subst h4; exact tmb_mark w hm n s hs
   ·exact tmb_other w k n s h1 h2 h4
end Go.Proofs.YtdeollmeljaaoaaDoor
