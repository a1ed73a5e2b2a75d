/- Words and numbers run together. -/
import Derived.Test.YtfoilmhpoipmpaaDoorVg
namespace Go.Proofs.YtfoilmhpoipmpaaDoor
open Go.ChangeShapes Go.WideShapes Go.ChangeAt Go.RowKit
set_option linter.unusedVariables false
set_option linter.unusedSimpArgs false
set_option maxHeartbeats 1000000
theorem m2_40 {c : UInt8} : m2 40 c = false := by
  unfold m2
  rw [show ((60 : UInt8) == 40) = false by decide, show ((62 : UInt8) == 40) = false by decide]
  simp
theorem tokT_open (r : List UInt8) : tokT (40 :: r) = .tok ⟨4, [40], 0⟩ 1 := by
  have hk : mkOf (40 :: r) = 1 := by
    cases r with
    | nil => decide
    | cons d r => rw [mkOf_two, m2_40]; decide
  unfold tokT
  have e : (40 :: r).getD 0 0 = (40 : UInt8) := rfl
  rw [e, if_neg (by decide), if_neg (by decide), if_neg (by decide), hk]
  rfl
theorem tokT_close : tokT [41] = .tok ⟨4, [41], 0⟩ 1 := by kernel_rfl
theorem tokT_wordc (a r : List UInt8) (c : UInt8) (hc : iw c = false) (ha : a.all iw = true) (h0 : a ≠ []) (hd : dg (a.getD 0 0) = false) : tokT (a ++ c :: r) = .tok ⟨1, a, 0⟩ a.length := by
  have hsp : spn iw (a ++ c :: r) = a.length := spn_app ha hc
  cases a with
  | nil => exact absurd rfl h0
  | cons b a =>
    rw [List.all_cons, Bool.and_eq_true] at ha
    have e : ((b :: a) ++ c :: r).getD 0 0 = b := by simp
    have hd' : dg b = false := by simpa using hd
    unfold tokT
    rw [e, if_neg (by rw [hd']; simp), if_pos ha.1, hsp, List.take_left]
theorem tokT_numc (a r : List UInt8) (c : UInt8) (hc : iw c = false) (ha : a.all dg = true) (h0 : a ≠ []) (hn : numOf a < 9223372036854775808) : tokT (a ++ c :: r) = .tok ⟨2, [], numOf a⟩ a.length := by
  have hcd : dg c = false := by
    unfold iw at hc
    simp at hc
    exact hc.2
  have hsp : spn dg (a ++ c :: r) = a.length := spn_app ha hcd
  have hd : dg ((a ++ c :: r).getD 0 0) = true := by
    cases a with
    | nil => exact absurd rfl h0
    | cons b a => rw [List.all_cons, Bool.and_eq_true] at ha; simpa using ha.1
  unfold tokT
  rw [if_pos hd]
  unfold numT
  rw [hsp, List.take_left]
  have h1 : (a ++ c :: r).getD a.length 0 = c := by simp [List.getD]
  rw [h1, if_neg (by rintro ⟨_, h⟩; rw [hc] at h; cases h), if_pos hn]
theorem tokT_numw (a r : List UInt8) (c : UInt8) (hc : wb c = true) (ha : a.all dg = true) (h0 : a ≠ []) : tokT (a ++ c :: r) = .bad 6 := by
  have hcd : dg c = false := by
    rw [Bool.eq_false_iff]
    intro h
    rw [wb_dg h] at hc
    cases hc
  have hsp : spn dg (a ++ c :: r) = a.length := spn_app ha hcd
  have hd : dg ((a ++ c :: r).getD 0 0) = true := by
    cases a with
    | nil => exact absurd rfl h0
    | cons b a => rw [List.all_cons, Bool.and_eq_true] at ha; simpa using ha.1
  unfold tokT
  rw [if_pos hd]
  unfold numT
  rw [hsp]
  have h1 : (a ++ c :: r).getD a.length 0 = c := by simp [List.getD]
  rw [h1, if_pos ⟨by simp, by unfold iw; rw [hc]; rfl⟩]
/-- One step of Cut at a known place. -/
theorem cut_step {L pre rest : List UInt8} {acc : List Tk} {x : Tk} {n : Nat} (hL : L = pre ++ rest) (h0 : rest ≠ []) (hb : bk (rest.getD 0 0) = false) (ha : acc.length < 100) (ht : tokT rest = .tok x n) : cutW L pre.length acc = cutW L (pre.length + n) (acc ++ [x]) := by
  subst hL
  have hp := List.length_pos_iff.2 h0
  have hg : (pre ++ rest).getD pre.length 0 = rest.getD 0 0 := by
    have := getD_drop (pre ++ rest) pre.length 0
    rw [List.drop_left, Nat.add_zero] at this
    exact this.symm
  exact cutW_tok (by simp; omega) (by rw [hg]; exact hb) (by omega) (by rw [List.drop_left]; exact ht)
/-- A word of small letters, a '_', digits, a bracket, digits, a bracket. -/
theorem cut_words (t d : List UInt8) (ht : Lw t) (hd : d.all dg = true) (hd0 : d ≠ []) (hdl : d.length ≤ 20) (hn : numOf d < 9223372036854775808) :
    cutL (t ++ [95] ++ d ++ [40] ++ d ++ [41]) = ⟨[⟨1, t ++ [95] ++ d, 0⟩, ⟨4, [40], 0⟩, ⟨2, [], numOf d⟩, ⟨4, [41], 0⟩], 0, 0⟩ ∧ cutL (d ++ t) = ⟨[], 0, 6⟩ := by
  obtain ⟨h1, h2, h3⟩ := ht
  have hi : ∀ b ∈ t, iw b = true ∧ dg b = false ∧ wb b = true := fun b hb => by
    have := h3 b hb
    unfold iw wb dg
    simp
    omega
  have htne : t ≠ [] := by intro e; rw [e] at h1; simp at h1
  have hall : (t ++ [95] ++ d).all iw = true := by
    rw [List.all_append, List.all_append]
    have a1 : t.all iw = true := List.all_eq_true.2 fun b hb => (hi b hb).1
    have a2 : d.all iw = true := List.all_eq_true.2 fun b hb => by
      have := List.all_eq_true.1 hd b hb
      unfold iw
      rw [this, Bool.or_true]
    rw [a1, a2]
    decide
  have hhd : dg ((t ++ [95] ++ d).getD 0 0) = false := by
    cases t with
    | nil => exact absurd rfl htne
    | cons c t => simpa using (hi c (by simp)).2.1
  have hdd : iw (d.getD 0 0) = true := by
    cases d with
    | nil => exact absurd rfl hd0
    | cons c d =>
      rw [List.all_cons, Bool.and_eq_true] at hd
      unfold iw
      simp [hd.1]
  obtain ⟨a, ha⟩ : ∃ a, a = t ++ [95] ++ d := ⟨_, rfl⟩
  rw [← ha] at hall hhd
  have hane : a ≠ [] := by rw [ha]; simp
  have hal : a.length ≤ 27 := by rw [ha]; simp; omega
  have hahd : iw (a.getD 0 0) = true := by
    cases hh : a with
    | nil => exact absurd hh hane
    | cons c a' =>
      rw [hh, List.all_cons, Bool.and_eq_true] at hall
      simpa using hall.1
  refine ⟨?_, ?_⟩
  · have eL : t ++ [95] ++ d ++ [40] ++ d ++ [41] = a ++ 40 :: (d ++ [41]) := by rw [ha]; simp
    rw [eL]
    unfold cutL
    rw [if_neg (by simp; omega)]
    have s1 := cut_step (L := a ++ 40 :: (d ++ [41])) (pre := []) (rest := a ++ 40 :: (d ++ [41])) (acc := []) rfl (by simp) (by
      have : (a ++ 40 :: (d ++ [41])).getD 0 0 = a.getD 0 0 := by
        cases hh : a with
        | nil => exact absurd hh hane
        | cons c a' => simp
      rw [this]; exact iw_nb hahd) (by simp) (tokT_wordc a (d ++ [41]) 40 (by decide) hall hane hhd)
    have s2 := cut_step (L := a ++ 40 :: (d ++ [41])) (pre := a) (rest := 40 :: (d ++ [41])) (acc := [⟨1, a, 0⟩]) rfl (by simp) (by simp; decide) (by simp) (tokT_open _)
    have s3 := cut_step (L := a ++ 40 :: (d ++ [41])) (pre := a ++ [40]) (rest := d ++ [41]) (acc := [⟨1, a, 0⟩, ⟨4, [40], 0⟩]) (by simp) (by simp) (by
      have : (d ++ [41]).getD 0 0 = d.getD 0 0 := by
        cases hh : d with
        | nil => exact absurd hh hd0
        | cons c a' => simp
      rw [this]; exact iw_nb hdd) (by simp) (tokT_numc d [] 41 (by decide) hd hd0 hn)
    have s4 := cut_step (L := a ++ 40 :: (d ++ [41])) (pre := a ++ [40] ++ d) (rest := [41]) (acc := [⟨1, a, 0⟩, ⟨4, [40], 0⟩, ⟨2, [], numOf d⟩]) (by simp) (by simp) (by decide) (by simp) tokT_close
    simp only [List.length_nil, Nat.zero_add, List.nil_append, List.length_append, List.length_cons, List.cons_append] at s1 s2 s3 s4
    rw [s1, s2, s3, s4, cutW_end (by simp; omega), ha]
  · unfold cutL
    rw [if_neg (by simp; omega)]
    cases t with
    | nil => exact absurd rfl htne
    | cons c t =>
      have hb : bk ((d ++ c :: t).getD 0 0) = false := by
        have : (d ++ c :: t).getD 0 0 = d.getD 0 0 := by
          cases hh : d with
          | nil => exact absurd hh hd0
          | cons c a' => simp
        rw [this]; exact iw_nb hdd
      exact cutW_bad (by simp; omega) hb (by simp) (by rw [List.drop_zero]; exact tokT_numw d t c (hi c (by simp)).2.2 hd hd0)
end Go.Proofs.YtfoilmhpoipmpaaDoor
