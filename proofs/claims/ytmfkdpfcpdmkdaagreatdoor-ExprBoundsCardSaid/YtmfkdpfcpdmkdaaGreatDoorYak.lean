import Derived.Test.YtmfkdpfcpdmkdaaGreatDoorQkk
import Derived.Test.YtmfkdpfcpdmkdaaGreatDoorQrk
import Derived.Test.YtmfkdpfcpdmkdaaGreatDoorB2k
/- Kinds of expressions: the program's small functions. -/
namespace Go.Proofs.YtmfkdpfcpdmkdaaGreatDoor
open Go.ChangeShapes Go.WideShapes Go.ChangeAt Go.RowKit
set_option linter.unusedVariables false
set_option linter.unusedSimpArgs false
set_option maxHeartbeats 2000000
/-- The place of a column of this name; -1: there is none. -/
def plI (l : List Cq) (t : ByteArray) : Int := match l.findIdx? (fun c => c.t.toList == t.toList) with | some i => (i : Int) | none => -1
theorem plI_hit {l : List Cq} {t : ByteArray} {k : Nat} (hk : k < l.length) (ha : ∀ j, j < k → (l.getD j ncq).t ≠ t) (h : (l.getD k ncq).t = t) : plI l t = (k : Int) := by
  unfold plI
  have : l.findIdx? (fun c => c.t.toList == t.toList) = some k := by
    rw [List.findIdx?_eq_some_iff_getElem]
    refine ⟨hk, ?_, fun j hj => ?_⟩
    · have e : l[k].t = t := by rw [← h]; simp [List.getD, hk]
      simp [e]
    · have hj' : j < l.length := by omega
      have := ha j hj
      have e : (l.getD j ncq) = l[j] := by simp [List.getD, hj']
      rw [e] at this
      simp only [Bool.not_eq_true]
      exact st_beq this
  rw [this]
theorem plI_none {l : List Cq} {t : ByteArray} (ha : ∀ j, j < l.length → (l.getD j ncq).t ≠ t) : plI l t = -1 := by
  unfold plI
  have : l.findIdx? (fun c => c.t.toList == t.toList) = none := by
    rw [List.findIdx?_eq_none_iff]
    intro x hx
    obtain ⟨j, hj, rfl⟩ := List.getElem_of_mem hx
    have := ha j hj
    have e : (l.getD j ncq) = l[j] := by simp [List.getD, hj]
    rw [e] at this
    exact st_beq this
  rw [this]
theorem plI_in (l : List Cq) (t : ByteArray) : plI l t = -1 ∨ ∃ k : Nat, plI l t = (k : Int) ∧ k < l.length := by
  unfold plI
  cases h : l.findIdx? (fun c => c.t.toList == t.toList) with
  | none => exact .inl rfl
  | some i => exact .inr ⟨i, rfl, (List.findIdx?_eq_some_iff_getElem.1 h).1⟩
/-- The kind of a literal, of a column; of what an op makes of one thing, of two. The fault first. -/
def lfK (l : List Cq) (o : Oq) : Int × Int := if o.k = 1 then (0, o.v.k) else if plI l o.t < 0 then (8, 0) else (0, (l.getD (plI l o.t).toNat ncq).k)
def onK (k a : Int) : Int × Int := if k = 5 ∧ ¬ (a = 1 ∨ a = 0) then (4, 0) else (0, 1)
def ifK (k a b : Int) : Int × Int := if ¬ (a = k ∨ a = 0) ∨ ¬ (b = k ∨ b = 0) then (4, 0) else (0, k)
def twK (k a b : Int) : Int × Int := if k = 3 ∨ k = 4 then ifK 1 a b else if k = 6 ∨ k = 7 then (if ¬ (a = b ∨ a = 0) ∧ b ≠ 0 then (4, 0) else (0, 1)) else ifK 2 a b
/-- What a call that tells a kind answers. -/
def KindIs (p : Int × Int) (w : World) (e : Ending) (w' : World) : Prop := e = .returned (.tuple #[.int .i64 p.2, .int .i64 p.1]) ∧ w' = w
theorem place1_any (w : World) (c : Cq) (t : ByteArray) (B : Nat) (hx : w.cell? ⟨B, 0, none⟩ = some (.string t)) : Calls Tryz.prog 47 #[.agg #[.string c.t, .int .i64 c.k], .pointer (some ⟨B, 0, none⟩)] w fun e w' => e = .returned (.bool (c.t.toList == t.toList)) ∧ Below w.heap.size w w' := by
  obtain ⟨ct, ck⟩ := c
  have c0 := cell_blz ((Below.refl w.heap.size w).alloc (Nat.le_refl _) (.cells #[.string ct, .int .i64 ck] 50)) hx
  clear hx
  go_enter Tryz.func47, Tryz.ntmps47
  go_wp2
  go_ret
  exact ⟨rfl, (Below.refl _ _).alloc (Nat.le_refl _) _⟩
theorem idxcol_any (w : World) (n : Nat) (v : Value) (l : List Cq) (t : ByteArray) (B : Nat) (hr : Rd w 2 n v (ccs l)) (hx : w.cell? ⟨B, 0, none⟩ = some (.string t)) :
    Calls Tryz.prog 46 #[v, .func (.func 47) #[] #[.pointer (some ⟨B, 0, none⟩)]] w fun e w' => e = .returned (.int .i64 (plI l t)) ∧ Below w.heap.size w w' := by
  have hml := len_c hr
  have hmax := hr.len
  unfold maxLen at hmax
  by_cases h0 : n = 0
  · have hl0 : l = [] := List.eq_nil_of_length_eq_zero (by omega)
    subst hl0 h0
    obtain ⟨_, ao, cap, rfl, _⟩ := hr.zero
    clear hml hx
    go_enter Tryz.func46, Tryz.ntmps46
    go_wp2
    go_rounds 1
    go_ret
    exact ⟨rfl, Below.refl _ _⟩
  · obtain ⟨b, o, cap, rfl, _, _, hbw, hcell⟩ := cols_of hr (by omega)
    have HC := Lib.hid hcell
    have HN := Lib.hid hml
    have HX := Lib.hid hx
    clear hcell hr hml hx
    go_enter Tryz.func46, Tryz.ntmps46
    go_wp2
    go_loopw [8] (fun i wr => ∃ k : Nat, k ≤ n ∧ i = .int .i64 (k : Int) ∧ Hid (∀ j, j < k → (l.getD j ncq).t ≠ t) ∧ Hid (Below w.heap.size w wr)) (fun i _ => n - (intOf i).toNat)
    case atStart => exact ⟨0, by omega, rfl, (fun j hj => absurd hj (by omega)), Below.refl _ _⟩
    case round =>
      obtain ⟨k, hk, rfl, HA, HB⟩ := hrel
      by_cases hlt : k < n
      · obtain ⟨g0, g1⟩ := HC.out k hlt
        have c0 := (HB.out.cell (p := ⟨b, o + k * 2, none⟩) hbw).trans g0
        have c1 := (HB.out.cell (p := ⟨b, o + k * 2 + 1, none⟩) hbw).trans g1
        obtain ⟨u, hu⟩ : ∃ u, u = l.getD k ncq := ⟨_, rfl⟩
        have HU := Lib.hid hu
        rw [← hu] at c0 c1
        have hcl := place1_any wr u t B (cell_blz HB.out HX.out)
        obtain ⟨q, hq⟩ : ∃ q, q = (u.t.toList == t.toList) := ⟨_, rfl⟩
        rw [← hq] at hcl
        have HQ := Lib.hid hq
        have HCL := Lib.hid hcl
        obtain ⟨ut, uk⟩ := u
        simp only at c0 c1
        clear g0 g1 hu hq hcl
        cases q
        · go_wp2_with fail
          refine HCL.out.mono ?_
          rintro e w2 ⟨rfl, hb2⟩
          have HB2 := Lib.hid (into HB.out hb2)
          clear hb2
          go_wp2_with fail
          go_roundw
          case rel =>
            refine ⟨k + 1, by omega, by go_num, fun j hj => ?_, HB2.out⟩
            rcases Nat.lt_or_ge j k with h | h
            · exact HA.out j h
            · obtain rfl : j = k := by omega
              intro e
              rw [← HU.out] at e
              have h1 := HQ.out
              simp only at e h1
              rw [e] at h1
              simp at h1
          case measure => (simp [intOf]) <;> omega
        · go_wp2_with fail
          refine HCL.out.mono ?_
          rintro e w2 ⟨rfl, hb2⟩
          have HB2 := Lib.hid (into HB.out hb2)
          clear hb2
          go_wp2_with fail
          go_ret
          refine ⟨ri ?_, HB2.out⟩
          refine (plI_hit (by rw [← HN.out]; exact hlt) HA.out ?_).symm
          rw [← HU.out]
          have h1 := HQ.out.symm
          simp only at h1 ⊢
          refine str_ext ?_
          rw [beq_iff_eq, Lib.toList_data, Lib.toList_data] at h1
          exact h1
      · obtain rfl : k = n := by omega
        go_wp2_with fail
        go_ret
        exact ⟨ri (plI_none (fun j hj => HA.out j (by rw [HN.out]; exact hj))).symm, HB.out⟩
theorem place_any (w : World) (n : Nat) (v : Value) (l : List Cq) (t : ByteArray) (hr : Rd w 2 n v (ccs l)) : Calls Tryz.prog 29 #[v, .string t] w fun e w' => e = .returned (.int .i64 (plI l t)) ∧ Below w.heap.size w w' := by
  have hb : Below w.heap.size w (w.alloc (.cells #[.string t] 9)) := (Below.refl _ _).alloc (Nat.le_refl _) _
  have hx : (w.alloc (.cells #[.string t] 9)).cell? ⟨w.heap.size, 0, none⟩ = some (.string t) := by
    have h := new0 w (.cells #[.string t] 9)
    simp only [World.cell?]
    rw [h]
    rfl
  have HI := Lib.hid (idxcol_any _ n v l t w.heap.size (hr.below hb) hx)
  have HB := Lib.hid hb
  clear hb hx hr
  go_enter Tryz.func29, Tryz.ntmps29
  go_wp2_with fail
  refine HI.out.mono ?_
  rintro e w1 ⟨rfl, hb1⟩
  go_wp2_with fail
  go_ret
  exact ⟨rfl, into HB.out hb1⟩
theorem kindOfOne_any (w : World) (k a : Int) : Calls Tryz.prog 30 #[.int .i64 k, .int .i64 a] w (KindIs (onK k a) w) := by
  by_cases h5 : k = 5
  · subst h5
    obtain ⟨q, hq⟩ : ∃ q, q = (a == 1 || a == 0) := ⟨_, rfl⟩
    have HK := Lib.hid (fun w => known_any w a 1 q hq.symm)
    have hF : onK 5 a = if q = true then (0, 1) else (4, 0) := by
      unfold onK
      rw [hq]
      by_cases h1 : a = 1 <;> by_cases h0 : a = 0 <;> simp [h1, h0]
    have HF := Lib.hid hF
    clear hq hF
    cases q
    all_goals (
      go_enter Tryz.func30, Tryz.ntmps30
      go_wp2_with (go_at_call 11; ((with_reducible refine (HK.out _).mono ?_); rintro e w' ⟨rfl, rfl⟩))
      go_returns
      rw [HF.out]
      exact ⟨rfl, rfl⟩)
  · have h5' : (k == 5) = false := by simpa using h5
    have HF : Hid (onK k a = (0, 1)) := by
      show _ = _
      unfold onK
      rw [if_neg (by omega)]
    go_enter Tryz.func30, Tryz.ntmps30
    go_wp2_with fail
    go_returns
    rw [HF.out]
    exact ⟨rfl, rfl⟩
theorem ifKnown_any (w : World) (k a b : Int) : Calls Tryz.prog 48 #[.int .i64 k, .int .i64 a, .int .i64 b] w (KindIs (ifK k a b) w) := by
  obtain ⟨p, hp⟩ : ∃ p, p = (a == k || a == 0) := ⟨_, rfl⟩
  obtain ⟨q, hq⟩ : ∃ q, q = (b == k || b == 0) := ⟨_, rfl⟩
  have HP := Lib.hid (fun w => known_any w a k p hp.symm)
  have HQ := Lib.hid (fun w => known_any w b k q hq.symm)
  have hF : ifK k a b = if p = true ∧ q = true then (0, k) else (4, 0) := by
    unfold ifK
    rw [hp, hq]
    by_cases h1 : a = k <;> by_cases h2 : a = 0 <;> by_cases h3 : b = k <;> by_cases h4 : b = 0 <;> simp [h1, h2, h3, h4]
  have HF := Lib.hid hF
  clear hp hq hF
  cases p <;> cases q
  all_goals (
    go_enter Tryz.func48, Tryz.ntmps48
    go_wp2_with (first | (go_at_call 11; ((with_reducible refine (HP.out _).mono ?_); rintro e w' ⟨rfl, rfl⟩)) | (go_at_call 11; ((with_reducible refine (HQ.out _).mono ?_); rintro e w' ⟨rfl, rfl⟩)))
    go_returns
    rw [HF.out]
    exact ⟨rfl, rfl⟩)
end Go.Proofs.YtmfkdpfcpdmkdaaGreatDoor
