/- A Create that makes columns, and columns alone: what they lack, by the program. -/
import Derived.Test.YtcgomhcglnbalaaDoorQk
namespace Go.Proofs.YtcgomhcglnbalaaDoor
open Go.ChangeShapes Go.WideShapes Go.ChangeAt Go.RowKit
set_option linter.unusedVariables false
set_option linter.unusedSimpArgs false
set_option maxHeartbeats 4000000
set_option maxRecDepth 1000000
theorem show_create (w : World) (hT : Tbs w) (t : ByteArray) (ht : t.size ≤ 1000) (n : Nat) (v : Value) (l : List Cq) (hn0 : 0 < n) (hn : n ≤ 1000) (hr : Rd w 2 n v (ccs l)) (hok : ColOk l) (hs : ∀ c ∈ l, c.t.size ≤ 1000) :
    Calls Tryd.prog 34 #[crV t v] w (ToksIs (crT t l) w) := by
  obtain ⟨ao, cap, rfl⟩ : ∃ ao cap, v = .slice ao n cap := by
    obtain ⟨_, ao, cap, h, _⟩ := id hr
    exact ⟨ao, cap, h⟩
  have hlen := btwc_len l
  have hnl := len_c hr
  have hb0 : Below w.heap.size w (w.alloc (.cells (crC t (.slice ao n cap)) 49)) := (Below.refl _ _).alloc (Nat.le_refl _) _
  obtain ⟨W0, hW0⟩ : ∃ W0, W0 = w.alloc (.cells (crC t (.slice ao n cap)) 49) := ⟨_, rfl⟩
  have hsz : w.heap.size < W0.heap.size := by rw [hW0]; simp
  have hbx := CrB.new w t (.slice ao n cap) (w1 := W0) (by rw [hW0]; exact Below.refl _ _)
  rw [← hW0] at hb0
  have HP4 : Hid (∀ W B, Below W0.heap.size W0 W → Rd W 1 4 (.slice (some ⟨B, 0, none⟩) 4 4) ([sCREATE, sTABLE, t, sOpen].map Value.string) → Calls Tryd.prog 52 #[.slice (some ⟨B, 0, none⟩) 4 4] W (ToksIs [ptk sCREATE, ptk sTABLE, ptk t, ptk sOpen] W)) := fun W B hW hv => plain_any W (hT.m.below (into hb0 hW)) 4 _ _ (by omega) (by omega) hv (by simp; exact ⟨by decide, by decide, ht, by decide⟩)
  have HP1 : Hid (∀ W B, Below W0.heap.size W0 W → Rd W 1 1 (.slice (some ⟨B, 0, none⟩) 1 1) ([sClose].map Value.string) → Calls Tryd.prog 52 #[.slice (some ⟨B, 0, none⟩) 1 1] W (ToksIs [ptk sClose] W)) := fun W B hW hv => plain_any W (hT.m.below (into hb0 hW)) 1 _ _ (by omega) (by omega) hv (by simp; decide)
  have HBT : Hid (∀ W, Below W0.heap.size W0 W → Calls Tryd.prog 53 #[.slice ao n cap, .func (.func 54) #[] #[]] W (ToksIs (btw comma shC l) W)) := fun W hW => between_any W (hT.below (into hb0 hW)) n _ l hn0 hn (hr.below (into hb0 hW)) hok hs
  have HLN : Hid ([ptk sCREATE, ptk sTABLE, ptk t, ptk sOpen].length + ((btw comma shC l).length + [ptk sClose].length) ≤ 1000000) := by
    show _ ≤ _
    simp only [List.length_cons, List.length_nil]
    omega
  have HB0 := Lib.hid hb0
  have HW := Lib.hid hW0
  have HSZ := Lib.hid hsz
  have HBX := Lib.hid hbx
  clear hT hr hok hs hb0 hW0 hsz hbx hlen hnl
  go_enter Tryd.func34, Tryd.ntmps34
  go_wp2_with fail
  rw [← HW.out]
  change Code.wp _ ((regionOf 3 (Tryd.f34.body.getD .skip)).getD .skip) _ _ _
  refine show3 _ _ _ _ _ _ _ _ _ _ _ _ _ _ _ _ _ _ _ _ _ _ _ _ _ _ _ _ _ _ _ _ _ _ _ _ _ _ _ _ _ _ _ _ _ _ _ _ _ _ _ _ _ _ _ _ _ _ _ _ _ _ _ _ _ _ _ _ _ _ _ _ _ _ _ _ _ _ W0 w.heap.size HSZ.out t ao n cap (btw comma shC l) HBX.out.c1 HBX.out.c2 HP4 HP1 HBT HLN (Lib.hid ?_)
  intro e7 e8 e9 e10 e11 e12 e13 e14 e15 e16 e17 v5 w5 h5
  have H5 := Lib.hid h5
  clear h5
  go_wp2_with fail
  go_ret
  exact ToksIs.from H5.out HB0.out
/-- What a Create lacks. -/
def crF (t : ByteArray) (l : List Cq) : Int := if nmF t.data.toList ≠ 0 then nmF t.data.toList else colsF l
theorem nm_size {t : ByteArray} (h : nmF t.data.toList = 0) : t.size ≤ 8 := by
  have hl := len_size t
  by_cases h8 : 8 < t.data.toList.length
  · rw [nm_long h8] at h
    omega
  · omega
theorem check_create (w : World) (hT : Tbs w) (t : ByteArray) (ht : t.size ≤ maxLen) (n : Nat) (v : Value) (l : List Cq) (hr : Rd w 2 n v (ccs l)) (hs : ∀ c ∈ l, c.t.size ≤ maxLen) :
    Calls Tryd.prog 17 #[crV t v] w fun e w' => e = .returned (.int .i64 (crF t l)) ∧ Below w.heap.size w w' := by
  have hnl := len_c hr
  obtain ⟨ao, cap, rfl⟩ : ∃ ao cap, v = .slice ao n cap := by
    obtain ⟨_, ao, cap, h, _⟩ := id hr
    exact ⟨ao, cap, h⟩
  have HB0 : Hid (Below w.heap.size w (w.alloc (.cells (crC t (.slice ao n cap)) 49))) := (Below.refl _ _).alloc (Nat.le_refl _) _
  have HNEW := Lib.hid (fun w1 hb => CrB.new w t (.slice ao n cap) (w1 := w1) hb)
  have hF : crF t l = if nmF t.data.toList ≠ 0 then nmF t.data.toList else colsF l := rfl
  have hnm := fun W (hW : Below w.heap.size w W) => name_any W (hT.m.below hW) (hT.k.below hW) t ht
  obtain ⟨r, hr'⟩ : ∃ r, r = nmF t.data.toList := ⟨_, rfl⟩
  rw [← hr'] at hF hnm
  have hpt := fun W (hW : Below w.heap.size w W) => checkParts_create W (hT.m.below hW) (hT.k.below hW) t n _ l (hr.below hW) hs
  have hsh : r = 0 → colsF l = 0 → ∀ W, Below w.heap.size w W → Calls Tryd.prog 34 #[crV t (.slice ao n cap)] W (ToksIs (crT t l) W) ∧ (crT t l).length ≤ 23 := fun h0 hc W hW => by
    obtain ⟨g1, g2, g3⟩ := colsF_ok hc
    refine ⟨show_create W (hT.below hW) t (by have := nm_size (t := t) (by rw [← hr']; exact h0); omega) n _ l (by omega) (by omega) (hr.below hW) g1 fun c hcm => ?_, ?_⟩
    · have := nm_size (g1 c hcm).1
      omega
    · have := crT_len t l
      omega
  obtain ⟨q, hq⟩ : ∃ q, q = colsF l := ⟨_, rfl⟩
  rw [← hq] at hF hpt hsh
  have HF := Lib.hid hF
  have HNM := Lib.hid hnm
  have HPT := Lib.hid hpt
  have HSH := Lib.hid hsh
  have HHM := Lib.hid (fun W => hasMore_create W t ao n cap)
  clear hF hnm hpt hsh hr' hq hr hs hT hnl ht
  by_cases h0 : r = 0
  · subst h0
    by_cases hq0 : q = 0
    · subst hq0
      go_enter Tryd.func17, Tryd.ntmps17
      go_wp2_with fail
      refine (HNM.out _ HB0.out).mono ?_
      rintro e w1 ⟨rfl, hb1⟩
      obtain ⟨x0, x1, x2, x3, x4, x5, x6, x7, x8, x9, x10, x11⟩ := HNEW.out w1 hb1
      have HI1 := Lib.hid hb1
      have HB1 := Lib.hid (into HB0.out hb1)
      clear hb1
      go_wp2_with fail
      refine (HPT.out _ HB1.out).mono ?_
      rintro e w2 ⟨rfl, hb2⟩
      clear x0 x1 x2 x3 x4 x5 x6 x7 x8 x9 x10 x11
      obtain ⟨x0, x1, x2, x3, x4, x5, x6, x7, x8, x9, x10, x11⟩ := HNEW.out w2 (into HI1.out hb2)
      have HI2 := Lib.hid (into HI1.out hb2)
      have HB2 := Lib.hid (into HB1.out hb2)
      clear hb2
      go_wp2_with fail
      refine (HHM.out _).mono ?_
      rintro e w3 ⟨rfl, hb3⟩
      clear x0 x1 x2 x3 x4 x5 x6 x7 x8 x9 x10 x11
      obtain ⟨x0, x1, x2, x3, x4, x5, x6, x7, x8, x9, x10, x11⟩ := HNEW.out w3 (into HI2.out hb3)
      have HB3 := Lib.hid (into HB2.out hb3)
      clear hb3
      go_wp2_with fail
      refine (HSH.out trivial trivial _ HB3.out).1.mono ?_
      have hln := (HSH.out trivial trivial _ HB3.out).2
      rintro e w4 ⟨v4, rfl, hown4, hb4⟩
      obtain ⟨a4, q4, rfl⟩ := own_shape hown4
      obtain ⟨m, hm⟩ : ∃ m, m = (crT t l).length := ⟨_, rfl⟩
      rw [← hm] at hln
      rw [← hm]
      have HB4 := Lib.hid (into HB3.out hb4)
      clear hb4 hown4 hm x0 x1 x2 x3 x4 x5 x6 x7 x8 x9 x10 x11
      go_wp2_with fail
      go_ret
      exact ⟨ri (by rw [HF.out]; rfl), HB4.out⟩
    · have hq0' : (q == 0) = false := by simpa using hq0
      go_enter Tryd.func17, Tryd.ntmps17
      go_wp2_with fail
      refine (HNM.out _ HB0.out).mono ?_
      rintro e w1 ⟨rfl, hb1⟩
      obtain ⟨x0, x1, x2, x3, x4, x5, x6, x7, x8, x9, x10, x11⟩ := HNEW.out w1 hb1
      have HB1 := Lib.hid (into HB0.out hb1)
      clear hb1
      go_wp2_with fail
      refine (HPT.out _ HB1.out).mono ?_
      rintro e w2 ⟨rfl, hb2⟩
      have HB2 := Lib.hid (into HB1.out hb2)
      clear hb2 x0 x1 x2 x3 x4 x5 x6 x7 x8 x9 x10 x11
      go_wp2_with fail
      go_ret
      exact ⟨ri (by rw [HF.out]; rfl), HB2.out⟩
  · have h0' : (r == 0) = false := by simpa using h0
    go_enter Tryd.func17, Tryd.ntmps17
    go_wp2_with fail
    refine (HNM.out _ HB0.out).mono ?_
    rintro e w1 ⟨rfl, hb1⟩
    have HB1 := Lib.hid (into HB0.out hb1)
    clear hb1
    go_wp2_with fail
    go_ret
    exact ⟨ri (by rw [HF.out, if_pos h0]), HB1.out⟩
theorem nm_t : nmF [116] = 0 := by decide +kernel
theorem cols_any (w : World) (hT : Tbs w) (n : Nat) (v : Value) (l : List Cq) (hr : Rd w 2 n v (ccs l)) (hs : ∀ c ∈ l, c.t.size ≤ maxLen) :
    Calls Tryd.prog 7 #[v] w fun e w' => e = .returned (.int .i64 (colsF l)) ∧ Below w.heap.size w w' := by
  obtain ⟨ao, cap, rfl⟩ : ∃ ao cap, v = .slice ao n cap := by
    obtain ⟨_, ao, cap, h, _⟩ := id hr
    exact ⟨ao, cap, h⟩
  have hc := check_create w hT ⟨#[116]⟩ (by show (1 : Nat) ≤ maxLen; unfold maxLen; omega) n _ l hr hs
  have hF : crF ⟨#[116]⟩ l = colsF l := by
    unfold crF
    rw [show (⟨#[116]⟩ : ByteArray).data.toList = [116] from rfl, nm_t, if_neg (by simp)]
  rw [hF] at hc
  have HC := Lib.hid hc
  clear hc hF hr hs hT
  go_enter Tryd.func7, Tryd.ntmps7
  go_wp2_with fail
  refine HC.out.mono ?_
  rintro e w1 ⟨rfl, hb1⟩
  go_wp2_with fail
  go_ret
  exact ⟨rfl, hb1⟩
end Go.Proofs.YtcgomhcglnbalaaDoor
