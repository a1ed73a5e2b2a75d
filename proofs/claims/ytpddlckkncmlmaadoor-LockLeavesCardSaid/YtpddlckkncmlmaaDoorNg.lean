/- May the queue stand so: the program. -/
import Derived.Test.YtpddlckkncmlmaaDoorNf
import Derived.BigQuiet
namespace Go.Proofs.YtpddlckkncmlmaaDoor
open Go.ChangeShapes Go.WideShapes Go.ChangeAt Go.RowKit
set_option linter.unusedVariables false
set_option linter.unusedSimpArgs false
set_option maxHeartbeats 8000000
theorem onceL_len {l : List Int} : (onceL l).length = 0 ↔ l.isEmpty = true := by
  constructor
  · intro h
    have h0 : onceL l = [] := List.eq_nil_of_length_eq_zero h
    cases l with
    | nil => rfl
    | cons a l =>
      exfalso
      unfold onceL Lib.compact Lib.compactUpTo at h0
      rw [List.map_eq_nil_iff, List.filter_eq_nil_iff] at h0
      refine h0 0 ?_ (Lib.keeps_lt_one _ 0 (by omega))
      rw [List.mem_range, srtL_len]
      simp
  · intro h
    have : l = [] := by simpa using h
    subst this
    have e := Lib.compact_length_le (srtL [])
    rw [srtL_len] at e
    unfold onceL
    simpa using e
theorem queOk_no {h l : List Lk} {k : Nat} (hk : k < l.length) (hf : queF h l k = true) : queOk h l = false := by
  unfold queOk
  rw [List.all_eq_false]
  exact ⟨k, List.mem_range.2 hk, by simp [hf]⟩
theorem queOk_yes {h l : List Lk} (hf : ∀ k, k < l.length → queF h l k = false) : queOk h l = true := by
  unfold queOk
  rw [List.all_eq_true]
  exact fun k hk => by simp [hf k (List.mem_range.1 hk)]
theorem hmd_in {l : List Lk} (x : Lk) (hm : Mds l) : 0 ≤ hmd l x ∧ hmd l x ≤ 5 := by
  unfold hmd
  split
  · omega
  · rename_i h
    have hlt : (idx (onB x) l).toNat < l.length := by
      unfold idx at h ⊢
      cases hf : l.findIdx? (onB x) with
      | none => rw [hf] at h; simp at h
      | some i => obtain ⟨hi, _⟩ := List.findIdx?_eq_some_iff_getElem.1 hf; simpa using hi
    have := hm _ (mem_getD hlt)
    omega
theorem queueMayBe_any (w : World) (hT : Tog w) (hJ : Jnd w) (nh n : Nat) (hv qv : Value) (held l : List Lk) (hrh : Rd w 3 nh hv (lkc held)) (hr : Rd w 3 n qv (lkc l)) (hmh : Mds held) (hm : Mds l) (hnh : nh ≤ 200) (hn : n ≤ 200) :
    Calls Tryd.prog 52 #[.agg #[hv, qv]] w fun e w' => e = .returned (.bool (queOk held l)) ∧ Below w.heap.size w w' := by
  have hml := len_l hr
  obtain ⟨_, ah, ch, rfl, _⟩ := id hrh
  by_cases h0 : n = 0
  · have hl0 : l = [] := List.eq_nil_of_length_eq_zero (by omega)
    subst hl0 h0
    obtain ⟨_, ao, cap, rfl, _⟩ := hr.zero
    clear hml hrh
    go_enter Tryd.func52, Tryd.ntmps52
    go_wp2
    go_rounds 1
    go_ret
    exact ⟨rfl, (Below.refl _ _).alloc (Nat.le_refl _) _⟩
  · obtain ⟨b, o, cap, rfl, hcap, hcm, hbw, hcell⟩ := lks_of hr (by omega)
    unfold maxLen at hcm
    have HC := Lib.hid hcell
    have HR := Lib.hid hr
    have HRH := Lib.hid hrh
    have HM := Lib.hid hm
    have HMH := Lib.hid hmh
    have HN := Lib.hid hml
    have HT := Lib.hid (And.intro hT hJ)
    clear hcell hr hml hm hT hJ hrh hmh
    go_enter Tryd.func52, Tryd.ntmps52
    go_wp2
    obtain ⟨Wb, hWb⟩ : ∃ Wb : World, Wb = w.alloc (.cells #[.slice ah nh ch, .slice (some ⟨b, o, none⟩) n cap] 24) := ⟨_, rfl⟩
    have hbb : Below w.heap.size w Wb := by rw [hWb]; exact (Below.refl _ _).alloc (Nat.le_refl _) _
    have s0 : Wb.cell? ⟨w.heap.size, 0, none⟩ = some (.slice ah nh ch) := by rw [hWb]; go_simp
    have s1 : Wb.cell? ⟨w.heap.size, 1, none⟩ = some (.slice (some ⟨b, o, none⟩) n cap) := by rw [hWb]; go_simp
    rw [← hWb]
    have HS := Lib.hid (And.intro s0 s1)
    have HBB := Lib.hid hbb
    have hzb : Wb.heap.size = w.heap.size + 1 := by rw [hWb]; simp
    clear hWb hbb s0 s1
    go_loopw [11] (fun i wr => ∃ k : Nat, k ≤ n ∧ i = .int .i64 (k : Int) ∧ Hid (∀ j, j < k → queF held l j = false) ∧ Hid (Below Wb.heap.size Wb wr)) (fun i _ => n - (intOf i).toNat)
    case atStart => exact ⟨0, by omega, rfl, (fun j hj => absurd hj (by omega)), Below.refl _ _⟩
    case round =>
      obtain ⟨k, hk, rfl, HA, HB⟩ := hrel
      by_cases hlt : k < n
      · obtain ⟨g0, g1, g2⟩ := HC.out k hlt
        have hB := into HBB.out HB.out
        have c0 := (hB.cell (p := ⟨b, o + k * 3, none⟩) hbw).trans g0
        have c1 := (hB.cell (p := ⟨b, o + k * 3 + 1, none⟩) hbw).trans g1
        have c2 := (hB.cell (p := ⟨b, o + k * 3 + 2, none⟩) hbw).trans g2
        have hkl : k < l.length := by rw [← HN.out]; exact hlt
        have hxm := HM.out _ (mem_getD hkl)
        have hF : queF held l k = (((l.take k).any (ofB (l.getD k nlk).t) || !moreB held (l.getD k nlk)) || (wts held (l.take k) (l.getD k nlk)).isEmpty) := rfl
        obtain ⟨u, hu⟩ : ∃ u, u = l.getD k nlk := ⟨_, rfl⟩
        rw [← hu] at c0 c1 c2 hxm hF
        have hrt := HR.out.take k (by omega)
        rw [lkc_take] at hrt
        have hwz := HB.out.size
        have hb0 : Below Wb.heap.size Wb (wr.alloc (.cells #[.int .i64 u.t, .string u.th, .int .i64 u.m] 26)) := HB.out.alloc hwz _
        obtain ⟨p0, p1, p2⟩ := BxL.new wr u
        have hmI : moreB held u = (u.m != hmd held u && u.m == joi (hmd held u) u.m) := rfl
        obtain ⟨d0, d1⟩ := hmd_in u HMH.out
        obtain ⟨a1, ha1⟩ : ∃ a1, a1 = (l.take k).any (ofB u.t) := ⟨_, rfl⟩
        obtain ⟨W0, hW0⟩ : ∃ W0 : World, W0 = wr.alloc (.cells #[.int .i64 u.t, .string u.th, .int .i64 u.m] 26) := ⟨_, rfl⟩
        have hz0 : W0.heap.size = wr.heap.size + 1 := by rw [hW0]; simp
        rw [← hW0] at hb0 p0 p1 p2
        have q0 := cell_of_below hb0 HS.out.1
        have q1 := cell_of_below hb0 HS.out.2
        have hb0w : Below w.heap.size w W0 := into HBB.out hb0
        have HHM : Hid (Calls Tryd.prog 19 #[.slice ah nh ch, lkv u] W0.drew fun e w' => e = .returned (.int .i64 (hmd held u)) ∧ Below W0.heap.size W0 w') := by
          have hbd : Below W0.heap.size W0 W0.drew := (Below.refl _ _).drew
          exact (heldMode_any W0.drew nh _ held u (HRH.out.below (into hb0w hbd))).mono fun e w' h => ⟨h.1, into hbd h.2⟩
        have HOF : Hid (∀ W, Below W0.heap.size W0 W → Calls Tryd.prog 32 #[.int .i64 u.t] W fun e w' => ∃ P : Nat, e = .returned (.func (.func 53) #[] #[.pointer (some ⟨P, 0, none⟩)]) ∧ Below W0.heap.size W0 w' ∧
            Calls Tryd.prog 37 #[.slice (some ⟨b, o, none⟩) k cap, .func (.func 53) #[] #[.pointer (some ⟨P, 0, none⟩)]] w' fun e w' => e = .returned (.bool a1) ∧ Below W0.heap.size W0 w') := by
          intro W hW
          have hs := of_says W u.t (l.take k)
          refine (of_maker W u.t).mono ?_
          rintro e w' ⟨rfl, rfl⟩
          have hbn : Below W0.heap.size W0 (W.alloc (.cells #[.int .i64 u.t] 3)) := hW.alloc hW.size _
          refine ⟨_, rfl, hbn, (con_of _ k _ (l.take k) (ofB u.t) _ (hrt.below (into hb0w hbn)) hs).mono ?_⟩
          rintro e w2 ⟨rfl, hb2'⟩
          exact ⟨by rw [ha1], into hbn hb2'⟩
        have HWF : Hid (∀ W, Below W0.heap.size W0 W → Calls Tryd.prog 20 #[.slice ah nh ch, .slice (some ⟨b, o, none⟩) k cap, lkv u] W fun e w' => ∃ (av : Option Addr) (nv cv : Nat), e = .returned (.slice av nv cv) ∧ nv = (onceL (wts held (l.take k) u)).length ∧ Below W0.heap.size W0 w') := by
          intro W hW
          refine (waitsFor_any W (HT.out.1.below (into hb0w hW)) nh k _ _ held (l.take k) u hxm HMH.out (HRH.out.below (into hb0w hW)) (hrt.below (into hb0w hW)) (by omega) (by omega)).mono ?_
          rintro e w' ⟨v', rfl, hown, hb'⟩
          obtain ⟨_, av, cv, rfl, _⟩ := Rd.own hown
          exact ⟨av, _, cv, rfl, rfl, into hW hb'⟩
        obtain ⟨dn, hdn⟩ : ∃ dn : Nat, hmd held u = (dn : Int) := ⟨(hmd held u).toNat, by omega⟩
        obtain ⟨mn, hmn⟩ : ∃ mn : Nat, u.m = (mn : Int) := ⟨u.m.toNat, by omega⟩
        have HJ : Hid (∀ W, Below W0.heap.size W0 W → W.cell? ⟨0, dn * 6 + mn, none⟩ = some (.int .i64 (joi dn mn))) := fun W hW => by
          have := (HT.out.2.below (into hb0w hW)).at (a := (dn : Int)) (b := (mn : Int)) (by omega) (by omega)
          simpa only [Int.toNat_natCast] using this
        have hen : (onceL (wts held (l.take k) u)).length = 0 ↔ (wts held (l.take k) u).isEmpty = true := onceL_len
        obtain ⟨N, hN⟩ : ∃ N, N = (onceL (wts held (l.take k) u)).length := ⟨_, rfl⟩
        obtain ⟨em, hem⟩ : ∃ em, em = (wts held (l.take k) u).isEmpty := ⟨_, rfl⟩
        rw [← hN, ← hem] at hen
        rw [← hN] at HWF
        rw [← ha1, ← hem, hmI, hdn, hmn] at hF
        rw [hdn] at HHM
        obtain ⟨ut, uth, um⟩ := u
        simp only at hmn
        subst hmn
        simp only at c0 c1 c2 p0 p1 p2 hF hxm
        have hdI : (dn : Int) < 6 := by omega
        have hmI2 : (mn : Int) < 6 := by omega
        have HF := Lib.hid hF
        have HB0 := Lib.hid hb0w
        have HBW0 := Lib.hid hb0
        have HW0 := Lib.hid hW0
        have HEN := Lib.hid hen
        have hkc : (k : Int) ≤ (cap : Int) := by omega
        clear g0 g1 g2 hu hF hrt hb0 hb0w ha1 hW0 hB hxm hmI hdn hN hem d0 d1 hen
        go_wp2_with fail
        rw [← HW0.out]
        first
          | (go_region_held3 (fun wx => wx.cell? ⟨w.heap.size, 0, none⟩ = some (.slice ah nh ch) ∧ wx.cell? ⟨w.heap.size, 1, none⟩ = some (.slice (some ⟨b, o, none⟩) n cap) ∧ wx.cell? ⟨wr.heap.size, 0, none⟩ = some (.int .i64 ut) ∧ wx.cell? ⟨wr.heap.size, 1, none⟩ = some (.string uth) ∧ wx.cell? ⟨wr.heap.size, 2, none⟩ = some (.int .i64 (mn : Int)))
              ((first
                | (with_reducible exact ⟨cell_dr q0, cell_dr q1, cell_dr p0, cell_dr p1, cell_dr p2⟩)
                | (with_reducible exact ⟨cell_of_below hb2 q0, cell_of_below hb2 q1, cell_of_below hb2 p0, cell_of_below hb2 p1, cell_of_below hb2 p2⟩)))
              ((first
                | (go_at_call 19; ((with_reducible refine HHM.out.mono ?_); rintro e w2 ⟨rfl, hb2⟩)))))
          | fail
        have HB2 := Lib.hid hb2
        have HPQ := Lib.hid (And.intro p0 (And.intro p1 (And.intro p2 (And.intro q0 q1))))
        have y0 := cell_of_below hb2 q0
        have y1 := cell_of_below hb2 q1
        have x0 := cell_of_below hb2 p0
        have x1 := cell_of_below hb2 p1
        have x2 := cell_of_below hb2 p2
        have cj := HJ.out w2 hb2
        clear hb2 p0 p1 p2 q0 q1 c0 c1 c2 HJ HHM
        obtain ⟨q, hq⟩ : ∃ q, q = (((mn : Nat) : Int) == joi dn mn) := ⟨_, rfl⟩
        obtain ⟨jo, hjo⟩ : ∃ jo, jo = joi dn mn := ⟨_, rfl⟩
        rw [← hjo] at cj hq
        have hF2 : queF held l k = ((a1 || !((mn : Int) != (dn : Int) && q)) || em) := by rw [HF.out, hq, hjo]
        have HF2 := Lib.hid hF2
        clear hF2 hjo HF
        by_cases hdm : mn = dn
        · subst hdm
          have hFN : queF held l k = true := by rw [HF2.out]; simp
          have HFN := Lib.hid hFN
          clear hFN HF2 hq
          go_wp2_with fail
          go_quiet (fail)
          go_wp2_with fail
          have hbq : ∀ m, Below W0.heap.size W0 (w2.drewN m) := fun m => below_drewN HB2.out m
          refine (HOF.out _ (hbq _)).mono ?_
          rintro e w3 ⟨P, rfl, hb3, hc3⟩
          go_wp2_with fail
          refine hc3.mono ?_
          rintro e w4 ⟨rfl, hb4⟩
          have HB4 := Lib.hid hb4
          clear hb3 hb4 hc3
          cases a1
          all_goals (
            go_wp2_with fail
            go_ret
            exact ⟨rb (by rw [queOk_no hkl HFN.out]), into HB0.out HB4.out⟩)
        · have hd1 : ((mn : Int) == (dn : Int)) = false := by simp; omega
          have hd2 : ((mn : Int) != (dn : Int)) = true := by simp; omega
          have hq' := hq.symm
          have HQ := Lib.hid hq
          clear hq
          cases a1
          · cases q
            · have hFN : queF held l k = true := by rw [HF2.out, hd2]; simp
              have HFN := Lib.hid hFN
              clear hFN HF2
              go_wp2_with fail
              go_quiet (fail)
              go_wp2_with fail
              have hbq : ∀ m, Below W0.heap.size W0 (w2.drewN m) := fun m => below_drewN HB2.out m
              refine (HOF.out _ (hbq _)).mono ?_
              rintro e w3 ⟨P, rfl, hb3, hc3⟩
              go_wp2_with fail
              refine hc3.mono ?_
              rintro e w4 ⟨rfl, hb4⟩
              have HB4 := Lib.hid hb4
              clear hb3 hb4 hc3
              go_wp2_with fail
              go_ret
              exact ⟨rb (by rw [queOk_no hkl HFN.out]), into HB0.out HB4.out⟩
            · have hFE : queF held l k = em := by rw [HF2.out, hd2]; simp
              have HFE := Lib.hid hFE
              clear hFE HF2
              go_wp2_with fail
              go_quiet (fail)
              go_wp2_with fail
              have hbq : ∀ m, Below W0.heap.size W0 (w2.drewN m) := fun m => below_drewN HB2.out m
              refine (HOF.out _ (hbq _)).mono ?_
              rintro e w3 ⟨P, rfl, hb3, hc3⟩
              go_wp2_with fail
              refine hc3.mono ?_
              rintro e w4 ⟨rfl, hb4⟩
              have HB4 := Lib.hid hb4
              have z0 := cell_of_below hb4 HPQ.out.1
              have z1 := cell_of_below hb4 HPQ.out.2.1
              have z2 := cell_of_below hb4 HPQ.out.2.2.1
              have z3 := cell_of_below hb4 HPQ.out.2.2.2.1
              clear hb3 hb4 hc3 y0 y1 x0 x1 x2 cj
              go_wp2_with fail
              refine (HWF.out _ HB4.out).mono ?_
              rintro e w5 ⟨av, nv, cv, rfl, rfl, hb5⟩
              have HB5 := Lib.hid (into HBW0.out hb5)
              have HB5w := Lib.hid (into HB0.out hb5)
              clear hb5 z0 z1 z2 z3
              by_cases hN0 : nv = 0
              · subst hN0
                have hem : em = true := HEN.out.1 rfl
                have HEM := Lib.hid hem
                clear hem
                go_wp2_with fail
                go_ret
                exact ⟨rb (by rw [queOk_no hkl (by rw [HFE.out, HEM.out])]), HB5w.out⟩
              · have hN1 : ((nv : Int) == 0) = false := by simp; omega
                have hem : em = false := by
                  cases em
                  · rfl
                  · exact absurd (HEN.out.2 rfl) hN0
                have HEM := Lib.hid hem
                clear hem
                go_wp2_with fail
                go_roundw
                case rel =>
                  refine ⟨k + 1, by omega, by go_num, fun j hj => ?_, HB5.out⟩
                  rcases Nat.lt_or_ge j k with h | h
                  · exact HA.out j h
                  · obtain rfl : j = k := by omega
                    rw [HFE.out, HEM.out]
                case measure => simp [intOf]; omega
          · have hFN : queF held l k = true := by rw [HF2.out]; simp
            have HFN := Lib.hid hFN
            clear hFN HF2
            cases q
            all_goals (
              go_wp2_with fail
              go_quiet (fail)
              go_wp2_with fail
              have hbq : ∀ m, Below W0.heap.size W0 (w2.drewN m) := fun m => below_drewN HB2.out m
              refine (HOF.out _ (hbq _)).mono ?_
              rintro e w3 ⟨P, rfl, hb3, hc3⟩
              go_wp2_with fail
              refine hc3.mono ?_
              rintro e w4 ⟨rfl, hb4⟩
              have HB4 := Lib.hid hb4
              clear hb3 hb4 hc3
              go_wp2_with fail
              go_ret
              exact ⟨rb (by rw [queOk_no hkl HFN.out]), into HB0.out HB4.out⟩)
      · obtain rfl : k = n := by omega
        go_wp2_with fail
        go_ret
        exact ⟨rb (by rw [queOk_yes (fun j hj => HA.out j (by rw [HN.out]; exact hj))]), into HBB.out HB.out⟩
end Go.Proofs.YtpddlckkncmlmaaDoor
