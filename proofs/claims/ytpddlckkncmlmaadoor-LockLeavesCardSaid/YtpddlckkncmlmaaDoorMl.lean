/- Locks of one that leaves, taken out of a row that the call owns. -/
import Derived.Test.YtpddlckkncmlmaaDoorMh
import Derived.Test.YtpddlckkncmlmaaDoorMb
namespace Go.Proofs.YtpddlckkncmlmaaDoor
open Go.ChangeShapes Go.WideShapes Go.ChangeAt Go.RowKit
set_option linter.unusedVariables false
set_option linter.unusedSimpArgs false
set_option maxHeartbeats 8000000
set_option maxRecDepth 100000
theorem drop_cons {l : List Lk} {j : Nat} (h : j < l.length) : l.drop j = l.getD j nlk :: l.drop (j + 1) := by rw [gd h]; exact List.drop_eq_getElem_cons h
theorem df_keep {l A M : List Lk} {q : Lk → Bool} {i j : Nat} (hA : (l.take j).filter q = A) (hi : A.length = i) (hij : i < j) (hM : i + M.length = j) (hj : j < l.length) (hq : q (l.getD j nlk) = true) :
    (l.take (j + 1)).filter q = A ++ [l.getD j nlk] ∧ ∃ M', i + 1 + M'.length = j + 1 ∧ (A ++ M ++ l.drop j).set i (l.getD j nlk) = A ++ [l.getD j nlk] ++ M' ++ l.drop (j + 1) := by
  constructor
  · rw [gd hj] at hq ⊢
    rw [List.take_succ_eq_append_getElem hj, List.filter_append, hA]
    simp [hq]
  · rw [drop_cons hj]
    cases M with
    | nil => simp at hM; omega
    | cons m M =>
      refine ⟨M ++ [l.getD j nlk], by simp at hM ⊢; omega, ?_⟩
      subst hi
      simp [List.set_append_right]
theorem df_skip {l A M : List Lk} {q : Lk → Bool} {i j : Nat} (hA : (l.take j).filter q = A) (hM : i + M.length = j) (hj : j < l.length) (hq : q (l.getD j nlk) = false) :
    (l.take (j + 1)).filter q = A ∧ i + (M ++ [l.getD j nlk]).length = j + 1 ∧ A ++ M ++ l.drop j = A ++ (M ++ [l.getD j nlk]) ++ l.drop (j + 1) := by
  refine ⟨?_, by simp; omega, ?_⟩
  · rw [gd hj] at hq
    rw [List.take_succ_eq_append_getElem hj, List.filter_append, hA]
    simp [hq]
  · rw [drop_cons hj]
    simp
theorem df_first {l : List Lk} {p : Lk → Bool} {i : Nat} (h : idx p l = (i : Int)) : i < l.length ∧ (l.take (i + 1)).filter (fun x => !p x) = l.take i := by
  unfold idx at h
  cases hf : l.findIdx? p with
  | none => rw [hf] at h; simp at h
  | some k =>
    rw [hf] at h
    obtain rfl : k = i := by simp only at h; omega
    obtain ⟨hk, hp, hno⟩ := List.findIdx?_eq_some_iff_getElem.1 hf
    refine ⟨hk, ?_⟩
    rw [List.take_succ_eq_append_getElem hk, List.filter_append]
    have e : (l.take k).filter (fun x => !p x) = l.take k := by
      rw [List.filter_eq_self]
      intro x hx
      obtain ⟨j, hj, rfl⟩ := List.mem_iff_getElem.1 hx
      have hj' : j < k := by simp at hj; omega
      have := hno j hj'
      simp only [List.getElem_take]
      simpa using this
    rw [e]
    simp [hp]
theorem filter_none {l : List Lk} {p : Lk → Bool} (h : idx p l < 0) : l.filter (fun x => !p x) = l := by
  rw [List.filter_eq_self]
  intro x hx
  simp [idx_lt h x hx]
theorem notB_is (t : Int) : notB t = fun x => !ofB t x := rfl
theorem over_zero (xs : List Value) (i : Nat) (vs : List Value) (h : i + vs.length ≤ xs.length) : (overL xs i vs).take i = xs.take i := by
  unfold overL
  rw [List.append_assoc, List.take_append_of_le_length (by simp; omega), List.take_take, Nat.min_self]
theorem getD_mid {l A M : List Lk} {i j : Nat} (hA : A.length = i) (hM : i + M.length = j) : (A ++ M ++ l.drop j).getD j nlk = l.getD j nlk := by
  rw [List.getD_eq_getElem?_getD, List.getD_eq_getElem?_getD, List.getElem?_append_right (by simp; omega)]
  simp only [List.length_append]
  rw [show j - (A.length + M.length) = 0 by omega, List.getElem?_drop, Nat.add_zero]
theorem zero_lk : ∀ u ∈ (Value.agg #[.int .i64 0, .string ⟨#[]⟩, .int .i64 0]).cells.toList, u.oneCell' = true := by
  intro u hu
  simp [Value.cells] at hu
  rcases hu with rfl | rfl | rfl <;> rfl
theorem zero_len (n : Nat) : (Builtin.zeroCells (Value.agg #[.int .i64 0, .string ⟨#[]⟩, .int .i64 0]).cells n).toList.length = n * 3 := by simp [Builtin.zeroCells, Value.cells]
theorem BxI.grown {w w' : World} {P : Nat} {t : Int} {row : Option Nat} (h : BxI w P t) (hg : w.grownBy w' row) (hne : row ≠ some P) : BxI w' P t := hg.cell h (fun e => hne e.symm)
theorem deleteOf_any (w : World) (B P : Nat) (v : Value) (l : List Lk) (t : Int) (hown : w.ownsRow B 26 3 v l.length (lkc l)) (hB : B ≤ w.heap.size) (hn : l.length ≤ 1000000) (hx : BxI w P t) (hP : v.ownBlock ≠ some P) :
    Calls Tryd.prog 31 #[v, .func (.func 53) #[] #[.pointer (some ⟨P, 0, none⟩)]] w fun e w' => ∃ v', e = .returned v' ∧ w'.ownsRow B 26 3 v' (l.filter (notB t)).length (lkc (l.filter (notB t))) ∧ w.grownBy w' v.ownBlock ∧ ∀ k, v'.ownBlock = some k → v.ownBlock = some k := by
  have hix := idx_of w l.length v l (ofB t) P (Rd.own hown) (fun W hW y hy => of1_any W y t P (hx.below hW))
  by_cases hneg : idx (ofB t) l < 0
  · have hf : l.filter (notB t) = l := by rw [notB_is]; exact filter_none hneg
    rw [hf]
    have hm1 : idx (ofB t) l = -1 := by
      unfold idx at hneg ⊢
      cases h : l.findIdx? (ofB t) with
      | none => rfl
      | some k => rw [h] at hneg; simp only at hneg; omega
    rw [hm1] at hix
    have HIX := Lib.hid hix
    have HO := Lib.hid hown
    obtain ⟨_, av, cv, rfl, _⟩ := Rd.own hown
    clear hix hown hx hneg hf hm1
    go_enter Tryd.func31, Tryd.ntmps31
    go_wp2_with fail
    refine HIX.out.mono ?_
    rintro e w2 ⟨rfl, hb2⟩
    have HO2 := Lib.hid (own_below HO.out hb2)
    have HB2 := Lib.hid hb2
    clear hb2
    go_wp2_with fail
    go_ret
    exact ⟨_, rfl, HO2.out, gb_below HB2.out, fun k hk => hk⟩
  · obtain ⟨i0, hi0⟩ : ∃ i0 : Nat, idx (ofB t) l = (i0 : Int) := ⟨(idx (ofB t) l).toNat, by omega⟩
    obtain ⟨hil, hft⟩ := df_first hi0
    rw [hi0] at hix
    obtain ⟨g, cap, rfl, hBg, hg, hcap, hcm⟩ := own_head hown (by omega)
    unfold maxLen at hcm
    have hPg : g ≠ P := fun e => hP (by rw [e]; rfl)
    obtain ⟨n, hnn⟩ : ∃ n, n = l.length := ⟨_, rfl⟩
    have HN := Lib.hid hnn
    rw [← hnn] at hown hn hcap hil hix ⊢
    have hst : w.ownsRow B 26 3 (.slice (some ⟨g, 0, none⟩) n cap) n (lkc (l.take i0 ++ [l.getD i0 nlk] ++ l.drop (i0 + 1))) := by
      have e : l.take i0 ++ [l.getD i0 nlk] ++ l.drop (i0 + 1) = l := by
        rw [List.append_assoc, List.singleton_append, ← drop_cons (by rw [← hnn]; exact hil), List.take_append_drop]
      rw [e]
      exact hown
    have HIX := Lib.hid hix
    have HST := Lib.hid hst
    have HFT := Lib.hid hft
    have HX := Lib.hid hx
    have hilI : (i0 : Int) + 1 ≤ (n : Int) := by omega
    clear hix hst hown hneg hi0 hnn hft hx hP
    go_enter Tryd.func31, Tryd.ntmps31
    go_wp2_with fail
    refine HIX.out.mono ?_
    rintro e w1 ⟨rfl, hb1⟩
    have HB1 := Lib.hid hb1
    clear hb1
    go_wp2_with fail
    go_loopw [5, 6] (fun si sj wr => ∃ (i j : Nat) (A M : List Lk), si = .int .i64 (i : Int) ∧ sj = .int .i64 (j : Int) ∧ (i < j ∧ j ≤ n ∧ A.length = i ∧ i + M.length = j) ∧ Hid ((l.take j).filter (fun x => !ofB t x) = A) ∧ Hid (wr.ownsRow B 26 3 (.slice (some ⟨g, 0, none⟩) n cap) n (lkc (A ++ M ++ l.drop j))) ∧ Hid (w.grownBy wr (some g))) (fun _ sj _ => n - (intOf sj).toNat)
    case atStart => exact ⟨i0, i0 + 1, l.take i0, [l.getD i0 nlk], rfl, by go_num, ⟨by omega, by omega, by rw [List.length_take, ← HN.out]; omega, rfl⟩, HFT.out, own_below HST.out HB1.out, gb_below HB1.out⟩
    case round =>
      obtain ⟨i, j, A, M, rfl, rfl, ⟨hij, hjn, hAl, hMl⟩, HA, HO, HG⟩ := hrel
      by_cases hlt : j < n
      · obtain ⟨⟨c0, c1, c2⟩, -⟩ := own_lk HO.out hlt
        rw [getD_mid hAl hMl] at c0 c1 c2
        have hjl : j < l.length := by rw [← HN.out]; exact hlt
        have hkeep := fun h => df_keep HA.out hAl hij hMl hjl (q := fun x => !ofB t x) h
        have hskip := fun h => df_skip HA.out hMl hjl (q := fun x => !ofB t x) h
        have hLl : (A ++ M ++ l.drop j).length = n := by
          have := (HO.out).1
          rw [lkc_length] at this
          omega
        obtain ⟨u, hu⟩ : ∃ u, u = l.getD j nlk := ⟨_, rfl⟩
        rw [← hu] at c0 c1 c2 hkeep hskip
        obtain ⟨L, hL⟩ : ∃ L, L = A ++ M ++ l.drop j := ⟨_, rfl⟩
        rw [← hL] at hkeep hskip hLl HO
        obtain ⟨ut, uth, um⟩ := u
        have hbI : Hid (BxI wr P t) := HX.out.grown HG.out (fun e => hPg (Option.some.inj e))
        have HCL : Hid (∀ W, Below wr.heap.size wr W → Calls Tryd.prog 53 (#[.agg #[.int .i64 ut, .string uth, .int .i64 um]] ++ ([.pointer (some ⟨P, 0, none⟩)] : List Value).toArray) W fun e w' => e = .returned (.bool (ofB t ⟨ut, uth, um⟩)) ∧ Below W.heap.size W w') := fun W hW => of1_any W ⟨ut, uth, um⟩ t P (hbI.out.below hW)
        obtain ⟨q, hq⟩ : ∃ q, q = ofB t ⟨ut, uth, um⟩ := ⟨_, rfl⟩
        rw [← hq] at HCL hkeep hskip
        have hBa : Below wr.heap.size wr (wr.alloc (.cells #[.int .i64 ut, .string uth, .int .i64 um] 26)) := (Below.refl _ _).alloc (Nat.le_refl _) _
        obtain ⟨p0, p1, p2⟩ := BxL.new wr ⟨ut, uth, um⟩
        obtain ⟨Wa, hWa⟩ : ∃ Wa, Wa = wr.alloc (.cells #[.int .i64 ut, .string uth, .int .i64 um] 26) := ⟨_, rfl⟩
        rw [← hWa] at hBa p0 p1 p2
        have HWA := Lib.hid hWa
        have HBA := Lib.hid hBa
        simp only at c0 c1 c2 p0 p1 p2
        have hijn : (i : Int) < (n : Int) := by omega
        cases q
        · obtain ⟨hk1, M', hk2, hk3⟩ := hkeep rfl
          have HK := Lib.hid (And.intro hk1 (And.intro hk2 hk3))
          clear hkeep hskip hk1 hk2 hk3 hu hL hq hBa hWa
          go_wp2_with fail
          rw [← HWA.out]
          refine (HCL.out _ HBA.out).mono ?_
          rintro e w2 ⟨rfl, hb2⟩
          have hbw : Below wr.heap.size wr w2 := into HBA.out hb2
          have hO2 := own_below HO.out hbw
          obtain ⟨⟨d0, d1, d2⟩, f0, f1, f2⟩ := own_lk hO2 (show i < n by omega)
          have y0 := cell_of_below hb2 p0
          have y1 := cell_of_below hb2 p1
          have y2 := cell_of_below hb2 p2
          have HO2 := Lib.hid hO2
          have HG2 := Lib.hid (gb_trans HG.out (gb_below hbw))
          clear hO2 hbw hb2 c0 c1 c2 p0 p1 p2
          go_wp2_with fail
          obtain ⟨o1, b1⟩ := HO2.out.stored (i * 3) (.int .i64 ut)
          obtain ⟨o2, b2⟩ := o1.stored (i * 3 + 1) (.string uth)
          obtain ⟨o3, b3⟩ := o2.stored (i * 3 + 2) (.int .i64 um)
          rw [lkc_set L i ⟨ut, uth, um⟩ (by omega), HK.out.2.2] at o3
          have HO3 := Lib.hid o3
          have HG3 := Lib.hid (gb_trans HG2.out (gb_trans b1 (gb_trans b2 b3)))
          clear o1 b1 o2 b2 o3 b3
          go_roundw
          case rel =>
            refine ⟨_, _, _, _, _, _, _, _, _, _, _, _, _, _, _, _, _, _, _, _, _, _, _, ?_, rfl⟩
            exact ⟨i + 1, j + 1, A ++ [⟨ut, uth, um⟩], M', by go_num, by go_num, ⟨by omega, by omega, by simp; omega, HK.out.2.1⟩, Lib.hid HK.out.1, Lib.hid HO3.out, Lib.hid HG3.out⟩
          case measure => (simp [intOf]) <;> omega
        · obtain ⟨hk1, hk2, hk3⟩ := hskip rfl
          have HK := Lib.hid (And.intro hk1 (And.intro hk2 hk3))
          clear hkeep hskip hk1 hk2 hk3 hu hL hq hBa hWa
          go_wp2_with fail
          rw [← HWA.out]
          refine (HCL.out _ HBA.out).mono ?_
          rintro e w2 ⟨rfl, hb2⟩
          have hbw : Below wr.heap.size wr w2 := into HBA.out hb2
          have HO2 := Lib.hid (own_below HO.out hbw)
          have HG2 := Lib.hid (gb_trans HG.out (gb_below hbw))
          clear hbw hb2 c0 c1 c2 p0 p1 p2
          go_wp2_with fail
          go_roundw
          case rel =>
            refine ⟨_, _, _, _, _, _, _, _, _, _, _, _, _, _, _, _, _, _, _, _, _, _, _, ?_, rfl⟩
            exact ⟨i, j + 1, A, M ++ [⟨ut, uth, um⟩], rfl, by go_num, ⟨by omega, by omega, hAl, HK.out.2.1⟩, Lib.hid HK.out.1, Lib.hid (by rw [← HK.out.2.2]; exact HO2.out), Lib.hid HG2.out⟩
          case measure => (simp [intOf]) <;> omega
      · obtain rfl : j = n := by omega
        have hdr : l.drop j = [] := List.drop_eq_nil_of_le (by rw [← HN.out]; exact Nat.le_refl _)
        have htk : l.take j = l := List.take_of_length_le (by rw [← HN.out]; exact Nat.le_refl _)
        have hA := HA.out
        rw [htk] at hA
        have hO := HO.out
        rw [hdr, List.append_nil] at hO
        have hlen : (lkc (A ++ M)).length = j * 3 := hO.1
        have hcl : ∀ ty, (Builtin.clear_ #[22] ty #[.slice (some ⟨g, i * 3, none⟩) (j - i) (cap - i)]).run Tryd.prog wr = .ok (.tuple #[]) (wr.setCells g (i * 3) (Builtin.zeroCells (Value.agg #[.int .i64 0, .string ⟨#[]⟩, .int .i64 0]).cells (j - i)).toList) := fun ty =>
          run_clear_agg wr _ _ ty _ Tryd.underlying22 Tryd.zeroValue26 zero_lk g (i * 3) (j - i) (cap - i) (by omega)
            (fun k hk => by rw [zero_len] at hk; rw [hO.cellAt _ (by omega), List.getElem?_eq_getElem (by omega)]; rfl) (fun k hk => hO.frozenAt _)
        obtain ⟨o1, b1⟩ := own_over (Builtin.zeroCells (Value.agg #[.int .i64 0, .string ⟨#[]⟩, .int .i64 0]).cells (j - i)).toList (i * 3) wr _ hO (by rw [zero_len, hlen]; omega)
        have o2 := own_first o1 (show i ≤ j by omega)
        rw [over_zero _ _ _ (by rw [zero_len, hlen]; omega), lkc_take, List.take_append_of_le_length (by omega), List.take_of_length_le (by omega)] at o2
        have HO2 := Lib.hid o2
        have HG2 := Lib.hid (gb_trans HG.out b1)
        have HAA := Lib.hid hA
        obtain ⟨W1, hW1⟩ : ∃ W1, W1 = wr.setCells g (i * 3) (Builtin.zeroCells (Value.agg #[.int .i64 0, .string ⟨#[]⟩, .int .i64 0]).cells (j - i)).toList := ⟨_, rfl⟩
        rw [← hW1] at hcl HO2 HG2
        have hic : (i : Int) ≤ (cap : Int) := by omega
        have hin2 : (i : Int) ≤ (j : Int) := by omega
        clear o1 b1 o2 hO hdr htk hlen hA hW1
        go_wp2_with fail
        go_ret
        refine ⟨_, rfl, ?_, HG2.out, fun k hk => hk⟩
        rw [notB_is, HAA.out, hAl]
        exact HO2.out
end Go.Proofs.YtpddlckkncmlmaaDoor
