/- Lists of locks: the first one that is so, whether there is one, whose they are: at each of the program's own functions. -/
import Derived.Test.YtpddlckkncmlmaaDoorNb
import Derived.Test.YtpddlckkncmlmaaDoorGw
import Derived.Deep.LoopGhost
namespace Go.Proofs.YtpddlckkncmlmaaDoor
open Go.ChangeShapes Go.WideShapes Go.ChangeAt Go.RowKit
set_option linter.unusedVariables false
set_option linter.unusedSimpArgs false
set_option maxHeartbeats 2000000
theorem Tryd.info3 : (Tryd.prog.info? 3).map (fun i => (i.zero, i.size, i.bytes)) = some (some (.int .i64 0), 1, 8) := by kernel_rfl
/-- What a function answers of each lock of a list, in every later world. -/
def Says (f : FuncId) (caps : List Value) (w : World) (p : Lk → Bool) (l : List Lk) : Prop := ∀ W, Below w.heap.size w W → ∀ x ∈ l, Calls Tryd.prog f (#[lkv x] ++ caps.toArray) W fun e w' => e = .returned (.bool (p x)) ∧ Below W.heap.size W w'
theorem Says.below {f : FuncId} {caps : List Value} {w w' : World} {p : Lk → Bool} {l : List Lk} (h : Says f caps w p l) (hb : Below w.heap.size w w') : Says f caps w' p l := fun W hW x hx => h W (into hb hW) x hx
theorem mem_getD {l : List Lk} {k : Nat} (h : k < l.length) : l.getD k nlk ∈ l := by
  rw [List.getD, List.getElem?_eq_getElem h]
  exact List.getElem_mem h
theorem txs_snoc {p : Lk → Bool} {l : List Lk} {k : Nat} (h : k < l.length) : txs p (l.take (k + 1)) = txs p (l.take k) ++ (if p (l.getD k nlk) = true then [(l.getD k nlk).t] else []) := by
  unfold txs
  rw [List.take_succ_eq_append_getElem h, List.filter_append, List.map_append]
  congr 1
  rw [List.getD, List.getElem?_eq_getElem h]
  by_cases hp : p l[k] = true
  · simp [hp]
  · simp [hp]
theorem idx_fo (w : World) (n : Nat) (v : Value) (l : List Lk) (p : Lk → Bool) (hr : Rd w 3 n v (lkc l)) (hs : Says 62 [] w p l) :
    Calls Tryd.prog 40 #[v, .func (.func 62) #[] #[]] w fun e w' => e = .returned (.int .i64 (idx p l)) ∧ Below w.heap.size w w' := by
  have hml := len_l hr
  have hmax := hr.len
  unfold maxLen at hmax
  by_cases h0 : n = 0
  · have hl0 : l = [] := List.eq_nil_of_length_eq_zero (by omega)
    subst hl0 h0
    obtain ⟨_, ao, cap, rfl, _⟩ := hr.zero
    clear hml hs
    go_enter Tryd.func40, Tryd.ntmps40
    go_wp2
    go_rounds 1
    go_ret
    exact ⟨rfl, Below.refl _ _⟩
  · obtain ⟨b, o, cap, rfl, _, _, hbw, hcell⟩ := lks_of hr (by omega)
    have HC := Lib.hid hcell
    have HS := Lib.hid hs
    have HN := Lib.hid hml
    clear hcell hs hr hml
    go_enter Tryd.func40, Tryd.ntmps40
    go_wp2
    go_loopw [8] (fun i wr => ∃ k : Nat, k ≤ n ∧ i = .int .i64 (k : Int) ∧ Hid (∀ j, j < k → p (l.getD j nlk) = false) ∧ Hid (Below w.heap.size w wr)) (fun i _ => n - (intOf i).toNat)
    case atStart => exact ⟨0, by omega, rfl, (fun j hj => absurd hj (by omega)), Below.refl _ _⟩
    case round =>
      obtain ⟨k, hk, rfl, HA, HB⟩ := hrel
      by_cases hlt : k < n
      · obtain ⟨g0, g1, g2⟩ := HC.out k hlt
        have c0 := (HB.out.cell (p := ⟨b, o + k * 3, none⟩) hbw).trans g0
        have c1 := (HB.out.cell (p := ⟨b, o + k * 3 + 1, none⟩) hbw).trans g1
        have c2 := (HB.out.cell (p := ⟨b, o + k * 3 + 2, none⟩) hbw).trans g2
        have hcl := HS.out wr HB.out _ (mem_getD (l := l) (k := k) (by rw [← HN.out]; exact hlt))
        obtain ⟨u, hu⟩ : ∃ u, u = l.getD k nlk := ⟨_, rfl⟩
        have HU := Lib.hid hu
        rw [← hu] at c0 c1 c2 hcl
        obtain ⟨q, hq⟩ : ∃ q, q = p u := ⟨_, rfl⟩
        rw [← hq] at hcl
        have HQ := Lib.hid hq
        have HCL : Hid (Calls Tryd.prog 62 (#[lkv u] ++ ([] : List Value).toArray) wr fun e w' => e = .returned (.bool q) ∧ Below wr.heap.size wr w') := Lib.hid hcl
        clear g0 g1 g2 hu hq hcl
        cases q
        · go_wp2_with fail
          refine HCL.out.mono ?_
          rintro e w2 ⟨rfl, hb2⟩
          have HB2 := Lib.hid (into HB.out hb2)
          clear hb2
          go_wp2_with fail
          go_roundw
          case rel =>
            refine ⟨k + 1, by omega, by go_num, fun j hj => ?_, HB2.out⟩
            rcases Nat.lt_or_ge j k with h | h
            · exact HA.out j h
            · obtain rfl : j = k := by omega
              rw [← HU.out]
              exact HQ.out.symm
          case measure => simp [intOf]; omega
        · go_wp2_with fail
          refine HCL.out.mono ?_
          rintro e w2 ⟨rfl, hb2⟩
          have HB2 := Lib.hid (into HB.out hb2)
          clear hb2
          go_wp2_with fail
          go_ret
          exact ⟨ri (by rw [idx_hit (by rw [← HN.out]; exact hlt) HA.out (by rw [← HU.out]; exact HQ.out.symm)]), HB2.out⟩
      · obtain rfl : k = n := by omega
        go_wp2_with fail
        go_ret
        exact ⟨ri (by rw [idx_none (fun j hj => HA.out j (by rw [HN.out]; exact hj))]), HB.out⟩
theorem con_fo (w : World) (n : Nat) (v : Value) (l : List Lk) (p : Lk → Bool) (hr : Rd w 3 n v (lkc l)) (hs : Says 62 [] w p l) :
    Calls Tryd.prog 37 #[v, .func (.func 62) #[] #[]] w fun e w' => e = .returned (.bool (l.any p)) ∧ Below w.heap.size w w' := by
  have HI := Lib.hid (idx_fo w n v l p hr hs)
  have HA := Lib.hid (idx_any p l)
  clear hr hs
  obtain ⟨i, hi⟩ : ∃ i, i = idx p l := ⟨_, rfl⟩
  rw [← hi] at HI HA
  clear hi
  go_enter Tryd.func37, Tryd.ntmps37
  go_wp2_with fail
  refine HI.out.mono ?_
  rintro e w1 ⟨rfl, hb⟩
  have HB := Lib.hid hb
  clear hb
  go_wp2_with fail
  go_ret
  exact ⟨rb (by rw [HA.out]), HB.out⟩
theorem idx_on (w : World) (n : Nat) (v : Value) (l : List Lk) (p : Lk → Bool) (B : Nat) (hr : Rd w 3 n v (lkc l)) (hs : Says 56 [.pointer (some ⟨B, 0, none⟩)] w p l) :
    Calls Tryd.prog 40 #[v, .func (.func 56) #[] #[.pointer (some ⟨B, 0, none⟩)]] w fun e w' => e = .returned (.int .i64 (idx p l)) ∧ Below w.heap.size w w' := by
  have hml := len_l hr
  have hmax := hr.len
  unfold maxLen at hmax
  by_cases h0 : n = 0
  · have hl0 : l = [] := List.eq_nil_of_length_eq_zero (by omega)
    subst hl0 h0
    obtain ⟨_, ao, cap, rfl, _⟩ := hr.zero
    clear hml hs
    go_enter Tryd.func40, Tryd.ntmps40
    go_wp2
    go_rounds 1
    go_ret
    exact ⟨rfl, Below.refl _ _⟩
  · obtain ⟨b, o, cap, rfl, _, _, hbw, hcell⟩ := lks_of hr (by omega)
    have HC := Lib.hid hcell
    have HS := Lib.hid hs
    have HN := Lib.hid hml
    clear hcell hs hr hml
    go_enter Tryd.func40, Tryd.ntmps40
    go_wp2
    go_loopw [8] (fun i wr => ∃ k : Nat, k ≤ n ∧ i = .int .i64 (k : Int) ∧ Hid (∀ j, j < k → p (l.getD j nlk) = false) ∧ Hid (Below w.heap.size w wr)) (fun i _ => n - (intOf i).toNat)
    case atStart => exact ⟨0, by omega, rfl, (fun j hj => absurd hj (by omega)), Below.refl _ _⟩
    case round =>
      obtain ⟨k, hk, rfl, HA, HB⟩ := hrel
      by_cases hlt : k < n
      · obtain ⟨g0, g1, g2⟩ := HC.out k hlt
        have c0 := (HB.out.cell (p := ⟨b, o + k * 3, none⟩) hbw).trans g0
        have c1 := (HB.out.cell (p := ⟨b, o + k * 3 + 1, none⟩) hbw).trans g1
        have c2 := (HB.out.cell (p := ⟨b, o + k * 3 + 2, none⟩) hbw).trans g2
        have hcl := HS.out wr HB.out _ (mem_getD (l := l) (k := k) (by rw [← HN.out]; exact hlt))
        obtain ⟨u, hu⟩ : ∃ u, u = l.getD k nlk := ⟨_, rfl⟩
        have HU := Lib.hid hu
        rw [← hu] at c0 c1 c2 hcl
        obtain ⟨q, hq⟩ : ∃ q, q = p u := ⟨_, rfl⟩
        rw [← hq] at hcl
        have HQ := Lib.hid hq
        have HCL : Hid (Calls Tryd.prog 56 (#[lkv u] ++ ([.pointer (some ⟨B, 0, none⟩)] : List Value).toArray) wr fun e w' => e = .returned (.bool q) ∧ Below wr.heap.size wr w') := Lib.hid hcl
        clear g0 g1 g2 hu hq hcl
        cases q
        · go_wp2_with fail
          refine HCL.out.mono ?_
          rintro e w2 ⟨rfl, hb2⟩
          have HB2 := Lib.hid (into HB.out hb2)
          clear hb2
          go_wp2_with fail
          go_roundw
          case rel =>
            refine ⟨k + 1, by omega, by go_num, fun j hj => ?_, HB2.out⟩
            rcases Nat.lt_or_ge j k with h | h
            · exact HA.out j h
            · obtain rfl : j = k := by omega
              rw [← HU.out]
              exact HQ.out.symm
          case measure => simp [intOf]; omega
        · go_wp2_with fail
          refine HCL.out.mono ?_
          rintro e w2 ⟨rfl, hb2⟩
          have HB2 := Lib.hid (into HB.out hb2)
          clear hb2
          go_wp2_with fail
          go_ret
          exact ⟨ri (by rw [idx_hit (by rw [← HN.out]; exact hlt) HA.out (by rw [← HU.out]; exact HQ.out.symm)]), HB2.out⟩
      · obtain rfl : k = n := by omega
        go_wp2_with fail
        go_ret
        exact ⟨ri (by rw [idx_none (fun j hj => HA.out j (by rw [HN.out]; exact hj))]), HB.out⟩
theorem con_on (w : World) (n : Nat) (v : Value) (l : List Lk) (p : Lk → Bool) (B : Nat) (hr : Rd w 3 n v (lkc l)) (hs : Says 56 [.pointer (some ⟨B, 0, none⟩)] w p l) :
    Calls Tryd.prog 37 #[v, .func (.func 56) #[] #[.pointer (some ⟨B, 0, none⟩)]] w fun e w' => e = .returned (.bool (l.any p)) ∧ Below w.heap.size w w' := by
  have HI := Lib.hid (idx_on w n v l p B hr hs)
  have HA := Lib.hid (idx_any p l)
  clear hr hs
  obtain ⟨i, hi⟩ : ∃ i, i = idx p l := ⟨_, rfl⟩
  rw [← hi] at HI HA
  clear hi
  go_enter Tryd.func37, Tryd.ntmps37
  go_wp2_with fail
  refine HI.out.mono ?_
  rintro e w1 ⟨rfl, hb⟩
  have HB := Lib.hid hb
  clear hb
  go_wp2_with fail
  go_ret
  exact ⟨rb (by rw [HA.out]), HB.out⟩
theorem idx_of (w : World) (n : Nat) (v : Value) (l : List Lk) (p : Lk → Bool) (B : Nat) (hr : Rd w 3 n v (lkc l)) (hs : Says 53 [.pointer (some ⟨B, 0, none⟩)] w p l) :
    Calls Tryd.prog 40 #[v, .func (.func 53) #[] #[.pointer (some ⟨B, 0, none⟩)]] w fun e w' => e = .returned (.int .i64 (idx p l)) ∧ Below w.heap.size w w' := by
  have hml := len_l hr
  have hmax := hr.len
  unfold maxLen at hmax
  by_cases h0 : n = 0
  · have hl0 : l = [] := List.eq_nil_of_length_eq_zero (by omega)
    subst hl0 h0
    obtain ⟨_, ao, cap, rfl, _⟩ := hr.zero
    clear hml hs
    go_enter Tryd.func40, Tryd.ntmps40
    go_wp2
    go_rounds 1
    go_ret
    exact ⟨rfl, Below.refl _ _⟩
  · obtain ⟨b, o, cap, rfl, _, _, hbw, hcell⟩ := lks_of hr (by omega)
    have HC := Lib.hid hcell
    have HS := Lib.hid hs
    have HN := Lib.hid hml
    clear hcell hs hr hml
    go_enter Tryd.func40, Tryd.ntmps40
    go_wp2
    go_loopw [8] (fun i wr => ∃ k : Nat, k ≤ n ∧ i = .int .i64 (k : Int) ∧ Hid (∀ j, j < k → p (l.getD j nlk) = false) ∧ Hid (Below w.heap.size w wr)) (fun i _ => n - (intOf i).toNat)
    case atStart => exact ⟨0, by omega, rfl, (fun j hj => absurd hj (by omega)), Below.refl _ _⟩
    case round =>
      obtain ⟨k, hk, rfl, HA, HB⟩ := hrel
      by_cases hlt : k < n
      · obtain ⟨g0, g1, g2⟩ := HC.out k hlt
        have c0 := (HB.out.cell (p := ⟨b, o + k * 3, none⟩) hbw).trans g0
        have c1 := (HB.out.cell (p := ⟨b, o + k * 3 + 1, none⟩) hbw).trans g1
        have c2 := (HB.out.cell (p := ⟨b, o + k * 3 + 2, none⟩) hbw).trans g2
        have hcl := HS.out wr HB.out _ (mem_getD (l := l) (k := k) (by rw [← HN.out]; exact hlt))
        obtain ⟨u, hu⟩ : ∃ u, u = l.getD k nlk := ⟨_, rfl⟩
        have HU := Lib.hid hu
        rw [← hu] at c0 c1 c2 hcl
        obtain ⟨q, hq⟩ : ∃ q, q = p u := ⟨_, rfl⟩
        rw [← hq] at hcl
        have HQ := Lib.hid hq
        have HCL : Hid (Calls Tryd.prog 53 (#[lkv u] ++ ([.pointer (some ⟨B, 0, none⟩)] : List Value).toArray) wr fun e w' => e = .returned (.bool q) ∧ Below wr.heap.size wr w') := Lib.hid hcl
        clear g0 g1 g2 hu hq hcl
        cases q
        · go_wp2_with fail
          refine HCL.out.mono ?_
          rintro e w2 ⟨rfl, hb2⟩
          have HB2 := Lib.hid (into HB.out hb2)
          clear hb2
          go_wp2_with fail
          go_roundw
          case rel =>
            refine ⟨k + 1, by omega, by go_num, fun j hj => ?_, HB2.out⟩
            rcases Nat.lt_or_ge j k with h | h
            · exact HA.out j h
            · obtain rfl : j = k := by omega
              rw [← HU.out]
              exact HQ.out.symm
          case measure => simp [intOf]; omega
        · go_wp2_with fail
          refine HCL.out.mono ?_
          rintro e w2 ⟨rfl, hb2⟩
          have HB2 := Lib.hid (into HB.out hb2)
          clear hb2
          go_wp2_with fail
          go_ret
          exact ⟨ri (by rw [idx_hit (by rw [← HN.out]; exact hlt) HA.out (by rw [← HU.out]; exact HQ.out.symm)]), HB2.out⟩
      · obtain rfl : k = n := by omega
        go_wp2_with fail
        go_ret
        exact ⟨ri (by rw [idx_none (fun j hj => HA.out j (by rw [HN.out]; exact hj))]), HB.out⟩
theorem con_of (w : World) (n : Nat) (v : Value) (l : List Lk) (p : Lk → Bool) (B : Nat) (hr : Rd w 3 n v (lkc l)) (hs : Says 53 [.pointer (some ⟨B, 0, none⟩)] w p l) :
    Calls Tryd.prog 37 #[v, .func (.func 53) #[] #[.pointer (some ⟨B, 0, none⟩)]] w fun e w' => e = .returned (.bool (l.any p)) ∧ Below w.heap.size w w' := by
  have HI := Lib.hid (idx_of w n v l p B hr hs)
  have HA := Lib.hid (idx_any p l)
  clear hr hs
  obtain ⟨i, hi⟩ : ∃ i, i = idx p l := ⟨_, rfl⟩
  rw [← hi] at HI HA
  clear hi
  go_enter Tryd.func37, Tryd.ntmps37
  go_wp2_with fail
  refine HI.out.mono ?_
  rintro e w1 ⟨rfl, hb⟩
  have HB := Lib.hid hb
  clear hb
  go_wp2_with fail
  go_ret
  exact ⟨rb (by rw [HA.out]), HB.out⟩
theorem idx_ag (w : World) (n : Nat) (v : Value) (l : List Lk) (p : Lk → Bool) (B : Nat) (hr : Rd w 3 n v (lkc l)) (hs : Says 57 [.pointer (some ⟨B, 0, none⟩)] w p l) :
    Calls Tryd.prog 40 #[v, .func (.func 57) #[] #[.pointer (some ⟨B, 0, none⟩)]] w fun e w' => e = .returned (.int .i64 (idx p l)) ∧ Below w.heap.size w w' := by
  have hml := len_l hr
  have hmax := hr.len
  unfold maxLen at hmax
  by_cases h0 : n = 0
  · have hl0 : l = [] := List.eq_nil_of_length_eq_zero (by omega)
    subst hl0 h0
    obtain ⟨_, ao, cap, rfl, _⟩ := hr.zero
    clear hml hs
    go_enter Tryd.func40, Tryd.ntmps40
    go_wp2
    go_rounds 1
    go_ret
    exact ⟨rfl, Below.refl _ _⟩
  · obtain ⟨b, o, cap, rfl, _, _, hbw, hcell⟩ := lks_of hr (by omega)
    have HC := Lib.hid hcell
    have HS := Lib.hid hs
    have HN := Lib.hid hml
    clear hcell hs hr hml
    go_enter Tryd.func40, Tryd.ntmps40
    go_wp2
    go_loopw [8] (fun i wr => ∃ k : Nat, k ≤ n ∧ i = .int .i64 (k : Int) ∧ Hid (∀ j, j < k → p (l.getD j nlk) = false) ∧ Hid (Below w.heap.size w wr)) (fun i _ => n - (intOf i).toNat)
    case atStart => exact ⟨0, by omega, rfl, (fun j hj => absurd hj (by omega)), Below.refl _ _⟩
    case round =>
      obtain ⟨k, hk, rfl, HA, HB⟩ := hrel
      by_cases hlt : k < n
      · obtain ⟨g0, g1, g2⟩ := HC.out k hlt
        have c0 := (HB.out.cell (p := ⟨b, o + k * 3, none⟩) hbw).trans g0
        have c1 := (HB.out.cell (p := ⟨b, o + k * 3 + 1, none⟩) hbw).trans g1
        have c2 := (HB.out.cell (p := ⟨b, o + k * 3 + 2, none⟩) hbw).trans g2
        have hcl := HS.out wr HB.out _ (mem_getD (l := l) (k := k) (by rw [← HN.out]; exact hlt))
        obtain ⟨u, hu⟩ : ∃ u, u = l.getD k nlk := ⟨_, rfl⟩
        have HU := Lib.hid hu
        rw [← hu] at c0 c1 c2 hcl
        obtain ⟨q, hq⟩ : ∃ q, q = p u := ⟨_, rfl⟩
        rw [← hq] at hcl
        have HQ := Lib.hid hq
        have HCL : Hid (Calls Tryd.prog 57 (#[lkv u] ++ ([.pointer (some ⟨B, 0, none⟩)] : List Value).toArray) wr fun e w' => e = .returned (.bool q) ∧ Below wr.heap.size wr w') := Lib.hid hcl
        clear g0 g1 g2 hu hq hcl
        cases q
        · go_wp2_with fail
          refine HCL.out.mono ?_
          rintro e w2 ⟨rfl, hb2⟩
          have HB2 := Lib.hid (into HB.out hb2)
          clear hb2
          go_wp2_with fail
          go_roundw
          case rel =>
            refine ⟨k + 1, by omega, by go_num, fun j hj => ?_, HB2.out⟩
            rcases Nat.lt_or_ge j k with h | h
            · exact HA.out j h
            · obtain rfl : j = k := by omega
              rw [← HU.out]
              exact HQ.out.symm
          case measure => simp [intOf]; omega
        · go_wp2_with fail
          refine HCL.out.mono ?_
          rintro e w2 ⟨rfl, hb2⟩
          have HB2 := Lib.hid (into HB.out hb2)
          clear hb2
          go_wp2_with fail
          go_ret
          exact ⟨ri (by rw [idx_hit (by rw [← HN.out]; exact hlt) HA.out (by rw [← HU.out]; exact HQ.out.symm)]), HB2.out⟩
      · obtain rfl : k = n := by omega
        go_wp2_with fail
        go_ret
        exact ⟨ri (by rw [idx_none (fun j hj => HA.out j (by rw [HN.out]; exact hj))]), HB.out⟩
theorem con_ag (w : World) (n : Nat) (v : Value) (l : List Lk) (p : Lk → Bool) (B : Nat) (hr : Rd w 3 n v (lkc l)) (hs : Says 57 [.pointer (some ⟨B, 0, none⟩)] w p l) :
    Calls Tryd.prog 37 #[v, .func (.func 57) #[] #[.pointer (some ⟨B, 0, none⟩)]] w fun e w' => e = .returned (.bool (l.any p)) ∧ Below w.heap.size w w' := by
  have HI := Lib.hid (idx_ag w n v l p B hr hs)
  have HA := Lib.hid (idx_any p l)
  clear hr hs
  obtain ⟨i, hi⟩ : ∃ i, i = idx p l := ⟨_, rfl⟩
  rw [← hi] at HI HA
  clear hi
  go_enter Tryd.func37, Tryd.ntmps37
  go_wp2_with fail
  refine HI.out.mono ?_
  rintro e w1 ⟨rfl, hb⟩
  have HB := Lib.hid hb
  clear hb
  go_wp2_with fail
  go_ret
  exact ⟨rb (by rw [HA.out]), HB.out⟩
theorem txs_ag (w : World) (n : Nat) (v : Value) (l : List Lk) (p : Lk → Bool) (B : Nat) (hn : n ≤ 1000000) (hr : Rd w 3 n v (lkc l)) (hs : Says 57 [.pointer (some ⟨B, 0, none⟩)] w p l) :
    Calls Tryd.prog 42 #[v, .func (.func 57) #[] #[.pointer (some ⟨B, 0, none⟩)]] w fun e w' => ∃ v', e = .returned v' ∧ w'.ownsRow w.heap.size 3 1 v' (txs p l).length (ic (txs p l)) ∧ Below w.heap.size w w' := by
  have hml := len_l hr
  by_cases h0 : n = 0
  · have hl0 : l = [] := List.eq_nil_of_length_eq_zero (by omega)
    subst hl0 h0
    obtain ⟨_, ao, cap, rfl, _⟩ := hr.zero
    clear hml hs
    go_enter Tryd.func42, Tryd.ntmps42
    go_wp2
    go_rounds 1
    go_ret
    exact ⟨_, rfl, World.ownsRow_nil _ _ _ _, Below.refl _ _⟩
  · obtain ⟨b, o, cap, rfl, _, _, hbw, hcell⟩ := lks_of hr (by omega)
    have HC := Lib.hid hcell
    have HS := Lib.hid hs
    have HN := Lib.hid hml
    clear hcell hs hr hml
    go_enter Tryd.func42, Tryd.ntmps42
    go_wp2
    go_loopw [5, 10] (fun vv i wr => ∃ (k c : Nat), k ≤ n ∧ c ≤ k ∧ i = .int .i64 (k : Int) ∧ Hid (c = (txs p (l.take k)).length) ∧ Hid (wr.ownsRow w.heap.size 3 1 vv c (ic (txs p (l.take k)))) ∧ Hid (Below w.heap.size w wr)) (fun _ i _ => n - (intOf i).toNat)
    case atStart => exact ⟨0, 0, by omega, by omega, rfl, rfl, World.ownsRow_nil _ _ _ _, Below.refl _ _⟩
    case round =>
      obtain ⟨k, c, hk, hck, rfl, HLE, HO, HB⟩ := hrel
      have hwz := HB.out.size
      by_cases hlt : k < n
      · obtain ⟨g0, g1, g2⟩ := HC.out k hlt
        have c0 := (HB.out.cell (p := ⟨b, o + k * 3, none⟩) hbw).trans g0
        have c1 := (HB.out.cell (p := ⟨b, o + k * 3 + 1, none⟩) hbw).trans g1
        have c2 := (HB.out.cell (p := ⟨b, o + k * 3 + 2, none⟩) hbw).trans g2
        have hsn := txs_snoc (p := p) (l := l) (k := k) (by rw [← HN.out]; exact hlt)
        obtain ⟨u, hu⟩ : ∃ u, u = l.getD k nlk := ⟨_, rfl⟩
        have hbn : Below w.heap.size w (wr.alloc (.cells #[.int .i64 u.t, .string u.th, .int .i64 u.m] 26)) := HB.out.alloc HB.out.size _
        have hcl := HS.out _ hbn u (by rw [hu]; exact mem_getD (l := l) (k := k) (by rw [← HN.out]; exact hlt))
        rw [← hu] at c0 c1 c2 hsn
        obtain ⟨q, hq⟩ : ∃ q, q = p u := ⟨_, rfl⟩
        rw [← hq] at hcl hsn
        have HSN := Lib.hid hsn
        have HBN := Lib.hid hbn
        obtain ⟨ut, uth, um⟩ := u
        have HCL : Hid (Calls Tryd.prog 57 (#[.agg #[.int .i64 ut, .string uth, .int .i64 um]] ++ ([.pointer (some ⟨B, 0, none⟩)] : List Value).toArray) (wr.alloc (.cells #[.int .i64 ut, .string uth, .int .i64 um] 26)) fun e w' => e = .returned (.bool q) ∧ Below (wr.alloc (.cells #[.int .i64 ut, .string uth, .int .i64 um] 26)).heap.size (wr.alloc (.cells #[.int .i64 ut, .string uth, .int .i64 um] 26)) w') := Lib.hid hcl
        simp only at c0 c1 c2
        clear g0 g1 g2 hu hq hcl hsn hbn
        cases q
        · go_wp2_with fail
          refine HCL.out.mono ?_
          rintro e w2 ⟨rfl, hb2⟩
          have HB2 := Lib.hid (into HBN.out hb2)
          have HO2 := Lib.hid (own_below (HO.out.alloc _) hb2)
          clear hb2
          go_wp2_with fail
          go_roundw
          case rel =>
            have e : txs p (l.take (k + 1)) = txs p (l.take k) := by rw [HSN.out]; simp
            exact ⟨k + 1, c, by omega, by omega, by go_num, by rw [e]; exact HLE.out, by rw [e]; exact HO2.out, HB2.out⟩
          case measure => simp [intOf]; omega
        · go_wp2_with fail
          refine HCL.out.mono ?_
          rintro e w2 ⟨rfl, hb2⟩
          obtain ⟨x0, -, -, -, -, -⟩ := has3 (new0 wr (.cells #[.int .i64 ut, .string uth, .int .i64 um] 26)) hb2
          have hz2 := (into HBN.out hb2).size
          have HB2 := Lib.hid (into HBN.out hb2)
          have HO2 := Lib.hid (own_below (HO.out.alloc _) hb2)
          have HR2 : Hid (Rd (w2.alloc (.cells #[.int .i64 ut] 3)) 1 1 (.slice (some ⟨w2.heap.size, 0, none⟩) 1 1) (ic [ut])) := Lib.hid (Rd.own (World.ownsRow_lit (base := w2.heap.size) w2 #[.int .i64 ut] 1 (Nat.le_refl _) (by unfold maxLen; omega) rfl))
          clear hb2
          go_wp2_with (at_builtin; refine apg (w2.alloc (.cells #[.int .i64 ut] 3)) 1 rfl _ _ 38 3 _ 1 8 Tryd.underlying38 Tryd.info3 rfl (by omega) rfl (HO2.out.alloc _) (by simp; omega) (by omega) (by unfold maxLen; omega) (ic_one _) HR2.out rfl rfl ?_; intro v3 w3 hown3 hb3 _; have HO3 := Lib.hid hown3; have HB3 := Lib.hid ((HB2.out.alloc hz2 _).trans hb3); clear hown3 hb3)
          go_roundw
          case rel =>
            have e : txs p (l.take (k + 1)) = txs p (l.take k) ++ [ut] := by rw [HSN.out]; simp
            exact ⟨k + 1, c + 1, by omega, by omega, by go_num, by rw [e, List.length_append, ← HLE.out]; rfl, by rw [e, ic_app]; exact HO3.out, HB3.out⟩
          case measure => simp [intOf]; omega
      · obtain rfl : k = n := by omega
        have e : l.take k = l := List.take_of_length_le (by rw [← HN.out]; exact Nat.le_refl _)
        have hle := HLE.out
        rw [e] at HO hle
        subst hle
        go_wp2_with fail
        go_ret
        exact ⟨_, rfl, HO.out, HB.out⟩
theorem txs_wf (w : World) (n : Nat) (v : Value) (l : List Lk) (p : Lk → Bool) (B : Nat) (hn : n ≤ 1000000) (hr : Rd w 3 n v (lkc l)) (hs : Says 44 [.pointer (some ⟨B, 0, none⟩)] w p l) :
    Calls Tryd.prog 42 #[v, .func (.func 44) #[] #[.pointer (some ⟨B, 0, none⟩)]] w fun e w' => ∃ v', e = .returned v' ∧ w'.ownsRow w.heap.size 3 1 v' (txs p l).length (ic (txs p l)) ∧ Below w.heap.size w w' := by
  have hml := len_l hr
  by_cases h0 : n = 0
  · have hl0 : l = [] := List.eq_nil_of_length_eq_zero (by omega)
    subst hl0 h0
    obtain ⟨_, ao, cap, rfl, _⟩ := hr.zero
    clear hml hs
    go_enter Tryd.func42, Tryd.ntmps42
    go_wp2
    go_rounds 1
    go_ret
    exact ⟨_, rfl, World.ownsRow_nil _ _ _ _, Below.refl _ _⟩
  · obtain ⟨b, o, cap, rfl, _, _, hbw, hcell⟩ := lks_of hr (by omega)
    have HC := Lib.hid hcell
    have HS := Lib.hid hs
    have HN := Lib.hid hml
    clear hcell hs hr hml
    go_enter Tryd.func42, Tryd.ntmps42
    go_wp2
    go_loopw [5, 10] (fun vv i wr => ∃ (k c : Nat), k ≤ n ∧ c ≤ k ∧ i = .int .i64 (k : Int) ∧ Hid (c = (txs p (l.take k)).length) ∧ Hid (wr.ownsRow w.heap.size 3 1 vv c (ic (txs p (l.take k)))) ∧ Hid (Below w.heap.size w wr)) (fun _ i _ => n - (intOf i).toNat)
    case atStart => exact ⟨0, 0, by omega, by omega, rfl, rfl, World.ownsRow_nil _ _ _ _, Below.refl _ _⟩
    case round =>
      obtain ⟨k, c, hk, hck, rfl, HLE, HO, HB⟩ := hrel
      have hwz := HB.out.size
      by_cases hlt : k < n
      · obtain ⟨g0, g1, g2⟩ := HC.out k hlt
        have c0 := (HB.out.cell (p := ⟨b, o + k * 3, none⟩) hbw).trans g0
        have c1 := (HB.out.cell (p := ⟨b, o + k * 3 + 1, none⟩) hbw).trans g1
        have c2 := (HB.out.cell (p := ⟨b, o + k * 3 + 2, none⟩) hbw).trans g2
        have hsn := txs_snoc (p := p) (l := l) (k := k) (by rw [← HN.out]; exact hlt)
        obtain ⟨u, hu⟩ : ∃ u, u = l.getD k nlk := ⟨_, rfl⟩
        have hbn : Below w.heap.size w (wr.alloc (.cells #[.int .i64 u.t, .string u.th, .int .i64 u.m] 26)) := HB.out.alloc HB.out.size _
        have hcl := HS.out _ hbn u (by rw [hu]; exact mem_getD (l := l) (k := k) (by rw [← HN.out]; exact hlt))
        rw [← hu] at c0 c1 c2 hsn
        obtain ⟨q, hq⟩ : ∃ q, q = p u := ⟨_, rfl⟩
        rw [← hq] at hcl hsn
        have HSN := Lib.hid hsn
        have HBN := Lib.hid hbn
        obtain ⟨ut, uth, um⟩ := u
        have HCL : Hid (Calls Tryd.prog 44 (#[.agg #[.int .i64 ut, .string uth, .int .i64 um]] ++ ([.pointer (some ⟨B, 0, none⟩)] : List Value).toArray) (wr.alloc (.cells #[.int .i64 ut, .string uth, .int .i64 um] 26)) fun e w' => e = .returned (.bool q) ∧ Below (wr.alloc (.cells #[.int .i64 ut, .string uth, .int .i64 um] 26)).heap.size (wr.alloc (.cells #[.int .i64 ut, .string uth, .int .i64 um] 26)) w') := Lib.hid hcl
        simp only at c0 c1 c2
        clear g0 g1 g2 hu hq hcl hsn hbn
        cases q
        · go_wp2_with fail
          refine HCL.out.mono ?_
          rintro e w2 ⟨rfl, hb2⟩
          have HB2 := Lib.hid (into HBN.out hb2)
          have HO2 := Lib.hid (own_below (HO.out.alloc _) hb2)
          clear hb2
          go_wp2_with fail
          go_roundw
          case rel =>
            have e : txs p (l.take (k + 1)) = txs p (l.take k) := by rw [HSN.out]; simp
            exact ⟨k + 1, c, by omega, by omega, by go_num, by rw [e]; exact HLE.out, by rw [e]; exact HO2.out, HB2.out⟩
          case measure => simp [intOf]; omega
        · go_wp2_with fail
          refine HCL.out.mono ?_
          rintro e w2 ⟨rfl, hb2⟩
          obtain ⟨x0, -, -, -, -, -⟩ := has3 (new0 wr (.cells #[.int .i64 ut, .string uth, .int .i64 um] 26)) hb2
          have hz2 := (into HBN.out hb2).size
          have HB2 := Lib.hid (into HBN.out hb2)
          have HO2 := Lib.hid (own_below (HO.out.alloc _) hb2)
          have HR2 : Hid (Rd (w2.alloc (.cells #[.int .i64 ut] 3)) 1 1 (.slice (some ⟨w2.heap.size, 0, none⟩) 1 1) (ic [ut])) := Lib.hid (Rd.own (World.ownsRow_lit (base := w2.heap.size) w2 #[.int .i64 ut] 1 (Nat.le_refl _) (by unfold maxLen; omega) rfl))
          clear hb2
          go_wp2_with (at_builtin; refine apg (w2.alloc (.cells #[.int .i64 ut] 3)) 1 rfl _ _ 38 3 _ 1 8 Tryd.underlying38 Tryd.info3 rfl (by omega) rfl (HO2.out.alloc _) (by simp; omega) (by omega) (by unfold maxLen; omega) (ic_one _) HR2.out rfl rfl ?_; intro v3 w3 hown3 hb3 _; have HO3 := Lib.hid hown3; have HB3 := Lib.hid ((HB2.out.alloc hz2 _).trans hb3); clear hown3 hb3)
          go_roundw
          case rel =>
            have e : txs p (l.take (k + 1)) = txs p (l.take k) ++ [ut] := by rw [HSN.out]; simp
            exact ⟨k + 1, c + 1, by omega, by omega, by go_num, by rw [e, List.length_append, ← HLE.out]; rfl, by rw [e, ic_app]; exact HO3.out, HB3.out⟩
          case measure => simp [intOf]; omega
      · obtain rfl : k = n := by omega
        have e : l.take k = l := List.take_of_length_le (by rw [← HN.out]; exact Nat.le_refl _)
        have hle := HLE.out
        rw [e] at HO hle
        subst hle
        go_wp2_with fail
        go_ret
        exact ⟨_, rfl, HO.out, HB.out⟩
end Go.Proofs.YtpddlckkncmlmaaDoor
