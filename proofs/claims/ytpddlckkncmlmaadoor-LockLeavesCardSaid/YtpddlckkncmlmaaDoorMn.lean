/- One lock taken out of a row that the call owns. -/
import Derived.Test.YtpddlckkncmlmaaDoorMl
import Derived.Deep.RegionLaw
namespace Go.Proofs.YtpddlckkncmlmaaDoor
open Go.ChangeShapes Go.WideShapes Go.ChangeAt Go.RowKit
set_option linter.unusedVariables false
set_option linter.unusedSimpArgs false
set_option maxHeartbeats 8000000
set_option maxRecDepth 100000
theorem lkc_drop : ∀ (l : List Lk) (k : Nat), (lkc l).drop (k * 3) = lkc (l.drop k)
  | l, 0 => by simp
  | [], k + 1 => by simp [lkc]
  | a :: l, k + 1 => by
    rw [show (k + 1) * 3 = k * 3 + 1 + 1 + 1 by omega]
    simp [lkc, lkc_drop l k]
theorem erase_over {l : List Lk} {i : Nat} (hi : i < l.length) : (overL (lkc l) (i * 3) (lkc (l.drop (i + 1)))).take ((l.length - 1) * 3) = lkc (l.eraseIdx i) := by
  have h1 : (lkc (l.drop (i + 1))).length = (l.length - (i + 1)) * 3 := by rw [lkc_length, List.length_drop]
  unfold overL
  rw [List.take_append_of_le_length (by rw [List.length_append, List.length_take, lkc_length, h1]; omega)]
  rw [List.take_of_length_le (by rw [List.length_append, List.length_take, lkc_length, h1]; omega)]
  rw [lkc_take, ← lkc_app, List.eraseIdx_eq_take_drop_succ]
theorem delete_any (w : World) (B g cap n : Nat) (l : List Lk) (i j : Nat) (hj : j = i + 1) (hown : w.ownsRow B 26 3 (.slice (some ⟨g, 0, none⟩) n cap) n (lkc l)) (hn : n ≤ 1000000) (hi : i < n) :
    Calls Tryd.prog 34 #[.slice (some ⟨g, 0, none⟩) n cap, .int .i64 (i : Int), .int .i64 (j : Int)] w fun e w' => e = .returned (.slice (some ⟨g, 0, none⟩) (n - 1) cap) ∧ w'.ownsRow B 26 3 (.slice (some ⟨g, 0, none⟩) (n - 1) cap) (n - 1) (lkc (l.eraseIdx i)) ∧ w.grownBy w' (some g) := by
  obtain ⟨i0, hi0, hz0, hz1, hz2⟩ := info_parts Tryd.info26
  have hml : n = l.length := by have := hown.1; rw [lkc_length] at this; omega
  obtain ⟨g', cap', he, -, hgw, hcap, hcm⟩ := own_head hown (by omega)
  simp only [Value.slice.injEq, Option.some.injEq, Addr.mk.injEq, and_true, true_and] at he
  obtain ⟨rfl, rfl⟩ := he
  unfold maxLen at hcm
  obtain ⟨m, hm⟩ : ∃ m, m = n - j := ⟨_, rfl⟩
  have hown1 : w.drew.ownsRow B 26 3 (.slice (some ⟨g, 0, none⟩) n cap) n (lkc l) := own_below hown (Below.refl _ _).drew
  have hlen := hown1.1
  obtain ⟨news, hnews⟩ : ∃ news, news = lkc (l.drop j) := ⟨_, rfl⟩
  have hnl : news.length = m * 3 := by rw [hnews, lkc_length, List.length_drop, ← hml, hm]
  obtain ⟨A, hA, hsrc⟩ : ∃ A : Addr, (if cap = j then some (⟨g, 0, none⟩ : Addr) else some ⟨g, j * 3, none⟩) = some A ∧ Hid (∀ t u, news[t]? = some u → w.drew.cell? (A.add t) = some u) := by
    by_cases h : cap = j
    · refine ⟨⟨g, 0, none⟩, by simp [h], fun t u hu => ?_⟩
      have h0 : news.length = 0 := by rw [hnl]; omega
      rw [List.length_eq_zero_iff.1 h0] at hu
      simp at hu
    · refine ⟨⟨g, j * 3, none⟩, by simp [h], fun t u hu => ?_⟩
      rw [Addr.add_lit]
      have ht : t < m * 3 := by rw [← hnl]; exact (List.getElem?_eq_some_iff.1 hu).1
      rw [hown1.cellAt _ (by omega)]
      rw [hnews, ← lkc_drop, List.getElem?_drop] at hu
      exact hu
  have s1 : Hid (news.length = m * 3) := hnl
  have s2 : Hid (∀ u ∈ news, u.oneCell' = true) := by rw [hnews]; exact lkc_one _
  have s3 : Hid (∀ t, t < news.length → (w.drew.cell? ⟨g, 0 + i * 3 + t, none⟩).isSome = true ∧ w.drew.frozen? ⟨g, 0 + i * 3 + t, none⟩ = false) := fun t ht => by
    rw [Nat.zero_add]
    rw [hnl] at ht
    refine ⟨?_, hown1.frozenAt _⟩
    rw [hown1.cellAt _ (by omega), List.getElem?_eq_getElem (by rw [hlen]; omega)]
    rfl
  obtain ⟨o1, b1⟩ := own_over news (i * 3) w.drew _ hown1 (by rw [hnl, hlen]; omega)
  obtain ⟨W1, hW1⟩ : ∃ W1, W1 = w.drew.setCells g (0 + i * 3) news := ⟨_, rfl⟩
  rw [Nat.zero_add] at hW1
  rw [← hW1] at o1 b1
  have hl1 := o1.1
  have hcl : ∀ ty, (Builtin.clear_ #[22] ty #[.slice (some ⟨g, (i + m) * 3, none⟩) (n - (i + m)) (cap - (i + m))]).run Tryd.prog W1 = .ok (.tuple #[]) (W1.setCells g ((i + m) * 3) (Builtin.zeroCells (Value.agg #[.int .i64 0, .string ⟨#[]⟩, .int .i64 0]).cells (n - (i + m))).toList) := fun ty =>
    run_clear_agg W1 _ _ ty _ Tryd.underlying22 Tryd.zeroValue26 zero_lk g ((i + m) * 3) (n - (i + m)) (cap - (i + m)) (by omega)
      (fun k hk => by rw [zero_len] at hk; rw [o1.cellAt _ (by omega), List.getElem?_eq_getElem (by rw [hl1]; omega)]; rfl) (fun k hk => o1.frozenAt _)
  obtain ⟨o2, b2⟩ := own_over (Builtin.zeroCells (Value.agg #[.int .i64 0, .string ⟨#[]⟩, .int .i64 0]).cells (n - (i + m))).toList ((i + m) * 3) W1 _ o1 (by rw [zero_len, hl1]; omega)
  have o3 := own_first o2 (show n - 1 ≤ n by omega)
  have e3 : (overL (overL (lkc l) (i * 3) news) ((i + m) * 3) (Builtin.zeroCells (Value.agg #[.int .i64 0, .string ⟨#[]⟩, .int .i64 0]).cells (n - (i + m))).toList).take ((n - 1) * 3) = lkc (l.eraseIdx i) := by
    rw [show (n - 1) * 3 = (i + m) * 3 by omega, over_zero _ _ _ (by rw [zero_len, hl1]; omega), show (i + m) * 3 = (l.length - 1) * 3 by omega, hnews]
    rw [hj]
    exact erase_over (by omega)
  rw [e3] at o3
  have HO := Lib.hid o3
  have HG := Lib.hid (gb_trans (gb_below (Below.refl w.heap.size w).drew) (gb_trans b1 b2))
  have HW1 := Lib.hid hW1
  have hic : i ≤ cap := by omega
  have hjc : j ≤ cap := by omega
  have him : n - 1 = i + m := by omega
  have q1 : (0 : Int) ≤ (i : Int) := by omega
  have q2 : (j : Int) ≤ (n : Int) := by omega
  have q3 : (i : Int) ≤ (n : Int) := by omega
  have q5 : (i : Int) ≤ (j : Int) := by omega
  have q6 : ¬ (i : Int) = (j : Int) := by omega
  have q7 : ((i : Int) == (j : Int)) = false := by simpa using q6
  have q4 : (n : Int) ≤ (cap : Int) := by omega
  rw [him] at HO ⊢
  have HM : Hid (n - j = m) := hm.symm
  have hroom : i + m ≤ cap := by omega
  have hroomn : i + m ≤ n := by omega
  have hpos : 0 < n - (i + m) := by omega
  clear hown hown1 o1 o2 o3 b1 b2 hl1 hlen e3 hW1 hnl hnews hml hj hm him
  go_enter Tryd.func34, Tryd.ntmps34
  go_wp2_with fail
  go_region_law (refine step_append_room rfl (.tmp 22) (.tmp 25) 22 rfl 26 i0 3 Tryd.underlying22 hi0 hz1 g 0 i cap (by simp [Act.eval, Act.put]) A m (cap - j) news (by simp [Act.eval, Act.put]; exact HM.out) s1.out hsrc.out s2.out hroom s3.out ?_; rw [Nat.zero_add, ← HW1.out])
  go_wp2_with fail
  go_ret
  exact ⟨rfl, HO.out, HG.out⟩
end Go.Proofs.YtpddlckkncmlmaaDoor
