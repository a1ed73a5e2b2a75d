/- slices.Delete of one element out of a row that the call owns: at keys, at numbers. -/
import Derived.Test.YtahammkjkfdmhaaTh
namespace Go.Proofs.Ytahammkjkfdmhaa
open Go.ChangeShapes Go.WideShapes Go.ChangeAt Go.RowKit Go.Lib
set_option linter.unusedVariables false
set_option linter.unusedSimpArgs false
set_option maxHeartbeats 8000000
set_option maxRecDepth 100000
/-- 'clear(s)', s a slice of n > 0 elements of one cell each. -/
theorem run_clear1 {P : Program} (w : World) (t e ty : TypeId) (z : Value) (ht : P.underlying t = some (.slice e)) (hv : ∀ w, (zeroValue e).run P w = .ok z w) (h1 : ∀ u ∈ z.cells.toList, u.oneCell' = true) (b o n c : Nat) (hn : 0 < n)
    (hc : ∀ j, j < (Builtin.zeroCells z.cells n).toList.length → (w.cell? ⟨b, o + j, none⟩).isSome = true) (hf : ∀ j, j < (Builtin.zeroCells z.cells n).toList.length → w.frozen? ⟨b, o + j, none⟩ = false) :
    (Builtin.clear_ #[t] ty #[.slice (some ⟨b, o, none⟩) n c]).run P w = .ok (.tuple #[]) (w.setCells b o (Builtin.zeroCells z.cells n).toList) := by
  have hst := run_storeCells_cells (P := P) b o (Builtin.zeroCells z.cells n).toList 0 w (by simpa using hc) (by simpa using hf) (by
    intro v hv'
    simp only [Builtin.zeroCells, Array.toList_map, Array.toList_range, List.mem_map, List.mem_range] at hv'
    obtain ⟨i, hi, rfl⟩ := hv'
    have hpos : 0 < z.cells.size := by
      rcases Nat.eq_zero_or_pos z.cells.size with h | h
      · rw [h] at hi; simp at hi
      · exact h
    have hlt : i % z.cells.size < z.cells.size := Nat.mod_lt _ hpos
    rw [getElem!_pos z.cells _ hlt]
    exact h1 _ (by simp))
  simp only [Nat.add_zero] at hst
  obtain ⟨m, rfl⟩ : ∃ m, n = m + 1 := ⟨n - 1, by omega⟩
  simp [Builtin.clear_, run_underlying ht, hv, hst]
theorem zero1 (z : Value) (hz : z.cells.size = 1) (n : Nat) : (Builtin.zeroCells z.cells n).toList.length = n := by simp [Builtin.zeroCells, hz]
theorem erase_lay {xs : List Value} {i : Nat} (hi : i < xs.length) : (layL xs i (xs.drop (i + 1))).take (xs.length - 1) = xs.eraseIdx i := by
  have h1 : (xs.drop (i + 1)).length = xs.length - (i + 1) := List.length_drop
  unfold layL
  rw [List.take_append_of_le_length (by rw [List.length_append, List.length_take, h1]; omega)]
  rw [List.take_of_length_le (by rw [List.length_append, List.length_take, h1]; omega), List.eraseIdx_eq_take_drop_succ]
theorem lay_take {xs zs : List Value} {o : Nat} (h : o ≤ xs.length) : (layL xs o zs).take o = xs.take o := by
  unfold layL
  rw [List.append_assoc, List.take_append_of_le_length (by rw [List.length_take]; omega)]
  exact List.take_of_length_le (by rw [List.length_take]; omega)
theorem own_some {w : World} {base : Nat} {e : TypeId} {g n cap m : Nat} {xs : List Value} (h : w.ownsRow base e 1 (.slice (some ⟨g, 0, none⟩) n cap) n xs) (hm : m ≤ n) : w.ownsRow base e 1 (.slice (some ⟨g, 0, none⟩) m cap) m (xs.take m) := by
  obtain ⟨cur, h1, h2, h3, h4, h5, h6⟩ := own_raw h
  refine ⟨by rw [List.length_take]; have := h.1; omega, .inr ⟨g, cap, cur, rfl, h1, h2, by omega, h4, h5, ?_⟩⟩
  rw [← h6, List.take_take, Nat.mul_one, Nat.mul_one, Nat.min_eq_left hm]
theorem delK_any (w : World) (B g cap n : Nat) (xs : List Value) (i j : Nat) (hj : j = i + 1) (hown : w.ownsRow B 25 1 (.slice (some ⟨g, 0, none⟩) n cap) n xs) (hn : n ≤ 1000) (hi : i < n) (hxs : ∀ u ∈ xs, u.oneCell' = true) :
    Calls Try.prog 25 #[.slice (some ⟨g, 0, none⟩) n cap, .int .i64 (i : Int), .int .i64 (j : Int)] w fun e w' => e = .returned (.slice (some ⟨g, 0, none⟩) (n - 1) cap) ∧ w'.ownsRow B 25 1 (.slice (some ⟨g, 0, none⟩) (n - 1) cap) (n - 1) (xs.eraseIdx i) ∧ w.grownBy w' (some g) := by
  obtain ⟨i0, hi0, hz0, hz1, hz2⟩ := info_parts Try.info25
  obtain ⟨cur, hBg, hg, hcap, hcm, hcs, htk⟩ := own_raw hown
  have hxl : xs.length = n := by have := hown.1; omega
  unfold maxLen at hcm
  obtain ⟨m, hm⟩ : ∃ m, m = n - j := ⟨_, rfl⟩
  have hown1 : w.drew.ownsRow B 25 1 (.slice (some ⟨g, 0, none⟩) n cap) n xs := own_below hown (Below.refl _ _).drew
  obtain ⟨news, hnews⟩ : ∃ news, news = xs.drop j := ⟨_, rfl⟩
  have hnl : news.length = m := by rw [hnews, List.length_drop, hxl, hm]
  obtain ⟨A, hA, hsrc⟩ : ∃ A : Addr, (if cap = j then some (⟨g, 0, none⟩ : Addr) else some ⟨g, j, none⟩) = some A ∧ Hid (∀ t u, news[t]? = some u → w.drew.cell? (A.add t) = some u) := by
    by_cases h : cap = j
    · refine ⟨⟨g, 0, none⟩, by simp [h], fun t u hu => ?_⟩
      have h0 : news.length = 0 := by rw [hnl]; omega
      rw [List.length_eq_zero_iff.1 h0] at hu
      simp at hu
    · refine ⟨⟨g, j, none⟩, by simp [h], fun t u hu => ?_⟩
      rw [Addr.add_lit]
      rw [hnews, List.getElem?_drop] at hu
      have := hown1.cells rfl (j + t) u hu
      rw [Addr.add_lit, Nat.zero_add] at this
      exact this
  have s1 : Hid (news.length = m * 1) := by show news.length = m * 1; omega
  have s2 : Hid (∀ u ∈ news, u.oneCell' = true) := by rw [hnews]; exact fun u hu => hxs u (List.mem_of_mem_drop hu)
  have s3 : Hid (∀ t, t < news.length → (w.drew.cell? ⟨g, 0 + i * 1 + t, none⟩).isSome = true ∧ w.drew.frozen? ⟨g, 0 + i * 1 + t, none⟩ = false) := fun t ht => by
    rw [Nat.zero_add, Nat.mul_one]
    refine ⟨?_, hown1.frozenAt _⟩
    rw [hown1.cellAt _ (by omega), List.getElem?_eq_getElem (by omega)]
    rfl
  obtain ⟨o1, b1⟩ := lay_own news i w.drew _ hown1 (by omega)
  obtain ⟨W1, hW1⟩ : ∃ W1, W1 = w.drew.setCells g (0 + i * 1) news := ⟨_, rfl⟩
  rw [Nat.zero_add, Nat.mul_one] at hW1
  rw [← hW1] at o1 b1
  have hl1 : (layL xs i news).length = n := by have := o1.1; omega
  have hzl := zero1 (Value.slice none 0 0) rfl (n - (i + m))
  have hcl : ∀ ty, (Builtin.clear_ #[41] ty #[.slice (some ⟨g, i + m, none⟩) (n - (i + m)) (cap - (i + m))]).run Try.prog W1 = .ok (.tuple #[]) (W1.setCells g (i + m) (Builtin.zeroCells (Value.slice none 0 0).cells (n - (i + m))).toList) := fun ty =>
    run_clear1 W1 _ _ ty _ Try.underlying41 Try.zeroValue25 (by simp [Value.cells, Value.oneCell']) g (i + m) (n - (i + m)) (cap - (i + m)) (by omega)
      (fun k hk => by rw [hzl] at hk; rw [o1.cellAt _ (by omega), List.getElem?_eq_getElem (by omega)]; rfl) (fun k hk => o1.frozenAt _)
  obtain ⟨o2, b2⟩ := lay_own (Builtin.zeroCells (Value.slice none 0 0).cells (n - (i + m))).toList (i + m) W1 _ o1 (by rw [hzl, hl1]; omega)
  have o3 := own_some o2 (show n - 1 ≤ n by omega)
  have e3 : (layL (layL xs i news) (i + m) (Builtin.zeroCells (Value.slice none 0 0).cells (n - (i + m))).toList).take (n - 1) = xs.eraseIdx i := by
    rw [show n - 1 = i + m by omega, lay_take (by omega), show i + m = xs.length - 1 by omega, hnews, hj]
    exact erase_lay (by omega)
  rw [e3] at o3
  have HO := Lib.hid o3
  have hgb : w.grownBy (W1.setCells g (i + m) (Builtin.zeroCells (Value.slice none 0 0).cells (n - (i + m))).toList) (some g) := ⟨b2.os.trans b1.os, b2.tape.trans b1.tape, b2.output.trans b1.output, Nat.le_trans b1.size b2.size, fun k hk hne => (b2.block k (Nat.lt_of_lt_of_le hk b1.size) hne).trans (b1.block k hk hne)⟩
  have HG := Lib.hid hgb
  have HW1 := Lib.hid hW1
  have HCL := Lib.hid hcl
  have hic : i ≤ cap := by omega
  have hjc : j ≤ cap := by omega
  have him : n - 1 = i + m := by omega
  have q1 : (0 : Int) ≤ (i : Int) := by omega
  have q2 : (j : Int) ≤ (n : Int) := by omega
  have q3 : (i : Int) ≤ (n : Int) := by omega
  have q5 : (i : Int) ≤ (j : Int) := by omega
  have q6 : ¬ (i : Int) = (j : Int) := by omega
  have q7 : ((i : Int) == (j : Int)) = false := by simpa using q6
  have q4 : (n : Int) ≤ (cap : Int) := by omega
  rw [him] at HO ⊢
  have HM : Hid (n - j = m) := hm.symm
  have hroom : i + m ≤ cap := by omega
  have hroomn : i + m ≤ n := by omega
  have hpos : 0 < n - (i + m) := by omega
  clear hown hown1 o1 o2 o3 b1 b2 hl1 e3 hW1 hnl hnews hxl hj hm him hzl hcl hgb hg hcs htk hxs
  go_enter Try.func25, Try.ntmps25
  go_wp2_with fail
  go_region_law (refine step_append_room rfl (.tmp 22) (.tmp 25) 41 rfl 25 i0 1 Try.underlying41 hi0 hz1 g 0 i cap (by simp [Act.eval, Act.put]) A m (cap - j) news (by simp [Act.eval, Act.put]; exact HM.out) s1.out hsrc.out s2.out hroom s3.out ?_; rw [Nat.zero_add, Nat.mul_one, ← HW1.out])
  have hcl := HCL.out
  go_wp2_with fail
  go_ret
  exact ⟨rfl, HO.out, HG.out⟩
theorem delI_any (w : World) (B g cap n : Nat) (xs : List Value) (i j : Nat) (hj : j = i + 1) (hown : w.ownsRow B 3 1 (.slice (some ⟨g, 0, none⟩) n cap) n xs) (hn : n ≤ 1000) (hi : i < n) (hxs : ∀ u ∈ xs, u.oneCell' = true) :
    Calls Try.prog 26 #[.slice (some ⟨g, 0, none⟩) n cap, .int .i64 (i : Int), .int .i64 (j : Int)] w fun e w' => e = .returned (.slice (some ⟨g, 0, none⟩) (n - 1) cap) ∧ w'.ownsRow B 3 1 (.slice (some ⟨g, 0, none⟩) (n - 1) cap) (n - 1) (xs.eraseIdx i) ∧ w.grownBy w' (some g) := by
  obtain ⟨i0, hi0, hz0, hz1, hz2⟩ := info_parts Try.info3
  obtain ⟨cur, hBg, hg, hcap, hcm, hcs, htk⟩ := own_raw hown
  have hxl : xs.length = n := by have := hown.1; omega
  unfold maxLen at hcm
  obtain ⟨m, hm⟩ : ∃ m, m = n - j := ⟨_, rfl⟩
  have hown1 : w.drew.ownsRow B 3 1 (.slice (some ⟨g, 0, none⟩) n cap) n xs := own_below hown (Below.refl _ _).drew
  obtain ⟨news, hnews⟩ : ∃ news, news = xs.drop j := ⟨_, rfl⟩
  have hnl : news.length = m := by rw [hnews, List.length_drop, hxl, hm]
  obtain ⟨A, hA, hsrc⟩ : ∃ A : Addr, (if cap = j then some (⟨g, 0, none⟩ : Addr) else some ⟨g, j, none⟩) = some A ∧ Hid (∀ t u, news[t]? = some u → w.drew.cell? (A.add t) = some u) := by
    by_cases h : cap = j
    · refine ⟨⟨g, 0, none⟩, by simp [h], fun t u hu => ?_⟩
      have h0 : news.length = 0 := by rw [hnl]; omega
      rw [List.length_eq_zero_iff.1 h0] at hu
      simp at hu
    · refine ⟨⟨g, j, none⟩, by simp [h], fun t u hu => ?_⟩
      rw [Addr.add_lit]
      rw [hnews, List.getElem?_drop] at hu
      have := hown1.cells rfl (j + t) u hu
      rw [Addr.add_lit, Nat.zero_add] at this
      exact this
  have s1 : Hid (news.length = m * 1) := by show news.length = m * 1; omega
  have s2 : Hid (∀ u ∈ news, u.oneCell' = true) := by rw [hnews]; exact fun u hu => hxs u (List.mem_of_mem_drop hu)
  have s3 : Hid (∀ t, t < news.length → (w.drew.cell? ⟨g, 0 + i * 1 + t, none⟩).isSome = true ∧ w.drew.frozen? ⟨g, 0 + i * 1 + t, none⟩ = false) := fun t ht => by
    rw [Nat.zero_add, Nat.mul_one]
    refine ⟨?_, hown1.frozenAt _⟩
    rw [hown1.cellAt _ (by omega), List.getElem?_eq_getElem (by omega)]
    rfl
  obtain ⟨o1, b1⟩ := lay_own news i w.drew _ hown1 (by omega)
  obtain ⟨W1, hW1⟩ : ∃ W1, W1 = w.drew.setCells g (0 + i * 1) news := ⟨_, rfl⟩
  rw [Nat.zero_add, Nat.mul_one] at hW1
  rw [← hW1] at o1 b1
  have hl1 : (layL xs i news).length = n := by have := o1.1; omega
  have hzl := zero1 (Value.int .i64 0) rfl (n - (i + m))
  have hcl : ∀ ty, (Builtin.clear_ #[37] ty #[.slice (some ⟨g, i + m, none⟩) (n - (i + m)) (cap - (i + m))]).run Try.prog W1 = .ok (.tuple #[]) (W1.setCells g (i + m) (Builtin.zeroCells (Value.int .i64 0).cells (n - (i + m))).toList) := fun ty =>
    run_clear1 W1 _ _ ty _ Try.underlying37 Try.zeroValue3 (by simp [Value.cells, Value.oneCell']) g (i + m) (n - (i + m)) (cap - (i + m)) (by omega)
      (fun k hk => by rw [hzl] at hk; rw [o1.cellAt _ (by omega), List.getElem?_eq_getElem (by omega)]; rfl) (fun k hk => o1.frozenAt _)
  obtain ⟨o2, b2⟩ := lay_own (Builtin.zeroCells (Value.int .i64 0).cells (n - (i + m))).toList (i + m) W1 _ o1 (by rw [hzl, hl1]; omega)
  have o3 := own_some o2 (show n - 1 ≤ n by omega)
  have e3 : (layL (layL xs i news) (i + m) (Builtin.zeroCells (Value.int .i64 0).cells (n - (i + m))).toList).take (n - 1) = xs.eraseIdx i := by
    rw [show n - 1 = i + m by omega, lay_take (by omega), show i + m = xs.length - 1 by omega, hnews, hj]
    exact erase_lay (by omega)
  rw [e3] at o3
  have HO := Lib.hid o3
  have hgb : w.grownBy (W1.setCells g (i + m) (Builtin.zeroCells (Value.int .i64 0).cells (n - (i + m))).toList) (some g) := ⟨b2.os.trans b1.os, b2.tape.trans b1.tape, b2.output.trans b1.output, Nat.le_trans b1.size b2.size, fun k hk hne => (b2.block k (Nat.lt_of_lt_of_le hk b1.size) hne).trans (b1.block k hk hne)⟩
  have HG := Lib.hid hgb
  have HW1 := Lib.hid hW1
  have HCL := Lib.hid hcl
  have hic : i ≤ cap := by omega
  have hjc : j ≤ cap := by omega
  have him : n - 1 = i + m := by omega
  have q1 : (0 : Int) ≤ (i : Int) := by omega
  have q2 : (j : Int) ≤ (n : Int) := by omega
  have q3 : (i : Int) ≤ (n : Int) := by omega
  have q5 : (i : Int) ≤ (j : Int) := by omega
  have q6 : ¬ (i : Int) = (j : Int) := by omega
  have q7 : ((i : Int) == (j : Int)) = false := by simpa using q6
  have q4 : (n : Int) ≤ (cap : Int) := by omega
  rw [him] at HO ⊢
  have HM : Hid (n - j = m) := hm.symm
  have hroom : i + m ≤ cap := by omega
  have hroomn : i + m ≤ n := by omega
  have hpos : 0 < n - (i + m) := by omega
  clear hown hown1 o1 o2 o3 b1 b2 hl1 e3 hW1 hnl hnews hxl hj hm him hzl hcl hgb hg hcs htk hxs
  go_enter Try.func26, Try.ntmps26
  go_wp2_with fail
  go_region_law (refine step_append_room rfl (.tmp 22) (.tmp 25) 37 rfl 3 i0 1 Try.underlying37 hi0 hz1 g 0 i cap (by simp [Act.eval, Act.put]) A m (cap - j) news (by simp [Act.eval, Act.put]; exact HM.out) s1.out hsrc.out s2.out hroom s3.out ?_; rw [Nat.zero_add, Nat.mul_one, ← HW1.out])
  have hcl := HCL.out
  go_wp2_with fail
  go_ret
  exact ⟨rfl, HO.out, HG.out⟩
end Go.Proofs.Ytahammkjkfdmhaa
