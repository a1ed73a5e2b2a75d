import Derived.Test.YtnheepkmaibofaaDoorQzk
import Derived.Test.YtnheepkmaibofaaDoorQbk
import Derived.Test.YtnheepkmaibofaaDoorRok
import Derived.Test.YtnheepkmaibofaaDoorUhk
import Derived.Test.YtnheepkmaibofaaDoorKek
import Derived.Deep.Strs
/- Columns' arguments: opened, copied. -/
namespace Go.Proofs.YtnheepkmaibofaaDoor
open Go.ChangeShapes Go.WideShapes Go.ChangeAt Go.RowKit Go.Deep
set_option linter.unusedVariables false
set_option linter.unusedSimpArgs false
set_option maxHeartbeats 1000000
theorem Tryd.info73 : (Tryd.prog.info? 73).map (fun i => (i.zero, i.size, i.bytes)) = some (some (.agg #[.string ⟨#[]⟩, .int .i64 0]), 2, 24) := by kernel_rfl
theorem kcols_any (m : Nat) (v : Value) (l : List Cq) (w : World) (hm : m * 24 ≤ 140737488351232) (hr : Rd w 2 m v (ccs l)) :
    Calls Tryd.prog 21 #[v] w fun e w' => ∃ v', e = .returned v' ∧ w'.ownsRow w.heap.size 73 2 v' m (ccs l) ∧ Below w.heap.size w w' := by
  have HR := Lib.hid hr
  have hml := hr.len
  clear hr
  go_enter Tryd.func21, Tryd.ntmps21
  go_wp2_with (at_builtin; refine apg w m rfl _ _ 22 73 _ 2 24 Tryd.underlying22 Tryd.info73 rfl (by omega) rfl (World.ownsRow_nil _ _ _ _) (Nat.le_refl _) (by omega) (by omega) (ccs_one _) HR.out rfl rfl ?_; intro v1 w1 hown1 hb1 _)
  go_ret
  exact ⟨_, rfl, by simpa using hown1, hb1⟩
section
variable {H : Type} {enc : TypeId × Value → H} {w : World} {base : Nat} {held : Bool}
theorem col_cells {n : Nat} {cs : List Value} {y : DataW H × List MemPlace} (h : DataW.trod enc Tryd.prog w base (fun _ => true) held n 73 cs = some y) : ∃ o : Cq, cs = ccs [o] ∧ (o.t.size ≤ maxLen ∧ (Lit.int .i64 o.k).wf = true) := by
  obtain ⟨y0, y1, m, _, hl, h0, h1⟩ := trod_struct2 Tryd.underlying73 h
  rw [show Tryd.prog.cellsOf 73 = 2 by kernel_rfl] at hl
  dsimp only at h0 h1
  rw [show Tryd.prog.cellsOf 9 = 1 by kernel_rfl] at h0
  rw [show Tryd.prog.cellsOf 3 = 1 by kernel_rfl] at h1
  match cs, hl with
  | [c0, c1], _ =>
    obtain ⟨s, e0, _, w0⟩ := DataW.trod_string Tryd.underlying9 h0
    obtain ⟨k, e1, _, w1⟩ := DataW.trod_int Tryd.underlying3 h1
    simp at e0 e1
    subst e0 e1
    exact ⟨⟨s, k⟩, rfl, w0, w1⟩
/-- Cells of so many columns, read one by one. -/
theorem ccs_map (q : Cq → Prop) : ∀ (n : Nat) (vs : List Value), vs.length = n * 2 → (∀ i, i < n → ∃ y : Cq, (vs.drop (i * 2)).take 2 = ccs [y] ∧ q y) → ∃ l : List Cq, l.length = n ∧ vs = ccs l ∧ ∀ y ∈ l, q y
  | 0, vs, hl, _ => ⟨[], rfl, List.eq_nil_of_length_eq_zero (by simpa using hl), by simp⟩
  | n + 1, vs, hl, h => by
    obtain ⟨y, hy, hq⟩ := h 0 (by omega)
    obtain ⟨l, h1, h2, h3⟩ := ccs_map q n (vs.drop 2) (by rw [List.length_drop, hl]; omega) (fun i hi => by
      obtain ⟨z, hz, hqz⟩ := h (i + 1) (by omega)
      refine ⟨z, ?_, hqz⟩
      rw [List.drop_drop, show 2 + i * 2 = (i + 1) * 2 by omega]
      exact hz)
    refine ⟨y :: l, by rw [List.length_cons, h1], ?_, fun z hz => ?_⟩
    · have e := (List.take_append_drop 2 vs).symm
      rw [Nat.zero_mul, List.drop_zero] at hy
      rw [hy, h2] at e
      rw [e]
      rfl
    · rcases List.mem_cons.1 hz with rfl | hz
      · exact hq
      · exact h3 z hz
set_option maxRecDepth 100000 in
theorem open_cols {r : Reach} {b0 : Nat} {v : Value} {d : DataW H} {p : List MemPlace} (hv : Value.okWide Tryd.prog w r b0 22 v) (h : DataW.Trod enc Tryd.prog w base (fun _ => true) held 22 v d p) (hs : small Tryd.prog 22 d) :
    ∃ (n : Nat) (l : List Cq), Rd w 2 n v (ccs l) ∧ n * 24 ≤ 140737488351232 ∧ ∀ o ∈ l, o.t.size ≤ maxLen := by
  obtain ⟨a0, len, cap, rfl⟩ := okWide_slice Tryd.underlying22 hv
  obtain ⟨fuel, hf⟩ := h
  obtain ⟨v, n, vs, e, h1, h2, h3⟩ := open_rows Tryd.underlying22 (C := 2) (by kernel_rfl) (by omega) hf hs (R := fun cs' => ∃ o : Cq, cs' = ccs [o] ∧ (o.t.size ≤ maxLen ∧ (Lit.int .i64 o.k).wf = true)) (fun _ _ _ hy _ => col_cells hy)
  simp [Value.cells] at e
  subst e
  obtain ⟨l, g1, g2, g3⟩ := ccs_map _ n vs h1.1 h3
  subst g2
  rw [show Tryd.prog.bytesOf 73 = 24 by kernel_rfl] at h2
  simp only [reachBytes] at h2
  exact ⟨n, l, h1, by omega, fun o ho => (g3 o ho).1⟩
end
end Go.Proofs.YtnheepkmaibofaaDoor
/- Ops, copied and compared; an argument of ops. -/
namespace Go.Proofs.YtnheepkmaibofaaDoor
open Go.ChangeShapes Go.WideShapes Go.ChangeAt Go.RowKit Go.Deep
set_option linter.unusedVariables false
set_option linter.unusedSimpArgs false
set_option maxRecDepth 100000
set_option maxHeartbeats 1000000
theorem Tryd.info46 : (Tryd.prog.info? 46).map (fun i => (i.zero, i.size, i.bytes)) = some (some (.agg #[.int .i64 0, .int .i64 0, .int .i64 0, .string ⟨#[]⟩, .string ⟨#[]⟩]), 5, 56) := by kernel_rfl
theorem ops_any (m : Nat) (v : Value) (l : List Oq) (w : World) (hm : m * 56 ≤ 140737488351232) (hr : Rd w 5 m v (ocs l)) :
    Calls Tryd.prog 23 #[v] w fun e w' => ∃ v', e = .returned v' ∧ w'.ownsRow w.heap.size 46 5 v' m (ocs l) ∧ Below w.heap.size w w' := by
  have HR := Lib.hid hr
  have hml := hr.len
  clear hr
  go_enter Tryd.func23, Tryd.ntmps23
  go_wp2_with (at_builtin; refine apg w m rfl _ _ 25 46 _ 5 56 Tryd.underlying25 Tryd.info46 rfl (by omega) rfl (World.ownsRow_nil _ _ _ _) (Nat.le_refl _) (by omega) (by omega) (ocs_one _) HR.out rfl rfl ?_; intro v1 w1 hown1 hb1 _)
  go_ret
  exact ⟨_, rfl, by simpa using hown1, hb1⟩
section
variable {H : Type} {enc : TypeId × Value → H} {w : World} {base : Nat} {held : Bool}
theorem value_cells {n : Nat} {cs : List Value} {y : DataW H × List MemPlace} (h : DataW.trod enc Tryd.prog w base (fun _ => true) held n 44 cs = some y) : ∃ u : V, cs = [.int .i64 u.k, .int .i64 u.n, .string u.t] ∧ ((Lit.int .i64 u.k).wf = true ∧ (Lit.int .i64 u.n).wf = true ∧ u.t.size ≤ maxLen) := by
  obtain ⟨y0, y1, y2, m, _, hl, h0, h1, h2⟩ := trod_struct3 Tryd.underlying44 h
  rw [show Tryd.prog.cellsOf 44 = 3 by kernel_rfl] at hl
  dsimp only at h0 h1 h2
  rw [show Tryd.prog.cellsOf 3 = 1 by kernel_rfl] at h0 h1
  rw [show Tryd.prog.cellsOf 9 = 1 by kernel_rfl] at h2
  match cs, hl with
  | [c0, c1, c2], _ =>
    obtain ⟨k, e0, _, w0⟩ := DataW.trod_int Tryd.underlying3 h0
    obtain ⟨m, e1, _, w1⟩ := DataW.trod_int Tryd.underlying3 h1
    obtain ⟨s, e2, _, w2⟩ := DataW.trod_string Tryd.underlying9 h2
    simp at e0 e1 e2
    subst e0 e1 e2
    exact ⟨⟨k, m, s⟩, rfl, w0, w1, w2⟩
theorem op_cells {n : Nat} {cs : List Value} {y : DataW H × List MemPlace} (h : DataW.trod enc Tryd.prog w base (fun _ => true) held n 46 cs = some y) : ∃ o : Oq, cs = ocs [o] ∧ ((Lit.int .i64 o.k).wf = true ∧ ((Lit.int .i64 o.v.k).wf = true ∧ (Lit.int .i64 o.v.n).wf = true ∧ o.v.t.size ≤ maxLen) ∧ o.t.size ≤ maxLen) := by
  obtain ⟨y0, y1, y2, m, _, hl, h0, h1, h2⟩ := trod_struct3 Tryd.underlying46 h
  rw [show Tryd.prog.cellsOf 46 = 5 by kernel_rfl] at hl
  dsimp only at h0 h1 h2
  rw [show Tryd.prog.cellsOf 3 = 1 by kernel_rfl] at h0
  rw [show Tryd.prog.cellsOf 44 = 3 by kernel_rfl] at h1
  rw [show Tryd.prog.cellsOf 9 = 1 by kernel_rfl] at h2
  match cs, hl with
  | [c0, c1, c2, c3, c4], _ =>
    obtain ⟨k, e0, _, w0⟩ := DataW.trod_int Tryd.underlying3 h0
    obtain ⟨u, e1, w1⟩ := value_cells h1
    obtain ⟨s, e2, _, w2⟩ := DataW.trod_string Tryd.underlying9 h2
    simp at e0 e1 e2
    obtain ⟨e3, e4, e5⟩ := e1
    subst e0 e2 e3 e4 e5
    exact ⟨⟨k, u, s⟩, rfl, w0, w1, w2⟩
/-- Cells of so many ops, read one by one. -/
theorem ocs_map (q : Oq → Prop) : ∀ (n : Nat) (vs : List Value), vs.length = n * 5 → (∀ i, i < n → ∃ y : Oq, (vs.drop (i * 5)).take 5 = ocs [y] ∧ q y) → ∃ l : List Oq, l.length = n ∧ vs = ocs l ∧ ∀ y ∈ l, q y
  | 0, vs, hl, _ => ⟨[], rfl, List.eq_nil_of_length_eq_zero (by simpa using hl), by simp⟩
  | n + 1, vs, hl, h => by
    obtain ⟨y, hy, hq⟩ := h 0 (by omega)
    obtain ⟨l, h1, h2, h3⟩ := ocs_map q n (vs.drop 5) (by rw [List.length_drop, hl]; omega) (fun i hi => by
      obtain ⟨z, hz, hqz⟩ := h (i + 1) (by omega)
      refine ⟨z, ?_, hqz⟩
      rw [List.drop_drop, show 5 + i * 5 = (i + 1) * 5 by omega]
      exact hz)
    refine ⟨y :: l, by rw [List.length_cons, h1], ?_, fun z hz => ?_⟩
    · have e := (List.take_append_drop 5 vs).symm
      rw [Nat.zero_mul, List.drop_zero] at hy
      rw [hy, h2] at e
      rw [e]
      rfl
    · rcases List.mem_cons.1 hz with rfl | hz
      · exact hq
      · exact h3 z hz
theorem open_opsW {r : Reach} {b0 : Nat} {v : Value} {d : DataW H} {p : List MemPlace} (hv : Value.okWide Tryd.prog w r b0 25 v) (h : DataW.Trod enc Tryd.prog w base (fun _ => true) held 25 v d p) (hs : small Tryd.prog 25 d) :
    ∃ (n : Nat) (l : List Oq), Rd w 5 n v (ocs l) ∧ n * 56 ≤ 140737488351232 ∧ ∀ o ∈ l, (Lit.int .i64 o.v.n).wf = true ∧ o.t.size ≤ maxLen := by
  obtain ⟨a0, len, cap, rfl⟩ := okWide_slice Tryd.underlying25 hv
  obtain ⟨fuel, hf⟩ := h
  obtain ⟨v, n, vs, e, h1, h2, h3⟩ := open_rows Tryd.underlying25 (C := 5) (by kernel_rfl) (by omega) hf hs (R := fun cs' => ∃ o : Oq, cs' = ocs [o] ∧ ((Lit.int .i64 o.k).wf = true ∧ ((Lit.int .i64 o.v.k).wf = true ∧ (Lit.int .i64 o.v.n).wf = true ∧ o.v.t.size ≤ maxLen) ∧ o.t.size ≤ maxLen)) (fun _ _ _ hy _ => op_cells hy)
  simp [Value.cells] at e
  subst e
  obtain ⟨l, g1, g2, g3⟩ := ocs_map _ n vs h1.1 h3
  subst g2
  rw [show Tryd.prog.bytesOf 46 = 56 by kernel_rfl] at h2
  simp only [reachBytes] at h2
  exact ⟨n, l, h1, by omega, fun o ho => ⟨(g3 o ho).2.1.2.1, (g3 o ho).2.2⟩⟩
theorem open_ops {r : Reach} {b0 : Nat} {v : Value} {d : DataW H} {p : List MemPlace} (hv : Value.okWide Tryd.prog w r b0 25 v) (h : DataW.Trod enc Tryd.prog w base (fun _ => true) held 25 v d p) (hs : small Tryd.prog 25 d) :
    ∃ (n : Nat) (l : List Oq), Rd w 5 n v (ocs l) ∧ n * 56 ≤ 140737488351232 ∧ ∀ o ∈ l, o.t.size ≤ maxLen := by
  obtain ⟨n, l, h1, h2, h3⟩ := open_opsW hv h hs
  exact ⟨n, l, h1, h2, fun o ho => (h3 o ho).2⟩
end
end Go.Proofs.YtnheepkmaibofaaDoor
/- A law's own copy of values. -/
namespace Go.Proofs.YtnheepkmaibofaaDoor
open Go.ChangeShapes Go.WideShapes Go.ChangeAt Go.RowKit
set_option linter.unusedVariables false
set_option linter.unusedSimpArgs false
set_option maxHeartbeats 1000000
theorem kvals_any (m : Nat) (v : Value) (l : List V) (w : World) (hm : m * 32 ≤ 140737488351232) (hr : Rd w 3 m v (vc l)) :
    Calls Tryd.prog 22 #[v] w fun e w' => ∃ v', e = .returned v' ∧ w'.ownsRow w.heap.size 44 3 v' m (vc l) ∧ Below w.heap.size w w' := by
  have HR := Lib.hid hr
  have hml := hr.len
  clear hr
  go_enter Tryd.func22, Tryd.ntmps22
  go_wp2_with (at_builtin; refine apg w m rfl _ _ 23 44 _ 3 32 Tryd.underlying23 Tryd.info44 rfl (by omega) rfl (World.ownsRow_nil _ _ _ _) (Nat.le_refl _) (by omega) (by omega) (vc_one _) HR.out rfl rfl ?_; intro v1 w1 hown1 hb1 _)
  go_ret
  exact ⟨_, rfl, by simpa using hown1, hb1⟩
end Go.Proofs.YtnheepkmaibofaaDoor
