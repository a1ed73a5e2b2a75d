import Derived.Test.YtmfkdpfcpdmkdaaDoorQzk
import Derived.Test.YtmfkdpfcpdmkdaaDoorQbk
import Derived.Test.YtmfkdpfcpdmkdaaDoorB2k
import Derived.Test.YtmfkdpfcpdmkdaaDoorUhk
import Derived.Test.YtmfkdpfcpdmkdaaDoorKek
import Derived.Deep.Strs
/- Columns' arguments: opened, copied. -/
namespace Go.Proofs.YtmfkdpfcpdmkdaaDoor
open Go.ChangeShapes Go.WideShapes Go.ChangeAt Go.RowKit Go.Deep
set_option linter.unusedVariables false
set_option linter.unusedSimpArgs false
set_option maxHeartbeats 1000000
theorem Tryd.info62 : (Tryd.prog.info? 62).map (fun i => (i.zero, i.size, i.bytes)) = some (some (.agg #[.string ⟨#[]⟩, .int .i64 0]), 2, 24) := by kernel_rfl
section
variable {H : Type} {enc : TypeId × Value → H} {w : World} {base : Nat} {held : Bool}
theorem col_cells {n : Nat} {cs : List Value} {y : DataW H × List MemPlace} (h : DataW.trod enc Tryd.prog w base (fun _ => true) held n 62 cs = some y) : ∃ o : Cq, cs = ccs [o] ∧ (o.t.size ≤ maxLen ∧ (Lit.int .i64 o.k).wf = true) := by
  obtain ⟨y0, y1, m, _, hl, h0, h1⟩ := trod_struct2 Tryd.underlying62 h
  rw [show Tryd.prog.cellsOf 62 = 2 by kernel_rfl] at hl
  dsimp only at h0 h1
  rw [show Tryd.prog.cellsOf 9 = 1 by kernel_rfl] at h0
  rw [show Tryd.prog.cellsOf 3 = 1 by kernel_rfl] at h1
  match cs, hl with
  | [c0, c1], _ =>
    obtain ⟨s, e0, _, w0⟩ := DataW.trod_string Tryd.underlying9 h0
    obtain ⟨k, e1, _, w1⟩ := DataW.trod_int Tryd.underlying3 h1
    simp at e0 e1
    subst e0 e1
    exact ⟨⟨s, k⟩, rfl, w0, w1⟩
/-- Cells of so many columns, read one by one. -/
theorem ccs_map (q : Cq → Prop) : ∀ (n : Nat) (vs : List Value), vs.length = n * 2 → (∀ i, i < n → ∃ y : Cq, (vs.drop (i * 2)).take 2 = ccs [y] ∧ q y) → ∃ l : List Cq, l.length = n ∧ vs = ccs l ∧ ∀ y ∈ l, q y
  | 0, vs, hl, _ => ⟨[], rfl, List.eq_nil_of_length_eq_zero (by simpa using hl), by simp⟩
  | n + 1, vs, hl, h => by
    obtain ⟨y, hy, hq⟩ := h 0 (by omega)
    obtain ⟨l, h1, h2, h3⟩ := ccs_map q n (vs.drop 2) (by rw [List.length_drop, hl]; omega) (fun i hi => by
      obtain ⟨z, hz, hqz⟩ := h (i + 1) (by omega)
      refine ⟨z, ?_, hqz⟩
      rw [List.drop_drop, show 2 + i * 2 = (i + 1) * 2 by omega]
      exact hz)
    refine ⟨y :: l, by rw [List.length_cons, h1], ?_, fun z hz => ?_⟩
    · have e := (List.take_append_drop 2 vs).symm
      rw [Nat.zero_mul, List.drop_zero] at hy
      rw [hy, h2] at e
      rw [e]
      rfl
    · rcases List.mem_cons.1 hz with rfl | hz
      · exact hq
      · exact h3 z hz
set_option maxRecDepth 100000 in
theorem open_cols {r : Reach} {b0 : Nat} {v : Value} {d : DataW H} {p : List MemPlace} (hv : Value.okWide Tryd.prog w r b0 33 v) (h : DataW.Trod enc Tryd.prog w base (fun _ => true) held 33 v d p) (hs : small Tryd.prog 33 d) :
    ∃ (n : Nat) (l : List Cq), Rd w 2 n v (ccs l) ∧ n * 24 ≤ 140737488351232 ∧ ∀ o ∈ l, o.t.size ≤ maxLen := by
  obtain ⟨a0, len, cap, rfl⟩ := okWide_slice Tryd.underlying33 hv
  obtain ⟨fuel, hf⟩ := h
  obtain ⟨v, n, vs, e, h1, h2, h3⟩ := open_rows Tryd.underlying33 (C := 2) (by kernel_rfl) (by omega) hf hs (R := fun cs' => ∃ o : Cq, cs' = ccs [o] ∧ (o.t.size ≤ maxLen ∧ (Lit.int .i64 o.k).wf = true)) (fun _ _ _ hy _ => col_cells hy)
  simp [Value.cells] at e
  subst e
  obtain ⟨l, g1, g2, g3⟩ := ccs_map _ n vs h1.1 h3
  subst g2
  rw [show Tryd.prog.bytesOf 62 = 24 by kernel_rfl] at h2
  simp only [reachBytes] at h2
  exact ⟨n, l, h1, by omega, fun o ho => (g3 o ho).1⟩
end
end Go.Proofs.YtmfkdpfcpdmkdaaDoor
/- Ops, copied and compared; an argument of ops. -/
namespace Go.Proofs.YtmfkdpfcpdmkdaaDoor
open Go.ChangeShapes Go.WideShapes Go.ChangeAt Go.RowKit Go.Deep
set_option linter.unusedVariables false
set_option linter.unusedSimpArgs false
set_option maxRecDepth 100000
set_option maxHeartbeats 1000000
theorem Tryd.info44 : (Tryd.prog.info? 44).map (fun i => (i.zero, i.size, i.bytes)) = some (some (.agg #[.int .i64 0, .int .i64 0, .int .i64 0, .string ⟨#[]⟩, .string ⟨#[]⟩]), 5, 56) := by kernel_rfl
section
variable {H : Type} {enc : TypeId × Value → H} {w : World} {base : Nat} {held : Bool}
theorem value_cells {n : Nat} {cs : List Value} {y : DataW H × List MemPlace} (h : DataW.trod enc Tryd.prog w base (fun _ => true) held n 36 cs = some y) : ∃ u : V, cs = [.int .i64 u.k, .int .i64 u.n, .string u.t] ∧ ((Lit.int .i64 u.k).wf = true ∧ (Lit.int .i64 u.n).wf = true ∧ u.t.size ≤ maxLen) := by
  obtain ⟨y0, y1, y2, m, _, hl, h0, h1, h2⟩ := trod_struct3 Tryd.underlying36 h
  rw [show Tryd.prog.cellsOf 36 = 3 by kernel_rfl] at hl
  dsimp only at h0 h1 h2
  rw [show Tryd.prog.cellsOf 3 = 1 by kernel_rfl] at h0 h1
  rw [show Tryd.prog.cellsOf 9 = 1 by kernel_rfl] at h2
  match cs, hl with
  | [c0, c1, c2], _ =>
    obtain ⟨k, e0, _, w0⟩ := DataW.trod_int Tryd.underlying3 h0
    obtain ⟨m, e1, _, w1⟩ := DataW.trod_int Tryd.underlying3 h1
    obtain ⟨s, e2, _, w2⟩ := DataW.trod_string Tryd.underlying9 h2
    simp at e0 e1 e2
    subst e0 e1 e2
    exact ⟨⟨k, m, s⟩, rfl, w0, w1, w2⟩
theorem op_cells {n : Nat} {cs : List Value} {y : DataW H × List MemPlace} (h : DataW.trod enc Tryd.prog w base (fun _ => true) held n 44 cs = some y) : ∃ o : Oq, cs = ocs [o] ∧ ((Lit.int .i64 o.k).wf = true ∧ ((Lit.int .i64 o.v.k).wf = true ∧ (Lit.int .i64 o.v.n).wf = true ∧ o.v.t.size ≤ maxLen) ∧ o.t.size ≤ maxLen) := by
  obtain ⟨y0, y1, y2, m, _, hl, h0, h1, h2⟩ := trod_struct3 Tryd.underlying44 h
  rw [show Tryd.prog.cellsOf 44 = 5 by kernel_rfl] at hl
  dsimp only at h0 h1 h2
  rw [show Tryd.prog.cellsOf 3 = 1 by kernel_rfl] at h0
  rw [show Tryd.prog.cellsOf 36 = 3 by kernel_rfl] at h1
  rw [show Tryd.prog.cellsOf 9 = 1 by kernel_rfl] at h2
  match cs, hl with
  | [c0, c1, c2, c3, c4], _ =>
    obtain ⟨k, e0, _, w0⟩ := DataW.trod_int Tryd.underlying3 h0
    obtain ⟨u, e1, w1⟩ := value_cells h1
    obtain ⟨s, e2, _, w2⟩ := DataW.trod_string Tryd.underlying9 h2
    simp at e0 e1 e2
    obtain ⟨e3, e4, e5⟩ := e1
    subst e0 e2 e3 e4 e5
    exact ⟨⟨k, u, s⟩, rfl, w0, w1, w2⟩
/-- Cells of so many ops, read one by one. -/
theorem ocs_map (q : Oq → Prop) : ∀ (n : Nat) (vs : List Value), vs.length = n * 5 → (∀ i, i < n → ∃ y : Oq, (vs.drop (i * 5)).take 5 = ocs [y] ∧ q y) → ∃ l : List Oq, l.length = n ∧ vs = ocs l ∧ ∀ y ∈ l, q y
  | 0, vs, hl, _ => ⟨[], rfl, List.eq_nil_of_length_eq_zero (by simpa using hl), by simp⟩
  | n + 1, vs, hl, h => by
    obtain ⟨y, hy, hq⟩ := h 0 (by omega)
    obtain ⟨l, h1, h2, h3⟩ := ocs_map q n (vs.drop 5) (by rw [List.length_drop, hl]; omega) (fun i hi => by
      obtain ⟨z, hz, hqz⟩ := h (i + 1) (by omega)
      refine ⟨z, ?_, hqz⟩
      rw [List.drop_drop, show 5 + i * 5 = (i + 1) * 5 by omega]
      exact hz)
    refine ⟨y :: l, by rw [List.length_cons, h1], ?_, fun z hz => ?_⟩
    · have e := (List.take_append_drop 5 vs).symm
      rw [Nat.zero_mul, List.drop_zero] at hy
      rw [hy, h2] at e
      rw [e]
      rfl
    · rcases List.mem_cons.1 hz with rfl | hz
      · exact hq
      · exact h3 z hz
theorem open_opsW {r : Reach} {b0 : Nat} {v : Value} {d : DataW H} {p : List MemPlace} (hv : Value.okWide Tryd.prog w r b0 27 v) (h : DataW.Trod enc Tryd.prog w base (fun _ => true) held 27 v d p) (hs : small Tryd.prog 27 d) :
    ∃ (n : Nat) (l : List Oq), Rd w 5 n v (ocs l) ∧ n * 56 ≤ 140737488351232 ∧ ∀ o ∈ l, (Lit.int .i64 o.v.n).wf = true ∧ o.t.size ≤ maxLen := by
  obtain ⟨a0, len, cap, rfl⟩ := okWide_slice Tryd.underlying27 hv
  obtain ⟨fuel, hf⟩ := h
  obtain ⟨v, n, vs, e, h1, h2, h3⟩ := open_rows Tryd.underlying27 (C := 5) (by kernel_rfl) (by omega) hf hs (R := fun cs' => ∃ o : Oq, cs' = ocs [o] ∧ ((Lit.int .i64 o.k).wf = true ∧ ((Lit.int .i64 o.v.k).wf = true ∧ (Lit.int .i64 o.v.n).wf = true ∧ o.v.t.size ≤ maxLen) ∧ o.t.size ≤ maxLen)) (fun _ _ _ hy _ => op_cells hy)
  simp [Value.cells] at e
  subst e
  obtain ⟨l, g1, g2, g3⟩ := ocs_map _ n vs h1.1 h3
  subst g2
  rw [show Tryd.prog.bytesOf 44 = 56 by kernel_rfl] at h2
  simp only [reachBytes] at h2
  exact ⟨n, l, h1, by omega, fun o ho => ⟨(g3 o ho).2.1.2.1, (g3 o ho).2.2⟩⟩
theorem open_ops {r : Reach} {b0 : Nat} {v : Value} {d : DataW H} {p : List MemPlace} (hv : Value.okWide Tryd.prog w r b0 27 v) (h : DataW.Trod enc Tryd.prog w base (fun _ => true) held 27 v d p) (hs : small Tryd.prog 27 d) :
    ∃ (n : Nat) (l : List Oq), Rd w 5 n v (ocs l) ∧ n * 56 ≤ 140737488351232 ∧ ∀ o ∈ l, o.t.size ≤ maxLen := by
  obtain ⟨n, l, h1, h2, h3⟩ := open_opsW hv h hs
  exact ⟨n, l, h1, h2, fun o ho => (h3 o ho).2⟩
end
end Go.Proofs.YtmfkdpfcpdmkdaaDoor
/- A law's own copy of values. -/
namespace Go.Proofs.YtmfkdpfcpdmkdaaDoor
open Go.ChangeShapes Go.WideShapes Go.ChangeAt Go.RowKit
set_option linter.unusedVariables false
set_option linter.unusedSimpArgs false
set_option maxHeartbeats 1000000
end Go.Proofs.YtmfkdpfcpdmkdaaDoor
