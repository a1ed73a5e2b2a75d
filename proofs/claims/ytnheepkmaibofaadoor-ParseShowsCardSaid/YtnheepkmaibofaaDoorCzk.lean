import Derived.Test.YtnheepkmaibofaaDoorCak
import Derived.Test.YtnheepkmaibofaaDoorCjk
import Derived.Test.YtnheepkmaibofaaDoorQok
/- An argument that is a statement: opened. -/
namespace Go.Proofs.YtnheepkmaibofaaDoor.cs
open Go.ChangeShapes Go.WideShapes Go.ChangeAt Go.RowKit Go.Deep
set_option linter.unusedVariables false
set_option linter.unusedSimpArgs false
set_option maxHeartbeats 2000000
section
variable {H : Type} {enc : TypeId × Value → H} {w : World} {base : Nat} {held : Bool}
theorem vcs_map (q : V → Prop) : ∀ (n : Nat) (vs : List Value), vs.length = n * 3 → (∀ i, i < n → ∃ y : V, (vs.drop (i * 3)).take 3 = vc [y] ∧ q y) → ∃ l : List V, l.length = n ∧ vs = vc l ∧ ∀ y ∈ l, q y
  | 0, vs, hl, _ => ⟨[], rfl, List.eq_nil_of_length_eq_zero (by simpa using hl), by simp⟩
  | n + 1, vs, hl, h => by
    obtain ⟨y, hy, hq⟩ := h 0 (by omega)
    obtain ⟨l, h1, h2, h3⟩ := vcs_map q n (vs.drop 3) (by rw [List.length_drop, hl]; omega) (fun i hi => by
      obtain ⟨z, hz, hqz⟩ := h (i + 1) (by omega)
      refine ⟨z, ?_, hqz⟩
      rw [List.drop_drop, show 3 + i * 3 = (i + 1) * 3 by omega]
      exact hz)
    refine ⟨y :: l, by rw [List.length_cons, h1], ?_, fun z hz => ?_⟩
    · have e := (List.take_append_drop 3 vs).symm
      rw [Nat.zero_mul, List.drop_zero] at hy
      rw [hy, h2] at e
      rw [e]
      rfl
    · rcases List.mem_cons.1 hz with rfl | hz
      · exact hq
      · exact h3 z hz
set_option maxRecDepth 100000 in
theorem read_cols {fuel : Nat} {cs : List Value} {x : DataW H × List MemPlace} (hf : DataW.trod enc Tryd.prog w base (fun _ => true) held fuel 22 cs = some x) (hs : small Tryd.prog 22 x.1) :
    ∃ (v : Value) (l : List Cq), cs = [v] ∧ Rd w 2 l.length v (ccs l) ∧ l.length * 24 ≤ 140737488351232 ∧ ∀ o ∈ l, o.t.size ≤ maxLen := by
  obtain ⟨v, n, vs, e, h1, h2, h3⟩ := open_rows Tryd.underlying22 (C := 2) (by kernel_rfl) (by omega) hf hs (R := fun cs' => ∃ o : Cq, cs' = ccs [o] ∧ (o.t.size ≤ maxLen ∧ (Lit.int .i64 o.k).wf = true)) (fun _ _ _ hy _ => col_cells hy)
  obtain ⟨l, g1, g2, g3⟩ := ccs_map _ n vs h1.1 h3
  subst g2 g1
  rw [show Tryd.prog.bytesOf 73 = 24 by kernel_rfl] at h2
  simp only [reachBytes] at h2
  exact ⟨v, l, e, h1, by omega, fun o ho => (g3 o ho).1⟩
set_option maxRecDepth 100000 in
theorem read_vals {fuel : Nat} {cs : List Value} {x : DataW H × List MemPlace} (hf : DataW.trod enc Tryd.prog w base (fun _ => true) held fuel 23 cs = some x) (hs : small Tryd.prog 23 x.1) :
    ∃ (v : Value) (l : List V), cs = [v] ∧ Rd w 3 l.length v (vc l) ∧ l.length * 32 ≤ 140737488351232 ∧ ∀ o ∈ l, (Lit.int .i64 o.n).wf = true ∧ o.t.size ≤ maxLen := by
  obtain ⟨v, n, vs, e, h1, h2, h3⟩ := open_rows Tryd.underlying23 (C := 3) (by kernel_rfl) (by omega) hf hs (R := fun cs' => ∃ u : V, cs' = vc [u] ∧ ((Lit.int .i64 u.n).wf = true ∧ u.t.size ≤ maxLen)) (fun _ _ _ hy _ => by
    obtain ⟨u, h1, _, h2, h3⟩ := value_cells hy
    exact ⟨u, h1, h2, h3⟩)
  obtain ⟨l, g1, g2, g3⟩ := vcs_map _ n vs h1.1 h3
  subst g2 g1
  rw [show Tryd.prog.bytesOf 44 = 32 by kernel_rfl] at h2
  simp only [reachBytes] at h2
  exact ⟨v, l, e, h1, by omega, g3⟩
set_option maxRecDepth 100000 in
theorem read_ops {fuel : Nat} {cs : List Value} {x : DataW H × List MemPlace} (hf : DataW.trod enc Tryd.prog w base (fun _ => true) held fuel 25 cs = some x) (hs : small Tryd.prog 25 x.1) :
    ∃ (v : Value) (l : List Oq), cs = [v] ∧ Rd w 5 l.length v (ocs l) ∧ l.length * 56 ≤ 140737488351232 ∧ ∀ o ∈ l, (Lit.int .i64 o.v.n).wf = true ∧ o.v.t.size ≤ maxLen ∧ o.t.size ≤ maxLen := by
  obtain ⟨v, n, vs, e, h1, h2, h3⟩ := open_rows Tryd.underlying25 (C := 5) (by kernel_rfl) (by omega) hf hs (R := fun cs' => ∃ o : Oq, cs' = ocs [o] ∧ ((Lit.int .i64 o.k).wf = true ∧ ((Lit.int .i64 o.v.k).wf = true ∧ (Lit.int .i64 o.v.n).wf = true ∧ o.v.t.size ≤ maxLen) ∧ o.t.size ≤ maxLen)) (fun _ _ _ hy _ => op_cells hy)
  obtain ⟨l, g1, g2, g3⟩ := ocs_map _ n vs h1.1 h3
  subst g2 g1
  rw [show Tryd.prog.bytesOf 46 = 56 by kernel_rfl] at h2
  simp only [reachBytes] at h2
  exact ⟨v, l, e, h1, by omega, fun o ho => ⟨(g3 o ho).2.1.2.1, (g3 o ho).2.1.2.2, (g3 o ho).2.2⟩⟩
set_option maxRecDepth 100000 in
theorem read_names {fuel : Nat} {cs : List Value} {x : DataW H × List MemPlace} (hf : DataW.trod enc Tryd.prog w base (fun _ => true) held fuel 24 cs = some x) (hs : small Tryd.prog 24 x.1) :
    ∃ (v : Value) (l : List ByteArray), cs = [v] ∧ Rd w 1 l.length v (l.map Value.string) ∧ l.length * 16 ≤ 140737488351232 ∧ ∀ o ∈ l, o.size ≤ maxLen := by
  obtain ⟨v, n, vs, e, h1, h2, h3⟩ := open_rows Tryd.underlying24 (C := 1) (by kernel_rfl) (by omega) hf hs (R := fun cs' => ∃ t : ByteArray, cs' = [.string t] ∧ t.size ≤ maxLen) (fun _ _ _ hy _ => by
    obtain ⟨s, e2, _, w2⟩ := DataW.trod_string Tryd.underlying9 hy
    exact ⟨s, e2, w2⟩)
  obtain ⟨l, g1, g2, g3⟩ := cells_map Value.string (fun t => t.size ≤ maxLen) n vs (by simpa using h1.1) (fun i hi => h3 i hi)
  subst g2 g1
  rw [show Tryd.prog.bytesOf 9 = 16 by kernel_rfl] at h2
  simp only [reachBytes] at h2
  exact ⟨v, l, e, h1, by omega, g3⟩
theorem list12 {α : Type} {l : List α} (h : l.length = 12) : ∃ c0 c1 c2 c3 c4 c5 c6 c7 c8 c9 c10 c11, l = [c0, c1, c2, c3, c4, c5, c6, c7, c8, c9, c10, c11] := by
  match l, h with
  | [c0, c1, c2, c3, c4, c5, c6, c7, c8, c9, c10, c11], _ => exact ⟨c0, c1, c2, c3, c4, c5, c6, c7, c8, c9, c10, c11, rfl⟩
/-- What is known of the parts of a statement that is an argument. -/
structure SqIn (s : Sq) : Prop where
  z2 : s.cols.length * 24 ≤ 140737488351232
  z3 : s.row.length * 32 ≤ 140737488351232
  z4 : s.names.length * 16 ≤ 140737488351232
  z6 : s.wh.length * 56 ≤ 140737488351232
  z11 : s.to.length * 56 ≤ 140737488351232
  t : s.t.size ≤ 140737488351232
  o : s.ord.size ≤ 140737488351232
  e : s.st.size ≤ 140737488351232
theorem SqIn.sizes {s : Sq} (h : SqIn s) : SqS s := ⟨h.t, h.o, h.e, by have := h.z2; omega, by have := h.z3; omega, by have := h.z4; omega, by have := h.z6; omega, by have := h.z11; omega⟩
theorem text_small {y : DataW H × List MemPlace} {t : ByteArray} {T : TypeId} (hy : y = (.lit (.string t.data.toList), [])) (hs : small Tryd.prog T y.1) : t.size ≤ 140737488351232 := by
  subst hy
  have := hs t.data.toList.length (by simp [DataW.weights])
  have hl := len_size t
  simp only [reachBytes] at this
  omega
set_option maxRecDepth 100000 in
theorem open_stmt {r : Reach} {b0 : Nat} {v : Value} {d : DataW H} {p : List MemPlace} (hv : Value.okWide Tryd.prog w r b0 27 v) (h : DataW.Trod enc Tryd.prog w base (fun _ => true) held 27 v d p) (hs : small Tryd.prog 27 d) :
    ∃ (s : Sq) (p : Ps), v = stV s p ∧ StR w s p ∧ SqIn s ∧ SqZ s := by
  obtain ⟨cs, rfl, hsz⟩ := okWide_struct Tryd.underlying27 hv
  obtain ⟨fuel, hf⟩ := h
  rw [show (Value.agg cs).cells.toList = cs.toList from rfl] at hf
  obtain ⟨xs, n, _, hx, hl, hlen, hfl⟩ := DataW.trod_struct Tryd.underlying27 hf
  rw [show Tryd.prog.cellsOf 27 = 12 by kernel_rfl] at hl hsz
  obtain ⟨c0, c1, c2, c3, c4, c5, c6, c7, c8, c9, c10, c11, hcs⟩ := list12 hl
  obtain ⟨x0, x1, x2, x3, x4, x5, x6, x7, x8, x9, x10, x11, hxs⟩ := list12 (show xs.length = 12 from hlen)
  subst hxs
  simp only [Prod.mk.injEq] at hx
  obtain ⟨rfl, -⟩ := hx
  rw [hcs] at hfl
  have ci : Tryd.prog.cellsOf 3 = 1 := by kernel_rfl
  have cst : Tryd.prog.cellsOf 9 = 1 := by kernel_rfl
  have cb : Tryd.prog.cellsOf 4 = 1 := by kernel_rfl
  have k2 : Tryd.prog.cellsOf 22 = 1 := by kernel_rfl
  have k3 : Tryd.prog.cellsOf 23 = 1 := by kernel_rfl
  have k4 : Tryd.prog.cellsOf 24 = 1 := by kernel_rfl
  have k6 : Tryd.prog.cellsOf 25 = 1 := by kernel_rfl
  have h0 : DataW.trod enc Tryd.prog w base (fun _ => true) held n 3 (([c0, c1, c2, c3, c4, c5, c6, c7, c8, c9, c10, c11].drop 0).take (Tryd.prog.cellsOf 3)) = some x0 := hfl 0 _ rfl
  have h1 : DataW.trod enc Tryd.prog w base (fun _ => true) held n 9 (([c0, c1, c2, c3, c4, c5, c6, c7, c8, c9, c10, c11].drop 1).take (Tryd.prog.cellsOf 9)) = some x1 := hfl 1 _ rfl
  have h2 : DataW.trod enc Tryd.prog w base (fun _ => true) held n 22 (([c0, c1, c2, c3, c4, c5, c6, c7, c8, c9, c10, c11].drop 2).take (Tryd.prog.cellsOf 22)) = some x2 := hfl 2 _ rfl
  have h3 : DataW.trod enc Tryd.prog w base (fun _ => true) held n 23 (([c0, c1, c2, c3, c4, c5, c6, c7, c8, c9, c10, c11].drop 3).take (Tryd.prog.cellsOf 23)) = some x3 := hfl 3 _ rfl
  have h4 : DataW.trod enc Tryd.prog w base (fun _ => true) held n 24 (([c0, c1, c2, c3, c4, c5, c6, c7, c8, c9, c10, c11].drop 4).take (Tryd.prog.cellsOf 24)) = some x4 := hfl 4 _ rfl
  have h5 : DataW.trod enc Tryd.prog w base (fun _ => true) held n 4 (([c0, c1, c2, c3, c4, c5, c6, c7, c8, c9, c10, c11].drop 5).take (Tryd.prog.cellsOf 4)) = some x5 := hfl 5 _ rfl
  have h6 : DataW.trod enc Tryd.prog w base (fun _ => true) held n 25 (([c0, c1, c2, c3, c4, c5, c6, c7, c8, c9, c10, c11].drop 6).take (Tryd.prog.cellsOf 25)) = some x6 := hfl 6 _ rfl
  have h7 : DataW.trod enc Tryd.prog w base (fun _ => true) held n 9 (([c0, c1, c2, c3, c4, c5, c6, c7, c8, c9, c10, c11].drop 7).take (Tryd.prog.cellsOf 9)) = some x7 := hfl 7 _ rfl
  have h8 : DataW.trod enc Tryd.prog w base (fun _ => true) held n 4 (([c0, c1, c2, c3, c4, c5, c6, c7, c8, c9, c10, c11].drop 8).take (Tryd.prog.cellsOf 4)) = some x8 := hfl 8 _ rfl
  have h9 : DataW.trod enc Tryd.prog w base (fun _ => true) held n 3 (([c0, c1, c2, c3, c4, c5, c6, c7, c8, c9, c10, c11].drop 9).take (Tryd.prog.cellsOf 3)) = some x9 := hfl 9 _ rfl
  have h10 : DataW.trod enc Tryd.prog w base (fun _ => true) held n 9 (([c0, c1, c2, c3, c4, c5, c6, c7, c8, c9, c10, c11].drop 10).take (Tryd.prog.cellsOf 9)) = some x10 := hfl 10 _ rfl
  have h11 : DataW.trod enc Tryd.prog w base (fun _ => true) held n 25 (([c0, c1, c2, c3, c4, c5, c6, c7, c8, c9, c10, c11].drop 11).take (Tryd.prog.cellsOf 25)) = some x11 := hfl 11 _ rfl
  rw [ci] at h0 h9
  rw [cst] at h1 h7 h10
  rw [cb] at h5 h8
  rw [k2] at h2
  rw [k3] at h3
  rw [k4] at h4
  rw [k6] at h6 h11
  have sm : ∀ (j : Nat) (t : TypeId) (y : DataW H), (Tryd.prog.underlying 27).map (fun u => match u with | .struct fs => (fs.toList.map (·.type))[j]? | _ => none) = some (some t) → ([x0, x1, x2, x3, x4, x5, x6, x7, x8, x9, x10, x11].map (·.1))[j]? = some y → small Tryd.prog t y := by
    intro j t y ht hy q hq
    refine hs q ?_
    rw [Tryd.underlying27] at ht
    simp only [DataW.weights, Tryd.underlying27]
    simp only [Option.map_some, Option.some.injEq] at ht
    exact weights_each ht hy q hq
  obtain ⟨k, e0, _, w0⟩ := DataW.trod_int Tryd.underlying3 h0
  obtain ⟨t, e1, y1, w1⟩ := DataW.trod_string Tryd.underlying9 h1
  obtain ⟨v2, l2, e2, r2, z2, q2⟩ := read_cols h2 (sm 2 _ _ (by rw [Tryd.underlying27]; rfl) rfl)
  obtain ⟨v3, l3, e3, r3, z3, q3⟩ := read_vals h3 (sm 3 _ _ (by rw [Tryd.underlying27]; rfl) rfl)
  obtain ⟨v4, l4, e4, r4, z4, q4⟩ := read_names h4 (sm 4 _ _ (by rw [Tryd.underlying27]; rfl) rfl)
  obtain ⟨b5, e5, _⟩ := DataW.trod_bool Tryd.underlying4 h5
  obtain ⟨v6, l6, e6, r6, z6, q6⟩ := read_ops h6 (sm 6 _ _ (by rw [Tryd.underlying27]; rfl) rfl)
  obtain ⟨t7, e7, y7, w7⟩ := DataW.trod_string Tryd.underlying9 h7
  obtain ⟨b8, e8, _⟩ := DataW.trod_bool Tryd.underlying4 h8
  obtain ⟨i9, e9, _, w9⟩ := DataW.trod_int Tryd.underlying3 h9
  obtain ⟨t10, e10, y10, w10⟩ := DataW.trod_string Tryd.underlying9 h10
  obtain ⟨v11, l11, e11, r11, z11, q11⟩ := read_ops h11 (sm 11 _ _ (by rw [Tryd.underlying27]; rfl) rfl)
  have u1 := text_small y1 (sm 1 _ _ (by rw [Tryd.underlying27]; rfl) rfl)
  have u7 := text_small y7 (sm 7 _ _ (by rw [Tryd.underlying27]; rfl) rfl)
  have u10 := text_small y10 (sm 10 _ _ (by rw [Tryd.underlying27]; rfl) rfl)
  simp at e0 e1 e2 e3 e4 e5 e6 e7 e8 e9 e10 e11
  subst e0 e1 e2 e3 e4 e5 e6 e7 e8 e9 e10 e11
  obtain ⟨_, a2, d2, f2, _⟩ := id r2
  obtain ⟨_, a3, d3, f3, _⟩ := id r3
  obtain ⟨_, a4, d4, f4, _⟩ := id r4
  obtain ⟨_, a6, d6, f6, _⟩ := id r6
  obtain ⟨_, a11, d11, f11, _⟩ := id r11
  subst f2 f3 f4 f6 f11
  have hc : cs = stC ⟨k, t, l2, l3, l4, b5, l6, t7, b8, i9, t10, l11⟩ ⟨a2, l2.length, d2, a3, l3.length, d3, a4, l4.length, d4, a6, l6.length, d6, a11, l11.length, d11⟩ := by
    apply Array.ext'
    rw [hcs]
  subst hc
  exact ⟨⟨k, t, l2, l3, l4, b5, l6, t7, b8, i9, t10, l11⟩, ⟨a2, l2.length, d2, a3, l3.length, d3, a4, l4.length, d4, a6, l6.length, d6, a11, l11.length, d11⟩, rfl, ⟨r2, r3, r4, r6, r11⟩, ⟨z2, z3, z4, z6, z11, u1, u7, u10⟩, ⟨w1, w7, w10, q2, q3, q4, q6, q11⟩⟩
end
end Go.Proofs.YtnheepkmaibofaaDoor.cs
