/- Locks as an argument. -/
import Derived.Test.YtpddlckkncmlmaaDoorNa
import Derived.Test.YtpddlckkncmlmaaDoorMg
import Derived.Test.YtpddlckkncmlmaaDoorGw
import Derived.Lib.SmallJoins
namespace Go.Proofs.YtpddlckkncmlmaaDoor
open Go.ChangeShapes Go.WideShapes Go.ChangeAt Go.RowKit Go.Deep Go.Joins
set_option linter.unusedVariables false
set_option linter.unusedSimpArgs false
set_option maxHeartbeats 1000000
section
variable {H : Type} {enc : TypeId × Value → H} {w : World} {base : Nat} {held : Bool}
def LkOk (o : Lk) : Prop := (Lit.int .i64 o.t).wf = true ∧ (Lit.int .i64 o.m).wf = true ∧ o.th.size ≤ maxLen
theorem lock_cells {n : Nat} {cs : List Value} {y : DataW H × List MemPlace} (h : DataW.trod enc Tryd.prog w base (fun _ => true) held n 26 cs = some y) : ∃ o : Lk, cs = lkc [o] ∧ LkOk o := by
  obtain ⟨y0, y1, y2, m, _, hl, h0, h1, h2⟩ := trod_struct3 Tryd.underlying26 h
  rw [show Tryd.prog.cellsOf 26 = 3 by kernel_rfl] at hl
  dsimp only at h0 h1 h2
  rw [show Tryd.prog.cellsOf 3 = 1 by kernel_rfl] at h0 h2
  rw [show Tryd.prog.cellsOf 9 = 1 by kernel_rfl] at h1
  match cs, hl with
  | [c0, c1, c2], _ =>
    obtain ⟨k, e0, _, w0⟩ := DataW.trod_int Tryd.underlying3 h0
    obtain ⟨s, e1, _, w1⟩ := DataW.trod_string Tryd.underlying9 h1
    obtain ⟨m, e2, _, w2⟩ := DataW.trod_int Tryd.underlying3 h2
    simp at e0 e1 e2
    subst e0 e1 e2
    exact ⟨⟨k, s, m⟩, rfl, w0, w2, w1⟩
theorem lkc_map (q : Lk → Prop) : ∀ (n : Nat) (vs : List Value), vs.length = n * 3 → (∀ i, i < n → ∃ y : Lk, (vs.drop (i * 3)).take 3 = lkc [y] ∧ q y) → ∃ l : List Lk, l.length = n ∧ vs = lkc l ∧ ∀ y ∈ l, q y
  | 0, vs, hl, _ => ⟨[], rfl, List.eq_nil_of_length_eq_zero (by simpa using hl), by simp⟩
  | n + 1, vs, hl, h => by
    obtain ⟨y, hy, hq⟩ := h 0 (by omega)
    obtain ⟨l, h1, h2, h3⟩ := lkc_map q n (vs.drop 3) (by rw [List.length_drop, hl]; omega) (fun i hi => by
      obtain ⟨z, hz, hqz⟩ := h (i + 1) (by omega)
      refine ⟨z, ?_, hqz⟩
      rw [List.drop_drop, show 3 + i * 3 = (i + 1) * 3 by omega]
      exact hz)
    refine ⟨y :: l, by rw [List.length_cons, h1], ?_, fun z hz => ?_⟩
    · have e := (List.take_append_drop 3 vs).symm
      rw [Nat.zero_mul, List.drop_zero] at hy
      rw [hy, h2] at e
      rw [e]
      rfl
    · rcases List.mem_cons.1 hz with rfl | hz
      · exact hq
      · exact h3 z hz
theorem open_lks {n : Nat} {v : Value} {y : DataW H × List MemPlace} (h : DataW.trod enc Tryd.prog w base (fun _ => true) held n 22 [v] = some y) (hs : small Tryd.prog 22 y.1) :
    ∃ (n : Nat) (l : List Lk), Rd w 3 n v (lkc l) ∧ n * 32 ≤ 140737488351232 ∧ ∀ o ∈ l, LkOk o := by
  obtain ⟨v', n, vs, e, h1, h2, h3⟩ := open_rows Tryd.underlying22 (C := 3) (by kernel_rfl) (by omega) h hs (R := fun cs' => ∃ o : Lk, cs' = lkc [o] ∧ LkOk o) (fun _ _ _ hy _ => lock_cells hy)
  simp at e
  subst e
  obtain ⟨l, g1, g2, g3⟩ := lkc_map _ n vs h1.1 h3
  subst g2
  rw [show Tryd.prog.bytesOf 26 = 32 by kernel_rfl] at h2
  simp only [reachBytes] at h2
  exact ⟨n, l, h1, by omega, g3⟩
theorem open_locks {r : Reach} {b0 : Nat} {v : Value} {d : DataW H} {p : List MemPlace} (hv : Value.okWide Tryd.prog w r b0 24 v) (h : DataW.Trod enc Tryd.prog w base (fun _ => true) held 24 v d p) (hs : small Tryd.prog 24 d) :
    ∃ (v0 v1 : Value) (n0 n1 : Nat) (l0 l1 : List Lk), v = .agg #[v0, v1] ∧ Rd w 3 n0 v0 (lkc l0) ∧ Rd w 3 n1 v1 (lkc l1) ∧ (n0 * 32 ≤ 140737488351232 ∧ n1 * 32 ≤ 140737488351232) ∧ (∀ o ∈ l0, LkOk o) ∧ ∀ o ∈ l1, LkOk o := by
  obtain ⟨v0, v1, y0, y1, n, rfl, rfl, rfl, h0, h1⟩ := open_agg2 Tryd.underlying24 (by kernel_rfl) (by kernel_rfl) hv h
  have sm0 : small Tryd.prog 22 y0.1 := by
    intro q hq
    refine hs q ?_
    simp only [DataW.weights, Tryd.underlying24]
    exact weights_each (j := 0) rfl rfl q hq
  have sm1 : small Tryd.prog 22 y1.1 := by
    intro q hq
    refine hs q ?_
    simp only [DataW.weights, Tryd.underlying24]
    exact weights_each (j := 1) rfl rfl q hq
  obtain ⟨n0, l0, a0, z0, k0⟩ := open_lks h0 sm0
  obtain ⟨n1, l1, a1, z1, k1⟩ := open_lks h1 sm1
  exact ⟨v0, v1, n0, n1, l0, l1, rfl, a0, a1, ⟨z0, z1⟩, k0, k1⟩
end
end Go.Proofs.YtpddlckkncmlmaaDoor
