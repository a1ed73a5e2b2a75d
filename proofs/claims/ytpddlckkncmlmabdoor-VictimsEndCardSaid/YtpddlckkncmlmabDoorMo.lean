/- Wishes as an argument. -/
import Derived.Test.YtpddlckkncmlmabDoorB2
import Derived.Test.YtpddlckkncmlmabDoorGw
import Derived.Lib.SmallJoins
namespace Go.Proofs.YtpddlckkncmlmabDoor
open Go.ChangeShapes Go.WideShapes Go.ChangeAt Go.RowKit Go.Deep Go.Joins
set_option linter.unusedVariables false
set_option linter.unusedSimpArgs false
set_option maxHeartbeats 1000000
set_option maxRecDepth 100000
/-- A wish: a transaction, a thing, a mode, as raw numbers. -/
structure Wi where
  t : Int
  h : Int
  m : Int
def nwi : Wi := ⟨0, 0, 0⟩
def wic : List Wi → List Value
  | [] => []
  | x :: l => .int .i64 x.t :: .int .i64 x.h :: .int .i64 x.m :: wic l
theorem wic_length : ∀ l : List Wi, (wic l).length = l.length * 3
  | [] => rfl
  | v :: l => by simp [wic, wic_length l]; omega
theorem wic_at : ∀ {l : List Wi} {k : Nat}, k < l.length → (wic l)[k * 3]? = some (.int .i64 (l.getD k nwi).t) ∧ (wic l)[k * 3 + 1]? = some (.int .i64 (l.getD k nwi).h) ∧ (wic l)[k * 3 + 2]? = some (.int .i64 (l.getD k nwi).m)
  | [], k, h => by simp at h
  | v :: l, 0, _ => by simp [wic]
  | v :: l, k + 1, h => by
    have ih := wic_at (l := l) (k := k) (by simpa using h)
    have e : (k + 1) * 3 = k * 3 + 1 + 1 + 1 := by omega
    rw [e]
    simpa [wic] using ih
theorem wis_of {w : World} {n : Nat} {v : Value} {l : List Wi} (h : Rd w 3 n v (wic l)) (hn : 0 < n) :
    ∃ b o cap, v = .slice (some ⟨b, o, none⟩) n cap ∧ n ≤ cap ∧ cap ≤ maxLen ∧ b < w.heap.size ∧ ∀ k, k < n → w.cell? ⟨b, o + k * 3, none⟩ = some (.int .i64 (l.getD k nwi).t) ∧ w.cell? ⟨b, o + k * 3 + 1, none⟩ = some (.int .i64 (l.getD k nwi).h) ∧ w.cell? ⟨b, o + k * 3 + 2, none⟩ = some (.int .i64 (l.getD k nwi).m) := by
  have hl : n = l.length := by have := h.1; rw [wic_length] at this; omega
  obtain ⟨b, o, cap, h1, h2, h3, h4, h5⟩ := h.pos hn (by omega)
  refine ⟨b, o, cap, h1, h2, h3, h4, fun k hk => ?_⟩
  obtain ⟨g0, g1, g2⟩ := wic_at (l := l) (k := k) (by omega)
  refine ⟨h5 _ _ g0, ?_, ?_⟩
  · have := h5 _ _ g1; rwa [← Nat.add_assoc] at this
  · have := h5 _ _ g2; rwa [← Nat.add_assoc] at this
def WiOk (o : Wi) : Prop := (Lit.int .i64 o.t).wf = true ∧ (Lit.int .i64 o.h).wf = true ∧ (Lit.int .i64 o.m).wf = true
section
variable {H : Type} {enc : TypeId × Value → H} {w : World} {base : Nat} {held : Bool}
theorem wish_cells {n : Nat} {cs : List Value} {y : DataW H × List MemPlace} (h : DataW.trod enc Tryd.prog w base (fun _ => true) held n 51 cs = some y) : ∃ o : Wi, cs = wic [o] ∧ WiOk o := by
  obtain ⟨y0, y1, y2, m, _, hl, h0, h1, h2⟩ := trod_struct3 Tryd.underlying51 h
  rw [show Tryd.prog.cellsOf 51 = 3 by kernel_rfl] at hl
  dsimp only at h0 h1 h2
  rw [show Tryd.prog.cellsOf 3 = 1 by kernel_rfl] at h0 h1 h2
  match cs, hl with
  | [c0, c1, c2], _ =>
    obtain ⟨k, e0, _, w0⟩ := DataW.trod_int Tryd.underlying3 h0
    obtain ⟨s, e1, _, w1⟩ := DataW.trod_int Tryd.underlying3 h1
    obtain ⟨m, e2, _, w2⟩ := DataW.trod_int Tryd.underlying3 h2
    simp at e0 e1 e2
    subst e0 e1 e2
    exact ⟨⟨k, s, m⟩, rfl, w0, w1, w2⟩
theorem wic_map (q : Wi → Prop) : ∀ (n : Nat) (vs : List Value), vs.length = n * 3 → (∀ i, i < n → ∃ y : Wi, (vs.drop (i * 3)).take 3 = wic [y] ∧ q y) → ∃ l : List Wi, l.length = n ∧ vs = wic l ∧ ∀ y ∈ l, q y
  | 0, vs, hl, _ => ⟨[], rfl, List.eq_nil_of_length_eq_zero (by simpa using hl), by simp⟩
  | n + 1, vs, hl, h => by
    obtain ⟨y, hy, hq⟩ := h 0 (by omega)
    obtain ⟨l, h1, h2, h3⟩ := wic_map q n (vs.drop 3) (by rw [List.length_drop, hl]; omega) (fun i hi => by
      obtain ⟨z, hz, hqz⟩ := h (i + 1) (by omega)
      refine ⟨z, ?_, hqz⟩
      rw [List.drop_drop, show 3 + i * 3 = (i + 1) * 3 by omega]
      exact hz)
    refine ⟨y :: l, by rw [List.length_cons, h1], ?_, fun z hz => ?_⟩
    · have e := (List.take_append_drop 3 vs).symm
      rw [Nat.zero_mul, List.drop_zero] at hy
      rw [hy, h2] at e
      rw [e]
      rfl
    · rcases List.mem_cons.1 hz with rfl | hz
      · exact hq
      · exact h3 z hz
theorem open_wishes {r : Reach} {b0 : Nat} {v : Value} {d : DataW H} {p : List MemPlace} (hv : Value.okWide Tryd.prog w r b0 30 v) (h : DataW.Trod enc Tryd.prog w base (fun _ => true) held 30 v d p) (hs : small Tryd.prog 30 d) :
    ∃ (n : Nat) (l : List Wi), Rd w 3 n v (wic l) ∧ n * 24 ≤ 140737488351232 ∧ ∀ o ∈ l, WiOk o := by
  obtain ⟨a0, len, cap, rfl⟩ := okWide_slice Tryd.underlying30 hv
  obtain ⟨fuel, hf⟩ := h
  obtain ⟨v, n, vs, e, h1, h2, h3⟩ := open_rows Tryd.underlying30 (C := 3) (by kernel_rfl) (by omega) hf hs (R := fun cs' => ∃ o : Wi, cs' = wic [o] ∧ WiOk o) (fun _ _ _ hy _ => wish_cells hy)
  simp [Value.cells] at e
  subst e
  obtain ⟨l, g1, g2, g3⟩ := wic_map _ n vs h1.1 h3
  subst g2
  rw [show Tryd.prog.bytesOf 51 = 24 by kernel_rfl] at h2
  simp only [reachBytes] at h2
  exact ⟨n, l, h1, by omega, g3⟩
end
end Go.Proofs.YtpddlckkncmlmabDoor
