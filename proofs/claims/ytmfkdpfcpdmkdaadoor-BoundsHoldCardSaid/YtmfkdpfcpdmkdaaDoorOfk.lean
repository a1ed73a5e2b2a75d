import Derived.Test.YtmfkdpfcpdmkdaaDoorOek
import Derived.Lib.SmallJoins
/- A twig as an argument. -/
namespace Go.Proofs.YtmfkdpfcpdmkdaaDoor.tw
open Go.ChangeShapes Go.WideShapes Go.ChangeAt Go.RowKit Go.Joins
set_option linter.unusedVariables false
set_option linter.unusedSimpArgs false
set_option maxHeartbeats 1000000
set_option maxRecDepth 100000
section
variable {H : Type} {enc : TypeId × Value → H} {w : World} {base : Nat} {held : Bool}
/-- The four cells of a twig. -/
def TwC (w : World) (f : Nat) (cs : List Value) : Prop := ∃ (k m : Int) (t : ByteArray) (u : Value), cs = [.int .i64 k, .int .i64 m, .string t, u] ∧ Rn k ∧ Rn m ∧ t.size ≤ maxLen ∧ TwS w f u
theorem read_twig (f : Nat) (ih : ∀ {fuel : Nat} {cs : List Value} {x : DataW H × List MemPlace}, DataW.trod enc Tryd.prog w base (fun _ => true) held fuel 22 cs = some x → small Tryd.prog 22 x.1 → ∃ v, cs = [v] ∧ TwS w f v)
    {fuel : Nat} {cs : List Value} {x : DataW H × List MemPlace} (h : DataW.trod enc Tryd.prog w base (fun _ => true) held fuel 24 cs = some x) (hs : small Tryd.prog 24 x.1) : TwC w f cs := by
  obtain ⟨y0, y1, y2, y3, m, hx, hl, h0, h1, h2, h3⟩ := trod_struct4 Tryd.underlying24 h
  rw [show Tryd.prog.cellsOf 24 = 4 by kernel_rfl] at hl
  dsimp only at h0 h1 h2 h3
  rw [show Tryd.prog.cellsOf 3 = 1 by kernel_rfl] at h0 h1
  rw [show Tryd.prog.cellsOf 9 = 1 by kernel_rfl] at h2
  rw [show Tryd.prog.cellsOf 22 = 1 by kernel_rfl] at h3
  have sm : small Tryd.prog 22 y3.1 := by
    intro q hq
    refine hs q ?_
    rw [hx]
    simp only [DataW.weights, Tryd.underlying24]
    exact weights_each (j := 3) rfl rfl q hq
  match cs, hl with
  | [c0, c1, c2, c3], _ =>
    obtain ⟨k, e0, _, w0⟩ := DataW.trod_int Tryd.underlying3 h0
    obtain ⟨n, e1, _, w1⟩ := DataW.trod_int Tryd.underlying3 h1
    obtain ⟨s, e2, _, w2⟩ := DataW.trod_string Tryd.underlying9 h2
    obtain ⟨u, e3, w3⟩ := ih h3 sm
    simp at e0 e1 e2 e3
    subst e0 e1 e2 e3
    exact ⟨k, n, s, c3, rfl, rn_of w0, rn_of w1, w2, w3⟩
theorem read_twigs : ∀ (f : Nat) {fuel : Nat} {cs : List Value} {x : DataW H × List MemPlace}, DataW.trod enc Tryd.prog w base (fun _ => true) held fuel 22 cs = some x → small Tryd.prog 22 x.1 → ∃ v, cs = [v] ∧ TwS w f v
  | 0, fuel, cs, x, h, hs => by
    obtain ⟨v, n, vs, e, h1, _, _⟩ := open_rows Tryd.underlying22 (C := 4) (by kernel_rfl) (by omega) h hs (R := fun _ => True) (fun _ _ _ _ _ => trivial)
    exact ⟨v, e, n, vs, h1⟩
  | f + 1, fuel, cs, x, h, hs => by
    obtain ⟨v, n, vs, e, h1, _, h3⟩ := open_rows Tryd.underlying22 (C := 4) (by kernel_rfl) (by omega) h hs (R := TwC w f) (fun _ _ _ hy hsy => read_twig f (fun h hs => read_twigs f h hs) hy hsy)
    exact ⟨v, e, n, vs, h1, h3⟩
theorem open_twig {r : Reach} {b0 : Nat} {v : Value} {d : DataW H} {p : List MemPlace} (hv : Value.okWide Tryd.prog w r b0 24 v) (h : DataW.Trod enc Tryd.prog w base (fun _ => true) held 24 v d p) (hs : small Tryd.prog 24 d) :
    ∃ (k n : Int) (s : ByteArray) (ao : Option Addr) (m cap : Nat), v = .agg #[.int .i64 k, .int .i64 n, .string s, .slice ao m cap] ∧ Rn k ∧ Rn n ∧ s.size ≤ maxLen ∧ TwS w 3 (.slice ao m cap) := by
  obtain ⟨v0, v1, v2, v3, y0, y1, y2, y3, n, rfl, -, -, -⟩ := open_agg4 Tryd.underlying24 (by kernel_rfl) (by kernel_rfl) hv h
  obtain ⟨fuel, hf⟩ := h
  obtain ⟨k, m, t, u, e, h1, h2, h3, h4⟩ := read_twig 3 (fun h hs => read_twigs 3 h hs) hf hs
  simp [Value.cells] at e
  obtain ⟨rfl, rfl, rfl, rfl⟩ := e
  obtain ⟨ao, mm, cap, rfl, _⟩ := h4.sh
  exact ⟨k, m, t, ao, mm, cap, rfl, h1, h2, h3, h4⟩
end
end Go.Proofs.YtmfkdpfcpdmkdaaDoor.tw
