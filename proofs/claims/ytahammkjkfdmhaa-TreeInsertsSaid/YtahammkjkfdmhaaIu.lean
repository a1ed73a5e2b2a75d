/- A tree as an argument. -/
import Derived.Test.YtahammkjkfdmhaaIr
import Derived.Test.YtahammkjkfdmhaaGw
import Derived.Test.YtahammkjkfdmhaaIl
import Derived.Test.YtahammkjkfdmhaaHs
import Derived.Test.YtahammkjkfdmhaaHd
import Derived.Lib.SmallJoins
namespace Go.Proofs.Ytahammkjkfdmhaa
open Go.ChangeShapes Go.WideShapes Go.ChangeAt Go.RowKit Go.Joins
set_option linter.unusedVariables false
set_option linter.unusedSimpArgs false
set_option maxHeartbeats 400000
/-- What is known of a tree that comes in. -/
def InT (W : World) (v : Value) (T : Tr) : Prop :=
  RT W (old W) v T ∧ Cpy T ∧ (∀ p ∈ T.pages, p.keys.length ≤ maxLen ∧ p.kids.length ≤ 4611686018427387904) ∧ Rng T.root ∧ ∀ p ∈ T.pages, Sized p
set_option maxRecDepth 100000 in
theorem open_tree {H : Type} {enc : TypeId × Value → H} {w : World} {r : Reach} {b0 : Nat} {v : Value} {d : DataW H} {p : List MemPlace} (hv : Value.okWide Try.prog w r b0 24 v)
    (h : DataW.Trod enc Try.prog w 0 (fun _ => true) true 24 v d p) (hs : small Try.prog 24 d) : ∃ T, InT w v T := by
  obtain ⟨v0, v1, y0, y1, n, rfl, rfl, rfl, h0, h1⟩ := open_agg2 Try.underlying24 (by kernel_rfl) (by kernel_rfl) hv h
  have sm : small Try.prog 22 y0.1 := by
    intro q hq
    refine hs q ?_
    simp only [DataW.weights, Try.underlying24]
    exact weights_each (j := 0) rfl rfl q hq
  obtain ⟨s, vs, ps, e0, r0, a0, rp, hn, hz⟩ := read_pages Try.underlying22 (by kernel_rfl) (by kernel_rfl)
    (fun n cs y hy hsy => read_page (tk := 0) Try.underlying43 (by kernel_rfl) (by kernel_rfl) Try.underlying4 Try.underlying41 Try.underlying37 Try.underlying25 Try.underlying3 Try.underlying25 Try.underlying5 Try.underlying3 (by kernel_rfl) (by kernel_rfl) (by kernel_rfl) (by kernel_rfl) (by kernel_rfl) (by kernel_rfl) hy hsy) h0 sm
  obtain ⟨m, e1, _, w1⟩ := DataW.trod_int Try.underlying3 h1
  simp at e0 e1
  subst e0 e1
  refine ⟨⟨ps, m⟩, ⟨_, vs, rfl, r0, a0, rp⟩, ⟨by simpa [reachBytes] using hn, fun p hp => ?_⟩, fun p hp => ?_, rng_of w1, hz⟩
  · obtain ⟨s1, s2, s3, s4, _, _⟩ := hz p hp
    simp only [reachBytes] at s1 s2 s3 s4
    exact ⟨s1, s2, s3, s4⟩
  · obtain ⟨s1, s2, s3, s4, _, _⟩ := hz p hp
    simp only [reachBytes] at s1 s3
    unfold maxLen
    exact ⟨by omega, by omega⟩
end Go.Proofs.Ytahammkjkfdmhaa
