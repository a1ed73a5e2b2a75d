/- A tree as an argument. -/
import Derived.Test.YthoijpaoegojfaaIr
import Derived.Test.YthoijpaoegojfaaGw
import Derived.Test.YthoijpaoegojfaaIl
import Derived.Test.YthoijpaoegojfaaHs
import Derived.Test.YthoijpaoegojfaaHd
import Derived.Test.YthoijpaoegojfaaHn
import Derived.Lib.SmallJoins
namespace Go.Proofs.Ythoijpaoegojfaa
open Go.ChangeShapes Go.WideShapes Go.ChangeAt Go.RowKit Go.Joins
set_option linter.unusedVariables false
set_option linter.unusedSimpArgs false
set_option maxHeartbeats 400000
/-- What is known of a tree that comes in. -/
def InT (W : World) (v : Value) (T : Tr) : Prop :=
  RT W (old W) v T ∧ Cpy T ∧ (∀ p ∈ T.pages, p.keys.length ≤ maxLen ∧ p.kids.length ≤ 4611686018427387904) ∧ Rng T.root ∧ ∀ p ∈ T.pages, Sized p
set_option maxRecDepth 100000 in
theorem open_tree {H : Type} {enc : TypeId × Value → H} {w : World} {r : Reach} {b0 : Nat} {v : Value} {d : DataW H} {p : List MemPlace} (hv : Value.okWide Try.prog w r b0 24 v)
    (h : DataW.Trod enc Try.prog w 0 (fun _ => true) true 24 v d p) (hs : small Try.prog 24 d) : ∃ T, InT w v T := by
  obtain ⟨v0, v1, y0, y1, n, rfl, rfl, rfl, h0, h1⟩ := open_agg2 Try.underlying24 (by kernel_rfl) (by kernel_rfl) hv h
  have sm : small Try.prog 22 y0.1 := by
    intro q hq
    refine hs q ?_
    simp only [DataW.weights, Try.underlying24]
    exact weights_each (j := 0) rfl rfl q hq
  obtain ⟨s, vs, ps, e0, r0, a0, rp, hn, hz⟩ := read_pages Try.underlying22 (by kernel_rfl) (by kernel_rfl)
    (fun n cs y hy hsy => read_page (tk := 0) Try.underlying63 (by kernel_rfl) (by kernel_rfl) Try.underlying4 Try.underlying61 Try.underlying51 Try.underlying32 Try.underlying3 Try.underlying32 Try.underlying5 Try.underlying3 (by kernel_rfl) (by kernel_rfl) (by kernel_rfl) (by kernel_rfl) (by kernel_rfl) (by kernel_rfl) hy hsy) h0 sm
  obtain ⟨m, e1, _, w1⟩ := DataW.trod_int Try.underlying3 h1
  simp at e0 e1
  subst e0 e1
  refine ⟨⟨ps, m⟩, ⟨_, vs, rfl, r0, a0, rp⟩, ⟨by simpa [reachBytes] using hn, fun p hp => ?_⟩, fun p hp => ?_, rng_of w1, hz⟩
  · obtain ⟨s1, s2, s3, s4, _, _⟩ := hz p hp
    simp only [reachBytes] at s1 s2 s3 s4
    exact ⟨s1, s2, s3, s4⟩
  · obtain ⟨s1, s2, s3, s4, _, _⟩ := hz p hp
    simp only [reachBytes] at s1 s3
    unfold maxLen
    exact ⟨by omega, by omega⟩
end Go.Proofs.Ythoijpaoegojfaa
/- The law TreeChecks, walked. -/
namespace Go.Proofs.Ythoijpaoegojfaa
open Go.ChangeShapes Go.WideShapes Go.ChangeAt Go.RowKit
set_option linter.unusedVariables false
set_option linter.unusedSimpArgs false
set_option maxHeartbeats 400000
theorem treeChecks_walk (w : World) (ok : Nat → Prop) (hok : ∀ b, ok b → b < w.heap.size) (tv : Value) (T : Tr) (ht : RT w ok tv T) (hcp : Cpy T) (hsz : ∀ p ∈ T.pages, p.keys.length ≤ maxLen ∧ p.kids.length ≤ 4611686018427387904) (hrr : Rng T.root) :
    Calls Try.prog 4 #[tv] w fun e w' => e = .returned (.bool true) ∧ Below w.heap.size w w' := by
  obtain ⟨a1, n1, c1, rfl⟩ := rt_shape ht
  have HT := Lib.hid ht
  clear ht
  go_enter Try.func4, Try.ntmps4
  go_wp2_with fail
  have hb0 : Below w.heap.size w (w.alloc (.cells #[.slice a1 n1 c1, .int .i64 T.root] 24)) := (Below.refl _ _).alloc (Nat.le_refl _) _
  have x0 : (w.alloc (.cells #[.slice a1 n1 c1, .int .i64 T.root] 24)).heap[w.heap.size]? = some (.cells #[.slice a1 n1 c1, .int .i64 T.root] 24 (0, 0)) := new0 _ _
  have hz0 : (w.alloc (.cells #[.slice a1 n1 c1, .int .i64 T.root] 24)).heap.size = w.heap.size + 1 := by simp
  refine (trees_any _ ok (fun b hb => by have := hok b hb; omega) _ T (HT.out.below hb0) hcp).mono ?_
  rintro e w2 ⟨v2, rfl, hr2, hb2⟩
  obtain ⟨a2, n2, c2, rfl⟩ := rt_shape hr2
  have z2 := hb2.size
  rw [hz0] at z2
  have x2 := (hb2.block w.heap.size (by omega)).trans x0
  have HB2 := Lib.hid (hb0.trans (hb2.mono (by omega)))
  have HR2 := Lib.hid hr2
  have HX2 := Lib.hid x2
  have HT2 := Lib.hid ((HT.out.below hb0).below hb2)
  clear hb0 x0 hz0 hr2 hb2 x2 HT
  have x1 := box2 HX2.out
  go_wp2_with fail
  have hb3 : Below w2.heap.size w2 (w2.alloc (.cells #[.slice a2 n2 c2, .int .i64 T.root] 24)) := (Below.refl _ _).alloc (Nat.le_refl _) _
  have y0 : (w2.alloc (.cells #[.slice a2 n2 c2, .int .i64 T.root] 24)).heap[w2.heap.size]? = some (.cells #[.slice a2 n2 c2, .int .i64 T.root] 24 (0, 0)) := new0 _ _
  have z3 : (w2.alloc (.cells #[.slice a2 n2 c2, .int .i64 T.root] 24)).heap.size = w2.heap.size + 1 := by simp
  have x3 := (hb3.block w.heap.size (by omega)).trans HX2.out
  have hB3 := HB2.out.trans (hb3.mono (by omega))
  have hT3 := HT2.out.below hb3
  have hR3 := HR2.out.below hb3
  clear x1
  generalize w2.alloc (.cells #[.slice a2 n2 c2, .int .i64 T.root] 24) = w3 at *
  refine (check_any w3 _ (fun b hb => by have h1 := hb.2; omega) _ T hR3 hsz hrr).mono ?_
  rintro e w4 ⟨rfl, hb4⟩
  have z4 := hb4.size
  have x4 := (hb4.block w.heap.size (by omega)).trans x3
  have y4 := (hb4.block w2.heap.size (by omega)).trans y0
  have HX4 := Lib.hid x4
  have HY4 := Lib.hid y4
  have HB4 := Lib.hid (hB3.trans (hb4.mono (by omega)))
  have HT4 := Lib.hid (hT3.below hb4)
  have HR4 := Lib.hid (hR3.below hb4)
  clear hb3 y0 x3 hB3 hT3 hR3 hb4 x4 y4 HX2 HB2 HT2 HR2
  have x1 := box2 HX4.out
  have y1 := box2 HY4.out
  go_wp2_with fail
  refine (treeFault_any w4 ok (fun b hb => by have := hok b hb; omega) _ T HT4.out hrr).mono ?_
  rintro e w5 ⟨rfl, hb5⟩
  have z5 := hb5.size
  have x5 := (hb5.block w.heap.size (by omega)).trans HX4.out
  have y5 := (hb5.block w2.heap.size (by omega)).trans HY4.out
  have HB5 := Lib.hid (HB4.out.trans (hb5.mono (by omega)))
  have HT5 := Lib.hid (HT4.out.below hb5)
  have HR5 := Lib.hid (HR4.out.below hb5)
  clear x1 y1
  have x1 := box2 x5
  have y1 := box2 y5
  clear x5 y5 hb5 HX4 HY4 HB4 HT4 HR4
  go_wp2_with fail
  refine (sameTree_yes w5 _ _ _ _ T HR5.out HT5.out).mono ?_
  rintro e w6 ⟨rfl, hb6⟩
  have z6 := hb6.size
  have HB6 := Lib.hid (HB5.out.trans (hb6.mono (by omega)))
  clear hb6 HB5 HT5 HR5
  go_wp2
  go_ret
  exact ⟨rfl, HB6.out⟩
end Go.Proofs.Ythoijpaoegojfaa
