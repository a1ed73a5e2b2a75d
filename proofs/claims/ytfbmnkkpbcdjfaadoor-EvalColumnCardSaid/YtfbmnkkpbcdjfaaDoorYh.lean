/- Stacks of values. -/
import Derived.Test.YtfbmnkkpbcdjfaaDoorYb
import Derived.Test.YtfbmnkkpbcdjfaaDoorQy
import Derived.Test.YtfbmnkkpbcdjfaaDoorVv
namespace Go.Proofs.YtfbmnkkpbcdjfaaDoor
open Go.ChangeShapes Go.WideShapes Go.ChangeAt Go.RowKit
set_option linter.unusedVariables false
set_option linter.unusedSimpArgs false
set_option maxHeartbeats 4000000
set_option maxRecDepth 1000000
abbrev va (u : V) : Value := .agg #[.int .i64 u.k, .int .i64 u.n, .string u.t]
theorem vc_app : ∀ l m : List V, vc (l ++ m) = vc l ++ vc m
  | [], m => by simp [vc]
  | v :: l, m => by simp [vc, vc_app l m]
theorem vc_take : ∀ (l : List V) (k : Nat), (vc l).take (k * 3) = vc (l.take k)
  | l, 0 => by simp [vc]
  | [], k + 1 => by simp [vc]
  | v :: l, k + 1 => by
    rw [show (k + 1) * 3 = k * 3 + 1 + 1 + 1 by omega]
    simp [vc, vc_take l k]
theorem vc_rd1 (w : World) (x : V) (B : Nat) (hB : w.heap.size = B) : Rd (w.alloc (.cells #[.int .i64 x.k, .int .i64 x.n, .string x.t] 36)) 3 1 (.slice (some ⟨B, 0, none⟩) 1 1) (vc [x]) := by
  subst hB
  exact Rd.own (World.ownsRow_lit (base := w.heap.size) w #[.int .i64 x.k, .int .i64 x.n, .string x.t] 1 (Nat.le_refl _) (by unfold maxLen; omega) rfl)
theorem vrev_push (st : List V) (x : V) : (x :: st).reverse = st.reverse ++ [x] := by simp
theorem vrev_top {st : List V} {a : V} {s : List V} (h : st = a :: s) : st.reverse.take s.length = s.reverse ∧ st.reverse[s.length]? = some a := by
  subst h
  constructor
  · rw [List.reverse_cons, List.take_append_of_le_length (by simp)]
    rw [List.take_of_length_le (by simp)]
  · rw [List.reverse_cons, List.getElem?_append_right (by simp)]
    simp
theorem vrev_two {st : List V} {a b : V} {s : List V} (h : st = b :: a :: s) : st.reverse.take s.length = s.reverse ∧ st.reverse[s.length]? = some a ∧ st.reverse[s.length + 1]? = some b := by
  subst h
  refine ⟨?_, ?_, ?_⟩
  · simp only [List.reverse_cons, List.append_assoc]
    rw [List.take_append_of_le_length (by simp), List.take_of_length_le (by simp)]
  · simp only [List.reverse_cons, List.append_assoc]
    rw [List.getElem?_append_right (by simp)]
    simp
  · simp only [List.reverse_cons, List.append_assoc]
    rw [List.getElem?_append_right (by simp)]
    simp
theorem own_cell3 {w : World} {B e n cap : Nat} {ao : Option Addr} {l : List V} (h : w.ownsRow B e 3 (.slice ao n cap) n (vc l)) {j : Nat} {x : V} (hj : l[j]? = some x) : ∃ g, ao = some ⟨g, 0, none⟩ ∧ w.cell? ⟨g, j * 3, none⟩ = some (.int .i64 x.k) ∧ w.cell? ⟨g, j * 3 + 1, none⟩ = some (.int .i64 x.n) ∧ w.cell? ⟨g, j * 3 + 2, none⟩ = some (.string x.t) := by
  have hjl : j < l.length := (List.getElem?_eq_some_iff.1 hj).1
  have hl := h.1
  rw [vc_length] at hl
  have hx : l.getD j nul = x := by rw [List.getD_eq_getElem?_getD, hj]; rfl
  rcases h.2 with ⟨hv, h0⟩ | ⟨g, c, cur, hv, _⟩
  · omega
  · simp only [Value.slice.injEq] at hv
    obtain ⟨rfl, _, rfl⟩ := hv
    obtain ⟨c0, c1, c2⟩ := vc_at hjl
    rw [hx] at c0 c1 c2
    refine ⟨g, rfl, ?_, ?_, ?_⟩
    · have h1 := h.cells rfl _ _ c0; rwa [Addr.add_lit, Nat.zero_add] at h1
    · have h1 := h.cells rfl _ _ c1; rwa [Addr.add_lit, Nat.zero_add] at h1
    · have h1 := h.cells rfl _ _ c2; rwa [Addr.add_lit, Nat.zero_add] at h1
/-- What a leaf, an op of one thing, an op of two make of a row's values: the fault first. -/
def lfV (l : List Cq) (r : List V) (o : Oq) : Int × V := (0, if o.k = 1 then o.v else r.getD (plI l o.t).toNat nul)
def onV (k : Int) (a : V) : Int × V := ((one k a).2, (one k a).1)
def twV (k : Int) (a b : V) : Int × V := ((two k a b).2, (two k a b).1)
/-- What a call that makes a value answers. -/
def ValIs (p : Int × V) (w : World) (e : Ending) (w' : World) : Prop := e = .returned (.tuple #[va p.2, .int .i64 p.1]) ∧ Below w.heap.size w w'
theorem oneV_any (w : World) (k : Int) (a : V) : Calls Tryd.prog 16 #[.int .i64 k, va a] w (ValIs (onV k a) w) := (vv.one_any k a.k a.n a.t w).mono fun e w' h => h
theorem twoV_any (w : World) (k : Int) (a b : V) : Calls Tryd.prog 15 #[.int .i64 k, va a, va b] w (ValIs (twV k a b) w) := (vv.two_any k a.k a.n b.k b.n a.t b.t w).mono fun e w' h => h
end Go.Proofs.YtfbmnkkpbcdjfaaDoor
