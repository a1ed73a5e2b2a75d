import Derived.Test.YtnheepkmaibofaaDoorYak
import Derived.Test.YtnheepkmaibofaaDoorUhk
import Derived.Test.YtnheepkmaibofaaDoorQrk
/- Kinds of expressions: of two things, of a leaf. -/
namespace Go.Proofs.YtnheepkmaibofaaDoor
open Go.ChangeShapes Go.WideShapes Go.ChangeAt Go.RowKit
set_option linter.unusedVariables false
set_option linter.unusedSimpArgs false
set_option maxHeartbeats 4000000
set_option maxRecDepth 100000
/-- What the closure of leaves answers. -/
def LeafIs (p : Int × Int) (w : World) (e : Ending) (w' : World) : Prop := e = .returned (.tuple #[.int .i64 p.2, .int .i64 p.1]) ∧ Below w.heap.size w w'
end Go.Proofs.YtnheepkmaibofaaDoor
/- Ops folded over a stack of kinds: the program. -/
namespace Go.Proofs.YtnheepkmaibofaaDoor
open Go.ChangeShapes Go.WideShapes Go.ChangeAt Go.RowKit
set_option linter.unusedVariables false
set_option linter.unusedSimpArgs false
set_option maxHeartbeats 8000000
set_option maxRecDepth 1000000
theorem Tryd.info3 : (Tryd.prog.info? 3).map (fun i => (i.zero, i.size, i.bytes)) = some (some (.int .i64 0), 1, 8) := by kernel_rfl
def icY (l : List Int) : List Value := l.map fun x => .int .i64 x
theorem icY_app (l m : List Int) : icY (l ++ m) = icY l ++ icY m := by simp [icY]
theorem ic_len (l : List Int) : (icY l).length = l.length := by simp [icY]
theorem icY_one (l : List Int) : ∀ u ∈ icY l, u.oneCell' = true := by
  intro u hu
  obtain ⟨x, _, rfl⟩ := List.mem_map.1 hu
  rfl
theorem ic_take (l : List Int) (k : Nat) : (icY l).take (k * 1) = icY (l.take k) := by rw [Nat.mul_one]; simp [icY, List.map_take]
/-- The beginning of what the call owns. -/
theorem own_take {w : World} {B e s n cap : Nat} {ao : Option Addr} {xs : List Value} (h : w.ownsRow B e s (.slice ao n cap) n xs) (k : Nat) (hk : k ≤ n) : w.ownsRow B e s (.slice ao k cap) k (xs.take (k * s)) := by
  refine ⟨?_, ?_⟩
  · rw [List.length_take, h.1]
    exact Nat.min_eq_left (Nat.mul_le_mul_right _ hk)
  · rcases h.2 with ⟨hv, h0⟩ | ⟨g, c, cur, hv, h1, h2, h3, h4, h5, h6⟩
    · simp only [Value.slice.injEq] at hv
      obtain ⟨rfl, _, rfl⟩ := hv
      exact .inl ⟨by rw [show k = 0 by omega], by omega⟩
    · simp only [Value.slice.injEq] at hv
      obtain ⟨rfl, _, rfl⟩ := hv
      refine .inr ⟨g, cap, cur, rfl, h1, h2, by omega, h4, h5, ?_⟩
      rw [← h6, List.take_take, Nat.min_eq_left (Nat.mul_le_mul_right _ hk)]
theorem ic_rd1 (w : World) (x : Int) (B : Nat) (hB : w.heap.size = B) : Rd (w.alloc (.cells #[.int .i64 x] 3)) 1 1 (.slice (some ⟨B, 0, none⟩) 1 1) (icY [x]) := by
  subst hB
  exact Rd.own (World.ownsRow_lit (base := w.heap.size) w #[.int .i64 x] 1 (Nat.le_refl _) (by unfold maxLen; omega) rfl)
/-- A stack (the last one first) with a thing more, put upon what is left of it. -/
theorem rev_push (st : List Int) (x : Int) : (x :: st).reverse = st.reverse ++ [x] := by simp
theorem rev_top {st : List Int} {a : Int} {s : List Int} (h : st = a :: s) : st.reverse.take s.length = s.reverse ∧ st.reverse[s.length]? = some a := by
  subst h
  constructor
  · rw [List.reverse_cons, List.take_append_of_le_length (by simp)]
    rw [List.take_of_length_le (by simp)]
  · rw [List.reverse_cons, List.getElem?_append_right (by simp)]
    simp
theorem rev_two {st : List Int} {a b : Int} {s : List Int} (h : st = b :: a :: s) : st.reverse.take s.length = s.reverse ∧ st.reverse[s.length]? = some a ∧ st.reverse[s.length + 1]? = some b := by
  subst h
  refine ⟨?_, ?_, ?_⟩
  · simp only [List.reverse_cons, List.append_assoc]
    rw [List.take_append_of_le_length (by simp), List.take_of_length_le (by simp)]
  · simp only [List.reverse_cons, List.append_assoc]
    rw [List.getElem?_append_right (by simp)]
    simp
  · simp only [List.reverse_cons, List.append_assoc]
    rw [List.getElem?_append_right (by simp)]
    simp
theorem own_cell1 {w : World} {B e n cap : Nat} {ao : Option Addr} {l : List Int} (h : w.ownsRow B e 1 (.slice ao n cap) n (icY l)) {j : Nat} {x : Int} (hj : l[j]? = some x) : ∃ g, ao = some ⟨g, 0, none⟩ ∧ w.cell? ⟨g, j, none⟩ = some (.int .i64 x) := by
  have hjl : j < l.length := (List.getElem?_eq_some_iff.1 hj).1
  have hl := h.1
  rw [ic_len, Nat.mul_one] at hl
  rcases h.2 with ⟨hv, h0⟩ | ⟨g, c, cur, hv, _⟩
  · omega
  · simp only [Value.slice.injEq] at hv
    obtain ⟨rfl, _, rfl⟩ := hv
    refine ⟨g, rfl, ?_⟩
    rw [h.cellAt j (by omega)]
    simp [icY, hj]
end Go.Proofs.YtnheepkmaibofaaDoor
