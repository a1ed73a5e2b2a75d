/- Wishes on one thing, one behind the other, plainly. -/
import Derived.Test.YtoiaedjglhcidaaDoorMd
import Derived.KernelRfl
namespace Go.Proofs.YtoiaedjglhcidaaDoor
set_option linter.unusedVariables false
set_option linter.unusedSimpArgs false
/-- Transactions from i + 1 on, n of them, on the thing "a". -/
def rowL (m : Int) (i n : Nat) : List Lk := (List.range n).map fun (j : Nat) => (⟨(i : Int) + (j : Int) + 1, ⟨#[97]⟩, m⟩ : Lk)
theorem row_len (m : Int) (i n : Nat) : (rowL m i n).length = n := by simp [rowL]
/-- All read: behind t wishes. -/
theorem all_ask {t : Nat} (h : t < 8) : askL (rowL 3 0 t) [] ⟨(t : Int) + 1, ⟨#[97]⟩, 3⟩ = (rowL 3 0 (t + 1), [], true, 0) := by
  have : t = 0 ∨ t = 1 ∨ t = 2 ∨ t = 3 ∨ t = 4 ∨ t = 5 ∨ t = 6 ∨ t = 7 := by omega
  rcases this with rfl | rfl | rfl | rfl | rfl | rfl | rfl | rfl <;> (show _ = _; kernel_rfl)
theorem all_more {k : Nat} (h : 1 ≤ k ∧ k ≤ 8) : askL (rowL 3 0 k) [] ⟨99, ⟨#[97]⟩, 5⟩ = (rowL 3 0 k, [⟨99, ⟨#[97]⟩, 5⟩], false, 0) := by
  have : k = 1 ∨ k = 2 ∨ k = 3 ∨ k = 4 ∨ k = 5 ∨ k = 6 ∨ k = 7 ∨ k = 8 := by omega
  rcases this with rfl | rfl | rfl | rfl | rfl | rfl | rfl | rfl <;> (show _ = _; kernel_rfl)
/-- Behind t of k that have left: who holds, who waits. -/
def leftH (k t : Nat) : List Lk := if t < k then rowL 3 t (k - t) else [⟨99, ⟨#[97]⟩, 5⟩]
def leftQ (k t : Nat) : List Lk := if t < k then [⟨99, ⟨#[97]⟩, 5⟩] else []
theorem all_leave {k t : Nat} (h : 1 ≤ k ∧ k ≤ 8) (ht : t < k) : leaveL (leftH k t) (leftQ k t) ((t : Int) + 1) = (leftH k (t + 1), leftQ k (t + 1), if t + 1 = k then [99] else [], 0) := by
  have : k = 1 ∨ k = 2 ∨ k = 3 ∨ k = 4 ∨ k = 5 ∨ k = 6 ∨ k = 7 ∨ k = 8 := by omega
  have hts : t = 0 ∨ t = 1 ∨ t = 2 ∨ t = 3 ∨ t = 4 ∨ t = 5 ∨ t = 6 ∨ t = 7 := by omega
  rcases this with rfl | rfl | rfl | rfl | rfl | rfl | rfl | rfl <;> rcases hts with rfl | rfl | rfl | rfl | rfl | rfl | rfl | rfl <;> first | (exfalso; omega) | (show _ = _; kernel_rfl)
theorem all_end {k : Nat} (h : 1 ≤ k) : hmd (leftH k k) ⟨99, ⟨#[97]⟩, 5⟩ = 5 := by
  unfold leftH
  rw [if_neg (by omega)]
  kernel_rfl
/-- All write: behind t wishes; behind t of k that have left. -/
def turnH (t : Nat) : List Lk := if t = 0 then [] else [⟨1, ⟨#[97]⟩, 5⟩]
theorem turn_ask {t : Nat} (h : t < 7) : askL (turnH t) (rowL 5 1 (t - 1)) ⟨(t : Int) + 1, ⟨#[97]⟩, 5⟩ = (turnH (t + 1), rowL 5 1 t, decide (t = 0), 0) := by
  have : t = 0 ∨ t = 1 ∨ t = 2 ∨ t = 3 ∨ t = 4 ∨ t = 5 ∨ t = 6 := by omega
  rcases this with rfl | rfl | rfl | rfl | rfl | rfl | rfl <;> (show _ = _; kernel_rfl)
def goH (k t : Nat) : List Lk := if t < k then [⟨(t : Int) + 1, ⟨#[97]⟩, 5⟩] else []
theorem go_leave {k t : Nat} (h : 2 ≤ k ∧ k ≤ 7) (ht : t < k) : leaveL (goH k t) (rowL 5 (t + 1) (k - 1 - t)) ((t : Int) + 1) = (goH k (t + 1), rowL 5 (t + 2) (k - 1 - (t + 1)), if t + 1 < k then [(t : Int) + 2] else [], 0) := by
  have : k = 2 ∨ k = 3 ∨ k = 4 ∨ k = 5 ∨ k = 6 ∨ k = 7 := by omega
  have hts : t = 0 ∨ t = 1 ∨ t = 2 ∨ t = 3 ∨ t = 4 ∨ t = 5 ∨ t = 6 := by omega
  rcases this with rfl | rfl | rfl | rfl | rfl | rfl <;> rcases hts with rfl | rfl | rfl | rfl | rfl | rfl | rfl <;> first | (exfalso; omega) | (show _ = _; kernel_rfl)
theorem go_mode {k t : Nat} (ht : t < k) (m : Int) : hmd (goH k t) ⟨(t : Int) + 1, ⟨#[97]⟩, m⟩ = 5 := by
  unfold goH
  rw [if_pos ht, hmd_find]
  simp [onB]
/-- Who has a thing alone: behind the first wish, behind the second one's, behind that one has left. -/
theorem more_1 {m : Int} (h : 1 ≤ m ∧ m ≤ 4) : askL [] [] ⟨1, ⟨#[97]⟩, m⟩ = ([⟨1, ⟨#[97]⟩, m⟩], [], true, 0) := by
  have : m = 1 ∨ m = 2 ∨ m = 3 ∨ m = 4 := by omega
  rcases this with rfl | rfl | rfl | rfl <;> (show _ = _; kernel_rfl)
theorem more_2 {m : Int} (h : 1 ≤ m ∧ m ≤ 4) : askL [⟨1, ⟨#[97]⟩, m⟩] [] ⟨2, ⟨#[97]⟩, 5⟩ = ([⟨1, ⟨#[97]⟩, m⟩], [⟨2, ⟨#[97]⟩, 5⟩], false, 0) := by
  have : m = 1 ∨ m = 2 ∨ m = 3 ∨ m = 4 := by omega
  rcases this with rfl | rfl | rfl | rfl <;> (show _ = _; kernel_rfl)
theorem more_3 {m : Int} (h : 1 ≤ m ∧ m ≤ 4) : leaveL [⟨1, ⟨#[97]⟩, m⟩] [⟨2, ⟨#[97]⟩, 5⟩] 2 = ([⟨1, ⟨#[97]⟩, m⟩], [], [], 0) := by
  have : m = 1 ∨ m = 2 ∨ m = 3 ∨ m = 4 := by omega
  rcases this with rfl | rfl | rfl | rfl <;> (show _ = _; kernel_rfl)
theorem more_4 {m n : Int} (h : 1 ≤ m ∧ m ≤ 4) (hn : 1 ≤ n ∧ n ≤ 5) {Q : List Lk} (hQ : Q = [] ∨ Q = [⟨2, ⟨#[97]⟩, 5⟩]) : askL [⟨1, ⟨#[97]⟩, m⟩] Q ⟨1, ⟨#[97]⟩, n⟩ = ([⟨1, ⟨#[97]⟩, joi m n⟩], Q, true, 0) := by
  have : m = 1 ∨ m = 2 ∨ m = 3 ∨ m = 4 := by omega
  rcases this with rfl | rfl | rfl | rfl <;> rcases five hn with rfl | rfl | rfl | rfl | rfl <;> rcases hQ with rfl | rfl <;> (show _ = _; kernel_rfl)
end Go.Proofs.YtoiaedjglhcidaaDoor
