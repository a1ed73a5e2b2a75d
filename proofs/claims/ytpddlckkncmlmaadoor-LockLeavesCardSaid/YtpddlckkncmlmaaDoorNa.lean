/- Locks, plainly: their form, whose they are, for whom one waits. -/
import Derived.Test.YtpddlckkncmlmaaDoorJa
import Derived.Test.YtpddlckkncmlmaaDoorPm
namespace Go.Proofs.YtpddlckkncmlmaaDoor
set_option linter.unusedVariables false
set_option linter.unusedSimpArgs false
def nlk : Lk := ⟨0, ⟨#[]⟩, 0⟩
abbrev lkv (x : Lk) : Value := .agg #[.int .i64 x.t, .string x.th, .int .i64 x.m]
/-- The cells of locks. -/
def lkc : List Lk → List Value
  | [] => []
  | x :: l => .int .i64 x.t :: .string x.th :: .int .i64 x.m :: lkc l
theorem lkc_app : ∀ l m : List Lk, lkc (l ++ m) = lkc l ++ lkc m
  | [], _ => rfl
  | v :: l, m => by simp [lkc, lkc_app l m]
theorem lkc_length : ∀ l : List Lk, (lkc l).length = l.length * 3
  | [] => rfl
  | v :: l => by simp [lkc, lkc_length l]; omega
theorem lkc_at : ∀ {l : List Lk} {k : Nat}, k < l.length → (lkc l)[k * 3]? = some (.int .i64 (l.getD k nlk).t) ∧ (lkc l)[k * 3 + 1]? = some (.string (l.getD k nlk).th) ∧ (lkc l)[k * 3 + 2]? = some (.int .i64 (l.getD k nlk).m)
  | [], k, h => by simp at h
  | v :: l, 0, _ => by simp [lkc]
  | v :: l, k + 1, h => by
    have ih := lkc_at (l := l) (k := k) (by simpa using h)
    have e : (k + 1) * 3 = k * 3 + 1 + 1 + 1 := by omega
    rw [e]
    simpa [lkc] using ih
theorem lkc_one : ∀ (l : List Lk), ∀ u ∈ lkc l, u.oneCell' = true
  | [], u, hu => by simp [lkc] at hu
  | v :: l, u, hu => by
    simp only [lkc, List.mem_cons] at hu
    rcases hu with rfl | rfl | rfl | hu
    · rfl
    · rfl
    · rfl
    · exact lkc_one l u hu
theorem lkc_take : ∀ (l : List Lk) (j : Nat), (lkc l).take (j * 3) = lkc (l.take j)
  | [], j => by simp [lkc]
  | a :: l, 0 => by simp [lkc]
  | a :: l, j + 1 => by
    have e : (j + 1) * 3 = j * 3 + 1 + 1 + 1 := by omega
    rw [e, lkc, List.take_succ_cons, List.take_succ_cons, List.take_succ_cons, lkc_take l j, List.take_succ_cons, lkc]
/-- What a lock's form lacks. -/
def frm (x : Lk) : Int := if x.t < 1 ∨ 1048576 < x.t then 3 else if 120 < x.th.size then 1 else if x.m < 1 ∨ 5 < x.m then 2 else 0
theorem frm_ok {x : Lk} : frm x = 0 ↔ (1 ≤ x.t ∧ x.t ≤ 1048576) ∧ x.th.size ≤ 120 ∧ 1 ≤ x.m ∧ x.m ≤ 5 := by
  unfold frm
  constructor
  · intro h
    by_cases h1 : x.t < 1 ∨ 1048576 < x.t
    · rw [if_pos h1] at h; omega
    · rw [if_neg h1] at h
      by_cases h2 : 120 < x.th.size
      · rw [if_pos h2] at h; omega
      · rw [if_neg h2] at h
        by_cases h3 : x.m < 1 ∨ 5 < x.m
        · rw [if_pos h3] at h; omega
        · omega
  · intro h
    rw [if_neg (by omega), if_neg (by omega), if_neg (by omega)]
def bad (x : Lk) : Bool := frm x != 0
/-- Is a lock that of the same transaction on the same thing; of another one, and does not go with it; on the same thing; of a transaction? -/
def onB (x l : Lk) : Bool := l.t == x.t && l.th.toList == x.th.toList
def agB (x l : Lk) : Bool := (l.t != x.t && l.th.toList == x.th.toList) && !tog l.m x.m
def thB (x l : Lk) : Bool := l.th.toList == x.th.toList
def ofB (t : Int) (l : Lk) : Bool := l.t == t
/-- The place of the first one that is so. -/
def idx (p : Lk → Bool) (l : List Lk) : Int := match l.findIdx? p with | some i => (i : Int) | none => -1
theorem idx_any (p : Lk → Bool) (l : List Lk) : l.any p = decide (0 ≤ idx p l) := by
  unfold idx
  cases h : l.findIdx? p with
  | none =>
    rw [List.findIdx?_eq_none_iff] at h
    rw [show decide ((0 : Int) ≤ -1) = false by decide, List.any_eq_false]
    exact fun x hx => by simp [h x hx]
  | some i =>
    have := List.findIdx?_eq_some_iff_getElem.1 h
    obtain ⟨hi, hp, _⟩ := this
    simp only
    rw [show decide ((0 : Int) ≤ (i : Int)) = true by simp, List.any_eq_true]
    exact ⟨l[i], List.getElem_mem hi, hp⟩
theorem idx_hit {p : Lk → Bool} {l : List Lk} {k : Nat} (hk : k < l.length) (ha : ∀ j, j < k → p (l.getD j nlk) = false) (h : p (l.getD k nlk) = true) : idx p l = (k : Int) := by
  unfold idx
  have : l.findIdx? p = some k := by
    rw [List.findIdx?_eq_some_iff_getElem]
    refine ⟨hk, ?_, fun j hj => ?_⟩
    · simpa [List.getD, List.getElem?_eq_getElem hk] using h
    · have := ha j hj
      simpa [List.getD, List.getElem?_eq_getElem (show j < l.length by omega)] using this
  rw [this]
theorem idx_none {p : Lk → Bool} {l : List Lk} (ha : ∀ j, j < l.length → p (l.getD j nlk) = false) : idx p l = -1 := by
  unfold idx
  have : l.findIdx? p = none := by
    rw [List.findIdx?_eq_none_iff]
    intro x hx
    obtain ⟨j, hj, rfl⟩ := List.getElem_of_mem hx
    have := ha j hj
    simpa [List.getD, List.getElem?_eq_getElem hj] using this
  rw [this]
/-- The mode in which a transaction holds a thing; 0: it holds nothing of it. -/
def hmd (held : List Lk) (x : Lk) : Int := if idx (onB x) held < 0 then 0 else (held.getD (idx (onB x) held).toNat nlk).m
def txs (p : Lk → Bool) (l : List Lk) : List Int := (l.filter p).map (·.t)
/-- For whom a lock waits, as they stand. -/
def wts (held ahead : List Lk) (x : Lk) : List Int := txs (agB x) held ++ (if hmd held x = 0 then txs (thB x) ahead else [])
/-- May all that are held be held at once; may the queue stand so? -/
def heldF (held : List Lk) (i : Nat) : Bool := (held.take i).any (onB (held.getD i nlk)) || (held.take i).any (agB (held.getD i nlk))
def heldOk (held : List Lk) : Bool := (List.range held.length).all fun i => !heldF held i
def moreB (held : List Lk) (x : Lk) : Bool := x.m != hmd held x && x.m == joi (hmd held x) x.m
def queF (held queue : List Lk) (i : Nat) : Bool := ((queue.take i).any (ofB (queue.getD i nlk).t) || !moreB held (queue.getD i nlk)) || (wts held (queue.take i) (queue.getD i nlk)).isEmpty
def queOk (held queue : List Lk) : Bool := (List.range queue.length).all fun i => !queF held queue i
/-- What locks lack. -/
def lksF (held queue : List Lk) : Int := if 200 < held.length + queue.length then 11 else if held.any bad = true then 11 else if queue.any bad = true then 11 else if heldOk held = false then 11 else if queOk held queue = false then 11 else 0
end Go.Proofs.YtpddlckkncmlmaaDoor
