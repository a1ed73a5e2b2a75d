/- A table of truths in memory; what the document fills into it, plainly. -/
import Derived.Test.YtpddlckkncmlmabDoorZn
import Derived.Test.YtpddlckkncmlmabDoorZd
import Derived.Laws.MakeOwn
namespace Go.Proofs.YtpddlckkncmlmabDoor
open Go.ChangeShapes Go.WideShapes Go.ChangeAt Go.RowKit
set_option linter.unusedVariables false
set_option linter.unusedSimpArgs false
set_option maxHeartbeats 4000000
set_option maxRecDepth 100000
structure Mat (w : World) (B n sp : Nat) (row : Nat → Nat) (r : Nat) (m : Nat → Nat → Bool) : Prop where
  spB : B ≤ sp
  spc : ∀ i, i < n → w.cell? ⟨sp, i, none⟩ = some (if i < r then .slice (some ⟨row i, 0, none⟩) n n else .slice none 0 0)
  spf : ∀ i, i < n → w.frozen? ⟨sp, i, none⟩ = false
  rB : ∀ i, i < r → B ≤ row i ∧ row i ≠ sp
  inj : ∀ i j, i < r → j < r → row i = row j → i = j
  c : ∀ i j, i < r → j < n → w.cell? ⟨row i, j, none⟩ = some (.bool (m i j))
  f : ∀ i j, i < r → j < n → w.frozen? ⟨row i, j, none⟩ = false
theorem frz_below {W W' : World} {a : Addr} {v : Value} (hb : Below W.heap.size W W') (hc : W.cell? a = some v) (h : W.frozen? a = false) : W'.frozen? a = false := (hb.frozen (lt_cell hc)).trans h
theorem Mat.below {w w' : World} {B n sp r : Nat} {row : Nat → Nat} {m : Nat → Nat → Bool} (h : Mat w B n sp row r m) (hb : Below w.heap.size w w') : Mat w' B n sp row r m :=
  ⟨h.spB, fun i hi => cell_of_below hb (h.spc i hi), fun i hi => frz_below hb (h.spc i hi) (h.spf i hi), h.rB, h.inj, fun i j hi hj => cell_of_below hb (h.c i j hi hj), fun i j hi hj => frz_below hb (h.c i j hi hj) (h.f i j hi hj)⟩
theorem Mat.set {w : World} {B n sp r : Nat} {row : Nat → Nat} {m : Nat → Nat → Bool} (h : Mat w B n sp row r m) {i j : Nat} (hi : i < r) (hj : j < n) : Mat (w.setCell ⟨row i, j, none⟩ (.bool true)) B n sp row r (upd m i j) := by
  have hne := (h.rB i hi).2
  refine ⟨h.spB, fun a ha => (World.cell?_setCell_far _ _ _ _ hne).trans (h.spc a ha), fun a ha => by simpa using h.spf a ha, h.rB, h.inj, fun a b ha hb => ?_, fun a b ha hb => by simpa using h.f a b ha hb⟩
  unfold upd
  by_cases e : a = i ∧ b = j
  · obtain ⟨rfl, rfl⟩ := e
    rw [if_pos ⟨rfl, rfl⟩]
    exact World.cell?_setCell_same _ _ _ (h.c a b ha hb)
  · rw [if_neg e]
    refine (World.cell?_setCell_other _ _ _ _ (fun e2 => e ?_)).trans (h.c a b ha hb)
    have e3 : row i = row a ∧ j = b := by simpa using e2
    exact ⟨(h.inj i a hi ha e3.1).symm, e3.2.symm⟩
theorem Mat.add {w : World} {B n sp r : Nat} {row : Nat → Nat} {m : Nat → Nat → Bool} (h : Mat w B n sp row r m) (hr : r < n) (hB : B ≤ w.heap.size) {CB : Array Value} {T : TypeId} (hCB : ∀ j, j < n → (w.alloc (.cells CB T)).cell? ⟨w.heap.size, j, none⟩ = some (.bool false) ∧ (w.alloc (.cells CB T)).frozen? ⟨w.heap.size, j, none⟩ = false) :
    Mat ((w.alloc (.cells CB T)).setCell ⟨sp, r, none⟩ (.slice (some ⟨w.heap.size, 0, none⟩) n n)) B n sp (fun i => if i = r then w.heap.size else row i) (r + 1) (fun a b => if a = r then false else m a b) := by
  have ha := h.below ((Below.refl _ _).alloc (Nat.le_refl _) (.cells CB T))
  have hsp : sp < w.heap.size := lt_cell (h.spc r hr)
  have hrow : ∀ i, i < r → row i < w.heap.size := fun i hi => lt_cell (h.c i 0 hi (by omega))
  refine ⟨h.spB, fun i hi => ?_, fun i hi => by simpa using ha.spf i hi, fun i hi => ?_, fun i j hi hj e => ?_, fun i j hi hj => ?_, fun i j hi hj => ?_⟩
  · by_cases e : i = r
    · subst e
      rw [if_pos (by omega), if_pos rfl]
      exact World.cell?_setCell_same _ _ _ (ha.spc i hi)
    · refine (World.cell?_setCell_other _ _ _ _ (fun e2 => e ?_)).trans ((ha.spc i hi).trans ?_)
      · simp at e2
      · rw [if_neg e]
        by_cases h2 : i < r
        · rw [if_pos h2, if_pos (by omega)]
        · rw [if_neg h2, if_neg (by omega)]
  · by_cases e : i = r
    · rw [if_pos e]
      exact ⟨hB, by omega⟩
    · rw [if_neg e]
      exact h.rB i (by omega)
  · by_cases e1 : i = r
    · by_cases e2 : j = r
      · omega
      · rw [if_pos e1, if_neg e2] at e
        have := hrow j (by omega)
        omega
    · by_cases e2 : j = r
      · rw [if_neg e1, if_pos e2] at e
        have := hrow i (by omega)
        omega
      · rw [if_neg e1, if_neg e2] at e
        exact h.inj i j (by omega) (by omega) e
  · by_cases e : i = r
    · rw [if_pos e, if_pos e]
      exact (World.cell?_setCell_far _ _ _ _ (by show sp ≠ w.heap.size; omega)).trans (hCB j hj).1
    · rw [if_neg e, if_neg e]
      exact (World.cell?_setCell_far _ _ _ _ (fun e2 => (h.rB i (by omega)).2 e2.symm)).trans (ha.c i j (by omega) hj)
  · by_cases e : i = r
    · rw [if_pos e]
      simp
    · rw [if_neg e]
      simpa using ha.f i j (by omega) hj
/-- What has been filled in: rows ahead of i, of row i the columns ahead of k, of column k what the first j say. -/
def EB (H Q : List Lk) (a b : Nat) : Bool := decide ((Q.getD b nlk).t ∈ wRow H Q a)
def fil (H Q : List Lk) (i k j a b : Nat) : Bool :=
  if a < i then EB H Q a b else if a = i then (if b < k then EB H Q i b else if b = k then decide ((Q.getD k nlk).t ∈ (wRow H Q i).take j) else false) else false
structure Fil (H Q : List Lk) (n i k j : Nat) (m : Nat → Nat → Bool) : Prop where
  is : ∀ a b, a ≤ i → b < n → m a b = fil H Q i k j a b
theorem Fil.hit {H Q : List Lk} {n i k j : Nat} {m : Nat → Nat → Bool} (h : Fil H Q n i k j m) (hj : j < (wRow H Q i).length) (he : (wRow H Q i).getD j 0 = (Q.getD k nlk).t) : Fil H Q n i k (j + 1) (upd m i k) := by
  refine ⟨fun a b ha hb => ?_⟩
  have h1 := h.is a b ha hb
  unfold upd fil at *
  by_cases e : a = i ∧ b = k
  · obtain ⟨rfl, rfl⟩ := e
    rw [if_pos ⟨rfl, rfl⟩, if_neg (by omega), if_pos rfl, if_neg (by omega), if_pos rfl]
    symm
    rw [decide_eq_true_eq, ← he, take_succ0 hj]
    simp
  · rw [if_neg e, h1]
    by_cases e1 : a < i
    · rw [if_pos e1, if_pos e1]
    · rw [if_neg e1, if_neg e1]
      by_cases e2 : a = i
      · have e3 : ¬ b = k := fun h => e ⟨e2, h⟩
        rw [if_pos e2, if_pos e2, if_neg e3, if_neg e3]
      · rw [if_neg e2, if_neg e2]
theorem Fil.miss {H Q : List Lk} {n i k j : Nat} {m : Nat → Nat → Bool} (h : Fil H Q n i k j m) (hj : j < (wRow H Q i).length) (he : (wRow H Q i).getD j 0 ≠ (Q.getD k nlk).t) : Fil H Q n i k (j + 1) m := by
  refine ⟨fun a b ha hb => ?_⟩
  rw [h.is a b ha hb]
  unfold fil
  have : decide ((Q.getD k nlk).t ∈ (wRow H Q i).take (j + 1)) = decide ((Q.getD k nlk).t ∈ (wRow H Q i).take j) := by
    rw [take_succ0 hj, Bool.eq_iff_iff, decide_eq_true_eq, decide_eq_true_eq, List.mem_append, List.mem_singleton]
    exact ⟨fun h => h.resolve_right (fun e => he e.symm), .inl⟩
  rw [this]
theorem Fil.nextk {H Q : List Lk} {n i k j : Nat} {m : Nat → Nat → Bool} (h : Fil H Q n i k j m) (hj : (wRow H Q i).length ≤ j) : Fil H Q n i (k + 1) 0 m := by
  refine ⟨fun a b ha hb => ?_⟩
  rw [h.is a b ha hb]
  unfold fil
  by_cases e1 : a < i
  · rw [if_pos e1, if_pos e1]
  · rw [if_neg e1, if_neg e1]
    by_cases e2 : a = i
    · rw [if_pos e2, if_pos e2]
      by_cases e3 : b < k
      · rw [if_pos e3, if_pos (by omega)]
      · rw [if_neg e3]
        by_cases e4 : b = k
        · subst e4
          rw [if_pos rfl, if_pos (by omega), List.take_of_length_le hj]
          rfl
        · rw [if_neg e4, if_neg (by omega)]
          by_cases e5 : b = k + 1
          · rw [if_pos e5]
            simp
          · rw [if_neg e5]
    · rw [if_neg e2, if_neg e2]
/-- Rows ahead of i are filled. -/
def Full (H Q : List Lk) (n i : Nat) (m : Nat → Nat → Bool) : Prop := ∀ a b, a < i → b < n → m a b = EB H Q a b
theorem Fil.full {H Q : List Lk} {n i k j : Nat} {m : Nat → Nat → Bool} (h : Fil H Q n i k j m) (hk : n ≤ k) : Full H Q n (i + 1) m := by
  intro a b ha hb
  rw [h.is a b (by omega) hb]
  unfold fil
  by_cases e1 : a < i
  · rw [if_pos e1]
  · obtain rfl : a = i := by omega
    rw [if_neg e1, if_pos rfl, if_pos (by omega)]
theorem Full.fil {H Q : List Lk} {n i : Nat} {m : Nat → Nat → Bool} (h : Full H Q n i m) : Fil H Q n i 0 0 (fun a b => if a = i then false else m a b) := by
  refine ⟨fun a b ha hb => ?_⟩
  unfold Go.Proofs.YtpddlckkncmlmabDoor.fil
  by_cases e : a = i
  · subst e
    simp
  · rw [if_neg e, if_pos (by omega)]
    exact h a b (by omega) hb
theorem Full.war {H Q : List Lk} {n : Nat} {m : Nat → Nat → Bool} (h : Full H Q n n m) (hn : n = Q.length) : War (Edg H Q) n 0 0 0 m := by
  refine War.start fun a b ha hb => ?_
  rw [h a b ha hb]
  unfold EB Edg
  rw [decide_eq_true_eq]
  exact ⟨fun g => ⟨by omega, by omega, g⟩, fun g => g.2.2⟩
theorem made_cells (w : World) (z : Value) (n : Nat) (T : TypeId) (hz : z.cells = #[z]) : ∀ j, j < n → (w.alloc (.cells (madeCells z.cells (n * 1)) T)).cell? ⟨w.heap.size, j, none⟩ = some z ∧ (w.alloc (.cells (madeCells z.cells (n * 1)) T)).frozen? ⟨w.heap.size, j, none⟩ = false := by
  intro j hj
  have hb := new0 w (.cells (madeCells z.cells (n * 1)) T)
  have hs : (madeCells z.cells (n * 1)).size = n := by rw [size_madeCells, Nat.mul_one]
  have hg : (madeCells z.cells (n * 1))[j]? = some z := by
    rw [hz]
    unfold madeCells
    simp [hj, Nat.mod_one]
  constructor
  · simp only [World.cell?, hb]
    simpa using hg
  · simp only [World.frozen?, hb]
    simp
end Go.Proofs.YtpddlckkncmlmabDoor
