/- Plain facts on values: the reference's order is the code's. -/
import Derived.Test.YtbjdgkidnmklkaaGreatDoorPl
import Derived.Lib.Strings
namespace Go.Proofs.YtbjdgkidnmklkaaGreatDoor
set_option linter.unusedVariables false
set_option linter.unusedSimpArgs false
open Go.RowKit

/-- Stands a value ahead of another one? -/
def ahd (a b : V) : Bool := if a.k ≠ b.k then decide (a.k < b.k) else if a.k = 3 then Op.bytesLess a.t.toList b.t.toList else decide (a.n < b.n)

theorem bl_irr : ∀ x : List UInt8, Op.bytesLess x x = false
  | [] => rfl
  | a :: x => by simp [Op.bytesLess, bl_irr x]
theorem bl_tri : ∀ x y : List UInt8, Op.bytesLess x y = false → Op.bytesLess y x = false → x = y
  | [], [] => fun _ _ => rfl
  | [], b :: y => fun h _ => by simp [Op.bytesLess] at h
  | a :: x, [] => fun _ h => by simp [Op.bytesLess] at h
  | a :: x, b :: y => fun h g => by
    simp only [Op.bytesLess, Bool.or_eq_false_iff, Bool.and_eq_false_iff, decide_eq_false_iff_not, beq_eq_false_iff_ne, ne_eq] at h g
    have hab : a = b := by
      have h1 := h.1
      have g1 := g.1
      rw [UInt8.lt_iff_toNat_lt] at h1 g1
      exact UInt8.toNat_inj.1 (by omega)
    subst hab
    have := bl_tri x y (by simpa using h.2) (by simpa using g.2)
    rw [this]
theorem bl_asy : ∀ x y : List UInt8, Op.bytesLess x y = true → Op.bytesLess y x = false
  | [], [] => fun h => by simp [Op.bytesLess] at h
  | [], b :: y => fun _ => by simp [Op.bytesLess]
  | a :: x, [] => fun h => by simp [Op.bytesLess] at h
  | a :: x, b :: y => fun h => by
    simp only [Op.bytesLess, Bool.or_eq_true, Bool.and_eq_true, decide_eq_true_eq, beq_iff_eq, Bool.or_eq_false_iff, Bool.and_eq_false_iff, decide_eq_false_iff_not, beq_eq_false_iff_ne, ne_eq] at h ⊢
    rcases h with h | ⟨rfl, h⟩
    · rw [UInt8.lt_iff_toNat_lt] at h
      refine ⟨?_, .inl ?_⟩
      · rw [UInt8.lt_iff_toNat_lt]; omega
      · rintro rfl; omega
    · refine ⟨?_, .inr (bl_asy x y h)⟩
      rw [UInt8.lt_iff_toNat_lt]; omega
theorem bl_trans : ∀ x y z : List UInt8, Op.bytesLess x y = true → Op.bytesLess y z = true → Op.bytesLess x z = true
  | [], [], _ => fun h => by simp [Op.bytesLess] at h
  | _ :: _, [], _ => fun h => by simp [Op.bytesLess] at h
  | _, _ :: _, [] => fun _ h => by simp [Op.bytesLess] at h
  | [], _ :: _, _ :: _ => fun _ _ => by simp [Op.bytesLess]
  | a :: x, b :: y, c :: z => fun h g => by
    simp only [Op.bytesLess, Bool.or_eq_true, Bool.and_eq_true, decide_eq_true_eq, beq_iff_eq, UInt8.lt_iff_toNat_lt] at h g ⊢
    rcases h with h | ⟨rfl, h⟩ <;> rcases g with g | ⟨rfl, g⟩
    · left; omega
    · left; omega
    · left; omega
    · right; exact ⟨rfl, bl_trans x y z h g⟩

theorem list_of (t : ByteArray) : t.toList = t.data.toList := Lib.toList_data t
theorem empty_of {t : ByteArray} (h : t.toList = []) : t = ⟨#[]⟩ := by
  rw [list_of] at h
  cases t
  simp_all
theorem same_of {s t : ByteArray} (h : s.toList = t.toList) : s = t := by
  rw [list_of, list_of] at h
  cases s
  cases t
  simpa using Array.toList_inj.1 h
/-- A value that may be. -/
theorem chk0 {k n : Int} {t : ByteArray} (h : chk k n t = 0) : 0 ≤ k ∧ k ≤ 3 ∧ (k ≠ 3 → t = ⟨#[]⟩) ∧ (k = 0 → n = 0) ∧ (k = 1 → n = 0 ∨ n = 1) ∧ (k = 3 → n = 0) := by
  unfold chk at h
  by_cases h1 : k < 0
  · rw [if_pos h1] at h; omega
  rw [if_neg h1] at h
  by_cases h2 : 3 < k
  · rw [if_pos h2] at h; omega
  rw [if_neg h2] at h
  by_cases h3 : (k ≠ 3 ∧ t.toList ≠ []) ∨ nmb k n = false
  · rw [if_pos h3] at h; omega
  simp only [not_or, not_and, Decidable.not_not] at h3
  obtain ⟨h4, h5⟩ := h3
  refine ⟨by omega, by omega, fun hk => empty_of (h4 hk), ?_, ?_, ?_⟩ <;> (rintro rfl; simp [nmb] at h5; omega)
theorem chk20 {a b : V} (h : chk2 a b = 0) : chk a.k a.n a.t = 0 ∧ chk b.k b.n b.t = 0 := by
  unfold chk2 at h
  split at h <;> simp_all
theorem sgs_of (a b : ByteArray) : sgs a b = if Op.bytesLess a.toList b.toList then -1 else if Op.bytesLess b.toList a.toList then 1 else 0 := by
  unfold sgs
  by_cases h : Op.bytesLess a.toList b.toList = true
  · simp [h]
  · by_cases h' : a.toList = b.toList
    · simp [h', bl_irr]
    · have : Op.bytesLess b.toList a.toList = true := by
        rcases hb : Op.bytesLess b.toList a.toList with _ | _
        · exact absurd (bl_tri _ _ (by simpa using h) hb) h'
        · rfl
      simp [h, h', this]
theorem ord_ahd {a b : V} (h : chk2 a b = 0) : ord a b = if ahd a b then -1 else if ahd b a then 1 else 0 := by
  obtain ⟨h1, h2⟩ := chk20 h
  obtain ⟨ka, na, ta⟩ := a
  obtain ⟨kb, nb, tb⟩ := b
  obtain ⟨_, _, g1, g2, g3, g4⟩ := chk0 h1
  obtain ⟨_, _, f1, f2, f3, f4⟩ := chk0 h2
  simp only at g1 g2 g3 g4 f1 f2 f3 f4
  unfold ord ahd or3
  simp only [sgs_of]
  by_cases hk : ka = kb
  · subst hk
    by_cases k3 : ka = 3
    · subst k3
      simp [sgn, g4, f4]
    · rw [g1 k3, f1 k3]
      by_cases hn : na = nb
      · subst hn; simp [sgn, k3, bl_irr]
      · by_cases hl : na < nb
        · simp [sgn, k3, hl]
        · have : nb < na := by omega
          simp [sgn, k3, hl, this]
  · by_cases hl : ka < kb
    · simp [sgn, hk, hl]
    · have : kb < ka := by omega
      have hk' : ¬ kb = ka := by omega
      simp [sgn, hk, hk', hl, this]
/-- A Bool or Null. -/
def lg (v : V) : Prop := v = ⟨0, 0, ⟨#[]⟩⟩ ∨ v = ⟨1, 0, ⟨#[]⟩⟩ ∨ v = ⟨1, 1, ⟨#[]⟩⟩
theorem e_list : (⟨#[]⟩ : ByteArray).toList = [] := by rw [list_of]
theorem e_size : (⟨#[]⟩ : ByteArray).size = 0 := rfl
theorem logic_table {a b : V} (ha : lg a) (hb : lg b) : ∃ c na nb d : V, two 3 a b = (c, 0) ∧ two 3 b a = (c, 0) ∧ one 5 a = (na, 0) ∧ one 5 b = (nb, 0) ∧ two 4 na nb = (d, 0) ∧ one 5 c = (d, 0) ∧ one 5 na = (a, 0) ∧
    two 4 a ⟨1, 1, ⟨#[]⟩⟩ = (⟨1, 1, ⟨#[]⟩⟩, 0) := by
  refine ⟨(two 3 a b).1, (one 5 a).1, (one 5 b).1, (two 4 (one 5 a).1 (one 5 b).1).1, ?_⟩
  rcases ha with rfl | rfl | rfl <;> rcases hb with rfl | rfl | rfl <;>
    simp [two, one, turn, chk2, chk, nmb, join, known, unk, tru, nul, e_list, e_size]
theorem logic_null {a : V} (ha : lg a) : ∃ c d e f : V, two 3 a ⟨0, 0, ⟨#[]⟩⟩ = (c, 0) ∧ two 4 a ⟨0, 0, ⟨#[]⟩⟩ = (d, 0) ∧ one 11 a = (e, 0) ∧ two 6 a ⟨0, 0, ⟨#[]⟩⟩ = (f, 0) ∧ f.k = 0 ∧
    ((e = ⟨1, 1, ⟨#[]⟩⟩) ↔ a.k = 0) ∧ (c = ⟨1, 0, ⟨#[]⟩⟩ ↔ a = ⟨1, 0, ⟨#[]⟩⟩) ∧ (d = ⟨1, 1, ⟨#[]⟩⟩ ↔ a = ⟨1, 1, ⟨#[]⟩⟩) ∧ (c = ⟨1, 0, ⟨#[]⟩⟩ ∨ c.k = 0) ∧ (d = ⟨1, 1, ⟨#[]⟩⟩ ∨ d.k = 0) := by
  refine ⟨(two 3 a ⟨0, 0, ⟨#[]⟩⟩).1, (two 4 a ⟨0, 0, ⟨#[]⟩⟩).1, (one 11 a).1, (two 6 a ⟨0, 0, ⟨#[]⟩⟩).1, ?_⟩
  rcases ha with rfl | rfl | rfl <;>
    simp [two, one, turn, hold, chk2, chk, nmb, join, known, unk, tru, nul, e_list, e_size]
end Go.Proofs.YtbjdgkidnmklkaaGreatDoor
