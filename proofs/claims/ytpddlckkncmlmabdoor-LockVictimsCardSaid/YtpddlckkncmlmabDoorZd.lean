/- Ways found over one place after another, in one table, plainly. -/
import Derived.Test.YtpddlckkncmlmabDoorZa
namespace Go.Proofs.YtpddlckkncmlmabDoor
set_option linter.unusedVariables false
set_option linter.unusedSimpArgs false
/-- The table behind the places below k, and behind those cells of place k that stand ahead of row i, column j. -/
structure War (E : Nat → Nat → Prop) (n k i j : Nat) (m : Nat → Nat → Bool) : Prop where
  sound : ∀ a b, a < n → b < n → m a b = true → Pth E n a b
  comp : ∀ a b, a < n → b < n → Pth E k a b → m a b = true
  part : ∀ a b, a < n → b < n → (a < i ∨ (a = i ∧ b < j)) → Pth E (k + 1) a b → m a b = true
def upd (m : Nat → Nat → Bool) (i j : Nat) : Nat → Nat → Bool := fun a b => if a = i ∧ b = j then true else m a b
theorem upd_mono {m : Nat → Nat → Bool} {i j a b : Nat} (h : m a b = true) : upd m i j a b = true := by unfold upd; split <;> simp [h]
theorem War.start {E : Nat → Nat → Prop} {n : Nat} {m : Nat → Nat → Bool} (h : ∀ a b, a < n → b < n → (m a b = true ↔ E a b)) : War E n 0 0 0 m :=
  ⟨fun a b ha hb g => .one ((h a b ha hb).1 g), fun a b ha hb g => (h a b ha hb).2 g.zero, fun a b _ _ g => by omega⟩
theorem War.hit {E : Nat → Nat → Prop} {n k i j : Nat} {m : Nat → Nat → Bool} (h : War E n k i j m) (hk : k < n) (hi : i < n) (hj : j < n) (h1 : m i k = true) (h2 : m k j = true) : War E n k i (j + 1) (upd m i j) := by
  refine ⟨fun a b ha hb g => ?_, fun a b ha hb g => upd_mono (h.comp a b ha hb g), fun a b ha hb hp g => ?_⟩
  · unfold upd at g
    split at g
    · rename_i e
      obtain ⟨rfl, rfl⟩ := e
      exact .cat (h.sound _ _ hi hk h1) hk (h.sound _ _ hk hj h2)
    · exact h.sound a b ha hb g
  · by_cases e : a = i ∧ b = j
    · unfold upd; rw [if_pos e]
    · exact upd_mono (h.part a b ha hb (by omega) g)
theorem War.miss {E : Nat → Nat → Prop} {n k i j : Nat} {m : Nat → Nat → Bool} (h : War E n k i j m) (hk : k < n) (hi : i < n) (hj : j < n) (hno : ¬ (m i k = true ∧ m k j = true)) : War E n k i (j + 1) m := by
  refine ⟨h.sound, h.comp, fun a b ha hb hp g => ?_⟩
  by_cases e : a = i ∧ b = j
  · obtain ⟨rfl, rfl⟩ := e
    rcases g.split with g | ⟨g1, g2⟩
    · exact h.comp _ _ ha hb g
    · exact absurd ⟨h.comp _ _ ha hk g1, h.comp _ _ hk hb g2⟩ hno
  · exact h.part a b ha hb (by omega) g
theorem War.row {E : Nat → Nat → Prop} {n k i : Nat} {m : Nat → Nat → Bool} (h : War E n k i n m) : War E n k (i + 1) 0 m :=
  ⟨h.sound, h.comp, fun a b ha hb hp g => h.part a b ha hb (by omega) g⟩
theorem War.next {E : Nat → Nat → Prop} {n k : Nat} {m : Nat → Nat → Bool} (h : War E n k n 0 m) : War E n (k + 1) 0 0 m :=
  ⟨h.sound, fun a b ha hb g => h.part a b ha hb (by omega) g, fun a b ha hb hp g => by omega⟩
theorem War.done {E : Nat → Nat → Prop} {n i j : Nat} {m : Nat → Nat → Bool} (h : War E n n i j m) {a b : Nat} (ha : a < n) (hb : b < n) : m a b = true ↔ Pth E n a b :=
  ⟨h.sound a b ha hb, h.comp a b ha hb⟩
end Go.Proofs.YtpddlckkncmlmabDoor
