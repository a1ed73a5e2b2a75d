/- Plain facts: the order of values is one. -/
import Derived.Test.YtakhkcabahhohaaDoorPm
namespace Go.Proofs.YtakhkcabahhohaaDoor
set_option linter.unusedVariables false
set_option linter.unusedSimpArgs false
open Go.RowKit
/-- What three comparisons of one order say of each other. -/
def TR (ab ba bc ac : Int) : Prop := -1 ≤ ab ∧ ab ≤ 1 ∧ -1 ≤ bc ∧ bc ≤ 1 ∧ -1 ≤ ac ∧ ac ≤ 1 ∧ ab = -ba ∧ (ab ≤ 0 → bc ≤ 0 → ac ≤ 0 ∧ (ac < 0 ↔ ab < 0 ∨ bc < 0))
theorem TR_or {a b c d a' b' c' d' a'' b'' c'' d'' : Int} (h : TR a b c d) (h' : TR a' b' c' d') (h'' : TR a'' b'' c'' d'') : TR (or3 a a' a'') (or3 b b' b'') (or3 c c' c'') (or3 d d' d'') := by
  unfold TR at *
  have ha : or3 a a' a'' = if a ≠ 0 then a else if a' ≠ 0 then a' else a'' := rfl
  have hb : or3 b b' b'' = if b ≠ 0 then b else if b' ≠ 0 then b' else b'' := rfl
  have hc : or3 c c' c'' = if c ≠ 0 then c else if c' ≠ 0 then c' else c'' := rfl
  have hd : or3 d d' d'' = if d ≠ 0 then d else if d' ≠ 0 then d' else d'' := rfl
  rw [ha, hb, hc, hd]
  by_cases xa : a = 0 <;> by_cases xc : c = 0 <;> by_cases xd : d = 0 <;> by_cases ya : a' = 0 <;> by_cases yc : c' = 0 <;> by_cases yd : d' = 0 <;>
    (have xb : b = -a := by omega
     have yb : b' = -a' := by omega
     simp only [xa, xc, xd, ya, yc, yd, xb, yb, ne_eq, not_true_eq_false, not_false_eq_true, if_true, if_false, Int.neg_eq_zero, Int.neg_zero] at h h' h'' ⊢
     omega)
theorem TR_sgn (a b c : Int) : TR (sgn a b) (sgn b a) (sgn b c) (sgn a c) := by
  unfold TR sgn
  by_cases h1 : a < b <;> by_cases h2 : b < a <;> by_cases h3 : b < c <;> by_cases h4 : c < b <;> by_cases h5 : a < c <;> by_cases h6 : c < a <;> simp [h1, h2, h3, h4, h5, h6] <;> omega
theorem sgs_lt {a b : ByteArray} (h : Op.bytesLess a.toList b.toList = true) : sgs a b = -1 := by simp [sgs_of, h]
theorem sgs_gt {a b : ByteArray} (h : Op.bytesLess b.toList a.toList = true) : sgs a b = 1 := by simp [sgs_of, h, bl_asy _ _ h]
theorem sgs_eq {a b : ByteArray} (h : a = b) : sgs a b = 0 := by subst h; simp [sgs_of, bl_irr]
theorem sgs_tri (a b : ByteArray) : Op.bytesLess a.toList b.toList = true ∨ a = b ∨ Op.bytesLess b.toList a.toList = true := by
  rcases h : Op.bytesLess a.toList b.toList with _ | _
  · rcases g : Op.bytesLess b.toList a.toList with _ | _
    · exact .inr (.inl (same_of (bl_tri _ _ h g)))
    · exact .inr (.inr rfl)
  · exact .inl rfl
theorem TR_sgs (a b c : ByteArray) : TR (sgs a b) (sgs b a) (sgs b c) (sgs a c) := by
  unfold TR
  rcases sgs_tri a b with h | rfl | h
  · rcases sgs_tri b c with g | rfl | g
    · rw [sgs_lt h, sgs_gt h, sgs_lt g, sgs_lt (bl_trans _ _ _ h g)]; simp
    · rw [sgs_lt h, sgs_gt h, sgs_eq rfl]; simp
    · rw [sgs_lt h, sgs_gt h, sgs_gt g]
      rcases sgs_tri a c with k | rfl | k
      · rw [sgs_lt k]; simp
      · rw [sgs_eq rfl]; simp
      · rw [sgs_gt k]; simp
  · rw [sgs_eq rfl]
    rcases sgs_tri a c with k | rfl | k
    · rw [sgs_lt k]; simp
    · rw [sgs_eq rfl]; simp
    · rw [sgs_gt k]; simp
  · rw [sgs_gt h, sgs_lt h]
    rcases sgs_tri b c with g | rfl | g
    · rw [sgs_lt g]
      rcases sgs_tri a c with k | rfl | k
      · rw [sgs_lt k]; simp
      · rw [sgs_eq rfl]; simp
      · rw [sgs_gt k]; simp
    · rw [sgs_eq rfl, sgs_gt h]; simp
    · rw [sgs_gt g, sgs_gt (bl_trans _ _ _ g h)]; simp
theorem TR_ord (a b c : V) : TR (ord a b) (ord b a) (ord b c) (ord a c) := TR_or (TR_sgn _ _ _) (TR_sgn _ _ _) (TR_sgs _ _ _)
theorem ord_zero (a b : V) : ord a b = 0 ↔ (a.k = b.k ∧ a.n = b.n ∧ a.t.toList = b.t.toList) := by
  have s : ∀ x y : Int, sgn x y = 0 ↔ x = y := fun x y => by unfold sgn; by_cases h1 : x < y <;> by_cases h2 : y < x <;> simp [h1, h2] <;> omega
  have t : sgs a.t b.t = 0 ↔ a.t.toList = b.t.toList := by
    rcases sgs_tri a.t b.t with h | h | h
    · rw [sgs_lt h]
      refine ⟨fun g => by omega, fun g => ?_⟩
      rw [g, bl_irr] at h
      cases h
    · rw [sgs_eq h, h]; simp
    · rw [sgs_gt h]
      refine ⟨fun g => by omega, fun g => ?_⟩
      rw [g, bl_irr] at h
      cases h
  unfold ord or3
  have e1 := s a.k b.k
  have e2 := s a.n b.n
  rw [← e1, ← e2, ← t]
  clear e1 e2 s t
  generalize sgn a.k b.k = x
  generalize sgn a.n b.n = y
  generalize sgs a.t b.t = z
  by_cases hx : x = 0 <;> by_cases hy : y = 0 <;> simp [hx, hy]
end Go.Proofs.YtakhkcabahhohaaDoor
