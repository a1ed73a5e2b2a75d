/- Rows of numbers in memory: lists of whom each one waits for. -/
import Derived.Test.YtpddlckkncmlmaaDoorNf
import Derived.Test.YtpddlckkncmlmaaDoorGw
namespace Go.Proofs.YtpddlckkncmlmaaDoor
open Go.ChangeShapes Go.WideShapes Go.ChangeAt Go.RowKit
set_option linter.unusedVariables false
set_option linter.unusedSimpArgs false
set_option maxHeartbeats 1000000
theorem Tryd.info38 : (Tryd.prog.info? 38).map (fun i => (i.zero, i.size, i.bytes)) = some (some (.slice none 0 0), 1, 24) := by kernel_rfl
theorem row_past {w w' : World} {B e s n : Nat} {v : Value} {xs : List Value} {row : Option Nat} (h : w.ownsRow B e s v n xs) (hg : w.grownBy w' row) (hne : ∀ k, v.ownBlock = some k → row ≠ some k) : w'.ownsRow B e s v n xs := h.kept hg (by
  cases h1 : v.ownBlock with
  | none => exact .inl rfl
  | some k => exact .inr (fun e => hne k h1 e.symm))
theorem row_shape {w : World} {s n : Nat} {v : Value} {xs : List Value} (h : Rd w s n v xs) : ∃ a c, v = .slice a n c := by
  obtain ⟨_, a, c, e, _⟩ := h
  exact ⟨a, c, e⟩
/-- The call's own rows. -/
structure OJ (w : World) (B : Nat) (v : Value) (vs : List Value) (L : List (List Int)) : Prop where
  own : w.ownsRow B 38 1 v L.length vs
  rows : ∀ (i : Nat) (k : List Int), L[i]? = some k → ∃ u, vs[i]? = some u ∧ w.ownsRow B 3 1 u k.length (ic k) ∧ ∀ b, u.ownBlock = some b → v.ownBlock ≠ some b
/-- Rows, read. -/
def RJ (w : World) (v : Value) (L : List (List Int)) : Prop :=
  ∃ vs, Rd w 1 L.length v vs ∧ ∀ (i : Nat) (k : List Int), L[i]? = some k → ∃ a c, vs[i]? = some (.slice a k.length c) ∧ Rd w 1 k.length (.slice a k.length c) (ic k)
theorem OJ.rj {w : World} {B : Nat} {v : Value} {vs : List Value} {L : List (List Int)} (h : OJ w B v vs L) : RJ w v L := by
  refine ⟨vs, Rd.own h.own, fun i k hk => ?_⟩
  obtain ⟨u, h1, h2, _⟩ := h.rows i k hk
  have h3 := Rd.own h2
  obtain ⟨a, c, rfl⟩ := row_shape h3
  exact ⟨a, c, h1, h3⟩
theorem RJ.below {w w' : World} {v : Value} {L : List (List Int)} (h : RJ w v L) (hb : Below w.heap.size w w') : RJ w' v L := by
  obtain ⟨vs, h1, h2⟩ := h
  exact ⟨vs, h1.below hb, fun i k hk => by
    obtain ⟨a, c, g1, g2⟩ := h2 i k hk
    exact ⟨a, c, g1, g2.below hb⟩⟩
theorem OJ.nil (w : World) (B : Nat) : OJ w B (.slice none 0 0) [] [] := ⟨World.ownsRow_nil _ _ _ _, fun i k h => by simp at h⟩
theorem RJ.nil (w : World) : RJ w (.slice none 0 0) [] := (OJ.nil w 0).rj
theorem OJ.below {w w' : World} {B : Nat} {v : Value} {vs : List Value} {L : List (List Int)} (h : OJ w B v vs L) (hb : Below w.heap.size w w') : OJ w' B v vs L :=
  ⟨own_below h.own hb, fun i k hk => by
    obtain ⟨u, h1, h2, h3⟩ := h.rows i k hk
    exact ⟨u, h1, own_below h2 hb, h3⟩⟩
theorem OJ.push {w w' : World} {B H : Nat} {v v' u : Value} {vs : List Value} {L : List (List Int)} {k : List Int} (h : OJ w B v vs L) (hu : w.ownsRow B 3 1 u k.length (ic k)) (hune : ∀ b, u.ownBlock = some b → v.ownBlock ≠ some b)
    (hown' : w'.ownsRow B 38 1 v' (L.length + 1) (vs ++ [u])) (hg : w.grownBy w' v.ownBlock) (he : v'.ownBlock = v.ownBlock ∨ v'.ownBlock = some H) (hH : w.heap.size ≤ H) : OJ w' B v' (vs ++ [u]) (L ++ [k]) := by
  have hvl : vs.length = L.length := by have := h.own.1; omega
  have hne : ∀ (z : Value) (n : Nat) (xs : List Value), w.ownsRow B 3 1 z n xs → (∀ b, z.ownBlock = some b → v.ownBlock ≠ some b) → w'.ownsRow B 3 1 z n xs ∧ ∀ b, z.ownBlock = some b → v'.ownBlock ≠ some b := by
    intro z n xs hz hzne
    refine ⟨row_past hz hg hzne, fun b hb => ?_⟩
    rcases he with e | e
    · rw [e]; exact hzne b hb
    · rw [e]
      intro e2
      have := Option.some.inj e2
      have := (hz.lt b hb).2
      omega
  refine ⟨by rw [List.length_append]; exact hown', fun i x hx => ?_⟩
  by_cases hi : i < L.length
  · rw [List.getElem?_append_left hi] at hx
    obtain ⟨z, h1, h2, h3⟩ := h.rows i x hx
    exact ⟨z, by rw [List.getElem?_append_left (by omega)]; exact h1, hne z _ _ h2 h3⟩
  · have hxl := (List.getElem?_eq_some_iff.1 hx).1
    simp only [List.length_append, List.length_singleton] at hxl
    obtain rfl : i = L.length := by omega
    rw [List.getElem?_append_right (Nat.le_refl _)] at hx
    simp at hx
    subst hx
    exact ⟨u, by rw [← hvl, List.getElem?_append_right (Nat.le_refl _)]; simp, hne u _ _ hu hune⟩
end Go.Proofs.YtpddlckkncmlmaaDoor
