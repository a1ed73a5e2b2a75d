/- Ways of a graph, plainly: what is reached; the least one above another. -/
import Derived.Test.YtpddlckkncmlmaaDoorRows
namespace Go.Proofs.YtpddlckkncmlmaaDoor
set_option linter.unusedVariables false
set_option linter.unusedSimpArgs false
/-- Ways over places below k. -/
inductive Pth (E : Nat → Nat → Prop) (k : Nat) : Nat → Nat → Prop
  | one {i j : Nat} : E i j → Pth E k i j
  | cat {i m j : Nat} : Pth E k i m → m < k → Pth E k m j → Pth E k i j
theorem Pth.mono {E : Nat → Nat → Prop} {k k' i j : Nat} (hk : k ≤ k') (h : Pth E k i j) : Pth E k' i j := by
  induction h with
  | one h => exact .one h
  | cat _ hm _ h1 h2 => exact .cat h1 (by omega) h2
theorem Pth.zero {E : Nat → Nat → Prop} {i j : Nat} (h : Pth E 0 i j) : E i j := by
  cases h with
  | one h => exact h
  | cat _ hm _ => omega
theorem Pth.split {E : Nat → Nat → Prop} {k i j : Nat} (h : Pth E (k + 1) i j) : Pth E k i j ∨ (Pth E k i k ∧ Pth E k k j) := by
  induction h with
  | one h => exact .inl (.one h)
  | @cat i m j _ hm _ h1 h2 =>
    rcases Nat.lt_or_ge m k with hl | hl
    · rcases h1 with h1 | ⟨h1, h1'⟩
      · rcases h2 with h2 | ⟨h2, h2'⟩
        · exact .inl (.cat h1 hl h2)
        · exact .inr ⟨.cat h1 hl h2, h2'⟩
      · rcases h2 with h2 | ⟨h2, h2'⟩
        · exact .inr ⟨h1, .cat h1' hl h2⟩
        · exact .inr ⟨h1, h2'⟩
    · obtain rfl : m = k := by omega
      refine .inr ⟨?_, ?_⟩
      · rcases h1 with h1 | ⟨h1, _⟩ <;> exact h1
      · rcases h2 with h2 | ⟨_, h2⟩ <;> exact h2
/-- What is reached step by step. -/
inductive Rch (R : Int → Int → Prop) : Int → Int → Prop
  | one {a b : Int} : R a b → Rch R a b
  | cat {a b c : Int} : Rch R a b → R b c → Rch R a c
theorem Rch.trans {R : Int → Int → Prop} {a b c : Int} (h : Rch R a b) (g : Rch R b c) : Rch R a c := by
  induction g with
  | one g => exact .cat h g
  | cat _ g ih => exact .cat ih g
/-- What a search from t has met, and what it still has to look at. -/
structure Bfs (R : Int → Int → Prop) (t : Int) (D T : List Int) : Prop where
  sound : ∀ b ∈ D, Rch R t b
  todo : ∀ a ∈ T, a = t ∨ a ∈ D
  done : ∀ a, (a = t ∨ a ∈ D) → a ∈ T ∨ ∀ b, R a b → b ∈ D
theorem bfs_start (R : Int → Int → Prop) (t : Int) : Bfs R t [] [t] := ⟨by simp, by simp, fun a h => .inl (by simpa using h)⟩
/-- The same while the first one's row is looked at. -/
structure Mid (R : Int → Int → Prop) (t a : Int) (D T row : List Int) (j : Nat) : Prop where
  at_ : a = t ∨ a ∈ D
  sound : ∀ b ∈ D, Rch R t b
  todo : ∀ c ∈ T, c = t ∨ c ∈ D
  done : ∀ c, (c = t ∨ c ∈ D) → c ∈ T ∨ c = a ∨ ∀ b, R c b → b ∈ D
  part : ∀ b ∈ row.take j, b ∈ D
  rel : ∀ b, R a b ↔ b ∈ row
theorem Bfs.mid {R : Int → Int → Prop} {t a : Int} {D T row : List Int} (h : Bfs R t D (a :: T)) (hr : ∀ b, R a b ↔ b ∈ row) : Mid R t a D T row 0 := by
  refine ⟨h.todo a (by simp), h.sound, fun c hc => h.todo c (by simp [hc]), fun c hc => ?_, by simp, hr⟩
  rcases h.done c hc with g | g
  · rcases List.mem_cons.1 g with g | g
    · exact .inr (.inl g)
    · exact .inl g
  · exact .inr (.inr g)
theorem Mid.bfs {R : Int → Int → Prop} {t a : Int} {D T row : List Int} {j : Nat} (h : Mid R t a D T row j) (hj : row.length ≤ j) : Bfs R t D T := by
  refine ⟨h.sound, h.todo, fun c hc => ?_⟩
  rcases h.done c hc with g | g | g
  · exact .inl g
  · subst g
    exact .inr fun b hb => h.part b (by rw [List.take_of_length_le hj]; exact (h.rel b).1 hb)
  · exact .inr g
theorem Mid.skip {R : Int → Int → Prop} {t a : Int} {D T row : List Int} {j : Nat} (h : Mid R t a D T row j) (hj : j < row.length) (hin : row.getD j 0 ∈ D) : Mid R t a D T row (j + 1) := by
  refine ⟨h.at_, h.sound, h.todo, h.done, fun b hb => ?_, h.rel⟩
  rw [List.take_succ_eq_append_getElem hj] at hb
  rcases List.mem_append.1 hb with hb | hb
  · exact h.part b hb
  · simp only [List.mem_singleton] at hb
    rw [hb]
    simpa [List.getD, hj] using hin
theorem Mid.push {R : Int → Int → Prop} {t a : Int} {D T row : List Int} {j : Nat} (h : Mid R t a D T row j) (hj : j < row.length) : Mid R t a (D ++ [row.getD j 0]) (T ++ [row.getD j 0]) row (j + 1) := by
  have hg : row.getD j 0 = row[j] := by simp [List.getD, hj]
  have hR : Rch R t (row.getD j 0) := by
    have : R a (row.getD j 0) := (h.rel _).2 (by rw [hg]; exact List.getElem_mem hj)
    rcases h.at_ with e | e
    · subst e; exact .one this
    · exact .cat (h.sound a e) this
  refine ⟨h.at_.imp id (fun e => by simp [e]), fun b hb => ?_, fun c hc => ?_, fun c hc => ?_, fun b hb => ?_, h.rel⟩
  · rcases List.mem_append.1 hb with hb | hb
    · exact h.sound b hb
    · simp only [List.mem_singleton] at hb; rw [hb]; exact hR
  · rcases List.mem_append.1 hc with hc | hc
    · exact (h.todo c hc).imp id (fun e => by simp [e])
    · exact .inr (by simp only [List.mem_singleton] at hc; simp [hc])
  · have hc' : (c = t ∨ c ∈ D) ∨ c = row.getD j 0 := by
      rcases hc with hc | hc
      · exact .inl (.inl hc)
      · rcases List.mem_append.1 hc with hc | hc
        · exact .inl (.inr hc)
        · exact .inr (by simpa using hc)
    rcases hc' with hc | hc
    · rcases h.done c hc with g | g | g
      · exact .inl (by simp [g])
      · exact .inr (.inl g)
      · exact .inr (.inr fun b hb => by simp [g b hb])
    · exact .inl (by simp [hc])
  · rw [List.take_succ_eq_append_getElem hj] at hb
    rcases List.mem_append.1 hb with hb | hb
    · simp [h.part b hb]
    · simp only [List.mem_singleton] at hb
      rw [hb, hg]
      simp
theorem Bfs.all {R : Int → Int → Prop} {t : Int} {D : List Int} (h : Bfs R t D []) (b : Int) : b ∈ D ↔ Rch R t b := by
  refine ⟨h.sound b, fun g => ?_⟩
  induction g with
  | one g =>
    rcases h.done t (.inl rfl) with x | x
    · simp at x
    · exact x _ g
  | cat _ g ih =>
    rcases h.done _ (.inr ih) with x | x
    · simp at x
    · exact x _ g
/-- How many of a list have not been met. -/
def left (U D : List Int) : Nat := (U.filter fun x => !D.contains x).length
theorem left_push {U D : List Int} {a : Int} (hU : a ∈ U) (hD : a ∉ D) : left U (D ++ [a]) < left U D := by
  unfold left
  induction U with
  | nil => simp at hU
  | cons x l ih =>
    have mono : ∀ l : List Int, (l.filter fun x => !(D ++ [a]).contains x).length ≤ (l.filter fun x => !D.contains x).length := by
      intro l
      induction l with
      | nil => simp
      | cons y l ihl =>
        rw [List.filter_cons, List.filter_cons]
        by_cases h1 : y ∈ D
        · simp [h1]; simpa using ihl
        · by_cases h2 : y = a
          · simp [h2]; have := ihl; simp at this; subst h2; simp [h1]; omega
          · simp [h1, h2]; simpa using ihl
    by_cases hx : x = a
    · subst hx
      have := mono l
      rw [List.filter_cons, List.filter_cons]
      simp [hD]
      simp at this
      omega
    · have hl : a ∈ l := by
        rcases List.mem_cons.1 hU with h | h
        · exact absurd h.symm hx
        · exact h
      have := ih hl
      rw [List.filter_cons, List.filter_cons]
      by_cases h1 : x ∈ D
      · simp [h1]; simpa using this
      · simp [h1, hx]; simpa using this
end Go.Proofs.YtpddlckkncmlmaaDoor
