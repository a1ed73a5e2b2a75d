/- Tokens in memory; texts of words and marks cut at their blanks, plainly. -/
import Derived.Test.YtcgomhcglnbalaaDoorBg
import Derived.Test.YtcgomhcglnbalaaDoorSf
namespace Go.Proofs.YtcgomhcglnbalaaDoor
open Go.ChangeShapes Go.WideShapes Go.ChangeAt Go.RowKit
set_option linter.unusedVariables false
set_option linter.unusedSimpArgs false
set_option maxHeartbeats 1000000
theorem Tryd.info73 : (Tryd.prog.info? 73).map (fun i => (i.zero, i.size, i.bytes)) = some (some (.agg #[.int .i64 0, .string ⟨#[]⟩, .int .i64 0]), 3, 32) := by kernel_rfl
def tk0 : Tk := ⟨0, [], 0⟩
/-- The cells of tokens. -/
def tkc : List Tk → List Value
  | [] => []
  | x :: l => .int .i64 x.k :: .string ⟨x.t.toArray⟩ :: .int .i64 x.n :: tkc l
theorem tkc_app : ∀ l m : List Tk, tkc (l ++ m) = tkc l ++ tkc m
  | [], _ => rfl
  | x :: l, m => by simp [tkc, tkc_app l m]
theorem tkc_length : ∀ l : List Tk, (tkc l).length = l.length * 3
  | [] => rfl
  | x :: l => by simp [tkc, tkc_length l]; omega
theorem tkc_one : ∀ (l : List Tk), ∀ u ∈ tkc l, u.oneCell' = true
  | [], u, hu => by simp [tkc] at hu
  | x :: l, u, hu => by
    simp only [tkc, List.mem_cons] at hu
    rcases hu with rfl | rfl | rfl | hu
    · rfl
    · rfl
    · rfl
    · exact tkc_one l u hu
theorem tkc_at : ∀ {l : List Tk} {k : Nat}, k < l.length → (tkc l)[k * 3]? = some (.int .i64 (l.getD k tk0).k) ∧ (tkc l)[k * 3 + 1]? = some (.string ⟨(l.getD k tk0).t.toArray⟩) ∧ (tkc l)[k * 3 + 2]? = some (.int .i64 (l.getD k tk0).n)
  | [], k, h => by simp at h
  | v :: l, 0, _ => by simp [tkc]
  | v :: l, k + 1, h => by
    have ih := tkc_at (l := l) (k := k) (by simpa using h)
    have e : (k + 1) * 3 = k * 3 + 1 + 1 + 1 := by omega
    rw [e]
    simpa [tkc] using ih
section
variable {ops : Array Oper} {rest : List Oper} {o : Oper} {a : Act} {Q : Exit → Act → World → Prop}
/-- 'append(l, t)' of a token. -/
theorem apt (w : World) (hgd : o.guard = none) (s x : Operand) (ho : o.op = .call { callee := .builtin .append, args := #[s, x], argTypes := #[62, 62] })
    {B n : Nat} {v : Value} {xs : List Value} (hown : w.ownsRow B 73 3 v n xs) (hB : B ≤ w.heap.size) (hn : n ≤ 1000000) {i j : Int} {t : ByteArray}
    (H : Nat) (hH : w.heap.size = H) (hs : a.eval s = v) (hx : a.eval x = .slice (some ⟨H, 0, none⟩) 1 1)
    (h : ∀ v' w', w'.ownsRow B 73 3 v' (n + 1) (xs ++ [.int .i64 i, .string t, .int .i64 j]) → Below B w w' → w.grownBy w' v.ownBlock → wpList Tryd.prog ops Q rest (a.put o.dst v') w') :
    wpList Tryd.prog ops Q (o :: rest) a (w.alloc (.cells #[.int .i64 i, .string t, .int .i64 j] 73)) := by
  subst hH
  obtain ⟨i0, hi, hz0, hz1, hz2⟩ := info_parts Tryd.info73
  refine wpList_append_own_at _ hgd s x _ ho B 73 i0 _ 3 32 Tryd.underlying62 hi hz0 hz1 hz2 rfl (by decide) v n xs hs (hown.alloc _) _ 1 1 [.int .i64 i, .string t, .int .i64 j] hx rfl (new_cells w [.int .i64 i, .string t, .int .i64 j] _) (by intro u hu; simp at hu; rcases hu with rfl | rfl | rfl <;> rfl) (by unfold maxLen; omega) (by omega) (by simp; omega) ?_
  intro v' w' h1 h2 h3 h4
  have hg : w.grownBy w' v.ownBlock := (World.grownBy_alloc w _ _).trans h2
  exact h v' w' h1 ((Below.refl B w).grown hg hB (own_ge hown)) hg
end
/-- A word or a mark as a token, by its first letter. -/
def tzk (c : List UInt8) : Tk := ⟨if wb (c.getD 0 0) = true then 1 else 4, c, 0⟩
def tzf (c : List UInt8) : List Tk := if c = [] then [] else [tzk c]
/-- What stands between blanks. -/
def tzF : List UInt8 → List UInt8 → List Tk
  | c, [] => tzf c
  | c, b :: r => if b = 32 then tzf c ++ tzF [] r else tzF (c ++ [b]) r
def tz (l : List UInt8) : List Tk := tzF [] l
theorem tzF_blank : ∀ (a c b : List UInt8), tzF c (a ++ 32 :: b) = tzF c a ++ tz b
  | [], c, b => by simp [tzF, tz]
  | x :: a, c, b => by
    simp only [List.cons_append, tzF]
    split
    · rw [tzF_blank a, List.append_assoc]
    · rw [tzF_blank a]
/-- Two texts with a blank between them. -/
theorem tz_blank (a b : List UInt8) : tz (a ++ 32 :: b) = tz a ++ tz b := tzF_blank a [] b
theorem tzF_word : ∀ (a c : List UInt8), (32 : UInt8) ∉ a → tzF c a = tzf (c ++ a)
  | [], c, _ => by simp [tzF]
  | x :: a, c, h => by
    simp only [List.mem_cons, not_or] at h
    simp only [tzF]
    rw [if_neg (fun e => h.1 e.symm), tzF_word a _ h.2]
    simp
theorem tz_word {a : List UInt8} (h : (32 : UInt8) ∉ a) (h0 : a ≠ []) : tz a = [tzk a] := by
  unfold tz
  rw [tzF_word a [] h]
  simp [tzf, h0]
theorem tzf_len (c : List UInt8) : (tzf c).length * 2 ≤ c.length + 1 := by
  unfold tzf
  split
  · simp
  · rename_i h
    have : 0 < c.length := List.length_pos_iff.2 h
    simp
    omega
theorem tzF_len : ∀ (l c : List UInt8), (tzF c l).length * 2 ≤ c.length + l.length + 1
  | [], c => by simp only [tzF, List.length_nil]; exact tzf_len c
  | b :: r, c => by
    simp only [tzF]
    split
    · have h1 := tzf_len c
      have h2 := tzF_len r []
      simp only [List.length_append, List.length_cons, List.length_nil] at h1 h2 ⊢
      omega
    · have h2 := tzF_len r (c ++ [b])
      simp only [List.length_append, List.length_cons, List.length_nil] at h2 ⊢
      omega
/-- Half as many tokens as letters, at most. -/
theorem tz_len (l : List UInt8) : (tz l).length * 2 ≤ l.length + 1 := by
  have := tzF_len l []
  simp only [List.length_nil] at this
  unfold tz
  omega
theorem tzF_cons {c r : List UInt8} {b : UInt8} (h : b ≠ 32) : tzF c (b :: r) = tzF (c ++ [b]) r := by simp [tzF, h]
theorem tzF_sp {c r : List UInt8} : tzF c (32 :: r) = tzf c ++ tzF [] r := by simp [tzF]
end Go.Proofs.YtcgomhcglnbalaaDoor
