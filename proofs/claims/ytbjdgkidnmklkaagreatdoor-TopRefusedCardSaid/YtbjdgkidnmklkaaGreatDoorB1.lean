/- Words on memory: slices of bytes. -/
import Derived.Test.YtbjdgkidnmklkaaGreatDoorBg
namespace Go.Proofs.YtbjdgkidnmklkaaGreatDoor
open Go.ChangeShapes Go.WideShapes Go.ChangeAt Go.RowKit
set_option linter.unusedVariables false
set_option linter.unusedSimpArgs false
set_option maxHeartbeats 400000

theorem Tryz.info5 : (Tryz.prog.info? 5).map (fun i => (i.zero, i.size, i.bytes)) = some (some (.int .u8 0), 1, 1) := by kernel_rfl
/-- A conversion of bytes to a text. -/
theorem str_of {w : World} {n : Nat} {v : Value} {l : List UInt8} (h : Rd w 1 n v (bc l)) : (convert 188 9 v).run Tryz.prog w = .ok (.string ⟨l.toArray⟩) w := by
  obtain ⟨h1, ao, cap, rfl, h3, h4, h5, h6⟩ := h
  have hn : n = l.length := by rw [bc_length] at h1; omega
  subst hn
  cases ao with
  | none =>
    have := (h5 rfl).1
    have hl : l = [] := List.eq_nil_of_length_eq_zero this
    subst hl
    exact run_convert_bytes_nil w _ _ Tryz.underlying188 Tryz.underlying5 _ _ _ Tryz.underlying9
  | some a =>
    refine run_convert_bytes_back w _ _ _ a cap l Tryz.underlying188 Tryz.underlying5 Tryz.underlying9 fun j hj => ?_
    refine h6 a rfl j _ ?_
    simp [bc, hj]
section
variable {ops : Array Oper} {rest : List Oper} {o : Oper} {a : Act} {Q : Exit → Act → World → Prop}
/-- 'append(b, x)', 'append(b, x, y)' of bytes that the call owns. -/
theorem apk (w : World) (m : Nat) (hgd : o.guard = none) (s x : Operand) (ho : o.op = .call { callee := .builtin .append, args := #[s, x], argTypes := #[188, 188] })
    {B n : Nat} {v : Value} {xs : List Value} (hown : w.ownsRow B 5 1 v n xs) (hB : B ≤ w.heap.size) (hn : n + m ≤ 1000000000) (news : List Value) (hl : news.length = m) (hX : ∀ u ∈ news, u.oneCell' = true)
    (H : Nat) (hH : w.heap.size = H) (hs : a.eval s = v) (hx : a.eval x = .slice (some ⟨H, 0, none⟩) m m)
    (h : ∀ v' w', w'.ownsRow B 5 1 v' (n + m) (xs ++ news) → Below B w w' → w.grownBy w' v.ownBlock → wpList Tryz.prog ops Q rest (a.put o.dst v') w') : wpList Tryz.prog ops Q (o :: rest) a (w.alloc (.cells news.toArray 5)) := by
  subst hH
  obtain ⟨i0, hi, hz0, hz1, hz2⟩ := info_parts Tryz.info5
  refine wpList_append_own_at _ hgd s x _ ho B 5 i0 (.int .u8 0) 1 1 Tryz.underlying188 hi hz0 hz1 hz2 rfl (by decide) v n xs hs (hown.alloc _) _ m m news hx (by omega) (new_cells w news _) hX (by unfold maxLen; omega) (by omega) (by simp; omega) ?_
  intro v' w' h1 h2 h3 h4
  have hg : w.grownBy w' v.ownBlock := (World.grownBy_alloc w _ _).trans h2
  exact h v' w' h1 ((Below.refl B w).grown hg hB (own_ge hown)) hg
theorem ap1 (w : World) (hgd : o.guard = none) (s x : Operand) (ho : o.op = .call { callee := .builtin .append, args := #[s, x], argTypes := #[188, 188] })
    {B n : Nat} {v : Value} {xs : List Value} (hown : w.ownsRow B 5 1 v n xs) (hB : B ≤ w.heap.size) (hn : n ≤ 999999999) {X : Value} (hX : X.oneCell' = true)
    (H : Nat) (hH : w.heap.size = H) (hs : a.eval s = v) (hx : a.eval x = .slice (some ⟨H, 0, none⟩) 1 1)
    (h : ∀ v' w', w'.ownsRow B 5 1 v' (n + 1) (xs ++ [X]) → Below B w w' → w.grownBy w' v.ownBlock → wpList Tryz.prog ops Q rest (a.put o.dst v') w') : wpList Tryz.prog ops Q (o :: rest) a (w.alloc (.cells #[X] 5)) :=
  apk w 1 hgd s x ho hown hB (by omega) [X] rfl (one_one hX) H hH hs hx h
theorem ap2 (w : World) (hgd : o.guard = none) (s x : Operand) (ho : o.op = .call { callee := .builtin .append, args := #[s, x], argTypes := #[188, 188] })
    {B n : Nat} {v : Value} {xs : List Value} (hown : w.ownsRow B 5 1 v n xs) (hB : B ≤ w.heap.size) (hn : n ≤ 999999998)
    (H : Nat) (hH : w.heap.size = H) (hs : a.eval s = v) (hx : a.eval x = .slice (some ⟨H, 0, none⟩) 2 2)
    (h : ∀ v' w', w'.ownsRow B 5 1 v' (n + 2) (xs ++ bc [0, 0]) → Below B w w' → w.grownBy w' v.ownBlock → wpList Tryz.prog ops Q rest (a.put o.dst v') w') :
    wpList Tryz.prog ops Q (o :: rest) a (w.alloc (.cells #[.int .u8 0, .int .u8 0] 5)) :=
  apk w 2 hgd s x ho hown hB (by omega) (bc [0, 0]) rfl (bc_one _) H hH hs hx h
/-- 'append(b, l...)' of bytes, l not empty. -/
theorem apl (w : World) (m : Nat) (hgd : o.guard = none) (s x : Operand) (ho : o.op = .call { callee := .builtin .append, args := #[s, x], argTypes := #[188, 188] })
    {B n : Nat} {v u : Value} {xs news : List Value} (hown : w.ownsRow B 5 1 v n xs) (hB : B ≤ w.heap.size) (hnm : (n + m) ≤ 140737488355328) (hm : 0 < m) (hX : ∀ u ∈ news, u.oneCell' = true) (hr : Rd w 1 m u news)
    (hs : a.eval s = v) (hx : a.eval x = u)
    (h : ∀ v' w', w'.ownsRow B 5 1 v' (n + m) (xs ++ news) → Below B w w' → w.grownBy w' v.ownBlock → wpList Tryz.prog ops Q rest (a.put o.dst v') w') : wpList Tryz.prog ops Q (o :: rest) a w := by
  obtain ⟨i0, hi, hz0, hz1, hz2⟩ := info_parts Tryz.info5
  have hl := hr.1
  obtain ⟨b, of, cap, rfl, _, _, _, hc⟩ := hr.pos hm (by omega)
  refine wpList_append_own_at w hgd s x _ ho B 5 i0 (.int .u8 0) 1 1 Tryz.underlying188 hi hz0 hz1 hz2 rfl (by decide) v n xs hs hown ⟨b, of, none⟩ m cap news hx (by omega) (fun j u hu => by rw [Addr.add_lit]; exact hc j u hu) hX (by unfold maxLen; omega) (by omega) hB ?_
  intro v' w' h1 h2 h3 h4
  exact h v' w' h1 ((Below.refl B w).grown h2 hB (own_ge hown)) h2
end
end Go.Proofs.YtbjdgkidnmklkaaGreatDoor
