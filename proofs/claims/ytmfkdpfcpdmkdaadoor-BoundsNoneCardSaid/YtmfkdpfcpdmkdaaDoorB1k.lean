import Derived.Test.YtmfkdpfcpdmkdaaDoorB0k
import Derived.Test.YtmfkdpfcpdmkdaaDoorSak
import Derived.Lib.CountLaws
/- Words on memory: slices of bytes. -/
namespace Go.Proofs.YtmfkdpfcpdmkdaaDoor
open Go.ChangeShapes Go.WideShapes Go.ChangeAt Go.RowKit
set_option linter.unusedVariables false
set_option linter.unusedSimpArgs false
set_option maxHeartbeats 400000

theorem Tryd.info5 : (Tryd.prog.info? 5).map (fun i => (i.zero, i.size, i.bytes)) = some (some (.int .u8 0), 1, 1) := by kernel_rfl
/-- A conversion of bytes to a text. -/
theorem str_of {w : World} {n : Nat} {v : Value} {l : List UInt8} (h : Rd w 1 n v (bc l)) : (convert 29 9 v).run Tryd.prog w = .ok (.string ⟨l.toArray⟩) w := by
  obtain ⟨h1, ao, cap, rfl, h3, h4, h5, h6⟩ := h
  have hn : n = l.length := by rw [bc_length] at h1; omega
  subst hn
  cases ao with
  | none =>
    have := (h5 rfl).1
    have hl : l = [] := List.eq_nil_of_length_eq_zero this
    subst hl
    exact run_convert_bytes_nil w _ _ Tryd.underlying29 Tryd.underlying5 _ _ _ Tryd.underlying9
  | some a =>
    refine run_convert_bytes_back w _ _ _ a cap l Tryd.underlying29 Tryd.underlying5 Tryd.underlying9 fun j hj => ?_
    refine h6 a rfl j _ ?_
    simp [bc, hj]
section
variable {ops : Array Oper} {rest : List Oper} {o : Oper} {a : Act} {Q : Exit → Act → World → Prop}
/-- 'append(b, x)', 'append(b, x, y)' of bytes that the call owns. -/
theorem apk (w : World) (m : Nat) (hgd : o.guard = none) (s x : Operand) (ho : o.op = .call { callee := .builtin .append, args := #[s, x], argTypes := #[29, 29] })
    {B n : Nat} {v : Value} {xs : List Value} (hown : w.ownsRow B 5 1 v n xs) (hB : B ≤ w.heap.size) (hn : n + m ≤ 1000000000) (news : List Value) (hl : news.length = m) (hX : ∀ u ∈ news, u.oneCell' = true)
    (H : Nat) (hH : w.heap.size = H) (hs : a.eval s = v) (hx : a.eval x = .slice (some ⟨H, 0, none⟩) m m)
    (h : ∀ v' w', w'.ownsRow B 5 1 v' (n + m) (xs ++ news) → Below B w w' → w.grownBy w' v.ownBlock → wpList Tryd.prog ops Q rest (a.put o.dst v') w') : wpList Tryd.prog ops Q (o :: rest) a (w.alloc (.cells news.toArray 5)) := by
  subst hH
  obtain ⟨i0, hi, hz0, hz1, hz2⟩ := info_parts Tryd.info5
  refine wpList_append_own_at _ hgd s x _ ho B 5 i0 (.int .u8 0) 1 1 Tryd.underlying29 hi hz0 hz1 hz2 rfl (by decide) v n xs hs (hown.alloc _) _ m m news hx (by omega) (new_cells w news _) hX (by unfold maxLen; omega) (by omega) (by simp; omega) ?_
  intro v' w' h1 h2 h3 h4
  have hg : w.grownBy w' v.ownBlock := (World.grownBy_alloc w _ _).trans h2
  exact h v' w' h1 ((Below.refl B w).grown hg hB (own_ge hown)) hg
theorem ap1 (w : World) (hgd : o.guard = none) (s x : Operand) (ho : o.op = .call { callee := .builtin .append, args := #[s, x], argTypes := #[29, 29] })
    {B n : Nat} {v : Value} {xs : List Value} (hown : w.ownsRow B 5 1 v n xs) (hB : B ≤ w.heap.size) (hn : n ≤ 999999999) {X : Value} (hX : X.oneCell' = true)
    (H : Nat) (hH : w.heap.size = H) (hs : a.eval s = v) (hx : a.eval x = .slice (some ⟨H, 0, none⟩) 1 1)
    (h : ∀ v' w', w'.ownsRow B 5 1 v' (n + 1) (xs ++ [X]) → Below B w w' → w.grownBy w' v.ownBlock → wpList Tryd.prog ops Q rest (a.put o.dst v') w') : wpList Tryd.prog ops Q (o :: rest) a (w.alloc (.cells #[X] 5)) :=
  apk w 1 hgd s x ho hown hB (by omega) [X] rfl (one_one hX) H hH hs hx h
theorem ap2 (w : World) (hgd : o.guard = none) (s x : Operand) (ho : o.op = .call { callee := .builtin .append, args := #[s, x], argTypes := #[29, 29] })
    {B n : Nat} {v : Value} {xs : List Value} (hown : w.ownsRow B 5 1 v n xs) (hB : B ≤ w.heap.size) (hn : n ≤ 999999998)
    (H : Nat) (hH : w.heap.size = H) (hs : a.eval s = v) (hx : a.eval x = .slice (some ⟨H, 0, none⟩) 2 2)
    (h : ∀ v' w', w'.ownsRow B 5 1 v' (n + 2) (xs ++ bc [0, 0]) → Below B w w' → w.grownBy w' v.ownBlock → wpList Tryd.prog ops Q rest (a.put o.dst v') w') :
    wpList Tryd.prog ops Q (o :: rest) a (w.alloc (.cells #[.int .u8 0, .int .u8 0] 5)) :=
  apk w 2 hgd s x ho hown hB (by omega) (bc [0, 0]) rfl (bc_one _) H hH hs hx h
/-- 'append(b, l...)' of bytes, l not empty. -/
theorem apl (w : World) (m : Nat) (hgd : o.guard = none) (s x : Operand) (ho : o.op = .call { callee := .builtin .append, args := #[s, x], argTypes := #[29, 29] })
    {B n : Nat} {v u : Value} {xs news : List Value} (hown : w.ownsRow B 5 1 v n xs) (hB : B ≤ w.heap.size) (hnm : (n + m) ≤ 140737488355328) (hm : 0 < m) (hX : ∀ u ∈ news, u.oneCell' = true) (hr : Rd w 1 m u news)
    (hs : a.eval s = v) (hx : a.eval x = u)
    (h : ∀ v' w', w'.ownsRow B 5 1 v' (n + m) (xs ++ news) → Below B w w' → w.grownBy w' v.ownBlock → wpList Tryd.prog ops Q rest (a.put o.dst v') w') : wpList Tryd.prog ops Q (o :: rest) a w := by
  obtain ⟨i0, hi, hz0, hz1, hz2⟩ := info_parts Tryd.info5
  have hl := hr.1
  obtain ⟨b, of, cap, rfl, _, _, _, hc⟩ := hr.pos hm (by omega)
  refine wpList_append_own_at w hgd s x _ ho B 5 i0 (.int .u8 0) 1 1 Tryd.underlying29 hi hz0 hz1 hz2 rfl (by decide) v n xs hs hown ⟨b, of, none⟩ m cap news hx (by omega) (fun j u hu => by rw [Addr.add_lit]; exact hc j u hu) hX (by unfold maxLen; omega) (by omega) hB ?_
  intro v' w' h1 h2 h3 h4
  exact h v' w' h1 ((Below.refl B w).grown h2 hB (own_ge hown)) h2
end
end Go.Proofs.YtmfkdpfcpdmkdaaDoor
/- Tokens, plainly: quotes, numbers, a token, all tokens of a statement. -/
namespace Go.Proofs.YtmfkdpfcpdmkdaaDoor
set_option linter.unusedVariables false
set_option linter.unusedSimpArgs false
open Go.Lib (index count replaceK replaceAll replace replaceNum)
theorem ra_is (s old new : List UInt8) (h : (old == new) = false) : replaceAll s old new = replaceK old new (count s old) s := by
  simp [replaceAll, replace, replaceNum, h]
theorem ra_nil (old new : List UInt8) (h0 : old ≠ []) (h : (old == new) = false) : replaceAll [] old new = [] := by
  rw [ra_is _ _ _ h]
  have : index [] old = -1 := by
    cases old with
    | nil => exact absurd rfl h0
    | cons c t => rfl
  rw [Lib.count_miss this]
  rfl
theorem ra_hit (old new r : List UInt8) (h0 : old ≠ []) (h : (old == new) = false) : replaceAll (old ++ r) old new = new ++ replaceAll r old new := by
  rw [ra_is _ _ _ h, ra_is _ _ _ h]
  have hi : index (old ++ r) old = (0 : Nat) := by
    cases old with
    | nil => exact absurd rfl h0
    | cons c t =>
      have : (c :: t).isPrefixOf (c :: (t ++ r)) = true := by rw [List.isPrefixOf_iff_prefix]; exact ⟨r, rfl⟩
      simp only [List.cons_append, index, this, if_true]
      rfl
  have hc := Lib.count_hit h0 hi
  rw [Nat.zero_add, List.drop_left] at hc
  rw [hc, Nat.add_comm, Lib.replaceK_hit _ _ _ _ 0 hi]
  simp
theorem ra_miss (old new l : List UInt8) (a : UInt8) (h0 : old ≠ []) (h : (old == new) = false) (hp : old.isPrefixOf (a :: l) = false) : replaceAll (a :: l) old new = a :: replaceAll l old new := by
  rw [ra_is _ _ _ h, ra_is _ _ _ h]
  have hi : index (a :: l) old = if index l old == -1 then -1 else index l old + 1 := by simp only [index, hp, Bool.false_eq_true, if_false]
  by_cases hm : index l old = -1
  · rw [hm] at hi
    have hi' : index (a :: l) old = -1 := by simpa using hi
    rw [Lib.count_miss hi', Lib.count_miss hm]
    rfl
  · have hg := Lib.index_ge l old
    obtain ⟨i, hii⟩ : ∃ i : Nat, index l old = i := ⟨(index l old).toNat, by omega⟩
    have hi' : index (a :: l) old = ((i + 1 : Nat) : Int) := by
      rw [hi, if_neg (by simpa using hm), hii]
      rfl
    have hc := Lib.count_hit h0 hi'
    have hc' := Lib.count_hit h0 hii
    have e : (a :: l).drop (i + 1 + old.length) = l.drop (i + old.length) := by
      rw [show i + 1 + old.length = (i + old.length) + 1 by omega, List.drop_succ_cons]
    rw [e] at hc
    rw [hc, hc', Nat.add_comm 1, Lib.replaceK_hit _ _ _ _ _ hi', Lib.replaceK_hit _ _ _ _ _ hii, e]
    simp
/-- What stands behind a quote: its text, and how many bytes there are with the closing one. -/
def strR : List UInt8 → Option (List UInt8 × Nat)
  | [] => none
  | [c] => if c = 39 then some ([], 1) else none
  | c :: d :: r => if c = 39 then (if d = 39 then (strR r).map fun x => (39 :: x.1, x.2 + 2) else some ([], 1)) else (strR (d :: r)).map fun x => (c :: x.1, x.2 + 1)
/-- The program's way: each quote opens or closes. -/
def sq : Bool → List UInt8 → Nat × Bool
  | o, [] => (0, o)
  | o, c :: r => if c = 39 then ((sq (!o) r).1 + 1, (sq (!o) r).2) else if o then ((sq o r).1 + 1, (sq o r).2) else (0, o)
def q1 : List UInt8 := [39]
def q2 : List UInt8 := [39, 39]
theorem q21 : (q2 == q1) = false := by decide
theorem q12 : (q1 == q2) = false := by decide
theorem strR_some : ∀ (r : List UInt8) (t : List UInt8) (n : Nat), strR r = some (t, n) → sq true r = (n, false) ∧ 1 ≤ n ∧ n ≤ r.length ∧ replaceAll (r.take (n - 1)) q2 q1 = t
  | [], t, n, h => by simp [strR] at h
  | [c], t, n, h => by
    rw [strR] at h
    split at h
    · rename_i hc
      subst hc
      simp only [Option.some.injEq, Prod.mk.injEq] at h
      obtain ⟨rfl, rfl⟩ := h
      exact ⟨rfl, by omega, by simp, ra_nil _ _ (by simp [q2]) q21⟩
    · simp at h
  | c :: d :: r, t, n, h => by
    rw [strR] at h
    split at h
    · rename_i hc
      subst hc
      split at h
      · rename_i hd
        subst hd
        obtain ⟨⟨t', n'⟩, hx, he⟩ := Option.map_eq_some_iff.1 h
        simp only [Prod.mk.injEq] at he
        obtain ⟨rfl, rfl⟩ := he
        obtain ⟨h1, h2, h3, h4⟩ := strR_some r t' n' hx
        refine ⟨?_, by omega, by simp; omega, ?_⟩
        · simp [sq, h1]
        · have e : (39 :: 39 :: r).take (n' + 2 - 1) = q2 ++ r.take (n' - 1) := by
            rw [show n' + 2 - 1 = (n' - 1) + 1 + 1 by omega]
            rfl
          rw [e, ra_hit _ _ _ (by simp [q2]) q21, h4]
          rfl
      · rename_i hd
        simp only [Option.some.injEq, Prod.mk.injEq] at h
        obtain ⟨rfl, rfl⟩ := h
        refine ⟨by simp [sq, hd], by omega, by simp, ra_nil _ _ (by simp [q2]) q21⟩
    · rename_i hc
      obtain ⟨⟨t', n'⟩, hx, he⟩ := Option.map_eq_some_iff.1 h
      simp only [Prod.mk.injEq] at he
      obtain ⟨rfl, rfl⟩ := he
      obtain ⟨h1, h2, h3, h4⟩ := strR_some (d :: r) t' n' hx
      refine ⟨?_, by omega, by simp at h3 ⊢; omega, ?_⟩
      · rw [sq, if_neg hc, if_pos rfl, h1]
      · have e : (c :: d :: r).take (n' + 1 - 1) = c :: (d :: r).take (n' - 1) := by
          rw [show n' + 1 - 1 = (n' - 1) + 1 by omega]
          rfl
        have hp : q2.isPrefixOf (c :: (d :: r).take (n' - 1)) = false := by
          have hc' : ((39 : UInt8) == c) = false := by simpa using fun e => hc e.symm
          simp [q2, List.isPrefixOf, hc']
        rw [e, ra_miss _ _ _ _ (by simp [q2]) q21 hp, h4]
theorem strR_none : ∀ (r : List UInt8), strR r = none → (sq true r).2 = true
  | [], h => rfl
  | [c], h => by
    rw [strR] at h
    split at h
    · cases h
    · rename_i hc
      simp [sq, hc]
  | c :: d :: r, h => by
    rw [strR] at h
    split at h
    · rename_i hc
      subst hc
      split at h
      · rename_i hd
        subst hd
        have := strR_none r (by simpa using h)
        simpa [sq] using this
      · cases h
    · rename_i hc
      have := strR_none (d :: r) (by simpa using h)
      rw [sq, if_neg hc, if_pos rfl]
      exact this
theorem sq_le : ∀ (o : Bool) (r : List UInt8), (sq o r).1 ≤ r.length
  | o, [] => by simp [sq]
  | o, c :: r => by
    rw [sq]
    split
    · have := sq_le (!o) r; simp; omega
    · split
      · have := sq_le o r; simp; omega
      · simp
/-- Where the program's way has come to, behind k bytes. -/
theorem sq_step : ∀ (o : Bool) (l : List UInt8), sq o l = match l with
    | [] => (0, o)
    | c :: r => if c = 39 ∨ o = true then ((sq (if c = 39 then !o else o) r).1 + 1, (sq (if c = 39 then !o else o) r).2) else (0, o)
  | o, [] => rfl
  | o, c :: r => by
    rw [sq]
    by_cases hc : c = 39
    · simp [hc]
    · cases o <;> simp [hc]
/-- A number of digits. -/
def numF (a : Nat) (l : List UInt8) : Nat := l.foldl (fun a c => a * 10 + (c.toNat - 48)) a
def numOf (l : List UInt8) : Nat := numF 0 l
theorem numF_nil (a : Nat) : numF a [] = a := by unfold numF; rw [List.foldl_nil]
theorem numF_cons (a : Nat) (c : UInt8) (r : List UInt8) : numF a (c :: r) = numF (a * 10 + (c.toNat - 48)) r := by unfold numF; rw [List.foldl_cons]
attribute [irreducible] numF
theorem numF_app (a : Nat) (l m : List UInt8) : numF a (l ++ m) = numF (numF a l) m := by
  induction l generalizing a with
  | nil => rw [numF_nil, List.nil_append]
  | cons c r ih => rw [List.cons_append, numF_cons, numF_cons, ih]
theorem numF_ge (l : List UInt8) (a : Nat) : a ≤ numF a l := by
  induction l generalizing a with
  | nil => rw [numF_nil]; exact Nat.le_refl _
  | cons c r ih =>
    have := ih (a * 10 + (c.toNat - 48))
    rw [numF_cons]
    omega
theorem parse_digits (l : List UInt8) (a : Nat) (hl : l.all dg = true) (ha : a < 18446744073709551616) : Lib.parseUint10 a l = if numF a l < 18446744073709551616 then .ok (numF a l) else .range := by
  induction l generalizing a with
  | nil => rw [numF_nil, if_pos ha, Lib.parseUint10]
  | cons c r ih =>
    simp only [List.all_cons, Bool.and_eq_true] at hl
    obtain ⟨hc, hr⟩ := hl
    have hc' : 48 ≤ c.toNat ∧ c.toNat ≤ 57 := by simpa [dg] using hc
    rw [Lib.parseUint10, if_pos hc', numF_cons]
    have ih' := ih (a * 10 + (c.toNat - 48)) hr
    obtain ⟨b, hb⟩ : ∃ b, b = a * 10 + (c.toNat - 48) := ⟨_, rfl⟩
    rw [← hb] at ih' ⊢
    have hg := numF_ge r b
    clear ih
    by_cases h1 : 1844674407370955162 ≤ a
    · rw [if_pos h1, if_neg (by omega)]
    · rw [if_neg h1]
      by_cases h2 : 18446744073709551616 ≤ b
      · rw [if_pos h2, if_neg (by omega)]
      · rw [if_neg h2]
        exact ih' (by omega)
theorem atoi_digits (l : List UInt8) (h0 : l ≠ []) (hl : l.all dg = true) : Lib.atoiAll l = if numOf l < 9223372036854775808 then .ok (numOf l : Int) else .range := by
  cases l with
  | nil => exact absurd rfl h0
  | cons c r =>
    have hc : dg c = true := by simp only [List.all_cons, Bool.and_eq_true] at hl; exact hl.1
    have hc' : 48 ≤ c.toNat ∧ c.toNat ≤ 57 := by simpa [dg] using hc
    have n1 : ¬ (c.toNat = 43 ∨ c.toNat = 45) := by omega
    have n2 : ¬ c.toNat = 45 := by omega
    unfold Lib.atoiAll numOf
    have hm : Lib.parseMag (if c.toNat = 43 ∨ c.toNat = 45 then r else c :: r) = if numF 0 (c :: r) < 18446744073709551616 then .ok (numF 0 (c :: r)) else .range := by
      rw [if_neg n1, Lib.parseMag, if_neg (by simp)]
      exact parse_digits _ 0 hl (by omega)
    simp only [hm]
    simp only [n2, not_false_eq_true, true_and, false_and, if_false]
    generalize numF 0 (c :: r) = u
    by_cases h1 : u < 18446744073709551616
    · simp only [h1, if_true]
      by_cases h2 : u < 9223372036854775808
      · rw [if_pos h2, if_neg (by omega)]
      · rw [if_neg h2, if_pos (by omega)]
    · simp only [h1, if_false]
      rw [if_neg (by omega)]
/-- A token; what stands at a statement's beginning. -/
structure Tk where
  k : Int
  t : List UInt8
  n : Int
deriving DecidableEq
inductive Hd where
  | tok (x : Tk) (len : Nat)
  | bad (e : Int)
deriving DecidableEq
def numT (l : List UInt8) : Hd :=
  if spn dg l < l.length ∧ iw (l.getD (spn dg l) 0) = true then .bad 6 else if numOf (l.take (spn dg l)) < 9223372036854775808 then .tok ⟨2, [], numOf (l.take (spn dg l))⟩ (spn dg l) else .bad 5
def strT : List UInt8 → Hd
  | [] => .bad 7
  | _ :: r => match strR r with
    | none => .bad 7
    | some x => .tok ⟨3, x.1, 0⟩ (x.2 + 1)
def tokT (l : List UInt8) : Hd :=
  if dg (l.getD 0 0) then numT l
  else if iw (l.getD 0 0) then .tok ⟨1, l.take (spn iw l), 0⟩ (spn iw l)
  else if l.getD 0 0 = 39 then strT l
  else if mkOf l = 0 then .bad 6 else .tok ⟨4, l.take (mkOf l), 0⟩ (mkOf l)
theorem spn_pos {p : UInt8 → Bool} {l : List UInt8} (hl : 0 < l.length) (h : p (l.getD 0 0) = true) : 0 < spn p l := by
  rcases Nat.eq_zero_or_pos (spn p l) with h0 | h0
  · have := spn_out p l (by omega)
    rw [h0, h] at this
    cases this
  · exact h0
theorem tokT_len {l : List UInt8} {x : Tk} {n : Nat} (hl : 0 < l.length) (h : tokT l = .tok x n) : 0 < n ∧ n ≤ l.length := by
  unfold tokT at h
  split at h
  · rename_i hd
    unfold numT at h
    split at h
    · cases h
    · split at h
      · simp only [Hd.tok.injEq] at h
        obtain ⟨_, rfl⟩ := h
        exact ⟨spn_pos hl hd, spn_le _ _⟩
      · cases h
  · split at h
    · rename_i hi
      simp only [Hd.tok.injEq] at h
      obtain ⟨_, rfl⟩ := h
      exact ⟨spn_pos hl hi, spn_le _ _⟩
    · split at h
      · match l, hl with
        | c :: r, _ =>
          simp only [strT] at h
          split at h
          · cases h
          · rename_i x' hx
            simp only [Hd.tok.injEq] at h
            obtain ⟨_, rfl⟩ := h
            obtain ⟨t', n'⟩ := x'
            have := (strR_some r t' n' hx).2.2.1
            simp
            omega
      · split at h
        · cases h
        · simp only [Hd.tok.injEq] at h
          obtain ⟨_, rfl⟩ := h
          have := mkOf_le l
          exact ⟨by omega, this⟩
/-- All tokens from a place on; which are there already. -/
structure Cuts where
  l : List Tk
  at_ : Nat
  e : Int
deriving DecidableEq
def cutT : Nat → List UInt8 → Nat → List Tk → Cuts
  | 0, _, _, acc => ⟨acc, 0, 0⟩
  | f + 1, l, i, acc =>
    if l.length ≤ i then ⟨acc, 0, 0⟩
    else if bk (l.getD i 0) then cutT f l (i + 1) acc
    else if acc.length = 100 then ⟨[], i, 10⟩
    else match tokT (l.drop i) with
      | .bad e => ⟨[], i, e⟩
      | .tok x n => cutT f l (i + n) (acc ++ [x])
theorem cutT_fuel : ∀ (f g : Nat) (l : List UInt8) (i : Nat) (acc : List Tk), l.length < i + f → l.length < i + g → cutT f l i acc = cutT g l i acc
  | 0, g, l, i, acc, hf, hg => by
    cases g with
    | zero => rfl
    | succ g => rw [cutT, cutT, if_pos (by omega)]
  | f + 1, 0, l, i, acc, hf, hg => by rw [cutT, cutT, if_pos (by omega)]
  | f + 1, g + 1, l, i, acc, hf, hg => by
    rw [cutT, cutT]
    split
    · rfl
    · rename_i hi
      split
      · exact cutT_fuel f g l _ _ (by omega) (by omega)
      · split
        · rfl
        · split
          · rfl
          · rename_i x n hx
            have := (tokT_len (by simp; omega) hx).1
            exact cutT_fuel f g l _ _ (by omega) (by omega)
def cutW (l : List UInt8) (i : Nat) (acc : List Tk) : Cuts := cutT (l.length + 1) l i acc
theorem cutW_end {l : List UInt8} {i : Nat} {acc : List Tk} (h : l.length ≤ i) : cutW l i acc = ⟨acc, 0, 0⟩ := by
  unfold cutW
  rw [cutT, if_pos h]
theorem cutW_blank {l : List UInt8} {i : Nat} {acc : List Tk} (h : i < l.length) (hb : bk (l.getD i 0) = true) : cutW l i acc = cutW l (i + 1) acc := by
  unfold cutW
  rw [cutT, if_neg (by omega), if_pos hb]
  exact cutT_fuel _ _ _ _ _ (by omega) (by omega)
theorem cutW_full {l : List UInt8} {i : Nat} {acc : List Tk} (h : i < l.length) (hb : bk (l.getD i 0) = false) (ha : acc.length = 100) : cutW l i acc = ⟨[], i, 10⟩ := by
  unfold cutW
  rw [cutT, if_neg (by omega), if_neg (by rw [hb]; simp), if_pos ha]
theorem cutW_bad {l : List UInt8} {i : Nat} {acc : List Tk} {e : Int} (h : i < l.length) (hb : bk (l.getD i 0) = false) (ha : ¬ acc.length = 100) (ht : tokT (l.drop i) = .bad e) : cutW l i acc = ⟨[], i, e⟩ := by
  unfold cutW
  rw [cutT, if_neg (by omega), if_neg (by rw [hb]; simp), if_neg ha, ht]
theorem cutW_tok {l : List UInt8} {i : Nat} {acc : List Tk} {x : Tk} {n : Nat} (h : i < l.length) (hb : bk (l.getD i 0) = false) (ha : ¬ acc.length = 100) (ht : tokT (l.drop i) = .tok x n) : cutW l i acc = cutW l (i + n) (acc ++ [x]) := by
  unfold cutW
  rw [cutT, if_neg (by omega), if_neg (by rw [hb]; simp), if_neg ha, ht]
  have := (tokT_len (by simp; omega) ht).1
  exact cutT_fuel _ _ _ _ _ (by omega) (by omega)
theorem cutW_skip (l : List UInt8) : ∀ (n i : Nat) (acc : List Tk), n ≤ spn bk (l.drop i) → cutW l i acc = cutW l (i + n) acc
  | 0, i, acc, _ => rfl
  | n + 1, i, acc, h => by
    have h1 := cutW_skip l n i acc (by omega)
    have hs := spn_le bk (l.drop i)
    rw [List.length_drop] at hs
    have h2 := spn_in bk (l.drop i) n (by omega)
    have e : (l.drop i).getD n 0 = l.getD (i + n) 0 := by simp [List.getD, List.getElem?_drop]
    rw [e] at h2
    rw [h1, cutW_blank (by omega) h2]
    rfl
/-- A statement's tokens. -/
def cutL (l : List UInt8) : Cuts := if 400 < l.length then ⟨[], 0, 1⟩ else cutW l 0 []
end Go.Proofs.YtmfkdpfcpdmkdaaDoor
