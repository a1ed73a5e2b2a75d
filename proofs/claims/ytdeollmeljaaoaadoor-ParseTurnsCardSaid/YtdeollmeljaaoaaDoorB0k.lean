import Derived.Test.YtdeollmeljaaoaaDoorRows
import Derived.Test.YtdeollmeljaaoaaDoorSak
import Derived.WalkKit
import Derived.ProofKit
import Derived.OpenShut
import Derived.Outline
import Derived.WalkSpells
import Derived.WalkLawsBesides
import Derived.Deep.QuietTactic
import Derived.BigQuiet
import Derived.BigGuardPart
import Derived.Lib.Hide
import Derived.Handy
import Derived.Maps.AppendAt
import Derived.Laws.IdiomStrings
import Derived.Deep.AppendLies
import Derived.Deep.Slices
import Derived.Deep.Fields
import Derived.Lib.CountLaws
/- What every walk of a seat wants. -/
namespace Go.Proofs.YtdeollmeljaaoaaDoor
open Go.ChangeShapes Go.WideShapes Go.ChangeAt Go.RowKit
set_option linter.unusedVariables false
set_option linter.unusedSimpArgs false
set_option maxHeartbeats 400000

/-- What lay below before a call reads as it did behind it. -/
theorem kept {w w1 : World} (hb : Below w.heap.size w w1) :
    (∀ b o, b < w.heap.size → w1.cell? ⟨b, o, none⟩ = w.cell? ⟨b, o, none⟩) ∧ (∀ b o, b < w.heap.size → w1.frozen? ⟨b, o, none⟩ = w.frozen? ⟨b, o, none⟩) :=
  ⟨fun b o h => hb.cell (p := ⟨b, o, none⟩) h, fun b o h => hb.frozen (p := ⟨b, o, none⟩) h⟩

theorem into {W w0 w1 : World} (h : Below W.heap.size W w0) (hb : Below w0.heap.size w0 w1) : Below W.heap.size W w1 := h.trans (hb.mono h.size)
theorem ri {a b : Int} (h : a = b) : Ending.returned (.int .i64 a) = .returned (.int .i64 b) := by rw [h]
theorem rb {a b : Bool} (h : a = b) : Ending.returned (.bool a) = .returned (.bool b) := by rw [h]

theorem new0 (w : World) (o : Obj) : (w.alloc o).heap[w.heap.size]? = some o := by
  show (w.heap.push o)[w.heap.size]? = _
  simp
theorem new1 (w : World) (o p : Obj) : ((w.alloc o).alloc p).heap[w.heap.size + 1]? = some p := by
  have h := new0 (w.alloc o) p
  simpa only [World.size_alloc] using h
theorem new2 (w : World) (o p q : Obj) : (((w.alloc o).alloc p).alloc q).heap[w.heap.size + 2]? = some q := by
  have h := new0 ((w.alloc o).alloc p) q
  simpa only [World.size_alloc] using h
/-- Block b is a value of three cells that may be written. -/
theorem has3 {w0 w1 : World} {B : Nat} {t : TypeId} {x y z : Value} (h : w0.heap[B]? = some (.cells #[x, y, z] t (0, 0))) (hb : Below w0.heap.size w0 w1) :
    w1.cell? ⟨B, 0, none⟩ = some x ∧ w1.cell? ⟨B, 1, none⟩ = some y ∧ w1.cell? ⟨B, 2, none⟩ = some z ∧
    w1.frozen? ⟨B, 0, none⟩ = false ∧ w1.frozen? ⟨B, 1, none⟩ = false ∧ w1.frozen? ⟨B, 2, none⟩ = false := by
  have hB : B < w0.heap.size := by
    rcases Nat.lt_or_ge B w0.heap.size with g | g
    · exact g
    · rw [Array.getElem?_eq_none g] at h; cases h
  have h1 : w1.heap[B]? = some (.cells #[x, y, z] t (0, 0)) := (hb.block B hB).trans h
  refine ⟨?_, ?_, ?_, ?_, ?_, ?_⟩ <;> simp [World.cell?, World.frozen?, h1]

end Go.Proofs.YtdeollmeljaaoaaDoor
/- Words on memory: what a slice reads as; what the call owns: of whatever type. -/
namespace Go.Proofs.YtdeollmeljaaoaaDoor
open Go.ChangeShapes Go.WideShapes Go.ChangeAt Go.RowKit
set_option linter.unusedVariables false
set_option linter.unusedSimpArgs false
set_option maxHeartbeats 400000

/-- The cells of bytes, and of values. -/
def bc (l : List UInt8) : List Value := l.map fun b => .int .u8 (b.toNat : Int)
theorem bc_app (l m : List UInt8) : bc (l ++ m) = bc l ++ bc m := by simp [bc]
theorem bc_length (l : List UInt8) : (bc l).length = l.length := by simp [bc]
theorem bc_at {l : List UInt8} {k : Nat} (h : k < l.length) : (bc l)[k]? = some (.int .u8 ((l.getD k 0).toNat : Int)) := by
  simp [bc, List.getD, h]
theorem bc_one (l : List UInt8) : ∀ u ∈ bc l, u.oneCell' = true := by
  intro u hu
  obtain ⟨b, _, rfl⟩ := List.mem_map.1 hu
  rfl
theorem one_one {x : Value} (h : x.oneCell' = true) : ∀ u ∈ [x], u.oneCell' = true := by
  intro u hu
  simp at hu
  subst hu
  exact h

/-- The slice v of n elements of s cells each reads as xs. -/
def Rd (w : World) (s n : Nat) (v : Value) (xs : List Value) : Prop :=
  xs.length = n * s ∧ ∃ ao cap, v = .slice ao n cap ∧ n ≤ cap ∧ cap ≤ maxLen ∧ (ao = none → n = 0 ∧ cap = 0) ∧ ∀ a, ao = some a → ∀ j u, xs[j]? = some u → w.cell? (a.add j) = some u
theorem lt_cell {w : World} {a : Addr} {u : Value} (h : w.cell? a = some u) : a.block < w.heap.size := World.block_lt_of_cell? w a h
theorem Rd.below {w w' : World} {s n : Nat} {v : Value} {xs : List Value} (h : Rd w s n v xs) (hb : Below w.heap.size w w') : Rd w' s n v xs := by
  obtain ⟨h1, ao, cap, h2, h3, h4, h5, h6⟩ := h
  exact ⟨h1, ao, cap, h2, h3, h4, h5, fun a ha j u hu => (hb.cell (lt_cell (h6 a ha j u hu))).trans (h6 a ha j u hu)⟩
theorem Rd.nil (w : World) (s : Nat) : Rd w s 0 (.slice none 0 0) [] := ⟨by simp, none, 0, rfl, Nat.le_refl _, by unfold maxLen; omega, fun _ => ⟨rfl, rfl⟩, fun a ha => by cases ha⟩
theorem Rd.own {w : World} {B e s n : Nat} {v : Value} {xs : List Value} (h : w.ownsRow B e s v n xs) : Rd w s n v xs := by
  refine ⟨h.1, ?_⟩
  rcases h.2 with ⟨rfl, rfl⟩ | ⟨g, cap, cur, rfl, h1, h2, h3, h4, h5, h6⟩
  · exact ⟨none, 0, rfl, Nat.le_refl _, by unfold maxLen; omega, fun _ => ⟨rfl, rfl⟩, fun a ha => by cases ha⟩
  · refine ⟨_, cap, rfl, h3, h4, fun h => (by cases h), fun a ha j u hu => ?_⟩
    obtain rfl := Option.some.inj ha
    exact h.cells rfl j u hu
theorem Rd.zero {w : World} {s : Nat} {v : Value} {xs : List Value} (h : Rd w s 0 v xs) : xs = [] ∧ ∃ ao cap, v = .slice ao 0 cap ∧ cap ≤ maxLen := by
  obtain ⟨h1, ao, cap, h2, h3, h4, h5, h6⟩ := h
  exact ⟨List.eq_nil_of_length_eq_zero (by simpa using h1), ao, cap, h2, h4⟩
theorem Rd.pos {w : World} {s n : Nat} {v : Value} {xs : List Value} (h : Rd w s n v xs) (hn : 0 < n) (hs : 0 < s) :
    ∃ b o cap, v = .slice (some ⟨b, o, none⟩) n cap ∧ n ≤ cap ∧ cap ≤ maxLen ∧ b < w.heap.size ∧ ∀ j u, xs[j]? = some u → w.cell? ⟨b, o + j, none⟩ = some u := by
  obtain ⟨h1, ao, cap, h2, h3, h4, h5, h6⟩ := h
  cases ao with
  | none => exact absurd (h5 rfl).1 (by omega)
  | some a =>
    have hx : 0 < xs.length := by rw [h1]; exact Nat.mul_pos hn hs
    have h0 := h6 a rfl 0 xs[0] (List.getElem?_eq_getElem hx)
    have hsp := World.cell?_spot h0
    obtain ⟨b, o, sp⟩ := a
    have hsp' : sp = none := by simpa [Addr.add] using hsp
    subst hsp'
    refine ⟨b, o, cap, h2, h3, h4, lt_cell h0, fun j u hu => ?_⟩
    have := h6 _ rfl j u hu
    rwa [Addr.add_lit] at this
theorem Rd.len {w : World} {s n : Nat} {v : Value} {xs : List Value} (h : Rd w s n v xs) : n ≤ maxLen := by
  obtain ⟨_, _, _, _, h3, h4, _⟩ := h
  omega
/-- A slice's end. -/
theorem Rd.drop {w : World} {s n : Nat} {ao : Option Addr} {cap : Nat} {xs : List Value} (h : Rd w s n (.slice ao n cap) xs) (l : Nat) (hl : l ≤ n) :
    Rd w s (n - l) (sliced ao l n cap s) (xs.drop (l * s)) := by
  obtain ⟨h1, ao', cap', h2, h3, h4, h5, h6⟩ := h
  simp only [Value.slice.injEq] at h2
  obtain ⟨rfl, -, rfl⟩ := h2
  refine ⟨by rw [List.length_drop, h1, Nat.sub_mul], _, _, rfl, by omega, by omega, ?_, ?_⟩
  · intro ha
    split at ha
    · rename_i hc; omega
    · rw [Option.map_eq_none_iff] at ha
      have := h5 ha
      omega
  · intro a ha j u hu
    rw [List.getElem?_drop] at hu
    split at ha
    · rename_i hc
      have hj : l * s + j < xs.length := (List.getElem?_eq_some_iff.1 hu).1
      have : n = l := by omega
      subst this
      omega
    · obtain ⟨a0, rfl, rfl⟩ := Option.map_eq_some_iff.1 ha
      rw [Go.Deep.add_add]
      exact h6 a0 rfl _ _ hu
/-- A slice's beginning. -/
theorem Rd.take {w : World} {s n : Nat} {ao : Option Addr} {cap : Nat} {xs : List Value} (h : Rd w s n (.slice ao n cap) xs) (k : Nat) (hk : k ≤ n) :
    Rd w s k (.slice ao k cap) (xs.take (k * s)) := by
  obtain ⟨h1, ao', cap', h2, h3, h4, h5, h6⟩ := h
  simp only [Value.slice.injEq] at h2
  obtain ⟨rfl, -, rfl⟩ := h2
  refine ⟨?_, _, _, rfl, by omega, by omega, fun ha => ?_, fun a ha j u hu => ?_⟩
  · rw [List.length_take, h1]
    exact Nat.min_eq_left (Nat.mul_le_mul_right _ hk)
  · have := h5 ha; omega
  · rw [List.getElem?_take] at hu
    split at hu
    · exact h6 a ha j u hu
    · cases hu
theorem own_below {w w' : World} {B e s n : Nat} {v : Value} {xs : List Value} (h : w.ownsRow B e s v n xs) (hb : Below w.heap.size w w') : w'.ownsRow B e s v n xs := by
  refine ⟨h.1, ?_⟩
  rcases h.2 with h0 | ⟨g, cap, cur, hv, h1, h2, h3⟩
  · exact .inl h0
  · exact .inr ⟨g, cap, cur, hv, h1, (hb.block g (Array.getElem?_eq_some_iff.1 h2).1).trans h2, h3⟩
theorem own_ge {w : World} {B e s n : Nat} {v : Value} {xs : List Value} (h : w.ownsRow B e s v n xs) : ∀ k, v.ownBlock = some k → B ≤ k := fun k hk => (h.lt k hk).1
/-- What is owned from a greater number on is owned from a smaller one on. -/
theorem own_mono {w : World} {B B' e s n : Nat} {v : Value} {xs : List Value} (h : w.ownsRow B e s v n xs) (hB : B' ≤ B) : w.ownsRow B' e s v n xs := by
  refine ⟨h.1, ?_⟩
  rcases h.2 with h0 | ⟨g, cap, cur, hv, h1, h2, h3⟩
  · exact .inl h0
  · exact .inr ⟨g, cap, cur, hv, Nat.le_trans hB h1, h2, h3⟩
theorem bytes_of {w : World} {n : Nat} {v : Value} {l : List UInt8} (h : Rd w 1 n v (bc l)) (hn : 0 < n) :
    l.length = n ∧ ∃ b o cap, v = .slice (some ⟨b, o, none⟩) n cap ∧ n ≤ cap ∧ cap ≤ maxLen ∧ b < w.heap.size ∧ ∀ k, k < n → w.cell? ⟨b, o + k, none⟩ = some (.int .u8 ((l.getD k 0).toNat : Int)) := by
  have hl : l.length = n := by have := h.1; rw [bc_length] at this; omega
  obtain ⟨b, o, cap, h1, h2, h3, h4, h5⟩ := h.pos hn (by omega)
  exact ⟨hl, b, o, cap, h1, h2, h3, h4, fun k hk => h5 k _ (bc_at (by omega))⟩
theorem len_b {w : World} {n : Nat} {v : Value} {l : List UInt8} (h : Rd w 1 n v (bc l)) : n = l.length := by have := h.1; rw [bc_length] at this; omega
/-- The cells of a block that is known. -/
theorem new_cells (w : World) (cs : List Value) (t : TypeId) : ∀ j u, cs[j]? = some u → (w.alloc (.cells cs.toArray t)).cell? ((⟨w.heap.size, 0, none⟩ : Addr).add j) = some u :=
  World.news_of_block (cs := cs.toArray) (heap_alloc_new w _)
/-- A box of three cells, behind an append to what was owned before it. -/
theorem box_grown {w w1 : World} {B e s n : Nat} {v : Value} {xs : List Value} {x y z : Value} {t : TypeId} (hown : w.ownsRow B e s v n xs) (hg : (w.alloc (.cells #[x, y, z] t)).grownBy w1 v.ownBlock) :
    w1.cell? ⟨w.heap.size, 0, none⟩ = some x ∧ w1.cell? ⟨w.heap.size, 1, none⟩ = some y ∧ w1.cell? ⟨w.heap.size, 2, none⟩ = some z ∧
    w1.frozen? ⟨w.heap.size, 0, none⟩ = false ∧ w1.frozen? ⟨w.heap.size, 1, none⟩ = false ∧ w1.frozen? ⟨w.heap.size, 2, none⟩ = false := by
  have hne : some w.heap.size ≠ v.ownBlock := fun h => by have := (hown.lt _ h.symm).2; omega
  have h1 : w1.heap[w.heap.size]? = some (.cells #[x, y, z] t (0, 0)) := (hg.block _ (by simp) hne).trans (new0 _ _)
  refine ⟨?_, ?_, ?_, ?_, ?_, ?_⟩ <;> simp [World.cell?, World.frozen?, h1]
section
variable {ops : Array Oper} {rest : List Oper} {o : Oper} {a : Act} {Q : Exit → Act → World → Prop}
/-- 'append(v, u...)', v the call's own, u whatever. -/
theorem apg (w : World) (m : Nat) (hgd : o.guard = none) (s x : Operand) (t e : TypeId) (z : Value) (size bytes : Nat) (ht : Tryd.prog.underlying t = some (.slice e)) (hinf : (Tryd.prog.info? e).map (fun i => (i.zero, i.size, i.bytes)) = some (some z, size, bytes)) (hzs : z.cells.size = size) (hsz : 0 < size)
    (ho : o.op = .call { callee := .builtin .append, args := #[s, x], argTypes := #[t, t] })
    {B n : Nat} {v u : Value} {xs news : List Value} (hown : w.ownsRow B e size v n xs) (hB : B ≤ w.heap.size) (hnm : (n + m) * bytes ≤ 140737488355328) (h63 : n + m ≤ maxLen) (hX : ∀ u ∈ news, u.oneCell' = true) (hr : Rd w size m u news)
    (hs : a.eval s = v) (hx : a.eval x = u)
    (h : ∀ v' w', w'.ownsRow B e size v' (n + m) (xs ++ news) → Below B w w' → w.grownBy w' v.ownBlock → wpList Tryd.prog ops Q rest (a.put o.dst v') w') : wpList Tryd.prog ops Q (o :: rest) a w := by
  obtain ⟨i0, hi, hz0, hz1, hz2⟩ := info_parts hinf
  obtain ⟨hl, ao, cap, rfl, h2, h3, h4, h5⟩ := hr
  cases ao with
  | none =>
    obtain ⟨rfl, rfl⟩ := h4 rfl
    have hn : news = [] := List.eq_nil_of_length_eq_zero (by simpa using hl)
    subst hn
    refine wpList_plain hgd fun K hK' => ?_
    have hrun := run_append_owned_none (P := Tryd.prog) w B t o.type e i0 size ht hi _ n xs hown
    unfold Oper.wp
    simp [execOp, ho, resolve, invoke, builtin, hs, hx, hrun, Result.andThen]
    exact hK' _ _ (h v w (by simpa using hown) (Below.refl _ _) (World.grownBy.refl _ _))
  | some ad =>
    refine wpList_append_own_at w hgd s x _ ho B e i0 z size bytes ht hi hz0 hz1 hz2 hzs hsz v n xs hs hown ad m cap news hx hl (h5 ad rfl) hX h63 hnm hB ?_
    intro v' w' h1 h2 h3 h4
    exact h v' w' h1 ((Below.refl B w).grown h2 hB (own_ge hown)) h2
end
end Go.Proofs.YtdeollmeljaaoaaDoor
/- Words on memory: slices of bytes. -/
namespace Go.Proofs.YtdeollmeljaaoaaDoor
open Go.ChangeShapes Go.WideShapes Go.ChangeAt Go.RowKit
set_option linter.unusedVariables false
set_option linter.unusedSimpArgs false
set_option maxHeartbeats 400000

theorem Tryd.info5 : (Tryd.prog.info? 5).map (fun i => (i.zero, i.size, i.bytes)) = some (some (.int .u8 0), 1, 1) := by kernel_rfl
/-- A conversion of bytes to a text. -/
theorem str_of {w : World} {n : Nat} {v : Value} {l : List UInt8} (h : Rd w 1 n v (bc l)) : (convert 76 9 v).run Tryd.prog w = .ok (.string ⟨l.toArray⟩) w := by
  obtain ⟨h1, ao, cap, rfl, h3, h4, h5, h6⟩ := h
  have hn : n = l.length := by rw [bc_length] at h1; omega
  subst hn
  cases ao with
  | none =>
    have := (h5 rfl).1
    have hl : l = [] := List.eq_nil_of_length_eq_zero this
    subst hl
    exact run_convert_bytes_nil w _ _ Tryd.underlying76 Tryd.underlying5 _ _ _ Tryd.underlying9
  | some a =>
    refine run_convert_bytes_back w _ _ _ a cap l Tryd.underlying76 Tryd.underlying5 Tryd.underlying9 fun j hj => ?_
    refine h6 a rfl j _ ?_
    simp [bc, hj]
section
variable {ops : Array Oper} {rest : List Oper} {o : Oper} {a : Act} {Q : Exit → Act → World → Prop}
/-- 'append(b, x)', 'append(b, x, y)' of bytes that the call owns. -/
theorem apk (w : World) (m : Nat) (hgd : o.guard = none) (s x : Operand) (ho : o.op = .call { callee := .builtin .append, args := #[s, x], argTypes := #[76, 76] })
    {B n : Nat} {v : Value} {xs : List Value} (hown : w.ownsRow B 5 1 v n xs) (hB : B ≤ w.heap.size) (hn : n + m ≤ 1000000000) (news : List Value) (hl : news.length = m) (hX : ∀ u ∈ news, u.oneCell' = true)
    (H : Nat) (hH : w.heap.size = H) (hs : a.eval s = v) (hx : a.eval x = .slice (some ⟨H, 0, none⟩) m m)
    (h : ∀ v' w', w'.ownsRow B 5 1 v' (n + m) (xs ++ news) → Below B w w' → w.grownBy w' v.ownBlock → wpList Tryd.prog ops Q rest (a.put o.dst v') w') : wpList Tryd.prog ops Q (o :: rest) a (w.alloc (.cells news.toArray 5)) := by
  subst hH
  obtain ⟨i0, hi, hz0, hz1, hz2⟩ := info_parts Tryd.info5
  refine wpList_append_own_at _ hgd s x _ ho B 5 i0 (.int .u8 0) 1 1 Tryd.underlying76 hi hz0 hz1 hz2 rfl (by decide) v n xs hs (hown.alloc _) _ m m news hx (by omega) (new_cells w news _) hX (by unfold maxLen; omega) (by omega) (by simp; omega) ?_
  intro v' w' h1 h2 h3 h4
  have hg : w.grownBy w' v.ownBlock := (World.grownBy_alloc w _ _).trans h2
  exact h v' w' h1 ((Below.refl B w).grown hg hB (own_ge hown)) hg
theorem ap1 (w : World) (hgd : o.guard = none) (s x : Operand) (ho : o.op = .call { callee := .builtin .append, args := #[s, x], argTypes := #[76, 76] })
    {B n : Nat} {v : Value} {xs : List Value} (hown : w.ownsRow B 5 1 v n xs) (hB : B ≤ w.heap.size) (hn : n ≤ 999999999) {X : Value} (hX : X.oneCell' = true)
    (H : Nat) (hH : w.heap.size = H) (hs : a.eval s = v) (hx : a.eval x = .slice (some ⟨H, 0, none⟩) 1 1)
    (h : ∀ v' w', w'.ownsRow B 5 1 v' (n + 1) (xs ++ [X]) → Below B w w' → w.grownBy w' v.ownBlock → wpList Tryd.prog ops Q rest (a.put o.dst v') w') : wpList Tryd.prog ops Q (o :: rest) a (w.alloc (.cells #[X] 5)) :=
  apk w 1 hgd s x ho hown hB (by omega) [X] rfl (one_one hX) H hH hs hx h
theorem ap2 (w : World) (hgd : o.guard = none) (s x : Operand) (ho : o.op = .call { callee := .builtin .append, args := #[s, x], argTypes := #[76, 76] })
    {B n : Nat} {v : Value} {xs : List Value} (hown : w.ownsRow B 5 1 v n xs) (hB : B ≤ w.heap.size) (hn : n ≤ 999999998)
    (H : Nat) (hH : w.heap.size = H) (hs : a.eval s = v) (hx : a.eval x = .slice (some ⟨H, 0, none⟩) 2 2)
    (h : ∀ v' w', w'.ownsRow B 5 1 v' (n + 2) (xs ++ bc [0, 0]) → Below B w w' → w.grownBy w' v.ownBlock → wpList Tryd.prog ops Q rest (a.put o.dst v') w') :
    wpList Tryd.prog ops Q (o :: rest) a (w.alloc (.cells #[.int .u8 0, .int .u8 0] 5)) :=
  apk w 2 hgd s x ho hown hB (by omega) (bc [0, 0]) rfl (bc_one _) H hH hs hx h
/-- 'append(b, l...)' of bytes, l not empty. -/
theorem apl (w : World) (m : Nat) (hgd : o.guard = none) (s x : Operand) (ho : o.op = .call { callee := .builtin .append, args := #[s, x], argTypes := #[76, 76] })
    {B n : Nat} {v u : Value} {xs news : List Value} (hown : w.ownsRow B 5 1 v n xs) (hB : B ≤ w.heap.size) (hnm : (n + m) ≤ 140737488355328) (hm : 0 < m) (hX : ∀ u ∈ news, u.oneCell' = true) (hr : Rd w 1 m u news)
    (hs : a.eval s = v) (hx : a.eval x = u)
    (h : ∀ v' w', w'.ownsRow B 5 1 v' (n + m) (xs ++ news) → Below B w w' → w.grownBy w' v.ownBlock → wpList Tryd.prog ops Q rest (a.put o.dst v') w') : wpList Tryd.prog ops Q (o :: rest) a w := by
  obtain ⟨i0, hi, hz0, hz1, hz2⟩ := info_parts Tryd.info5
  have hl := hr.1
  obtain ⟨b, of, cap, rfl, _, _, _, hc⟩ := hr.pos hm (by omega)
  refine wpList_append_own_at w hgd s x _ ho B 5 i0 (.int .u8 0) 1 1 Tryd.underlying76 hi hz0 hz1 hz2 rfl (by decide) v n xs hs hown ⟨b, of, none⟩ m cap news hx (by omega) (fun j u hu => by rw [Addr.add_lit]; exact hc j u hu) hX (by unfold maxLen; omega) (by omega) hB ?_
  intro v' w' h1 h2 h3 h4
  exact h v' w' h1 ((Below.refl B w).grown h2 hB (own_ge hown)) h2
end
end Go.Proofs.YtdeollmeljaaoaaDoor
/- Tokens, plainly: quotes, numbers, a token, all tokens of a statement. -/
namespace Go.Proofs.YtdeollmeljaaoaaDoor
set_option linter.unusedVariables false
set_option linter.unusedSimpArgs false
open Go.Lib (index count replaceK replaceAll replace replaceNum)
theorem ra_is (s old new : List UInt8) (h : (old == new) = false) : replaceAll s old new = replaceK old new (count s old) s := by
  simp [replaceAll, replace, replaceNum, h]
theorem ra_nil (old new : List UInt8) (h0 : old ≠ []) (h : (old == new) = false) : replaceAll [] old new = [] := by
  rw [ra_is _ _ _ h]
  have : index [] old = -1 := by
    cases old with
    | nil => exact absurd rfl h0
    | cons c t => rfl
  rw [Lib.count_miss this]
  rfl
theorem ra_hit (old new r : List UInt8) (h0 : old ≠ []) (h : (old == new) = false) : replaceAll (old ++ r) old new = new ++ replaceAll r old new := by
  rw [ra_is _ _ _ h, ra_is _ _ _ h]
  have hi : index (old ++ r) old = (0 : Nat) := by
    cases old with
    | nil => exact absurd rfl h0
    | cons c t =>
      have : (c :: t).isPrefixOf (c :: (t ++ r)) = true := by rw [List.isPrefixOf_iff_prefix]; exact ⟨r, rfl⟩
      simp only [List.cons_append, index, this, if_true]
      rfl
  have hc := Lib.count_hit h0 hi
  rw [Nat.zero_add, List.drop_left] at hc
  rw [hc, Nat.add_comm, Lib.replaceK_hit _ _ _ _ 0 hi]
  simp
theorem ra_miss (old new l : List UInt8) (a : UInt8) (h0 : old ≠ []) (h : (old == new) = false) (hp : old.isPrefixOf (a :: l) = false) : replaceAll (a :: l) old new = a :: replaceAll l old new := by
  rw [ra_is _ _ _ h, ra_is _ _ _ h]
  have hi : index (a :: l) old = if index l old == -1 then -1 else index l old + 1 := by simp only [index, hp, Bool.false_eq_true, if_false]
  by_cases hm : index l old = -1
  · rw [hm] at hi
    have hi' : index (a :: l) old = -1 := by simpa using hi
    rw [Lib.count_miss hi', Lib.count_miss hm]
    rfl
  · have hg := Lib.index_ge l old
    obtain ⟨i, hii⟩ : ∃ i : Nat, index l old = i := ⟨(index l old).toNat, by omega⟩
    have hi' : index (a :: l) old = ((i + 1 : Nat) : Int) := by
      rw [hi, if_neg (by simpa using hm), hii]
      rfl
    have hc := Lib.count_hit h0 hi'
    have hc' := Lib.count_hit h0 hii
    have e : (a :: l).drop (i + 1 + old.length) = l.drop (i + old.length) := by
      rw [show i + 1 + old.length = (i + old.length) + 1 by omega, List.drop_succ_cons]
    rw [e] at hc
    rw [hc, hc', Nat.add_comm 1, Lib.replaceK_hit _ _ _ _ _ hi', Lib.replaceK_hit _ _ _ _ _ hii, e]
    simp
/-- What stands behind a quote: its text, and how many bytes there are with the closing one. -/
def strR : List UInt8 → Option (List UInt8 × Nat)
  | [] => none
  | [c] => if c = 39 then some ([], 1) else none
  | c :: d :: r => if c = 39 then (if d = 39 then (strR r).map fun x => (39 :: x.1, x.2 + 2) else some ([], 1)) else (strR (d :: r)).map fun x => (c :: x.1, x.2 + 1)
/-- The program's way: each quote opens or closes. -/
def sq : Bool → List UInt8 → Nat × Bool
  | o, [] => (0, o)
  | o, c :: r => if c = 39 then ((sq (!o) r).1 + 1, (sq (!o) r).2) else if o then ((sq o r).1 + 1, (sq o r).2) else (0, o)
def q1 : List UInt8 := [39]
def q2 : List UInt8 := [39, 39]
theorem q21 : (q2 == q1) = false := by decide
theorem q12 : (q1 == q2) = false := by decide
theorem strR_some : ∀ (r : List UInt8) (t : List UInt8) (n : Nat), strR r = some (t, n) → sq true r = (n, false) ∧ 1 ≤ n ∧ n ≤ r.length ∧ replaceAll (r.take (n - 1)) q2 q1 = t
  | [], t, n, h => by simp [strR] at h
  | [c], t, n, h => by
    rw [strR] at h
    split at h
    · rename_i hc
      subst hc
      simp only [Option.some.injEq, Prod.mk.injEq] at h
      obtain ⟨rfl, rfl⟩ := h
      exact ⟨rfl, by omega, by simp, ra_nil _ _ (by simp [q2]) q21⟩
    · simp at h
  | c :: d :: r, t, n, h => by
    rw [strR] at h
    split at h
    · rename_i hc
      subst hc
      split at h
      · rename_i hd
        subst hd
        obtain ⟨⟨t', n'⟩, hx, he⟩ := Option.map_eq_some_iff.1 h
        simp only [Prod.mk.injEq] at he
        obtain ⟨rfl, rfl⟩ := he
        obtain ⟨h1, h2, h3, h4⟩ := strR_some r t' n' hx
        refine ⟨?_, by omega, by simp; omega, ?_⟩
        · simp [sq, h1]
        · have e : (39 :: 39 :: r).take (n' + 2 - 1) = q2 ++ r.take (n' - 1) := by
            rw [show n' + 2 - 1 = (n' - 1) + 1 + 1 by omega]
            rfl
          rw [e, ra_hit _ _ _ (by simp [q2]) q21, h4]
          rfl
      · rename_i hd
        simp only [Option.some.injEq, Prod.mk.injEq] at h
        obtain ⟨rfl, rfl⟩ := h
        refine ⟨by simp [sq, hd], by omega, by simp, ra_nil _ _ (by simp [q2]) q21⟩
    · rename_i hc
      obtain ⟨⟨t', n'⟩, hx, he⟩ := Option.map_eq_some_iff.1 h
      simp only [Prod.mk.injEq] at he
      obtain ⟨rfl, rfl⟩ := he
      obtain ⟨h1, h2, h3, h4⟩ := strR_some (d :: r) t' n' hx
      refine ⟨?_, by omega, by simp at h3 ⊢; omega, ?_⟩
      · rw [sq, if_neg hc, if_pos rfl, h1]
      · have e : (c :: d :: r).take (n' + 1 - 1) = c :: (d :: r).take (n' - 1) := by
          rw [show n' + 1 - 1 = (n' - 1) + 1 by omega]
          rfl
        have hp : q2.isPrefixOf (c :: (d :: r).take (n' - 1)) = false := by
          have hc' : ((39 : UInt8) == c) = false := by simpa using fun e => hc e.symm
          simp [q2, List.isPrefixOf, hc']
        rw [e, ra_miss _ _ _ _ (by simp [q2]) q21 hp, h4]
theorem strR_none : ∀ (r : List UInt8), strR r = none → (sq true r).2 = true
  | [], h => rfl
  | [c], h => by
    rw [strR] at h
    split at h
    · cases h
    · rename_i hc
      simp [sq, hc]
  | c :: d :: r, h => by
    rw [strR] at h
    split at h
    · rename_i hc
      subst hc
      split at h
      · rename_i hd
        subst hd
        have := strR_none r (by simpa using h)
        simpa [sq] using this
      · cases h
    · rename_i hc
      have := strR_none (d :: r) (by simpa using h)
      rw [sq, if_neg hc, if_pos rfl]
      exact this
theorem sq_le : ∀ (o : Bool) (r : List UInt8), (sq o r).1 ≤ r.length
  | o, [] => by simp [sq]
  | o, c :: r => by
    rw [sq]
    split
    · have := sq_le (!o) r; simp; omega
    · split
      · have := sq_le o r; simp; omega
      · simp
/-- Where the program's way has come to, behind k bytes. -/
theorem sq_step : ∀ (o : Bool) (l : List UInt8), sq o l = match l with
    | [] => (0, o)
    | c :: r => if c = 39 ∨ o = true then ((sq (if c = 39 then !o else o) r).1 + 1, (sq (if c = 39 then !o else o) r).2) else (0, o)
  | o, [] => rfl
  | o, c :: r => by
    rw [sq]
    by_cases hc : c = 39
    · simp [hc]
    · cases o <;> simp [hc]
/-- A number of digits. -/
def numF (a : Nat) (l : List UInt8) : Nat := l.foldl (fun a c => a * 10 + (c.toNat - 48)) a
def numOf (l : List UInt8) : Nat := numF 0 l
theorem numF_nil (a : Nat) : numF a [] = a := by unfold numF; rw [List.foldl_nil]
theorem numF_cons (a : Nat) (c : UInt8) (r : List UInt8) : numF a (c :: r) = numF (a * 10 + (c.toNat - 48)) r := by unfold numF; rw [List.foldl_cons]
attribute [irreducible] numF
theorem numF_app (a : Nat) (l m : List UInt8) : numF a (l ++ m) = numF (numF a l) m := by
  induction l generalizing a with
  | nil => rw [numF_nil, List.nil_append]
  | cons c r ih => rw [List.cons_append, numF_cons, numF_cons, ih]
theorem numF_ge (l : List UInt8) (a : Nat) : a ≤ numF a l := by
  induction l generalizing a with
  | nil => rw [numF_nil]; exact Nat.le_refl _
  | cons c r ih =>
    have := ih (a * 10 + (c.toNat - 48))
    rw [numF_cons]
    omega
theorem parse_digits (l : List UInt8) (a : Nat) (hl : l.all dg = true) (ha : a < 18446744073709551616) : Lib.parseUint10 a l = if numF a l < 18446744073709551616 then .ok (numF a l) else .range := by
  induction l generalizing a with
  | nil => rw [numF_nil, if_pos ha, Lib.parseUint10]
  | cons c r ih =>
    simp only [List.all_cons, Bool.and_eq_true] at hl
    obtain ⟨hc, hr⟩ := hl
    have hc' : 48 ≤ c.toNat ∧ c.toNat ≤ 57 := by simpa [dg] using hc
    rw [Lib.parseUint10, if_pos hc', numF_cons]
    have ih' := ih (a * 10 + (c.toNat - 48)) hr
    obtain ⟨b, hb⟩ : ∃ b, b = a * 10 + (c.toNat - 48) := ⟨_, rfl⟩
    rw [← hb] at ih' ⊢
    have hg := numF_ge r b
    clear ih
    by_cases h1 : 1844674407370955162 ≤ a
    · rw [if_pos h1, if_neg (by omega)]
    · rw [if_neg h1]
      by_cases h2 : 18446744073709551616 ≤ b
      · rw [if_pos h2, if_neg (by omega)]
      · rw [if_neg h2]
        exact ih' (by omega)
theorem atoi_digits (l : List UInt8) (h0 : l ≠ []) (hl : l.all dg = true) : Lib.atoiAll l = if numOf l < 9223372036854775808 then .ok (numOf l : Int) else .range := by
  cases l with
  | nil => exact absurd rfl h0
  | cons c r =>
    have hc : dg c = true := by simp only [List.all_cons, Bool.and_eq_true] at hl; exact hl.1
    have hc' : 48 ≤ c.toNat ∧ c.toNat ≤ 57 := by simpa [dg] using hc
    have n1 : ¬ (c.toNat = 43 ∨ c.toNat = 45) := by omega
    have n2 : ¬ c.toNat = 45 := by omega
    unfold Lib.atoiAll numOf
    have hm : Lib.parseMag (if c.toNat = 43 ∨ c.toNat = 45 then r else c :: r) = if numF 0 (c :: r) < 18446744073709551616 then .ok (numF 0 (c :: r)) else .range := by
      rw [if_neg n1, Lib.parseMag, if_neg (by simp)]
      exact parse_digits _ 0 hl (by omega)
    simp only [hm]
    simp only [n2, not_false_eq_true, true_and, false_and, if_false]
    generalize numF 0 (c :: r) = u
    by_cases h1 : u < 18446744073709551616
    · simp only [h1, if_true]
      by_cases h2 : u < 9223372036854775808
      · rw [if_pos h2, if_neg (by omega)]
      · rw [if_neg h2, if_pos (by omega)]
    · simp only [h1, if_false]
      rw [if_neg (by omega)]
/-- A token; what stands at a statement's beginning. -/
structure Tk where
  k : Int
  t : List UInt8
  n : Int
deriving DecidableEq
inductive Hd where
  | tok (x : Tk) (len : Nat)
  | bad (e : Int)
deriving DecidableEq
def numT (l : List UInt8) : Hd :=
  if spn dg l < l.length ∧ iw (l.getD (spn dg l) 0) = true then .bad 6 else if numOf (l.take (spn dg l)) < 9223372036854775808 then .tok ⟨2, [], numOf (l.take (spn dg l))⟩ (spn dg l) else .bad 5
def strT : List UInt8 → Hd
  | [] => .bad 7
  | _ :: r => match strR r with
    | none => .bad 7
    | some x => .tok ⟨3, x.1, 0⟩ (x.2 + 1)
def tokT (l : List UInt8) : Hd :=
  if dg (l.getD 0 0) then numT l
  else if iw (l.getD 0 0) then .tok ⟨1, l.take (spn iw l), 0⟩ (spn iw l)
  else if l.getD 0 0 = 39 then strT l
  else if mkOf l = 0 then .bad 6 else .tok ⟨4, l.take (mkOf l), 0⟩ (mkOf l)
theorem spn_pos {p : UInt8 → Bool} {l : List UInt8} (hl : 0 < l.length) (h : p (l.getD 0 0) = true) : 0 < spn p l := by
  rcases Nat.eq_zero_or_pos (spn p l) with h0 | h0
  · have := spn_out p l (by omega)
    rw [h0, h] at this
    cases this
  · exact h0
theorem tokT_len {l : List UInt8} {x : Tk} {n : Nat} (hl : 0 < l.length) (h : tokT l = .tok x n) : 0 < n ∧ n ≤ l.length := by
  unfold tokT at h
  split at h
  · rename_i hd
    unfold numT at h
    split at h
    · cases h
    · split at h
      · simp only [Hd.tok.injEq] at h
        obtain ⟨_, rfl⟩ := h
        exact ⟨spn_pos hl hd, spn_le _ _⟩
      · cases h
  · split at h
    · rename_i hi
      simp only [Hd.tok.injEq] at h
      obtain ⟨_, rfl⟩ := h
      exact ⟨spn_pos hl hi, spn_le _ _⟩
    · split at h
      · match l, hl with
        | c :: r, _ =>
          simp only [strT] at h
          split at h
          · cases h
          · rename_i x' hx
            simp only [Hd.tok.injEq] at h
            obtain ⟨_, rfl⟩ := h
            obtain ⟨t', n'⟩ := x'
            have := (strR_some r t' n' hx).2.2.1
            simp
            omega
      · split at h
        · cases h
        · simp only [Hd.tok.injEq] at h
          obtain ⟨_, rfl⟩ := h
          have := mkOf_le l
          exact ⟨by omega, this⟩
/-- All tokens from a place on; which are there already. -/
structure Cuts where
  l : List Tk
  at_ : Nat
  e : Int
deriving DecidableEq
def cutT : Nat → List UInt8 → Nat → List Tk → Cuts
  | 0, _, _, acc => ⟨acc, 0, 0⟩
  | f + 1, l, i, acc =>
    if l.length ≤ i then ⟨acc, 0, 0⟩
    else if bk (l.getD i 0) then cutT f l (i + 1) acc
    else if acc.length = 100 then ⟨[], i, 10⟩
    else match tokT (l.drop i) with
      | .bad e => ⟨[], i, e⟩
      | .tok x n => cutT f l (i + n) (acc ++ [x])
theorem cutT_fuel : ∀ (f g : Nat) (l : List UInt8) (i : Nat) (acc : List Tk), l.length < i + f → l.length < i + g → cutT f l i acc = cutT g l i acc
  | 0, g, l, i, acc, hf, hg => by
    cases g with
    | zero => rfl
    | succ g => rw [cutT, cutT, if_pos (by omega)]
  | f + 1, 0, l, i, acc, hf, hg => by rw [cutT, cutT, if_pos (by omega)]
  | f + 1, g + 1, l, i, acc, hf, hg => by
    rw [cutT, cutT]
    split
    · rfl
    · rename_i hi
      split
      · exact cutT_fuel f g l _ _ (by omega) (by omega)
      · split
        · rfl
        · split
          · rfl
          · rename_i x n hx
            have := (tokT_len (by simp; omega) hx).1
            exact cutT_fuel f g l _ _ (by omega) (by omega)
def cutW (l : List UInt8) (i : Nat) (acc : List Tk) : Cuts := cutT (l.length + 1) l i acc
theorem cutW_end {l : List UInt8} {i : Nat} {acc : List Tk} (h : l.length ≤ i) : cutW l i acc = ⟨acc, 0, 0⟩ := by
  unfold cutW
  rw [cutT, if_pos h]
theorem cutW_blank {l : List UInt8} {i : Nat} {acc : List Tk} (h : i < l.length) (hb : bk (l.getD i 0) = true) : cutW l i acc = cutW l (i + 1) acc := by
  unfold cutW
  rw [cutT, if_neg (by omega), if_pos hb]
  exact cutT_fuel _ _ _ _ _ (by omega) (by omega)
theorem cutW_full {l : List UInt8} {i : Nat} {acc : List Tk} (h : i < l.length) (hb : bk (l.getD i 0) = false) (ha : acc.length = 100) : cutW l i acc = ⟨[], i, 10⟩ := by
  unfold cutW
  rw [cutT, if_neg (by omega), if_neg (by rw [hb]; simp), if_pos ha]
theorem cutW_bad {l : List UInt8} {i : Nat} {acc : List Tk} {e : Int} (h : i < l.length) (hb : bk (l.getD i 0) = false) (ha : ¬ acc.length = 100) (ht : tokT (l.drop i) = .bad e) : cutW l i acc = ⟨[], i, e⟩ := by
  unfold cutW
  rw [cutT, if_neg (by omega), if_neg (by rw [hb]; simp), if_neg ha, ht]
theorem cutW_tok {l : List UInt8} {i : Nat} {acc : List Tk} {x : Tk} {n : Nat} (h : i < l.length) (hb : bk (l.getD i 0) = false) (ha : ¬ acc.length = 100) (ht : tokT (l.drop i) = .tok x n) : cutW l i acc = cutW l (i + n) (acc ++ [x]) := by
  unfold cutW
  rw [cutT, if_neg (by omega), if_neg (by rw [hb]; simp), if_neg ha, ht]
  have := (tokT_len (by simp; omega) ht).1
  exact cutT_fuel _ _ _ _ _ (by omega) (by omega)
theorem cutW_skip (l : List UInt8) : ∀ (n i : Nat) (acc : List Tk), n ≤ spn bk (l.drop i) → cutW l i acc = cutW l (i + n) acc
  | 0, i, acc, _ => rfl
  | n + 1, i, acc, h => by
    have h1 := cutW_skip l n i acc (by omega)
    have hs := spn_le bk (l.drop i)
    rw [List.length_drop] at hs
    have h2 := spn_in bk (l.drop i) n (by omega)
    have e : (l.drop i).getD n 0 = l.getD (i + n) 0 := by simp [List.getD, List.getElem?_drop]
    rw [e] at h2
    rw [h1, cutW_blank (by omega) h2]
    rfl
/-- A statement's tokens. -/
def cutL (l : List UInt8) : Cuts := if 400 < l.length then ⟨[], 0, 1⟩ else cutW l 0 []
end Go.Proofs.YtdeollmeljaaoaaDoor
