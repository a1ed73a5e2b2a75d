import Derived.Test.YtdeollmeljaaoaaDoorRows
import Derived.Test.YtdeollmeljaaoaaDoorSak
import Derived.WalkKit
import Derived.ProofKit
import Derived.OpenShut
import Derived.Outline
import Derived.WalkSpells
import Derived.WalkLawsBesides
import Derived.Deep.QuietTactic
import Derived.BigQuiet
import Derived.BigGuardPart
import Derived.Lib.Hide
import Derived.Handy
import Derived.Maps.AppendAt
import Derived.Laws.IdiomStrings
import Derived.Deep.AppendLies
import Derived.Deep.Slices
import Derived.Deep.Fields
import Derived.Lib.CountLaws
/- What every walk of a seat wants. -/
namespace Go.Proofs.YtdeollmeljaaoaaDoor
open Go.ChangeShapes Go.WideShapes Go.ChangeAt Go.RowKit
set_option linter.unusedVariables false
set_option linter.unusedSimpArgs false
set_option maxHeartbeats 400000

/-- What lay below before a call reads as it did behind it. -/
theorem kept {w w1 : World} (hb : Below w.heap.size w w1) :
    (∀ b o, b < w.heap.size → w1.cell? ⟨b, o, none⟩ = w.cell? ⟨b, o, none⟩) ∧ (∀ b o, b < w.heap.size → w1.frozen? ⟨b, o, none⟩ = w.frozen? ⟨b, o, none⟩) :=
  ⟨fun b o h => hb.cell (p := ⟨b, o, none⟩) h, fun b o h => hb.frozen (p := ⟨b, o, none⟩) h⟩

theorem into {W w0 w1 : World} (h : Below W.heap.size W w0) (hb : Below w0.heap.size w0 w1) : Below W.heap.size W w1 := h.trans (hb.mono h.size)
theorem ri {a b : Int} (h : a = b) : Ending.returned (.int .i64 a) = .returned (.int .i64 b) := by rw [h]
theorem rb {a b : Bool} (h : a = b) : Ending.returned (.bool a) = .returned (.bool b) := by rw [h]

theorem new0 (w : World) (o : Obj) : (w.alloc o).heap[w.heap.size]? = some o := by
  show (w.heap.push o)[w.heap.size]? = _
  simp
theorem new1 (w : World) (o p : Obj) : ((w.alloc o).alloc p).heap[w.heap.size + 1]? = some p := by
  have h := new0 (w.alloc o) p
  simpa only [World.size_alloc] using h
theorem new2 (w : World) (o p q : Obj) : (((w.alloc o).alloc p).alloc q).heap[w.heap.size + 2]? = some q := by
  have h := new0 ((w.alloc o).alloc p) q
  simpa only [World.size_alloc] using h
/-- Block b is a value of three cells that may be written. -/
theorem has3 {w0 w1 : World} {B : Nat} {t : TypeId} {x y z : Value} (h : w0.heap[B]? = some (.cells #[x, y, z] t (0, 0))) (hb : Below w0.heap.size w0 w1) :
    w1.cell? ⟨B, 0, none⟩ = some x ∧ w1.cell? ⟨B, 1, none⟩ = some y ∧ w1.cell? ⟨B, 2, none⟩ = some z ∧
    w1.frozen? ⟨B, 0, none⟩ = false ∧ w1.frozen? ⟨B, 1, none⟩ = false ∧ w1.frozen? ⟨B, 2, none⟩ = false := by
  have hB : B < w0.heap.size := by
    rcases Nat.lt_or_ge B w0.heap.size with g | g
    · exact g
    · rw [Array.getElem?_eq_none g] at h; cases h
  have h1 : w1.heap[B]? = some (.cells #[x, y, z] t (0, 0)) := (hb.block B hB).trans h
  refine ⟨?_, ?_, ?_, ?_, ?_, ?_⟩ <;> simp [World.cell?, World.frozen?, h1]

end Go.Proofs.YtdeollmeljaaoaaDoor
/- Words on memory: what a slice reads as; what the call owns: of whatever type. -/
namespace Go.Proofs.YtdeollmeljaaoaaDoor
open Go.ChangeShapes Go.WideShapes Go.ChangeAt Go.RowKit
set_option linter.unusedVariables false
set_option linter.unusedSimpArgs false
set_option maxHeartbeats 400000

/-- The slice v of n elements of s cells each reads as xs. -/
def Rd (w : World) (s n : Nat) (v : Value) (xs : List Value) : Prop :=
  xs.length = n * s ∧ ∃ ao cap, v = .slice ao n cap ∧ n ≤ cap ∧ cap ≤ maxLen ∧ (ao = none → n = 0 ∧ cap = 0) ∧ ∀ a, ao = some a → ∀ j u, xs[j]? = some u → w.cell? (a.add j) = some u
theorem lt_cell {w : World} {a : Addr} {u : Value} (h : w.cell? a = some u) : a.block < w.heap.size := World.block_lt_of_cell? w a h
theorem Rd.below {w w' : World} {s n : Nat} {v : Value} {xs : List Value} (h : Rd w s n v xs) (hb : Below w.heap.size w w') : Rd w' s n v xs := by
  obtain ⟨h1, ao, cap, h2, h3, h4, h5, h6⟩ := h
  exact ⟨h1, ao, cap, h2, h3, h4, h5, fun a ha j u hu => (hb.cell (lt_cell (h6 a ha j u hu))).trans (h6 a ha j u hu)⟩
theorem Rd.nil (w : World) (s : Nat) : Rd w s 0 (.slice none 0 0) [] := ⟨by simp, none, 0, rfl, Nat.le_refl _, by unfold maxLen; omega, fun _ => ⟨rfl, rfl⟩, fun a ha => by cases ha⟩
theorem Rd.own {w : World} {B e s n : Nat} {v : Value} {xs : List Value} (h : w.ownsRow B e s v n xs) : Rd w s n v xs := by
  refine ⟨h.1, ?_⟩
  rcases h.2 with ⟨rfl, rfl⟩ | ⟨g, cap, cur, rfl, h1, h2, h3, h4, h5, h6⟩
  · exact ⟨none, 0, rfl, Nat.le_refl _, by unfold maxLen; omega, fun _ => ⟨rfl, rfl⟩, fun a ha => by cases ha⟩
  · refine ⟨_, cap, rfl, h3, h4, fun h => (by cases h), fun a ha j u hu => ?_⟩
    obtain rfl := Option.some.inj ha
    exact h.cells rfl j u hu
theorem Rd.zero {w : World} {s : Nat} {v : Value} {xs : List Value} (h : Rd w s 0 v xs) : xs = [] ∧ ∃ ao cap, v = .slice ao 0 cap ∧ cap ≤ maxLen := by
  obtain ⟨h1, ao, cap, h2, h3, h4, h5, h6⟩ := h
  exact ⟨List.eq_nil_of_length_eq_zero (by simpa using h1), ao, cap, h2, h4⟩
theorem Rd.pos {w : World} {s n : Nat} {v : Value} {xs : List Value} (h : Rd w s n v xs) (hn : 0 < n) (hs : 0 < s) :
    ∃ b o cap, v = .slice (some ⟨b, o, none⟩) n cap ∧ n ≤ cap ∧ cap ≤ maxLen ∧ b < w.heap.size ∧ ∀ j u, xs[j]? = some u → w.cell? ⟨b, o + j, none⟩ = some u := by
  obtain ⟨h1, ao, cap, h2, h3, h4, h5, h6⟩ := h
  cases ao with
  | none => exact absurd (h5 rfl).1 (by omega)
  | some a =>
    have hx : 0 < xs.length := by rw [h1]; exact Nat.mul_pos hn hs
    have h0 := h6 a rfl 0 xs[0] (List.getElem?_eq_getElem hx)
    have hsp := World.cell?_spot h0
    obtain ⟨b, o, sp⟩ := a
    have hsp' : sp = none := by simpa [Addr.add] using hsp
    subst hsp'
    refine ⟨b, o, cap, h2, h3, h4, lt_cell h0, fun j u hu => ?_⟩
    have := h6 _ rfl j u hu
    rwa [Addr.add_lit] at this
theorem Rd.len {w : World} {s n : Nat} {v : Value} {xs : List Value} (h : Rd w s n v xs) : n ≤ maxLen := by
  obtain ⟨_, _, _, _, h3, h4, _⟩ := h
  omega
/-- A slice's end. -/
theorem Rd.drop {w : World} {s n : Nat} {ao : Option Addr} {cap : Nat} {xs : List Value} (h : Rd w s n (.slice ao n cap) xs) (l : Nat) (hl : l ≤ n) :
    Rd w s (n - l) (sliced ao l n cap s) (xs.drop (l * s)) := by
  obtain ⟨h1, ao', cap', h2, h3, h4, h5, h6⟩ := h
  simp only [Value.slice.injEq] at h2
  obtain ⟨rfl, -, rfl⟩ := h2
  refine ⟨by rw [List.length_drop, h1, Nat.sub_mul], _, _, rfl, by omega, by omega, ?_, ?_⟩
  · intro ha
    split at ha
    · rename_i hc; omega
    · rw [Option.map_eq_none_iff] at ha
      have := h5 ha
      omega
  · intro a ha j u hu
    rw [List.getElem?_drop] at hu
    split at ha
    · rename_i hc
      have hj : l * s + j < xs.length := (List.getElem?_eq_some_iff.1 hu).1
      have : n = l := by omega
      subst this
      omega
    · obtain ⟨a0, rfl, rfl⟩ := Option.map_eq_some_iff.1 ha
      rw [Go.Deep.add_add]
      exact h6 a0 rfl _ _ hu
/-- A slice's beginning. -/
theorem Rd.take {w : World} {s n : Nat} {ao : Option Addr} {cap : Nat} {xs : List Value} (h : Rd w s n (.slice ao n cap) xs) (k : Nat) (hk : k ≤ n) :
    Rd w s k (.slice ao k cap) (xs.take (k * s)) := by
  obtain ⟨h1, ao', cap', h2, h3, h4, h5, h6⟩ := h
  simp only [Value.slice.injEq] at h2
  obtain ⟨rfl, -, rfl⟩ := h2
  refine ⟨?_, _, _, rfl, by omega, by omega, fun ha => ?_, fun a ha j u hu => ?_⟩
  · rw [List.length_take, h1]
    exact Nat.min_eq_left (Nat.mul_le_mul_right _ hk)
  · have := h5 ha; omega
  · rw [List.getElem?_take] at hu
    split at hu
    · exact h6 a ha j u hu
    · cases hu
theorem own_below {w w' : World} {B e s n : Nat} {v : Value} {xs : List Value} (h : w.ownsRow B e s v n xs) (hb : Below w.heap.size w w') : w'.ownsRow B e s v n xs := by
  refine ⟨h.1, ?_⟩
  rcases h.2 with h0 | ⟨g, cap, cur, hv, h1, h2, h3⟩
  · exact .inl h0
  · exact .inr ⟨g, cap, cur, hv, h1, (hb.block g (Array.getElem?_eq_some_iff.1 h2).1).trans h2, h3⟩
theorem own_ge {w : World} {B e s n : Nat} {v : Value} {xs : List Value} (h : w.ownsRow B e s v n xs) : ∀ k, v.ownBlock = some k → B ≤ k := fun k hk => (h.lt k hk).1
/-- What is owned from a greater number on is owned from a smaller one on. -/
theorem own_mono {w : World} {B B' e s n : Nat} {v : Value} {xs : List Value} (h : w.ownsRow B e s v n xs) (hB : B' ≤ B) : w.ownsRow B' e s v n xs := by
  refine ⟨h.1, ?_⟩
  rcases h.2 with h0 | ⟨g, cap, cur, hv, h1, h2, h3⟩
  · exact .inl h0
  · exact .inr ⟨g, cap, cur, hv, Nat.le_trans hB h1, h2, h3⟩
/-- The cells of a block that is known. -/
theorem new_cells (w : World) (cs : List Value) (t : TypeId) : ∀ j u, cs[j]? = some u → (w.alloc (.cells cs.toArray t)).cell? ((⟨w.heap.size, 0, none⟩ : Addr).add j) = some u :=
  World.news_of_block (cs := cs.toArray) (heap_alloc_new w _)
section
variable {ops : Array Oper} {rest : List Oper} {o : Oper} {a : Act} {Q : Exit → Act → World → Prop}
/-- 'append(v, u...)', v the call's own, u whatever. -/
theorem apg (w : World) (m : Nat) (hgd : o.guard = none) (s x : Operand) (t e : TypeId) (z : Value) (size bytes : Nat) (ht : Tryd.prog.underlying t = some (.slice e)) (hinf : (Tryd.prog.info? e).map (fun i => (i.zero, i.size, i.bytes)) = some (some z, size, bytes)) (hzs : z.cells.size = size) (hsz : 0 < size)
    (ho : o.op = .call { callee := .builtin .append, args := #[s, x], argTypes := #[t, t] })
    {B n : Nat} {v u : Value} {xs news : List Value} (hown : w.ownsRow B e size v n xs) (hB : B ≤ w.heap.size) (hnm : (n + m) * bytes ≤ 140737488355328) (h63 : n + m ≤ maxLen) (hX : ∀ u ∈ news, u.oneCell' = true) (hr : Rd w size m u news)
    (hs : a.eval s = v) (hx : a.eval x = u)
    (h : ∀ v' w', w'.ownsRow B e size v' (n + m) (xs ++ news) → Below B w w' → w.grownBy w' v.ownBlock → wpList Tryd.prog ops Q rest (a.put o.dst v') w') : wpList Tryd.prog ops Q (o :: rest) a w := by
  obtain ⟨i0, hi, hz0, hz1, hz2⟩ := info_parts hinf
  obtain ⟨hl, ao, cap, rfl, h2, h3, h4, h5⟩ := hr
  cases ao with
  | none =>
    obtain ⟨rfl, rfl⟩ := h4 rfl
    have hn : news = [] := List.eq_nil_of_length_eq_zero (by simpa using hl)
    subst hn
    refine wpList_plain hgd fun K hK' => ?_
    have hrun := run_append_owned_none (P := Tryd.prog) w B t o.type e i0 size ht hi _ n xs hown
    unfold Oper.wp
    simp [execOp, ho, resolve, invoke, builtin, hs, hx, hrun, Result.andThen]
    exact hK' _ _ (h v w (by simpa using hown) (Below.refl _ _) (World.grownBy.refl _ _))
  | some ad =>
    refine wpList_append_own_at w hgd s x _ ho B e i0 z size bytes ht hi hz0 hz1 hz2 hzs hsz v n xs hs hown ad m cap news hx hl (h5 ad rfl) hX h63 hnm hB ?_
    intro v' w' h1 h2 h3 h4
    exact h v' w' h1 ((Below.refl B w).grown h2 hB (own_ge hown)) h2
end
end Go.Proofs.YtdeollmeljaaoaaDoor
/- Tokens, plainly: quotes, numbers, a token, all tokens of a statement. -/
namespace Go.Proofs.YtdeollmeljaaoaaDoor
set_option linter.unusedVariables false
set_option linter.unusedSimpArgs false
open Go.Lib (index count replaceK replaceAll replace replaceNum)
def q1 : List UInt8 := [39]
def q2 : List UInt8 := [39, 39]
theorem q12 : (q1 == q2) = false := by decide
/-- A number of digits. -/
def numF (a : Nat) (l : List UInt8) : Nat := l.foldl (fun a c => a * 10 + (c.toNat - 48)) a
attribute [irreducible] numF
/-- A token; what stands at a statement's beginning. -/
structure Tk where
  k : Int
  t : List UInt8
  n : Int
deriving DecidableEq
end Go.Proofs.YtdeollmeljaaoaaDoor
