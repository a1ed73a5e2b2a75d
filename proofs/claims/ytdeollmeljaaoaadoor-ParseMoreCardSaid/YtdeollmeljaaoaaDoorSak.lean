import Derived.Lib.ReplaceLaws
import Derived.Lib.AtoiAll
import Derived.Lib.Itoa
import Derived.Below
import Derived.IntWalk
import Derived.RowKit
import GoSem.Op.String
import Derived.Lib.Strings
import Derived.Test.YtdeollmeljaaoaaDoorRows
import Derived.WalkKit
import Derived.ProofKit
import Derived.OpenShut
import Derived.Outline
import Derived.WalkSpells
import Derived.WalkLawsBesides
import Derived.Deep.QuietTactic
import Derived.BigQuiet
import Derived.BigGuardPart
import Derived.Lib.Hide
import Derived.Handy
import Derived.Maps.AppendAt
import Derived.Laws.IdiomStrings
import Derived.Deep.AppendLies
import Derived.Deep.Slices
import Derived.Deep.Fields
import Derived.Lib.CountLaws
set_option linter.unusedVariables false
set_option linter.unusedSimpArgs false
set_option maxHeartbeats 400000
open Go.ChangeAt Go.ChangeShapes Go.RowKit Go.WideShapes
namespace Go.Proofs.YtdeollmeljaaoaaDoor
def dg (b : UInt8) : Bool := decide (48 ≤ b.toNat) && decide (b.toNat ≤ 57)
def wb (b : UInt8) : Bool := (decide (97 ≤ b.toNat) && decide (b.toNat ≤ 122)) || (decide (65 ≤ b.toNat) && decide (b.toNat ≤ 90)) || decide (b.toNat = 95)
def iw (b : UInt8) : Bool := wb b || dg b
def spn (p : UInt8 → Bool) (l : List UInt8) : Nat := (l.takeWhile p).length
theorem spn_le (p : UInt8 → Bool) : ∀ l, spn p l ≤ l.length
 | [] => by simp [spn]
 | a :: l => by
  have := spn_le p l
  simp only [spn, List.takeWhile_cons] at this ⊢
  split
  ·simp at this ⊢; omega
  ·simp
theorem spn_at (p : UInt8 → Bool) : ∀ (l : List UInt8) (k : Nat), (∀ j, j < k → p (l.getD j 0) = true) → k < l.length → p (l.getD k 0) = false → spn p l = k
 | [], k, _, hk, _ => by simp at hk
 | a :: l, 0, _, _, h => by
  have : p a = false := by simpa using h
  simp [spn, List.takeWhile_cons, this]
 | a :: l, k + 1, ha, hk, h => by
  have h0 : p a = true := by simpa using ha 0 (by omega)
  have ih := spn_at p l k (fun j hj => by simpa using ha (j + 1) (by omega)) (by simpa using hk) (by simpa using h)
  unfold spn at ih ⊢
  simp [List.takeWhile_cons, h0, ih]
theorem spn_all (p : UInt8 → Bool) : ∀ (l : List UInt8), (∀ j, j < l.length → p (l.getD j 0) = true) → spn p l = l.length
 | [], _ => rfl
 | a :: l, ha => by
  have h0 : p a = true := by simpa using ha 0 (by simp)
  have ih := spn_all p l (fun j hj => by simpa using ha (j + 1) (by simpa using hj))
  unfold spn at ih ⊢
  simp [List.takeWhile_cons, h0, ih]
theorem spn_in (p : UInt8 → Bool) : ∀ (l : List UInt8) (k : Nat), k < spn p l → p (l.getD k 0) = true
 | [], k, h => by simp [spn] at h
 | a :: l, k, h => by
  unfold spn at h
  rw [List.takeWhile_cons] at h
  split at h
  ·rename_i h0
   cases k with
   | zero => simpa using h0
   | succ k => simpa using spn_in p l k (by unfold spn; simpa using h)
  ·simp at h
theorem spn_len (p : UInt8 → Bool) (l : List UInt8) : spn p l = l.length ↔ l.all p = true := by
 constructor
 ·intro h
  rw [List.all_eq_true]
  intro x hx
  obtain ⟨k, hk, rfl⟩ := List.getElem_of_mem hx
  have := spn_in p l k (by omega)
  simpa [List.getD, hk] using this
 ·intro h
  rw [List.all_eq_true] at h
  exact spn_all p l fun j hj => h _ (by simp [List.getD, hj])
def mkL : List (List UInt8) := [[60, 61], [62, 61], [60, 62], [40], [41], [44], [42], [43], [45], [61], [60], [62]]
def mkOf (l : List UInt8) : Nat := ((mkL.find? fun m => m.isPrefixOf l).map List.length).getD 0
def m1 (c : UInt8) : Bool := 40 == c || 41 == c || 44 == c || 42 == c || 43 == c || 45 == c || 61 == c || 60 == c || 62 == c
def m2 (c d : UInt8) : Bool := (60 == c && (61 == d || 62 == d)) || (62 == c && 61 == d)
theorem mkOf_one (c : UInt8) : mkOf [c] = if m1 c then 1 else 0 := by
 unfold mkOf mkL m1
 simp only [List.find?, List.isPrefixOf, Bool.and_true, Bool.and_false]
 repeat' split
 all_goals simp_all
theorem mkOf_two (c d : UInt8) (r : List UInt8) : mkOf (c :: d :: r) = if m2 c d then 2 else if m1 c then 1 else 0 := by
 unfold mkOf mkL m1 m2
 simp only [List.find?, List.isPrefixOf, Bool.and_true, Bool.and_false]
 repeat' split
 all_goals (try simp_all)
 all_goals (rcases ‹_ ∧ (_ ∨ _) ∨ _ ∧ _› with ⟨h1, h2 | h2⟩ | ⟨h1, h2⟩ <;> simp_all)
theorem mkOf_le : ∀ l, mkOf l ≤ l.length
 | [] => by simp [mkOf, mkL, List.find?, List.isPrefixOf]
 | [c] => by rw [mkOf_one]; split <;> simp
 | c :: d :: r => by
  rw [mkOf_two]
  split
  ·simp
  ·split <;> simp
def txt (k : Int) (l : List UInt8) : Bool :=
 if k = 1 then (!l.isEmpty && !dg (l.getD 0 0)) && l.all iw
 else if k = 2 then l.isEmpty
 else if k = 4 then !l.isEmpty && decide (mkOf l = l.length)
 else true
def tkF (k : Int) (l : List UInt8) (n : Int) : Int :=
 if k < 1 ∨ 4 < k then 2 else if k = 2 ∧ n < 0 then 3 else if (k ≠ 2 ∧ n ≠ 0) ∨ txt k l = false then 6 else 0
def kpL : List (List UInt8) := [[67, 82, 69, 65, 84, 69], [84, 65, 66, 76, 69], [68, 82, 79, 80], [73, 78, 83, 69, 82, 84], [73, 78, 84, 79], [86, 65, 76, 85, 69, 83], [83, 69, 76, 69, 67, 84], [67, 79, 85, 78, 84], [70, 82, 79, 77], [87, 72, 69, 82, 69], [79, 82, 68, 69, 82], [66, 89], [68, 69, 83, 67], [76, 73, 77, 73, 84], [85, 80, 68, 65, 84, 69], [83, 69, 84], [68, 69, 76, 69, 84, 69], [66, 69, 71, 73, 78], [67, 79, 77, 77, 73, 84], [82, 79, 76, 76, 66, 65, 67, 75], [65, 78, 68], [79, 82], [78, 79, 84], [73, 83], [78, 85, 76, 76], [84, 82, 85, 69], [70, 65, 76, 83, 69], [73, 78, 84], [84, 69, 88, 84], [66, 79, 79, 76]]
def kpB (l : List UInt8) : Bool := kpL.contains l
def nmF (l : List UInt8) : Int := if 8 < l.length then 1 else if tkF 1 l 0 ≠ 0 ∨ kpB l = true then 6 else 0
theorem kp_hit {l : List UInt8} {k : Nat} (hk : k < 30) (h : l = kpL.getD k []) : kpB l = true := by
 unfold kpB
 rw [List.contains_iff_mem, h]
 have : k < kpL.length := hk
 rw [List.getD, List.getElem?_eq_getElem this]
 exact List.getElem_mem this
theorem kp_none {l : List UInt8} (h : ∀ k, k < 30 → l ≠ kpL.getD k []) : kpB l = false := by
 unfold kpB
 rw [Bool.eq_false_iff]
 intro hc
 rw [List.contains_iff_mem] at hc
 obtain ⟨k, hk, hx⟩ := List.getElem_of_mem hc
 refine h k hk ?_
 rw [List.getD, List.getElem?_eq_getElem hk]
 exact hx.symm
structure V where
 k : Int
 n : Int
 t : ByteArray
def nmb (k n : Int) : Bool := if k = 1 then (n == 0 || n == 1) else if k = 2 then true else n == 0
def chk (k n : Int) (t : ByteArray) : Int :=
 if k < 0 then 2 else if 3 < k then 2
 else if (k ≠ 3 ∧ t.toList ≠ []) ∨ nmb k n = false then 6
 else if 20 < t.size then 1 else 0
def chk2 (a b : V) : Int := if chk a.k a.n a.t = 0 then chk b.k b.n b.t else chk a.k a.n a.t
def sgn (a b : Int) : Int := if a < b then -1 else if b < a then 1 else 0
def sgs (a b : ByteArray) : Int := if Op.bytesLess a.toList b.toList then -1 else if a.toList = b.toList then 0 else 1
def or3 (a b c : Int) : Int := if a ≠ 0 then a else if b ≠ 0 then b else c
def ord (a b : V) : Int := or3 (sgn a.k b.k) (sgn a.n b.n) (sgs a.t b.t)
def nul : V := ⟨0, 0, ⟨#[]⟩⟩
def tru (b : Bool) : V := ⟨1, if b then 1 else 0, ⟨#[]⟩⟩
def known (a b k : Int) : Bool := (a == k || a == 0) && (b == k || b == 0)
def unk (a b : Int) : Bool := a == 0 || b == 0
def join (a b : V) (d : Int) : V × Int :=
 if known a.k b.k 1 = false then (nul, 4) else if a.k = 1 ∧ a.n = d then (a, 0) else if b.k = 1 ∧ b.n = d then (b, 0) else if unk a.k b.k then (nul, 0) else (tru (d == 0), 0)
def hold (k : Int) (a b : V) : V × Int :=
 if unk a.k b.k then (nul, 0) else if a.k ≠ b.k then (nul, 4) else if k = 7 then (tru (decide (ord a b < 0)), 0) else (tru (ord a b == 0), 0)
def tms (a b : Int) : Int × Bool :=
 if a = 0 then (0, true) else if a = -1 then (wrap64 (-b), b != -9223372036854775808) else (wrap64 (a * b), wrap64 ((wrap64 (a * b)).tdiv a) == b)
def cpt (k a b : Int) : Int × Bool :=
 if k = 8 then (wrap64 (a + b), decide (a < wrap64 (a + b)) == decide (0 < b)) else if k = 9 then (wrap64 (a - b), decide (wrap64 (a - b) < a) == decide (0 < b)) else tms a b
def reck (k : Int) (a b : V) : V × Int :=
 if known a.k b.k 2 = false then (nul, 4) else if unk a.k b.k then (nul, 0) else if (cpt k a.n b.n).2 = false then (nul, 5) else (⟨2, (cpt k a.n b.n).1, ⟨#[]⟩⟩, 0)
def two (k : Int) (a b : V) : V × Int :=
 if chk2 a b ≠ 0 then (nul, chk2 a b) else if k = 3 then join a b 0 else if k = 4 then join a b 1 else if k = 6 then hold 6 a b else if k = 7 then hold 7 a b
 else if k = 8 then reck 8 a b else if k = 9 then reck 9 a b else if k = 10 then reck 10 a b else (nul, 2)
theorem list_of (t : ByteArray) : t.toList = t.data.toList := Lib.toList_data t
theorem empty_of {t : ByteArray} (h : t.toList = []) : t = ⟨#[]⟩ := by
 rw [list_of] at h
 cases t
 simp_all
theorem chk0 {k n : Int} {t : ByteArray} (h : chk k n t = 0) : 0 ≤ k ∧ k ≤ 3 ∧ (k ≠ 3 → t = ⟨#[]⟩) ∧ (k = 0 → n = 0) ∧ (k = 1 → n = 0 ∨ n = 1) ∧ (k = 3 → n = 0) := by
 unfold chk at h
 by_cases h1 : k < 0
 ·rw [if_pos h1] at h; omega
 rw [if_neg h1] at h
 by_cases h2 : 3 < k
 ·rw [if_pos h2] at h; omega
 rw [if_neg h2] at h
 by_cases h3 : (k ≠ 3 ∧ t.toList ≠ []) ∨ nmb k n = false
 ·rw [if_pos h3] at h; omega
 simp only [not_or, not_and, Decidable.not_not] at h3
 obtain ⟨h4, h5⟩ := h3
 refine ⟨by omega, by omega, fun hk => empty_of (h4 hk), ?_, ?_, ?_⟩ <;> (rintro rfl; simp [nmb] at h5; omega)
theorem e_list : (⟨#[]⟩ : ByteArray).toList = [] := by rw [list_of]
theorem kept {w w1 : World} (hb : Below w.heap.size w w1) :
  (∀ b o, b < w.heap.size → w1.cell? ⟨b, o, none⟩ = w.cell? ⟨b, o, none⟩) ∧ (∀ b o, b < w.heap.size → w1.frozen? ⟨b, o, none⟩ = w.frozen? ⟨b, o, none⟩) :=
 ⟨fun b o h => hb.cell (p := ⟨b, o, none⟩) h, fun b o h => hb.frozen (p := ⟨b, o, none⟩) h⟩
theorem into {W w0 w1 : World} (h : Below W.heap.size W w0) (hb : Below w0.heap.size w0 w1) : Below W.heap.size W w1 := h.trans (hb.mono h.size)
theorem ri {a b : Int} (h : a = b) : Ending.returned (.int .i64 a) = .returned (.int .i64 b) := by rw [h]
theorem rb {a b : Bool} (h : a = b) : Ending.returned (.bool a) = .returned (.bool b) := by rw [h]
theorem new0 (w : World) (o : Obj) : (w.alloc o).heap[w.heap.size]? = some o := by
 show (w.heap.push o)[w.heap.size]? = _
 simp
theorem new1 (w : World) (o p : Obj) : ((w.alloc o).alloc p).heap[w.heap.size + 1]? = some p := by
 have h := new0 (w.alloc o) p
 simpa only [World.size_alloc] using h
theorem new2 (w : World) (o p q : Obj) : (((w.alloc o).alloc p).alloc q).heap[w.heap.size + 2]? = some q := by
 have h := new0 ((w.alloc o).alloc p) q
 simpa only [World.size_alloc] using h
theorem has3 {w0 w1 : World} {B : Nat} {t : TypeId} {x y z : Value} (h : w0.heap[B]? = some (.cells #[x, y, z] t (0, 0))) (hb : Below w0.heap.size w0 w1) :
  w1.cell? ⟨B, 0, none⟩ = some x ∧ w1.cell? ⟨B, 1, none⟩ = some y ∧ w1.cell? ⟨B, 2, none⟩ = some z ∧
  w1.frozen? ⟨B, 0, none⟩ = false ∧ w1.frozen? ⟨B, 1, none⟩ = false ∧ w1.frozen? ⟨B, 2, none⟩ = false := by
 have hB : B < w0.heap.size := by
  rcases Nat.lt_or_ge B w0.heap.size with g | g
  ·exact g
  ·rw [Array.getElem?_eq_none g] at h; cases h
 have h1 : w1.heap[B]? = some (.cells #[x, y, z] t (0, 0)) := (hb.block B hB).trans h
 refine ⟨?_, ?_, ?_, ?_, ?_, ?_⟩ <;> simp [World.cell?, World.frozen?, h1]
def bc (l : List UInt8) : List Value := l.map fun b => .int .u8 (b.toNat : Int)
theorem bc_app (l m : List UInt8) : bc (l ++ m) = bc l ++ bc m := by simp [bc]
theorem bc_length (l : List UInt8) : (bc l).length = l.length := by simp [bc]
theorem one_one {x : Value} (h : x.oneCell' = true) : ∀ u ∈ [x], u.oneCell' = true := by
 intro u hu
 simp at hu
 subst hu
 exact h
def Rd (w : World) (s n : Nat) (v : Value) (xs : List Value) : Prop :=
 xs.length = n * s ∧ ∃ ao cap, v = .slice ao n cap ∧ n ≤ cap ∧ cap ≤ maxLen ∧ (ao = none → n = 0 ∧ cap = 0) ∧ ∀ a, ao = some a → ∀ j u, xs[j]? = some u → w.cell? (a.add j) = some u
theorem lt_cell {w : World} {a : Addr} {u : Value} (h : w.cell? a = some u) : a.block < w.heap.size := World.block_lt_of_cell? w a h
theorem Rd.below {w w' : World} {s n : Nat} {v : Value} {xs : List Value} (h : Rd w s n v xs) (hb : Below w.heap.size w w') : Rd w' s n v xs := by
 obtain ⟨h1, ao, cap, h2, h3, h4, h5, h6⟩ := h
 exact ⟨h1, ao, cap, h2, h3, h4, h5, fun a ha j u hu => (hb.cell (lt_cell (h6 a ha j u hu))).trans (h6 a ha j u hu)⟩
theorem Rd.nil (w : World) (s : Nat) : Rd w s 0 (.slice none 0 0) [] := ⟨by simp, none, 0, rfl, Nat.le_refl _, by unfold maxLen; omega, fun _ => ⟨rfl, rfl⟩, fun a ha => by cases ha⟩
theorem Rd.own {w : World} {B e s n : Nat} {v : Value} {xs : List Value} (h : w.ownsRow B e s v n xs) : Rd w s n v xs := by
 refine ⟨h.1, ?_⟩
 rcases h.2 with ⟨rfl, rfl⟩ | ⟨g, cap, cur, rfl, h1, h2, h3, h4, h5, h6⟩
 ·exact ⟨none, 0, rfl, Nat.le_refl _, by unfold maxLen; omega, fun _ => ⟨rfl, rfl⟩, fun a ha => by cases ha⟩
 ·refine ⟨_, cap, rfl, h3, h4, fun h => (by cases h), fun a ha j u hu => ?_⟩
  obtain rfl := Option.some.inj ha
  exact h.cells rfl j u hu
theorem Rd.zero {w : World} {s : Nat} {v : Value} {xs : List Value} (h : Rd w s 0 v xs) : xs = [] ∧ ∃ ao cap, v = .slice ao 0 cap ∧ cap ≤ maxLen := by
 obtain ⟨h1, ao, cap, h2, h3, h4, h5, h6⟩ := h
 exact ⟨List.eq_nil_of_length_eq_zero (by simpa using h1), ao, cap, h2, h4⟩
theorem Rd.pos {w : World} {s n : Nat} {v : Value} {xs : List Value} (h : Rd w s n v xs) (hn : 0 < n) (hs : 0 < s) :
  ∃ b o cap, v = .slice (some ⟨b, o, none⟩) n cap ∧ n ≤ cap ∧ cap ≤ maxLen ∧ b < w.heap.size ∧ ∀ j u, xs[j]? = some u → w.cell? ⟨b, o + j, none⟩ = some u := by
 obtain ⟨h1, ao, cap, h2, h3, h4, h5, h6⟩ := h
 cases ao with
 | none => exact absurd (h5 rfl).1 (by omega)
 | some a =>
  have hx : 0 < xs.length := by rw [h1]; exact Nat.mul_pos hn hs
  have h0 := h6 a rfl 0 xs[0] (List.getElem?_eq_getElem hx)
  have hsp := World.cell?_spot h0
  obtain ⟨b, o, sp⟩ := a
  have hsp' : sp = none := by simpa [Addr.add] using hsp
  subst hsp'
  refine ⟨b, o, cap, h2, h3, h4, lt_cell h0, fun j u hu => ?_⟩
  have := h6 _ rfl j u hu
  rwa [Addr.add_lit] at this
theorem Rd.len {w : World} {s n : Nat} {v : Value} {xs : List Value} (h : Rd w s n v xs) : n ≤ maxLen := by
 obtain ⟨_, _, _, _, h3, h4, _⟩ := h
 omega
theorem Rd.drop {w : World} {s n : Nat} {ao : Option Addr} {cap : Nat} {xs : List Value} (h : Rd w s n (.slice ao n cap) xs) (l : Nat) (hl : l ≤ n) :
  Rd w s (n - l) (sliced ao l n cap s) (xs.drop (l * s)) := by
 obtain ⟨h1, ao', cap', h2, h3, h4, h5, h6⟩ := h
 simp only [Value.slice.injEq] at h2
 obtain ⟨rfl, -, rfl⟩ := h2
 refine ⟨by rw [List.length_drop, h1, Nat.sub_mul], _, _, rfl, by omega, by omega, ?_, ?_⟩
 ·intro ha
  split at ha
  ·rename_i hc; omega
  ·rw [Option.map_eq_none_iff] at ha
   have := h5 ha
   omega
 ·intro a ha j u hu
  rw [List.getElem?_drop] at hu
  split at ha
  ·rename_i hc
   have hj : l * s + j < xs.length := (List.getElem?_eq_some_iff.1 hu).1
   have : n = l := by omega
   subst this
   omega
  ·obtain ⟨a0, rfl, rfl⟩ := Option.map_eq_some_iff.1 ha
   rw [Go.Deep.add_add]
   exact h6 a0 rfl _ _ hu
theorem Rd.take {w : World} {s n : Nat} {ao : Option Addr} {cap : Nat} {xs : List Value} (h : Rd w s n (.slice ao n cap) xs) (k : Nat) (hk : k ≤ n) :
  Rd w s k (.slice ao k cap) (xs.take (k * s)) := by
 obtain ⟨h1, ao', cap', h2, h3, h4, h5, h6⟩ := h
 simp only [Value.slice.injEq] at h2
 obtain ⟨rfl, -, rfl⟩ := h2
 refine ⟨?_, _, _, rfl, by omega, by omega, fun ha => ?_, fun a ha j u hu => ?_⟩
 ·rw [List.length_take, h1]
  exact Nat.min_eq_left (Nat.mul_le_mul_right _ hk)
 ·have := h5 ha; omega
 ·rw [List.getElem?_take] at hu
  split at hu
  ·exact h6 a ha j u hu
  ·cases hu
theorem own_below {w w' : World} {B e s n : Nat} {v : Value} {xs : List Value} (h : w.ownsRow B e s v n xs) (hb : Below w.heap.size w w') : w'.ownsRow B e s v n xs := by
 refine ⟨h.1, ?_⟩
 rcases h.2 with h0 | ⟨g, cap, cur, hv, h1, h2, h3⟩
 ·exact .inl h0
 ·exact .inr ⟨g, cap, cur, hv, h1, (hb.block g (Array.getElem?_eq_some_iff.1 h2).1).trans h2, h3⟩
theorem own_ge {w : World} {B e s n : Nat} {v : Value} {xs : List Value} (h : w.ownsRow B e s v n xs) : ∀ k, v.ownBlock = some k → B ≤ k := fun k hk => (h.lt k hk).1
theorem own_mono {w : World} {B B' e s n : Nat} {v : Value} {xs : List Value} (h : w.ownsRow B e s v n xs) (hB : B' ≤ B) : w.ownsRow B' e s v n xs := by
 refine ⟨h.1, ?_⟩
 rcases h.2 with h0 | ⟨g, cap, cur, hv, h1, h2, h3⟩
 ·exact .inl h0
 ·exact .inr ⟨g, cap, cur, hv, Nat.le_trans hB h1, h2, h3⟩
theorem new_cells (w : World) (cs : List Value) (t : TypeId) : ∀ j u, cs[j]? = some u → (w.alloc (.cells cs.toArray t)).cell? ((⟨w.heap.size, 0, none⟩ : Addr).add j) = some u :=
 World.news_of_block (cs := cs.toArray) (heap_alloc_new w _)
section
variable {ops : Array Oper} {rest : List Oper} {o : Oper} {a : Act} {Q : Exit → Act → World → Prop}
theorem apg (w : World) (m : Nat) (hgd : o.guard = none) (s x : Operand) (t e : TypeId) (z : Value) (size bytes : Nat) (ht : Tryd.prog.underlying t = some (.slice e)) (hinf : (Tryd.prog.info? e).map (fun i => (i.zero, i.size, i.bytes)) = some (some z, size, bytes)) (hzs : z.cells.size = size) (hsz : 0 < size)
  (ho : o.op = .call { callee := .builtin .append, args := #[s, x], argTypes := #[t, t] })
  {B n : Nat} {v u : Value} {xs news : List Value} (hown : w.ownsRow B e size v n xs) (hB : B ≤ w.heap.size) (hnm : (n + m) * bytes ≤ 140737488355328) (h63 : n + m ≤ maxLen) (hX : ∀ u ∈ news, u.oneCell' = true) (hr : Rd w size m u news)
  (hs : a.eval s = v) (hx : a.eval x = u)
  (h : ∀ v' w', w'.ownsRow B e size v' (n + m) (xs ++ news) → Below B w w' → w.grownBy w' v.ownBlock → wpList Tryd.prog ops Q rest (a.put o.dst v') w') : wpList Tryd.prog ops Q (o :: rest) a w := by
 obtain ⟨i0, hi, hz0, hz1, hz2⟩ := info_parts hinf
 obtain ⟨hl, ao, cap, rfl, h2, h3, h4, h5⟩ := hr
 cases ao with
 | none =>
  obtain ⟨rfl, rfl⟩ := h4 rfl
  have hn : news = [] := List.eq_nil_of_length_eq_zero (by simpa using hl)
  subst hn
  refine wpList_plain hgd fun K hK' => ?_
  have hrun := run_append_owned_none (P := Tryd.prog) w B t o.type e i0 size ht hi _ n xs hown
  unfold Oper.wp
  simp [execOp, ho, resolve, invoke, builtin, hs, hx, hrun, Result.andThen]
  exact hK' _ _ (h v w (by simpa using hown) (Below.refl _ _) (World.grownBy.refl _ _))
 | some ad =>
  refine wpList_append_own_at w hgd s x _ ho B e i0 z size bytes ht hi hz0 hz1 hz2 hzs hsz v n xs hs hown ad m cap news hx hl (h5 ad rfl) hX h63 hnm hB ?_
  intro v' w' h1 h2 h3 h4
  exact h v' w' h1 ((Below.refl B w).grown h2 hB (own_ge hown)) h2
end
theorem Tryd.info5 : (Tryd.prog.info? 5).map (fun i => (i.zero, i.size, i.bytes)) = some (some (.int .u8 0), 1, 1) := by kernel_rfl
theorem str_of {w : World} {n : Nat} {v : Value} {l : List UInt8} (h : Rd w 1 n v (bc l)) : (convert 76 9 v).run Tryd.prog w = .ok (.string ⟨l.toArray⟩) w := by
 obtain ⟨h1, ao, cap, rfl, h3, h4, h5, h6⟩ := h
 have hn : n = l.length := by rw [bc_length] at h1; omega
 subst hn
 cases ao with
 | none =>
  have := (h5 rfl).1
  have hl : l = [] := List.eq_nil_of_length_eq_zero this
  subst hl
  exact run_convert_bytes_nil w _ _ Tryd.underlying76 Tryd.underlying5 _ _ _ Tryd.underlying9
 | some a =>
  refine run_convert_bytes_back w _ _ _ a cap l Tryd.underlying76 Tryd.underlying5 Tryd.underlying9 fun j hj => ?_
  refine h6 a rfl j _ ?_
  simp [bc, hj]
section
variable {ops : Array Oper} {rest : List Oper} {o : Oper} {a : Act} {Q : Exit → Act → World → Prop}
theorem apk (w : World) (m : Nat) (hgd : o.guard = none) (s x : Operand) (ho : o.op = .call { callee := .builtin .append, args := #[s, x], argTypes := #[76, 76] })
  {B n : Nat} {v : Value} {xs : List Value} (hown : w.ownsRow B 5 1 v n xs) (hB : B ≤ w.heap.size) (hn : n + m ≤ 1000000000) (news : List Value) (hl : news.length = m) (hX : ∀ u ∈ news, u.oneCell' = true)
  (H : Nat) (hH : w.heap.size = H) (hs : a.eval s = v) (hx : a.eval x = .slice (some ⟨H, 0, none⟩) m m)
  (h : ∀ v' w', w'.ownsRow B 5 1 v' (n + m) (xs ++ news) → Below B w w' → w.grownBy w' v.ownBlock → wpList Tryd.prog ops Q rest (a.put o.dst v') w') : wpList Tryd.prog ops Q (o :: rest) a (w.alloc (.cells news.toArray 5)) := by
 subst hH
 obtain ⟨i0, hi, hz0, hz1, hz2⟩ := info_parts Tryd.info5
 refine wpList_append_own_at _ hgd s x _ ho B 5 i0 (.int .u8 0) 1 1 Tryd.underlying76 hi hz0 hz1 hz2 rfl (by decide) v n xs hs (hown.alloc _) _ m m news hx (by omega) (new_cells w news _) hX (by unfold maxLen; omega) (by omega) (by simp; omega) ?_
 intro v' w' h1 h2 h3 h4
 have hg : w.grownBy w' v.ownBlock := (World.grownBy_alloc w _ _).trans h2
 exact h v' w' h1 ((Below.refl B w).grown hg hB (own_ge hown)) hg
theorem ap1 (w : World) (hgd : o.guard = none) (s x : Operand) (ho : o.op = .call { callee := .builtin .append, args := #[s, x], argTypes := #[76, 76] })
  {B n : Nat} {v : Value} {xs : List Value} (hown : w.ownsRow B 5 1 v n xs) (hB : B ≤ w.heap.size) (hn : n ≤ 999999999) {X : Value} (hX : X.oneCell' = true)
  (H : Nat) (hH : w.heap.size = H) (hs : a.eval s = v) (hx : a.eval x = .slice (some ⟨H, 0, none⟩) 1 1)
  (h : ∀ v' w', w'.ownsRow B 5 1 v' (n + 1) (xs ++ [X]) → Below B w w' → w.grownBy w' v.ownBlock → wpList Tryd.prog ops Q rest (a.put o.dst v') w') : wpList Tryd.prog ops Q (o :: rest) a (w.alloc (.cells #[X] 5)) :=
 apk w 1 hgd s x ho hown hB (by omega) [X] rfl (one_one hX) H hH hs hx h
end
open Go.Lib (index count replaceK replaceAll replace replaceNum)
def q1 : List UInt8 := [39]
def q2 : List UInt8 := [39, 39]
theorem q12 : (q1 == q2) = false := by decide
def numF (a : Nat) (l : List UInt8) : Nat := l.foldl (fun a c => a * 10 + (c.toNat - 48)) a
attribute [irreducible] numF
structure Tk where
 k : Int
 t : List UInt8
 n : Int
deriving DecidableEq
end Go.Proofs.YtdeollmeljaaoaaDoor
