import Derived.Test.YtakhkcabahhohaaDoorE1
import Derived.Test.YtakhkcabahhohaaDoorD5
namespace Go.Proofs.YtakhkcabahhohaaDoor
open Go.ChangeShapes Go.WideShapes Go.ChangeAt Go.RowKit
set_option linter.unusedVariables false
set_option linter.unusedSimpArgs false
set_option maxHeartbeats 2000000
set_option maxRecDepth 100000
theorem un_one (x : UInt8) : unesc [x] = [x] := by rw [unesc]
theorem un_len : ∀ l : List UInt8, (unesc l).length ≤ l.length
  | [] => by simp [unesc]
  | [x] => by simp [unesc]
  | x :: y :: r => by
    rw [unesc]
    split
    · have := un_len r; simp only [List.length_cons]; omega
    · have := un_len (y :: r); simp only [List.length_cons] at this ⊢; omega
termination_by l => l.length
/-- A part of a list, from one place to another. -/
def part (l : List UInt8) (p e : Nat) : List UInt8 := (l.drop p).take (e - p)
theorem part_end {l : List UInt8} {p e : Nat} (h : e ≤ p) : part l p e = [] := by simp [part, Nat.sub_eq_zero_of_le h]
theorem part_cons {l : List UInt8} {p e : Nat} (h : p < e) (hl : p < l.length) : part l p e = l.getD p 0 :: part l (p + 1) e := by
  unfold part
  rw [drop_one hl, show e - p = (e - (p + 1)) + 1 by omega, List.take_succ_cons]
theorem part_zero {l : List UInt8} {p e : Nat} (h : p < e) (hl : e ≤ l.length) (h0 : l.getD p 0 = 0) : unesc (part l p e) = 0 :: unesc (part l (p + 2) e) := by
  rw [part_cons h (by omega), h0]
  by_cases h2 : p + 1 < e
  · rw [part_cons h2 (by omega), unesc, if_pos rfl]
  · rw [part_end (by omega), part_end (by omega)]
    simp [unesc]
theorem part_byte {l : List UInt8} {p e : Nat} (h : p < e) (hl : e ≤ l.length) (h0 : l.getD p 0 ≠ 0) : unesc (part l p e) = l.getD p 0 :: unesc (part l (p + 1) e) := by
  rw [part_cons h (by omega)]
  by_cases h2 : p + 1 < e
  · rw [part_cons h2 (by omega), unesc, if_neg h0]
  · rw [part_end (by omega)]
    simp [unesc]
/-- A text, as the reference reads it. -/
theorem takT_ref (l : List UInt8) (p : Nat) : takT (l.drop p) = match tend (l.drop p) with
    | none => (nul, [], 6)
    | some e => if 20 < (unesc (part l p (p + e))).length then (nul, [], 1) else (⟨3, 0, ⟨(unesc (part l p (p + e))).toArray⟩⟩, l.drop (p + e + 2), 0) := by
  unfold takT
  rw [scan_tend]
  cases h : tend (l.drop p) with
  | none => simp
  | some e =>
    have e1 : (l.drop p).take e = part l p (p + e) := by simp [part]
    have e2 : (l.drop p).drop (e + 2) = l.drop (p + e + 2) := by rw [List.drop_drop, Nat.add_assoc]
    simp only [List.length_nil, Nat.zero_add, List.nil_append, e1, e2]
    by_cases h20 : 20 < (unesc (part l p (p + e))).length <;> simp [h20]
/-- What the round of decoding comes to. -/
theorem dec_round {l : List UInt8} {p q : Nat} {acc : List V} {k : UInt8} {r : List UInt8} (hd : l.drop p = k :: r) (hq : acc.length = q) (h6 : q < 6) (hf : fin acc (decm (6 - q) (l.drop p)) = decm 6 l) :
    ((tak k r).2.2 ≠ 0 → decm 6 l = ([], (tak k r).2.2)) ∧ ((tak k r).2.2 = 0 → fin (acc ++ [(tak k r).1]) (decm (6 - (q + 1)) (tak k r).2.1) = decm 6 l) := by
  have e6 : 6 - q = (6 - (q + 1)) + 1 := by omega
  rw [hd, e6] at hf
  refine ⟨fun h => ?_, fun h => ?_⟩
  · rw [← hf, decm, if_pos h]
    simp [fin, h]
  · rw [← hf, fin_step _ _ _ _ h]
/-- The seven bytes of a number behind its first one. -/
theorem num_fold (a : Int) : ∀ l : List UInt8, l.foldl (fun n x => n * 256 + (x.toNat : Int)) a = a * 256 ^ l.length + (hor l : Int)
  | [] => by simp [hor]
  | x :: l => by
    rw [List.foldl_cons, num_fold _ l, hor, List.length_cons]
    have : ((x.toNat * 256 ^ l.length + hor l : Nat) : Int) = (x.toNat : Int) * 256 ^ l.length + (hor l : Int) := by
      rw [Int.natCast_add, Int.natCast_mul, Int.natCast_pow]
      rfl
    rw [this, Int.pow_succ, Int.add_mul, Int.mul_assoc, Int.mul_comm 256 (256 ^ l.length), Int.add_assoc]
/-- The number behind some bytes of a number. -/
def numf (a : Int) (l : List UInt8) : Int := l.foldl (fun n x => n * 256 + (x.toNat : Int)) a
theorem numf_next (a : Int) (l : List UInt8) (x : UInt8) : numf a (l ++ [x]) = numf a l * 256 + (x.toNat : Int) := by simp [numf]
theorem fold_bound (a : Int) (l : List UInt8) (h1 : -128 ≤ a) (h2 : a ≤ 127) (hl : l.length ≤ 6) : -36028797018963968 ≤ numf a l ∧ numf a l < 36028797018963968 := by
  rw [numf, num_fold]
  have h := hor_lt l
  have hc : l.length = 0 ∨ l.length = 1 ∨ l.length = 2 ∨ l.length = 3 ∨ l.length = 4 ∨ l.length = 5 ∨ l.length = 6 := by omega
  rcases hc with e | e | e | e | e | e | e <;> rw [e] at h ⊢ <;> simp at h ⊢ <;> omega
theorem numf_all (x : UInt8) (l : List UInt8) (hl : l.length = 7) : numf ((x.toNat : Int) - 128) l = num8 (x :: l) := by
  rw [numf, num_fold, num8, hor, hl]
  have : ((x.toNat * 256 ^ 7 + hor l : Nat) : Int) = (x.toNat : Int) * 256 ^ 7 + (hor l : Int) := by
    rw [Int.natCast_add, Int.natCast_mul, Int.natCast_pow]
    rfl
  rw [this]
  simp
  omega
end Go.Proofs.YtakhkcabahhohaaDoor
