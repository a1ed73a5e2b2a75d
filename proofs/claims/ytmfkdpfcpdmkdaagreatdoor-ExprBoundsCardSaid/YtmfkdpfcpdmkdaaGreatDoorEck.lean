import Derived.Test.YtmfkdpfcpdmkdaaGreatDoorPnk
import Derived.Test.YtmfkdpfcpdmkdaaGreatDoorQtk
/- Plain functions on keys: what codec.Encode and codec.Decode come to, and what holds of them. No program in sight. -/
namespace Go.Proofs.YtmfkdpfcpdmkdaaGreatDoor
set_option linter.unusedVariables false
set_option linter.unusedSimpArgs false
open Go.RowKit

/-- The lowest k bytes of a number, the highest one first. -/
def be : Nat → Nat → List UInt8
  | 0, _ => []
  | k + 1, m => UInt8.ofNat (m / 256 ^ k % 256) :: be k m
/-- A number's eight bytes. -/
def be8 (n : Int) : List UInt8 := be 8 (n + 9223372036854775808).toNat
/-- A text's bytes, 255 behind each 0. -/
def esc : List UInt8 → List UInt8
  | [] => []
  | b :: r => if b = 0 then 0 :: 255 :: esc r else b :: esc r
/-- What a value has behind its kind. -/
def tail1 (v : V) : List UInt8 :=
  if v.k = 1 then [UInt8.ofNat v.n.toNat] else if v.k = 2 then be8 v.n else if v.k = 3 then esc v.t.toList ++ [0, 0] else []
def enc1 (v : V) : List UInt8 := UInt8.ofNat v.k.toNat :: tail1 v
def encs : List V → List UInt8
  | [] => []
  | v :: l => enc1 v ++ encs l
/-- What is refused first of some values. -/
def bad : List V → Int
  | [] => 0
  | v :: l => if chk v.k v.n v.t ≠ 0 then chk v.k v.n v.t else bad l
/-- What Encode answers. -/
def enc (l : List V) : List UInt8 × Int :=
  if 6 < l.length then ([], 1) else if bad l ≠ 0 then ([], bad l) else if 100 < (encs l).length then ([], 5) else (encs l, 0)

/-- A number out of its bytes. -/
def hor : List UInt8 → Nat
  | [] => 0
  | x :: r => x.toNat * 256 ^ r.length + hor r
def num8 (l : List UInt8) : Int := (hor l : Int) - 9223372036854775808
/-- How many bytes a kind has at least. -/
def lst (k : Nat) : Nat := if k = 1 then 1 else if k = 2 then 8 else if k = 3 then 2 else 0
/-- A text, what is behind it, and what is wrong. -/
def scan : List UInt8 → List UInt8 → List UInt8 × List UInt8 × Int
  | [], _ => ([], [], 6)
  | [_], _ => ([], [], 6)
  | x :: y :: r, acc =>
    if x ≠ 0 then scan (y :: r) (acc ++ [x]) else if y = 255 then scan r (acc ++ [0]) else if y ≠ 0 then ([], [], 6) else if 20 < acc.length then ([], [], 1) else (acc, r, 0)
termination_by l => l.length
/-- The first value of a key. -/
def tak (k : UInt8) (rest : List UInt8) : V × List UInt8 × Int :=
  if 3 < k.toNat then (nul, [], 2) else if rest.length < lst k.toNat then (nul, [], 7)
  else if k.toNat = 1 then (if 1 < (rest.headD 0).toNat then (nul, [], 6) else (⟨1, (rest.headD 0).toNat, ⟨#[]⟩⟩, rest.drop 1, 0))
  else if k.toNat = 2 then (⟨2, num8 (rest.take 8), ⟨#[]⟩⟩, rest.drop 8, 0)
  else if k.toNat = 3 then (if (scan rest []).2.2 = 0 then (⟨3, 0, ⟨(scan rest []).1.toArray⟩⟩, (scan rest []).2.1, 0) else (nul, [], (scan rest []).2.2))
  else (nul, rest, 0)
def decm : Nat → List UInt8 → List V × Int
  | _, [] => ([], 0)
  | 0, _ :: _ => ([], 1)
  | m + 1, k :: r => if (tak k r).2.2 ≠ 0 then ([], (tak k r).2.2) else if (decm m (tak k r).2.1).2 ≠ 0 then ([], (decm m (tak k r).2.1).2) else ((tak k r).1 :: (decm m (tak k r).2.1).1, 0)
/-- What Decode answers. -/
def dec (b : List UInt8) : List V × Int := if 100 < b.length then ([], 5) else decm 6 b

/-- Is a value one that may be? -/
def Ok (v : V) : Prop := chk v.k v.n v.t = 0 ∧ (-9223372036854775808 ≤ v.n ∧ v.n ≤ 9223372036854775807)

theorem be_length : ∀ k m, (be k m).length = k
  | 0, _ => rfl
  | k + 1, m => by simp [be, be_length k m]
theorem hor_lt : ∀ l : List UInt8, hor l < 256 ^ l.length
  | [] => by simp [hor]
  | x :: r => by
    have h := hor_lt r
    have hx : x.toNat < 256 := x.toNat_lt
    simp only [hor, List.length_cons, Nat.pow_succ]
    have : x.toNat * 256 ^ r.length ≤ 255 * 256 ^ r.length := Nat.mul_le_mul_right _ (by omega)
    omega
theorem hor_be : ∀ k m, hor (be k m) = m % 256 ^ k
  | 0, m => by simp [hor, be, Nat.mod_one]
  | k + 1, m => by
    have h := hor_be k m
    simp only [be, hor, h, be_length]
    have e : (UInt8.ofNat (m / 256 ^ k % 256)).toNat = m / 256 ^ k % 256 := by simp
    rw [e, Nat.pow_succ, Nat.mod_mul, Nat.mul_comm (256 ^ k), Nat.add_comm]
theorem be_hor : ∀ (l : List UInt8) (q : Nat), be l.length (q * 256 ^ l.length + hor l) = l
  | [], q => rfl
  | x :: r, q => by
    have h := be_hor r (q * 256 + x.toNat)
    have hr := hor_lt r
    have hx : x.toNat < 256 := x.toNat_lt
    simp only [List.length_cons, be, hor, Nat.pow_succ]
    have e : q * (256 ^ r.length * 256) + (x.toNat * 256 ^ r.length + hor r) = (q * 256 + x.toNat) * 256 ^ r.length + hor r := by
      rw [Nat.add_mul, Nat.mul_comm (256 ^ r.length) 256, Nat.mul_assoc]
      omega
    rw [e, h]
    have hd : ((q * 256 + x.toNat) * 256 ^ r.length + hor r) / 256 ^ r.length = q * 256 + x.toNat := by
      rw [Nat.mul_comm, Nat.mul_add_div (Nat.pow_pos (by omega)), Nat.div_eq_of_lt hr, Nat.add_zero]
    rw [hd]
    have : (q * 256 + x.toNat) % 256 = x.toNat := by omega
    rw [this]
    simp
/-- The bytes of numbers stand in their order. -/
theorem be_less : ∀ (k m m' : Nat) (r s : List UInt8), m % 256 ^ k < m' % 256 ^ k → Op.bytesLess (be k m ++ r) (be k m' ++ s) = true
  | 0, m, m', r, s, h => by simp [Nat.mod_one] at h
  | k + 1, m, m', r, s, h => by
    simp only [be, List.cons_append, Op.bytesLess, Bool.or_eq_true, Bool.and_eq_true, decide_eq_true_eq, beq_iff_eq, UInt8.lt_iff_toNat_lt]
    have e : ∀ x, (UInt8.ofNat (x / 256 ^ k % 256)).toNat = x / 256 ^ k % 256 := fun x => by simp
    rw [e, e]
    rw [Nat.pow_succ, Nat.mod_mul, Nat.mod_mul] at h
    have h1 : m % 256 ^ k < 256 ^ k := Nat.mod_lt _ (Nat.pow_pos (by omega))
    have h2 : m' % 256 ^ k < 256 ^ k := Nat.mod_lt _ (Nat.pow_pos (by omega))
    rcases Nat.lt_trichotomy (m / 256 ^ k % 256) (m' / 256 ^ k % 256) with g | g | g
    · exact .inl g
    · refine .inr ⟨by rw [g], be_less k m m' r s ?_⟩
      rw [g] at h
      omega
    · exfalso
      have : 256 ^ k * (m' / 256 ^ k % 256 + 1) ≤ 256 ^ k * (m / 256 ^ k % 256) := Nat.mul_le_mul_left _ g
      rw [Nat.mul_add] at this
      omega

theorem bl_app : ∀ p x y : List UInt8, Op.bytesLess (p ++ x) (p ++ y) = Op.bytesLess x y
  | [], x, y => rfl
  | a :: p, x, y => by
    have : ¬ a < a := by rw [UInt8.lt_iff_toNat_lt]; omega
    simp [Op.bytesLess, bl_app p x y, this]
theorem bl_one {a b : UInt8} (h : a.toNat < b.toNat) (x y : List UInt8) : Op.bytesLess (a :: x) (b :: y) = true := by
  simp [Op.bytesLess, UInt8.lt_iff_toNat_lt, h]
theorem z_lt {b : UInt8} (h : b ≠ 0) : (0 : UInt8).toNat < b.toNat := by
  have : b.toNat ≠ 0 := fun g => h (UInt8.toNat_inj.1 (by simpa using g))
  simp
  omega
theorem esc_less : ∀ (x y r s : List UInt8), Op.bytesLess x y = true → Op.bytesLess (esc x ++ 0 :: 0 :: r) (esc y ++ 0 :: 0 :: s) = true
  | x, [], r, s => fun h => by cases x <;> simp [Op.bytesLess] at h
  | [], b :: y, r, s => fun _ => by
    by_cases hb : b = 0
    · subst hb
      simp [esc, Op.bytesLess]
    · simp only [esc, if_neg hb, List.nil_append, List.cons_append]
      exact bl_one (z_lt hb) _ _
  | a :: x, b :: y, r, s => fun h => by
    simp only [Op.bytesLess, Bool.or_eq_true, Bool.and_eq_true, decide_eq_true_eq, beq_iff_eq] at h
    rcases h with h | ⟨rfl, h⟩
    · rw [UInt8.lt_iff_toNat_lt] at h
      have hb : b ≠ 0 := by rintro rfl; simp at h
      by_cases ha : a = 0
      · subst ha
        simp only [esc, if_neg hb, List.cons_append]
        exact bl_one h _ _
      · simp only [esc, if_neg hb, if_neg ha, List.cons_append]
        exact bl_one h _ _
    · have := esc_less x y r s h
      by_cases ha : a = 0
      · subst ha
        simpa [esc, Op.bytesLess] using this
      · have hn : ¬ a < a := by rw [UInt8.lt_iff_toNat_lt]; omega
        simpa [esc, ha, Op.bytesLess, hn] using this
/-- A text that was written is read. -/
theorem scan_esc : ∀ (x acc r : List UInt8), scan (esc x ++ 0 :: 0 :: r) acc = if 20 < acc.length + x.length then ([], [], 1) else (acc ++ x, r, 0)
  | [], acc, r => by rw [esc, List.nil_append, scan]; simp
  | b :: x, acc, r => by
    by_cases hb : b = 0
    · subst hb
      have := scan_esc x (acc ++ [0]) r
      simp only [esc, if_true, List.cons_append, scan]
      simp only [this]
      simp [Nat.add_assoc, Nat.add_comm 1]
    · have := scan_esc x (acc ++ [b]) r
      simp only [esc, if_neg hb, List.cons_append]
      have hne : ∃ y z, esc x ++ 0 :: 0 :: r = y :: z := by
        cases h : esc x ++ 0 :: 0 :: r with
        | nil => simp at h
        | cons y z => exact ⟨y, z, rfl⟩
      obtain ⟨y, z, hyz⟩ := hne
      rw [hyz] at this ⊢
      rw [scan, if_pos hb, this]
      simp [Nat.add_assoc, Nat.add_comm 1]
/-- What is read as a text was written as one. -/
theorem scan_is : ∀ (b acc : List UInt8), (scan b acc).2.2 = 0 → ∃ x r, b = esc x ++ 0 :: 0 :: r ∧ acc.length + x.length ≤ 20 ∧ scan b acc = (acc ++ x, r, 0)
  | [], acc => fun h => by rw [scan] at h; simp at h
  | [_], acc => fun h => by rw [scan] at h; simp at h
  | x :: y :: r, acc => fun h => by
    rw [scan] at h ⊢
    by_cases hx : x ≠ 0
    · rw [if_pos hx] at h ⊢
      obtain ⟨t, s, h1, h2, h3⟩ := scan_is (y :: r) (acc ++ [x]) h
      refine ⟨x :: t, s, ?_, ?_, ?_⟩
      · rw [esc, if_neg hx, h1]; rfl
      · simpa [Nat.add_assoc, Nat.add_comm 1] using h2
      · rw [h3]; simp
    · rw [if_neg hx] at h ⊢
      have hx0 : x = 0 := by simpa using hx
      by_cases hy : y = 255
      · rw [if_pos hy] at h ⊢
        obtain ⟨t, s, h1, h2, h3⟩ := scan_is r (acc ++ [0]) h
        refine ⟨0 :: t, s, ?_, ?_, ?_⟩
        · rw [esc, if_pos rfl, h1, hx0, hy]; rfl
        · simpa [Nat.add_assoc, Nat.add_comm 1] using h2
        · rw [h3]; simp
      · rw [if_neg hy] at h ⊢
        by_cases hy0 : y ≠ 0
        · rw [if_pos hy0] at h; simp at h
        · rw [if_neg hy0] at h ⊢
          by_cases hl : 20 < acc.length
          · rw [if_pos hl] at h; simp at h
          · rw [if_neg hl] at h ⊢
            have hy1 : y = 0 := by simpa using hy0
            exact ⟨[], r, by rw [hx0, hy1]; rfl, by simpa using hl, by simp⟩
termination_by b => b.length

theorem kind_of {v : V} (h : Ok v) : (UInt8.ofNat v.k.toNat).toNat = v.k.toNat ∧ (v.k.toNat : Int) = v.k ∧ v.k.toNat ≤ 3 := by
  obtain ⟨h0, h3, _⟩ := chk0 h.1
  have : v.k.toNat ≤ 3 := by omega
  refine ⟨?_, by omega, this⟩
  simp
  omega
theorem size_list (t : ByteArray) : t.toList.length = t.size := by rw [list_of]; rfl
theorem back_list (t : ByteArray) : (⟨t.toList.toArray⟩ : ByteArray) = t := by rw [list_of]
theorem text_size {v : V} (h : Ok v) : v.t.size ≤ 20 := by
  have h1 := h.1
  unfold chk at h1
  split at h1
  · omega
  split at h1
  · omega
  split at h1
  · omega
  split at h1 <;> omega
/-- A KEY TELLS ITS FIRST VALUE. -/
theorem tak_enc {v : V} (h : Ok v) (r : List UInt8) : tak (UInt8.ofNat v.k.toNat) (tail1 v ++ r) = (v, r, 0) := by
  obtain ⟨h0, h3, ht, hn0, hn1, hn3⟩ := chk0 h.1
  obtain ⟨hk, hki, hk3⟩ := kind_of h
  have hts := text_size h
  unfold tak
  rw [hk, if_neg (by omega)]
  obtain ⟨k, n, t⟩ := v
  simp only at h0 h3 ht hn0 hn1 hn3 hk hki hk3 hts ⊢
  have hn := h.2
  simp only at hn
  have : k = 0 ∨ k = 1 ∨ k = 2 ∨ k = 3 := by omega
  rcases this with rfl | rfl | rfl | rfl
  · simp [tail1, lst, nul, ht, hn0]
  · rcases hn1 rfl with rfl | rfl <;> simp [tail1, lst, ht]
  · have hl := be_length 8 (n + 9223372036854775808).toNat
    have hnum : num8 (be8 n) = n := by
      unfold num8 be8
      rw [hor_be]
      rw [Nat.mod_eq_of_lt (by omega)]
      omega
    have h8 : (be8 n).length = 8 := hl
    have e1 : (be8 n ++ r).take 8 = be8 n := by rw [← h8, List.take_left]
    have e2 : (be8 n ++ r).drop 8 = r := by rw [← h8, List.drop_left]
    simp [tail1, lst, h8, e1, e2, hnum, ht]
  · have hs := scan_esc t.toList [] r
    rw [List.length_nil, Nat.zero_add, size_list, if_neg (by omega)] at hs
    have hb := back_list t
    simp only [List.nil_append] at hs
    have e : tail1 ⟨3, n, t⟩ ++ r = esc t.toList ++ 0 :: 0 :: r := by simp [tail1]
    rw [e, hs]
    simp [lst, hb, hn3]
    omega
/-- NO VALUE HAS TWO KEYS. -/
theorem tak_is {k : UInt8} {r : List UInt8} (h : (tak k r).2.2 = 0) : Ok (tak k r).1 ∧ k :: r = enc1 (tak k r).1 ++ (tak k r).2.1 := by
  unfold tak at h ⊢
  by_cases h3 : 3 < k.toNat
  · rw [if_pos h3] at h; simp at h
  rw [if_neg h3] at h ⊢
  by_cases hl : r.length < lst k.toNat
  · rw [if_pos hl] at h; simp at h
  rw [if_neg hl] at h ⊢
  by_cases k1 : k.toNat = 1
  · rw [if_pos k1] at h ⊢
    have hr : r = r.headD 0 :: r.drop 1 := by
      cases r with
      | nil => simp [k1, lst] at hl
      | cons x y => rfl
    by_cases hx : 1 < (r.headD 0).toNat
    · rw [if_pos hx] at h; simp at h
    · rw [if_neg hx] at h ⊢
      have hkk : k = 1 := UInt8.toNat_inj.1 (by simpa using k1)
      have : (r.headD 0).toNat = 0 ∨ (r.headD 0).toNat = 1 := by omega
      refine ⟨⟨?_, by simp only; omega⟩, ?_⟩
      · rcases this with g | g <;> rw [g] <;> simp [chk, nmb, e_list, e_size]
      · simp only [enc1, tail1, if_true]
        rw [hkk]
        conv => lhs; rw [hr]
        simp
  rw [if_neg k1] at h ⊢
  by_cases k2 : k.toNat = 2
  · rw [if_pos k2] at h ⊢
    have hkk : k = 2 := UInt8.toNat_inj.1 (by simpa using k2)
    have hl8 : 8 ≤ r.length := by rw [k2] at hl; simp [lst] at hl; omega
    have ht : (r.take 8).length = 8 := by simp; omega
    have hh := hor_lt (r.take 8)
    rw [ht] at hh
    have hb := be_hor (r.take 8) 0
    rw [ht, Nat.zero_mul, Nat.zero_add] at hb
    refine ⟨⟨by simp [chk, nmb, e_list, e_size], by simp only [num8]; omega⟩, ?_⟩
    have e : (num8 (r.take 8) + 9223372036854775808).toNat = hor (r.take 8) := by unfold num8; omega
    have e2 : tail1 ⟨2, num8 (r.take 8), ⟨#[]⟩⟩ = r.take 8 := by
      have e3 : be8 (num8 (r.take 8)) = r.take 8 := by rw [be8, e, hb]
      simp [tail1, e3]
    simp only [enc1, e2, hkk]
    simp
  rw [if_neg k2] at h ⊢
  by_cases k3 : k.toNat = 3
  · rw [if_pos k3] at h ⊢
    have hkk : k = 3 := UInt8.toNat_inj.1 (by simpa using k3)
    by_cases hs : (scan r []).2.2 = 0
    · rw [if_pos hs] at h ⊢
      obtain ⟨x, s, h1, h2, e⟩ := scan_is r [] hs
      rw [e]
      have hx : (⟨x.toArray⟩ : ByteArray).toList = x := by rw [list_of]
      have hsz : (⟨x.toArray⟩ : ByteArray).size = x.length := by simp [ByteArray.size]
      refine ⟨⟨?_, by simp only; omega⟩, ?_⟩
      · simp only [List.nil_append, chk, nmb, hx, hsz]
        simp at h2
        simp
        omega
      · rw [hkk, h1]
        simp [enc1, tail1, hx]
    · rw [if_neg hs] at h; exact absurd h hs
  rw [if_neg k3] at h ⊢
  have hkk : k = 0 := UInt8.toNat_inj.1 (by simp; omega)
  exact ⟨⟨by simp [chk, nul, nmb, e_list, e_size], by simp [nul]⟩, by simp [enc1, tail1, nul, hkk]⟩
theorem decm_enc : ∀ (l : List V) (m : Nat), (∀ v ∈ l, Ok v) → l.length ≤ m → decm m (encs l) = (l, 0)
  | [], m, _, _ => by cases m <;> simp [encs, decm]
  | v :: l, 0, _, h => by simp at h
  | v :: l, m + 1, ho, h => by
    have h1 := tak_enc (ho v (by simp)) (encs l)
    have h2 := decm_enc l m (fun u hu => ho u (by simp [hu])) (by simpa using h)
    simp [encs, enc1, decm, h1, h2]
theorem decm_is : ∀ (m : Nat) (b : List UInt8), (decm m b).2 = 0 → (∀ v ∈ (decm m b).1, Ok v) ∧ (decm m b).1.length ≤ m ∧ encs (decm m b).1 = b
  | m, [] => fun _ => by cases m <;> simp [decm, encs]
  | 0, _ :: _ => fun h => by simp [decm] at h
  | m + 1, k :: r => fun h => by
    rw [decm] at h ⊢
    by_cases h1 : (tak k r).2.2 = 0
    · rw [if_neg (by simpa using h1)] at h ⊢
      by_cases h2 : (decm m (tak k r).2.1).2 = 0
      · rw [if_neg (by simpa using h2)] at h ⊢
        obtain ⟨g1, g2, g3⟩ := decm_is m _ h2
        obtain ⟨f1, f2⟩ := tak_is h1
        refine ⟨?_, ?_, ?_⟩
        · intro v hv
          simp only [List.mem_cons] at hv
          rcases hv with rfl | hv
          · exact f1
          · exact g1 v hv
        · simp only [List.length_cons]; omega
        · rw [encs, g3, f2]
      · rw [if_pos h2] at h; exact absurd h h2
    · rw [if_pos h1] at h; exact absurd h h1
/-- What is not in form leaves no values. -/
theorem decm_bad (m : Nat) (b : List UInt8) (h : (decm m b).2 ≠ 0) : (decm m b).1 = [] := by
  cases m with
  | zero => cases b <;> simp [decm]
  | succ m =>
    cases b with
    | nil => simp [decm]
    | cons k r =>
      rw [decm] at h ⊢
      by_cases h1 : (tak k r).2.2 ≠ 0
      · rw [if_pos h1]
      · rw [if_neg h1] at h ⊢
        by_cases h2 : (decm m (tak k r).2.1).2 ≠ 0
        · rw [if_pos h2]
        · rw [if_neg h2] at h; simp at h
theorem bad_ok {l : List V} (h : ∀ v ∈ l, Ok v) : bad l = 0 := by
  induction l with
  | nil => rfl
  | cons v l ih => simp [bad, (h v (by simp)).1, ih (fun u hu => h u (by simp [hu]))]
theorem enc_ok {l : List V} (h : ∀ v ∈ l, Ok v) (h6 : l.length ≤ 6) (hs : (encs l).length ≤ 100) : enc l = (encs l, 0) := by
  unfold enc
  rw [if_neg (by omega), bad_ok h, if_neg (by simp), if_neg (by omega)]
theorem dec_bad (b : List UInt8) (h : (dec b).2 ≠ 0) : (dec b).1 = [] := by
  unfold dec at h ⊢
  by_cases h1 : 100 < b.length
  · rw [if_pos h1]
  · rw [if_neg h1] at h ⊢; exact decm_bad _ _ h
/-- NO VALUES HAVE TWO KEYS. -/
theorem dec_is (b : List UInt8) (h : (dec b).2 = 0) : enc (dec b).1 = (b, 0) ∧ (∀ v ∈ (dec b).1, Ok v) ∧ encs (dec b).1 = b := by
  unfold dec at h ⊢
  by_cases h1 : 100 < b.length
  · rw [if_pos h1] at h; simp at h
  · rw [if_neg h1] at h ⊢
    obtain ⟨g1, g2, g3⟩ := decm_is _ _ h
    exact ⟨by rw [enc_ok g1 g2 (by rw [g3]; omega), g3], g1, g3⟩
/-- A KEY TELLS ITS VALUES. -/
theorem dec_enc {l : List V} (h : ∀ v ∈ l, Ok v) (h6 : l.length ≤ 6) (hs : (encs l).length ≤ 100) : dec (encs l) = (l, 0) := by
  unfold dec
  rw [if_neg (by omega), decm_enc l 6 h h6]
/-- WHAT IS TORN IS THE KEY OF FEWER VALUES, if it is one. -/
theorem torn : ∀ (l m : List V) (s : List UInt8), (∀ v ∈ l, Ok v) → (∀ v ∈ m, Ok v) → encs l = encs m ++ s → ∃ t, l = m ++ t
  | l, [], s, _, _, _ => ⟨l, rfl⟩
  | [], v :: m, s, _, _, h => by simp [encs, enc1] at h
  | u :: l, v :: m, s, hl, hm, h => by
    simp only [encs, enc1, List.cons_append, List.append_assoc, List.cons.injEq] at h
    have h1 := tak_enc (hl u (by simp)) (encs l)
    have h2 := tak_enc (hm v (by simp)) (encs m ++ s)
    rw [h.2, h.1] at h1
    rw [h2] at h1
    simp only [Prod.mk.injEq] at h1
    obtain ⟨t, ht⟩ := torn l m s (fun x hx => hl x (by simp [hx])) (fun x hx => hm x (by simp [hx])) h1.2.1.symm
    exact ⟨t, by rw [h1.1, ht]; rfl⟩
theorem encs_app : ∀ l m, encs (l ++ m) = encs l ++ encs m
  | [], m => rfl
  | v :: l, m => by simp [encs, encs_app l m]
/-- One value ahead of another: so its key. -/
theorem enc1_less {v w : V} (hv : Ok v) (hw : Ok w) (h : ord v w < 0) (r s : List UInt8) : Op.bytesLess (enc1 v ++ r) (enc1 w ++ s) = true := by
  obtain ⟨a1, a2, a3, a4, a5, a6⟩ := chk0 hv.1
  obtain ⟨b1, b2, b3, b4, b5, b6⟩ := chk0 hw.1
  obtain ⟨c1, c2, c3⟩ := kind_of hv
  obtain ⟨d1, d2, d3⟩ := kind_of hw
  have hvn := hv.2
  have hwn := hw.2
  obtain ⟨k, n, t⟩ := v
  obtain ⟨k', n', t'⟩ := w
  simp only at a1 a2 a3 a4 a5 a6 b1 b2 b3 b4 b5 b6 c1 c2 c3 d1 d2 d3 hvn hwn
  unfold ord or3 at h
  simp only at h
  simp only [enc1, List.cons_append]
  by_cases hk : k = k'
  · subst hk
    have hk0 : sgn k k = 0 := by simp [sgn]
    rw [hk0, if_neg (by simp)] at h
    have hnl : ¬ UInt8.ofNat k.toNat < UInt8.ofNat k.toNat := by rw [UInt8.lt_iff_toNat_lt]; omega
    simp only [Op.bytesLess, hnl, decide_false, beq_self_eq_true, Bool.true_and, Bool.false_or]
    have : k = 0 ∨ k = 1 ∨ k = 2 ∨ k = 3 := by omega
    rcases this with rfl | rfl | rfl | rfl
    · have := a4 rfl; have := b4 rfl; subst n; subst n'
      have := a3 (by omega); have := b3 (by omega); subst t; subst t'
      simp [sgn, sgs, e_list, Op.bytesLess] at h
    · have := a3 (by omega); have := b3 (by omega); subst t; subst t'
      have hst : sgs ⟨#[]⟩ ⟨#[]⟩ = 0 := sgs_eq rfl
      rcases a5 rfl with rfl | rfl <;> rcases b5 rfl with rfl | rfl
      · simp [sgn, hst] at h
      · simp [tail1, Op.bytesLess]
      · simp [sgn] at h
      · simp [sgn, hst] at h
    · have := a3 (by omega); have := b3 (by omega); subst t; subst t'
      have hst : sgs ⟨#[]⟩ ⟨#[]⟩ = 0 := sgs_eq rfl
      have hlt : n < n' := by
        by_cases g : n < n'
        · exact g
        · by_cases g' : n' < n
          · simp [sgn, g, g'] at h
          · simp [sgn, g, g', hst] at h
      have e1 : tail1 ⟨2, n, ⟨#[]⟩⟩ = be8 n := by simp [tail1]
      have e2 : tail1 ⟨2, n', ⟨#[]⟩⟩ = be8 n' := by simp [tail1]
      rw [e1, e2]
      refine be_less 8 _ _ _ _ ?_
      rw [Nat.mod_eq_of_lt (by omega), Nat.mod_eq_of_lt (by omega)]
      omega
    · have := a6 rfl; have := b6 rfl; subst n; subst n'
      have hn0 : sgn 0 0 = 0 := by simp [sgn]
      rw [hn0, if_neg (by simp)] at h
      have hl : Op.bytesLess t.toList t'.toList = true := by
        rcases sgs_tri t t' with g | g | g
        · exact g
        · rw [sgs_eq g] at h; simp at h
        · rw [sgs_gt g] at h; simp at h
      have := esc_less t.toList t'.toList r s hl
      simpa [tail1] using this
  · have hlt : k < k' := by
      by_cases g : k < k'
      · exact g
      · have g' : k' < k := by omega
        simp [sgn, g, g'] at h
    exact bl_one (by omega) _ _
/-- The first comparison that tells two lists apart: what it says. -/
def fstc : List V → List V → Int
  | [], _ => 0
  | _ :: _, [] => 0
  | v :: l, w :: m => if ord v w ≠ 0 then ord v w else fstc l m
theorem ord_same {v w : V} (h : ord v w = 0) : v = w := by
  obtain ⟨h1, h2, h3⟩ := (ord_zero v w).1 h
  obtain ⟨k, n, t⟩ := v
  obtain ⟨k', n', t'⟩ := w
  simp only at h1 h2 h3
  rw [h1, h2, same_of h3]
theorem ord_swap (v w : V) : ord v w = -ord w v := (TR_ord v w w).2.2.2.2.2.2.1
/-- KEYS STAND IN THE ORDER OF THEIR VALUES, the first ones that differ. -/
theorem encs_order : ∀ (l m : List V), (∀ v ∈ l, Ok v) → (∀ v ∈ m, Ok v) → l.length = m.length →
    (fstc l m = 0 → encs l = encs m) ∧ (fstc l m < 0 → Op.bytesLess (encs l) (encs m) = true) ∧ (0 < fstc l m → Op.bytesLess (encs m) (encs l) = true)
  | [], [], _, _, _ => by simp [fstc]
  | [], _ :: _, _, _, h => by simp at h
  | _ :: _, [], _, _, h => by simp at h
  | v :: l, w :: m, hl, hm, h => by
    have ih := encs_order l m (fun x hx => hl x (by simp [hx])) (fun x hx => hm x (by simp [hx])) (by simpa using h)
    rw [fstc]
    by_cases ho : ord v w = 0
    · rw [if_neg (by simpa using ho)]
      have := ord_same ho
      subst this
      simp only [encs]
      refine ⟨fun g => by rw [ih.1 g], fun g => by rw [bl_app]; exact ih.2.1 g, fun g => by rw [bl_app]; exact ih.2.2 g⟩
    · rw [if_pos ho]
      refine ⟨fun g => absurd g ho, fun g => enc1_less (hl v (by simp)) (hm w (by simp)) g _ _, fun g => ?_⟩
      refine enc1_less (hm w (by simp)) (hl v (by simp)) ?_ _ _
      rw [ord_swap]
      omega
end Go.Proofs.YtmfkdpfcpdmkdaaGreatDoor
/- What parts of an expression say of the first column, plainly. -/
namespace Go.Proofs.YtmfkdpfcpdmkdaaGreatDoor.bd
set_option linter.unusedVariables false
set_option linter.unusedSimpArgs false
/-- A part: is it the first column, the key of its literal, where rows lie of which it is true, of which it is false. -/
structure Pt where
  f : Bool
  k : List UInt8
  hl : List UInt8
  hh : List UInt8
  fl : List UInt8
  fh : List UInt8
def np : Pt := ⟨false, [], [], [], [], []⟩
def bl (a b : List UInt8) : Bool := Op.bytesLess a b
def loW (a b : List UInt8) : List UInt8 := if bl a b then b else a
def hiW (a b : List UInt8) : List UInt8 := if a.length = 0 ∨ (0 < b.length ∧ bl b a = true) then b else a
def lfP (c : ByteArray) (o : Oq) : Int × Pt := if o.k = 1 ∧ o.v.k ≠ 0 then ((enc [o.v]).2, ⟨false, (enc [o.v]).1, [], [], [], []⟩) else (0, ⟨decide (o.k = 2 ∧ o.t.toList = c.toList), [], [], [], [], []⟩)
def onP (k : Int) (a : Pt) : Int × Pt := (0, if k = 5 then ⟨false, [], a.fl, a.fh, [], []⟩ else np)
def twP (k : Int) (a b : Pt) : Int × Pt := (0, if k = 3 then ⟨false, [], loW a.hl b.hl, hiW a.hh b.hh, [], []⟩ else if k = 6 ∧ a.f = true then ⟨false, [], b.k, b.k, [], []⟩ else if k = 6 ∧ b.f = true then ⟨false, [], a.k, a.k, [], []⟩
  else if k = 7 ∧ a.f = true then ⟨false, [], [], b.k, b.k, []⟩ else if k = 7 ∧ b.f = true then ⟨false, [], a.k, [], [], a.k⟩ else np)
end Go.Proofs.YtmfkdpfcpdmkdaaGreatDoor.bd
