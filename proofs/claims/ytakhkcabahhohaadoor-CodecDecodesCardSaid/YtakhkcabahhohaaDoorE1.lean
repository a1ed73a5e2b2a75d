import Derived.Test.YtakhkcabahhohaaDoorD3
namespace Go.Proofs.YtakhkcabahhohaaDoor
open Go.ChangeShapes Go.WideShapes Go.ChangeAt Go.RowKit
set_option linter.unusedVariables false
set_option linter.unusedSimpArgs false
set_option maxHeartbeats 1000000
/-- How far behind the beginning the two noughts lie that end a text; none: there are none. -/
def tend : List UInt8 → Option Nat
  | [] => none
  | [_] => none
  | x :: y :: r => if x = 0 ∧ y = 0 then some 0 else if x = 0 ∧ y ≠ 255 then none else if x = 0 then (tend r).map (· + 2) else (tend (y :: r)).map (· + 1)
termination_by l => l.length
/-- A text's bytes, without the byte behind each 0. -/
def unesc : List UInt8 → List UInt8
  | [] => []
  | [x] => [x]
  | x :: y :: r => if x = 0 then x :: unesc r else x :: unesc (y :: r)
termination_by l => l.length
theorem scan_tend : ∀ (b acc : List UInt8), scan b acc = match tend b with
    | none => ([], [], 6)
    | some e => if 20 < acc.length + (unesc (b.take e)).length then ([], [], 1) else (acc ++ unesc (b.take e), b.drop (e + 2), 0)
  | [], acc => by rw [scan, tend]
  | [_], acc => by rw [scan, tend]
  | x :: y :: r, acc => by
    rw [scan, tend]
    by_cases hx : x = 0
    · subst hx
      rw [if_neg (by simp)]
      by_cases hy : y = 255
      · subst hy
        rw [if_pos rfl, if_neg (by decide), if_neg (by simp), if_pos rfl, scan_tend r (acc ++ [0])]
        cases h : tend r with
        | none => simp
        | some e =>
          simp only [Option.map_some]
          have e1 : ((0 : UInt8) :: 255 :: r).take (e + 2) = 0 :: 255 :: r.take e := rfl
          have e2 : ((0 : UInt8) :: 255 :: r).drop (e + 2 + 2) = r.drop (e + 2) := rfl
          rw [e1, e2, unesc, if_pos rfl]
          simp [Nat.add_assoc, Nat.add_comm 1]
      · rw [if_neg hy]
        by_cases hy0 : y = 0
        · subst hy0
          simp [unesc]
        · rw [if_pos hy0, if_neg (by simp [hy0]), if_pos ⟨rfl, hy⟩]
    · rw [if_pos hx, if_neg (by simp [hx]), if_neg (by simp [hx]), if_neg hx, scan_tend (y :: r) (acc ++ [x])]
      cases h : tend (y :: r) with
      | none => simp
      | some e =>
        simp only [Option.map_some]
        have e1 : (x :: y :: r).take (e + 1) = x :: (y :: r).take e := rfl
        have e2 : (x :: y :: r).drop (e + 1 + 2) = (y :: r).drop (e + 2) := rfl
        have e3 : unesc (x :: (y :: r).take e) = x :: unesc ((y :: r).take e) := by
          cases e with
          | zero => simp [unesc]
          | succ e => rw [List.take_succ_cons, unesc, if_neg hx]
        rw [e1, e2, e3]
        simp [Nat.add_assoc, Nat.add_comm 1]
termination_by b => b.length
theorem tend_lt : ∀ (b : List UInt8) (e : Nat), tend b = some e → e + 2 ≤ b.length
  | [], e, h => by rw [tend] at h; cases h
  | [_], e, h => by rw [tend] at h; cases h
  | x :: y :: r, e, h => by
    rw [tend] at h
    split at h
    · cases h; simp
    split at h
    · cases h
    split at h
    · obtain ⟨d, hd, rfl⟩ := Option.map_eq_some_iff.1 h
      have := tend_lt r d hd
      simp only [List.length_cons]
      omega
    · obtain ⟨d, hd, rfl⟩ := Option.map_eq_some_iff.1 h
      have := tend_lt (y :: r) d hd
      simp only [List.length_cons] at this ⊢
      omega
termination_by b => b.length
/-- The place of the end, as the reference tells it. -/
def tplace (l : List UInt8) (p : Nat) : Int := match tend (l.drop p) with
  | none => -1
  | some e => ((p + e : Nat) : Int)
theorem tplace_end {l : List UInt8} {p : Nat} (h : l.length ≤ p + 1) : tplace l p = -1 := by
  unfold tplace
  have h2 : (l.drop p).length ≤ 1 := by rw [List.length_drop]; omega
  match hd : l.drop p, h2 with
  | [], _ => rw [tend]
  | [_], _ => rw [tend]
theorem tplace_step {l : List UInt8} {p : Nat} {x y : UInt8} (hd : l.drop p = x :: y :: l.drop (p + 2)) (hd1 : l.drop (p + 1) = y :: l.drop (p + 2)) :
    tplace l p = if x = 0 ∧ y = 0 then (p : Int) else if x = 0 ∧ y ≠ 255 then -1 else if x = 0 then tplace l (p + 2) else tplace l (p + 1) := by
  unfold tplace
  rw [hd, tend]
  by_cases h1 : x = 0 ∧ y = 0
  · rw [if_pos h1, if_pos h1]; simp
  rw [if_neg h1, if_neg h1]
  by_cases h2 : x = 0 ∧ y ≠ 255
  · rw [if_pos h2, if_pos h2]
  rw [if_neg h2, if_neg h2]
  by_cases h3 : x = 0
  · rw [if_pos h3, if_pos h3]
    cases tend (l.drop (p + 2)) with
    | none => simp
    | some e => simp; omega
  · rw [if_neg h3, if_neg h3, hd1]
    cases tend (y :: l.drop (p + 2)) with
    | none => simp
    | some e => simp; omega
theorem te_any (n : Nat) (v : Value) (l : List UInt8) (q : Nat) (w : World) (hn : n ≤ 100) (hn0 : 0 < n) (hq : q ≤ n) (hr : Rd w 1 n v (bc l)) :
    Calls Tryd.prog 17 #[v, .int .i64 (q : Int)] w fun e w' => e = .returned (.int .i64 (tplace l q)) ∧ Below w.heap.size w w' := by
  obtain ⟨hl, b, o, cap, rfl, hnc, hcm, hbw, hcell⟩ := bytes_of hr hn0
  have HC := Lib.hid hcell
  have HL := Lib.hid hl
  clear hr hcell hl
  go_enter Tryd.func17, Tryd.ntmps17
  go_wp2
  go_loopw [5] (fun i wr => ∃ p : Nat, p ≤ n ∧ i = .int .i64 (p : Int) ∧ tplace l p = tplace l q ∧ Below w.heap.size w wr) (fun i _ => n - (intOf i).toNat)
  case atStart => exact ⟨q, hq, rfl, rfl, Below.refl _ _⟩
  case round =>
    obtain ⟨p, hp, rfl, htp, hb⟩ := hrel
    have HT := Lib.hid htp
    clear htp
    by_cases hlt : p + 1 < n
    · obtain ⟨x, hx⟩ : ∃ x, x = l.getD p 0 := ⟨_, rfl⟩
      obtain ⟨y, hy⟩ : ∃ y, y = l.getD (p + 1) 0 := ⟨_, rfl⟩
      have hll := HL.out
      have HD : Hid (l.drop p = x :: y :: l.drop (p + 2)) := by rw [hx, hy]; exact drop_two (by omega)
      have HD1 : Hid (l.drop (p + 1) = y :: l.drop (p + 2)) := by rw [hy]; exact drop_one (by omega)
      have HS := Lib.hid (tplace_step HD.out HD1.out)
      have c0 := (hb.cell (p := ⟨b, o + p, none⟩) hbw).trans (HC.out p (by omega))
      have c1 := (hb.cell (p := ⟨b, o + (p + 1), none⟩) hbw).trans (HC.out (p + 1) hlt)
      rw [← hx] at c0
      rw [← hy] at c1
      clear hx hy hll
      by_cases hx0 : x = 0
      · have hxn : (x.toNat : Int) = 0 := by rw [hx0]; rfl
        by_cases hy0 : y = 0
        · have hyn : (y.toNat : Int) = 0 := by rw [hy0]; rfl
          go_wp2_with fail
          go_ret
          have e : tplace l q = (p : Int) := by rw [← HT.out, HS.out, if_pos ⟨hx0, hy0⟩]
          rw [e]
          exact ⟨rfl, hb⟩
        · have hyn : ¬ (y.toNat : Int) = 0 := fun g => hy0 (UInt8.toNat_inj.1 (by simpa using g))
          by_cases hy255 : y = 255
          · have hyn2 : (y.toNat : Int) = 255 := by rw [hy255]; rfl
            go_wp2_with fail
            go_roundw
            case rel =>
              refine ⟨p + 2, by omega, by go_num, ?_, hb⟩
              rw [← HT.out, HS.out, if_neg (by simp [hy0]), if_neg (by simp [hy255]), if_pos hx0]
            case measure => simp [intOf]; omega
          · have hyn2 : ¬ (y.toNat : Int) = 255 := fun g => hy255 (UInt8.toNat_inj.1 (by show y.toNat = 255; omega))
            go_wp2_with fail
            go_ret
            have e : tplace l q = -1 := by rw [← HT.out, HS.out, if_neg (by simp [hy0]), if_pos ⟨hx0, hy255⟩]
            rw [e]
            exact ⟨rfl, hb⟩
      · have hxn : ¬ (x.toNat : Int) = 0 := fun g => hx0 (UInt8.toNat_inj.1 (by simpa using g))
        go_wp2_with fail
        go_roundw
        case rel =>
          refine ⟨p + 1, by omega, by go_num, ?_, hb⟩
          rw [← HT.out, HS.out, if_neg (by simp [hx0]), if_neg (by simp [hx0]), if_neg hx0]
        case measure => simp [intOf]; omega
    · go_wp2_with fail
      go_ret
      have e : tplace l q = -1 := by rw [← HT.out, tplace_end (by have := HL.out; omega)]
      rw [e]
      exact ⟨rfl, hb⟩
end Go.Proofs.YtakhkcabahhohaaDoor
