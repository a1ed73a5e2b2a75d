/- A text between quotes: the program. -/
import Derived.Test.YtfoilmhpoipmpaaDoorSm
import Derived.OneCell
namespace Go.Proofs.YtfoilmhpoipmpaaDoor
open Go.ChangeShapes Go.WideShapes Go.ChangeAt Go.RowKit
set_option linter.unusedVariables false
set_option linter.unusedSimpArgs false
set_option maxHeartbeats 1000000
theorem q_of {b : UInt8} (h : (b.toNat : Int) = 39) : b = 39 := UInt8.toNat_inj.1 (by show b.toNat = 39; omega)
theorem q_not {b : UInt8} (h : ¬ (b.toNat : Int) = 39) : ¬ b = 39 := by rintro rfl; exact h rfl
/-- What the closure answers, and what its variable holds then. -/
def TsP (B : Nat) (w : World) (r o' : Bool) (e : Ending) (w' : World) : Prop := e = .returned (.bool r) ∧ w'.heap[B]? = some (.cells #[.bool o'] 4 (0, 0)) ∧ Below B w w'
theorem ts1_q (w : World) (B : Nat) (o : Bool) (x : Int) (h : x = 39) (hb : w.heap[B]? = some (.cells #[.bool o] 4 (0, 0))) :
    Calls Tryd.prog 53 #[.int .u8 x, .pointer (some ⟨B, 0, none⟩)] w (TsP B w true (!o)) := by
  have hc := cell_of_one hb
  have hf := free_of_one hb
  have HB := Lib.hid hb
  clear hb
  subst h
  go_enter Tryd.func53, Tryd.ntmps53
  go_wp2
  go_ret
  exact ⟨rfl, one_setCell HB.out, Below.setCell (Below.refl B w) (show B ≤ (⟨B, 0, none⟩ : Addr).block from Nat.le_refl _) _⟩
theorem ts1_n (w : World) (B : Nat) (o : Bool) (x : Int) (h : ¬ x = 39) (hb : w.heap[B]? = some (.cells #[.bool o] 4 (0, 0))) :
    Calls Tryd.prog 53 #[.int .u8 x, .pointer (some ⟨B, 0, none⟩)] w (TsP B w o o) := by
  have hc := cell_of_one hb
  have hf := free_of_one hb
  have HB := Lib.hid hb
  clear hb
  go_enter Tryd.func53, Tryd.ntmps53
  go_wp2
  go_ret
  exact ⟨rfl, HB.out, Below.refl _ _⟩
theorem ts1_any (w : World) (B : Nat) (o : Bool) (b : UInt8) (hb : w.heap[B]? = some (.cells #[.bool o] 4 (0, 0))) :
    Calls Tryd.prog 53 #[.int .u8 (b.toNat : Int), .pointer (some ⟨B, 0, none⟩)] w (TsP B w (decide (b = 39) || o) (if b = 39 then !o else o)) := by
  by_cases h : (b.toNat : Int) = 39
  · have h' := q_of h
    simp only [h', decide_true, Bool.true_or, if_true]
    exact ts1_q w B o _ rfl hb
  · have h' := q_not h
    simp only [h', decide_false, Bool.false_or, if_false]
    exact ts1_n w B o _ h hb
theorem sq_cons (o : Bool) (c : UInt8) (r : List UInt8) : sq o (c :: r) = if c = 39 ∨ o = true then ((sq (if c = 39 then !o else o) r).1 + 1, (sq (if c = 39 then !o else o) r).2) else (0, o) := sq_step o (c :: r)
theorem drop_at {l : List UInt8} {k : Nat} (h : k < l.length) : l.drop k = l.getD k 0 :: l.drop (k + 1) := by
  rw [List.drop_eq_getElem_cons h]
  simp [List.getD, List.getElem?_eq_getElem h]
/-- Where the program's way stands behind k bytes. -/
def SqAt (l : List UInt8) (k : Nat) (o : Bool) : Prop := sq false l = (k + (sq o (l.drop k)).1, (sq o (l.drop k)).2)
theorem SqAt.step {l : List UInt8} {k : Nat} {o : Bool} (h : SqAt l k o) (hk : k < l.length) (hc : l.getD k 0 = 39 ∨ o = true) : SqAt l (k + 1) (if l.getD k 0 = 39 then !o else o) := by
  unfold SqAt at *
  rw [drop_at hk, sq_cons, if_pos hc] at h
  rw [h]
  congr 1
  omega
theorem SqAt.stop {l : List UInt8} {k : Nat} {o : Bool} (h : SqAt l k o) (hk : k < l.length) (hc : ¬ (l.getD k 0 = 39 ∨ o = true)) : sq false l = (k, o) := by
  unfold SqAt at h
  rw [drop_at hk, sq_cons, if_neg hc] at h
  rw [h]
  have : o = false := by cases o <;> simp_all
  subst this
  rfl
theorem SqAt.done {l : List UInt8} {k : Nat} {o : Bool} (h : SqAt l k o) (hk : k = l.length) : sq false l = (k, o) := by
  unfold SqAt at h
  rw [List.drop_eq_nil_of_le (by omega)] at h
  exact h
theorem span_quote (w : World) (B : Nat) (s : ByteArray) (hs : s.size ≤ 400) (hb : w.heap[B]? = some (.cells #[.bool false] 4 (0, 0))) :
    Calls Tryd.prog 25 #[.string s, .func (.func 53) #[] #[.pointer (some ⟨B, 0, none⟩)]] w fun e w' => e = .returned (.int .i64 ((sq false s.data.toList).1 : Nat)) ∧ w'.heap[B]? = some (.cells #[.bool (sq false s.data.toList).2] 4 (0, 0)) ∧ Below B w w' := by
  have hsz := len_size s
  have HL := Lib.hid hsz
  have HB := Lib.hid hb
  clear hsz hb
  go_enter Tryd.func25, Tryd.ntmps25
  go_wp2
  go_loopw [8] (fun i wr => ∃ (k : Nat) (o : Bool), k ≤ s.size ∧ i = .int .i64 (k : Int) ∧ Hid (SqAt s.data.toList k o) ∧ Hid (wr.heap[B]? = some (.cells #[.bool o] 4 (0, 0))) ∧ Hid (Below B w wr)) (fun i _ => s.size - (intOf i).toNat)
  case atStart => exact ⟨0, false, by omega, rfl, by show SqAt _ _ _; unfold SqAt; simp, HB.out, Below.refl _ _⟩
  case round =>
    obtain ⟨k, o, hk, rfl, HA, HW, HBL⟩ := hrel
    by_cases hlt : k < s.size
    · have hc := ts1_any wr B o s[k] HW.out
      have hb : s.data.toList.getD k 0 = s[k] := (byte_at s k hlt).symm
      have hkl : k < s.data.toList.length := by rw [HL.out]; exact hlt
      by_cases hq : s[k] = 39 ∨ o = true
      · have hst := HA.out.step hkl (by rw [hb]; exact hq)
        rw [hb] at hst
        have e : (decide (s[k] = 39) || o) = true := by rcases hq with h | h <;> simp [h]
        rw [e] at hc
        obtain ⟨p, hp⟩ : ∃ p, p = if s[k] = 39 then !o else o := ⟨_, rfl⟩
        rw [← hp] at hc hst
        have HC := Lib.hid hc
        have HST := Lib.hid hst
        clear hc hst e hq hb hkl hp
        go_wp2_with (go_at_call 53; refine HC.out.mono ?_; rintro e w' ⟨rfl, h1, h2⟩; have H1 := Lib.hid h1; have H2 := Lib.hid h2; clear h1 h2)
        go_roundw
        case rel => exact ⟨k + 1, p, by omega, by go_num, HST.out, H1.out, HBL.out.trans H2.out⟩
        case measure => simp [intOf]; omega
      · have hst := HA.out.stop hkl (by rw [hb]; exact hq)
        have e : (decide (s[k] = 39) || o) = false := by
          rw [Bool.eq_false_iff]
          simp
          exact ⟨fun h => hq (.inl h), by cases o <;> simp_all⟩
        have e2 : (if s[k] = 39 then !o else o) = o := if_neg fun h => hq (.inl h)
        rw [e, e2] at hc
        have HC := Lib.hid hc
        have HST := Lib.hid hst
        clear hc hst e hq hb hkl e2
        go_wp2_with (go_at_call 53; refine HC.out.mono ?_; rintro e w' ⟨rfl, h1, h2⟩; have H1 := Lib.hid h1; have H2 := Lib.hid h2; clear h1 h2)
        go_ret
        refine ⟨ri (by rw [HST.out]), ?_, HBL.out.trans H2.out⟩
        rw [HST.out]
        exact H1.out
    · obtain rfl : k = s.size := by omega
      have hst := HA.out.done HL.out.symm
      have HST := Lib.hid hst
      clear hst
      go_wp2
      go_ret
      refine ⟨ri (by rw [HST.out]), ?_, HBL.out⟩
      rw [HST.out]
      exact HW.out
end Go.Proofs.YtfoilmhpoipmpaaDoor
