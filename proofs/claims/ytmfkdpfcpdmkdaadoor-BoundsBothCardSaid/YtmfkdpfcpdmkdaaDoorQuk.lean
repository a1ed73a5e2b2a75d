import Derived.Test.YtmfkdpfcpdmkdaaDoorQrk
import Derived.Test.YtmfkdpfcpdmkdaaDoorKek
import Derived.Test.YtmfkdpfcpdmkdaaDoorWdk
import Derived.Lib.IndexBytes
/- The columns and the rows of the keeping statements. -/
namespace Go.Proofs.YtmfkdpfcpdmkdaaDoor
open Go.ChangeShapes Go.WideShapes Go.ChangeAt Go.RowKit
set_option linter.unusedVariables false
set_option linter.unusedSimpArgs false
set_option maxHeartbeats 2000000
set_option maxRecDepth 100000
theorem rd_c4 (w : World) (t1 t2 t3 t4 : ByteArray) (k1 k2 k3 k4 : Int) (B : Nat) (hB : w.heap.size = B) : Rd (w.alloc (.cells #[.string t1, .int .i64 k1, .string t2, .int .i64 k2, .string t3, .int .i64 k3, .string t4, .int .i64 k4] 62)) 2 4 (.slice (some ⟨B, 0, none⟩) 4 4) (ccs [⟨t1, k1⟩, ⟨t2, k2⟩, ⟨t3, k3⟩, ⟨t4, k4⟩]) := by
  subst hB
  exact Rd.own (World.ownsRow_lit (base := w.heap.size) w #[.string t1, .int .i64 k1, .string t2, .int .i64 k2, .string t3, .int .i64 k3, .string t4, .int .i64 k4] 4 (Nat.le_refl _) (by unfold maxLen; omega) rfl)
theorem colsOf_any (w : World) : Calls Tryd.prog 10 #[] w fun e w' => e = .returned (.slice (some ⟨w.heap.size, 0, none⟩) 4 4) ∧ w' = w.alloc (.cells #[.string ⟨#[105, 100]⟩, .int .i64 2, .string ⟨#[110]⟩, .int .i64 2, .string ⟨#[115]⟩, .int .i64 3, .string ⟨#[98]⟩, .int .i64 1] 62) := by
  go_enter Tryd.func10, Tryd.ntmps10
  go_wp2
  go_ret
  exact ⟨rfl, rfl⟩
theorem c4_ok : colsF [⟨⟨#[105, 100]⟩, 2⟩, ⟨⟨#[110]⟩, 2⟩, ⟨⟨#[115]⟩, 3⟩, ⟨⟨#[98]⟩, 1⟩] = 0 := by decide +kernel
theorem small4 {l : List Cq} (h : ∀ c ∈ l, c.t.size ≤ 8) : ∀ c ∈ l, c.t.size ≤ maxLen := fun c hc => by
  have := h c hc
  unfold maxLen
  omega
theorem rstr {a b : ByteArray} (h : a = b) : Ending.returned (.string a) = .returned (.string b) := by rw [h]
/-- A text cut to so many bytes, and a value out of raw numbers. -/
def cutS (s : ByteArray) (m : Nat) : ByteArray := s.extract 0 (min s.size m)
theorem cut_any (s : ByteArray) (m : Nat) (w : World) (hm : m ≤ 1000) (hs : s.size ≤ maxLen) :
    Calls Tryd.prog 17 #[.string s, .int .i64 (m : Int)] w fun e w' => e = .returned (.string (cutS s m)) ∧ w = w' := by
  unfold maxLen at hs
  by_cases h : s.size ≤ m
  · go_enter Tryd.func17, Tryd.ntmps17
    go_wp2
    go_ret
    refine ⟨rstr ?_, rfl⟩
    show s.extract 0 (min (s.size : Int) (m : Int)).toNat = _
    rw [show (min (s.size : Int) (m : Int)).toNat = s.size by omega, cutS, Nat.min_eq_left h]
  · have h' : m < s.size := by omega
    go_enter Tryd.func17, Tryd.ntmps17
    go_wp2
    go_ret
    refine ⟨rstr ?_, rfl⟩
    show s.extract 0 (min (s.size : Int) (m : Int)).toNat = _
    rw [show (min (s.size : Int) (m : Int)).toNat = m by omega, cutS, Nat.min_eq_right (by omega)]
theorem cut_size (s : ByteArray) (m : Nat) : (cutS s m).size ≤ m ∧ (cutS s m).size ≤ s.size := by
  unfold cutS
  rw [ByteArray.size_extract]
  omega
theorem truth_any (w : World) (c : Int) (hc : Rn c) : Calls Tryd.prog 18 #[.int .i64 c] w fun e w' => ∃ tk tn : Int, e = .returned (.agg #[.int .i64 tk, .int .i64 tn, .string ⟨#[]⟩]) ∧ ((tk = 0 ∧ tn = 0) ∨ (tk = 1 ∧ (tn = 0 ∨ tn = 1))) ∧ Below w.heap.size w w' := by
  obtain ⟨p1, p2⟩ := pck_in c 3 (by omega)
  have hp := fun w => pck_any c 3 w hc (by omega) (by omega)
  obtain ⟨p, hpp⟩ : ∃ p, p = pck c 3 := ⟨_, rfl⟩
  rw [← hpp] at hp p1 p2
  have HP := Lib.hid hp
  clear hp hpp
  by_cases h2 : p = 2
  · subst h2
    go_enter Tryd.func18, Tryd.ntmps18
    go_wp2_with (go_at_call 13; ((with_reducible refine (HP.out _).mono ?_); rintro e w' ⟨rfl, rfl⟩))
    go_returns
    exact ⟨0, 0, rfl, .inl ⟨rfl, rfl⟩, by go_grown⟩
  · have h2' : (p == 2) = false := by simpa using h2
    go_enter Tryd.func18, Tryd.ntmps18
    go_wp2_with (go_at_call 13; ((with_reducible refine (HP.out _).mono ?_); rintro e w' ⟨rfl, rfl⟩))
    go_returns
    exact ⟨1, p, rfl, .inr ⟨rfl, by omega⟩, by go_grown⟩
abbrev rowC (p q tk tn : Int) (t : ByteArray) : Array Value := #[.int .i64 2, .int .i64 p, .string ⟨#[]⟩, .int .i64 2, .int .i64 q, .string ⟨#[]⟩, .int .i64 3, .int .i64 0, .string t, .int .i64 tk, .int .i64 tn, .string ⟨#[]⟩]
theorem rowOf_rng (w : World) (a b c : Int) (s : ByteArray) (ha : Rn a) (hb : Rn b) (hc : Rn c) (hs : s.size ≤ maxLen) :
    Calls Tryd.prog 7 #[.int .i64 a, .int .i64 b, .string s, .int .i64 c] w fun e w' => ∃ (w1 : World) (p q tk tn : Int) (t : ByteArray), e = .returned (.slice (some ⟨w1.heap.size, 0, none⟩) 4 4) ∧ w' = w1.alloc (.cells (rowC p q tk tn t) 36) ∧ Below w.heap.size w w1 ∧ t.size ≤ 6 ∧ ((tk = 0 ∧ tn = 0) ∨ (tk = 1 ∧ (tn = 0 ∨ tn = 1))) ∧ 0 ≤ p ∧ p < 12 ∧ 0 ≤ q ∧ q < 9 := by
  have H1 := Lib.hid (fun w => pck_any a 12 w ha (by omega) (by omega))
  have H2 := Lib.hid (fun w => pck_any b 9 w hb (by omega) (by omega))
  have H3 : Hid (∀ w, Calls Tryd.prog 17 #[.string s, .int .i64 2] w fun e w' => e = .returned (.string (cutS s 2)) ∧ w = w') := fun w => cut_any s 2 w (by omega) hs
  have hcz := (cut_size s 2).1
  have H4 := Lib.hid (fun w => kword_any w (cutS s 2) (by unfold maxLen; omega))
  have H5 := Lib.hid (fun w => truth_any w c hc)
  clear ha hb hc hs hcz
  go_enter Tryd.func7, Tryd.ntmps7
  go_wp2_with (first | (go_at_call 13; ((with_reducible refine (H1.out _).mono ?_); rintro e w' ⟨rfl, rfl⟩)) | (go_at_call 13; ((with_reducible refine (H2.out _).mono ?_); rintro e w' ⟨rfl, rfl⟩)) | (go_at_call 17; ((with_reducible refine (H3.out _).mono ?_); rintro e w' ⟨rfl, rfl⟩)))
  refine (H4.out _).mono ?_
  rintro e w1 ⟨t, rfl, hlw, hb1⟩
  have HB1 := Lib.hid hb1
  have HLW := Lib.hid hlw
  clear hb1 hlw
  go_wp2_with fail
  refine (H5.out _).mono ?_
  rintro e w2 ⟨tk, tn, rfl, hor, hb2⟩
  have HB2 := Lib.hid (into HB1.out hb2)
  have HOR := Lib.hid hor
  clear hb2 hor
  go_wp2_with fail
  go_ret
  refine ⟨w2, _, _, tk, tn, _, rfl, rfl, HB2.out, ?_, HOR.out, (pck_in a 12 (by omega)).1, (pck_in a 12 (by omega)).2, (pck_in b 9 (by omega)).1, (pck_in b 9 (by omega)).2⟩
  have := HLW.out.2.1
  show t.toArray.size ≤ 6
  rw [List.size_toArray]
  exact this
theorem rowOf_any (w : World) (a b c : Int) (s : ByteArray) (ha : Rn a) (hb : Rn b) (hc : Rn c) (hs : s.size ≤ maxLen) :
    Calls Tryd.prog 7 #[.int .i64 a, .int .i64 b, .string s, .int .i64 c] w fun e w' => ∃ (w1 : World) (p q tk tn : Int) (t : ByteArray), e = .returned (.slice (some ⟨w1.heap.size, 0, none⟩) 4 4) ∧ w' = w1.alloc (.cells (rowC p q tk tn t) 36) ∧ Below w.heap.size w w1 ∧ t.size ≤ 6 ∧ ((tk = 0 ∧ tn = 0) ∨ (tk = 1 ∧ (tn = 0 ∨ tn = 1))) := (rowOf_rng w a b c s ha hb hc hs).mono fun e w' ⟨w1, p, q, tk, tn, t, h1, h2, h3, h4, h5, _⟩ => ⟨w1, p, q, tk, tn, t, h1, h2, h3, h4, h5⟩
end Go.Proofs.YtmfkdpfcpdmkdaaDoor
