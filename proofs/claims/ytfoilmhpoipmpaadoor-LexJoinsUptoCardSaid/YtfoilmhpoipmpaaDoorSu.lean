/- The token at a place: the document: texts between quotes. -/
import Derived.Test.YtfoilmhpoipmpaaDoorSt
namespace Go.Proofs.YtfoilmhpoipmpaaDoor
open Go.ChangeShapes Go.WideShapes Go.ChangeAt Go.RowKit
set_option linter.unusedVariables false
set_option linter.unusedSimpArgs false
set_option maxRecDepth 100000
set_option maxHeartbeats 2000000
theorem strR_c {c : UInt8} (r : List UInt8) (h : ¬ c = 39) : strR (c :: r) = (strR r).map fun x => (c :: x.1, x.2 + 1) := by
  cases r with
  | nil => simp [strR, h]
  | cons d r => rw [strR, if_neg h]
theorem strR_end {r : List UInt8} (h : r = [] ∨ ¬ r.getD 0 0 = 39) : strR (39 :: r) = some ([], 1) := by
  cases r with
  | nil => simp [strR]
  | cons d r =>
    have hd : ¬ d = 39 := by simpa using h
    rw [strR, if_pos rfl, if_neg hd]
theorem strR_two (r : List UInt8) : strR (39 :: 39 :: r) = (strR r).map fun x => (39 :: x.1, x.2 + 2) := by
  rw [strR, if_pos rfl, if_pos rfl]
/-- How far a text has been read. -/
def StrAt (l : List UInt8) (i k : Nat) (acc : List UInt8) : Prop := strR (l.drop (i + 1)) = (strR (l.drop k)).map fun x => (acc ++ x.1, x.2 + (k - (i + 1)))
theorem StrAt.start (l : List UInt8) (i : Nat) : StrAt l i (i + 1) [] := by
  unfold StrAt
  rw [Nat.sub_self]
  cases strR (l.drop (i + 1)) <;> simp
theorem StrAt.char {l : List UInt8} {i k : Nat} {acc : List UInt8} (h : StrAt l i k acc) (hik : i + 1 ≤ k) (hk : k < l.length) (hc : ¬ l.getD k 0 = 39) : StrAt l i (k + 1) (acc ++ [l.getD k 0]) := by
  unfold StrAt at *
  rw [h, drop_at hk, strR_c _ hc, Option.map_map]
  congr 1
  funext x
  simp
  omega
theorem StrAt.two {l : List UInt8} {i k : Nat} {acc : List UInt8} (h : StrAt l i k acc) (hik : i + 1 ≤ k) (hk : k + 1 < l.length) (hc : l.getD k 0 = 39) (hd : l.getD (k + 1) 0 = 39) : StrAt l i (k + 1 + 1) (acc ++ [39]) := by
  unfold StrAt at *
  rw [h, drop_two hk, hc, hd, strR_two, Option.map_map]
  congr 1
  funext x
  simp
  omega
theorem StrAt.stop {l : List UInt8} {i k : Nat} {acc : List UInt8} (h : StrAt l i k acc) (hik : i + 1 ≤ k) (hk : k < l.length) (hc : l.getD k 0 = 39) (hd : l.length ≤ k + 1 ∨ ¬ l.getD (k + 1) 0 = 39) : strR (l.drop (i + 1)) = some (acc, k - i) := by
  unfold StrAt at *
  rw [h, drop_at hk, hc, strR_end]
  · simp
    omega
  · rcases hd with hd | hd
    · exact .inl (List.drop_eq_nil_of_le hd)
    · right; rw [getD_drop]; exact hd
theorem StrAt.none {l : List UInt8} {i k : Nat} {acc : List UInt8} (h : StrAt l i k acc) (hk : l.length ≤ k) : strR (l.drop (i + 1)) = none := by
  unfold StrAt at *
  rw [h, List.drop_eq_nil_of_le hk]
  rfl
theorem rtok_str (w : World) (s : ByteArray) (i : Nat) (hs : s.size ≤ 400) (hi : i < s.size) (hq : s.data.toList.getD i 0 = 39) :
    Calls Tryd.prog 27 #[.string s, .int .i64 (i : Int)] w fun e w' => e = .returned (hdR i (tokT (s.data.toList.drop i))) ∧ Below w.heap.size w w' := by
  have hsz := len_size s
  have h0 : (s.data.toList.drop i).getD 0 0 = s.data.toList.getD i 0 := by rw [getD_drop]; rfl
  have hT : tokT (s.data.toList.drop i) = match strR (s.data.toList.drop (i + 1)) with | none => .bad 7 | some x => .tok ⟨3, x.1, 0⟩ (x.2 + 1) := by
    unfold tokT
    rw [h0, hq, if_neg (by decide), if_neg (by decide), if_pos rfl, drop_at (by omega)]
    rfl
  have hw1 := wordByte_any (tkW w) s[i]
  rw [byte_at s i hi, hq, show wb 39 = false from by decide] at hw1
  have hd1 := numberByte_any (tkW w) s[i]
  rw [byte_at s i hi, hq, show dg 39 = false from by decide] at hd1
  have hb39 : ((s[i]).toNat : Int) = 39 := by rw [byte_at s i hi, hq]; rfl
  have e39 : ((39 : UInt8).toNat : Int) = 39 := rfl
  rw [e39] at hd1 hw1
  have HW := Lib.hid hw1
  have HD := Lib.hid hd1
  have HT := Lib.hid hT
  have HL := Lib.hid hsz
  have hnew := new0 w (.cells #[.int .i64 0, .string ⟨#[]⟩, .int .i64 0] 29)
  have HNEW := Lib.hid hnew
  have HB0 : Hid (Below w.heap.size w (tkW w)) := (Below.refl _ _).alloc (Nat.le_refl _) _
  clear hw1 hd1 hT hsz h0 hq e39 hnew
  go_enter Tryd.func27, Tryd.ntmps27
  go_wp2_with (first | (go_at_call 31; ((with_reducible refine HW.out.mono ?_); rintro e w' ⟨rfl, rfl⟩)) | (go_at_call 30; ((with_reducible refine HD.out.mono ?_); rintro e w' ⟨rfl, rfl⟩)))
  clear hb39
  go_loopw [12, 13] (fun v t wr => ∃ (k : Nat) (acc : List UInt8), i + 1 ≤ k ∧ k ≤ s.size ∧ acc.length ≤ k ∧ t = .int .i64 (k : Int) ∧ Hid (StrAt s.data.toList i k acc) ∧ Hid (wr.ownsRow (w.heap.size + 1) 5 1 v acc.length (bc acc)) ∧ Hid (Below (w.heap.size + 1) (tkW w) wr)) (fun _ t _ => s.size - (intOf t).toNat)
  case atStart => exact ⟨i + 1, [], by omega, by omega, by simp, by go_num, StrAt.start _ _, World.ownsRow_nil _ _ _ _, Below.refl _ _⟩
  case round =>
    obtain ⟨k, acc, hik, hk, hac, rfl, HA, HO, HBL⟩ := hrel
    have hwz := HBL.out.size
    simp only [tkW, World.size_alloc] at hwz
    by_cases hlt : k < s.size
    · have hkl : k < s.data.toList.length := by rw [HL.out]; exact hlt
      by_cases h39 : ((s[k]).toNat : Int) = 39
      · have hc39 : s.data.toList.getD k 0 = 39 := by rw [← byte_at s k hlt]; exact q_of h39
        by_cases hlt2 : k + 1 < s.size
        · have hlt2I : (k : Int) + 1 < (s.size : Int) := by omega
          by_cases h392 : ((s[k + 1]).toNat : Int) = 39
          · have HN := Lib.hid (HA.out.two hik (by rw [HL.out]; exact hlt2) hc39 (by rw [← byte_at s (k + 1) hlt2]; exact q_of h392))
            go_wp2_with (at_builtin; refine ap1 wr rfl (.tmp 142) (.tmp 146) rfl HO.out (by omega) (by omega) rfl wr.heap.size rfl rfl rfl ?_; intro v1 w1 hown1 hb1 _; have HO1 := Lib.hid hown1; have HB1 := Lib.hid hb1; clear hown1 hb1)
            go_roundw
            case rel =>
              refine ⟨k + 1 + 1, acc ++ [39], by omega, by omega, by simp; omega, by go_num, HN.out, ?_, HBL.out.trans HB1.out⟩
              have := HO1.out
              show World.ownsRow _ _ _ _ _ _ _
              rw [bc_app, List.length_append]
              simpa [bc] using this
            case measure => simp [intOf]; omega
          · have h392' : (((s[k + 1]).toNat : Int) == 39) = false := by simpa using h392
            have hsto := HA.out.stop hik hkl hc39 (by right; rw [← byte_at s (k + 1) hlt2]; exact q_not h392)
            have HF : Hid (tokT (s.data.toList.drop i) = .tok ⟨3, acc, 0⟩ (k - i + 1)) := by show _ = _; rw [HT.out, hsto]
            have hk1 := (HBL.out.block w.heap.size (by omega)).trans HNEW.out
            obtain ⟨r0, r1, r2, r3, r4, r5⟩ := box3 hk1
            have HB := Lib.hid (HB0.out.trans (HBL.out.mono (by omega)))
            have hcv := str_of (Rd.own HO.out)
            clear hsto hk1
            go_wp2_with fail
            refine bodyPost_ret (by simp [results, Tryd.results27, go_sem, r0, r1, r2]; try rfl) rfl ?_
            rw [HF.out]
            have hB := HB.out
            refine ⟨?_, by go_grown⟩
            simp only [hdR]
            rw [show (i : Int) + ((k - i + 1 : Nat) : Int) = (k : Int) + 1 by omega]
        · have hlt2I : ¬ (k : Int) + 1 < (s.size : Int) := by omega
          have hsto := HA.out.stop hik hkl hc39 (by left; rw [HL.out]; omega)
          have HF : Hid (tokT (s.data.toList.drop i) = .tok ⟨3, acc, 0⟩ (k - i + 1)) := by show _ = _; rw [HT.out, hsto]
          have hk1 := (HBL.out.block w.heap.size (by omega)).trans HNEW.out
          obtain ⟨r0, r1, r2, r3, r4, r5⟩ := box3 hk1
          have HB := Lib.hid (HB0.out.trans (HBL.out.mono (by omega)))
          have hcv := str_of (Rd.own HO.out)
          clear hsto hk1
          go_wp2_with fail
          refine bodyPost_ret (by simp [results, Tryd.results27, go_sem, r0, r1, r2]; try rfl) rfl ?_
          rw [HF.out]
          have hB := HB.out
          refine ⟨?_, by go_grown⟩
          simp only [hdR]
          rw [show (i : Int) + ((k - i + 1 : Nat) : Int) = (k : Int) + 1 by omega]
      · have hc39 : ¬ s.data.toList.getD k 0 = 39 := by
          rw [← byte_at s k hlt]
          exact q_not h39
        have h39' : (((s[k]).toNat : Int) == 39) = false := by simpa using h39
        by_cases hlt2 : k + 1 < s.size
        · have hlt2I : (k : Int) + 1 < (s.size : Int) := by omega
          by_cases h392 : ((s[k + 1]).toNat : Int) = 39
          · have HN := Lib.hid (HA.out.char hik hkl hc39)
            go_wp2_with (at_builtin; refine ap1 wr rfl (.tmp 142) (.tmp 146) rfl HO.out (by omega) (by omega) rfl wr.heap.size rfl rfl rfl ?_; intro v1 w1 hown1 hb1 _; have HO1 := Lib.hid hown1; have HB1 := Lib.hid hb1; clear hown1 hb1)
            go_roundw
            case rel =>
              refine ⟨k + 1, acc ++ [s.data.toList.getD k 0], by omega, by omega, by simp; omega, by go_num, HN.out, ?_, HBL.out.trans HB1.out⟩
              have := HO1.out
              show World.ownsRow _ _ _ _ _ _ _
              rw [bc_app, List.length_append, ← byte_at s k hlt]
              exact this
            case measure => simp [intOf]; omega
          · have h392' : (((s[k + 1]).toNat : Int) == 39) = false := by simpa using h392
            have HN := Lib.hid (HA.out.char hik hkl hc39)
            go_wp2_with (at_builtin; refine ap1 wr rfl (.tmp 142) (.tmp 146) rfl HO.out (by omega) (by omega) rfl wr.heap.size rfl rfl rfl ?_; intro v1 w1 hown1 hb1 _; have HO1 := Lib.hid hown1; have HB1 := Lib.hid hb1; clear hown1 hb1)
            go_roundw
            case rel =>
              refine ⟨k + 1, acc ++ [s.data.toList.getD k 0], by omega, by omega, by simp; omega, by go_num, HN.out, ?_, HBL.out.trans HB1.out⟩
              have := HO1.out
              show World.ownsRow _ _ _ _ _ _ _
              rw [bc_app, List.length_append, ← byte_at s k hlt]
              exact this
            case measure => simp [intOf]; omega
        · have hlt2I : ¬ (k : Int) + 1 < (s.size : Int) := by omega
          have HN := Lib.hid (HA.out.char hik hkl hc39)
          go_wp2_with (at_builtin; refine ap1 wr rfl (.tmp 142) (.tmp 146) rfl HO.out (by omega) (by omega) rfl wr.heap.size rfl rfl rfl ?_; intro v1 w1 hown1 hb1 _; have HO1 := Lib.hid hown1; have HB1 := Lib.hid hb1; clear hown1 hb1)
          go_roundw
          case rel =>
            refine ⟨k + 1, acc ++ [s.data.toList.getD k 0], by omega, by omega, by simp; omega, by go_num, HN.out, ?_, HBL.out.trans HB1.out⟩
            have := HO1.out
            show World.ownsRow _ _ _ _ _ _ _
            rw [bc_app, List.length_append, ← byte_at s k hlt]
            exact this
          case measure => simp [intOf]; omega
    · obtain rfl : k = s.size := by omega
      have hn := HA.out.none (by rw [HL.out]; exact Nat.le_refl _)
      have HF : Hid (tokT (s.data.toList.drop i) = .bad 7) := by show _ = _; rw [HT.out, hn]
      have hk1 := (HBL.out.block w.heap.size (by omega)).trans HNEW.out
      obtain ⟨r0, r1, r2, r3, r4, r5⟩ := box3 hk1
      have HB := Lib.hid (HB0.out.trans (HBL.out.mono (by omega)))
      clear hn hk1
      go_wp2
      refine bodyPost_ret (by simp [results, Tryd.results27, go_sem, r0, r1, r2]; try rfl) rfl ?_
      rw [HF.out]
      have hB := HB.out
      exact ⟨rfl, by go_grown⟩
end Go.Proofs.YtfoilmhpoipmpaaDoor
