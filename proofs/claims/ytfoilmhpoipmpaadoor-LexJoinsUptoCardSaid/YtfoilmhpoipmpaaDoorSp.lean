/- A token, taken: the program. -/
import Derived.Test.YtfoilmhpoipmpaaDoorSo
namespace Go.Proofs.YtfoilmhpoipmpaaDoor
open Go.ChangeShapes Go.WideShapes Go.ChangeAt Go.RowKit
set_option linter.unusedVariables false
set_option linter.unusedSimpArgs false
set_option maxHeartbeats 1000000
abbrev tkW (w : World) : World := w.alloc (.cells #[.int .i64 0, .string ⟨#[]⟩, .int .i64 0] 29)
theorem box_tk {w w1 : World} (hb : Below (tkW w).heap.size (tkW w) w1) : Below w.heap.size w w1 ∧ w.heap.size < w1.heap.size ∧ w1.heap[w.heap.size]? = some (.cells #[.int .i64 0, .string ⟨#[]⟩, .int .i64 0] 29 (0, 0)) := by
  have hs := hb.size
  simp only [tkW, World.size_alloc] at hs
  exact ⟨into ((Below.refl _ _).alloc (Nat.le_refl _) _) hb, by omega, (hb.block _ (by simp)).trans (new0 _ _)⟩
theorem take_number (w : World) (hx : Lx w) (s : ByteArray) (hs : s.size ≤ 400) (h0 : 0 < s.size) (hd : dg (s.data.toList.getD 0 0) = true) :
    Calls Tryd.prog 26 #[.string s] w fun e w' => e = .returned (hdV (tokT s.data.toList)) ∧ Below w.heap.size w w' := by
  have hT : tokT s.data.toList = numT s.data.toList := by unfold tokT; rw [if_pos hd]
  have hc := number_any (tkW w) (hx.below ((Below.refl _ _).alloc (Nat.le_refl _) _)) s hs h0 hd
  have hd1 := isDigit_any (tkW w) s[0]
  rw [byte_at s 0 h0, hd, ← byte_at s 0 h0] at hd1
  have HD := Lib.hid hd1
  cases hR : numT s.data.toList with
  | tok x n =>
    rw [hR] at hc hT
    simp only [hdV] at hc
    have HC := Lib.hid hc
    have HT := Lib.hid hT
    clear hc hT hR hd1 hd hx
    go_enter Tryd.func26, Tryd.ntmps26
    go_wp2_with (first | (go_at_call 41; ((with_reducible refine HD.out.mono ?_); rintro e w' ⟨rfl, rfl⟩)) | (go_at_call 42; ((with_reducible refine HC.out.mono ?_); rintro e w1 ⟨rfl, hb1⟩; obtain ⟨hB, hz1, hk1⟩ := box_tk hb1; obtain ⟨r0, r1, r2, r3, r4, r5⟩ := box3 hk1; have HB1 := Lib.hid hB; clear hb1 hB hk1)))
    refine bodyPost_ret (by simp [results, Tryd.results26, go_sem, r0, r1, r2]; try rfl) rfl ?_
    rw [HT.out]
    have hB := HB1.out
    exact ⟨rfl, by go_grown⟩
  | bad e0 =>
    rw [hR] at hc hT
    simp only [hdV] at hc
    have HC := Lib.hid hc
    have HT := Lib.hid hT
    clear hc hT hR hd1 hd hx
    go_enter Tryd.func26, Tryd.ntmps26
    go_wp2_with (first | (go_at_call 41; ((with_reducible refine HD.out.mono ?_); rintro e w' ⟨rfl, rfl⟩)) | (go_at_call 42; ((with_reducible refine HC.out.mono ?_); rintro e w1 ⟨rfl, hb1⟩; obtain ⟨hB, hz1, hk1⟩ := box_tk hb1; obtain ⟨r0, r1, r2, r3, r4, r5⟩ := box3 hk1; have HB1 := Lib.hid hB; clear hb1 hB hk1)))
    refine bodyPost_ret (by simp [results, Tryd.results26, go_sem, r0, r1, r2]; try rfl) rfl ?_
    rw [HT.out]
    have hB := HB1.out
    exact ⟨rfl, by go_grown⟩
theorem take_word (w : World) (hx : Lx w) (s : ByteArray) (hs : s.size ≤ 400) (h0 : 0 < s.size) (hd : dg (s.data.toList.getD 0 0) = false) (hi : iw (s.data.toList.getD 0 0) = true) :
    Calls Tryd.prog 26 #[.string s] w fun e w' => e = .returned (hdV (tokT s.data.toList)) ∧ Below w.heap.size w w' := by
  have hT : tokT s.data.toList = .tok ⟨1, s.data.toList.take (spn iw s.data.toList), 0⟩ (spn iw s.data.toList) := by unfold tokT; rw [if_neg (by rw [hd]; simp), if_pos hi]
  have hsp := span_word (tkW w) s (by unfold maxLen; omega)
  have hle := spn_le iw s.data.toList
  rw [len_size] at hle
  obtain ⟨n, hn⟩ : ∃ n, n = spn iw s.data.toList := ⟨_, rfl⟩
  rw [← hn] at hT hsp hle
  have hcl := clone_any (tkW w) (s.extract 0 n) (by rw [ByteArray.size_extract]; omega)
  have hd1 := isDigit_any (tkW w) s[0]
  rw [byte_at s 0 h0, hd, ← byte_at s 0 h0] at hd1
  have hi1 := inWord_any (tkW w) s[0]
  rw [byte_at s 0 h0, hi, ← byte_at s 0 h0] at hi1
  have HD := Lib.hid hd1
  have HI := Lib.hid hi1
  have HC := Lib.hid hcl
  have HS := Lib.hid hsp
  have HT := Lib.hid hT
  have hnI : (n : Int) ≤ 400 := by omega
  have HEX := Lib.hid (ext_mk s n)
  clear hcl hsp hT hd1 hd hx hi1 hi hn
  go_enter Tryd.func26, Tryd.ntmps26
  go_wp2_with (first | (go_at_call 41; ((with_reducible refine HD.out.mono ?_); rintro e w' ⟨rfl, rfl⟩)) | (go_at_call 43; ((with_reducible refine HI.out.mono ?_); rintro e w' ⟨rfl, rfl⟩)) | (go_at_call 25; ((with_reducible refine HS.out.mono ?_); rintro e w' ⟨rfl, rfl⟩)) | (go_at_call 44; ((with_reducible refine HC.out.mono ?_); rintro e w1 ⟨rfl, hb1⟩; obtain ⟨hB, hz1, hk1⟩ := box_tk hb1; obtain ⟨r0, r1, r2, r3, r4, r5⟩ := box3 hk1; have HB1 := Lib.hid hB; clear hb1 hB hk1)))
  refine bodyPost_ret (by simp [results, Tryd.results26, go_sem, r0, r1, r2]; try rfl) rfl ?_
  rw [HT.out]
  have hB := HB1.out
  refine ⟨by rw [HEX.out]; rfl, by go_grown⟩
theorem take_string (w : World) (hx : Lx w) (s : ByteArray) (hs : s.size ≤ 400) (h0 : 0 < s.size) (hq : s.data.toList.getD 0 0 = 39) :
    Calls Tryd.prog 26 #[.string s] w fun e w' => e = .returned (hdV (tokT s.data.toList)) ∧ Below w.heap.size w w' := by
  have hT : tokT s.data.toList = strT s.data.toList := by unfold tokT; rw [hq, if_neg (by decide), if_neg (by decide), if_pos rfl]
  have hc := string_any (tkW w) (hx.below ((Below.refl _ _).alloc (Nat.le_refl _) _)) s hs h0 hq
  have hd1 := isDigit_any (tkW w) s[0]
  rw [byte_at s 0 h0, hq, show dg 39 = false from by decide] at hd1
  have hi1 := inWord_any (tkW w) s[0]
  rw [byte_at s 0 h0, hq, show iw 39 = false from by decide] at hi1
  have hb39 : ((s[0]).toNat : Int) = 39 := by rw [byte_at s 0 h0, hq]; rfl
  have e39 : ((39 : UInt8).toNat : Int) = 39 := rfl
  rw [e39] at hd1 hi1
  have HD := Lib.hid hd1
  have HI := Lib.hid hi1
  cases hR : strT s.data.toList with
  | tok x n =>
    rw [hR] at hc hT
    simp only [hdV] at hc
    have HC := Lib.hid hc
    have HT := Lib.hid hT
    clear hc hT hR hd1 hx hi1 hq e39
    go_enter Tryd.func26, Tryd.ntmps26
    go_wp2_with (first | (go_at_call 41; ((with_reducible refine HD.out.mono ?_); rintro e w' ⟨rfl, rfl⟩)) | (go_at_call 43; ((with_reducible refine HI.out.mono ?_); rintro e w' ⟨rfl, rfl⟩)) | (go_at_call 45; ((with_reducible refine HC.out.mono ?_); rintro e w1 ⟨rfl, hb1⟩; obtain ⟨hB, hz1, hk1⟩ := box_tk hb1; obtain ⟨r0, r1, r2, r3, r4, r5⟩ := box3 hk1; have HB1 := Lib.hid hB; clear hb1 hB hk1)))
    refine bodyPost_ret (by simp [results, Tryd.results26, go_sem, r0, r1, r2]; try rfl) rfl ?_
    rw [HT.out]
    have hB := HB1.out
    exact ⟨rfl, by go_grown⟩
  | bad e0 =>
    rw [hR] at hc hT
    simp only [hdV] at hc
    have HC := Lib.hid hc
    have HT := Lib.hid hT
    clear hc hT hR hd1 hx hi1 hq e39
    go_enter Tryd.func26, Tryd.ntmps26
    go_wp2_with (first | (go_at_call 41; ((with_reducible refine HD.out.mono ?_); rintro e w' ⟨rfl, rfl⟩)) | (go_at_call 43; ((with_reducible refine HI.out.mono ?_); rintro e w' ⟨rfl, rfl⟩)) | (go_at_call 45; ((with_reducible refine HC.out.mono ?_); rintro e w1 ⟨rfl, hb1⟩; obtain ⟨hB, hz1, hk1⟩ := box_tk hb1; obtain ⟨r0, r1, r2, r3, r4, r5⟩ := box3 hk1; have HB1 := Lib.hid hB; clear hb1 hB hk1)))
    refine bodyPost_ret (by simp [results, Tryd.results26, go_sem, r0, r1, r2]; try rfl) rfl ?_
    rw [HT.out]
    have hB := HB1.out
    exact ⟨rfl, by go_grown⟩
theorem take_mark (w : World) (hx : Lx w) (s : ByteArray) (hs : s.size ≤ 400) (h0 : 0 < s.size) (hd : dg (s.data.toList.getD 0 0) = false) (hi : iw (s.data.toList.getD 0 0) = false) (hq : ¬ s.data.toList.getD 0 0 = 39) :
    Calls Tryd.prog 26 #[.string s] w fun e w' => e = .returned (hdV (tokT s.data.toList)) ∧ Below w.heap.size w w' := by
  have hT : tokT s.data.toList = if mkOf s.data.toList = 0 then .bad 6 else .tok ⟨4, s.data.toList.take (mkOf s.data.toList), 0⟩ (mkOf s.data.toList) := by
    unfold tokT; rw [if_neg (by rw [hd]; simp), if_neg (by rw [hi]; simp), if_neg hq]
  have hmk := markAt_any (tkW w) (hx.1.alloc _) s
  have hle := mkOf_le s.data.toList
  rw [len_size] at hle
  obtain ⟨n, hn⟩ : ∃ n, n = mkOf s.data.toList := ⟨_, rfl⟩
  rw [← hn] at hT hmk hle
  have hcl := clone_any (tkW w) (s.extract 0 n) (by rw [ByteArray.size_extract]; omega)
  have hd1 := isDigit_any (tkW w) s[0]
  rw [byte_at s 0 h0, hd, ← byte_at s 0 h0] at hd1
  have hi1 := inWord_any (tkW w) s[0]
  rw [byte_at s 0 h0, hi, ← byte_at s 0 h0] at hi1
  have hb39 : ¬ ((s[0]).toNat : Int) = 39 := by
    rw [byte_at s 0 h0]
    exact fun h => hq (q_of h)
  have hb39' : (((s[0]).toNat : Int) == 39) = false := by simpa using hb39
  have HD := Lib.hid hd1
  have HI := Lib.hid hi1
  have HC := Lib.hid hcl
  have HM := Lib.hid hmk
  have hnI : (n : Int) ≤ 400 := by omega
  have HEX := Lib.hid (ext_mk s n)
  clear hcl hmk hd1 hd hx hi1 hi hn hq hb39
  by_cases hn0 : n = 0
  · rw [if_pos hn0] at hT
    have HT := Lib.hid hT
    clear hT
    subst hn0
    go_enter Tryd.func26, Tryd.ntmps26
    go_wp2_with (first | (go_at_call 41; ((with_reducible refine HD.out.mono ?_); rintro e w' ⟨rfl, rfl⟩)) | (go_at_call 43; ((with_reducible refine HI.out.mono ?_); rintro e w' ⟨rfl, rfl⟩)) | (go_at_call 46; ((with_reducible refine HM.out.mono ?_); rintro e w' ⟨rfl, rfl⟩)))
    go_returns
    rw [HT.out]
    exact ⟨rfl, by go_grown⟩
  · rw [if_neg hn0] at hT
    have HT := Lib.hid hT
    have hn0' : ((n : Int) == 0) = false := by simpa using hn0
    clear hT hn0
    go_enter Tryd.func26, Tryd.ntmps26
    go_wp2_with (first | (go_at_call 41; ((with_reducible refine HD.out.mono ?_); rintro e w' ⟨rfl, rfl⟩)) | (go_at_call 43; ((with_reducible refine HI.out.mono ?_); rintro e w' ⟨rfl, rfl⟩)) | (go_at_call 46; ((with_reducible refine HM.out.mono ?_); rintro e w' ⟨rfl, rfl⟩)) | (go_at_call 44; ((with_reducible refine HC.out.mono ?_); rintro e w1 ⟨rfl, hb1⟩; obtain ⟨hB, hz1, hk1⟩ := box_tk hb1; obtain ⟨r0, r1, r2, r3, r4, r5⟩ := box3 hk1; have HB1 := Lib.hid hB; clear hb1 hB hk1)))
    refine bodyPost_ret (by simp [results, Tryd.results26, go_sem, r0, r1, r2]; try rfl) rfl ?_
    rw [HT.out]
    have hB := HB1.out
    refine ⟨by rw [HEX.out]; rfl, by go_grown⟩
theorem take_any (w : World) (hx : Lx w) (s : ByteArray) (hs : s.size ≤ 400) (h0 : 0 < s.size) :
    Calls Tryd.prog 26 #[.string s] w fun e w' => e = .returned (hdV (tokT s.data.toList)) ∧ Below w.heap.size w w' := by
  by_cases hd : dg (s.data.toList.getD 0 0) = true
  · exact take_number w hx s hs h0 hd
  · by_cases hi : iw (s.data.toList.getD 0 0) = true
    · exact take_word w hx s hs h0 (by simpa using hd) hi
    · by_cases hq : s.data.toList.getD 0 0 = 39
      · exact take_string w hx s hs h0 hq
      · exact take_mark w hx s hs h0 (by simpa using hd) (by simpa using hi) hq
end Go.Proofs.YtfoilmhpoipmpaaDoor
