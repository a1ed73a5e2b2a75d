/- A token taken: the program. -/
import Derived.Test.YtfoilmhpoipmpaaDoorSf
import Derived.Test.YtfoilmhpoipmpaaDoorShb
namespace Go.Proofs.YtfoilmhpoipmpaaDoor
open Go.ChangeShapes Go.WideShapes Go.ChangeAt Go.RowKit
set_option linter.unusedVariables false
set_option linter.unusedSimpArgs false
set_option maxHeartbeats 1000000
/-- What the library's variables read as. -/
def Lx (w : World) : Prop := Mk w ∧ (∃ m, w.cell? ⟨1, 0, none⟩ = some (.int .i64 m)) ∧ ∃ t fr tp p, w.heap[3]? = some (.cells #[.iface tp p] t fr)
theorem Lx.below {w w' : World} (h : Lx w) (hb : Below w.heap.size w w') : Lx w' := by
  obtain ⟨h1, ⟨m, h2⟩, t, fr, tp, p, h3⟩ := h
  refine ⟨h1.below hb, ⟨m, (hb.cell (lt_cell h2)).trans h2⟩, t, fr, tp, p, ?_⟩
  have hlt : 3 < w.heap.size := by
    rcases Nat.lt_or_ge 3 w.heap.size with g | g
    · exact g
    · rw [Array.getElem?_eq_none g] at h3; cases h3
  exact (hb.block _ hlt).trans h3
abbrev tkv (x : Tk) : Value := .agg #[.int .i64 x.k, .string ⟨x.t.toArray⟩, .int .i64 x.n]
abbrev tk0 : Tk := ⟨0, [], 0⟩
def hdV : Hd → Value
  | .tok x n => .tuple #[tkv x, .int .i64 (n : Int), .int .i64 0]
  | .bad e => .tuple #[tkv tk0, .int .i64 0, .int .i64 e]
theorem clone_any (w : World) (s : ByteArray) (hs : s.size ≤ 400) : Calls Tryd.prog 44 #[.string s] w fun e w' => e = .returned (.string s) ∧ Below w.heap.size w w' := by
  have hc := Tryd.stringslite_Clone s w (by omega)
  have HC := Lib.hid hc
  clear hc
  go_enter Tryd.func44, Tryd.ntmps44
  go_wp2_with (go_at_call 52; refine HC.out.mono ?_; rintro e w' ⟨rfl, hb⟩)
  go_ret
  exact ⟨rfl, hb⟩
theorem atoi_digits_ok (w : World) (s : ByteArray) (hs : s.size ≤ 400) (h0 : s.data.toList ≠ []) (hd : s.data.toList.all dg = true) (h : numOf s.data.toList < 9223372036854775808) :
    Calls Tryd.prog 51 #[.string s] w fun e w' => e = .returned (.tuple #[.int .i64 (numOf s.data.toList : Nat), .nilIface]) ∧ Below w.heap.size w w' := by
  refine (Tryd.strconv_Atoi_ok s (by omega) _ (by rw [atoi_digits _ h0 hd, if_pos h]) w).mono ?_
  rintro e w' ⟨rfl, h⟩
  rcases h with rfl | ⟨t, rfl⟩
  · exact ⟨rfl, Below.refl _ _⟩
  · exact ⟨rfl, Lib.bytesWorld_below _ _ _⟩
theorem atoi_digits_big (w : World) (hx : Lx w) (s : ByteArray) (hs : s.size ≤ 400) (h0 : s.data.toList ≠ []) (hd : s.data.toList.all dg = true) (h : ¬ numOf s.data.toList < 9223372036854775808) :
    Calls Tryd.prog 51 #[.string s] w fun e w' => ∃ (N : Nat) (i : Int) (t : TypeId), e = .returned (.tuple #[.int .i64 i, .iface t (.pointer (some ⟨N, 0, none⟩))]) ∧ Below w.heap.size w w' := by
  obtain ⟨_, _, t, fr, tp, p, hv⟩ := hx
  have hvar : w.var? Tryd.prog "strconv.ErrRange" = some #[.iface tp p] := by
    have hg : Tryd.prog.globalNamed "strconv.ErrRange" = some 3 := by kernel_rfl
    simp [World.var?, hg, hv]
  refine (Tryd.strconv_Atoi_range_var s (by omega) (by rw [atoi_digits _ h0 hd, if_neg h]) tp p w hvar).mono ?_
  rintro e w' ⟨N, rfl, _, _, hb⟩
  exact ⟨N, _, _, rfl, hb⟩
theorem ext_take (s : ByteArray) (n : Nat) : (s.extract 0 n).data.toList = s.data.toList.take n := Lib.extract_from_zero s n
theorem ext_mk (s : ByteArray) (n : Nat) : s.extract 0 n = ⟨(s.data.toList.take n).toArray⟩ := str_ext (ext_take s n)
theorem ext_size (s : ByteArray) (n : Nat) (h : n ≤ s.size) : (s.extract 0 n).size = n := by rw [ByteArray.size_extract]; omega
theorem take_all {p : UInt8 → Bool} (l : List UInt8) : (l.take (spn p l)).all p = true := by
  rw [List.all_eq_true]
  intro x hx
  obtain ⟨k, hk, rfl⟩ := List.getElem_of_mem hx
  rw [List.length_take] at hk
  have := spn_in p l k (by omega)
  simpa [List.getD, show k < l.length by omega] using this
theorem box_after {w w1 : World} {x y z : Value} {t : TypeId} (hb : Below (w.alloc (.cells #[x, y, z] t)).heap.size (w.alloc (.cells #[x, y, z] t)) w1) :
    Below w.heap.size w w1 ∧ w.heap.size < w1.heap.size ∧ w1.cell? ⟨w.heap.size, 0, none⟩ = some x ∧ w1.cell? ⟨w.heap.size, 1, none⟩ = some y ∧ w1.cell? ⟨w.heap.size, 2, none⟩ = some z ∧
    w1.frozen? ⟨w.heap.size, 0, none⟩ = false ∧ w1.frozen? ⟨w.heap.size, 1, none⟩ = false ∧ w1.frozen? ⟨w.heap.size, 2, none⟩ = false := by
  have h := has3 (new0 _ _) hb
  have hs := hb.size
  simp only [World.size_alloc] at hs
  exact ⟨into ((Below.refl _ _).alloc (Nat.le_refl _) _) hb, by omega, h⟩
/-- A number. -/
theorem number_any (w : World) (hx : Lx w) (s : ByteArray) (hs : s.size ≤ 400) (h0 : 0 < s.size) (hd : dg (s.data.toList.getD 0 0) = true) :
    Calls Tryd.prog 42 #[.string s] w fun e w' => e = .returned (hdV (numT s.data.toList)) ∧ Below w.heap.size w w' := by
  have hsz := len_size s
  have hsp := span_digit (w.alloc (.cells #[.int .i64 0, .string ⟨#[]⟩, .int .i64 0] 29)) s (by unfold maxLen; omega)
  have hle := spn_le dg s.data.toList
  have hpos := spn_pos (p := dg) (l := s.data.toList) (by omega) hd
  obtain ⟨n, hn⟩ : ∃ n, n = spn dg s.data.toList := ⟨_, rfl⟩
  have hT : numT s.data.toList = if n < s.size ∧ iw (s.data.toList.getD n 0) = true then .bad 6 else if numOf (s.data.toList.take n) < 9223372036854775808 then .tok ⟨2, [], numOf (s.data.toList.take n)⟩ n else .bad 5 := by
    rw [hn, ← hsz]; rfl
  have hall := take_all (p := dg) s.data.toList
  rw [← hn] at hsp hle hpos hall
  rw [hsz] at hle
  have HS := Lib.hid hsp
  have HB : Hid (∀ h : n < s.size, s[n] = s.data.toList.getD n 0) := fun h => byte_at s n h
  clear hsp hn hd
  have hz : ((n : Nat) : Int) ≤ 400 := by omega
  have hew : (s.extract 0 n).size = n := ext_size s n hle
  have hne : (s.extract 0 n).data.toList ≠ [] := by
    intro h
    have := congrArg List.length h
    rw [len_size, hew] at this
    simp at this
    omega
  have hea : (s.extract 0 n).data.toList.all dg = true := by rw [ext_take]; exact hall
  have hok := atoi_digits_ok (w.alloc (.cells #[.int .i64 0, .string ⟨#[]⟩, .int .i64 0] 29)) (s.extract 0 n) (by omega) hne hea
  have hbig := atoi_digits_big (w.alloc (.cells #[.int .i64 0, .string ⟨#[]⟩, .int .i64 0] 29)) (hx.below ((Below.refl _ _).alloc (Nat.le_refl _) _)) (s.extract 0 n) (by omega) hne hea
  rw [ext_take] at hok hbig
  obtain ⟨v, hv⟩ : ∃ v, v = numOf (s.data.toList.take n) := ⟨_, rfl⟩
  rw [← hv] at hok hbig hT
  have HOK := Lib.hid hok
  have HBIG := Lib.hid hbig
  have HT := Lib.hid hT
  clear hok hbig hne hea hall hew hx hv hT
  by_cases hc : n < s.size ∧ iw (s.data.toList.getD n 0) = true
  · obtain ⟨hlt, hi⟩ := hc
    have hw1 := inWord_any (w.alloc (.cells #[.int .i64 0, .string ⟨#[]⟩, .int .i64 0] 29)) s[n]
    rw [HB.out hlt, hi, ← HB.out hlt] at hw1
    have HW := Lib.hid hw1
    have HF : Hid (numT s.data.toList = .bad 6) := by show _ = _; rw [HT.out, if_pos ⟨hlt, hi⟩]
    clear hw1 hi HB HT HOK HBIG
    go_enter Tryd.func42, Tryd.ntmps42
    go_wp2_with (first | (go_at_call 25; ((with_reducible refine HS.out.mono ?_); rintro e w' ⟨rfl, rfl⟩)) | (go_at_call 43; ((with_reducible refine HW.out.mono ?_); rintro e w' ⟨rfl, rfl⟩)))
    go_returns
    rw [HF.out]
    exact ⟨rfl, by go_grown⟩
  · have hF : numT s.data.toList = if v < 9223372036854775808 then .tok ⟨2, [], v⟩ n else .bad 5 := by rw [HT.out, if_neg hc]
    have HC := Lib.hid hc
    clear hc HT
    by_cases hlt : n < s.size
    all_goals (
      (try (
        have hcf : iw (s.data.toList.getD n 0) = false := by
          rw [Bool.eq_false_iff]
          exact fun h => HC.out ⟨hlt, h⟩
        have hw1 := inWord_any (w.alloc (.cells #[.int .i64 0, .string ⟨#[]⟩, .int .i64 0] 29)) s[n]
        rw [HB.out hlt, hcf, ← HB.out hlt] at hw1
        have HW := Lib.hid hw1
        clear hw1 hcf))
      by_cases hv : v < 9223372036854775808
      · rw [if_pos hv] at hF
        have HF := Lib.hid hF
        have HO := Lib.hid (HOK.out hv)
        clear hF HOK HBIG hv HB HC
        go_enter Tryd.func42, Tryd.ntmps42
        go_wp2_with (first | (go_at_call 25; ((with_reducible refine HS.out.mono ?_); rintro e w' ⟨rfl, rfl⟩)) | (go_at_call 43; ((with_reducible refine HW.out.mono ?_); rintro e w' ⟨rfl, rfl⟩)) | (go_at_call 51; ((with_reducible refine HO.out.mono ?_); rintro e w1 ⟨rfl, hb1⟩; obtain ⟨hB, hz1, r0, r1, r2, r3, r4, r5⟩ := box_after hb1; have HB1 := Lib.hid hB; clear hb1 hB)))
        refine bodyPost_ret (by simp [results, Tryd.results42, go_sem, r0, r1, r2]; try rfl) rfl ?_
        rw [HF.out]
        have hB := HB1.out
        exact ⟨rfl, by go_grown⟩
      · rw [if_neg hv] at hF
        have HF := Lib.hid hF
        have HO := Lib.hid (HBIG.out hv)
        clear hF HOK HBIG hv HB HC
        go_enter Tryd.func42, Tryd.ntmps42
        go_wp2_with (first | (go_at_call 25; ((with_reducible refine HS.out.mono ?_); rintro e w' ⟨rfl, rfl⟩)) | (go_at_call 43; ((with_reducible refine HW.out.mono ?_); rintro e w' ⟨rfl, rfl⟩)) | (go_at_call 51; ((with_reducible refine HO.out.mono ?_); rintro e w1 ⟨N, i, t, rfl, hb1⟩; obtain ⟨hB, hz1, r0, r1, r2, r3, r4, r5⟩ := box_after hb1; have HB1 := Lib.hid hB; clear hb1 hB)))
        refine bodyPost_ret (by simp [results, Tryd.results42, go_sem, r0, r1, r2]; try rfl) rfl ?_
        rw [HF.out]
        have hB := HB1.out
        exact ⟨rfl, by go_grown⟩)
end Go.Proofs.YtfoilmhpoipmpaaDoor
