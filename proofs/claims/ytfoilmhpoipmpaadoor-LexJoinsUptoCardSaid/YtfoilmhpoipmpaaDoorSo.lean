/- A text between quotes, taken; a token, taken: the program. -/
import Derived.Test.YtfoilmhpoipmpaaDoorSn
namespace Go.Proofs.YtfoilmhpoipmpaaDoor
open Go.ChangeShapes Go.WideShapes Go.ChangeAt Go.RowKit
set_option linter.unusedVariables false
set_option linter.unusedSimpArgs false
set_option maxHeartbeats 1000000
theorem strR_len : ∀ (r : List UInt8) (t : List UInt8) (n : Nat), strR r = some (t, n) → t.length + 1 ≤ n
  | [], t, n, h => by simp [strR] at h
  | [c], t, n, h => by
    rw [strR] at h
    split at h
    · simp only [Option.some.injEq, Prod.mk.injEq] at h
      obtain ⟨rfl, rfl⟩ := h
      simp
    · simp at h
  | c :: d :: r, t, n, h => by
    rw [strR] at h
    split at h
    · split at h
      · obtain ⟨⟨t', n'⟩, hx, he⟩ := Option.map_eq_some_iff.1 h
        simp only [Prod.mk.injEq] at he
        obtain ⟨rfl, rfl⟩ := he
        have := strR_len r t' n' hx
        simp
        omega
      · simp only [Option.some.injEq, Prod.mk.injEq] at h
        obtain ⟨rfl, rfl⟩ := h
        simp
    · obtain ⟨⟨t', n'⟩, hx, he⟩ := Option.map_eq_some_iff.1 h
      simp only [Prod.mk.injEq] at he
      obtain ⟨rfl, rfl⟩ := he
      have := strR_len (d :: r) t' n' hx
      simp
      omega
theorem head_of {s : ByteArray} (h0 : 0 < s.size) : s.data.toList = s.data.toList.getD 0 0 :: s.data.toList.drop 1 := by
  have h := drop_at (l := s.data.toList) (k := 0) (by rw [len_size]; exact h0)
  rwa [List.drop_zero] at h
theorem replace_any (w : World) (hx : Lx w) (s : ByteArray) (hs : s.size ≤ 400) :
    Calls Tryd.prog 49 #[.string s, .string ⟨#[39, 39]⟩, .string ⟨#[39]⟩] w fun e w' => e = .returned (.string ⟨(Lib.replaceAll s.data.toList q2 q1).toArray⟩) ∧ Below w.heap.size w w' := by
  obtain ⟨_, ⟨m, hm⟩, _⟩ := hx
  have hcb := Lib.countB_le ⟨#[39, 39]⟩ (by decide) s.size s (Nat.le_refl _)
  refine Tryd.strings_ReplaceAll s ⟨#[39, 39]⟩ ⟨#[39]⟩ m w (by omega) hm (by decide) ?_
  have e : (⟨#[39]⟩ : ByteArray).size = 1 := rfl
  rw [e]
  omega
theorem ext_mid (s : ByteArray) (m : Nat) : (s.extract 1 m).data.toList = (s.data.toList.drop 1).take (m - 1) := Lib.extract_data s 1 m
/-- The world of takeString ahead of its first call. -/
abbrev tsW (w : World) : World := (w.alloc (.cells #[.int .i64 0, .string ⟨#[]⟩, .int .i64 0] 29)).alloc (.cells #[.bool false] 4)
/-- A box of three cells reads so. -/
theorem box3 {w : World} {B : Nat} {t : TypeId} {x y z : Value} (h : w.heap[B]? = some (.cells #[x, y, z] t (0, 0))) :
    w.cell? ⟨B, 0, none⟩ = some x ∧ w.cell? ⟨B, 1, none⟩ = some y ∧ w.cell? ⟨B, 2, none⟩ = some z ∧ w.frozen? ⟨B, 0, none⟩ = false ∧ w.frozen? ⟨B, 1, none⟩ = false ∧ w.frozen? ⟨B, 2, none⟩ = false :=
  has3 h (Below.refl _ _)
theorem box_str {w w1 : World} {B1 : Nat} (hB : w.heap.size + 1 ≤ B1) (hb : Below B1 (tsW w) w1) :
    Below w.heap.size w w1 ∧ w.heap.size + 1 < w1.heap.size ∧ w1.heap[w.heap.size]? = some (.cells #[.int .i64 0, .string ⟨#[]⟩, .int .i64 0] 29 (0, 0)) := by
  have h0 : (tsW w).heap[w.heap.size]? = some (.cells #[.int .i64 0, .string ⟨#[]⟩, .int .i64 0] 29 (0, 0)) := by
    have h1 := new0 w (.cells #[.int .i64 0, .string ⟨#[]⟩, .int .i64 0] 29)
    exact (((Below.refl _ _).alloc (Nat.le_refl _) (.cells #[.bool false] 4) : Below _ (w.alloc (.cells #[.int .i64 0, .string ⟨#[]⟩, .int .i64 0] 29)) (tsW w)).block _ (by simp)).trans h1
  have h1 : w1.heap[w.heap.size]? = some (.cells #[.int .i64 0, .string ⟨#[]⟩, .int .i64 0] 29 (0, 0)) := (hb.block _ (by omega)).trans h0
  have hs := hb.size
  simp only [tsW, World.size_alloc] at hs
  exact ⟨(((Below.refl _ _).alloc (Nat.le_refl _) _).alloc (by simp) _).trans (hb.mono (by omega)), by omega, h1⟩
/-- .. and behind one more call. -/
theorem box_next {w w1 w2 : World} {o : Obj} (hB : Below w.heap.size w w1) (hz : w.heap.size < w1.heap.size) (hk : w1.heap[w.heap.size]? = some o) (hb : Below w1.heap.size w1 w2) :
    Below w.heap.size w w2 ∧ w.heap.size < w2.heap.size ∧ w2.heap[w.heap.size]? = some o :=
  ⟨into hB hb, by have := hb.size; omega, (hb.block _ hz).trans hk⟩
theorem string_any (w : World) (hx : Lx w) (s : ByteArray) (hs : s.size ≤ 400) (h0 : 0 < s.size) (hq : s.data.toList.getD 0 0 = 39) :
    Calls Tryd.prog 45 #[.string s] w fun e w' => e = .returned (hdV (strT s.data.toList)) ∧ Below w.heap.size w w' := by
  have hsz := len_size s
  have hB0 : Below w.heap.size w (tsW w) := ((Below.refl _ _).alloc (Nat.le_refl _) _).alloc (by simp) _
  have hsp := span_quote (tsW w) (w.heap.size + 1) s hs (new1 _ _ _)
  have hh := head_of h0
  rw [hq] at hh
  obtain ⟨r, hr⟩ : ∃ r, r = s.data.toList.drop 1 := ⟨_, rfl⟩
  rw [← hr] at hh
  have hsq : sq false s.data.toList = ((sq true r).1 + 1, (sq true r).2) := by
    rw [hh, sq_cons]
    simp
  have hT : strT s.data.toList = match strR r with | none => .bad 7 | some x => .tok ⟨3, x.1, 0⟩ (x.2 + 1) := by rw [hh]; rfl
  rw [hsq] at hsp
  have hlr : r.length + 1 = s.size := by rw [← hsz, hh]; simp
  cases hR : strR r with
  | none =>
    rw [hR] at hT
    have hn := strR_none r hR
    have hle := sq_le true r
    rw [hn] at hsp
    obtain ⟨m, hm⟩ : ∃ m, m = (sq true r).1 := ⟨_, rfl⟩
    rw [← hm] at hsp hle
    have HS := Lib.hid hsp
    have HF := Lib.hid hT
    clear hsp hT hsq hn hm hR hh hr hB0 hx
    go_enter Tryd.func45, Tryd.ntmps45
    go_wp2_with (go_at_call 25; refine HS.out.mono ?_; rintro e w1 ⟨rfl, hc1, hb1⟩; obtain ⟨hB, hz1, hk1⟩ := box_str (Nat.le_refl _) hb1; obtain ⟨r0, r1, r2, r3, r4, r5⟩ := box3 hk1; have hop := cell_of_one hc1; have HB1 := Lib.hid hB; clear hb1 hB hc1 hk1)
    refine bodyPost_ret (by simp [results, Tryd.results45, go_sem, r0, r1, r2]; try rfl) rfl ?_
    rw [HF.out]
    have hB := HB1.out
    exact ⟨rfl, by go_grown⟩
  | some x =>
    obtain ⟨t, m⟩ := x
    rw [hR] at hT
    obtain ⟨h1, h2, h3, h4⟩ := strR_some r t m hR
    have h5 := strR_len r t m hR
    rw [h1] at hsp
    have em : (((m, false).1 + 1 : Nat) : Int) = (m : Int) + 1 := by simp
    rw [em] at hsp
    have hre := fun W hW => replace_any W hW (s.extract 1 m) (by rw [ByteArray.size_extract]; omega)
    rw [ext_mid, ← hr, h4] at hre
    have hcl := fun W => clone_any W ⟨t.toArray⟩ (by show t.toArray.size ≤ 400; simp; omega)
    have HS := Lib.hid hsp
    have HF := Lib.hid hT
    have HRE := Lib.hid hre
    have HCL := Lib.hid hcl
    have HLX := Lib.hid hx
    have hmi : (m : Int) + 1 ≤ 400 := by omega
    have hms : m ≤ s.size := by omega
    clear hsp hT hsq hR hh hr hB0 hx hre hcl h1 h4 em h5
    go_enter Tryd.func45, Tryd.ntmps45
    go_wp2_with (go_at_call 25; refine HS.out.mono ?_; rintro e w1 ⟨rfl, hc1, hb1⟩; obtain ⟨hB, hz1, hk1⟩ := box_str (Nat.le_refl _) hb1; have hop := cell_of_one hc1; have HB1 := Lib.hid hB; have HK1 := Lib.hid hk1; clear hb1 hB hc1 hk1)
    refine (HRE.out _ (HLX.out.below HB1.out)).mono ?_
    rintro e w2 ⟨rfl, hb2⟩
    obtain ⟨hB2, hz2, hk2⟩ := box_next HB1.out (by omega) HK1.out hb2
    have HB2 := Lib.hid hB2
    have HK2 := Lib.hid hk2
    clear hb2 hB2 hk2 hop hz1 HB1 HK1
    go_wp2_with fail
    refine (HCL.out _).mono ?_
    rintro e w3 ⟨rfl, hb3⟩
    obtain ⟨hB3, hz3, hk3⟩ := box_next HB2.out hz2 HK2.out hb3
    obtain ⟨r0, r1, r2, r3, r4, r5⟩ := box3 hk3
    have HB3 := Lib.hid hB3
    clear hb3 hB3 hk3 hz2 HB2 HK2
    go_wp2_with fail
    refine bodyPost_ret (by simp [results, Tryd.results45, go_sem, r0, r1, r2]; try rfl) rfl ?_
    rw [HF.out]
    have hB := HB3.out
    exact ⟨rfl, by go_grown⟩
end Go.Proofs.YtfoilmhpoipmpaaDoor
