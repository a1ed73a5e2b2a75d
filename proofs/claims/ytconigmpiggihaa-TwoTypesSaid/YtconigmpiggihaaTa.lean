import Derived.Test.YtconigmpiggihaaW8
import Derived.Test.YtconigmpiggihaaW0
import Derived.Test.YtconigmpiggihaaK3
namespace Go.Proofs.Ytconigmpiggihaa.lTwoTypes
open Go.ChangeShapes Go.WideShapes Go.ChangeAt Go.RowKit
set_option linter.unusedVariables false
set_option linter.unusedSimpArgs false
set_option maxHeartbeats 1000000
theorem core0 (d : Int) (hd : Rng d) (k1 n1 : Int) (s1 : ByteArray) (hk1 : Rng k1) (hn1 : Rng n1) (hs1 : Hid (s1.size ≤ maxLen)) (k2 n2 : Int) (s2 : ByteArray) (hk2 : Rng k2) (hn2 : Rng n2) (hs2 : Hid (s2.size ≤ maxLen)) (a0 a1 : Int) (a2 : ByteArray) (b0 b1 : Int) (b2 : ByteArray) (v0 v1 : Int) (v2 : ByteArray) (er : Int) (T0 : pck d 7 = 0) (T1 : rawV k1 n1 s1 = ⟨a0, a1, a2⟩) (T2 : rawV k2 n2 s2 = ⟨b0, b1, b2⟩) (E1 : two 3 ⟨a0, a1, a2⟩ ⟨b0, b1, b2⟩ = (⟨v0, v1, v2⟩, er)) (E2 : two 5 ⟨a0, a1, a2⟩ ⟨b0, b1, b2⟩ = (⟨0, 0, ⟨#[]⟩⟩, 2))
    (HH : Hid ((er = 4 ↔ ¬ (a0 ≤ 1 ∧ b0 ≤ 1)) ∧ (er = 0 ∨ (v0 = 0 ∧ v1 = 0 ∧ v2 = ⟨#[]⟩)))) (w : World) :
    Calls Try.prog 12 #[.int .i64 d, .agg #[.int .i64 k1, .int .i64 n1, .string s1], .agg #[.int .i64 k2, .int .i64 n2, .string s2]] w fun e w' => e = .returned (.bool true) ∧ Below w.heap.size w w' := by
  go_enter Try.func12, Try.ntmps12
  go_wp2_with fail
  refine (val_any _ _ _ _ hk1 hn1 hs1.out).mono ?_
  rintro e w1 ⟨rfl, hb⟩
  obtain ⟨hz1, hb1, S_bx, S_by⟩ := behind1b hb
  have hB1 : Below w.heap.size w w1 := hb1
  clear hb
  obtain ⟨u_by, x0_by, x1_by, x2_by, -⟩ := id S_by
  go_wp2_with fail
  clear u_by x0_by x1_by x2_by
  refine (val_any _ _ _ _ hk2 hn2 hs2.out).mono ?_
  rintro e w2 ⟨rfl, hb⟩
  obtain ⟨hz2, hb1, S_a⟩ := behind1 hb
  have hB2 : Below w.heap.size w w2 := into hB1 hb1
  replace S_bx := (S_bx.alloc _).below hb
  replace S_by := (S_by.alloc _).below hb
  clear hb hb1
  go_wp2_with fail
  refine (pck_any _ _ _ hd (by omega) (by omega)).mono ?_
  rintro e we ⟨rfl, rfl⟩
  obtain ⟨u_a, x0_a, x1_a, x2_a, -⟩ := id S_a
  go_wp2_with fail
  clear u_a x0_a x1_a x2_a
  refine (two_any 3 _ _ _ _ _ _ _).mono ?_
  rintro e w3 ⟨rfl, hb⟩
  obtain ⟨hz3, hb1, S_b⟩ := behind1x hb
  have hB3 : Below w.heap.size w w3 := into hB2 hb1
  replace S_bx := ((S_bx.alloc _).alloc _).below hb
  replace S_by := ((S_by.alloc _).alloc _).below hb
  replace S_a := ((S_a.alloc _).alloc _).below hb
  clear hb hb1
  obtain ⟨u_a, x0_a, x1_a, x2_a, -⟩ := id S_a
  obtain ⟨u_b, x0_b, x1_b, x2_b, -⟩ := id S_b
  go_wp2_with fail
  clear u_a x0_a x1_a x2_a
  clear u_b x0_b x1_b x2_b
  all_goals (
    refine (two_any 5 _ _ _ _ _ _ _).mono ?_
    rintro e w4 ⟨rfl, hb⟩
    obtain ⟨hz4, hb1, S_v⟩ := behind1 hb
    have hB4 : Below w.heap.size w w4 := into hB3 hb1
    replace S_a := (S_a.alloc _).below hb
    replace S_b := (S_b.alloc _).below hb
    clear hb hb1
    obtain ⟨u_v, x0_v, x1_v, x2_v, -⟩ := id S_v
    have hBz := hB4.size
    go_wp2_with fail)
  all_goals (
    go_ret
    refine ⟨rb ?_, by go_grown⟩
    have hh := HH.out
    clear HH
    obtain ⟨h1, h2⟩ := hh
    first
      | rfl
      | (exfalso
         simp_all
         done)
      | (simp_all
         done)
      | (by_cases hq : er = 4 <;> simp_all
         done)
      | (by_cases hq : er = 4 <;> simp_all <;> omega)
      | (rcases h2 with h2 | ⟨h2, h3, rfl⟩ <;> simp_all <;> omega))
theorem core1 (d : Int) (hd : Rng d) (k1 n1 : Int) (s1 : ByteArray) (hk1 : Rng k1) (hn1 : Rng n1) (hs1 : Hid (s1.size ≤ maxLen)) (k2 n2 : Int) (s2 : ByteArray) (hk2 : Rng k2) (hn2 : Rng n2) (hs2 : Hid (s2.size ≤ maxLen)) (a0 a1 : Int) (a2 : ByteArray) (b0 b1 : Int) (b2 : ByteArray) (v0 v1 : Int) (v2 : ByteArray) (er : Int) (T0 : pck d 7 = 1) (T1 : rawV k1 n1 s1 = ⟨a0, a1, a2⟩) (T2 : rawV k2 n2 s2 = ⟨b0, b1, b2⟩) (E1 : two 4 ⟨a0, a1, a2⟩ ⟨b0, b1, b2⟩ = (⟨v0, v1, v2⟩, er)) (E2 : two 5 ⟨a0, a1, a2⟩ ⟨b0, b1, b2⟩ = (⟨0, 0, ⟨#[]⟩⟩, 2))
    (HH : Hid ((er = 4 ↔ ¬ (a0 ≤ 1 ∧ b0 ≤ 1)) ∧ (er = 0 ∨ (v0 = 0 ∧ v1 = 0 ∧ v2 = ⟨#[]⟩)))) (w : World) :
    Calls Try.prog 12 #[.int .i64 d, .agg #[.int .i64 k1, .int .i64 n1, .string s1], .agg #[.int .i64 k2, .int .i64 n2, .string s2]] w fun e w' => e = .returned (.bool true) ∧ Below w.heap.size w w' := by
  go_enter Try.func12, Try.ntmps12
  go_wp2_with fail
  refine (val_any _ _ _ _ hk1 hn1 hs1.out).mono ?_
  rintro e w1 ⟨rfl, hb⟩
  obtain ⟨hz1, hb1, S_bx, S_by⟩ := behind1b hb
  have hB1 : Below w.heap.size w w1 := hb1
  clear hb
  obtain ⟨u_by, x0_by, x1_by, x2_by, -⟩ := id S_by
  go_wp2_with fail
  clear u_by x0_by x1_by x2_by
  refine (val_any _ _ _ _ hk2 hn2 hs2.out).mono ?_
  rintro e w2 ⟨rfl, hb⟩
  obtain ⟨hz2, hb1, S_a⟩ := behind1 hb
  have hB2 : Below w.heap.size w w2 := into hB1 hb1
  replace S_bx := (S_bx.alloc _).below hb
  replace S_by := (S_by.alloc _).below hb
  clear hb hb1
  go_wp2_with fail
  refine (pck_any _ _ _ hd (by omega) (by omega)).mono ?_
  rintro e we ⟨rfl, rfl⟩
  obtain ⟨u_a, x0_a, x1_a, x2_a, -⟩ := id S_a
  go_wp2_with fail
  clear u_a x0_a x1_a x2_a
  refine (two_any 4 _ _ _ _ _ _ _).mono ?_
  rintro e w3 ⟨rfl, hb⟩
  obtain ⟨hz3, hb1, S_b⟩ := behind1x hb
  have hB3 : Below w.heap.size w w3 := into hB2 hb1
  replace S_bx := ((S_bx.alloc _).alloc _).below hb
  replace S_by := ((S_by.alloc _).alloc _).below hb
  replace S_a := ((S_a.alloc _).alloc _).below hb
  clear hb hb1
  obtain ⟨u_a, x0_a, x1_a, x2_a, -⟩ := id S_a
  obtain ⟨u_b, x0_b, x1_b, x2_b, -⟩ := id S_b
  go_wp2_with fail
  clear u_a x0_a x1_a x2_a
  clear u_b x0_b x1_b x2_b
  all_goals (
    refine (two_any 5 _ _ _ _ _ _ _).mono ?_
    rintro e w4 ⟨rfl, hb⟩
    obtain ⟨hz4, hb1, S_v⟩ := behind1 hb
    have hB4 : Below w.heap.size w w4 := into hB3 hb1
    replace S_a := (S_a.alloc _).below hb
    replace S_b := (S_b.alloc _).below hb
    clear hb hb1
    obtain ⟨u_v, x0_v, x1_v, x2_v, -⟩ := id S_v
    have hBz := hB4.size
    go_wp2_with fail)
  all_goals (
    go_ret
    refine ⟨rb ?_, by go_grown⟩
    have hh := HH.out
    clear HH
    obtain ⟨h1, h2⟩ := hh
    first
      | rfl
      | (exfalso
         simp_all
         done)
      | (simp_all
         done)
      | (by_cases hq : er = 4 <;> simp_all
         done)
      | (by_cases hq : er = 4 <;> simp_all <;> omega)
      | (rcases h2 with h2 | ⟨h2, h3, rfl⟩ <;> simp_all <;> omega))
end Go.Proofs.Ytconigmpiggihaa.lTwoTypes
