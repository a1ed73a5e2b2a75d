/- Null is Null, and nothing else is; with it nothing is less, equal or more: at every raw value and kind of op. No condition. -/
import Derived.Test.YtconigmpiggihaaFr
import Derived.Test.YtconigmpiggihaaW8
import Derived.Test.YtconigmpiggihaaW9
import Derived.Test.YtconigmpiggihaaW0
import Derived.Test.YtconigmpiggihaaK3
namespace Go.Proofs.Ytconigmpiggihaa.lValueNulls
open Go.ChangeShapes Go.WideShapes Go.ChangeAt Go.RowKit Go.Joins
open Go.ChangeMaps (open_string shut_string)
set_option linter.unusedVariables false
set_option linter.unusedSimpArgs false
set_option maxHeartbeats 400000

theorem core0 (k n : Int) (s : ByteArray) (hk : Rng k) (hn : Rng n) (hs : Hid (s.size ≤ maxLen)) (d : Int) (hd : Rng d) (a0 a1 : Int) (a2 : ByteArray) (i1 er : Int) (T1 : rawV k n s = ⟨a0, a1, a2⟩) (T2 : pck d 5 = 0)
    (E1 : one 11 ⟨a0, a1, a2⟩ = (⟨1, i1, ⟨#[]⟩⟩, 0)) (E2 : two 6 ⟨a0, a1, a2⟩ ⟨0, 0, ⟨#[]⟩⟩ = (⟨0, 0, ⟨#[]⟩⟩, er)) (E3 : two 6 ⟨0, 0, ⟨#[]⟩⟩ ⟨a0, a1, a2⟩ = (⟨0, 0, ⟨#[]⟩⟩, er)) (HH : Hid (i1 = 1 ↔ a0 = 0)) (w : World) :
    Calls Try.prog 14 #[.agg #[.int .i64 k, .int .i64 n, .string s], .int .i64 d] w fun e w' => e = .returned (.bool true) ∧ Below w.heap.size w w' := by
  go_enter Try.func14, Try.ntmps14
  go_wp2_with fail
  refine (val_any _ _ _ _ hk hn hs.out).mono ?_
  rintro e w1 ⟨rfl, hb⟩
  obtain ⟨hz1, hb1, S_bx⟩ := behind1 hb
  have hB1 : Below w.heap.size w w1 := hb1
  clear hb
  go_wp2_with fail
  refine (one_any _ _ _ _ _).mono ?_
  rintro e w2 ⟨rfl, hb⟩
  obtain ⟨hz2, hb1, S_a⟩ := behind1 hb
  have hB2 : Below w.heap.size w w2 := into hB1 hb1
  replace S_bx := (S_bx.alloc _).below hb
  clear hb hb1
  go_wp2_with fail
  refine (pck_any _ _ _ hd (by omega) (by omega)).mono ?_
  rintro e we ⟨rfl, rfl⟩
  obtain ⟨u_a, x0_a, x1_a, x2_a, -⟩ := id S_a
  go_wp2_with fail
  clear u_a x0_a x1_a x2_a
  refine (two_any 6 _ _ _ _ _ _ _).mono ?_
  rintro e w3 ⟨rfl, hb⟩
  obtain ⟨hz3, hb1, S_is⟩ := behind1x hb
  have hB3 : Below w.heap.size w w3 := into hB2 hb1
  replace S_bx := ((S_bx.alloc _).alloc _).below hb
  replace S_a := ((S_a.alloc _).alloc _).below hb
  clear hb hb1
  obtain ⟨u_a, x0_a, x1_a, x2_a, -⟩ := id S_a
  go_wp2_with fail
  clear u_a x0_a x1_a x2_a
  refine (two_any 6 _ _ _ _ _ _ _).mono ?_
  rintro e w4 ⟨rfl, hb⟩
  obtain ⟨hz4, hb1, S_v⟩ := behind1 hb
  have hB4 : Below w.heap.size w w4 := into hB3 hb1
  replace S_bx := (S_bx.alloc _).below hb
  replace S_a := (S_a.alloc _).below hb
  replace S_is := (S_is.alloc _).below hb
  clear hb hb1
  obtain ⟨u_a, x0_a, x1_a, x2_a, -⟩ := id S_a
  obtain ⟨u_is, x0_is, x1_is, x2_is, -⟩ := id S_is
  obtain ⟨u_v, x0_v, x1_v, x2_v, -⟩ := id S_v
  have hBz := hB4.size
  go_wp2_with fail
  all_goals (
    go_ret
    refine ⟨rb ?_, by go_grown⟩
    have hh := HH.out
    clear HH
    first
      | rfl
      | (exfalso
         simp_all
         done)
      | (simp_all
         done)
      | (by_cases hq : a0 = 0 <;> simp_all
         done)
      | (exfalso
         by_cases hq : a0 = 0
         · have e1 : (i1 == 1) = true := by rw [hh.2 hq]; rfl
           simp_all
         · have e1 : (i1 == 1) = false := beq_eq_false_iff_ne.2 (fun g => hq (hh.1 g))
           have e2 : (a0 == 0) = false := beq_eq_false_iff_ne.2 hq
           simp_all))

theorem core1 (k n : Int) (s : ByteArray) (hk : Rng k) (hn : Rng n) (hs : Hid (s.size ≤ maxLen)) (d : Int) (hd : Rng d) (a0 a1 : Int) (a2 : ByteArray) (i1 er : Int) (T1 : rawV k n s = ⟨a0, a1, a2⟩) (T2 : pck d 5 = 1)
    (E1 : one 11 ⟨a0, a1, a2⟩ = (⟨1, i1, ⟨#[]⟩⟩, 0)) (E2 : two 7 ⟨a0, a1, a2⟩ ⟨0, 0, ⟨#[]⟩⟩ = (⟨0, 0, ⟨#[]⟩⟩, er)) (E3 : two 7 ⟨0, 0, ⟨#[]⟩⟩ ⟨a0, a1, a2⟩ = (⟨0, 0, ⟨#[]⟩⟩, er)) (HH : Hid (i1 = 1 ↔ a0 = 0)) (w : World) :
    Calls Try.prog 14 #[.agg #[.int .i64 k, .int .i64 n, .string s], .int .i64 d] w fun e w' => e = .returned (.bool true) ∧ Below w.heap.size w w' := by
  go_enter Try.func14, Try.ntmps14
  go_wp2_with fail
  refine (val_any _ _ _ _ hk hn hs.out).mono ?_
  rintro e w1 ⟨rfl, hb⟩
  obtain ⟨hz1, hb1, S_bx⟩ := behind1 hb
  have hB1 : Below w.heap.size w w1 := hb1
  clear hb
  go_wp2_with fail
  refine (one_any _ _ _ _ _).mono ?_
  rintro e w2 ⟨rfl, hb⟩
  obtain ⟨hz2, hb1, S_a⟩ := behind1 hb
  have hB2 : Below w.heap.size w w2 := into hB1 hb1
  replace S_bx := (S_bx.alloc _).below hb
  clear hb hb1
  go_wp2_with fail
  refine (pck_any _ _ _ hd (by omega) (by omega)).mono ?_
  rintro e we ⟨rfl, rfl⟩
  obtain ⟨u_a, x0_a, x1_a, x2_a, -⟩ := id S_a
  go_wp2_with fail
  clear u_a x0_a x1_a x2_a
  refine (two_any 7 _ _ _ _ _ _ _).mono ?_
  rintro e w3 ⟨rfl, hb⟩
  obtain ⟨hz3, hb1, S_is⟩ := behind1x hb
  have hB3 : Below w.heap.size w w3 := into hB2 hb1
  replace S_bx := ((S_bx.alloc _).alloc _).below hb
  replace S_a := ((S_a.alloc _).alloc _).below hb
  clear hb hb1
  obtain ⟨u_a, x0_a, x1_a, x2_a, -⟩ := id S_a
  go_wp2_with fail
  clear u_a x0_a x1_a x2_a
  refine (two_any 7 _ _ _ _ _ _ _).mono ?_
  rintro e w4 ⟨rfl, hb⟩
  obtain ⟨hz4, hb1, S_v⟩ := behind1 hb
  have hB4 : Below w.heap.size w w4 := into hB3 hb1
  replace S_bx := (S_bx.alloc _).below hb
  replace S_a := (S_a.alloc _).below hb
  replace S_is := (S_is.alloc _).below hb
  clear hb hb1
  obtain ⟨u_a, x0_a, x1_a, x2_a, -⟩ := id S_a
  obtain ⟨u_is, x0_is, x1_is, x2_is, -⟩ := id S_is
  obtain ⟨u_v, x0_v, x1_v, x2_v, -⟩ := id S_v
  have hBz := hB4.size
  go_wp2_with fail
  all_goals (
    go_ret
    refine ⟨rb ?_, by go_grown⟩
    have hh := HH.out
    clear HH
    first
      | rfl
      | (exfalso
         simp_all
         done)
      | (simp_all
         done)
      | (by_cases hq : a0 = 0 <;> simp_all
         done)
      | (exfalso
         by_cases hq : a0 = 0
         · have e1 : (i1 == 1) = true := by rw [hh.2 hq]; rfl
           simp_all
         · have e1 : (i1 == 1) = false := beq_eq_false_iff_ne.2 (fun g => hq (hh.1 g))
           have e2 : (a0 == 0) = false := beq_eq_false_iff_ne.2 hq
           simp_all))

theorem core2 (k n : Int) (s : ByteArray) (hk : Rng k) (hn : Rng n) (hs : Hid (s.size ≤ maxLen)) (d : Int) (hd : Rng d) (a0 a1 : Int) (a2 : ByteArray) (i1 er : Int) (T1 : rawV k n s = ⟨a0, a1, a2⟩) (T2 : pck d 5 = 2)
    (E1 : one 11 ⟨a0, a1, a2⟩ = (⟨1, i1, ⟨#[]⟩⟩, 0)) (E2 : two 8 ⟨a0, a1, a2⟩ ⟨0, 0, ⟨#[]⟩⟩ = (⟨0, 0, ⟨#[]⟩⟩, er)) (E3 : two 8 ⟨0, 0, ⟨#[]⟩⟩ ⟨a0, a1, a2⟩ = (⟨0, 0, ⟨#[]⟩⟩, er)) (HH : Hid (i1 = 1 ↔ a0 = 0)) (w : World) :
    Calls Try.prog 14 #[.agg #[.int .i64 k, .int .i64 n, .string s], .int .i64 d] w fun e w' => e = .returned (.bool true) ∧ Below w.heap.size w w' := by
  go_enter Try.func14, Try.ntmps14
  go_wp2_with fail
  refine (val_any _ _ _ _ hk hn hs.out).mono ?_
  rintro e w1 ⟨rfl, hb⟩
  obtain ⟨hz1, hb1, S_bx⟩ := behind1 hb
  have hB1 : Below w.heap.size w w1 := hb1
  clear hb
  go_wp2_with fail
  refine (one_any _ _ _ _ _).mono ?_
  rintro e w2 ⟨rfl, hb⟩
  obtain ⟨hz2, hb1, S_a⟩ := behind1 hb
  have hB2 : Below w.heap.size w w2 := into hB1 hb1
  replace S_bx := (S_bx.alloc _).below hb
  clear hb hb1
  go_wp2_with fail
  refine (pck_any _ _ _ hd (by omega) (by omega)).mono ?_
  rintro e we ⟨rfl, rfl⟩
  obtain ⟨u_a, x0_a, x1_a, x2_a, -⟩ := id S_a
  go_wp2_with fail
  clear u_a x0_a x1_a x2_a
  refine (two_any 8 _ _ _ _ _ _ _).mono ?_
  rintro e w3 ⟨rfl, hb⟩
  obtain ⟨hz3, hb1, S_is⟩ := behind1x hb
  have hB3 : Below w.heap.size w w3 := into hB2 hb1
  replace S_bx := ((S_bx.alloc _).alloc _).below hb
  replace S_a := ((S_a.alloc _).alloc _).below hb
  clear hb hb1
  obtain ⟨u_a, x0_a, x1_a, x2_a, -⟩ := id S_a
  go_wp2_with fail
  clear u_a x0_a x1_a x2_a
  refine (two_any 8 _ _ _ _ _ _ _).mono ?_
  rintro e w4 ⟨rfl, hb⟩
  obtain ⟨hz4, hb1, S_v⟩ := behind1 hb
  have hB4 : Below w.heap.size w w4 := into hB3 hb1
  replace S_bx := (S_bx.alloc _).below hb
  replace S_a := (S_a.alloc _).below hb
  replace S_is := (S_is.alloc _).below hb
  clear hb hb1
  obtain ⟨u_a, x0_a, x1_a, x2_a, -⟩ := id S_a
  obtain ⟨u_is, x0_is, x1_is, x2_is, -⟩ := id S_is
  obtain ⟨u_v, x0_v, x1_v, x2_v, -⟩ := id S_v
  have hBz := hB4.size
  go_wp2_with fail
  all_goals (
    go_ret
    refine ⟨rb ?_, by go_grown⟩
    have hh := HH.out
    clear HH
    first
      | rfl
      | (exfalso
         simp_all
         done)
      | (simp_all
         done)
      | (by_cases hq : a0 = 0 <;> simp_all
         done)
      | (exfalso
         by_cases hq : a0 = 0
         · have e1 : (i1 == 1) = true := by rw [hh.2 hq]; rfl
           simp_all
         · have e1 : (i1 == 1) = false := beq_eq_false_iff_ne.2 (fun g => hq (hh.1 g))
           have e2 : (a0 == 0) = false := beq_eq_false_iff_ne.2 hq
           simp_all))

theorem core3 (k n : Int) (s : ByteArray) (hk : Rng k) (hn : Rng n) (hs : Hid (s.size ≤ maxLen)) (d : Int) (hd : Rng d) (a0 a1 : Int) (a2 : ByteArray) (i1 er : Int) (T1 : rawV k n s = ⟨a0, a1, a2⟩) (T2 : pck d 5 = 3)
    (E1 : one 11 ⟨a0, a1, a2⟩ = (⟨1, i1, ⟨#[]⟩⟩, 0)) (E2 : two 9 ⟨a0, a1, a2⟩ ⟨0, 0, ⟨#[]⟩⟩ = (⟨0, 0, ⟨#[]⟩⟩, er)) (E3 : two 9 ⟨0, 0, ⟨#[]⟩⟩ ⟨a0, a1, a2⟩ = (⟨0, 0, ⟨#[]⟩⟩, er)) (HH : Hid (i1 = 1 ↔ a0 = 0)) (w : World) :
    Calls Try.prog 14 #[.agg #[.int .i64 k, .int .i64 n, .string s], .int .i64 d] w fun e w' => e = .returned (.bool true) ∧ Below w.heap.size w w' := by
  go_enter Try.func14, Try.ntmps14
  go_wp2_with fail
  refine (val_any _ _ _ _ hk hn hs.out).mono ?_
  rintro e w1 ⟨rfl, hb⟩
  obtain ⟨hz1, hb1, S_bx⟩ := behind1 hb
  have hB1 : Below w.heap.size w w1 := hb1
  clear hb
  go_wp2_with fail
  refine (one_any _ _ _ _ _).mono ?_
  rintro e w2 ⟨rfl, hb⟩
  obtain ⟨hz2, hb1, S_a⟩ := behind1 hb
  have hB2 : Below w.heap.size w w2 := into hB1 hb1
  replace S_bx := (S_bx.alloc _).below hb
  clear hb hb1
  go_wp2_with fail
  refine (pck_any _ _ _ hd (by omega) (by omega)).mono ?_
  rintro e we ⟨rfl, rfl⟩
  obtain ⟨u_a, x0_a, x1_a, x2_a, -⟩ := id S_a
  go_wp2_with fail
  clear u_a x0_a x1_a x2_a
  refine (two_any 9 _ _ _ _ _ _ _).mono ?_
  rintro e w3 ⟨rfl, hb⟩
  obtain ⟨hz3, hb1, S_is⟩ := behind1x hb
  have hB3 : Below w.heap.size w w3 := into hB2 hb1
  replace S_bx := ((S_bx.alloc _).alloc _).below hb
  replace S_a := ((S_a.alloc _).alloc _).below hb
  clear hb hb1
  obtain ⟨u_a, x0_a, x1_a, x2_a, -⟩ := id S_a
  go_wp2_with fail
  clear u_a x0_a x1_a x2_a
  refine (two_any 9 _ _ _ _ _ _ _).mono ?_
  rintro e w4 ⟨rfl, hb⟩
  obtain ⟨hz4, hb1, S_v⟩ := behind1 hb
  have hB4 : Below w.heap.size w w4 := into hB3 hb1
  replace S_bx := (S_bx.alloc _).below hb
  replace S_a := (S_a.alloc _).below hb
  replace S_is := (S_is.alloc _).below hb
  clear hb hb1
  obtain ⟨u_a, x0_a, x1_a, x2_a, -⟩ := id S_a
  obtain ⟨u_is, x0_is, x1_is, x2_is, -⟩ := id S_is
  obtain ⟨u_v, x0_v, x1_v, x2_v, -⟩ := id S_v
  have hBz := hB4.size
  go_wp2_with fail
  all_goals (
    go_ret
    refine ⟨rb ?_, by go_grown⟩
    have hh := HH.out
    clear HH
    first
      | rfl
      | (exfalso
         simp_all
         done)
      | (simp_all
         done)
      | (by_cases hq : a0 = 0 <;> simp_all
         done)
      | (exfalso
         by_cases hq : a0 = 0
         · have e1 : (i1 == 1) = true := by rw [hh.2 hq]; rfl
           simp_all
         · have e1 : (i1 == 1) = false := beq_eq_false_iff_ne.2 (fun g => hq (hh.1 g))
           have e2 : (a0 == 0) = false := beq_eq_false_iff_ne.2 hq
           simp_all))

theorem core4 (k n : Int) (s : ByteArray) (hk : Rng k) (hn : Rng n) (hs : Hid (s.size ≤ maxLen)) (d : Int) (hd : Rng d) (a0 a1 : Int) (a2 : ByteArray) (i1 er : Int) (T1 : rawV k n s = ⟨a0, a1, a2⟩) (T2 : pck d 5 = 4)
    (E1 : one 11 ⟨a0, a1, a2⟩ = (⟨1, i1, ⟨#[]⟩⟩, 0)) (E2 : two 10 ⟨a0, a1, a2⟩ ⟨0, 0, ⟨#[]⟩⟩ = (⟨0, 0, ⟨#[]⟩⟩, er)) (E3 : two 10 ⟨0, 0, ⟨#[]⟩⟩ ⟨a0, a1, a2⟩ = (⟨0, 0, ⟨#[]⟩⟩, er)) (HH : Hid (i1 = 1 ↔ a0 = 0)) (w : World) :
    Calls Try.prog 14 #[.agg #[.int .i64 k, .int .i64 n, .string s], .int .i64 d] w fun e w' => e = .returned (.bool true) ∧ Below w.heap.size w w' := by
  go_enter Try.func14, Try.ntmps14
  go_wp2_with fail
  refine (val_any _ _ _ _ hk hn hs.out).mono ?_
  rintro e w1 ⟨rfl, hb⟩
  obtain ⟨hz1, hb1, S_bx⟩ := behind1 hb
  have hB1 : Below w.heap.size w w1 := hb1
  clear hb
  go_wp2_with fail
  refine (one_any _ _ _ _ _).mono ?_
  rintro e w2 ⟨rfl, hb⟩
  obtain ⟨hz2, hb1, S_a⟩ := behind1 hb
  have hB2 : Below w.heap.size w w2 := into hB1 hb1
  replace S_bx := (S_bx.alloc _).below hb
  clear hb hb1
  go_wp2_with fail
  refine (pck_any _ _ _ hd (by omega) (by omega)).mono ?_
  rintro e we ⟨rfl, rfl⟩
  obtain ⟨u_a, x0_a, x1_a, x2_a, -⟩ := id S_a
  go_wp2_with fail
  clear u_a x0_a x1_a x2_a
  refine (two_any 10 _ _ _ _ _ _ _).mono ?_
  rintro e w3 ⟨rfl, hb⟩
  obtain ⟨hz3, hb1, S_is⟩ := behind1x hb
  have hB3 : Below w.heap.size w w3 := into hB2 hb1
  replace S_bx := ((S_bx.alloc _).alloc _).below hb
  replace S_a := ((S_a.alloc _).alloc _).below hb
  clear hb hb1
  obtain ⟨u_a, x0_a, x1_a, x2_a, -⟩ := id S_a
  go_wp2_with fail
  clear u_a x0_a x1_a x2_a
  refine (two_any 10 _ _ _ _ _ _ _).mono ?_
  rintro e w4 ⟨rfl, hb⟩
  obtain ⟨hz4, hb1, S_v⟩ := behind1 hb
  have hB4 : Below w.heap.size w w4 := into hB3 hb1
  replace S_bx := (S_bx.alloc _).below hb
  replace S_a := (S_a.alloc _).below hb
  replace S_is := (S_is.alloc _).below hb
  clear hb hb1
  obtain ⟨u_a, x0_a, x1_a, x2_a, -⟩ := id S_a
  obtain ⟨u_is, x0_is, x1_is, x2_is, -⟩ := id S_is
  obtain ⟨u_v, x0_v, x1_v, x2_v, -⟩ := id S_v
  have hBz := hB4.size
  go_wp2_with fail
  all_goals (
    go_ret
    refine ⟨rb ?_, by go_grown⟩
    have hh := HH.out
    clear HH
    first
      | rfl
      | (exfalso
         simp_all
         done)
      | (simp_all
         done)
      | (by_cases hq : a0 = 0 <;> simp_all
         done)
      | (exfalso
         by_cases hq : a0 = 0
         · have e1 : (i1 == 1) = true := by rw [hh.2 hq]; rfl
           simp_all
         · have e1 : (i1 == 1) = false := beq_eq_false_iff_ne.2 (fun g => hq (hh.1 g))
           have e2 : (a0 == 0) = false := beq_eq_false_iff_ne.2 hq
           simp_all))

theorem nullp (A : V) (hA : chk A.k A.n A.t = 0) (k : Int) (hk : k = 6 ∨ k = 7 ∨ k = 8 ∨ k = 9 ∨ k = 10) : ∃ er : Int, two k A ⟨0, 0, ⟨#[]⟩⟩ = (⟨0, 0, ⟨#[]⟩⟩, er) ∧ two k ⟨0, 0, ⟨#[]⟩⟩ A = (⟨0, 0, ⟨#[]⟩⟩, er) := by
  have c1 : chk2 A ⟨0, 0, ⟨#[]⟩⟩ = 0 := by unfold chk2; rw [if_pos hA]; simp [chk, nmb, e_list, e_size]
  have c2 : chk2 ⟨0, 0, ⟨#[]⟩⟩ A = 0 := by unfold chk2; rw [if_pos (by simp [chk, nmb, e_list, e_size]), hA]
  refine ⟨(two k A ⟨0, 0, ⟨#[]⟩⟩).2, ?_⟩
  have hu : ∀ x : Int, unk x 0 = true := fun x => by simp [unk]
  have hv : ∀ x : Int, unk 0 x = true := fun x => by simp [unk]
  rcases hk with rfl | rfl | rfl | rfl | rfl
  · simp [two, c1, c2, hold, hu, hv, nul]
  · simp [two, c1, c2, hold, hu, hv, nul]
  all_goals
    rcases h : known A.k 0 2 with _ | _
    · have h' : known 0 A.k 2 = false := by simp [known] at h ⊢; exact h
      simp [two, c1, c2, reck, h, h', nul]
    · have h' : known 0 A.k 2 = true := by simp [known] at h ⊢; exact h
      simp [two, c1, c2, reck, h, h', hu, hv, nul]
theorem onep (A : V) (hA : chk A.k A.n A.t = 0) : one 11 A = (⟨1, if A.k = 0 then 1 else 0, ⟨#[]⟩⟩, 0) := by
  simp [one, hA, tru]
theorem walk (k n : Int) (s : ByteArray) (wk : (Lit.int .i64 k).wf = true) (wn : (Lit.int .i64 n).wf = true) (ws : s.size ≤ maxLen) (d : Int) (wd : (Lit.int .i64 d).wf = true) (w : World) :
    Calls Try.prog 14 #[.agg #[.int .i64 k, .int .i64 n, .string s], .int .i64 d] w fun e w' => e = .returned (.bool true) ∧ Below w.heap.size w w' := by
  have hd := pck_in d 5 (by omega)
  have ho := onep _ (raw_ok k n s)
  have hi : (if (rawV k n s).k = 0 then (1 : Int) else 0) = 1 ↔ (rawV k n s).k = 0 := by
    by_cases h : (rawV k n s).k = 0 <;> simp [h]
  have hc : pck d 5 = 0 ∨ pck d 5 = 1 ∨ pck d 5 = 2 ∨ pck d 5 = 3 ∨ pck d 5 = 4 := by omega
  rcases hc with h | h | h | h | h
  · obtain ⟨er, p, q⟩ := nullp _ (raw_ok k n s) 6 (by omega)
    exact core0 k n s (rng_of wk) (rng_of wn) ws d (rng_of wd) _ _ _ _ er rfl h ho p q hi w
  · obtain ⟨er, p, q⟩ := nullp _ (raw_ok k n s) 7 (by omega)
    exact core1 k n s (rng_of wk) (rng_of wn) ws d (rng_of wd) _ _ _ _ er rfl h ho p q hi w
  · obtain ⟨er, p, q⟩ := nullp _ (raw_ok k n s) 8 (by omega)
    exact core2 k n s (rng_of wk) (rng_of wn) ws d (rng_of wd) _ _ _ _ er rfl h ho p q hi w
  · obtain ⟨er, p, q⟩ := nullp _ (raw_ok k n s) 9 (by omega)
    exact core3 k n s (rng_of wk) (rng_of wn) ws d (rng_of wd) _ _ _ _ er rfl h ho p q hi w
  · obtain ⟨er, p, q⟩ := nullp _ (raw_ok k n s) 10 (by omega)
    exact core4 k n s (rng_of wk) (rng_of wn) ws d (rng_of wd) _ _ _ _ er rfl h ho p q hi w

theorem lifted (os : Os) (started : os.Started) (H : Type) (enc : TypeId × Value → H) :
    ReturnsInHanded {} Try.checked os 14 .any (Rows.valueNullsSpec.pre6 enc Try.prog Try.f14 Rows.valueNullsRow.domain false) (Rows.valueNullsSpec.post enc Try.prog Try.f14 false true false false) := by
  refine returnsInHanded_of_change (C := Try.checked) Try.own started (by kernel_rfl) Try.func14
    (ChangeSpec.witness6 (enc := enc) (C := Try.checked) false ⟨#[], #[.agg #[.int .i64 0, .int .i64 0, .string ⟨#[]⟩], .int .i64 0], []⟩ 8 (by kernel_rfl) (by kernel_rfl) (by kernel_rfl) (by kernel_rfl)) ?_
  intro W base args ds gs before hval0 hW hcnd _
  have hval : ∀ (j : Nat) t v, Try.f14.params[j]? = some t → args[j]? = some v → Value.okWide Try.prog W .any base t v := hval0
  have hW' := hW
  obtain ⟨p, q, hA0, hV, rfl, hfz, hnd⟩ := hW
  have hA : DataW.TrodAll enc Try.prog W 0 (fun _ => true) true Try.f14.params.toList args.toList ds p := hA0
  rw [Try.params14] at hA hval
  obtain ⟨v0, v1, d0, d1, p0, p1, rfl, rfl, rfl, h0, h1⟩ := trodAll_two hA
  obtain ⟨rfl, rfl⟩ := trodVars_none hV
  obtain ⟨c00, c01, c02, y00, y01, y02, m0, rfl, rfl, hp0, hy00, hy01, hy02⟩ := open_agg3 Try.underlying35 (by kernel_rfl) (by kernel_rfl) (hval 0 35 v0 rfl rfl) h0
  obtain ⟨k0, e00, rfl, wk0⟩ := DataW.trod_int Try.underlying3 hy00
  obtain ⟨n0, e01, rfl, wn0⟩ := DataW.trod_int Try.underlying3 hy01
  obtain ⟨s0, e02, rfl, ws0⟩ := DataW.trod_string Try.underlying9 hy02
  simp at e00 e01 e02
  subst e00 e01 e02
  obtain ⟨a1, rfl, rfl, rfl, w1⟩ := open_int Try.underlying3 (hval 1 3 v1 rfl rfl) h1
  clear hA0 hval0
  refine (walk k0 n0 s0 wk0 wn0 ws0 a1 w1 W).mono fun e W' ⟨he, hg⟩ => ?_
  subst he
  exact ⟨_, rfl, law_post (tb := 4) Try.laidOut (by kernel_rfl) (by kernel_rfl) Try.underlying4 rfl hW' hg rfl rfl rfl⟩

theorem proved : Rows.ValueNullsSaid :=
  OpenClaim.holds_of_wide 14 Try.f14 rfl rfl rfl rfl rfl rfl rfl ⟨rfl, rfl, rfl, rfl, rfl⟩ rfl rfl rfl rfl rfl (by kernel_rfl) Try.func14 (by kernel_rfl)
    (of_decide_eq_true (by kernel_rfl)) (by unfold Func.isWrapper; first | (rw [if_pos (by decide +kernel)]; kernel_rfl) | (rw [if_neg (by decide +kernel)]; exact ⟨rfl, rfl⟩))
    (fun os started H enc _ => lifted os started H enc)
#print axioms proved
end Go.Proofs.Ytconigmpiggihaa.lValueNulls
