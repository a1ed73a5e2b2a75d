/- Asking, leaving, the mode of a thing, as the keeping statements call them. -/
import Derived.Test.YtpddlckkncmlmabDoorMk
import Derived.Test.YtpddlckkncmlmabDoorMr
namespace Go.Proofs.YtpddlckkncmlmabDoor
open Go.ChangeShapes Go.WideShapes Go.ChangeAt Go.RowKit
set_option linter.unusedVariables false
set_option linter.unusedSimpArgs false
set_option maxHeartbeats 8000000
set_option maxRecDepth 100000
theorem ask_v (w : World) (hT : Tog w ∧ Jnd w) {n1 c1 n2 c2 : Nat} {x1 x2 : Option Addr} {H Q : List Lk} {t : Int} {th : ByteArray} {m : Int} {H' Q' : List Lk} {b : Bool} {er : Int} (h1 : Rd w 3 n1 (.slice x1 n1 c1) (lkc H)) (h2 : Rd w 3 n2 (.slice x2 n2 c2) (lkc Q)) (hb : H.length + Q.length ≤ 1000) (hA : askL H Q ⟨t, th, m⟩ = (H', Q', b, er)) :
    Calls Tryd.prog 17 #[.agg #[.slice x1 n1 c1, .slice x2 n2 c2], .agg #[.int .i64 t, .string th, .int .i64 m]] w fun e w' => ∃ (x3 : Option Addr) (n3 c3 : Nat) (x4 : Option Addr) (n4 c4 : Nat), e = .returned (.tuple #[.agg #[.slice x3 n3 c3, .slice x4 n4 c4], .bool b, .int .i64 er]) ∧ Rd w' 3 n3 (.slice x3 n3 c3) (lkc H') ∧ Rd w' 3 n4 (.slice x4 n4 c4) (lkc Q') ∧ Below w.heap.size w w' := by
  have e1 := len_l h1
  have e2 := len_l h2
  refine (ask_any w hT.1 hT.2 n1 n2 _ _ H Q ⟨t, th, m⟩ h1 h2 (by omega) (by omega)).mono fun e w' ⟨hv, qv, g1, g2, g3, g4⟩ => ?_
  obtain ⟨_, a3, c3, rfl, _⟩ := id g2
  obtain ⟨_, a4, c4, rfl, _⟩ := id g3
  rw [hA] at g1 g2 g3
  exact ⟨a3, _, c3, a4, _, c4, g1, g2, g3, g4⟩
theorem leave_v (w : World) (hT : Tog w ∧ Jnd w) {n1 c1 n2 c2 : Nat} {x1 x2 : Option Addr} {H Q : List Lk} {t : Int} {H' Q' : List Lk} {A : List Int} {er : Int} (h1 : Rd w 3 n1 (.slice x1 n1 c1) (lkc H)) (h2 : Rd w 3 n2 (.slice x2 n2 c2) (lkc Q)) (hb : H.length + Q.length ≤ 1000) (hA : leaveL H Q t = (H', Q', A, er)) :
    Calls Tryd.prog 10 #[.agg #[.slice x1 n1 c1, .slice x2 n2 c2], .int .i64 t] w fun e w' => ∃ (x3 : Option Addr) (n3 c3 : Nat) (x4 : Option Addr) (n4 c4 : Nat) (x5 : Option Addr) (c5 : Nat), e = .returned (.tuple #[.agg #[.slice x3 n3 c3, .slice x4 n4 c4], .slice x5 A.length c5, .int .i64 er]) ∧ Rd w' 3 n3 (.slice x3 n3 c3) (lkc H') ∧ Rd w' 3 n4 (.slice x4 n4 c4) (lkc Q') ∧ Rd w' 1 A.length (.slice x5 A.length c5) (ic A) ∧ Below w.heap.size w w' := by
  have e1 := len_l h1
  have e2 := len_l h2
  refine (leave_any w hT.1 hT.2 n1 n2 _ _ H Q t h1 h2 (by omega) (by omega)).mono fun e w' ⟨hv, qv, wv, g1, g2, g3, g4, g5⟩ => ?_
  obtain ⟨_, a3, c3, rfl, _⟩ := id g2
  obtain ⟨_, a4, c4, rfl, _⟩ := id g3
  obtain ⟨_, a5, c5, rfl, _⟩ := id g4
  rw [hA] at g1 g2 g3 g4
  exact ⟨a3, _, c3, a4, _, c4, a5, c5, g1, g2, g3, g4, g5⟩
theorem kmode_any (w : World) {n1 c1 n2 c2 : Nat} {x1 x2 : Option Addr} {H : List Lk} (t : Int) (th : ByteArray) (m : Int) (h1 : Rd w 3 n1 (.slice x1 n1 c1) (lkc H)) :
    Calls Tryd.prog 13 #[.agg #[.slice x1 n1 c1, .slice x2 n2 c2], .int .i64 t, .string th] w fun e w' => e = .returned (.int .i64 (hmd H ⟨t, th, m⟩)) ∧ Below w.heap.size w w' := by
  have hml := len_l h1
  have hmax := h1.len
  unfold maxLen at hmax
  have hbx : (w.alloc (.cells #[.slice x1 n1 c1, .slice x2 n2 c2] 24)).heap[w.heap.size]? = some (.cells #[.slice x1 n1 c1, .slice x2 n2 c2] 24 (0, 0)) := new0 _ _
  obtain ⟨W0, hW0⟩ : ∃ W0 : World, W0 = w.alloc (.cells #[.slice x1 n1 c1, .slice x2 n2 c2] 24) := ⟨_, rfl⟩
  have hb0 : Below w.heap.size w W0 := by rw [hW0]; exact (Below.refl _ _).alloc (Nat.le_refl _) _
  rw [← hW0] at hbx
  obtain ⟨q0, q1, -, -⟩ := box2 hbx
  have HN := Lib.hid hml
  have HB0 := Lib.hid hb0
  have HW0 := Lib.hid hW0
  by_cases h0 : n1 = 0
  · have hH0 : H = [] := List.eq_nil_of_length_eq_zero (by omega)
    subst hH0 h0
    clear hml h1 hb0 hW0 hbx
    go_enter Tryd.func13, Tryd.ntmps13
    go_wp2_with fail
    rw [← HW0.out]
    go_rounds 1
    go_ret
    exact ⟨rfl, HB0.out⟩
  · obtain ⟨b, o, cap, hsh, _, _, hbw, hcell⟩ := lks_of h1 (by omega)
    simp only [Value.slice.injEq] at hsh
    obtain ⟨rfl, -, rfl⟩ := hsh
    have HC := Lib.hid hcell
    have HQ := Lib.hid (And.intro q0 q1)
    clear hcell h1 hml hb0 hW0 hbx q0 q1
    go_enter Tryd.func13, Tryd.ntmps13
    go_wp2_with fail
    rw [← HW0.out]
    go_loopw [7] (fun i wr => ∃ k : Nat, k ≤ n1 ∧ i = .int .i64 (k : Int) ∧ Hid (∀ j, j < k → onB ⟨t, th, m⟩ (H.getD j nlk) = false) ∧ Hid (Below W0.heap.size W0 wr)) (fun i _ => n1 - (intOf i).toNat)
    case atStart => exact ⟨0, by omega, rfl, (fun j hj => absurd hj (by omega)), Below.refl _ _⟩
    case round =>
      obtain ⟨k, hk, rfl, HA, HB⟩ := hrel
      have hB := into HB0.out HB.out
      have q0 := cell_of_below HB.out HQ.out.1
      have q1 := cell_of_below HB.out HQ.out.2
      by_cases hlt : k < n1
      · obtain ⟨g0, g1, g2⟩ := HC.out k hlt
        have c0 := (hB.cell (p := ⟨b, o + k * 3, none⟩) hbw).trans g0
        have c1 := (hB.cell (p := ⟨b, o + k * 3 + 1, none⟩) hbw).trans g1
        have c2 := (hB.cell (p := ⟨b, o + k * 3 + 2, none⟩) hbw).trans g2
        have hkl : k < H.length := by rw [← HN.out]; exact hlt
        have hon : onB ⟨t, th, m⟩ (H.getD k nlk) = ((H.getD k nlk).t == t && (H.getD k nlk).th.toList == th.toList) := rfl
        have hhit : onB ⟨t, th, m⟩ (H.getD k nlk) = true → hmd H ⟨t, th, m⟩ = (H.getD k nlk).m := fun h => by
          have e := idx_hit hkl HA.out h
          unfold hmd
          rw [e, if_neg (by omega)]
          rfl
        obtain ⟨u, hu⟩ : ∃ u, u = H.getD k nlk := ⟨_, rfl⟩
        rw [← hu] at c0 c1 c2 hon hhit
        have HU := Lib.hid hu
        obtain ⟨ut, uth, um⟩ := u
        simp only at c0 c1 c2 hon hhit
        have HON := Lib.hid hon
        have HHI := Lib.hid hhit
        have HB2 := Lib.hid hB
        clear g0 g1 g2 hu hon hhit hB hkl
        by_cases he : ut = t
        · subst he
          obtain ⟨d, hd⟩ : ∃ d, d = (uth.toList == th.toList) := ⟨_, rfl⟩
          have hd' := hd.symm
          cases d
          · have hno : onB ⟨ut, th, m⟩ ⟨ut, uth, um⟩ = false := by rw [HON.out, hd']; simp
            have HNO := Lib.hid hno
            clear hno hd
            go_wp2_with fail
            go_roundw
            case rel =>
              refine ⟨k + 1, by omega, by go_num, fun j hj => ?_, HB.out⟩
              rcases Nat.lt_or_ge j k with h | h
              · exact HA.out j h
              · obtain rfl : j = k := by omega
                rw [← HU.out]
                exact HNO.out
            case measure => (simp [intOf]) <;> omega
          · have hyes : onB ⟨ut, th, m⟩ ⟨ut, uth, um⟩ = true := by rw [HON.out, hd']; simp
            have HY := Lib.hid (HHI.out hyes)
            clear hyes hd
            go_wp2_with fail
            go_ret
            exact ⟨ri HY.out.symm, HB2.out⟩
        · have he' : (ut == t) = false := by simpa using he
          have hno : onB ⟨t, th, m⟩ ⟨ut, uth, um⟩ = false := by rw [HON.out, he']; simp
          have HNO := Lib.hid hno
          clear hno
          go_wp2_with fail
          go_roundw
          case rel =>
            refine ⟨k + 1, by omega, by go_num, fun j hj => ?_, HB.out⟩
            rcases Nat.lt_or_ge j k with h | h
            · exact HA.out j h
            · obtain rfl : j = k := by omega
              rw [← HU.out]
              exact HNO.out
          case measure => (simp [intOf]) <;> omega
      · obtain rfl : k = n1 := by omega
        have hno : hmd H ⟨t, th, m⟩ = 0 := by
          unfold hmd
          rw [idx_none (fun j hj => HA.out j (by rw [HN.out]; exact hj)), if_pos (by omega)]
        have HNO := Lib.hid hno
        clear hno
        go_wp2_with fail
        go_ret
        exact ⟨ri HNO.out.symm, hB⟩
end Go.Proofs.YtpddlckkncmlmabDoor
