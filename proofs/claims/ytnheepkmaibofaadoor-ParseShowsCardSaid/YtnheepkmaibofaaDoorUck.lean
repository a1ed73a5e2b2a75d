import Derived.Test.YtnheepkmaibofaaDoorUbk
import Derived.Test.YtnheepkmaibofaaDoorSgk
/- Names: the document. -/
namespace Go.Proofs.YtnheepkmaibofaaDoor
open Go.ChangeShapes Go.WideShapes Go.ChangeAt Go.RowKit
set_option linter.unusedVariables false
set_option linter.unusedSimpArgs false
set_option maxHeartbeats 1000000
theorem kpv_at {k : Nat} (hk : k < 30) : (kpL.map fun m => Value.string ⟨m.toArray⟩)[k]? = some (.string ⟨(kpL.getD k []).toArray⟩) := by
  have h : k < kpL.length := hk
  rw [List.getElem?_map, List.getElem?_eq_getElem h, Option.map_some, List.getD, List.getElem?_eq_getElem h]
  rfl
theorem reserved_any (w : World) (s : ByteArray) : Calls Tryd.prog 51 #[.string s] w fun e w' => e = .returned (.bool (kpB s.data.toList)) ∧ Below w.heap.size w w' := by
  go_enter Tryd.func51, Tryd.ntmps51
  go_wp2_with fail
  go_loopw [4] (fun i wr => ∃ k : Nat, k ≤ 30 ∧ i = .int .i64 (k : Int) ∧ Hid (∀ j, j < k → s.data.toList ≠ kpL.getD j []) ∧ Hid (∀ j, j < 30 → wr.cell? ⟨w.heap.size, j, none⟩ = some (.string ⟨(kpL.getD j []).toArray⟩)) ∧ Hid (Below w.heap.size w wr)) (fun i _ => 30 - (intOf i).toNat)
  case atStart =>
    refine ⟨0, by omega, rfl, fun j hj => absurd hj (by omega), fun j hj => ?_, (Below.refl _ _).alloc (Nat.le_refl _) _⟩
    have h := new_cells w (kpL.map fun m => Value.string ⟨m.toArray⟩) 9 j _ (kpv_at hj)
    rw [Addr.add_lit, Nat.zero_add] at h
    exact h
  case round =>
    obtain ⟨k, hk, rfl, HA, HC, HBL⟩ := hrel
    by_cases hlt : k < 30
    · have hi := HC.out k hlt
      obtain ⟨m, hmm⟩ : ∃ m : ByteArray, m = ⟨(kpL.getD k []).toArray⟩ := ⟨_, rfl⟩
      rw [← hmm] at hi
      have hd : m.data.toList = kpL.getD k [] := by rw [hmm]
      have HD := Lib.hid hd
      clear hmm hd
      by_cases he : m = s
      · subst he
        go_wp2_with fail
        go_ret
        exact ⟨rb (by rw [kp_hit hlt HD.out]), HBL.out⟩
      · have hne := st_beq he
        have HN := Lib.hid (st_ne he)
        clear he
        go_wp2_with fail
        go_roundw
        case rel =>
          refine ⟨k + 1, by omega, by go_num, fun j hj => ?_, HC.out, HBL.out⟩
          rcases Nat.lt_or_ge j k with h | h
          · exact HA.out j h
          · obtain rfl : j = k := by omega
            rw [← HD.out]
            exact fun e => HN.out e.symm
        case measure => simp [intOf]; omega
    · obtain rfl : k = 30 := by omega
      go_wp2
      go_ret
      exact ⟨rb (by rw [kp_none HA.out]), HBL.out⟩
theorem nameFault_any (w : World) (s : ByteArray) (hs : s.size ≤ maxLen) : Calls Tryd.prog 25 #[.string s] w fun e w' => e = .returned (.int .i64 (nmF s.data.toList)) ∧ Below w.heap.size w w' := by
  have hsz := len_size s
  by_cases h8 : 8 < s.size
  · have HF : Hid (nmF s.data.toList = 1) := nm_long (by omega)
    clear hsz
    go_enter Tryd.func25, Tryd.ntmps25
    go_wp2_with fail
    go_ret
    exact ⟨ri HF.out.symm, Below.refl _ _⟩
  · have hF : nmF s.data.toList = _ := nm_short (by omega)
    have hc := tf_any w 1 0 s hs
    obtain ⟨r, hr⟩ : ∃ r, r = tkF 1 s.data.toList 0 := ⟨_, rfl⟩
    rw [← hr] at hF hc
    have hk := fun w1 => reserved_any w1 s
    obtain ⟨b, hb⟩ : ∃ b, b = kpB s.data.toList := ⟨_, rfl⟩
    rw [← hb] at hF hk
    have HF := Lib.hid hF
    have HC := Lib.hid hc
    have HI := Lib.hid hk
    clear hF hc hk hr hb hsz
    by_cases h0 : r = 0
    · subst h0
      cases b
      all_goals (
        go_enter Tryd.func25, Tryd.ntmps25
        go_wp2_with (first | (go_at_call 50; ((with_reducible refine HC.out.mono ?_); rintro e w1 ⟨rfl, hb1⟩; have HB1 := Lib.hid hb1; clear hb1)) | (go_at_call 51; ((with_reducible refine (HI.out _).mono ?_); rintro e w2 ⟨rfl, hb2⟩; have HB2 := Lib.hid (into HB1.out hb2); clear hb2)))
        go_ret
        exact ⟨ri (by rw [HF.out]; simp), HB2.out⟩)
    · have h0' : (r == 0) = false := by simpa using h0
      go_enter Tryd.func25, Tryd.ntmps25
      go_wp2_with (go_at_call 50; ((with_reducible refine HC.out.mono ?_); rintro e w1 ⟨rfl, hb1⟩; have HB1 := Lib.hid hb1; clear hb1))
      go_ret
      exact ⟨ri (by rw [HF.out, if_pos (.inl h0)]), HB1.out⟩
end Go.Proofs.YtnheepkmaibofaaDoor
