/- A page by itself: its keys, its kids. -/
import Derived.Test.YthoijpaoegojfaaH2
namespace Go.Proofs.Ythoijpaoegojfaa
open Go.ChangeShapes Go.WideShapes Go.ChangeAt Go.RowKit
set_option linter.unusedVariables false
set_option linter.unusedSimpArgs false
set_option maxHeartbeats 1000000
theorem take_nextG {α : Type} {l : List α} {d : α} {k : Nat} (h : k < l.length) : l.take (k + 1) = l.take k ++ [l.getD k d] := by
  rw [List.take_succ_eq_append_getElem h]
  simp [List.getD, h]
theorem rise_snoc {l : List Key} {s : Key} (h : RiseK l) (hs : ∀ m, l.length = m + 1 → kl (l.getD m []) s = true) : RiseK (l ++ [s]) := by
  rw [RiseK, List.pairwise_append]
  refine ⟨h, by simp, fun a ha b hb => ?_⟩
  simp only [List.mem_singleton] at hb
  subst hb
  obtain ⟨i, hi, rfl⟩ := List.mem_iff_getElem.1 ha
  obtain ⟨m, hm⟩ : ∃ m, l.length = m + 1 := ⟨l.length - 1, by omega⟩
  have h1 := hs m hm
  have e : l.getD i [] = l[i] := by simp [List.getD, hi]
  rcases Nat.lt_or_ge i m with g | g
  · have h2 := rise_at h g (by omega)
    rw [e] at h2
    exact bl_trans _ _ _ h2 h1
  · obtain rfl : i = m := by omega
    rw [e] at h1
    exact h1
theorem cmp_nil {s : Key} (h : keyB s = true) : cmpK [] s < 0 := by
  rw [cmpK_lt]
  rw [keyB_iff] at h
  cases s with
  | nil => simp [okK] at h
  | cons a s => rfl
/-- A call answers just whether P holds, and leaves all as it is. -/
def Ans (P : Prop) (w : World) (e : Ending) (w' : World) : Prop := ∃ b : Bool, e = .returned (.bool b) ∧ (b = true ↔ P) ∧ w = w'
theorem ans_yes {P : Prop} {w : World} (h : P) : Ans P w (.returned (.bool true)) w := ⟨true, rfl, by simp [h], rfl⟩
theorem ans_no {P : Prop} {w : World} (h : ¬ P) : Ans P w (.returned (.bool false)) w := ⟨false, rfl, by simp [h], rfl⟩
theorem ans_is {P : Prop} {w : World} {b : Bool} (h : b = true ↔ P) : Ans P w (.returned (.bool b)) w := ⟨b, rfl, h, rfl⟩
def KeysOk (ks : List Key) : Prop := ks.length ≤ 4 ∧ (∀ k ∈ ks, okK k) ∧ RiseK ks
theorem keysMay_any (w : World) (ok : Nat → Prop) (v : Value) (ks : List Key) (hv : RK w ok v ks) (hsm : ks.length ≤ maxLen) :
    Calls Try.prog 43 #[v] w (Ans (KeysOk ks) w) := by
  by_cases h0 : ks.length = 0
  · obtain ⟨rfl, ao, cap, rfl, _⟩ := keys_zero hv h0
    go_enter Try.func43, Try.ntmps43
    go_wp2
    go_rounds 1
    go_ret
    exact ans_yes (by simp [KeysOk])
  · obtain ⟨b, o, cap, f, rfl, hn, hcap, hb, _, hc⟩ := keys_of hv (by omega)
    obtain ⟨n, hnn⟩ : ∃ n, n = ks.length := ⟨_, rfl⟩
    rw [← hnn] at h0 hn hc hsm
    unfold maxLen at hcap hsm
    have HC := Lib.hid hc
    by_cases h4 : 4 < n
    · have hP : ¬ KeysOk ks := fun h => by have := h.1; omega
      have HP := Lib.hid hP
      have h4' : (4 : Int) < (n : Int) := by omega
      clear hc hv hP
      rw [← hnn]
      clear hnn
      go_enter Try.func43, Try.ntmps43
      go_wp2
      go_ret
      exact ans_no HP.out
    · have h4' : ¬ (4 : Int) < (n : Int) := by omega
      have HN := Lib.hid hnn
      rw [← hnn]
      clear hc hv hnn
      go_enter Try.func43, Try.ntmps43
      go_wp2
      go_loop [3, 11] (fun l i => ∃ k : Nat, k ≤ n ∧ i = .int .i64 (k : Int) ∧ (∀ s ∈ ks.take k, okK s) ∧ RiseK (ks.take k) ∧ RB w (fun _ => True) l (if k = 0 then [] else ks.getD (k - 1) [])) (fun _ i => n - (intOf i).toNat)
      case atStart => exact ⟨0, by omega, rfl, by simp, by simp, Rd.nil _ _, fun _ _ _ _ _ => trivial⟩
      case round =>
        obtain ⟨k, hk, rfl, hok, hr, hl⟩ := hrel
        obtain ⟨q, hq⟩ : ∃ q, q = (if k = 0 then [] else ks.getD (k - 1) []) := ⟨_, rfl⟩
        rw [← hq] at hl
        have HOK := Lib.hid hok
        have HR := Lib.hid hr
        have HL := Lib.hid hl
        have HQ := Lib.hid hq
        clear hok hr hl hq
        by_cases hlt : k < n
        · obtain ⟨c1, c2⟩ := HC.out k hlt
          obtain ⟨s, hs⟩ : ∃ s, s = ks.getD k [] := ⟨_, rfl⟩
          rw [← hs] at c2
          have HS := Lib.hid hs
          have C2 := Lib.hid c2
          clear c2 hs
          have hmem : s ∈ ks := by
            rw [HS.out]
            have : k < ks.length := by rw [← HN.out]; exact hlt
            simp only [List.getD, List.getElem?_eq_getElem this, Option.getD_some]
            exact List.getElem_mem this
          have HM := Lib.hid hmem
          clear hmem
          rcases hkb : keyB s with _ | _
          · have hnk : ¬ okK s := by rw [← keyB_iff, hkb]; simp
            have HNK := Lib.hid hnk
            clear hnk
            go_wp2_with (go_at_call 50; refine (isKey_any _ _ _ C2.out.1).mono ?_; rintro e w' ⟨rfl, rfl⟩)
            go_ret
            exact ans_no fun h => HNK.out (h.2.1 _ HM.out)
          · have HKB := Lib.hid hkb
            go_wp2_with (first | (go_at_call 50; refine (isKey_any _ _ _ C2.out.1).mono ?_; rintro e w' ⟨rfl, rfl⟩) | (go_at_call 56; refine (cmp_any _ _ _ _ _ HL.out.1 C2.out.1).mono ?_; rintro e w' ⟨rfl, rfl⟩))
            · have hge : 0 ≤ cmpK q s := by assumption
              go_ret
              refine ans_no ?_
              intro h
              rcases Nat.eq_zero_or_pos k with hk0 | hk0
              · have hq := HQ.out
                rw [if_pos hk0] at hq
                have := cmp_nil HKB.out
                rw [hq] at hge
                omega
              · have hq := HQ.out
                rw [if_neg (by omega)] at hq
                have := rise_at h.2.2 (i := k - 1) (j := k) (by omega) (by rw [← HN.out]; exact hlt)
                rw [← hq, ← HS.out, ← cmpK_lt] at this
                omega
            · have hlt' : cmpK q s < 0 := by assumption
              go_round
              case rel =>
                have hkl : k < ks.length := by rw [← HN.out]; exact hlt
                refine ⟨k + 1, by omega, by go_num, ?_, ?_, ?_⟩
                · rw [take_nextG (d := []) hkl, ← HS.out]
                  intro x hx
                  simp only [List.mem_append, List.mem_singleton] at hx
                  rcases hx with hx | rfl
                  · exact HOK.out x hx
                  · exact (keyB_iff _).1 HKB.out
                · rw [take_nextG (d := []) hkl, ← HS.out]
                  refine rise_snoc HR.out fun m hm => ?_
                  have hm' : k = m + 1 := by rw [List.length_take] at hm; omega
                  have hq := HQ.out
                  rw [if_neg (by omega)] at hq
                  have e : (ks.take k).getD m [] = ks.getD (k - 1) [] := by
                    have : m < k := by omega
                    simp only [List.getD, List.getElem?_take, if_pos this]
                    rw [show k - 1 = m by omega]
                  rw [e, ← hq, ← cmpK_lt]
                  exact hlt'
                · rw [if_neg (by omega), show k + 1 - 1 = k by omega, ← HS.out]
                  exact ⟨C2.out.1, fun _ _ _ _ _ => trivial⟩
              case measure => simp [intOf]; omega
        · obtain rfl : k = n := by omega
          go_wp2
          go_ret
          refine ans_yes ?_
          have e : ks.take k = ks := List.take_of_length_le (by rw [← HN.out]; exact Nat.le_refl _)
          have h1 := HOK.out
          have h2 := HR.out
          rw [e] at h1 h2
          exact ⟨by rw [← HN.out]; omega, h1, h2⟩
end Go.Proofs.Ythoijpaoegojfaa
