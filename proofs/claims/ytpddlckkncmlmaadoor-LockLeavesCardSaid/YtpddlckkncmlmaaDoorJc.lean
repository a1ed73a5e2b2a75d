/- Locks: joined modes, as the document's answer finds them; what the calls Fits and Join answer. -/
import Derived.Test.YtpddlckkncmlmaaDoorJb
namespace Go.Proofs.YtpddlckkncmlmaaDoor
open Go.ChangeShapes Go.WideShapes Go.ChangeAt Go.RowKit
set_option linter.unusedVariables false
set_option linter.unusedSimpArgs false
set_option maxHeartbeats 1000000
/-- The marks of what a mode does: 1, 2, 4, 8. -/
def pw : Nat → Int
  | 0 => 1
  | j + 1 => pw j * 2
/-- All that two modes do ahead of a mark, a third one does too. -/
def uptoI (a b m : Int) : Nat → Bool
  | 0 => true
  | j + 1 => uptoI a b m j && oneI a b m (pw j)
theorem uptoI_all (a b m : Int) : uptoI a b m 4 = allI a b m := by
  simp [uptoI, allI, pw]
theorem pw_in {j : Nat} (h : j < 4) : 1 ≤ pw j ∧ pw j ≤ 8 := by
  have : j = 0 ∨ j = 1 ∨ j = 2 ∨ j = 3 := by omega
  rcases this with rfl | rfl | rfl | rfl <;> decide
theorem firI_of {a b m : Int} (h1 : 1 ≤ m) (h5 : m ≤ 5) (hno : ∀ x, 1 ≤ x → x < m → allI a b x = false) (hy : allI a b m = true) : firI a b = m := by
  have : m = 1 ∨ m = 2 ∨ m = 3 ∨ m = 4 ∨ m = 5 := by omega
  rcases this with rfl | rfl | rfl | rfl | rfl
  · simp [firI, hy]
  · simp [firI, hy, hno 1 (by omega) (by omega)]
  · simp [firI, hy, hno 1 (by omega) (by omega), hno 2 (by omega) (by omega)]
  · simp [firI, hy, hno 1 (by omega) (by omega), hno 2 (by omega) (by omega), hno 3 (by omega) (by omega)]
  · simp [firI, hy, hno 1 (by omega) (by omega), hno 2 (by omega) (by omega), hno 3 (by omega) (by omega), hno 4 (by omega) (by omega)]
theorem joined_any (w : World) (a b : Int) : Calls Tryd.prog 26 #[.int .i64 a, .int .i64 b] w fun e w' => e = .returned (.int .i64 (firI a b)) ∧ w = w' := by
  go_enter Tryd.func26, Tryd.ntmps26
  go_wp2
  go_loop [5, 6, 7] (fun m x y => ∃ k : Int, 1 ≤ k ∧ k ≤ 6 ∧ m = .int .i64 k ∧ ∀ x, 1 ≤ x → x < k → allI a b x = false) (fun m _ _ => (6 - intOf m).toNat)
  case atStart => exact ⟨1, by omega, by omega, rfl, fun x h1 h2 => by omega⟩
  case round =>
    obtain ⟨k, hk1, hk6, rfl, hno⟩ := hrel
    have HNO := Lib.hid hno
    clear hno
    by_cases h5 : k ≤ 5
    · go_wp2
      go_loop [6, 7] (fun x y => ∃ j : Nat, j ≤ 4 ∧ x = .bool (uptoI a b k j) ∧ y = .int .i64 (pw j)) (fun _ y => (16 - intOf y).toNat)
      case atStart => exact ⟨0, by omega, rfl, rfl⟩
      case round =>
        obtain ⟨j, hj, rfl, rfl⟩ := hrel
        by_cases hlt : j < 4
        · obtain ⟨p1, p8⟩ := pw_in hlt
          have hn : Hid (uptoI a b k (j + 1) = (uptoI a b k j && (!(hasI a (pw j) || hasI b (pw j)) || hasI k (pw j)))) := rfl
          have hp : Hid (pw (j + 1) = pw j * 2) := rfl
          have aa := has_any w a _ ⟨p1, p8⟩
          have bb := has_any w b _ ⟨p1, p8⟩
          have kk := has_any w k _ ⟨p1, p8⟩
          generalize hasI a (pw j) = xa at *
          generalize hasI b (pw j) = xb at *
          generalize hasI k (pw j) = xk at *
          generalize hu : uptoI a b k j = xu at *
          generalize pw j = u at *
          have AA := Lib.hid aa
          have BB := Lib.hid bb
          have KK := Lib.hid kk
          clear aa bb kk hu
          cases xa <;> cases xb <;> cases xk
          all_goals (
            go_wp2_with (first | (go_at_call 48; ((with_reducible refine AA.out.mono ?_); rintro e w' ⟨rfl, rfl⟩)) | (go_at_call 48; ((with_reducible refine BB.out.mono ?_); rintro e w' ⟨rfl, rfl⟩)) | (go_at_call 48; ((with_reducible refine KK.out.mono ?_); rintro e w' ⟨rfl, rfl⟩)))
            go_round
            case rel => exact ⟨j + 1, by omega, by rw [hn.out]; cases xu <;> rfl, by rw [hp.out]⟩
            case measure => simp [intOf]; omega)
        · obtain rfl : j = 4 := by omega
          have h16 : pw 4 = 16 := rfl
          have hu := uptoI_all a b k
          rw [h16]
          rw [hu]
          clear h16 hu
          rcases hal : allI a b k with _ | _
          · have HAL := Lib.hid hal
            clear hal
            go_wp2
            go_round
            case rel =>
              refine ⟨k + 1, by omega, by omega, rfl, fun x h1 h2 => ?_⟩
              rcases Int.lt_or_le x k with g | g
              · exact HNO.out x h1 g
              · obtain rfl : x = k := by omega
                exact HAL.out
            case measure => simp [intOf]; omega
          · have HAL := Lib.hid hal
            clear hal
            go_wp2
            go_ret
            exact ⟨ri (firI_of hk1 h5 HNO.out HAL.out).symm, rfl⟩
    · obtain rfl : k = 6 := by omega
      go_wp2
      go_ret
      have h1 := HNO.out 1 (by omega) (by omega)
      have h2 := HNO.out 2 (by omega) (by omega)
      have h3 := HNO.out 3 (by omega) (by omega)
      have h4 := HNO.out 4 (by omega) (by omega)
      have h5 := HNO.out 5 (by omega) (by omega)
      exact ⟨ri (by simp [firI, h1, h2, h3, h4, h5]), rfl⟩
end Go.Proofs.YtpddlckkncmlmaaDoor
