import Derived.Test.YtakhkcabahhohaaDoorK0
import Derived.Lib.IndexBytes
namespace Go.Proofs.YtakhkcabahhohaaDoor
open Go.ChangeShapes Go.WideShapes Go.ChangeAt Go.RowKit
set_option linter.unusedVariables false
set_option linter.unusedSimpArgs false
set_option maxHeartbeats 400000
theorem rstr {a b : ByteArray} (h : a = b) : Ending.returned (.string a) = .returned (.string b) := by rw [h]
/-- A text cut to so many bytes, and a value out of raw numbers. -/
def cutS (s : ByteArray) (m : Nat) : ByteArray := s.extract 0 (min s.size m)
def rawV (k n : Int) (s : ByteArray) : V :=
  if pck k 4 = 1 then ⟨1, pck n 2, ⟨#[]⟩⟩ else if pck k 4 = 2 then ⟨2, n, ⟨#[]⟩⟩ else if pck k 4 = 3 then ⟨3, 0, cutS s 10⟩ else nul
theorem cut_any (s : ByteArray) (m : Nat) (w : World) (hm : m ≤ 1000) (hs : s.size ≤ maxLen) :
    Calls Tryd.prog 19 #[.string s, .int .i64 (m : Int)] w fun e w' => e = .returned (.string (cutS s m)) ∧ w = w' := by
  unfold maxLen at hs
  by_cases h : s.size ≤ m
  · go_enter Tryd.func19, Tryd.ntmps19
    go_wp2
    go_ret
    refine ⟨rstr ?_, rfl⟩
    rw [cutS, Nat.min_eq_left h]
    simp
  · have h' : m < s.size := by omega
    go_enter Tryd.func19, Tryd.ntmps19
    go_wp2
    go_ret
    refine ⟨rstr ?_, rfl⟩
    show s.extract 0 m = _
    rw [cutS, Nat.min_eq_right (by omega)]
theorem val_any (k n : Int) (s : ByteArray) (w : World) (hk : Rng k) (hn : Rng n) (hs : s.size ≤ maxLen) :
    Calls Tryd.prog 18 #[.agg #[.int .i64 k, .int .i64 n, .string s]] w fun e w' => e = .returned (.agg #[.int .i64 (rawV k n s).k, .int .i64 (rawV k n s).n, .string (rawV k n s).t]) ∧ Below w.heap.size w w' := by
  have HS := Lib.hid hs
  clear hs
  have hin := pck_in k 4 (by omega)
  go_enter Tryd.func18, Tryd.ntmps18
  go_wp2_with fail
  refine (pck_any _ _ _ hk (by omega) (by omega)).mono ?_
  rintro e w1 ⟨rfl, rfl⟩
  go_wp2_with fail
  · refine (pck_any _ _ _ hn (by omega) (by omega)).mono ?_
    rintro e w1 ⟨rfl, rfl⟩
    go_wp2_with fail
    go_returns
    refine ⟨?_, by go_grown⟩
    simp_all [rawV]
  · go_returns
    refine ⟨?_, by go_grown⟩
    simp_all [rawV]
  · refine (cut_any _ 10 _ (by omega) HS.out).mono ?_
    rintro e w1 ⟨rfl, rfl⟩
    go_wp2_with fail
    go_returns
    refine ⟨?_, by go_grown⟩
    simp_all [rawV]
  · go_returns
    refine ⟨?_, by go_grown⟩
    simp_all [rawV, nul]
end Go.Proofs.YtakhkcabahhohaaDoor
