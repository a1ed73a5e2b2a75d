/- Values out of raw numbers may be. -/
import Derived.Test.YtakhkcabahhohaaDoorK2
import Derived.Test.YtakhkcabahhohaaDoorPo
namespace Go.Proofs.YtakhkcabahhohaaDoor
open Go.RowKit
set_option linter.unusedVariables false
set_option linter.unusedSimpArgs false
theorem cut_size (s : ByteArray) (m : Nat) : (cutS s m).size ≤ m := by
  unfold cutS
  rw [ByteArray.size_extract]
  omega
theorem raw_ok (k n : Int) (s : ByteArray) : chk (rawV k n s).k (rawV k n s).n (rawV k n s).t = 0 := by
  have h := pck_in k 4 (by omega)
  have g := pck_in n 2 (by omega)
  have c := cut_size s 10
  unfold rawV
  by_cases h1 : pck k 4 = 1
  · have g' : pck n 2 = 0 ∨ pck n 2 = 1 := by omega
    simp [h1, chk, nmb, e_list, e_size]
    omega
  by_cases h2 : pck k 4 = 2
  · simp [h2, chk, nmb, e_list, e_size]
  by_cases h3 : pck k 4 = 3
  · simp [h3, chk, nmb, e_list, e_size]
    omega
  · simp [h1, h2, h3, nul, chk, nmb, e_list, e_size]
theorem raw2 (k n : Int) (s : ByteArray) (k' n' : Int) (s' : ByteArray) : chk2 (rawV k n s) (rawV k' n' s') = 0 := by
  unfold chk2
  rw [if_pos (raw_ok _ _ _), raw_ok]
theorem raw_cmp (k n : Int) (s : ByteArray) (k' n' : Int) (s' : ByteArray) : cmp2 (rawV k n s) (rawV k' n' s') = ord (rawV k n s) (rawV k' n' s') := by
  unfold cmp2
  rw [if_pos (raw2 _ _ _ _ _ _)]
end Go.Proofs.YtakhkcabahhohaaDoor
