/- Victims leave, plainly: fewer wait, and none waits alone for itself. -/
import Derived.Test.YtpddlckkncmlmabDoorZb
namespace Go.Proofs.YtpddlckkncmlmabDoor
set_option linter.unusedVariables false
set_option linter.unusedSimpArgs false
theorem vic_two {H Q : List Lk} (h : Okl H Q) (hv : vicL H Q ≠ 0) : 2 ≤ Q.length := by
  rcases Nat.lt_or_ge Q.length 2 with g | g
  · exact absurd (vic_one h (by omega)) hv
  · exact g
theorem vic_any {H Q : List Lk} (hv : vicL H Q ≠ 0) : Q.any (ofB (vicL H Q)) = true := by
  obtain ⟨x, hx, h1, _⟩ := vic_in hv
  rw [List.any_eq_true]
  exact ⟨x, hx, by unfold ofB; simp [h1]⟩
theorem vic_rng {H Q : List Lk} (h : Okl H Q) (hv : vicL H Q ≠ 0) : 1 ≤ vicL H Q ∧ vicL H Q ≤ 1048576 := by
  obtain ⟨x, hx, h1, _⟩ := vic_in hv
  rw [← h1]
  exact (frm_ok.1 (h.qf x hx)).1
theorem filt_lt {Q : List Lk} {p : Lk → Bool} {x : Lk} (hx : x ∈ Q) (hp : p x = false) : (Q.filter p).length < Q.length := by
  induction Q with
  | nil => simp at hx
  | cons a l ih =>
    rw [List.filter_cons]
    rcases List.mem_cons.1 hx with rfl | hx
    · rw [hp]
      have := List.length_filter_le p l
      simp
      omega
    · have := ih hx
      split <;> simp only [List.length_cons] <;> omega
/-- When the victim has left, fewer wait. -/
theorem vic_fewer {H Q : List Lk} (h : Okl H Q) (hv : vicL H Q ≠ 0) : (leaveL H Q (vicL H Q)).2.1.length < Q.length := by
  obtain ⟨_, hw⟩ := leave_woke h (vic_rng h hv)
  obtain ⟨x, hx, h1, _⟩ := vic_in hv
  have hl := hw.len
  have hf : (Q.filter (notB (vicL H Q))).length < Q.length := filt_lt hx (by unfold notB ofB; simp [h1])
  omega
def deadH : List Lk := [⟨1, ⟨#[97]⟩, 5⟩, ⟨2, ⟨#[98]⟩, 5⟩]
def deadQ : List Lk := [⟨1, ⟨#[98]⟩, 3⟩, ⟨2, ⟨#[97]⟩, 3⟩]
theorem dead_w : (wts deadH (deadQ.take 0) (deadQ.getD 0 nlk) = [2]) ∧ wts deadH (deadQ.take 1) (deadQ.getD 1 nlk) = [1] := by
  have e1 : (⟨#[97]⟩ : ByteArray).toList = [97] := by rw [ByteArray.toList_eq]
  have e2 : (⟨#[98]⟩ : ByteArray).toList = [98] := by rw [ByteArray.toList_eq]
  constructor
  · simp [wts, txs, agB, deadH, deadQ, hmd_find, onB, e1, e2, thB, tog, togL]
  · simp [wts, txs, agB, deadH, deadQ, hmd_find, onB, e1, e2, thB, tog, togL]
theorem dead_cyc : cyc deadH deadQ 1 ∧ cyc deadH deadQ 2 := by
  have r12 : Rel deadH deadQ 1 2 := ⟨0, by simp [deadQ], by simp [deadQ], by unfold wRow; rw [once_mem, dead_w.1]; simp⟩
  have r21 : Rel deadH deadQ 2 1 := ⟨1, by simp [deadQ], by simp [deadQ], by unfold wRow; rw [once_mem, dead_w.2]; simp⟩
  exact ⟨.cat (.one r12) r21, .cat (.one r21) r12⟩
theorem dead_vic : vicL deadH deadQ = 2 := by
  have h1 := cycB_iff.2 dead_cyc.1
  have h2 := cycB_iff.2 dead_cyc.2
  unfold vicL vicS
  show (if cycB deadH deadQ 2 = true then max (if cycB deadH deadQ 1 = true then max 0 1 else 0) 2 else _) = 2
  rw [h1, h2]
  rfl
theorem dead_ok : lksF deadH deadQ = 0 := by
  have e1 : (⟨#[97]⟩ : ByteArray).toList = [97] := by rw [ByteArray.toList_eq]
  have e2 : (⟨#[98]⟩ : ByteArray).toList = [98] := by rw [ByteArray.toList_eq]
  rw [okl_iff]
  refine ⟨by simp [deadH, deadQ], ?_, ?_, ?_, ?_, ?_, ?_⟩
  · intro x hx
    simp [deadH] at hx
    rcases hx with rfl | rfl <;> simp [frm, ByteArray.size]
  · intro x hx
    simp [deadQ] at hx
    rcases hx with rfl | rfl <;> simp [frm, ByteArray.size]
  · simp [deadH, onB, agB, e1, e2]
  · simp [deadQ, ofB]
  · intro x hx
    simp [deadQ] at hx
    rcases hx with rfl | rfl <;> simp [moreB, hmd_find, deadH, onB, e1, e2, joi, joiL]
  · intro i hi
    have : i = 0 ∨ i = 1 := by simp [deadQ] at hi; omega
    rcases this with rfl | rfl
    · rw [dead_w.1]; rfl
    · rw [dead_w.2]; rfl
end Go.Proofs.YtpddlckkncmlmabDoor
