import Derived.Test.YtmfkdpfcpdmkdaaGreatDoorFdk
import Derived.RegionTactic
import Derived.ChangeAlike
/- What a leaf says: the closure of expr.Bounds. -/
namespace Go.Proofs.YtmfkdpfcpdmkdaaGreatDoor.bd
open Go.ChangeShapes Go.WideShapes Go.ChangeAt Go.RowKit
set_option linter.unusedVariables false
set_option linter.unusedSimpArgs false
set_option maxHeartbeats 2000000
set_option maxRecDepth 100000
theorem enc_rt {w w' : World} {v' : Value} {l : List UInt8} (h : w'.ownsRow w.heap.size 5 1 v' l.length (bc l)) : ∃ s : Sl, v' = sv s ∧ Rt w' s l := Rt.own h
theorem lit_key (w : World) (o : Oq) (CB : Nat) (hk : o.k = 1) (hv : o.v.k ≠ 0) (hfi : -9223372036854775808 ≤ o.v.n ∧ o.v.n ≤ 9223372036854775807) :
    Calls Tryz.prog 13 #[.agg #[.int .i64 o.k, .int .i64 o.v.k, .int .i64 o.v.n, .string o.v.t, .string o.t], .pointer (some ⟨CB, 0, none⟩)] w (PartIs ((enc [o.v]).2, ⟨false, (enc [o.v]).1, [], [], [], []⟩) w) := by
  obtain ⟨ok, ⟨vk, vn, vt⟩, ot⟩ := o
  simp only at hk hv hfi ⊢
  subst hk
  have hv0 : (vk != 0) = true := by simpa using hv
  have HE := Lib.hid (fun (W : World) (B : Nat) (hB : W.heap.size = B) => cd.enc_any 1 (.slice (some ⟨B, 0, none⟩) 1 1) [⟨vk, vn, vt⟩] (W.alloc (.cells #[.int .i64 vk, .int .i64 vn, .string vt] 43)) (fun v h => by rw [List.mem_singleton.1 h]; exact hfi) (vc_rd1 W ⟨vk, vn, vt⟩ B hB))
  clear hv hfi
  go_enter Tryz.func13, Tryz.ntmps13
  go_wp2_with fail
  refine (HE.out _ (w.heap.size + 2) (by simp)).mono ?_
  rintro e w2 ⟨v', rfl, hown, hb2⟩
  obtain ⟨s, rfl, hrt⟩ := enc_rt hown
  have hz2 := hb2.size
  simp at hz2
  have hb2' : Below (w.heap.size + 2) _ w2 := hb2.mono (by simp)
  have hr2 : w2.heap[w.heap.size + 1]? = some (.cells #[.bool false, .slice none 0 0, .slice none 0 0, .slice none 0 0, .slice none 0 0, .slice none 0 0] 39 (0, 0)) := (hb2'.block (w.heap.size + 1) (by omega)).trans (by rw [Below.heap_alloc _ _ _ (by simp)]; exact new1 w _ (.cells #[.bool false, .slice none 0 0, .slice none 0 0, .slice none 0 0, .slice none 0 0, .slice none 0 0] 39))
  have HR2 := Lib.hid hr2
  have HRT := Lib.hid hrt
  have HB2 : Hid (Below w.heap.size w w2) := Lib.hid (into (by go_grown) hb2)
  obtain ⟨k0, k1, k2, k3, k4, k5, f0, f1, f2, f3, f4, f5⟩ := box6 hr2
  clear hown hb2 hb2' hr2 hrt
  go_wp2_with fail
  obtain ⟨z0, z1, z2, z3, z4, z5⟩ := st6c HR2.out (.bool false) (sv s) (.slice none 0 0) (.slice none 0 0) (.slice none 0 0) (.slice none 0 0)
  refine bodyPost_ret (by simp [results, Tryz.results13, go_sem, z0, z1, z2, z3, z4, z5]; try rfl) rfl ?_
  exact ⟨⟨false, s, nsl, nsl, nsl, nsl⟩, rfl, ⟨rfl, HRT.out.set6 HR2.out pt_ne _ _ _ _ _ _, Rt.nil _, Rt.nil _, Rt.nil _, Rt.nil _⟩, below6 HB2.out (by omega) _ _ _ _ _ _⟩
theorem lit_nul (w : World) (o : Oq) (CB : Nat) (hk : o.k = 1) (hv : o.v.k = 0) :
    Calls Tryz.prog 13 #[.agg #[.int .i64 o.k, .int .i64 o.v.k, .int .i64 o.v.n, .string o.v.t, .string o.t], .pointer (some ⟨CB, 0, none⟩)] w (PartIs (0, np) w) := by
  obtain ⟨ok, ⟨vk, vn, vt⟩, ot⟩ := o
  simp only at hk hv ⊢
  subst hk hv
  go_enter Tryz.func13, Tryz.ntmps13
  go_wp2_with fail
  go_region
  all_goals (go_wp2_with fail; go_returns; exact part_end (x := npv) (RP.np w) (by go_grown))
theorem ccs_head {l : List Cq} (h : 0 < l.length) : (ccs l)[0]? = some (.string (l.getD 0 ncq).t) := by
  match l, h with
  | c :: l, _ => rfl
theorem lit_col (w : World) (o : Oq) (CB : Nat) (n : Nat) (v : Value) (l : List Cq) (hr : Rd w 2 n v (ccs l)) (hl : 0 < l.length) (hx : w.cell? ⟨CB, 0, none⟩ = some v) (hn : 0 < n) (hk : o.k = 2) :
    Calls Tryz.prog 13 #[.agg #[.int .i64 o.k, .int .i64 o.v.k, .int .i64 o.v.n, .string o.v.t, .string o.t], .pointer (some ⟨CB, 0, none⟩)] w (PartIs (0, ⟨o.t.toList == (l.getD 0 ncq).t.toList, [], [], [], [], []⟩) w) := by
  obtain ⟨ok, ⟨vk, vn, vt⟩, ot⟩ := o
  simp only at hk ⊢
  subst hk
  obtain ⟨b, q, cap, rfl, h1, h2, hb, hc⟩ := hr.pos hn (by omega)
  have h0 := hc 0 _ (ccs_head hl)
  rw [Nat.add_zero] at h0
  obtain ⟨t, ht⟩ : ∃ t, t = (l.getD 0 ncq).t := ⟨_, rfl⟩
  rw [← ht] at h0 ⊢
  have hB : Below w.heap.size w ((w.alloc (.cells #[.int .i64 2, .int .i64 vk, .int .i64 vn, .string vt, .string ot] 45)).alloc (.cells #[.bool false, .slice none 0 0, .slice none 0 0, .slice none 0 0, .slice none 0 0, .slice none 0 0] 39)) := by go_grown
  have x0 := cell_blz hB hx
  have x1 := cell_blz hB h0
  have hn' : (0 : Int) < (n : Int) := by omega
  obtain ⟨r, hrr⟩ : ∃ r, r = (ot.toList == t.toList) := ⟨_, rfl⟩
  rw [← hrr]
  have hr' : (ot.toList == t.toList) = r := hrr.symm
  clear hr hx hc h0 hrr ht hB hl hn
  go_enter Tryz.func13, Tryz.ntmps13
  go_wp2_with fail
  go_region
  all_goals (go_wp2_with fail; go_returns; exact part_end (x := ⟨r, nsl, nsl, nsl, nsl, nsl⟩) ⟨rfl, Rt.nil w, Rt.nil w, Rt.nil w, Rt.nil w, Rt.nil w⟩ (by go_grown))
/-- What a leaf says. -/
theorem start_any (w : World) (o : Oq) (CB : Nat) (n : Nat) (v : Value) (l : List Cq) (hr : Rd w 2 n v (ccs l)) (hl : 0 < l.length) (hx : w.cell? ⟨CB, 0, none⟩ = some v) (hw : wks o.k = 0) (hfi : -9223372036854775808 ≤ o.v.n ∧ o.v.n ≤ 9223372036854775807) :
    Calls Tryz.prog 13 #[.agg #[.int .i64 o.k, .int .i64 o.v.k, .int .i64 o.v.n, .string o.v.t, .string o.t], .pointer (some ⟨CB, 0, none⟩)] w (PartIs (lfP (l.getD 0 ncq).t o) w) := by
  have hn : 0 < n := by
    have h := hr.1
    rw [ccs_length] at h
    omega
  have hk12 : o.k = 1 ∨ o.k = 2 := by unfold wks at hw; split at hw <;> (try split at hw) <;> omega
  rcases hk12 with hk | hk
  · by_cases hv : o.v.k = 0
    · have e : lfP (l.getD 0 ncq).t o = (0, np) := by
        unfold lfP
        rw [if_neg (by rintro ⟨-, h⟩; exact h hv)]
        simp [hk, np]
      rw [e]
      exact lit_nul w o CB hk hv
    · have e : lfP (l.getD 0 ncq).t o = ((enc [o.v]).2, ⟨false, (enc [o.v]).1, [], [], [], []⟩) := by
        unfold lfP
        rw [if_pos ⟨hk, hv⟩]
      rw [e]
      exact lit_key w o CB hk hv hfi
  · have e : lfP (l.getD 0 ncq).t o = (0, ⟨o.t.toList == (l.getD 0 ncq).t.toList, [], [], [], [], []⟩) := by
      unfold lfP
      rw [if_neg (by rintro ⟨h, -⟩; omega)]
      congr 2
      rw [Bool.eq_iff_iff]
      simp [hk]
    rw [e]
    exact lit_col w o CB n v l hr hl hx hn hk
end Go.Proofs.YtmfkdpfcpdmkdaaGreatDoor.bd
