import Derived.Test.YtakhkcabahhohaaDoorCw
import Derived.Test.YtakhkcabahhohaaDoorK2
import Derived.Test.YtakhkcabahhohaaDoorK3
namespace Go.Proofs.YtakhkcabahhohaaDoor
open Go.ChangeShapes Go.WideShapes Go.ChangeAt Go.RowKit
set_option linter.unusedVariables false
set_option linter.unusedSimpArgs false
set_option maxHeartbeats 1000000
/-- A value out of a raw one, its text cut to five bytes. -/
def rv (u : V) : V := ⟨(rawV u.k u.n u.t).k, (rawV u.k u.n u.t).n, cutS (rawV u.k u.n u.t).t 5⟩
def vals (l : List V) : List V := (l.take 6).map rv
theorem cut_empty (m : Nat) : cutS ⟨#[]⟩ m = ⟨#[]⟩ := by
  unfold cutS
  show (⟨#[]⟩ : ByteArray).extract 0 (min (⟨#[]⟩ : ByteArray).size m) = _
  rw [e_size, Nat.zero_min]
  rfl
theorem esc_ln : ∀ l : List UInt8, (esc l).length ≤ 2 * l.length
  | [] => by simp [esc]
  | b :: l => by
    have := esc_ln l
    by_cases h : b = 0 <;> simp [esc, h] <;> omega
theorem rv_ok (u : V) (hn : Rng u.n) : Ok (rv u) ∧ (enc1 (rv u)).length ≤ 13 := by
  have h := raw_ok u.k u.n u.t
  obtain ⟨h0, h3, ht, hn0, hn1, hn3⟩ := chk0 h
  have hc := cut_size (rawV u.k u.n u.t).t 5
  have hr : -9223372036854775808 ≤ (rawV u.k u.n u.t).n ∧ (rawV u.k u.n u.t).n ≤ 9223372036854775807 := by
    unfold Rng at hn
    have g := pck_in u.n 2 (by omega)
    unfold rawV
    split
    · simp only; omega
    split
    · exact hn
    split
    · simp only; omega
    · simp [nul]
  unfold rv
  generalize rawV u.k u.n u.t = X at *
  obtain ⟨k, n, t⟩ := X
  simp only at h h0 h3 ht hn0 hn1 hn3 hc hr ⊢
  have hk : k = 0 ∨ k = 1 ∨ k = 2 ∨ k = 3 := by omega
  rcases hk with rfl | rfl | rfl | rfl
  · have e := ht (by omega); have g := hn0 rfl; subst e; subst g
    rw [cut_empty]
    exact ⟨⟨by simp [chk, nmb, e_list, e_size], by simp⟩, by simp [enc1, tail1]⟩
  · have e := ht (by omega); subst e
    rw [cut_empty]
    rcases hn1 rfl with rfl | rfl
    · exact ⟨⟨by simp [chk, nmb, e_list, e_size], by simp⟩, by simp [enc1, tail1]⟩
    · exact ⟨⟨by simp [chk, nmb, e_list, e_size], by simp⟩, by simp [enc1, tail1]⟩
  · have e := ht (by omega); subst e
    rw [cut_empty]
    exact ⟨⟨by simp [chk, nmb, e_list, e_size], hr⟩, by simp [enc1, tail1, be8, be_length]⟩
  · have g := hn3 rfl; subst g
    have h2 := esc_ln (cutS t 5).toList
    rw [size_list] at h2
    refine ⟨⟨?_, by simp⟩, by simp [enc1, tail1]; omega⟩
    simp [chk, nmb]
    omega
theorem vals_ok (l : List V) (hf : ∀ u ∈ l, Rng u.n) : (∀ v ∈ vals l, Ok v) ∧ (vals l).length ≤ 6 ∧ (encs (vals l)).length ≤ 78 := by
  have h1 : ∀ v ∈ vals l, Ok v ∧ (enc1 v).length ≤ 13 := by
    intro v hv
    obtain ⟨u, hu, rfl⟩ := List.mem_map.1 hv
    exact rv_ok u (hf u (List.mem_of_mem_take hu))
  have h2 : (vals l).length ≤ 6 := by simp [vals]; omega
  have h3 : ∀ m : List V, (∀ v ∈ m, (enc1 v).length ≤ 13) → (encs m).length ≤ m.length * 13 := by
    intro m
    induction m with
    | nil => simp [encs]
    | cons v m ih =>
      intro h
      have := ih (fun x hx => h x (by simp [hx]))
      have := h v (by simp)
      simp only [encs, List.length_append, List.length_cons]
      omega
  have h4 := h3 (vals l) fun v hv => (h1 v hv).2
  exact ⟨fun v hv => (h1 v hv).1, h2, by omega⟩
theorem vals_13 (l : List V) (hf : ∀ u ∈ l, Rng u.n) : ∀ v ∈ vals l, Ok v ∧ (enc1 v).length ≤ 13 := by
  intro v hv
  obtain ⟨u, hu, rfl⟩ := List.mem_map.1 hv
  exact rv_ok u (hf u (List.mem_of_mem_take hu))
theorem encs_13 : ∀ m : List V, (∀ v ∈ m, Ok v ∧ (enc1 v).length ≤ 13) → (encs m).length ≤ m.length * 13
  | [], _ => by simp [encs]
  | v :: m, h => by
    have := encs_13 m (fun x hx => h x (by simp [hx]))
    have := (h v (by simp)).2
    simp only [encs, List.length_append, List.length_cons]
    omega
theorem of_next {l : List V} {k : Nat} (h : k < l.length) : (l.take (k + 1)).map rv = (l.take k).map rv ++ [rv (l.getD k nul)] := by
  have e : l.take (k + 1) = l.take k ++ [l.getD k nul] := by
    rw [List.take_succ_eq_append_getElem h]
    simp [List.getD, h]
  rw [e, List.map_append]
  rfl
theorem of_any (n : Nat) (v : Value) (l : List V) (w : World) (hr : Rd w 3 n v (vc l)) (hf : ∀ u ∈ l, Rng u.k ∧ Rng u.n ∧ u.t.size ≤ maxLen) :
    Calls Tryd.prog 12 #[v] w fun e w' => ∃ v', e = .returned v' ∧ w'.ownsRow w.heap.size 35 3 v' (vals l).length (vc (vals l)) ∧ Below w.heap.size w w' := by
  have hnl := len_v hr
  have hmax := hr.len
  unfold maxLen at hmax
  by_cases h0 : n = 0
  · subst h0
    have hl0 : l = [] := List.eq_nil_of_length_eq_zero hnl.symm
    subst hl0
    obtain ⟨_, ao, cap, rfl, _⟩ := hr.zero
    clear hf hmax hr hnl
    go_enter Tryd.func12, Tryd.ntmps12
    go_wp2
    go_rounds 1
    go_ret
    exact ⟨_, rfl, World.ownsRow_nil _ _ _ _, Below.refl _ _⟩
  · obtain ⟨_, b, o, cap, rfl, _, _, hbw, hcell⟩ := vals_of hr (by omega)
    have HC := Lib.hid hcell
    have HF := Lib.hid hf
    have HN := Lib.hid hnl
    clear hcell hr hf hnl
    go_enter Tryd.func12, Tryd.ntmps12
    go_wp2
    go_loopw [3, 4] (fun v' i wr => ∃ j : Nat, j ≤ n ∧ j ≤ 6 ∧ i = .int .i64 (j : Int) ∧ wr.ownsRow w.heap.size 35 3 v' j (vc ((l.take j).map rv)) ∧ Below w.heap.size w wr) (fun _ i _ => n - (intOf i).toNat)
    case atStart => exact ⟨0, by omega, by omega, rfl, by simpa [vc] using World.ownsRow_nil _ _ _ _, Below.refl _ _⟩
    case round =>
      obtain ⟨j, hjn, hj6, rfl, hown, hb⟩ := hrel
      have hz := hb.size
      have HW := Lib.hid hown
      clear hown
      by_cases hlt : j < n
      · by_cases hlt6 : j < 6
        · obtain ⟨g1, g2, g3⟩ := HC.out j hlt
          have c1 := (hb.cell (p := ⟨b, o + j * 3, none⟩) hbw).trans g1
          have c2 := (hb.cell (p := ⟨b, o + j * 3 + 1, none⟩) hbw).trans g2
          have c3 := (hb.cell (p := ⟨b, o + j * 3 + 2, none⟩) hbw).trans g3
          have hkl : j < l.length := by rw [← HN.out]; exact hlt
          obtain ⟨f1, f2, f3⟩ := HF.out (l.getD j nul) (by
            simp only [List.getD, List.getElem?_eq_getElem hkl, Option.getD_some]
            exact List.getElem_mem hkl)
          obtain ⟨u, hu⟩ : ∃ u, u = l.getD j nul := ⟨_, rfl⟩
          rw [← hu] at c1 c2 c3 f1 f2 f3
          have HU := Lib.hid hu
          have HKL := Lib.hid hkl
          clear g1 g2 g3 hu hkl
          have cv := val_any u.k u.n u.t wr f1 f2 f3
          have hc10 : (rawV u.k u.n u.t).t.size ≤ maxLen := by
            have hh := chk0 (raw_ok u.k u.n u.t)
            have := text_size (v := rawV u.k u.n u.t) ⟨raw_ok u.k u.n u.t, by
              have := (rv_ok u f2).1.2
              exact this⟩
            unfold maxLen
            omega
          have hrv : rv u = ⟨(rawV u.k u.n u.t).k, (rawV u.k u.n u.t).n, cutS (rawV u.k u.n u.t).t 5⟩ := rfl
          obtain ⟨X, hX⟩ : ∃ X, X = rawV u.k u.n u.t := ⟨_, rfl⟩
          rw [← hX] at cv hc10 hrv
          have HCV := Lib.hid cv
          have HRV := Lib.hid hrv
          have HS := Lib.hid hc10
          obtain ⟨uk, un, ut⟩ := u
          obtain ⟨xk, xn, xt⟩ := X
          simp only at c1 c2 c3 HCV HRV HS
          clear cv hc10 hX f1 f2 f3 hrv
          go_wp2_with (first
            | (go_at_call 18; refine HCV.out.mono ?_; rintro e w1 ⟨rfl, hb1⟩; have hz1 := hb1.size)
            | (go_at_call 19; refine (cut_any _ 5 _ (by omega) HS.out).mono ?_; rintro e w2 ⟨rfl, rfl⟩)
            | (at_builtin; refine apv (w1.alloc _) rfl (.tmp 25) (.tmp 27) rfl ((own_below HW.out hb1).alloc _) (by simp; omega) (by omega) (w1.heap.size + 1) (by simp) rfl rfl ?_; intro v3 w3 hown3 hb3 _))
          go_roundw
          case rel =>
            refine ⟨j + 1, by omega, by omega, by go_num, ?_, ((hb.trans (hb1.mono hz)).alloc (by omega) _).trans hb3⟩
            rw [of_next HKL.out, vc_app, ← HU.out, HRV.out]
            exact hown3
          case measure => simp [intOf]; omega
        · obtain rfl : j = 6 := by omega
          have hlt' : (6 : Int) < (n : Int) := by omega
          go_wp2_with fail
          go_ret
          have e : (vals l).length = 6 := by
            have := HN.out
            simp [vals]
            omega
          rw [e]
          exact ⟨_, rfl, HW.out, hb⟩
      · obtain rfl : j = n := by omega
        go_wp2_with fail
        go_ret
        have hN := HN.out
        have e : (l.take j).map rv = vals l := by
          rw [vals, List.take_of_length_le (by omega), List.take_of_length_le (by omega)]
        have e2 : (vals l).length = j := by simp [vals]; omega
        rw [e2, ← e]
        exact ⟨_, rfl, HW.out, hb⟩
end Go.Proofs.YtakhkcabahhohaaDoor
