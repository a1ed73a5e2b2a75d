/- Keys searched among keys that rise. -/
import Derived.Test.YthoijpaoegojfaaH1
import Derived.Deep.LoopGhost
namespace Go.Proofs.Ythoijpaoegojfaa
open Go.ChangeShapes Go.WideShapes Go.ChangeAt Go.RowKit
set_option linter.unusedVariables false
set_option linter.unusedSimpArgs false
set_option maxHeartbeats 1000000
/-- How many keys stand ahead of one. -/
def lbK (k : Key) : List Key → Nat
  | [] => 0
  | s :: r => if kl s k then lbK k r + 1 else 0
/-- Is the first one that does not the key itself? -/
def hasK (k : Key) (ks : List Key) : Bool := decide (lbK k ks < ks.length ∧ ks.getD (lbK k ks) [] = k)
theorem lbK_le (k : Key) : ∀ ks, lbK k ks ≤ ks.length
  | [] => Nat.le_refl _
  | s :: r => by
    by_cases h : kl s k = true
    · simp [lbK, h, lbK_le k r]
    · simp [lbK, h]
theorem lbK_of {k : Key} : ∀ {ks : List Key} {i : Nat}, i ≤ ks.length → (∀ m, m < i → kl (ks.getD m []) k = true) → (i < ks.length → kl (ks.getD i []) k = false) → lbK k ks = i
  | [], i, h, _, _ => by simp at h; subst h; rfl
  | s :: r, 0, _, _, h => by
    have := h (by simp)
    simp only [List.getD_cons_zero] at this
    simp [lbK, this]
  | s :: r, i + 1, h, h1, h2 => by
    have h0 := h1 0 (by omega)
    simp only [List.getD_cons_zero] at h0
    have ih := lbK_of (k := k) (ks := r) (i := i) (by simpa using h) (fun m hm => by simpa using h1 (m + 1) (by omega)) (fun hi => by simpa using h2 (by simpa using hi))
    simp [lbK, h0, ih]
/-- Keys that rise. -/
abbrev RiseK (ks : List Key) : Prop := ks.Pairwise fun a b => kl a b = true
theorem rise_at {ks : List Key} (h : RiseK ks) {i j : Nat} (hij : i < j) (hj : j < ks.length) : kl (ks.getD i []) (ks.getD j []) = true := by
  have := List.pairwise_iff_getElem.1 h i j (by omega) hj hij
  simpa [List.getD, hj, (by omega : i < ks.length)] using this
theorem cnt_lb {k : Key} : ∀ {ks : List Key}, RiseK ks → cntK k ks = if hasK k ks then lbK k ks + 1 else lbK k ks
  | [], _ => by simp [cntK, hasK, lbK]
  | s :: r, h => by
    rw [RiseK, List.pairwise_cons] at h
    have ih := cnt_lb (k := k) h.2
    by_cases h1 : kl s k = true
    · have h2 := kl_not h1
      have hh : hasK k (s :: r) = hasK k r := by simp [hasK, lbK, h1]
      rw [hh]
      simp only [cntK, h2, Bool.false_eq_true, if_false, ih, lbK, h1, if_true]
      cases hasK k r <;> rfl
    · have h1' : kl s k = false := by simpa using h1
      by_cases h2 : kl k s = true
      · have hne : s ≠ k := by rintro rfl; rw [h2] at h1'; cases h1'
        simp [cntK, h2, hasK, lbK, h1', hne]
      · have he : s = k := bl_tri s k h1' (by simpa using h2)
        subst he
        have h0 : cntK s r = 0 := by
          cases r with
          | nil => rfl
          | cons x r => simp [cntK, h.1 x (by simp)]
        simp [cntK, h1', hasK, lbK, h0]
theorem has_mem {k : Key} : ∀ {ks : List Key}, RiseK ks → (hasK k ks = true ↔ k ∈ ks)
  | [], _ => by simp [hasK, lbK]
  | s :: r, h => by
    rw [RiseK, List.pairwise_cons] at h
    have ih := has_mem (k := k) h.2
    by_cases h1 : kl s k = true
    · have hne : ¬ k = s := by rintro rfl; have := bl_irr k; rw [show Op.bytesLess k k = kl k k from rfl, h1] at this; cases this
      simp only [hasK, lbK, h1, if_true, List.length_cons, List.getD_cons_succ, Nat.add_lt_add_iff_right, List.mem_cons, hne, false_or]
      exact ih
    · have h1' : kl s k = false := by simpa using h1
      simp only [hasK, lbK, h1', Bool.false_eq_true, if_false, List.length_cons, List.getD_cons_zero, decide_eq_true_eq, List.mem_cons]
      constructor
      · rintro ⟨_, rfl⟩; exact .inl rfl
      · rintro (rfl | hm)
        · exact ⟨by omega, rfl⟩
        · exact absurd (h.1 k hm) (by rw [h1']; simp)
/-- What a slice of keys is. -/
theorem keys_of {w : World} {ok : Nat → Prop} {v : Value} {ks : List Key} (h : RK w ok v ks) (hn : 0 < ks.length) :
    ∃ b o cap, ∃ f : Nat → Value, v = .slice (some ⟨b, o, none⟩) ks.length cap ∧ ks.length ≤ cap ∧ cap ≤ maxLen ∧ b < w.heap.size ∧ ok b ∧ ∀ i, i < ks.length → w.cell? ⟨b, o + i, none⟩ = some (f i) ∧ RB w ok (f i) (ks.getD i []) := by
  obtain ⟨vs, h1, h2, h3⟩ := h
  obtain ⟨b, o, cap, rfl, g1, g2, g3, g4⟩ := h1.pos hn (by omega)
  refine ⟨b, o, cap, fun i => vs.getD i undef, rfl, g1, g2, g3, h2 _ _ _ rfl hn, fun i hi => ?_⟩
  obtain ⟨x, hx, hr⟩ := h3 i ks[i] (List.getElem?_eq_getElem hi)
  have e1 : vs.getD i undef = x := by simp [List.getD, hx]
  have e2 : ks.getD i [] = ks[i] := by simp [List.getD, hi]
  refine ⟨?_, ?_⟩
  · rw [g4 i x hx]; exact congrArg some e1.symm
  · show RB w ok (vs.getD i undef) _
    rw [e1, e2]; exact hr
theorem keys_zero {w : World} {ok : Nat → Prop} {v : Value} {ks : List Key} (h : RK w ok v ks) (hn : ks.length = 0) : ks = [] ∧ ∃ ao cap, v = .slice ao 0 cap ∧ cap ≤ maxLen := by
  obtain ⟨vs, h1, h2, h3⟩ := h
  rw [hn] at h1
  exact ⟨List.eq_nil_of_length_eq_zero hn, h1.zero.2⟩
theorem RB.rd {w : World} {ok : Nat → Prop} {v : Value} {l : List UInt8} (h : RB w ok v l) : Rd w 1 l.length v (bc l) := h.1
theorem bsf_any (w : World) (ok ok' : Nat → Prop) (v u : Value) (ks : List Key) (k : Key) (hv : RK w ok v ks) (hu : RB w ok' u k) (hr : RiseK ks) (hsm : ks.length ≤ 1000000) :
    Calls Try.prog 74 #[v, u, .func (.func 56) #[] #[]] w fun e w' => e = .returned (.tuple #[.int .i64 (lbK k ks : Nat), .bool (hasK k ks)]) ∧ w = w' := by
  by_cases h0 : ks.length = 0
  · obtain ⟨rfl, ao, cap, rfl, _⟩ := keys_zero hv h0
    go_enter Try.func74, Try.ntmps74
    go_wp2
    go_rounds 1
    go_ret2
    exact ⟨by simp [lbK, hasK], rfl⟩
  · obtain ⟨b, o, cap, f, rfl, hn, hcap, hb, _, hc⟩ := keys_of hv (by omega)
    obtain ⟨n, hnn⟩ : ∃ n, n = ks.length := ⟨_, rfl⟩
    rw [← hnn] at h0 hn hc hsm ⊢
    unfold maxLen at hcap
    have HC := Lib.hid hc
    have HU := Lib.hid hu
    have HR := Lib.hid hr
    have HN := Lib.hid hnn
    clear hc hu hr hv hnn
    go_enter Try.func74, Try.ntmps74
    go_wp2
    go_loop [9, 10] (fun x y => ∃ i j : Nat, i ≤ j ∧ j ≤ n ∧ x = .int .i64 (i : Int) ∧ y = .int .i64 (j : Int) ∧ (∀ m, m < i → kl (ks.getD m []) k = true) ∧ (∀ m, j ≤ m → m < n → kl (ks.getD m []) k = false)) (fun x y => (intOf y).toNat - (intOf x).toNat)
    case atStart => exact ⟨0, n, by omega, by omega, rfl, rfl, fun m hm => by omega, fun m h1 h2 => by omega⟩
    case round =>
      obtain ⟨i, j, hij, hj, rfl, rfl, hlo, hhi⟩ := hrel
      have HLO := Lib.hid hlo
      have HHI := Lib.hid hhi
      clear hlo hhi
      by_cases hlt : i < j
      · obtain ⟨m, hm⟩ : ∃ m, m = (i + j) / 2 := ⟨_, rfl⟩
        have hm1 : i ≤ m := by omega
        have hm2 : m < j := by omega
        have hmid : ((i : Int) + (j : Int)) / 2 = (m : Int) := by omega
        obtain ⟨c1, c2⟩ := HC.out m (by omega)
        obtain ⟨s, hs⟩ : ∃ s, s = ks.getD m [] := ⟨_, rfl⟩
        rw [← hs] at c2
        have HS := Lib.hid hs
        have C2 := Lib.hid c2
        clear c2 hm hs
        go_wp2_with (go_at_call 56; refine (cmp_any _ _ _ _ _ C2.out.1 HU.out.1).mono ?_; rintro e w' ⟨rfl, rfl⟩)
        · have hq : kl (ks.getD m []) k = true := by rw [← HS.out, ← cmpK_lt]; assumption
          go_round
          case rel =>
            refine ⟨m + 1, j, by omega, by omega, by go_num, rfl, fun q h1 => ?_, HHI.out⟩
            rcases Nat.lt_or_ge q m with g | g
            · exact bl_trans _ _ _ (rise_at HR.out g (by rw [← HN.out]; omega)) hq
            · obtain rfl : q = m := by omega
              exact hq
          case measure => simp [intOf]; omega
        · have hge : 0 ≤ cmpK s k := by assumption
          have hq : kl (ks.getD m []) k = false := by
            rw [← HS.out, ← Bool.not_eq_true, ← cmpK_lt]
            omega
          go_round
          case rel =>
            refine ⟨i, m, by omega, by omega, rfl, rfl, HLO.out, fun q h1 h2 => ?_⟩
            rcases Nat.lt_or_ge m q with g | g
            · have h3 := rise_at HR.out g (by rw [← HN.out]; exact h2)
              rcases h4 : kl (ks.getD q []) k with _ | _
              · rfl
              · exact absurd (bl_trans _ _ _ h3 h4) (by rw [show Op.bytesLess (ks.getD m []) k = kl (ks.getD m []) k from rfl, hq]; simp)
            · obtain rfl : q = m := by omega
              exact hq
          case measure => simp [intOf]; omega
      · obtain rfl : i = j := by omega
        have hl : lbK k ks = i := lbK_of (by rw [← HN.out]; exact hj) HLO.out (fun h => HHI.out i (Nat.le_refl _) (by rw [HN.out]; exact h))
        have HL := Lib.hid hl
        clear hl
        by_cases hin : i < n
        · obtain ⟨c1, c2⟩ := HC.out i hin
          obtain ⟨s, hs⟩ : ∃ s, s = ks.getD i [] := ⟨_, rfl⟩
          rw [← hs] at c2
          have HS := Lib.hid hs
          have C2 := Lib.hid c2
          clear c2 hs
          go_wp2_with (go_at_call 56; refine (cmp_any _ _ _ _ _ C2.out.1 HU.out.1).mono ?_; rintro e w' ⟨rfl, rfl⟩)
          go_ret2
          refine ⟨?_, rfl⟩
          rw [HL.out]
          have e : hasK k ks = (cmpK s k == 0) := by
            rw [hasK, HL.out, Bool.eq_iff_iff, ← HS.out]
            simp only [decide_eq_true_eq, beq_iff_eq, cmpK_eq]
            exact ⟨fun h => h.2, fun h => ⟨by rw [← HN.out]; exact hin, h⟩⟩
          rw [e]
          rfl
        · obtain rfl : i = n := by omega
          go_wp2
          go_ret2
          refine ⟨?_, rfl⟩
          rw [HL.out]
          have e : hasK k ks = false := by
            rw [hasK, HL.out]
            simp only [decide_eq_false_iff_not]
            rw [← HN.out]
            omega
          rw [e]
          rfl
/-- The program's own search. -/
theorem srch_any (w : World) (ok ok' : Nat → Prop) (v u : Value) (ks : List Key) (k : Key) (hv : RK w ok v ks) (hu : RB w ok' u k) (hr : RiseK ks) (hsm : ks.length ≤ 1000000) :
    Calls Try.prog 52 #[v, u] w fun e w' => e = .returned (.tuple #[.int .i64 (lbK k ks : Nat), .bool (hasK k ks)]) ∧ w = w' := by
  have HV := Lib.hid hv
  have HU := Lib.hid hu
  have HR := Lib.hid hr
  clear hv hu hr
  go_enter Try.func52, Try.ntmps52
  go_wp2_with (go_at_call 74; refine (bsf_any _ _ _ _ _ _ _ HV.out HU.out HR.out hsm).mono ?_; rintro e w' ⟨rfl, rfl⟩)
  go_ret2
  exact ⟨rfl, rfl⟩
end Go.Proofs.Ythoijpaoegojfaa
