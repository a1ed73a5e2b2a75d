/- The kids of a page by itself. -/
import Derived.Test.YthoijpaoegojfaaH3
namespace Go.Proofs.Ythoijpaoegojfaa
open Go.ChangeShapes Go.WideShapes Go.ChangeAt Go.RowKit
set_option linter.unusedVariables false
set_option linter.unusedSimpArgs false
set_option maxHeartbeats 1000000
theorem ints_of {w : World} {ok : Nat → Prop} {v : Value} {l : List Int} (h : RI w ok v l) (hn : 0 < l.length) :
    ∃ b o cap, v = .slice (some ⟨b, o, none⟩) l.length cap ∧ l.length ≤ cap ∧ cap ≤ maxLen ∧ b < w.heap.size ∧ ok b ∧ ∀ i, i < l.length → w.cell? ⟨b, o + i, none⟩ = some (.int .i64 (l.getD i 0)) := by
  obtain ⟨h1, h2⟩ := h
  obtain ⟨b, o, cap, rfl, g1, g2, g3, g4⟩ := h1.pos hn (by omega)
  exact ⟨b, o, cap, rfl, g1, g2, g3, h2 _ _ _ rfl hn, fun i hi => g4 i _ (ic_at hi)⟩
theorem RI.below {w w' : World} {ok : Nat → Prop} {v : Value} {l : List Int} (h : RI w ok v l) (hb : Below w.heap.size w w') : RI w' ok v l := h.agree (Agree.below hb ok)
theorem RK.below {w w' : World} {ok : Nat → Prop} {v : Value} {l : List Key} (h : RK w ok v l) (hb : Below w.heap.size w w') : RK w' ok v l := h.agree (Agree.below hb ok)
theorem RB.below {w w' : World} {ok : Nat → Prop} {v : Value} {l : Key} (h : RB w ok v l) (hb : Below w.heap.size w w') : RB w' ok v l := h.agree (Agree.below hb ok)
theorem ints_zero {w : World} {ok : Nat → Prop} {v : Value} {l : List Int} (h : RI w ok v l) (hn : l.length = 0) : l = [] ∧ ∃ ao cap, v = .slice ao 0 cap ∧ cap ≤ maxLen := by
  obtain ⟨h1, h2⟩ := h
  rw [hn] at h1
  exact ⟨List.eq_nil_of_length_eq_zero hn, h1.zero.2⟩
/-- A call answers a number, which is not below 0 just where P holds. -/
def IdxIs (P : Prop) (w : World) (e : Ending) (w' : World) : Prop := ∃ i : Int, e = .returned (.int .i64 i) ∧ (0 ≤ i ↔ P) ∧ w = w'
theorem IdxIs.mk {P : Prop} {w : World} (i : Int) (h : 0 ≤ i ↔ P) : IdxIs P w (.returned (.int .i64 i)) w := ⟨i, rfl, h, rfl⟩
theorem noRow_any (w : World) (c : Int) : Calls Try.prog 67 #[.int .i64 c] w fun e w' => e = .returned (.bool (decide (c < 0))) ∧ w = w' := by
  go_enter Try.func67, Try.ntmps67
  go_wp2
  go_ret
  exact ⟨rfl, rfl⟩
theorem noPage_any (w : World) (c n : Int) (B : Nat) (hB : w.cell? ⟨B, 0, none⟩ = some (.int .i64 n)) : Calls Try.prog 69 #[.int .i64 c, .pointer (some ⟨B, 0, none⟩)] w fun e w' => e = .returned (.bool (decide (c < 0) || decide (n ≤ c))) ∧ w = w' := by
  by_cases h : c < 0
  all_goals (
    go_enter Try.func69, Try.ntmps69
    go_wp2
    go_ret
    refine ⟨rb ?_, rfl⟩
    simp [h]
    try omega)
/-- The first kid of which a question is true, or none. -/
theorem idxA_any (w : World) (ok : Nat → Prop) (v : Value) (l : List Int) (hv : RI w ok v l) :
    Calls Try.prog 84 #[v, .func (.func 67) #[] #[]] w (IdxIs (∃ c ∈ l, c < 0) w) := by
  by_cases h0 : l.length = 0
  · obtain ⟨rfl, ao, cap, rfl, _⟩ := ints_zero hv h0
    go_enter Try.func84, Try.ntmps84
    go_wp2
    go_rounds 1
    go_ret
    exact IdxIs.mk (-1) (by simp)
  · obtain ⟨b, o, cap, rfl, hn, hcap, hb, _, hc⟩ := ints_of hv (by omega)
    obtain ⟨n, hnn⟩ : ∃ n, n = l.length := ⟨_, rfl⟩
    rw [← hnn] at h0 hn hc
    rw [← hnn]
    unfold maxLen at hcap
    have HC := Lib.hid hc
    have HN := Lib.hid hnn
    clear hc hv hnn
    go_enter Try.func84, Try.ntmps84
    go_wp2
    go_loop [8] (fun i => ∃ k : Nat, k ≤ n ∧ i = .int .i64 (k : Int) ∧ ∀ c ∈ l.take k, ¬ (c < 0)) (fun i => n - (intOf i).toNat)
    case atStart => exact ⟨0, by omega, rfl, by simp⟩
    case round =>
      obtain ⟨k, hk, rfl, hno⟩ := hrel
      have HNO := Lib.hid hno
      clear hno
      by_cases hlt : k < n
      · have c1 := HC.out k hlt
        obtain ⟨s, hs⟩ : ∃ s, s = l.getD k 0 := ⟨_, rfl⟩
        rw [← hs] at c1
        have HS := Lib.hid hs
        clear hs
        have hkl : k < l.length := by rw [← HN.out]; exact hlt
        have HK := Lib.hid hkl
        clear hkl
        have cc := noRow_any w s
        obtain ⟨q, hq⟩ : ∃ q : Bool, q = (decide (s < 0)) := ⟨_, rfl⟩
        rw [← hq] at cc
        have CC := Lib.hid cc
        have HQ := Lib.hid hq
        clear cc hq
        cases q with
        | true =>
          go_wp2_with (go_at_call 67; refine CC.out.mono ?_; rintro e w' ⟨rfl, rfl⟩)
          go_ret
          refine IdxIs.mk _ ⟨fun _ => ⟨s, ?_, ?_⟩, fun _ => by omega⟩
          · rw [HS.out]
            simp only [List.getD, List.getElem?_eq_getElem HK.out, Option.getD_some]
            exact List.getElem_mem HK.out
          · have := HQ.out
            simp at this
            exact this
        | false =>
          go_wp2_with (go_at_call 67; refine CC.out.mono ?_; rintro e w' ⟨rfl, rfl⟩)
          go_round
          case rel =>
            refine ⟨k + 1, by omega, by go_num, ?_⟩
            rw [take_nextG (d := 0) HK.out, ← HS.out]
            intro x hx
            simp only [List.mem_append, List.mem_singleton] at hx
            rcases hx with hx | rfl
            · have := HNO.out x hx
              omega
            · have := HQ.out
              simp at this
              omega
          case measure => simp [intOf]; omega
      · obtain rfl : k = n := by omega
        go_wp2
        go_ret
        have e : l.take k = l := List.take_of_length_le (by rw [← HN.out]; exact Nat.le_refl _)
        have h1 := HNO.out
        rw [e] at h1
        exact IdxIs.mk (-1) ⟨fun h => absurd h (by omega), fun ⟨c, hc, hp⟩ => by have := h1 c hc; omega⟩
theorem conA_any (w : World) (ok : Nat → Prop) (v : Value) (l : List Int) (hv : RI w ok v l) :
    Calls Try.prog 68 #[v, .func (.func 67) #[] #[]] w (Ans (∃ c ∈ l, c < 0) w) := by
  have HV := Lib.hid hv
  clear hv
  go_enter Try.func68, Try.ntmps68
  go_wp2_with (go_at_call 84; refine (idxA_any w _ _ _ HV.out).mono ?_; rintro e w' ⟨i, rfl, hi, rfl⟩; have HI := Lib.hid hi; clear hi)
  go_ret
  exact ans_is (by rw [← HI.out]; simp)
/-- The first kid of which a question is true, or none. -/
theorem idxB_any (w : World) (ok : Nat → Prop) (v : Value) (l : List Int) (n0 : Int) (B : Nat) (hB : w.cell? ⟨B, 0, none⟩ = some (.int .i64 n0)) (hv : RI w ok v l) :
    Calls Try.prog 84 #[v, .func (.func 69) #[] #[.pointer (some ⟨B, 0, none⟩)]] w (IdxIs (∃ c ∈ l, c < 0 ∨ n0 ≤ c) w) := by
  by_cases h0 : l.length = 0
  · obtain ⟨rfl, ao, cap, rfl, _⟩ := ints_zero hv h0
    go_enter Try.func84, Try.ntmps84
    go_wp2
    go_rounds 1
    go_ret
    exact IdxIs.mk (-1) (by simp)
  · obtain ⟨b, o, cap, rfl, hn, hcap, hb, _, hc⟩ := ints_of hv (by omega)
    obtain ⟨n, hnn⟩ : ∃ n, n = l.length := ⟨_, rfl⟩
    rw [← hnn] at h0 hn hc
    rw [← hnn]
    unfold maxLen at hcap
    have HC := Lib.hid hc
    have HN := Lib.hid hnn
    clear hc hv hnn
    go_enter Try.func84, Try.ntmps84
    go_wp2
    go_loop [8] (fun i => ∃ k : Nat, k ≤ n ∧ i = .int .i64 (k : Int) ∧ ∀ c ∈ l.take k, ¬ (c < 0 ∨ n0 ≤ c)) (fun i => n - (intOf i).toNat)
    case atStart => exact ⟨0, by omega, rfl, by simp⟩
    case round =>
      obtain ⟨k, hk, rfl, hno⟩ := hrel
      have HNO := Lib.hid hno
      clear hno
      by_cases hlt : k < n
      · have c1 := HC.out k hlt
        obtain ⟨s, hs⟩ : ∃ s, s = l.getD k 0 := ⟨_, rfl⟩
        rw [← hs] at c1
        have HS := Lib.hid hs
        clear hs
        have hkl : k < l.length := by rw [← HN.out]; exact hlt
        have HK := Lib.hid hkl
        clear hkl
        have cc := noPage_any w s n0 B hB
        obtain ⟨q, hq⟩ : ∃ q : Bool, q = (decide (s < 0) || decide (n0 ≤ s)) := ⟨_, rfl⟩
        rw [← hq] at cc
        have CC := Lib.hid cc
        have HQ := Lib.hid hq
        clear cc hq
        cases q with
        | true =>
          go_wp2_with (go_at_call 69; refine CC.out.mono ?_; rintro e w' ⟨rfl, rfl⟩)
          go_ret
          refine IdxIs.mk _ ⟨fun _ => ⟨s, ?_, ?_⟩, fun _ => by omega⟩
          · rw [HS.out]
            simp only [List.getD, List.getElem?_eq_getElem HK.out, Option.getD_some]
            exact List.getElem_mem HK.out
          · have := HQ.out
            simp at this
            exact this
        | false =>
          go_wp2_with (go_at_call 69; refine CC.out.mono ?_; rintro e w' ⟨rfl, rfl⟩)
          go_round
          case rel =>
            refine ⟨k + 1, by omega, by go_num, ?_⟩
            rw [take_nextG (d := 0) HK.out, ← HS.out]
            intro x hx
            simp only [List.mem_append, List.mem_singleton] at hx
            rcases hx with hx | rfl
            · have := HNO.out x hx
              omega
            · have := HQ.out
              simp at this
              omega
          case measure => simp [intOf]; omega
      · obtain rfl : k = n := by omega
        go_wp2
        go_ret
        have e : l.take k = l := List.take_of_length_le (by rw [← HN.out]; exact Nat.le_refl _)
        have h1 := HNO.out
        rw [e] at h1
        exact IdxIs.mk (-1) ⟨fun h => absurd h (by omega), fun ⟨c, hc, hp⟩ => by have := h1 c hc; omega⟩
theorem conB_any (w : World) (ok : Nat → Prop) (v : Value) (l : List Int) (n0 : Int) (B : Nat) (hB : w.cell? ⟨B, 0, none⟩ = some (.int .i64 n0)) (hv : RI w ok v l) :
    Calls Try.prog 68 #[v, .func (.func 69) #[] #[.pointer (some ⟨B, 0, none⟩)]] w (Ans (∃ c ∈ l, c < 0 ∨ n0 ≤ c) w) := by
  have HV := Lib.hid hv
  clear hv
  go_enter Try.func68, Try.ntmps68
  go_wp2_with (go_at_call 84; refine (idxB_any w _ _ _ n0 B hB HV.out).mono ?_; rintro e w' ⟨i, rfl, hi, rfl⟩; have HI := Lib.hid hi; clear hi)
  go_ret
  exact ans_is (by rw [← HI.out]; simp)
def KidsOk (leaf : Bool) (ks : List Key) (ds : List Int) (n : Int) : Prop :=
  ds.length = (if leaf then ks.length else ks.length + 1) ∧ (leaf = false → 1 ≤ ks.length) ∧ ∀ c ∈ ds, 0 ≤ c ∧ (leaf = false → c < n)
/-- The same, and what was there stands. -/
def AnsB (P : Prop) (w : World) (e : Ending) (w' : World) : Prop := ∃ b : Bool, e = .returned (.bool b) ∧ (b = true ↔ P) ∧ Below w.heap.size w w'
theorem ansb {P : Prop} {w w' : World} {b : Bool} (h : b = true ↔ P) (hb : Below w.heap.size w w') : AnsB P w (.returned (.bool b)) w' := ⟨b, rfl, h, hb⟩
theorem kidsMay_any (w : World) (ok : Nat → Prop) (leaf : Bool) (k d h : Value) (nx n : Int) (ks : List Key) (ds : List Int) (hk : RK w ok k ks) (hd : RI w ok d ds) (hkl : ks.length ≤ 1000000) (hdl : ds.length ≤ 4611686018427387904) :
    Calls Try.prog 44 #[.agg #[.bool leaf, k, d, h, .int .i64 nx], .int .i64 n] w (AnsB (KidsOk leaf ks ds n) w) := by
  obtain ⟨vs, hk1, _⟩ := hk
  obtain ⟨_, ao, cap, rfl, _, _, _, _⟩ := hk1
  have hd1 := hd.1
  obtain ⟨_, ao', cap', rfl, _, _, _, _⟩ := hd1
  have HD := Lib.hid hd
  clear hd
  obtain ⟨p, hp⟩ : ∃ p, p = ks.length := ⟨_, rfl⟩
  obtain ⟨q, hq⟩ : ∃ q, q = ds.length := ⟨_, rfl⟩
  rw [← hp] at hkl ⊢
  rw [← hq] at hdl HD ⊢
  have HP := Lib.hid hp
  have HQ := Lib.hid hq
  clear hp hq
  cases leaf with
  | true =>
    by_cases hqp : q = p
    · subst hqp
      go_enter Try.func44, Try.ntmps44
      go_wp2_with (go_at_call 68; refine (conA_any _ _ _ _ (HD.out.below (by go_grown))).mono ?_; rintro e w' ⟨b, rfl, hb, rfl⟩; have HB := Lib.hid hb; clear hb)
      go_ret
      refine ansb ?_ (by go_grown)
      have hb := HB.out
      cases b with
      | true =>
        simp only [true_iff] at hb
        obtain ⟨c, hc, hlt⟩ := hb
        simp only [Bool.not_true, Bool.false_eq_true, false_iff]
        intro h
        have := (h.2.2 c hc).1
        omega
      | false =>
        simp only [Bool.false_eq_true, false_iff] at hb
        simp only [Bool.not_false, true_iff]
        exact ⟨by rw [← HQ.out, ← HP.out]; rfl, by simp, fun c hc => ⟨Int.not_lt.1 fun g => hb ⟨c, hc, g⟩, by simp⟩⟩
    · have hne : decide ((q : Int) = (p : Int)) = false := by simp; omega
      go_enter Try.func44, Try.ntmps44
      go_wp2
      go_ret
      refine ansb ?_ (by go_grown)
      simp only [Bool.false_eq_true, false_iff]
      intro h
      have := h.1
      rw [← HQ.out, ← HP.out] at this
      simp at this
      omega
  | false =>
    by_cases hp0 : p = 0
    · subst hp0
      go_enter Try.func44, Try.ntmps44
      go_wp2
      go_ret
      refine ansb ?_ (by go_grown)
      simp only [Bool.false_eq_true, false_iff]
      intro h
      have := h.2.1 rfl
      rw [← HP.out] at this
      omega
    · have hpp : 0 < p := by omega
      by_cases hqp : q = p + 1
      · subst hqp
        go_enter Try.func44, Try.ntmps44
        go_wp2_with (go_at_call 68; refine (conB_any _ _ _ _ n (w.heap.size + 1) (by simp) (HD.out.below (by go_grown))).mono ?_; rintro e w' ⟨b, rfl, hb, rfl⟩; have HB := Lib.hid hb; clear hb)
        go_ret
        refine ansb ?_ (by go_grown)
        have hb := HB.out
        cases b with
        | true =>
          simp only [true_iff] at hb
          obtain ⟨c, hc, hlt⟩ := hb
          simp only [Bool.not_true, Bool.false_eq_true, false_iff]
          intro h
          have := h.2.2 c hc
          have h2 := this.2 rfl
          omega
        | false =>
          simp only [Bool.false_eq_true, false_iff] at hb
          simp only [Bool.not_false, true_iff]
          exact ⟨by rw [← HQ.out, ← HP.out]; rfl, fun _ => by rw [← HP.out]; omega, fun c hc => ⟨Int.not_lt.1 fun g => hb ⟨c, hc, .inl g⟩, fun _ => Int.not_le.1 fun g => hb ⟨c, hc, .inr g⟩⟩⟩
      · have hne : decide ((q : Int) = (p : Int) + 1) = false := by simp; omega
        go_enter Try.func44, Try.ntmps44
        go_wp2
        go_ret
        refine ansb ?_ (by go_grown)
        simp only [Bool.false_eq_true, false_iff]
        intro h
        have := h.1
        rw [← HQ.out, ← HP.out] at this
        simp at this
        omega
end Go.Proofs.Ythoijpaoegojfaa
