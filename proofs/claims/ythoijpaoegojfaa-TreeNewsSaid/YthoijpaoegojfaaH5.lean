/- A page where it stands: within its bounds? -/
import Derived.Test.YthoijpaoegojfaaH4
namespace Go.Proofs.Ythoijpaoegojfaa
open Go.ChangeShapes Go.WideShapes Go.ChangeAt Go.RowKit
set_option linter.unusedVariables false
set_option linter.unusedSimpArgs false
set_option maxHeartbeats 1000000
theorem cmp_le {a b : Key} : cmpK a b ≤ 0 ↔ kl b a = false := by
  have := cmpK_gt a b
  rcases h : kl b a with _ | _
  · rw [h] at this; simp at this; simp [this]
  · rw [h] at this; simp at this; simp; exact this
theorem within_any (w : World) (o1 o2 o3 : Nat → Prop) (B : Nat) (u v x : Value) (lo hi k : Key) (h1 : w.cell? ⟨B, 1, none⟩ = some u) (h2 : w.cell? ⟨B, 2, none⟩ = some v) (hu : RB w o1 u lo) (hv : RB w o2 v hi) (hx : RB w o3 x k) :
    Calls Try.prog 92 #[x, .pointer (some ⟨B, 0, none⟩)] w (Ans (inB lo hi k) w) := by
  have hv1 := hv.1
  obtain ⟨_, ao, cap, rfl, hm1, hm2, _, _⟩ := hv1
  have HU := Lib.hid hu
  have HV := Lib.hid hv
  have HX := Lib.hid hx
  obtain ⟨m, hm⟩ : ∃ m, m = hi.length := ⟨_, rfl⟩
  rw [← hm] at h2 HV hm1
  unfold maxLen at hm2
  have HM := Lib.hid hm
  clear hu hv hx hm
  have hin := @cmp_le lo k
  have hin2 := @cmpK_lt k hi
  have hrl := cmpK_rng lo k
  have HI := Lib.hid hin
  have HI2 := Lib.hid hin2
  clear hin hin2
  by_cases c1 : cmpK lo k ≤ 0
  · have C1 := Lib.hid (HI.out.1 c1)
    rcases Nat.eq_zero_or_pos m with h0 | h0
    · subst h0
      go_enter Try.func92, Try.ntmps92
      go_wp2_with (go_at_call 56; ((with_reducible refine (cmp_any _ _ _ _ _ HU.out.rd HX.out.rd).mono ?_); rintro e w' ⟨rfl, rfl⟩))
      go_ret
      exact ans_yes ⟨C1.out, .inl (List.eq_nil_of_length_eq_zero HM.out.symm)⟩
    · have HV' : Hid (Rd w 1 hi.length (.slice ao m cap) (bc hi)) := by rw [← HM.out]; have := HV.out.1; rw [← HM.out] at this; exact this
      go_enter Try.func92, Try.ntmps92
      go_wp2_with (first | (go_at_call 56; ((with_reducible refine (cmp_any _ _ _ _ _ HU.out.rd HX.out.rd).mono ?_); rintro e w' ⟨rfl, rfl⟩)) | (go_at_call 56; ((with_reducible refine (cmp_any _ _ _ _ _ HX.out.rd HV'.out).mono ?_); rintro e w' ⟨rfl, rfl⟩)))
      go_ret
      refine ans_is ?_
      simp only [decide_eq_true_eq]
      rw [HI2.out]
      refine ⟨fun h => ⟨C1.out, .inr h⟩, fun h => ?_⟩
      rcases h.2 with g | g
      · rw [g] at HM; have := HM.out; simp at this; omega
      · exact g
  · have c1' : 0 < cmpK lo k := by omega
    have C1 : Hid (¬ inB lo hi k) := fun h => c1 (HI.out.2 h.1)
    clear c1 hrl
    go_enter Try.func92, Try.ntmps92
    go_wp2_with (go_at_call 56; ((with_reducible refine (cmp_any _ _ _ _ _ HU.out.rd HX.out.rd).mono ?_); rintro e w' ⟨rfl, rfl⟩))
    go_ret
    exact ans_no C1.out
/-- A slice of keys, of none too: where it lies is known where there is one. -/
theorem keysF {w : World} {ok : Nat → Prop} {v : Value} {ks : List Key} (h : RK w ok v ks) :
    ∃ ao cap, ∃ f : Nat → Value, v = .slice ao ks.length cap ∧ ks.length ≤ cap ∧ cap ≤ maxLen ∧ ∀ i, i < ks.length → ∃ b o, ao = some ⟨b, o, none⟩ ∧ b < w.heap.size ∧ ok b ∧ w.cell? ⟨b, o + i, none⟩ = some (f i) ∧ RB w ok (f i) (ks.getD i []) := by
  rcases Nat.eq_zero_or_pos ks.length with h0 | h0
  · obtain ⟨vs, hk1, _⟩ := h
    obtain ⟨_, ao, cap, rfl, h3, h4, _, _⟩ := hk1
    exact ⟨ao, cap, fun _ => undef, rfl, h3, h4, fun i hi => by omega⟩
  · obtain ⟨b, o, cap, f, rfl, h1, h2, h3, h4, h5⟩ := keys_of h h0
    exact ⟨_, cap, f, rfl, h1, h2, fun i hi => ⟨b, o, rfl, h3, h4, (h5 i hi).1, (h5 i hi).2⟩⟩
theorem ans_eq {P Q : Prop} {w w' : World} {e : Ending} (h : Ans P w e w') (hp : P ↔ Q) : Ans Q w e w' := by
  obtain ⟨b, h1, h2, h3⟩ := h
  exact ⟨b, h1, h2.trans hp, h3⟩
/-- The same, and the world behind it is this one. -/
def AnsX (P : Prop) (W : World) (e : Ending) (w' : World) : Prop := ∃ b : Bool, e = .returned (.bool b) ∧ (b = true ↔ P) ∧ w' = W
theorem ansx {P : Prop} {W w' : World} {b : Bool} (h : b = true ↔ P) (hw : w' = W) : AnsX P W (.returned (.bool b)) w' := ⟨b, rfl, h, hw⟩
theorem holds_x (w : World) (o1 o2 o3 : Nat → Prop) (pg nx : Int) (leaf : Bool) (u v kk d h : Value) (lo hi hg : Key) (ks : List Key) (hu : RB w o1 u lo) (hv : RB w o2 v hi) (hk : RK w o3 kk ks) (hh : RB w o3 h hg) :
    Calls Try.prog 86 #[.agg #[.int .i64 pg, u, v], .agg #[.bool leaf, kk, d, h, .int .i64 nx]] w (AnsX ((∀ k ∈ ks, inB lo hi k) ∧ hg = hi) ((w.alloc (.cells #[.int .i64 pg, u, v] 92)).alloc (.cells #[.bool leaf, kk, d, h, .int .i64 nx] 63))) := by
  have HU := Lib.hid hu
  have HV := Lib.hid hv
  have HH := Lib.hid hh
  have hlt : hg = hi ↔ decide (hg = hi) = true := by simp
  have HE := Lib.hid hlt
  clear hu hv hh hlt
  obtain ⟨ao, cap, f, rfl, hn, hcap, hc⟩ := keysF hk
  obtain ⟨n, hnn⟩ : ∃ n, n = ks.length := ⟨_, rfl⟩
  rw [← hnn] at hn hc
  rw [← hnn]
  unfold maxLen at hcap
  have HC := Lib.hid hc
  have HN := Lib.hid hnn
  clear hc hk hnn
  go_enter Try.func86, Try.ntmps86
  go_wp2
  obtain ⟨W, hW⟩ : ∃ W : World, W = (w.alloc (.cells #[.int .i64 pg, u, v] 92)).alloc (.cells #[.bool leaf, .slice ao n cap, d, h, .int .i64 nx] 63) := ⟨_, rfl⟩
  have hBW : Below w.heap.size w W := by rw [hW]; go_grown
  have e1 : W.cell? ⟨w.heap.size, 1, none⟩ = some u := by rw [hW]; simp
  have e2 : W.cell? ⟨w.heap.size, 2, none⟩ = some v := by rw [hW]; simp
  have e3 : W.cell? ⟨w.heap.size + 1, 3, none⟩ = some h := by rw [hW]; simp
  have e4 : W.cell? ⟨w.heap.size + 1, 1, none⟩ = some (.slice ao n cap) := by rw [hW]; simp
  rw [← hW]
  have BW := Lib.hid hBW
  have HC' : Hid (∀ i, i < n → ∃ b o, ao = some ⟨b, o, none⟩ ∧ W.cell? ⟨b, o + i, none⟩ = some (f i) ∧ RB W o3 (f i) (ks.getD i [])) := fun i hi => by
    obtain ⟨b, o, g0, hb, _, g1, g2⟩ := HC.out i hi
    exact ⟨b, o, g0, (BW.out.cell (p := ⟨b, o + i, none⟩) hb).trans g1, g2.below BW.out⟩
  have HW := Lib.hid hW
  clear hBW hW HC
  go_loop [12] (fun i => ∃ k : Nat, k ≤ n ∧ i = .int .i64 (k : Int) ∧ ∀ s ∈ ks.take k, inB lo hi s) (fun i => n - (intOf i).toNat)
  case atStart => exact ⟨0, by omega, rfl, by simp⟩
  case round =>
    obtain ⟨k, hk, rfl, hno⟩ := hrel
    have HNO := Lib.hid hno
    clear hno
    by_cases hlt : k < n
    · obtain ⟨b, o, rfl, c1, c2⟩ := HC'.out k hlt
      obtain ⟨s, hs⟩ : ∃ s, s = ks.getD k [] := ⟨_, rfl⟩
      rw [← hs] at c2
      have HS := Lib.hid hs
      have C2 := Lib.hid c2
      have hkl : k < ks.length := by rw [← HN.out]; exact hlt
      have HK := Lib.hid hkl
      clear c2 hs hkl
      have cc := within_any W o1 o2 o3 w.heap.size u v (f k) lo hi s e1 e2 (HU.out.below BW.out) (HV.out.below BW.out) C2.out
      have CC := Lib.hid cc
      clear cc
      go_wp2_with (go_at_call 92; refine CC.out.mono ?_; rintro e w' ⟨q, rfl, hq, rfl⟩; have HQ := Lib.hid hq; clear hq; cases q)
      · go_ret
        refine ansx ?_ HW.out
        simp only [Bool.false_eq_true, false_iff]
        intro g
        have h1 := g.1 s (by
          rw [HS.out]
          simp only [List.getD, List.getElem?_eq_getElem HK.out, Option.getD_some]
          exact List.getElem_mem HK.out)
        have := HQ.out.2 h1
        cases this
      · go_round
        case rel =>
          refine ⟨k + 1, by omega, by go_num, ?_⟩
          rw [take_nextG (d := []) HK.out, ← HS.out]
          intro x hx
          simp only [List.mem_append, List.mem_singleton] at hx
          rcases hx with hx | rfl
          · exact HNO.out x hx
          · have := HQ.out
            simp at this
            exact this
        case measure => simp [intOf]; omega
    · obtain rfl : k = n := by omega
      have e : ks.take k = ks := List.take_of_length_le (by rw [← HN.out]; exact Nat.le_refl _)
      have h1 := HNO.out
      rw [e] at h1
      have H1 := Lib.hid h1
      clear e h1
      go_wp2_with (go_at_call 57; refine (eql_any _ _ _ _ _ (HH.out.below BW.out).1 (HV.out.below BW.out).1).mono ?_; rintro e w' ⟨rfl, rfl⟩)
      go_ret
      exact ansx ⟨fun h => ⟨H1.out, HE.out.2 h⟩, fun h => HE.out.1 h.2⟩ HW.out
theorem holds_any (w : World) (o1 o2 o3 : Nat → Prop) (pg nx : Int) (leaf : Bool) (u v kk d h : Value) (lo hi hg : Key) (ks : List Key) (hu : RB w o1 u lo) (hv : RB w o2 v hi) (hk : RK w o3 kk ks) (hh : RB w o3 h hg) :
    Calls Try.prog 86 #[.agg #[.int .i64 pg, u, v], .agg #[.bool leaf, kk, d, h, .int .i64 nx]] w (AnsB ((∀ k ∈ ks, inB lo hi k) ∧ hg = hi) w) :=
  (holds_x w o1 o2 o3 pg nx leaf u v kk d h lo hi hg ks hu hv hk hh).mono fun e w' ⟨b, h1, h2, h3⟩ => ⟨b, h1, h2, by rw [h3]; go_grown⟩
end Go.Proofs.Ythoijpaoegojfaa
