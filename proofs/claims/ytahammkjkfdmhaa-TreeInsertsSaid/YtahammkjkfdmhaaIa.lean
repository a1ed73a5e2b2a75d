/- The document's answer on a page by itself: what is refused at once. -/
import Derived.Test.YtahammkjkfdmhaaHs
import Derived.Deep.QuietTactic
import Derived.BigQuiet
namespace Go.Proofs.Ytahammkjkfdmhaa
open Go.ChangeShapes Go.WideShapes Go.ChangeAt Go.RowKit
set_option linter.unusedVariables false
set_option linter.unusedSimpArgs false
set_option maxHeartbeats 2000000
set_option maxRecDepth 100000
theorem Rd.drewN {w : World} {s n : Nat} {v : Value} {xs : List Value} (h : Rd w s n v xs) (m : Nat) : Rd (w.drewN m) s n v xs := h.below (below_drewN _ m)
theorem flip_w {f : FuncId} {args : Array Value} {w : World} {v : Value} (h : Calls Try.prog f args w fun e w' => e = .returned v ∧ w = w') : Calls Try.prog f args w fun e w' => e = .returned v ∧ w' = w := h.mono fun _ _ ⟨h, g⟩ => ⟨h, g.symm⟩
theorem in_is (w : World) (a b c : Int) (q : Bool) (h : (decide (b ≤ a) && decide (a ≤ c)) = q) : Calls Try.prog 51 #[.int .i64 a, .int .i64 b, .int .i64 c] w fun e w' => e = .returned (.bool q) ∧ w = w' := by
  have := in_any w a b c
  rw [h] at this
  exact this
theorem pf_head (w : World) (ok : Nat → Prop) (leaf : Bool) (kv dv hv : Value) (ks : List Key) (ds : List Int) (hg : Key) (nx : Int) (N : Nat) (hN1 : 1 ≤ N) (hN : N ≤ 4000) (hk : RK w ok kv ks) (hd : RI w ok dv ds) (hh : RB w ok hv hg)
    (hno : ¬ (ks.length ≤ 4 ∧ hg.length ≤ 100 ∧ (-1 ≤ nx ∧ nx < N) ∧ (nx = -1 ↔ hg = []))) :
    Calls Try.prog 52 #[.agg #[.bool leaf, kv, dv, hv, .int .i64 nx], .int .i64 (N : Int)] w (AnsB (¬ OkPg ⟨leaf, ks, ds, hg, nx⟩ N) w) := by
  have hP : ¬ OkPg ⟨leaf, ks, ds, hg, nx⟩ N := fun h => hno ⟨h.keys, h.high, h.next, h.last⟩
  have HP := Lib.hid hP
  obtain ⟨ak, ck, ff, rfl, _, k2, _⟩ := keysF hk
  obtain ⟨ad, cd, rfl, _, d2, _⟩ := intsF hd
  obtain ⟨ah, ch, rfl⟩ := hh.sh
  have hm := hh.1.len
  unfold maxLen at hm k2 d2
  have hgl : hg = [] ↔ hg.length = 0 := by cases hg <;> simp
  rw [hgl] at hno
  obtain ⟨K, hK⟩ : ∃ K, K = ks.length := ⟨_, rfl⟩
  obtain ⟨H, hH⟩ : ∃ H, H = hg.length := ⟨_, rfl⟩
  obtain ⟨D, hD⟩ : ∃ D, D = ds.length := ⟨_, rfl⟩
  rw [← hK] at hno
  rw [← hH] at hno hm
  rw [← hK, ← hH, ← hD]
  have hKm : K ≤ 9223372036854775807 := by
    obtain ⟨vs, h1, _⟩ := hk
    have := h1.len
    unfold maxLen at this
    omega
  clear hP hk hd hh hgl hK hH hD k2 d2
  by_cases h1 : K ≤ 4
  · have h1' : ¬ (4 : Int) < (K : Int) := by omega
    by_cases h2 : H ≤ 100
    · have h2' : ¬ (100 : Int) < (H : Int) := by omega
      by_cases h3 : -1 ≤ nx ∧ nx < N
      · have h3' : (decide ((-1 : Int) ≤ nx) && decide (nx ≤ (N : Int) - 1)) = true := by simp; omega
        have h4 : ¬ (nx = -1 ↔ H = 0) := fun h => hno ⟨h1, h2, h3, h⟩
        have hin := fun w => in_is w nx (-1) ((N : Int) - 1) true h3'
        have HIN := Lib.hid hin
        clear hno h3 h3' hin h1 h2
        by_cases h5 : nx = -1
        · have h6 : 0 < H := by
            rcases Nat.eq_zero_or_pos H with h0 | h0
            · exact absurd ⟨fun _ => h0, fun _ => h5⟩ h4
            · exact h0
          subst h5
          have h6' : ((H : Int) == 0) = false := by simp; omega
          clear h4
          go_enter Try.func52, Try.ntmps52
          go_wp2_with (go_at_call 51; refine (HIN.out _).mono ?_; rintro e w' ⟨rfl, rfl⟩)
          go_ret
          exact ansb (by simp [HP.out]) (by go_grown)
        · have h6 : H = 0 := by
            rcases Nat.eq_zero_or_pos H with h0 | h0
            · exact h0
            · exact absurd ⟨fun h => absurd h h5, fun h => by omega⟩ h4
          subst h6
          have h5' : (nx == -1) = false := by simpa using h5
          clear h4 h5
          go_enter Try.func52, Try.ntmps52
          go_wp2_with (go_at_call 51; refine (HIN.out _).mono ?_; rintro e w' ⟨rfl, rfl⟩)
          go_ret
          exact ansb (by simp [HP.out]) (by go_grown)
      · have h3' : (decide ((-1 : Int) ≤ nx) && decide (nx ≤ (N : Int) - 1)) = false := by
          rw [← Bool.not_eq_true]
          simp
          omega
        have hin := fun w => in_is w nx (-1) ((N : Int) - 1) false h3'
        have HIN := Lib.hid hin
        clear hno h3 h3' hin h1 h2
        go_enter Try.func52, Try.ntmps52
        go_wp2_with (go_at_call 51; refine (HIN.out _).mono ?_; rintro e w' ⟨rfl, rfl⟩)
        go_ret
        exact ansb (by simp [HP.out]) (by go_grown)
    · have h2' : (100 : Int) < (H : Int) := by omega
      clear hno h1 h2
      go_enter Try.func52, Try.ntmps52
      go_wp2
      go_ret
      exact ansb (by simp [HP.out]) (by go_grown)
  · have h1' : (4 : Int) < (K : Int) := by omega
    clear hno h1
    go_enter Try.func52, Try.ntmps52
    go_wp2
    go_ret
    exact ansb (by simp [HP.out]) (by go_grown)
end Go.Proofs.Ytahammkjkfdmhaa
/- The document's answer on a page by itself: its keys and kids. -/
namespace Go.Proofs.Ytahammkjkfdmhaa
open Go.ChangeShapes Go.WideShapes Go.ChangeAt Go.RowKit
set_option linter.unusedVariables false
set_option linter.unusedSimpArgs false
set_option maxHeartbeats 2000000
set_option maxRecDepth 100000
theorem pf_main_true (w : World) (ok : Nat → Prop) (kv dv hv : Value) (ks : List Key) (ds : List Int) (hg : Key) (nx : Int) (N : Nat) (hN1 : 1 ≤ N) (hN : N ≤ 4000) (hk : RK w ok kv ks) (hd : RI w ok dv ds) (hh : RB w ok hv hg)
    (h1 : ks.length ≤ 4) (h2 : hg.length ≤ 100) (h3 : -1 ≤ nx ∧ nx < N) (h4 : nx = -1 ↔ hg = []) (hD : ds.length = ks.length) :
    Calls Try.prog 52 #[.agg #[.bool true, kv, dv, hv, .int .i64 nx], .int .i64 (N : Int)] w (AnsB (¬ OkPg ⟨true, ks, ds, hg, nx⟩ N) w) := by
  have hP : OkPg ⟨true, ks, ds, hg, nx⟩ N ↔ ((∀ s ∈ ks, okK s ∧ (hg = [] ∨ kl s hg = true)) ∧ RiseK ks ∧ ∀ c ∈ ds, 0 ≤ c) :=
    ⟨fun h => ⟨h.okk, h.rise, fun c hc => (h.kid c hc).1⟩, fun ⟨a, b, c⟩ => ⟨h1, h2, h3, h4, by simp [hD], by simp, a, b, fun x hx => ⟨c x hx, by simp⟩⟩⟩
  have HP := Lib.hid hP
  obtain ⟨ak, ck, ff, rfl, _, k2, k3⟩ := keysF hk
  obtain ⟨ad, cd, rfl, _, d2, d3⟩ := intsF hd
  obtain ⟨ah, ch, rfl⟩ := hh.sh
  have hm := hh.1.len
  unfold maxLen at hm k2 d2
  have hgl : hg = [] ↔ hg.length = 0 := by cases hg <;> simp
  obtain ⟨K, hK⟩ : ∃ K, K = ks.length := ⟨_, rfl⟩
  obtain ⟨H, hH⟩ : ∃ H, H = hg.length := ⟨_, rfl⟩
  obtain ⟨D, hD'⟩ : ∃ D, D = ds.length := ⟨_, rfl⟩
  rw [hgl] at h4
  rw [← hK] at h1 k3 hD
  rw [← hH] at h2 h4 hm hgl hh
  rw [← hD'] at d3 hD
  rw [← hK, ← hH, ← hD']
  subst D
  have h1' : ¬ (4 : Int) < (K : Int) := by omega
  have h2' : ¬ (100 : Int) < (H : Int) := by omega
  have h3' : (decide ((-1 : Int) ≤ nx) && decide (nx ≤ (N : Int) - 1)) = true := by simp; omega
  have hin := fun w => in_is w nx (-1) ((N : Int) - 1) true h3'
  have HIN := Lib.hid hin
  obtain ⟨z, hz1, hz2⟩ : ∃ z, (nx == -1) = z ∧ ((H : Int) == 0) = z := by
    refine ⟨_, rfl, ?_⟩
    rw [Bool.eq_iff_iff]
    simp only [beq_iff_eq, h4]
    omega
  have HK := Lib.hid hK
  have HD := Lib.hid hD'
  have HGL := Lib.hid hgl
  have HH := Lib.hid hh
  have K3 := Lib.hid k3
  have D3 := Lib.hid d3
  clear hP hk hd hh hgl hK hH hD' k3 d3 h4 h3' hin
  go_enter Try.func52, Try.ntmps52
  go_wp2_with (go_at_call 51; refine (HIN.out _).mono ?_; rintro e w' ⟨rfl, rfl⟩)
  clear hz1 hz2
  obtain ⟨W, hW⟩ : ∃ W : World, W = w.alloc (.cells #[.bool true, .slice ak K ck, .slice ad K cd, .slice ah H ch, .int .i64 nx] 43) := ⟨_, rfl⟩
  have hBW : Below w.heap.size w W := by rw [hW]; go_grown
  have e0 : W.cell? ⟨w.heap.size, 0, none⟩ = some (.bool true) := by rw [hW]; simp
  have e1 : W.cell? ⟨w.heap.size, 1, none⟩ = some (.slice ak K ck) := by rw [hW]; simp
  have e2 : W.cell? ⟨w.heap.size, 2, none⟩ = some (.slice ad K cd) := by rw [hW]; simp
  have e3 : W.cell? ⟨w.heap.size, 3, none⟩ = some (.slice ah H ch) := by rw [hW]; simp
  have hWz : w.heap.size < W.heap.size := by rw [hW]; simp
  rw [← hW]
  have BW := Lib.hid hBW
  clear hW hBW
  go_loopw [6] (fun i wr => ∃ k : Nat, k ≤ K ∧ i = .int .i64 (k : Int) ∧ (∀ s ∈ ks.take k, okK s ∧ (hg = [] ∨ kl s hg = true)) ∧ RiseK (ks.take k) ∧ Below W.heap.size W wr) (fun i _ => K - (intOf i).toNat)
  case atStart => exact ⟨0, by omega, rfl, by simp, by simp, Below.refl _ _⟩
  case round =>
    obtain ⟨k, hk, rfl, hok, hr, hb⟩ := hrel
    have HOK := Lib.hid hok
    have HR := Lib.hid hr
    have HB := Lib.hid hb
    have c0 := cell_below hb e0
    have c1 := cell_below hb e1
    have c2 := cell_below hb e2
    have c3 := cell_below hb e3
    clear hok hr hb
    by_cases hlt : k < K
    · clear c0 c2
      obtain ⟨b, o, rfl, hbl, _, g1, g2⟩ := K3.out k hlt
      obtain ⟨s, hs⟩ : ∃ s, s = ks.getD k [] := ⟨_, rfl⟩
      rw [← hs] at g2
      obtain ⟨sa, sc, es⟩ := g2.sh
      rw [es] at g1 g2
      have hBr : Below w.heap.size w wr := into BW.out HB.out
      have q1 := (hBr.cell (p := ⟨b, o + k, none⟩) hbl).trans g1
      have G2 := Lib.hid (g2.below hBr)
      have HS := Lib.hid hs
      have hkl : k < ks.length := by rw [← HK.out]; exact hlt
      have hmem : Hid (s ∈ ks) := by
        rw [HS.out]
        simp only [List.getD, List.getElem?_eq_getElem hkl, Option.getD_some]
        exact List.getElem_mem hkl
      have HKL := Lib.hid hkl
      obtain ⟨ns, hns⟩ : ∃ ns, ns = s.length := ⟨_, rfl⟩
      rw [← hns] at q1 G2
      have hkm : ∀ m, Calls Try.prog 37 #[.slice sa ns sc] (wr.drewN m) fun e w' => e = .returned (.bool (keyB s)) ∧ wr.drewN m = w' := fun m => keyMay_any _ _ _ (by have := G2.out.1; rw [hns] at this ⊢; exact this.drewN m)
      have hkh : ∀ m, Calls Try.prog 39 #[.slice sa ns sc, .slice ah H ch] (wr.drewN m) fun e w' => e = .returned (.bool (kl s hg)) ∧ wr.drewN m = w' := fun m => bef_any _ _ _ _ _ (by have := G2.out.1; rw [hns] at this ⊢; exact this.drewN m) ((HH.out.below hBr).1.drewN m)
      have i0 : (0 : Int) ≤ (k : Int) := by omega
      have i1 : (k : Int) < (K : Int) := by omega
      have HNS := Lib.hid hns
      have HBR := Lib.hid hBr
      clear g1 g2 es hs hkl hns hBr
      rcases hkb : keyB s with _ | _
      · have KM := Lib.hid hkm
        have HKB := Lib.hid hkb
        rw [hkb] at KM
        clear hkm hkh hkb
        go_wp2_with fail
        go_quiet ((first | (go_at_call 37; exact Calls.quiet_of_same (flip_w (KM.out _))) | (go_at_call 39; exact Calls.quiet_of_same (flip_w (KP.out _))) | (go_at_call 39; exact Calls.quiet_of_same (flip_w (KH.out _)))))
        go_wp2_with fail
        go_ret
        refine ansb ?_ (BW.out.trans (((HB.out.trans ((below_drewN _ _).mono HB.out.size)).mono (by omega))))
        simp only [true_iff, HP.out]
        intro h
        have := (h.1 s hmem.out).1
        rw [← keyB_iff, HKB.out] at this
        cases this
      · have KM := Lib.hid hkm
        have HKB := Lib.hid hkb
        rw [hkb] at KM
        clear hkm hkb
        rcases Nat.eq_zero_or_pos k with hk0 | hk0
        · have hk0' : ¬ (0 : Int) < (k : Int) := by omega
          have hk0i : decide ((0 : Int) < (k : Int)) = false := by simp; omega
          have hk0n : decide (0 < k) = false := by simp; omega
          have HK0 := Lib.hid hk0
          clear hk0
          rcases Nat.eq_zero_or_pos H with hH0 | hH0
          · have HFIN : Hid (hg = [] ∨ kl s hg = true) := .inl (HGL.out.2 hH0)
            have hH0' : ¬ (0 : Int) < (H : Int) := by omega
            have hH0i : decide ((0 : Int) < (H : Int)) = false := by simp; omega
            have hH0n : decide (0 < H) = false := by simp; omega
            clear hkh hH0
            go_wp2_with fail
            go_quiet ((first | (go_at_call 37; exact Calls.quiet_of_same (flip_w (KM.out _))) | (go_at_call 39; exact Calls.quiet_of_same (flip_w (KP.out _))) | (go_at_call 39; exact Calls.quiet_of_same (flip_w (KH.out _)))))
            go_wp2_with fail
            go_roundw
            case rel =>
              refine ⟨k + 1, by omega, by go_num, ?_, ?_, HB.out.trans ((below_drewN _ _).mono HB.out.size)⟩
              · rw [take_nextG (d := []) HKL.out, ← HS.out]
                intro x hx
                simp only [List.mem_append, List.mem_singleton] at hx
                rcases hx with hx | rfl
                · exact HOK.out x hx
                · exact ⟨(keyB_iff _).1 HKB.out, HFIN.out⟩
              · rw [take_nextG (d := []) HKL.out, ← HS.out]
                refine rise_snoc HR.out fun m hm => ?_
                rw [List.length_take] at hm
                have := HK0.out
                omega
            case measure => simp [intOf]; omega
          · have hH0' : (0 : Int) < (H : Int) := by omega
            rcases hlh : kl s hg with _ | _
            · have KH := Lib.hid hkh
              have HLH := Lib.hid hlh
              rw [hlh] at KH
              clear hkh hlh
              go_wp2_with fail
              go_quiet ((first | (go_at_call 37; exact Calls.quiet_of_same (flip_w (KM.out _))) | (go_at_call 39; exact Calls.quiet_of_same (flip_w (KP.out _))) | (go_at_call 39; exact Calls.quiet_of_same (flip_w (KH.out _)))))
              go_wp2_with fail
              go_ret
              refine ansb ?_ (BW.out.trans (((HB.out.trans ((below_drewN _ _).mono HB.out.size)).mono (by omega))))
              simp only [true_iff, HP.out]
              intro h
              have := (h.1 s hmem.out).2
              rw [HLH.out, HGL.out] at this
              rcases this with g | g
              · omega
              · cases g
            · have KH := Lib.hid hkh
              have HFIN : Hid (hg = [] ∨ kl s hg = true) := .inr hlh
              rw [hlh] at KH
              clear hkh hlh
              go_wp2_with fail
              go_quiet ((first | (go_at_call 37; exact Calls.quiet_of_same (flip_w (KM.out _))) | (go_at_call 39; exact Calls.quiet_of_same (flip_w (KP.out _))) | (go_at_call 39; exact Calls.quiet_of_same (flip_w (KH.out _)))))
              go_wp2_with fail
              go_roundw
              case rel =>
                refine ⟨k + 1, by omega, by go_num, ?_, ?_, HB.out.trans ((below_drewN _ _).mono HB.out.size)⟩
                · rw [take_nextG (d := []) HKL.out, ← HS.out]
                  intro x hx
                  simp only [List.mem_append, List.mem_singleton] at hx
                  rcases hx with hx | rfl
                  · exact HOK.out x hx
                  · exact ⟨(keyB_iff _).1 HKB.out, HFIN.out⟩
                · rw [take_nextG (d := []) HKL.out, ← HS.out]
                  refine rise_snoc HR.out fun m hm => ?_
                  rw [List.length_take] at hm
                  have := HK0.out
                  omega
              case measure => simp [intOf]; omega
        · obtain ⟨j, hj⟩ : ∃ j, k = j + 1 := ⟨k - 1, by omega⟩
          obtain ⟨b', o', hbo, hbl', _, g1', g2'⟩ := K3.out j (by omega)
          cases hbo
          obtain ⟨s', hs'⟩ : ∃ s', s' = ks.getD j [] := ⟨_, rfl⟩
          rw [← hs'] at g2'
          obtain ⟨sa', sc', es'⟩ := g2'.sh
          rw [es'] at g1' g2'
          have q2 := (HBR.out.cell (p := ⟨b, o + j, none⟩) hbl').trans g1'
          have G2' := Lib.hid (g2'.below HBR.out)
          have HS' := Lib.hid hs'
          obtain ⟨ns', hns'⟩ : ∃ ns', ns' = s'.length := ⟨_, rfl⟩
          rw [← hns'] at q2 G2'
          have hkp : ∀ m, Calls Try.prog 39 #[.slice sa' ns' sc', .slice sa ns sc] (wr.drewN m) fun e w' => e = .returned (.bool (kl s' s)) ∧ wr.drewN m = w' := fun m => bef_any _ _ _ _ _ (by have := G2'.out.1; rw [hns'] at this ⊢; exact this.drewN m) (by have := G2.out.1; rw [HNS.out] at this ⊢; exact this.drewN m)
          have hw1 : IntKind.i64.wrap ((k : Int) - 1) = (j : Int) := by subst hj; exact (IntWalk.i64_in _ (by omega)).trans (by omega)
          have hw2 : (k : Int) - 1 = (j : Int) := by omega
          have j0 : (0 : Int) ≤ (j : Int) := by omega
          have j1 : (j : Int) < (K : Int) := by omega
          have k0 : (0 : Int) < (k : Int) := by omega
          clear g1' g2' es' hns' hs'
          rcases hlb : kl s' s with _ | _
          · have KP := Lib.hid hkp
            have HLB := Lib.hid hlb
            rw [hlb] at KP
            have HJ := Lib.hid hj
            clear hkp hkh hlb hj
            go_wp2_with fail
            go_quiet ((first | (go_at_call 37; exact Calls.quiet_of_same (flip_w (KM.out _))) | (go_at_call 39; exact Calls.quiet_of_same (flip_w (KP.out _))) | (go_at_call 39; exact Calls.quiet_of_same (flip_w (KH.out _)))))
            go_wp2_with fail
            go_ret
            refine ansb ?_ (BW.out.trans (((HB.out.trans ((below_drewN _ _).mono HB.out.size)).mono (by omega))))
            simp only [true_iff, HP.out]
            intro h
            have := rise_at h.2.1 (i := j) (j := k) (by have := HJ.out; omega) HKL.out
            rw [← HS'.out, ← HS.out, HLB.out] at this
            cases this
          · have KP := Lib.hid hkp
            have HLB := Lib.hid hlb
            rw [hlb] at KP
            have HJ := Lib.hid hj
            clear hkp hlb hj
            rcases Nat.eq_zero_or_pos H with hH0 | hH0
            · have HFIN : Hid (hg = [] ∨ kl s hg = true) := .inl (HGL.out.2 hH0)
              have hH0' : ¬ (0 : Int) < (H : Int) := by omega
              have hH0i : decide ((0 : Int) < (H : Int)) = false := by simp; omega
              have hH0n : decide (0 < H) = false := by simp; omega
              clear hkh hH0
              go_wp2_with fail
              go_quiet ((first | (go_at_call 37; exact Calls.quiet_of_same (flip_w (KM.out _))) | (go_at_call 39; exact Calls.quiet_of_same (flip_w (KP.out _))) | (go_at_call 39; exact Calls.quiet_of_same (flip_w (KH.out _)))))
              go_wp2_with fail
              go_roundw
              case rel =>
                refine ⟨k + 1, by omega, by go_num, ?_, ?_, HB.out.trans ((below_drewN _ _).mono HB.out.size)⟩
                · rw [take_nextG (d := []) HKL.out, ← HS.out]
                  intro x hx
                  simp only [List.mem_append, List.mem_singleton] at hx
                  rcases hx with hx | rfl
                  · exact HOK.out x hx
                  · exact ⟨(keyB_iff _).1 HKB.out, HFIN.out⟩
                · rw [take_nextG (d := []) HKL.out, ← HS.out]
                  refine rise_snoc HR.out fun m hm => ?_
                  have hm' : j = m := by have := HJ.out; have := HKL.out; rw [List.length_take] at hm; omega
                  have e : (ks.take k).getD m [] = ks.getD j [] := by
                    rw [hm']
                    have : m < k := by have := HJ.out; omega
                    simp only [List.getD, List.getElem?_take, if_pos this]
                  rw [e, ← HS'.out]
                  exact HLB.out
              case measure => simp [intOf]; omega
            · have hH0' : (0 : Int) < (H : Int) := by omega
              rcases hlh : kl s hg with _ | _
              · have KH := Lib.hid hkh
                have HLH := Lib.hid hlh
                rw [hlh] at KH
                clear hkh hlh
                go_wp2_with fail
                go_quiet ((first | (go_at_call 37; exact Calls.quiet_of_same (flip_w (KM.out _))) | (go_at_call 39; exact Calls.quiet_of_same (flip_w (KP.out _))) | (go_at_call 39; exact Calls.quiet_of_same (flip_w (KH.out _)))))
                go_wp2_with fail
                go_ret
                refine ansb ?_ (BW.out.trans (((HB.out.trans ((below_drewN _ _).mono HB.out.size)).mono (by omega))))
                simp only [true_iff, HP.out]
                intro h
                have := (h.1 s hmem.out).2
                rw [HLH.out, HGL.out] at this
                rcases this with g | g
                · omega
                · cases g
              · have KH := Lib.hid hkh
                have HFIN : Hid (hg = [] ∨ kl s hg = true) := .inr hlh
                rw [hlh] at KH
                clear hkh hlh
                go_wp2_with fail
                go_quiet ((first | (go_at_call 37; exact Calls.quiet_of_same (flip_w (KM.out _))) | (go_at_call 39; exact Calls.quiet_of_same (flip_w (KP.out _))) | (go_at_call 39; exact Calls.quiet_of_same (flip_w (KH.out _)))))
                go_wp2_with fail
                go_roundw
                case rel =>
                  refine ⟨k + 1, by omega, by go_num, ?_, ?_, HB.out.trans ((below_drewN _ _).mono HB.out.size)⟩
                  · rw [take_nextG (d := []) HKL.out, ← HS.out]
                    intro x hx
                    simp only [List.mem_append, List.mem_singleton] at hx
                    rcases hx with hx | rfl
                    · exact HOK.out x hx
                    · exact ⟨(keyB_iff _).1 HKB.out, HFIN.out⟩
                  · rw [take_nextG (d := []) HKL.out, ← HS.out]
                    refine rise_snoc HR.out fun m hm => ?_
                    have hm' : j = m := by have := HJ.out; have := HKL.out; rw [List.length_take] at hm; omega
                    have e : (ks.take k).getD m [] = ks.getD j [] := by
                      rw [hm']
                      have : m < k := by have := HJ.out; omega
                      simp only [List.getD, List.getElem?_take, if_pos this]
                    rw [e, ← HS'.out]
                    exact HLB.out
                case measure => simp [intOf]; omega
    · obtain rfl : K = k := by omega
      have eK : ks.take K = ks := List.take_of_length_le (by rw [← HK.out]; exact Nat.le_refl _)
      have HOK' : Hid (∀ s ∈ ks, okK s ∧ (hg = [] ∨ kl s hg = true)) := by have := HOK.out; rw [eK] at this; exact this
      have HR' : Hid (RiseK ks) := by have := HR.out; rw [eK] at this; exact this
      clear eK
      go_wp2
      obtain ⟨wo, rfl⟩ : ∃ wo : World, wo = wr := ⟨_, rfl⟩
      have HB0 := HB
      go_loopw [7] (fun i wr => ∃ q : Nat, q ≤ K ∧ i = .int .i64 (q : Int) ∧ (∀ c ∈ ds.take q, 0 ≤ c) ∧ Below wo.heap.size wo wr) (fun i _ => K - (intOf i).toNat)
      case atStart => exact ⟨0, by omega, rfl, by simp, Below.refl _ _⟩
      case round =>
        obtain ⟨q, hq, rfl, hkd, hb⟩ := hrel
        have HKD := Lib.hid hkd
        have HB := Lib.hid hb
        have f0 := cell_below hb c0
        have f2 := cell_below hb c2
        clear hkd hb
        by_cases hlt2 : q < K
        · obtain ⟨b, o, rfl, hbl, _, g1⟩ := D3.out q hlt2
          obtain ⟨c, hc⟩ : ∃ c, c = ds.getD q 0 := ⟨_, rfl⟩
          rw [← hc] at g1
          have hBr : Below w.heap.size w wr := into (into BW.out HB0.out) HB.out
          have q1 := (hBr.cell (p := ⟨b, o + q, none⟩) hbl).trans g1
          have HC := Lib.hid hc
          have hql : q < ds.length := by rw [← HD.out]; exact hlt2
          have HQL := Lib.hid hql
          have hmem : Hid (c ∈ ds) := by
            rw [HC.out]
            simp only [List.getD, List.getElem?_eq_getElem hql, Option.getD_some]
            exact List.getElem_mem hql
          have q0 : (0 : Int) ≤ (q : Int) := by omega
          have HBR := Lib.hid hBr
          clear g1 hc hql hBr
          by_cases hc0 : c < 0
          · go_wp2
            go_ret
            refine ansb ?_ HBR.out
            simp only [true_iff, HP.out]
            intro h
            have := h.2.2 c hmem.out
            omega
          · go_wp2
            go_roundw
            case rel =>
              refine ⟨q + 1, by omega, by go_num, ?_, HB.out⟩
              rw [take_nextG (d := 0) HQL.out, ← HC.out]
              intro x hx
              simp only [List.mem_append, List.mem_singleton] at hx
              rcases hx with hx | rfl
              · exact HKD.out x hx
              · omega
            case measure => simp [intOf]; omega
        · obtain rfl : K = q := by omega
          go_wp2
          go_ret
          refine ansb ?_ (into (into BW.out HB0.out) HB.out)
          simp only [Bool.false_eq_true, false_iff, Classical.not_not, HP.out]
          have e : ds.take (K) = ds := List.take_of_length_le (by rw [← HD.out]; exact Nat.le_refl _)
          have h9 := HKD.out
          rw [e] at h9
          exact ⟨HOK'.out, HR'.out, h9⟩
theorem pf_main_false (w : World) (ok : Nat → Prop) (kv dv hv : Value) (ks : List Key) (ds : List Int) (hg : Key) (nx : Int) (N : Nat) (hN1 : 1 ≤ N) (hN : N ≤ 4000) (hk : RK w ok kv ks) (hd : RI w ok dv ds) (hh : RB w ok hv hg)
    (h1 : ks.length ≤ 4) (h2 : hg.length ≤ 100) (h3 : -1 ≤ nx ∧ nx < N) (h4 : nx = -1 ↔ hg = []) (hD : ds.length = ks.length + 1) (hK1 : 1 ≤ ks.length) :
    Calls Try.prog 52 #[.agg #[.bool false, kv, dv, hv, .int .i64 nx], .int .i64 (N : Int)] w (AnsB (¬ OkPg ⟨false, ks, ds, hg, nx⟩ N) w) := by
  have hP : OkPg ⟨false, ks, ds, hg, nx⟩ N ↔ ((∀ s ∈ ks, okK s ∧ (hg = [] ∨ kl s hg = true)) ∧ RiseK ks ∧ ∀ c ∈ ds, (0 ≤ c ∧ c < (N : Int))) :=
    ⟨fun h => ⟨h.okk, h.rise, fun c hc => ⟨(h.kid c hc).1, (h.kid c hc).2 rfl⟩⟩, fun ⟨a, b, c⟩ => ⟨h1, h2, h3, h4, by simp [hD], fun _ => hK1, a, b, fun x hx => ⟨(c x hx).1, fun _ => (c x hx).2⟩⟩⟩
  have HP := Lib.hid hP
  obtain ⟨ak, ck, ff, rfl, _, k2, k3⟩ := keysF hk
  obtain ⟨ad, cd, rfl, _, d2, d3⟩ := intsF hd
  obtain ⟨ah, ch, rfl⟩ := hh.sh
  have hm := hh.1.len
  unfold maxLen at hm k2 d2
  have hgl : hg = [] ↔ hg.length = 0 := by cases hg <;> simp
  obtain ⟨K, hK⟩ : ∃ K, K = ks.length := ⟨_, rfl⟩
  obtain ⟨H, hH⟩ : ∃ H, H = hg.length := ⟨_, rfl⟩
  obtain ⟨D, hD'⟩ : ∃ D, D = ds.length := ⟨_, rfl⟩
  rw [hgl] at h4
  rw [← hK] at h1 k3 hD hK1
  rw [← hH] at h2 h4 hm hgl hh
  rw [← hD'] at d3 hD
  rw [← hK, ← hH, ← hD']
  subst D
  have h1' : ¬ (4 : Int) < (K : Int) := by omega
  have h2' : ¬ (100 : Int) < (H : Int) := by omega
  have hK0 : ((K : Int) == 0) = false := by simp; omega
  have hK00 : (K == 0) = false := by simp; omega
  have h3' : (decide ((-1 : Int) ≤ nx) && decide (nx ≤ (N : Int) - 1)) = true := by simp; omega
  have hin := fun w => in_is w nx (-1) ((N : Int) - 1) true h3'
  have HIN := Lib.hid hin
  obtain ⟨z, hz1, hz2⟩ : ∃ z, (nx == -1) = z ∧ ((H : Int) == 0) = z := by
    refine ⟨_, rfl, ?_⟩
    rw [Bool.eq_iff_iff]
    simp only [beq_iff_eq, h4]
    omega
  have HK := Lib.hid hK
  have HD := Lib.hid hD'
  have HGL := Lib.hid hgl
  have HH := Lib.hid hh
  have K3 := Lib.hid k3
  have D3 := Lib.hid d3
  clear hP hk hd hh hgl hK hH hD' k3 d3 h4 h3' hin
  go_enter Try.func52, Try.ntmps52
  go_wp2_with (go_at_call 51; refine (HIN.out _).mono ?_; rintro e w' ⟨rfl, rfl⟩)
  clear hz1 hz2
  obtain ⟨W, hW⟩ : ∃ W : World, W = w.alloc (.cells #[.bool false, .slice ak K ck, .slice ad (K + 1) cd, .slice ah H ch, .int .i64 nx] 43) := ⟨_, rfl⟩
  have hBW : Below w.heap.size w W := by rw [hW]; go_grown
  have e0 : W.cell? ⟨w.heap.size, 0, none⟩ = some (.bool false) := by rw [hW]; simp
  have e1 : W.cell? ⟨w.heap.size, 1, none⟩ = some (.slice ak K ck) := by rw [hW]; simp
  have e2 : W.cell? ⟨w.heap.size, 2, none⟩ = some (.slice ad (K + 1) cd) := by rw [hW]; simp
  have e3 : W.cell? ⟨w.heap.size, 3, none⟩ = some (.slice ah H ch) := by rw [hW]; simp
  have hWz : w.heap.size < W.heap.size := by rw [hW]; simp
  rw [← hW]
  have BW := Lib.hid hBW
  clear hW hBW
  go_loopw [6] (fun i wr => ∃ k : Nat, k ≤ K ∧ i = .int .i64 (k : Int) ∧ (∀ s ∈ ks.take k, okK s ∧ (hg = [] ∨ kl s hg = true)) ∧ RiseK (ks.take k) ∧ Below W.heap.size W wr) (fun i _ => K - (intOf i).toNat)
  case atStart => exact ⟨0, by omega, rfl, by simp, by simp, Below.refl _ _⟩
  case round =>
    obtain ⟨k, hk, rfl, hok, hr, hb⟩ := hrel
    have HOK := Lib.hid hok
    have HR := Lib.hid hr
    have HB := Lib.hid hb
    have c0 := cell_below hb e0
    have c1 := cell_below hb e1
    have c2 := cell_below hb e2
    have c3 := cell_below hb e3
    clear hok hr hb
    by_cases hlt : k < K
    · clear c0 c2
      obtain ⟨b, o, rfl, hbl, _, g1, g2⟩ := K3.out k hlt
      obtain ⟨s, hs⟩ : ∃ s, s = ks.getD k [] := ⟨_, rfl⟩
      rw [← hs] at g2
      obtain ⟨sa, sc, es⟩ := g2.sh
      rw [es] at g1 g2
      have hBr : Below w.heap.size w wr := into BW.out HB.out
      have q1 := (hBr.cell (p := ⟨b, o + k, none⟩) hbl).trans g1
      have G2 := Lib.hid (g2.below hBr)
      have HS := Lib.hid hs
      have hkl : k < ks.length := by rw [← HK.out]; exact hlt
      have hmem : Hid (s ∈ ks) := by
        rw [HS.out]
        simp only [List.getD, List.getElem?_eq_getElem hkl, Option.getD_some]
        exact List.getElem_mem hkl
      have HKL := Lib.hid hkl
      obtain ⟨ns, hns⟩ : ∃ ns, ns = s.length := ⟨_, rfl⟩
      rw [← hns] at q1 G2
      have hkm : ∀ m, Calls Try.prog 37 #[.slice sa ns sc] (wr.drewN m) fun e w' => e = .returned (.bool (keyB s)) ∧ wr.drewN m = w' := fun m => keyMay_any _ _ _ (by have := G2.out.1; rw [hns] at this ⊢; exact this.drewN m)
      have hkh : ∀ m, Calls Try.prog 39 #[.slice sa ns sc, .slice ah H ch] (wr.drewN m) fun e w' => e = .returned (.bool (kl s hg)) ∧ wr.drewN m = w' := fun m => bef_any _ _ _ _ _ (by have := G2.out.1; rw [hns] at this ⊢; exact this.drewN m) ((HH.out.below hBr).1.drewN m)
      have i0 : (0 : Int) ≤ (k : Int) := by omega
      have i1 : (k : Int) < (K : Int) := by omega
      have HNS := Lib.hid hns
      have HBR := Lib.hid hBr
      clear g1 g2 es hs hkl hns hBr
      rcases hkb : keyB s with _ | _
      · have KM := Lib.hid hkm
        have HKB := Lib.hid hkb
        rw [hkb] at KM
        clear hkm hkh hkb
        go_wp2_with fail
        go_quiet ((first | (go_at_call 37; exact Calls.quiet_of_same (flip_w (KM.out _))) | (go_at_call 39; exact Calls.quiet_of_same (flip_w (KP.out _))) | (go_at_call 39; exact Calls.quiet_of_same (flip_w (KH.out _)))))
        go_wp2_with fail
        go_ret
        refine ansb ?_ (BW.out.trans (((HB.out.trans ((below_drewN _ _).mono HB.out.size)).mono (by omega))))
        simp only [true_iff, HP.out]
        intro h
        have := (h.1 s hmem.out).1
        rw [← keyB_iff, HKB.out] at this
        cases this
      · have KM := Lib.hid hkm
        have HKB := Lib.hid hkb
        rw [hkb] at KM
        clear hkm hkb
        rcases Nat.eq_zero_or_pos k with hk0 | hk0
        · have hk0' : ¬ (0 : Int) < (k : Int) := by omega
          have hk0i : decide ((0 : Int) < (k : Int)) = false := by simp; omega
          have hk0n : decide (0 < k) = false := by simp; omega
          have HK0 := Lib.hid hk0
          clear hk0
          rcases Nat.eq_zero_or_pos H with hH0 | hH0
          · have HFIN : Hid (hg = [] ∨ kl s hg = true) := .inl (HGL.out.2 hH0)
            have hH0' : ¬ (0 : Int) < (H : Int) := by omega
            have hH0i : decide ((0 : Int) < (H : Int)) = false := by simp; omega
            have hH0n : decide (0 < H) = false := by simp; omega
            clear hkh hH0
            go_wp2_with fail
            go_quiet ((first | (go_at_call 37; exact Calls.quiet_of_same (flip_w (KM.out _))) | (go_at_call 39; exact Calls.quiet_of_same (flip_w (KP.out _))) | (go_at_call 39; exact Calls.quiet_of_same (flip_w (KH.out _)))))
            go_wp2_with fail
            go_roundw
            case rel =>
              refine ⟨k + 1, by omega, by go_num, ?_, ?_, HB.out.trans ((below_drewN _ _).mono HB.out.size)⟩
              · rw [take_nextG (d := []) HKL.out, ← HS.out]
                intro x hx
                simp only [List.mem_append, List.mem_singleton] at hx
                rcases hx with hx | rfl
                · exact HOK.out x hx
                · exact ⟨(keyB_iff _).1 HKB.out, HFIN.out⟩
              · rw [take_nextG (d := []) HKL.out, ← HS.out]
                refine rise_snoc HR.out fun m hm => ?_
                rw [List.length_take] at hm
                have := HK0.out
                omega
            case measure => simp [intOf]; omega
          · have hH0' : (0 : Int) < (H : Int) := by omega
            rcases hlh : kl s hg with _ | _
            · have KH := Lib.hid hkh
              have HLH := Lib.hid hlh
              rw [hlh] at KH
              clear hkh hlh
              go_wp2_with fail
              go_quiet ((first | (go_at_call 37; exact Calls.quiet_of_same (flip_w (KM.out _))) | (go_at_call 39; exact Calls.quiet_of_same (flip_w (KP.out _))) | (go_at_call 39; exact Calls.quiet_of_same (flip_w (KH.out _)))))
              go_wp2_with fail
              go_ret
              refine ansb ?_ (BW.out.trans (((HB.out.trans ((below_drewN _ _).mono HB.out.size)).mono (by omega))))
              simp only [true_iff, HP.out]
              intro h
              have := (h.1 s hmem.out).2
              rw [HLH.out, HGL.out] at this
              rcases this with g | g
              · omega
              · cases g
            · have KH := Lib.hid hkh
              have HFIN : Hid (hg = [] ∨ kl s hg = true) := .inr hlh
              rw [hlh] at KH
              clear hkh hlh
              go_wp2_with fail
              go_quiet ((first | (go_at_call 37; exact Calls.quiet_of_same (flip_w (KM.out _))) | (go_at_call 39; exact Calls.quiet_of_same (flip_w (KP.out _))) | (go_at_call 39; exact Calls.quiet_of_same (flip_w (KH.out _)))))
              go_wp2_with fail
              go_roundw
              case rel =>
                refine ⟨k + 1, by omega, by go_num, ?_, ?_, HB.out.trans ((below_drewN _ _).mono HB.out.size)⟩
                · rw [take_nextG (d := []) HKL.out, ← HS.out]
                  intro x hx
                  simp only [List.mem_append, List.mem_singleton] at hx
                  rcases hx with hx | rfl
                  · exact HOK.out x hx
                  · exact ⟨(keyB_iff _).1 HKB.out, HFIN.out⟩
                · rw [take_nextG (d := []) HKL.out, ← HS.out]
                  refine rise_snoc HR.out fun m hm => ?_
                  rw [List.length_take] at hm
                  have := HK0.out
                  omega
              case measure => simp [intOf]; omega
        · obtain ⟨j, hj⟩ : ∃ j, k = j + 1 := ⟨k - 1, by omega⟩
          obtain ⟨b', o', hbo, hbl', _, g1', g2'⟩ := K3.out j (by omega)
          cases hbo
          obtain ⟨s', hs'⟩ : ∃ s', s' = ks.getD j [] := ⟨_, rfl⟩
          rw [← hs'] at g2'
          obtain ⟨sa', sc', es'⟩ := g2'.sh
          rw [es'] at g1' g2'
          have q2 := (HBR.out.cell (p := ⟨b, o + j, none⟩) hbl').trans g1'
          have G2' := Lib.hid (g2'.below HBR.out)
          have HS' := Lib.hid hs'
          obtain ⟨ns', hns'⟩ : ∃ ns', ns' = s'.length := ⟨_, rfl⟩
          rw [← hns'] at q2 G2'
          have hkp : ∀ m, Calls Try.prog 39 #[.slice sa' ns' sc', .slice sa ns sc] (wr.drewN m) fun e w' => e = .returned (.bool (kl s' s)) ∧ wr.drewN m = w' := fun m => bef_any _ _ _ _ _ (by have := G2'.out.1; rw [hns'] at this ⊢; exact this.drewN m) (by have := G2.out.1; rw [HNS.out] at this ⊢; exact this.drewN m)
          have hw1 : IntKind.i64.wrap ((k : Int) - 1) = (j : Int) := by subst hj; exact (IntWalk.i64_in _ (by omega)).trans (by omega)
          have hw2 : (k : Int) - 1 = (j : Int) := by omega
          have j0 : (0 : Int) ≤ (j : Int) := by omega
          have j1 : (j : Int) < (K : Int) := by omega
          have k0 : (0 : Int) < (k : Int) := by omega
          clear g1' g2' es' hns' hs'
          rcases hlb : kl s' s with _ | _
          · have KP := Lib.hid hkp
            have HLB := Lib.hid hlb
            rw [hlb] at KP
            have HJ := Lib.hid hj
            clear hkp hkh hlb hj
            go_wp2_with fail
            go_quiet ((first | (go_at_call 37; exact Calls.quiet_of_same (flip_w (KM.out _))) | (go_at_call 39; exact Calls.quiet_of_same (flip_w (KP.out _))) | (go_at_call 39; exact Calls.quiet_of_same (flip_w (KH.out _)))))
            go_wp2_with fail
            go_ret
            refine ansb ?_ (BW.out.trans (((HB.out.trans ((below_drewN _ _).mono HB.out.size)).mono (by omega))))
            simp only [true_iff, HP.out]
            intro h
            have := rise_at h.2.1 (i := j) (j := k) (by have := HJ.out; omega) HKL.out
            rw [← HS'.out, ← HS.out, HLB.out] at this
            cases this
          · have KP := Lib.hid hkp
            have HLB := Lib.hid hlb
            rw [hlb] at KP
            have HJ := Lib.hid hj
            clear hkp hlb hj
            rcases Nat.eq_zero_or_pos H with hH0 | hH0
            · have HFIN : Hid (hg = [] ∨ kl s hg = true) := .inl (HGL.out.2 hH0)
              have hH0' : ¬ (0 : Int) < (H : Int) := by omega
              have hH0i : decide ((0 : Int) < (H : Int)) = false := by simp; omega
              have hH0n : decide (0 < H) = false := by simp; omega
              clear hkh hH0
              go_wp2_with fail
              go_quiet ((first | (go_at_call 37; exact Calls.quiet_of_same (flip_w (KM.out _))) | (go_at_call 39; exact Calls.quiet_of_same (flip_w (KP.out _))) | (go_at_call 39; exact Calls.quiet_of_same (flip_w (KH.out _)))))
              go_wp2_with fail
              go_roundw
              case rel =>
                refine ⟨k + 1, by omega, by go_num, ?_, ?_, HB.out.trans ((below_drewN _ _).mono HB.out.size)⟩
                · rw [take_nextG (d := []) HKL.out, ← HS.out]
                  intro x hx
                  simp only [List.mem_append, List.mem_singleton] at hx
                  rcases hx with hx | rfl
                  · exact HOK.out x hx
                  · exact ⟨(keyB_iff _).1 HKB.out, HFIN.out⟩
                · rw [take_nextG (d := []) HKL.out, ← HS.out]
                  refine rise_snoc HR.out fun m hm => ?_
                  have hm' : j = m := by have := HJ.out; have := HKL.out; rw [List.length_take] at hm; omega
                  have e : (ks.take k).getD m [] = ks.getD j [] := by
                    rw [hm']
                    have : m < k := by have := HJ.out; omega
                    simp only [List.getD, List.getElem?_take, if_pos this]
                  rw [e, ← HS'.out]
                  exact HLB.out
              case measure => simp [intOf]; omega
            · have hH0' : (0 : Int) < (H : Int) := by omega
              rcases hlh : kl s hg with _ | _
              · have KH := Lib.hid hkh
                have HLH := Lib.hid hlh
                rw [hlh] at KH
                clear hkh hlh
                go_wp2_with fail
                go_quiet ((first | (go_at_call 37; exact Calls.quiet_of_same (flip_w (KM.out _))) | (go_at_call 39; exact Calls.quiet_of_same (flip_w (KP.out _))) | (go_at_call 39; exact Calls.quiet_of_same (flip_w (KH.out _)))))
                go_wp2_with fail
                go_ret
                refine ansb ?_ (BW.out.trans (((HB.out.trans ((below_drewN _ _).mono HB.out.size)).mono (by omega))))
                simp only [true_iff, HP.out]
                intro h
                have := (h.1 s hmem.out).2
                rw [HLH.out, HGL.out] at this
                rcases this with g | g
                · omega
                · cases g
              · have KH := Lib.hid hkh
                have HFIN : Hid (hg = [] ∨ kl s hg = true) := .inr hlh
                rw [hlh] at KH
                clear hkh hlh
                go_wp2_with fail
                go_quiet ((first | (go_at_call 37; exact Calls.quiet_of_same (flip_w (KM.out _))) | (go_at_call 39; exact Calls.quiet_of_same (flip_w (KP.out _))) | (go_at_call 39; exact Calls.quiet_of_same (flip_w (KH.out _)))))
                go_wp2_with fail
                go_roundw
                case rel =>
                  refine ⟨k + 1, by omega, by go_num, ?_, ?_, HB.out.trans ((below_drewN _ _).mono HB.out.size)⟩
                  · rw [take_nextG (d := []) HKL.out, ← HS.out]
                    intro x hx
                    simp only [List.mem_append, List.mem_singleton] at hx
                    rcases hx with hx | rfl
                    · exact HOK.out x hx
                    · exact ⟨(keyB_iff _).1 HKB.out, HFIN.out⟩
                  · rw [take_nextG (d := []) HKL.out, ← HS.out]
                    refine rise_snoc HR.out fun m hm => ?_
                    have hm' : j = m := by have := HJ.out; have := HKL.out; rw [List.length_take] at hm; omega
                    have e : (ks.take k).getD m [] = ks.getD j [] := by
                      rw [hm']
                      have : m < k := by have := HJ.out; omega
                      simp only [List.getD, List.getElem?_take, if_pos this]
                    rw [e, ← HS'.out]
                    exact HLB.out
                case measure => simp [intOf]; omega
    · obtain rfl : K = k := by omega
      have eK : ks.take K = ks := List.take_of_length_le (by rw [← HK.out]; exact Nat.le_refl _)
      have HOK' : Hid (∀ s ∈ ks, okK s ∧ (hg = [] ∨ kl s hg = true)) := by have := HOK.out; rw [eK] at this; exact this
      have HR' : Hid (RiseK ks) := by have := HR.out; rw [eK] at this; exact this
      clear eK
      go_wp2
      obtain ⟨wo, rfl⟩ : ∃ wo : World, wo = wr := ⟨_, rfl⟩
      have HB0 := HB
      go_loopw [7] (fun i wr => ∃ q : Nat, q ≤ K + 1 ∧ i = .int .i64 (q : Int) ∧ (∀ c ∈ ds.take q, (0 ≤ c ∧ c < (N : Int))) ∧ Below wo.heap.size wo wr) (fun i _ => K + 1 - (intOf i).toNat)
      case atStart => exact ⟨0, by omega, rfl, by simp, Below.refl _ _⟩
      case round =>
        obtain ⟨q, hq, rfl, hkd, hb⟩ := hrel
        have HKD := Lib.hid hkd
        have HB := Lib.hid hb
        have f0 := cell_below hb c0
        have f2 := cell_below hb c2
        clear hkd hb
        by_cases hlt2 : q < K + 1
        · obtain ⟨b, o, rfl, hbl, _, g1⟩ := D3.out q hlt2
          obtain ⟨c, hc⟩ : ∃ c, c = ds.getD q 0 := ⟨_, rfl⟩
          rw [← hc] at g1
          have hBr : Below w.heap.size w wr := into (into BW.out HB0.out) HB.out
          have q1 := (hBr.cell (p := ⟨b, o + q, none⟩) hbl).trans g1
          have HC := Lib.hid hc
          have hql : q < ds.length := by rw [← HD.out]; exact hlt2
          have HQL := Lib.hid hql
          have hmem : Hid (c ∈ ds) := by
            rw [HC.out]
            simp only [List.getD, List.getElem?_eq_getElem hql, Option.getD_some]
            exact List.getElem_mem hql
          have q0 : (0 : Int) ≤ (q : Int) := by omega
          have HBR := Lib.hid hBr
          clear g1 hc hql hBr
          by_cases hc0 : c < 0
          · go_wp2
            go_ret
            refine ansb ?_ HBR.out
            simp only [true_iff, HP.out]
            intro h
            have := h.2.2 c hmem.out
            omega
          · by_cases hcN : c < (N : Int)
            · go_wp2
              go_roundw
              case rel =>
                refine ⟨q + 1, by omega, by go_num, ?_, HB.out⟩
                rw [take_nextG (d := 0) HQL.out, ← HC.out]
                intro x hx
                simp only [List.mem_append, List.mem_singleton] at hx
                rcases hx with hx | rfl
                · exact HKD.out x hx
                · omega
              case measure => simp [intOf]; omega
            · go_wp2
              go_ret
              refine ansb ?_ HBR.out
              simp only [true_iff, HP.out]
              intro h
              have := h.2.2 c hmem.out
              omega
        · obtain rfl : K + 1 = q := by omega
          go_wp2
          go_ret
          refine ansb ?_ (into (into BW.out HB0.out) HB.out)
          simp only [Bool.false_eq_true, false_iff, Classical.not_not, HP.out]
          have e : ds.take (K + 1) = ds := List.take_of_length_le (by rw [← HD.out]; exact Nat.le_refl _)
          have h9 := HKD.out
          rw [e] at h9
          exact ⟨HOK'.out, HR'.out, h9⟩
end Go.Proofs.Ytahammkjkfdmhaa
/- The document's answer on a page by itself: all ways together. -/
namespace Go.Proofs.Ytahammkjkfdmhaa
open Go.ChangeShapes Go.WideShapes Go.ChangeAt Go.RowKit
set_option linter.unusedVariables false
set_option linter.unusedSimpArgs false
set_option maxHeartbeats 2000000
set_option maxRecDepth 100000
theorem pf_mid (w : World) (ok : Nat → Prop) (leaf : Bool) (kv dv hv : Value) (ks : List Key) (ds : List Int) (hg : Key) (nx : Int) (N : Nat) (hN1 : 1 ≤ N) (hN : N ≤ 4000) (hk : RK w ok kv ks) (hd : RI w ok dv ds) (hh : RB w ok hv hg)
    (h1 : ks.length ≤ 4) (h2 : hg.length ≤ 100) (h3 : -1 ≤ nx ∧ nx < N) (h4 : nx = -1 ↔ hg = []) (hno : ¬ (ds.length = (if leaf then ks.length else ks.length + 1) ∧ (leaf = false → 1 ≤ ks.length))) :
    Calls Try.prog 52 #[.agg #[.bool leaf, kv, dv, hv, .int .i64 nx], .int .i64 (N : Int)] w (AnsB (¬ OkPg ⟨leaf, ks, ds, hg, nx⟩ N) w) := by
  have hP : ¬ OkPg ⟨leaf, ks, ds, hg, nx⟩ N := fun h => hno ⟨h.kids, h.some⟩
  have HP := Lib.hid hP
  obtain ⟨ak, ck, ff, rfl, _, k2, _⟩ := keysF hk
  obtain ⟨ad, cd, rfl, d1, d2, _⟩ := intsF hd
  obtain ⟨ah, ch, rfl⟩ := hh.sh
  have hm := hh.1.len
  unfold maxLen at hm k2 d2
  have hgl : hg = [] ↔ hg.length = 0 := by cases hg <;> simp
  obtain ⟨K, hK⟩ : ∃ K, K = ks.length := ⟨_, rfl⟩
  obtain ⟨H, hH⟩ : ∃ H, H = hg.length := ⟨_, rfl⟩
  obtain ⟨D, hD⟩ : ∃ D, D = ds.length := ⟨_, rfl⟩
  rw [hgl] at h4
  rw [← hK, ← hD] at hno
  rw [← hK] at h1
  rw [← hH] at h2 h4 hm
  rw [← hD] at d1
  rw [← hK, ← hH, ← hD]
  have h1' : ¬ (4 : Int) < (K : Int) := by omega
  have h2' : ¬ (100 : Int) < (H : Int) := by omega
  have h3' : (decide ((-1 : Int) ≤ nx) && decide (nx ≤ (N : Int) - 1)) = true := by simp; omega
  have hin := fun w => in_is w nx (-1) ((N : Int) - 1) true h3'
  have HIN := Lib.hid hin
  obtain ⟨z, hz1, hz2⟩ : ∃ z, (nx == -1) = z ∧ ((H : Int) == 0) = z := by
    refine ⟨_, rfl, ?_⟩
    rw [Bool.eq_iff_iff]
    simp only [beq_iff_eq, h4]
    omega
  clear hP hk hd hh hgl hK hH hD h4 h3' hin
  cases leaf with
  | true =>
    simp only [if_true, Bool.true_eq_false, false_implies, and_true] at hno
    have hne : ((D : Int) == (K : Int)) = false := by simp; omega
    have hne2 : (D == K) = false := by simp; omega
    have hne3 : ((D : Int) != (K : Int)) = true := by simp; omega
    have hne4 : (D != K) = true := by simp; omega
    have hne5 : decide ((D : Int) = (K : Int)) = false := by simp; omega
    have hne6 : decide (D = K) = false := by simp; omega
    have hne7 : ¬ D = K := by omega
    clear hno
    go_enter Try.func52, Try.ntmps52
    go_wp2_with (go_at_call 51; refine (HIN.out _).mono ?_; rintro e w' ⟨rfl, rfl⟩)
    go_ret
    exact ansb (by simp [HP.out]) (by go_grown)
  | false =>
    simp only [Bool.false_eq_true, if_false, forall_const] at hno
    by_cases hd : D = K + 1
    · have hk0 : K = 0 := by omega
      subst hd
      subst hk0
      clear hno
      go_enter Try.func52, Try.ntmps52
      go_wp2_with (go_at_call 51; refine (HIN.out _).mono ?_; rintro e w' ⟨rfl, rfl⟩)
      go_ret
      exact ansb (by simp [HP.out]) (by go_grown)
    · have hne : ((D : Int) == (K : Int) + 1) = false := by simp; omega
      clear hno hd
      go_enter Try.func52, Try.ntmps52
      go_wp2_with (go_at_call 51; refine (HIN.out _).mono ?_; rintro e w' ⟨rfl, rfl⟩)
      go_ret
      exact ansb (by simp [HP.out]) (by go_grown)
theorem pageFault_any (w : World) (ok : Nat → Prop) (kv dv hv : Value) (p : Pg) (N : Nat) (hN1 : 1 ≤ N) (hN : N ≤ 4000) (hk : RK w ok kv p.keys) (hd : RI w ok dv p.kids) (hh : RB w ok hv p.high) :
    Calls Try.prog 52 #[.agg #[.bool p.leaf, kv, dv, hv, .int .i64 p.next], .int .i64 (N : Int)] w (AnsB (¬ OkPg p N) w) := by
  obtain ⟨leaf, ks, ds, hg, nx⟩ := p
  simp only at hk hd hh ⊢
  by_cases h : ks.length ≤ 4 ∧ hg.length ≤ 100 ∧ (-1 ≤ nx ∧ nx < N) ∧ (nx = -1 ↔ hg = [])
  · obtain ⟨h1, h2, h3, h4⟩ := h
    by_cases g : ds.length = (if leaf then ks.length else ks.length + 1) ∧ (leaf = false → 1 ≤ ks.length)
    · obtain ⟨g1, g2⟩ := g
      cases leaf with
      | true => exact pf_main_true w ok kv dv hv ks ds hg nx N hN1 hN hk hd hh h1 h2 h3 h4 (by simpa using g1)
      | false => exact pf_main_false w ok kv dv hv ks ds hg nx N hN1 hN hk hd hh h1 h2 h3 h4 (by simpa using g1) (g2 rfl)
    · exact pf_mid w ok leaf kv dv hv ks ds hg nx N hN1 hN hk hd hh h1 h2 h3 h4 g
  · exact pf_head w ok leaf kv dv hv ks ds hg nx N hN1 hN hk hd hh h
end Go.Proofs.Ytahammkjkfdmhaa
