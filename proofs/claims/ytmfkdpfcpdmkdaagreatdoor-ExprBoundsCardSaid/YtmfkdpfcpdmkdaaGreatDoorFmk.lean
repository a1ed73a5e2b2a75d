import Derived.Test.YtmfkdpfcpdmkdaaGreatDoorFkk
import Derived.Test.YtmfkdpfcpdmkdaaGreatDoorKek
/- Which side a tree leaves: the document's side of it. -/
namespace Go.Proofs.YtmfkdpfcpdmkdaaGreatDoor.bd
open Go.ChangeShapes Go.WideShapes Go.ChangeAt Go.RowKit
set_option linter.unusedVariables false
set_option linter.unusedSimpArgs false
set_option maxHeartbeats 4000000
set_option maxRecDepth 100000
def sideT (c : ByteArray) : Tx → Option (Int × V)
  | .bi o (.leaf x) (.leaf y) => coreF c false x y o.k
  | .un o (.bi p (.leaf x) (.leaf y)) => if o.k = 5 then coreF c true x y p.k else none
  | _ => none
theorem three_f (w : World) (u : Value) (c : ByteArray) (x y o : Oq) (h5 : o.k ≠ 5) (hu : Rd w 5 3 u (ocs [x, y, o])) : Calls Tryz.prog 21 #[.string c, u] w (SideIs (coreF c false x y o.k) w) := by
  obtain ⟨xk, ⟨xvk, xvn, xvt⟩, xt⟩ := x
  obtain ⟨yk, ⟨yvk, yvn, yvt⟩, yt⟩ := y
  obtain ⟨k, zv, zt⟩ := o
  by_cases h1 : xk = 2 ∧ xt = c ∧ yk = 1
  · have e : coreF c false ⟨xk, ⟨xvk, xvn, xvt⟩, xt⟩ ⟨yk, ⟨yvk, yvn, yvt⟩, yt⟩ k = dirF true false k ⟨yvk, yvn, yvt⟩ := if_pos h1
    show Calls _ _ _ _ (SideIs (coreF c false ⟨xk, ⟨xvk, xvn, xvt⟩, xt⟩ ⟨yk, ⟨yvk, yvn, yvt⟩, yt⟩ k) w)
    rw [e]
    clear e
    obtain ⟨h1, h2, h3⟩ := h1
    by_cases h4 : yvk = 0
    · rw [show dirF true false k ⟨yvk, yvn, yvt⟩ = none from if_pos h4]
      exact zff _ _ _ _ _ _ _ _ _ _ _ _ _ _ _ _ h5 h1 h2 h3 h4 hu
    · by_cases k6 : k = 6
      · rw [show dirF true false k ⟨yvk, yvn, yvt⟩ = some (0, ⟨yvk, yvn, yvt⟩) from by unfold dirF; rw [if_neg h4, if_pos ⟨k6, rfl⟩]]
        exact eff _ _ _ _ _ _ _ _ _ _ _ _ _ _ _ _ h5 h1 h2 h3 h4 k6 hu
      · by_cases k7 : k = 7
        · rw [show dirF true false k ⟨yvk, yvn, yvt⟩ = some (1, ⟨yvk, yvn, yvt⟩) from by unfold dirF; rw [if_neg h4, if_neg (fun h => k6 h.1), if_neg (by omega), if_pos (by decide)]]
          exact lff _ _ _ _ _ _ _ _ _ _ _ _ _ _ _ _ h5 h1 h2 h3 h4 k7 hu
        · rw [show dirF true false k ⟨yvk, yvn, yvt⟩ = none from by unfold dirF; rw [if_neg h4, if_neg (fun h => k6 h.1), if_pos k7]]
          exact off _ _ _ _ _ _ _ _ _ _ _ _ _ _ _ _ h5 h1 h2 h3 h4 k6 k7 hu
  · by_cases h2 : yk = 2 ∧ yt = c ∧ xk = 1
    · have e : coreF c false ⟨xk, ⟨xvk, xvn, xvt⟩, xt⟩ ⟨yk, ⟨yvk, yvn, yvt⟩, yt⟩ k = dirF false false k ⟨xvk, xvn, xvt⟩ := (if_neg h1).trans (if_pos h2)
      show Calls _ _ _ _ (SideIs (coreF c false ⟨xk, ⟨xvk, xvn, xvt⟩, xt⟩ ⟨yk, ⟨yvk, yvn, yvt⟩, yt⟩ k) w)
      rw [e]
      clear e
      clear h1
      obtain ⟨h1, h2, h3⟩ := h2
      by_cases h4 : xvk = 0
      · rw [show dirF false false k ⟨xvk, xvn, xvt⟩ = none from if_pos h4]
        exact zfs _ _ _ _ _ _ _ _ _ _ _ _ _ _ _ _ h5 h1 h2 h3 h4 hu
      · by_cases k6 : k = 6
        · rw [show dirF false false k ⟨xvk, xvn, xvt⟩ = some (0, ⟨xvk, xvn, xvt⟩) from by unfold dirF; rw [if_neg h4, if_pos ⟨k6, rfl⟩]]
          exact efs _ _ _ _ _ _ _ _ _ _ _ _ _ _ _ _ h5 h1 h2 h3 h4 k6 hu
        · by_cases k7 : k = 7
          · rw [show dirF false false k ⟨xvk, xvn, xvt⟩ = some (-1, ⟨xvk, xvn, xvt⟩) from by unfold dirF; rw [if_neg h4, if_neg (fun h => k6 h.1), if_neg (by omega), if_neg (by decide)]]
            exact lfs _ _ _ _ _ _ _ _ _ _ _ _ _ _ _ _ h5 h1 h2 h3 h4 k7 hu
          · rw [show dirF false false k ⟨xvk, xvn, xvt⟩ = none from by unfold dirF; rw [if_neg h4, if_neg (fun h => k6 h.1), if_pos k7]]
            exact ofs _ _ _ _ _ _ _ _ _ _ _ _ _ _ _ _ h5 h1 h2 h3 h4 k6 k7 hu
    · show Calls _ _ _ _ (SideIs (coreF c false ⟨xk, ⟨xvk, xvn, xvt⟩, xt⟩ ⟨yk, ⟨yvk, yvn, yvt⟩, yt⟩ k) w)
      rw [show coreF c false ⟨xk, ⟨xvk, xvn, xvt⟩, xt⟩ ⟨yk, ⟨yvk, yvn, yvt⟩, yt⟩ k = none from (if_neg h1).trans (if_neg h2)]
      by_cases ha : xk = 2
      · by_cases hA : xt = c
        · have hy : yk ≠ 1 := fun e => h1 ⟨ha, hA, e⟩
          by_cases hb : yk = 2
          · by_cases hB : yt = c
            · exact nf33 _ _ _ _ _ _ _ _ _ _ _ _ _ _ _ _ h5 ha hA hy hb hB (fun e => h2 ⟨hb, hB, e⟩) hu
            · exact nf32 _ _ _ _ _ _ _ _ _ _ _ _ _ _ _ _ h5 ha hA hy hb hB hu
          · exact nf31 _ _ _ _ _ _ _ _ _ _ _ _ _ _ _ _ h5 ha hA hy hb hu
        · by_cases hb : yk = 2
          · by_cases hB : yt = c
            · exact nf23 _ _ _ _ _ _ _ _ _ _ _ _ _ _ _ _ h5 ha hA hb hB (fun e => h2 ⟨hb, hB, e⟩) hu
            · exact nf22 _ _ _ _ _ _ _ _ _ _ _ _ _ _ _ _ h5 ha hA hb hB hu
          · exact nf21 _ _ _ _ _ _ _ _ _ _ _ _ _ _ _ _ h5 ha hA hb hu
      · by_cases hb : yk = 2
        · by_cases hB : yt = c
          · exact nf13 _ _ _ _ _ _ _ _ _ _ _ _ _ _ _ _ h5 ha hb hB (fun e => h2 ⟨hb, hB, e⟩) hu
          · exact nf12 _ _ _ _ _ _ _ _ _ _ _ _ _ _ _ _ h5 ha hb hB hu
        · exact nf11 _ _ _ _ _ _ _ _ _ _ _ _ _ _ _ _ h5 ha hb hu
theorem three_t (w : World) (u : Value) (c : ByteArray) (x y o z : Oq) (h5 : z.k = 5) (hu : Rd w 5 4 u (ocs [x, y, o, z])) : Calls Tryz.prog 21 #[.string c, u] w (SideIs (coreF c true x y o.k) w) := by
  obtain ⟨xk, ⟨xvk, xvn, xvt⟩, xt⟩ := x
  obtain ⟨yk, ⟨yvk, yvn, yvt⟩, yt⟩ := y
  obtain ⟨k, zv, zt⟩ := o
  obtain ⟨zk, sv1, st1⟩ := z
  obtain rfl : zk = 5 := h5
  by_cases h1 : xk = 2 ∧ xt = c ∧ yk = 1
  · have e : coreF c true ⟨xk, ⟨xvk, xvn, xvt⟩, xt⟩ ⟨yk, ⟨yvk, yvn, yvt⟩, yt⟩ k = dirF true true k ⟨yvk, yvn, yvt⟩ := if_pos h1
    show Calls _ _ _ _ (SideIs (coreF c true ⟨xk, ⟨xvk, xvn, xvt⟩, xt⟩ ⟨yk, ⟨yvk, yvn, yvt⟩, yt⟩ k) w)
    rw [e]
    clear e
    obtain ⟨h1, h2, h3⟩ := h1
    by_cases h4 : yvk = 0
    · rw [show dirF true true k ⟨yvk, yvn, yvt⟩ = none from if_pos h4]
      exact ztf _ _ _ _ _ _ _ _ _ _ _ _ _ _ _ _ _ _ h1 h2 h3 h4 hu
    · by_cases k6 : k = 6
      · rw [show dirF true true k ⟨yvk, yvn, yvt⟩ = none from by unfold dirF; rw [if_neg h4, if_neg (by simp), if_pos (by omega)]]
        exact etf _ _ _ _ _ _ _ _ _ _ _ _ _ _ _ _ _ _ h1 h2 h3 h4 k6 hu
      · by_cases k7 : k = 7
        · rw [show dirF true true k ⟨yvk, yvn, yvt⟩ = some (-1, ⟨yvk, yvn, yvt⟩) from by unfold dirF; rw [if_neg h4, if_neg (fun h => k6 h.1), if_neg (by omega), if_neg (by decide)]]
          exact ltf _ _ _ _ _ _ _ _ _ _ _ _ _ _ _ _ _ _ h1 h2 h3 h4 k7 hu
        · rw [show dirF true true k ⟨yvk, yvn, yvt⟩ = none from by unfold dirF; rw [if_neg h4, if_neg (fun h => k6 h.1), if_pos k7]]
          exact otf _ _ _ _ _ _ _ _ _ _ _ _ _ _ _ _ _ _ h1 h2 h3 h4 k6 k7 hu
  · by_cases h2 : yk = 2 ∧ yt = c ∧ xk = 1
    · have e : coreF c true ⟨xk, ⟨xvk, xvn, xvt⟩, xt⟩ ⟨yk, ⟨yvk, yvn, yvt⟩, yt⟩ k = dirF false true k ⟨xvk, xvn, xvt⟩ := (if_neg h1).trans (if_pos h2)
      show Calls _ _ _ _ (SideIs (coreF c true ⟨xk, ⟨xvk, xvn, xvt⟩, xt⟩ ⟨yk, ⟨yvk, yvn, yvt⟩, yt⟩ k) w)
      rw [e]
      clear e
      clear h1
      obtain ⟨h1, h2, h3⟩ := h2
      by_cases h4 : xvk = 0
      · rw [show dirF false true k ⟨xvk, xvn, xvt⟩ = none from if_pos h4]
        exact zts _ _ _ _ _ _ _ _ _ _ _ _ _ _ _ _ _ _ h1 h2 h3 h4 hu
      · by_cases k6 : k = 6
        · rw [show dirF false true k ⟨xvk, xvn, xvt⟩ = none from by unfold dirF; rw [if_neg h4, if_neg (by simp), if_pos (by omega)]]
          exact ets _ _ _ _ _ _ _ _ _ _ _ _ _ _ _ _ _ _ h1 h2 h3 h4 k6 hu
        · by_cases k7 : k = 7
          · rw [show dirF false true k ⟨xvk, xvn, xvt⟩ = some (1, ⟨xvk, xvn, xvt⟩) from by unfold dirF; rw [if_neg h4, if_neg (fun h => k6 h.1), if_neg (by omega), if_pos (by decide)]]
            exact lts _ _ _ _ _ _ _ _ _ _ _ _ _ _ _ _ _ _ h1 h2 h3 h4 k7 hu
          · rw [show dirF false true k ⟨xvk, xvn, xvt⟩ = none from by unfold dirF; rw [if_neg h4, if_neg (fun h => k6 h.1), if_pos k7]]
            exact ots _ _ _ _ _ _ _ _ _ _ _ _ _ _ _ _ _ _ h1 h2 h3 h4 k6 k7 hu
    · show Calls _ _ _ _ (SideIs (coreF c true ⟨xk, ⟨xvk, xvn, xvt⟩, xt⟩ ⟨yk, ⟨yvk, yvn, yvt⟩, yt⟩ k) w)
      rw [show coreF c true ⟨xk, ⟨xvk, xvn, xvt⟩, xt⟩ ⟨yk, ⟨yvk, yvn, yvt⟩, yt⟩ k = none from (if_neg h1).trans (if_neg h2)]
      by_cases ha : xk = 2
      · by_cases hA : xt = c
        · have hy : yk ≠ 1 := fun e => h1 ⟨ha, hA, e⟩
          by_cases hb : yk = 2
          · by_cases hB : yt = c
            · exact nt33 _ _ _ _ _ _ _ _ _ _ _ _ _ _ _ _ _ _ ha hA hy hb hB (fun e => h2 ⟨hb, hB, e⟩) hu
            · exact nt32 _ _ _ _ _ _ _ _ _ _ _ _ _ _ _ _ _ _ ha hA hy hb hB hu
          · exact nt31 _ _ _ _ _ _ _ _ _ _ _ _ _ _ _ _ _ _ ha hA hy hb hu
        · by_cases hb : yk = 2
          · by_cases hB : yt = c
            · exact nt23 _ _ _ _ _ _ _ _ _ _ _ _ _ _ _ _ _ _ ha hA hb hB (fun e => h2 ⟨hb, hB, e⟩) hu
            · exact nt22 _ _ _ _ _ _ _ _ _ _ _ _ _ _ _ _ _ _ ha hA hb hB hu
          · exact nt21 _ _ _ _ _ _ _ _ _ _ _ _ _ _ _ _ _ _ ha hA hb hu
      · by_cases hb : yk = 2
        · by_cases hB : yt = c
          · exact nt13 _ _ _ _ _ _ _ _ _ _ _ _ _ _ _ _ _ _ ha hb hB (fun e => h2 ⟨hb, hB, e⟩) hu
          · exact nt12 _ _ _ _ _ _ _ _ _ _ _ _ _ _ _ _ _ _ ha hb hB hu
        · exact nt11 _ _ _ _ _ _ _ _ _ _ _ _ _ _ _ _ _ _ ha hb hu
theorem short_f (w : World) (m : Nat) (u : Value) (c : ByteArray) (L : List Oq) (o : Oq) (h5 : o.k ≠ 5) (hm : m = L.length + 1) (hm2 : m ≤ 1000) (hl : m ≠ 3) (hu : Rd w 5 m u (ocs (L ++ [o]))) : Calls Tryz.prog 21 #[.string c, u] w (SideIs none w) := by
  obtain ⟨b, p, cap, rfl, hmc, hcm, hbw, hcell⟩ := ops_of hu (by omega)
  obtain ⟨N, hN⟩ : ∃ N, N = L.length := ⟨_, rfl⟩
  obtain ⟨g0, -⟩ := hcell N (by omega)
  have hg : (L ++ [o]).getD N noq = o := by rw [hN]; exact getD_last _ _
  rw [hg] at g0
  have hi0 : (0 : Int) ≤ (N : Int) := by omega
  have hi1 : (N : Int) < (m : Int) := by omega
  have hi2 : (N : Int) ≤ (cap : Int) := by omega
  have hmi : (m : Int) - 1 = (N : Int) := by omega
  have hne : ¬ ((m : Int) : Int) = 3 := by omega
  have hne2 : (((m : Int) : Int) == 3) = false := by simpa using hne
  have f5 : (o.k == 5) = false := by simpa using h5
  clear hcell hu hg hN hm hl
  go_enter Tryz.func21, Tryz.ntmps21
  go_wp2_with fail
  go_returns
  exact ⟨by go_grown, rfl⟩
theorem short_t (w : World) (m : Nat) (u : Value) (c : ByteArray) (L : List Oq) (o : Oq) (h5 : o.k = 5) (hm : m = L.length + 1) (hm2 : m ≤ 1000) (hl : L.length ≠ 3) (hu : Rd w 5 m u (ocs (L ++ [o]))) : Calls Tryz.prog 21 #[.string c, u] w (SideIs none w) := by
  obtain ⟨b, p, cap, rfl, hmc, hcm, hbw, hcell⟩ := ops_of hu (by omega)
  obtain ⟨N, hN⟩ : ∃ N, N = L.length := ⟨_, rfl⟩
  obtain ⟨g0, -⟩ := hcell N (by omega)
  have hg : (L ++ [o]).getD N noq = o := by rw [hN]; exact getD_last _ _
  rw [hg] at g0
  have hi0 : (0 : Int) ≤ (N : Int) := by omega
  have hi1 : (N : Int) < (m : Int) := by omega
  have hi2 : (N : Int) ≤ (cap : Int) := by omega
  have hmi : (m : Int) - 1 = (N : Int) := by omega
  have hne : ¬ ((N : Int) : Int) = 3 := by omega
  have hne2 : (((N : Int) : Int) == 3) = false := by simpa using hne
  rw [h5] at g0
  clear hcell hu hg hN hm hl
  go_enter Tryz.func21, Tryz.ntmps21
  go_wp2_with fail
  go_returns
  exact ⟨by go_grown, rfl⟩
theorem len_one {t : Tx} (h : t.flat.length = 1) : ∃ x, t = .leaf x := by
  cases t with
  | leaf x => exact ⟨x, rfl⟩
  | un o a => have h1 := a.flat_pos; rw [Tx.flat, List.length_append, List.length_singleton] at h; omega
  | bi o a b => have h1 := a.flat_pos; have h2 := b.flat_pos; rw [Tx.flat, List.length_append, List.length_append, List.length_singleton] at h; omega
theorem len_two {t : Tx} (h : t.flat.length = 2) : ∃ q x, t = .un q (.leaf x) := by
  cases t with
  | leaf x => simp [Tx.flat] at h
  | un o a =>
    obtain ⟨x, rfl⟩ := len_one (t := a) (by simp [Tx.flat] at h; exact h)
    exact ⟨o, x, rfl⟩
  | bi o a b => have := a.flat_pos; have := b.flat_pos; simp [Tx.flat] at h; omega
theorem core_un (c : ByteArray) (nt : Bool) (x q : Oq) (k : Int) (hq : wks q.k = 1) : coreF c nt x q k = none := by
  unfold coreF
  rw [if_neg (fun h => by rw [h.2.2] at hq; revert hq; decide), if_neg (fun h => by rw [h.1] at hq; revert hq; decide)]
theorem not5 {k : Int} {n : Int} (h : wks k = n) (hn : n ≠ 1) : k ≠ 5 := fun e => by rw [e] at h; exact hn (h.symm.trans (by decide))
theorem side_any (w : World) (u : Value) (c : ByteArray) : ∀ (t : Tx), t.ok → t.flat.length ≤ 1000 → Rd w 5 t.flat.length u (ocs t.flat) → Calls Tryz.prog 21 #[.string c, u] w (SideIs (sideT c t) w)
  | .leaf o, h, hm, hu => short_f w 1 u c [] o (not5 h.1 (by decide)) rfl (by omega) (by omega) hu
  | .bi o a b, h, hm, hu => by
    have h5 : o.k ≠ 5 := not5 h.1 (by decide)
    have hl : (Tx.bi o a b).flat.length = a.flat.length + b.flat.length + 1 := by simp [Tx.flat]; omega
    have ha := a.flat_pos
    have hb := b.flat_pos
    by_cases h3 : (Tx.bi o a b).flat.length = 3
    · obtain ⟨x, rfl⟩ := len_one (t := a) (by omega)
      obtain ⟨y, rfl⟩ := len_one (t := b) (by omega)
      exact three_f w u c x y o h5 hu
    · have e : sideT c (.bi o a b) = none := by
        cases a <;> cases b <;> first | rfl | exact absurd rfl h3
      rw [e]
      exact short_f w _ u c (a.flat ++ b.flat) o h5 (by rw [hl]; simp) hm h3 hu
  | .un o a, h, hm, hu => by
    have hl : (Tx.un o a).flat.length = a.flat.length + 1 := by simp [Tx.flat]
    have ha := a.flat_pos
    by_cases h5 : o.k = 5
    · by_cases h3 : a.flat.length = 3
      · cases a with
        | leaf x => simp [Tx.flat] at h3
        | un p b =>
          obtain ⟨q, x, rfl⟩ := len_two (t := b) (by simp [Tx.flat] at h3; omega)
          have e : sideT c (.un o (.un p (.un q (.leaf x)))) = coreF c true x q p.k := (core_un c true x q p.k h.2.2.2.2.1).symm
          rw [e]
          exact three_t w u c x q p o h5 hu
        | bi p a b =>
          have ha := a.flat_pos
          have hb := b.flat_pos
          obtain ⟨x, rfl⟩ := len_one (t := a) (by simp [Tx.flat] at h3; omega)
          obtain ⟨y, rfl⟩ := len_one (t := b) (by simp [Tx.flat] at h3; omega)
          have e : sideT c (.un o (.bi p (.leaf x) (.leaf y))) = coreF c true x y p.k := if_pos h5
          rw [e]
          exact three_t w u c x y p o h5 hu
      · have e : sideT c (.un o a) = none := by
          cases a with
          | leaf x => rfl
          | un p b => rfl
          | bi p a b => cases a <;> cases b <;> first | rfl | exact absurd rfl h3
        rw [e]
        exact short_t w _ u c a.flat o h5 hl hm h3 hu
    · have e : sideT c (.un o a) = none := by
        cases a with
        | leaf x => rfl
        | un p b => rfl
        | bi p a b => cases a <;> cases b <;> first | rfl | exact if_neg h5
      rw [e]
      by_cases h3 : (Tx.un o a).flat.length = 3
      · obtain ⟨q, x, rfl⟩ := len_two (t := a) (by omega)
        have e : none = coreF c false x q o.k := (core_un c false x q o.k h.2.2.1).symm
        rw [e]
        exact three_f w u c x q o h5 hu
      · exact short_f w _ u c a.flat o h5 hl hm h3 hu
end Go.Proofs.YtmfkdpfcpdmkdaaGreatDoor.bd
/- The document's bounds: what one part says is laid into a box. -/
namespace Go.Proofs.YtmfkdpfcpdmkdaaGreatDoor.bd
open Go.ChangeShapes Go.WideShapes Go.ChangeAt Go.RowKit
set_option linter.unusedVariables false
set_option linter.unusedSimpArgs false
set_option maxHeartbeats 4000000
set_option maxRecDepth 1000000
theorem r17 (Q : Exit → Act → World → Prop) (c1 c2 c3 c4 c5 c6 c7 c8 c9 c10 c13 c14 c15 c16 c17 c18 c19 c20 c21 c22 c23 c24 c25 c26 c27 c28 c29 c30 c31 c32 c33 c34 c35 c36 c37 c38 c39 c40 c41 c42 c43 c44 c45 c46 c47 c48 c49 c50 c51 c52 c53 c54 c55 c56 c57 c58 c59 c60 c61 c62 c63 c64 c65 c66 c67 c68 c69 c70 c71 c72 c73 c74 c75 c76 c77 c78 c79 c80 c81 c82 c83 c84 c85 c86 c87 c88 c89 c90 c91 c92 c93 c94 c95 c96 c97 : Value) (w0 : World) (cb co m cap gb go an ac p : Nat) (c : ByteArray) (rv : Value) (r : Option (Int × V)) (hm : 0 < m) (hp : p < an) (han : an ≤ 1000)
    (hc : w0.cell? ⟨cb, co, none⟩ = some (.string c)) (hg : w0.cell? ⟨gb, go + p, none⟩ = some rv) (hcall : Hid (∀ w, Below w0.heap.size w0 w → Calls Tryz.prog 21 #[.string c, rv] w (SideIs r w)))
    (hout : Hid (∀ (u53 u54 u55 u56 u57 u58 u59 u60 u61 u62 u63 u64 u65 : Value) (P : Nat) (w' : World), Below w0.heap.size w0 w' → w0.heap.size ≤ P → P < w'.heap.size → w'.heap[P]? = some (.cells #[.int .i64 (sd r).2.k, .int .i64 (sd r).2.n, .string (sd r).2.t] 43 (0, 0)) → Q .normal ⟨List.toArray ((.slice (some ⟨cb, co, none⟩) m cap) :: c1 :: c2 :: c3 :: c4 :: c5 :: c6 :: c7 :: c8 :: c9 :: c10 :: (.slice (some ⟨gb, go, none⟩) an ac) :: (.int .i64 (p : Int)) :: (.int .i64 (sd r).1) :: (.pointer (some ⟨P, 0, none⟩)) :: (.bool r.isSome) :: c16 :: c17 :: c18 :: c19 :: c20 :: c21 :: c22 :: c23 :: c24 :: c25 :: c26 :: c27 :: c28 :: c29 :: c30 :: c31 :: c32 :: c33 :: c34 :: c35 :: c36 :: c37 :: c38 :: c39 :: c40 :: c41 :: c42 :: c43 :: c44 :: c45 :: c46 :: c47 :: c48 :: c49 :: c50 :: c51 :: c52 :: u53 :: u54 :: u55 :: u56 :: u57 :: u58 :: u59 :: u60 :: u61 :: u62 :: u63 :: u64 :: u65 :: c66 :: c67 :: c68 :: c69 :: c70 :: c71 :: c72 :: c73 :: c74 :: c75 :: c76 :: c77 :: c78 :: c79 :: c80 :: c81 :: c82 :: c83 :: c84 :: c85 :: c86 :: c87 :: c88 :: c89 :: c90 :: c91 :: c92 :: c93 :: c94 :: c95 :: c96 :: c97 :: []), []⟩ w')) :
    Code.wp Tryz.prog ((regionOf 17 (Tryz.f7.body.getD .skip)).getD .skip) Q ⟨List.toArray ((.slice (some ⟨cb, co, none⟩) m cap) :: c1 :: c2 :: c3 :: c4 :: c5 :: c6 :: c7 :: c8 :: c9 :: c10 :: (.slice (some ⟨gb, go, none⟩) an ac) :: (.int .i64 (p : Int)) :: c13 :: c14 :: c15 :: c16 :: c17 :: c18 :: c19 :: c20 :: c21 :: c22 :: c23 :: c24 :: c25 :: c26 :: c27 :: c28 :: c29 :: c30 :: c31 :: c32 :: c33 :: c34 :: c35 :: c36 :: c37 :: c38 :: c39 :: c40 :: c41 :: c42 :: c43 :: c44 :: c45 :: c46 :: c47 :: c48 :: c49 :: c50 :: c51 :: c52 :: c53 :: c54 :: c55 :: c56 :: c57 :: c58 :: c59 :: c60 :: c61 :: c62 :: c63 :: c64 :: c65 :: c66 :: c67 :: c68 :: c69 :: c70 :: c71 :: c72 :: c73 :: c74 :: c75 :: c76 :: c77 :: c78 :: c79 :: c80 :: c81 :: c82 :: c83 :: c84 :: c85 :: c86 :: c87 :: c88 :: c89 :: c90 :: c91 :: c92 :: c93 :: c94 :: c95 :: c96 :: c97 :: []), []⟩ w0 := by
  refine Code.wp_mono (Q := NQ Q) nq_to ?_
  conv => arg 2; whnf
  have i0 : (0 : Int) ≤ (p : Int) := by omega
  have i1 : (p : Int) < (an : Int) := by omega
  have i2 : (0 : Int) < (m : Int) := by omega
  have heldr : ∀ wx, Below w0.heap.size w0 wx → (fun wx => wx.cell? ⟨cb, co, none⟩ = some (.string c) ∧ wx.cell? ⟨gb, go + p, none⟩ = some rv) wx := fun wx h => ⟨cell_blz h hc, cell_blz h hg⟩
  refine wp_region_held_drew (S := (fun wx => wx.cell? ⟨cb, co, none⟩ = some (.string c) ∧ wx.cell? ⟨gb, go + p, none⟩ = some rv)) (by kernel_rfl) ?_ (fun hHeld => ?_)
  · (try dsimp only)
    exact heldr _ (by first | (with_reducible exact (Below.refl _ _).drew) | (with_reducible exact hB1) | (with_reducible exact hB3) | (with_reducible exact (st3 hB1 hbx _ _ _).1) | (with_reducible exact ((st3 hB3 hbx _ _ _).1.mono hP)) | (with_reducible exact hB1.alloc hP _) | (with_reducible exact (((Below.refl _ _).alloc (Nat.le_refl _) _).drew)))
  refine wpAnyH_take (i := 0) (oi := _) (v := ?_) rfl (by kernel_rfl) (by kernel_rfl) (by kernel_rfl) (fun _ _ _ h => h) (Or.inl ⟨by rfl, ?_⟩) (by assumption) ?_
  rotate_left
  · (intro w hSw; (try dsimp only at hSw); go_simp)
    all_goals (with_reducible rfl)
  (try simp only [List.getElem_toArray, List.getElem_cons_zero, List.getElem_cons_succ, Act.put, List.setIfInBounds_toArray, List.set_cons_zero, List.set_cons_succ])
  refine wpAnyH_take (i := 1) (oi := _) (v := ?_) rfl (by kernel_rfl) (by kernel_rfl) (by kernel_rfl) (fun _ _ _ h => h) (Or.inl ⟨by rfl, ?_⟩) (by assumption) ?_
  rotate_left
  · (intro w hSw; (try dsimp only at hSw); go_simp)
    all_goals (with_reducible rfl)
  (try simp only [List.getElem_toArray, List.getElem_cons_zero, List.getElem_cons_succ, Act.put, List.setIfInBounds_toArray, List.set_cons_zero, List.set_cons_succ])
  refine wpAnyH_take (i := 2) (oi := _) (v := ?_) rfl (by kernel_rfl) (by kernel_rfl) (by kernel_rfl) (fun _ _ _ h => h) (Or.inl ⟨by rfl, ?_⟩) (by assumption) ?_
  rotate_left
  · (intro w hSw; (try dsimp only at hSw); go_simp)
    all_goals (with_reducible rfl)
  (try simp only [List.getElem_toArray, List.getElem_cons_zero, List.getElem_cons_succ, Act.put, List.setIfInBounds_toArray, List.set_cons_zero, List.set_cons_succ])
  refine wpAnyH_take (i := 3) (oi := _) (v := ?_) rfl (by kernel_rfl) (by kernel_rfl) (by kernel_rfl) (fun _ _ _ h => h) (Or.inl ⟨by rfl, ?_⟩) (by assumption) ?_
  rotate_left
  · (intro w hSw; (try dsimp only at hSw); go_simp)
    all_goals (with_reducible rfl)
  (try simp only [List.getElem_toArray, List.getElem_cons_zero, List.getElem_cons_succ, Act.put, List.setIfInBounds_toArray, List.set_cons_zero, List.set_cons_succ])
  refine wpAnyH_take (i := 4) (oi := _) (v := ?_) rfl (by kernel_rfl) (by kernel_rfl) (by kernel_rfl) (fun _ _ _ h => h) (Or.inl ⟨by rfl, ?_⟩) (by assumption) ?_
  rotate_left
  · (intro w hSw; (try dsimp only at hSw); go_simp)
    all_goals (with_reducible rfl)
  (try simp only [List.getElem_toArray, List.getElem_cons_zero, List.getElem_cons_succ, Act.put, List.setIfInBounds_toArray, List.set_cons_zero, List.set_cons_succ])
  refine wpAnyH_take (i := 5) (oi := _) (v := ?_) rfl (by kernel_rfl) (by kernel_rfl) (by kernel_rfl) (fun _ _ _ h => h) (Or.inl ⟨by rfl, ?_⟩) (by assumption) ?_
  rotate_left
  · (intro w hSw; (try dsimp only at hSw); go_simp)
    all_goals (with_reducible rfl)
  (try simp only [List.getElem_toArray, List.getElem_cons_zero, List.getElem_cons_succ, Act.put, List.setIfInBounds_toArray, List.set_cons_zero, List.set_cons_succ])
  refine wpAnyH_take (i := 6) (oi := _) (v := ?_) rfl (by kernel_rfl) (by kernel_rfl) (by kernel_rfl) (fun _ _ _ h => h) (Or.inl ⟨by rfl, ?_⟩) (by assumption) ?_
  rotate_left
  · (intro w hSw; (try dsimp only at hSw); go_simp)
    all_goals (with_reducible rfl)
  (try simp only [List.getElem_toArray, List.getElem_cons_zero, List.getElem_cons_succ, Act.put, List.setIfInBounds_toArray, List.set_cons_zero, List.set_cons_succ])
  refine wpAnyH_take (i := 7) (oi := _) (v := ?_) rfl (by kernel_rfl) (by kernel_rfl) (by kernel_rfl) (fun _ _ _ h => h) (Or.inl ⟨by rfl, ?_⟩) (by assumption) ?_
  rotate_left
  · (intro w hSw; (try dsimp only at hSw); go_simp)
    all_goals (with_reducible rfl)
  (try simp only [List.getElem_toArray, List.getElem_cons_zero, List.getElem_cons_succ, Act.put, List.setIfInBounds_toArray, List.set_cons_zero, List.set_cons_succ])
  refine wpAnyH_ready (rs := [8, 13]) (by kernel_rfl) (by simp) ?_
  refine AllReadyH.cons rfl (fun K hK => ?_) (AllReadyH.cons rfl (fun K hK => ?_) AllReadyH.nil)
  · go_simp
    (go_at_call 21; (with_reducible refine (hcall.out _ ((Below.refl _ _).drew)).mono ?_); rintro e w2 ⟨hb2, rfl⟩; have hB1 : Below w0.heap.size w0 w2 := ((Below.refl _ _).drew).trans hb2; have hP : w0.heap.size ≤ w2.heap.size := hB1.size; have hB4 : Below w2.heap.size w2 (w2.alloc (.cells #[.int .i64 0, .int .i64 0, .string ⟨#[]⟩] 43)) := (Below.refl _ _).alloc (Nat.le_refl _) _; have hB3 : Below w0.heap.size w0 (w2.alloc (.cells #[.int .i64 0, .int .i64 0, .string ⟨#[]⟩] 43)) := hB1.alloc hP _; have hbx := new0 w2 (.cells #[.int .i64 0, .int .i64 0, .string ⟨#[]⟩] 43); clear hb2)
    go_wp2_with fail
    refine hK.out _ _ ?_ (fun hHeld => ?_)
    · (try dsimp only)
      exact heldr _ (by first | (with_reducible exact (Below.refl _ _).drew) | (with_reducible exact hB1) | (with_reducible exact hB3) | (with_reducible exact (st3 hB1 hbx _ _ _).1) | (with_reducible exact ((st3 hB3 hbx _ _ _).1.mono hP)) | (with_reducible exact hB1.alloc hP _) | (with_reducible exact (((Below.refl _ _).alloc (Nat.le_refl _) _).drew)))
    clear hK K
    (try simp only [List.getElem_toArray, List.getElem_cons_zero, List.getElem_cons_succ, Act.put, List.setIfInBounds_toArray, List.set_cons_zero, List.set_cons_succ])
    refine wpAnyH_take (i := 9) (oi := _) (v := ?_) rfl (by kernel_rfl) (by kernel_rfl) (by kernel_rfl) (fun _ _ _ h => h) (Or.inl ⟨by rfl, ?_⟩) (by assumption) ?_
    rotate_left
    · (intro w hSw; (try dsimp only at hSw); go_simp)
      all_goals (with_reducible rfl)
    (try simp only [List.getElem_toArray, List.getElem_cons_zero, List.getElem_cons_succ, Act.put, List.setIfInBounds_toArray, List.set_cons_zero, List.set_cons_succ])
    refine wpAnyH_take (i := 10) (oi := _) (v := ?_) rfl (by kernel_rfl) (by kernel_rfl) (by kernel_rfl) (fun _ _ _ h => h) (Or.inl ⟨by rfl, ?_⟩) (by assumption) ?_
    rotate_left
    · (intro w hSw; (try dsimp only at hSw); go_simp)
      all_goals (with_reducible rfl)
    (try simp only [List.getElem_toArray, List.getElem_cons_zero, List.getElem_cons_succ, Act.put, List.setIfInBounds_toArray, List.set_cons_zero, List.set_cons_succ])
    refine wpAnyH_take (i := 11) (oi := _) (v := ?_) rfl (by kernel_rfl) (by kernel_rfl) (by kernel_rfl) (fun _ _ _ h => h) (Or.inl ⟨by rfl, ?_⟩) (by assumption) ?_
    rotate_left
    · (intro w hSw; (try dsimp only at hSw); go_simp)
      all_goals (with_reducible rfl)
    (try simp only [List.getElem_toArray, List.getElem_cons_zero, List.getElem_cons_succ, Act.put, List.setIfInBounds_toArray, List.set_cons_zero, List.set_cons_succ])
    refine wpAnyH_take (i := 12) (oi := _) (v := ?_) rfl (by kernel_rfl) (by kernel_rfl) (by kernel_rfl) (fun _ _ _ h => h) (Or.inl ⟨by rfl, ?_⟩) (by assumption) ?_
    rotate_left
    · (intro w hSw; (try dsimp only at hSw); go_simp)
      all_goals (with_reducible rfl)
    (try simp only [List.getElem_toArray, List.getElem_cons_zero, List.getElem_cons_succ, Act.put, List.setIfInBounds_toArray, List.set_cons_zero, List.set_cons_succ])
    refine wpAnyH_ready (rs := [13]) (by kernel_rfl) (by simp) ?_
    refine AllReadyH.cons rfl (fun K hK => ?_) AllReadyH.nil
    go_simp
    refine hK.out _ _ ?_ (fun hHeld => ?_)
    · (try dsimp only)
      exact heldr _ (by first | (with_reducible exact (Below.refl _ _).drew) | (with_reducible exact hB1) | (with_reducible exact hB3) | (with_reducible exact (st3 hB1 hbx _ _ _).1) | (with_reducible exact ((st3 hB3 hbx _ _ _).1.mono hP)) | (with_reducible exact hB1.alloc hP _) | (with_reducible exact (((Below.refl _ _).alloc (Nat.le_refl _) _).drew)))
    clear hK K
    (try simp only [List.getElem_toArray, List.getElem_cons_zero, List.getElem_cons_succ, Act.put, List.setIfInBounds_toArray, List.set_cons_zero, List.set_cons_succ])
    refine wpAnyH_ready (rs := [14]) (by kernel_rfl) (by simp) ?_
    refine AllReadyH.cons rfl (fun K hK => ?_) AllReadyH.nil
    go_simp
    refine hK.out _ _ ?_ (fun hHeld => ?_)
    · (try dsimp only)
      exact heldr _ (by first | (with_reducible exact (Below.refl _ _).drew) | (with_reducible exact hB1) | (with_reducible exact hB3) | (with_reducible exact (st3 hB1 hbx _ _ _).1) | (with_reducible exact ((st3 hB3 hbx _ _ _).1.mono hP)) | (with_reducible exact hB1.alloc hP _) | (with_reducible exact (((Below.refl _ _).alloc (Nat.le_refl _) _).drew)))
    clear hK K
    (try simp only [List.getElem_toArray, List.getElem_cons_zero, List.getElem_cons_succ, Act.put, List.setIfInBounds_toArray, List.set_cons_zero, List.set_cons_succ])
    refine wpAnyH_ready (rs := [15]) (by kernel_rfl) (by simp) ?_
    refine AllReadyH.cons rfl (fun K hK => ?_) AllReadyH.nil
    go_simp
    refine hK.out _ _ ?_ (fun hHeld => ?_)
    · (try dsimp only)
      exact heldr _ (by first | (with_reducible exact (Below.refl _ _).drew) | (with_reducible exact hB1) | (with_reducible exact hB3) | (with_reducible exact (st3 hB1 hbx _ _ _).1) | (with_reducible exact ((st3 hB3 hbx _ _ _).1.mono hP)) | (with_reducible exact hB1.alloc hP _) | (with_reducible exact (((Below.refl _ _).alloc (Nat.le_refl _) _).drew)))
    clear hK K
    (try simp only [List.getElem_toArray, List.getElem_cons_zero, List.getElem_cons_succ, Act.put, List.setIfInBounds_toArray, List.set_cons_zero, List.set_cons_succ])
    refine wpAnyH_ready (rs := [16]) (by kernel_rfl) (by simp) ?_
    refine AllReadyH.cons rfl (fun K hK => ?_) AllReadyH.nil
    go_simp
    refine hK.out _ _ ?_ (fun hHeld => ?_)
    · (try dsimp only)
      exact heldr _ (by first | (with_reducible exact (Below.refl _ _).drew) | (with_reducible exact hB1) | (with_reducible exact hB3) | (with_reducible exact (st3 hB1 hbx _ _ _).1) | (with_reducible exact ((st3 hB3 hbx _ _ _).1.mono hP)) | (with_reducible exact hB1.alloc hP _) | (with_reducible exact (((Below.refl _ _).alloc (Nat.le_refl _) _).drew)))
    clear hK K
    (try simp only [List.getElem_toArray, List.getElem_cons_zero, List.getElem_cons_succ, Act.put, List.setIfInBounds_toArray, List.set_cons_zero, List.set_cons_succ])
    refine wpAnyH_done (by kernel_rfl) ?_ _
    first | exact hout.out _ _ _ _ _ _ _ _ _ _ _ _ _ _ _ (hB1.alloc hP _) hP (by simp) (new0 _ _) | exact hout.out _ _ _ _ _ _ _ _ _ _ _ _ _ _ _ (st3 hB1 hbx _ _ _).1 (Nat.le_refl _) (st3 hB1 hbx _ _ _).2.1 (st3 hB1 hbx _ _ _).2.2
  · go_simp
    refine hK.out _ _ ?_ (fun hHeld => ?_)
    · (try dsimp only)
      exact heldr _ (by first | (with_reducible exact (Below.refl _ _).drew) | (with_reducible exact hB1) | (with_reducible exact hB3) | (with_reducible exact (st3 hB1 hbx _ _ _).1) | (with_reducible exact ((st3 hB3 hbx _ _ _).1.mono hP)) | (with_reducible exact hB1.alloc hP _) | (with_reducible exact (((Below.refl _ _).alloc (Nat.le_refl _) _).drew)))
    clear hK K
    (try simp only [List.getElem_toArray, List.getElem_cons_zero, List.getElem_cons_succ, Act.put, List.setIfInBounds_toArray, List.set_cons_zero, List.set_cons_succ])
    refine wpAnyH_ready (rs := [08]) (by kernel_rfl) (by simp) ?_
    refine AllReadyH.cons rfl (fun K hK => ?_) AllReadyH.nil
    go_simp
    (go_at_call 21; (with_reducible refine (hcall.out _ (((Below.refl _ _).alloc (Nat.le_refl _) _).drew)).mono ?_); rintro e w2 ⟨hb2, rfl⟩; have hB1 : Below w0.heap.size w0 w2 := (((Below.refl _ _).alloc (Nat.le_refl _) _).drew).trans (hb2.mono (by simp)); have hbx := (hb2.block w0.heap.size (by simp)).trans (new0 w0 (.cells #[.int .i64 0, .int .i64 0, .string ⟨#[]⟩] 43)); obtain ⟨z0, z1, z2, f0, f1, f2⟩ := box3 hbx; clear hb2)
    go_wp2_with fail
    refine hK.out _ _ ?_ (fun hHeld => ?_)
    · (try dsimp only)
      exact heldr _ (by first | (with_reducible exact (Below.refl _ _).drew) | (with_reducible exact hB1) | (with_reducible exact hB3) | (with_reducible exact (st3 hB1 hbx _ _ _).1) | (with_reducible exact ((st3 hB3 hbx _ _ _).1.mono hP)) | (with_reducible exact hB1.alloc hP _) | (with_reducible exact (((Below.refl _ _).alloc (Nat.le_refl _) _).drew)))
    clear hK K
    (try simp only [List.getElem_toArray, List.getElem_cons_zero, List.getElem_cons_succ, Act.put, List.setIfInBounds_toArray, List.set_cons_zero, List.set_cons_succ])
    refine wpAnyH_take (i := 9) (oi := _) (v := ?_) rfl (by kernel_rfl) (by kernel_rfl) (by kernel_rfl) (fun _ _ _ h => h) (Or.inl ⟨by rfl, ?_⟩) (by assumption) ?_
    rotate_left
    · (intro w hSw; (try dsimp only at hSw); go_simp)
      all_goals (with_reducible rfl)
    (try simp only [List.getElem_toArray, List.getElem_cons_zero, List.getElem_cons_succ, Act.put, List.setIfInBounds_toArray, List.set_cons_zero, List.set_cons_succ])
    refine wpAnyH_take (i := 10) (oi := _) (v := ?_) rfl (by kernel_rfl) (by kernel_rfl) (by kernel_rfl) (fun _ _ _ h => h) (Or.inl ⟨by rfl, ?_⟩) (by assumption) ?_
    rotate_left
    · (intro w hSw; (try dsimp only at hSw); go_simp)
      all_goals (with_reducible rfl)
    (try simp only [List.getElem_toArray, List.getElem_cons_zero, List.getElem_cons_succ, Act.put, List.setIfInBounds_toArray, List.set_cons_zero, List.set_cons_succ])
    refine wpAnyH_take (i := 11) (oi := _) (v := ?_) rfl (by kernel_rfl) (by kernel_rfl) (by kernel_rfl) (fun _ _ _ h => h) (Or.inl ⟨by rfl, ?_⟩) (by assumption) ?_
    rotate_left
    · (intro w hSw; (try dsimp only at hSw); go_simp)
      all_goals (with_reducible rfl)
    (try simp only [List.getElem_toArray, List.getElem_cons_zero, List.getElem_cons_succ, Act.put, List.setIfInBounds_toArray, List.set_cons_zero, List.set_cons_succ])
    refine wpAnyH_take (i := 12) (oi := _) (v := ?_) rfl (by kernel_rfl) (by kernel_rfl) (by kernel_rfl) (fun _ _ _ h => h) (Or.inl ⟨by rfl, ?_⟩) (by assumption) ?_
    rotate_left
    · (intro w hSw; (try dsimp only at hSw); go_simp)
      all_goals (with_reducible rfl)
    (try simp only [List.getElem_toArray, List.getElem_cons_zero, List.getElem_cons_succ, Act.put, List.setIfInBounds_toArray, List.set_cons_zero, List.set_cons_succ])
    refine wpAnyH_ready (rs := [14]) (by kernel_rfl) (by simp) ?_
    refine AllReadyH.cons rfl (fun K hK => ?_) AllReadyH.nil
    go_simp
    refine hK.out _ _ ?_ (fun hHeld => ?_)
    · (try dsimp only)
      exact heldr _ (by first | (with_reducible exact (Below.refl _ _).drew) | (with_reducible exact hB1) | (with_reducible exact hB3) | (with_reducible exact (st3 hB1 hbx _ _ _).1) | (with_reducible exact ((st3 hB3 hbx _ _ _).1.mono hP)) | (with_reducible exact hB1.alloc hP _) | (with_reducible exact (((Below.refl _ _).alloc (Nat.le_refl _) _).drew)))
    clear hK K
    (try simp only [List.getElem_toArray, List.getElem_cons_zero, List.getElem_cons_succ, Act.put, List.setIfInBounds_toArray, List.set_cons_zero, List.set_cons_succ])
    refine wpAnyH_ready (rs := [15]) (by kernel_rfl) (by simp) ?_
    refine AllReadyH.cons rfl (fun K hK => ?_) AllReadyH.nil
    go_simp
    refine hK.out _ _ ?_ (fun hHeld => ?_)
    · (try dsimp only)
      exact heldr _ (by first | (with_reducible exact (Below.refl _ _).drew) | (with_reducible exact hB1) | (with_reducible exact hB3) | (with_reducible exact (st3 hB1 hbx _ _ _).1) | (with_reducible exact ((st3 hB3 hbx _ _ _).1.mono hP)) | (with_reducible exact hB1.alloc hP _) | (with_reducible exact (((Below.refl _ _).alloc (Nat.le_refl _) _).drew)))
    clear hK K
    (try simp only [List.getElem_toArray, List.getElem_cons_zero, List.getElem_cons_succ, Act.put, List.setIfInBounds_toArray, List.set_cons_zero, List.set_cons_succ])
    refine wpAnyH_ready (rs := [16]) (by kernel_rfl) (by simp) ?_
    refine AllReadyH.cons rfl (fun K hK => ?_) AllReadyH.nil
    go_simp
    refine hK.out _ _ ?_ (fun hHeld => ?_)
    · (try dsimp only)
      exact heldr _ (by first | (with_reducible exact (Below.refl _ _).drew) | (with_reducible exact hB1) | (with_reducible exact hB3) | (with_reducible exact (st3 hB1 hbx _ _ _).1) | (with_reducible exact ((st3 hB3 hbx _ _ _).1.mono hP)) | (with_reducible exact hB1.alloc hP _) | (with_reducible exact (((Below.refl _ _).alloc (Nat.le_refl _) _).drew)))
    clear hK K
    (try simp only [List.getElem_toArray, List.getElem_cons_zero, List.getElem_cons_succ, Act.put, List.setIfInBounds_toArray, List.set_cons_zero, List.set_cons_succ])
    refine wpAnyH_done (by kernel_rfl) ?_ _
    first | exact hout.out _ _ _ _ _ _ _ _ _ _ _ _ _ _ _ (hB1.alloc hP _) hP (by simp) (new0 _ _) | exact hout.out _ _ _ _ _ _ _ _ _ _ _ _ _ _ _ (st3 hB1 hbx _ _ _).1 (Nat.le_refl _) (st3 hB1 hbx _ _ _).2.1 (st3 hB1 hbx _ _ _).2.2
end Go.Proofs.YtmfkdpfcpdmkdaaGreatDoor.bd
