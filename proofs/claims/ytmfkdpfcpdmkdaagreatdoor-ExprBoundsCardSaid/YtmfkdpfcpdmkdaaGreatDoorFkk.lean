import Derived.Test.YtmfkdpfcpdmkdaaGreatDoorKbk
import Derived.Test.YtmfkdpfcpdmkdaaGreatDoorFgk
import Derived.Deep.AppendLies
/- What an expression says both parts of which must hold: the document's musts. -/
namespace Go.Proofs.YtmfkdpfcpdmkdaaGreatDoor.bd
open Go.ChangeShapes Go.WideShapes Go.ChangeAt Go.RowKit
set_option linter.unusedVariables false
set_option linter.unusedSimpArgs false
set_option maxHeartbeats 4000000
set_option maxRecDepth 100000
def mustsT : Tx → List Tx
  | .bi o a b => if o.k = 3 then mustsT a ++ mustsT b else [.bi o a b]
  | .leaf o => [.leaf o]
  | .un o a => [.un o a]
theorem mustsT_len : ∀ t : Tx, 0 < (mustsT t).length ∧ (mustsT t).length ≤ t.flat.length
  | .leaf o => by simp [mustsT, Tx.flat]
  | .un o a => by simp [mustsT, Tx.flat]
  | .bi o a b => by
    have h1 := mustsT_len a
    have h2 := mustsT_len b
    simp only [mustsT, Tx.flat]
    split
    · simp; omega
    · simp; omega
/-- These slices read as these trees' ops. -/
def MR (w : World) : List Value → List Tx → Prop
  | [], [] => True
  | v :: vs, t :: ts => Rd w 5 t.flat.length v (ocs t.flat) ∧ MR w vs ts
  | _, _ => False
theorem MR.below {w w' : World} (hb : Below w.heap.size w w') : ∀ {vs : List Value} {ts : List Tx}, MR w vs ts → MR w' vs ts
  | [], [], h => trivial
  | v :: vs, t :: ts, h => ⟨h.1.below hb, MR.below hb h.2⟩
theorem MR.undrew {w : World} : ∀ {vs : List Value} {ts : List Tx}, MR w.drew vs ts → MR w vs ts
  | [], [], h => trivial
  | v :: vs, t :: ts, h => ⟨h.1, MR.undrew h.2⟩
theorem MR.app {w : World} : ∀ {vs us : List Value} {ts ss : List Tx}, MR w vs ts → MR w us ss → MR w (vs ++ us) (ts ++ ss)
  | [], us, [], ss, h, g => g
  | v :: vs, us, t :: ts, ss, h, g => ⟨h.1, MR.app h.2 g⟩
theorem MR.len {w : World} : ∀ {vs : List Value} {ts : List Tx}, MR w vs ts → vs.length = ts.length
  | [], [], h => rfl
  | v :: vs, t :: ts, h => by simp [MR.len h.2]
theorem MR.one {w : World} : ∀ {vs : List Value} {ts : List Tx}, MR w vs ts → ∀ u ∈ vs, u.oneCell' = true
  | [], [], h, u, hu => by cases hu
  | v :: vs, t :: ts, h, u, hu => by
    rcases List.mem_cons.1 hu with rfl | hu
    · obtain ⟨_, _, _, rfl, _⟩ := h.1
      rfl
    · exact MR.one h.2 u hu
theorem MR.at {w : World} : ∀ {vs : List Value} {ts : List Tx}, MR w vs ts → ∀ (j : Nat) (t : Tx), ts[j]? = some (t : Tx) → ∃ v, vs[j]? = some v ∧ Rd w 5 t.flat.length v (ocs t.flat)
  | [], [], h, j, t, ht => by simp at ht
  | v :: vs, t :: ts, h, 0, u, ht => by
    simp at ht
    subst ht
    exact ⟨v, rfl, h.1⟩
  | v :: vs, t :: ts, h, j + 1, u, ht => by
    obtain ⟨x, h1, h2⟩ := MR.at h.2 j u (by simpa using ht)
    exact ⟨x, by simpa using h1, h2⟩
def MustsIs (t : Tx) (w0 w : World) (e : Ending) (w' : World) : Prop := ∃ v vs, e = .returned v ∧ w'.ownsRow w.heap.size 23 1 v vs.length vs ∧ MR w0 vs (mustsT t) ∧ Below w.heap.size w w'
theorem infoS : (Tryz.prog.info? 23).map (fun i => (i.zero, i.size, i.bytes)) = some (some (.slice none 0 0), 1, 24) := by kernel_rfl
theorem musts_one (w0 w : World) (hw : Below w0.heap.size w0 w) (m : Nat) (u : Value) (L : List Oq) (o : Oq) (t : Tx) (ht : t.flat = L ++ [o]) (hk : o.k ≠ 3) (hmt : mustsT t = [t]) (hm : m = t.flat.length) (hm2 : m ≤ 1000) (hu : Rd w0 5 m u (ocs t.flat)) : Calls Tryz.prog 20 #[u] w (MustsIs t w0 w) := by
  have hlen : t.flat.length = L.length + 1 := by rw [ht]; simp
  obtain ⟨b, p, cap, rfl, hmc, hcm, hbw, hcell⟩ := ops_of (hu.below hw) (by omega)
  obtain ⟨N, hN⟩ : ∃ N, N = L.length := ⟨_, rfl⟩
  obtain ⟨g0, -⟩ := hcell N (by omega)
  have hg : t.flat.getD N noq = o := by rw [ht, hN]; exact getD_last _ _
  rw [hg] at g0
  have hi0 : (0 : Int) ≤ (N : Int) := by omega
  have hi1 : (N : Int) < (m : Int) := by omega
  have hmi : (m : Int) - 1 = (N : Int) := by omega
  have hk' : (o.k == 3) = false := by simpa using hk
  have HR := Lib.hid (And.intro hm hu)
  clear hu hm hcell hg hlen ht hN hk
  go_enter Tryz.func20, Tryz.ntmps20
  go_wp2_with fail
  go_returns
  have hrd := HR.out.2
  rw [HR.out.1] at hrd
  refine ⟨_, [.slice (some ⟨b, p, none⟩) m cap], rfl, ?_, ?_, (Below.refl _ _).alloc (Nat.le_refl _) _⟩
  · exact World.ownsRow_lit w #[.slice (some ⟨b, p, none⟩) m cap] 1 (Nat.le_refl _) (by unfold maxLen; omega) rfl
  · rw [hmt, HR.out.1]
    exact ⟨hrd, trivial⟩
theorem musts_bi (w0 w : World) (hw : Below w0.heap.size w0 w) (m : Nat) (u : Value) (o : Oq) (a c : Tx) (ho : o.k = 3) (hcok : c.ok) (hm : m = a.flat.length + c.flat.length + 1) (hm2 : m ≤ 1000) (hu : Rd w0 5 m u (ocs (a.flat ++ c.flat ++ [o])))
    (ih : ∀ W u', Below w.heap.size w W → Rd w0 5 a.flat.length u' (ocs a.flat) → Calls Tryz.prog 20 #[u'] W (MustsIs a w0 W))
    (ih2 : ∀ W u', Below w.heap.size w W → Rd w0 5 c.flat.length u' (ocs c.flat) → Calls Tryz.prog 20 #[u'] W (MustsIs c w0 W)) :
    Calls Tryz.prog 20 #[u] w (MustsIs (.bi o a c) w0 w) := by
  have hap := a.flat_pos
  have hcp := c.flat_pos
  obtain ⟨b, p, cap, rfl, hmc, hcm, hbw, hcell⟩ := ops_of (hu.below hw) (by omega)
  have hb0 := begins_any w m _ (a.flat ++ c.flat ++ [o]) (hu.below hw) hm2 (a.flat.length + c.flat.length) (by omega) a.flat c hcok (by rw [List.take_left' (by simp)])
  obtain ⟨A, hA⟩ : ∃ N, N = a.flat.length := ⟨_, rfl⟩
  obtain ⟨C, hC⟩ : ∃ N, N = c.flat.length := ⟨_, rfl⟩
  obtain ⟨N, hN⟩ : ∃ N, N = A + C := ⟨_, rfl⟩
  have hla := mustsT_len a
  have hlc := mustsT_len c
  rw [← hA] at hla
  rw [← hC] at hlc
  rw [← hA, ← hC, ← hN] at hm hb0
  rw [← hA] at ih hap
  rw [← hC] at ih2 hcp
  obtain ⟨g0, -⟩ := hcell N (by omega)
  have hg : (a.flat ++ c.flat ++ [o]).getD N noq = o := by
    have : N = (a.flat ++ c.flat).length := by rw [List.length_append]; omega
    rw [this]; exact getD_last _ _
  rw [hg, ho] at g0
  have ht := hu.take A (by omega)
  have e1 : (ocs (a.flat ++ c.flat ++ [o])).take (A * 5) = ocs a.flat := by rw [List.append_assoc, ocs_app, List.take_left' (by rw [ocs_len, hA])]
  rw [e1] at ht
  have hd := (hu.take N (by omega)).drop A (by omega)
  have e2 : ((ocs (a.flat ++ c.flat ++ [o])).take (N * 5)).drop (A * 5) = ocs c.flat := by
    rw [ocs_app (a.flat ++ c.flat), List.take_left' (by rw [ocs_len, List.length_append]; omega), ocs_app, List.drop_left' (by rw [ocs_len, hA])]
  rw [e2] at hd
  have hNA : N - A = C := by omega
  rw [hNA] at hd
  have hsl : sliced (some ⟨b, p, none⟩) A N cap 5 = .slice (some ⟨b, p + A * 5, none⟩) C (cap - A) := by
    unfold sliced
    rw [if_neg (by omega), hNA]
    simp [Addr.add]
    omega
  rw [hsl] at hd
  have HCA := Lib.hid (fun (W : World) (hW : Below w.heap.size w W) => ih W _ hW ht)
  have HCB := Lib.hid (fun (W : World) (hW : Below w.heap.size w W) => ih2 W _ hW hd)
  have HRA := Lib.hid ht
  have HRC := Lib.hid hd
  have hi0 : (0 : Int) ≤ (N : Int) := by omega
  have hi1 : (N : Int) < (m : Int) := by omega
  have hi2 : (A : Int) ≤ (cap : Int) := by omega
  have hi3 : (A : Int) ≤ (N : Int) := by omega
  have hi4 : (N : Int) ≤ (cap : Int) := by omega
  have hi5 : (0 : Int) ≤ (A : Int) := by omega
  have hi6 : ¬ A = cap := by omega
  have hi7 : ¬ cap = A := by omega
  have hmi : (m : Int) - 1 = (N : Int) := by omega
  have hsub : N - A = C := by omega
  have HBG := Lib.hid hb0
  have HL := Lib.hid (And.intro hla hlc)
  have HNL := Lib.hid (And.intro hm (And.intro hN hm2))
  obtain ⟨i9, hi9, hz0, hz1, hz2⟩ := info_parts infoS
  clear hcell hg hu ht hd e1 e2 hsl ih ih2 hb0 hA hC hNA hmc hla hlc hm hN
  go_enter Tryz.func20, Tryz.ntmps20
  go_wp2_with fail
  refine HBG.out.mono ?_
  rintro e w1 ⟨rfl, rfl⟩
  go_upto_region 5 with (fail)
  refine Code.wp_mono (Q := NQ _) nq_to ?_
  refine wp_region_held_drew (S := (fun _ => True)) (by kernel_rfl) ?_ (fun hHeld => ?_)
  · (try dsimp only)
    all_goals trivial
  refine wpAnyH_take (i := 0) (oi := _) (v := ?_) rfl (by kernel_rfl) (by kernel_rfl) (by kernel_rfl) (fun _ _ _ h => h) (Or.inl ⟨by rfl, ?_⟩) (by assumption) ?_
  rotate_left
  · (intro w hSw; (try dsimp only at hSw); go_simp)
    all_goals (with_reducible rfl)
  (try simp only [List.getElem_toArray, List.getElem_cons_zero, List.getElem_cons_succ, Act.put, List.setIfInBounds_toArray, List.set_cons_zero, List.set_cons_succ])
  refine wpAnyH_take (i := 1) (oi := _) (v := ?_) rfl (by kernel_rfl) (by kernel_rfl) (by kernel_rfl) (fun _ _ _ h => h) (Or.inl ⟨by rfl, ?_⟩) (by assumption) ?_
  rotate_left
  · (intro w hSw; (try dsimp only at hSw); go_simp)
    all_goals (with_reducible rfl)
  (try simp only [List.getElem_toArray, List.getElem_cons_zero, List.getElem_cons_succ, Act.put, List.setIfInBounds_toArray, List.set_cons_zero, List.set_cons_succ])
  refine wpAnyH_take (i := 2) (oi := _) (v := ?_) rfl (by kernel_rfl) (by kernel_rfl) (by kernel_rfl) (fun _ _ _ h => h) (Or.inl ⟨by rfl, ?_⟩) (by assumption) ?_
  rotate_left
  · (intro w hSw; (try dsimp only at hSw); go_simp)
    all_goals (with_reducible rfl)
  (try simp only [List.getElem_toArray, List.getElem_cons_zero, List.getElem_cons_succ, Act.put, List.setIfInBounds_toArray, List.set_cons_zero, List.set_cons_succ])
  refine wpAnyH_take (i := 4) (oi := _) (v := ?_) rfl (by kernel_rfl) (by kernel_rfl) (by kernel_rfl) (fun _ _ _ h => h) (Or.inl ⟨by rfl, ?_⟩) (by assumption) ?_
  rotate_left
  · (intro w hSw; (try dsimp only at hSw); go_simp)
    all_goals (with_reducible rfl)
  (try simp only [List.getElem_toArray, List.getElem_cons_zero, List.getElem_cons_succ, Act.put, List.setIfInBounds_toArray, List.set_cons_zero, List.set_cons_succ])
  refine wpAnyH_take (i := 5) (oi := _) (v := ?_) rfl (by kernel_rfl) (by kernel_rfl) (by kernel_rfl) (fun _ _ _ h => h) (Or.inl ⟨by rfl, ?_⟩) (by assumption) ?_
  rotate_left
  · (intro w hSw; (try dsimp only at hSw); go_simp)
    all_goals (with_reducible rfl)
  (try simp only [List.getElem_toArray, List.getElem_cons_zero, List.getElem_cons_succ, Act.put, List.setIfInBounds_toArray, List.set_cons_zero, List.set_cons_succ])
  refine wpAnyH_take (i := 6) (oi := _) (v := ?_) rfl (by kernel_rfl) (by kernel_rfl) (by kernel_rfl) (fun _ _ _ h => h) (Or.inl ⟨by rfl, ?_⟩) (by assumption) ?_
  rotate_left
  · (intro w hSw; (try dsimp only at hSw); go_simp)
    all_goals (with_reducible rfl)
  (try simp only [List.getElem_toArray, List.getElem_cons_zero, List.getElem_cons_succ, Act.put, List.setIfInBounds_toArray, List.set_cons_zero, List.set_cons_succ])
  refine wpAnyH_take (i := 7) (oi := _) (v := ?_) rfl (by kernel_rfl) (by kernel_rfl) (by kernel_rfl) (fun _ _ _ h => h) (Or.inl ⟨by rfl, ?_⟩) (by assumption) ?_
  rotate_left
  · (intro w hSw; (try dsimp only at hSw); go_simp)
    all_goals (with_reducible rfl)
  (try simp only [List.getElem_toArray, List.getElem_cons_zero, List.getElem_cons_succ, Act.put, List.setIfInBounds_toArray, List.set_cons_zero, List.set_cons_succ])
  refine wpAnyH_ready (rs := [3]) (by kernel_rfl) (by simp) ?_
  refine AllReadyH.cons rfl (fun K hK => ?_) AllReadyH.nil
  go_simp
  (go_at_call 20; (with_reducible refine (HCA.out _ ((Below.refl _ _).drew)).mono ?_); rintro e w2 ⟨v2, xs, rfl, hown2, hmr2, hb2⟩; have HB2 : Hid (Below w1.heap.size w1 w2) := Lib.hid (((Below.refl _ _).drew).trans hb2); have HO2 := Lib.hid hown2; have HM2 := Lib.hid hmr2; clear hown2 hmr2 hb2)
  go_wp2_with fail
  refine hK.out _ _ ?_ (fun hHeld => ?_)
  · (try dsimp only)
    all_goals trivial
  clear hK K
  (try simp only [List.getElem_toArray, List.getElem_cons_zero, List.getElem_cons_succ, Act.put, List.setIfInBounds_toArray, List.set_cons_zero, List.set_cons_succ])
  refine wpAnyH_ready (rs := [8]) (by kernel_rfl) (by simp) ?_
  refine AllReadyH.cons rfl (fun K hK => ?_) AllReadyH.nil
  go_simp
  (go_at_call 20; (with_reducible refine (HCB.out _ HB2.out).mono ?_); rintro e w3 ⟨v3, ys, rfl, hown3, hmr3, hb3⟩; have hly := MR.len hmr3; have hlx := MR.len HM2.out; obtain ⟨b3, o3, cap3, rfl, hca, hcb, hblt, hcells⟩ := (Rd.own hown3).pos (by rw [hly]; exact HL.out.2.1) (by omega); have HB3 := Lib.hid hb3; have HO3 := Lib.hid (own_below HO2.out hb3); have HM3 := Lib.hid hmr3; have HC3 := Lib.hid hcells; have HLX := Lib.hid (And.intro hlx hly); clear hown3 hmr3 hb3 hcells hlx hly)
  go_wp2_with fail
  refine hK.out _ _ ?_ (fun hHeld => ?_)
  · (try dsimp only)
    all_goals trivial
  clear hK K
  (try simp only [List.getElem_toArray, List.getElem_cons_zero, List.getElem_cons_succ, Act.put, List.setIfInBounds_toArray, List.set_cons_zero, List.set_cons_succ])
  refine wpAnyH_ready (rs := [9]) (by kernel_rfl) (by simp) ?_
  refine AllReadyH.cons rfl (fun K hK => ?_) AllReadyH.nil
  refine step_append_lies _ (by rfl) _ _ _ (by rfl) w1.heap.size 23 i9 _ 1 24 Tryz.underlying55 hi9 hz0 hz1 hz2 rfl (by omega) v2 xs.length xs (by rfl) HO3.out ⟨b3, o3, none⟩ ys.length cap3 ys (by rfl) (by omega) (fun j uu hu => by rw [Addr.add_lit]; exact HC3.out j uu hu) (MR.one HM3.out) (by rw [HLX.out.2]; exact HL.out.2.1) (by have h1 := HL.out; have h2 := HLX.out; have h3 := HNL.out; unfold maxLen; omega) (by have h1 := HL.out; have h2 := HLX.out; have h3 := HNL.out; omega) (by have h1 := HB2.out.size; have h2 := HB3.out.size; omega) w3.heap.size rfl ?_
  intro gg cap4 w4 hown4 hgrow hat4 hlt4
  have HO4 := Lib.hid hown4
  have HB4 : Hid (Below w1.heap.size w1 w4) := Lib.hid (((HB2.out.trans (HB3.out.mono HB2.out.size))).trans ((Below.refl _ w3).grown hgrow (by have h1 := HB2.out.size; have h2 := HB3.out.size; omega) (own_ge HO3.out)))
  clear hown4 hgrow hat4 hlt4
  refine hK.out _ _ ?_ (fun hHeld => ?_)
  · (try dsimp only)
    all_goals trivial
  clear hK K
  (try simp only [List.getElem_toArray, List.getElem_cons_zero, List.getElem_cons_succ, Act.put, List.setIfInBounds_toArray, List.set_cons_zero, List.set_cons_succ])
  refine wpAnyH_ready (rs := [10]) (by kernel_rfl) (by simp) ?_
  refine AllReadyH.cons rfl (fun K hK => ?_) AllReadyH.nil
  go_simp
  refine hK.out _ _ ?_ (fun hHeld => ?_)
  · (try dsimp only)
    all_goals trivial
  clear hK K
  (try simp only [List.getElem_toArray, List.getElem_cons_zero, List.getElem_cons_succ, Act.put, List.setIfInBounds_toArray, List.set_cons_zero, List.set_cons_succ])
  refine wpAnyH_done (by kernel_rfl) ?_ _
  dsimp only [NQ]
  go_wp2_with fail
  go_returns
  refine ⟨.slice (some ⟨gg, 0, none⟩) (xs.length + ys.length) cap4, xs ++ ys, rfl, by rw [List.length_append]; exact HO4.out, ?_, HB4.out⟩
  rw [show mustsT (.bi o a c) = mustsT a ++ mustsT c from by rw [mustsT, if_pos ho]]
  exact MR.app HM2.out HM3.out
theorem musts_any : ∀ (t : Tx) (w0 w : World) (u : Value), Below w0.heap.size w0 w → t.ok → t.flat.length ≤ 1000 → Rd w0 5 t.flat.length u (ocs t.flat) → Calls Tryz.prog 20 #[u] w (MustsIs t w0 w)
  | .leaf o, w0, w, u, hw, h, hm, hu => musts_one w0 w hw _ u [] o (.leaf o) rfl (fun e => by have h1 := h.1; rw [e] at h1; revert h1; decide) rfl rfl hm hu
  | .un o a, w0, w, u, hw, h, hm, hu => musts_one w0 w hw _ u a.flat o (.un o a) rfl (fun e => by have h1 := h.1; rw [e] at h1; revert h1; decide) rfl rfl hm hu
  | .bi o a c, w0, w, u, hw, h, hm, hu => by
    by_cases hk : o.k = 3
    · have hl : (Tx.bi o a c).flat.length = a.flat.length + c.flat.length + 1 := by simp [Tx.flat]; omega
      exact musts_bi w0 w hw _ u o a c hk h.2.2.2 hl (by omega) hu (fun W u' hW hr => musts_any a w0 W u' (into hw hW) h.2.2.1 (by omega) hr) (fun W u' hW hr => musts_any c w0 W u' (into hw hW) h.2.2.2 (by omega) hr)
    · exact musts_one w0 w hw _ u (a.flat ++ c.flat) o (.bi o a c) rfl hk (by rw [mustsT, if_neg hk]) rfl hm hu
end Go.Proofs.YtmfkdpfcpdmkdaaGreatDoor.bd
/- Which side of the first column's key an expression leaves: the document's side. -/
namespace Go.Proofs.YtmfkdpfcpdmkdaaGreatDoor.bd
open Go.ChangeShapes Go.WideShapes Go.ChangeAt Go.RowKit
set_option linter.unusedVariables false
set_option linter.unusedSimpArgs false
set_option maxHeartbeats 4000000
set_option maxRecDepth 100000
/-- What a comparison of two leaves says. -/
def dirF (fs nt : Bool) (k : Int) (v : V) : Option (Int × V) := if v.k = 0 then none else if k = 6 ∧ nt = false then some (0, v) else if k ≠ 7 then none else if fs ≠ nt then some (1, v) else some (-1, v)
def coreF (c : ByteArray) (nt : Bool) (x y : Oq) (k : Int) : Option (Int × V) := if x.k = 2 ∧ x.t = c ∧ y.k = 1 then dirF true nt k y.v else if y.k = 2 ∧ y.t = c ∧ x.k = 1 then dirF false nt k x.v else none
abbrev vq (v : V) : Value := .agg #[.int .i64 v.k, .int .i64 v.n, .string v.t]
def sd (r : Option (Int × V)) : Int × V := r.getD (0, ⟨0, 0, ⟨#[]⟩⟩)
def SideIs (r : Option (Int × V)) (w : World) (e : Ending) (w' : World) : Prop := Below w.heap.size w w' ∧ e = .returned (.tuple #[.int .i64 (sd r).1, vq (sd r).2, .bool r.isSome])
theorem nf11 (w : World) (u : Value) (c : ByteArray) (xk xvk xvn yk yvk yvn k : Int) (xvt xt yvt yt zt : ByteArray) (zv : V) (k5 : k ≠ 5) (ha : xk ≠ 2) (hb : yk ≠ 2) (hu : Rd w 5 3 u (ocs [⟨xk, ⟨xvk, xvn, xvt⟩, xt⟩, ⟨yk, ⟨yvk, yvn, yvt⟩, yt⟩, ⟨k, zv, zt⟩])) :
    Calls Tryz.prog 21 #[.string c, u] w (SideIs (none) w) := by
  obtain ⟨b, p, cap, rfl, hmc, hcm, hbw, hcell⟩ := ops_of hu (by omega)
  obtain ⟨a0, a1, a2, a3, a4⟩ := hcell 0 (by omega)
  obtain ⟨b0, b1, b2, b3, b4⟩ := hcell 1 (by omega)
  obtain ⟨c0, -⟩ := hcell 2 (by omega)
  simp only [List.getD_cons_zero, List.getD_cons_succ, Nat.zero_mul, Nat.add_zero, Nat.one_mul, Nat.reduceMul, Nat.add_assoc, Nat.reduceAdd] at a0 a1 a2 a3 a4 b0 b1 b2 b3 b4 c0
  have hb1 : b < w.heap.size + 1 := by omega
  have hb2 : b < w.heap.size + 1 + 1 := by omega
  have hb3 : b < w.heap.size + 1 + 1 + 1 := by omega
  have hn0 : ¬ b = w.heap.size := by omega
  have hn1 : ¬ b = w.heap.size + 1 := by omega
  have hn2 : ¬ b = w.heap.size + 1 + 1 := by omega
  have hn3 : ¬ b = w.heap.size + 1 + 1 + 1 := by omega
  have hcap : (3 : Int) ≤ (cap : Int) := by omega
  have f5 : (k == 5) = false := by simpa using k5
  clear hcell hu
  have fa : (xk == 2) = false := by simpa using ha
  have fb : (yk == 2) = false := by simpa using hb
  go_enter Tryz.func21, Tryz.ntmps21
  go_wp2_with fail
  go_returns
  exact ⟨by go_grown, rfl⟩
theorem nf12 (w : World) (u : Value) (c : ByteArray) (xk xvk xvn yk yvk yvn k : Int) (xvt xt yvt yt zt : ByteArray) (zv : V) (k5 : k ≠ 5) (ha : xk ≠ 2) (hb : yk = 2) (hB : ¬ yt = c) (hu : Rd w 5 3 u (ocs [⟨xk, ⟨xvk, xvn, xvt⟩, xt⟩, ⟨yk, ⟨yvk, yvn, yvt⟩, yt⟩, ⟨k, zv, zt⟩])) :
    Calls Tryz.prog 21 #[.string c, u] w (SideIs (none) w) := by
  obtain ⟨b, p, cap, rfl, hmc, hcm, hbw, hcell⟩ := ops_of hu (by omega)
  obtain ⟨a0, a1, a2, a3, a4⟩ := hcell 0 (by omega)
  obtain ⟨b0, b1, b2, b3, b4⟩ := hcell 1 (by omega)
  obtain ⟨c0, -⟩ := hcell 2 (by omega)
  simp only [List.getD_cons_zero, List.getD_cons_succ, Nat.zero_mul, Nat.add_zero, Nat.one_mul, Nat.reduceMul, Nat.add_assoc, Nat.reduceAdd] at a0 a1 a2 a3 a4 b0 b1 b2 b3 b4 c0
  have hb1 : b < w.heap.size + 1 := by omega
  have hb2 : b < w.heap.size + 1 + 1 := by omega
  have hb3 : b < w.heap.size + 1 + 1 + 1 := by omega
  have hn0 : ¬ b = w.heap.size := by omega
  have hn1 : ¬ b = w.heap.size + 1 := by omega
  have hn2 : ¬ b = w.heap.size + 1 + 1 := by omega
  have hn3 : ¬ b = w.heap.size + 1 + 1 + 1 := by omega
  have hcap : (3 : Int) ≤ (cap : Int) := by omega
  have f5 : (k == 5) = false := by simpa using k5
  clear hcell hu
  have fa : (xk == 2) = false := by simpa using ha
  subst hb
  have fB : (yt.toList == c.toList) = false := st_beq hB
  go_enter Tryz.func21, Tryz.ntmps21
  go_wp2_with fail
  go_returns
  exact ⟨by go_grown, rfl⟩
theorem nf13 (w : World) (u : Value) (c : ByteArray) (xk xvk xvn yk yvk yvn k : Int) (xvt xt yvt yt zt : ByteArray) (zv : V) (k5 : k ≠ 5) (ha : xk ≠ 2) (hb : yk = 2) (hB : yt = c) (hx : xk ≠ 1) (hu : Rd w 5 3 u (ocs [⟨xk, ⟨xvk, xvn, xvt⟩, xt⟩, ⟨yk, ⟨yvk, yvn, yvt⟩, yt⟩, ⟨k, zv, zt⟩])) :
    Calls Tryz.prog 21 #[.string c, u] w (SideIs (none) w) := by
  obtain ⟨b, p, cap, rfl, hmc, hcm, hbw, hcell⟩ := ops_of hu (by omega)
  obtain ⟨a0, a1, a2, a3, a4⟩ := hcell 0 (by omega)
  obtain ⟨b0, b1, b2, b3, b4⟩ := hcell 1 (by omega)
  obtain ⟨c0, -⟩ := hcell 2 (by omega)
  simp only [List.getD_cons_zero, List.getD_cons_succ, Nat.zero_mul, Nat.add_zero, Nat.one_mul, Nat.reduceMul, Nat.add_assoc, Nat.reduceAdd] at a0 a1 a2 a3 a4 b0 b1 b2 b3 b4 c0
  have hb1 : b < w.heap.size + 1 := by omega
  have hb2 : b < w.heap.size + 1 + 1 := by omega
  have hb3 : b < w.heap.size + 1 + 1 + 1 := by omega
  have hn0 : ¬ b = w.heap.size := by omega
  have hn1 : ¬ b = w.heap.size + 1 := by omega
  have hn2 : ¬ b = w.heap.size + 1 + 1 := by omega
  have hn3 : ¬ b = w.heap.size + 1 + 1 + 1 := by omega
  have hcap : (3 : Int) ≤ (cap : Int) := by omega
  have f5 : (k == 5) = false := by simpa using k5
  clear hcell hu
  have fa : (xk == 2) = false := by simpa using ha
  subst hb
  subst hB
  have fx : (xk == 1) = false := by simpa using hx
  go_enter Tryz.func21, Tryz.ntmps21
  go_wp2_with fail
  go_returns
  exact ⟨by go_grown, rfl⟩
theorem nf21 (w : World) (u : Value) (c : ByteArray) (xk xvk xvn yk yvk yvn k : Int) (xvt xt yvt yt zt : ByteArray) (zv : V) (k5 : k ≠ 5) (ha : xk = 2) (hA : ¬ xt = c) (hb : yk ≠ 2) (hu : Rd w 5 3 u (ocs [⟨xk, ⟨xvk, xvn, xvt⟩, xt⟩, ⟨yk, ⟨yvk, yvn, yvt⟩, yt⟩, ⟨k, zv, zt⟩])) :
    Calls Tryz.prog 21 #[.string c, u] w (SideIs (none) w) := by
  obtain ⟨b, p, cap, rfl, hmc, hcm, hbw, hcell⟩ := ops_of hu (by omega)
  obtain ⟨a0, a1, a2, a3, a4⟩ := hcell 0 (by omega)
  obtain ⟨b0, b1, b2, b3, b4⟩ := hcell 1 (by omega)
  obtain ⟨c0, -⟩ := hcell 2 (by omega)
  simp only [List.getD_cons_zero, List.getD_cons_succ, Nat.zero_mul, Nat.add_zero, Nat.one_mul, Nat.reduceMul, Nat.add_assoc, Nat.reduceAdd] at a0 a1 a2 a3 a4 b0 b1 b2 b3 b4 c0
  have hb1 : b < w.heap.size + 1 := by omega
  have hb2 : b < w.heap.size + 1 + 1 := by omega
  have hb3 : b < w.heap.size + 1 + 1 + 1 := by omega
  have hn0 : ¬ b = w.heap.size := by omega
  have hn1 : ¬ b = w.heap.size + 1 := by omega
  have hn2 : ¬ b = w.heap.size + 1 + 1 := by omega
  have hn3 : ¬ b = w.heap.size + 1 + 1 + 1 := by omega
  have hcap : (3 : Int) ≤ (cap : Int) := by omega
  have f5 : (k == 5) = false := by simpa using k5
  clear hcell hu
  subst ha
  have fA : (xt.toList == c.toList) = false := st_beq hA
  have fb : (yk == 2) = false := by simpa using hb
  go_enter Tryz.func21, Tryz.ntmps21
  go_wp2_with fail
  go_returns
  exact ⟨by go_grown, rfl⟩
theorem nf22 (w : World) (u : Value) (c : ByteArray) (xk xvk xvn yk yvk yvn k : Int) (xvt xt yvt yt zt : ByteArray) (zv : V) (k5 : k ≠ 5) (ha : xk = 2) (hA : ¬ xt = c) (hb : yk = 2) (hB : ¬ yt = c) (hu : Rd w 5 3 u (ocs [⟨xk, ⟨xvk, xvn, xvt⟩, xt⟩, ⟨yk, ⟨yvk, yvn, yvt⟩, yt⟩, ⟨k, zv, zt⟩])) :
    Calls Tryz.prog 21 #[.string c, u] w (SideIs (none) w) := by
  obtain ⟨b, p, cap, rfl, hmc, hcm, hbw, hcell⟩ := ops_of hu (by omega)
  obtain ⟨a0, a1, a2, a3, a4⟩ := hcell 0 (by omega)
  obtain ⟨b0, b1, b2, b3, b4⟩ := hcell 1 (by omega)
  obtain ⟨c0, -⟩ := hcell 2 (by omega)
  simp only [List.getD_cons_zero, List.getD_cons_succ, Nat.zero_mul, Nat.add_zero, Nat.one_mul, Nat.reduceMul, Nat.add_assoc, Nat.reduceAdd] at a0 a1 a2 a3 a4 b0 b1 b2 b3 b4 c0
  have hb1 : b < w.heap.size + 1 := by omega
  have hb2 : b < w.heap.size + 1 + 1 := by omega
  have hb3 : b < w.heap.size + 1 + 1 + 1 := by omega
  have hn0 : ¬ b = w.heap.size := by omega
  have hn1 : ¬ b = w.heap.size + 1 := by omega
  have hn2 : ¬ b = w.heap.size + 1 + 1 := by omega
  have hn3 : ¬ b = w.heap.size + 1 + 1 + 1 := by omega
  have hcap : (3 : Int) ≤ (cap : Int) := by omega
  have f5 : (k == 5) = false := by simpa using k5
  clear hcell hu
  subst ha
  have fA : (xt.toList == c.toList) = false := st_beq hA
  subst hb
  have fB : (yt.toList == c.toList) = false := st_beq hB
  go_enter Tryz.func21, Tryz.ntmps21
  go_wp2_with fail
  go_returns
  exact ⟨by go_grown, rfl⟩
theorem nf23 (w : World) (u : Value) (c : ByteArray) (xk xvk xvn yk yvk yvn k : Int) (xvt xt yvt yt zt : ByteArray) (zv : V) (k5 : k ≠ 5) (ha : xk = 2) (hA : ¬ xt = c) (hb : yk = 2) (hB : yt = c) (hx : xk ≠ 1) (hu : Rd w 5 3 u (ocs [⟨xk, ⟨xvk, xvn, xvt⟩, xt⟩, ⟨yk, ⟨yvk, yvn, yvt⟩, yt⟩, ⟨k, zv, zt⟩])) :
    Calls Tryz.prog 21 #[.string c, u] w (SideIs (none) w) := by
  obtain ⟨b, p, cap, rfl, hmc, hcm, hbw, hcell⟩ := ops_of hu (by omega)
  obtain ⟨a0, a1, a2, a3, a4⟩ := hcell 0 (by omega)
  obtain ⟨b0, b1, b2, b3, b4⟩ := hcell 1 (by omega)
  obtain ⟨c0, -⟩ := hcell 2 (by omega)
  simp only [List.getD_cons_zero, List.getD_cons_succ, Nat.zero_mul, Nat.add_zero, Nat.one_mul, Nat.reduceMul, Nat.add_assoc, Nat.reduceAdd] at a0 a1 a2 a3 a4 b0 b1 b2 b3 b4 c0
  have hb1 : b < w.heap.size + 1 := by omega
  have hb2 : b < w.heap.size + 1 + 1 := by omega
  have hb3 : b < w.heap.size + 1 + 1 + 1 := by omega
  have hn0 : ¬ b = w.heap.size := by omega
  have hn1 : ¬ b = w.heap.size + 1 := by omega
  have hn2 : ¬ b = w.heap.size + 1 + 1 := by omega
  have hn3 : ¬ b = w.heap.size + 1 + 1 + 1 := by omega
  have hcap : (3 : Int) ≤ (cap : Int) := by omega
  have f5 : (k == 5) = false := by simpa using k5
  clear hcell hu
  subst ha
  have fA : (xt.toList == c.toList) = false := st_beq hA
  subst hb
  subst hB
  go_enter Tryz.func21, Tryz.ntmps21
  go_wp2_with fail
  go_returns
  exact ⟨by go_grown, rfl⟩
theorem nf31 (w : World) (u : Value) (c : ByteArray) (xk xvk xvn yk yvk yvn k : Int) (xvt xt yvt yt zt : ByteArray) (zv : V) (k5 : k ≠ 5) (ha : xk = 2) (hA : xt = c) (hy : yk ≠ 1) (hb : yk ≠ 2) (hu : Rd w 5 3 u (ocs [⟨xk, ⟨xvk, xvn, xvt⟩, xt⟩, ⟨yk, ⟨yvk, yvn, yvt⟩, yt⟩, ⟨k, zv, zt⟩])) :
    Calls Tryz.prog 21 #[.string c, u] w (SideIs (none) w) := by
  obtain ⟨b, p, cap, rfl, hmc, hcm, hbw, hcell⟩ := ops_of hu (by omega)
  obtain ⟨a0, a1, a2, a3, a4⟩ := hcell 0 (by omega)
  obtain ⟨b0, b1, b2, b3, b4⟩ := hcell 1 (by omega)
  obtain ⟨c0, -⟩ := hcell 2 (by omega)
  simp only [List.getD_cons_zero, List.getD_cons_succ, Nat.zero_mul, Nat.add_zero, Nat.one_mul, Nat.reduceMul, Nat.add_assoc, Nat.reduceAdd] at a0 a1 a2 a3 a4 b0 b1 b2 b3 b4 c0
  have hb1 : b < w.heap.size + 1 := by omega
  have hb2 : b < w.heap.size + 1 + 1 := by omega
  have hb3 : b < w.heap.size + 1 + 1 + 1 := by omega
  have hn0 : ¬ b = w.heap.size := by omega
  have hn1 : ¬ b = w.heap.size + 1 := by omega
  have hn2 : ¬ b = w.heap.size + 1 + 1 := by omega
  have hn3 : ¬ b = w.heap.size + 1 + 1 + 1 := by omega
  have hcap : (3 : Int) ≤ (cap : Int) := by omega
  have f5 : (k == 5) = false := by simpa using k5
  clear hcell hu
  subst ha hA
  have fy : (yk == 1) = false := by simpa using hy
  have fb : (yk == 2) = false := by simpa using hb
  go_enter Tryz.func21, Tryz.ntmps21
  go_wp2_with fail
  go_returns
  exact ⟨by go_grown, rfl⟩
theorem nf32 (w : World) (u : Value) (c : ByteArray) (xk xvk xvn yk yvk yvn k : Int) (xvt xt yvt yt zt : ByteArray) (zv : V) (k5 : k ≠ 5) (ha : xk = 2) (hA : xt = c) (hy : yk ≠ 1) (hb : yk = 2) (hB : ¬ yt = c) (hu : Rd w 5 3 u (ocs [⟨xk, ⟨xvk, xvn, xvt⟩, xt⟩, ⟨yk, ⟨yvk, yvn, yvt⟩, yt⟩, ⟨k, zv, zt⟩])) :
    Calls Tryz.prog 21 #[.string c, u] w (SideIs (none) w) := by
  obtain ⟨b, p, cap, rfl, hmc, hcm, hbw, hcell⟩ := ops_of hu (by omega)
  obtain ⟨a0, a1, a2, a3, a4⟩ := hcell 0 (by omega)
  obtain ⟨b0, b1, b2, b3, b4⟩ := hcell 1 (by omega)
  obtain ⟨c0, -⟩ := hcell 2 (by omega)
  simp only [List.getD_cons_zero, List.getD_cons_succ, Nat.zero_mul, Nat.add_zero, Nat.one_mul, Nat.reduceMul, Nat.add_assoc, Nat.reduceAdd] at a0 a1 a2 a3 a4 b0 b1 b2 b3 b4 c0
  have hb1 : b < w.heap.size + 1 := by omega
  have hb2 : b < w.heap.size + 1 + 1 := by omega
  have hb3 : b < w.heap.size + 1 + 1 + 1 := by omega
  have hn0 : ¬ b = w.heap.size := by omega
  have hn1 : ¬ b = w.heap.size + 1 := by omega
  have hn2 : ¬ b = w.heap.size + 1 + 1 := by omega
  have hn3 : ¬ b = w.heap.size + 1 + 1 + 1 := by omega
  have hcap : (3 : Int) ≤ (cap : Int) := by omega
  have f5 : (k == 5) = false := by simpa using k5
  clear hcell hu
  subst ha hA
  have fy : (yk == 1) = false := by simpa using hy
  subst hb
  have fB : (yt.toList == xt.toList) = false := st_beq hB
  go_enter Tryz.func21, Tryz.ntmps21
  go_wp2_with fail
  go_returns
  exact ⟨by go_grown, rfl⟩
theorem nf33 (w : World) (u : Value) (c : ByteArray) (xk xvk xvn yk yvk yvn k : Int) (xvt xt yvt yt zt : ByteArray) (zv : V) (k5 : k ≠ 5) (ha : xk = 2) (hA : xt = c) (hy : yk ≠ 1) (hb : yk = 2) (hB : yt = c) (hx : xk ≠ 1) (hu : Rd w 5 3 u (ocs [⟨xk, ⟨xvk, xvn, xvt⟩, xt⟩, ⟨yk, ⟨yvk, yvn, yvt⟩, yt⟩, ⟨k, zv, zt⟩])) :
    Calls Tryz.prog 21 #[.string c, u] w (SideIs (none) w) := by
  obtain ⟨b, p, cap, rfl, hmc, hcm, hbw, hcell⟩ := ops_of hu (by omega)
  obtain ⟨a0, a1, a2, a3, a4⟩ := hcell 0 (by omega)
  obtain ⟨b0, b1, b2, b3, b4⟩ := hcell 1 (by omega)
  obtain ⟨c0, -⟩ := hcell 2 (by omega)
  simp only [List.getD_cons_zero, List.getD_cons_succ, Nat.zero_mul, Nat.add_zero, Nat.one_mul, Nat.reduceMul, Nat.add_assoc, Nat.reduceAdd] at a0 a1 a2 a3 a4 b0 b1 b2 b3 b4 c0
  have hb1 : b < w.heap.size + 1 := by omega
  have hb2 : b < w.heap.size + 1 + 1 := by omega
  have hb3 : b < w.heap.size + 1 + 1 + 1 := by omega
  have hn0 : ¬ b = w.heap.size := by omega
  have hn1 : ¬ b = w.heap.size + 1 := by omega
  have hn2 : ¬ b = w.heap.size + 1 + 1 := by omega
  have hn3 : ¬ b = w.heap.size + 1 + 1 + 1 := by omega
  have hcap : (3 : Int) ≤ (cap : Int) := by omega
  have f5 : (k == 5) = false := by simpa using k5
  clear hcell hu
  subst ha hA
  have fy : (yk == 1) = false := by simpa using hy
  subst hb
  subst hB
  go_enter Tryz.func21, Tryz.ntmps21
  go_wp2_with fail
  go_returns
  exact ⟨by go_grown, rfl⟩
theorem zff (w : World) (u : Value) (c : ByteArray) (xk xvk xvn yk yvk yvn k : Int) (xvt xt yvt yt zt : ByteArray) (zv : V) (k5 : k ≠ 5) (h1 : xk = 2) (h2 : xt = c) (h3 : yk = 1) (h4 : yvk = 0) (hu : Rd w 5 3 u (ocs [⟨xk, ⟨xvk, xvn, xvt⟩, xt⟩, ⟨yk, ⟨yvk, yvn, yvt⟩, yt⟩, ⟨k, zv, zt⟩])) :
    Calls Tryz.prog 21 #[.string c, u] w (SideIs (none) w) := by
  obtain ⟨b, p, cap, rfl, hmc, hcm, hbw, hcell⟩ := ops_of hu (by omega)
  obtain ⟨a0, a1, a2, a3, a4⟩ := hcell 0 (by omega)
  obtain ⟨b0, b1, b2, b3, b4⟩ := hcell 1 (by omega)
  obtain ⟨c0, -⟩ := hcell 2 (by omega)
  simp only [List.getD_cons_zero, List.getD_cons_succ, Nat.zero_mul, Nat.add_zero, Nat.one_mul, Nat.reduceMul, Nat.add_assoc, Nat.reduceAdd] at a0 a1 a2 a3 a4 b0 b1 b2 b3 b4 c0
  have hb1 : b < w.heap.size + 1 := by omega
  have hb2 : b < w.heap.size + 1 + 1 := by omega
  have hb3 : b < w.heap.size + 1 + 1 + 1 := by omega
  have hn0 : ¬ b = w.heap.size := by omega
  have hn1 : ¬ b = w.heap.size + 1 := by omega
  have hn2 : ¬ b = w.heap.size + 1 + 1 := by omega
  have hn3 : ¬ b = w.heap.size + 1 + 1 + 1 := by omega
  have hcap : (3 : Int) ≤ (cap : Int) := by omega
  have f5 : (k == 5) = false := by simpa using k5
  clear hcell hu
  subst h1 h2 h3
  subst h4
  go_enter Tryz.func21, Tryz.ntmps21
  go_wp2_with fail
  go_returns
  exact ⟨by go_grown, rfl⟩
theorem eff (w : World) (u : Value) (c : ByteArray) (xk xvk xvn yk yvk yvn k : Int) (xvt xt yvt yt zt : ByteArray) (zv : V) (k5 : k ≠ 5) (h1 : xk = 2) (h2 : xt = c) (h3 : yk = 1) (h4 : yvk ≠ 0) (hk : k = 6) (hu : Rd w 5 3 u (ocs [⟨xk, ⟨xvk, xvn, xvt⟩, xt⟩, ⟨yk, ⟨yvk, yvn, yvt⟩, yt⟩, ⟨k, zv, zt⟩])) :
    Calls Tryz.prog 21 #[.string c, u] w (SideIs (some (0, ⟨yvk, yvn, yvt⟩)) w) := by
  obtain ⟨b, p, cap, rfl, hmc, hcm, hbw, hcell⟩ := ops_of hu (by omega)
  obtain ⟨a0, a1, a2, a3, a4⟩ := hcell 0 (by omega)
  obtain ⟨b0, b1, b2, b3, b4⟩ := hcell 1 (by omega)
  obtain ⟨c0, -⟩ := hcell 2 (by omega)
  simp only [List.getD_cons_zero, List.getD_cons_succ, Nat.zero_mul, Nat.add_zero, Nat.one_mul, Nat.reduceMul, Nat.add_assoc, Nat.reduceAdd] at a0 a1 a2 a3 a4 b0 b1 b2 b3 b4 c0
  have hb1 : b < w.heap.size + 1 := by omega
  have hb2 : b < w.heap.size + 1 + 1 := by omega
  have hb3 : b < w.heap.size + 1 + 1 + 1 := by omega
  have hn0 : ¬ b = w.heap.size := by omega
  have hn1 : ¬ b = w.heap.size + 1 := by omega
  have hn2 : ¬ b = w.heap.size + 1 + 1 := by omega
  have hn3 : ¬ b = w.heap.size + 1 + 1 + 1 := by omega
  have hcap : (3 : Int) ≤ (cap : Int) := by omega
  have f5 : (k == 5) = false := by simpa using k5
  clear hcell hu
  subst h1 h2 h3
  have f4 : (yvk == 0) = false := by simpa using h4
  subst hk
  go_enter Tryz.func21, Tryz.ntmps21
  go_wp2_with fail
  go_region
  all_goals (go_wp2_with fail)
  all_goals go_returns
  all_goals exact ⟨by go_grown, rfl⟩
theorem lff (w : World) (u : Value) (c : ByteArray) (xk xvk xvn yk yvk yvn k : Int) (xvt xt yvt yt zt : ByteArray) (zv : V) (k5 : k ≠ 5) (h1 : xk = 2) (h2 : xt = c) (h3 : yk = 1) (h4 : yvk ≠ 0) (hk : k = 7) (hu : Rd w 5 3 u (ocs [⟨xk, ⟨xvk, xvn, xvt⟩, xt⟩, ⟨yk, ⟨yvk, yvn, yvt⟩, yt⟩, ⟨k, zv, zt⟩])) :
    Calls Tryz.prog 21 #[.string c, u] w (SideIs (some (1, ⟨yvk, yvn, yvt⟩)) w) := by
  obtain ⟨b, p, cap, rfl, hmc, hcm, hbw, hcell⟩ := ops_of hu (by omega)
  obtain ⟨a0, a1, a2, a3, a4⟩ := hcell 0 (by omega)
  obtain ⟨b0, b1, b2, b3, b4⟩ := hcell 1 (by omega)
  obtain ⟨c0, -⟩ := hcell 2 (by omega)
  simp only [List.getD_cons_zero, List.getD_cons_succ, Nat.zero_mul, Nat.add_zero, Nat.one_mul, Nat.reduceMul, Nat.add_assoc, Nat.reduceAdd] at a0 a1 a2 a3 a4 b0 b1 b2 b3 b4 c0
  have hb1 : b < w.heap.size + 1 := by omega
  have hb2 : b < w.heap.size + 1 + 1 := by omega
  have hb3 : b < w.heap.size + 1 + 1 + 1 := by omega
  have hn0 : ¬ b = w.heap.size := by omega
  have hn1 : ¬ b = w.heap.size + 1 := by omega
  have hn2 : ¬ b = w.heap.size + 1 + 1 := by omega
  have hn3 : ¬ b = w.heap.size + 1 + 1 + 1 := by omega
  have hcap : (3 : Int) ≤ (cap : Int) := by omega
  have f5 : (k == 5) = false := by simpa using k5
  clear hcell hu
  subst h1 h2 h3
  have f4 : (yvk == 0) = false := by simpa using h4
  subst hk
  go_enter Tryz.func21, Tryz.ntmps21
  go_wp2_with fail
  go_region
  all_goals (go_wp2_with fail)
  all_goals go_returns
  all_goals exact ⟨by go_grown, rfl⟩
theorem off (w : World) (u : Value) (c : ByteArray) (xk xvk xvn yk yvk yvn k : Int) (xvt xt yvt yt zt : ByteArray) (zv : V) (k5 : k ≠ 5) (h1 : xk = 2) (h2 : xt = c) (h3 : yk = 1) (h4 : yvk ≠ 0) (hk : k ≠ 6) (hk7 : k ≠ 7) (hu : Rd w 5 3 u (ocs [⟨xk, ⟨xvk, xvn, xvt⟩, xt⟩, ⟨yk, ⟨yvk, yvn, yvt⟩, yt⟩, ⟨k, zv, zt⟩])) :
    Calls Tryz.prog 21 #[.string c, u] w (SideIs (none) w) := by
  obtain ⟨b, p, cap, rfl, hmc, hcm, hbw, hcell⟩ := ops_of hu (by omega)
  obtain ⟨a0, a1, a2, a3, a4⟩ := hcell 0 (by omega)
  obtain ⟨b0, b1, b2, b3, b4⟩ := hcell 1 (by omega)
  obtain ⟨c0, -⟩ := hcell 2 (by omega)
  simp only [List.getD_cons_zero, List.getD_cons_succ, Nat.zero_mul, Nat.add_zero, Nat.one_mul, Nat.reduceMul, Nat.add_assoc, Nat.reduceAdd] at a0 a1 a2 a3 a4 b0 b1 b2 b3 b4 c0
  have hb1 : b < w.heap.size + 1 := by omega
  have hb2 : b < w.heap.size + 1 + 1 := by omega
  have hb3 : b < w.heap.size + 1 + 1 + 1 := by omega
  have hn0 : ¬ b = w.heap.size := by omega
  have hn1 : ¬ b = w.heap.size + 1 := by omega
  have hn2 : ¬ b = w.heap.size + 1 + 1 := by omega
  have hn3 : ¬ b = w.heap.size + 1 + 1 + 1 := by omega
  have hcap : (3 : Int) ≤ (cap : Int) := by omega
  have f5 : (k == 5) = false := by simpa using k5
  clear hcell hu
  subst h1 h2 h3
  have f4 : (yvk == 0) = false := by simpa using h4
  have f6 : (k == 6) = false := by simpa using hk
  have f7 : (k == 7) = false := by simpa using hk7
  go_enter Tryz.func21, Tryz.ntmps21
  go_wp2_with fail
  go_returns
  exact ⟨by go_grown, rfl⟩
theorem zfs (w : World) (u : Value) (c : ByteArray) (xk xvk xvn yk yvk yvn k : Int) (xvt xt yvt yt zt : ByteArray) (zv : V) (k5 : k ≠ 5) (h1 : yk = 2) (h2 : yt = c) (h3 : xk = 1) (h4 : xvk = 0) (hu : Rd w 5 3 u (ocs [⟨xk, ⟨xvk, xvn, xvt⟩, xt⟩, ⟨yk, ⟨yvk, yvn, yvt⟩, yt⟩, ⟨k, zv, zt⟩])) :
    Calls Tryz.prog 21 #[.string c, u] w (SideIs (none) w) := by
  obtain ⟨b, p, cap, rfl, hmc, hcm, hbw, hcell⟩ := ops_of hu (by omega)
  obtain ⟨a0, a1, a2, a3, a4⟩ := hcell 0 (by omega)
  obtain ⟨b0, b1, b2, b3, b4⟩ := hcell 1 (by omega)
  obtain ⟨c0, -⟩ := hcell 2 (by omega)
  simp only [List.getD_cons_zero, List.getD_cons_succ, Nat.zero_mul, Nat.add_zero, Nat.one_mul, Nat.reduceMul, Nat.add_assoc, Nat.reduceAdd] at a0 a1 a2 a3 a4 b0 b1 b2 b3 b4 c0
  have hb1 : b < w.heap.size + 1 := by omega
  have hb2 : b < w.heap.size + 1 + 1 := by omega
  have hb3 : b < w.heap.size + 1 + 1 + 1 := by omega
  have hn0 : ¬ b = w.heap.size := by omega
  have hn1 : ¬ b = w.heap.size + 1 := by omega
  have hn2 : ¬ b = w.heap.size + 1 + 1 := by omega
  have hn3 : ¬ b = w.heap.size + 1 + 1 + 1 := by omega
  have hcap : (3 : Int) ≤ (cap : Int) := by omega
  have f5 : (k == 5) = false := by simpa using k5
  clear hcell hu
  subst h1 h2 h3
  subst h4
  go_enter Tryz.func21, Tryz.ntmps21
  go_wp2_with fail
  go_returns
  exact ⟨by go_grown, rfl⟩
theorem efs (w : World) (u : Value) (c : ByteArray) (xk xvk xvn yk yvk yvn k : Int) (xvt xt yvt yt zt : ByteArray) (zv : V) (k5 : k ≠ 5) (h1 : yk = 2) (h2 : yt = c) (h3 : xk = 1) (h4 : xvk ≠ 0) (hk : k = 6) (hu : Rd w 5 3 u (ocs [⟨xk, ⟨xvk, xvn, xvt⟩, xt⟩, ⟨yk, ⟨yvk, yvn, yvt⟩, yt⟩, ⟨k, zv, zt⟩])) :
    Calls Tryz.prog 21 #[.string c, u] w (SideIs (some (0, ⟨xvk, xvn, xvt⟩)) w) := by
  obtain ⟨b, p, cap, rfl, hmc, hcm, hbw, hcell⟩ := ops_of hu (by omega)
  obtain ⟨a0, a1, a2, a3, a4⟩ := hcell 0 (by omega)
  obtain ⟨b0, b1, b2, b3, b4⟩ := hcell 1 (by omega)
  obtain ⟨c0, -⟩ := hcell 2 (by omega)
  simp only [List.getD_cons_zero, List.getD_cons_succ, Nat.zero_mul, Nat.add_zero, Nat.one_mul, Nat.reduceMul, Nat.add_assoc, Nat.reduceAdd] at a0 a1 a2 a3 a4 b0 b1 b2 b3 b4 c0
  have hb1 : b < w.heap.size + 1 := by omega
  have hb2 : b < w.heap.size + 1 + 1 := by omega
  have hb3 : b < w.heap.size + 1 + 1 + 1 := by omega
  have hn0 : ¬ b = w.heap.size := by omega
  have hn1 : ¬ b = w.heap.size + 1 := by omega
  have hn2 : ¬ b = w.heap.size + 1 + 1 := by omega
  have hn3 : ¬ b = w.heap.size + 1 + 1 + 1 := by omega
  have hcap : (3 : Int) ≤ (cap : Int) := by omega
  have f5 : (k == 5) = false := by simpa using k5
  clear hcell hu
  subst h1 h2 h3
  have f4 : (xvk == 0) = false := by simpa using h4
  subst hk
  go_enter Tryz.func21, Tryz.ntmps21
  go_wp2_with fail
  go_region
  all_goals (go_wp2_with fail)
  all_goals go_returns
  all_goals exact ⟨by go_grown, rfl⟩
theorem lfs (w : World) (u : Value) (c : ByteArray) (xk xvk xvn yk yvk yvn k : Int) (xvt xt yvt yt zt : ByteArray) (zv : V) (k5 : k ≠ 5) (h1 : yk = 2) (h2 : yt = c) (h3 : xk = 1) (h4 : xvk ≠ 0) (hk : k = 7) (hu : Rd w 5 3 u (ocs [⟨xk, ⟨xvk, xvn, xvt⟩, xt⟩, ⟨yk, ⟨yvk, yvn, yvt⟩, yt⟩, ⟨k, zv, zt⟩])) :
    Calls Tryz.prog 21 #[.string c, u] w (SideIs (some (-1, ⟨xvk, xvn, xvt⟩)) w) := by
  obtain ⟨b, p, cap, rfl, hmc, hcm, hbw, hcell⟩ := ops_of hu (by omega)
  obtain ⟨a0, a1, a2, a3, a4⟩ := hcell 0 (by omega)
  obtain ⟨b0, b1, b2, b3, b4⟩ := hcell 1 (by omega)
  obtain ⟨c0, -⟩ := hcell 2 (by omega)
  simp only [List.getD_cons_zero, List.getD_cons_succ, Nat.zero_mul, Nat.add_zero, Nat.one_mul, Nat.reduceMul, Nat.add_assoc, Nat.reduceAdd] at a0 a1 a2 a3 a4 b0 b1 b2 b3 b4 c0
  have hb1 : b < w.heap.size + 1 := by omega
  have hb2 : b < w.heap.size + 1 + 1 := by omega
  have hb3 : b < w.heap.size + 1 + 1 + 1 := by omega
  have hn0 : ¬ b = w.heap.size := by omega
  have hn1 : ¬ b = w.heap.size + 1 := by omega
  have hn2 : ¬ b = w.heap.size + 1 + 1 := by omega
  have hn3 : ¬ b = w.heap.size + 1 + 1 + 1 := by omega
  have hcap : (3 : Int) ≤ (cap : Int) := by omega
  have f5 : (k == 5) = false := by simpa using k5
  clear hcell hu
  subst h1 h2 h3
  have f4 : (xvk == 0) = false := by simpa using h4
  subst hk
  go_enter Tryz.func21, Tryz.ntmps21
  go_wp2_with fail
  go_region
  all_goals (go_wp2_with fail)
  all_goals go_returns
  all_goals exact ⟨by go_grown, rfl⟩
theorem ofs (w : World) (u : Value) (c : ByteArray) (xk xvk xvn yk yvk yvn k : Int) (xvt xt yvt yt zt : ByteArray) (zv : V) (k5 : k ≠ 5) (h1 : yk = 2) (h2 : yt = c) (h3 : xk = 1) (h4 : xvk ≠ 0) (hk : k ≠ 6) (hk7 : k ≠ 7) (hu : Rd w 5 3 u (ocs [⟨xk, ⟨xvk, xvn, xvt⟩, xt⟩, ⟨yk, ⟨yvk, yvn, yvt⟩, yt⟩, ⟨k, zv, zt⟩])) :
    Calls Tryz.prog 21 #[.string c, u] w (SideIs (none) w) := by
  obtain ⟨b, p, cap, rfl, hmc, hcm, hbw, hcell⟩ := ops_of hu (by omega)
  obtain ⟨a0, a1, a2, a3, a4⟩ := hcell 0 (by omega)
  obtain ⟨b0, b1, b2, b3, b4⟩ := hcell 1 (by omega)
  obtain ⟨c0, -⟩ := hcell 2 (by omega)
  simp only [List.getD_cons_zero, List.getD_cons_succ, Nat.zero_mul, Nat.add_zero, Nat.one_mul, Nat.reduceMul, Nat.add_assoc, Nat.reduceAdd] at a0 a1 a2 a3 a4 b0 b1 b2 b3 b4 c0
  have hb1 : b < w.heap.size + 1 := by omega
  have hb2 : b < w.heap.size + 1 + 1 := by omega
  have hb3 : b < w.heap.size + 1 + 1 + 1 := by omega
  have hn0 : ¬ b = w.heap.size := by omega
  have hn1 : ¬ b = w.heap.size + 1 := by omega
  have hn2 : ¬ b = w.heap.size + 1 + 1 := by omega
  have hn3 : ¬ b = w.heap.size + 1 + 1 + 1 := by omega
  have hcap : (3 : Int) ≤ (cap : Int) := by omega
  have f5 : (k == 5) = false := by simpa using k5
  clear hcell hu
  subst h1 h2 h3
  have f4 : (xvk == 0) = false := by simpa using h4
  have f6 : (k == 6) = false := by simpa using hk
  have f7 : (k == 7) = false := by simpa using hk7
  go_enter Tryz.func21, Tryz.ntmps21
  go_wp2_with fail
  go_returns
  exact ⟨by go_grown, rfl⟩
theorem nt11 (w : World) (u : Value) (c : ByteArray) (xk xvk xvn yk yvk yvn k : Int) (xvt xt yvt yt zt : ByteArray) (zv : V) (sv1 : V) (st1 : ByteArray) (ha : xk ≠ 2) (hb : yk ≠ 2) (hu : Rd w 5 4 u (ocs [⟨xk, ⟨xvk, xvn, xvt⟩, xt⟩, ⟨yk, ⟨yvk, yvn, yvt⟩, yt⟩, ⟨k, zv, zt⟩, ⟨5, sv1, st1⟩])) :
    Calls Tryz.prog 21 #[.string c, u] w (SideIs (none) w) := by
  obtain ⟨b, p, cap, rfl, hmc, hcm, hbw, hcell⟩ := ops_of hu (by omega)
  obtain ⟨a0, a1, a2, a3, a4⟩ := hcell 0 (by omega)
  obtain ⟨b0, b1, b2, b3, b4⟩ := hcell 1 (by omega)
  obtain ⟨c0, -⟩ := hcell 2 (by omega)
  obtain ⟨d0, -⟩ := hcell 3 (by omega)
  simp only [List.getD_cons_zero, List.getD_cons_succ, Nat.zero_mul, Nat.add_zero, Nat.one_mul, Nat.reduceMul, Nat.add_assoc, Nat.reduceAdd] at a0 a1 a2 a3 a4 b0 b1 b2 b3 b4 c0 d0
  have hb1 : b < w.heap.size + 1 := by omega
  have hb2 : b < w.heap.size + 1 + 1 := by omega
  have hb3 : b < w.heap.size + 1 + 1 + 1 := by omega
  have hn0 : ¬ b = w.heap.size := by omega
  have hn1 : ¬ b = w.heap.size + 1 := by omega
  have hn2 : ¬ b = w.heap.size + 1 + 1 := by omega
  have hn3 : ¬ b = w.heap.size + 1 + 1 + 1 := by omega
  have hcap : (3 : Int) ≤ (cap : Int) := by omega
  clear hcell hu
  have fa : (xk == 2) = false := by simpa using ha
  have fb : (yk == 2) = false := by simpa using hb
  go_enter Tryz.func21, Tryz.ntmps21
  go_wp2_with fail
  go_returns
  exact ⟨by go_grown, rfl⟩
theorem nt12 (w : World) (u : Value) (c : ByteArray) (xk xvk xvn yk yvk yvn k : Int) (xvt xt yvt yt zt : ByteArray) (zv : V) (sv1 : V) (st1 : ByteArray) (ha : xk ≠ 2) (hb : yk = 2) (hB : ¬ yt = c) (hu : Rd w 5 4 u (ocs [⟨xk, ⟨xvk, xvn, xvt⟩, xt⟩, ⟨yk, ⟨yvk, yvn, yvt⟩, yt⟩, ⟨k, zv, zt⟩, ⟨5, sv1, st1⟩])) :
    Calls Tryz.prog 21 #[.string c, u] w (SideIs (none) w) := by
  obtain ⟨b, p, cap, rfl, hmc, hcm, hbw, hcell⟩ := ops_of hu (by omega)
  obtain ⟨a0, a1, a2, a3, a4⟩ := hcell 0 (by omega)
  obtain ⟨b0, b1, b2, b3, b4⟩ := hcell 1 (by omega)
  obtain ⟨c0, -⟩ := hcell 2 (by omega)
  obtain ⟨d0, -⟩ := hcell 3 (by omega)
  simp only [List.getD_cons_zero, List.getD_cons_succ, Nat.zero_mul, Nat.add_zero, Nat.one_mul, Nat.reduceMul, Nat.add_assoc, Nat.reduceAdd] at a0 a1 a2 a3 a4 b0 b1 b2 b3 b4 c0 d0
  have hb1 : b < w.heap.size + 1 := by omega
  have hb2 : b < w.heap.size + 1 + 1 := by omega
  have hb3 : b < w.heap.size + 1 + 1 + 1 := by omega
  have hn0 : ¬ b = w.heap.size := by omega
  have hn1 : ¬ b = w.heap.size + 1 := by omega
  have hn2 : ¬ b = w.heap.size + 1 + 1 := by omega
  have hn3 : ¬ b = w.heap.size + 1 + 1 + 1 := by omega
  have hcap : (3 : Int) ≤ (cap : Int) := by omega
  clear hcell hu
  have fa : (xk == 2) = false := by simpa using ha
  subst hb
  have fB : (yt.toList == c.toList) = false := st_beq hB
  go_enter Tryz.func21, Tryz.ntmps21
  go_wp2_with fail
  go_returns
  exact ⟨by go_grown, rfl⟩
theorem nt13 (w : World) (u : Value) (c : ByteArray) (xk xvk xvn yk yvk yvn k : Int) (xvt xt yvt yt zt : ByteArray) (zv : V) (sv1 : V) (st1 : ByteArray) (ha : xk ≠ 2) (hb : yk = 2) (hB : yt = c) (hx : xk ≠ 1) (hu : Rd w 5 4 u (ocs [⟨xk, ⟨xvk, xvn, xvt⟩, xt⟩, ⟨yk, ⟨yvk, yvn, yvt⟩, yt⟩, ⟨k, zv, zt⟩, ⟨5, sv1, st1⟩])) :
    Calls Tryz.prog 21 #[.string c, u] w (SideIs (none) w) := by
  obtain ⟨b, p, cap, rfl, hmc, hcm, hbw, hcell⟩ := ops_of hu (by omega)
  obtain ⟨a0, a1, a2, a3, a4⟩ := hcell 0 (by omega)
  obtain ⟨b0, b1, b2, b3, b4⟩ := hcell 1 (by omega)
  obtain ⟨c0, -⟩ := hcell 2 (by omega)
  obtain ⟨d0, -⟩ := hcell 3 (by omega)
  simp only [List.getD_cons_zero, List.getD_cons_succ, Nat.zero_mul, Nat.add_zero, Nat.one_mul, Nat.reduceMul, Nat.add_assoc, Nat.reduceAdd] at a0 a1 a2 a3 a4 b0 b1 b2 b3 b4 c0 d0
  have hb1 : b < w.heap.size + 1 := by omega
  have hb2 : b < w.heap.size + 1 + 1 := by omega
  have hb3 : b < w.heap.size + 1 + 1 + 1 := by omega
  have hn0 : ¬ b = w.heap.size := by omega
  have hn1 : ¬ b = w.heap.size + 1 := by omega
  have hn2 : ¬ b = w.heap.size + 1 + 1 := by omega
  have hn3 : ¬ b = w.heap.size + 1 + 1 + 1 := by omega
  have hcap : (3 : Int) ≤ (cap : Int) := by omega
  clear hcell hu
  have fa : (xk == 2) = false := by simpa using ha
  subst hb
  subst hB
  have fx : (xk == 1) = false := by simpa using hx
  go_enter Tryz.func21, Tryz.ntmps21
  go_wp2_with fail
  go_returns
  exact ⟨by go_grown, rfl⟩
theorem nt21 (w : World) (u : Value) (c : ByteArray) (xk xvk xvn yk yvk yvn k : Int) (xvt xt yvt yt zt : ByteArray) (zv : V) (sv1 : V) (st1 : ByteArray) (ha : xk = 2) (hA : ¬ xt = c) (hb : yk ≠ 2) (hu : Rd w 5 4 u (ocs [⟨xk, ⟨xvk, xvn, xvt⟩, xt⟩, ⟨yk, ⟨yvk, yvn, yvt⟩, yt⟩, ⟨k, zv, zt⟩, ⟨5, sv1, st1⟩])) :
    Calls Tryz.prog 21 #[.string c, u] w (SideIs (none) w) := by
  obtain ⟨b, p, cap, rfl, hmc, hcm, hbw, hcell⟩ := ops_of hu (by omega)
  obtain ⟨a0, a1, a2, a3, a4⟩ := hcell 0 (by omega)
  obtain ⟨b0, b1, b2, b3, b4⟩ := hcell 1 (by omega)
  obtain ⟨c0, -⟩ := hcell 2 (by omega)
  obtain ⟨d0, -⟩ := hcell 3 (by omega)
  simp only [List.getD_cons_zero, List.getD_cons_succ, Nat.zero_mul, Nat.add_zero, Nat.one_mul, Nat.reduceMul, Nat.add_assoc, Nat.reduceAdd] at a0 a1 a2 a3 a4 b0 b1 b2 b3 b4 c0 d0
  have hb1 : b < w.heap.size + 1 := by omega
  have hb2 : b < w.heap.size + 1 + 1 := by omega
  have hb3 : b < w.heap.size + 1 + 1 + 1 := by omega
  have hn0 : ¬ b = w.heap.size := by omega
  have hn1 : ¬ b = w.heap.size + 1 := by omega
  have hn2 : ¬ b = w.heap.size + 1 + 1 := by omega
  have hn3 : ¬ b = w.heap.size + 1 + 1 + 1 := by omega
  have hcap : (3 : Int) ≤ (cap : Int) := by omega
  clear hcell hu
  subst ha
  have fA : (xt.toList == c.toList) = false := st_beq hA
  have fb : (yk == 2) = false := by simpa using hb
  go_enter Tryz.func21, Tryz.ntmps21
  go_wp2_with fail
  go_returns
  exact ⟨by go_grown, rfl⟩
theorem nt22 (w : World) (u : Value) (c : ByteArray) (xk xvk xvn yk yvk yvn k : Int) (xvt xt yvt yt zt : ByteArray) (zv : V) (sv1 : V) (st1 : ByteArray) (ha : xk = 2) (hA : ¬ xt = c) (hb : yk = 2) (hB : ¬ yt = c) (hu : Rd w 5 4 u (ocs [⟨xk, ⟨xvk, xvn, xvt⟩, xt⟩, ⟨yk, ⟨yvk, yvn, yvt⟩, yt⟩, ⟨k, zv, zt⟩, ⟨5, sv1, st1⟩])) :
    Calls Tryz.prog 21 #[.string c, u] w (SideIs (none) w) := by
  obtain ⟨b, p, cap, rfl, hmc, hcm, hbw, hcell⟩ := ops_of hu (by omega)
  obtain ⟨a0, a1, a2, a3, a4⟩ := hcell 0 (by omega)
  obtain ⟨b0, b1, b2, b3, b4⟩ := hcell 1 (by omega)
  obtain ⟨c0, -⟩ := hcell 2 (by omega)
  obtain ⟨d0, -⟩ := hcell 3 (by omega)
  simp only [List.getD_cons_zero, List.getD_cons_succ, Nat.zero_mul, Nat.add_zero, Nat.one_mul, Nat.reduceMul, Nat.add_assoc, Nat.reduceAdd] at a0 a1 a2 a3 a4 b0 b1 b2 b3 b4 c0 d0
  have hb1 : b < w.heap.size + 1 := by omega
  have hb2 : b < w.heap.size + 1 + 1 := by omega
  have hb3 : b < w.heap.size + 1 + 1 + 1 := by omega
  have hn0 : ¬ b = w.heap.size := by omega
  have hn1 : ¬ b = w.heap.size + 1 := by omega
  have hn2 : ¬ b = w.heap.size + 1 + 1 := by omega
  have hn3 : ¬ b = w.heap.size + 1 + 1 + 1 := by omega
  have hcap : (3 : Int) ≤ (cap : Int) := by omega
  clear hcell hu
  subst ha
  have fA : (xt.toList == c.toList) = false := st_beq hA
  subst hb
  have fB : (yt.toList == c.toList) = false := st_beq hB
  go_enter Tryz.func21, Tryz.ntmps21
  go_wp2_with fail
  go_returns
  exact ⟨by go_grown, rfl⟩
theorem nt23 (w : World) (u : Value) (c : ByteArray) (xk xvk xvn yk yvk yvn k : Int) (xvt xt yvt yt zt : ByteArray) (zv : V) (sv1 : V) (st1 : ByteArray) (ha : xk = 2) (hA : ¬ xt = c) (hb : yk = 2) (hB : yt = c) (hx : xk ≠ 1) (hu : Rd w 5 4 u (ocs [⟨xk, ⟨xvk, xvn, xvt⟩, xt⟩, ⟨yk, ⟨yvk, yvn, yvt⟩, yt⟩, ⟨k, zv, zt⟩, ⟨5, sv1, st1⟩])) :
    Calls Tryz.prog 21 #[.string c, u] w (SideIs (none) w) := by
  obtain ⟨b, p, cap, rfl, hmc, hcm, hbw, hcell⟩ := ops_of hu (by omega)
  obtain ⟨a0, a1, a2, a3, a4⟩ := hcell 0 (by omega)
  obtain ⟨b0, b1, b2, b3, b4⟩ := hcell 1 (by omega)
  obtain ⟨c0, -⟩ := hcell 2 (by omega)
  obtain ⟨d0, -⟩ := hcell 3 (by omega)
  simp only [List.getD_cons_zero, List.getD_cons_succ, Nat.zero_mul, Nat.add_zero, Nat.one_mul, Nat.reduceMul, Nat.add_assoc, Nat.reduceAdd] at a0 a1 a2 a3 a4 b0 b1 b2 b3 b4 c0 d0
  have hb1 : b < w.heap.size + 1 := by omega
  have hb2 : b < w.heap.size + 1 + 1 := by omega
  have hb3 : b < w.heap.size + 1 + 1 + 1 := by omega
  have hn0 : ¬ b = w.heap.size := by omega
  have hn1 : ¬ b = w.heap.size + 1 := by omega
  have hn2 : ¬ b = w.heap.size + 1 + 1 := by omega
  have hn3 : ¬ b = w.heap.size + 1 + 1 + 1 := by omega
  have hcap : (3 : Int) ≤ (cap : Int) := by omega
  clear hcell hu
  subst ha
  have fA : (xt.toList == c.toList) = false := st_beq hA
  subst hb
  subst hB
  go_enter Tryz.func21, Tryz.ntmps21
  go_wp2_with fail
  go_returns
  exact ⟨by go_grown, rfl⟩
theorem nt31 (w : World) (u : Value) (c : ByteArray) (xk xvk xvn yk yvk yvn k : Int) (xvt xt yvt yt zt : ByteArray) (zv : V) (sv1 : V) (st1 : ByteArray) (ha : xk = 2) (hA : xt = c) (hy : yk ≠ 1) (hb : yk ≠ 2) (hu : Rd w 5 4 u (ocs [⟨xk, ⟨xvk, xvn, xvt⟩, xt⟩, ⟨yk, ⟨yvk, yvn, yvt⟩, yt⟩, ⟨k, zv, zt⟩, ⟨5, sv1, st1⟩])) :
    Calls Tryz.prog 21 #[.string c, u] w (SideIs (none) w) := by
  obtain ⟨b, p, cap, rfl, hmc, hcm, hbw, hcell⟩ := ops_of hu (by omega)
  obtain ⟨a0, a1, a2, a3, a4⟩ := hcell 0 (by omega)
  obtain ⟨b0, b1, b2, b3, b4⟩ := hcell 1 (by omega)
  obtain ⟨c0, -⟩ := hcell 2 (by omega)
  obtain ⟨d0, -⟩ := hcell 3 (by omega)
  simp only [List.getD_cons_zero, List.getD_cons_succ, Nat.zero_mul, Nat.add_zero, Nat.one_mul, Nat.reduceMul, Nat.add_assoc, Nat.reduceAdd] at a0 a1 a2 a3 a4 b0 b1 b2 b3 b4 c0 d0
  have hb1 : b < w.heap.size + 1 := by omega
  have hb2 : b < w.heap.size + 1 + 1 := by omega
  have hb3 : b < w.heap.size + 1 + 1 + 1 := by omega
  have hn0 : ¬ b = w.heap.size := by omega
  have hn1 : ¬ b = w.heap.size + 1 := by omega
  have hn2 : ¬ b = w.heap.size + 1 + 1 := by omega
  have hn3 : ¬ b = w.heap.size + 1 + 1 + 1 := by omega
  have hcap : (3 : Int) ≤ (cap : Int) := by omega
  clear hcell hu
  subst ha hA
  have fy : (yk == 1) = false := by simpa using hy
  have fb : (yk == 2) = false := by simpa using hb
  go_enter Tryz.func21, Tryz.ntmps21
  go_wp2_with fail
  go_returns
  exact ⟨by go_grown, rfl⟩
theorem nt32 (w : World) (u : Value) (c : ByteArray) (xk xvk xvn yk yvk yvn k : Int) (xvt xt yvt yt zt : ByteArray) (zv : V) (sv1 : V) (st1 : ByteArray) (ha : xk = 2) (hA : xt = c) (hy : yk ≠ 1) (hb : yk = 2) (hB : ¬ yt = c) (hu : Rd w 5 4 u (ocs [⟨xk, ⟨xvk, xvn, xvt⟩, xt⟩, ⟨yk, ⟨yvk, yvn, yvt⟩, yt⟩, ⟨k, zv, zt⟩, ⟨5, sv1, st1⟩])) :
    Calls Tryz.prog 21 #[.string c, u] w (SideIs (none) w) := by
  obtain ⟨b, p, cap, rfl, hmc, hcm, hbw, hcell⟩ := ops_of hu (by omega)
  obtain ⟨a0, a1, a2, a3, a4⟩ := hcell 0 (by omega)
  obtain ⟨b0, b1, b2, b3, b4⟩ := hcell 1 (by omega)
  obtain ⟨c0, -⟩ := hcell 2 (by omega)
  obtain ⟨d0, -⟩ := hcell 3 (by omega)
  simp only [List.getD_cons_zero, List.getD_cons_succ, Nat.zero_mul, Nat.add_zero, Nat.one_mul, Nat.reduceMul, Nat.add_assoc, Nat.reduceAdd] at a0 a1 a2 a3 a4 b0 b1 b2 b3 b4 c0 d0
  have hb1 : b < w.heap.size + 1 := by omega
  have hb2 : b < w.heap.size + 1 + 1 := by omega
  have hb3 : b < w.heap.size + 1 + 1 + 1 := by omega
  have hn0 : ¬ b = w.heap.size := by omega
  have hn1 : ¬ b = w.heap.size + 1 := by omega
  have hn2 : ¬ b = w.heap.size + 1 + 1 := by omega
  have hn3 : ¬ b = w.heap.size + 1 + 1 + 1 := by omega
  have hcap : (3 : Int) ≤ (cap : Int) := by omega
  clear hcell hu
  subst ha hA
  have fy : (yk == 1) = false := by simpa using hy
  subst hb
  have fB : (yt.toList == xt.toList) = false := st_beq hB
  go_enter Tryz.func21, Tryz.ntmps21
  go_wp2_with fail
  go_returns
  exact ⟨by go_grown, rfl⟩
theorem nt33 (w : World) (u : Value) (c : ByteArray) (xk xvk xvn yk yvk yvn k : Int) (xvt xt yvt yt zt : ByteArray) (zv : V) (sv1 : V) (st1 : ByteArray) (ha : xk = 2) (hA : xt = c) (hy : yk ≠ 1) (hb : yk = 2) (hB : yt = c) (hx : xk ≠ 1) (hu : Rd w 5 4 u (ocs [⟨xk, ⟨xvk, xvn, xvt⟩, xt⟩, ⟨yk, ⟨yvk, yvn, yvt⟩, yt⟩, ⟨k, zv, zt⟩, ⟨5, sv1, st1⟩])) :
    Calls Tryz.prog 21 #[.string c, u] w (SideIs (none) w) := by
  obtain ⟨b, p, cap, rfl, hmc, hcm, hbw, hcell⟩ := ops_of hu (by omega)
  obtain ⟨a0, a1, a2, a3, a4⟩ := hcell 0 (by omega)
  obtain ⟨b0, b1, b2, b3, b4⟩ := hcell 1 (by omega)
  obtain ⟨c0, -⟩ := hcell 2 (by omega)
  obtain ⟨d0, -⟩ := hcell 3 (by omega)
  simp only [List.getD_cons_zero, List.getD_cons_succ, Nat.zero_mul, Nat.add_zero, Nat.one_mul, Nat.reduceMul, Nat.add_assoc, Nat.reduceAdd] at a0 a1 a2 a3 a4 b0 b1 b2 b3 b4 c0 d0
  have hb1 : b < w.heap.size + 1 := by omega
  have hb2 : b < w.heap.size + 1 + 1 := by omega
  have hb3 : b < w.heap.size + 1 + 1 + 1 := by omega
  have hn0 : ¬ b = w.heap.size := by omega
  have hn1 : ¬ b = w.heap.size + 1 := by omega
  have hn2 : ¬ b = w.heap.size + 1 + 1 := by omega
  have hn3 : ¬ b = w.heap.size + 1 + 1 + 1 := by omega
  have hcap : (3 : Int) ≤ (cap : Int) := by omega
  clear hcell hu
  subst ha hA
  have fy : (yk == 1) = false := by simpa using hy
  subst hb
  subst hB
  go_enter Tryz.func21, Tryz.ntmps21
  go_wp2_with fail
  go_returns
  exact ⟨by go_grown, rfl⟩
theorem ztf (w : World) (u : Value) (c : ByteArray) (xk xvk xvn yk yvk yvn k : Int) (xvt xt yvt yt zt : ByteArray) (zv : V) (sv1 : V) (st1 : ByteArray) (h1 : xk = 2) (h2 : xt = c) (h3 : yk = 1) (h4 : yvk = 0) (hu : Rd w 5 4 u (ocs [⟨xk, ⟨xvk, xvn, xvt⟩, xt⟩, ⟨yk, ⟨yvk, yvn, yvt⟩, yt⟩, ⟨k, zv, zt⟩, ⟨5, sv1, st1⟩])) :
    Calls Tryz.prog 21 #[.string c, u] w (SideIs (none) w) := by
  obtain ⟨b, p, cap, rfl, hmc, hcm, hbw, hcell⟩ := ops_of hu (by omega)
  obtain ⟨a0, a1, a2, a3, a4⟩ := hcell 0 (by omega)
  obtain ⟨b0, b1, b2, b3, b4⟩ := hcell 1 (by omega)
  obtain ⟨c0, -⟩ := hcell 2 (by omega)
  obtain ⟨d0, -⟩ := hcell 3 (by omega)
  simp only [List.getD_cons_zero, List.getD_cons_succ, Nat.zero_mul, Nat.add_zero, Nat.one_mul, Nat.reduceMul, Nat.add_assoc, Nat.reduceAdd] at a0 a1 a2 a3 a4 b0 b1 b2 b3 b4 c0 d0
  have hb1 : b < w.heap.size + 1 := by omega
  have hb2 : b < w.heap.size + 1 + 1 := by omega
  have hb3 : b < w.heap.size + 1 + 1 + 1 := by omega
  have hn0 : ¬ b = w.heap.size := by omega
  have hn1 : ¬ b = w.heap.size + 1 := by omega
  have hn2 : ¬ b = w.heap.size + 1 + 1 := by omega
  have hn3 : ¬ b = w.heap.size + 1 + 1 + 1 := by omega
  have hcap : (3 : Int) ≤ (cap : Int) := by omega
  clear hcell hu
  subst h1 h2 h3
  subst h4
  go_enter Tryz.func21, Tryz.ntmps21
  go_wp2_with fail
  go_returns
  exact ⟨by go_grown, rfl⟩
theorem etf (w : World) (u : Value) (c : ByteArray) (xk xvk xvn yk yvk yvn k : Int) (xvt xt yvt yt zt : ByteArray) (zv : V) (sv1 : V) (st1 : ByteArray) (h1 : xk = 2) (h2 : xt = c) (h3 : yk = 1) (h4 : yvk ≠ 0) (hk : k = 6) (hu : Rd w 5 4 u (ocs [⟨xk, ⟨xvk, xvn, xvt⟩, xt⟩, ⟨yk, ⟨yvk, yvn, yvt⟩, yt⟩, ⟨k, zv, zt⟩, ⟨5, sv1, st1⟩])) :
    Calls Tryz.prog 21 #[.string c, u] w (SideIs (none) w) := by
  obtain ⟨b, p, cap, rfl, hmc, hcm, hbw, hcell⟩ := ops_of hu (by omega)
  obtain ⟨a0, a1, a2, a3, a4⟩ := hcell 0 (by omega)
  obtain ⟨b0, b1, b2, b3, b4⟩ := hcell 1 (by omega)
  obtain ⟨c0, -⟩ := hcell 2 (by omega)
  obtain ⟨d0, -⟩ := hcell 3 (by omega)
  simp only [List.getD_cons_zero, List.getD_cons_succ, Nat.zero_mul, Nat.add_zero, Nat.one_mul, Nat.reduceMul, Nat.add_assoc, Nat.reduceAdd] at a0 a1 a2 a3 a4 b0 b1 b2 b3 b4 c0 d0
  have hb1 : b < w.heap.size + 1 := by omega
  have hb2 : b < w.heap.size + 1 + 1 := by omega
  have hb3 : b < w.heap.size + 1 + 1 + 1 := by omega
  have hn0 : ¬ b = w.heap.size := by omega
  have hn1 : ¬ b = w.heap.size + 1 := by omega
  have hn2 : ¬ b = w.heap.size + 1 + 1 := by omega
  have hn3 : ¬ b = w.heap.size + 1 + 1 + 1 := by omega
  have hcap : (3 : Int) ≤ (cap : Int) := by omega
  clear hcell hu
  subst h1 h2 h3
  have f4 : (yvk == 0) = false := by simpa using h4
  subst hk
  go_enter Tryz.func21, Tryz.ntmps21
  go_wp2_with fail
  go_returns
  exact ⟨by go_grown, rfl⟩
theorem ltf (w : World) (u : Value) (c : ByteArray) (xk xvk xvn yk yvk yvn k : Int) (xvt xt yvt yt zt : ByteArray) (zv : V) (sv1 : V) (st1 : ByteArray) (h1 : xk = 2) (h2 : xt = c) (h3 : yk = 1) (h4 : yvk ≠ 0) (hk : k = 7) (hu : Rd w 5 4 u (ocs [⟨xk, ⟨xvk, xvn, xvt⟩, xt⟩, ⟨yk, ⟨yvk, yvn, yvt⟩, yt⟩, ⟨k, zv, zt⟩, ⟨5, sv1, st1⟩])) :
    Calls Tryz.prog 21 #[.string c, u] w (SideIs (some (-1, ⟨yvk, yvn, yvt⟩)) w) := by
  obtain ⟨b, p, cap, rfl, hmc, hcm, hbw, hcell⟩ := ops_of hu (by omega)
  obtain ⟨a0, a1, a2, a3, a4⟩ := hcell 0 (by omega)
  obtain ⟨b0, b1, b2, b3, b4⟩ := hcell 1 (by omega)
  obtain ⟨c0, -⟩ := hcell 2 (by omega)
  obtain ⟨d0, -⟩ := hcell 3 (by omega)
  simp only [List.getD_cons_zero, List.getD_cons_succ, Nat.zero_mul, Nat.add_zero, Nat.one_mul, Nat.reduceMul, Nat.add_assoc, Nat.reduceAdd] at a0 a1 a2 a3 a4 b0 b1 b2 b3 b4 c0 d0
  have hb1 : b < w.heap.size + 1 := by omega
  have hb2 : b < w.heap.size + 1 + 1 := by omega
  have hb3 : b < w.heap.size + 1 + 1 + 1 := by omega
  have hn0 : ¬ b = w.heap.size := by omega
  have hn1 : ¬ b = w.heap.size + 1 := by omega
  have hn2 : ¬ b = w.heap.size + 1 + 1 := by omega
  have hn3 : ¬ b = w.heap.size + 1 + 1 + 1 := by omega
  have hcap : (3 : Int) ≤ (cap : Int) := by omega
  clear hcell hu
  subst h1 h2 h3
  have f4 : (yvk == 0) = false := by simpa using h4
  subst hk
  go_enter Tryz.func21, Tryz.ntmps21
  go_wp2_with fail
  go_region
  all_goals (go_wp2_with fail)
  all_goals go_returns
  all_goals exact ⟨by go_grown, rfl⟩
theorem otf (w : World) (u : Value) (c : ByteArray) (xk xvk xvn yk yvk yvn k : Int) (xvt xt yvt yt zt : ByteArray) (zv : V) (sv1 : V) (st1 : ByteArray) (h1 : xk = 2) (h2 : xt = c) (h3 : yk = 1) (h4 : yvk ≠ 0) (hk : k ≠ 6) (hk7 : k ≠ 7) (hu : Rd w 5 4 u (ocs [⟨xk, ⟨xvk, xvn, xvt⟩, xt⟩, ⟨yk, ⟨yvk, yvn, yvt⟩, yt⟩, ⟨k, zv, zt⟩, ⟨5, sv1, st1⟩])) :
    Calls Tryz.prog 21 #[.string c, u] w (SideIs (none) w) := by
  obtain ⟨b, p, cap, rfl, hmc, hcm, hbw, hcell⟩ := ops_of hu (by omega)
  obtain ⟨a0, a1, a2, a3, a4⟩ := hcell 0 (by omega)
  obtain ⟨b0, b1, b2, b3, b4⟩ := hcell 1 (by omega)
  obtain ⟨c0, -⟩ := hcell 2 (by omega)
  obtain ⟨d0, -⟩ := hcell 3 (by omega)
  simp only [List.getD_cons_zero, List.getD_cons_succ, Nat.zero_mul, Nat.add_zero, Nat.one_mul, Nat.reduceMul, Nat.add_assoc, Nat.reduceAdd] at a0 a1 a2 a3 a4 b0 b1 b2 b3 b4 c0 d0
  have hb1 : b < w.heap.size + 1 := by omega
  have hb2 : b < w.heap.size + 1 + 1 := by omega
  have hb3 : b < w.heap.size + 1 + 1 + 1 := by omega
  have hn0 : ¬ b = w.heap.size := by omega
  have hn1 : ¬ b = w.heap.size + 1 := by omega
  have hn2 : ¬ b = w.heap.size + 1 + 1 := by omega
  have hn3 : ¬ b = w.heap.size + 1 + 1 + 1 := by omega
  have hcap : (3 : Int) ≤ (cap : Int) := by omega
  clear hcell hu
  subst h1 h2 h3
  have f4 : (yvk == 0) = false := by simpa using h4
  have f6 : (k == 6) = false := by simpa using hk
  have f7 : (k == 7) = false := by simpa using hk7
  go_enter Tryz.func21, Tryz.ntmps21
  go_wp2_with fail
  go_returns
  exact ⟨by go_grown, rfl⟩
theorem zts (w : World) (u : Value) (c : ByteArray) (xk xvk xvn yk yvk yvn k : Int) (xvt xt yvt yt zt : ByteArray) (zv : V) (sv1 : V) (st1 : ByteArray) (h1 : yk = 2) (h2 : yt = c) (h3 : xk = 1) (h4 : xvk = 0) (hu : Rd w 5 4 u (ocs [⟨xk, ⟨xvk, xvn, xvt⟩, xt⟩, ⟨yk, ⟨yvk, yvn, yvt⟩, yt⟩, ⟨k, zv, zt⟩, ⟨5, sv1, st1⟩])) :
    Calls Tryz.prog 21 #[.string c, u] w (SideIs (none) w) := by
  obtain ⟨b, p, cap, rfl, hmc, hcm, hbw, hcell⟩ := ops_of hu (by omega)
  obtain ⟨a0, a1, a2, a3, a4⟩ := hcell 0 (by omega)
  obtain ⟨b0, b1, b2, b3, b4⟩ := hcell 1 (by omega)
  obtain ⟨c0, -⟩ := hcell 2 (by omega)
  obtain ⟨d0, -⟩ := hcell 3 (by omega)
  simp only [List.getD_cons_zero, List.getD_cons_succ, Nat.zero_mul, Nat.add_zero, Nat.one_mul, Nat.reduceMul, Nat.add_assoc, Nat.reduceAdd] at a0 a1 a2 a3 a4 b0 b1 b2 b3 b4 c0 d0
  have hb1 : b < w.heap.size + 1 := by omega
  have hb2 : b < w.heap.size + 1 + 1 := by omega
  have hb3 : b < w.heap.size + 1 + 1 + 1 := by omega
  have hn0 : ¬ b = w.heap.size := by omega
  have hn1 : ¬ b = w.heap.size + 1 := by omega
  have hn2 : ¬ b = w.heap.size + 1 + 1 := by omega
  have hn3 : ¬ b = w.heap.size + 1 + 1 + 1 := by omega
  have hcap : (3 : Int) ≤ (cap : Int) := by omega
  clear hcell hu
  subst h1 h2 h3
  subst h4
  go_enter Tryz.func21, Tryz.ntmps21
  go_wp2_with fail
  go_returns
  exact ⟨by go_grown, rfl⟩
theorem ets (w : World) (u : Value) (c : ByteArray) (xk xvk xvn yk yvk yvn k : Int) (xvt xt yvt yt zt : ByteArray) (zv : V) (sv1 : V) (st1 : ByteArray) (h1 : yk = 2) (h2 : yt = c) (h3 : xk = 1) (h4 : xvk ≠ 0) (hk : k = 6) (hu : Rd w 5 4 u (ocs [⟨xk, ⟨xvk, xvn, xvt⟩, xt⟩, ⟨yk, ⟨yvk, yvn, yvt⟩, yt⟩, ⟨k, zv, zt⟩, ⟨5, sv1, st1⟩])) :
    Calls Tryz.prog 21 #[.string c, u] w (SideIs (none) w) := by
  obtain ⟨b, p, cap, rfl, hmc, hcm, hbw, hcell⟩ := ops_of hu (by omega)
  obtain ⟨a0, a1, a2, a3, a4⟩ := hcell 0 (by omega)
  obtain ⟨b0, b1, b2, b3, b4⟩ := hcell 1 (by omega)
  obtain ⟨c0, -⟩ := hcell 2 (by omega)
  obtain ⟨d0, -⟩ := hcell 3 (by omega)
  simp only [List.getD_cons_zero, List.getD_cons_succ, Nat.zero_mul, Nat.add_zero, Nat.one_mul, Nat.reduceMul, Nat.add_assoc, Nat.reduceAdd] at a0 a1 a2 a3 a4 b0 b1 b2 b3 b4 c0 d0
  have hb1 : b < w.heap.size + 1 := by omega
  have hb2 : b < w.heap.size + 1 + 1 := by omega
  have hb3 : b < w.heap.size + 1 + 1 + 1 := by omega
  have hn0 : ¬ b = w.heap.size := by omega
  have hn1 : ¬ b = w.heap.size + 1 := by omega
  have hn2 : ¬ b = w.heap.size + 1 + 1 := by omega
  have hn3 : ¬ b = w.heap.size + 1 + 1 + 1 := by omega
  have hcap : (3 : Int) ≤ (cap : Int) := by omega
  clear hcell hu
  subst h1 h2 h3
  have f4 : (xvk == 0) = false := by simpa using h4
  subst hk
  go_enter Tryz.func21, Tryz.ntmps21
  go_wp2_with fail
  go_returns
  exact ⟨by go_grown, rfl⟩
theorem lts (w : World) (u : Value) (c : ByteArray) (xk xvk xvn yk yvk yvn k : Int) (xvt xt yvt yt zt : ByteArray) (zv : V) (sv1 : V) (st1 : ByteArray) (h1 : yk = 2) (h2 : yt = c) (h3 : xk = 1) (h4 : xvk ≠ 0) (hk : k = 7) (hu : Rd w 5 4 u (ocs [⟨xk, ⟨xvk, xvn, xvt⟩, xt⟩, ⟨yk, ⟨yvk, yvn, yvt⟩, yt⟩, ⟨k, zv, zt⟩, ⟨5, sv1, st1⟩])) :
    Calls Tryz.prog 21 #[.string c, u] w (SideIs (some (1, ⟨xvk, xvn, xvt⟩)) w) := by
  obtain ⟨b, p, cap, rfl, hmc, hcm, hbw, hcell⟩ := ops_of hu (by omega)
  obtain ⟨a0, a1, a2, a3, a4⟩ := hcell 0 (by omega)
  obtain ⟨b0, b1, b2, b3, b4⟩ := hcell 1 (by omega)
  obtain ⟨c0, -⟩ := hcell 2 (by omega)
  obtain ⟨d0, -⟩ := hcell 3 (by omega)
  simp only [List.getD_cons_zero, List.getD_cons_succ, Nat.zero_mul, Nat.add_zero, Nat.one_mul, Nat.reduceMul, Nat.add_assoc, Nat.reduceAdd] at a0 a1 a2 a3 a4 b0 b1 b2 b3 b4 c0 d0
  have hb1 : b < w.heap.size + 1 := by omega
  have hb2 : b < w.heap.size + 1 + 1 := by omega
  have hb3 : b < w.heap.size + 1 + 1 + 1 := by omega
  have hn0 : ¬ b = w.heap.size := by omega
  have hn1 : ¬ b = w.heap.size + 1 := by omega
  have hn2 : ¬ b = w.heap.size + 1 + 1 := by omega
  have hn3 : ¬ b = w.heap.size + 1 + 1 + 1 := by omega
  have hcap : (3 : Int) ≤ (cap : Int) := by omega
  clear hcell hu
  subst h1 h2 h3
  have f4 : (xvk == 0) = false := by simpa using h4
  subst hk
  go_enter Tryz.func21, Tryz.ntmps21
  go_wp2_with fail
  go_region
  all_goals (go_wp2_with fail)
  all_goals go_returns
  all_goals exact ⟨by go_grown, rfl⟩
theorem ots (w : World) (u : Value) (c : ByteArray) (xk xvk xvn yk yvk yvn k : Int) (xvt xt yvt yt zt : ByteArray) (zv : V) (sv1 : V) (st1 : ByteArray) (h1 : yk = 2) (h2 : yt = c) (h3 : xk = 1) (h4 : xvk ≠ 0) (hk : k ≠ 6) (hk7 : k ≠ 7) (hu : Rd w 5 4 u (ocs [⟨xk, ⟨xvk, xvn, xvt⟩, xt⟩, ⟨yk, ⟨yvk, yvn, yvt⟩, yt⟩, ⟨k, zv, zt⟩, ⟨5, sv1, st1⟩])) :
    Calls Tryz.prog 21 #[.string c, u] w (SideIs (none) w) := by
  obtain ⟨b, p, cap, rfl, hmc, hcm, hbw, hcell⟩ := ops_of hu (by omega)
  obtain ⟨a0, a1, a2, a3, a4⟩ := hcell 0 (by omega)
  obtain ⟨b0, b1, b2, b3, b4⟩ := hcell 1 (by omega)
  obtain ⟨c0, -⟩ := hcell 2 (by omega)
  obtain ⟨d0, -⟩ := hcell 3 (by omega)
  simp only [List.getD_cons_zero, List.getD_cons_succ, Nat.zero_mul, Nat.add_zero, Nat.one_mul, Nat.reduceMul, Nat.add_assoc, Nat.reduceAdd] at a0 a1 a2 a3 a4 b0 b1 b2 b3 b4 c0 d0
  have hb1 : b < w.heap.size + 1 := by omega
  have hb2 : b < w.heap.size + 1 + 1 := by omega
  have hb3 : b < w.heap.size + 1 + 1 + 1 := by omega
  have hn0 : ¬ b = w.heap.size := by omega
  have hn1 : ¬ b = w.heap.size + 1 := by omega
  have hn2 : ¬ b = w.heap.size + 1 + 1 := by omega
  have hn3 : ¬ b = w.heap.size + 1 + 1 + 1 := by omega
  have hcap : (3 : Int) ≤ (cap : Int) := by omega
  clear hcell hu
  subst h1 h2 h3
  have f4 : (xvk == 0) = false := by simpa using h4
  have f6 : (k == 6) = false := by simpa using hk
  have f7 : (k == 7) = false := by simpa using hk7
  go_enter Tryz.func21, Tryz.ntmps21
  go_wp2_with fail
  go_returns
  exact ⟨by go_grown, rfl⟩
end Go.Proofs.YtmfkdpfcpdmkdaaGreatDoor.bd
