/- Of two things that must be true the narrower bounds count; of an OR none. The row lists the program's tables of marks, of words that are kept, of what each op works on, and of the words of kinds, constants and signs; the card ties them to the program's text. -/
import Derived.Deep.DeepCutAuto
import Derived.Test.YtmfkdpfcpdmkdaaDoorQzk
import Derived.Test.YtmfkdpfcpdmkdaaDoorFjk
namespace Go.Proofs.YtmfkdpfcpdmkdaaDoor.lBoundsBoth
open Go.ChangeShapes Go.WideShapes Go.ChangeAt Go.RowKit Go.Joins
open Go.ChangeMaps (open_string shut_string)
set_option linter.unusedVariables false
set_option linter.unusedSimpArgs false
set_option maxHeartbeats 400000

set_option maxHeartbeats 4000000
set_option maxRecDepth 100000
open Go.Proofs.YtmfkdpfcpdmkdaaDoor.bd
theorem wp_name {P : Program} {c : Code} {Q : Exit → Act → World → Prop} {a : Act} {w : World} (h : ∀ w8, w8 = w → Code.wp P c Q a w8) : Code.wp P c Q a w := h w rfl
theorem drew_al (w : World) (o : Obj) : Below w.heap.size w (w.drew.alloc o) := ((Below.refl _ _).drew).alloc (Nat.le_refl _) o
theorem wp_name' {K : Exit → Act → World → Prop} {e : Exit} {a : Act} {w : World} (h : ∀ w8, w8 = w → K e a w8) : K e a w := h w rfl
def allocs : World → List Obj → World
  | w, [] => w
  | w, o :: l => allocs (w.alloc o) l
theorem allocs_below : ∀ (l : List Obj) (w : World), Below w.heap.size w (allocs w l)
  | [], w => Below.refl _ _
  | o :: l, w => ((Below.refl _ _).alloc (Nat.le_refl _) o).trans ((allocs_below l (w.alloc o)).mono (by simp))
theorem allocs_at : ∀ (l : List Obj) (w : World) (i : Nat) (o : Obj), l[i]? = some o → (allocs w l).heap[w.heap.size + i]? = some o
  | [], w, i, o, h => by simp at h
  | x :: l, w, 0, o, h => by
    have e : x = o := by simpa using h
    subst e
    exact ((allocs_below l (w.alloc x)).block w.heap.size (by simp)).trans (new0 w x)
  | x :: l, w, i + 1, o, h => by
    have ih := allocs_at l (w.alloc x) i o (by simpa using h)
    rw [World.size_alloc] at ih
    rw [show w.heap.size + (i + 1) = w.heap.size + 1 + i by omega]
    exact ih
theorem rd_ops {w : World} {B : Nat} (l : List Oq) {T : TypeId} {fr : Nat × Nat} (hl : l.length ≤ 1000) (h : w.heap[B]? = some (.cells (ocs l).toArray T fr)) : Rd w 5 l.length (.slice (some ⟨B, 0, none⟩) l.length l.length) (ocs l) := by
  refine ⟨ocs_length l, some ⟨B, 0, none⟩, l.length, rfl, Nat.le_refl _, by unfold maxLen; omega, (fun h => by cases h), fun ad ha j u hu => ?_⟩
  obtain rfl := Option.some.inj ha
  rw [Addr.add_lit, Nat.zero_add]
  have e : (ocs l).toArray[j]? = some u := by rw [← hu]; simp
  simp [World.cell?, h, e]
theorem sm_id : Sml (cO idT) := ⟨by decide, fun _ => by simp [colL], ⟨by decide, by decide⟩⟩
theorem sm_n : Sml (cO nT) := ⟨by decide, fun _ => by simp [colL], ⟨by decide, by decide⟩⟩
theorem sm_num {n : Int} (h : 0 ≤ n ∧ n < 100000) : Sml (lO (num n)) := sml_bare (k := 1) (by decide) (by show Fi n; unfold Fi; omega)
theorem sm_nul : Sml (lO nul) := sml_bare (k := 1) (by decide) ⟨by decide, by decide⟩
theorem sm_op {k : Int} (h : k ≠ 2) : Sml (oO k) := sml_bare (k := k) h ⟨by decide, by decide⟩
theorem sm_cons {o : Oq} {l : List Oq} (h : Sml o) (g : ∀ x ∈ l, Sml x) : ∀ x ∈ o :: l, Sml x := fun x hx => by
  rcases List.mem_cons.1 hx with rfl | hx
  · exact h
  · exact g x hx
theorem sm_nil : ∀ x ∈ ([] : List Oq), Sml x := fun x hx => by cases hx
theorem bounds_hid (W : World) (hL : Tbs W) : Hid (∀ (w : World) (n m : Nat) (v x : Value) (l : List Cq) (ops : List Oq) (r : Int × List UInt8 × List UInt8), Below W.heap.size W w → Rd w 2 n v (ccs l) → (∀ c ∈ l, c.t.size ≤ 8) → Rd w 5 m x (ocs ops) → (∀ o ∈ ops, Sml o) → boundsF l ops = r → Calls Tryd.prog 9 #[v, x] w (BoundsIs r w)) := fun w n m v x l ops r hB hr hc hx ho hq => by
  have h := bounds_any w (hL.below hB) n m v x l ops hr (small4 hc) hx (sml_max ho) (fun o h => (ho o h).2.2)
  rw [hq] at h
  exact h
theorem lit_any (w : World) (n : Int) : Calls Tryd.prog 14 #[.int .i64 n] w fun e w' => e = .returned (.agg #[.int .i64 1, .int .i64 2, .int .i64 n, .string ⟨#[]⟩, .string ⟨#[]⟩]) ∧ Below w.heap.size w w' := by
  go_enter Tryd.func14, Tryd.ntmps14
  go_wp2
  go_returns
  exact ⟨rfl, by go_grown⟩
theorem walk (W : World) (hL : Tbs W) (a : Int) (wa : (Lit.int .i64 a).wf = true) (b : Int) (wb : (Lit.int .i64 b).wf = true) :
    Calls Tryd.prog 5 #[.int .i64 a, .int .i64 b] W fun e w' => e = .returned (.bool true) ∧ Below W.heap.size W w' := by
  have HCO := Lib.hid colsOf_any
  have HBD := bounds_hid W hL
  have HLI := Lib.hid lit_any
  have hp := fun w => pck_any a 1000 w (rn_of wa) (by omega) (by omega)
  obtain ⟨p0, p1⟩ := pck_in a 1000 (by omega)
  obtain ⟨n, hn⟩ : ∃ n, n = pck a 1000 := ⟨_, rfl⟩
  rw [← hn] at hp p0 p1
  have HP := Lib.hid hp
  have hk := fun w => pck_any b 1000 w (rn_of wb) (by omega) (by omega)
  obtain ⟨k0, k1⟩ := pck_in b 1000 (by omega)
  obtain ⟨m, hm⟩ : ∃ n, n = pck b 1000 := ⟨_, rfl⟩
  rw [← hm] at hk k0 k1
  have HK := Lib.hid hk
  clear hp hk hn hm hL
  go_enter Tryd.func5, Tryd.ntmps5
  go_upto_region 5 with (first | (go_at_call 13; ((with_reducible refine (HP.out _).mono ?_); rintro e w' ⟨rfl, rfl⟩)) | (go_at_call 13; ((with_reducible refine (HK.out _).mono ?_); rintro e w' ⟨rfl, rfl⟩)))
  refine wp_name (fun w8 hw8 => ?_)
  have HI8 : Hid (w8.heap[W.heap.size]? = some (.cells #[.int .i64 2, .int .i64 0, .int .i64 0, .string ⟨#[]⟩, .string ⟨#[105, 100]⟩] 44 (0, 0))) := Lib.hid (by rw [hw8]; exact new0 W _)
  have HB8 : Hid (Below W.heap.size W w8) := Lib.hid (by rw [hw8]; exact (Below.refl _ _).alloc (Nat.le_refl _) _)
  have hz8 : W.heap.size < w8.heap.size := by rw [hw8]; simp
  clear hw8
  have r1 := HI8.out
  have heldw8 : ∀ wx, Below w8.heap.size w8 wx → (fun wx => Below w8.heap.size w8 wx ∧ wx.cell? ⟨W.heap.size, 0, none⟩ = some (.int .i64 2) ∧ wx.cell? ⟨W.heap.size, 1, none⟩ = some (.int .i64 0) ∧ wx.cell? ⟨W.heap.size, 2, none⟩ = some (.int .i64 0) ∧ wx.cell? ⟨W.heap.size, 3, none⟩ = some (.string ⟨#[]⟩) ∧ wx.cell? ⟨W.heap.size, 4, none⟩ = some (.string ⟨#[105,100]⟩)) wx := fun wx h => ⟨h, cell_blz h (by simp [World.cell?, r1]), cell_blz h (by simp [World.cell?, r1]), cell_blz h (by simp [World.cell?, r1]), cell_blz h (by simp [World.cell?, r1]), cell_blz h (by simp [World.cell?, r1])⟩
  clear r1
  have jw : IntKind.i64.wrap (n + m) = n + m := IntWalk.i64_in _ (by omega)
  refine Code.wp_mono (Q := NQ _) nq_to ?_
  refine wp_region_held_drew (S := (fun wx => Below w8.heap.size w8 wx ∧ wx.cell? ⟨W.heap.size, 0, none⟩ = some (.int .i64 2) ∧ wx.cell? ⟨W.heap.size, 1, none⟩ = some (.int .i64 0) ∧ wx.cell? ⟨W.heap.size, 2, none⟩ = some (.int .i64 0) ∧ wx.cell? ⟨W.heap.size, 3, none⟩ = some (.string ⟨#[]⟩) ∧ wx.cell? ⟨W.heap.size, 4, none⟩ = some (.string ⟨#[105,100]⟩))) (by kernel_rfl) ?_ (fun hHeld => ?_)
  · (try dsimp only)
    exact heldw8 _ (by first | (with_reducible exact (Below.refl _ _).drew) | (with_reducible exact Hu1.out) | (with_reducible exact Hu1.out.alloc Hu1.out.size _) | (with_reducible exact Hu2.out) | (with_reducible exact Hu2.out.alloc Hu2.out.size _) | (with_reducible exact Hu3.out) | (with_reducible exact Hu3.out.alloc Hu3.out.size _))
  refine wpAnyH_take (i := 0) (oi := _) (v := ?_) rfl (by kernel_rfl) (by kernel_rfl) (by kernel_rfl) (fun _ _ _ h => h) (Or.inl ⟨by rfl, ?_⟩) (by assumption) ?_
  rotate_left
  · (intro w hSw; (try dsimp only at hSw); go_simp)
    all_goals (with_reducible rfl)
  (try simp only [List.getElem_toArray, List.getElem_cons_zero, List.getElem_cons_succ, Act.put, List.setIfInBounds_toArray, List.set_cons_zero, List.set_cons_succ])
  refine wpAnyH_take (i := 1) (oi := _) (v := ?_) rfl (by kernel_rfl) (by kernel_rfl) (by kernel_rfl) (fun _ _ _ h => h) (Or.inl ⟨by rfl, ?_⟩) (by assumption) ?_
  rotate_left
  · (intro w hSw; (try dsimp only at hSw); go_simp)
    all_goals (with_reducible rfl)
  (try simp only [List.getElem_toArray, List.getElem_cons_zero, List.getElem_cons_succ, Act.put, List.setIfInBounds_toArray, List.set_cons_zero, List.set_cons_succ])
  refine wpAnyH_take (i := 2) (oi := _) (v := ?_) rfl (by kernel_rfl) (by kernel_rfl) (by kernel_rfl) (fun _ _ _ h => h) (Or.inl ⟨by rfl, ?_⟩) (by assumption) ?_
  rotate_left
  · (intro w hSw; (try dsimp only at hSw); go_simp)
    all_goals (with_reducible rfl)
  (try simp only [List.getElem_toArray, List.getElem_cons_zero, List.getElem_cons_succ, Act.put, List.setIfInBounds_toArray, List.set_cons_zero, List.set_cons_succ])
  refine wpAnyH_take (i := 4) (oi := _) (v := ?_) rfl (by kernel_rfl) (by kernel_rfl) (by kernel_rfl) (fun _ _ _ h => h) (Or.inl ⟨by rfl, ?_⟩) (by assumption) ?_
  rotate_left
  · (intro w hSw; (try dsimp only at hSw); go_simp)
    all_goals (with_reducible rfl)
  (try simp only [List.getElem_toArray, List.getElem_cons_zero, List.getElem_cons_succ, Act.put, List.setIfInBounds_toArray, List.set_cons_zero, List.set_cons_succ])
  refine wpAnyH_take (i := 5) (oi := _) (v := ?_) rfl (by kernel_rfl) (by kernel_rfl) (by kernel_rfl) (fun _ _ _ h => h) (Or.inl ⟨by rfl, ?_⟩) (by assumption) ?_
  rotate_left
  · (intro w hSw; (try dsimp only at hSw); go_simp)
    all_goals (with_reducible rfl)
  (try simp only [List.getElem_toArray, List.getElem_cons_zero, List.getElem_cons_succ, Act.put, List.setIfInBounds_toArray, List.set_cons_zero, List.set_cons_succ])
  refine wpAnyH_take (i := 6) (oi := _) (v := ?_) rfl (by kernel_rfl) (by kernel_rfl) (by kernel_rfl) (fun _ _ _ h => h) (Or.inl ⟨by rfl, ?_⟩) (by assumption) ?_
  rotate_left
  · (intro w hSw; (try dsimp only at hSw); go_simp)
    all_goals (with_reducible rfl)
  (try simp only [List.getElem_toArray, List.getElem_cons_zero, List.getElem_cons_succ, Act.put, List.setIfInBounds_toArray, List.set_cons_zero, List.set_cons_succ])
  refine wpAnyH_take (i := 8) (oi := _) (v := ?_) rfl (by kernel_rfl) (by kernel_rfl) (by kernel_rfl) (fun _ _ _ h => h) (Or.inl ⟨by rfl, ?_⟩) (by assumption) ?_
  rotate_left
  · (intro w hSw; (try dsimp only at hSw); go_simp)
    all_goals (with_reducible rfl)
  (try simp only [List.getElem_toArray, List.getElem_cons_zero, List.getElem_cons_succ, Act.put, List.setIfInBounds_toArray, List.set_cons_zero, List.set_cons_succ])
  refine wpAnyH_take (i := 9) (oi := _) (v := ?_) rfl (by kernel_rfl) (by kernel_rfl) (by kernel_rfl) (fun _ _ _ h => h) (Or.inl ⟨by rfl, ?_⟩) (by assumption) ?_
  rotate_left
  · (intro w hSw; (try dsimp only at hSw); go_simp)
    all_goals (with_reducible rfl)
  (try simp only [List.getElem_toArray, List.getElem_cons_zero, List.getElem_cons_succ, Act.put, List.setIfInBounds_toArray, List.set_cons_zero, List.set_cons_succ])
  refine wpAnyH_take (i := 10) (oi := _) (v := ?_) rfl (by kernel_rfl) (by kernel_rfl) (by kernel_rfl) (fun _ _ _ h => h) (Or.inl ⟨by rfl, ?_⟩) (by assumption) ?_
  rotate_left
  · (intro w hSw; (try dsimp only at hSw); go_simp)
    all_goals (with_reducible rfl)
  (try simp only [List.getElem_toArray, List.getElem_cons_zero, List.getElem_cons_succ, Act.put, List.setIfInBounds_toArray, List.set_cons_zero, List.set_cons_succ])
  refine wpAnyH_take (i := 11) (oi := _) (v := ?_) rfl (by kernel_rfl) (by kernel_rfl) (by kernel_rfl) (fun _ _ _ h => h) (Or.inl ⟨by rfl, ?_⟩) (by assumption) ?_
  rotate_left
  · (intro w hSw; (try dsimp only at hSw); go_simp)
    all_goals (with_reducible rfl)
  (try simp only [List.getElem_toArray, List.getElem_cons_zero, List.getElem_cons_succ, Act.put, List.setIfInBounds_toArray, List.set_cons_zero, List.set_cons_succ])
  refine wpAnyH_take (i := 12) (oi := _) (v := ?_) rfl (by kernel_rfl) (by kernel_rfl) (by kernel_rfl) (fun _ _ _ h => h) (Or.inl ⟨by rfl, ?_⟩) (by assumption) ?_
  rotate_left
  · (intro w hSw; (try dsimp only at hSw); go_simp)
    all_goals (with_reducible rfl)
  (try simp only [List.getElem_toArray, List.getElem_cons_zero, List.getElem_cons_succ, Act.put, List.setIfInBounds_toArray, List.set_cons_zero, List.set_cons_succ])
  refine wpAnyH_take (i := 13) (oi := _) (v := ?_) rfl (by kernel_rfl) (by kernel_rfl) (by kernel_rfl) (fun _ _ _ h => h) (Or.inl ⟨by rfl, ?_⟩) (by assumption) ?_
  rotate_left
  · (intro w hSw; (try dsimp only at hSw); go_simp)
    all_goals (with_reducible rfl)
  (try simp only [List.getElem_toArray, List.getElem_cons_zero, List.getElem_cons_succ, Act.put, List.setIfInBounds_toArray, List.set_cons_zero, List.set_cons_succ])
  refine wpAnyH_take (i := 14) (oi := _) (v := ?_) rfl (by kernel_rfl) (by kernel_rfl) (by kernel_rfl) (fun _ _ _ h => h) (Or.inl ⟨by rfl, ?_⟩) (by assumption) ?_
  rotate_left
  · (intro w hSw; (try dsimp only at hSw); go_simp)
    all_goals (with_reducible rfl)
  (try simp only [List.getElem_toArray, List.getElem_cons_zero, List.getElem_cons_succ, Act.put, List.setIfInBounds_toArray, List.set_cons_zero, List.set_cons_succ])
  refine wpAnyH_take (i := 15) (oi := _) (v := ?_) rfl (by kernel_rfl) (by kernel_rfl) (by kernel_rfl) (fun _ _ _ h => h) (Or.inl ⟨by rfl, ?_⟩) (by assumption) ?_
  rotate_left
  · (intro w hSw; (try dsimp only at hSw); go_simp)
    all_goals (with_reducible rfl)
  (try simp only [List.getElem_toArray, List.getElem_cons_zero, List.getElem_cons_succ, Act.put, List.setIfInBounds_toArray, List.set_cons_zero, List.set_cons_succ])
  refine wpAnyH_take (i := 17) (oi := _) (v := ?_) rfl (by kernel_rfl) (by kernel_rfl) (by kernel_rfl) (fun _ _ _ h => h) (Or.inl ⟨by rfl, ?_⟩) (by assumption) ?_
  rotate_left
  · (intro w hSw; (try dsimp only at hSw); go_simp)
    all_goals (with_reducible rfl)
  (try simp only [List.getElem_toArray, List.getElem_cons_zero, List.getElem_cons_succ, Act.put, List.setIfInBounds_toArray, List.set_cons_zero, List.set_cons_succ])
  refine wpAnyH_take (i := 18) (oi := _) (v := ?_) rfl (by kernel_rfl) (by kernel_rfl) (by kernel_rfl) (fun _ _ _ h => h) (Or.inl ⟨by rfl, ?_⟩) (by assumption) ?_
  rotate_left
  · (intro w hSw; (try dsimp only at hSw); go_simp)
    all_goals (with_reducible rfl)
  (try simp only [List.getElem_toArray, List.getElem_cons_zero, List.getElem_cons_succ, Act.put, List.setIfInBounds_toArray, List.set_cons_zero, List.set_cons_succ])
  refine wpAnyH_ready (rs := [3]) (by kernel_rfl) (by simp) ?_
  refine AllReadyH.cons rfl (fun K hK => ?_) AllReadyH.nil
  go_simp
  (go_at_call 14; (with_reducible refine (HLI.out _ (n)).mono ?_); rintro e u1 ⟨rfl, hbb⟩; have Hu1 : Hid (Below w8.heap.size w8 u1) := Lib.hid (into ((Below.refl w8.heap.size w8).drew) hbb); clear hbb)
  go_wp2_with fail
  refine hK.out _ _ ?_ (fun hHeld => ?_)
  · (try dsimp only)
    exact heldw8 _ (by first | (with_reducible exact (Below.refl _ _).drew) | (with_reducible exact Hu1.out) | (with_reducible exact Hu1.out.alloc Hu1.out.size _) | (with_reducible exact Hu2.out) | (with_reducible exact Hu2.out.alloc Hu2.out.size _) | (with_reducible exact Hu3.out) | (with_reducible exact Hu3.out.alloc Hu3.out.size _))
  clear hK K
  (try simp only [List.getElem_toArray, List.getElem_cons_zero, List.getElem_cons_succ, Act.put, List.setIfInBounds_toArray, List.set_cons_zero, List.set_cons_succ])
  refine wpAnyH_ready (rs := [7]) (by kernel_rfl) (by simp) ?_
  refine AllReadyH.cons rfl (fun K hK => ?_) AllReadyH.nil
  go_simp
  (go_at_call 14; (with_reducible refine (HLI.out _ (m)).mono ?_); rintro e u2 ⟨rfl, hbb⟩; have Hu2 : Hid (Below w8.heap.size w8 u2) := Lib.hid (into Hu1.out hbb); clear hbb)
  go_wp2_with fail
  refine hK.out _ _ ?_ (fun hHeld => ?_)
  · (try dsimp only)
    exact heldw8 _ (by first | (with_reducible exact (Below.refl _ _).drew) | (with_reducible exact Hu1.out) | (with_reducible exact Hu1.out.alloc Hu1.out.size _) | (with_reducible exact Hu2.out) | (with_reducible exact Hu2.out.alloc Hu2.out.size _) | (with_reducible exact Hu3.out) | (with_reducible exact Hu3.out.alloc Hu3.out.size _))
  clear hK K
  (try simp only [List.getElem_toArray, List.getElem_cons_zero, List.getElem_cons_succ, Act.put, List.setIfInBounds_toArray, List.set_cons_zero, List.set_cons_succ])
  refine wpAnyH_ready (rs := [16]) (by kernel_rfl) (by simp) ?_
  refine AllReadyH.cons rfl (fun K hK => ?_) AllReadyH.nil
  go_simp
  (go_at_call 14; (with_reducible refine (HLI.out _ (n + m)).mono ?_); rintro e u3 ⟨rfl, hbb⟩; have Hu3 : Hid (Below w8.heap.size w8 u3) := Lib.hid (into Hu2.out hbb); clear hbb)
  go_wp2_with fail
  refine hK.out _ _ ?_ (fun hHeld => ?_)
  · (try dsimp only)
    exact heldw8 _ (by first | (with_reducible exact (Below.refl _ _).drew) | (with_reducible exact Hu1.out) | (with_reducible exact Hu1.out.alloc Hu1.out.size _) | (with_reducible exact Hu2.out) | (with_reducible exact Hu2.out.alloc Hu2.out.size _) | (with_reducible exact Hu3.out) | (with_reducible exact Hu3.out.alloc Hu3.out.size _))
  clear hK K
  (try simp only [List.getElem_toArray, List.getElem_cons_zero, List.getElem_cons_succ, Act.put, List.setIfInBounds_toArray, List.set_cons_zero, List.set_cons_succ])
  refine wpAnyH_ready (rs := [19]) (by kernel_rfl) (by simp) ?_
  refine AllReadyH.cons rfl (fun K hK => ?_) AllReadyH.nil
  go_simp
  refine hK.out _ _ ?_ (fun hHeld => ?_)
  · (try dsimp only)
    exact heldw8 _ (by first | (with_reducible exact (Below.refl _ _).drew) | (with_reducible exact Hu1.out) | (with_reducible exact Hu1.out.alloc Hu1.out.size _) | (with_reducible exact Hu2.out) | (with_reducible exact Hu2.out.alloc Hu2.out.size _) | (with_reducible exact Hu3.out) | (with_reducible exact Hu3.out.alloc Hu3.out.size _))
  clear hK K
  (try simp only [List.getElem_toArray, List.getElem_cons_zero, List.getElem_cons_succ, Act.put, List.setIfInBounds_toArray, List.set_cons_zero, List.set_cons_succ])
  refine wpAnyH_ready (rs := [20]) (by kernel_rfl) (by simp) ?_
  refine AllReadyH.cons rfl (fun K hK => ?_) AllReadyH.nil
  go_simp
  refine hK.out _ _ ?_ (fun hHeld => ?_)
  · (try dsimp only)
    exact heldw8 _ (by first | (with_reducible exact (Below.refl _ _).drew) | (with_reducible exact Hu1.out) | (with_reducible exact Hu1.out.alloc Hu1.out.size _) | (with_reducible exact Hu2.out) | (with_reducible exact Hu2.out.alloc Hu2.out.size _) | (with_reducible exact Hu3.out) | (with_reducible exact Hu3.out.alloc Hu3.out.size _))
  clear hK K
  (try simp only [List.getElem_toArray, List.getElem_cons_zero, List.getElem_cons_succ, Act.put, List.setIfInBounds_toArray, List.set_cons_zero, List.set_cons_succ])
  refine wpAnyH_done (by kernel_rfl) ?_ _
  dsimp only [NQ]
  refine wp_name' (fun w9 hw9 => ?_)
  have HA9 : Hid (w9.heap[u3.heap.size]? = some (.cells #[.int .i64 2, .int .i64 0, .int .i64 0, .string ⟨#[]⟩, .string ⟨#[105, 100]⟩, .int .i64 1, .int .i64 2, .int .i64 n, .string ⟨#[]⟩, .string ⟨#[]⟩, .int .i64 7, .int .i64 0, .int .i64 0, .string ⟨#[]⟩, .string ⟨#[]⟩, .int .i64 1, .int .i64 2, .int .i64 m, .string ⟨#[]⟩, .string ⟨#[]⟩, .int .i64 2, .int .i64 0, .int .i64 0, .string ⟨#[]⟩, .string ⟨#[105, 100]⟩, .int .i64 7, .int .i64 0, .int .i64 0, .string ⟨#[]⟩, .string ⟨#[]⟩, .int .i64 3, .int .i64 0, .int .i64 0, .string ⟨#[]⟩, .string ⟨#[]⟩, .int .i64 2, .int .i64 0, .int .i64 0, .string ⟨#[]⟩, .string ⟨#[105, 100]⟩, .int .i64 1, .int .i64 2, .int .i64 (n + m), .string ⟨#[]⟩, .string ⟨#[]⟩, .int .i64 7, .int .i64 0, .int .i64 0, .string ⟨#[]⟩, .string ⟨#[]⟩, .int .i64 3, .int .i64 0, .int .i64 0, .string ⟨#[]⟩, .string ⟨#[]⟩] 44 (0, 0))) := Lib.hid (by rw [hw9]; exact new0 u3 _)
  have HB9 : Hid (Below w8.heap.size w8 w9) := Lib.hid (by rw [hw9]; exact Hu3.out.alloc Hu3.out.size _)
  clear hw9 heldw8
  have hz9 := HB9.out.size
  have r1 := (HB9.out.block W.heap.size hz8).trans HI8.out
  go_upto_region 6 with (fail)
  have heldw9 : ∀ wx, Below w9.heap.size w9 wx → (fun wx => Below w9.heap.size w9 wx ∧ wx.cell? ⟨W.heap.size, 0, none⟩ = some (.int .i64 2) ∧ wx.cell? ⟨W.heap.size, 1, none⟩ = some (.int .i64 0) ∧ wx.cell? ⟨W.heap.size, 2, none⟩ = some (.int .i64 0) ∧ wx.cell? ⟨W.heap.size, 3, none⟩ = some (.string ⟨#[]⟩) ∧ wx.cell? ⟨W.heap.size, 4, none⟩ = some (.string ⟨#[105,100]⟩)) wx := fun wx h => ⟨h, cell_blz h (by simp [World.cell?, r1]), cell_blz h (by simp [World.cell?, r1]), cell_blz h (by simp [World.cell?, r1]), cell_blz h (by simp [World.cell?, r1]), cell_blz h (by simp [World.cell?, r1])⟩
  clear r1
  refine Code.wp_mono (Q := NQ _) nq_to ?_
  refine wp_region_held_drew (S := (fun wx => Below w9.heap.size w9 wx ∧ wx.cell? ⟨W.heap.size, 0, none⟩ = some (.int .i64 2) ∧ wx.cell? ⟨W.heap.size, 1, none⟩ = some (.int .i64 0) ∧ wx.cell? ⟨W.heap.size, 2, none⟩ = some (.int .i64 0) ∧ wx.cell? ⟨W.heap.size, 3, none⟩ = some (.string ⟨#[]⟩) ∧ wx.cell? ⟨W.heap.size, 4, none⟩ = some (.string ⟨#[105,100]⟩))) (by kernel_rfl) ?_ (fun hHeld => ?_)
  · (try dsimp only)
    exact heldw9 _ (by first | (with_reducible exact (Below.refl _ _).drew) | (with_reducible exact Hu4.out) | (with_reducible exact Hu4.out.alloc Hu4.out.size _) | (with_reducible exact Hu5.out) | (with_reducible exact Hu5.out.alloc Hu5.out.size _))
  refine wpAnyH_take (i := 0) (oi := _) (v := ?_) rfl (by kernel_rfl) (by kernel_rfl) (by kernel_rfl) (fun _ _ _ h => h) (Or.inl ⟨by rfl, ?_⟩) (by assumption) ?_
  rotate_left
  · (intro w hSw; (try dsimp only at hSw); go_simp)
    all_goals (with_reducible rfl)
  (try simp only [List.getElem_toArray, List.getElem_cons_zero, List.getElem_cons_succ, Act.put, List.setIfInBounds_toArray, List.set_cons_zero, List.set_cons_succ])
  refine wpAnyH_take (i := 1) (oi := _) (v := ?_) rfl (by kernel_rfl) (by kernel_rfl) (by kernel_rfl) (fun _ _ _ h => h) (Or.inl ⟨by rfl, ?_⟩) (by assumption) ?_
  rotate_left
  · (intro w hSw; (try dsimp only at hSw); go_simp)
    all_goals (with_reducible rfl)
  (try simp only [List.getElem_toArray, List.getElem_cons_zero, List.getElem_cons_succ, Act.put, List.setIfInBounds_toArray, List.set_cons_zero, List.set_cons_succ])
  refine wpAnyH_take (i := 2) (oi := _) (v := ?_) rfl (by kernel_rfl) (by kernel_rfl) (by kernel_rfl) (fun _ _ _ h => h) (Or.inl ⟨by rfl, ?_⟩) (by assumption) ?_
  rotate_left
  · (intro w hSw; (try dsimp only at hSw); go_simp)
    all_goals (with_reducible rfl)
  (try simp only [List.getElem_toArray, List.getElem_cons_zero, List.getElem_cons_succ, Act.put, List.setIfInBounds_toArray, List.set_cons_zero, List.set_cons_succ])
  refine wpAnyH_take (i := 4) (oi := _) (v := ?_) rfl (by kernel_rfl) (by kernel_rfl) (by kernel_rfl) (fun _ _ _ h => h) (Or.inl ⟨by rfl, ?_⟩) (by assumption) ?_
  rotate_left
  · (intro w hSw; (try dsimp only at hSw); go_simp)
    all_goals (with_reducible rfl)
  (try simp only [List.getElem_toArray, List.getElem_cons_zero, List.getElem_cons_succ, Act.put, List.setIfInBounds_toArray, List.set_cons_zero, List.set_cons_succ])
  refine wpAnyH_take (i := 5) (oi := _) (v := ?_) rfl (by kernel_rfl) (by kernel_rfl) (by kernel_rfl) (fun _ _ _ h => h) (Or.inl ⟨by rfl, ?_⟩) (by assumption) ?_
  rotate_left
  · (intro w hSw; (try dsimp only at hSw); go_simp)
    all_goals (with_reducible rfl)
  (try simp only [List.getElem_toArray, List.getElem_cons_zero, List.getElem_cons_succ, Act.put, List.setIfInBounds_toArray, List.set_cons_zero, List.set_cons_succ])
  refine wpAnyH_take (i := 6) (oi := _) (v := ?_) rfl (by kernel_rfl) (by kernel_rfl) (by kernel_rfl) (fun _ _ _ h => h) (Or.inl ⟨by rfl, ?_⟩) (by assumption) ?_
  rotate_left
  · (intro w hSw; (try dsimp only at hSw); go_simp)
    all_goals (with_reducible rfl)
  (try simp only [List.getElem_toArray, List.getElem_cons_zero, List.getElem_cons_succ, Act.put, List.setIfInBounds_toArray, List.set_cons_zero, List.set_cons_succ])
  refine wpAnyH_take (i := 7) (oi := _) (v := ?_) rfl (by kernel_rfl) (by kernel_rfl) (by kernel_rfl) (fun _ _ _ h => h) (Or.inl ⟨by rfl, ?_⟩) (by assumption) ?_
  rotate_left
  · (intro w hSw; (try dsimp only at hSw); go_simp)
    all_goals (with_reducible rfl)
  (try simp only [List.getElem_toArray, List.getElem_cons_zero, List.getElem_cons_succ, Act.put, List.setIfInBounds_toArray, List.set_cons_zero, List.set_cons_succ])
  refine wpAnyH_take (i := 9) (oi := _) (v := ?_) rfl (by kernel_rfl) (by kernel_rfl) (by kernel_rfl) (fun _ _ _ h => h) (Or.inl ⟨by rfl, ?_⟩) (by assumption) ?_
  rotate_left
  · (intro w hSw; (try dsimp only at hSw); go_simp)
    all_goals (with_reducible rfl)
  (try simp only [List.getElem_toArray, List.getElem_cons_zero, List.getElem_cons_succ, Act.put, List.setIfInBounds_toArray, List.set_cons_zero, List.set_cons_succ])
  refine wpAnyH_take (i := 10) (oi := _) (v := ?_) rfl (by kernel_rfl) (by kernel_rfl) (by kernel_rfl) (fun _ _ _ h => h) (Or.inl ⟨by rfl, ?_⟩) (by assumption) ?_
  rotate_left
  · (intro w hSw; (try dsimp only at hSw); go_simp)
    all_goals (with_reducible rfl)
  (try simp only [List.getElem_toArray, List.getElem_cons_zero, List.getElem_cons_succ, Act.put, List.setIfInBounds_toArray, List.set_cons_zero, List.set_cons_succ])
  refine wpAnyH_ready (rs := [3]) (by kernel_rfl) (by simp) ?_
  refine AllReadyH.cons rfl (fun K hK => ?_) AllReadyH.nil
  go_simp
  (go_at_call 14; (with_reducible refine (HLI.out _ (n)).mono ?_); rintro e u4 ⟨rfl, hbb⟩; have Hu4 : Hid (Below w9.heap.size w9 u4) := Lib.hid (into ((Below.refl w9.heap.size w9).drew) hbb); clear hbb)
  go_wp2_with fail
  refine hK.out _ _ ?_ (fun hHeld => ?_)
  · (try dsimp only)
    exact heldw9 _ (by first | (with_reducible exact (Below.refl _ _).drew) | (with_reducible exact Hu4.out) | (with_reducible exact Hu4.out.alloc Hu4.out.size _) | (with_reducible exact Hu5.out) | (with_reducible exact Hu5.out.alloc Hu5.out.size _))
  clear hK K
  (try simp only [List.getElem_toArray, List.getElem_cons_zero, List.getElem_cons_succ, Act.put, List.setIfInBounds_toArray, List.set_cons_zero, List.set_cons_succ])
  refine wpAnyH_ready (rs := [8]) (by kernel_rfl) (by simp) ?_
  refine AllReadyH.cons rfl (fun K hK => ?_) AllReadyH.nil
  go_simp
  (go_at_call 14; (with_reducible refine (HLI.out _ (m)).mono ?_); rintro e u5 ⟨rfl, hbb⟩; have Hu5 : Hid (Below w9.heap.size w9 u5) := Lib.hid (into Hu4.out hbb); clear hbb)
  go_wp2_with fail
  refine hK.out _ _ ?_ (fun hHeld => ?_)
  · (try dsimp only)
    exact heldw9 _ (by first | (with_reducible exact (Below.refl _ _).drew) | (with_reducible exact Hu4.out) | (with_reducible exact Hu4.out.alloc Hu4.out.size _) | (with_reducible exact Hu5.out) | (with_reducible exact Hu5.out.alloc Hu5.out.size _))
  clear hK K
  (try simp only [List.getElem_toArray, List.getElem_cons_zero, List.getElem_cons_succ, Act.put, List.setIfInBounds_toArray, List.set_cons_zero, List.set_cons_succ])
  refine wpAnyH_ready (rs := [11]) (by kernel_rfl) (by simp) ?_
  refine AllReadyH.cons rfl (fun K hK => ?_) AllReadyH.nil
  go_simp
  refine hK.out _ _ ?_ (fun hHeld => ?_)
  · (try dsimp only)
    exact heldw9 _ (by first | (with_reducible exact (Below.refl _ _).drew) | (with_reducible exact Hu4.out) | (with_reducible exact Hu4.out.alloc Hu4.out.size _) | (with_reducible exact Hu5.out) | (with_reducible exact Hu5.out.alloc Hu5.out.size _))
  clear hK K
  (try simp only [List.getElem_toArray, List.getElem_cons_zero, List.getElem_cons_succ, Act.put, List.setIfInBounds_toArray, List.set_cons_zero, List.set_cons_succ])
  refine wpAnyH_ready (rs := [12]) (by kernel_rfl) (by simp) ?_
  refine AllReadyH.cons rfl (fun K hK => ?_) AllReadyH.nil
  go_simp
  refine hK.out _ _ ?_ (fun hHeld => ?_)
  · (try dsimp only)
    exact heldw9 _ (by first | (with_reducible exact (Below.refl _ _).drew) | (with_reducible exact Hu4.out) | (with_reducible exact Hu4.out.alloc Hu4.out.size _) | (with_reducible exact Hu5.out) | (with_reducible exact Hu5.out.alloc Hu5.out.size _))
  clear hK K
  (try simp only [List.getElem_toArray, List.getElem_cons_zero, List.getElem_cons_succ, Act.put, List.setIfInBounds_toArray, List.set_cons_zero, List.set_cons_succ])
  refine wpAnyH_done (by kernel_rfl) ?_ _
  dsimp only [NQ]
  refine wp_name' (fun w10 hw10 => ?_)
  have HO10 : Hid (w10.heap[u5.heap.size]? = some (.cells #[.int .i64 2, .int .i64 0, .int .i64 0, .string ⟨#[]⟩, .string ⟨#[105, 100]⟩, .int .i64 1, .int .i64 2, .int .i64 n, .string ⟨#[]⟩, .string ⟨#[]⟩, .int .i64 6, .int .i64 0, .int .i64 0, .string ⟨#[]⟩, .string ⟨#[]⟩, .int .i64 2, .int .i64 0, .int .i64 0, .string ⟨#[]⟩, .string ⟨#[105, 100]⟩, .int .i64 1, .int .i64 2, .int .i64 m, .string ⟨#[]⟩, .string ⟨#[]⟩, .int .i64 6, .int .i64 0, .int .i64 0, .string ⟨#[]⟩, .string ⟨#[]⟩, .int .i64 4, .int .i64 0, .int .i64 0, .string ⟨#[]⟩, .string ⟨#[]⟩] 44 (0, 0))) := Lib.hid (by rw [hw10]; exact new0 u5 _)
  have HB10 : Hid (Below w9.heap.size w9 w10) := Lib.hid (by rw [hw10]; exact Hu5.out.alloc Hu5.out.size _)
  have hA9 : u3.heap.size < w9.heap.size := by
    rcases Nat.lt_or_ge u3.heap.size w9.heap.size with g | g
    · exact g
    · have := HA9.out; rw [Array.getElem?_eq_none g] at this; cases this
  clear hw10 heldw9 jw
  have HRA := Lib.hid (rd_ops [cO idT, lO (num (n)), oO 7, lO (num (m)), cO idT, oO 7, oO 3, cO idT, lO (num (n + m)), oO 7, oO 3] (by simp) ((HB10.out.block u3.heap.size hA9).trans HA9.out))
  have HRO := Lib.hid (rd_ops [cO idT, lO (num (n)), oO 6, cO idT, lO (num (m)), oO 6, oO 4] (by simp) HO10.out)
  have HW10 := Lib.hid (into (into HB8.out HB9.out) HB10.out)
  go_wp2_with (go_at_call 10; ((with_reducible refine (HCO.out _).mono ?_); rintro e w' ⟨rfl, rfl⟩))
  refine (HBD.out _ 4 11 _ _ c4t [cO idT, lO (num (n)), oO 7, lO (num (m)), cO idT, oO 7, oO 3, cO idT, lO (num (n + m)), oO 7, oO 3] _ (HW10.out.alloc HW10.out.size _) (rd_c4 w10 _ _ _ _ _ _ _ _ _ rfl) (by decide) (rd_alloc HRA.out _) (sm_cons sm_id (sm_cons (sm_num (by omega)) (sm_cons (sm_op (by decide)) (sm_cons (sm_num (by omega)) (sm_cons sm_id (sm_cons (sm_op (by decide)) (sm_cons (sm_op (by decide)) (sm_cons sm_id (sm_cons (sm_num (by omega)) (sm_cons (sm_op (by decide)) (sm_cons (sm_op (by decide)) sm_nil))))))))))) (o1 n m ⟨p0, p1⟩ ⟨k0, k1⟩)).mono ?_
  rintro e w11 ⟨⟨xa, xn, xc⟩, ⟨ya, yn, yc⟩, rfl, hx, hy, hb11⟩
  obtain rfl : xn = 9 := hx.len.1.trans (key_len m)
  obtain rfl : yn = 9 := hy.len.1.trans (key_len n)
  have HXY := Lib.hid (And.intro hx hy)
  have HB11 : Hid (Below w10.heap.size w10 w11) := Lib.hid (into ((Below.refl _ _).alloc (Nat.le_refl _) _) hb11)
  have HW11 := Lib.hid (into HW10.out HB11.out)
  clear hx hy hb11
  go_wp2_with (go_at_call 10; ((with_reducible refine (HCO.out _).mono ?_); rintro e w' ⟨rfl, rfl⟩))
  refine (HBD.out _ 4 7 _ _ c4t [cO idT, lO (num (n)), oO 6, cO idT, lO (num (m)), oO 6, oO 4] _ (HW11.out.alloc HW11.out.size _) (rd_c4 w11 _ _ _ _ _ _ _ _ _ rfl) (by decide) (rd_alloc (HRO.out.below HB11.out) _) (sm_cons sm_id (sm_cons (sm_num (by omega)) (sm_cons (sm_op (by decide)) (sm_cons sm_id (sm_cons (sm_num (by omega)) (sm_cons (sm_op (by decide)) (sm_cons (sm_op (by decide)) sm_nil))))))) (o2 n m ⟨p0, by omega⟩ ⟨k0, by omega⟩)).mono ?_
  rintro e w12 ⟨⟨za, zn, zc⟩, ⟨ta, tn, tc⟩, rfl, hx, hy, hb12⟩
  obtain rfl : zn = 0 := hx.len.1
  obtain rfl : tn = 0 := hy.len.1
  have HB12 : Hid (Below w11.heap.size w11 w12) := Lib.hid (into ((Below.refl _ _).alloc (Nat.le_refl _) _) hb12)
  have HW12 := Lib.hid (into HW11.out HB12.out)
  clear hx hy hb12
  have HE1 := Lib.hid (cd.enc_any 1 (.slice (some ⟨w12.heap.size, 0, none⟩) 1 1) [num n] (w12.alloc (.cells #[.int .i64 2, .int .i64 n, .string ⟨#[]⟩] 36)) (fun v h => by rw [List.mem_singleton.1 h]; exact (ok_num (n := n) ⟨by omega, by omega⟩).2) (vc_rd1 w12 (num n) w12.heap.size rfl))
  go_wp2_with fail
  have h5 := HE1.out
  rw [enc_one (ok_num (n := n) ⟨by omega, by omega⟩)] at h5
  refine h5.mono ?_
  clear h5
  rintro e w13 ⟨v11, rfl, hown, hb11⟩
  obtain ⟨⟨ka1, kn1, kc1⟩, rfl, hk11⟩ := Rt.own hown
  obtain rfl : kn1 = 9 := hk11.len.1.trans (key_len n)
  have HN1 : Hid (Below w12.heap.size w12 w13) := Lib.hid (into (by go_grown) hb11)
  have HK1 := Lib.hid hk11
  clear hown hb11 hk11 HE1
  have HE2 := Lib.hid (cd.enc_any 1 (.slice (some ⟨w13.heap.size, 0, none⟩) 1 1) [num m] (w13.alloc (.cells #[.int .i64 2, .int .i64 m, .string ⟨#[]⟩] 36)) (fun v h => by rw [List.mem_singleton.1 h]; exact (ok_num (n := m) ⟨by omega, by omega⟩).2) (vc_rd1 w13 (num m) w13.heap.size rfl))
  go_wp2_with fail
  have h5 := HE2.out
  rw [enc_one (ok_num (n := m) ⟨by omega, by omega⟩)] at h5
  refine h5.mono ?_
  clear h5
  rintro e w14 ⟨v11, rfl, hown, hb11⟩
  obtain ⟨⟨ka2, kn2, kc2⟩, rfl, hk11⟩ := Rt.own hown
  obtain rfl : kn2 = 9 := hk11.len.1.trans (key_len m)
  have HN2 : Hid (Below w13.heap.size w13 w14) := Lib.hid (into (by go_grown) hb11)
  have HK2 := Lib.hid hk11
  clear hown hb11 hk11 HE2
  have HWE := Lib.hid (into (into HW12.out HN1.out) HN2.out)
  obtain ⟨ks, hks⟩ : ∃ ks : ByteArray, ks = ⟨(key n).toArray⟩ := ⟨_, rfl⟩
  obtain ⟨ms, hms⟩ : ∃ ks : ByteArray, ks = ⟨(key m).toArray⟩ := ⟨_, rfl⟩
  have c1 := str_of (HXY.out.1.below (into (into HB12.out HN1.out) HN2.out)).1
  have c2 := str_of (HXY.out.2.below (into (into HB12.out HN1.out) HN2.out)).1
  have c3 := str_of (l := key n) (HK1.out.below HN2.out).1
  have c4 := str_of (l := key m) HK2.out.1
  rw [← hms] at c1 c4
  rw [← hks] at c2 c3
  clear hks hms
  go_wp2_with fail
  go_ret
  exact ⟨rfl, HWE.out⟩

set_option maxRecDepth 100000 in
theorem lifted (os : Os) (started : os.Started) (H : Type) (enc : TypeId × Value → H) :
    ReturnsInHanded {} Tryd.checked os 5 .any (fun w args => (Rows.boundsBothSpec.pre enc Tryd.prog Tryd.f5 [] false w args ∧ laidX w) ∧ sizedMet enc Tryd.prog Tryd.f5 (OpenSpec.ofChange Rows.boundsBothSpec) false w args) (Rows.boundsBothSpec.post enc Tryd.prog Tryd.f5 false true false false) := by
  refine returnsInHanded_of_change_and (C := Tryd.checked) (X := fun w _ => laidX w) (fun _ _ _ hh h => h.of_heap hh) Tryd.own started (by kernel_rfl) Tryd.func5
    (ChangeSpec.witness_at (enc := enc) (C := Tryd.checked) (os := os) (X := fun w _ => laidX w) false (tabledX os) #[.int .i64 0, .int .i64 0] 8 rfl (by kernel_rfl) (by kernel_rfl) (by kernel_rfl) (by kernel_rfl) (by kernel_rfl) (tabledX_laidX os _)) ?_
  intro W base args ds gs before hval0 hW hcnd hsz0 hL _
  have hsz : (DataW.weightsEach Tryd.prog (Tryd.f5.params.toList ++ Rows.boundsBothSpec.plain.varTypes Tryd.prog) (ds ++ gs)).all (· ≤ reachBytes) = true := hsz0
  have hval : ∀ (j : Nat) t v, Tryd.f5.params[j]? = some t → args[j]? = some v → Value.okWide Tryd.prog W .any base t v := hval0
  have hW' := hW
  obtain ⟨p, q, hA0, hV, rfl, hfz, hnd⟩ := hW
  have hA : DataW.TrodAll enc Tryd.prog W 0 (fun _ => true) true Tryd.f5.params.toList args.toList ds p := hA0
  rw [Tryd.params5] at hA hval hsz
  obtain ⟨v0, v1, d0, d1, p0, p1, rfl, rfl, rfl, h0, h1⟩ := trodAll_two hA
  obtain ⟨rfl, rfl⟩ := trodVars_none hV
  obtain ⟨a0, rfl, rfl, rfl, w0⟩ := open_int Tryd.underlying3 (hval 0 3 v0 rfl rfl) h0
  obtain ⟨a1, rfl, rfl, rfl, w1⟩ := open_int Tryd.underlying3 (hval 1 3 v1 rfl rfl) h1
  clear hA0 hval0
  refine (walk W (X_of hL) a0 w0 a1 w1).mono fun e W' ⟨he, hg⟩ => ?_
  subst he
  exact ⟨_, rfl, law_post (tb := 4) Tryd.laidOut (by kernel_rfl) (by kernel_rfl) Tryd.underlying4 rfl hW' hg rfl rfl rfl⟩

theorem bare : Rows.BoundsBothSaid :=
  OpenClaim.holds_of_wide 5 Tryd.f5 rfl rfl rfl rfl rfl rfl rfl ⟨rfl, rfl, rfl, rfl, rfl⟩ rfl rfl rfl rfl rfl (by kernel_rfl) Tryd.func5 (by kernel_rfl)
    (of_decide_eq_true (by kernel_rfl)) (by unfold Func.isWrapper; first | (rw [if_pos (by decide +kernel)]; kernel_rfl) | (rw [if_neg (by decide +kernel)]; exact ⟨rfl, rfl⟩))
    (fun os started H enc _ => lifted os started H enc)
/-- The card: the row's one listed variable is tied to the program's text. -/
theorem proved : Rows.BoundsBothCardSaid :=
  Claim7.holds_tied_plain_at .later [] [.data, .data, .data, .data, .data, .data] true _ false bare (fun _ h => by cases h) (by kernel_rfl) (fun _ h => by cases h) boundsBoth_row_tie rfl ⟨rfl, rfl⟩ (by kernel_rfl) rfl
    (fun f fn hf hfn => by
      obtain rfl : f = 5 := Option.some.inj ((show Tryd.prog.funcNamed "padlock/padlockkeep.BoundsBoth" = some 5 by kernel_rfl).symm.trans hf) |>.symm
      obtain rfl : fn = Tryd.f5 := (Option.some.inj (Tryd.func5.symm.trans hfn)).symm
      refine ⟨by kernel_rfl, fun j t ht => ?_⟩
      rw [Tryd.params5] at ht
      rcases j with _ | _ | j <;> simp at ht <;> subst ht <;> kernel_rfl)
    (by kernel_rfl)
#print axioms proved
end Go.Proofs.YtmfkdpfcpdmkdaaDoor.lBoundsBoth
