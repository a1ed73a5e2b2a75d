/- What an expression makes of a row: the program. -/
import Derived.Test.YtfbmnkkpbcdjfaaDoorKe
import Derived.Test.YtfbmnkkpbcdjfaaDoorQq
namespace Go.Proofs.YtfbmnkkpbcdjfaaDoor
open Go.ChangeShapes Go.WideShapes Go.ChangeAt Go.RowKit
set_option linter.unusedVariables false
set_option linter.unusedSimpArgs false
set_option maxHeartbeats 8000000
set_option maxRecDepth 1000000
theorem wks_is (k : Int) : wks k = 0 ∨ wks k = 1 ∨ wks k = 2 := by
  unfold wks
  split
  · exact .inl rfl
  · split
    · exact .inr (.inl rfl)
    · exact .inr (.inr rfl)
theorem ex_mem : ∀ (l : List Oq) (n : Int), exF n l = 0 → ∀ o ∈ l, opF o.k o.v.k o.v.n o.v.t o.t = 0
  | [], n, h, o, ho => by cases ho
  | x :: l, n, h, o, ho => by
    obtain ⟨h1, _, h2⟩ := ex_cons h
    rcases List.mem_cons.1 ho with rfl | ho
    · exact h1
    · exact ex_mem l _ h2 o ho
section
variable {α : Type} (lf : Oq → Int × α) (one : Int → α → Int × α) (two : Int → α → α → Int × α)
theorem rn_ok : ∀ (l : List Oq) (st : List α), exF (st.length : Int) l = 0 → (rnF lf one two st l).1 = 0 → ∀ o ∈ l, wks o.k = 0 → (lf o).1 = 0
  | [], st, _, _, o, ho, _ => by cases ho
  | x :: l, st, he, h, o, ho, hw => by
    obtain ⟨_, h1, h2⟩ := ex_cons he
    rcases wks_is x.k with hk | hk | hk
    · rw [rn_leaf lf one two hk] at h
      by_cases hne : (lf x).1 = 0
      · rw [if_neg (by simpa using hne)] at h
        rcases List.mem_cons.1 ho with rfl | ho
        · exact hne
        · exact rn_ok l _ (by rw [← h2, hk]; congr 1 <;> simp <;> omega) h o ho hw
      · rw [if_pos hne] at h
        exact absurd h hne
    · match st, h1, h2, h with
      | [], h1, _, _ => exact absurd (by rw [hk]; simp) h1
      | a :: s, h1, h2, h =>
        rw [rn_un lf one two hk] at h
        by_cases hne : (one x.k a).1 = 0
        · rw [if_neg (by simpa using hne)] at h
          rcases List.mem_cons.1 ho with rfl | ho
          · omega
          · exact rn_ok l _ (by rw [← h2, hk]; congr 1 <;> simp <;> omega) h o ho hw
        · rw [if_pos hne] at h
          exact absurd h hne
    · match st, h1, h2, h with
      | [], h1, _, _ => exact absurd (by rw [hk]; simp) h1
      | [_], h1, _, _ => exact absurd (by rw [hk]; simp) h1
      | b :: a :: s, h1, h2, h =>
        rw [rn_bi lf one two hk] at h
        by_cases hne : (two x.k a b).1 = 0
        · rw [if_neg (by simpa using hne)] at h
          rcases List.mem_cons.1 ho with rfl | ho
          · omega
          · exact rn_ok l _ (by rw [← h2, hk]; congr 1 <;> simp <;> omega) h o ho hw
        · rw [if_pos hne] at h
          exact absurd h hne
theorem rn_pres (P : α → Prop) (h1 : ∀ k a, P a → P (one k a).2) (h2 : ∀ k a b, P a → P b → P (two k a b).2) : ∀ (l : List Oq) (st : List α), (∀ o ∈ l, wks o.k = 0 → P (lf o).2) → (∀ x ∈ st, P x) → ∀ x ∈ (rnF lf one two st l).2, P x
  | [], st, _, hs => by simpa [rnF] using hs
  | o :: l, st, hl, hs => by
    have hl' : ∀ o ∈ l, wks o.k = 0 → P (lf o).2 := fun x hx => hl x (List.mem_cons_of_mem _ hx)
    have no : ∀ x ∈ ([] : List α), P x := fun x hx => by cases hx
    unfold rnF
    by_cases k0 : wks o.k = 0
    · rw [if_pos k0]
      by_cases hne : (lf o).1 ≠ 0
      · rw [if_pos hne]; exact no
      · rw [if_neg hne]
        refine rn_pres P h1 h2 l _ hl' fun x hx => ?_
        rcases List.mem_cons.1 hx with rfl | hx
        · exact hl o (by simp) k0
        · exact hs x hx
    · rw [if_neg k0]
      by_cases k1 : wks o.k = 1
      · rw [if_pos k1]
        match st, hs with
        | [], _ => exact no
        | a :: s, hs =>
          show ∀ x ∈ (if (one o.k a).1 ≠ 0 then ((one o.k a).1, []) else rnF lf one two ((one o.k a).2 :: s) l).2, P x
          by_cases hne : (one o.k a).1 ≠ 0
          · rw [if_pos hne]; exact no
          · rw [if_neg hne]
            refine rn_pres P h1 h2 l _ hl' fun x hx => ?_
            rcases List.mem_cons.1 hx with rfl | hx
            · exact h1 _ _ (hs a (by simp))
            · exact hs x (by simp [hx])
      · rw [if_neg k1]
        match st, hs with
        | [], _ => exact no
        | [_], _ => exact no
        | b :: a :: s, hs =>
          show ∀ x ∈ (if (two o.k a b).1 ≠ 0 then ((two o.k a b).1, []) else rnF lf one two ((two o.k a b).2 :: s) l).2, P x
          by_cases hne : (two o.k a b).1 ≠ 0
          · rw [if_pos hne]; exact no
          · rw [if_neg hne]
            refine rn_pres P h1 h2 l _ hl' fun x hx => ?_
            rcases List.mem_cons.1 hx with rfl | hx
            · exact h2 _ _ _ (hs a (by simp)) (hs b (by simp))
            · exact hs x (by simp [hx])
end
def Sm (v : V) : Prop := v.t.size ≤ 20
theorem sm_nul : Sm nul := by unfold Sm nul; decide
theorem sm_tru (b : Bool) : Sm (tru b) := by show (⟨#[]⟩ : ByteArray).size ≤ 20; decide
theorem sm_one (k : Int) (a : V) (h : Sm a) : Sm (onV k a).2 := by
  show Sm (one k a).1
  unfold one turn
  split
  · exact sm_nul
  · split
    · exact sm_tru _
    · split
      · split
        · exact sm_nul
        · split
          · exact sm_tru _
          · exact sm_nul
      · exact sm_nul
theorem sm_join (a b : V) (d : Int) (h : Sm a) (g : Sm b) : Sm (join a b d).1 := by
  unfold join
  split
  · exact sm_nul
  · split
    · exact h
    · split
      · exact g
      · split
        · exact sm_nul
        · exact sm_tru _
theorem sm_hold (k : Int) (a b : V) : Sm (hold k a b).1 := by
  unfold hold
  split
  · exact sm_nul
  · split
    · exact sm_nul
    · split
      · exact sm_tru _
      · exact sm_tru _
theorem sm_reck (k : Int) (a b : V) : Sm (reck k a b).1 := by
  unfold reck
  split
  · exact sm_nul
  · split
    · exact sm_nul
    · split
      · exact sm_nul
      · show (⟨#[]⟩ : ByteArray).size ≤ 20; decide
theorem sm_two (k : Int) (a b : V) (h : Sm a) (g : Sm b) : Sm (twV k a b).2 := by
  show Sm (two k a b).1
  unfold two
  split
  · exact sm_nul
  · split
    · exact sm_join _ _ _ h g
    · split
      · exact sm_join _ _ _ h g
      · split
        · exact sm_hold _ _ _
        · split
          · exact sm_hold _ _ _
          · split
            · exact sm_reck _ _ _
            · split
              · exact sm_reck _ _ _
              · split
                · exact sm_reck _ _ _
                · exact sm_nul
theorem chk_sm {v : V} (h : chk v.k v.n v.t = 0) : Sm v := by
  unfold chk at h
  unfold Sm
  split at h
  · omega
  · split at h
    · omega
    · split at h
      · omega
      · split at h <;> omega
theorem rv_sm : ∀ (r : List V) (l : List Cq) (i : Nat), r.length = l.length → rvF i l r = 0 → ∀ v ∈ r, Sm v
  | [], _, _, _, _, v, hv => by cases hv
  | x :: r, [], _, h, _, _, _ => by simp at h
  | x :: r, c :: l, i, hl, h, v, hv => by
    unfold rvF at h
    split at h
    · omega
    · next h1 =>
      split at h
      · omega
      · rcases List.mem_cons.1 hv with rfl | hv
        · exact chk_sm (by simpa using h1)
        · exact rv_sm r l _ (by simpa using hl) h v hv
theorem op_sm {o : Oq} (h : opF o.k o.v.k o.v.n o.v.t o.t = 0) : Sm o.v := by
  unfold opF at h
  split at h
  · omega
  · split at h
    · omega
    · next h1 =>
      have h2 : litF o.v.k o.v.n o.v.t = 0 := by simpa using h1
      unfold litF at h2
      split at h2
      · omega
      · exact chk_sm h2
/-- What Eval answers: the fault, the value. -/
def evalF (l : List Cq) (r : List V) (ops : List Oq) : Int × V :=
  if rowF l r ≠ 0 then (rowF l r, nul) else if (kindF l ops).1 ≠ 0 then ((kindF l ops).1, nul)
  else ((rnF (lfV l r) onV twV [] ops).1, if (rnF (lfV l r) onV twV [] ops).1 ≠ 0 then nul else (rnF (lfV l r) onV twV [] ops).2.headD nul)
theorem row_ok {l : List Cq} {r : List V} (h : rowF l r = 0) : colsF l = 0 ∧ r.length = l.length ∧ rvF 0 l r = 0 := by
  unfold rowF at h
  split at h
  · omega
  · next h1 =>
    split at h
    · omega
    · next h2 => exact ⟨by simpa using h1, by simpa using h2, h⟩
theorem kind_ok {l : List Cq} {ops : List Oq} (h : (kindF l ops).1 = 0) : exprF ops = 0 ∧ exF 0 ops = 0 ∧ (rnF (lfK l) onK twK [] ops).1 = 0 := by
  unfold kindF at h
  split at h
  · next h1 => exact absurd h h1
  · split at h
    · next h1 => exact absurd h h1
    · next h1 =>
      have h2 : exprF ops = 0 := by simpa using h1
      refine ⟨h2, ?_, h⟩
      unfold exprF at h2
      split at h2
      · omega
      · exact h2
/-- Where a leaf's column is. -/
theorem leaf_in {l : List Cq} {r : List V} {ops : List Oq} (hr : rowF l r = 0) (hk : (kindF l ops).1 = 0) {o : Oq} (ho : o ∈ ops) (hw : wks o.k = 0) : o.k = 1 ∨ ∃ j : Nat, plI l o.t = (j : Int) ∧ j < r.length := by
  obtain ⟨_, h1, h2⟩ := kind_ok hk
  have h3 := rn_ok (lfK l) onK twK ops [] h1 h2 o ho hw
  by_cases h : o.k = 1
  · exact .inl h
  · unfold lfK at h3
    rw [if_neg h] at h3
    rcases plI_in l o.t with hp | ⟨j, hp, hj⟩
    · rw [hp] at h3
      simp at h3
    · exact .inr ⟨j, hp, by rw [(row_ok hr).2.1]; exact hj⟩
theorem eval_sm {l : List Cq} {r : List V} {ops : List Oq} (hr : rowF l r = 0) (hk : (kindF l ops).1 = 0) : Sm (if (rnF (lfV l r) onV twV [] ops).1 ≠ 0 then nul else (rnF (lfV l r) onV twV [] ops).2.headD nul) := by
  have h := rn_pres (lfV l r) onV twV Sm sm_one sm_two ops [] (fun o ho hw => by
    unfold lfV
    show Sm (if o.k = 1 then o.v else r.getD (plI l o.t).toNat nul)
    split
    · exact op_sm (ex_mem ops 0 (kind_ok hk).2.1 o ho)
    · next h1 =>
      rcases leaf_in hr hk ho hw with h2 | ⟨j, h2, h3⟩
      · exact absurd h2 h1
      · rw [h2]
        refine rv_sm r l 0 (row_ok hr).2.1 (row_ok hr).2.2 _ ?_
        rw [Int.toNat_natCast, List.getD_eq_getElem?_getD, List.getElem?_eq_getElem h3]
        exact List.getElem_mem h3) (fun x hx => by cases hx)
  split
  · exact sm_nul
  · match hq : (rnF (lfV l r) onV twV [] ops).2 with
    | [] => exact sm_nul
    | x :: s =>
      rw [hq] at h
      exact h x (by simp)
theorem eval1_any (w : World) (RB CB n m : Nat) (v u : Value) (l : List Cq) (r : List V) (o : Oq) (hr : Rd w 2 n v (ccs l)) (hx : w.cell? ⟨CB, 0, none⟩ = some v) (hu : Rd w 3 m u (vc r)) (hy : w.cell? ⟨RB, 0, none⟩ = some u) (hin : o.k = 1 ∨ ∃ j : Nat, plI l o.t = (j : Int) ∧ j < r.length) :
    Calls Tryd.prog 31 #[.agg #[.int .i64 o.k, .int .i64 o.v.k, .int .i64 o.v.n, .string o.v.t, .string o.t], .pointer (some ⟨RB, 0, none⟩), .pointer (some ⟨CB, 0, none⟩)] w (ValIs (lfV l r o) w) := by
  obtain ⟨k, ⟨vk, vn, vt⟩, t⟩ := o
  obtain ⟨W1, hW1⟩ : ∃ W1, W1 = (w.alloc (.cells #[.int .i64 k, .int .i64 vk, .int .i64 vn, .string vt, .string t] 43)).alloc (.cells #[.int .i64 0, .int .i64 0, .string ⟨#[]⟩] 36) := ⟨_, rfl⟩
  have HBW : Hid (Below w.heap.size w W1) := Lib.hid (by subst hW1; exact ((Below.refl _ _).alloc (Nat.le_refl _) _).alloc (by simp) _)
  have hz1 : W1.heap.size = w.heap.size + 2 := by subst hW1; simp
  have HO1 : Hid (W1.heap[w.heap.size]? = some (.cells #[.int .i64 k, .int .i64 vk, .int .i64 vn, .string vt, .string t] 43 (0, 0))) := Lib.hid (by subst hW1; rw [Below.heap_alloc _ _ _ (by simp)]; exact heap_alloc_new w _)
  have HM1 : Hid (W1.heap[w.heap.size + 1]? = some (.cells #[.int .i64 0, .int .i64 0, .string ⟨#[]⟩] 36 (0, 0))) := Lib.hid (by subst hW1; have h := heap_alloc_new (w.alloc (.cells #[.int .i64 k, .int .i64 vk, .int .i64 vn, .string vt, .string t] 43)) (.cells #[.int .i64 0, .int .i64 0, .string ⟨#[]⟩] 36); simpa using h)
  have HW1 := Lib.hid hW1
  clear hW1
  by_cases h1 : k = 1
  · subst h1
    clear hr hx hu hy hin
    go_enter Tryd.func31, Tryd.ntmps31
    go_wp2_with fail
    go_returns
    exact ⟨rfl, ((Below.refl _ _).alloc (Nat.le_refl _) _).alloc (by simp) _⟩
  · have h1' : (k == 1) = false := by simpa using h1
    obtain ⟨j, hj, hjr⟩ : ∃ j : Nat, plI l t = (j : Int) ∧ j < r.length := by
      rcases hin with h | h
      · exact absurd h h1
      · exact h
    have HP := Lib.hid (fun (W : World) (h : Below w.heap.size w W) => place_any W n v l t (hr.below h))
    rw [hj] at HP
    have HF : Hid (lfV l r ⟨k, ⟨vk, vn, vt⟩, t⟩ = (0, r.getD j nul)) := by
      show _ = _
      unfold lfV
      simp [h1, hj]
    obtain ⟨hrl, b, o, cap, rfl, _, _, hbw, hcell⟩ := vals_of hu (by have := len_v hu; omega)
    obtain ⟨g0, g1, g2⟩ := hcell j (by omega)
    obtain ⟨x, hxx⟩ : ∃ x, x = r.getD j nul := ⟨_, rfl⟩
    rw [← hxx] at g0 g1 g2 HF
    have c0 := cell_blz HBW.out g0
    have c1 := cell_blz HBW.out g1
    have c2 := cell_blz HBW.out g2
    have p0 := cell_blz HBW.out hy
    have p1 := cell_blz HBW.out hx
    have o4 : W1.cell? ⟨w.heap.size, 4, none⟩ = some (.string t) := by simp only [World.cell?]; rw [HO1.out]; rfl
    have i0 : (0 : Int) ≤ (j : Int) := by omega
    have i1 : (j : Int) < (m : Int) := by omega
    have hRB := lt_cell hy
    have hCB := lt_cell hx
    have hbb : b < w.heap.size + 1 := by omega
    have hRB' : RB < w.heap.size + 1 := Nat.lt_succ_of_lt hRB
    have hCB' : CB < w.heap.size + 1 := Nat.lt_succ_of_lt hCB
    clear hr hx hu hy hin hcell g0 g1 g2 hxx
    have heldE : ∀ wx, Below (w.heap.size + 1) W1 wx → (fun wx => Below (w.heap.size + 1) W1 wx ∧ wx.cell? ⟨RB, 0, none⟩ = some (.slice (some ⟨b, o, none⟩) m cap) ∧ wx.cell? ⟨CB, 0, none⟩ = some v ∧ wx.cell? ⟨w.heap.size, 4, none⟩ = some (.string t) ∧ wx.cell? ⟨b, o + j * 3, none⟩ = some (.int .i64 x.k) ∧ wx.cell? ⟨b, o + j * 3 + 1, none⟩ = some (.int .i64 x.n) ∧ wx.cell? ⟨b, o + j * 3 + 2, none⟩ = some (.string x.t)) wx := fun wx h => ⟨h, (h.cell (by show RB < _; omega)).trans p0, (h.cell (by show CB < _; omega)).trans p1, (h.cell (by show w.heap.size < _; omega)).trans o4, (h.cell (by show b < _; omega)).trans c0, (h.cell (by show b < _; omega)).trans c1, (h.cell (by show b < _; omega)).trans c2⟩
    go_enter Tryd.func31, Tryd.ntmps31
    go_wp2_with fail
    rw [← HW1.out]
    refine wp_region_held_drew (S := (fun wx => Below (w.heap.size + 1) W1 wx ∧ wx.cell? ⟨RB, 0, none⟩ = some (.slice (some ⟨b, o, none⟩) m cap) ∧ wx.cell? ⟨CB, 0, none⟩ = some v ∧ wx.cell? ⟨w.heap.size, 4, none⟩ = some (.string t) ∧ wx.cell? ⟨b, o + j * 3, none⟩ = some (.int .i64 x.k) ∧ wx.cell? ⟨b, o + j * 3 + 1, none⟩ = some (.int .i64 x.n) ∧ wx.cell? ⟨b, o + j * 3 + 2, none⟩ = some (.string x.t))) (by kernel_rfl) ?_ (fun hHeld => ?_)
    · (try dsimp only)
      exact heldE _ (by first | exact (Below.refl _ _).drew | exact hB2 | exact (st3 hB2 hbx _ _ _).1)
    refine wpAnyH_take (i := 0) (oi := _) (v := ?_) rfl (by kernel_rfl) (by kernel_rfl) (by kernel_rfl) (fun _ _ _ h => h) (Or.inl ⟨by rfl, ?_⟩) (by assumption) ?_
    rotate_left
    · (intro w hSw; (try dsimp only at hSw); go_simp)
      all_goals (with_reducible rfl)
    (try simp only [List.getElem_toArray, List.getElem_cons_zero, List.getElem_cons_succ, Act.put, List.setIfInBounds_toArray, List.set_cons_zero, List.set_cons_succ])
    refine wpAnyH_take (i := 1) (oi := _) (v := ?_) rfl (by kernel_rfl) (by kernel_rfl) (by kernel_rfl) (fun _ _ _ h => h) (Or.inl ⟨by rfl, ?_⟩) (by assumption) ?_
    rotate_left
    · (intro w hSw; (try dsimp only at hSw); go_simp)
      all_goals (with_reducible rfl)
    (try simp only [List.getElem_toArray, List.getElem_cons_zero, List.getElem_cons_succ, Act.put, List.setIfInBounds_toArray, List.set_cons_zero, List.set_cons_succ])
    refine wpAnyH_take (i := 2) (oi := _) (v := ?_) rfl (by kernel_rfl) (by kernel_rfl) (by kernel_rfl) (fun _ _ _ h => h) (Or.inl ⟨by rfl, ?_⟩) (by assumption) ?_
    rotate_left
    · (intro w hSw; (try dsimp only at hSw); go_simp)
      all_goals (with_reducible rfl)
    (try simp only [List.getElem_toArray, List.getElem_cons_zero, List.getElem_cons_succ, Act.put, List.setIfInBounds_toArray, List.set_cons_zero, List.set_cons_succ])
    refine wpAnyH_take (i := 3) (oi := _) (v := ?_) rfl (by kernel_rfl) (by kernel_rfl) (by kernel_rfl) (fun _ _ _ h => h) (Or.inl ⟨by rfl, ?_⟩) (by assumption) ?_
    rotate_left
    · (intro w hSw; (try dsimp only at hSw); go_simp)
      all_goals (with_reducible rfl)
    (try simp only [List.getElem_toArray, List.getElem_cons_zero, List.getElem_cons_succ, Act.put, List.setIfInBounds_toArray, List.set_cons_zero, List.set_cons_succ])
    refine wpAnyH_ready (rs := [4]) (by kernel_rfl) (by simp) ?_
    refine AllReadyH.cons rfl (fun K hK => ?_) AllReadyH.nil
    go_simp
    (go_at_call 23; (with_reducible refine (HP.out _ (into HBW.out (by go_grown))).mono ?_); rintro e w2 ⟨rfl, hb2⟩; have hB1 : Below W1.heap.size W1 w2 := into (by go_grown) hb2; have hB2 : Below (w.heap.size + 1) W1 w2 := hB1.mono (by omega); have hbx := (hB1.block (w.heap.size + 1) (by omega)).trans HM1.out; obtain ⟨z0, z1, z2, f0, f1, f2⟩ := box3 hbx)
    go_wp2_with fail
    refine hK.out _ _ ?_ (fun hHeld => ?_)
    · (try dsimp only)
      exact heldE _ (by first | exact (Below.refl _ _).drew | exact hB2 | exact (st3 hB2 hbx _ _ _).1)
    clear hK K
    (try simp only [List.getElem_toArray, List.getElem_cons_zero, List.getElem_cons_succ, Act.put, List.setIfInBounds_toArray, List.set_cons_zero, List.set_cons_succ])
    refine wpAnyH_take (i := 5) (oi := _) (v := ?_) rfl (by kernel_rfl) (by kernel_rfl) (by kernel_rfl) (fun _ _ _ h => h) (Or.inl ⟨by rfl, ?_⟩) (by assumption) ?_
    rotate_left
    · (intro w hSw; (try dsimp only at hSw); go_simp)
      all_goals (with_reducible rfl)
    (try simp only [List.getElem_toArray, List.getElem_cons_zero, List.getElem_cons_succ, Act.put, List.setIfInBounds_toArray, List.set_cons_zero, List.set_cons_succ])
    refine wpAnyH_take (i := 6) (oi := _) (v := ?_) rfl (by kernel_rfl) (by kernel_rfl) (by kernel_rfl) (fun _ _ _ h => h) (Or.inl ⟨by rfl, ?_⟩) (by assumption) ?_
    rotate_left
    · (intro w hSw; (try dsimp only at hSw); go_simp)
      all_goals (with_reducible rfl)
    (try simp only [List.getElem_toArray, List.getElem_cons_zero, List.getElem_cons_succ, Act.put, List.setIfInBounds_toArray, List.set_cons_zero, List.set_cons_succ])
    refine wpAnyH_ready (rs := [7]) (by kernel_rfl) (by simp) ?_
    refine AllReadyH.cons rfl (fun K hK => ?_) AllReadyH.nil
    go_simp
    refine hK.out _ _ ?_ (fun hHeld => ?_)
    · (try dsimp only)
      exact heldE _ (by first | exact (Below.refl _ _).drew | exact hB2 | exact (st3 hB2 hbx _ _ _).1)
    clear hK K
    (try simp only [List.getElem_toArray, List.getElem_cons_zero, List.getElem_cons_succ, Act.put, List.setIfInBounds_toArray, List.set_cons_zero, List.set_cons_succ])
    refine wpAnyH_ready (rs := [8]) (by kernel_rfl) (by simp) ?_
    refine AllReadyH.cons rfl (fun K hK => ?_) AllReadyH.nil
    go_simp
    refine hK.out _ _ ?_ (fun hHeld => ?_)
    · (try dsimp only)
      exact heldE _ (by first | exact (Below.refl _ _).drew | exact hB2 | exact (st3 hB2 hbx _ _ _).1)
    clear hK K
    (try simp only [List.getElem_toArray, List.getElem_cons_zero, List.getElem_cons_succ, Act.put, List.setIfInBounds_toArray, List.set_cons_zero, List.set_cons_succ])
    refine wpAnyH_done (by kernel_rfl) ?_ _
    have s3 := st3 hB2 hbx (.int .i64 x.k) (.int .i64 x.n) (.string x.t)
    obtain ⟨v0, v1, v2⟩ := st3c hbx (.int .i64 x.k) (.int .i64 x.n) (.string x.t)
    go_wp2_with fail
    (try simp only [Exit.inBlock, Exit.then])
    refine bodyPost_ret (by simp [results, Tryd.results31, go_sem, v0, v1, v2]; try rfl) rfl ?_
    rw [HF.out]
    exact ⟨rfl, HBW.out.trans (s3.1.mono (by omega))⟩
theorem eval_any (w : World) (hT : Tbs w) (n m q : Nat) (v u x : Value) (l : List Cq) (r : List V) (ops : List Oq) (hr : Rd w 2 n v (ccs l)) (hs : ∀ c ∈ l, c.t.size ≤ maxLen) (hu : Rd w 3 m u (vc r)) (hx : Rd w 5 q x (ocs ops)) (hos : ∀ o ∈ ops, o.t.size ≤ maxLen) :
    Calls Tryd.prog 13 #[v, u, x] w (ValIs (evalF l r ops) w) := by
  obtain ⟨va0, vcap, rfl⟩ : ∃ ao cap, v = .slice ao n cap := by
    obtain ⟨_, ao, cap, h, _⟩ := id hr
    exact ⟨ao, cap, h⟩
  obtain ⟨ua0, ucap, rfl⟩ : ∃ ao cap, u = .slice ao m cap := by
    obtain ⟨_, ao, cap, h, _⟩ := id hu
    exact ⟨ao, cap, h⟩
  obtain ⟨W0, hW0⟩ : ∃ W0, W0 = ((w.alloc (.cells #[.slice va0 n vcap] 22)).alloc (.cells #[.slice ua0 m ucap] 39)).alloc (.cells #[.int .i64 0, .int .i64 0, .string ⟨#[]⟩] 36) := ⟨_, rfl⟩
  have HBW : Hid (Below w.heap.size w W0) := Lib.hid (by subst hW0; exact (((Below.refl _ _).alloc (Nat.le_refl _) _).alloc (by simp) _).alloc (by simp; omega) _)
  have hz0 : W0.heap.size = w.heap.size + 3 := by subst hW0; simp
  have k0 : W0.cell? ⟨w.heap.size, 0, none⟩ = some (.slice va0 n vcap) := by
    subst hW0
    simp only [World.cell?]
    rw [Below.heap_alloc _ _ _ (by simp; omega), Below.heap_alloc _ _ _ (by simp), heap_alloc_new w _]
    rfl
  have k1 : W0.cell? ⟨w.heap.size + 1, 0, none⟩ = some (.slice ua0 m ucap) := by
    subst hW0
    have h := heap_alloc_new (w.alloc (.cells #[.slice va0 n vcap] 22)) (.cells #[.slice ua0 m ucap] 39)
    simp only [World.cell?]
    rw [Below.heap_alloc _ _ _ (by simp), show w.heap.size + 1 = (w.alloc (.cells #[.slice va0 n vcap] 22)).heap.size by simp, h]
    rfl
  have HM0 : Hid (W0.heap[w.heap.size + 2]? = some (.cells #[.int .i64 0, .int .i64 0, .string ⟨#[]⟩] 36 (0, 0))) := Lib.hid (by subst hW0; have h := heap_alloc_new ((w.alloc (.cells #[.slice va0 n vcap] 22)).alloc (.cells #[.slice ua0 m ucap] 39)) (.cells #[.int .i64 0, .int .i64 0, .string ⟨#[]⟩] 36); simpa using h)
  have HR := Lib.hid (fun (W : World) (h : Below w.heap.size w W) => row_any W (hT.below h) n m _ _ l r (hr.below h) hs (hu.below h))
  have HK := Lib.hid (fun (W : World) (h : Below w.heap.size w W) => kind_any W (hT.below h) n q _ x l ops (hr.below h) hs (hx.below h) hos)
  have HFD := Lib.hid (fun (W : World) (h : Below w.heap.size w W) (h1 : W.cell? ⟨w.heap.size + 1, 0, none⟩ = some (.slice ua0 m ucap)) (h2 : W.cell? ⟨w.heap.size, 0, none⟩ = some (.slice va0 n vcap)) (h3 : rowF l r = 0) (h4 : (kindF l ops).1 = 0) =>
    foldV_any W q x ops l r (w.heap.size + 1) w.heap.size (hx.below h) (kind_ok h4).1 (fun W2 hb o ho hw => eval1_any W2 (w.heap.size + 1) w.heap.size n m _ _ l r o (hr.below (into h hb)) (cell_blz hb h2) (hu.below (into h hb)) (cell_blz hb h1) (leaf_in h3 h4 ho hw)))
  have hF : evalF l r ops = if rowF l r ≠ 0 then (rowF l r, nul) else if (kindF l ops).1 ≠ 0 then ((kindF l ops).1, nul) else ((rnF (lfV l r) onV twV [] ops).1, if (rnF (lfV l r) onV twV [] ops).1 ≠ 0 then nul else (rnF (lfV l r) onV twV [] ops).2.headD nul) := rfl
  have HSM := Lib.hid (fun (h3 : rowF l r = 0) (h4 : (kindF l ops).1 = 0) => eval_sm h3 h4)
  obtain ⟨y, hy⟩ : ∃ y, y = rowF l r := ⟨_, rfl⟩
  obtain ⟨z, hz⟩ : ∃ z, z = kindF l ops := ⟨_, rfl⟩
  obtain ⟨R, hR⟩ : ∃ R, R = rnF (lfV l r) onV twV [] ops := ⟨_, rfl⟩
  obtain ⟨z1, z2⟩ := z
  rw [← hy] at HR HFD hF HSM
  rw [← hz] at HK HFD hF HSM
  rw [← hR] at HFD hF HSM
  obtain ⟨g, hg⟩ : ∃ g, g = (if R.1 ≠ 0 then nul else R.2.headD nul) := ⟨_, rfl⟩
  obtain ⟨f, hf⟩ : ∃ f, f = R.1 := ⟨_, rfl⟩
  have HFE : Hid (∀ W, Below w.heap.size w W → W.cell? ⟨w.heap.size + 1, 0, none⟩ = some (.slice ua0 m ucap) → W.cell? ⟨w.heap.size, 0, none⟩ = some (.slice va0 n vcap) → y = 0 → z1 = 0 → Calls Tryd.prog 30 #[x, .func (.func 31) #[] #[.pointer (some ⟨w.heap.size + 1, 0, none⟩), .pointer (some ⟨w.heap.size, 0, none⟩)], .func (.func 16) #[] #[], .func (.func 15) #[] #[]] W fun e w' => e = .returned (.tuple #[va g, .int .i64 f]) ∧ Below W.heap.size W w') := fun W h1 h2 h3 h4 h5 => by
    rw [hg, hf]
    exact HFD.out W h1 h2 h3 h4 h5
  rw [← hg, ← hf] at hF
  rw [← hg] at HSM
  have HF := Lib.hid hF
  have HW0 := Lib.hid hW0
  clear hF hy hz hR hg hf HFD hr hs hu hx hos hT hW0
  by_cases hy0 : y = 0
  · subst hy0
    by_cases hz0' : z1 = 0
    · subst hz0'
      have HZ : Hid (evalF l r ops = (f, g)) := by show _ = _; rw [HF.out]; simp
      have hsm : g.t.size ≤ 20 := HSM.out rfl rfl
      have HCL : Hid (∀ W, Calls Tryd.prog 32 #[.string g.t] W fun e w' => e = .returned (.string g.t) ∧ Below W.heap.size W w') := fun W => clone_any W g.t (by omega)
      clear HSM HF hsm
      go_enter Tryd.func13, Tryd.ntmps13
      go_wp2_with fail
      rw [← HW0.out]
      refine (HR.out _ HBW.out).mono ?_
      rintro e w1 ⟨rfl, hb1⟩
      have a0 := cell_blz hb1 k0
      have a1 := cell_blz hb1 k1
      have HM1 := Lib.hid ((hb1.block (w.heap.size + 2) (by omega)).trans HM0.out)
      have HB1 := Lib.hid (into HBW.out hb1)
      have hz1 := hb1.size
      clear hb1 k0 k1
      go_wp2_with fail
      refine (HK.out _ HB1.out).mono ?_
      rintro e w2 ⟨rfl, hb2⟩
      have b0 := cell_blz hb2 a0
      have b1 := cell_blz hb2 a1
      have HM2 := Lib.hid ((hb2.block (w.heap.size + 2) (by omega)).trans HM1.out)
      have HB2 := Lib.hid (into HB1.out hb2)
      have hz2 := hb2.size
      clear hb2 a0 a1
      go_wp2_with fail
      refine (HFE.out _ HB2.out b1 b0 (by simp) (by simp)).mono ?_
      rintro e w3 ⟨rfl, hb3⟩
      have HM3 := Lib.hid ((hb3.block (w.heap.size + 2) (by omega)).trans HM2.out)
      have HB3 := Lib.hid (into HB2.out hb3)
      have hz3 := hb3.size
      clear hb3 b0 b1
      go_wp2_with fail
      refine (HCL.out _).mono ?_
      rintro e w4 ⟨rfl, hb4⟩
      have hb34 : Below w3.heap.size w3 w4 := into ((Below.refl _ _).alloc (Nat.le_refl _) _) hb4
      have HM4 := Lib.hid ((hb34.block (w.heap.size + 2) (by omega)).trans HM3.out)
      have HV4 : Hid (w4.heap[w3.heap.size]? = some (.cells #[.int .i64 g.k, .int .i64 g.n, .string g.t] 36 (0, 0))) := Lib.hid ((hb4.block w3.heap.size (by simp)).trans (heap_alloc_new w3 _))
      obtain ⟨y0, y1, y2, f0, f1, f2⟩ := box3 HV4.out
      have hne : w.heap.size + 2 ≠ w3.heap.size := by omega
      have HM5 : Hid ((w4.setCell ⟨w3.heap.size, 2, none⟩ (.string g.t)).heap[w.heap.size + 2]? = some (.cells #[.int .i64 0, .int .i64 0, .string ⟨#[]⟩] 36 (0, 0))) := Lib.hid ((Below.heap_setCell _ _ _ _ hne).trans HM4.out)
      obtain ⟨x0, x1, x2, e0, e1, e2⟩ := box3 HM5.out
      have HV5 : (w4.setCell ⟨w3.heap.size, 2, none⟩ (.string g.t)).cell? ⟨w3.heap.size, 2, none⟩ = some (.string g.t) := by
        have h := Lib.heap_setCell_same (i := 2) HV4.out (.string g.t)
        simp only [World.cell?]
        rw [h]
        rfl
      obtain ⟨v0, v1, v2⟩ := st3c HM5.out (.int .i64 g.k) (.int .i64 g.n) (.string g.t)
      have hb5 : Below w.heap.size w (w4.setCell ⟨w3.heap.size, 2, none⟩ (.string g.t)) := by
        have h := into HB3.out hb34
        exact ⟨h.os, h.tape, h.output, by simpa using h.size, fun k hk => (Below.heap_setCell _ _ _ _ (by show _ ≠ w3.heap.size; omega)).trans (h.block k hk)⟩
      have s3 := st3 (Below.refl (w.heap.size + 2) _) HM5.out (.int .i64 g.k) (.int .i64 g.n) (.string g.t)
      go_wp2_with fail
      (try simp only [Exit.inBlock, Exit.then])
      refine bodyPost_ret (by simp [results, Tryd.results13, go_sem, v0, v1, v2]; try rfl) rfl ?_
      rw [HZ.out]
      exact ⟨rfl, hb5.trans (s3.1.mono (by omega))⟩
    · have hq0 : (z1 == 0) = false := by simpa using hz0'
      have HZ : Hid (evalF l r ops = (z1, nul)) := by show _ = _; rw [HF.out]; simp [hz0']
      clear HSM HF HFE
      go_enter Tryd.func13, Tryd.ntmps13
      go_wp2_with fail
      rw [← HW0.out]
      refine (HR.out _ HBW.out).mono ?_
      rintro e w1 ⟨rfl, hb1⟩
      have a0 := cell_blz hb1 k0
      have HM1 := Lib.hid ((hb1.block (w.heap.size + 2) (by omega)).trans HM0.out)
      have HB1 := Lib.hid (into HBW.out hb1)
      have hz1 := hb1.size
      clear hb1 k0 k1
      go_wp2_with fail
      refine (HK.out _ HB1.out).mono ?_
      rintro e w2 ⟨rfl, hb2⟩
      have HM2 := Lib.hid ((hb2.block (w.heap.size + 2) (by omega)).trans HM1.out)
      have HB2 := Lib.hid (into HB1.out hb2)
      clear hb2 a0
      obtain ⟨x0, x1, x2, e0, e1, e2⟩ := box3 HM2.out
      obtain ⟨v0, v1, v2⟩ := st3c HM2.out (.int .i64 0) (.int .i64 0) (.string ⟨#[]⟩)
      have s3 := st3 (Below.refl (w.heap.size + 2) _) HM2.out (.int .i64 0) (.int .i64 0) (.string ⟨#[]⟩)
      go_wp2_with fail
      (try simp only [Exit.inBlock, Exit.then])
      refine bodyPost_ret (by simp [results, Tryd.results13, go_sem, v0, v1, v2]; try rfl) rfl ?_
      rw [HZ.out]
      exact ⟨rfl, HB2.out.trans (s3.1.mono (by omega))⟩
  · have hq0 : (y == 0) = false := by simpa using hy0
    have HZ : Hid (evalF l r ops = (y, nul)) := by show _ = _; rw [HF.out]; simp [hy0]
    clear HSM HF HFE HK
    go_enter Tryd.func13, Tryd.ntmps13
    go_wp2_with fail
    rw [← HW0.out]
    refine (HR.out _ HBW.out).mono ?_
    rintro e w1 ⟨rfl, hb1⟩
    have HM1 := Lib.hid ((hb1.block (w.heap.size + 2) (by omega)).trans HM0.out)
    have HB1 := Lib.hid (into HBW.out hb1)
    clear hb1 k0 k1
    obtain ⟨x0, x1, x2, e0, e1, e2⟩ := box3 HM1.out
    obtain ⟨v0, v1, v2⟩ := st3c HM1.out (.int .i64 0) (.int .i64 0) (.string ⟨#[]⟩)
    have s3 := st3 (Below.refl (w.heap.size + 2) _) HM1.out (.int .i64 0) (.int .i64 0) (.string ⟨#[]⟩)
    go_wp2_with fail
    (try simp only [Exit.inBlock, Exit.then])
    refine bodyPost_ret (by simp [results, Tryd.results13, go_sem, v0, v1, v2]; try rfl) rfl ?_
    rw [HZ.out]
    exact ⟨rfl, HB1.out.trans (s3.1.mono (by omega))⟩
end Go.Proofs.YtfbmnkkpbcdjfaaDoor
