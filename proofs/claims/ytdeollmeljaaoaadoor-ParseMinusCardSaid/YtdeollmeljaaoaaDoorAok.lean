import Derived.Test.YtdeollmeljaaoaaDoorAnk
/- What stands behind CREATE, behind INSERT. -/
namespace Go.Proofs.YtdeollmeljaaoaaDoor.rd
open Go.ChangeShapes Go.WideShapes Go.ChangeAt Go.RowKit Go.Proofs.YtdeollmeljaaoaaDoor.cs
set_option linter.unusedVariables false
set_option linter.unusedSimpArgs false
set_option maxHeartbeats 4000000
set_option maxRecDepth 100000
/-- What fills a statement: it dies of a fault, or goes on. -/
def Sx (w : World) (B S E : Nat) (a : Option Addr) (n c : Nat) (L : List Tk) (r : F ⊕ (Nat × Sq)) (e : Ending) (w' : World) : Prop :=
  ButS B S E w w' ∧ match r with
    | .inl f => e = flt f.1 f.2
    | .inr (k', s') => e = .returned (.tuple #[]) ∧ ∃ p', Ss w' B S E a n c L k' s' p'
theorem StO.as {w : World} {E : Nat} {s s' : Sq} {p : Ps} (h : StO w E s p) (e2 : s'.cols = s.cols) (e3 : s'.row = s.row) (e4 : s'.names = s.names) (e6 : s'.wh = s.wh) (e11 : s'.to = s.to) : StO w E s' p := by
  obtain ⟨o2, o3, o4, o6, o11⟩ := h
  exact ⟨by rw [e2]; exact o2, by rw [e3]; exact o3, by rw [e4]; exact o4, by rw [e6]; exact o6, by rw [e11]; exact o11⟩
theorem Cl.put {B S E P Q : Nat} {a : Option Addr} {n c : Nat} {L : List Tk} {w : World} {k : Nat} {s s' : Sq} {p p' : Ps} (h : Cl w B S E P Q a n c L k s p) (i : Nat) (v : Value) (hc : (stC s p).setIfInBounds i v = stC s' p') (ho : StO w E s' p') : Cl (w.setCell ⟨S, i, none⟩ v) B S E P Q a n c L k s' p' := by
  have hN := But.set w S i v
  exact ⟨h.ss.put i v hc ho, (hN.block P (blk_lt h.bp) h.ps).trans h.bp, (hN.block Q (blk_lt h.bq) h.qs).trans h.bq, h.pb, h.ps, h.qb, h.qs⟩
section
variable {B S E : Nat} {a : Option Addr} {n c : Nat} {L : List Tk}
theorem cmust {P Q : Nat} {w W : World} {k : Nat} {s : Sq} {p : Ps} (h : Cl w B S E P Q a n c L k s p) (ts : List ByteArray) (hW : W = w.alloc (.cells (ts.map Value.string).toArray 9)) (h0 : 0 < ts.length) (h9 : ts.length ≤ 9) :
    Calls Tryd.prog 52 #[.pointer (some ⟨B, 0, none⟩), .slice (some ⟨w.heap.size, 0, none⟩) ts.length ts.length] W fun e w' => But B w w' ∧ match mustF L n k ts with
      | .inl f => e = flt f.1 f.2
      | .inr k' => e = .returned (.tuple #[]) ∧ Cl w' B S E P Q a n c L k' s p := by
  have hb : Below w.heap.size w W := by rw [hW]; exact (Below.refl _ _).alloc (Nat.le_refl _) _
  have hc := h.later hb
  refine (smust hc.ss.rs (b := w.heap.size) (ts := ts) (by rw [hW]; exact new0 _ _) (by have := h.ss.rs.lt; omega) h0 h9).mono ?_
  rintro e w' ⟨h1, h2⟩
  refine ⟨(But.of hb).trans h1, ?_⟩
  cases hm : mustF L n k ts with
  | inl f =>
    rw [hm] at h2
    exact h2
  | inr k' =>
    rw [hm] at h2
    exact ⟨h2.1, hc.go h1 h2.2⟩
def inv_create (B S E P Q : Nat) (a : Option Addr) (n c : Nat) (L : List Tk) (s : Sq) (W : World) (k : Nat) (l : List Cq) : Prop := l.length ≤ k ∧ ∃ p, Cl W B S E P Q a n c L k { s with cols := l } p
theorem create_any {w : World} {k : Nat} {s : Sq} {p : Ps} (h : Ss w B S E a n c L k s p) (hs0 : s.cols = []) :
    Calls Tryd.prog 51 #[.pointer (some ⟨B, 0, none⟩), .pointer (some ⟨S, 0, none⟩)] w (Sx w B S E a n c L (createF L n k s)) := by
  obtain ⟨P, hP⟩ : ∃ P, P = w.heap.size := ⟨_, rfl⟩
  have hlS := blk_lt h.box
  have hlB := h.rs.lt
  obtain ⟨r, hr⟩ : ∃ r, r = createF L n k s := ⟨_, rfl⟩
  rw [← hr]
  have hcl : ∀ W, W = (w.alloc (.cells #[.pointer (some ⟨B, 0, none⟩)] 91)).alloc (.cells #[.pointer (some ⟨S, 0, none⟩)] 93) → Cl W B S E w.heap.size (w.heap.size + 1) a n c L k s p ∧ Below w.heap.size w W ∧ W.heap.size = w.heap.size + 1 + 1 := fun W hW => by
    have hb : Below w.heap.size w W := by rw [hW]; exact ((Below.refl _ _).alloc (Nat.le_refl _) _).alloc (by simp) _
    exact ⟨⟨h.later hb, by rw [hW]; exact (Below.heap_alloc _ _ _ (by simp)).trans (new0 _ _), by rw [hW]; exact new1 _ _ _, by omega, by omega, by omega, by omega⟩, hb, by rw [hW]; simp⟩
  have HCL := Lib.hid hcl
  obtain ⟨r0, hr0⟩ : ∃ r0, r0 = mustF L n k [sTABLE] := ⟨_, rfl⟩
  have HR0 : Hid (r = bd r0 fun k => bd (nameG L n k) fun x => bd (mustF L n x.2 [sOpen]) fun k => bd (listF L (colF L n) k s.cols) fun y => bd (mustF L n y.1 [sClose]) fun k => .inr (k, { s with k := 1, t := x.1, cols := y.2 })) := by
    show _ = _
    rw [hr, hr0]
    rfl
  have HMU : Hid (∀ W0, W0 = (w.alloc (.cells #[.pointer (some ⟨B, 0, none⟩)] 91)).alloc (.cells #[.pointer (some ⟨S, 0, none⟩)] 93) → Calls Tryd.prog 52 #[.pointer (some ⟨B, 0, none⟩), .slice (some ⟨w.heap.size + 1 + 1, 0, none⟩) 1 1] (W0.alloc (.cells #[.string sTABLE] 9)) fun e w' => But B w w' ∧ match r0 with
      | .inl f => e = flt f.1 f.2
      | .inr k' => e = .returned (.tuple #[]) ∧ Cl w' B S E w.heap.size (w.heap.size + 1) a n c L k' s p) := fun W0 h0 => by
    obtain ⟨hc, hb, hz⟩ := HCL.out W0 h0
    rw [← hz, hr0]
    refine (cmust hc [sTABLE] rfl (by simp) (by simp)).mono ?_
    rintro e w' ⟨h1, h2⟩
    exact ⟨(But.of hb).trans h1, h2⟩
  clear hcl hr hr0 HCL h hP
  go_enter Tryd.func51, Tryd.ntmps51
  go_wp2_with fail
  refine (HMU.out _ rfl).mono ?_
  rintro e w1 ⟨hN1, h1⟩
  have HN1 := Lib.hid (hN1.toS S E)
  clear hN1 HMU
  rcases r0 with f0 | k1
  · obtain rfl : e = flt f0.1 f0.2 := h1
    obtain rfl : r = .inl f0 := HR0.out
    exact ⟨rfl, HN1.out, rfl⟩
  · obtain ⟨rfl, hx1⟩ := h1
    have HNA : Hid (∀ W, Below w1.heap.size w1 W → Calls Tryd.prog 53 #[.pointer (some ⟨B, 0, none⟩)] W fun e w' => But B W w' ∧ match nameG L n k1 with
      | .inl f => e = flt f.1 f.2
      | .inr (t, k') => e = .returned (.string t) ∧ Rs w' B a n c L k') := fun W hW => sname (hx1.ss.rs.later hW)
    obtain ⟨r1, hr1⟩ : ∃ r1, r1 = nameG L n k1 := ⟨_, rfl⟩
    have HR1 : Hid (r = bd r1 fun x => bd (mustF L n x.2 [sOpen]) fun k => bd (listF L (colF L n) k s.cols) fun y => bd (mustF L n y.1 [sClose]) fun k => .inr (k, { s with k := 1, t := x.1, cols := y.2 })) := by
      show _ = _
      rw [HR0.out, hr1]
      rfl
    rw [← hr1] at HNA
    have HS1 := Lib.hid hx1
    obtain ⟨xp, xq⟩ := hx1.xs
    have HQS : Hid (S ≠ w.heap.size + 1) := hx1.qs.symm
    have HPS : Hid (S ≠ w.heap.size) := hx1.ps.symm
    clear hr1 HR0 hx1
    go_wp2_with fail
    refine wpT_begin (S := (fun wx => wx.cell? ⟨w.heap.size + 1, 0, none⟩ = some (.pointer (some ⟨S, 0, none⟩)) ∧ wx.cell? ⟨w.heap.size, 0, none⟩ = some (.pointer (some ⟨B, 0, none⟩)))) [9] (by kernel_rfl) ?_ (fun hHeld => ?_)
    · (try dsimp only)
      (first | (with_reducible exact ⟨cell_dr xq, cell_dr xp⟩) | (exact ⟨yq, yp⟩) | (exact ⟨(World.cell?_setCell_far _ _ _ _ HQS.out).trans yq, (World.cell?_setCell_far _ _ _ _ HPS.out).trans yp⟩))
    refine wpAnyT_take (i := 0) (oi := _) (v := ?_) rfl (by kernel_rfl) (by kernel_rfl) (by kernel_rfl) (by kernel_rfl) (fun _ _ _ h => h) (Or.inl ⟨by rfl, ?_⟩) (by assumption) ?_
    rotate_left
    · (intro w hSw; (try dsimp only at hSw); go_simp)
      all_goals (with_reducible rfl)
    (try simp only [List.getElem_toArray, List.getElem_cons_zero, List.getElem_cons_succ, Act.put, List.setIfInBounds_toArray, List.set_cons_zero, List.set_cons_succ])
    refine wpAnyT_take (i := 1) (oi := _) (v := ?_) rfl (by kernel_rfl) (by kernel_rfl) (by kernel_rfl) (by kernel_rfl) (fun _ _ _ h => h) (Or.inl ⟨by rfl, ?_⟩) (by assumption) ?_
    rotate_left
    · (intro w hSw; (try dsimp only at hSw); go_simp)
      all_goals (with_reducible rfl)
    (try simp only [List.getElem_toArray, List.getElem_cons_zero, List.getElem_cons_succ, Act.put, List.setIfInBounds_toArray, List.set_cons_zero, List.set_cons_succ])
    refine wpAnyT_take (i := 2) (oi := _) (v := ?_) rfl (by kernel_rfl) (by kernel_rfl) (by kernel_rfl) (by kernel_rfl) (fun _ _ _ h => h) (Or.inl ⟨by rfl, ?_⟩) (by assumption) ?_
    rotate_left
    · (intro w hSw; (try dsimp only at hSw); go_simp)
      all_goals (with_reducible rfl)
    (try simp only [List.getElem_toArray, List.getElem_cons_zero, List.getElem_cons_succ, Act.put, List.setIfInBounds_toArray, List.set_cons_zero, List.set_cons_succ])
    refine wpAnyT_ready (rs := [3]) (by kernel_rfl) (by simp) ?_
    refine AllReadyT.cons rfl (fun K hK => ?_) AllReadyT.nil
    go_simp
    (go_at_call 53; ((refine (HNA.out _ (Below.refl _ _).drew).mono ?_); rintro e w3 ⟨hN3, h3⟩; have HN3 := Lib.hid (HN1.out.trans (((But.of (Below.refl _ _).drew).trans hN3).toS S E)); rcases r1 with f0 | ⟨t1, k3⟩; (focus (obtain rfl : e = flt f0.1 f0.2 := h3; obtain rfl : r = .inl f0 := HR1.out; exact ⟨rfl, HN3.out, rfl⟩)); obtain ⟨rfl, hs3⟩ := h3; have hx3 := (HS1.out.later (Below.refl _ _).drew).go hN3 hs3; have HS3 := Lib.hid hx3; obtain ⟨yp, yq⟩ := hx3.xs; have q0 : w3.cell? ⟨S, 0, none⟩ = some (.int .i64 s.k) := (hx3.ss.x 0 (by omega)).1; have q1 : w3.cell? ⟨S, 1, none⟩ = some (.string s.t) := (hx3.ss.x 1 (by omega)).1; have sf0 := (hx3.ss.x 0 (by omega)).2; have sf1 := (hx3.ss.x 1 (by omega)).2; clear hN3 hs3 hx3 HNA))
    go_wp2_with fail
    refine hK.out _ _ (fun _ => ?_) (fun hHeld0 => ?_)
    · (try dsimp only)
      (first | (with_reducible exact ⟨cell_dr xq, cell_dr xp⟩) | (exact ⟨yq, yp⟩) | (exact ⟨(World.cell?_setCell_far _ _ _ _ HQS.out).trans yq, (World.cell?_setCell_far _ _ _ _ HPS.out).trans yp⟩))
    have hHeld := hHeld0 (by kernel_rfl)
    clear hK K hHeld0
    (try simp only [List.getElem_toArray, List.getElem_cons_zero, List.getElem_cons_succ, Act.put, List.setIfInBounds_toArray, List.set_cons_zero, List.set_cons_succ])
    refine wpAnyT_pure (i := 4) (oi := _) (v := ?_) rfl (by kernel_rfl) (by kernel_rfl) (by kernel_rfl) (by kernel_rfl) (fun _ _ _ h => h) (Or.inl ⟨by rfl, ?_⟩) (fun _ => by assumption) ?_
    rotate_left
    · (intro w hSw; go_simp)
      all_goals (with_reducible rfl)
    (try simp only [List.getElem_toArray, List.getElem_cons_zero, List.getElem_cons_succ, Act.put, List.setIfInBounds_toArray, List.set_cons_zero, List.set_cons_succ])
    refine wpAnyT_pure (i := 5) (oi := _) (v := ?_) rfl (by kernel_rfl) (by kernel_rfl) (by kernel_rfl) (by kernel_rfl) (fun _ _ _ h => h) (Or.inl ⟨by rfl, ?_⟩) (fun _ => by assumption) ?_
    rotate_left
    · (intro w hSw; go_simp)
      all_goals (with_reducible rfl)
    (try simp only [List.getElem_toArray, List.getElem_cons_zero, List.getElem_cons_succ, Act.put, List.setIfInBounds_toArray, List.set_cons_zero, List.set_cons_succ])
    refine wpAnyT_ready (rs := [6]) (by kernel_rfl) (by simp) ?_
    refine AllReadyT.cons rfl (fun K hK => ?_) AllReadyT.nil
    go_simp
    refine hK.out _ _ (fun _ => ?_) (fun hHeld0 => ?_)
    · (try dsimp only)
      (first | (with_reducible exact ⟨cell_dr xq, cell_dr xp⟩) | (exact ⟨yq, yp⟩) | (exact ⟨(World.cell?_setCell_far _ _ _ _ HQS.out).trans yq, (World.cell?_setCell_far _ _ _ _ HPS.out).trans yp⟩))
    have hHeld := hHeld0 (by kernel_rfl)
    clear hK K hHeld0
    (try simp only [List.getElem_toArray, List.getElem_cons_zero, List.getElem_cons_succ, Act.put, List.setIfInBounds_toArray, List.set_cons_zero, List.set_cons_succ])
    refine wpAnyT_pure (i := 7) (oi := _) (v := ?_) rfl (by kernel_rfl) (by kernel_rfl) (by kernel_rfl) (by kernel_rfl) (fun _ _ _ h => h) (Or.inl ⟨by rfl, ?_⟩) (fun _ => by assumption) ?_
    rotate_left
    · (intro w hSw; go_simp)
      all_goals (with_reducible rfl)
    (try simp only [List.getElem_toArray, List.getElem_cons_zero, List.getElem_cons_succ, Act.put, List.setIfInBounds_toArray, List.set_cons_zero, List.set_cons_succ])
    refine wpAnyT_pure (i := 8) (oi := _) (v := ?_) rfl (by kernel_rfl) (by kernel_rfl) (by kernel_rfl) (by kernel_rfl) (fun _ _ _ h => h) (Or.inl ⟨by rfl, ?_⟩) (fun _ => by assumption) ?_
    rotate_left
    · (intro w hSw; go_simp)
      all_goals (with_reducible rfl)
    (try simp only [List.getElem_toArray, List.getElem_cons_zero, List.getElem_cons_succ, Act.put, List.setIfInBounds_toArray, List.set_cons_zero, List.set_cons_succ])
    refine wpAnyT_ready (rs := [9]) (by kernel_rfl) (by simp) ?_
    refine AllReadyT.cons rfl (fun K hK => ?_) AllReadyT.nil
    go_simp
    refine hK.out _ _ (noneB_off (by kernel_rfl)) (fun _ => ?_)
    clear hK K
    (try simp only [List.getElem_toArray, List.getElem_cons_zero, List.getElem_cons_succ, Act.put, List.setIfInBounds_toArray, List.set_cons_zero, List.set_cons_succ])
    refine wpAnyT_done (by kernel_rfl) ?_ _
    have HR2 : Hid (r = bd (mustF L n k3 [sOpen]) fun k => bd (listF L (colF L n) k s.cols) fun y => bd (mustF L n y.1 [sClose]) fun k => .inr (k, { s with k := 1, t := t1, cols := y.2 })) := HR1.out
    refine exthen_nm (fun W4 hW4 => ?_)
    obtain ⟨s4, hs4⟩ : ∃ s4 : Sq, s4 = { s with k := 1, t := t1 } := ⟨_, rfl⟩
    have hx4 : Cl W4 B S E w.heap.size (w.heap.size + 1) a n c L k3 s4 p ∧ But S w3 W4 := by
      have h3 := HS3.out
      have i1 := h3.put (s' := { s with k := 1 }) (p' := p) 0 (.int .i64 1) rfl (h3.ss.own.as rfl rfl rfl rfl rfl)
      have i2 := i1.put (s' := { s with k := 1, t := t1 }) (p' := p) 1 (.string t1) rfl (i1.ss.own.as rfl rfl rfl rfl rfl)
      rw [hW4, hs4]
      exact ⟨i2, (But.set w3 S 0 _).trans (But.set _ S 1 _)⟩
    have HX4 := Lib.hid (HN3.out.trans (hx4.2.toS' B E))
    obtain ⟨r5, hr5⟩ : ∃ r5, r5 = mustF L n k3 [sOpen] := ⟨_, rfl⟩
    have hf4 : s4.cols = s.cols := by rw [hs4]
    have HR5 : Hid (r = bd r5 fun k => bd (listF L (colF L n) k s4.cols) fun y => bd (mustF L n y.1 [sClose]) fun k => .inr (k, { s4 with cols := y.2 })) := by
      show _ = _
      rw [HR2.out, hr5, hf4, hs4]
    have hs40 : s4.cols = [] := by rw [hf4]; exact hs0
    have HMU4 : Hid (Calls Tryd.prog 52 #[.pointer (some ⟨B, 0, none⟩), .slice (some ⟨W4.heap.size, 0, none⟩) 1 1] (W4.alloc (.cells #[.string sOpen] 9)) fun e w' => But B W4 w' ∧ match r5 with
      | .inl f => e = flt f.1 f.2
      | .inr k' => e = .returned (.tuple #[]) ∧ Cl w' B S E w.heap.size (w.heap.size + 1) a n c L k' s4 p) := by
      rw [hr5]
      exact cmust hx4.1 [sOpen] rfl (by simp) (by simp)
    obtain ⟨xp, xq⟩ := hx4.1.xs
    have hs4s := hs40
    clear hW4 hs4 hx4 hr5 hf4 HR2 HR1 HN3 HS3 HS1 HN1 hs0 sf0 sf1 q0 q1 yp yq
    go_wp2_with fail
    refine HMU4.out.mono ?_
    rintro e w5 ⟨hN5, h5⟩
    have HN5 := Lib.hid (HX4.out.trans (hN5.toS S E))
    clear hN5 HMU4 HX4 xp xq
    rcases r5 with f0 | k5
    · obtain rfl : e = flt f0.1 f0.2 := h5
      obtain rfl : r = .inl f0 := HR5.out
      exact ⟨rfl, HN5.out, rfl⟩
    · obtain ⟨rfl, hx5⟩ := h5
      have HLI : Hid (Calls Tryd.prog 73 #[.pointer (some ⟨B, 0, none⟩), .func (.func 74) #[] #[.pointer (some ⟨w.heap.size, 0, none⟩), .pointer (some ⟨w.heap.size + 1, 0, none⟩)]] w5 fun e w' => ButS B S E w5 w' ∧ match listF L (colF L n) k5 s4.cols with
        | .inl f => e = flt f.1 f.2
        | .inr (k', s') => e = .returned (.tuple #[]) ∧ s'.length ≤ k' ∧ ∃ p', Cl w' B S E w.heap.size (w.heap.size + 1) a n c L k' { s4 with cols := s' } p') :=
        Lib.hid (by
          have hli := list_any (B := B) (a := a) (n := n) (c := c) (L := L) (σ := List Cq) (inv_create B S E w.heap.size (w.heap.size + 1) a n c L s4) (ButS B S E) (colF L n) 74 (.pointer (some ⟨w.heap.size, 0, none⟩)) (.pointer (some ⟨w.heap.size + 1, 0, none⟩))
            (enters Tryd.func74 (by kernel_rfl) (by kernel_rfl)) (fun W k l hx => by obtain ⟨_, p', hc⟩ := hx; exact hc.ss.rs) (fun W W' k k' l hx hk hN hr => by obtain ⟨hl, p', hc⟩ := hx; exact ⟨Nat.le_trans hl hk, p', hc.go hN hr⟩) (fun W W' hN => hN.toS S E) (fun W1 W2 W3 h1 h2 => h1.trans h2)
            (fun W k l hx => by
              obtain ⟨hl, p', hc⟩ := hx
              refine (colth_any hc hl).mono ?_
              rintro e w' ⟨g1, g2⟩
              refine ⟨g1, ?_⟩
              rcases hh : colF L n k l with f0 | ⟨k', l'⟩
              · rw [show colF L n k ({ s4 with cols := l } : Sq).cols = colF L n k l from rfl, hh] at g2
                exact g2
              · rw [show colF L n k ({ s4 with cols := l } : Sq).cols = colF L n k l from rfl, hh] at g2
                exact ⟨g2.1, g2.2.1, g2.2.2⟩) w5 k5 s4.cols ⟨by rw [hs40]; simp, p, hx5⟩
          refine hli.mono ?_
          rintro e w' ⟨g1, g2⟩
          refine ⟨g1, ?_⟩
          rcases hh : listF L (colF L n) k5 s4.cols with f0 | ⟨k', l'⟩
          · rw [hh] at g2
            exact g2
          · rw [hh] at g2
            exact ⟨g2.1, g2.2.1, g2.2.2⟩)
      obtain ⟨r6, hr6⟩ : ∃ r6, r6 = listF L (colF L n) k5 s4.cols := ⟨_, rfl⟩
      have HR6 : Hid (r = bd r6 fun y => bd (mustF L n y.1 [sClose]) fun k => .inr (k, { s4 with cols := y.2 })) := by
        show _ = _
        rw [HR5.out, hr6]
        rfl
      rw [← hr6] at HLI
      obtain ⟨xp, xq⟩ := hx5.xs
      clear hr6 hx5 HR5
      go_wp2_with fail
      refine HLI.out.mono ?_
      rintro e w6 ⟨hN6, h6⟩
      have HN6 := Lib.hid (HN5.out.trans hN6)
      clear hN6 HLI xp xq HN5
      rcases r6 with f0 | ⟨k6, l6⟩
      · obtain rfl : e = flt f0.1 f0.2 := h6
        obtain rfl : r = .inl f0 := HR6.out
        exact ⟨rfl, HN6.out, rfl⟩
      · obtain ⟨rfl, -, p6, hx6⟩ := h6
        obtain ⟨r7, hr7⟩ : ∃ r7, r7 = mustF L n k6 [sClose] := ⟨_, rfl⟩
        have HR7 : Hid (r = bd r7 fun k => .inr (k, { s4 with cols := l6 })) := by
          show _ = _
          rw [HR6.out, hr7]
          rfl
        have HMU7 : Hid (Calls Tryd.prog 52 #[.pointer (some ⟨B, 0, none⟩), .slice (some ⟨w6.heap.size, 0, none⟩) 1 1] (w6.alloc (.cells #[.string sClose] 9)) fun e w' => But B w6 w' ∧ match r7 with
          | .inl f => e = flt f.1 f.2
          | .inr k' => e = .returned (.tuple #[]) ∧ Cl w' B S E w.heap.size (w.heap.size + 1) a n c L k' { s4 with cols := l6 } p6) := by
          rw [hr7]
          exact cmust hx6 [sClose] rfl (by simp) (by simp)
        obtain ⟨xp, xq⟩ := hx6.xs
        clear hr7 hx6 HR6
        go_wp2_with fail
        refine HMU7.out.mono ?_
        rintro e w7 ⟨hN7, h7⟩
        have HN7 := Lib.hid (HN6.out.trans (hN7.toS S E))
        clear hN7 HMU7 xp xq HN6
        rcases r7 with f0 | k7
        · obtain rfl : e = flt f0.1 f0.2 := h7
          obtain rfl : r = .inl f0 := HR7.out
          exact ⟨rfl, HN7.out, rfl⟩
        · obtain ⟨rfl, hx7⟩ := h7
          obtain rfl : r = .inr (k7, { s4 with cols := l6 }) := HR7.out
          have HS7 := Lib.hid hx7
          clear hx7 HR7
          go_wp2_with fail
          go_returns
          exact ⟨HN7.out, rfl, p6, HS7.out.ss⟩
def inv_insert (B S E P Q : Nat) (a : Option Addr) (n c : Nat) (L : List Tk) (s : Sq) (W : World) (k : Nat) (l : List V) : Prop := l.length ≤ k ∧ ∃ p, Cl W B S E P Q a n c L k { s with row := l } p
theorem insert_any {w : World} {k : Nat} {s : Sq} {p : Ps} (h : Ss w B S E a n c L k s p) (hs0 : s.row = []) :
    Calls Tryd.prog 54 #[.pointer (some ⟨B, 0, none⟩), .pointer (some ⟨S, 0, none⟩)] w (Sx w B S E a n c L (insertF L n k s)) := by
  obtain ⟨P, hP⟩ : ∃ P, P = w.heap.size := ⟨_, rfl⟩
  have hlS := blk_lt h.box
  have hlB := h.rs.lt
  obtain ⟨r, hr⟩ : ∃ r, r = insertF L n k s := ⟨_, rfl⟩
  rw [← hr]
  have hcl : ∀ W, W = (w.alloc (.cells #[.pointer (some ⟨B, 0, none⟩)] 91)).alloc (.cells #[.pointer (some ⟨S, 0, none⟩)] 93) → Cl W B S E w.heap.size (w.heap.size + 1) a n c L k s p ∧ Below w.heap.size w W ∧ W.heap.size = w.heap.size + 1 + 1 := fun W hW => by
    have hb : Below w.heap.size w W := by rw [hW]; exact ((Below.refl _ _).alloc (Nat.le_refl _) _).alloc (by simp) _
    exact ⟨⟨h.later hb, by rw [hW]; exact (Below.heap_alloc _ _ _ (by simp)).trans (new0 _ _), by rw [hW]; exact new1 _ _ _, by omega, by omega, by omega, by omega⟩, hb, by rw [hW]; simp⟩
  have HCL := Lib.hid hcl
  obtain ⟨r0, hr0⟩ : ∃ r0, r0 = mustF L n k [sINTO] := ⟨_, rfl⟩
  have HR0 : Hid (r = bd r0 fun k => bd (nameG L n k) fun x => bd (mustF L n x.2 [sVALUES, sOpen]) fun k => bd (listF L (valF L n) k s.row) fun y => bd (mustF L n y.1 [sClose]) fun k => .inr (k, { s with k := 3, t := x.1, row := y.2 })) := by
    show _ = _
    rw [hr, hr0]
    rfl
  have HMU : Hid (∀ W0, W0 = (w.alloc (.cells #[.pointer (some ⟨B, 0, none⟩)] 91)).alloc (.cells #[.pointer (some ⟨S, 0, none⟩)] 93) → Calls Tryd.prog 52 #[.pointer (some ⟨B, 0, none⟩), .slice (some ⟨w.heap.size + 1 + 1, 0, none⟩) 1 1] (W0.alloc (.cells #[.string sINTO] 9)) fun e w' => But B w w' ∧ match r0 with
      | .inl f => e = flt f.1 f.2
      | .inr k' => e = .returned (.tuple #[]) ∧ Cl w' B S E w.heap.size (w.heap.size + 1) a n c L k' s p) := fun W0 h0 => by
    obtain ⟨hc, hb, hz⟩ := HCL.out W0 h0
    rw [← hz, hr0]
    refine (cmust hc [sINTO] rfl (by simp) (by simp)).mono ?_
    rintro e w' ⟨h1, h2⟩
    exact ⟨(But.of hb).trans h1, h2⟩
  clear hcl hr hr0 HCL h hP
  go_enter Tryd.func54, Tryd.ntmps54
  go_wp2_with fail
  refine (HMU.out _ rfl).mono ?_
  rintro e w1 ⟨hN1, h1⟩
  have HN1 := Lib.hid (hN1.toS S E)
  clear hN1 HMU
  rcases r0 with f0 | k1
  · obtain rfl : e = flt f0.1 f0.2 := h1
    obtain rfl : r = .inl f0 := HR0.out
    exact ⟨rfl, HN1.out, rfl⟩
  · obtain ⟨rfl, hx1⟩ := h1
    have HNA : Hid (∀ W, Below w1.heap.size w1 W → Calls Tryd.prog 53 #[.pointer (some ⟨B, 0, none⟩)] W fun e w' => But B W w' ∧ match nameG L n k1 with
      | .inl f => e = flt f.1 f.2
      | .inr (t, k') => e = .returned (.string t) ∧ Rs w' B a n c L k') := fun W hW => sname (hx1.ss.rs.later hW)
    obtain ⟨r1, hr1⟩ : ∃ r1, r1 = nameG L n k1 := ⟨_, rfl⟩
    have HR1 : Hid (r = bd r1 fun x => bd (mustF L n x.2 [sVALUES, sOpen]) fun k => bd (listF L (valF L n) k s.row) fun y => bd (mustF L n y.1 [sClose]) fun k => .inr (k, { s with k := 3, t := x.1, row := y.2 })) := by
      show _ = _
      rw [HR0.out, hr1]
      rfl
    rw [← hr1] at HNA
    have HS1 := Lib.hid hx1
    obtain ⟨xp, xq⟩ := hx1.xs
    have HQS : Hid (S ≠ w.heap.size + 1) := hx1.qs.symm
    have HPS : Hid (S ≠ w.heap.size) := hx1.ps.symm
    clear hr1 HR0 hx1
    go_wp2_with fail
    refine wpT_begin (S := (fun wx => wx.cell? ⟨w.heap.size + 1, 0, none⟩ = some (.pointer (some ⟨S, 0, none⟩)) ∧ wx.cell? ⟨w.heap.size, 0, none⟩ = some (.pointer (some ⟨B, 0, none⟩)))) [9] (by kernel_rfl) ?_ (fun hHeld => ?_)
    · (try dsimp only)
      (first | (with_reducible exact ⟨cell_dr xq, cell_dr xp⟩) | (exact ⟨yq, yp⟩) | (exact ⟨(World.cell?_setCell_far _ _ _ _ HQS.out).trans yq, (World.cell?_setCell_far _ _ _ _ HPS.out).trans yp⟩))
    refine wpAnyT_take (i := 0) (oi := _) (v := ?_) rfl (by kernel_rfl) (by kernel_rfl) (by kernel_rfl) (by kernel_rfl) (fun _ _ _ h => h) (Or.inl ⟨by rfl, ?_⟩) (by assumption) ?_
    rotate_left
    · (intro w hSw; (try dsimp only at hSw); go_simp)
      all_goals (with_reducible rfl)
    (try simp only [List.getElem_toArray, List.getElem_cons_zero, List.getElem_cons_succ, Act.put, List.setIfInBounds_toArray, List.set_cons_zero, List.set_cons_succ])
    refine wpAnyT_take (i := 1) (oi := _) (v := ?_) rfl (by kernel_rfl) (by kernel_rfl) (by kernel_rfl) (by kernel_rfl) (fun _ _ _ h => h) (Or.inl ⟨by rfl, ?_⟩) (by assumption) ?_
    rotate_left
    · (intro w hSw; (try dsimp only at hSw); go_simp)
      all_goals (with_reducible rfl)
    (try simp only [List.getElem_toArray, List.getElem_cons_zero, List.getElem_cons_succ, Act.put, List.setIfInBounds_toArray, List.set_cons_zero, List.set_cons_succ])
    refine wpAnyT_take (i := 2) (oi := _) (v := ?_) rfl (by kernel_rfl) (by kernel_rfl) (by kernel_rfl) (by kernel_rfl) (fun _ _ _ h => h) (Or.inl ⟨by rfl, ?_⟩) (by assumption) ?_
    rotate_left
    · (intro w hSw; (try dsimp only at hSw); go_simp)
      all_goals (with_reducible rfl)
    (try simp only [List.getElem_toArray, List.getElem_cons_zero, List.getElem_cons_succ, Act.put, List.setIfInBounds_toArray, List.set_cons_zero, List.set_cons_succ])
    refine wpAnyT_ready (rs := [3]) (by kernel_rfl) (by simp) ?_
    refine AllReadyT.cons rfl (fun K hK => ?_) AllReadyT.nil
    go_simp
    (go_at_call 53; ((refine (HNA.out _ (Below.refl _ _).drew).mono ?_); rintro e w3 ⟨hN3, h3⟩; have HN3 := Lib.hid (HN1.out.trans (((But.of (Below.refl _ _).drew).trans hN3).toS S E)); rcases r1 with f0 | ⟨t1, k3⟩; (focus (obtain rfl : e = flt f0.1 f0.2 := h3; obtain rfl : r = .inl f0 := HR1.out; exact ⟨rfl, HN3.out, rfl⟩)); obtain ⟨rfl, hs3⟩ := h3; have hx3 := (HS1.out.later (Below.refl _ _).drew).go hN3 hs3; have HS3 := Lib.hid hx3; obtain ⟨yp, yq⟩ := hx3.xs; have q0 : w3.cell? ⟨S, 0, none⟩ = some (.int .i64 s.k) := (hx3.ss.x 0 (by omega)).1; have q1 : w3.cell? ⟨S, 1, none⟩ = some (.string s.t) := (hx3.ss.x 1 (by omega)).1; have sf0 := (hx3.ss.x 0 (by omega)).2; have sf1 := (hx3.ss.x 1 (by omega)).2; clear hN3 hs3 hx3 HNA))
    go_wp2_with fail
    refine hK.out _ _ (fun _ => ?_) (fun hHeld0 => ?_)
    · (try dsimp only)
      (first | (with_reducible exact ⟨cell_dr xq, cell_dr xp⟩) | (exact ⟨yq, yp⟩) | (exact ⟨(World.cell?_setCell_far _ _ _ _ HQS.out).trans yq, (World.cell?_setCell_far _ _ _ _ HPS.out).trans yp⟩))
    have hHeld := hHeld0 (by kernel_rfl)
    clear hK K hHeld0
    (try simp only [List.getElem_toArray, List.getElem_cons_zero, List.getElem_cons_succ, Act.put, List.setIfInBounds_toArray, List.set_cons_zero, List.set_cons_succ])
    refine wpAnyT_pure (i := 4) (oi := _) (v := ?_) rfl (by kernel_rfl) (by kernel_rfl) (by kernel_rfl) (by kernel_rfl) (fun _ _ _ h => h) (Or.inl ⟨by rfl, ?_⟩) (fun _ => by assumption) ?_
    rotate_left
    · (intro w hSw; go_simp)
      all_goals (with_reducible rfl)
    (try simp only [List.getElem_toArray, List.getElem_cons_zero, List.getElem_cons_succ, Act.put, List.setIfInBounds_toArray, List.set_cons_zero, List.set_cons_succ])
    refine wpAnyT_pure (i := 5) (oi := _) (v := ?_) rfl (by kernel_rfl) (by kernel_rfl) (by kernel_rfl) (by kernel_rfl) (fun _ _ _ h => h) (Or.inl ⟨by rfl, ?_⟩) (fun _ => by assumption) ?_
    rotate_left
    · (intro w hSw; go_simp)
      all_goals (with_reducible rfl)
    (try simp only [List.getElem_toArray, List.getElem_cons_zero, List.getElem_cons_succ, Act.put, List.setIfInBounds_toArray, List.set_cons_zero, List.set_cons_succ])
    refine wpAnyT_ready (rs := [6]) (by kernel_rfl) (by simp) ?_
    refine AllReadyT.cons rfl (fun K hK => ?_) AllReadyT.nil
    go_simp
    refine hK.out _ _ (fun _ => ?_) (fun hHeld0 => ?_)
    · (try dsimp only)
      (first | (with_reducible exact ⟨cell_dr xq, cell_dr xp⟩) | (exact ⟨yq, yp⟩) | (exact ⟨(World.cell?_setCell_far _ _ _ _ HQS.out).trans yq, (World.cell?_setCell_far _ _ _ _ HPS.out).trans yp⟩))
    have hHeld := hHeld0 (by kernel_rfl)
    clear hK K hHeld0
    (try simp only [List.getElem_toArray, List.getElem_cons_zero, List.getElem_cons_succ, Act.put, List.setIfInBounds_toArray, List.set_cons_zero, List.set_cons_succ])
    refine wpAnyT_pure (i := 7) (oi := _) (v := ?_) rfl (by kernel_rfl) (by kernel_rfl) (by kernel_rfl) (by kernel_rfl) (fun _ _ _ h => h) (Or.inl ⟨by rfl, ?_⟩) (fun _ => by assumption) ?_
    rotate_left
    · (intro w hSw; go_simp)
      all_goals (with_reducible rfl)
    (try simp only [List.getElem_toArray, List.getElem_cons_zero, List.getElem_cons_succ, Act.put, List.setIfInBounds_toArray, List.set_cons_zero, List.set_cons_succ])
    refine wpAnyT_pure (i := 8) (oi := _) (v := ?_) rfl (by kernel_rfl) (by kernel_rfl) (by kernel_rfl) (by kernel_rfl) (fun _ _ _ h => h) (Or.inl ⟨by rfl, ?_⟩) (fun _ => by assumption) ?_
    rotate_left
    · (intro w hSw; go_simp)
      all_goals (with_reducible rfl)
    (try simp only [List.getElem_toArray, List.getElem_cons_zero, List.getElem_cons_succ, Act.put, List.setIfInBounds_toArray, List.set_cons_zero, List.set_cons_succ])
    refine wpAnyT_ready (rs := [9]) (by kernel_rfl) (by simp) ?_
    refine AllReadyT.cons rfl (fun K hK => ?_) AllReadyT.nil
    go_simp
    refine hK.out _ _ (noneB_off (by kernel_rfl)) (fun _ => ?_)
    clear hK K
    (try simp only [List.getElem_toArray, List.getElem_cons_zero, List.getElem_cons_succ, Act.put, List.setIfInBounds_toArray, List.set_cons_zero, List.set_cons_succ])
    refine wpAnyT_done (by kernel_rfl) ?_ _
    have HR2 : Hid (r = bd (mustF L n k3 [sVALUES, sOpen]) fun k => bd (listF L (valF L n) k s.row) fun y => bd (mustF L n y.1 [sClose]) fun k => .inr (k, { s with k := 3, t := t1, row := y.2 })) := HR1.out
    refine exthen_nm (fun W4 hW4 => ?_)
    obtain ⟨s4, hs4⟩ : ∃ s4 : Sq, s4 = { s with k := 3, t := t1 } := ⟨_, rfl⟩
    have hx4 : Cl W4 B S E w.heap.size (w.heap.size + 1) a n c L k3 s4 p ∧ But S w3 W4 := by
      have h3 := HS3.out
      have i1 := h3.put (s' := { s with k := 3 }) (p' := p) 0 (.int .i64 3) rfl (h3.ss.own.as rfl rfl rfl rfl rfl)
      have i2 := i1.put (s' := { s with k := 3, t := t1 }) (p' := p) 1 (.string t1) rfl (i1.ss.own.as rfl rfl rfl rfl rfl)
      rw [hW4, hs4]
      exact ⟨i2, (But.set w3 S 0 _).trans (But.set _ S 1 _)⟩
    have HX4 := Lib.hid (HN3.out.trans (hx4.2.toS' B E))
    obtain ⟨r5, hr5⟩ : ∃ r5, r5 = mustF L n k3 [sVALUES, sOpen] := ⟨_, rfl⟩
    have hf4 : s4.row = s.row := by rw [hs4]
    have HR5 : Hid (r = bd r5 fun k => bd (listF L (valF L n) k s4.row) fun y => bd (mustF L n y.1 [sClose]) fun k => .inr (k, { s4 with row := y.2 })) := by
      show _ = _
      rw [HR2.out, hr5, hf4, hs4]
    have hs40 : s4.row = [] := by rw [hf4]; exact hs0
    have HMU4 : Hid (Calls Tryd.prog 52 #[.pointer (some ⟨B, 0, none⟩), .slice (some ⟨W4.heap.size, 0, none⟩) 2 2] (W4.alloc (.cells #[.string sVALUES, .string sOpen] 9)) fun e w' => But B W4 w' ∧ match r5 with
      | .inl f => e = flt f.1 f.2
      | .inr k' => e = .returned (.tuple #[]) ∧ Cl w' B S E w.heap.size (w.heap.size + 1) a n c L k' s4 p) := by
      rw [hr5]
      exact cmust hx4.1 [sVALUES, sOpen] rfl (by simp) (by simp)
    obtain ⟨xp, xq⟩ := hx4.1.xs
    have hs4s := hs40
    clear hW4 hs4 hx4 hr5 hf4 HR2 HR1 HN3 HS3 HS1 HN1 hs0 sf0 sf1 q0 q1 yp yq
    go_wp2_with fail
    refine HMU4.out.mono ?_
    rintro e w5 ⟨hN5, h5⟩
    have HN5 := Lib.hid (HX4.out.trans (hN5.toS S E))
    clear hN5 HMU4 HX4 xp xq
    rcases r5 with f0 | k5
    · obtain rfl : e = flt f0.1 f0.2 := h5
      obtain rfl : r = .inl f0 := HR5.out
      exact ⟨rfl, HN5.out, rfl⟩
    · obtain ⟨rfl, hx5⟩ := h5
      have HLI : Hid (Calls Tryd.prog 73 #[.pointer (some ⟨B, 0, none⟩), .func (.func 77) #[] #[.pointer (some ⟨w.heap.size, 0, none⟩), .pointer (some ⟨w.heap.size + 1, 0, none⟩)]] w5 fun e w' => ButS B S E w5 w' ∧ match listF L (valF L n) k5 s4.row with
        | .inl f => e = flt f.1 f.2
        | .inr (k', s') => e = .returned (.tuple #[]) ∧ s'.length ≤ k' ∧ ∃ p', Cl w' B S E w.heap.size (w.heap.size + 1) a n c L k' { s4 with row := s' } p') :=
        Lib.hid (by
          have hli := list_any (B := B) (a := a) (n := n) (c := c) (L := L) (σ := List V) (inv_insert B S E w.heap.size (w.heap.size + 1) a n c L s4) (ButS B S E) (valF L n) 77 (.pointer (some ⟨w.heap.size, 0, none⟩)) (.pointer (some ⟨w.heap.size + 1, 0, none⟩))
            (enters Tryd.func77 (by kernel_rfl) (by kernel_rfl)) (fun W k l hx => by obtain ⟨_, p', hc⟩ := hx; exact hc.ss.rs) (fun W W' k k' l hx hk hN hr => by obtain ⟨hl, p', hc⟩ := hx; exact ⟨Nat.le_trans hl hk, p', hc.go hN hr⟩) (fun W W' hN => hN.toS S E) (fun W1 W2 W3 h1 h2 => h1.trans h2)
            (fun W k l hx => by
              obtain ⟨hl, p', hc⟩ := hx
              refine (valth_any hc hl).mono ?_
              rintro e w' ⟨g1, g2⟩
              refine ⟨g1, ?_⟩
              rcases hh : valF L n k l with f0 | ⟨k', l'⟩
              · rw [show valF L n k ({ s4 with row := l } : Sq).row = valF L n k l from rfl, hh] at g2
                exact g2
              · rw [show valF L n k ({ s4 with row := l } : Sq).row = valF L n k l from rfl, hh] at g2
                exact ⟨g2.1, g2.2.1, g2.2.2⟩) w5 k5 s4.row ⟨by rw [hs40]; simp, p, hx5⟩
          refine hli.mono ?_
          rintro e w' ⟨g1, g2⟩
          refine ⟨g1, ?_⟩
          rcases hh : listF L (valF L n) k5 s4.row with f0 | ⟨k', l'⟩
          · rw [hh] at g2
            exact g2
          · rw [hh] at g2
            exact ⟨g2.1, g2.2.1, g2.2.2⟩)
      obtain ⟨r6, hr6⟩ : ∃ r6, r6 = listF L (valF L n) k5 s4.row := ⟨_, rfl⟩
      have HR6 : Hid (r = bd r6 fun y => bd (mustF L n y.1 [sClose]) fun k => .inr (k, { s4 with row := y.2 })) := by
        show _ = _
        rw [HR5.out, hr6]
        rfl
      rw [← hr6] at HLI
      obtain ⟨xp, xq⟩ := hx5.xs
      clear hr6 hx5 HR5
      go_wp2_with fail
      refine HLI.out.mono ?_
      rintro e w6 ⟨hN6, h6⟩
      have HN6 := Lib.hid (HN5.out.trans hN6)
      clear hN6 HLI xp xq HN5
      rcases r6 with f0 | ⟨k6, l6⟩
      · obtain rfl : e = flt f0.1 f0.2 := h6
        obtain rfl : r = .inl f0 := HR6.out
        exact ⟨rfl, HN6.out, rfl⟩
      · obtain ⟨rfl, -, p6, hx6⟩ := h6
        obtain ⟨r7, hr7⟩ : ∃ r7, r7 = mustF L n k6 [sClose] := ⟨_, rfl⟩
        have HR7 : Hid (r = bd r7 fun k => .inr (k, { s4 with row := l6 })) := by
          show _ = _
          rw [HR6.out, hr7]
          rfl
        have HMU7 : Hid (Calls Tryd.prog 52 #[.pointer (some ⟨B, 0, none⟩), .slice (some ⟨w6.heap.size, 0, none⟩) 1 1] (w6.alloc (.cells #[.string sClose] 9)) fun e w' => But B w6 w' ∧ match r7 with
          | .inl f => e = flt f.1 f.2
          | .inr k' => e = .returned (.tuple #[]) ∧ Cl w' B S E w.heap.size (w.heap.size + 1) a n c L k' { s4 with row := l6 } p6) := by
          rw [hr7]
          exact cmust hx6 [sClose] rfl (by simp) (by simp)
        obtain ⟨xp, xq⟩ := hx6.xs
        clear hr7 hx6 HR6
        go_wp2_with fail
        refine HMU7.out.mono ?_
        rintro e w7 ⟨hN7, h7⟩
        have HN7 := Lib.hid (HN6.out.trans (hN7.toS S E))
        clear hN7 HMU7 xp xq HN6
        rcases r7 with f0 | k7
        · obtain rfl : e = flt f0.1 f0.2 := h7
          obtain rfl : r = .inl f0 := HR7.out
          exact ⟨rfl, HN7.out, rfl⟩
        · obtain ⟨rfl, hx7⟩ := h7
          obtain rfl : r = .inr (k7, { s4 with row := l6 }) := HR7.out
          have HS7 := Lib.hid hx7
          clear hx7 HR7
          go_wp2_with fail
          go_returns
          exact ⟨HN7.out, rfl, p6, HS7.out.ss⟩
end
end Go.Proofs.YtdeollmeljaaoaaDoor.rd
