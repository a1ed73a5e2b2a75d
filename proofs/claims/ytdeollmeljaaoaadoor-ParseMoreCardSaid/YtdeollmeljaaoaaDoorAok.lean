import Derived.Test.YtdeollmeljaaoaaDoorAmk
set_option linter.unusedVariables false
set_option linter.unusedSimpArgs false
set_option maxHeartbeats 8000000
set_option maxRecDepth 100000
open Go.ChangeAt Go.ChangeShapes Go.RowKit Go.WideShapes
open Go.Lib (hid)
namespace Go.Proofs.YtdeollmeljaaoaaDoor.rd
open Go.Proofs.YtdeollmeljaaoaaDoor.cs
def Sx (w : World) (B S E : Nat) (a : Option Addr) (n c : Nat) (L : List Tk) (r : F ⊕ (Nat × Sq)) (e : Ending) (w' : World) : Prop :=
 ButS B S E w w' ∧ match r with
  | .inl f => e = flt f.1 f.2
  | .inr (k', s') => e = .returned (.tuple #[]) ∧ ∃ p', Ss w' B S E a n c L k' s' p'
theorem StO.as {w : World} {E : Nat} {s s' : Sq} {p : Ps} (h : StO w E s p) (e2 : s'.cols = s.cols) (e3 : s'.row = s.row) (e4 : s'.names = s.names) (e6 : s'.wh = s.wh) (e11 : s'.to = s.to) : StO w E s' p := by
 obtain ⟨o2, o3, o4, o6, o11⟩ := h
 exact ⟨by rw [e2]; exact o2, by rw [e3]; exact o3, by rw [e4]; exact o4, by rw [e6]; exact o6, by rw [e11]; exact o11⟩
theorem Cl.put {B S E P Q : Nat} {a : Option Addr} {n c : Nat} {L : List Tk} {w : World} {k : Nat} {s s' : Sq} {p p' : Ps} (h : Cl w B S E P Q a n c L k s p) (i : Nat) (v : Value) (hc : (stC s p).setIfInBounds i v = stC s' p') (ho : StO w E s' p') : Cl (w.setCell ⟨S, i, none⟩ v) B S E P Q a n c L k s' p' := by
 have hN := But.set w S i v
 exact ⟨h.ss.put i v hc ho, (hN.block P (blk_lt h.bp) h.ps).trans h.bp, (hN.block Q (blk_lt h.bq) h.qs).trans h.bq, h.pb, h.ps, h.qb, h.qs⟩
section
variable {B S E : Nat} {a : Option Addr} {n c : Nat} {L : List Tk}
theorem cmust {P Q : Nat} {w W : World} {k : Nat} {s : Sq} {p : Ps} (h : Cl w B S E P Q a n c L k s p) (ts : List ByteArray) (hW : W = w.alloc (.cells (ts.map Value.string).toArray 9)) (h0 : 0 < ts.length) (h9 : ts.length ≤ 9) :
  Calls Tryd.prog 52 #[.pointer (some ⟨B, 0, none⟩), .slice (some ⟨w.heap.size, 0, none⟩) ts.length ts.length] W fun e w' => But B w w' ∧ match mustF L n k ts with
   | .inl f => e = flt f.1 f.2
   | .inr k' => e = .returned (.tuple #[]) ∧ Cl w' B S E P Q a n c L k' s p := by
 have hb : Below w.heap.size w W := by rw [hW]; exact (Below.refl _ _).alloc (Nat.le_refl _) _
 have hc := h.later hb
 refine (smust hc.ss.rs (b := w.heap.size) (ts := ts) (by rw [hW]; exact new0 _ _) (by have := h.ss.rs.lt; omega) h0 h9).mono ?_
 rintro e w' ⟨h1, h2⟩
 refine ⟨(But.of hb).trans h1, ?_⟩
 cases hm : mustF L n k ts with
 | inl f =>
  rw [hm] at h2
  exact h2
 | inr k' =>
  rw [hm] at h2
  exact ⟨h2.1, hc.go h1 h2.2⟩
def inv_create (B S E P Q : Nat) (a : Option Addr) (n c : Nat) (L : List Tk) (s : Sq) (W : World) (k : Nat) (l : List Cq) : Prop := l.length ≤ k ∧ ∃ p, Cl W B S E P Q a n c L k { s with cols := l } p
theorem create_any {w : World} {k : Nat} {s : Sq} {p : Ps} (h : Ss w B S E a n c L k s p) (hs0 : s.cols = []) :
  Calls Tryd.prog 51 #[.pointer (some ⟨B, 0, none⟩), .pointer (some ⟨S, 0, none⟩)] w (Sx w B S E a n c L (createF L n k s)) := by
 obtain ⟨P, hP⟩ : ∃ P, P = w.heap.size := ⟨_, rfl⟩
 have hlS := blk_lt h.box
 have hlB := h.rs.lt
 obtain ⟨r, hr⟩ : ∃ r, r = createF L n k s := ⟨_, rfl⟩
 rw [← hr]
 have hcl : ∀ W, W = (w.alloc (.cells #[.pointer (some ⟨B, 0, none⟩)] 91)).alloc (.cells #[.pointer (some ⟨S, 0, none⟩)] 93) → Cl W B S E w.heap.size (w.heap.size + 1) a n c L k s p ∧ Below w.heap.size w W ∧ W.heap.size = w.heap.size + 1 + 1 := fun W hW => by
  have hb : Below w.heap.size w W := by rw [hW]; exact ((Below.refl _ _).alloc (Nat.le_refl _) _).alloc (by simp) _
  exact ⟨⟨h.later hb, by rw [hW]; exact (Below.heap_alloc _ _ _ (by simp)).trans (new0 _ _), by rw [hW]; exact new1 _ _ _, by omega, by omega, by omega, by omega⟩, hb, by rw [hW]; simp⟩
 have HCL := hid hcl
 obtain ⟨r0, hr0⟩ : ∃ r0, r0 = mustF L n k [sTABLE] := ⟨_, rfl⟩
 have HR0 : Hid (r = bd r0 fun k => bd (nameG L n k) fun x => bd (mustF L n x.2 [sOpen]) fun k => bd (listF L (colF L n) k s.cols) fun y => bd (mustF L n y.1 [sClose]) fun k => .inr (k, { s with k := 1, t := x.1, cols := y.2 })) := by
  show _ = _
  rw [hr, hr0]
  rfl
 have HMU : Hid (∀ W0, W0 = (w.alloc (.cells #[.pointer (some ⟨B, 0, none⟩)] 91)).alloc (.cells #[.pointer (some ⟨S, 0, none⟩)] 93) → Calls Tryd.prog 52 #[.pointer (some ⟨B, 0, none⟩), .slice (some ⟨w.heap.size + 1 + 1, 0, none⟩) 1 1] (W0.alloc (.cells #[.string sTABLE] 9)) fun e w' => But B w w' ∧ match r0 with
   | .inl f => e = flt f.1 f.2
   | .inr k' => e = .returned (.tuple #[]) ∧ Cl w' B S E w.heap.size (w.heap.size + 1) a n c L k' s p) := fun W0 h0 => by
  obtain ⟨hc, hb, hz⟩ := HCL.out W0 h0
  rw [← hz, hr0]
  refine (cmust hc [sTABLE] rfl (by simp) (by simp)).mono ?_
  rintro e w' ⟨h1, h2⟩
  exact ⟨(But.of hb).trans h1, h2⟩
 clear hcl hr hr0 HCL h hP
 go_enter Tryd.func51, Tryd.ntmps51
 go_wp2_with fail
 refine (HMU.out _ rfl).mono ?_
 rintro e w1 ⟨hN1, h1⟩
 have HN1 := hid (hN1.toS S E)
 clear hN1 HMU
 rcases r0 with f0 | k1
 ·obtain rfl : e = flt f0.1 f0.2 := h1
  obtain rfl : r = .inl f0 := HR0.out
  exact ⟨rfl, HN1.out, rfl⟩
 ·obtain ⟨rfl, hx1⟩ := h1
  have HNA : Hid (∀ W, Below w1.heap.size w1 W → Calls Tryd.prog 53 #[.pointer (some ⟨B, 0, none⟩)] W fun e w' => But B W w' ∧ match nameG L n k1 with
   | .inl f => e = flt f.1 f.2
   | .inr (t, k') => e = .returned (.string t) ∧ Rs w' B a n c L k') := fun W hW => sname (hx1.ss.rs.later hW)
  obtain ⟨r1, hr1⟩ : ∃ r1, r1 = nameG L n k1 := ⟨_, rfl⟩
  have HR1 : Hid (r = bd r1 fun x => bd (mustF L n x.2 [sOpen]) fun k => bd (listF L (colF L n) k s.cols) fun y => bd (mustF L n y.1 [sClose]) fun k => .inr (k, { s with k := 1, t := x.1, cols := y.2 })) := by
   show _ = _
   rw [HR0.out, hr1]
   rfl
  rw [← hr1] at HNA
  have HS1 := hid hx1
  obtain ⟨xp, xq⟩ := hx1.xs
  have HQS : Hid (S ≠ w.heap.size + 1) := hx1.qs.symm
  have HPS : Hid (S ≠ w.heap.size) := hx1.ps.symm
  clear hr1 HR0 hx1
  go_wp2_with fail
  refine wpT_begin (S := (fun wx => wx.cell? ⟨w.heap.size + 1, 0, none⟩ = some (.pointer (some ⟨S, 0, none⟩)) ∧ wx.cell? ⟨w.heap.size, 0, none⟩ = some (.pointer (some ⟨B, 0, none⟩)))) [9] (by kernel_rfl) ?_ (fun gH => ?_)
  ·(try dsimp only)
   (first | (with_reducible exact ⟨cell_dr xq, cell_dr xp⟩) | (exact ⟨yq, yp⟩) | (exact ⟨(World.cell?_setCell_far _ _ _ _ HQS.out).trans yq, (World.cell?_setCell_far _ _ _ _ HPS.out).trans yp⟩))
  refine qT 0 _ ?_ rfl (.inl ⟨by rfl, ?_⟩) (by assumption) ?_
  rotate_left
  ·(intro w hSw; (try dsimp only at hSw); go_simp)
   all_goals (with_reducible rfl)
  (try simp only [qs, Act.put])
  refine qT 1 _ ?_ rfl (.inl ⟨by rfl, ?_⟩) (by assumption) ?_
  rotate_left
  ·(intro w hSw; (try dsimp only at hSw); go_simp)
   all_goals (with_reducible rfl)
  (try simp only [qs, Act.put])
  refine qT 2 _ ?_ rfl (.inl ⟨by rfl, ?_⟩) (by assumption) ?_
  rotate_left
  ·(intro w hSw; (try dsimp only at hSw); go_simp)
   all_goals (with_reducible rfl)
  (try simp only [qs, Act.put])
  refine wpAnyT_ready (rs := [3]) (by kernel_rfl) (by simp) ?_
  refine AllReadyT.cons rfl (fun K hK => ?_) AllReadyT.nil
  go_simp
  (go_at_call 53; ((refine (HNA.out _ (Below.refl _ _).drew).mono ?_); rintro e w3 ⟨hN3, h3⟩; have HN3 := hid (HN1.out.trans (((But.of (Below.refl _ _).drew).trans hN3).toS S E)); rcases r1 with f0 | ⟨t1, k3⟩; (focus (obtain rfl : e = flt f0.1 f0.2 := h3; obtain rfl : r = .inl f0 := HR1.out; exact ⟨rfl, HN3.out, rfl⟩)); obtain ⟨rfl, hs3⟩ := h3; have hx3 := (HS1.out.later (Below.refl _ _).drew).go hN3 hs3; have HS3 := hid hx3; obtain ⟨yp, yq⟩ := hx3.xs; have q0 : w3.cell? ⟨S, 0, none⟩ = some (.int .i64 s.k) := (hx3.ss.x 0 (by omega)).1; have q1 : w3.cell? ⟨S, 1, none⟩ = some (.string s.t) := (hx3.ss.x 1 (by omega)).1; have sf0 := (hx3.ss.x 0 (by omega)).2; have sf1 := (hx3.ss.x 1 (by omega)).2; clear hN3 hs3 hx3 HNA))
  go_wp2_with fail
  refine hK.out _ _ (fun _ => ?_) (fun gH0 => ?_)
  ·(try dsimp only)
   (first | (with_reducible exact ⟨cell_dr xq, cell_dr xp⟩) | (exact ⟨yq, yp⟩) | (exact ⟨(World.cell?_setCell_far _ _ _ _ HQS.out).trans yq, (World.cell?_setCell_far _ _ _ _ HPS.out).trans yp⟩))
  have gH := gH0 (by kernel_rfl)
  clear hK K gH0
  (try simp only [qs, Act.put])
  refine qP 4 _ ?_ rfl (.inl ⟨by rfl, ?_⟩) (fun _ => by assumption) ?_
  rotate_left
  ·(intro w hSw; go_simp)
   all_goals (with_reducible rfl)
  (try simp only [qs, Act.put])
  refine qP 5 _ ?_ rfl (.inl ⟨by rfl, ?_⟩) (fun _ => by assumption) ?_
  rotate_left
  ·(intro w hSw; go_simp)
   all_goals (with_reducible rfl)
  (try simp only [qs, Act.put])
  refine wpAnyT_ready (rs := [6]) (by kernel_rfl) (by simp) ?_
  refine AllReadyT.cons rfl (fun K hK => ?_) AllReadyT.nil
  go_simp
  refine hK.out _ _ (fun _ => ?_) (fun gH0 => ?_)
  ·(try dsimp only)
   (first | (with_reducible exact ⟨cell_dr xq, cell_dr xp⟩) | (exact ⟨yq, yp⟩) | (exact ⟨(World.cell?_setCell_far _ _ _ _ HQS.out).trans yq, (World.cell?_setCell_far _ _ _ _ HPS.out).trans yp⟩))
  have gH := gH0 (by kernel_rfl)
  clear hK K gH0
  (try simp only [qs, Act.put])
  refine qP 7 _ ?_ rfl (.inl ⟨by rfl, ?_⟩) (fun _ => by assumption) ?_
  rotate_left
  ·(intro w hSw; go_simp)
   all_goals (with_reducible rfl)
  (try simp only [qs, Act.put])
  refine qP 8 _ ?_ rfl (.inl ⟨by rfl, ?_⟩) (fun _ => by assumption) ?_
  rotate_left
  ·(intro w hSw; go_simp)
   all_goals (with_reducible rfl)
  (try simp only [qs, Act.put])
  refine wpAnyT_ready (rs := [9]) (by kernel_rfl) (by simp) ?_
  refine AllReadyT.cons rfl (fun K hK => ?_) AllReadyT.nil
  go_simp
  refine hK.out _ _ (noneB_off (by kernel_rfl)) (fun _ => ?_)
  clear hK K
  (try simp only [qs, Act.put])
  refine wpAnyT_done (by kernel_rfl) ?_ _
  have HR2 : Hid (r = bd (mustF L n k3 [sOpen]) fun k => bd (listF L (colF L n) k s.cols) fun y => bd (mustF L n y.1 [sClose]) fun k => .inr (k, { s with k := 1, t := t1, cols := y.2 })) := HR1.out
  refine exthen_nm (fun W4 hW4 => ?_)
  obtain ⟨s4, hs4⟩ : ∃ s4 : Sq, s4 = { s with k := 1, t := t1 } := ⟨_, rfl⟩
  have hx4 : Cl W4 B S E w.heap.size (w.heap.size + 1) a n c L k3 s4 p ∧ But S w3 W4 := by
   have h3 := HS3.out
   have i1 := h3.put (s' := { s with k := 1 }) (p' := p) 0 (.int .i64 1) rfl (h3.ss.own.as rfl rfl rfl rfl rfl)
   have i2 := i1.put (s' := { s with k := 1, t := t1 }) (p' := p) 1 (.string t1) rfl (i1.ss.own.as rfl rfl rfl rfl rfl)
   rw [hW4, hs4]
   exact ⟨i2, (But.set w3 S 0 _).trans (But.set _ S 1 _)⟩
  have HX4 := hid (HN3.out.trans (hx4.2.toS' B E))
  obtain ⟨r5, hr5⟩ : ∃ r5, r5 = mustF L n k3 [sOpen] := ⟨_, rfl⟩
  have hf4 : s4.cols = s.cols := by rw [hs4]
  have HR5 : Hid (r = bd r5 fun k => bd (listF L (colF L n) k s4.cols) fun y => bd (mustF L n y.1 [sClose]) fun k => .inr (k, { s4 with cols := y.2 })) := by
   show _ = _
   rw [HR2.out, hr5, hf4, hs4]
  have hs40 : s4.cols = [] := by rw [hf4]; exact hs0
  have HMU4 : Hid (Calls Tryd.prog 52 #[.pointer (some ⟨B, 0, none⟩), .slice (some ⟨W4.heap.size, 0, none⟩) 1 1] (W4.alloc (.cells #[.string sOpen] 9)) fun e w' => But B W4 w' ∧ match r5 with
   | .inl f => e = flt f.1 f.2
   | .inr k' => e = .returned (.tuple #[]) ∧ Cl w' B S E w.heap.size (w.heap.size + 1) a n c L k' s4 p) := by
   rw [hr5]
   exact cmust hx4.1 [sOpen] rfl (by simp) (by simp)
  obtain ⟨xp, xq⟩ := hx4.1.xs
  have hs4s := hs40
  clear hW4 hs4 hx4 hr5 hf4 HR2 HR1 HN3 HS3 HS1 HN1 hs0 sf0 sf1 q0 q1 yp yq
  go_wp2_with fail
  refine HMU4.out.mono ?_
  rintro e w5 ⟨hN5, h5⟩
  have HN5 := hid (HX4.out.trans (hN5.toS S E))
  clear hN5 HMU4 HX4 xp xq
  rcases r5 with f0 | k5
  ·obtain rfl : e = flt f0.1 f0.2 := h5
   obtain rfl : r = .inl f0 := HR5.out
   exact ⟨rfl, HN5.out, rfl⟩
  ·obtain ⟨rfl, hx5⟩ := h5
   have HLI : Hid (Calls Tryd.prog 73 #[.pointer (some ⟨B, 0, none⟩), .func (.func 74) #[] #[.pointer (some ⟨w.heap.size, 0, none⟩), .pointer (some ⟨w.heap.size + 1, 0, none⟩)]] w5 fun e w' => ButS B S E w5 w' ∧ match listF L (colF L n) k5 s4.cols with
    | .inl f => e = flt f.1 f.2
    | .inr (k', s') => e = .returned (.tuple #[]) ∧ s'.length ≤ k' ∧ ∃ p', Cl w' B S E w.heap.size (w.heap.size + 1) a n c L k' { s4 with cols := s' } p') :=
    hid (by
     have hli := list_any (B := B) (a := a) (n := n) (c := c) (L := L) (σ := List Cq) (inv_create B S E w.heap.size (w.heap.size + 1) a n c L s4) (ButS B S E) (colF L n) 74 (.pointer (some ⟨w.heap.size, 0, none⟩)) (.pointer (some ⟨w.heap.size + 1, 0, none⟩))
      (enters Tryd.func74 (by kernel_rfl) (by kernel_rfl)) (fun W k l hx => by obtain ⟨_, p', hc⟩ := hx; exact hc.ss.rs) (fun W W' k k' l hx hk hN hr => by obtain ⟨hl, p', hc⟩ := hx; exact ⟨Nat.le_trans hl hk, p', hc.go hN hr⟩) (fun W W' hN => hN.toS S E) (fun W1 W2 W3 h1 h2 => h1.trans h2)
      (fun W k l hx => by
       obtain ⟨hl, p', hc⟩ := hx
       refine (colth_any hc hl).mono ?_
       rintro e w' ⟨g1, g2⟩
       refine ⟨g1, ?_⟩
       rcases hh : colF L n k l with f0 | ⟨k', l'⟩
       ·rw [show colF L n k ({ s4 with cols := l } : Sq).cols = colF L n k l from rfl, hh] at g2
        exact g2
       ·rw [show colF L n k ({ s4 with cols := l } : Sq).cols = colF L n k l from rfl, hh] at g2
        exact ⟨g2.1, g2.2.1, g2.2.2⟩) w5 k5 s4.cols ⟨by rw [hs40]; simp, p, hx5⟩
     refine hli.mono ?_
     rintro e w' ⟨g1, g2⟩
     refine ⟨g1, ?_⟩
     rcases hh : listF L (colF L n) k5 s4.cols with f0 | ⟨k', l'⟩
     ·rw [hh] at g2
      exact g2
     ·rw [hh] at g2
      exact ⟨g2.1, g2.2.1, g2.2.2⟩)
   obtain ⟨r6, hr6⟩ : ∃ r6, r6 = listF L (colF L n) k5 s4.cols := ⟨_, rfl⟩
   have HR6 : Hid (r = bd r6 fun y => bd (mustF L n y.1 [sClose]) fun k => .inr (k, { s4 with cols := y.2 })) := by
    show _ = _
    rw [HR5.out, hr6]
    rfl
   rw [← hr6] at HLI
   obtain ⟨xp, xq⟩ := hx5.xs
   clear hr6 hx5 HR5
   go_wp2_with fail
   refine HLI.out.mono ?_
   rintro e w6 ⟨hN6, h6⟩
   have HN6 := hid (HN5.out.trans hN6)
   clear hN6 HLI xp xq HN5
   rcases r6 with f0 | ⟨k6, l6⟩
   ·obtain rfl : e = flt f0.1 f0.2 := h6
    obtain rfl : r = .inl f0 := HR6.out
    exact ⟨rfl, HN6.out, rfl⟩
   ·obtain ⟨rfl, -, p6, hx6⟩ := h6
    obtain ⟨r7, hr7⟩ : ∃ r7, r7 = mustF L n k6 [sClose] := ⟨_, rfl⟩
    have HR7 : Hid (r = bd r7 fun k => .inr (k, { s4 with cols := l6 })) := by
     show _ = _
     rw [HR6.out, hr7]
     rfl
    have HMU7 : Hid (Calls Tryd.prog 52 #[.pointer (some ⟨B, 0, none⟩), .slice (some ⟨w6.heap.size, 0, none⟩) 1 1] (w6.alloc (.cells #[.string sClose] 9)) fun e w' => But B w6 w' ∧ match r7 with
     | .inl f => e = flt f.1 f.2
     | .inr k' => e = .returned (.tuple #[]) ∧ Cl w' B S E w.heap.size (w.heap.size + 1) a n c L k' { s4 with cols := l6 } p6) := by
     rw [hr7]
     exact cmust hx6 [sClose] rfl (by simp) (by simp)
    obtain ⟨xp, xq⟩ := hx6.xs
    clear hr7 hx6 HR6
    go_wp2_with fail
    refine HMU7.out.mono ?_
    rintro e w7 ⟨hN7, h7⟩
    have HN7 := hid (HN6.out.trans (hN7.toS S E))
    clear hN7 HMU7 xp xq HN6
    rcases r7 with f0 | k7
    ·obtain rfl : e = flt f0.1 f0.2 := h7
     obtain rfl : r = .inl f0 := HR7.out
     exact ⟨rfl, HN7.out, rfl⟩
    ·obtain ⟨rfl, hx7⟩ := h7
     obtain rfl : r = .inr (k7, { s4 with cols := l6 }) := HR7.out
     have HS7 := hid hx7
     clear hx7 HR7
     go_wp2_with fail
     go_returns
     exact ⟨HN7.out, rfl, p6, HS7.out.ss⟩
def inv_insert (B S E P Q : Nat) (a : Option Addr) (n c : Nat) (L : List Tk) (s : Sq) (W : World) (k : Nat) (l : List V) : Prop := l.length ≤ k ∧ ∃ p, Cl W B S E P Q a n c L k { s with row := l } p
theorem insert_any {w : World} {k : Nat} {s : Sq} {p : Ps} (h : Ss w B S E a n c L k s p) (hs0 : s.row = []) :
  Calls Tryd.prog 54 #[.pointer (some ⟨B, 0, none⟩), .pointer (some ⟨S, 0, none⟩)] w (Sx w B S E a n c L (insertF L n k s)) := by
 obtain ⟨P, hP⟩ : ∃ P, P = w.heap.size := ⟨_, rfl⟩
 have hlS := blk_lt h.box
 have hlB := h.rs.lt
 obtain ⟨r, hr⟩ : ∃ r, r = insertF L n k s := ⟨_, rfl⟩
 rw [← hr]
 have hcl : ∀ W, W = (w.alloc (.cells #[.pointer (some ⟨B, 0, none⟩)] 91)).alloc (.cells #[.pointer (some ⟨S, 0, none⟩)] 93) → Cl W B S E w.heap.size (w.heap.size + 1) a n c L k s p ∧ Below w.heap.size w W ∧ W.heap.size = w.heap.size + 1 + 1 := fun W hW => by
  have hb : Below w.heap.size w W := by rw [hW]; exact ((Below.refl _ _).alloc (Nat.le_refl _) _).alloc (by simp) _
  exact ⟨⟨h.later hb, by rw [hW]; exact (Below.heap_alloc _ _ _ (by simp)).trans (new0 _ _), by rw [hW]; exact new1 _ _ _, by omega, by omega, by omega, by omega⟩, hb, by rw [hW]; simp⟩
 have HCL := hid hcl
 obtain ⟨r0, hr0⟩ : ∃ r0, r0 = mustF L n k [sINTO] := ⟨_, rfl⟩
 have HR0 : Hid (r = bd r0 fun k => bd (nameG L n k) fun x => bd (mustF L n x.2 [sVALUES, sOpen]) fun k => bd (listF L (valF L n) k s.row) fun y => bd (mustF L n y.1 [sClose]) fun k => .inr (k, { s with k := 3, t := x.1, row := y.2 })) := by
  show _ = _
  rw [hr, hr0]
  rfl
 have HMU : Hid (∀ W0, W0 = (w.alloc (.cells #[.pointer (some ⟨B, 0, none⟩)] 91)).alloc (.cells #[.pointer (some ⟨S, 0, none⟩)] 93) → Calls Tryd.prog 52 #[.pointer (some ⟨B, 0, none⟩), .slice (some ⟨w.heap.size + 1 + 1, 0, none⟩) 1 1] (W0.alloc (.cells #[.string sINTO] 9)) fun e w' => But B w w' ∧ match r0 with
   | .inl f => e = flt f.1 f.2
   | .inr k' => e = .returned (.tuple #[]) ∧ Cl w' B S E w.heap.size (w.heap.size + 1) a n c L k' s p) := fun W0 h0 => by
  obtain ⟨hc, hb, hz⟩ := HCL.out W0 h0
  rw [← hz, hr0]
  refine (cmust hc [sINTO] rfl (by simp) (by simp)).mono ?_
  rintro e w' ⟨h1, h2⟩
  exact ⟨(But.of hb).trans h1, h2⟩
 clear hcl hr hr0 HCL h hP
 go_enter Tryd.func54, Tryd.ntmps54
 go_wp2_with fail
 refine (HMU.out _ rfl).mono ?_
 rintro e w1 ⟨hN1, h1⟩
 have HN1 := hid (hN1.toS S E)
 clear hN1 HMU
 rcases r0 with f0 | k1
 ·obtain rfl : e = flt f0.1 f0.2 := h1
  obtain rfl : r = .inl f0 := HR0.out
  exact ⟨rfl, HN1.out, rfl⟩
 ·obtain ⟨rfl, hx1⟩ := h1
  have HNA : Hid (∀ W, Below w1.heap.size w1 W → Calls Tryd.prog 53 #[.pointer (some ⟨B, 0, none⟩)] W fun e w' => But B W w' ∧ match nameG L n k1 with
   | .inl f => e = flt f.1 f.2
   | .inr (t, k') => e = .returned (.string t) ∧ Rs w' B a n c L k') := fun W hW => sname (hx1.ss.rs.later hW)
  obtain ⟨r1, hr1⟩ : ∃ r1, r1 = nameG L n k1 := ⟨_, rfl⟩
  have HR1 : Hid (r = bd r1 fun x => bd (mustF L n x.2 [sVALUES, sOpen]) fun k => bd (listF L (valF L n) k s.row) fun y => bd (mustF L n y.1 [sClose]) fun k => .inr (k, { s with k := 3, t := x.1, row := y.2 })) := by
   show _ = _
   rw [HR0.out, hr1]
   rfl
  rw [← hr1] at HNA
  have HS1 := hid hx1
  obtain ⟨xp, xq⟩ := hx1.xs
  have HQS : Hid (S ≠ w.heap.size + 1) := hx1.qs.symm
  have HPS : Hid (S ≠ w.heap.size) := hx1.ps.symm
  clear hr1 HR0 hx1
  go_wp2_with fail
  refine wpT_begin (S := (fun wx => wx.cell? ⟨w.heap.size + 1, 0, none⟩ = some (.pointer (some ⟨S, 0, none⟩)) ∧ wx.cell? ⟨w.heap.size, 0, none⟩ = some (.pointer (some ⟨B, 0, none⟩)))) [9] (by kernel_rfl) ?_ (fun gH => ?_)
  ·(try dsimp only)
   (first | (with_reducible exact ⟨cell_dr xq, cell_dr xp⟩) | (exact ⟨yq, yp⟩) | (exact ⟨(World.cell?_setCell_far _ _ _ _ HQS.out).trans yq, (World.cell?_setCell_far _ _ _ _ HPS.out).trans yp⟩))
  refine qT 0 _ ?_ rfl (.inl ⟨by rfl, ?_⟩) (by assumption) ?_
  rotate_left
  ·(intro w hSw; (try dsimp only at hSw); go_simp)
   all_goals (with_reducible rfl)
  (try simp only [qs, Act.put])
  refine qT 1 _ ?_ rfl (.inl ⟨by rfl, ?_⟩) (by assumption) ?_
  rotate_left
  ·(intro w hSw; (try dsimp only at hSw); go_simp)
   all_goals (with_reducible rfl)
  (try simp only [qs, Act.put])
  refine qT 2 _ ?_ rfl (.inl ⟨by rfl, ?_⟩) (by assumption) ?_
  rotate_left
  ·(intro w hSw; (try dsimp only at hSw); go_simp)
   all_goals (with_reducible rfl)
  (try simp only [qs, Act.put])
  refine wpAnyT_ready (rs := [3]) (by kernel_rfl) (by simp) ?_
  refine AllReadyT.cons rfl (fun K hK => ?_) AllReadyT.nil
  go_simp
  (go_at_call 53; ((refine (HNA.out _ (Below.refl _ _).drew).mono ?_); rintro e w3 ⟨hN3, h3⟩; have HN3 := hid (HN1.out.trans (((But.of (Below.refl _ _).drew).trans hN3).toS S E)); rcases r1 with f0 | ⟨t1, k3⟩; (focus (obtain rfl : e = flt f0.1 f0.2 := h3; obtain rfl : r = .inl f0 := HR1.out; exact ⟨rfl, HN3.out, rfl⟩)); obtain ⟨rfl, hs3⟩ := h3; have hx3 := (HS1.out.later (Below.refl _ _).drew).go hN3 hs3; have HS3 := hid hx3; obtain ⟨yp, yq⟩ := hx3.xs; have q0 : w3.cell? ⟨S, 0, none⟩ = some (.int .i64 s.k) := (hx3.ss.x 0 (by omega)).1; have q1 : w3.cell? ⟨S, 1, none⟩ = some (.string s.t) := (hx3.ss.x 1 (by omega)).1; have sf0 := (hx3.ss.x 0 (by omega)).2; have sf1 := (hx3.ss.x 1 (by omega)).2; clear hN3 hs3 hx3 HNA))
  go_wp2_with fail
  refine hK.out _ _ (fun _ => ?_) (fun gH0 => ?_)
  ·(try dsimp only)
   (first | (with_reducible exact ⟨cell_dr xq, cell_dr xp⟩) | (exact ⟨yq, yp⟩) | (exact ⟨(World.cell?_setCell_far _ _ _ _ HQS.out).trans yq, (World.cell?_setCell_far _ _ _ _ HPS.out).trans yp⟩))
  have gH := gH0 (by kernel_rfl)
  clear hK K gH0
  (try simp only [qs, Act.put])
  refine qP 4 _ ?_ rfl (.inl ⟨by rfl, ?_⟩) (fun _ => by assumption) ?_
  rotate_left
  ·(intro w hSw; go_simp)
   all_goals (with_reducible rfl)
  (try simp only [qs, Act.put])
  refine qP 5 _ ?_ rfl (.inl ⟨by rfl, ?_⟩) (fun _ => by assumption) ?_
  rotate_left
  ·(intro w hSw; go_simp)
   all_goals (with_reducible rfl)
  (try simp only [qs, Act.put])
  refine wpAnyT_ready (rs := [6]) (by kernel_rfl) (by simp) ?_
  refine AllReadyT.cons rfl (fun K hK => ?_) AllReadyT.nil
  go_simp
  refine hK.out _ _ (fun _ => ?_) (fun gH0 => ?_)
  ·(try dsimp only)
   (first | (with_reducible exact ⟨cell_dr xq, cell_dr xp⟩) | (exact ⟨yq, yp⟩) | (exact ⟨(World.cell?_setCell_far _ _ _ _ HQS.out).trans yq, (World.cell?_setCell_far _ _ _ _ HPS.out).trans yp⟩))
  have gH := gH0 (by kernel_rfl)
  clear hK K gH0
  (try simp only [qs, Act.put])
  refine qP 7 _ ?_ rfl (.inl ⟨by rfl, ?_⟩) (fun _ => by assumption) ?_
  rotate_left
  ·(intro w hSw; go_simp)
   all_goals (with_reducible rfl)
  (try simp only [qs, Act.put])
  refine qP 8 _ ?_ rfl (.inl ⟨by rfl, ?_⟩) (fun _ => by assumption) ?_
  rotate_left
  ·(intro w hSw; go_simp)
   all_goals (with_reducible rfl)
  (try simp only [qs, Act.put])
  refine wpAnyT_ready (rs := [9]) (by kernel_rfl) (by simp) ?_
  refine AllReadyT.cons rfl (fun K hK => ?_) AllReadyT.nil
  go_simp
  refine hK.out _ _ (noneB_off (by kernel_rfl)) (fun _ => ?_)
  clear hK K
  (try simp only [qs, Act.put])
  refine wpAnyT_done (by kernel_rfl) ?_ _
  have HR2 : Hid (r = bd (mustF L n k3 [sVALUES, sOpen]) fun k => bd (listF L (valF L n) k s.row) fun y => bd (mustF L n y.1 [sClose]) fun k => .inr (k, { s with k := 3, t := t1, row := y.2 })) := HR1.out
  refine exthen_nm (fun W4 hW4 => ?_)
  obtain ⟨s4, hs4⟩ : ∃ s4 : Sq, s4 = { s with k := 3, t := t1 } := ⟨_, rfl⟩
  have hx4 : Cl W4 B S E w.heap.size (w.heap.size + 1) a n c L k3 s4 p ∧ But S w3 W4 := by
   have h3 := HS3.out
   have i1 := h3.put (s' := { s with k := 3 }) (p' := p) 0 (.int .i64 3) rfl (h3.ss.own.as rfl rfl rfl rfl rfl)
   have i2 := i1.put (s' := { s with k := 3, t := t1 }) (p' := p) 1 (.string t1) rfl (i1.ss.own.as rfl rfl rfl rfl rfl)
   rw [hW4, hs4]
   exact ⟨i2, (But.set w3 S 0 _).trans (But.set _ S 1 _)⟩
  have HX4 := hid (HN3.out.trans (hx4.2.toS' B E))
  obtain ⟨r5, hr5⟩ : ∃ r5, r5 = mustF L n k3 [sVALUES, sOpen] := ⟨_, rfl⟩
  have hf4 : s4.row = s.row := by rw [hs4]
  have HR5 : Hid (r = bd r5 fun k => bd (listF L (valF L n) k s4.row) fun y => bd (mustF L n y.1 [sClose]) fun k => .inr (k, { s4 with row := y.2 })) := by
   show _ = _
   rw [HR2.out, hr5, hf4, hs4]
  have hs40 : s4.row = [] := by rw [hf4]; exact hs0
  have HMU4 : Hid (Calls Tryd.prog 52 #[.pointer (some ⟨B, 0, none⟩), .slice (some ⟨W4.heap.size, 0, none⟩) 2 2] (W4.alloc (.cells #[.string sVALUES, .string sOpen] 9)) fun e w' => But B W4 w' ∧ match r5 with
   | .inl f => e = flt f.1 f.2
   | .inr k' => e = .returned (.tuple #[]) ∧ Cl w' B S E w.heap.size (w.heap.size + 1) a n c L k' s4 p) := by
   rw [hr5]
   exact cmust hx4.1 [sVALUES, sOpen] rfl (by simp) (by simp)
  obtain ⟨xp, xq⟩ := hx4.1.xs
  have hs4s := hs40
  clear hW4 hs4 hx4 hr5 hf4 HR2 HR1 HN3 HS3 HS1 HN1 hs0 sf0 sf1 q0 q1 yp yq
  go_wp2_with fail
  refine HMU4.out.mono ?_
  rintro e w5 ⟨hN5, h5⟩
  have HN5 := hid (HX4.out.trans (hN5.toS S E))
  clear hN5 HMU4 HX4 xp xq
  rcases r5 with f0 | k5
  ·obtain rfl : e = flt f0.1 f0.2 := h5
   obtain rfl : r = .inl f0 := HR5.out
   exact ⟨rfl, HN5.out, rfl⟩
  ·obtain ⟨rfl, hx5⟩ := h5
   have HLI : Hid (Calls Tryd.prog 73 #[.pointer (some ⟨B, 0, none⟩), .func (.func 77) #[] #[.pointer (some ⟨w.heap.size, 0, none⟩), .pointer (some ⟨w.heap.size + 1, 0, none⟩)]] w5 fun e w' => ButS B S E w5 w' ∧ match listF L (valF L n) k5 s4.row with
    | .inl f => e = flt f.1 f.2
    | .inr (k', s') => e = .returned (.tuple #[]) ∧ s'.length ≤ k' ∧ ∃ p', Cl w' B S E w.heap.size (w.heap.size + 1) a n c L k' { s4 with row := s' } p') :=
    hid (by
     have hli := list_any (B := B) (a := a) (n := n) (c := c) (L := L) (σ := List V) (inv_insert B S E w.heap.size (w.heap.size + 1) a n c L s4) (ButS B S E) (valF L n) 77 (.pointer (some ⟨w.heap.size, 0, none⟩)) (.pointer (some ⟨w.heap.size + 1, 0, none⟩))
      (enters Tryd.func77 (by kernel_rfl) (by kernel_rfl)) (fun W k l hx => by obtain ⟨_, p', hc⟩ := hx; exact hc.ss.rs) (fun W W' k k' l hx hk hN hr => by obtain ⟨hl, p', hc⟩ := hx; exact ⟨Nat.le_trans hl hk, p', hc.go hN hr⟩) (fun W W' hN => hN.toS S E) (fun W1 W2 W3 h1 h2 => h1.trans h2)
      (fun W k l hx => by
       obtain ⟨hl, p', hc⟩ := hx
       refine (valth_any hc hl).mono ?_
       rintro e w' ⟨g1, g2⟩
       refine ⟨g1, ?_⟩
       rcases hh : valF L n k l with f0 | ⟨k', l'⟩
       ·rw [show valF L n k ({ s4 with row := l } : Sq).row = valF L n k l from rfl, hh] at g2
        exact g2
       ·rw [show valF L n k ({ s4 with row := l } : Sq).row = valF L n k l from rfl, hh] at g2
        exact ⟨g2.1, g2.2.1, g2.2.2⟩) w5 k5 s4.row ⟨by rw [hs40]; simp, p, hx5⟩
     refine hli.mono ?_
     rintro e w' ⟨g1, g2⟩
     refine ⟨g1, ?_⟩
     rcases hh : listF L (valF L n) k5 s4.row with f0 | ⟨k', l'⟩
     ·rw [hh] at g2
      exact g2
     ·rw [hh] at g2
      exact ⟨g2.1, g2.2.1, g2.2.2⟩)
   obtain ⟨r6, hr6⟩ : ∃ r6, r6 = listF L (valF L n) k5 s4.row := ⟨_, rfl⟩
   have HR6 : Hid (r = bd r6 fun y => bd (mustF L n y.1 [sClose]) fun k => .inr (k, { s4 with row := y.2 })) := by
    show _ = _
    rw [HR5.out, hr6]
    rfl
   rw [← hr6] at HLI
   obtain ⟨xp, xq⟩ := hx5.xs
   clear hr6 hx5 HR5
   go_wp2_with fail
   refine HLI.out.mono ?_
   rintro e w6 ⟨hN6, h6⟩
   have HN6 := hid (HN5.out.trans hN6)
   clear hN6 HLI xp xq HN5
   rcases r6 with f0 | ⟨k6, l6⟩
   ·obtain rfl : e = flt f0.1 f0.2 := h6
    obtain rfl : r = .inl f0 := HR6.out
    exact ⟨rfl, HN6.out, rfl⟩
   ·obtain ⟨rfl, -, p6, hx6⟩ := h6
    obtain ⟨r7, hr7⟩ : ∃ r7, r7 = mustF L n k6 [sClose] := ⟨_, rfl⟩
    have HR7 : Hid (r = bd r7 fun k => .inr (k, { s4 with row := l6 })) := by
     show _ = _
     rw [HR6.out, hr7]
     rfl
    have HMU7 : Hid (Calls Tryd.prog 52 #[.pointer (some ⟨B, 0, none⟩), .slice (some ⟨w6.heap.size, 0, none⟩) 1 1] (w6.alloc (.cells #[.string sClose] 9)) fun e w' => But B w6 w' ∧ match r7 with
     | .inl f => e = flt f.1 f.2
     | .inr k' => e = .returned (.tuple #[]) ∧ Cl w' B S E w.heap.size (w.heap.size + 1) a n c L k' { s4 with row := l6 } p6) := by
     rw [hr7]
     exact cmust hx6 [sClose] rfl (by simp) (by simp)
    obtain ⟨xp, xq⟩ := hx6.xs
    clear hr7 hx6 HR6
    go_wp2_with fail
    refine HMU7.out.mono ?_
    rintro e w7 ⟨hN7, h7⟩
    have HN7 := hid (HN6.out.trans (hN7.toS S E))
    clear hN7 HMU7 xp xq HN6
    rcases r7 with f0 | k7
    ·obtain rfl : e = flt f0.1 f0.2 := h7
     obtain rfl : r = .inl f0 := HR7.out
     exact ⟨rfl, HN7.out, rfl⟩
    ·obtain ⟨rfl, hx7⟩ := h7
     obtain rfl : r = .inr (k7, { s4 with row := l6 }) := HR7.out
     have HS7 := hid hx7
     clear hx7 HR7
     go_wp2_with fail
     go_returns
     exact ⟨HN7.out, rfl, p6, HS7.out.ss⟩
end
open Go.Proofs.YtdeollmeljaaoaaDoor.cs
def endF (L : List Tk) (n k : Nat) (g : Int → Sq) : F ⊕ (Nat × Sq) := bd (limitF L n k) fun u => .inr (u.1, g u.2)
def ordsF (L : List Tk) (n k : Nat) (g : ByteArray → Bool → Int → Sq) : F ⊕ (Nat × Sq) := bd (orderF L n k) fun z => endF L n z.1 (g z.2.1 z.2.2)
def fromF (L : List Tk) (n k : Nat) (g : ByteArray → List Oq → ByteArray → Bool → Int → Sq) : F ⊕ (Nat × Sq) :=
 bd (mustF L n k [sFROM]) fun k => bd (nameG L n k) fun x => bd (whereF L n x.2) fun y => ordsF L n y.1 (g x.1 y.2)
theorem body_nm {p : Program} {f : Func} {Q : Ending → World → Prop} {e : Exit} {a : Act} {w : World} (h : ∀ W, W = w → bodyPost p f Q e a W) : bodyPost p f Q e a w := h w rfl
section
variable {B S E : Nat} {a : Option Addr} {n c : Nat} {L : List Tk}
theorem cmay {P Q : Nat} {w : World} {k : Nat} {s : Sq} {p : Ps} (h : Cl w B S E P Q a n c L k s p) (t : ByteArray) :
  Calls Tryd.prog 50 #[.pointer (some ⟨B, 0, none⟩), .string t] w fun e w' => e = .returned (.bool (mayB L k t)) ∧ But B w w' ∧ Cl w' B S E P Q a n c L (if mayB L k t then k + 1 else k) s p := by
 refine (smay h.ss.rs t).mono ?_
 rintro e w' ⟨rfl, h1, h2⟩
 exact ⟨rfl, h1, h.go h1 h2⟩
theorem from_eq (L : List Tk) (n k : Nat) (names : List ByteArray) (cnt : Bool) : (bd (.inr (k, names, cnt) : F ⊕ (Nat × List ByteArray × Bool)) fun h => bd (mustF L n h.1 [sFROM]) fun k => bd (nameG L n k) fun x => bd (whereF L n x.2) fun y => bd (orderF L n y.1) fun z => bd (limitF L n z.1) fun u =>
 (.inr (u.1, { sq0 with k := 4, t := x.1, names := h.2.1, cnt := h.2.2, wh := y.2, ord := z.2.1, dn := z.2.2, lim := u.2 }) : F ⊕ (Nat × Sq))) = fromF L n k (fun t wh ord dn lim => (⟨4, t, [], [], names, cnt, wh, ord, dn, lim, ⟨#[]⟩, []⟩ : Sq)) := rfl
theorem choose_star {w : World} {k : Nat} {p : Ps} (h : Ss w B S E a n c L k sq0 p) (h1 : mayB L k sStar = true) :
  Calls Tryd.prog 55 #[.pointer (some ⟨B, 0, none⟩), .pointer (some ⟨S, 0, none⟩)] w (Sx w B S E a n c L (chooseF L n k sq0)) := by
 have hlS := blk_lt h.box
 have hlB := h.rs.lt
 obtain ⟨r, hr⟩ : ∃ r, r = chooseF L n k sq0 := ⟨_, rfl⟩
 rw [← hr]
 have q0 : w.cell? ⟨S, 0, none⟩ = some (.int .i64 0) := (h.x 0 (by omega)).1
 have sf0 := (h.x 0 (by omega)).2
 have HCL : Hid (∀ W, W = ((w.setCell ⟨S, 0, none⟩ (.int .i64 4)).alloc (.cells #[.pointer (some ⟨B, 0, none⟩)] 91)).alloc (.cells #[.pointer (some ⟨S, 0, none⟩)] 93) → Cl W B S E w.heap.size (w.heap.size + 1) a n c L k (⟨4, ⟨#[]⟩, [], [], [], false, [], ⟨#[]⟩, false, -1, ⟨#[]⟩, []⟩ : Sq) p ∧ ButS B S E w W) := fun W hW => by
  have h1 := h.put (s' := (⟨4, ⟨#[]⟩, [], [], [], false, [], ⟨#[]⟩, false, -1, ⟨#[]⟩, []⟩ : Sq)) (p' := p) 0 (.int .i64 4) rfl (h.own.as rfl rfl rfl rfl rfl)
  obtain ⟨w9, hw9⟩ : ∃ w9, w9 = w.setCell ⟨S, 0, none⟩ (.int .i64 4) := ⟨_, rfl⟩
  have hz : w9.heap.size = w.heap.size := by rw [hw9]; simp
  rw [← hw9] at hW h1
  have hb : Below w9.heap.size w9 W := by rw [hW]; exact ((Below.refl _ _).alloc (Nat.le_refl _) _).alloc (by simp) _
  have hs : ButS B S E w w9 := by rw [hw9]; exact (But.set _ S 0 _).toS' B E
  rw [← hz]
  exact ⟨⟨h1.later hb, by rw [hW]; exact (Below.heap_alloc _ _ _ (by simp)).trans (new0 _ _), by rw [hW]; exact new1 _ _ _, by omega, by omega, by omega, by omega⟩, hs.trans ((But.of hb).toS S E)⟩
 clear h
 go_enter Tryd.func55, Tryd.ntmps55
 go_wp2_with fail
 refine calls_nm (fun w0 hW => ?_)
 obtain ⟨hx, hN⟩ := HCL.out w0 hW
 have HS0 := hid hx
 have HN0 := hid hN
 have hm0 := cmay hx sStar
 clear hW hx hN HCL q0 sf0
 rw [h1] at hm0
 have HM := hid hm0
 clear hm0
 refine HM.out.mono ?_
 rintro e w1 ⟨rfl, hN, hx⟩
 have hx : Cl w1 B S E w.heap.size (w.heap.size + 1) a n c L (k + 1) (⟨4, ⟨#[]⟩, [], [], [], false, [], ⟨#[]⟩, false, -1, ⟨#[]⟩, []⟩ : Sq) p := hx
 have HN1 := hid (HN0.out.trans (hN.toS S E))
 have HS1 := hid hx
 clear hN hx HM HS0 HN0
 have HR1 : Hid (r = fromF L n (k + 1) (fun t wh ord dn lim => (⟨4, t, [], [], [], false, wh, ord, dn, lim, ⟨#[]⟩, []⟩ : Sq))) := by
  show _ = _
  rw [hr]
  unfold chooseF headF
  rw [if_pos h1]
  exact from_eq _ _ _ _ _
 clear hr h1
 obtain ⟨G, hG⟩ : ∃ G : ByteArray → List Oq → ByteArray → Bool → Int → Sq, G = (fun t wh ord dn lim => (⟨4, t, [], [], [], false, wh, ord, dn, lim, ⟨#[]⟩, []⟩ : Sq)) := ⟨_, rfl⟩
 rw [← hG] at HR1
 have HG := hid hG
 clear hG
 obtain ⟨q2, hq2⟩ : ∃ q, q = mustF L n (k + 1) [sFROM] := ⟨_, rfl⟩
 have HQ2 : Hid (r = bd q2 fun k => bd (nameG L n k) fun x => bd (whereF L n x.2) fun y => ordsF L n y.1 (G x.1 y.2)) := by
  show _ = _
  rw [HR1.out, hq2]
  first | done | rfl
 have HMU2 : Hid (Calls Tryd.prog 52 #[.pointer (some ⟨B, 0, none⟩), .slice (some ⟨w1.heap.size, 0, none⟩) 1 1] (w1.alloc (.cells #[.string sFROM] 9)) fun e w' => But B w1 w' ∧ match (generalizing := false) q2 with
  | .inl f => e = flt f.1 f.2
  | .inr k' => e = .returned (.tuple #[]) ∧ Cl w' B S E w.heap.size (w.heap.size + 1) a n c L k' (⟨4, ⟨#[]⟩, [], [], [], false, [], ⟨#[]⟩, false, -1, ⟨#[]⟩, []⟩ : Sq) p) := by
  rw [hq2]
  exact cmust HS1.out [sFROM] rfl (by simp) (by simp)
 obtain ⟨xp, xq⟩ := HS1.out.xs
 clear hq2 HR1
 go_wp2_with fail
 refine HMU2.out.mono ?_
 rintro e w2 ⟨hN, h1⟩
 have HN2 := hid (HN1.out.trans (hN.toS S E))
 clear hN HMU2 xp xq
 rcases q2 with f0 | k2
 ·obtain rfl : e = flt f0.1 f0.2 := h1
  obtain rfl : r = .inl f0 := HQ2.out
  exact ⟨rfl, HN2.out, rfl⟩
 ·obtain ⟨rfl, hx⟩ := h1
  have HS2 := hid hx
  have HR2 := hid (show r = bd (nameG L n k2) fun x => bd (whereF L n x.2) fun y => ordsF L n y.1 (G x.1 y.2) from HQ2.out)
  clear hx HQ2
  obtain ⟨p2, hp⟩ : ∃ p', p' = p := ⟨_, rfl⟩
  rw [← hp] at HS2
  clear hp
  have HNA : Hid (∀ W, Below w2.heap.size w2 W → Calls Tryd.prog 53 #[.pointer (some ⟨B, 0, none⟩)] W fun e w' => But B W w' ∧ match nameG L n k2 with
   | .inl f => e = flt f.1 f.2
   | .inr (t, k') => e = .returned (.string t) ∧ Rs w' B a n c L k') := fun W hW => sname (HS2.out.ss.rs.later hW)
  have HWH : Hid (∀ W k, Rs W B a n c L k → Calls Tryd.prog 57 #[.pointer (some ⟨B, 0, none⟩)] W (Xp W B a n c L (whereF L n k))) := fun W k hx => where_any W k hx
  obtain ⟨q3, hq3⟩ : ∃ q, q = nameG L n k2 := ⟨_, rfl⟩
  have HQ3 : Hid (r = bd q3 fun x => bd (whereF L n x.2) fun y => ordsF L n y.1 (G x.1 y.2)) := by
   show _ = _
   rw [HR2.out, hq3]
  rw [← hq3] at HNA
  obtain ⟨xp, xq⟩ := HS2.out.xs
  have HQS : Hid (S ≠ w.heap.size + 1) := HS2.out.qs.symm
  have HPS : Hid (S ≠ w.heap.size) := HS2.out.ps.symm
  clear hq3 HR2
  go_wp2_with fail
  refine wpT_begin (S := (fun wx => wx.cell? ⟨w.heap.size + 1, 0, none⟩ = some (.pointer (some ⟨S, 0, none⟩)) ∧ wx.cell? ⟨w.heap.size, 0, none⟩ = some (.pointer (some ⟨B, 0, none⟩)))) [11] (by kernel_rfl) ?_ (fun gH => ?_)
  ·(try dsimp only)
   (first | (with_reducible exact ⟨cell_dr xq, cell_dr xp⟩) | (exact ⟨yq, yp⟩) | (exact ⟨zq, zp⟩) | (exact ⟨(World.cell?_setCell_far _ _ _ _ HQS.out).trans zq, (World.cell?_setCell_far _ _ _ _ HPS.out).trans zp⟩))
  refine qT 0 _ ?_ rfl (.inl ⟨by rfl, ?_⟩) (by assumption) ?_
  rotate_left
  ·(intro w hSw; (try dsimp only at hSw); go_simp)
   all_goals (with_reducible rfl)
  (try simp only [qs, Act.put])
  refine qT 1 _ ?_ rfl (.inl ⟨by rfl, ?_⟩) (by assumption) ?_
  rotate_left
  ·(intro w hSw; (try dsimp only at hSw); go_simp)
   all_goals (with_reducible rfl)
  (try simp only [qs, Act.put])
  refine qT 2 _ ?_ rfl (.inl ⟨by rfl, ?_⟩) (by assumption) ?_
  rotate_left
  ·(intro w hSw; (try dsimp only at hSw); go_simp)
   all_goals (with_reducible rfl)
  (try simp only [qs, Act.put])
  refine qT 4 _ ?_ rfl (.inl ⟨by rfl, ?_⟩) (by assumption) ?_
  rotate_left
  ·(intro w hSw; (try dsimp only at hSw); go_simp)
   all_goals (with_reducible rfl)
  (try simp only [qs, Act.put])
  refine wpAnyT_ready (rs := [3]) (by kernel_rfl) (by simp) ?_
  refine AllReadyT.cons rfl (fun K hK => ?_) AllReadyT.nil
  go_simp
  (go_at_call 53; ((refine (HNA.out _ (Below.refl _ _).drew).mono ?_); rintro e x3 ⟨hN3, h3⟩; have HN30 := hid (HN2.out.trans (((But.of (Below.refl _ _).drew).trans hN3).toS S E)); rcases q3 with f0 | ⟨t3, k30⟩; (focus (obtain rfl : e = flt f0.1 f0.2 := h3; obtain rfl : r = .inl f0 := HQ3.out; exact ⟨rfl, HN30.out, rfl⟩)); obtain ⟨rfl, hs3⟩ := h3; have hx3 := (HS2.out.later (Below.refl _ _).drew).go hN3 hs3; have HS30 := hid hx3; obtain ⟨q3e, hq3e⟩ : ∃ q, q = whereF L n k30 := ⟨_, rfl⟩; have HQ3e : Hid (r = bd q3e fun y => ordsF L n y.1 (G t3 y.2)) := (by show _ = _; rw [hq3e]; exact HQ3.out); have HW3 := HWH.out x3 k30 hs3; rw [← hq3e] at HW3; have HW3 := hid HW3; obtain ⟨yp, yq⟩ := hx3.xs; clear hN3 hs3 hx3 HNA HQ3 hq3e HWH xp xq))
  go_wp2_with fail
  refine hK.out _ _ (fun _ => ?_) (fun gH0 => ?_)
  ·(try dsimp only)
   (first | (with_reducible exact ⟨cell_dr xq, cell_dr xp⟩) | (exact ⟨yq, yp⟩) | (exact ⟨zq, zp⟩) | (exact ⟨(World.cell?_setCell_far _ _ _ _ HQS.out).trans zq, (World.cell?_setCell_far _ _ _ _ HPS.out).trans zp⟩))
  have gH := gH0 (by kernel_rfl)
  clear hK K gH0
  (try simp only [qs, Act.put])
  refine wpAnyT_ready (rs := [5]) (by kernel_rfl) (by simp) ?_
  refine AllReadyT.cons rfl (fun K hK => ?_) AllReadyT.nil
  go_simp
  (go_at_call 57; ((refine HW3.out.mono ?_); rintro e u3 ⟨hN4, h4⟩; have HN3' := hid (HN30.out.trans (hN4.toS S E)); rcases q3e with f0 | ⟨k3, os3⟩; (focus (obtain rfl : e = flt f0.1 f0.2 := h4; obtain rfl : r = .inl f0 := HQ3e.out; exact ⟨rfl, HN3'.out, rfl⟩)); obtain ⟨va3, vc3, rfl, ho4, -, hs4⟩ := h4; have hx4 := HS30.out.go hN4 hs4; have HOW := hid (own_mono ho4 HS30.out.ss.le); have HS3' := hid hx4; obtain ⟨zp, zq⟩ := hx4.xs; have z0 : u3.cell? ⟨S, 1, none⟩ = some (.string ⟨#[]⟩) := (hx4.ss.x 1 (by omega)).1; have z1 : u3.cell? ⟨S, 6, none⟩ = some (.slice p2.a6 p2.n6 p2.c6) := (hx4.ss.x 6 (by omega)).1; have sf0 := (hx4.ss.x 1 (by omega)).2; have sf1 := (hx4.ss.x 6 (by omega)).2; have HR3 := hid (show r = ordsF L n k3 (G t3 os3) from HQ3e.out); clear hN4 hs4 hx4 ho4 HW3 HQ3e yp yq))
  go_wp2_with fail
  refine hK.out _ _ (fun _ => ?_) (fun gH0 => ?_)
  ·(try dsimp only)
   (first | (with_reducible exact ⟨cell_dr xq, cell_dr xp⟩) | (exact ⟨yq, yp⟩) | (exact ⟨zq, zp⟩) | (exact ⟨(World.cell?_setCell_far _ _ _ _ HQS.out).trans zq, (World.cell?_setCell_far _ _ _ _ HPS.out).trans zp⟩))
  have gH := gH0 (by kernel_rfl)
  clear hK K gH0
  (try simp only [qs, Act.put])
  refine qP 6 _ ?_ rfl (.inl ⟨by rfl, ?_⟩) (fun _ => by assumption) ?_
  rotate_left
  ·(intro w hSw; go_simp)
   all_goals (with_reducible rfl)
  (try simp only [qs, Act.put])
  refine qP 7 _ ?_ rfl (.inl ⟨by rfl, ?_⟩) (fun _ => by assumption) ?_
  rotate_left
  ·(intro w hSw; go_simp)
   all_goals (with_reducible rfl)
  (try simp only [qs, Act.put])
  refine wpAnyT_ready (rs := [8]) (by kernel_rfl) (by simp) ?_
  refine AllReadyT.cons rfl (fun K hK => ?_) AllReadyT.nil
  go_simp
  refine hK.out _ _ (fun _ => ?_) (fun gH0 => ?_)
  ·(try dsimp only)
   (first | (with_reducible exact ⟨cell_dr xq, cell_dr xp⟩) | (exact ⟨yq, yp⟩) | (exact ⟨zq, zp⟩) | (exact ⟨(World.cell?_setCell_far _ _ _ _ HQS.out).trans zq, (World.cell?_setCell_far _ _ _ _ HPS.out).trans zp⟩))
  have gH := gH0 (by kernel_rfl)
  clear hK K gH0
  (try simp only [qs, Act.put])
  refine qP 9 _ ?_ rfl (.inl ⟨by rfl, ?_⟩) (fun _ => by assumption) ?_
  rotate_left
  ·(intro w hSw; go_simp)
   all_goals (with_reducible rfl)
  (try simp only [qs, Act.put])
  refine qP 10 _ ?_ rfl (.inl ⟨by rfl, ?_⟩) (fun _ => by assumption) ?_
  rotate_left
  ·(intro w hSw; go_simp)
   all_goals (with_reducible rfl)
  (try simp only [qs, Act.put])
  refine wpAnyT_ready (rs := [11]) (by kernel_rfl) (by simp) ?_
  refine AllReadyT.cons rfl (fun K hK => ?_) AllReadyT.nil
  go_simp
  refine hK.out _ _ (noneB_off (by kernel_rfl)) (fun _ => ?_)
  clear hK K
  (try simp only [qs, Act.put])
  refine wpAnyT_done (by kernel_rfl) ?_ _
  refine exthen_nm (fun w3 hv => ?_)
  have hx : Cl w3 B S E w.heap.size (w.heap.size + 1) a n c L k3 (⟨4, t3, [], [], [], false, os3, ⟨#[]⟩, false, -1, ⟨#[]⟩, []⟩ : Sq) { p2 with a6 := va3, n6 := os3.length, c6 := vc3 } ∧ But S u3 w3 := by
   have i1 := HS3'.out.put (s' := (⟨4, t3, [], [], [], false, [], ⟨#[]⟩, false, -1, ⟨#[]⟩, []⟩ : Sq)) (p' := p2) 1 (.string t3) rfl (HS3'.out.ss.own.as rfl rfl rfl rfl rfl)
   have i2 := i1.put (s' := (⟨4, t3, [], [], [], false, os3, ⟨#[]⟩, false, -1, ⟨#[]⟩, []⟩ : Sq)) (p' := { p2 with a6 := va3, n6 := os3.length, c6 := vc3 }) 6 (.slice va3 os3.length vc3) rfl (⟨i1.ss.own.o2, i1.ss.own.o3, i1.ss.own.o4, ownsRow_setCell_below HOW.out i1.ss.ls _, i1.ss.own.o11⟩)
   rw [hv]
   exact ⟨i2, (But.set _ S 1 _).trans (But.set _ S 6 _)⟩
  have HN3 := hid (HN3'.out.trans (hx.2.toS' B E))
  have HS3 := hid hx.1
  clear hx hv HN3' HS3' HQS HPS zp zq z0 z1 sf0 sf1 HOW HN30 HS30
  obtain ⟨p3, hp⟩ : ∃ p, p = ({ p2 with a6 := va3, n6 := os3.length, c6 := vc3 } : Ps) := ⟨_, rfl⟩
  rw [← hp] at HS3
  clear hp
  obtain ⟨xp, xq⟩ := HS3.out.xs
  have hm0 := cmay HS3.out sORDER
  by_cases hmo : mayB L k3 sORDER = true
  ·rw [hmo] at hm0
   have HM := hid hm0
   clear hm0
   go_wp2_with fail
   refine HM.out.mono ?_
   rintro e w4 ⟨rfl, hN, hx⟩
   have hx : Cl w4 B S E w.heap.size (w.heap.size + 1) a n c L (k3 + 1) (⟨4, t3, [], [], [], false, os3, ⟨#[]⟩, false, -1, ⟨#[]⟩, []⟩ : Sq) p3 := hx
   have HN4 := hid (HN3.out.trans (hN.toS S E))
   have HS4 := hid hx
   clear hN hx HM xp xq
   have HR4 : Hid (r = bd (mustF L n (k3 + 1) [sBY]) fun k => bd (nameG L n k) fun x => endF L n (if mayB L x.2 sDESC = true then (x.2 + 1, x.1, true) else (x.2, x.1, false)).1 (G t3 os3 (if mayB L x.2 sDESC = true then (x.2 + 1, x.1, true) else (x.2, x.1, false)).2.1 (if mayB L x.2 sDESC = true then (x.2 + 1, x.1, true) else (x.2, x.1, false)).2.2)) := by
    show _ = _
    rw [HR3.out]
    unfold ordsF orderF
    rw [if_pos hmo]
    cases mustF L n (k3 + 1) [sBY] with
    | inl f => rfl
    | inr k0 =>
     show bd (bd (nameG L n k0) _) _ = bd (nameG L n k0) _
     cases nameG L n k0 <;> rfl
   clear hmo HR3
   obtain ⟨q5, hq5⟩ : ∃ q, q = mustF L n (k3 + 1) [sBY] := ⟨_, rfl⟩
   have HQ5 : Hid (r = bd q5 fun k => bd (nameG L n k) fun x => endF L n (if mayB L x.2 sDESC = true then (x.2 + 1, x.1, true) else (x.2, x.1, false)).1 (G t3 os3 (if mayB L x.2 sDESC = true then (x.2 + 1, x.1, true) else (x.2, x.1, false)).2.1 (if mayB L x.2 sDESC = true then (x.2 + 1, x.1, true) else (x.2, x.1, false)).2.2)) := by
    show _ = _
    rw [HR4.out, hq5]
    first | done | rfl
   have HMU5 : Hid (Calls Tryd.prog 52 #[.pointer (some ⟨B, 0, none⟩), .slice (some ⟨w4.heap.size, 0, none⟩) 1 1] (w4.alloc (.cells #[.string sBY] 9)) fun e w' => But B w4 w' ∧ match (generalizing := false) q5 with
    | .inl f => e = flt f.1 f.2
    | .inr k' => e = .returned (.tuple #[]) ∧ Cl w' B S E w.heap.size (w.heap.size + 1) a n c L k' (⟨4, t3, [], [], [], false, os3, ⟨#[]⟩, false, -1, ⟨#[]⟩, []⟩ : Sq) p3) := by
    rw [hq5]
    exact cmust HS4.out [sBY] rfl (by simp) (by simp)
   obtain ⟨xp, xq⟩ := HS4.out.xs
   clear hq5 HR4
   go_wp2_with fail
   refine HMU5.out.mono ?_
   rintro e w5 ⟨hN, h1⟩
   have HN5 := hid (HN4.out.trans (hN.toS S E))
   clear hN HMU5 xp xq
   rcases q5 with f0 | k5
   ·obtain rfl : e = flt f0.1 f0.2 := h1
    obtain rfl : r = .inl f0 := HQ5.out
    exact ⟨rfl, HN5.out, rfl⟩
   ·obtain ⟨rfl, hx⟩ := h1
    have HS5 := hid hx
    have HR5 := hid (show r = bd (nameG L n k5) fun x => endF L n (if mayB L x.2 sDESC = true then (x.2 + 1, x.1, true) else (x.2, x.1, false)).1 (G t3 os3 (if mayB L x.2 sDESC = true then (x.2 + 1, x.1, true) else (x.2, x.1, false)).2.1 (if mayB L x.2 sDESC = true then (x.2 + 1, x.1, true) else (x.2, x.1, false)).2.2) from HQ5.out)
    clear hx HQ5
    have HNA : Hid (∀ W, Below w5.heap.size w5 W → Calls Tryd.prog 53 #[.pointer (some ⟨B, 0, none⟩)] W fun e w' => But B W w' ∧ match nameG L n k5 with
     | .inl f => e = flt f.1 f.2
     | .inr (t, k') => e = .returned (.string t) ∧ Rs w' B a n c L k') := fun W hW => sname (HS5.out.ss.rs.later hW)
    obtain ⟨q6, hq6⟩ : ∃ q, q = nameG L n k5 := ⟨_, rfl⟩
    have HQ6 : Hid (r = bd q6 fun x => endF L n (if mayB L x.2 sDESC = true then (x.2 + 1, x.1, true) else (x.2, x.1, false)).1 (G t3 os3 (if mayB L x.2 sDESC = true then (x.2 + 1, x.1, true) else (x.2, x.1, false)).2.1 (if mayB L x.2 sDESC = true then (x.2 + 1, x.1, true) else (x.2, x.1, false)).2.2)) := by
     show _ = _
     rw [HR5.out, hq6]
    rw [← hq6] at HNA
    obtain ⟨xp, xq⟩ := HS5.out.xs
    have HQS : Hid (S ≠ w.heap.size + 1) := HS5.out.qs.symm
    have HPS : Hid (S ≠ w.heap.size) := HS5.out.ps.symm
    clear hq6 HR5
    go_wp2_with fail
    refine wpT_begin (S := (fun wx => wx.cell? ⟨w.heap.size + 1, 0, none⟩ = some (.pointer (some ⟨S, 0, none⟩)) ∧ wx.cell? ⟨w.heap.size, 0, none⟩ = some (.pointer (some ⟨B, 0, none⟩)))) [5] (by kernel_rfl) ?_ (fun gH => ?_)
    ·(try dsimp only)
     (first | (with_reducible exact ⟨cell_dr xq, cell_dr xp⟩) | (exact ⟨yq, yp⟩))
    refine qT 0 _ ?_ rfl (.inl ⟨by rfl, ?_⟩) (by assumption) ?_
    rotate_left
    ·(intro w hSw; (try dsimp only at hSw); go_simp)
     all_goals (with_reducible rfl)
    (try simp only [qs, Act.put])
    refine qT 1 _ ?_ rfl (.inl ⟨by rfl, ?_⟩) (by assumption) ?_
    rotate_left
    ·(intro w hSw; (try dsimp only at hSw); go_simp)
     all_goals (with_reducible rfl)
    (try simp only [qs, Act.put])
    refine wpAnyT_ready (rs := [2]) (by kernel_rfl) (by simp) ?_
    refine AllReadyT.cons rfl (fun K hK => ?_) AllReadyT.nil
    go_simp
    (go_at_call 53; ((refine (HNA.out _ (Below.refl _ _).drew).mono ?_); rintro e u6 ⟨hN3, h3⟩; have HN6' := hid (HN5.out.trans (((But.of (Below.refl _ _).drew).trans hN3).toS S E)); rcases q6 with f0 | ⟨t6, k6⟩; (focus (obtain rfl : e = flt f0.1 f0.2 := h3; obtain rfl : r = .inl f0 := HQ6.out; exact ⟨rfl, HN6'.out, rfl⟩)); obtain ⟨rfl, hs3⟩ := h3; have hx3 := (HS5.out.later (Below.refl _ _).drew).go hN3 hs3; have HS6' := hid hx3; obtain ⟨yp, yq⟩ := hx3.xs; have z0 : u6.cell? ⟨S, 7, none⟩ = some (.string ⟨#[]⟩) := (hx3.ss.x 7 (by omega)).1; have sf0 := (hx3.ss.x 7 (by omega)).2; have HR6 := hid (show r = endF L n (if mayB L k6 sDESC = true then (k6 + 1, t6, true) else (k6, t6, false)).1 (G t3 os3 (if mayB L k6 sDESC = true then (k6 + 1, t6, true) else (k6, t6, false)).2.1 (if mayB L k6 sDESC = true then (k6 + 1, t6, true) else (k6, t6, false)).2.2) from HQ6.out); clear hN3 hs3 hx3 HNA HQ6 xp xq))
    go_wp2_with fail
    refine hK.out _ _ (fun _ => ?_) (fun gH0 => ?_)
    ·(try dsimp only)
     (first | (with_reducible exact ⟨cell_dr xq, cell_dr xp⟩) | (exact ⟨yq, yp⟩))
    have gH := gH0 (by kernel_rfl)
    clear hK K gH0
    (try simp only [qs, Act.put])
    refine qP 3 _ ?_ rfl (.inl ⟨by rfl, ?_⟩) (fun _ => by assumption) ?_
    rotate_left
    ·(intro w hSw; go_simp)
     all_goals (with_reducible rfl)
    (try simp only [qs, Act.put])
    refine qP 4 _ ?_ rfl (.inl ⟨by rfl, ?_⟩) (fun _ => by assumption) ?_
    rotate_left
    ·(intro w hSw; go_simp)
     all_goals (with_reducible rfl)
    (try simp only [qs, Act.put])
    refine wpAnyT_ready (rs := [5]) (by kernel_rfl) (by simp) ?_
    refine AllReadyT.cons rfl (fun K hK => ?_) AllReadyT.nil
    go_simp
    refine hK.out _ _ (noneB_off (by kernel_rfl)) (fun _ => ?_)
    clear hK K
    (try simp only [qs, Act.put])
    refine wpAnyT_done (by kernel_rfl) ?_ _
    refine exthen_nm (fun w6 hv => ?_)
    have hx : Cl w6 B S E w.heap.size (w.heap.size + 1) a n c L k6 (⟨4, t3, [], [], [], false, os3, t6, false, -1, ⟨#[]⟩, []⟩ : Sq) p3 ∧ But S u6 w6 := by
     have i1 := HS6'.out.put (s' := (⟨4, t3, [], [], [], false, os3, t6, false, -1, ⟨#[]⟩, []⟩ : Sq)) (p' := p3) 7 (.string t6) rfl (HS6'.out.ss.own.as rfl rfl rfl rfl rfl)
     rw [hv]
     exact ⟨i1, But.set _ S 7 _⟩
    have HN6 := hid (HN6'.out.trans (hx.2.toS' B E))
    have HS6 := hid hx.1
    clear hx hv HN6' HS6' HQS HPS yp yq z0 sf0
    have HNA : Hid (∀ W, Below w6.heap.size w6 W → Calls Tryd.prog 50 #[.pointer (some ⟨B, 0, none⟩), .string sDESC] W fun e w' => e = .returned (.bool (mayB L k6 sDESC)) ∧ But B W w' ∧ Cl w' B S E w.heap.size (w.heap.size + 1) a n c L (if mayB L k6 sDESC = true then k6 + 1 else k6) (⟨4, t3, [], [], [], false, os3, t6, false, -1, ⟨#[]⟩, []⟩ : Sq) p3) := fun W hW => by
     refine (cmay (HS6.out.later hW) sDESC).mono ?_
     rintro e w' ⟨rfl, h1, h2⟩
     exact ⟨rfl, h1, h2⟩
    obtain ⟨dn, hdn⟩ : ∃ dn, dn = mayB L k6 sDESC := ⟨_, rfl⟩
    obtain ⟨k7, hk7⟩ : ∃ x, x = if dn = true then k6 + 1 else k6 := ⟨_, rfl⟩
    rw [← hdn, ← hk7] at HNA
    have HR7 : Hid (r = endF L n k7 (G t3 os3 t6 dn)) := by
     show _ = _
     rw [HR6.out, ← hdn, hk7]
     cases dn <;> rfl
    obtain ⟨xp, xq⟩ := HS6.out.xs
    have HQS : Hid (S ≠ w.heap.size + 1) := HS6.out.qs.symm
    have HPS : Hid (S ≠ w.heap.size) := HS6.out.ps.symm
    clear hdn hk7 HR6
    go_wp2_with fail
    refine wpT_begin (S := (fun wx => wx.cell? ⟨w.heap.size + 1, 0, none⟩ = some (.pointer (some ⟨S, 0, none⟩)) ∧ wx.cell? ⟨w.heap.size, 0, none⟩ = some (.pointer (some ⟨B, 0, none⟩)))) [5] (by kernel_rfl) ?_ (fun gH => ?_)
    ·(try dsimp only)
     (first | (with_reducible exact ⟨cell_dr xq, cell_dr xp⟩) | (exact ⟨yq, yp⟩))
    refine qT 0 _ ?_ rfl (.inl ⟨by rfl, ?_⟩) (by assumption) ?_
    rotate_left
    ·(intro w hSw; (try dsimp only at hSw); go_simp)
     all_goals (with_reducible rfl)
    (try simp only [qs, Act.put])
    refine qT 1 _ ?_ rfl (.inl ⟨by rfl, ?_⟩) (by assumption) ?_
    rotate_left
    ·(intro w hSw; (try dsimp only at hSw); go_simp)
     all_goals (with_reducible rfl)
    (try simp only [qs, Act.put])
    refine wpAnyT_ready (rs := [2]) (by kernel_rfl) (by simp) ?_
    refine AllReadyT.cons rfl (fun K hK => ?_) AllReadyT.nil
    go_simp
    (go_at_call 50; ((refine (HNA.out _ (Below.refl _ _).drew).mono ?_); rintro e u7 ⟨rfl, hN3, hx3⟩; have HN7' := hid (HN6.out.trans (((But.of (Below.refl _ _).drew).trans hN3).toS S E)); have HS7' := hid hx3; obtain ⟨yp, yq⟩ := hx3.xs; have z0 : u7.cell? ⟨S, 8, none⟩ = some (.bool false) := (hx3.ss.x 8 (by omega)).1; have sf0 := (hx3.ss.x 8 (by omega)).2; clear hN3 hx3 HNA xp xq))
    go_wp2_with fail
    refine hK.out _ _ (fun _ => ?_) (fun gH0 => ?_)
    ·(try dsimp only)
     (first | (with_reducible exact ⟨cell_dr xq, cell_dr xp⟩) | (exact ⟨yq, yp⟩))
    have gH := gH0 (by kernel_rfl)
    clear hK K gH0
    (try simp only [qs, Act.put])
    refine qP 3 _ ?_ rfl (.inl ⟨by rfl, ?_⟩) (fun _ => by assumption) ?_
    rotate_left
    ·(intro w hSw; go_simp)
     all_goals (with_reducible rfl)
    (try simp only [qs, Act.put])
    refine qP 4 _ ?_ rfl (.inl ⟨by rfl, ?_⟩) (fun _ => by assumption) ?_
    rotate_left
    ·(intro w hSw; go_simp)
     all_goals (with_reducible rfl)
    (try simp only [qs, Act.put])
    refine wpAnyT_ready (rs := [5]) (by kernel_rfl) (by simp) ?_
    refine AllReadyT.cons rfl (fun K hK => ?_) AllReadyT.nil
    go_simp
    refine hK.out _ _ (noneB_off (by kernel_rfl)) (fun _ => ?_)
    clear hK K
    (try simp only [qs, Act.put])
    refine wpAnyT_done (by kernel_rfl) ?_ _
    refine exthen_nm (fun w7 hv => ?_)
    have hx : Cl w7 B S E w.heap.size (w.heap.size + 1) a n c L k7 (⟨4, t3, [], [], [], false, os3, t6, dn, -1, ⟨#[]⟩, []⟩ : Sq) p3 ∧ But S u7 w7 := by
     have i1 := HS7'.out.put (s' := (⟨4, t3, [], [], [], false, os3, t6, dn, -1, ⟨#[]⟩, []⟩ : Sq)) (p' := p3) 8 (.bool dn) rfl (HS7'.out.ss.own.as rfl rfl rfl rfl rfl)
     rw [hv]
     exact ⟨i1, But.set _ S 8 _⟩
    have HN7 := hid (HN7'.out.trans (hx.2.toS' B E))
    have HS7 := hid hx.1
    clear hx hv HN7' HS7' HQS HPS yp yq z0 sf0
    obtain ⟨xp, xq⟩ := HS7.out.xs
    have hm0 := cmay HS7.out sLIMIT
    by_cases hml : mayB L k7 sLIMIT = true
    ·rw [hml] at hm0
     have HM := hid hm0
     clear hm0
     go_wp2_with fail
     refine HM.out.mono ?_
     rintro e w8 ⟨rfl, hN, hx⟩
     have hx : Cl w8 B S E w.heap.size (w.heap.size + 1) a n c L (k7 + 1) (⟨4, t3, [], [], [], false, os3, t6, dn, -1, ⟨#[]⟩, []⟩ : Sq) p3 := hx
     have HN8 := hid (HN7.out.trans (hN.toS S E))
     have HS8 := hid hx
     clear hN hx HM xp xq
     have HR8 : Hid (r = bd (numG L n (k7 + 1)) fun x => (.inr (x.2, (G t3 os3 t6 dn) x.1) : F ⊕ (Nat × Sq))) := by
      show _ = _
      rw [HR7.out]
      unfold endF limitF
      rw [if_pos hml]
      cases numG L n (k7 + 1) <;> rfl
     clear hml HR7
     have HNA : Hid (∀ W, Below w8.heap.size w8 W → Calls Tryd.prog 80 #[.pointer (some ⟨B, 0, none⟩)] W fun e w' => But B W w' ∧ match numG L n (k7 + 1) with
      | .inl f => e = flt f.1 f.2
      | .inr (t, k') => e = .returned (.int .i64 t) ∧ Rs w' B a n c L k') := fun W hW => snum (HS8.out.ss.rs.later hW)
     obtain ⟨q9, hq9⟩ : ∃ q, q = numG L n (k7 + 1) := ⟨_, rfl⟩
     have HQ9 : Hid (r = bd q9 fun x => (.inr (x.2, (G t3 os3 t6 dn) x.1) : F ⊕ (Nat × Sq))) := by
      show _ = _
      rw [HR8.out, hq9]
     rw [← hq9] at HNA
     obtain ⟨xp, xq⟩ := HS8.out.xs
     have HQS : Hid (S ≠ w.heap.size + 1) := HS8.out.qs.symm
     have HPS : Hid (S ≠ w.heap.size) := HS8.out.ps.symm
     clear hq9 HR8
     go_wp2_with fail
     refine wpT_begin (S := (fun wx => wx.cell? ⟨w.heap.size + 1, 0, none⟩ = some (.pointer (some ⟨S, 0, none⟩)) ∧ wx.cell? ⟨w.heap.size, 0, none⟩ = some (.pointer (some ⟨B, 0, none⟩)))) [5] (by kernel_rfl) ?_ (fun gH => ?_)
     ·(try dsimp only)
      (first | (with_reducible exact ⟨cell_dr xq, cell_dr xp⟩) | (exact ⟨yq, yp⟩))
     refine qT 0 _ ?_ rfl (.inl ⟨by rfl, ?_⟩) (by assumption) ?_
     rotate_left
     ·(intro w hSw; (try dsimp only at hSw); go_simp)
      all_goals (with_reducible rfl)
     (try simp only [qs, Act.put])
     refine qT 1 _ ?_ rfl (.inl ⟨by rfl, ?_⟩) (by assumption) ?_
     rotate_left
     ·(intro w hSw; (try dsimp only at hSw); go_simp)
      all_goals (with_reducible rfl)
     (try simp only [qs, Act.put])
     refine wpAnyT_ready (rs := [2]) (by kernel_rfl) (by simp) ?_
     refine AllReadyT.cons rfl (fun K hK => ?_) AllReadyT.nil
     go_simp
     (go_at_call 80; ((refine (HNA.out _ (Below.refl _ _).drew).mono ?_); rintro e u9 ⟨hN3, h3⟩; have HN9' := hid (HN8.out.trans (((But.of (Below.refl _ _).drew).trans hN3).toS S E)); rcases q9 with f0 | ⟨t9, k9⟩; (focus (obtain rfl : e = flt f0.1 f0.2 := h3; obtain rfl : r = .inl f0 := HQ9.out; exact ⟨rfl, HN9'.out, rfl⟩)); obtain ⟨rfl, hs3⟩ := h3; have hx3 := (HS8.out.later (Below.refl _ _).drew).go hN3 hs3; have HS9' := hid hx3; obtain ⟨yp, yq⟩ := hx3.xs; have z0 : u9.cell? ⟨S, 9, none⟩ = some (.int .i64 (-1)) := (hx3.ss.x 9 (by omega)).1; have sf0 := (hx3.ss.x 9 (by omega)).2; have HR9 := hid (show r = (.inr (k9, (G t3 os3 t6 dn) t9) : F ⊕ (Nat × Sq)) from HQ9.out); clear hN3 hs3 hx3 HNA HQ9 xp xq))
     go_wp2_with fail
     refine hK.out _ _ (fun _ => ?_) (fun gH0 => ?_)
     ·(try dsimp only)
      (first | (with_reducible exact ⟨cell_dr xq, cell_dr xp⟩) | (exact ⟨yq, yp⟩))
     have gH := gH0 (by kernel_rfl)
     clear hK K gH0
     (try simp only [qs, Act.put])
     refine qP 3 _ ?_ rfl (.inl ⟨by rfl, ?_⟩) (fun _ => by assumption) ?_
     rotate_left
     ·(intro w hSw; go_simp)
      all_goals (with_reducible rfl)
     (try simp only [qs, Act.put])
     refine qP 4 _ ?_ rfl (.inl ⟨by rfl, ?_⟩) (fun _ => by assumption) ?_
     rotate_left
     ·(intro w hSw; go_simp)
      all_goals (with_reducible rfl)
     (try simp only [qs, Act.put])
     refine wpAnyT_ready (rs := [5]) (by kernel_rfl) (by simp) ?_
     refine AllReadyT.cons rfl (fun K hK => ?_) AllReadyT.nil
     go_simp
     refine hK.out _ _ (noneB_off (by kernel_rfl)) (fun _ => ?_)
     clear hK K
     (try simp only [qs, Act.put])
     refine wpAnyT_done (by kernel_rfl) ?_ _
     refine body_nm (fun w9 hv => ?_)
     have hx : Cl w9 B S E w.heap.size (w.heap.size + 1) a n c L k9 (⟨4, t3, [], [], [], false, os3, t6, dn, t9, ⟨#[]⟩, []⟩ : Sq) p3 ∧ But S u9 w9 := by
      have i1 := HS9'.out.put (s' := (⟨4, t3, [], [], [], false, os3, t6, dn, t9, ⟨#[]⟩, []⟩ : Sq)) (p' := p3) 9 (.int .i64 t9) rfl (HS9'.out.ss.own.as rfl rfl rfl rfl rfl)
      rw [hv]
      exact ⟨i1, But.set _ S 9 _⟩
     have HN9 := hid (HN9'.out.trans (hx.2.toS' B E))
     have HS9 := hid hx.1
     clear hx hv HN9' HS9' HQS HPS yp yq z0 sf0
     obtain rfl : r = .inr (k9, (G t3 os3 t6 dn) t9) := HR9.out
     go_wp2_with fail
     go_returns
     refine ⟨HN9.out, rfl, p3, ?_⟩
     rw [HG.out]
     exact HS9.out.ss
    ·have hml : mayB L k7 sLIMIT = false := by simpa using hml
     rw [hml] at hm0
     have HM := hid hm0
     clear hm0
     go_wp2_with fail
     refine HM.out.mono ?_
     rintro e w8 ⟨rfl, hN, hx⟩
     have hx : Cl w8 B S E w.heap.size (w.heap.size + 1) a n c L k7 (⟨4, t3, [], [], [], false, os3, t6, dn, -1, ⟨#[]⟩, []⟩ : Sq) p3 := hx
     have HN8 := hid (HN7.out.trans (hN.toS S E))
     have HS8 := hid hx
     clear hN hx HM xp xq
     obtain rfl : r = .inr (k7, (G t3 os3 t6 dn) (-1)) := by
      rw [HR7.out]
      unfold endF limitF
      rw [if_neg (by simp [hml])]
      rfl
     go_wp2_with fail
     go_returns
     refine ⟨HN8.out, rfl, p3, ?_⟩
     rw [HG.out]
     exact HS8.out.ss
  ·have hmo : mayB L k3 sORDER = false := by simpa using hmo
   rw [hmo] at hm0
   have HM := hid hm0
   clear hm0
   go_wp2_with fail
   refine HM.out.mono ?_
   rintro e w4 ⟨rfl, hN, hx⟩
   have hx : Cl w4 B S E w.heap.size (w.heap.size + 1) a n c L k3 (⟨4, t3, [], [], [], false, os3, ⟨#[]⟩, false, -1, ⟨#[]⟩, []⟩ : Sq) p3 := hx
   have HN4 := hid (HN3.out.trans (hN.toS S E))
   have HS4 := hid hx
   clear hN hx HM xp xq
   have HR4 : Hid (r = endF L n k3 (G t3 os3 ⟨#[]⟩ false)) := by
    show _ = _
    rw [HR3.out]
    unfold ordsF orderF
    rw [if_neg (by simp [hmo])]
    rfl
   clear hmo HR3
   obtain ⟨xp, xq⟩ := HS4.out.xs
   have hm0 := cmay HS4.out sLIMIT
   by_cases hml : mayB L k3 sLIMIT = true
   ·rw [hml] at hm0
    have HM := hid hm0
    clear hm0
    go_wp2_with fail
    refine HM.out.mono ?_
    rintro e w5 ⟨rfl, hN, hx⟩
    have hx : Cl w5 B S E w.heap.size (w.heap.size + 1) a n c L (k3 + 1) (⟨4, t3, [], [], [], false, os3, ⟨#[]⟩, false, -1, ⟨#[]⟩, []⟩ : Sq) p3 := hx
    have HN5 := hid (HN4.out.trans (hN.toS S E))
    have HS5 := hid hx
    clear hN hx HM xp xq
    have HR5 : Hid (r = bd (numG L n (k3 + 1)) fun x => (.inr (x.2, (G t3 os3 ⟨#[]⟩ false) x.1) : F ⊕ (Nat × Sq))) := by
     show _ = _
     rw [HR4.out]
     unfold endF limitF
     rw [if_pos hml]
     cases numG L n (k3 + 1) <;> rfl
    clear hml HR4
    have HNA : Hid (∀ W, Below w5.heap.size w5 W → Calls Tryd.prog 80 #[.pointer (some ⟨B, 0, none⟩)] W fun e w' => But B W w' ∧ match numG L n (k3 + 1) with
     | .inl f => e = flt f.1 f.2
     | .inr (t, k') => e = .returned (.int .i64 t) ∧ Rs w' B a n c L k') := fun W hW => snum (HS5.out.ss.rs.later hW)
    obtain ⟨q6, hq6⟩ : ∃ q, q = numG L n (k3 + 1) := ⟨_, rfl⟩
    have HQ6 : Hid (r = bd q6 fun x => (.inr (x.2, (G t3 os3 ⟨#[]⟩ false) x.1) : F ⊕ (Nat × Sq))) := by
     show _ = _
     rw [HR5.out, hq6]
    rw [← hq6] at HNA
    obtain ⟨xp, xq⟩ := HS5.out.xs
    have HQS : Hid (S ≠ w.heap.size + 1) := HS5.out.qs.symm
    have HPS : Hid (S ≠ w.heap.size) := HS5.out.ps.symm
    clear hq6 HR5
    go_wp2_with fail
    refine wpT_begin (S := (fun wx => wx.cell? ⟨w.heap.size + 1, 0, none⟩ = some (.pointer (some ⟨S, 0, none⟩)) ∧ wx.cell? ⟨w.heap.size, 0, none⟩ = some (.pointer (some ⟨B, 0, none⟩)))) [5] (by kernel_rfl) ?_ (fun gH => ?_)
    ·(try dsimp only)
     (first | (with_reducible exact ⟨cell_dr xq, cell_dr xp⟩) | (exact ⟨yq, yp⟩))
    refine qT 0 _ ?_ rfl (.inl ⟨by rfl, ?_⟩) (by assumption) ?_
    rotate_left
    ·(intro w hSw; (try dsimp only at hSw); go_simp)
     all_goals (with_reducible rfl)
    (try simp only [qs, Act.put])
    refine qT 1 _ ?_ rfl (.inl ⟨by rfl, ?_⟩) (by assumption) ?_
    rotate_left
    ·(intro w hSw; (try dsimp only at hSw); go_simp)
     all_goals (with_reducible rfl)
    (try simp only [qs, Act.put])
    refine wpAnyT_ready (rs := [2]) (by kernel_rfl) (by simp) ?_
    refine AllReadyT.cons rfl (fun K hK => ?_) AllReadyT.nil
    go_simp
    (go_at_call 80; ((refine (HNA.out _ (Below.refl _ _).drew).mono ?_); rintro e u6 ⟨hN3, h3⟩; have HN6' := hid (HN5.out.trans (((But.of (Below.refl _ _).drew).trans hN3).toS S E)); rcases q6 with f0 | ⟨t6, k6⟩; (focus (obtain rfl : e = flt f0.1 f0.2 := h3; obtain rfl : r = .inl f0 := HQ6.out; exact ⟨rfl, HN6'.out, rfl⟩)); obtain ⟨rfl, hs3⟩ := h3; have hx3 := (HS5.out.later (Below.refl _ _).drew).go hN3 hs3; have HS6' := hid hx3; obtain ⟨yp, yq⟩ := hx3.xs; have z0 : u6.cell? ⟨S, 9, none⟩ = some (.int .i64 (-1)) := (hx3.ss.x 9 (by omega)).1; have sf0 := (hx3.ss.x 9 (by omega)).2; have HR6 := hid (show r = (.inr (k6, (G t3 os3 ⟨#[]⟩ false) t6) : F ⊕ (Nat × Sq)) from HQ6.out); clear hN3 hs3 hx3 HNA HQ6 xp xq))
    go_wp2_with fail
    refine hK.out _ _ (fun _ => ?_) (fun gH0 => ?_)
    ·(try dsimp only)
     (first | (with_reducible exact ⟨cell_dr xq, cell_dr xp⟩) | (exact ⟨yq, yp⟩))
    have gH := gH0 (by kernel_rfl)
    clear hK K gH0
    (try simp only [qs, Act.put])
    refine qP 3 _ ?_ rfl (.inl ⟨by rfl, ?_⟩) (fun _ => by assumption) ?_
    rotate_left
    ·(intro w hSw; go_simp)
     all_goals (with_reducible rfl)
    (try simp only [qs, Act.put])
    refine qP 4 _ ?_ rfl (.inl ⟨by rfl, ?_⟩) (fun _ => by assumption) ?_
    rotate_left
    ·(intro w hSw; go_simp)
     all_goals (with_reducible rfl)
    (try simp only [qs, Act.put])
    refine wpAnyT_ready (rs := [5]) (by kernel_rfl) (by simp) ?_
    refine AllReadyT.cons rfl (fun K hK => ?_) AllReadyT.nil
    go_simp
    refine hK.out _ _ (noneB_off (by kernel_rfl)) (fun _ => ?_)
    clear hK K
    (try simp only [qs, Act.put])
    refine wpAnyT_done (by kernel_rfl) ?_ _
    refine body_nm (fun w6 hv => ?_)
    have hx : Cl w6 B S E w.heap.size (w.heap.size + 1) a n c L k6 (⟨4, t3, [], [], [], false, os3, ⟨#[]⟩, false, t6, ⟨#[]⟩, []⟩ : Sq) p3 ∧ But S u6 w6 := by
     have i1 := HS6'.out.put (s' := (⟨4, t3, [], [], [], false, os3, ⟨#[]⟩, false, t6, ⟨#[]⟩, []⟩ : Sq)) (p' := p3) 9 (.int .i64 t6) rfl (HS6'.out.ss.own.as rfl rfl rfl rfl rfl)
     rw [hv]
     exact ⟨i1, But.set _ S 9 _⟩
    have HN6 := hid (HN6'.out.trans (hx.2.toS' B E))
    have HS6 := hid hx.1
    clear hx hv HN6' HS6' HQS HPS yp yq z0 sf0
    obtain rfl : r = .inr (k6, (G t3 os3 ⟨#[]⟩ false) t6) := HR6.out
    go_wp2_with fail
    go_returns
    refine ⟨HN6.out, rfl, p3, ?_⟩
    rw [HG.out]
    exact HS6.out.ss
   ·have hml : mayB L k3 sLIMIT = false := by simpa using hml
    rw [hml] at hm0
    have HM := hid hm0
    clear hm0
    go_wp2_with fail
    refine HM.out.mono ?_
    rintro e w5 ⟨rfl, hN, hx⟩
    have hx : Cl w5 B S E w.heap.size (w.heap.size + 1) a n c L k3 (⟨4, t3, [], [], [], false, os3, ⟨#[]⟩, false, -1, ⟨#[]⟩, []⟩ : Sq) p3 := hx
    have HN5 := hid (HN4.out.trans (hN.toS S E))
    have HS5 := hid hx
    clear hN hx HM xp xq
    obtain rfl : r = .inr (k3, (G t3 os3 ⟨#[]⟩ false) (-1)) := by
     rw [HR4.out]
     unfold endF limitF
     rw [if_neg (by simp [hml])]
     rfl
    go_wp2_with fail
    go_returns
    refine ⟨HN5.out, rfl, p3, ?_⟩
    rw [HG.out]
    exact HS5.out.ss
end
end Go.Proofs.YtdeollmeljaaoaaDoor.rd
