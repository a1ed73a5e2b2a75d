import Derived.Test.YtdeollmeljaaoaaDoorAkk
import Derived.Test.YtdeollmeljaaoaaDoorQbk
set_option linter.unusedVariables false
set_option linter.unusedSimpArgs false
set_option maxHeartbeats 4000000
set_option maxRecDepth 100000
open Go.ChangeAt Go.ChangeShapes Go.RowKit Go.WideShapes
open Go.Lib (hid)
namespace Go.Proofs.YtdeollmeljaaoaaDoor.rd
open Go.Proofs.YtdeollmeljaaoaaDoor.cs
section
variable {B S E P Q : Nat} {a : Option Addr} {n c : Nat} {L : List Tk}
theorem grown_butS {w w7 : World} {row : Option Nat} (hg : w.grownBy w7 row) (hrow : ∀ g, row = some g → E ≤ g ∧ ∃ cs T fr, Grows T ∧ w.heap[g]? = some (.cells cs T fr)) : ButS B S E w w7 :=
 ⟨hg.os, hg.tape, hg.output, hg.size, fun j hj hn hs ht => hg.block j hj (fun e => by
  obtain ⟨h1, cs, T, fr, h2, h3⟩ := hrow j e.symm
  rcases ht with h4 | h4
  ·omega
  ·exact h4 _ _ _ h2 h3)⟩
theorem row_hrow {w : World} {T : TypeId} {sz m : Nat} {v : Value} {xs : List Value} (hT : Grows T) (ho : w.ownsRow E T sz v m xs) : ∀ g, v.ownBlock = some g → E ≤ g ∧ ∃ cs T fr, Grows T ∧ w.heap[g]? = some (.cells cs T fr) := fun g hg => by
 obtain ⟨h1, cs, fr, h2⟩ := own_ty ho g hg
 exact ⟨h1, cs, T, fr, hT, h2⟩
theorem Cl.xs {w : World} {k : Nat} {s : Sq} {p : Ps} (h : Cl w B S E P Q a n c L k s p) : w.cell? ⟨P, 0, none⟩ = some (.pointer (some ⟨B, 0, none⟩)) ∧ w.cell? ⟨Q, 0, none⟩ = some (.pointer (some ⟨S, 0, none⟩)) := ⟨bx1 h.bp, bx1 h.bq⟩
theorem own_rows {w w' : World} {E e s n : Nat} {v : Value} {xs : List Value} {row : Option Nat} (h : w.ownsRow E e s v n xs) (hg : w.grownBy w' row) (hne : ∀ g, v.ownBlock = some g → some g ≠ row) : w'.ownsRow E e s v n xs :=
 own_far h fun g hv => hg.block g (h.lt g hv).2 (hne g hv)
theorem ty_ne {w : World} {E T T' s s' m m' : Nat} {v v' : Value} {xs xs' : List Value} (h : w.ownsRow E T s v m xs) (h' : w.ownsRow E T' s' v' m' xs') (hT : T ≠ T') : ∀ g, v.ownBlock = some g → some g ≠ v'.ownBlock := fun g hv e => by
 obtain ⟨_, cs, fr, h2⟩ := own_ty h g hv
 obtain ⟨_, cs', fr', h2'⟩ := own_ty h' g e.symm
 rw [h2] at h2'
 simp only [Option.some.injEq, Obj.cells.injEq] at h2'
 exact hT h2'.2.1
theorem own_not {w : World} {k : Nat} {s : Sq} {p : Ps} (h : Cl w B S E P Q a n c L k s p) {X : Nat} {cs : Array Value} {T : TypeId} {fr : Nat × Nat} (hb : w.heap[X]? = some (.cells cs T fr)) (hT : ¬ Grows T) : some X ≠ (Value.slice p.a2 p.n2 p.c2).ownBlock ∧ some X ≠ (Value.slice p.a3 p.n3 p.c3).ownBlock ∧ some X ≠ (Value.slice p.a4 p.n4 p.c4).ownBlock := by
 have key : ∀ {T' sz m : Nat} {v : Value} {xs : List Value}, Grows T' → w.ownsRow E T' sz v m xs → some X ≠ v.ownBlock := fun hT' ho e => by
  obtain ⟨_, cs', fr', h2⟩ := own_ty ho X e.symm
  rw [hb] at h2
  simp only [Option.some.injEq, Obj.cells.injEq] at h2
  exact hT (h2.2.1 ▸ hT')
 exact ⟨key (by unfold Grows; decide) h.ss.own.o2, key (by unfold Grows; decide) h.ss.own.o3, key (by unfold Grows; decide) h.ss.own.o4⟩
theorem grown_froz {w w' : World} {o : Obj} {row : Option Nat} {X i : Nat} (hg : (w.alloc o).grownBy w' row) (hf : w.frozen? ⟨X, i, none⟩ = false) (hne : some X ≠ row) (hl : X < w.heap.size) : w'.frozen? ⟨X, i, none⟩ = false := by
 unfold World.frozen? at hf ⊢
 rw [hg.block X (by simp; omega) hne, Below.heap_alloc _ _ _ hl]
 exact hf
theorem colth_any {w : World} {k : Nat} {s : Sq} {p : Ps} (h : Cl w B S E P Q a n c L k s p) (hl : s.cols.length ≤ k) :
  Calls Tryd.prog 74 #[.pointer (some ⟨P, 0, none⟩), .pointer (some ⟨Q, 0, none⟩)] w fun e w' => ButS B S E w w' ∧ match colF L n k s.cols with
   | .inl f => e = flt f.1 f.2
   | .inr (k', l') => e = .returned (.tuple #[]) ∧ l'.length ≤ k' ∧ ∃ p', Cl w' B S E P Q a n c L k' { s with cols := l' } p' := by
 have HNA := sname h.ss.rs
 have hkn := h.ss.rs.kn
 obtain ⟨xp, xq⟩ := h.xs
 obtain ⟨r, hr⟩ : ∃ r, r = colF L n k s.cols := ⟨_, rfl⟩
 rw [← hr]
 obtain ⟨r1, hr1⟩ : ∃ r1, r1 = nameG L n k := ⟨_, rfl⟩
 have HUP : Hid (∀ t k', r1 = .inr (t, k') → k' = k + 1) := fun t k' e => name_up (by rw [← hr1]; exact e)
 have HR : Hid (r = bd r1 fun x => if hasC s.cols x.1 then .inl ((x.2 : Int) - 1, 9) else bd (kindG L n x.2) fun y => .inr (y.2, s.cols ++ [⟨x.1, y.1⟩])) := by
  show _ = _
  rw [hr, hr1]
  rfl
 rw [← hr1] at HNA
 have HNA := hid HNA
 have HS := hid h
 clear hr hr1 h
 go_enter Tryd.func74, Tryd.ntmps74
 go_wp2_with fail
 refine HNA.out.mono ?_
 rintro e w1 ⟨hN1, h1⟩
 have HN1 := hid hN1
 clear xp xq HNA
 rcases r1 with f0 | ⟨t1, k1⟩
 ·obtain rfl : e = flt f0.1 f0.2 := h1
  obtain rfl : r = .inl f0 := HR.out
  exact ⟨rfl, HN1.out.toS S E, rfl⟩
 ·obtain ⟨rfl, hs1⟩ := h1
  obtain rfl : k1 = k + 1 := HUP.out t1 k1 rfl
  have hx1 := HS.out.go hN1 hs1
  obtain ⟨xp, xq⟩ := hx1.xs
  have x2 : w1.cell? ⟨S, 2, none⟩ = some (.slice p.a2 p.n2 p.c2) := (hx1.ss.x 2 (by omega)).1
  have HS1 := hid hx1
  have HHC := hasColumn_any w1 p.n2 _ s.cols t1 (Rd.own hx1.ss.own.o2)
  obtain ⟨hc, hhc⟩ : ∃ hc, hc = hasC s.cols t1 := ⟨_, rfl⟩
  have HR1 : Hid (r = if hc then .inl (((k + 1 : Nat) : Int) - 1, 9) else bd (kindG L n (k + 1)) fun y => .inr (y.2, s.cols ++ [⟨t1, y.1⟩])) := by
   show _ = _
   rw [HR.out, hhc]
   rfl
  rw [← hhc] at HHC
  have HHC := hid HHC
  clear hhc hN1 hs1 hx1 HUP HR HS
  go_wp2_with fail
  refine HHC.out.mono ?_
  rintro e w2 ⟨rfl, hb2⟩
  have hx2 := HS1.out.later hb2
  have HN2 := hid (HN1.out.trans (But.of hb2))
  obtain ⟨xp, xq⟩ := hx2.xs
  have x2 : w2.cell? ⟨S, 2, none⟩ = some (.slice p.a2 p.n2 p.c2) := (hx2.ss.x 2 (by omega)).1
  have HS2 := hid hx2
  clear hb2 HHC HS1 HN1
  cases hc with
  | true =>
   have HG := hid (sback hx2.ss.rs 9)
   obtain rfl : r = .inl (((k + 1 : Nat) : Int) - 1, 9) := HR1.out
   clear hx2
   go_wp2_with fail
   refine HG.out.mono ?_
   rintro e w3 ⟨rfl, hN3⟩
   exact ⟨rfl, (HN2.out.trans hN3).toS S E, rfl⟩
  | false =>
   have HKI : Hid (∀ W, Below w2.heap.size w2 W → Calls Tryd.prog 76 #[.pointer (some ⟨B, 0, none⟩)] W fun e w' => But B W w' ∧ match kindG L n (k + 1) with
    | .inl f => e = flt f.1 f.2
    | .inr (q, k') => e = .returned (.int .i64 (q : Int)) ∧ Rs w' B a n c L k') := fun W hW => skind (HS2.out.ss.rs.later hW)
   obtain ⟨r3, hr3⟩ : ∃ r3, r3 = kindG L n (k + 1) := ⟨_, rfl⟩
   have HR3 : Hid (r = bd r3 fun y => .inr (y.2, s.cols ++ [⟨t1, y.1⟩])) := by
    show _ = _
    rw [HR1.out, hr3]
    rfl
   have HUK : Hid (∀ q k', r3 = .inr (q, k') → k + 1 ≤ k') := fun q k' e => by
    rw [hr3] at e
    unfold kindG at e
    split at e
    ·cases e; omega
    ·cases e
   rw [← hr3] at HKI
   obtain ⟨i0, hi0, hz0, hz1, hz2⟩ := info_parts info_col
   have hn2 : p.n2 ≤ 100 := by
    have e1 := len_c (Rd.own hx2.ss.own.o2)
    have e2 := hx2.ss.rs.kn
    obtain ⟨⟨ov, hr⟩, _⟩ := hx2.ss.rs
    have e3 := hr.sm
    omega
   clear hr3 hx2 HR1
   go_wp2_with fail
   refine wpT_begin (S := (fun wx => wx.cell? ⟨Q, 0, none⟩ = some (.pointer (some ⟨S, 0, none⟩)) ∧ wx.cell? ⟨P, 0, none⟩ = some (.pointer (some ⟨B, 0, none⟩)) ∧ wx.cell? ⟨S, 2, none⟩ = some (.slice p.a2 p.n2 p.c2))) [13] (by kernel_rfl) ?_ (fun gH => ?_)
   ·(try dsimp only)
    (first | (with_reducible exact ⟨cell_dr xq, cell_dr xp, cell_dr x2⟩) | (exact ⟨yq, yp, y2⟩) | (exact ⟨cell_al _ yq, cell_al _ yp, cell_al _ y2⟩) | (exact ⟨z0, z1, z2⟩))
   refine qT 0 _ ?_ rfl (.inl ⟨by rfl, ?_⟩) (by assumption) ?_
   rotate_left
   ·(intro w hSw; (try dsimp only at hSw); go_simp)
    all_goals (with_reducible rfl)
   (try simp only [qs, Act.put])
   refine qT 1 _ ?_ rfl (.inl ⟨by rfl, ?_⟩) (by assumption) ?_
   rotate_left
   ·(intro w hSw; (try dsimp only at hSw); go_simp)
    all_goals (with_reducible rfl)
   (try simp only [qs, Act.put])
   refine qP 2 _ ?_ rfl (.inl ⟨by rfl, ?_⟩) (fun _ => by assumption) ?_
   rotate_left
   ·(intro w hSw; go_simp)
    all_goals (with_reducible rfl)
   (try simp only [qs, Act.put])
   refine qP 3 _ ?_ rfl (.inl ⟨by rfl, ?_⟩) (fun _ => by assumption) ?_
   rotate_left
   ·(intro w hSw; go_simp)
    all_goals (with_reducible rfl)
   (try simp only [qs, Act.put])
   refine qT 4 _ ?_ rfl (.inl ⟨by rfl, ?_⟩) (by assumption) ?_
   rotate_left
   ·(intro w hSw; (try dsimp only at hSw); go_simp)
    all_goals (with_reducible rfl)
   (try simp only [qs, Act.put])
   refine qP 5 _ ?_ rfl (.inl ⟨by rfl, ?_⟩) (fun _ => by assumption) ?_
   rotate_left
   ·(intro w hSw; go_simp)
    all_goals (with_reducible rfl)
   (try simp only [qs, Act.put])
   refine qT 6 _ ?_ rfl (.inl ⟨by rfl, ?_⟩) (by assumption) ?_
   rotate_left
   ·(intro w hSw; (try dsimp only at hSw); go_simp)
    all_goals (with_reducible rfl)
   (try simp only [qs, Act.put])
   refine wpAnyT_ready (rs := [7]) (by kernel_rfl) (by simp) ?_
   refine AllReadyT.cons rfl (fun K hK => ?_) AllReadyT.nil
   go_simp
   (go_at_call 76; ((refine (HKI.out _ (Below.refl _ _).drew).mono ?_); rintro e w3 ⟨hN3, h3⟩; have HN3 := hid (HN2.out.trans ((But.of (Below.refl _ _).drew).trans hN3)); rcases r3 with f0 | ⟨q3, k3⟩; (focus (obtain rfl : e = flt f0.1 f0.2 := h3; obtain rfl : r = .inl f0 := HR3.out; exact ⟨rfl, HN3.out.toS S E, rfl⟩)); obtain ⟨rfl, hs3⟩ := h3; have hx3 := (HS2.out.later (Below.refl _ _).drew).go hN3 hs3; have HS3 := hid hx3; obtain ⟨yp, yq⟩ := hx3.xs; have y2 : w3.cell? ⟨S, 2, none⟩ = some (.slice p.a2 p.n2 p.c2) := (hx3.ss.x 2 (by omega)).1; have HUK3 := hid (HUK.out q3 k3 rfl); have HR5 : Hid (r = .inr (k3, s.cols ++ [⟨t1, q3⟩])) := HR3.out; clear hN3 hs3 hx3 HR3 HUK HKI))
   go_wp2_with fail
   refine hK.out _ _ (fun _ => ?_) (fun gH0 => ?_)
   ·(try dsimp only)
    (first | (with_reducible exact ⟨cell_dr xq, cell_dr xp, cell_dr x2⟩) | (exact ⟨yq, yp, y2⟩) | (exact ⟨cell_al _ yq, cell_al _ yp, cell_al _ y2⟩) | (exact ⟨z0, z1, z2⟩))
   have gH := gH0 (by kernel_rfl)
   clear hK K gH0
   (try simp only [qs, Act.put])
   refine qP 8 _ ?_ rfl (.inl ⟨by rfl, ?_⟩) (fun _ => by assumption) ?_
   rotate_left
   ·(intro w hSw; go_simp)
    all_goals (with_reducible rfl)
   (try simp only [qs, Act.put])
   refine wpAnyT_ready (rs := [9]) (by kernel_rfl) (by simp) ?_
   refine AllReadyT.cons rfl (fun K hK => ?_) AllReadyT.nil
   go_simp
   refine hK.out _ _ (fun _ => ?_) (fun gH0 => ?_)
   ·(try dsimp only)
    (first | (with_reducible exact ⟨cell_dr xq, cell_dr xp, cell_dr x2⟩) | (exact ⟨yq, yp, y2⟩) | (exact ⟨cell_al _ yq, cell_al _ yp, cell_al _ y2⟩) | (exact ⟨z0, z1, z2⟩))
   have gH := gH0 (by kernel_rfl)
   clear hK K gH0
   (try simp only [qs, Act.put])
   refine wpAnyT_ready (rs := [10]) (by kernel_rfl) (by simp) ?_
   refine AllReadyT.cons rfl (fun K hK => ?_) AllReadyT.nil
   (refine step_append_lies _ (by rfl) _ _ _ (by rfl) E 75 i0 _ 2 24 Tryd.underlying28 hi0 hz0 hz1 hz2 rfl (by omega) (.slice p.a2 p.n2 p.c2) p.n2 (ccs s.cols) (by rfl) (HS3.out.ss.own.o2.alloc _) ⟨w3.heap.size, 0, none⟩ 1 1 [.string t1, .int .i64 (q3 : Int)] (by rfl) (by rfl) (new_cells w3 _ _) (by simp [Value.oneCell']) (by omega) (by unfold maxLen; omega) (by omega) (by have := HS3.out.ss.le; simp; omega) (w3.heap.size + 1) (by simp) ?_; intro gg cap7 w7 hown7 hgrow7 hat7 hlt7; have z0 := grown_cell hgrow7 (cell_al _ yq) (own_not HS3.out HS3.out.bq (by unfold Grows; decide)).1; have z1 := grown_cell hgrow7 (cell_al _ yp) (own_not HS3.out HS3.out.bp (by unfold Grows; decide)).1; have z2 := grown_cell hgrow7 (cell_al _ y2) (own_not HS3.out HS3.out.ss.box (by unfold Grows; decide)).1; have sf := grown_froz hgrow7 (HS3.out.ss.x 2 (by omega)).2 (own_not HS3.out HS3.out.ss.box (by unfold Grows; decide)).1 (blk_lt HS3.out.ss.box); have HOW7 := hid hown7; have HGR7 := hid hgrow7; clear hown7 hgrow7 hat7 hlt7)
   refine hK.out _ _ (fun _ => ?_) (fun gH0 => ?_)
   ·(try dsimp only)
    (first | (with_reducible exact ⟨cell_dr xq, cell_dr xp, cell_dr x2⟩) | (exact ⟨yq, yp, y2⟩) | (exact ⟨cell_al _ yq, cell_al _ yp, cell_al _ y2⟩) | (exact ⟨z0, z1, z2⟩))
   have gH := gH0 (by kernel_rfl)
   clear hK K gH0
   (try simp only [qs, Act.put])
   refine qP 11 _ ?_ rfl (.inl ⟨by rfl, ?_⟩) (fun _ => by assumption) ?_
   rotate_left
   ·(intro w hSw; go_simp)
    all_goals (with_reducible rfl)
   (try simp only [qs, Act.put])
   refine qP 12 _ ?_ rfl (.inl ⟨by rfl, ?_⟩) (fun _ => by assumption) ?_
   rotate_left
   ·(intro w hSw; go_simp)
    all_goals (with_reducible rfl)
   (try simp only [qs, Act.put])
   refine wpAnyT_ready (rs := [13]) (by kernel_rfl) (by simp) ?_
   refine AllReadyT.cons rfl (fun K hK => ?_) AllReadyT.nil
   go_simp
   refine hK.out _ _ (noneB_off (by kernel_rfl)) (fun _ => ?_)
   clear hK K
   (try simp only [qs, Act.put])
   refine wpAnyT_done (by kernel_rfl) ?_ _
   have hx4 := HS3.out.later ((Below.refl w3.heap.size w3).alloc (Nat.le_refl _) (.cells #[.string t1, .int .i64 (q3 : Int)] 75))
   have hrow := row_hrow (E := E) (by unfold Grows; decide) hx4.ss.own.o2
   have hfin := hx4.grown (s' := { s with cols := s.cols ++ [⟨t1, (q3 : Int)⟩] }) (p' := { p with a2 := some ⟨gg, 0, none⟩, n2 := p.n2 + 1, c2 := cap7 }) HGR7.out hrow 2 (.slice (some ⟨gg, 0, none⟩) (p.n2 + 1) cap7) (by rfl) ⟨by show World.ownsRow _ _ _ _ _ _ (ccs (s.cols ++ [_])); rw [ccs_app]; exact HOW7.out, own_rows hx4.ss.own.o3 HGR7.out (ty_ne hx4.ss.own.o3 hx4.ss.own.o2 (by decide)), own_rows hx4.ss.own.o4 HGR7.out (ty_ne hx4.ss.own.o4 hx4.ss.own.o2 (by decide)), own_rows hx4.ss.own.o6 HGR7.out (ty_ne hx4.ss.own.o6 hx4.ss.own.o2 (by decide)), own_rows hx4.ss.own.o11 HGR7.out (ty_ne hx4.ss.own.o11 hx4.ss.own.o2 (by decide))⟩
   have hbs : ButS B S E w (w7.setCell ⟨S, 2, none⟩ (.slice (some ⟨gg, 0, none⟩) (p.n2 + 1) cap7)) := ((HN3.out.toS S E).trans ((But.of ((Below.refl w3.heap.size w3).alloc (Nat.le_refl _) _)).toS S E)).trans ((grown_butS HGR7.out hrow).trans (But.toS' B E (But.set w7 S 2 _)))
   have HZ := hid (And.intro hfin hbs)
   clear hfin hbs hrow hx4
   obtain rfl : r = .inr (k3, s.cols ++ [⟨t1, (q3 : Int)⟩]) := HR5.out
   go_returns
   exact ⟨HZ.out.2, rfl, (by have := HUK3.out; simp; omega), _, HZ.out.1⟩
end
open Go.Proofs.YtdeollmeljaaoaaDoor.cs
theorem vc_app : ∀ l m : List V, vc (l ++ m) = vc l ++ vc m
 | [], _ => rfl
 | v :: l, m => by simp [vc, vc_app l m]
theorem lit_lt {L : List Tk} {n k : Nat} {v : V} {k' : Nat} (h : litG L n k = .inr (some v, k')) : k + 1 ≤ k' := by
 unfold litG at h
 repeat' split at h
 all_goals (first | (cases h; done) | (cases h; first | exact Nat.le_refl _ | (show k + 1 ≤ k + _; omega)))
section
variable {B S E P Q : Nat} {a : Option Addr} {n c : Nat} {L : List Tk}
theorem valth_any {w : World} {k : Nat} {s : Sq} {p : Ps} (h : Cl w B S E P Q a n c L k s p) (hl : s.row.length ≤ k) :
  Calls Tryd.prog 77 #[.pointer (some ⟨P, 0, none⟩), .pointer (some ⟨Q, 0, none⟩)] w fun e w' => ButS B S E w w' ∧ match valF L n k s.row with
   | .inl f => e = flt f.1 f.2
   | .inr (k', l') => e = .returned (.tuple #[]) ∧ l'.length ≤ k' ∧ ∃ p', Cl w' B S E P Q a n c L k' { s with row := l' } p' := by
 have HNA := slit h.ss.rs
 obtain ⟨xp, xq⟩ := h.xs
 obtain ⟨r, hr⟩ : ∃ r, r = valF L n k s.row := ⟨_, rfl⟩
 rw [← hr]
 obtain ⟨r1, hr1⟩ : ∃ r1, r1 = litG L n k := ⟨_, rfl⟩
 have HUP : Hid (∀ v k', r1 = .inr (some v, k') → k + 1 ≤ k') := fun v k' e => lit_lt (by rw [← hr1]; exact e)
 have HR : Hid (r = bd r1 fun x => match x.1 with
  | some v => .inr (x.2, s.row ++ [v])
  | none => .inl (fl n x.2 6)) := by
  show _ = _
  rw [hr, hr1]
  rfl
 rw [← hr1] at HNA
 have HNA := hid HNA
 have HS := hid h
 clear hr hr1 h
 go_enter Tryd.func77, Tryd.ntmps77
 go_wp2_with fail
 refine HNA.out.mono ?_
 rintro e w1 ⟨hN1, h1⟩
 have HN1 := hid hN1
 clear xp xq HNA
 rcases r1 with f0 | ⟨v1, k1⟩
 ·obtain rfl : e = flt f0.1 f0.2 := h1
  obtain rfl : r = .inl f0 := HR.out
  exact ⟨rfl, HN1.out.toS S E, rfl⟩
 ·obtain ⟨rfl, hs1⟩ := h1
  have hx1 := HS.out.go hN1 hs1
  have HS1 := hid hx1
  clear hN1 hs1 HS
  cases v1 with
  | none =>
   have HGV : Hid (∀ W, Below w1.heap.size w1 W → Calls Tryd.prog 58 #[.pointer (some ⟨B, 0, none⟩), .int .i64 6] W fun e w' => e = flt (fl n k1 6).1 (fl n k1 6).2 ∧ But B W w') := fun W hW => sgive (HS1.out.ss.rs.later hW) 6
   obtain rfl : r = .inl (fl n k1 6) := HR.out
   simp only [Option.getD_none, v0, vV, Option.isSome_none]
   have xp : (w1.alloc (.cells #[.int .i64 0, .int .i64 0, .string ⟨#[]⟩] 50)).cell? ⟨P, 0, none⟩ = some (.pointer (some ⟨B, 0, none⟩)) := (hx1.later ((Below.refl _ _).alloc (Nat.le_refl _) _)).xs.1
   clear hx1
   go_wp2_with fail
   refine (HGV.out _ ((Below.refl _ _).alloc (Nat.le_refl _) _)).mono ?_
   rintro e w3 ⟨rfl, hN3⟩
   exact ⟨rfl, (HN1.out.trans ((But.of ((Below.refl _ _).alloc (Nat.le_refl _) _)).trans hN3)).toS S E, rfl⟩
  | some v =>
   have HUK := hid (HUP.out v k1 rfl)
   have HR5 : Hid (r = .inr (k1, s.row ++ [v])) := HR.out
   obtain ⟨vk, vn, vt⟩ := v
   simp only [Option.getD_some, vV, Option.isSome_some]
   obtain ⟨i0, hi0, hz0, hz1, hz2⟩ := info_parts info_val
   have hn3 : p.n3 ≤ 100 := by
    have e1 := len_v (Rd.own hx1.ss.own.o3)
    have e2 := hx1.ss.rs.kn
    have e4 := HUK.out
    obtain ⟨⟨ov, hr⟩, _⟩ := hx1.ss.rs
    have e3 := hr.sm
    omega
   clear HUP HR hx1
   go_wp2_with fail
   refine code_nm (fun W0 hW0 => ?_)
   have hbx : W0.heap[w1.heap.size]? = some (.cells #[.int .i64 vk, .int .i64 vn, .string vt] 50 (0, 0)) := by rw [hW0]; exact new0 _ _
   have hb0 : Below w1.heap.size w1 W0 := by rw [hW0]; exact (Below.refl _ _).alloc (Nat.le_refl _) _
   obtain ⟨u0, u1, u2, -, -, -⟩ := bx3 hbx
   have hx2 := HS1.out.later hb0
   obtain ⟨xp, xq⟩ := hx2.xs
   have x3 : W0.cell? ⟨S, 3, none⟩ = some (.slice p.a3 p.n3 p.c3) := (hx2.ss.x 3 (by omega)).1
   have HS2 := hid hx2
   have HN2 := hid (HN1.out.trans (But.of hb0))
   have HNV : Hid (some w1.heap.size ≠ (Value.slice p.a3 p.n3 p.c3).ownBlock) := fun e => by
    have := (HS1.out.ss.own.o3.lt _ e.symm).2
    omega
   clear hbx hb0 hx2 hW0
   refine wpT_begin (S := (fun wx => wx.cell? ⟨Q, 0, none⟩ = some (.pointer (some ⟨S, 0, none⟩)) ∧ wx.cell? ⟨S, 3, none⟩ = some (.slice p.a3 p.n3 p.c3) ∧ wx.cell? ⟨w1.heap.size, 0, none⟩ = some (.int .i64 vk) ∧ wx.cell? ⟨w1.heap.size, 1, none⟩ = some (.int .i64 vn) ∧ wx.cell? ⟨w1.heap.size, 2, none⟩ = some (.string vt))) [10] (by kernel_rfl) ?_ (fun gH => ?_)
   ·(try dsimp only)
    (first | (with_reducible exact ⟨cell_dr xq, cell_dr x3, cell_dr u0, cell_dr u1, cell_dr u2⟩) | (exact ⟨cell_al _ (cell_dr xq), cell_al _ (cell_dr x3), cell_al _ (cell_dr u0), cell_al _ (cell_dr u1), cell_al _ (cell_dr u2)⟩) | (exact ⟨z0, z1, z2, z3, z4⟩))
   refine qT 0 _ ?_ rfl (.inl ⟨by rfl, ?_⟩) (by assumption) ?_
   rotate_left
   ·(intro w hSw; (try dsimp only at hSw); go_simp)
    all_goals (with_reducible rfl)
   (try simp only [qs, Act.put])
   refine qT 1 _ ?_ rfl (.inl ⟨by rfl, ?_⟩) (by assumption) ?_
   rotate_left
   ·(intro w hSw; (try dsimp only at hSw); go_simp)
    all_goals (with_reducible rfl)
   (try simp only [qs, Act.put])
   refine qP 2 _ ?_ rfl (.inl ⟨by rfl, ?_⟩) (fun _ => by assumption) ?_
   rotate_left
   ·(intro w hSw; go_simp)
    all_goals (with_reducible rfl)
   (try simp only [qs, Act.put])
   refine qP 3 _ ?_ rfl (.inl ⟨by rfl, ?_⟩) (fun _ => by assumption) ?_
   rotate_left
   ·(intro w hSw; go_simp)
    all_goals (with_reducible rfl)
   (try simp only [qs, Act.put])
   refine qT 4 _ ?_ rfl (.inl ⟨by rfl, ?_⟩) (by assumption) ?_
   rotate_left
   ·(intro w hSw; (try dsimp only at hSw); go_simp)
    all_goals (with_reducible rfl)
   (try simp only [qs, Act.put])
   refine qT 5 _ ?_ rfl (.inl ⟨by rfl, ?_⟩) (by assumption) ?_
   rotate_left
   ·(intro w hSw; (try dsimp only at hSw); go_simp)
    all_goals (with_reducible rfl)
   (try simp only [qs, Act.put])
   refine wpAnyT_ready (rs := [6]) (by kernel_rfl) (by simp) ?_
   refine AllReadyT.cons rfl (fun K hK => ?_) AllReadyT.nil
   go_simp
   refine hK.out _ _ (fun _ => ?_) (fun gH0 => ?_)
   ·(try dsimp only)
    (first | (with_reducible exact ⟨cell_dr xq, cell_dr x3, cell_dr u0, cell_dr u1, cell_dr u2⟩) | (exact ⟨cell_al _ (cell_dr xq), cell_al _ (cell_dr x3), cell_al _ (cell_dr u0), cell_al _ (cell_dr u1), cell_al _ (cell_dr u2)⟩) | (exact ⟨z0, z1, z2, z3, z4⟩))
   have gH := gH0 (by kernel_rfl)
   clear hK K gH0
   (try simp only [qs, Act.put])
   refine wpAnyT_ready (rs := [7]) (by kernel_rfl) (by simp) ?_
   refine AllReadyT.cons rfl (fun K hK => ?_) AllReadyT.nil
   (refine step_append_lies _ (by rfl) _ _ _ (by rfl) E 50 i0 _ 3 32 Tryd.underlying29 hi0 hz0 hz1 hz2 rfl (by omega) (.slice p.a3 p.n3 p.c3) p.n3 (vc s.row) (by rfl) ((own_below HS2.out.ss.own.o3 (Below.refl _ _).drew).alloc _) ⟨W0.heap.size, 0, none⟩ 1 1 [.int .i64 vk, .int .i64 vn, .string vt] (by rfl) (by rfl) (new_cells W0.drew _ _) (by simp [Value.oneCell']) (by omega) (by unfold maxLen; omega) (by omega) (by have := HS2.out.ss.le; simp; omega) (W0.heap.size + 1) (by simp) ?_; intro gg cap7 w7 hown7 hgrow7 hat7 hlt7; have z0 := grown_cell hgrow7 (cell_al _ (cell_dr xq)) (own_not HS2.out HS2.out.bq (by unfold Grows; decide)).2.1; have z1 := grown_cell hgrow7 (cell_al _ (cell_dr x3)) (own_not HS2.out HS2.out.ss.box (by unfold Grows; decide)).2.1; have z2 := grown_cell hgrow7 (cell_al _ (cell_dr u0)) HNV.out; have z3 := grown_cell hgrow7 (cell_al _ (cell_dr u1)) HNV.out; have z4 := grown_cell hgrow7 (cell_al _ (cell_dr u2)) HNV.out; have sf : w7.frozen? ⟨S, 3, none⟩ = false := grown_froz (w := W0.drew) hgrow7 (HS2.out.ss.x 3 (by omega)).2 (own_not HS2.out HS2.out.ss.box (by unfold Grows; decide)).2.1 (blk_lt HS2.out.ss.box); have HOW7 := hid hown7; have HGR7 := hid hgrow7; clear hown7 hgrow7 hat7 hlt7)
   refine hK.out _ _ (fun _ => ?_) (fun gH0 => ?_)
   ·(try dsimp only)
    (first | (with_reducible exact ⟨cell_dr xq, cell_dr x3, cell_dr u0, cell_dr u1, cell_dr u2⟩) | (exact ⟨cell_al _ (cell_dr xq), cell_al _ (cell_dr x3), cell_al _ (cell_dr u0), cell_al _ (cell_dr u1), cell_al _ (cell_dr u2)⟩) | (exact ⟨z0, z1, z2, z3, z4⟩))
   have gH := gH0 (by kernel_rfl)
   clear hK K gH0
   (try simp only [qs, Act.put])
   refine qP 8 _ ?_ rfl (.inl ⟨by rfl, ?_⟩) (fun _ => by assumption) ?_
   rotate_left
   ·(intro w hSw; go_simp)
    all_goals (with_reducible rfl)
   (try simp only [qs, Act.put])
   refine qP 9 _ ?_ rfl (.inl ⟨by rfl, ?_⟩) (fun _ => by assumption) ?_
   rotate_left
   ·(intro w hSw; go_simp)
    all_goals (with_reducible rfl)
   (try simp only [qs, Act.put])
   refine wpAnyT_ready (rs := [10]) (by kernel_rfl) (by simp) ?_
   refine AllReadyT.cons rfl (fun K hK => ?_) AllReadyT.nil
   go_simp
   refine hK.out _ _ (noneB_off (by kernel_rfl)) (fun _ => ?_)
   clear hK K
   (try simp only [qs, Act.put])
   refine wpAnyT_done (by kernel_rfl) ?_ _
   have hx4 := (HS2.out.later (Below.refl _ _).drew).later ((Below.refl W0.drew.heap.size W0.drew).alloc (Nat.le_refl _) (.cells #[.int .i64 vk, .int .i64 vn, .string vt] 50))
   have hrow := row_hrow (E := E) (by unfold Grows; decide) hx4.ss.own.o3
   have hfin := hx4.grown (s' := { s with row := s.row ++ [⟨vk, vn, vt⟩] }) (p' := { p with a3 := some ⟨gg, 0, none⟩, n3 := p.n3 + 1, c3 := cap7 }) HGR7.out hrow 3 (.slice (some ⟨gg, 0, none⟩) (p.n3 + 1) cap7) (by rfl) ⟨own_rows hx4.ss.own.o2 HGR7.out (ty_ne hx4.ss.own.o2 hx4.ss.own.o3 (by decide)), by show World.ownsRow _ _ _ _ _ _ (vc (s.row ++ [_])); rw [vc_app]; exact HOW7.out, own_rows hx4.ss.own.o4 HGR7.out (ty_ne hx4.ss.own.o4 hx4.ss.own.o3 (by decide)), own_rows hx4.ss.own.o6 HGR7.out (ty_ne hx4.ss.own.o6 hx4.ss.own.o3 (by decide)), own_rows hx4.ss.own.o11 HGR7.out (ty_ne hx4.ss.own.o11 hx4.ss.own.o3 (by decide))⟩
   have hbs : ButS B S E w (w7.setCell ⟨S, 3, none⟩ (.slice (some ⟨gg, 0, none⟩) (p.n3 + 1) cap7)) := (((HN2.out.trans (But.of (Below.refl _ _).drew)).toS S E).trans ((But.of ((Below.refl W0.drew.heap.size W0.drew).alloc (Nat.le_refl _) _)).toS S E)).trans ((grown_butS HGR7.out hrow).trans (But.toS' B E (But.set w7 S 3 _)))
   have HZ := hid (And.intro hfin hbs)
   clear hfin hbs hrow hx4
   obtain rfl : r = .inr (k1, s.row ++ [⟨vk, vn, vt⟩]) := HR5.out
   go_returns
   exact ⟨HZ.out.2, rfl, (by have := HUK.out; simp; omega), _, HZ.out.1⟩
theorem nmth_any {w : World} {k : Nat} {s : Sq} {p : Ps} (h : Cl w B S E P Q a n c L k s p) (hl : s.names.length ≤ k) :
  Calls Tryd.prog 79 #[.pointer (some ⟨Q, 0, none⟩), .pointer (some ⟨P, 0, none⟩)] w fun e w' => ButS B S E w w' ∧ match nmsG L n k s.names with
   | .inl f => e = flt f.1 f.2
   | .inr (k', l') => e = .returned (.tuple #[]) ∧ l'.length ≤ k' ∧ ∃ p', Cl w' B S E P Q a n c L k' { s with names := l' } p' := by
 have HNA : Hid (∀ W, Below w.heap.size w W → Calls Tryd.prog 53 #[.pointer (some ⟨B, 0, none⟩)] W fun e w' => But B W w' ∧ match nameG L n k with
   | .inl f => e = flt f.1 f.2
   | .inr (t, k') => e = .returned (.string t) ∧ Rs w' B a n c L k') := fun W hW => sname (h.ss.rs.later hW)
 obtain ⟨xp, xq⟩ := h.xs
 have x4 : w.cell? ⟨S, 4, none⟩ = some (.slice p.a4 p.n4 p.c4) := (h.ss.x 4 (by omega)).1
 obtain ⟨r, hr⟩ : ∃ r, r = nmsG L n k s.names := ⟨_, rfl⟩
 rw [← hr]
 obtain ⟨r1, hr1⟩ : ∃ r1, r1 = nameG L n k := ⟨_, rfl⟩
 have HUP : Hid (∀ t k', r1 = .inr (t, k') → k' = k + 1) := fun t k' e => name_up (by rw [← hr1]; exact e)
 have HR : Hid (r = bd r1 fun x => .inr (x.2, s.names ++ [x.1])) := by
  show _ = _
  rw [hr, hr1]
  rfl
 rw [← hr1] at HNA
 have HS := hid h
 obtain ⟨i0, hi0, hz0, hz1, hz2⟩ := info_parts info_str
 have hn4 : p.n4 ≤ 100 := by
  have e1 := len_s (Rd.own h.ss.own.o4)
  have e2 := h.ss.rs.kn
  obtain ⟨⟨ov, hr⟩, _⟩ := h.ss.rs
  have e3 := hr.sm
  omega
 clear hr hr1 h
 go_enter Tryd.func79, Tryd.ntmps79
 go_wp2_with fail
 refine wpT_begin (S := (fun wx => wx.cell? ⟨Q, 0, none⟩ = some (.pointer (some ⟨S, 0, none⟩)) ∧ wx.cell? ⟨P, 0, none⟩ = some (.pointer (some ⟨B, 0, none⟩)) ∧ wx.cell? ⟨S, 4, none⟩ = some (.slice p.a4 p.n4 p.c4))) [11] (by kernel_rfl) ?_ (fun gH => ?_)
 ·(try dsimp only)
  (first | (with_reducible exact ⟨cell_dr xq, cell_dr xp, cell_dr x4⟩) | (exact ⟨yq, yp, y4⟩) | (exact ⟨cell_al _ yq, cell_al _ yp, cell_al _ y4⟩) | (exact ⟨z0, z1, z2⟩))
 refine qT 0 _ ?_ rfl (.inl ⟨by rfl, ?_⟩) (by assumption) ?_
 rotate_left
 ·(intro w hSw; (try dsimp only at hSw); go_simp)
  all_goals (with_reducible rfl)
 (try simp only [qs, Act.put])
 refine qT 1 _ ?_ rfl (.inl ⟨by rfl, ?_⟩) (by assumption) ?_
 rotate_left
 ·(intro w hSw; (try dsimp only at hSw); go_simp)
  all_goals (with_reducible rfl)
 (try simp only [qs, Act.put])
 refine qP 2 _ ?_ rfl (.inl ⟨by rfl, ?_⟩) (fun _ => by assumption) ?_
 rotate_left
 ·(intro w hSw; go_simp)
  all_goals (with_reducible rfl)
 (try simp only [qs, Act.put])
 refine qP 3 _ ?_ rfl (.inl ⟨by rfl, ?_⟩) (fun _ => by assumption) ?_
 rotate_left
 ·(intro w hSw; go_simp)
  all_goals (with_reducible rfl)
 (try simp only [qs, Act.put])
 refine qT 4 _ ?_ rfl (.inl ⟨by rfl, ?_⟩) (by assumption) ?_
 rotate_left
 ·(intro w hSw; (try dsimp only at hSw); go_simp)
  all_goals (with_reducible rfl)
 (try simp only [qs, Act.put])
 refine qT 5 _ ?_ rfl (.inl ⟨by rfl, ?_⟩) (by assumption) ?_
 rotate_left
 ·(intro w hSw; (try dsimp only at hSw); go_simp)
  all_goals (with_reducible rfl)
 (try simp only [qs, Act.put])
 refine wpAnyT_ready (rs := [6]) (by kernel_rfl) (by simp) ?_
 refine AllReadyT.cons rfl (fun K hK => ?_) AllReadyT.nil
 go_simp
 (go_at_call 53; ((refine (HNA.out _ (Below.refl _ _).drew).mono ?_); rintro e w3 ⟨hN3, h3⟩; have HN3 := hid ((But.of (Below.refl _ _).drew).trans hN3); rcases r1 with f0 | ⟨t1, k1⟩; (focus (obtain rfl : e = flt f0.1 f0.2 := h3; obtain rfl : r = .inl f0 := HR.out; exact ⟨rfl, HN3.out.toS S E, rfl⟩)); obtain ⟨rfl, hs3⟩ := h3; have hx3 := (HS.out.later (Below.refl _ _).drew).go hN3 hs3; have HS3 := hid hx3; obtain ⟨yp, yq⟩ := hx3.xs; have y4 : w3.cell? ⟨S, 4, none⟩ = some (.slice p.a4 p.n4 p.c4) := (hx3.ss.x 4 (by omega)).1; have HUK3 := hid (HUP.out t1 k1 rfl); have HR5 : Hid (r = .inr (k1, s.names ++ [t1])) := HR.out; clear hN3 hs3 hx3 HR HUP HNA))
 go_wp2_with fail
 refine hK.out _ _ (fun _ => ?_) (fun gH0 => ?_)
 ·(try dsimp only)
  (first | (with_reducible exact ⟨cell_dr xq, cell_dr xp, cell_dr x4⟩) | (exact ⟨yq, yp, y4⟩) | (exact ⟨cell_al _ yq, cell_al _ yp, cell_al _ y4⟩) | (exact ⟨z0, z1, z2⟩))
 have gH := gH0 (by kernel_rfl)
 clear hK K gH0
 (try simp only [qs, Act.put])
 refine wpAnyT_ready (rs := [7]) (by kernel_rfl) (by simp) ?_
 refine AllReadyT.cons rfl (fun K hK => ?_) AllReadyT.nil
 go_simp
 refine hK.out _ _ (fun _ => ?_) (fun gH0 => ?_)
 ·(try dsimp only)
  (first | (with_reducible exact ⟨cell_dr xq, cell_dr xp, cell_dr x4⟩) | (exact ⟨yq, yp, y4⟩) | (exact ⟨cell_al _ yq, cell_al _ yp, cell_al _ y4⟩) | (exact ⟨z0, z1, z2⟩))
 have gH := gH0 (by kernel_rfl)
 clear hK K gH0
 (try simp only [qs, Act.put])
 refine wpAnyT_ready (rs := [8]) (by kernel_rfl) (by simp) ?_
 refine AllReadyT.cons rfl (fun K hK => ?_) AllReadyT.nil
 (refine step_append_lies _ (by rfl) _ _ _ (by rfl) E 9 i0 _ 1 16 Tryd.underlying30 hi0 hz0 hz1 hz2 rfl (by omega) (.slice p.a4 p.n4 p.c4) p.n4 (s.names.map Value.string) (by rfl) (HS3.out.ss.own.o4.alloc _) ⟨w3.heap.size, 0, none⟩ 1 1 [.string t1] (by rfl) (by rfl) (new_cells w3 _ _) (by simp [Value.oneCell']) (by omega) (by unfold maxLen; omega) (by omega) (by have := HS3.out.ss.le; simp; omega) (w3.heap.size + 1) (by simp) ?_; intro gg cap7 w7 hown7 hgrow7 hat7 hlt7; have z0 := grown_cell hgrow7 (cell_al _ yq) (own_not HS3.out HS3.out.bq (by unfold Grows; decide)).2.2; have z1 := grown_cell hgrow7 (cell_al _ yp) (own_not HS3.out HS3.out.bp (by unfold Grows; decide)).2.2; have z2 := grown_cell hgrow7 (cell_al _ y4) (own_not HS3.out HS3.out.ss.box (by unfold Grows; decide)).2.2; have sf := grown_froz hgrow7 (HS3.out.ss.x 4 (by omega)).2 (own_not HS3.out HS3.out.ss.box (by unfold Grows; decide)).2.2 (blk_lt HS3.out.ss.box); have HOW7 := hid hown7; have HGR7 := hid hgrow7; clear hown7 hgrow7 hat7 hlt7)
 refine hK.out _ _ (fun _ => ?_) (fun gH0 => ?_)
 ·(try dsimp only)
  (first | (with_reducible exact ⟨cell_dr xq, cell_dr xp, cell_dr x4⟩) | (exact ⟨yq, yp, y4⟩) | (exact ⟨cell_al _ yq, cell_al _ yp, cell_al _ y4⟩) | (exact ⟨z0, z1, z2⟩))
 have gH := gH0 (by kernel_rfl)
 clear hK K gH0
 (try simp only [qs, Act.put])
 refine qP 9 _ ?_ rfl (.inl ⟨by rfl, ?_⟩) (fun _ => by assumption) ?_
 rotate_left
 ·(intro w hSw; go_simp)
  all_goals (with_reducible rfl)
 (try simp only [qs, Act.put])
 refine qP 10 _ ?_ rfl (.inl ⟨by rfl, ?_⟩) (fun _ => by assumption) ?_
 rotate_left
 ·(intro w hSw; go_simp)
  all_goals (with_reducible rfl)
 (try simp only [qs, Act.put])
 refine wpAnyT_ready (rs := [11]) (by kernel_rfl) (by simp) ?_
 refine AllReadyT.cons rfl (fun K hK => ?_) AllReadyT.nil
 go_simp
 refine hK.out _ _ (noneB_off (by kernel_rfl)) (fun _ => ?_)
 clear hK K
 (try simp only [qs, Act.put])
 refine wpAnyT_done (by kernel_rfl) ?_ _
 have hx4 := HS3.out.later ((Below.refl w3.heap.size w3).alloc (Nat.le_refl _) (.cells #[.string t1] 9))
 have hrow := row_hrow (E := E) (by unfold Grows; decide) hx4.ss.own.o4
 have hfin := hx4.grown (s' := { s with names := s.names ++ [t1] }) (p' := { p with a4 := some ⟨gg, 0, none⟩, n4 := p.n4 + 1, c4 := cap7 }) HGR7.out hrow 4 (.slice (some ⟨gg, 0, none⟩) (p.n4 + 1) cap7) (by rfl) ⟨own_rows hx4.ss.own.o2 HGR7.out (ty_ne hx4.ss.own.o2 hx4.ss.own.o4 (by decide)), own_rows hx4.ss.own.o3 HGR7.out (ty_ne hx4.ss.own.o3 hx4.ss.own.o4 (by decide)), by show World.ownsRow _ _ _ _ _ _ ((s.names ++ [_]).map Value.string); rw [List.map_append]; exact HOW7.out, own_rows hx4.ss.own.o6 HGR7.out (ty_ne hx4.ss.own.o6 hx4.ss.own.o4 (by decide)), own_rows hx4.ss.own.o11 HGR7.out (ty_ne hx4.ss.own.o11 hx4.ss.own.o4 (by decide))⟩
 have hbs : ButS B S E w (w7.setCell ⟨S, 4, none⟩ (.slice (some ⟨gg, 0, none⟩) (p.n4 + 1) cap7)) := ((HN3.out.toS S E).trans ((But.of ((Below.refl w3.heap.size w3).alloc (Nat.le_refl _) _)).toS S E)).trans ((grown_butS HGR7.out hrow).trans (But.toS' B E (But.set w7 S 4 _)))
 have HZ := hid (And.intro hfin hbs)
 clear hfin hbs hrow hx4
 obtain rfl : r = .inr (k1, s.names ++ [t1]) := HR5.out
 go_returns
 exact ⟨HZ.out.2, rfl, (by have := HUK3.out; simp; omega), _, HZ.out.1⟩
end
end Go.Proofs.YtdeollmeljaaoaaDoor.rd
