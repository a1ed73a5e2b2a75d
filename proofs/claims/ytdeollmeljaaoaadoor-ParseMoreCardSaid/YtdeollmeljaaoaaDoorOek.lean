import Derived.Test.YtdeollmeljaaoaaDoorOdk
set_option linter.unusedVariables false
set_option linter.unusedSimpArgs false
set_option maxHeartbeats 4000000
set_option maxRecDepth 1000000
open Go.ChangeAt Go.ChangeShapes Go.RowKit Go.WideShapes
open Go.Lib (hid)
namespace Go.Proofs.YtdeollmeljaaoaaDoor.tw
def bnd : Nat → Nat
 | 0 => 1
 | f + 1 => 2 * bnd f + 1
theorem OpsIs.more {N M : Nat} {w : World} {e : Ending} {w' : World} (h : OpsIs N w e w') (hm : N ≤ M) : OpsIs M w e w' := by
 obtain ⟨v, l, h1, h2, h3, h4⟩ := h
 exact ⟨v, l, h1, h2, Nat.le_trans h3 hm, h4⟩
theorem OpsIs.from {N : Nat} {w w0 : World} {e : Ending} {w' : World} (h : OpsIs N w0 e w') (hb : Below w.heap.size w w0) : OpsIs N w e w' := by
 obtain ⟨v, l, h1, h2, h3, h4, h5⟩ := h
 exact ⟨v, l, h1, h2, h3, own_mono h4 hb.size, into hb h5⟩
def OpsAt (f : Nat) : Prop := ∀ (w : World) (k n d : Int) (s : ByteArray) (ao : Option Addr) (m cap : Nat), Rn k → Rn n → s.size ≤ maxLen → TwS w f (.slice ao m cap) → (d = 3 - (f : Int) ∨ (f = 0 ∧ 2 < d)) →
 Calls Tryd.prog 32 #[.agg #[.int .i64 k, .int .i64 n, .string s, .slice ao m cap], .int .i64 d] w (OpsIs (bnd f) w)
theorem ops_zero : OpsAt 0 := fun w k n d s ao m cap hk hn hs ht hd => by
 have hq := pck_in k 11 (by omega)
 by_cases h1 : pck k 11 = 1
 ·exact ops_col 1 (Nat.le_refl _) w k n d s ao m cap hk hn h1
 ·exact ops_lit 1 (Nat.le_refl _) w k n d s ao m cap hk hn hs (by omega)
theorem in1_any (f : Nat) (hf : f ≤ 2) (ih : OpsAt f) (w : World) (P D : Nat) (n : Int) (s : ByteArray) (ao : Option Addr) (m cap i : Nat) (hi : i ≤ 1) (hn : Rn n) (hs : s.size ≤ maxLen) (ht : TwS w (f + 1) (.slice ao m cap))
  (c1 : w.cell? ⟨P, 1, none⟩ = some (.int .i64 n)) (c2 : w.cell? ⟨P, 2, none⟩ = some (.string s)) (c3 : w.cell? ⟨P, 3, none⟩ = some (.slice ao m cap)) (d0 : w.cell? ⟨D, 0, none⟩ = some (.int .i64 (2 - (f : Int)))) :
  Calls Tryd.prog 59 #[.int .i64 (i : Int), .pointer (some ⟨P, 0, none⟩), .pointer (some ⟨D, 0, none⟩)] w (OpsIs (bnd f) w) := by
 obtain ⟨ao', m', cap', e, hml, hcell⟩ := ht.sh
 simp only [Value.slice.injEq] at e
 obtain ⟨rfl, rfl, rfl⟩ := e
 unfold maxLen at hml
 by_cases hlt : i < m
 ·obtain ⟨b, o, k', n', t', u, rfl, hb, g0, g1, g2, g3, hk', hn', hs', ht'⟩ := hcell i hlt
  obtain ⟨au, mu, cu, rfl⟩ : ∃ au mu cu, u = .slice au mu cu := by
   cases f with
   | zero => obtain ⟨_, _, _, a, c, e, _⟩ := ht'; exact ⟨_, _, _, e⟩
   | succ f => obtain ⟨a, n, c, e, _⟩ := ht'.sh; exact ⟨_, _, _, e⟩
  have hBD : Below w.heap.size w w.drew := (Below.refl _ _).drew
  have IH := hid (ih w.drew k' n' (IntKind.i64.wrap (2 - (f : Int) + 1)) t' au mu cu hk' hn' hs' (ht'.below hBD) (.inl (by rw [IntKind.wrap_i64]; omega)))
  have HBD := hid hBD
  have hiI : (i : Int) < (m : Int) := by omega
  clear hcell hk' hn' hs' ht' ht hBD hn hs
  go_enter Tryd.func59, Tryd.ntmps59
  go_wp2_with fail
  go_region_held3 (fun wx => wx.cell? ⟨P, 3, none⟩ = some (.slice (some ⟨b, o, none⟩) m cap) ∧ wx.cell? ⟨D, 0, none⟩ = some (.int .i64 (2 - (f : Int))) ∧ wx.cell? ⟨b, o + i * 4, none⟩ = some (.int .i64 k') ∧ wx.cell? ⟨b, o + i * 4 + 1, none⟩ = some (.int .i64 n') ∧ wx.cell? ⟨b, o + i * 4 + 2, none⟩ = some (.string t') ∧ wx.cell? ⟨b, o + i * 4 + 3, none⟩ = some (.slice au mu cu))
   ((first
    | (with_reducible exact ⟨cell_dr c3, cell_dr d0, cell_dr g0, cell_dr g1, cell_dr g2, cell_dr g3⟩)
    | (with_reducible exact ⟨cell_of_below hb2 (cell_dr c3), cell_of_below hb2 (cell_dr d0), cell_of_below hb2 (cell_dr g0), cell_of_below hb2 (cell_dr g1), cell_of_below hb2 (cell_dr g2), cell_of_below hb2 (cell_dr g3)⟩)))
   ((first
    | (go_at_call 32; ((with_reducible refine IH.out.mono ?_); rintro e w2 ⟨v2, l2, rfl, h2, h3, h4, hb2⟩))))
  all_goals (
   go_wp2_with fail
   go_ret
   exact OpsIs.from ⟨v2, l2, rfl, h2, h3, h4, hb2⟩ HBD.out)
 ·have hzero : OpsIs (bnd 0) w = OpsIs 1 w := rfl
  have h1 : 1 ≤ bnd f := by cases f <;> simp [bnd]
  have IH := hid (fun W => ops_zero W n (i : Int) 9 s none 0 0 hn (by unfold Rn; omega) hs (TwS.nil W 0) (.inr ⟨rfl, by omega⟩))
  have H1 := hid h1
  clear hcell ht hzero h1 hn hs
  go_enter Tryd.func59, Tryd.ntmps59
  go_wp2_with fail
  refine (IH.out _).mono ?_
  rintro e w2 ⟨v2, l2, rfl, h2, h3, h4, hb2⟩
  go_wp2_with fail
  go_ret
  exact OpsIs.more ⟨v2, l2, rfl, h2, h3, h4, hb2⟩ H1.out
theorem one_rd (w : World) (o : Oq) (B : Nat) (hB : w.heap.size = B) : Rd (w.alloc (.cells #[.int .i64 o.k, .int .i64 o.v.k, .int .i64 o.v.n, .string o.v.t, .string o.t] 54)) 5 1 (.slice (some ⟨B, 0, none⟩) 1 1) (ocs [o]) := by
 subst hB
 exact Rd.own (World.ownsRow_lit (base := w.heap.size) w #[.int .i64 o.k, .int .i64 o.v.k, .int .i64 o.v.n, .string o.v.t, .string o.t] 1 (Nat.le_refl _) (by unfold maxLen; omega) rfl)
theorem ops_succ (f : Nat) (hf : f ≤ 2) (ih : OpsAt f) : OpsAt (f + 1) := by
 intro w k n d s ao m cap hk hn hs ht hd
 have hd2 : d = 2 - (f : Int) := by omega
 subst hd2
 have hq := pck_in k 11 (by omega)
 have hb1 : 1 ≤ bnd (f + 1) := by simp [bnd]
 by_cases h0 : pck k 11 = 0
 ·exact ops_lit _ hb1 w k n _ s ao m cap hk hn hs (.inl h0)
 by_cases h1 : pck k 11 = 1
 ·exact ops_col _ hb1 w k n _ s ao m cap hk hn h1
 have PK := hid (fun W => pck_any k 11 W hk (by omega) (by omega))
 obtain ⟨q, hqq⟩ : ∃ q, q = pck k 11 := ⟨_, rfl⟩
 rw [← hqq] at PK hq h0 h1
 have hM : bnd f ≤ 7 := by
  have : f = 0 ∨ f = 1 ∨ f = 2 := by omega
  rcases this with rfl | rfl | rfl <;> decide
 have hN : bnd (f + 1) = 2 * bnd f + 1 := rfl
 obtain ⟨W0, hW0⟩ : ∃ W0 : World, W0 = (w.alloc (.cells #[.int .i64 k, .int .i64 n, .string s, .slice ao m cap] 25)).alloc (.cells #[.int .i64 (2 - (f : Int))] 3) := ⟨_, rfl⟩
 have hbW : Below w.heap.size w W0 := by rw [hW0]; go_grown
 have hzW : W0.heap.size = w.heap.size + 1 + 1 := by rw [hW0]; simp
 have c1 : W0.cell? ⟨w.heap.size, 1, none⟩ = some (.int .i64 n) := by rw [hW0]; go_simp
 have c2 : W0.cell? ⟨w.heap.size, 2, none⟩ = some (.string s) := by rw [hW0]; go_simp
 have c3 : W0.cell? ⟨w.heap.size, 3, none⟩ = some (.slice ao m cap) := by rw [hW0]; go_simp
 have d0 : W0.cell? ⟨w.heap.size + 1, 0, none⟩ = some (.int .i64 (2 - (f : Int))) := by rw [hW0]; go_simp
 have IN : Hid (∀ (i : Nat), i ≤ 1 → ∀ W, Below W0.heap.size W0 W → Calls Tryd.prog 59 #[.int .i64 (i : Int), .pointer (some ⟨w.heap.size, 0, none⟩), .pointer (some ⟨w.heap.size + 1, 0, none⟩)] W (OpsIs (bnd f) W)) := fun i hi W hb =>
  in1_any f hf ih W w.heap.size (w.heap.size + 1) n s ao m cap i hi hn hs ((ht.below hbW).below hb) (cell_of_below hb c1) (cell_of_below hb c2) (cell_of_below hb c3) (cell_of_below hb d0)
 have IN0 : Hid (∀ W, Below W0.heap.size W0 W → Calls Tryd.prog 59 #[.int .i64 0, .pointer (some ⟨w.heap.size, 0, none⟩), .pointer (some ⟨w.heap.size + 1, 0, none⟩)] W (OpsIs (bnd f) W)) := IN.out 0 (by omega)
 have IN1 : Hid (∀ W, Below W0.heap.size W0 W → Calls Tryd.prog 59 #[.int .i64 1, .pointer (some ⟨w.heap.size, 0, none⟩), .pointer (some ⟨w.heap.size + 1, 0, none⟩)] W (OpsIs (bnd f) W)) := IN.out 1 (by omega)
 have HW0 := hid hW0
 have HBW := hid hbW
 have HQ0 : 2 ≤ q := by omega
 have HQ1 : q < 11 := hq.2
 obtain ⟨M, hMM⟩ : ∃ M, M = bnd f := ⟨_, rfl⟩
 rw [← hMM] at hM hN IN0 IN1
 rw [hN]
 clear IN hW0 hbW c1 c2 c3 d0 ht hk hn hs hb1 hd h0 h1 hq hqq ih hN hMM
 have hf2 : ¬ (2 < 2 - (f : Int)) := by omega
 have e1 : (1 + q == 1) = false := by simp; omega
 have e2 : (1 + q == 2) = false := by simp; omega
 by_cases h5 : q = 4 ∨ q = 10
 ·rcases h5 with rfl | rfl
  ·go_enter Tryd.func32, Tryd.ntmps32
   go_wp2_with (go_at_call 14; (with_reducible refine (PK.out _).mono ?_); rintro e w' ⟨rfl, rfl⟩)
   all_goals (first | (exfalso; omega) | skip)
   rw [← HW0.out]
   refine (IN0.out _ (Below.refl _ _)).mono ?_
   rintro e w1 ⟨v1, l1, rfl, h1, h2, h3, hb1⟩
   have hz1 := hb1.size
   have hrd := one_rd w1 ⟨5, ⟨0, 0, ⟨#[]⟩⟩, ⟨#[]⟩⟩ w1.heap.size rfl
   have HH := hid (And.intro h1 (And.intro h2 (And.intro h3 hb1)))
   have HRD := hid hrd
   clear h1 h3 hb1 hrd
   go_wp2_with (at_builtin; refine apg (w1.alloc (.cells #[.int .i64 5, .int .i64 0, .int .i64 0, .string ⟨#[]⟩, .string ⟨#[]⟩] 54)) 1 rfl _ _ 31 54 _ 5 56 Tryd.underlying31 Tryd.info54 rfl (by omega) rfl (HH.out.2.2.1.alloc _) (by simp; omega) (by omega) (by unfold maxLen; omega) (ocs_one _) HRD.out rfl rfl ?_; intro v3 w3 hown3 hb3 hg3)
   go_ret
   obtain ⟨h1, _, h3, hb1⟩ := HH.out
   exact ⟨v3, l1 ++ [⟨5, ⟨0, 0, ⟨#[]⟩⟩, ⟨#[]⟩⟩], rfl, whl_un h1 (op_bare (k := 5) (by omega) (by omega)) (by decide) (sml_bare (by decide)), by rw [List.length_append]; simp; omega, by rw [List.length_append, ocs_app]; exact own_mono hown3 (by omega), ((into HBW.out hb1).alloc (by omega) _).trans (hb3.mono (by omega))⟩
  ·go_enter Tryd.func32, Tryd.ntmps32
   go_wp2_with (go_at_call 14; (with_reducible refine (PK.out _).mono ?_); rintro e w' ⟨rfl, rfl⟩)
   all_goals (first | (exfalso; omega) | skip)
   rw [← HW0.out]
   refine (IN0.out _ (Below.refl _ _)).mono ?_
   rintro e w1 ⟨v1, l1, rfl, h1, h2, h3, hb1⟩
   have hz1 := hb1.size
   have hrd := one_rd w1 ⟨11, ⟨0, 0, ⟨#[]⟩⟩, ⟨#[]⟩⟩ w1.heap.size rfl
   have HH := hid (And.intro h1 (And.intro h2 (And.intro h3 hb1)))
   have HRD := hid hrd
   clear h1 h3 hb1 hrd
   go_wp2_with (at_builtin; refine apg (w1.alloc (.cells #[.int .i64 11, .int .i64 0, .int .i64 0, .string ⟨#[]⟩, .string ⟨#[]⟩] 54)) 1 rfl _ _ 31 54 _ 5 56 Tryd.underlying31 Tryd.info54 rfl (by omega) rfl (HH.out.2.2.1.alloc _) (by simp; omega) (by omega) (by unfold maxLen; omega) (ocs_one _) HRD.out rfl rfl ?_; intro v3 w3 hown3 hb3 hg3)
   go_ret
   obtain ⟨h1, _, h3, hb1⟩ := HH.out
   exact ⟨v3, l1 ++ [⟨11, ⟨0, 0, ⟨#[]⟩⟩, ⟨#[]⟩⟩], rfl, whl_un h1 (op_bare (k := 11) (by omega) (by omega)) (by decide) (sml_bare (by decide)), by rw [List.length_append]; simp; omega, by rw [List.length_append, ocs_app]; exact own_mono hown3 (by omega), ((into HBW.out hb1).alloc (by omega) _).trans (hb3.mono (by omega))⟩
 ·have h5' : (1 + q == 5) = false := by simp; omega
  have h11' : (1 + q == 11) = false := by simp; omega
  have hw : wks (1 + q) = 2 := wks_two (by omega) (by omega) (by omega)
  have HWK := hid hw
  clear hw
  go_enter Tryd.func32, Tryd.ntmps32
  go_wp2_with (go_at_call 14; (with_reducible refine (PK.out _).mono ?_); rintro e w' ⟨rfl, rfl⟩)
  all_goals (first | (exfalso; omega) | skip)
  rw [← HW0.out]
  refine (IN0.out _ (Below.refl _ _)).mono ?_
  rintro e w1 ⟨v1, l1, rfl, h1, h2, h3, hb1⟩
  have hz1 := hb1.size
  have HH := hid (And.intro h1 (And.intro h2 (And.intro h3 hb1)))
  clear h1 h3 hb1
  go_wp2_with fail
  refine (IN1.out _ HH.out.2.2.2).mono ?_
  rintro e w2 ⟨v2, l2, rfl, g1, g2, g3, hb2⟩
  have hz2 := hb2.size
  have hrd1 := Rd.own g3
  have hown := own_below HH.out.2.2.1 hb2
  have HG := hid (And.intro g1 (And.intro g2 (And.intro g3 hb2)))
  have HR1 := hid hrd1
  have HO := hid hown
  clear g1 g3 hb2 hrd1 hown
  go_wp2_with (first | (at_builtin; refine apg w2 l2.length rfl _ _ 31 54 _ 5 56 Tryd.underlying31 Tryd.info54 rfl (by omega) rfl HO.out (by omega) (by omega) (by unfold maxLen; omega) (ocs_one _) HR1.out rfl rfl ?_; intro v3 w3 hown3 hb3 hg3; have hz3 := hb3.size; have HO3 := hid hown3; have HB3 := hid hb3; have HRD := hid (one_rd w3 ⟨1 + q, ⟨0, 0, ⟨#[]⟩⟩, ⟨#[]⟩⟩ w3.heap.size rfl); clear hown3 hb3 hg3) | (at_builtin; refine apg (w3.alloc (.cells #[.int .i64 (1 + q), .int .i64 0, .int .i64 0, .string ⟨#[]⟩, .string ⟨#[]⟩] 54)) 1 rfl _ _ 31 54 _ 5 56 Tryd.underlying31 Tryd.info54 rfl (by omega) rfl (HO3.out.alloc _) (by simp; omega) (by omega) (by unfold maxLen; omega) (ocs_one _) HRD.out rfl rfl ?_; intro v5 w5 hown5 hb5 hg5))
  go_ret
  obtain ⟨h1, _, h3, hb1⟩ := HH.out
  obtain ⟨g1, _, g3, hb2⟩ := HG.out
  have hb12 := into (into HBW.out hb1) hb2
  refine ⟨v5, l1 ++ l2 ++ [⟨1 + q, ⟨0, 0, ⟨#[]⟩⟩, ⟨#[]⟩⟩], rfl, whl_bin h1 g1 (op_bare (k := 1 + q) (by omega) (by omega)) HWK.out (sml_bare (by omega)), by rw [List.length_append, List.length_append]; simp; omega, ?_, ((hb12.trans (HB3.out.mono (by omega))).alloc (by omega) _).trans (hb5.mono (by omega))⟩
  rw [List.length_append, List.length_append, ocs_app, ocs_app]
  exact own_mono hown5 (by omega)
theorem opsAt_any : ∀ f, f ≤ 3 → OpsAt f
 | 0, _ => ops_zero
 | f + 1, h => ops_succ f (by omega) (opsAt_any f (by omega))
theorem ops_any3 (w : World) (k n : Int) (s : ByteArray) (ao : Option Addr) (m cap : Nat) (hk : Rn k) (hn : Rn n) (hs : s.size ≤ maxLen) (ht : TwS w 3 (.slice ao m cap)) :
  Calls Tryd.prog 23 #[.agg #[.int .i64 k, .int .i64 n, .string s, .slice ao m cap]] w (OpsIs 15 w) := by
 have hb : Below w.heap.size w (w.alloc (.cells #[.int .i64 k, .int .i64 n, .string s, .slice ao m cap] 25)) := (Below.refl _ _).alloc (Nat.le_refl _) _
 have HC := hid (opsAt_any 3 (Nat.le_refl _) (w.alloc (.cells #[.int .i64 k, .int .i64 n, .string s, .slice ao m cap] 25)) k n 0 s ao m cap hk hn hs (ht.below hb) (.inl (by omega)))
 have HB := hid hb
 clear hb hk hn hs ht
 go_enter Tryd.func23, Tryd.ntmps23
 go_wp2_with fail
 refine HC.out.mono ?_
 rintro e w1 ⟨v1, l1, rfl, h1, h2, h3, hb1⟩
 have HH := hid (OpsIs.from (w := w) ⟨v1, l1, rfl, h1, h2, h3, hb1⟩ HB.out)
 clear h1 h2 h3 hb1
 go_wp2_with fail
 go_ret
 exact HH.out
end Go.Proofs.YtdeollmeljaaoaaDoor.tw
