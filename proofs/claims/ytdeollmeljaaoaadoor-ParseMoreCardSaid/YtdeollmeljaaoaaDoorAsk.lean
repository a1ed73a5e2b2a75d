import Derived.Test.YtdeollmeljaaoaaDoorAqk
set_option linter.unusedVariables false
set_option linter.unusedSimpArgs false
set_option maxHeartbeats 8000000
set_option maxRecDepth 100000
open Go.ChangeAt Go.ChangeShapes Go.RowKit Go.WideShapes
open Go.Lib (hid)
namespace Go.Proofs.YtdeollmeljaaoaaDoor.rd
open Go.Proofs.YtdeollmeljaaoaaDoor.cs
section
variable {B S E : Nat} {a : Option Addr} {n c : Nat} {L : List Tk}
theorem choose_any {w : World} {k : Nat} {p : Ps} (h : Ss w B S E a n c L k sq0 p) :
  Calls Tryd.prog 55 #[.pointer (some ⟨B, 0, none⟩), .pointer (some ⟨S, 0, none⟩)] w (Sx w B S E a n c L (chooseF L n k sq0)) := by
 by_cases h1 : mayB L k sStar = true
 ·exact choose_star h h1
 ·have h1 : mayB L k sStar = false := by simpa using h1
  by_cases h2 : mayB L k sCOUNT = true
  ·exact choose_count h h1 h2
  ·exact choose_names h h1 (by simpa using h2)
theorem ssmust {w W : World} {k : Nat} {s : Sq} {p : Ps} (h : Ss w B S E a n c L k s p) (ts : List ByteArray) (hW : W = w.alloc (.cells (ts.map Value.string).toArray 9)) (h0 : 0 < ts.length) (h9 : ts.length ≤ 9) :
  Calls Tryd.prog 52 #[.pointer (some ⟨B, 0, none⟩), .slice (some ⟨w.heap.size, 0, none⟩) ts.length ts.length] W fun e w' => But B w w' ∧ match mustF L n k ts with
   | .inl f => e = flt f.1 f.2
   | .inr k' => e = .returned (.tuple #[]) ∧ Ss w' B S E a n c L k' s p := by
 have hb : Below w.heap.size w W := by rw [hW]; exact (Below.refl _ _).alloc (Nat.le_refl _) _
 have hc := h.later hb
 refine (smust hc.rs (b := w.heap.size) (ts := ts) (by rw [hW]; exact new0 _ _) (by have := h.rs.lt; omega) h0 h9).mono ?_
 rintro e w' ⟨h1, h2⟩
 refine ⟨(But.of hb).trans h1, ?_⟩
 cases hm : mustF L n k ts with
 | inl f =>
  rw [hm] at h2
  exact h2
 | inr k' =>
  rw [hm] at h2
  exact ⟨h2.1, hc.go h1 h2.2⟩
theorem ssname {w : World} {k : Nat} {s : Sq} {p : Ps} (h : Ss w B S E a n c L k s p) :
  Calls Tryd.prog 53 #[.pointer (some ⟨B, 0, none⟩)] w fun e w' => But B w w' ∧ match nameG L n k with
   | .inl f => e = flt f.1 f.2
   | .inr (t, k') => e = .returned (.string t) ∧ Ss w' B S E a n c L k' s p := by
 refine (sname h.rs).mono ?_
 rintro e w' ⟨h1, h2⟩
 refine ⟨h1, ?_⟩
 rcases hm : nameG L n k with f | ⟨t, k'⟩
 ·rw [hm] at h2
  exact h2
 ·rw [hm] at h2
  exact ⟨h2.1, h.go h1 h2.2⟩
def Xq (w : World) (B S E : Nat) (a : Option Addr) (n c : Nat) (L : List Tk) (s : Sq) (p : Ps) (r : F ⊕ (Nat × List Oq)) (e : Ending) (w' : World) : Prop :=
 But B w w' ∧ match r with
  | .inl f => e = flt f.1 f.2
  | .inr (k', os') => ∃ va vc, e = .returned (.slice va os'.length vc) ∧ w'.ownsRow E 54 5 (.slice va os'.length vc) os'.length (ocs os') ∧ Ss w' B S E a n c L k' s p
theorem xq_of {w : World} {k : Nat} {s : Sq} {p : Ps} (h : Ss w B S E a n c L k s p) {f : FuncId} {r : F ⊕ (Nat × List Oq)} (hc : Calls Tryd.prog f #[.pointer (some ⟨B, 0, none⟩)] w (Xp w B a n c L r)) : Calls Tryd.prog f #[.pointer (some ⟨B, 0, none⟩)] w (Xq w B S E a n c L s p r) := by
 refine hc.mono ?_
 rintro e w' ⟨h1, h2⟩
 refine ⟨h1, ?_⟩
 rcases r with f | ⟨k', os'⟩
 ·exact h2
 ·obtain ⟨va, vc, rfl, ho, -, hr⟩ := h2
  exact ⟨va, vc, rfl, own_mono ho h.le, h.go h1 hr⟩
theorem update_any {w0 : World} {k : Nat} {p : Ps} (h : Ss w0 B S E a n c L k sq0 p) :
  Calls Tryd.prog 56 #[.pointer (some ⟨B, 0, none⟩), .pointer (some ⟨S, 0, none⟩)] w0 (Sx w0 B S E a n c L (updateF L n k sq0)) := by
 have h : Ss w0 B S E a n c L k (⟨0, ⟨#[]⟩, [], [], [], false, [], ⟨#[]⟩, false, -1, ⟨#[]⟩, []⟩ : Sq) p := h
 obtain ⟨r, hr⟩ : ∃ r, r = updateF L n k sq0 := ⟨_, rfl⟩
 rw [← hr]
 have HR0 : Hid (r = bd (nameG L n k) fun x => bd (mustF L n x.2 [sSET]) fun k => bd (nameG L n k) fun y => bd (mustF L n y.2 [sEq]) fun k => bd (expF L n k) fun z => bd (whereF L n z.1) fun u => (.inr (u.1, (⟨5, x.1, [], [], [], false, u.2, ⟨#[]⟩, false, -1, y.1, z.2⟩ : Sq)) : F ⊕ (Nat × Sq))) := hr
 have HS0 := hid h
 have HN0 : Hid (ButS B S E w0 w0) := ButS.refl _ _ _ _
 clear hr h
 go_enter Tryd.func56, Tryd.ntmps56
 obtain ⟨q1, hq1⟩ : ∃ q, q = nameG L n k := ⟨_, rfl⟩
 have HQ1 : Hid (r = bd q1 fun x => bd (mustF L n x.2 [sSET]) fun k => bd (nameG L n k) fun y => bd (mustF L n y.2 [sEq]) fun k => bd (expF L n k) fun z => bd (whereF L n z.1) fun u => (.inr (u.1, (⟨5, x.1, [], [], [], false, u.2, ⟨#[]⟩, false, -1, y.1, z.2⟩ : Sq)) : F ⊕ (Nat × Sq))) := by
  show _ = _
  rw [HR0.out, hq1]
 have HC1 := ssname HS0.out
 rw [← hq1] at HC1
 have HC1 := hid HC1
 clear hq1 HR0
 go_wp2_with fail
 refine HC1.out.mono ?_
 rintro e w1 ⟨hN, h1⟩
 have HN1 := hid (HN0.out.trans (hN.toS S E))
 clear hN HC1
 rcases q1 with f0 | ⟨t1, k1⟩
 ·obtain rfl : e = flt f0.1 f0.2 := h1
  obtain rfl : r = .inl f0 := HQ1.out
  exact ⟨rfl, HN1.out, rfl⟩
 ·obtain ⟨rfl, hx⟩ := h1
  have HS1 := hid hx
  have HR1 := hid (show r = bd (mustF L n k1 [sSET]) fun k => bd (nameG L n k) fun y => bd (mustF L n y.2 [sEq]) fun k => bd (expF L n k) fun z => bd (whereF L n z.1) fun u => (.inr (u.1, (⟨5, t1, [], [], [], false, u.2, ⟨#[]⟩, false, -1, y.1, z.2⟩ : Sq)) : F ⊕ (Nat × Sq)) from HQ1.out)
  clear hx HQ1
  have z0 : w1.cell? ⟨S, 0, none⟩ = some (.int .i64 0) := (HS1.out.x 0 (by omega)).1
  have sf0 := (HS1.out.x 0 (by omega)).2
  have z1 : w1.cell? ⟨S, 1, none⟩ = some (.string ⟨#[]⟩) := (HS1.out.x 1 (by omega)).1
  have sf1 := (HS1.out.x 1 (by omega)).2
  go_upto_region 1 with (fail)
  refine code_nm (fun w2 hv => ?_)
  have hx : Ss w2 B S E a n c L k1 (⟨5, t1, [], [], [], false, [], ⟨#[]⟩, false, -1, ⟨#[]⟩, []⟩ : Sq) p ∧ But S w1 w2 := by
   have i1 := HS1.out.put (s' := (⟨5, ⟨#[]⟩, [], [], [], false, [], ⟨#[]⟩, false, -1, ⟨#[]⟩, []⟩ : Sq)) (p' := p) 0 (.int .i64 5) rfl (HS1.out.own.as rfl rfl rfl rfl rfl)
   have i2 := i1.put (s' := (⟨5, t1, [], [], [], false, [], ⟨#[]⟩, false, -1, ⟨#[]⟩, []⟩ : Sq)) (p' := p) 1 (.string t1) rfl (i1.own.as rfl rfl rfl rfl rfl)
   rw [hv]
   exact ⟨i2, (But.set _ S 0 _).trans (But.set _ S 1 _)⟩
  have HN2 := hid (HN1.out.trans (hx.2.toS' B E))
  have HS2 := hid hx.1
  have HR2 := hid HR1.out
  clear hx hv HR1 z0 sf0 z1 sf1
  obtain ⟨q3, hq3⟩ : ∃ q, q = mustF L n k1 [sSET] := ⟨_, rfl⟩
  have HQ3 : Hid (r = bd q3 fun k => bd (nameG L n k) fun y => bd (mustF L n y.2 [sEq]) fun k => bd (expF L n k) fun z => bd (whereF L n z.1) fun u => (.inr (u.1, (⟨5, t1, [], [], [], false, u.2, ⟨#[]⟩, false, -1, y.1, z.2⟩ : Sq)) : F ⊕ (Nat × Sq))) := by
   show _ = _
   rw [HR2.out, hq3]
  have HMU3 : Hid (Calls Tryd.prog 52 #[.pointer (some ⟨B, 0, none⟩), .slice (some ⟨w2.heap.size, 0, none⟩) 1 1] (w2.alloc (.cells #[.string sSET] 9)) fun e w' => But B w2 w' ∧ match (generalizing := false) q3 with
   | .inl f => e = flt f.1 f.2
   | .inr k' => e = .returned (.tuple #[]) ∧ Ss w' B S E a n c L k' (⟨5, t1, [], [], [], false, [], ⟨#[]⟩, false, -1, ⟨#[]⟩, []⟩ : Sq) p) := by
   rw [hq3]
   exact ssmust HS2.out [sSET] rfl (by simp) (by simp)
  clear hq3 HR2
  go_wp2_with fail
  refine HMU3.out.mono ?_
  rintro e w3 ⟨hN, h1⟩
  have HN3 := hid (HN2.out.trans (hN.toS S E))
  clear hN HMU3
  rcases q3 with f0 | k3
  ·obtain rfl : e = flt f0.1 f0.2 := h1
   obtain rfl : r = .inl f0 := HQ3.out
   exact ⟨rfl, HN3.out, rfl⟩
  ·obtain ⟨rfl, hx⟩ := h1
   have HS3 := hid hx
   have HR3 := hid (show r = bd (nameG L n k3) fun y => bd (mustF L n y.2 [sEq]) fun k => bd (expF L n k) fun z => bd (whereF L n z.1) fun u => (.inr (u.1, (⟨5, t1, [], [], [], false, u.2, ⟨#[]⟩, false, -1, y.1, z.2⟩ : Sq)) : F ⊕ (Nat × Sq)) from HQ3.out)
   clear hx HQ3
   obtain ⟨q4, hq4⟩ : ∃ q, q = nameG L n k3 := ⟨_, rfl⟩
   have HQ4 : Hid (r = bd q4 fun x => bd (mustF L n x.2 [sEq]) fun k => bd (expF L n k) fun z => bd (whereF L n z.1) fun u => (.inr (u.1, (⟨5, t1, [], [], [], false, u.2, ⟨#[]⟩, false, -1, x.1, z.2⟩ : Sq)) : F ⊕ (Nat × Sq))) := by
    show _ = _
    rw [HR3.out, hq4]
   have HC4 := ssname HS3.out
   rw [← hq4] at HC4
   have HC4 := hid HC4
   clear hq4 HR3
   go_wp2_with fail
   refine HC4.out.mono ?_
   rintro e w4 ⟨hN, h1⟩
   have HN4 := hid (HN3.out.trans (hN.toS S E))
   clear hN HC4
   rcases q4 with f0 | ⟨t4, k4⟩
   ·obtain rfl : e = flt f0.1 f0.2 := h1
    obtain rfl : r = .inl f0 := HQ4.out
    exact ⟨rfl, HN4.out, rfl⟩
   ·obtain ⟨rfl, hx⟩ := h1
    have HS4 := hid hx
    have HR4 := hid (show r = bd (mustF L n k4 [sEq]) fun k => bd (expF L n k) fun z => bd (whereF L n z.1) fun u => (.inr (u.1, (⟨5, t1, [], [], [], false, u.2, ⟨#[]⟩, false, -1, t4, z.2⟩ : Sq)) : F ⊕ (Nat × Sq)) from HQ4.out)
    clear hx HQ4
    have z0 : w4.cell? ⟨S, 10, none⟩ = some (.string ⟨#[]⟩) := (HS4.out.x 10 (by omega)).1
    have sf0 := (HS4.out.x 10 (by omega)).2
    go_upto_region 3 with (fail)
    refine code_nm (fun w5 hv => ?_)
    have hx : Ss w5 B S E a n c L k4 (⟨5, t1, [], [], [], false, [], ⟨#[]⟩, false, -1, t4, []⟩ : Sq) p ∧ But S w4 w5 := by
     have i1 := HS4.out.put (s' := (⟨5, t1, [], [], [], false, [], ⟨#[]⟩, false, -1, t4, []⟩ : Sq)) (p' := p) 10 (.string t4) rfl (HS4.out.own.as rfl rfl rfl rfl rfl)
     rw [hv]
     exact ⟨i1, But.set _ S 10 _⟩
    have HN5 := hid (HN4.out.trans (hx.2.toS' B E))
    have HS5 := hid hx.1
    have HR5 := hid HR4.out
    clear hx hv HR4 z0 sf0
    obtain ⟨q6, hq6⟩ : ∃ q, q = mustF L n k4 [sEq] := ⟨_, rfl⟩
    have HQ6 : Hid (r = bd q6 fun k => bd (expF L n k) fun z => bd (whereF L n z.1) fun u => (.inr (u.1, (⟨5, t1, [], [], [], false, u.2, ⟨#[]⟩, false, -1, t4, z.2⟩ : Sq)) : F ⊕ (Nat × Sq))) := by
     show _ = _
     rw [HR5.out, hq6]
    have HMU6 : Hid (Calls Tryd.prog 52 #[.pointer (some ⟨B, 0, none⟩), .slice (some ⟨w5.heap.size, 0, none⟩) 1 1] (w5.alloc (.cells #[.string sEq] 9)) fun e w' => But B w5 w' ∧ match (generalizing := false) q6 with
     | .inl f => e = flt f.1 f.2
     | .inr k' => e = .returned (.tuple #[]) ∧ Ss w' B S E a n c L k' (⟨5, t1, [], [], [], false, [], ⟨#[]⟩, false, -1, t4, []⟩ : Sq) p) := by
     rw [hq6]
     exact ssmust HS5.out [sEq] rfl (by simp) (by simp)
    clear hq6 HR5
    go_wp2_with fail
    refine HMU6.out.mono ?_
    rintro e w6 ⟨hN, h1⟩
    have HN6 := hid (HN5.out.trans (hN.toS S E))
    clear hN HMU6
    rcases q6 with f0 | k6
    ·obtain rfl : e = flt f0.1 f0.2 := h1
     obtain rfl : r = .inl f0 := HQ6.out
     exact ⟨rfl, HN6.out, rfl⟩
    ·obtain ⟨rfl, hx⟩ := h1
     have HS6 := hid hx
     have HR6 := hid (show r = bd (expF L n k6) fun z => bd (whereF L n z.1) fun u => (.inr (u.1, (⟨5, t1, [], [], [], false, u.2, ⟨#[]⟩, false, -1, t4, z.2⟩ : Sq)) : F ⊕ (Nat × Sq)) from HQ6.out)
     clear hx HQ6
     obtain ⟨q7, hq7⟩ : ∃ q, q = expF L n k6 := ⟨_, rfl⟩
     have HQ7 : Hid (r = bd q7 fun y => bd (whereF L n y.1) fun u => (.inr (u.1, (⟨5, t1, [], [], [], false, u.2, ⟨#[]⟩, false, -1, t4, y.2⟩ : Sq)) : F ⊕ (Nat × Sq))) := by
      show _ = _
      rw [HR6.out, hq7]
     have HC7 := xq_of HS6.out (exp_any w6 k6 HS6.out.rs)
     rw [← hq7] at HC7
     have HC7 := hid HC7
     clear hq7 HR6
     go_wp2_with fail
     refine HC7.out.mono ?_
     rintro e w7 ⟨hN, h1⟩
     have HN7 := hid (HN6.out.trans (hN.toS S E))
     have HB7 := hid hN
     clear hN HC7
     rcases q7 with f0 | ⟨k7, os7⟩
     ·obtain rfl : e = flt f0.1 f0.2 := h1
      obtain rfl : r = .inl f0 := HQ7.out
      exact ⟨rfl, HN7.out, rfl⟩
     ·obtain ⟨va7, vc7, rfl, ho, hx⟩ := h1
      have HS7 := hid hx
      have HO7 := hid ho
      have HR7 := hid (show r = bd (whereF L n k7) fun u => (.inr (u.1, (⟨5, t1, [], [], [], false, u.2, ⟨#[]⟩, false, -1, t4, os7⟩ : Sq)) : F ⊕ (Nat × Sq)) from HQ7.out)
      clear hx HQ7 ho
      obtain ⟨q8, hq8⟩ : ∃ q, q = whereF L n k7 := ⟨_, rfl⟩
      have HQ8 : Hid (r = bd q8 fun y => (.inr (y.1, (⟨5, t1, [], [], [], false, y.2, ⟨#[]⟩, false, -1, t4, os7⟩ : Sq)) : F ⊕ (Nat × Sq))) := by
       show _ = _
       rw [HR7.out, hq8]
      have HC8 := xq_of HS7.out (where_any w7 k7 HS7.out.rs)
      rw [← hq8] at HC8
      have HC8 := hid HC8
      clear hq8 HR7
      go_wp2_with fail
      refine HC8.out.mono ?_
      rintro e w8 ⟨hN, h1⟩
      have HN8 := hid (HN7.out.trans (hN.toS S E))
      have HB8 := hid hN
      clear hN HC8
      rcases q8 with f0 | ⟨k8, os8⟩
      ·obtain rfl : e = flt f0.1 f0.2 := h1
       obtain rfl : r = .inl f0 := HQ8.out
       exact ⟨rfl, HN8.out, rfl⟩
      ·obtain ⟨va8, vc8, rfl, ho, hx⟩ := h1
       have HS8 := hid hx
       have HO8 := hid ho
       have HR8 := hid (show r = (.inr (k8, (⟨5, t1, [], [], [], false, os8, ⟨#[]⟩, false, -1, t4, os7⟩ : Sq)) : F ⊕ (Nat × Sq)) from HQ8.out)
       clear hx HQ8 ho
       have hO7 := own_far HO7.out (w' := w8) (fun g hg => HB8.out.block g (HO7.out.lt g hg).2 (by have := (HO7.out.lt g hg).1; have := HS8.out.lb; omega))
       have HO7 := hid hO7
       clear hO7 HB8
       have z0 : w8.cell? ⟨S, 11, none⟩ = some (.slice p.a11 p.n11 p.c11) := (HS8.out.x 11 (by omega)).1
       have sf0 := (HS8.out.x 11 (by omega)).2
       have z1 : w8.cell? ⟨S, 6, none⟩ = some (.slice p.a6 p.n6 p.c6) := (HS8.out.x 6 (by omega)).1
       have sf1 := (HS8.out.x 6 (by omega)).2
       go_wp2_with fail
       refine body_nm (fun w9 hv => ?_)
       have hx : Ss w9 B S E a n c L k8 (⟨5, t1, [], [], [], false, os8, ⟨#[]⟩, false, -1, t4, os7⟩ : Sq) { p with a11 := va7, n11 := os7.length, c11 := vc7, a6 := va8, n6 := os8.length, c6 := vc8 } ∧ But S w8 w9 := by
        have i1 := HS8.out.put (s' := (⟨5, t1, [], [], [], false, [], ⟨#[]⟩, false, -1, t4, os7⟩ : Sq)) (p' := { p with a11 := va7, n11 := os7.length, c11 := vc7 }) 11 (.slice va7 os7.length vc7) rfl (⟨HS8.out.own.o2, HS8.out.own.o3, HS8.out.own.o4, HS8.out.own.o6, HO7.out⟩)
        have i2 := i1.put (s' := (⟨5, t1, [], [], [], false, os8, ⟨#[]⟩, false, -1, t4, os7⟩ : Sq)) (p' := { p with a11 := va7, n11 := os7.length, c11 := vc7, a6 := va8, n6 := os8.length, c6 := vc8 }) 6 (.slice va8 os8.length vc8) rfl (⟨i1.own.o2, i1.own.o3, i1.own.o4, ownsRow_setCell_below HO8.out i1.ls _, i1.own.o11⟩)
        rw [hv]
        exact ⟨i2, (But.set _ S 11 _).trans (But.set _ S 6 _)⟩
       have HN9 := hid (HN8.out.trans (hx.2.toS' B E))
       have HS9 := hid hx.1
       have HR9 := hid HR8.out
       clear hx hv HR8 z0 sf0 z1 sf1
       obtain rfl : r = .inr (k8, (⟨5, t1, [], [], [], false, os8, ⟨#[]⟩, false, -1, t4, os7⟩ : Sq)) := HR9.out
       go_returns
       exact ⟨HN9.out, rfl, _, HS9.out⟩
end
open Go.Proofs.YtdeollmeljaaoaaDoor.cs
def endS (n : Nat) (x : Nat × Sq) : F ⊕ Sq := if x.2.k = 0 ∨ x.1 < n then .inl (fl n x.1 6) else .inr x.2
theorem k_create {L : List Tk} {n k : Nat} {s : Sq} {x : Nat × Sq} (h : createF L n k s = .inr x) : x.2.k ≠ 0 := by
 obtain ⟨_, _, h⟩ := bd_ok h
 obtain ⟨_, _, h⟩ := bd_ok h
 obtain ⟨_, _, h⟩ := bd_ok h
 obtain ⟨_, _, h⟩ := bd_ok h
 obtain ⟨_, _, h⟩ := bd_ok h
 cases h
 show (1 : Int) ≠ 0
 omega
theorem k_insert {L : List Tk} {n k : Nat} {s : Sq} {x : Nat × Sq} (h : insertF L n k s = .inr x) : x.2.k ≠ 0 := by
 obtain ⟨_, _, h⟩ := bd_ok h
 obtain ⟨_, _, h⟩ := bd_ok h
 obtain ⟨_, _, h⟩ := bd_ok h
 obtain ⟨_, _, h⟩ := bd_ok h
 obtain ⟨_, _, h⟩ := bd_ok h
 cases h
 show (3 : Int) ≠ 0
 omega
theorem k_choose {L : List Tk} {n k : Nat} {s : Sq} {x : Nat × Sq} (h : chooseF L n k s = .inr x) : x.2.k ≠ 0 := by
 obtain ⟨_, _, h⟩ := bd_ok h
 obtain ⟨_, _, h⟩ := bd_ok h
 obtain ⟨_, _, h⟩ := bd_ok h
 obtain ⟨_, _, h⟩ := bd_ok h
 obtain ⟨_, _, h⟩ := bd_ok h
 obtain ⟨_, _, h⟩ := bd_ok h
 cases h
 show (4 : Int) ≠ 0
 omega
theorem k_update {L : List Tk} {n k : Nat} {s : Sq} {x : Nat × Sq} (h : updateF L n k s = .inr x) : x.2.k ≠ 0 := by
 obtain ⟨_, _, h⟩ := bd_ok h
 obtain ⟨_, _, h⟩ := bd_ok h
 obtain ⟨_, _, h⟩ := bd_ok h
 obtain ⟨_, _, h⟩ := bd_ok h
 obtain ⟨_, _, h⟩ := bd_ok h
 obtain ⟨_, _, h⟩ := bd_ok h
 cases h
 show (5 : Int) ≠ 0
 omega
abbrev p0 : Ps := ⟨none, 0, 0, none, 0, 0, none, 0, 0, none, 0, 0, none, 0, 0⟩
abbrev z12 : Array Value := #[.int .i64 0, .string ⟨#[]⟩, .slice none 0 0, .slice none 0 0, .slice none 0 0, .bool false, .slice none 0 0, .string ⟨#[]⟩, .bool false, .int .i64 0, .string ⟨#[]⟩, .slice none 0 0]
def Sy (w : World) (B : Nat) (r : F ⊕ Sq) (e : Ending) (w' : World) : Prop :=
 But B w w' ∧ match r with
  | .inl f => e = flt f.1 f.2
  | .inr s => ∃ p, e = .returned (stV s p) ∧ StO w' w.heap.size s p
section
variable {B S E : Nat} {a : Option Addr} {n c : Nat} {L : List Tk}
theorem ssmay {w : World} {k : Nat} {s : Sq} {p : Ps} (h : Ss w B S E a n c L k s p) (t : ByteArray) :
  Calls Tryd.prog 50 #[.pointer (some ⟨B, 0, none⟩), .string t] w fun e w' => e = .returned (.bool (mayB L k t)) ∧ But B w w' ∧ Ss w' B S E a n c L (if mayB L k t then k + 1 else k) s p := by
 refine (smay h.rs t).mono ?_
 rintro e w' ⟨rfl, h1, h2⟩
 exact ⟨rfl, h1, h.go h1 h2⟩
theorem ss_begin {w W : World} (h : Rs w B a n c L 0) (hW : W = (w.alloc (.cells z12 33)).alloc (.cells (stC sq0 p0) 33)) :
  Ss W B (w.heap.size + 1) (w.heap.size + 2) a n c L 0 sq0 p0 ∧ Below w.heap.size w W ∧ W.heap[w.heap.size]? = some (.cells z12 33 (0, 0)) := by
 have hb : Below w.heap.size w W := by rw [hW]; exact ((Below.refl _ _).alloc (Nat.le_refl _) _).alloc (by simp) _
 have hlB := h.lt
 have ht : ∀ x, a = some x → 0 < n → x.block < w.heap.size := fun x e hn => by
  obtain ⟨⟨ov, hr⟩, _⟩ := h
  subst e
  exact Rd.blk hr.row (by omega) x c rfl hn
 have ho := h.off
 refine ⟨⟨h.later hb, by rw [hW]; exact new1 _ _ _, ⟨World.ownsRow_nil _ _ _ _, World.ownsRow_nil _ _ _ _, World.ownsRow_nil _ _ _ _, World.ownsRow_nil _ _ _ _, World.ownsRow_nil _ _ _ _⟩, by omega, fun x e hn => by have := ht x e hn; omega, ?_, by omega, by omega, by rw [hW]; simp⟩, hb, by rw [hW]; exact (Below.heap_alloc _ _ _ (by simp)).trans (new0 _ _)⟩
 exact ⟨by have := ho.m; omega, by have := ho.k; omega, by have := ho.d; omega, by have := ho.s; omega, by have := ho.c; omega, by have := ho.x; omega⟩
theorem st_but {w W w' : World} (h : Below w.heap.size w W) (hN : ButS B (w.heap.size + 1) (w.heap.size + 2) W w') : But B w w' :=
 ⟨hN.os.trans h.os, hN.tape.trans h.tape, hN.output.trans h.output, Nat.le_trans h.size hN.size, fun k hk hn => (hN.block k (Nat.lt_of_lt_of_le hk h.size) hn (by omega) (.inl (by omega))).trans (h.block k hk)⟩
theorem but_tail {w w1 w2 : World} (h : But B w w1) (hb : Below w.heap.size w1 w2) : But B w w2 :=
 ⟨hb.os.trans h.os, hb.tape.trans h.tape, hb.output.trans h.output, Nat.le_trans h.size hb.size, fun k hk hn => (hb.block k hk).trans (h.block k hk hn)⟩
theorem StO.tail {w1 w2 : World} {R : Nat} {s : Sq} {p : Ps} (h : StO w1 (R + 2) s p) (hb : ∀ k, k ≠ R → k < w1.heap.size → w2.heap[k]? = w1.heap[k]?) : StO w2 R s p := by
 have h1 : StO w2 (R + 2) s p := h.far fun k hk hl => hb k (by omega) hl
 exact ⟨own_mono h1.o2 (by omega), own_mono h1.o3 (by omega), own_mono h1.o4 (by omega), own_mono h1.o6 (by omega), own_mono h1.o11 (by omega)⟩
theorem set12_far {w : World} {R : Nat} (y0 y1 y2 y3 y4 y5 y6 y7 y8 y9 y10 y11 : Value) (k : Nat) (hk : k ≠ R) : (World.setCell (World.setCell (World.setCell (World.setCell (World.setCell (World.setCell (World.setCell (World.setCell (World.setCell (World.setCell (World.setCell (World.setCell w ⟨R, 0, none⟩ y0) ⟨R, 1, none⟩ y1) ⟨R, 2, none⟩ y2) ⟨R, 3, none⟩ y3) ⟨R, 4, none⟩ y4) ⟨R, 5, none⟩ y5) ⟨R, 6, none⟩ y6) ⟨R, 7, none⟩ y7) ⟨R, 8, none⟩ y8) ⟨R, 9, none⟩ y9) ⟨R, 10, none⟩ y10) ⟨R, 11, none⟩ y11).heap[k]? = w.heap[k]? := by
 iterate 12 rw [Below.heap_setCell _ _ _ _ hk]
end
end Go.Proofs.YtdeollmeljaaoaaDoor.rd
