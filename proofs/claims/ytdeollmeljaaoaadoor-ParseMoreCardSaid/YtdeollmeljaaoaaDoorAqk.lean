import Derived.Test.YtdeollmeljaaoaaDoorAok
import Derived.Deep.DeepCutAuto
set_option linter.unusedVariables false
set_option linter.unusedSimpArgs false
set_option maxHeartbeats 8000000
set_option maxRecDepth 100000
open Go.ChangeAt Go.ChangeShapes Go.RowKit Go.WideShapes
open Go.Lib (hid)
namespace Go.Proofs.YtdeollmeljaaoaaDoor.rd
open Go.Proofs.YtdeollmeljaaoaaDoor.cs
section
variable {B S E : Nat} {a : Option Addr} {n c : Nat} {L : List Tk}
theorem choose_count {w : World} {k : Nat} {p : Ps} (h : Ss w B S E a n c L k sq0 p) (h1 : mayB L k sStar = false) (h2 : mayB L k sCOUNT = true) :
  Calls Tryd.prog 55 #[.pointer (some ⟨B, 0, none⟩), .pointer (some ⟨S, 0, none⟩)] w (Sx w B S E a n c L (chooseF L n k sq0)) := by
 have hlS := blk_lt h.box
 have hlB := h.rs.lt
 obtain ⟨r, hr⟩ : ∃ r, r = chooseF L n k sq0 := ⟨_, rfl⟩
 rw [← hr]
 have q0 : w.cell? ⟨S, 0, none⟩ = some (.int .i64 0) := (h.x 0 (by omega)).1
 have sf0 := (h.x 0 (by omega)).2
 have HCL : Hid (∀ W, W = ((w.setCell ⟨S, 0, none⟩ (.int .i64 4)).alloc (.cells #[.pointer (some ⟨B, 0, none⟩)] 91)).alloc (.cells #[.pointer (some ⟨S, 0, none⟩)] 93) → Cl W B S E w.heap.size (w.heap.size + 1) a n c L k (⟨4, ⟨#[]⟩, [], [], [], false, [], ⟨#[]⟩, false, -1, ⟨#[]⟩, []⟩ : Sq) p ∧ ButS B S E w W) := fun W hW => by
  have h1 := h.put (s' := (⟨4, ⟨#[]⟩, [], [], [], false, [], ⟨#[]⟩, false, -1, ⟨#[]⟩, []⟩ : Sq)) (p' := p) 0 (.int .i64 4) rfl (h.own.as rfl rfl rfl rfl rfl)
  obtain ⟨w9, hw9⟩ : ∃ w9, w9 = w.setCell ⟨S, 0, none⟩ (.int .i64 4) := ⟨_, rfl⟩
  have hz : w9.heap.size = w.heap.size := by rw [hw9]; simp
  rw [← hw9] at hW h1
  have hb : Below w9.heap.size w9 W := by rw [hW]; exact ((Below.refl _ _).alloc (Nat.le_refl _) _).alloc (by simp) _
  have hs : ButS B S E w w9 := by rw [hw9]; exact (But.set _ S 0 _).toS' B E
  rw [← hz]
  exact ⟨⟨h1.later hb, by rw [hW]; exact (Below.heap_alloc _ _ _ (by simp)).trans (new0 _ _), by rw [hW]; exact new1 _ _ _, by omega, by omega, by omega, by omega⟩, hs.trans ((But.of hb).toS S E)⟩
 clear h
 go_enter Tryd.func55, Tryd.ntmps55
 go_wp2_with fail
 refine calls_nm (fun w0 hW => ?_)
 obtain ⟨hx, hN⟩ := HCL.out w0 hW
 have HS0 := hid hx
 have HN0 := hid hN
 have hm0 := cmay hx sStar
 clear hW hx hN HCL q0 sf0
 rw [h1] at hm0
 have HM := hid hm0
 clear hm0
 refine HM.out.mono ?_
 rintro e w1 ⟨rfl, hN, hx⟩
 have hx : Cl w1 B S E w.heap.size (w.heap.size + 1) a n c L k (⟨4, ⟨#[]⟩, [], [], [], false, [], ⟨#[]⟩, false, -1, ⟨#[]⟩, []⟩ : Sq) p := hx
 have HN1 := hid (HN0.out.trans (hN.toS S E))
 have HS1 := hid hx
 clear hN hx HM HS0 HN0
 obtain ⟨xp, xq⟩ := HS1.out.xs
 have hm0 := cmay HS1.out sCOUNT
 rw [h2] at hm0
 have HM := hid hm0
 clear hm0
 go_wp2_with fail
 refine HM.out.mono ?_
 rintro e w2 ⟨rfl, hN, hx⟩
 have hx : Cl w2 B S E w.heap.size (w.heap.size + 1) a n c L (k + 1) (⟨4, ⟨#[]⟩, [], [], [], false, [], ⟨#[]⟩, false, -1, ⟨#[]⟩, []⟩ : Sq) p := hx
 have HN2 := hid (HN1.out.trans (hN.toS S E))
 have HS2 := hid hx
 clear hN hx HM xp xq
 have HR2 : Hid (r = bd (mustF L n (k + 1) [sOpen, sStar, sClose]) fun k => fromF L n k (fun t wh ord dn lim => (⟨4, t, [], [], [], true, wh, ord, dn, lim, ⟨#[]⟩, []⟩ : Sq))) := by
  show _ = _
  rw [hr]
  unfold chooseF headF
  rw [if_neg (by simp [h1]), if_pos h2]
  cases mustF L n (k + 1) [sOpen, sStar, sClose] with
  | inl f => rfl
  | inr k0 => exact from_eq _ _ _ _ _
 clear hr h1 h2
 obtain ⟨q3, hq3⟩ : ∃ q, q = mustF L n (k + 1) [sOpen, sStar, sClose] := ⟨_, rfl⟩
 have HQ3 : Hid (r = bd q3 fun k => fromF L n k (fun t wh ord dn lim => (⟨4, t, [], [], [], true, wh, ord, dn, lim, ⟨#[]⟩, []⟩ : Sq))) := by
  show _ = _
  rw [HR2.out, hq3]
  first | done | rfl
 have HMU3 : Hid (Calls Tryd.prog 52 #[.pointer (some ⟨B, 0, none⟩), .slice (some ⟨w2.heap.size, 0, none⟩) 3 3] (w2.alloc (.cells #[.string sOpen, .string sStar, .string sClose] 9)) fun e w' => But B w2 w' ∧ match (generalizing := false) q3 with
  | .inl f => e = flt f.1 f.2
  | .inr k' => e = .returned (.tuple #[]) ∧ Cl w' B S E w.heap.size (w.heap.size + 1) a n c L k' (⟨4, ⟨#[]⟩, [], [], [], false, [], ⟨#[]⟩, false, -1, ⟨#[]⟩, []⟩ : Sq) p) := by
  rw [hq3]
  exact cmust HS2.out [sOpen, sStar, sClose] rfl (by simp) (by simp)
 obtain ⟨xp, xq⟩ := HS2.out.xs
 clear hq3 HR2
 go_wp2_with fail
 refine HMU3.out.mono ?_
 rintro e w3 ⟨hN, h1⟩
 have HN3 := hid (HN2.out.trans (hN.toS S E))
 clear hN HMU3 xp xq
 rcases q3 with f0 | k3
 ·obtain rfl : e = flt f0.1 f0.2 := h1
  obtain rfl : r = .inl f0 := HQ3.out
  exact ⟨rfl, HN3.out, rfl⟩
 ·obtain ⟨rfl, hx⟩ := h1
  have HS3 := hid hx
  have HR3 := hid (show r = fromF L n k3 (fun t wh ord dn lim => (⟨4, t, [], [], [], true, wh, ord, dn, lim, ⟨#[]⟩, []⟩ : Sq)) from HQ3.out)
  clear hx HQ3
  obtain ⟨xp, xq⟩ := HS3.out.xs
  have z0 : w3.cell? ⟨S, 5, none⟩ = some (.bool false) := (HS3.out.ss.x 5 (by omega)).1
  have sf0 := (HS3.out.ss.x 5 (by omega)).2
  go_upto_region 7 with (fail)
  refine code_nm (fun w4 hv => ?_)
  have hx : Cl w4 B S E w.heap.size (w.heap.size + 1) a n c L k3 (⟨4, ⟨#[]⟩, [], [], [], true, [], ⟨#[]⟩, false, -1, ⟨#[]⟩, []⟩ : Sq) p ∧ ButS B S E w w4 := by
   rw [hv]
   exact ⟨HS3.out.put (s' := (⟨4, ⟨#[]⟩, [], [], [], true, [], ⟨#[]⟩, false, -1, ⟨#[]⟩, []⟩ : Sq)) (p' := p) 5 (.bool true) rfl (HS3.out.ss.own.as rfl rfl rfl rfl rfl), HN3.out.trans ((But.set _ S 5 _).toS' B E)⟩
  have HS4 := hid hx.1
  have HN4 := hid hx.2
  have HR4 := hid HR3.out
  clear hx hv HR3 xp xq z0 sf0
  obtain ⟨G, hG⟩ : ∃ G : ByteArray → List Oq → ByteArray → Bool → Int → Sq, G = (fun t wh ord dn lim => (⟨4, t, [], [], [], true, wh, ord, dn, lim, ⟨#[]⟩, []⟩ : Sq)) := ⟨_, rfl⟩
  rw [← hG] at HR4
  have HG := hid hG
  clear hG
  obtain ⟨q5, hq5⟩ : ∃ q, q = mustF L n k3 [sFROM] := ⟨_, rfl⟩
  have HQ5 : Hid (r = bd q5 fun k => bd (nameG L n k) fun x => bd (whereF L n x.2) fun y => ordsF L n y.1 (G x.1 y.2)) := by
   show _ = _
   rw [HR4.out, hq5]
   first | done | rfl
  have HMU5 : Hid (Calls Tryd.prog 52 #[.pointer (some ⟨B, 0, none⟩), .slice (some ⟨w4.heap.size, 0, none⟩) 1 1] (w4.alloc (.cells #[.string sFROM] 9)) fun e w' => But B w4 w' ∧ match (generalizing := false) q5 with
   | .inl f => e = flt f.1 f.2
   | .inr k' => e = .returned (.tuple #[]) ∧ Cl w' B S E w.heap.size (w.heap.size + 1) a n c L k' (⟨4, ⟨#[]⟩, [], [], [], true, [], ⟨#[]⟩, false, -1, ⟨#[]⟩, []⟩ : Sq) p) := by
   rw [hq5]
   exact cmust HS4.out [sFROM] rfl (by simp) (by simp)
  obtain ⟨xp, xq⟩ := HS4.out.xs
  clear hq5 HR4
  go_wp2_with fail
  refine HMU5.out.mono ?_
  rintro e w5 ⟨hN, h1⟩
  have HN5 := hid (HN4.out.trans (hN.toS S E))
  clear hN HMU5 xp xq
  rcases q5 with f0 | k5
  ·obtain rfl : e = flt f0.1 f0.2 := h1
   obtain rfl : r = .inl f0 := HQ5.out
   exact ⟨rfl, HN5.out, rfl⟩
  ·obtain ⟨rfl, hx⟩ := h1
   have HS5 := hid hx
   have HR5 := hid (show r = bd (nameG L n k5) fun x => bd (whereF L n x.2) fun y => ordsF L n y.1 (G x.1 y.2) from HQ5.out)
   clear hx HQ5
   obtain ⟨p5, hp⟩ : ∃ p', p' = p := ⟨_, rfl⟩
   rw [← hp] at HS5
   clear hp
   have HNA : Hid (∀ W, Below w5.heap.size w5 W → Calls Tryd.prog 53 #[.pointer (some ⟨B, 0, none⟩)] W fun e w' => But B W w' ∧ match nameG L n k5 with
    | .inl f => e = flt f.1 f.2
    | .inr (t, k') => e = .returned (.string t) ∧ Rs w' B a n c L k') := fun W hW => sname (HS5.out.ss.rs.later hW)
   have HWH : Hid (∀ W k, Rs W B a n c L k → Calls Tryd.prog 57 #[.pointer (some ⟨B, 0, none⟩)] W (Xp W B a n c L (whereF L n k))) := fun W k hx => where_any W k hx
   obtain ⟨q6, hq6⟩ : ∃ q, q = nameG L n k5 := ⟨_, rfl⟩
   have HQ6 : Hid (r = bd q6 fun x => bd (whereF L n x.2) fun y => ordsF L n y.1 (G x.1 y.2)) := by
    show _ = _
    rw [HR5.out, hq6]
   rw [← hq6] at HNA
   obtain ⟨xp, xq⟩ := HS5.out.xs
   have HQS : Hid (S ≠ w.heap.size + 1) := HS5.out.qs.symm
   have HPS : Hid (S ≠ w.heap.size) := HS5.out.ps.symm
   clear hq6 HR5
   go_wp2_with fail
   refine wpT_begin (S := (fun wx => wx.cell? ⟨w.heap.size + 1, 0, none⟩ = some (.pointer (some ⟨S, 0, none⟩)) ∧ wx.cell? ⟨w.heap.size, 0, none⟩ = some (.pointer (some ⟨B, 0, none⟩)))) [11] (by kernel_rfl) ?_ (fun gH => ?_)
   ·(try dsimp only)
    (first | (with_reducible exact ⟨cell_dr xq, cell_dr xp⟩) | (exact ⟨yq, yp⟩) | (exact ⟨zq, zp⟩) | (exact ⟨(World.cell?_setCell_far _ _ _ _ HQS.out).trans zq, (World.cell?_setCell_far _ _ _ _ HPS.out).trans zp⟩))
   refine qT 0 _ ?_ rfl (.inl ⟨by rfl, ?_⟩) (by assumption) ?_
   rotate_left
   ·(intro w hSw; (try dsimp only at hSw); go_simp)
    all_goals (with_reducible rfl)
   (try simp only [qs, Act.put])
   refine qT 1 _ ?_ rfl (.inl ⟨by rfl, ?_⟩) (by assumption) ?_
   rotate_left
   ·(intro w hSw; (try dsimp only at hSw); go_simp)
    all_goals (with_reducible rfl)
   (try simp only [qs, Act.put])
   refine qT 2 _ ?_ rfl (.inl ⟨by rfl, ?_⟩) (by assumption) ?_
   rotate_left
   ·(intro w hSw; (try dsimp only at hSw); go_simp)
    all_goals (with_reducible rfl)
   (try simp only [qs, Act.put])
   refine qT 4 _ ?_ rfl (.inl ⟨by rfl, ?_⟩) (by assumption) ?_
   rotate_left
   ·(intro w hSw; (try dsimp only at hSw); go_simp)
    all_goals (with_reducible rfl)
   (try simp only [qs, Act.put])
   refine wpAnyT_ready (rs := [3]) (by kernel_rfl) (by simp) ?_
   refine AllReadyT.cons rfl (fun K hK => ?_) AllReadyT.nil
   go_simp
   (go_at_call 53; ((refine (HNA.out _ (Below.refl _ _).drew).mono ?_); rintro e x6 ⟨hN3, h3⟩; have HN60 := hid (HN5.out.trans (((But.of (Below.refl _ _).drew).trans hN3).toS S E)); rcases q6 with f0 | ⟨t6, k60⟩; (focus (obtain rfl : e = flt f0.1 f0.2 := h3; obtain rfl : r = .inl f0 := HQ6.out; exact ⟨rfl, HN60.out, rfl⟩)); obtain ⟨rfl, hs3⟩ := h3; have hx3 := (HS5.out.later (Below.refl _ _).drew).go hN3 hs3; have HS60 := hid hx3; obtain ⟨q6e, hq6e⟩ : ∃ q, q = whereF L n k60 := ⟨_, rfl⟩; have HQ6e : Hid (r = bd q6e fun y => ordsF L n y.1 (G t6 y.2)) := (by show _ = _; rw [hq6e]; exact HQ6.out); have HW3 := HWH.out x6 k60 hs3; rw [← hq6e] at HW3; have HW3 := hid HW3; obtain ⟨yp, yq⟩ := hx3.xs; clear hN3 hs3 hx3 HNA HQ6 hq6e HWH xp xq))
   go_wp2_with fail
   refine hK.out _ _ (fun _ => ?_) (fun gH0 => ?_)
   ·(try dsimp only)
    (first | (with_reducible exact ⟨cell_dr xq, cell_dr xp⟩) | (exact ⟨yq, yp⟩) | (exact ⟨zq, zp⟩) | (exact ⟨(World.cell?_setCell_far _ _ _ _ HQS.out).trans zq, (World.cell?_setCell_far _ _ _ _ HPS.out).trans zp⟩))
   have gH := gH0 (by kernel_rfl)
   clear hK K gH0
   (try simp only [qs, Act.put])
   refine wpAnyT_ready (rs := [5]) (by kernel_rfl) (by simp) ?_
   refine AllReadyT.cons rfl (fun K hK => ?_) AllReadyT.nil
   go_simp
   (go_at_call 57; ((refine HW3.out.mono ?_); rintro e u6 ⟨hN4, h4⟩; have HN6' := hid (HN60.out.trans (hN4.toS S E)); rcases q6e with f0 | ⟨k6, os6⟩; (focus (obtain rfl : e = flt f0.1 f0.2 := h4; obtain rfl : r = .inl f0 := HQ6e.out; exact ⟨rfl, HN6'.out, rfl⟩)); obtain ⟨va6, vc6, rfl, ho4, -, hs4⟩ := h4; have hx4 := HS60.out.go hN4 hs4; have HOW := hid (own_mono ho4 HS60.out.ss.le); have HS6' := hid hx4; obtain ⟨zp, zq⟩ := hx4.xs; have z0 : u6.cell? ⟨S, 1, none⟩ = some (.string ⟨#[]⟩) := (hx4.ss.x 1 (by omega)).1; have z1 : u6.cell? ⟨S, 6, none⟩ = some (.slice p5.a6 p5.n6 p5.c6) := (hx4.ss.x 6 (by omega)).1; have sf0 := (hx4.ss.x 1 (by omega)).2; have sf1 := (hx4.ss.x 6 (by omega)).2; have HR6 := hid (show r = ordsF L n k6 (G t6 os6) from HQ6e.out); clear hN4 hs4 hx4 ho4 HW3 HQ6e yp yq))
   go_wp2_with fail
   refine hK.out _ _ (fun _ => ?_) (fun gH0 => ?_)
   ·(try dsimp only)
    (first | (with_reducible exact ⟨cell_dr xq, cell_dr xp⟩) | (exact ⟨yq, yp⟩) | (exact ⟨zq, zp⟩) | (exact ⟨(World.cell?_setCell_far _ _ _ _ HQS.out).trans zq, (World.cell?_setCell_far _ _ _ _ HPS.out).trans zp⟩))
   have gH := gH0 (by kernel_rfl)
   clear hK K gH0
   (try simp only [qs, Act.put])
   refine qP 6 _ ?_ rfl (.inl ⟨by rfl, ?_⟩) (fun _ => by assumption) ?_
   rotate_left
   ·(intro w hSw; go_simp)
    all_goals (with_reducible rfl)
   (try simp only [qs, Act.put])
   refine qP 7 _ ?_ rfl (.inl ⟨by rfl, ?_⟩) (fun _ => by assumption) ?_
   rotate_left
   ·(intro w hSw; go_simp)
    all_goals (with_reducible rfl)
   (try simp only [qs, Act.put])
   refine wpAnyT_ready (rs := [8]) (by kernel_rfl) (by simp) ?_
   refine AllReadyT.cons rfl (fun K hK => ?_) AllReadyT.nil
   go_simp
   refine hK.out _ _ (fun _ => ?_) (fun gH0 => ?_)
   ·(try dsimp only)
    (first | (with_reducible exact ⟨cell_dr xq, cell_dr xp⟩) | (exact ⟨yq, yp⟩) | (exact ⟨zq, zp⟩) | (exact ⟨(World.cell?_setCell_far _ _ _ _ HQS.out).trans zq, (World.cell?_setCell_far _ _ _ _ HPS.out).trans zp⟩))
   have gH := gH0 (by kernel_rfl)
   clear hK K gH0
   (try simp only [qs, Act.put])
   refine qP 9 _ ?_ rfl (.inl ⟨by rfl, ?_⟩) (fun _ => by assumption) ?_
   rotate_left
   ·(intro w hSw; go_simp)
    all_goals (with_reducible rfl)
   (try simp only [qs, Act.put])
   refine qP 10 _ ?_ rfl (.inl ⟨by rfl, ?_⟩) (fun _ => by assumption) ?_
   rotate_left
   ·(intro w hSw; go_simp)
    all_goals (with_reducible rfl)
   (try simp only [qs, Act.put])
   refine wpAnyT_ready (rs := [11]) (by kernel_rfl) (by simp) ?_
   refine AllReadyT.cons rfl (fun K hK => ?_) AllReadyT.nil
   go_simp
   refine hK.out _ _ (noneB_off (by kernel_rfl)) (fun _ => ?_)
   clear hK K
   (try simp only [qs, Act.put])
   refine wpAnyT_done (by kernel_rfl) ?_ _
   refine exthen_nm (fun w6 hv => ?_)
   have hx : Cl w6 B S E w.heap.size (w.heap.size + 1) a n c L k6 (⟨4, t6, [], [], [], true, os6, ⟨#[]⟩, false, -1, ⟨#[]⟩, []⟩ : Sq) { p5 with a6 := va6, n6 := os6.length, c6 := vc6 } ∧ But S u6 w6 := by
    have i1 := HS6'.out.put (s' := (⟨4, t6, [], [], [], true, [], ⟨#[]⟩, false, -1, ⟨#[]⟩, []⟩ : Sq)) (p' := p5) 1 (.string t6) rfl (HS6'.out.ss.own.as rfl rfl rfl rfl rfl)
    have i2 := i1.put (s' := (⟨4, t6, [], [], [], true, os6, ⟨#[]⟩, false, -1, ⟨#[]⟩, []⟩ : Sq)) (p' := { p5 with a6 := va6, n6 := os6.length, c6 := vc6 }) 6 (.slice va6 os6.length vc6) rfl (⟨i1.ss.own.o2, i1.ss.own.o3, i1.ss.own.o4, ownsRow_setCell_below HOW.out i1.ss.ls _, i1.ss.own.o11⟩)
    rw [hv]
    exact ⟨i2, (But.set _ S 1 _).trans (But.set _ S 6 _)⟩
   have HN6 := hid (HN6'.out.trans (hx.2.toS' B E))
   have HS6 := hid hx.1
   clear hx hv HN6' HS6' HQS HPS zp zq z0 z1 sf0 sf1 HOW HN60 HS60
   obtain ⟨p6, hp⟩ : ∃ p, p = ({ p5 with a6 := va6, n6 := os6.length, c6 := vc6 } : Ps) := ⟨_, rfl⟩
   rw [← hp] at HS6
   clear hp
   obtain ⟨xp, xq⟩ := HS6.out.xs
   have hm0 := cmay HS6.out sORDER
   by_cases hmo : mayB L k6 sORDER = true
   ·rw [hmo] at hm0
    have HM := hid hm0
    clear hm0
    go_wp2_with fail
    refine HM.out.mono ?_
    rintro e w7 ⟨rfl, hN, hx⟩
    have hx : Cl w7 B S E w.heap.size (w.heap.size + 1) a n c L (k6 + 1) (⟨4, t6, [], [], [], true, os6, ⟨#[]⟩, false, -1, ⟨#[]⟩, []⟩ : Sq) p6 := hx
    have HN7 := hid (HN6.out.trans (hN.toS S E))
    have HS7 := hid hx
    clear hN hx HM xp xq
    have HR7 : Hid (r = bd (mustF L n (k6 + 1) [sBY]) fun k => bd (nameG L n k) fun x => endF L n (if mayB L x.2 sDESC = true then (x.2 + 1, x.1, true) else (x.2, x.1, false)).1 (G t6 os6 (if mayB L x.2 sDESC = true then (x.2 + 1, x.1, true) else (x.2, x.1, false)).2.1 (if mayB L x.2 sDESC = true then (x.2 + 1, x.1, true) else (x.2, x.1, false)).2.2)) := by
     show _ = _
     rw [HR6.out]
     unfold ordsF orderF
     rw [if_pos hmo]
     cases mustF L n (k6 + 1) [sBY] with
     | inl f => rfl
     | inr k0 =>
      show bd (bd (nameG L n k0) _) _ = bd (nameG L n k0) _
      cases nameG L n k0 <;> rfl
    clear hmo HR6
    obtain ⟨q8, hq8⟩ : ∃ q, q = mustF L n (k6 + 1) [sBY] := ⟨_, rfl⟩
    have HQ8 : Hid (r = bd q8 fun k => bd (nameG L n k) fun x => endF L n (if mayB L x.2 sDESC = true then (x.2 + 1, x.1, true) else (x.2, x.1, false)).1 (G t6 os6 (if mayB L x.2 sDESC = true then (x.2 + 1, x.1, true) else (x.2, x.1, false)).2.1 (if mayB L x.2 sDESC = true then (x.2 + 1, x.1, true) else (x.2, x.1, false)).2.2)) := by
     show _ = _
     rw [HR7.out, hq8]
     first | done | rfl
    have HMU8 : Hid (Calls Tryd.prog 52 #[.pointer (some ⟨B, 0, none⟩), .slice (some ⟨w7.heap.size, 0, none⟩) 1 1] (w7.alloc (.cells #[.string sBY] 9)) fun e w' => But B w7 w' ∧ match (generalizing := false) q8 with
     | .inl f => e = flt f.1 f.2
     | .inr k' => e = .returned (.tuple #[]) ∧ Cl w' B S E w.heap.size (w.heap.size + 1) a n c L k' (⟨4, t6, [], [], [], true, os6, ⟨#[]⟩, false, -1, ⟨#[]⟩, []⟩ : Sq) p6) := by
     rw [hq8]
     exact cmust HS7.out [sBY] rfl (by simp) (by simp)
    obtain ⟨xp, xq⟩ := HS7.out.xs
    clear hq8 HR7
    go_wp2_with fail
    refine HMU8.out.mono ?_
    rintro e w8 ⟨hN, h1⟩
    have HN8 := hid (HN7.out.trans (hN.toS S E))
    clear hN HMU8 xp xq
    rcases q8 with f0 | k8
    ·obtain rfl : e = flt f0.1 f0.2 := h1
     obtain rfl : r = .inl f0 := HQ8.out
     exact ⟨rfl, HN8.out, rfl⟩
    ·obtain ⟨rfl, hx⟩ := h1
     have HS8 := hid hx
     have HR8 := hid (show r = bd (nameG L n k8) fun x => endF L n (if mayB L x.2 sDESC = true then (x.2 + 1, x.1, true) else (x.2, x.1, false)).1 (G t6 os6 (if mayB L x.2 sDESC = true then (x.2 + 1, x.1, true) else (x.2, x.1, false)).2.1 (if mayB L x.2 sDESC = true then (x.2 + 1, x.1, true) else (x.2, x.1, false)).2.2) from HQ8.out)
     clear hx HQ8
     have HNA : Hid (∀ W, Below w8.heap.size w8 W → Calls Tryd.prog 53 #[.pointer (some ⟨B, 0, none⟩)] W fun e w' => But B W w' ∧ match nameG L n k8 with
      | .inl f => e = flt f.1 f.2
      | .inr (t, k') => e = .returned (.string t) ∧ Rs w' B a n c L k') := fun W hW => sname (HS8.out.ss.rs.later hW)
     obtain ⟨q9, hq9⟩ : ∃ q, q = nameG L n k8 := ⟨_, rfl⟩
     have HQ9 : Hid (r = bd q9 fun x => endF L n (if mayB L x.2 sDESC = true then (x.2 + 1, x.1, true) else (x.2, x.1, false)).1 (G t6 os6 (if mayB L x.2 sDESC = true then (x.2 + 1, x.1, true) else (x.2, x.1, false)).2.1 (if mayB L x.2 sDESC = true then (x.2 + 1, x.1, true) else (x.2, x.1, false)).2.2)) := by
      show _ = _
      rw [HR8.out, hq9]
     rw [← hq9] at HNA
     obtain ⟨xp, xq⟩ := HS8.out.xs
     have HQS : Hid (S ≠ w.heap.size + 1) := HS8.out.qs.symm
     have HPS : Hid (S ≠ w.heap.size) := HS8.out.ps.symm
     clear hq9 HR8
     go_wp2_with fail
     refine wpT_begin (S := (fun wx => wx.cell? ⟨w.heap.size + 1, 0, none⟩ = some (.pointer (some ⟨S, 0, none⟩)) ∧ wx.cell? ⟨w.heap.size, 0, none⟩ = some (.pointer (some ⟨B, 0, none⟩)))) [5] (by kernel_rfl) ?_ (fun gH => ?_)
     ·(try dsimp only)
      (first | (with_reducible exact ⟨cell_dr xq, cell_dr xp⟩) | (exact ⟨yq, yp⟩))
     refine qT 0 _ ?_ rfl (.inl ⟨by rfl, ?_⟩) (by assumption) ?_
     rotate_left
     ·(intro w hSw; (try dsimp only at hSw); go_simp)
      all_goals (with_reducible rfl)
     (try simp only [qs, Act.put])
     refine qT 1 _ ?_ rfl (.inl ⟨by rfl, ?_⟩) (by assumption) ?_
     rotate_left
     ·(intro w hSw; (try dsimp only at hSw); go_simp)
      all_goals (with_reducible rfl)
     (try simp only [qs, Act.put])
     refine wpAnyT_ready (rs := [2]) (by kernel_rfl) (by simp) ?_
     refine AllReadyT.cons rfl (fun K hK => ?_) AllReadyT.nil
     go_simp
     (go_at_call 53; ((refine (HNA.out _ (Below.refl _ _).drew).mono ?_); rintro e u9 ⟨hN3, h3⟩; have HN9' := hid (HN8.out.trans (((But.of (Below.refl _ _).drew).trans hN3).toS S E)); rcases q9 with f0 | ⟨t9, k9⟩; (focus (obtain rfl : e = flt f0.1 f0.2 := h3; obtain rfl : r = .inl f0 := HQ9.out; exact ⟨rfl, HN9'.out, rfl⟩)); obtain ⟨rfl, hs3⟩ := h3; have hx3 := (HS8.out.later (Below.refl _ _).drew).go hN3 hs3; have HS9' := hid hx3; obtain ⟨yp, yq⟩ := hx3.xs; have z0 : u9.cell? ⟨S, 7, none⟩ = some (.string ⟨#[]⟩) := (hx3.ss.x 7 (by omega)).1; have sf0 := (hx3.ss.x 7 (by omega)).2; have HR9 := hid (show r = endF L n (if mayB L k9 sDESC = true then (k9 + 1, t9, true) else (k9, t9, false)).1 (G t6 os6 (if mayB L k9 sDESC = true then (k9 + 1, t9, true) else (k9, t9, false)).2.1 (if mayB L k9 sDESC = true then (k9 + 1, t9, true) else (k9, t9, false)).2.2) from HQ9.out); clear hN3 hs3 hx3 HNA HQ9 xp xq))
     go_wp2_with fail
     refine hK.out _ _ (fun _ => ?_) (fun gH0 => ?_)
     ·(try dsimp only)
      (first | (with_reducible exact ⟨cell_dr xq, cell_dr xp⟩) | (exact ⟨yq, yp⟩))
     have gH := gH0 (by kernel_rfl)
     clear hK K gH0
     (try simp only [qs, Act.put])
     refine qP 3 _ ?_ rfl (.inl ⟨by rfl, ?_⟩) (fun _ => by assumption) ?_
     rotate_left
     ·(intro w hSw; go_simp)
      all_goals (with_reducible rfl)
     (try simp only [qs, Act.put])
     refine qP 4 _ ?_ rfl (.inl ⟨by rfl, ?_⟩) (fun _ => by assumption) ?_
     rotate_left
     ·(intro w hSw; go_simp)
      all_goals (with_reducible rfl)
     (try simp only [qs, Act.put])
     refine wpAnyT_ready (rs := [5]) (by kernel_rfl) (by simp) ?_
     refine AllReadyT.cons rfl (fun K hK => ?_) AllReadyT.nil
     go_simp
     refine hK.out _ _ (noneB_off (by kernel_rfl)) (fun _ => ?_)
     clear hK K
     (try simp only [qs, Act.put])
     refine wpAnyT_done (by kernel_rfl) ?_ _
     refine exthen_nm (fun w9 hv => ?_)
     have hx : Cl w9 B S E w.heap.size (w.heap.size + 1) a n c L k9 (⟨4, t6, [], [], [], true, os6, t9, false, -1, ⟨#[]⟩, []⟩ : Sq) p6 ∧ But S u9 w9 := by
      have i1 := HS9'.out.put (s' := (⟨4, t6, [], [], [], true, os6, t9, false, -1, ⟨#[]⟩, []⟩ : Sq)) (p' := p6) 7 (.string t9) rfl (HS9'.out.ss.own.as rfl rfl rfl rfl rfl)
      rw [hv]
      exact ⟨i1, But.set _ S 7 _⟩
     have HN9 := hid (HN9'.out.trans (hx.2.toS' B E))
     have HS9 := hid hx.1
     clear hx hv HN9' HS9' HQS HPS yp yq z0 sf0
     have HNA : Hid (∀ W, Below w9.heap.size w9 W → Calls Tryd.prog 50 #[.pointer (some ⟨B, 0, none⟩), .string sDESC] W fun e w' => e = .returned (.bool (mayB L k9 sDESC)) ∧ But B W w' ∧ Cl w' B S E w.heap.size (w.heap.size + 1) a n c L (if mayB L k9 sDESC = true then k9 + 1 else k9) (⟨4, t6, [], [], [], true, os6, t9, false, -1, ⟨#[]⟩, []⟩ : Sq) p6) := fun W hW => by
      refine (cmay (HS9.out.later hW) sDESC).mono ?_
      rintro e w' ⟨rfl, h1, h2⟩
      exact ⟨rfl, h1, h2⟩
     obtain ⟨dn, hdn⟩ : ∃ dn, dn = mayB L k9 sDESC := ⟨_, rfl⟩
     obtain ⟨k10, hk10⟩ : ∃ x, x = if dn = true then k9 + 1 else k9 := ⟨_, rfl⟩
     rw [← hdn, ← hk10] at HNA
     have HR10 : Hid (r = endF L n k10 (G t6 os6 t9 dn)) := by
      show _ = _
      rw [HR9.out, ← hdn, hk10]
      cases dn <;> rfl
     obtain ⟨xp, xq⟩ := HS9.out.xs
     have HQS : Hid (S ≠ w.heap.size + 1) := HS9.out.qs.symm
     have HPS : Hid (S ≠ w.heap.size) := HS9.out.ps.symm
     clear hdn hk10 HR9
     go_wp2_with fail
     refine wpT_begin (S := (fun wx => wx.cell? ⟨w.heap.size + 1, 0, none⟩ = some (.pointer (some ⟨S, 0, none⟩)) ∧ wx.cell? ⟨w.heap.size, 0, none⟩ = some (.pointer (some ⟨B, 0, none⟩)))) [5] (by kernel_rfl) ?_ (fun gH => ?_)
     ·(try dsimp only)
      (first | (with_reducible exact ⟨cell_dr xq, cell_dr xp⟩) | (exact ⟨yq, yp⟩))
     refine qT 0 _ ?_ rfl (.inl ⟨by rfl, ?_⟩) (by assumption) ?_
     rotate_left
     ·(intro w hSw; (try dsimp only at hSw); go_simp)
      all_goals (with_reducible rfl)
     (try simp only [qs, Act.put])
     refine qT 1 _ ?_ rfl (.inl ⟨by rfl, ?_⟩) (by assumption) ?_
     rotate_left
     ·(intro w hSw; (try dsimp only at hSw); go_simp)
      all_goals (with_reducible rfl)
     (try simp only [qs, Act.put])
     refine wpAnyT_ready (rs := [2]) (by kernel_rfl) (by simp) ?_
     refine AllReadyT.cons rfl (fun K hK => ?_) AllReadyT.nil
     go_simp
     (go_at_call 50; ((refine (HNA.out _ (Below.refl _ _).drew).mono ?_); rintro e u10 ⟨rfl, hN3, hx3⟩; have HN10' := hid (HN9.out.trans (((But.of (Below.refl _ _).drew).trans hN3).toS S E)); have HS10' := hid hx3; obtain ⟨yp, yq⟩ := hx3.xs; have z0 : u10.cell? ⟨S, 8, none⟩ = some (.bool false) := (hx3.ss.x 8 (by omega)).1; have sf0 := (hx3.ss.x 8 (by omega)).2; clear hN3 hx3 HNA xp xq))
     go_wp2_with fail
     refine hK.out _ _ (fun _ => ?_) (fun gH0 => ?_)
     ·(try dsimp only)
      (first | (with_reducible exact ⟨cell_dr xq, cell_dr xp⟩) | (exact ⟨yq, yp⟩))
     have gH := gH0 (by kernel_rfl)
     clear hK K gH0
     (try simp only [qs, Act.put])
     refine qP 3 _ ?_ rfl (.inl ⟨by rfl, ?_⟩) (fun _ => by assumption) ?_
     rotate_left
     ·(intro w hSw; go_simp)
      all_goals (with_reducible rfl)
     (try simp only [qs, Act.put])
     refine qP 4 _ ?_ rfl (.inl ⟨by rfl, ?_⟩) (fun _ => by assumption) ?_
     rotate_left
     ·(intro w hSw; go_simp)
      all_goals (with_reducible rfl)
     (try simp only [qs, Act.put])
     refine wpAnyT_ready (rs := [5]) (by kernel_rfl) (by simp) ?_
     refine AllReadyT.cons rfl (fun K hK => ?_) AllReadyT.nil
     go_simp
     refine hK.out _ _ (noneB_off (by kernel_rfl)) (fun _ => ?_)
     clear hK K
     (try simp only [qs, Act.put])
     refine wpAnyT_done (by kernel_rfl) ?_ _
     refine exthen_nm (fun w10 hv => ?_)
     have hx : Cl w10 B S E w.heap.size (w.heap.size + 1) a n c L k10 (⟨4, t6, [], [], [], true, os6, t9, dn, -1, ⟨#[]⟩, []⟩ : Sq) p6 ∧ But S u10 w10 := by
      have i1 := HS10'.out.put (s' := (⟨4, t6, [], [], [], true, os6, t9, dn, -1, ⟨#[]⟩, []⟩ : Sq)) (p' := p6) 8 (.bool dn) rfl (HS10'.out.ss.own.as rfl rfl rfl rfl rfl)
      rw [hv]
      exact ⟨i1, But.set _ S 8 _⟩
     have HN10 := hid (HN10'.out.trans (hx.2.toS' B E))
     have HS10 := hid hx.1
     clear hx hv HN10' HS10' HQS HPS yp yq z0 sf0
     obtain ⟨xp, xq⟩ := HS10.out.xs
     have hm0 := cmay HS10.out sLIMIT
     by_cases hml : mayB L k10 sLIMIT = true
     ·rw [hml] at hm0
      have HM := hid hm0
      clear hm0
      go_wp2_with fail
      refine HM.out.mono ?_
      rintro e w11 ⟨rfl, hN, hx⟩
      have hx : Cl w11 B S E w.heap.size (w.heap.size + 1) a n c L (k10 + 1) (⟨4, t6, [], [], [], true, os6, t9, dn, -1, ⟨#[]⟩, []⟩ : Sq) p6 := hx
      have HN11 := hid (HN10.out.trans (hN.toS S E))
      have HS11 := hid hx
      clear hN hx HM xp xq
      have HR11 : Hid (r = bd (numG L n (k10 + 1)) fun x => (.inr (x.2, (G t6 os6 t9 dn) x.1) : F ⊕ (Nat × Sq))) := by
       show _ = _
       rw [HR10.out]
       unfold endF limitF
       rw [if_pos hml]
       cases numG L n (k10 + 1) <;> rfl
      clear hml HR10
      have HNA : Hid (∀ W, Below w11.heap.size w11 W → Calls Tryd.prog 80 #[.pointer (some ⟨B, 0, none⟩)] W fun e w' => But B W w' ∧ match numG L n (k10 + 1) with
       | .inl f => e = flt f.1 f.2
       | .inr (t, k') => e = .returned (.int .i64 t) ∧ Rs w' B a n c L k') := fun W hW => snum (HS11.out.ss.rs.later hW)
      obtain ⟨q12, hq12⟩ : ∃ q, q = numG L n (k10 + 1) := ⟨_, rfl⟩
      have HQ12 : Hid (r = bd q12 fun x => (.inr (x.2, (G t6 os6 t9 dn) x.1) : F ⊕ (Nat × Sq))) := by
       show _ = _
       rw [HR11.out, hq12]
      rw [← hq12] at HNA
      obtain ⟨xp, xq⟩ := HS11.out.xs
      have HQS : Hid (S ≠ w.heap.size + 1) := HS11.out.qs.symm
      have HPS : Hid (S ≠ w.heap.size) := HS11.out.ps.symm
      clear hq12 HR11
      go_wp2_with fail
      refine wpT_begin (S := (fun wx => wx.cell? ⟨w.heap.size + 1, 0, none⟩ = some (.pointer (some ⟨S, 0, none⟩)) ∧ wx.cell? ⟨w.heap.size, 0, none⟩ = some (.pointer (some ⟨B, 0, none⟩)))) [5] (by kernel_rfl) ?_ (fun gH => ?_)
      ·(try dsimp only)
       (first | (with_reducible exact ⟨cell_dr xq, cell_dr xp⟩) | (exact ⟨yq, yp⟩))
      refine qT 0 _ ?_ rfl (.inl ⟨by rfl, ?_⟩) (by assumption) ?_
      rotate_left
      ·(intro w hSw; (try dsimp only at hSw); go_simp)
       all_goals (with_reducible rfl)
      (try simp only [qs, Act.put])
      refine qT 1 _ ?_ rfl (.inl ⟨by rfl, ?_⟩) (by assumption) ?_
      rotate_left
      ·(intro w hSw; (try dsimp only at hSw); go_simp)
       all_goals (with_reducible rfl)
      (try simp only [qs, Act.put])
      refine wpAnyT_ready (rs := [2]) (by kernel_rfl) (by simp) ?_
      refine AllReadyT.cons rfl (fun K hK => ?_) AllReadyT.nil
      go_simp
      (go_at_call 80; ((refine (HNA.out _ (Below.refl _ _).drew).mono ?_); rintro e u12 ⟨hN3, h3⟩; have HN12' := hid (HN11.out.trans (((But.of (Below.refl _ _).drew).trans hN3).toS S E)); rcases q12 with f0 | ⟨t12, k12⟩; (focus (obtain rfl : e = flt f0.1 f0.2 := h3; obtain rfl : r = .inl f0 := HQ12.out; exact ⟨rfl, HN12'.out, rfl⟩)); obtain ⟨rfl, hs3⟩ := h3; have hx3 := (HS11.out.later (Below.refl _ _).drew).go hN3 hs3; have HS12' := hid hx3; obtain ⟨yp, yq⟩ := hx3.xs; have z0 : u12.cell? ⟨S, 9, none⟩ = some (.int .i64 (-1)) := (hx3.ss.x 9 (by omega)).1; have sf0 := (hx3.ss.x 9 (by omega)).2; have HR12 := hid (show r = (.inr (k12, (G t6 os6 t9 dn) t12) : F ⊕ (Nat × Sq)) from HQ12.out); clear hN3 hs3 hx3 HNA HQ12 xp xq))
      go_wp2_with fail
      refine hK.out _ _ (fun _ => ?_) (fun gH0 => ?_)
      ·(try dsimp only)
       (first | (with_reducible exact ⟨cell_dr xq, cell_dr xp⟩) | (exact ⟨yq, yp⟩))
      have gH := gH0 (by kernel_rfl)
      clear hK K gH0
      (try simp only [qs, Act.put])
      refine qP 3 _ ?_ rfl (.inl ⟨by rfl, ?_⟩) (fun _ => by assumption) ?_
      rotate_left
      ·(intro w hSw; go_simp)
       all_goals (with_reducible rfl)
      (try simp only [qs, Act.put])
      refine qP 4 _ ?_ rfl (.inl ⟨by rfl, ?_⟩) (fun _ => by assumption) ?_
      rotate_left
      ·(intro w hSw; go_simp)
       all_goals (with_reducible rfl)
      (try simp only [qs, Act.put])
      refine wpAnyT_ready (rs := [5]) (by kernel_rfl) (by simp) ?_
      refine AllReadyT.cons rfl (fun K hK => ?_) AllReadyT.nil
      go_simp
      refine hK.out _ _ (noneB_off (by kernel_rfl)) (fun _ => ?_)
      clear hK K
      (try simp only [qs, Act.put])
      refine wpAnyT_done (by kernel_rfl) ?_ _
      refine body_nm (fun w12 hv => ?_)
      have hx : Cl w12 B S E w.heap.size (w.heap.size + 1) a n c L k12 (⟨4, t6, [], [], [], true, os6, t9, dn, t12, ⟨#[]⟩, []⟩ : Sq) p6 ∧ But S u12 w12 := by
       have i1 := HS12'.out.put (s' := (⟨4, t6, [], [], [], true, os6, t9, dn, t12, ⟨#[]⟩, []⟩ : Sq)) (p' := p6) 9 (.int .i64 t12) rfl (HS12'.out.ss.own.as rfl rfl rfl rfl rfl)
       rw [hv]
       exact ⟨i1, But.set _ S 9 _⟩
      have HN12 := hid (HN12'.out.trans (hx.2.toS' B E))
      have HS12 := hid hx.1
      clear hx hv HN12' HS12' HQS HPS yp yq z0 sf0
      obtain rfl : r = .inr (k12, (G t6 os6 t9 dn) t12) := HR12.out
      go_wp2_with fail
      go_returns
      refine ⟨HN12.out, rfl, p6, ?_⟩
      rw [HG.out]
      exact HS12.out.ss
     ·have hml : mayB L k10 sLIMIT = false := by simpa using hml
      rw [hml] at hm0
      have HM := hid hm0
      clear hm0
      go_wp2_with fail
      refine HM.out.mono ?_
      rintro e w11 ⟨rfl, hN, hx⟩
      have hx : Cl w11 B S E w.heap.size (w.heap.size + 1) a n c L k10 (⟨4, t6, [], [], [], true, os6, t9, dn, -1, ⟨#[]⟩, []⟩ : Sq) p6 := hx
      have HN11 := hid (HN10.out.trans (hN.toS S E))
      have HS11 := hid hx
      clear hN hx HM xp xq
      obtain rfl : r = .inr (k10, (G t6 os6 t9 dn) (-1)) := by
       rw [HR10.out]
       unfold endF limitF
       rw [if_neg (by simp [hml])]
       rfl
      go_wp2_with fail
      go_returns
      refine ⟨HN11.out, rfl, p6, ?_⟩
      rw [HG.out]
      exact HS11.out.ss
   ·have hmo : mayB L k6 sORDER = false := by simpa using hmo
    rw [hmo] at hm0
    have HM := hid hm0
    clear hm0
    go_wp2_with fail
    refine HM.out.mono ?_
    rintro e w7 ⟨rfl, hN, hx⟩
    have hx : Cl w7 B S E w.heap.size (w.heap.size + 1) a n c L k6 (⟨4, t6, [], [], [], true, os6, ⟨#[]⟩, false, -1, ⟨#[]⟩, []⟩ : Sq) p6 := hx
    have HN7 := hid (HN6.out.trans (hN.toS S E))
    have HS7 := hid hx
    clear hN hx HM xp xq
    have HR7 : Hid (r = endF L n k6 (G t6 os6 ⟨#[]⟩ false)) := by
     show _ = _
     rw [HR6.out]
     unfold ordsF orderF
     rw [if_neg (by simp [hmo])]
     rfl
    clear hmo HR6
    obtain ⟨xp, xq⟩ := HS7.out.xs
    have hm0 := cmay HS7.out sLIMIT
    by_cases hml : mayB L k6 sLIMIT = true
    ·rw [hml] at hm0
     have HM := hid hm0
     clear hm0
     go_wp2_with fail
     refine HM.out.mono ?_
     rintro e w8 ⟨rfl, hN, hx⟩
     have hx : Cl w8 B S E w.heap.size (w.heap.size + 1) a n c L (k6 + 1) (⟨4, t6, [], [], [], true, os6, ⟨#[]⟩, false, -1, ⟨#[]⟩, []⟩ : Sq) p6 := hx
     have HN8 := hid (HN7.out.trans (hN.toS S E))
     have HS8 := hid hx
     clear hN hx HM xp xq
     have HR8 : Hid (r = bd (numG L n (k6 + 1)) fun x => (.inr (x.2, (G t6 os6 ⟨#[]⟩ false) x.1) : F ⊕ (Nat × Sq))) := by
      show _ = _
      rw [HR7.out]
      unfold endF limitF
      rw [if_pos hml]
      cases numG L n (k6 + 1) <;> rfl
     clear hml HR7
     have HNA : Hid (∀ W, Below w8.heap.size w8 W → Calls Tryd.prog 80 #[.pointer (some ⟨B, 0, none⟩)] W fun e w' => But B W w' ∧ match numG L n (k6 + 1) with
      | .inl f => e = flt f.1 f.2
      | .inr (t, k') => e = .returned (.int .i64 t) ∧ Rs w' B a n c L k') := fun W hW => snum (HS8.out.ss.rs.later hW)
     obtain ⟨q9, hq9⟩ : ∃ q, q = numG L n (k6 + 1) := ⟨_, rfl⟩
     have HQ9 : Hid (r = bd q9 fun x => (.inr (x.2, (G t6 os6 ⟨#[]⟩ false) x.1) : F ⊕ (Nat × Sq))) := by
      show _ = _
      rw [HR8.out, hq9]
     rw [← hq9] at HNA
     obtain ⟨xp, xq⟩ := HS8.out.xs
     have HQS : Hid (S ≠ w.heap.size + 1) := HS8.out.qs.symm
     have HPS : Hid (S ≠ w.heap.size) := HS8.out.ps.symm
     clear hq9 HR8
     go_wp2_with fail
     refine wpT_begin (S := (fun wx => wx.cell? ⟨w.heap.size + 1, 0, none⟩ = some (.pointer (some ⟨S, 0, none⟩)) ∧ wx.cell? ⟨w.heap.size, 0, none⟩ = some (.pointer (some ⟨B, 0, none⟩)))) [5] (by kernel_rfl) ?_ (fun gH => ?_)
     ·(try dsimp only)
      (first | (with_reducible exact ⟨cell_dr xq, cell_dr xp⟩) | (exact ⟨yq, yp⟩))
     refine qT 0 _ ?_ rfl (.inl ⟨by rfl, ?_⟩) (by assumption) ?_
     rotate_left
     ·(intro w hSw; (try dsimp only at hSw); go_simp)
      all_goals (with_reducible rfl)
     (try simp only [qs, Act.put])
     refine qT 1 _ ?_ rfl (.inl ⟨by rfl, ?_⟩) (by assumption) ?_
     rotate_left
     ·(intro w hSw; (try dsimp only at hSw); go_simp)
      all_goals (with_reducible rfl)
     (try simp only [qs, Act.put])
     refine wpAnyT_ready (rs := [2]) (by kernel_rfl) (by simp) ?_
     refine AllReadyT.cons rfl (fun K hK => ?_) AllReadyT.nil
     go_simp
     (go_at_call 80; ((refine (HNA.out _ (Below.refl _ _).drew).mono ?_); rintro e u9 ⟨hN3, h3⟩; have HN9' := hid (HN8.out.trans (((But.of (Below.refl _ _).drew).trans hN3).toS S E)); rcases q9 with f0 | ⟨t9, k9⟩; (focus (obtain rfl : e = flt f0.1 f0.2 := h3; obtain rfl : r = .inl f0 := HQ9.out; exact ⟨rfl, HN9'.out, rfl⟩)); obtain ⟨rfl, hs3⟩ := h3; have hx3 := (HS8.out.later (Below.refl _ _).drew).go hN3 hs3; have HS9' := hid hx3; obtain ⟨yp, yq⟩ := hx3.xs; have z0 : u9.cell? ⟨S, 9, none⟩ = some (.int .i64 (-1)) := (hx3.ss.x 9 (by omega)).1; have sf0 := (hx3.ss.x 9 (by omega)).2; have HR9 := hid (show r = (.inr (k9, (G t6 os6 ⟨#[]⟩ false) t9) : F ⊕ (Nat × Sq)) from HQ9.out); clear hN3 hs3 hx3 HNA HQ9 xp xq))
     go_wp2_with fail
     refine hK.out _ _ (fun _ => ?_) (fun gH0 => ?_)
     ·(try dsimp only)
      (first | (with_reducible exact ⟨cell_dr xq, cell_dr xp⟩) | (exact ⟨yq, yp⟩))
     have gH := gH0 (by kernel_rfl)
     clear hK K gH0
     (try simp only [qs, Act.put])
     refine qP 3 _ ?_ rfl (.inl ⟨by rfl, ?_⟩) (fun _ => by assumption) ?_
     rotate_left
     ·(intro w hSw; go_simp)
      all_goals (with_reducible rfl)
     (try simp only [qs, Act.put])
     refine qP 4 _ ?_ rfl (.inl ⟨by rfl, ?_⟩) (fun _ => by assumption) ?_
     rotate_left
     ·(intro w hSw; go_simp)
      all_goals (with_reducible rfl)
     (try simp only [qs, Act.put])
     refine wpAnyT_ready (rs := [5]) (by kernel_rfl) (by simp) ?_
     refine AllReadyT.cons rfl (fun K hK => ?_) AllReadyT.nil
     go_simp
     refine hK.out _ _ (noneB_off (by kernel_rfl)) (fun _ => ?_)
     clear hK K
     (try simp only [qs, Act.put])
     refine wpAnyT_done (by kernel_rfl) ?_ _
     refine body_nm (fun w9 hv => ?_)
     have hx : Cl w9 B S E w.heap.size (w.heap.size + 1) a n c L k9 (⟨4, t6, [], [], [], true, os6, ⟨#[]⟩, false, t9, ⟨#[]⟩, []⟩ : Sq) p6 ∧ But S u9 w9 := by
      have i1 := HS9'.out.put (s' := (⟨4, t6, [], [], [], true, os6, ⟨#[]⟩, false, t9, ⟨#[]⟩, []⟩ : Sq)) (p' := p6) 9 (.int .i64 t9) rfl (HS9'.out.ss.own.as rfl rfl rfl rfl rfl)
      rw [hv]
      exact ⟨i1, But.set _ S 9 _⟩
     have HN9 := hid (HN9'.out.trans (hx.2.toS' B E))
     have HS9 := hid hx.1
     clear hx hv HN9' HS9' HQS HPS yp yq z0 sf0
     obtain rfl : r = .inr (k9, (G t6 os6 ⟨#[]⟩ false) t9) := HR9.out
     go_wp2_with fail
     go_returns
     refine ⟨HN9.out, rfl, p6, ?_⟩
     rw [HG.out]
     exact HS9.out.ss
    ·have hml : mayB L k6 sLIMIT = false := by simpa using hml
     rw [hml] at hm0
     have HM := hid hm0
     clear hm0
     go_wp2_with fail
     refine HM.out.mono ?_
     rintro e w8 ⟨rfl, hN, hx⟩
     have hx : Cl w8 B S E w.heap.size (w.heap.size + 1) a n c L k6 (⟨4, t6, [], [], [], true, os6, ⟨#[]⟩, false, -1, ⟨#[]⟩, []⟩ : Sq) p6 := hx
     have HN8 := hid (HN7.out.trans (hN.toS S E))
     have HS8 := hid hx
     clear hN hx HM xp xq
     obtain rfl : r = .inr (k6, (G t6 os6 ⟨#[]⟩ false) (-1)) := by
      rw [HR7.out]
      unfold endF limitF
      rw [if_neg (by simp [hml])]
      rfl
     go_wp2_with fail
     go_returns
     refine ⟨HN8.out, rfl, p6, ?_⟩
     rw [HG.out]
     exact HS8.out.ss
end
open Go.Proofs.YtdeollmeljaaoaaDoor.cs
def inv_names (B S E P Q : Nat) (a : Option Addr) (n c : Nat) (L : List Tk) (W : World) (k : Nat) (l : List ByteArray) : Prop := l.length ≤ k ∧ ∃ p, Cl W B S E P Q a n c L k (⟨4, ⟨#[]⟩, [], [], l, false, [], ⟨#[]⟩, false, -1, ⟨#[]⟩, []⟩ : Sq) p
section
variable {B S E : Nat} {a : Option Addr} {n c : Nat} {L : List Tk}
theorem choose_names {w : World} {k : Nat} {p : Ps} (h : Ss w B S E a n c L k sq0 p) (h1 : mayB L k sStar = false) (h2 : mayB L k sCOUNT = false) :
  Calls Tryd.prog 55 #[.pointer (some ⟨B, 0, none⟩), .pointer (some ⟨S, 0, none⟩)] w (Sx w B S E a n c L (chooseF L n k sq0)) := by
 have hlS := blk_lt h.box
 have hlB := h.rs.lt
 obtain ⟨r, hr⟩ : ∃ r, r = chooseF L n k sq0 := ⟨_, rfl⟩
 rw [← hr]
 have q0 : w.cell? ⟨S, 0, none⟩ = some (.int .i64 0) := (h.x 0 (by omega)).1
 have sf0 := (h.x 0 (by omega)).2
 have HCL : Hid (∀ W, W = ((w.setCell ⟨S, 0, none⟩ (.int .i64 4)).alloc (.cells #[.pointer (some ⟨B, 0, none⟩)] 91)).alloc (.cells #[.pointer (some ⟨S, 0, none⟩)] 93) → Cl W B S E w.heap.size (w.heap.size + 1) a n c L k (⟨4, ⟨#[]⟩, [], [], [], false, [], ⟨#[]⟩, false, -1, ⟨#[]⟩, []⟩ : Sq) p ∧ ButS B S E w W) := fun W hW => by
  have h1 := h.put (s' := (⟨4, ⟨#[]⟩, [], [], [], false, [], ⟨#[]⟩, false, -1, ⟨#[]⟩, []⟩ : Sq)) (p' := p) 0 (.int .i64 4) rfl (h.own.as rfl rfl rfl rfl rfl)
  obtain ⟨w9, hw9⟩ : ∃ w9, w9 = w.setCell ⟨S, 0, none⟩ (.int .i64 4) := ⟨_, rfl⟩
  have hz : w9.heap.size = w.heap.size := by rw [hw9]; simp
  rw [← hw9] at hW h1
  have hb : Below w9.heap.size w9 W := by rw [hW]; exact ((Below.refl _ _).alloc (Nat.le_refl _) _).alloc (by simp) _
  have hs : ButS B S E w w9 := by rw [hw9]; exact (But.set _ S 0 _).toS' B E
  rw [← hz]
  exact ⟨⟨h1.later hb, by rw [hW]; exact (Below.heap_alloc _ _ _ (by simp)).trans (new0 _ _), by rw [hW]; exact new1 _ _ _, by omega, by omega, by omega, by omega⟩, hs.trans ((But.of hb).toS S E)⟩
 clear h
 go_enter Tryd.func55, Tryd.ntmps55
 go_wp2_with fail
 refine calls_nm (fun w0 hW => ?_)
 obtain ⟨hx, hN⟩ := HCL.out w0 hW
 have HS0 := hid hx
 have HN0 := hid hN
 have hm0 := cmay hx sStar
 clear hW hx hN HCL q0 sf0
 rw [h1] at hm0
 have HM := hid hm0
 clear hm0
 refine HM.out.mono ?_
 rintro e w1 ⟨rfl, hN, hx⟩
 have hx : Cl w1 B S E w.heap.size (w.heap.size + 1) a n c L k (⟨4, ⟨#[]⟩, [], [], [], false, [], ⟨#[]⟩, false, -1, ⟨#[]⟩, []⟩ : Sq) p := hx
 have HN1 := hid (HN0.out.trans (hN.toS S E))
 have HS1 := hid hx
 clear hN hx HM HS0 HN0
 obtain ⟨xp, xq⟩ := HS1.out.xs
 have hm0 := cmay HS1.out sCOUNT
 rw [h2] at hm0
 have HM := hid hm0
 clear hm0
 go_wp2_with fail
 refine HM.out.mono ?_
 rintro e w2 ⟨rfl, hN, hx⟩
 have hx : Cl w2 B S E w.heap.size (w.heap.size + 1) a n c L k (⟨4, ⟨#[]⟩, [], [], [], false, [], ⟨#[]⟩, false, -1, ⟨#[]⟩, []⟩ : Sq) p := hx
 have HN2 := hid (HN1.out.trans (hN.toS S E))
 have HS2 := hid hx
 clear hN hx HM xp xq
 obtain ⟨q3, hq3⟩ : ∃ q, q = listF L (nmsG L n) k [] := ⟨_, rfl⟩
 have HQ3 : Hid (r = bd q3 fun x => fromF L n x.1 (fun t wh ord dn lim => (⟨4, t, [], [], x.2, false, wh, ord, dn, lim, ⟨#[]⟩, []⟩ : Sq))) := by
  show _ = _
  rw [hr, hq3]
  unfold chooseF headF
  rw [if_neg (by simp [h1]), if_neg (by simp [h2])]
  cases listF L (nmsG L n) k [] with
  | inl f => rfl
  | inr x => exact from_eq _ _ _ _ _
 have HLI : Hid (Calls Tryd.prog 73 #[.pointer (some ⟨B, 0, none⟩), .func (.func 79) #[] #[.pointer (some ⟨w.heap.size + 1, 0, none⟩), .pointer (some ⟨w.heap.size, 0, none⟩)]] w2 fun e w' => ButS B S E w2 w' ∧ match (generalizing := false) q3 with
  | .inl f => e = flt f.1 f.2
  | .inr (k', s') => e = .returned (.tuple #[]) ∧ s'.length ≤ k' ∧ ∃ p', Cl w' B S E w.heap.size (w.heap.size + 1) a n c L k' (⟨4, ⟨#[]⟩, [], [], s', false, [], ⟨#[]⟩, false, -1, ⟨#[]⟩, []⟩ : Sq) p') :=
  hid (by
   have hli := list_any (B := B) (a := a) (n := n) (c := c) (L := L) (σ := List ByteArray) (inv_names B S E w.heap.size (w.heap.size + 1) a n c L) (ButS B S E) (nmsG L n) 79 (.pointer (some ⟨w.heap.size + 1, 0, none⟩)) (.pointer (some ⟨w.heap.size, 0, none⟩))
    (enters Tryd.func79 (by kernel_rfl) (by kernel_rfl)) (fun W k l hx => by obtain ⟨_, p', hc⟩ := hx; exact hc.ss.rs) (fun W W' k k' l hx hk hN hr => by obtain ⟨hl, p', hc⟩ := hx; exact ⟨Nat.le_trans hl hk, p', hc.go hN hr⟩) (fun W W' hN => hN.toS S E) (fun W1 W2 W3 h1 h2 => h1.trans h2)
    (fun W k l hx => by
     obtain ⟨hl, p', hc⟩ := hx
     refine (nmth_any hc hl).mono ?_
     rintro e w' ⟨g1, g2⟩
     refine ⟨g1, ?_⟩
     rcases hh : nmsG L n k l with f0 | ⟨k', l'⟩
     ·rw [show nmsG L n k ((⟨4, ⟨#[]⟩, [], [], l, false, [], ⟨#[]⟩, false, -1, ⟨#[]⟩, []⟩ : Sq)).names = nmsG L n k l from rfl, hh] at g2
      exact g2
     ·rw [show nmsG L n k ((⟨4, ⟨#[]⟩, [], [], l, false, [], ⟨#[]⟩, false, -1, ⟨#[]⟩, []⟩ : Sq)).names = nmsG L n k l from rfl, hh] at g2
      exact ⟨g2.1, g2.2.1, g2.2.2⟩) w2 k [] ⟨by simp, p, HS2.out⟩
   refine hli.mono ?_
   rintro e w' ⟨g1, g2⟩
   refine ⟨g1, ?_⟩
   rw [← hq3] at g2
   rcases q3 with f0 | ⟨k', l'⟩
   ·exact g2
   ·exact ⟨g2.1, g2.2.1, g2.2.2⟩)
 obtain ⟨xp, xq⟩ := HS2.out.xs
 clear hr hq3 h1 h2
 go_wp2_with fail
 refine HLI.out.mono ?_
 rintro e w3 ⟨hN3, h3⟩
 have HN3 := hid (HN2.out.trans hN3)
 clear hN3 HLI xp xq HN2
 rcases q3 with f0 | ⟨k3, nm⟩
 ·obtain rfl : e = flt f0.1 f0.2 := h3
  obtain rfl : r = .inl f0 := HQ3.out
  exact ⟨rfl, HN3.out, rfl⟩
 ·obtain ⟨rfl, -, p3, hx3⟩ := h3
  have HS3 := hid hx3
  have HR3 := hid (show r = fromF L n k3 (fun t wh ord dn lim => (⟨4, t, [], [], nm, false, wh, ord, dn, lim, ⟨#[]⟩, []⟩ : Sq)) from HQ3.out)
  clear hx3 HQ3
  obtain ⟨G, hG⟩ : ∃ G : ByteArray → List Oq → ByteArray → Bool → Int → Sq, G = (fun t wh ord dn lim => (⟨4, t, [], [], nm, false, wh, ord, dn, lim, ⟨#[]⟩, []⟩ : Sq)) := ⟨_, rfl⟩
  rw [← hG] at HR3
  have HG := hid hG
  clear hG
  obtain ⟨q4, hq4⟩ : ∃ q, q = mustF L n k3 [sFROM] := ⟨_, rfl⟩
  have HQ4 : Hid (r = bd q4 fun k => bd (nameG L n k) fun x => bd (whereF L n x.2) fun y => ordsF L n y.1 (G x.1 y.2)) := by
   show _ = _
   rw [HR3.out, hq4]
   first | done | rfl
  have HMU4 : Hid (Calls Tryd.prog 52 #[.pointer (some ⟨B, 0, none⟩), .slice (some ⟨w3.heap.size, 0, none⟩) 1 1] (w3.alloc (.cells #[.string sFROM] 9)) fun e w' => But B w3 w' ∧ match (generalizing := false) q4 with
   | .inl f => e = flt f.1 f.2
   | .inr k' => e = .returned (.tuple #[]) ∧ Cl w' B S E w.heap.size (w.heap.size + 1) a n c L k' (⟨4, ⟨#[]⟩, [], [], nm, false, [], ⟨#[]⟩, false, -1, ⟨#[]⟩, []⟩ : Sq) p3) := by
   rw [hq4]
   exact cmust HS3.out [sFROM] rfl (by simp) (by simp)
  obtain ⟨xp, xq⟩ := HS3.out.xs
  clear hq4 HR3
  go_wp2_with fail
  refine HMU4.out.mono ?_
  rintro e w4 ⟨hN, h1⟩
  have HN4 := hid (HN3.out.trans (hN.toS S E))
  clear hN HMU4 xp xq
  rcases q4 with f0 | k4
  ·obtain rfl : e = flt f0.1 f0.2 := h1
   obtain rfl : r = .inl f0 := HQ4.out
   exact ⟨rfl, HN4.out, rfl⟩
  ·obtain ⟨rfl, hx⟩ := h1
   have HS4 := hid hx
   have HR4 := hid (show r = bd (nameG L n k4) fun x => bd (whereF L n x.2) fun y => ordsF L n y.1 (G x.1 y.2) from HQ4.out)
   clear hx HQ4
   obtain ⟨p4, hp⟩ : ∃ p', p' = p3 := ⟨_, rfl⟩
   rw [← hp] at HS4
   clear hp
   have HNA : Hid (∀ W, Below w4.heap.size w4 W → Calls Tryd.prog 53 #[.pointer (some ⟨B, 0, none⟩)] W fun e w' => But B W w' ∧ match nameG L n k4 with
    | .inl f => e = flt f.1 f.2
    | .inr (t, k') => e = .returned (.string t) ∧ Rs w' B a n c L k') := fun W hW => sname (HS4.out.ss.rs.later hW)
   have HWH : Hid (∀ W k, Rs W B a n c L k → Calls Tryd.prog 57 #[.pointer (some ⟨B, 0, none⟩)] W (Xp W B a n c L (whereF L n k))) := fun W k hx => where_any W k hx
   obtain ⟨q5, hq5⟩ : ∃ q, q = nameG L n k4 := ⟨_, rfl⟩
   have HQ5 : Hid (r = bd q5 fun x => bd (whereF L n x.2) fun y => ordsF L n y.1 (G x.1 y.2)) := by
    show _ = _
    rw [HR4.out, hq5]
   rw [← hq5] at HNA
   obtain ⟨xp, xq⟩ := HS4.out.xs
   have HQS : Hid (S ≠ w.heap.size + 1) := HS4.out.qs.symm
   have HPS : Hid (S ≠ w.heap.size) := HS4.out.ps.symm
   clear hq5 HR4
   go_wp2_with fail
   refine wpT_begin (S := (fun wx => wx.cell? ⟨w.heap.size + 1, 0, none⟩ = some (.pointer (some ⟨S, 0, none⟩)) ∧ wx.cell? ⟨w.heap.size, 0, none⟩ = some (.pointer (some ⟨B, 0, none⟩)))) [11] (by kernel_rfl) ?_ (fun gH => ?_)
   ·(try dsimp only)
    (first | (with_reducible exact ⟨cell_dr xq, cell_dr xp⟩) | (exact ⟨yq, yp⟩) | (exact ⟨zq, zp⟩) | (exact ⟨(World.cell?_setCell_far _ _ _ _ HQS.out).trans zq, (World.cell?_setCell_far _ _ _ _ HPS.out).trans zp⟩))
   refine qT 0 _ ?_ rfl (.inl ⟨by rfl, ?_⟩) (by assumption) ?_
   rotate_left
   ·(intro w hSw; (try dsimp only at hSw); go_simp)
    all_goals (with_reducible rfl)
   (try simp only [qs, Act.put])
   refine qT 1 _ ?_ rfl (.inl ⟨by rfl, ?_⟩) (by assumption) ?_
   rotate_left
   ·(intro w hSw; (try dsimp only at hSw); go_simp)
    all_goals (with_reducible rfl)
   (try simp only [qs, Act.put])
   refine qT 2 _ ?_ rfl (.inl ⟨by rfl, ?_⟩) (by assumption) ?_
   rotate_left
   ·(intro w hSw; (try dsimp only at hSw); go_simp)
    all_goals (with_reducible rfl)
   (try simp only [qs, Act.put])
   refine qT 4 _ ?_ rfl (.inl ⟨by rfl, ?_⟩) (by assumption) ?_
   rotate_left
   ·(intro w hSw; (try dsimp only at hSw); go_simp)
    all_goals (with_reducible rfl)
   (try simp only [qs, Act.put])
   refine wpAnyT_ready (rs := [3]) (by kernel_rfl) (by simp) ?_
   refine AllReadyT.cons rfl (fun K hK => ?_) AllReadyT.nil
   go_simp
   (go_at_call 53; ((refine (HNA.out _ (Below.refl _ _).drew).mono ?_); rintro e x5 ⟨hN3, h3⟩; have HN50 := hid (HN4.out.trans (((But.of (Below.refl _ _).drew).trans hN3).toS S E)); rcases q5 with f0 | ⟨t5, k50⟩; (focus (obtain rfl : e = flt f0.1 f0.2 := h3; obtain rfl : r = .inl f0 := HQ5.out; exact ⟨rfl, HN50.out, rfl⟩)); obtain ⟨rfl, hs3⟩ := h3; have hx3 := (HS4.out.later (Below.refl _ _).drew).go hN3 hs3; have HS50 := hid hx3; obtain ⟨q5e, hq5e⟩ : ∃ q, q = whereF L n k50 := ⟨_, rfl⟩; have HQ5e : Hid (r = bd q5e fun y => ordsF L n y.1 (G t5 y.2)) := (by show _ = _; rw [hq5e]; exact HQ5.out); have HW3 := HWH.out x5 k50 hs3; rw [← hq5e] at HW3; have HW3 := hid HW3; obtain ⟨yp, yq⟩ := hx3.xs; clear hN3 hs3 hx3 HNA HQ5 hq5e HWH xp xq))
   go_wp2_with fail
   refine hK.out _ _ (fun _ => ?_) (fun gH0 => ?_)
   ·(try dsimp only)
    (first | (with_reducible exact ⟨cell_dr xq, cell_dr xp⟩) | (exact ⟨yq, yp⟩) | (exact ⟨zq, zp⟩) | (exact ⟨(World.cell?_setCell_far _ _ _ _ HQS.out).trans zq, (World.cell?_setCell_far _ _ _ _ HPS.out).trans zp⟩))
   have gH := gH0 (by kernel_rfl)
   clear hK K gH0
   (try simp only [qs, Act.put])
   refine wpAnyT_ready (rs := [5]) (by kernel_rfl) (by simp) ?_
   refine AllReadyT.cons rfl (fun K hK => ?_) AllReadyT.nil
   go_simp
   (go_at_call 57; ((refine HW3.out.mono ?_); rintro e u5 ⟨hN4, h4⟩; have HN5' := hid (HN50.out.trans (hN4.toS S E)); rcases q5e with f0 | ⟨k5, os5⟩; (focus (obtain rfl : e = flt f0.1 f0.2 := h4; obtain rfl : r = .inl f0 := HQ5e.out; exact ⟨rfl, HN5'.out, rfl⟩)); obtain ⟨va5, vc5, rfl, ho4, -, hs4⟩ := h4; have hx4 := HS50.out.go hN4 hs4; have HOW := hid (own_mono ho4 HS50.out.ss.le); have HS5' := hid hx4; obtain ⟨zp, zq⟩ := hx4.xs; have z0 : u5.cell? ⟨S, 1, none⟩ = some (.string ⟨#[]⟩) := (hx4.ss.x 1 (by omega)).1; have z1 : u5.cell? ⟨S, 6, none⟩ = some (.slice p4.a6 p4.n6 p4.c6) := (hx4.ss.x 6 (by omega)).1; have sf0 := (hx4.ss.x 1 (by omega)).2; have sf1 := (hx4.ss.x 6 (by omega)).2; have HR5 := hid (show r = ordsF L n k5 (G t5 os5) from HQ5e.out); clear hN4 hs4 hx4 ho4 HW3 HQ5e yp yq))
   go_wp2_with fail
   refine hK.out _ _ (fun _ => ?_) (fun gH0 => ?_)
   ·(try dsimp only)
    (first | (with_reducible exact ⟨cell_dr xq, cell_dr xp⟩) | (exact ⟨yq, yp⟩) | (exact ⟨zq, zp⟩) | (exact ⟨(World.cell?_setCell_far _ _ _ _ HQS.out).trans zq, (World.cell?_setCell_far _ _ _ _ HPS.out).trans zp⟩))
   have gH := gH0 (by kernel_rfl)
   clear hK K gH0
   (try simp only [qs, Act.put])
   refine qP 6 _ ?_ rfl (.inl ⟨by rfl, ?_⟩) (fun _ => by assumption) ?_
   rotate_left
   ·(intro w hSw; go_simp)
    all_goals (with_reducible rfl)
   (try simp only [qs, Act.put])
   refine qP 7 _ ?_ rfl (.inl ⟨by rfl, ?_⟩) (fun _ => by assumption) ?_
   rotate_left
   ·(intro w hSw; go_simp)
    all_goals (with_reducible rfl)
   (try simp only [qs, Act.put])
   refine wpAnyT_ready (rs := [8]) (by kernel_rfl) (by simp) ?_
   refine AllReadyT.cons rfl (fun K hK => ?_) AllReadyT.nil
   go_simp
   refine hK.out _ _ (fun _ => ?_) (fun gH0 => ?_)
   ·(try dsimp only)
    (first | (with_reducible exact ⟨cell_dr xq, cell_dr xp⟩) | (exact ⟨yq, yp⟩) | (exact ⟨zq, zp⟩) | (exact ⟨(World.cell?_setCell_far _ _ _ _ HQS.out).trans zq, (World.cell?_setCell_far _ _ _ _ HPS.out).trans zp⟩))
   have gH := gH0 (by kernel_rfl)
   clear hK K gH0
   (try simp only [qs, Act.put])
   refine qP 9 _ ?_ rfl (.inl ⟨by rfl, ?_⟩) (fun _ => by assumption) ?_
   rotate_left
   ·(intro w hSw; go_simp)
    all_goals (with_reducible rfl)
   (try simp only [qs, Act.put])
   refine qP 10 _ ?_ rfl (.inl ⟨by rfl, ?_⟩) (fun _ => by assumption) ?_
   rotate_left
   ·(intro w hSw; go_simp)
    all_goals (with_reducible rfl)
   (try simp only [qs, Act.put])
   refine wpAnyT_ready (rs := [11]) (by kernel_rfl) (by simp) ?_
   refine AllReadyT.cons rfl (fun K hK => ?_) AllReadyT.nil
   go_simp
   refine hK.out _ _ (noneB_off (by kernel_rfl)) (fun _ => ?_)
   clear hK K
   (try simp only [qs, Act.put])
   refine wpAnyT_done (by kernel_rfl) ?_ _
   refine exthen_nm (fun w5 hv => ?_)
   have hx : Cl w5 B S E w.heap.size (w.heap.size + 1) a n c L k5 (⟨4, t5, [], [], nm, false, os5, ⟨#[]⟩, false, -1, ⟨#[]⟩, []⟩ : Sq) { p4 with a6 := va5, n6 := os5.length, c6 := vc5 } ∧ But S u5 w5 := by
    have i1 := HS5'.out.put (s' := (⟨4, t5, [], [], nm, false, [], ⟨#[]⟩, false, -1, ⟨#[]⟩, []⟩ : Sq)) (p' := p4) 1 (.string t5) rfl (HS5'.out.ss.own.as rfl rfl rfl rfl rfl)
    have i2 := i1.put (s' := (⟨4, t5, [], [], nm, false, os5, ⟨#[]⟩, false, -1, ⟨#[]⟩, []⟩ : Sq)) (p' := { p4 with a6 := va5, n6 := os5.length, c6 := vc5 }) 6 (.slice va5 os5.length vc5) rfl (⟨i1.ss.own.o2, i1.ss.own.o3, i1.ss.own.o4, ownsRow_setCell_below HOW.out i1.ss.ls _, i1.ss.own.o11⟩)
    rw [hv]
    exact ⟨i2, (But.set _ S 1 _).trans (But.set _ S 6 _)⟩
   have HN5 := hid (HN5'.out.trans (hx.2.toS' B E))
   have HS5 := hid hx.1
   clear hx hv HN5' HS5' HQS HPS zp zq z0 z1 sf0 sf1 HOW HN50 HS50
   obtain ⟨p5, hp⟩ : ∃ p, p = ({ p4 with a6 := va5, n6 := os5.length, c6 := vc5 } : Ps) := ⟨_, rfl⟩
   rw [← hp] at HS5
   clear hp
   obtain ⟨xp, xq⟩ := HS5.out.xs
   have hm0 := cmay HS5.out sORDER
   by_cases hmo : mayB L k5 sORDER = true
   ·rw [hmo] at hm0
    have HM := hid hm0
    clear hm0
    go_wp2_with fail
    refine HM.out.mono ?_
    rintro e w6 ⟨rfl, hN, hx⟩
    have hx : Cl w6 B S E w.heap.size (w.heap.size + 1) a n c L (k5 + 1) (⟨4, t5, [], [], nm, false, os5, ⟨#[]⟩, false, -1, ⟨#[]⟩, []⟩ : Sq) p5 := hx
    have HN6 := hid (HN5.out.trans (hN.toS S E))
    have HS6 := hid hx
    clear hN hx HM xp xq
    have HR6 : Hid (r = bd (mustF L n (k5 + 1) [sBY]) fun k => bd (nameG L n k) fun x => endF L n (if mayB L x.2 sDESC = true then (x.2 + 1, x.1, true) else (x.2, x.1, false)).1 (G t5 os5 (if mayB L x.2 sDESC = true then (x.2 + 1, x.1, true) else (x.2, x.1, false)).2.1 (if mayB L x.2 sDESC = true then (x.2 + 1, x.1, true) else (x.2, x.1, false)).2.2)) := by
     show _ = _
     rw [HR5.out]
     unfold ordsF orderF
     rw [if_pos hmo]
     cases mustF L n (k5 + 1) [sBY] with
     | inl f => rfl
     | inr k0 =>
      show bd (bd (nameG L n k0) _) _ = bd (nameG L n k0) _
      cases nameG L n k0 <;> rfl
    clear hmo HR5
    obtain ⟨q7, hq7⟩ : ∃ q, q = mustF L n (k5 + 1) [sBY] := ⟨_, rfl⟩
    have HQ7 : Hid (r = bd q7 fun k => bd (nameG L n k) fun x => endF L n (if mayB L x.2 sDESC = true then (x.2 + 1, x.1, true) else (x.2, x.1, false)).1 (G t5 os5 (if mayB L x.2 sDESC = true then (x.2 + 1, x.1, true) else (x.2, x.1, false)).2.1 (if mayB L x.2 sDESC = true then (x.2 + 1, x.1, true) else (x.2, x.1, false)).2.2)) := by
     show _ = _
     rw [HR6.out, hq7]
     first | done | rfl
    have HMU7 : Hid (Calls Tryd.prog 52 #[.pointer (some ⟨B, 0, none⟩), .slice (some ⟨w6.heap.size, 0, none⟩) 1 1] (w6.alloc (.cells #[.string sBY] 9)) fun e w' => But B w6 w' ∧ match (generalizing := false) q7 with
     | .inl f => e = flt f.1 f.2
     | .inr k' => e = .returned (.tuple #[]) ∧ Cl w' B S E w.heap.size (w.heap.size + 1) a n c L k' (⟨4, t5, [], [], nm, false, os5, ⟨#[]⟩, false, -1, ⟨#[]⟩, []⟩ : Sq) p5) := by
     rw [hq7]
     exact cmust HS6.out [sBY] rfl (by simp) (by simp)
    obtain ⟨xp, xq⟩ := HS6.out.xs
    clear hq7 HR6
    go_wp2_with fail
    refine HMU7.out.mono ?_
    rintro e w7 ⟨hN, h1⟩
    have HN7 := hid (HN6.out.trans (hN.toS S E))
    clear hN HMU7 xp xq
    rcases q7 with f0 | k7
    ·obtain rfl : e = flt f0.1 f0.2 := h1
     obtain rfl : r = .inl f0 := HQ7.out
     exact ⟨rfl, HN7.out, rfl⟩
    ·obtain ⟨rfl, hx⟩ := h1
     have HS7 := hid hx
     have HR7 := hid (show r = bd (nameG L n k7) fun x => endF L n (if mayB L x.2 sDESC = true then (x.2 + 1, x.1, true) else (x.2, x.1, false)).1 (G t5 os5 (if mayB L x.2 sDESC = true then (x.2 + 1, x.1, true) else (x.2, x.1, false)).2.1 (if mayB L x.2 sDESC = true then (x.2 + 1, x.1, true) else (x.2, x.1, false)).2.2) from HQ7.out)
     clear hx HQ7
     have HNA : Hid (∀ W, Below w7.heap.size w7 W → Calls Tryd.prog 53 #[.pointer (some ⟨B, 0, none⟩)] W fun e w' => But B W w' ∧ match nameG L n k7 with
      | .inl f => e = flt f.1 f.2
      | .inr (t, k') => e = .returned (.string t) ∧ Rs w' B a n c L k') := fun W hW => sname (HS7.out.ss.rs.later hW)
     obtain ⟨q8, hq8⟩ : ∃ q, q = nameG L n k7 := ⟨_, rfl⟩
     have HQ8 : Hid (r = bd q8 fun x => endF L n (if mayB L x.2 sDESC = true then (x.2 + 1, x.1, true) else (x.2, x.1, false)).1 (G t5 os5 (if mayB L x.2 sDESC = true then (x.2 + 1, x.1, true) else (x.2, x.1, false)).2.1 (if mayB L x.2 sDESC = true then (x.2 + 1, x.1, true) else (x.2, x.1, false)).2.2)) := by
      show _ = _
      rw [HR7.out, hq8]
     rw [← hq8] at HNA
     obtain ⟨xp, xq⟩ := HS7.out.xs
     have HQS : Hid (S ≠ w.heap.size + 1) := HS7.out.qs.symm
     have HPS : Hid (S ≠ w.heap.size) := HS7.out.ps.symm
     clear hq8 HR7
     go_wp2_with fail
     refine wpT_begin (S := (fun wx => wx.cell? ⟨w.heap.size + 1, 0, none⟩ = some (.pointer (some ⟨S, 0, none⟩)) ∧ wx.cell? ⟨w.heap.size, 0, none⟩ = some (.pointer (some ⟨B, 0, none⟩)))) [5] (by kernel_rfl) ?_ (fun gH => ?_)
     ·(try dsimp only)
      (first | (with_reducible exact ⟨cell_dr xq, cell_dr xp⟩) | (exact ⟨yq, yp⟩))
     refine qT 0 _ ?_ rfl (.inl ⟨by rfl, ?_⟩) (by assumption) ?_
     rotate_left
     ·(intro w hSw; (try dsimp only at hSw); go_simp)
      all_goals (with_reducible rfl)
     (try simp only [qs, Act.put])
     refine qT 1 _ ?_ rfl (.inl ⟨by rfl, ?_⟩) (by assumption) ?_
     rotate_left
     ·(intro w hSw; (try dsimp only at hSw); go_simp)
      all_goals (with_reducible rfl)
     (try simp only [qs, Act.put])
     refine wpAnyT_ready (rs := [2]) (by kernel_rfl) (by simp) ?_
     refine AllReadyT.cons rfl (fun K hK => ?_) AllReadyT.nil
     go_simp
     (go_at_call 53; ((refine (HNA.out _ (Below.refl _ _).drew).mono ?_); rintro e u8 ⟨hN3, h3⟩; have HN8' := hid (HN7.out.trans (((But.of (Below.refl _ _).drew).trans hN3).toS S E)); rcases q8 with f0 | ⟨t8, k8⟩; (focus (obtain rfl : e = flt f0.1 f0.2 := h3; obtain rfl : r = .inl f0 := HQ8.out; exact ⟨rfl, HN8'.out, rfl⟩)); obtain ⟨rfl, hs3⟩ := h3; have hx3 := (HS7.out.later (Below.refl _ _).drew).go hN3 hs3; have HS8' := hid hx3; obtain ⟨yp, yq⟩ := hx3.xs; have z0 : u8.cell? ⟨S, 7, none⟩ = some (.string ⟨#[]⟩) := (hx3.ss.x 7 (by omega)).1; have sf0 := (hx3.ss.x 7 (by omega)).2; have HR8 := hid (show r = endF L n (if mayB L k8 sDESC = true then (k8 + 1, t8, true) else (k8, t8, false)).1 (G t5 os5 (if mayB L k8 sDESC = true then (k8 + 1, t8, true) else (k8, t8, false)).2.1 (if mayB L k8 sDESC = true then (k8 + 1, t8, true) else (k8, t8, false)).2.2) from HQ8.out); clear hN3 hs3 hx3 HNA HQ8 xp xq))
     go_wp2_with fail
     refine hK.out _ _ (fun _ => ?_) (fun gH0 => ?_)
     ·(try dsimp only)
      (first | (with_reducible exact ⟨cell_dr xq, cell_dr xp⟩) | (exact ⟨yq, yp⟩))
     have gH := gH0 (by kernel_rfl)
     clear hK K gH0
     (try simp only [qs, Act.put])
     refine qP 3 _ ?_ rfl (.inl ⟨by rfl, ?_⟩) (fun _ => by assumption) ?_
     rotate_left
     ·(intro w hSw; go_simp)
      all_goals (with_reducible rfl)
     (try simp only [qs, Act.put])
     refine qP 4 _ ?_ rfl (.inl ⟨by rfl, ?_⟩) (fun _ => by assumption) ?_
     rotate_left
     ·(intro w hSw; go_simp)
      all_goals (with_reducible rfl)
     (try simp only [qs, Act.put])
     refine wpAnyT_ready (rs := [5]) (by kernel_rfl) (by simp) ?_
     refine AllReadyT.cons rfl (fun K hK => ?_) AllReadyT.nil
     go_simp
     refine hK.out _ _ (noneB_off (by kernel_rfl)) (fun _ => ?_)
     clear hK K
     (try simp only [qs, Act.put])
     refine wpAnyT_done (by kernel_rfl) ?_ _
     refine exthen_nm (fun w8 hv => ?_)
     have hx : Cl w8 B S E w.heap.size (w.heap.size + 1) a n c L k8 (⟨4, t5, [], [], nm, false, os5, t8, false, -1, ⟨#[]⟩, []⟩ : Sq) p5 ∧ But S u8 w8 := by
      have i1 := HS8'.out.put (s' := (⟨4, t5, [], [], nm, false, os5, t8, false, -1, ⟨#[]⟩, []⟩ : Sq)) (p' := p5) 7 (.string t8) rfl (HS8'.out.ss.own.as rfl rfl rfl rfl rfl)
      rw [hv]
      exact ⟨i1, But.set _ S 7 _⟩
     have HN8 := hid (HN8'.out.trans (hx.2.toS' B E))
     have HS8 := hid hx.1
     clear hx hv HN8' HS8' HQS HPS yp yq z0 sf0
     have HNA : Hid (∀ W, Below w8.heap.size w8 W → Calls Tryd.prog 50 #[.pointer (some ⟨B, 0, none⟩), .string sDESC] W fun e w' => e = .returned (.bool (mayB L k8 sDESC)) ∧ But B W w' ∧ Cl w' B S E w.heap.size (w.heap.size + 1) a n c L (if mayB L k8 sDESC = true then k8 + 1 else k8) (⟨4, t5, [], [], nm, false, os5, t8, false, -1, ⟨#[]⟩, []⟩ : Sq) p5) := fun W hW => by
      refine (cmay (HS8.out.later hW) sDESC).mono ?_
      rintro e w' ⟨rfl, h1, h2⟩
      exact ⟨rfl, h1, h2⟩
     obtain ⟨dn, hdn⟩ : ∃ dn, dn = mayB L k8 sDESC := ⟨_, rfl⟩
     obtain ⟨k9, hk9⟩ : ∃ x, x = if dn = true then k8 + 1 else k8 := ⟨_, rfl⟩
     rw [← hdn, ← hk9] at HNA
     have HR9 : Hid (r = endF L n k9 (G t5 os5 t8 dn)) := by
      show _ = _
      rw [HR8.out, ← hdn, hk9]
      cases dn <;> rfl
     obtain ⟨xp, xq⟩ := HS8.out.xs
     have HQS : Hid (S ≠ w.heap.size + 1) := HS8.out.qs.symm
     have HPS : Hid (S ≠ w.heap.size) := HS8.out.ps.symm
     clear hdn hk9 HR8
     go_wp2_with fail
     refine wpT_begin (S := (fun wx => wx.cell? ⟨w.heap.size + 1, 0, none⟩ = some (.pointer (some ⟨S, 0, none⟩)) ∧ wx.cell? ⟨w.heap.size, 0, none⟩ = some (.pointer (some ⟨B, 0, none⟩)))) [5] (by kernel_rfl) ?_ (fun gH => ?_)
     ·(try dsimp only)
      (first | (with_reducible exact ⟨cell_dr xq, cell_dr xp⟩) | (exact ⟨yq, yp⟩))
     refine qT 0 _ ?_ rfl (.inl ⟨by rfl, ?_⟩) (by assumption) ?_
     rotate_left
     ·(intro w hSw; (try dsimp only at hSw); go_simp)
      all_goals (with_reducible rfl)
     (try simp only [qs, Act.put])
     refine qT 1 _ ?_ rfl (.inl ⟨by rfl, ?_⟩) (by assumption) ?_
     rotate_left
     ·(intro w hSw; (try dsimp only at hSw); go_simp)
      all_goals (with_reducible rfl)
     (try simp only [qs, Act.put])
     refine wpAnyT_ready (rs := [2]) (by kernel_rfl) (by simp) ?_
     refine AllReadyT.cons rfl (fun K hK => ?_) AllReadyT.nil
     go_simp
     (go_at_call 50; ((refine (HNA.out _ (Below.refl _ _).drew).mono ?_); rintro e u9 ⟨rfl, hN3, hx3⟩; have HN9' := hid (HN8.out.trans (((But.of (Below.refl _ _).drew).trans hN3).toS S E)); have HS9' := hid hx3; obtain ⟨yp, yq⟩ := hx3.xs; have z0 : u9.cell? ⟨S, 8, none⟩ = some (.bool false) := (hx3.ss.x 8 (by omega)).1; have sf0 := (hx3.ss.x 8 (by omega)).2; clear hN3 hx3 HNA xp xq))
     go_wp2_with fail
     refine hK.out _ _ (fun _ => ?_) (fun gH0 => ?_)
     ·(try dsimp only)
      (first | (with_reducible exact ⟨cell_dr xq, cell_dr xp⟩) | (exact ⟨yq, yp⟩))
     have gH := gH0 (by kernel_rfl)
     clear hK K gH0
     (try simp only [qs, Act.put])
     refine qP 3 _ ?_ rfl (.inl ⟨by rfl, ?_⟩) (fun _ => by assumption) ?_
     rotate_left
     ·(intro w hSw; go_simp)
      all_goals (with_reducible rfl)
     (try simp only [qs, Act.put])
     refine qP 4 _ ?_ rfl (.inl ⟨by rfl, ?_⟩) (fun _ => by assumption) ?_
     rotate_left
     ·(intro w hSw; go_simp)
      all_goals (with_reducible rfl)
     (try simp only [qs, Act.put])
     refine wpAnyT_ready (rs := [5]) (by kernel_rfl) (by simp) ?_
     refine AllReadyT.cons rfl (fun K hK => ?_) AllReadyT.nil
     go_simp
     refine hK.out _ _ (noneB_off (by kernel_rfl)) (fun _ => ?_)
     clear hK K
     (try simp only [qs, Act.put])
     refine wpAnyT_done (by kernel_rfl) ?_ _
     refine exthen_nm (fun w9 hv => ?_)
     have hx : Cl w9 B S E w.heap.size (w.heap.size + 1) a n c L k9 (⟨4, t5, [], [], nm, false, os5, t8, dn, -1, ⟨#[]⟩, []⟩ : Sq) p5 ∧ But S u9 w9 := by
      have i1 := HS9'.out.put (s' := (⟨4, t5, [], [], nm, false, os5, t8, dn, -1, ⟨#[]⟩, []⟩ : Sq)) (p' := p5) 8 (.bool dn) rfl (HS9'.out.ss.own.as rfl rfl rfl rfl rfl)
      rw [hv]
      exact ⟨i1, But.set _ S 8 _⟩
     have HN9 := hid (HN9'.out.trans (hx.2.toS' B E))
     have HS9 := hid hx.1
     clear hx hv HN9' HS9' HQS HPS yp yq z0 sf0
     obtain ⟨xp, xq⟩ := HS9.out.xs
     have hm0 := cmay HS9.out sLIMIT
     by_cases hml : mayB L k9 sLIMIT = true
     ·rw [hml] at hm0
      have HM := hid hm0
      clear hm0
      go_wp2_with fail
      refine HM.out.mono ?_
      rintro e w10 ⟨rfl, hN, hx⟩
      have hx : Cl w10 B S E w.heap.size (w.heap.size + 1) a n c L (k9 + 1) (⟨4, t5, [], [], nm, false, os5, t8, dn, -1, ⟨#[]⟩, []⟩ : Sq) p5 := hx
      have HN10 := hid (HN9.out.trans (hN.toS S E))
      have HS10 := hid hx
      clear hN hx HM xp xq
      have HR10 : Hid (r = bd (numG L n (k9 + 1)) fun x => (.inr (x.2, (G t5 os5 t8 dn) x.1) : F ⊕ (Nat × Sq))) := by
       show _ = _
       rw [HR9.out]
       unfold endF limitF
       rw [if_pos hml]
       cases numG L n (k9 + 1) <;> rfl
      clear hml HR9
      have HNA : Hid (∀ W, Below w10.heap.size w10 W → Calls Tryd.prog 80 #[.pointer (some ⟨B, 0, none⟩)] W fun e w' => But B W w' ∧ match numG L n (k9 + 1) with
       | .inl f => e = flt f.1 f.2
       | .inr (t, k') => e = .returned (.int .i64 t) ∧ Rs w' B a n c L k') := fun W hW => snum (HS10.out.ss.rs.later hW)
      obtain ⟨q11, hq11⟩ : ∃ q, q = numG L n (k9 + 1) := ⟨_, rfl⟩
      have HQ11 : Hid (r = bd q11 fun x => (.inr (x.2, (G t5 os5 t8 dn) x.1) : F ⊕ (Nat × Sq))) := by
       show _ = _
       rw [HR10.out, hq11]
      rw [← hq11] at HNA
      obtain ⟨xp, xq⟩ := HS10.out.xs
      have HQS : Hid (S ≠ w.heap.size + 1) := HS10.out.qs.symm
      have HPS : Hid (S ≠ w.heap.size) := HS10.out.ps.symm
      clear hq11 HR10
      go_wp2_with fail
      refine wpT_begin (S := (fun wx => wx.cell? ⟨w.heap.size + 1, 0, none⟩ = some (.pointer (some ⟨S, 0, none⟩)) ∧ wx.cell? ⟨w.heap.size, 0, none⟩ = some (.pointer (some ⟨B, 0, none⟩)))) [5] (by kernel_rfl) ?_ (fun gH => ?_)
      ·(try dsimp only)
       (first | (with_reducible exact ⟨cell_dr xq, cell_dr xp⟩) | (exact ⟨yq, yp⟩))
      refine qT 0 _ ?_ rfl (.inl ⟨by rfl, ?_⟩) (by assumption) ?_
      rotate_left
      ·(intro w hSw; (try dsimp only at hSw); go_simp)
       all_goals (with_reducible rfl)
      (try simp only [qs, Act.put])
      refine qT 1 _ ?_ rfl (.inl ⟨by rfl, ?_⟩) (by assumption) ?_
      rotate_left
      ·(intro w hSw; (try dsimp only at hSw); go_simp)
       all_goals (with_reducible rfl)
      (try simp only [qs, Act.put])
      refine wpAnyT_ready (rs := [2]) (by kernel_rfl) (by simp) ?_
      refine AllReadyT.cons rfl (fun K hK => ?_) AllReadyT.nil
      go_simp
      (go_at_call 80; ((refine (HNA.out _ (Below.refl _ _).drew).mono ?_); rintro e u11 ⟨hN3, h3⟩; have HN11' := hid (HN10.out.trans (((But.of (Below.refl _ _).drew).trans hN3).toS S E)); rcases q11 with f0 | ⟨t11, k11⟩; (focus (obtain rfl : e = flt f0.1 f0.2 := h3; obtain rfl : r = .inl f0 := HQ11.out; exact ⟨rfl, HN11'.out, rfl⟩)); obtain ⟨rfl, hs3⟩ := h3; have hx3 := (HS10.out.later (Below.refl _ _).drew).go hN3 hs3; have HS11' := hid hx3; obtain ⟨yp, yq⟩ := hx3.xs; have z0 : u11.cell? ⟨S, 9, none⟩ = some (.int .i64 (-1)) := (hx3.ss.x 9 (by omega)).1; have sf0 := (hx3.ss.x 9 (by omega)).2; have HR11 := hid (show r = (.inr (k11, (G t5 os5 t8 dn) t11) : F ⊕ (Nat × Sq)) from HQ11.out); clear hN3 hs3 hx3 HNA HQ11 xp xq))
      go_wp2_with fail
      refine hK.out _ _ (fun _ => ?_) (fun gH0 => ?_)
      ·(try dsimp only)
       (first | (with_reducible exact ⟨cell_dr xq, cell_dr xp⟩) | (exact ⟨yq, yp⟩))
      have gH := gH0 (by kernel_rfl)
      clear hK K gH0
      (try simp only [qs, Act.put])
      refine qP 3 _ ?_ rfl (.inl ⟨by rfl, ?_⟩) (fun _ => by assumption) ?_
      rotate_left
      ·(intro w hSw; go_simp)
       all_goals (with_reducible rfl)
      (try simp only [qs, Act.put])
      refine qP 4 _ ?_ rfl (.inl ⟨by rfl, ?_⟩) (fun _ => by assumption) ?_
      rotate_left
      ·(intro w hSw; go_simp)
       all_goals (with_reducible rfl)
      (try simp only [qs, Act.put])
      refine wpAnyT_ready (rs := [5]) (by kernel_rfl) (by simp) ?_
      refine AllReadyT.cons rfl (fun K hK => ?_) AllReadyT.nil
      go_simp
      refine hK.out _ _ (noneB_off (by kernel_rfl)) (fun _ => ?_)
      clear hK K
      (try simp only [qs, Act.put])
      refine wpAnyT_done (by kernel_rfl) ?_ _
      refine body_nm (fun w11 hv => ?_)
      have hx : Cl w11 B S E w.heap.size (w.heap.size + 1) a n c L k11 (⟨4, t5, [], [], nm, false, os5, t8, dn, t11, ⟨#[]⟩, []⟩ : Sq) p5 ∧ But S u11 w11 := by
       have i1 := HS11'.out.put (s' := (⟨4, t5, [], [], nm, false, os5, t8, dn, t11, ⟨#[]⟩, []⟩ : Sq)) (p' := p5) 9 (.int .i64 t11) rfl (HS11'.out.ss.own.as rfl rfl rfl rfl rfl)
       rw [hv]
       exact ⟨i1, But.set _ S 9 _⟩
      have HN11 := hid (HN11'.out.trans (hx.2.toS' B E))
      have HS11 := hid hx.1
      clear hx hv HN11' HS11' HQS HPS yp yq z0 sf0
      obtain rfl : r = .inr (k11, (G t5 os5 t8 dn) t11) := HR11.out
      go_wp2_with fail
      go_returns
      refine ⟨HN11.out, rfl, p5, ?_⟩
      rw [HG.out]
      exact HS11.out.ss
     ·have hml : mayB L k9 sLIMIT = false := by simpa using hml
      rw [hml] at hm0
      have HM := hid hm0
      clear hm0
      go_wp2_with fail
      refine HM.out.mono ?_
      rintro e w10 ⟨rfl, hN, hx⟩
      have hx : Cl w10 B S E w.heap.size (w.heap.size + 1) a n c L k9 (⟨4, t5, [], [], nm, false, os5, t8, dn, -1, ⟨#[]⟩, []⟩ : Sq) p5 := hx
      have HN10 := hid (HN9.out.trans (hN.toS S E))
      have HS10 := hid hx
      clear hN hx HM xp xq
      obtain rfl : r = .inr (k9, (G t5 os5 t8 dn) (-1)) := by
       rw [HR9.out]
       unfold endF limitF
       rw [if_neg (by simp [hml])]
       rfl
      go_wp2_with fail
      go_returns
      refine ⟨HN10.out, rfl, p5, ?_⟩
      rw [HG.out]
      exact HS10.out.ss
   ·have hmo : mayB L k5 sORDER = false := by simpa using hmo
    rw [hmo] at hm0
    have HM := hid hm0
    clear hm0
    go_wp2_with fail
    refine HM.out.mono ?_
    rintro e w6 ⟨rfl, hN, hx⟩
    have hx : Cl w6 B S E w.heap.size (w.heap.size + 1) a n c L k5 (⟨4, t5, [], [], nm, false, os5, ⟨#[]⟩, false, -1, ⟨#[]⟩, []⟩ : Sq) p5 := hx
    have HN6 := hid (HN5.out.trans (hN.toS S E))
    have HS6 := hid hx
    clear hN hx HM xp xq
    have HR6 : Hid (r = endF L n k5 (G t5 os5 ⟨#[]⟩ false)) := by
     show _ = _
     rw [HR5.out]
     unfold ordsF orderF
     rw [if_neg (by simp [hmo])]
     rfl
    clear hmo HR5
    obtain ⟨xp, xq⟩ := HS6.out.xs
    have hm0 := cmay HS6.out sLIMIT
    by_cases hml : mayB L k5 sLIMIT = true
    ·rw [hml] at hm0
     have HM := hid hm0
     clear hm0
     go_wp2_with fail
     refine HM.out.mono ?_
     rintro e w7 ⟨rfl, hN, hx⟩
     have hx : Cl w7 B S E w.heap.size (w.heap.size + 1) a n c L (k5 + 1) (⟨4, t5, [], [], nm, false, os5, ⟨#[]⟩, false, -1, ⟨#[]⟩, []⟩ : Sq) p5 := hx
     have HN7 := hid (HN6.out.trans (hN.toS S E))
     have HS7 := hid hx
     clear hN hx HM xp xq
     have HR7 : Hid (r = bd (numG L n (k5 + 1)) fun x => (.inr (x.2, (G t5 os5 ⟨#[]⟩ false) x.1) : F ⊕ (Nat × Sq))) := by
      show _ = _
      rw [HR6.out]
      unfold endF limitF
      rw [if_pos hml]
      cases numG L n (k5 + 1) <;> rfl
     clear hml HR6
     have HNA : Hid (∀ W, Below w7.heap.size w7 W → Calls Tryd.prog 80 #[.pointer (some ⟨B, 0, none⟩)] W fun e w' => But B W w' ∧ match numG L n (k5 + 1) with
      | .inl f => e = flt f.1 f.2
      | .inr (t, k') => e = .returned (.int .i64 t) ∧ Rs w' B a n c L k') := fun W hW => snum (HS7.out.ss.rs.later hW)
     obtain ⟨q8, hq8⟩ : ∃ q, q = numG L n (k5 + 1) := ⟨_, rfl⟩
     have HQ8 : Hid (r = bd q8 fun x => (.inr (x.2, (G t5 os5 ⟨#[]⟩ false) x.1) : F ⊕ (Nat × Sq))) := by
      show _ = _
      rw [HR7.out, hq8]
     rw [← hq8] at HNA
     obtain ⟨xp, xq⟩ := HS7.out.xs
     have HQS : Hid (S ≠ w.heap.size + 1) := HS7.out.qs.symm
     have HPS : Hid (S ≠ w.heap.size) := HS7.out.ps.symm
     clear hq8 HR7
     go_wp2_with fail
     refine wpT_begin (S := (fun wx => wx.cell? ⟨w.heap.size + 1, 0, none⟩ = some (.pointer (some ⟨S, 0, none⟩)) ∧ wx.cell? ⟨w.heap.size, 0, none⟩ = some (.pointer (some ⟨B, 0, none⟩)))) [5] (by kernel_rfl) ?_ (fun gH => ?_)
     ·(try dsimp only)
      (first | (with_reducible exact ⟨cell_dr xq, cell_dr xp⟩) | (exact ⟨yq, yp⟩))
     refine qT 0 _ ?_ rfl (.inl ⟨by rfl, ?_⟩) (by assumption) ?_
     rotate_left
     ·(intro w hSw; (try dsimp only at hSw); go_simp)
      all_goals (with_reducible rfl)
     (try simp only [qs, Act.put])
     refine qT 1 _ ?_ rfl (.inl ⟨by rfl, ?_⟩) (by assumption) ?_
     rotate_left
     ·(intro w hSw; (try dsimp only at hSw); go_simp)
      all_goals (with_reducible rfl)
     (try simp only [qs, Act.put])
     refine wpAnyT_ready (rs := [2]) (by kernel_rfl) (by simp) ?_
     refine AllReadyT.cons rfl (fun K hK => ?_) AllReadyT.nil
     go_simp
     (go_at_call 80; ((refine (HNA.out _ (Below.refl _ _).drew).mono ?_); rintro e u8 ⟨hN3, h3⟩; have HN8' := hid (HN7.out.trans (((But.of (Below.refl _ _).drew).trans hN3).toS S E)); rcases q8 with f0 | ⟨t8, k8⟩; (focus (obtain rfl : e = flt f0.1 f0.2 := h3; obtain rfl : r = .inl f0 := HQ8.out; exact ⟨rfl, HN8'.out, rfl⟩)); obtain ⟨rfl, hs3⟩ := h3; have hx3 := (HS7.out.later (Below.refl _ _).drew).go hN3 hs3; have HS8' := hid hx3; obtain ⟨yp, yq⟩ := hx3.xs; have z0 : u8.cell? ⟨S, 9, none⟩ = some (.int .i64 (-1)) := (hx3.ss.x 9 (by omega)).1; have sf0 := (hx3.ss.x 9 (by omega)).2; have HR8 := hid (show r = (.inr (k8, (G t5 os5 ⟨#[]⟩ false) t8) : F ⊕ (Nat × Sq)) from HQ8.out); clear hN3 hs3 hx3 HNA HQ8 xp xq))
     go_wp2_with fail
     refine hK.out _ _ (fun _ => ?_) (fun gH0 => ?_)
     ·(try dsimp only)
      (first | (with_reducible exact ⟨cell_dr xq, cell_dr xp⟩) | (exact ⟨yq, yp⟩))
     have gH := gH0 (by kernel_rfl)
     clear hK K gH0
     (try simp only [qs, Act.put])
     refine qP 3 _ ?_ rfl (.inl ⟨by rfl, ?_⟩) (fun _ => by assumption) ?_
     rotate_left
     ·(intro w hSw; go_simp)
      all_goals (with_reducible rfl)
     (try simp only [qs, Act.put])
     refine qP 4 _ ?_ rfl (.inl ⟨by rfl, ?_⟩) (fun _ => by assumption) ?_
     rotate_left
     ·(intro w hSw; go_simp)
      all_goals (with_reducible rfl)
     (try simp only [qs, Act.put])
     refine wpAnyT_ready (rs := [5]) (by kernel_rfl) (by simp) ?_
     refine AllReadyT.cons rfl (fun K hK => ?_) AllReadyT.nil
     go_simp
     refine hK.out _ _ (noneB_off (by kernel_rfl)) (fun _ => ?_)
     clear hK K
     (try simp only [qs, Act.put])
     refine wpAnyT_done (by kernel_rfl) ?_ _
     refine body_nm (fun w8 hv => ?_)
     have hx : Cl w8 B S E w.heap.size (w.heap.size + 1) a n c L k8 (⟨4, t5, [], [], nm, false, os5, ⟨#[]⟩, false, t8, ⟨#[]⟩, []⟩ : Sq) p5 ∧ But S u8 w8 := by
      have i1 := HS8'.out.put (s' := (⟨4, t5, [], [], nm, false, os5, ⟨#[]⟩, false, t8, ⟨#[]⟩, []⟩ : Sq)) (p' := p5) 9 (.int .i64 t8) rfl (HS8'.out.ss.own.as rfl rfl rfl rfl rfl)
      rw [hv]
      exact ⟨i1, But.set _ S 9 _⟩
     have HN8 := hid (HN8'.out.trans (hx.2.toS' B E))
     have HS8 := hid hx.1
     clear hx hv HN8' HS8' HQS HPS yp yq z0 sf0
     obtain rfl : r = .inr (k8, (G t5 os5 ⟨#[]⟩ false) t8) := HR8.out
     go_wp2_with fail
     go_returns
     refine ⟨HN8.out, rfl, p5, ?_⟩
     rw [HG.out]
     exact HS8.out.ss
    ·have hml : mayB L k5 sLIMIT = false := by simpa using hml
     rw [hml] at hm0
     have HM := hid hm0
     clear hm0
     go_wp2_with fail
     refine HM.out.mono ?_
     rintro e w7 ⟨rfl, hN, hx⟩
     have hx : Cl w7 B S E w.heap.size (w.heap.size + 1) a n c L k5 (⟨4, t5, [], [], nm, false, os5, ⟨#[]⟩, false, -1, ⟨#[]⟩, []⟩ : Sq) p5 := hx
     have HN7 := hid (HN6.out.trans (hN.toS S E))
     have HS7 := hid hx
     clear hN hx HM xp xq
     obtain rfl : r = .inr (k5, (G t5 os5 ⟨#[]⟩ false) (-1)) := by
      rw [HR6.out]
      unfold endF limitF
      rw [if_neg (by simp [hml])]
      rfl
     go_wp2_with fail
     go_returns
     refine ⟨HN7.out, rfl, p5, ?_⟩
     rw [HG.out]
     exact HS7.out.ss
end
end Go.Proofs.YtdeollmeljaaoaaDoor.rd
