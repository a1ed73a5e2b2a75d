import Derived.Test.YtdeollmeljaaoaaDoorDtk
set_option linter.unusedVariables false
set_option linter.unusedSimpArgs false
set_option maxHeartbeats 8000000
set_option maxRecDepth 100000
open Go.ChangeAt Go.ChangeShapes Go.Joins Go.RowKit Go.WideShapes
open Go.Lib (hid)
namespace Go.Proofs.YtdeollmeljaaoaaDoor.rd
open Go.Proofs.YtdeollmeljaaoaaDoor.cs Go.Proofs.YtdeollmeljaaoaaDoor.tw
def nmL (m : Nat) : List ByteArray := [⟨#[115]⟩, ⟨#[105, 100]⟩, ⟨#[110]⟩].take (1 + m)
theorem own_nm {w : World} {B m E : Nat} {T : TypeId} (h : w.heap[B]? = some (.cells #[.string ⟨#[115]⟩, .string ⟨#[105, 100]⟩, .string ⟨#[110]⟩] T (0, 0))) (hE : E ≤ B) (hm : m < 3) : w.ownsRow E T 1 (.slice (some ⟨B, 0, none⟩) (1 + m) 3) (1 + m) ((nmL m).map Value.string) := by
 refine ⟨?_, .inr ⟨B, 3, _, rfl, hE, h, by omega, by unfold maxLen; omega, rfl, ?_⟩⟩
 ·match m, hm with
  | 0, _ => rfl
  | 1, _ => rfl
  | 2, _ => rfl
 ·match m, hm with
  | 0, _ => rfl
  | 1, _ => rfl
  | 2, _ => rfl
theorem nm_ok {m : Nat} (h : m < 3) : nmsF (nmL m) = 0 ∧ (nmL m).length ≤ 6 := by
 match m, h with
 | 0, _ => exact ⟨by decide, by decide⟩
 | 1, _ => exact ⟨by decide, by decide⟩
 | 2, _ => exact ⟨by decide, by decide⟩
theorem sel_ok {nm : List ByteArray} {c dn : Bool} {wh : List Oq} {o : ByteArray} {lim : Int} {j : Nat} (hj : nmF (tbN j).data.toList = 0) (hn : nmsF nm = 0 ∧ nm.length ≤ 6) (hc : c = true → nm = []) (hw : whF wh = 0) (ho : o = ⟨#[]⟩ ∧ dn = false ∨ nmF o.data.toList = 0) (hl : -1 ≤ lim) : st0 ⟨4, tbN j, [], [], nm, c, wh, o, dn, lim, ⟨#[]⟩, []⟩ = 0 := by
 have e1 : ¬ (c = true ∧ 0 < nm.length) := fun e => by
  rw [hc e.1] at e
  simp at e
 have e2 : ¬ (dn = true ∧ em o = true) := fun e => by
  rcases ho with ⟨_, h⟩ | h
  ·rw [h] at e
   simp at e
  ·rw [nm_full h] at e
   simp at e
 have e3 : ordF o = 0 := by
  unfold ordF
  rcases ho with ⟨h, _⟩ | h
  ·rw [h, em0, if_pos rfl]
  ·rw [nm_full h, if_neg (by simp), h]
 refine st0_of (show (1 : Int) ≤ 4 by decide) (show (4 : Int) ≤ 9 by decide) hj ?_ ?_
 ·show selF _ = 0
  unfold selF sel0
  dsimp only
  rw [if_neg]
  ·unfold f3
   rw [hn.1, hw, e3]
   simp
  ·rw [if_neg (by omega), if_neg (by omega), if_neg]
   ·simp
   ·intro e
    rcases e with e | e
    ·exact e1 e
    ·exact e2 e
 ·unfold moreF
  simp [em0]
theorem stmt4 (w : World) (f : Ph) (hf : PhR w f) (hc : pck f.kd 6 = 3) : Calls Tryd.prog 9 #[phV f] w (StmtIs w) := by
 have HF := hid hf
 have HP : Hid (∀ (x m : Int) (W : World), Rn x → 1 ≤ m → m ≤ 12 → Calls Tryd.prog 14 #[.int .i64 x, .int .i64 m] W fun e w' => e = .returned (.int .i64 (pck x m)) ∧ W = w') := fun x m W h h1 h2 => pck_any x m W h h1 (by omega)
 have HPK : Hid (∀ W, Calls Tryd.prog 14 #[.int .i64 f.kd, .int .i64 6] W fun e w' => e = .returned (.int .i64 3) ∧ W = w') := fun W => by
  have := HP.out f.kd 6 W HF.out.kd (by omega) (by omega)
  rwa [hc] at this
 have hj := pck_in f.tb 2 (by omega)
 obtain ⟨j, hjj⟩ : ∃ j : Nat, (j : Int) = pck f.tb 2 := ⟨(pck f.tb 2).toNat, by omega⟩
 have HPT : Hid (∀ W, Calls Tryd.prog 14 #[.int .i64 f.tb, .int .i64 2] W fun e w' => e = .returned (.int .i64 (j : Int)) ∧ W = w') := fun W => by
  have := HP.out f.tb 2 W HF.out.tb (by omega) (by omega)
  rwa [← hjj] at this
 have HJ : Hid (j < 2) := by show _ < _; omega
 have HTB : Hid (nmF (tbN j).data.toList = 0) := tb_nm HJ.out
 have HW0 : Hid (∀ W, W = (w.alloc (.cells (phC f) 27)).alloc (.cells (stC ⟨0, ⟨#[]⟩, [], [], [], false, [], ⟨#[]⟩, false, 0, ⟨#[]⟩, []⟩ ps0) 33) → Below w.heap.size w W ∧ W.heap[w.heap.size]? = some (.cells (phC f) 27 (0, 0)) ∧ W.heap[w.heap.size + 1]? = some (.cells (stC ⟨0, ⟨#[]⟩, [], [], [], false, [], ⟨#[]⟩, false, 0, ⟨#[]⟩, []⟩ ps0) 33 (0, 0)) ∧ W.heap.size = w.heap.size + 1 + 1) := fun W h => by
  rw [h]
  exact ⟨((Below.refl _ _).alloc (Nat.le_refl _) _).alloc (by simp) _, (Below.heap_alloc _ _ _ (by simp)).trans (new0 _ _), new1 _ _ _, by simp⟩
 have hi3 := pck_in f.a 3 (by omega)
 obtain ⟨i3, ei3⟩ : ∃ i : Nat, (i : Int) = pck f.a 3 := ⟨(pck f.a 3).toNat, by omega⟩
 have HXi3 : Hid (∀ W, Calls Tryd.prog 14 #[.int .i64 f.a, .int .i64 3] W fun e w' => e = .returned (.int .i64 (i3 : Int)) ∧ W = w') := fun W => by
  have := HP.out f.a 3 W hf.a (by omega) (by omega)
  rwa [← ei3] at this
 have HIi3 : Hid (i3 < 3) := by show _ < _; omega
 clear hi3 ei3
 have hm3 := pck_in f.b 3 (by omega)
 obtain ⟨m3, em3⟩ : ∃ i : Nat, (i : Int) = pck f.b 3 := ⟨(pck f.b 3).toNat, by omega⟩
 have HXm3 : Hid (∀ W, Calls Tryd.prog 14 #[.int .i64 f.b, .int .i64 3] W fun e w' => e = .returned (.int .i64 (m3 : Int)) ∧ W = w') := fun W => by
  have := HP.out f.b 3 W hf.b (by omega) (by omega)
  rwa [← em3] at this
 have HIm3 : Hid (m3 < 3) := by show _ < _; omega
 clear hm3 em3
 have hi5 := pck_in f.a 5 (by omega)
 obtain ⟨i5, ei5⟩ : ∃ i : Nat, (i : Int) = pck f.a 5 := ⟨(pck f.a 5).toNat, by omega⟩
 have HXi5 : Hid (∀ W, Calls Tryd.prog 14 #[.int .i64 f.a, .int .i64 5] W fun e w' => e = .returned (.int .i64 (i5 : Int)) ∧ W = w') := fun W => by
  have := HP.out f.a 5 W hf.a (by omega) (by omega)
  rwa [← ei5] at this
 have HIi5 : Hid (i5 < 5) := by show _ < _; omega
 clear hi5 ei5
 have hm4 := pck_in f.b 4 (by omega)
 obtain ⟨m4, em4⟩ : ∃ i : Nat, (i : Int) = pck f.b 4 := ⟨(pck f.b 4).toNat, by omega⟩
 have HXm4 : Hid (∀ W, Calls Tryd.prog 14 #[.int .i64 f.b, .int .i64 4] W fun e w' => e = .returned (.int .i64 (m4 : Int)) ∧ W = w') := fun W => by
  have := HP.out f.b 4 W hf.b (by omega) (by omega)
  rwa [← em4] at this
 have HIm4 : Hid (m4 < 4) := by show _ < _; omega
 clear hm4 em4
 have hi2 := pck_in f.a 2 (by omega)
 obtain ⟨i2, ei2⟩ : ∃ i : Nat, (i : Int) = pck f.a 2 := ⟨(pck f.a 2).toNat, by omega⟩
 have HXi2 : Hid (∀ W, Calls Tryd.prog 14 #[.int .i64 f.a, .int .i64 2] W fun e w' => e = .returned (.int .i64 (i2 : Int)) ∧ W = w') := fun W => by
  have := HP.out f.a 2 W hf.a (by omega) (by omega)
  rwa [← ei2] at this
 have HIi2 : Hid (i2 < 2) := by show _ < _; omega
 clear hi2 ei2
 have hi9 := pck_in f.a 9 (by omega)
 obtain ⟨i9, ei9⟩ : ∃ i : Nat, (i : Int) = pck f.a 9 := ⟨(pck f.a 9).toNat, by omega⟩
 have HXi9 : Hid (∀ W, Calls Tryd.prog 14 #[.int .i64 f.a, .int .i64 9] W fun e w' => e = .returned (.int .i64 (i9 : Int)) ∧ W = w') := fun W => by
  have := HP.out f.a 9 W hf.a (by omega) (by omega)
  rwa [← ei9] at this
 have HIi9 : Hid (i9 < 9) := by show _ < _; omega
 clear hi9 ei9
 clear hf hc hj hjj
 go_enter Tryd.func9, Tryd.ntmps9
 go_upto_region 1 with (fail)
 refine code_nm (fun w1 hW => ?_)
 obtain ⟨hb1, hp1, hr1, hz1⟩ := HW0.out w1 hW
 obtain ⟨P, hP⟩ : ∃ P, P = w.heap.size := ⟨_, rfl⟩
 have HPL : Hid (w.heap.size ≤ P) := by show _ ≤ _; omega
 rw [← hP] at hp1 hr1 hz1 ⊢
 have HB1 := hid (And.intro hb1 (And.intro hr1 (And.intro hz1 HPL.out)))
 have HPW : Hid (Pw f P w1 w1) := ⟨hp1, Below.refl _ _⟩
 clear hW hb1 hp1 hr1 hz1 hP HW0
 change Code.wp _ ((regionOf 1 (Tryd.f9.body.getD .skip)).getD .skip) _ _ _
 refine sreg1 _ f P j 3 w1 HPW (hid ⟨by omega, HJ.out⟩) HPK HPT (hid fun u4 u5 u6 u7 u8 u9 u10 u11 u12 u13 u14 S w2 hp hs hS => ?_)
 have HSV : Hid (Sv f P S (P + 1) w2.heap.size ⟨4, tbN j, [], [], [], false, [], ⟨#[]⟩, false, -1, ⟨#[]⟩, []⟩ ⟨none, 0, 0, none, 0, 0, none, 0, 0, none, 0, 0, none, 0, 0⟩ w w2) := by
  obtain ⟨g1, g2, g3, g4⟩ := HB1.out
  have hl := blk_lt hs
  have hz := hp.2.size
  exact ⟨hp.1, hs, (hp.2.block _ (blk_lt g2)).trans g2, StO.nil, g1.trans (hp.2.mono (by omega)), ⟨by omega, by omega, by omega⟩, ⟨by omega, by omega, by omega⟩, hl, by omega, Nat.le_refl _⟩
 obtain ⟨E, hE⟩ : ∃ E, E = w2.heap.size := ⟨_, rfl⟩
 rw [← hE] at HSV
 have HFW : Hid (∀ W, Below w.heap.size w W → PhR W f) := fun W h => HF.out.below h
 clear hp hs hS hE HB1 HPW HPK HPT HPL HF
 obtain ⟨x0, x1, x2, x3, x4, x5, x6, x7, x8, x9, x10, x11, f0, f1, f2, f3, f4, f5, f6, f7, f8, f9, f10, f11⟩ := box12 HSV.out.bx
 obtain ⟨y0, y1, y2, y3, y4, y5, y6, y7, y8, y9, y10, y11, y12, y13⟩ := box14 HSV.out.ph
 (try dsimp only at x0 x1 x2 x3 x4 x5 x6 x7 x8 x9 x10 x11)
 go_upto_region 8 with (fail)
 go_wp2_with fail
 refine (HXi3.out _).mono ?_
 rintro e w3 ⟨rfl, rfl⟩
 by_cases hi3 : (i3 : Int) = 1
 ·go_upto_region 9 with (fail)
  have q3 : (w2.alloc (.cells #[.string ⟨#[115]⟩, .string ⟨#[105, 100]⟩, .string ⟨#[110]⟩] 9)).cell? ⟨P, 3, none⟩ = some (.int .i64 f.b) := (((Below.refl _ w2).alloc (Nat.le_refl _) _).cell (p := ⟨P, 3, none⟩) (lt_cell y3)).trans y3
  go_wp2_with fail
  refine calls_nm (fun w3 hW => ?_)
  have hb3 : Below w2.heap.size w2 w3 := by rw [hW]; exact (Below.refl _ _).alloc (Nat.le_refl _) _
  have hn3 : w3.heap[w2.heap.size]? = some (.cells #[.string ⟨#[115]⟩, .string ⟨#[105, 100]⟩, .string ⟨#[110]⟩] 9 (0, 0)) := by rw [hW]; exact new0 _ _
  have HS3 := hid (HSV.out.go hb3)
  have HN3 := hid (And.intro hn3 HSV.out.wf.2.2.2.2)
  have hm0 : (0 : Int) ≤ (m3 : Int) := by omega
  have hm3 : (m3 : Int) < 3 := by have := HIm3.out; omega
  clear hW hb3 hn3 HSV q3 x0 x1 x2 x3 x4 x5 x6 x7 x8 x9 x10 x11 f0 f1 f2 f3 f4 f5 f6 f7 f8 f9 f10 f11 y0 y1 y2 y3 y4 y5 y6 y7 y8 y9 y10 y11 y12 y13
  refine (HXm3.out _).mono ?_
  rintro e w4 ⟨rfl, rfl⟩
  obtain ⟨x0, x1, x2, x3, x4, x5, x6, x7, x8, x9, x10, x11, f0, f1, f2, f3, f4, f5, f6, f7, f8, f9, f10, f11⟩ := box12 HS3.out.bx
  obtain ⟨y0, y1, y2, y3, y4, y5, y6, y7, y8, y9, y10, y11, y12, y13⟩ := box14 HS3.out.ph
  (try dsimp only at x0 x1 x2 x3 x4 x5 x6 x7 x8 x9 x10 x11)
  go_upto_region 10 with (fail)
  refine code_nm (fun w4 hW => ?_)
  have HS4 : Hid (Sv f P S (P + 1) E ⟨4, tbN j, [], [], (nmL m3), false, [], ⟨#[]⟩, false, -1, ⟨#[]⟩, []⟩ ⟨none, 0, 0, none, 0, 0, some ⟨w2.heap.size, 0, none⟩, 1 + m3, 3, none, 0, 0, none, 0, 0⟩ w w4) := by
   rw [hW]
   exact HS3.out.put (s' := ⟨4, tbN j, [], [], (nmL m3), false, [], ⟨#[]⟩, false, -1, ⟨#[]⟩, []⟩) (p' := ⟨none, 0, 0, none, 0, 0, some ⟨w2.heap.size, 0, none⟩, 1 + m3, 3, none, 0, 0, none, 0, 0⟩) 4 (.slice (some ⟨w2.heap.size, 0, none⟩) (1 + m3) 3) rfl ⟨HS3.out.ow.o2, HS3.out.ow.o3, own_nm HN3.out.1 HN3.out.2 HIm3.out, HS3.out.ow.o6, HS3.out.ow.o11⟩
  clear hW HS3 HN3 x0 x1 x2 x3 x4 x5 x6 x7 x8 x9 x10 x11 f0 f1 f2 f3 f4 f5 f6 f7 f8 f9 f10 f11 y0 y1 y2 y3 y4 y5 y6 y7 y8 y9 y10 y11 y12 y13
  obtain ⟨x0, x1, x2, x3, x4, x5, x6, x7, x8, x9, x10, x11, f0, f1, f2, f3, f4, f5, f6, f7, f8, f9, f10, f11⟩ := box12 HS4.out.bx
  obtain ⟨y0, y1, y2, y3, y4, y5, y6, y7, y8, y9, y10, y11, y12, y13⟩ := box14 HS4.out.ph
  (try dsimp only at x0 x1 x2 x3 x4 x5 x6 x7 x8 x9 x10 x11)
  go_wp2_with fail
  refine (HXi5.out _).mono ?_
  rintro e w5 ⟨rfl, rfl⟩
  obtain ⟨cb, hcb⟩ : ∃ b, b = ((i5 : Int) == 3) := ⟨_, rfl⟩
  go_upto_region 11 with (fail)
  refine code_nm (fun w5 hW => ?_)
  rw [← hcb] at hW
  have HS5 : Hid (Sv f P S (P + 1) E ⟨4, tbN j, [], [], (nmL m3), cb, [], ⟨#[]⟩, false, -1, ⟨#[]⟩, []⟩ ⟨none, 0, 0, none, 0, 0, some ⟨w2.heap.size, 0, none⟩, 1 + m3, 3, none, 0, 0, none, 0, 0⟩ w w5) := by
   rw [hW]
   exact HS4.out.put (s' := ⟨4, tbN j, [], [], (nmL m3), cb, [], ⟨#[]⟩, false, -1, ⟨#[]⟩, []⟩) (p' := ⟨none, 0, 0, none, 0, 0, some ⟨w2.heap.size, 0, none⟩, 1 + m3, 3, none, 0, 0, none, 0, 0⟩) 5 (.bool cb) rfl ⟨HS4.out.ow.o2, HS4.out.ow.o3, HS4.out.ow.o4, HS4.out.ow.o6, HS4.out.ow.o11⟩
  clear hW hcb HS4 x0 x1 x2 x3 x4 x5 x6 x7 x8 x9 x10 x11 f0 f1 f2 f3 f4 f5 f6 f7 f8 f9 f10 f11 y0 y1 y2 y3 y4 y5 y6 y7 y8 y9 y10 y11 y12 y13
  cases cb with
  | true =>
   obtain ⟨x0, x1, x2, x3, x4, x5, x6, x7, x8, x9, x10, x11, f0, f1, f2, f3, f4, f5, f6, f7, f8, f9, f10, f11⟩ := box12 HS5.out.bx
   obtain ⟨y0, y1, y2, y3, y4, y5, y6, y7, y8, y9, y10, y11, y12, y13⟩ := box14 HS5.out.ph
   (try dsimp only at x0 x1 x2 x3 x4 x5 x6 x7 x8 x9 x10 x11)
   go_upto_region 13 with (fail)
   refine code_nm (fun w6 hW => ?_)
   have HS6 : Hid (Sv f P S (P + 1) E ⟨4, tbN j, [], [], [], true, [], ⟨#[]⟩, false, -1, ⟨#[]⟩, []⟩ ⟨none, 0, 0, none, 0, 0, none, 0, 0, none, 0, 0, none, 0, 0⟩ w w6) := by
    rw [hW]
    exact HS5.out.put (s' := ⟨4, tbN j, [], [], [], true, [], ⟨#[]⟩, false, -1, ⟨#[]⟩, []⟩) (p' := ⟨none, 0, 0, none, 0, 0, none, 0, 0, none, 0, 0, none, 0, 0⟩) 4 (.slice none 0 0) rfl ⟨HS5.out.ow.o2, HS5.out.ow.o3, own_nil _ _, HS5.out.ow.o6, HS5.out.ow.o11⟩
   clear hW HS5 x0 x1 x2 x3 x4 x5 x6 x7 x8 x9 x10 x11 f0 f1 f2 f3 f4 f5 f6 f7 f8 f9 f10 f11 y0 y1 y2 y3 y4 y5 y6 y7 y8 y9 y10 y11 y12 y13
   change Code.wp _ ((regionOf 13 (Tryd.f9.body.getD .skip)).getD .skip) _ _ _
   refine sreg13 _ f P S E _ _ w _ HS6 m4 HXm4 HIm4 (fun u63 u64 u65 u66 u67 u68 u69 w7 h7 => ?_)
   dsimp only at h7
   have HS7 := hid h7
   clear h7
   go_upto_region 14 with (fail)
   change Code.wp _ ((regionOf 14 (Tryd.f9.body.getD .skip)).getD .skip) _ _ _
   refine sreg14 _ f P S E _ _ w _ HS7 i2 HXi2 (ord_em HIm4.out) (fun u70 u71 u72 u73 u74 u75 u76 u77 u78 u79 db w8 hdb h8 => ?_)
   dsimp only at h8 hdb
   have HS8 := hid h8
   have HDB := hid hdb
   clear h8 hdb HS7
   go_upto_region 15 with (fail)
   change Code.wp _ ((regionOf 15 (Tryd.f9.body.getD .skip)).getD .skip) _ _ _
   refine sreg15 _ f P S E _ _ w _ HS8 i9 HXi9 HIi9 (fun u80 u81 u82 u83 u84 wc h9 => ?_)
   dsimp only at h9
   have HSc := hid h9
   clear h9 HS8
   obtain ⟨x0, x1, x2, x3, x4, x5, x6, x7, x8, x9, x10, x11, f0, f1, f2, f3, f4, f5, f6, f7, f8, f9, f10, f11⟩ := box12 HSc.out.bx
   obtain ⟨y0, y1, y2, y3, y4, y5, y6, y7, y8, y9, y10, y11, y12, y13⟩ := box14 HSc.out.ph
   (try dsimp only at x0 x1 x2 x3 x4 x5 x6 x7 x8 x9 x10 x11)
   go_upto_region 19 with (fail)
   cases hbr : f.br with
   | true =>
    rw [hbr] at y13
    go_upto_region 21 with (fail)
    clear x0 x1 x2 x3 x4 x5 x6 x7 x8 x9 x10 x11 f0 f1 f2 f3 f4 f5 f6 f7 f8 f9 f10 f11 y0 y1 y2 y3 y4 y5 y6 y7 y8 y9 y10 y11 y12 y13
    change Code.wp _ ((regionOf 21 (Tryd.f9.body.getD .skip)).getD .skip) _ _ _
    refine sreg21 _ f P S E _ _ w _ HSc (fun v w9 h9 => ?_)
    have HE := hid h9
    clear h9
    rename_i hK
    refine hK _ _ (wp_ret ?_)
    exact fin_ok HSc HE.out (few_w (sel_ok HTB.out ⟨rfl, by decide⟩ (fun _ => rfl) rfl (ord_or HIm4.out HDB.out) (by omega)) vb_nil wf_nil wf_nil (by show (i9 : Int) - 1 ≤ 9223372036854775807; have := HIi9.out; omega)) rfl rfl
   | false =>
    rw [hbr] at y13
    go_upto_region 20 with (fail)
    clear x0 x1 x2 x3 x4 x5 x6 x7 x8 x9 x10 x11 f0 f1 f2 f3 f4 f5 f6 f7 f8 f9 f10 f11 y0 y1 y2 y3 y4 y5 y6 y7 y8 y9 y10 y11 y12 y13
    change Code.wp _ ((regionOf 20 (Tryd.f9.body.getD .skip)).getD .skip) _ _ _
    refine sreg20 _ f P S E _ _ w _ HSc HFW (fun u106 u107 u108 u109 lb a6 c6 wd hwb hlb hsd => ?_)
    dsimp only at hsd
    have HSd := hid hsd
    have HWb := hid (And.intro hwb hlb)
    clear hwb hlb hsd
    go_upto_region 21 with (fail)
    change Code.wp _ ((regionOf 21 (Tryd.f9.body.getD .skip)).getD .skip) _ _ _
    refine sreg21 _ f P S E _ _ w _ HSd (fun v w9 h9 => ?_)
    have HE := hid h9
    clear h9
    rename_i hK
    refine hK _ _ (wp_ret ?_)
    exact fin_ok HSd HE.out (few_w (sel_ok HTB.out ⟨rfl, by decide⟩ (fun _ => rfl) (whl_wh HWb.out.1 HWb.out.2) (ord_or HIm4.out HDB.out) (by omega)) vb_nil (whl_wf HWb.out.1) wf_nil (by show (i9 : Int) - 1 ≤ 9223372036854775807; have := HIi9.out; omega)) rfl rfl
  | false =>
   obtain ⟨x0, x1, x2, x3, x4, x5, x6, x7, x8, x9, x10, x11, f0, f1, f2, f3, f4, f5, f6, f7, f8, f9, f10, f11⟩ := box12 HS5.out.bx
   obtain ⟨y0, y1, y2, y3, y4, y5, y6, y7, y8, y9, y10, y11, y12, y13⟩ := box14 HS5.out.ph
   (try dsimp only at x0 x1 x2 x3 x4 x5 x6 x7 x8 x9 x10 x11)
   go_upto_region 13 with (fail)
   clear x0 x1 x2 x3 x4 x5 x6 x7 x8 x9 x10 x11 f0 f1 f2 f3 f4 f5 f6 f7 f8 f9 f10 f11 y0 y1 y2 y3 y4 y5 y6 y7 y8 y9 y10 y11 y12 y13
   change Code.wp _ ((regionOf 13 (Tryd.f9.body.getD .skip)).getD .skip) _ _ _
   refine sreg13 _ f P S E _ _ w _ HS5 m4 HXm4 HIm4 (fun u63 u64 u65 u66 u67 u68 u69 w7 h7 => ?_)
   dsimp only at h7
   have HS7 := hid h7
   clear h7
   go_upto_region 14 with (fail)
   change Code.wp _ ((regionOf 14 (Tryd.f9.body.getD .skip)).getD .skip) _ _ _
   refine sreg14 _ f P S E _ _ w _ HS7 i2 HXi2 (ord_em HIm4.out) (fun u70 u71 u72 u73 u74 u75 u76 u77 u78 u79 db w8 hdb h8 => ?_)
   dsimp only at h8 hdb
   have HS8 := hid h8
   have HDB := hid hdb
   clear h8 hdb HS7
   go_upto_region 15 with (fail)
   change Code.wp _ ((regionOf 15 (Tryd.f9.body.getD .skip)).getD .skip) _ _ _
   refine sreg15 _ f P S E _ _ w _ HS8 i9 HXi9 HIi9 (fun u80 u81 u82 u83 u84 wc h9 => ?_)
   dsimp only at h9
   have HSc := hid h9
   clear h9 HS8
   obtain ⟨x0, x1, x2, x3, x4, x5, x6, x7, x8, x9, x10, x11, f0, f1, f2, f3, f4, f5, f6, f7, f8, f9, f10, f11⟩ := box12 HSc.out.bx
   obtain ⟨y0, y1, y2, y3, y4, y5, y6, y7, y8, y9, y10, y11, y12, y13⟩ := box14 HSc.out.ph
   (try dsimp only at x0 x1 x2 x3 x4 x5 x6 x7 x8 x9 x10 x11)
   go_upto_region 19 with (fail)
   cases hbr : f.br with
   | true =>
    rw [hbr] at y13
    go_upto_region 21 with (fail)
    clear x0 x1 x2 x3 x4 x5 x6 x7 x8 x9 x10 x11 f0 f1 f2 f3 f4 f5 f6 f7 f8 f9 f10 f11 y0 y1 y2 y3 y4 y5 y6 y7 y8 y9 y10 y11 y12 y13
    change Code.wp _ ((regionOf 21 (Tryd.f9.body.getD .skip)).getD .skip) _ _ _
    refine sreg21 _ f P S E _ _ w _ HSc (fun v w9 h9 => ?_)
    have HE := hid h9
    clear h9
    rename_i hK
    refine hK _ _ (wp_ret ?_)
    exact fin_ok HSc HE.out (few_w (sel_ok HTB.out (nm_ok HIm3.out) (fun e => by cases e) rfl (ord_or HIm4.out HDB.out) (by omega)) vb_nil wf_nil wf_nil (by show (i9 : Int) - 1 ≤ 9223372036854775807; have := HIi9.out; omega)) rfl rfl
   | false =>
    rw [hbr] at y13
    go_upto_region 20 with (fail)
    clear x0 x1 x2 x3 x4 x5 x6 x7 x8 x9 x10 x11 f0 f1 f2 f3 f4 f5 f6 f7 f8 f9 f10 f11 y0 y1 y2 y3 y4 y5 y6 y7 y8 y9 y10 y11 y12 y13
    change Code.wp _ ((regionOf 20 (Tryd.f9.body.getD .skip)).getD .skip) _ _ _
    refine sreg20 _ f P S E _ _ w _ HSc HFW (fun u106 u107 u108 u109 lb a6 c6 wd hwb hlb hsd => ?_)
    dsimp only at hsd
    have HSd := hid hsd
    have HWb := hid (And.intro hwb hlb)
    clear hwb hlb hsd
    go_upto_region 21 with (fail)
    change Code.wp _ ((regionOf 21 (Tryd.f9.body.getD .skip)).getD .skip) _ _ _
    refine sreg21 _ f P S E _ _ w _ HSd (fun v w9 h9 => ?_)
    have HE := hid h9
    clear h9
    rename_i hK
    refine hK _ _ (wp_ret ?_)
    exact fin_ok HSd HE.out (few_w (sel_ok HTB.out (nm_ok HIm3.out) (fun e => by cases e) (whl_wh HWb.out.1 HWb.out.2) (ord_or HIm4.out HDB.out) (by omega)) vb_nil (whl_wf HWb.out.1) wf_nil (by show (i9 : Int) - 1 ≤ 9223372036854775807; have := HIi9.out; omega)) rfl rfl
 ·go_upto_region 10 with (fail)
  clear x0 x1 x2 x3 x4 x5 x6 x7 x8 x9 x10 x11 f0 f1 f2 f3 f4 f5 f6 f7 f8 f9 f10 f11 y0 y1 y2 y3 y4 y5 y6 y7 y8 y9 y10 y11 y12 y13
  obtain ⟨x0, x1, x2, x3, x4, x5, x6, x7, x8, x9, x10, x11, f0, f1, f2, f3, f4, f5, f6, f7, f8, f9, f10, f11⟩ := box12 HSV.out.bx
  obtain ⟨y0, y1, y2, y3, y4, y5, y6, y7, y8, y9, y10, y11, y12, y13⟩ := box14 HSV.out.ph
  (try dsimp only at x0 x1 x2 x3 x4 x5 x6 x7 x8 x9 x10 x11)
  go_wp2_with fail
  refine (HXi5.out _).mono ?_
  rintro e w5 ⟨rfl, rfl⟩
  obtain ⟨cb, hcb⟩ : ∃ b, b = ((i5 : Int) == 3) := ⟨_, rfl⟩
  go_upto_region 11 with (fail)
  refine code_nm (fun w5 hW => ?_)
  rw [← hcb] at hW
  have HS5 : Hid (Sv f P S (P + 1) E ⟨4, tbN j, [], [], [], cb, [], ⟨#[]⟩, false, -1, ⟨#[]⟩, []⟩ ⟨none, 0, 0, none, 0, 0, none, 0, 0, none, 0, 0, none, 0, 0⟩ w w5) := by
   rw [hW]
   exact HSV.out.put (s' := ⟨4, tbN j, [], [], [], cb, [], ⟨#[]⟩, false, -1, ⟨#[]⟩, []⟩) (p' := ⟨none, 0, 0, none, 0, 0, none, 0, 0, none, 0, 0, none, 0, 0⟩) 5 (.bool cb) rfl ⟨HSV.out.ow.o2, HSV.out.ow.o3, HSV.out.ow.o4, HSV.out.ow.o6, HSV.out.ow.o11⟩
  clear hW hcb HSV x0 x1 x2 x3 x4 x5 x6 x7 x8 x9 x10 x11 f0 f1 f2 f3 f4 f5 f6 f7 f8 f9 f10 f11 y0 y1 y2 y3 y4 y5 y6 y7 y8 y9 y10 y11 y12 y13
  cases cb with
  | true =>
   obtain ⟨x0, x1, x2, x3, x4, x5, x6, x7, x8, x9, x10, x11, f0, f1, f2, f3, f4, f5, f6, f7, f8, f9, f10, f11⟩ := box12 HS5.out.bx
   obtain ⟨y0, y1, y2, y3, y4, y5, y6, y7, y8, y9, y10, y11, y12, y13⟩ := box14 HS5.out.ph
   (try dsimp only at x0 x1 x2 x3 x4 x5 x6 x7 x8 x9 x10 x11)
   go_upto_region 13 with (fail)
   refine code_nm (fun w6 hW => ?_)
   have HS6 : Hid (Sv f P S (P + 1) E ⟨4, tbN j, [], [], [], true, [], ⟨#[]⟩, false, -1, ⟨#[]⟩, []⟩ ⟨none, 0, 0, none, 0, 0, none, 0, 0, none, 0, 0, none, 0, 0⟩ w w6) := by
    rw [hW]
    exact HS5.out.put (s' := ⟨4, tbN j, [], [], [], true, [], ⟨#[]⟩, false, -1, ⟨#[]⟩, []⟩) (p' := ⟨none, 0, 0, none, 0, 0, none, 0, 0, none, 0, 0, none, 0, 0⟩) 4 (.slice none 0 0) rfl ⟨HS5.out.ow.o2, HS5.out.ow.o3, own_nil _ _, HS5.out.ow.o6, HS5.out.ow.o11⟩
   clear hW HS5 x0 x1 x2 x3 x4 x5 x6 x7 x8 x9 x10 x11 f0 f1 f2 f3 f4 f5 f6 f7 f8 f9 f10 f11 y0 y1 y2 y3 y4 y5 y6 y7 y8 y9 y10 y11 y12 y13
   change Code.wp _ ((regionOf 13 (Tryd.f9.body.getD .skip)).getD .skip) _ _ _
   refine sreg13 _ f P S E _ _ w _ HS6 m4 HXm4 HIm4 (fun u63 u64 u65 u66 u67 u68 u69 w7 h7 => ?_)
   dsimp only at h7
   have HS7 := hid h7
   clear h7
   go_upto_region 14 with (fail)
   change Code.wp _ ((regionOf 14 (Tryd.f9.body.getD .skip)).getD .skip) _ _ _
   refine sreg14 _ f P S E _ _ w _ HS7 i2 HXi2 (ord_em HIm4.out) (fun u70 u71 u72 u73 u74 u75 u76 u77 u78 u79 db w8 hdb h8 => ?_)
   dsimp only at h8 hdb
   have HS8 := hid h8
   have HDB := hid hdb
   clear h8 hdb HS7
   go_upto_region 15 with (fail)
   change Code.wp _ ((regionOf 15 (Tryd.f9.body.getD .skip)).getD .skip) _ _ _
   refine sreg15 _ f P S E _ _ w _ HS8 i9 HXi9 HIi9 (fun u80 u81 u82 u83 u84 wc h9 => ?_)
   dsimp only at h9
   have HSc := hid h9
   clear h9 HS8
   obtain ⟨x0, x1, x2, x3, x4, x5, x6, x7, x8, x9, x10, x11, f0, f1, f2, f3, f4, f5, f6, f7, f8, f9, f10, f11⟩ := box12 HSc.out.bx
   obtain ⟨y0, y1, y2, y3, y4, y5, y6, y7, y8, y9, y10, y11, y12, y13⟩ := box14 HSc.out.ph
   (try dsimp only at x0 x1 x2 x3 x4 x5 x6 x7 x8 x9 x10 x11)
   go_upto_region 19 with (fail)
   cases hbr : f.br with
   | true =>
    rw [hbr] at y13
    go_upto_region 21 with (fail)
    clear x0 x1 x2 x3 x4 x5 x6 x7 x8 x9 x10 x11 f0 f1 f2 f3 f4 f5 f6 f7 f8 f9 f10 f11 y0 y1 y2 y3 y4 y5 y6 y7 y8 y9 y10 y11 y12 y13
    change Code.wp _ ((regionOf 21 (Tryd.f9.body.getD .skip)).getD .skip) _ _ _
    refine sreg21 _ f P S E _ _ w _ HSc (fun v w9 h9 => ?_)
    have HE := hid h9
    clear h9
    rename_i hK
    refine hK _ _ (wp_ret ?_)
    exact fin_ok HSc HE.out (few_w (sel_ok HTB.out ⟨rfl, by decide⟩ (fun _ => rfl) rfl (ord_or HIm4.out HDB.out) (by omega)) vb_nil wf_nil wf_nil (by show (i9 : Int) - 1 ≤ 9223372036854775807; have := HIi9.out; omega)) rfl rfl
   | false =>
    rw [hbr] at y13
    go_upto_region 20 with (fail)
    clear x0 x1 x2 x3 x4 x5 x6 x7 x8 x9 x10 x11 f0 f1 f2 f3 f4 f5 f6 f7 f8 f9 f10 f11 y0 y1 y2 y3 y4 y5 y6 y7 y8 y9 y10 y11 y12 y13
    change Code.wp _ ((regionOf 20 (Tryd.f9.body.getD .skip)).getD .skip) _ _ _
    refine sreg20 _ f P S E _ _ w _ HSc HFW (fun u106 u107 u108 u109 lb a6 c6 wd hwb hlb hsd => ?_)
    dsimp only at hsd
    have HSd := hid hsd
    have HWb := hid (And.intro hwb hlb)
    clear hwb hlb hsd
    go_upto_region 21 with (fail)
    change Code.wp _ ((regionOf 21 (Tryd.f9.body.getD .skip)).getD .skip) _ _ _
    refine sreg21 _ f P S E _ _ w _ HSd (fun v w9 h9 => ?_)
    have HE := hid h9
    clear h9
    rename_i hK
    refine hK _ _ (wp_ret ?_)
    exact fin_ok HSd HE.out (few_w (sel_ok HTB.out ⟨rfl, by decide⟩ (fun _ => rfl) (whl_wh HWb.out.1 HWb.out.2) (ord_or HIm4.out HDB.out) (by omega)) vb_nil (whl_wf HWb.out.1) wf_nil (by show (i9 : Int) - 1 ≤ 9223372036854775807; have := HIi9.out; omega)) rfl rfl
  | false =>
   obtain ⟨x0, x1, x2, x3, x4, x5, x6, x7, x8, x9, x10, x11, f0, f1, f2, f3, f4, f5, f6, f7, f8, f9, f10, f11⟩ := box12 HS5.out.bx
   obtain ⟨y0, y1, y2, y3, y4, y5, y6, y7, y8, y9, y10, y11, y12, y13⟩ := box14 HS5.out.ph
   (try dsimp only at x0 x1 x2 x3 x4 x5 x6 x7 x8 x9 x10 x11)
   go_upto_region 13 with (fail)
   clear x0 x1 x2 x3 x4 x5 x6 x7 x8 x9 x10 x11 f0 f1 f2 f3 f4 f5 f6 f7 f8 f9 f10 f11 y0 y1 y2 y3 y4 y5 y6 y7 y8 y9 y10 y11 y12 y13
   change Code.wp _ ((regionOf 13 (Tryd.f9.body.getD .skip)).getD .skip) _ _ _
   refine sreg13 _ f P S E _ _ w _ HS5 m4 HXm4 HIm4 (fun u63 u64 u65 u66 u67 u68 u69 w7 h7 => ?_)
   dsimp only at h7
   have HS7 := hid h7
   clear h7
   go_upto_region 14 with (fail)
   change Code.wp _ ((regionOf 14 (Tryd.f9.body.getD .skip)).getD .skip) _ _ _
   refine sreg14 _ f P S E _ _ w _ HS7 i2 HXi2 (ord_em HIm4.out) (fun u70 u71 u72 u73 u74 u75 u76 u77 u78 u79 db w8 hdb h8 => ?_)
   dsimp only at h8 hdb
   have HS8 := hid h8
   have HDB := hid hdb
   clear h8 hdb HS7
   go_upto_region 15 with (fail)
   change Code.wp _ ((regionOf 15 (Tryd.f9.body.getD .skip)).getD .skip) _ _ _
   refine sreg15 _ f P S E _ _ w _ HS8 i9 HXi9 HIi9 (fun u80 u81 u82 u83 u84 wc h9 => ?_)
   dsimp only at h9
   have HSc := hid h9
   clear h9 HS8
   obtain ⟨x0, x1, x2, x3, x4, x5, x6, x7, x8, x9, x10, x11, f0, f1, f2, f3, f4, f5, f6, f7, f8, f9, f10, f11⟩ := box12 HSc.out.bx
   obtain ⟨y0, y1, y2, y3, y4, y5, y6, y7, y8, y9, y10, y11, y12, y13⟩ := box14 HSc.out.ph
   (try dsimp only at x0 x1 x2 x3 x4 x5 x6 x7 x8 x9 x10 x11)
   go_upto_region 19 with (fail)
   cases hbr : f.br with
   | true =>
    rw [hbr] at y13
    go_upto_region 21 with (fail)
    clear x0 x1 x2 x3 x4 x5 x6 x7 x8 x9 x10 x11 f0 f1 f2 f3 f4 f5 f6 f7 f8 f9 f10 f11 y0 y1 y2 y3 y4 y5 y6 y7 y8 y9 y10 y11 y12 y13
    change Code.wp _ ((regionOf 21 (Tryd.f9.body.getD .skip)).getD .skip) _ _ _
    refine sreg21 _ f P S E _ _ w _ HSc (fun v w9 h9 => ?_)
    have HE := hid h9
    clear h9
    rename_i hK
    refine hK _ _ (wp_ret ?_)
    exact fin_ok HSc HE.out (few_w (sel_ok HTB.out ⟨rfl, by decide⟩ (fun e => by cases e) rfl (ord_or HIm4.out HDB.out) (by omega)) vb_nil wf_nil wf_nil (by show (i9 : Int) - 1 ≤ 9223372036854775807; have := HIi9.out; omega)) rfl rfl
   | false =>
    rw [hbr] at y13
    go_upto_region 20 with (fail)
    clear x0 x1 x2 x3 x4 x5 x6 x7 x8 x9 x10 x11 f0 f1 f2 f3 f4 f5 f6 f7 f8 f9 f10 f11 y0 y1 y2 y3 y4 y5 y6 y7 y8 y9 y10 y11 y12 y13
    change Code.wp _ ((regionOf 20 (Tryd.f9.body.getD .skip)).getD .skip) _ _ _
    refine sreg20 _ f P S E _ _ w _ HSc HFW (fun u106 u107 u108 u109 lb a6 c6 wd hwb hlb hsd => ?_)
    dsimp only at hsd
    have HSd := hid hsd
    have HWb := hid (And.intro hwb hlb)
    clear hwb hlb hsd
    go_upto_region 21 with (fail)
    change Code.wp _ ((regionOf 21 (Tryd.f9.body.getD .skip)).getD .skip) _ _ _
    refine sreg21 _ f P S E _ _ w _ HSd (fun v w9 h9 => ?_)
    have HE := hid h9
    clear h9
    rename_i hK
    refine hK _ _ (wp_ret ?_)
    exact fin_ok HSd HE.out (few_w (sel_ok HTB.out ⟨rfl, by decide⟩ (fun e => by cases e) (whl_wh HWb.out.1 HWb.out.2) (ord_or HIm4.out HDB.out) (by omega)) vb_nil (whl_wf HWb.out.1) wf_nil (by show (i9 : Int) - 1 ≤ 9223372036854775807; have := HIi9.out; omega)) rfl rfl
open Go.Proofs.YtdeollmeljaaoaaDoor.cs Go.Proofs.YtdeollmeljaaoaaDoor.tw
theorem stmt_is (w : World) (f : Ph) (hf : PhR w f) : Calls Tryd.prog 9 #[phV f] w (StmtIs w) := by
 have h := pck_in f.kd 6 (by omega)
 have hk : pck f.kd 6 = 0 ∨ pck f.kd 6 = 1 ∨ pck f.kd 6 = 2 ∨ pck f.kd 6 = 3 ∨ pck f.kd 6 = 4 ∨ pck f.kd 6 = 5 := by omega
 rcases hk with h | h | h | h | h | h
 ·exact stmt1 w f hf h
 ·exact stmt2 w f hf h
 ·exact stmt3 w f hf h
 ·exact stmt4 w f hf h
 ·exact stmt5 w f hf h
 ·exact stmt6 w f hf h
end Go.Proofs.YtdeollmeljaaoaaDoor.rd
