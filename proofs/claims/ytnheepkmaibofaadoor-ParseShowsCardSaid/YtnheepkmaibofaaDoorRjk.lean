import Derived.Test.YtnheepkmaibofaaDoorRik
import Derived.Test.YtnheepkmaibofaaDoorChk
import Derived.Test.YtnheepkmaibofaaDoorYfk
import Derived.Test.YtnheepkmaibofaaDoorCbk
import Derived.Deep.RegionHeld3
import Derived.Deep.RegionWith
import Derived.Deep.RegionLaw
/- Ops as tokens: the document. -/
namespace Go.Proofs.YtnheepkmaibofaaDoor.cs
open Go.ChangeShapes Go.WideShapes Go.ChangeAt Go.RowKit
set_option linter.unusedVariables false
set_option linter.unusedSimpArgs false
set_option maxHeartbeats 8000000
set_option maxRecDepth 1000000
theorem ocs_ln (a : List Oq) : (ocs a).length = a.length * 5 := ocs_length a
theorem gD_last (x : List Oq) (o : Oq) : (x ++ [o]).getD x.length noq = o := by simp
theorem ot_leaf (w : World) (u : Value) (o : Oq) (ho : OOk o) (hw : wks o.k = 0) (hu : Rd w 5 1 u (ocs [o])) :
    Calls Tryd.prog 59 #[u] w (ToksIs (lfT o) w) := by
  have hk : o.k = 1 ∨ o.k = 2 := by
    unfold wks at hw
    split at hw
    · assumption
    · split at hw <;> omega
  obtain ⟨b, p, cap, rfl, hmc, hcm, hbw, hcell⟩ := ops_of hu (by omega)
  obtain ⟨g0, g1, g2, g3, g4⟩ := hcell 0 (by omega)
  simp only [Nat.zero_mul, Nat.add_zero, List.getD_cons_zero] at g0 g1 g2 g3 g4
  have hlit := ho.lit
  have hnam := ho.name
  obtain ⟨k, ⟨vk, vn, vt⟩, t⟩ := o
  simp only at hk hlit hnam g0 g1 g2 g3 g4 ⊢
  have hb0 : Below w.heap.size w (w.alloc (.cells #[.int .i64 k, .int .i64 vk, .int .i64 vn, .string vt, .string t] 46)) := (Below.refl _ _).alloc (Nat.le_refl _) _
  have HB0 := Lib.hid hb0
  clear hcell hu
  rcases hk with rfl | rfl
  · have HV := Lib.hid (valueToks_any (w.alloc (.cells #[.int .i64 1, .int .i64 vk, .int .i64 vn, .string vt, .string t] 46)) _ (hlit rfl))
    clear ho hw hlit hnam hb0
    go_enter Tryd.func59, Tryd.ntmps59
    go_wp2_with fail
    refine HV.out.mono ?_
    rintro e w1 ⟨v1, rfl, h1, h2⟩
    have H := Lib.hid (show ToksIs _ _ (.returned v1) w1 from ⟨v1, rfl, h1, h2⟩)
    clear h1 h2
    go_wp2_with fail
    go_ret
    exact ToksIs.from H.out HB0.out
  · have hn := hnam rfl
    have hsz := nm_size hn
    have HP := Lib.hid (toksT (w.alloc (.cells #[.int .i64 2, .int .i64 vk, .int .i64 vn, .string vt, .string t] 46)) t (by omega) [ptk t] (tz_name hn))
    clear ho hw hlit hnam hb0 hn hsz
    go_enter Tryd.func59, Tryd.ntmps59
    go_wp2_with fail
    refine HP.out.mono ?_
    rintro e w1 ⟨v1, rfl, h1, h2⟩
    have H := Lib.hid (show ToksIs _ _ (.returned v1) w1 from ⟨v1, rfl, h1, h2⟩)
    clear h1 h2
    go_wp2_with fail
    go_ret
    exact ToksIs.from H.out HB0.out
theorem tz_opennot : tz (⟨#[40, 32, 78, 79, 84]⟩ : ByteArray).data.toList = [ptk sOpen, ptk sNOT] := tz_jn [sOpen, sNOT] (by intro t ht; simp at ht; rcases ht with rfl | rfl; exact wOpen; exact wNOT)
theorem tz_isnull : tz (⟨#[73, 83, 32, 78, 85, 76, 76, 32, 41]⟩ : ByteArray).data.toList = [ptk sIS, ptk sNULL, ptk sClose] := tz_jn [sIS, sNULL, sClose] (by intro t ht; simp at ht; rcases ht with rfl | rfl | rfl; exact wIS; exact wNULL; exact wClose)
theorem ot_un (w : World) (m : Nat) (u : Value) (o : Oq) (a : Tx) (ho : OOk o) (hw : wks o.k = 1) (hm : m = a.flat.length + 1) (hm2 : m ≤ 1000) (hu : Rd w 5 m u (ocs (a.flat ++ [o])))
    (ih : ∀ W u', Below w.heap.size w W → Rd W 5 a.flat.length u' (ocs a.flat) → Calls Tryd.prog 59 #[u'] W (ToksIs (shX a) W)) :
    Calls Tryd.prog 59 #[u] w (ToksIs (onT o.k (shX a)) w) := by
  have hk : o.k = 5 ∨ o.k = 11 := by
    unfold wks at hw
    split at hw
    · omega
    · split at hw
      · assumption
      · omega
  have hlen := shX_len a
  obtain ⟨b, p, cap, rfl, hmc, hcm, hbw, hcell⟩ := ops_of hu (by omega)
  obtain ⟨N, hN⟩ : ∃ N, N = a.flat.length := ⟨_, rfl⟩
  rw [← hN] at hm ih hlen
  obtain ⟨g0, g1, g2, g3, g4⟩ := hcell N (by omega)
  have hg : (a.flat ++ [o]).getD N noq = o := by rw [hN]; exact gD_last _ _
  rw [hg] at g0 g1 g2 g3 g4
  have ht := hu.take N (by omega)
  have e1 : (ocs (a.flat ++ [o])).take (N * 5) = ocs a.flat := by rw [ocs_app, List.take_left' (by rw [ocs_ln, hN])]
  rw [e1] at ht
  obtain ⟨k, ⟨vk, vn, vt⟩, t⟩ := o
  simp only at g0 g1 g2 g3 g4 hk ⊢
  have hb0 : Below w.heap.size w (w.alloc (.cells #[.int .i64 k, .int .i64 vk, .int .i64 vn, .string vt, .string t] 46)) := (Below.refl _ _).alloc (Nat.le_refl _) _
  obtain ⟨A, hA⟩ : ∃ A, A = shX a := ⟨_, rfl⟩
  rw [← hA] at ih hlen ⊢
  obtain ⟨W0, hW0⟩ : ∃ W0, W0 = w.alloc (.cells #[.int .i64 k, .int .i64 vk, .int .i64 vn, .string vt, .string t] 46) := ⟨_, rfl⟩
  rw [← hW0] at hb0
  have HC : Hid (∀ W, Below W0.heap.size W0 W → Calls Tryd.prog 59 #[.slice (some ⟨b, p, none⟩) N cap] W (ToksIs A W)) := fun W hW => ih W _ (into hb0 hW) (ht.below (into hb0 hW))
  have HB := Lib.hid hb0
  have HWE := Lib.hid hW0
  have hi0 : (0 : Int) ≤ (N : Int) := by omega
  have hi1 : (N : Int) < (m : Int) := by omega
  have hi2 : (N : Int) ≤ (cap : Int) := by omega
  have hmi : (m : Int) - 1 = (N : Int) := by omega
  clear hcell hg hu ht e1 ih hA hm hb0 hW0 ho hw hN
  rcases hk with rfl | rfl
  · have HA : Hid (∀ W, Below W0.heap.size W0 W → Calls Tryd.prog 55 #[.string ⟨#[40, 32, 78, 79, 84]⟩] W (ToksIs [ptk sOpen, ptk sNOT] W)) := fun W _ => toksT W _ (by decide) _ (tz_opennot)
    have HZ : Hid (∀ W, Below W0.heap.size W0 W → Calls Tryd.prog 55 #[.string sClose] W (ToksIs [ptk sClose] W)) := fun W _ => toksT W _ (by decide) _ (wd_tz wClose)
    have HLN : Hid ([ptk sOpen, ptk sNOT].length + (A.length + ([ptk sClose].length)) ≤ 100000) := by
      show _ ≤ _
      simp only [List.length_cons, List.length_nil]
      omega
    go_enter Tryd.func59, Tryd.ntmps59
    go_wp2_with fail
    rw [← HWE.out]
    change Code.wp _ ((regionOf 8 (Tryd.f59.body.getD .skip)).getD .skip) _ _ _
    refine rop8 _ _ _ _ _ _ _ _ _ _ _ _ _ _ _ _ _ _ _ _ _ _ _ _ _ _ _ _ _ _ _ _ _ _ _ _ _ _ _ _ _ _ _ _ _ _ _ _ _ _ _ _ _ _ _ _ _ _ _ _ _ _ _ _ _ _ _ _ _ _ _ W0 b p m cap N hi2 hi0 A HA HC HZ HLN (Lib.hid ?_)
    intro e29 e30 e31 e32 e33 e34 e35 e36 vv w1 h
    have H := Lib.hid h
    clear h
    go_wp2_with fail
    go_ret
    exact ToksIs.from H.out HB.out
  · have HA : Hid (∀ W, Below W0.heap.size W0 W → Calls Tryd.prog 55 #[.string sOpen] W (ToksIs [ptk sOpen] W)) := fun W _ => toksT W _ (by decide) _ (wd_tz wOpen)
    have HZ : Hid (∀ W, Below W0.heap.size W0 W → Calls Tryd.prog 55 #[.string ⟨#[73, 83, 32, 78, 85, 76, 76, 32, 41]⟩] W (ToksIs [ptk sIS, ptk sNULL, ptk sClose] W)) := fun W _ => toksT W _ (by decide) _ (tz_isnull)
    have HLN : Hid ([ptk sOpen].length + (A.length + ([ptk sIS, ptk sNULL, ptk sClose].length)) ≤ 100000) := by
      show _ ≤ _
      simp only [List.length_cons, List.length_nil]
      omega
    go_enter Tryd.func59, Tryd.ntmps59
    go_wp2_with fail
    rw [← HWE.out]
    change Code.wp _ ((regionOf 10 (Tryd.f59.body.getD .skip)).getD .skip) _ _ _
    refine rop10 _ _ _ _ _ _ _ _ _ _ _ _ _ _ _ _ _ _ _ _ _ _ _ _ _ _ _ _ _ _ _ _ _ _ _ _ _ _ _ _ _ _ _ _ _ _ _ _ _ _ _ _ _ _ _ _ _ _ _ _ _ _ _ _ _ _ _ _ _ _ _ W0 b p m cap N hi2 hi0 A HA HC HZ HLN (Lib.hid ?_)
    intro e40 e41 e42 e43 e44 e45 e46 e47 vv w1 h
    have H := Lib.hid h
    clear h
    go_wp2_with fail
    go_ret
    exact ToksIs.from H.out HB.out
theorem ot_bi (w : World) (m : Nat) (u : Value) (o : Oq) (a c : Tx) (ho : OOk o) (hw : wks o.k = 2) (hcok : c.ok) (hm : m = a.flat.length + c.flat.length + 1) (hm2 : m ≤ 1000) (hu : Rd w 5 m u (ocs (a.flat ++ c.flat ++ [o])))
    (ih : ∀ W u', Below w.heap.size w W → Rd W 5 a.flat.length u' (ocs a.flat) → Calls Tryd.prog 59 #[u'] W (ToksIs (shX a) W))
    (ih2 : ∀ W u', Below w.heap.size w W → Rd W 5 c.flat.length u' (ocs c.flat) → Calls Tryd.prog 59 #[u'] W (ToksIs (shX c) W)) :
    Calls Tryd.prog 59 #[u] w (ToksIs (twT o.k (shX a) (shX c)) w) := by
  obtain ⟨k1, k11⟩ := opF_kind ho.1
  obtain ⟨q1, q2, q5, q11⟩ := wk_2 hw
  have hap := a.flat_pos
  have hcp := c.flat_pos
  have hlen := shX_len a
  have hlen2 := shX_len c
  obtain ⟨b, p, cap, rfl, hmc, hcm, hbw, hcell⟩ := ops_of hu (by omega)
  have hbg0 := fun (W : World) (hW : Below w.heap.size w W) => begins_any W m _ (a.flat ++ c.flat ++ [o]) (hu.below hW) hm2 (a.flat.length + c.flat.length) (by omega) a.flat c hcok (by rw [List.take_left' (by simp)])
  obtain ⟨M, hM⟩ : ∃ N, N = a.flat.length := ⟨_, rfl⟩
  obtain ⟨R, hR⟩ : ∃ N, N = c.flat.length := ⟨_, rfl⟩
  obtain ⟨N, hN⟩ : ∃ N, N = M + R := ⟨_, rfl⟩
  rw [← hM, ← hR, ← hN] at hm hbg0
  rw [← hM] at ih hap hlen
  rw [← hR] at ih2 hcp hlen2
  obtain ⟨g0, g1, g2, g3, g4⟩ := hcell N (by omega)
  have hg : (a.flat ++ c.flat ++ [o]).getD N noq = o := by
    have : N = (a.flat ++ c.flat).length := by rw [List.length_append]; omega
    rw [this]; exact gD_last _ _
  rw [hg] at g0 g1 g2 g3 g4
  have ht := hu.take M (by omega)
  have e1 : (ocs (a.flat ++ c.flat ++ [o])).take (M * 5) = ocs a.flat := by rw [List.append_assoc, ocs_app, List.take_left' (by rw [ocs_ln, hM])]
  rw [e1] at ht
  have hd := (hu.take N (by omega)).drop M (by omega)
  have e2 : ((ocs (a.flat ++ c.flat ++ [o])).take (N * 5)).drop (M * 5) = ocs c.flat := by
    rw [ocs_app (a.flat ++ c.flat), List.take_left' (by rw [ocs_ln, List.length_append]; omega), ocs_app, List.drop_left' (by rw [ocs_ln, hM])]
  rw [e2] at hd
  have hNM : N - M = R := by omega
  rw [hNM] at hd
  have hsl : sliced (some ⟨b, p, none⟩) M N cap 5 = .slice (some ⟨b, p + M * 5, none⟩) R (cap - M) := by
    unfold sliced
    rw [if_neg (by omega), hNM]
    simp [Addr.add]
    omega
  rw [hsl] at hd
  obtain ⟨k, ⟨vk, vn, vt⟩, t⟩ := o
  simp only at g0 g1 g2 g3 g4 k1 k11 q1 q2 q5 q11 ⊢
  obtain ⟨kn, rfl⟩ : ∃ kn : Nat, k = (kn : Int) + 3 := ⟨(k - 3).toNat, by omega⟩
  have hkn : kn < 8 ∧ kn ≠ 2 := by omega
  have hb0 : Below w.heap.size w (w.alloc (.cells #[.int .i64 ((kn : Int) + 3), .int .i64 vk, .int .i64 vn, .string vt, .string t] 46)) := (Below.refl _ _).alloc (Nat.le_refl _) _
  obtain ⟨A, hA⟩ : ∃ A, A = shX a := ⟨_, rfl⟩
  obtain ⟨C, hC⟩ : ∃ A, A = shX c := ⟨_, rfl⟩
  rw [← hA] at ih hlen ⊢
  rw [← hC] at ih2 hlen2 ⊢
  obtain ⟨sg, hsg⟩ : ∃ sg, sg = sgT ((kn : Int) + 3) := ⟨_, rfl⟩
  have hsgw : Wd sg := by
    rw [hsg]
    show Wd ⟨(sgL.getD (Int.toNat ((kn : Int) + 3)) []).toArray⟩
    rw [show Int.toNat ((kn : Int) + 3) = kn + 3 by omega]
    exact wSign _ (by omega) (by omega) (by omega)
  have hsgz : sg.size ≤ 1000 := by
    have := sg_size (kn + 3) (by omega)
    rw [hsg]
    show (sgL.getD (Int.toNat ((kn : Int) + 3)) []).toArray.size ≤ 1000
    rw [show Int.toNat ((kn : Int) + 3) = kn + 3 by omega, List.size_toArray]
    omega
  have HF : Hid (twT ((kn : Int) + 3) A C = [ptk sOpen] ++ (A ++ ([ptk sg] ++ (C ++ [ptk sClose])))) := by show _ = _; rw [hsg]; rfl
  have hcase : kn = 0 ∧ sg = ⟨#[65, 78, 68]⟩ ∨ kn = 1 ∧ sg = ⟨#[79, 82]⟩ ∨ kn = 3 ∧ sg = ⟨#[61]⟩ ∨ kn = 4 ∧ sg = ⟨#[60]⟩ ∨ kn = 5 ∧ sg = ⟨#[43]⟩ ∨ kn = 6 ∧ sg = ⟨#[45]⟩ ∨ kn = 7 ∧ sg = ⟨#[42]⟩ := by
    rw [hsg]
    have : kn = 0 ∨ kn = 1 ∨ kn = 3 ∨ kn = 4 ∨ kn = 5 ∨ kn = 6 ∨ kn = 7 := by omega
    rcases this with rfl | rfl | rfl | rfl | rfl | rfl | rfl
    · exact .inl ⟨rfl, rfl⟩
    · exact .inr (.inl ⟨rfl, rfl⟩)
    · exact .inr (.inr (.inl ⟨rfl, rfl⟩))
    · exact .inr (.inr (.inr (.inl ⟨rfl, rfl⟩)))
    · exact .inr (.inr (.inr (.inr (.inl ⟨rfl, rfl⟩))))
    · exact .inr (.inr (.inr (.inr (.inr (.inl ⟨rfl, rfl⟩)))))
    · exact .inr (.inr (.inr (.inr (.inr (.inr ⟨rfl, rfl⟩)))))
  have HLN : Hid ([ptk sOpen].length + (A.length + ([ptk sg].length + (C.length + ([ptk sClose].length)))) ≤ 100000) := by
    show _ ≤ _
    simp only [List.length_cons, List.length_nil]
    omega
  have hi0 : (0 : Int) ≤ (N : Int) := by omega
  have hi1 : (N : Int) < (m : Int) := by omega
  have hi2 : (N : Int) ≤ (cap : Int) := by omega
  have hi3 : (M : Int) ≤ (cap : Int) := by omega
  have hi4 : (0 : Int) ≤ (M : Int) := by omega
  have hi5 : (M : Int) ≤ (N : Int) := by omega
  have hi6 : ¬ M = cap := by omega
  have hi7 : ¬ cap = M := by omega
  have hmi : (m : Int) - 1 = (N : Int) := by omega
  have HO : Hid (∀ W : World, Calls Tryd.prog 55 #[.string sOpen] W (ToksIs [ptk sOpen] W)) := fun W => toksT W _ (by decide) _ (wd_tz wOpen)
  have HZ : Hid (∀ W : World, Calls Tryd.prog 55 #[.string sClose] W (ToksIs [ptk sClose] W)) := fun W => toksT W _ (by decide) _ (wd_tz wClose)
  have HS : Hid (∀ W : World, Calls Tryd.prog 55 #[.string sg] W (ToksIs [ptk sg] W)) := fun W => toksT W _ hsgz _ (wd_tz hsgw)
  have HIA : Hid (∀ W, Below w.heap.size w W → Calls Tryd.prog 59 #[.slice (some ⟨b, p, none⟩) M cap] W (ToksIs A W)) := fun W hW => ih W _ hW (ht.below hW)
  have HIC : Hid (∀ W, Below w.heap.size w W → Calls Tryd.prog 59 #[.slice (some ⟨b, p + M * 5, none⟩) R (cap - M)] W (ToksIs C W)) := fun W hW => ih2 W _ hW (hd.below hW)
  have HBG : Hid (∀ W, Below w.heap.size w W → Calls Tryd.prog 84 #[.slice (some ⟨b, p, none⟩) m cap, .int .i64 (N : Int)] W fun e w' => e = .returned (.int .i64 (M : Int)) ∧ w' = W) := fun W hW => hbg0 W hW
  clear hcell hg hu ht hd e1 e2 hsl ih ih2 hbg0 hA hC hm ho hw hN hM hR hsg hsgw hsgz hcp hap k1 k11 q1 q2 q5 q11 hlen hlen2 hmc
  rw [HF.out]
  clear HF
  have HNM := Lib.hid hNM
  clear hNM hcok
  rcases hcase with ⟨rfl, rfl⟩ | ⟨rfl, rfl⟩ | ⟨rfl, rfl⟩ | ⟨rfl, rfl⟩ | ⟨rfl, rfl⟩ | ⟨rfl, rfl⟩ | ⟨rfl, rfl⟩
  · have HB0 := Lib.hid hb0
    clear hb0 hkn
    go_enter Tryd.func59, Tryd.ntmps59
    go_wp2_with fail
    refine (HBG.out _ (by go_grown)).mono ?_
    rintro e W0 ⟨rfl, hW0⟩
    have hbw : Below w.heap.size w W0 := by rw [hW0]; go_grown
    have HBW := Lib.hid hbw
    clear hW0 hbw
    go_wp2_with fail
    change Code.wp _ ((regionOf 13 (Tryd.f59.body.getD .skip)).getD .skip) _ _ _
    refine rop13 _ _ _ _ _ _ _ _ _ _ _ _ _ _ _ _ _ _ _ _ _ _ _ _ _ _ _ _ _ _ _ _ _ _ _ _ _ _ _ _ _ _ _ _ _ _ _ _ _ _ _ _ _ _ _ _ _ _ _ _ _ _ _ _ _ _ _ _ _ W0 b p m cap N M R hi2 hi0 hi3 hi4 hi5 hi6 hi7 HNM.out _ A C (Lib.hid fun W _ => HO.out W) (Lib.hid fun W hW => HIA.out W (into HBW.out hW)) (Lib.hid fun W _ => HS.out W) (Lib.hid fun W hW => HIC.out W (into HBW.out hW)) (Lib.hid fun W _ => HZ.out W) HLN (Lib.hid ?_)
    intro e57 e58 e59 e60 e61 e62 e63 e64 e65 e66 e67 e68 e69 e70 e71 vv wz h
    have H := Lib.hid h
    clear h
    go_wp2_with fail
    go_ret
    exact ToksIs.from H.out HBW.out
  · have HB0 := Lib.hid hb0
    clear hb0 hkn
    go_enter Tryd.func59, Tryd.ntmps59
    go_wp2_with fail
    refine (HBG.out _ (by go_grown)).mono ?_
    rintro e W0 ⟨rfl, hW0⟩
    have hbw : Below w.heap.size w W0 := by rw [hW0]; go_grown
    have HBW := Lib.hid hbw
    clear hW0 hbw
    go_wp2_with fail
    change Code.wp _ ((regionOf 13 (Tryd.f59.body.getD .skip)).getD .skip) _ _ _
    refine rop13 _ _ _ _ _ _ _ _ _ _ _ _ _ _ _ _ _ _ _ _ _ _ _ _ _ _ _ _ _ _ _ _ _ _ _ _ _ _ _ _ _ _ _ _ _ _ _ _ _ _ _ _ _ _ _ _ _ _ _ _ _ _ _ _ _ _ _ _ _ W0 b p m cap N M R hi2 hi0 hi3 hi4 hi5 hi6 hi7 HNM.out _ A C (Lib.hid fun W _ => HO.out W) (Lib.hid fun W hW => HIA.out W (into HBW.out hW)) (Lib.hid fun W _ => HS.out W) (Lib.hid fun W hW => HIC.out W (into HBW.out hW)) (Lib.hid fun W _ => HZ.out W) HLN (Lib.hid ?_)
    intro e57 e58 e59 e60 e61 e62 e63 e64 e65 e66 e67 e68 e69 e70 e71 vv wz h
    have H := Lib.hid h
    clear h
    go_wp2_with fail
    go_ret
    exact ToksIs.from H.out HBW.out
  · have HB0 := Lib.hid hb0
    clear hb0 hkn
    go_enter Tryd.func59, Tryd.ntmps59
    go_wp2_with fail
    refine (HBG.out _ (by go_grown)).mono ?_
    rintro e W0 ⟨rfl, hW0⟩
    have hbw : Below w.heap.size w W0 := by rw [hW0]; go_grown
    have HBW := Lib.hid hbw
    clear hW0 hbw
    go_wp2_with fail
    change Code.wp _ ((regionOf 13 (Tryd.f59.body.getD .skip)).getD .skip) _ _ _
    refine rop13 _ _ _ _ _ _ _ _ _ _ _ _ _ _ _ _ _ _ _ _ _ _ _ _ _ _ _ _ _ _ _ _ _ _ _ _ _ _ _ _ _ _ _ _ _ _ _ _ _ _ _ _ _ _ _ _ _ _ _ _ _ _ _ _ _ _ _ _ _ W0 b p m cap N M R hi2 hi0 hi3 hi4 hi5 hi6 hi7 HNM.out _ A C (Lib.hid fun W _ => HO.out W) (Lib.hid fun W hW => HIA.out W (into HBW.out hW)) (Lib.hid fun W _ => HS.out W) (Lib.hid fun W hW => HIC.out W (into HBW.out hW)) (Lib.hid fun W _ => HZ.out W) HLN (Lib.hid ?_)
    intro e57 e58 e59 e60 e61 e62 e63 e64 e65 e66 e67 e68 e69 e70 e71 vv wz h
    have H := Lib.hid h
    clear h
    go_wp2_with fail
    go_ret
    exact ToksIs.from H.out HBW.out
  · have HB0 := Lib.hid hb0
    clear hb0 hkn
    go_enter Tryd.func59, Tryd.ntmps59
    go_wp2_with fail
    refine (HBG.out _ (by go_grown)).mono ?_
    rintro e W0 ⟨rfl, hW0⟩
    have hbw : Below w.heap.size w W0 := by rw [hW0]; go_grown
    have HBW := Lib.hid hbw
    clear hW0 hbw
    go_wp2_with fail
    change Code.wp _ ((regionOf 13 (Tryd.f59.body.getD .skip)).getD .skip) _ _ _
    refine rop13 _ _ _ _ _ _ _ _ _ _ _ _ _ _ _ _ _ _ _ _ _ _ _ _ _ _ _ _ _ _ _ _ _ _ _ _ _ _ _ _ _ _ _ _ _ _ _ _ _ _ _ _ _ _ _ _ _ _ _ _ _ _ _ _ _ _ _ _ _ W0 b p m cap N M R hi2 hi0 hi3 hi4 hi5 hi6 hi7 HNM.out _ A C (Lib.hid fun W _ => HO.out W) (Lib.hid fun W hW => HIA.out W (into HBW.out hW)) (Lib.hid fun W _ => HS.out W) (Lib.hid fun W hW => HIC.out W (into HBW.out hW)) (Lib.hid fun W _ => HZ.out W) HLN (Lib.hid ?_)
    intro e57 e58 e59 e60 e61 e62 e63 e64 e65 e66 e67 e68 e69 e70 e71 vv wz h
    have H := Lib.hid h
    clear h
    go_wp2_with fail
    go_ret
    exact ToksIs.from H.out HBW.out
  · have HB0 := Lib.hid hb0
    clear hb0 hkn
    go_enter Tryd.func59, Tryd.ntmps59
    go_wp2_with fail
    refine (HBG.out _ (by go_grown)).mono ?_
    rintro e W0 ⟨rfl, hW0⟩
    have hbw : Below w.heap.size w W0 := by rw [hW0]; go_grown
    have HBW := Lib.hid hbw
    clear hW0 hbw
    go_wp2_with fail
    change Code.wp _ ((regionOf 13 (Tryd.f59.body.getD .skip)).getD .skip) _ _ _
    refine rop13 _ _ _ _ _ _ _ _ _ _ _ _ _ _ _ _ _ _ _ _ _ _ _ _ _ _ _ _ _ _ _ _ _ _ _ _ _ _ _ _ _ _ _ _ _ _ _ _ _ _ _ _ _ _ _ _ _ _ _ _ _ _ _ _ _ _ _ _ _ W0 b p m cap N M R hi2 hi0 hi3 hi4 hi5 hi6 hi7 HNM.out _ A C (Lib.hid fun W _ => HO.out W) (Lib.hid fun W hW => HIA.out W (into HBW.out hW)) (Lib.hid fun W _ => HS.out W) (Lib.hid fun W hW => HIC.out W (into HBW.out hW)) (Lib.hid fun W _ => HZ.out W) HLN (Lib.hid ?_)
    intro e57 e58 e59 e60 e61 e62 e63 e64 e65 e66 e67 e68 e69 e70 e71 vv wz h
    have H := Lib.hid h
    clear h
    go_wp2_with fail
    go_ret
    exact ToksIs.from H.out HBW.out
  · have HB0 := Lib.hid hb0
    clear hb0 hkn
    go_enter Tryd.func59, Tryd.ntmps59
    go_wp2_with fail
    refine (HBG.out _ (by go_grown)).mono ?_
    rintro e W0 ⟨rfl, hW0⟩
    have hbw : Below w.heap.size w W0 := by rw [hW0]; go_grown
    have HBW := Lib.hid hbw
    clear hW0 hbw
    go_wp2_with fail
    change Code.wp _ ((regionOf 13 (Tryd.f59.body.getD .skip)).getD .skip) _ _ _
    refine rop13 _ _ _ _ _ _ _ _ _ _ _ _ _ _ _ _ _ _ _ _ _ _ _ _ _ _ _ _ _ _ _ _ _ _ _ _ _ _ _ _ _ _ _ _ _ _ _ _ _ _ _ _ _ _ _ _ _ _ _ _ _ _ _ _ _ _ _ _ _ W0 b p m cap N M R hi2 hi0 hi3 hi4 hi5 hi6 hi7 HNM.out _ A C (Lib.hid fun W _ => HO.out W) (Lib.hid fun W hW => HIA.out W (into HBW.out hW)) (Lib.hid fun W _ => HS.out W) (Lib.hid fun W hW => HIC.out W (into HBW.out hW)) (Lib.hid fun W _ => HZ.out W) HLN (Lib.hid ?_)
    intro e57 e58 e59 e60 e61 e62 e63 e64 e65 e66 e67 e68 e69 e70 e71 vv wz h
    have H := Lib.hid h
    clear h
    go_wp2_with fail
    go_ret
    exact ToksIs.from H.out HBW.out
  · have HB0 := Lib.hid hb0
    clear hb0 hkn
    go_enter Tryd.func59, Tryd.ntmps59
    go_wp2_with fail
    refine (HBG.out _ (by go_grown)).mono ?_
    rintro e W0 ⟨rfl, hW0⟩
    have hbw : Below w.heap.size w W0 := by rw [hW0]; go_grown
    have HBW := Lib.hid hbw
    clear hW0 hbw
    go_wp2_with fail
    change Code.wp _ ((regionOf 13 (Tryd.f59.body.getD .skip)).getD .skip) _ _ _
    refine rop13 _ _ _ _ _ _ _ _ _ _ _ _ _ _ _ _ _ _ _ _ _ _ _ _ _ _ _ _ _ _ _ _ _ _ _ _ _ _ _ _ _ _ _ _ _ _ _ _ _ _ _ _ _ _ _ _ _ _ _ _ _ _ _ _ _ _ _ _ _ W0 b p m cap N M R hi2 hi0 hi3 hi4 hi5 hi6 hi7 HNM.out _ A C (Lib.hid fun W _ => HO.out W) (Lib.hid fun W hW => HIA.out W (into HBW.out hW)) (Lib.hid fun W _ => HS.out W) (Lib.hid fun W hW => HIC.out W (into HBW.out hW)) (Lib.hid fun W _ => HZ.out W) HLN (Lib.hid ?_)
    intro e57 e58 e59 e60 e61 e62 e63 e64 e65 e66 e67 e68 e69 e70 e71 vv wz h
    have H := Lib.hid h
    clear h
    go_wp2_with fail
    go_ret
    exact ToksIs.from H.out HBW.out
theorem opsToks_any : ∀ (t : Tx), t.ok → (∀ o ∈ t.flat, OOk o) → ∀ (w : World) (m : Nat) (u : Value), m = t.flat.length → m ≤ 1000 → Rd w 5 m u (ocs t.flat) → Calls Tryd.prog 59 #[u] w (ToksIs (shX t) w)
  | .leaf o, h, ho, w, m, u, hm, hm2, hr => by
    obtain rfl : m = 1 := hm
    exact ot_leaf w u o (ho o (by simp [Tx.flat])) h.1 hr
  | .un o a, h, ho, w, m, u, hm, hm2, hr => by
    have hl : m = a.flat.length + 1 := by rw [hm]; simp [Tx.flat]
    exact ot_un w m u o a (ho o (by simp [Tx.flat])) h.1 hl hm2 hr fun W u' hW hu' => opsToks_any a h.2.2 (fun x hx => ho x (by simp [Tx.flat, hx])) W _ u' rfl (by omega) hu'
  | .bi o a c, h, ho, w, m, u, hm, hm2, hr => by
    have hl : m = a.flat.length + c.flat.length + 1 := by rw [hm]; simp [Tx.flat]; omega
    exact ot_bi w m u o a c (ho o (by simp [Tx.flat])) h.1 h.2.2.2 hl hm2 hr (fun W u' hW hu' => opsToks_any a h.2.2.1 (fun x hx => ho x (by simp [Tx.flat, hx])) W _ u' rfl (by omega) hu') (fun W u' hW hu' => opsToks_any c h.2.2.2 (fun x hx => ho x (by simp [Tx.flat, hx])) W _ u' rfl (by omega) hu')
theorem ops_toks (w : World) (m : Nat) (u : Value) (l : List Oq) (hr : Rd w 5 m u (ocs l)) (hex : exprF l = 0) (hok : ∀ o ∈ l, OOk o) : Calls Tryd.prog 59 #[u] w (ToksIs (exT l) w) := by
  obtain ⟨h40, t, ht, rfl⟩ := expr_tree hex
  have hml := len_o hr
  rw [exT_tree ht]
  exact opsToks_any t ht hok w m u hml (by omega) hr
theorem whereToks_any (w : World) (n : Nat) (v : Value) (l : List Oq) (hr : Rd w 5 n v (ocs l)) (hF : whF l = 0) (hok : ∀ o ∈ l, OOk o) :
    Calls Tryd.prog 58 #[v] w (ToksIs (whT l) w) := by
  have hml := len_o hr
  by_cases h0 : n = 0
  · have HF : Hid (whT l = []) := by
      show _ = _
      unfold whT
      rw [if_pos (by omega)]
    subst h0
    obtain ⟨_, ao, cap, rfl, _⟩ := hr.zero
    clear hml hok hF
    go_enter Tryd.func58, Tryd.ntmps58
    go_wp2_with fail
    go_ret
    rw [HF.out]
    exact ⟨_, rfl, World.ownsRow_nil _ _ _ _, Below.refl _ _⟩
  · have HF : Hid (whT l = [ptk sWHERE] ++ exT l) := by
      show _ = _
      unfold whT
      rw [if_neg (by omega)]
    have hex : exprF l = 0 := by
      unfold whF at hF
      rw [if_neg (by omega)] at hF
      exact hF
    have hlen := exT_len hex
    have HX : Hid (∀ W, Below w.heap.size w W → Calls Tryd.prog 59 #[v] W (ToksIs (exT l) W)) := fun W hW => ops_toks W n v l (hr.below hW) hex hok
    have HP := Lib.hid (toksT w sWHERE (by decide) [ptk sWHERE] (wd_tz wWHERE))
    obtain ⟨_, ao, cap, rfl, _⟩ := hr
    obtain ⟨E, hE⟩ : ∃ E, E = exT l := ⟨_, rfl⟩
    rw [← hE] at HX HF hlen
    have HLN := Lib.hid hlen
    have hn : ¬ (n : Int) = 0 := by omega
    clear hml hok hF hex hE h0 hlen
    go_enter Tryd.func58, Tryd.ntmps58
    go_wp2_with fail
    refine HP.out.mono ?_
    rintro e w1 ⟨v1, rfl, h1, h2⟩
    have HO1 := Lib.hid (show w1.ownsRow w.heap.size 39 3 v1 1 (tkc [ptk sWHERE]) from h1)
    have HB1 := Lib.hid h2
    obtain ⟨a1, q1, rfl⟩ := own_shape HO1.out
    clear h1 h2 HP
    go_wp2_with fail
    refine (HX.out _ HB1.out).mono ?_
    rintro e w2 ⟨v2, rfl, h1, h2⟩
    obtain ⟨n2, hn2⟩ : ∃ n, n = E.length := ⟨_, rfl⟩
    rw [← hn2] at h1
    obtain ⟨a2, q2, rfl⟩ := own_shape h1
    have HR2 := Lib.hid (Rd.own h1)
    have HR1 := Lib.hid ((Rd.own HO1.out).below h2)
    have HB2 := Lib.hid (into HB1.out h2)
    have HJ := Lib.hid (jn2 (w2.alloc (.cells #[.slice a1 1 q1, .slice a2 n2 q2] 32)) _ _ _ [ptk sWHERE] E 1 n2 (rd_sl2 w2 (.slice a1 1 q1) (.slice a2 n2 q2) w2.heap.size rfl) (rd_alloc HR1.out _) (rd_alloc HR2.out _) (by have := HLN.out; simp only [List.length_cons, List.length_nil]; omega))
    clear h1 h2 HX HO1 hn2
    go_wp2_with fail
    refine HJ.out.mono ?_
    rintro e w3 ⟨v3, rfl, h1, h2⟩
    have H := Lib.hid (show ToksIs _ _ (.returned v3) w3 from ⟨v3, rfl, h1, h2⟩)
    clear h1 h2
    go_wp2_with fail
    go_ret
    rw [HF.out]
    exact ToksIs.from H.out (HB2.out.alloc HB2.out.size _)
end Go.Proofs.YtnheepkmaibofaaDoor.cs
/- What a statement's parts lack, whether it has more: the program. -/
namespace Go.Proofs.YtnheepkmaibofaaDoor.cs
open Go.ChangeShapes Go.WideShapes Go.ChangeAt Go.RowKit
set_option linter.unusedVariables false
set_option linter.unusedSimpArgs false
set_option maxHeartbeats 4000000
set_option maxRecDepth 1000000
theorem st_at' {l : List ByteArray} {k : Nat} (h : k < l.length) : (l.map Value.string)[k]? = some (.string (l.getD k nby)) := st_at h
theorem checkSelect_any (w : World) (hT : Tbs w) (s : Sq) (p : Ps) (hr : StR w s p) (hz : SqZ s) :
    Calls Tryd.prog 37 #[stV s p] w fun e w' => e = .returned (.int .i64 (selF s)) ∧ Below w.heap.size w w' := by
  obtain ⟨l2, l3, l4, l6, l11⟩ := hr.lens
  have hb0 : Below w.heap.size w (w.alloc (.cells (stC s p) 27)) := (Below.refl _ _).alloc (Nat.le_refl _) _
  have hnew := fun w1 hb => StB.new w s p (w1 := w1) hb
  obtain ⟨k, t, cols, row, names, cnt, wh, ord, dn, lim, st, to⟩ := s
  obtain ⟨a2, n2, c2, a3, n3, c3, a4, n4, c4, a6, n6, c6, a11, n11, c11⟩ := p
  obtain ⟨r2, r3, r4, r6, r11⟩ := hr
  obtain ⟨zt, zo, ze, zc, zr, zn, zh, zx⟩ := hz
  simp only at l2 l3 l4 l6 l11 r2 r3 r4 r6 r11 zt zo ze zc zr zn zh zx
  have hF : selF ⟨k, t, cols, row, names, cnt, wh, ord, dn, lim, st, to⟩ = if sel0 n4 lim cnt dn ord ≠ 0 then sel0 n4 lim cnt dn ord else f3 (nmsF names) (whF wh) (ordF ord) := by
    unfold selF
    simp only [l4]
  have HF := Lib.hid hF
  have hm4 := r4.len
  unfold maxLen at hm4
  have HW : Hid (∀ W, Below w.heap.size w W → Calls Tryd.prog 40 #[.slice a6 n6 c6] W fun e w' => e = .returned (.int .i64 (whF wh)) ∧ Below W.heap.size W w') := fun W hW => checkWhere_any W (hT.below hW) n6 _ wh (r6.below hW) (fun o ho => (zh o ho).2.2)
  have HO : Hid (∀ W, Below w.heap.size w W → Calls Tryd.prog 17 #[.string ord] W fun e w' => e = .returned (.int .i64 (nmF ord.data.toList)) ∧ Below W.heap.size W w') := fun W hW => name_any W (hT.m.below hW) (hT.k.below hW) ord zo
  have HN : Hid (∀ x ∈ names, ∀ W, Below w.heap.size w W → Calls Tryd.prog 17 #[.string x] W fun e w' => e = .returned (.int .i64 (nmF x.data.toList)) ∧ Below W.heap.size W w') := fun x hx W hW => name_any W (hT.m.below hW) (hT.k.below hW) x (zn x hx)
  have HR4 := Lib.hid r4
  have HL4 := Lib.hid l4
  have HB0 := Lib.hid hb0
  have HNEW := Lib.hid hnew
  clear hF l2 l3 l4 l6 l11 r2 r3 r4 r6 r11 zt zo ze zc zr zn zh zx hT hb0 hnew
  by_cases h6 : 6 < n4
  · have HG : Hid (sel0 n4 lim cnt dn ord = 1) := by
      show _ = _
      unfold sel0
      rw [if_pos h6]
    go_enter Tryd.func37, Tryd.ntmps37
    go_wp2_with fail
    go_ret
    exact ⟨ri (by rw [HF.out, HG.out]; rfl), HB0.out⟩
  by_cases hlim : lim < -1
  · have HG : Hid (sel0 n4 lim cnt dn ord = 3) := by
      show _ = _
      unfold sel0
      rw [if_neg h6, if_pos hlim]
    go_enter Tryd.func37, Tryd.ntmps37
    go_wp2_with fail
    go_ret
    exact ⟨ri (by rw [HF.out, HG.out]; rfl), HB0.out⟩
  obtain ⟨e, he⟩ : ∃ e, e = ord.toList.isEmpty := ⟨_, rfl⟩
  have HE : Hid (em ord = e) := by show _ = _; rw [he]; rfl
  replace he := he.symm
  by_cases hbad : (cnt = true ∧ 0 < n4) ∨ (dn = true ∧ e = true)
  · have HG : Hid (sel0 n4 lim cnt dn ord = 6) := by
      show _ = _
      unfold sel0
      rw [if_neg h6, if_neg hlim, HE.out, if_pos hbad]
    rcases hbad with ⟨rfl, h0⟩ | ⟨rfl, rfl⟩
    · go_enter Tryd.func37, Tryd.ntmps37
      go_wp2_with fail
      all_goals (
        go_ret
        exact ⟨ri (by rw [HF.out, HG.out]; rfl), HB0.out⟩)
    · cases cnt
      · go_enter Tryd.func37, Tryd.ntmps37
        go_wp2_with fail
        all_goals (
          go_ret
          exact ⟨ri (by rw [HF.out, HG.out]; rfl), HB0.out⟩)
      · by_cases h0 : 0 < n4
        · go_enter Tryd.func37, Tryd.ntmps37
          go_wp2_with fail
          all_goals (
            go_ret
            exact ⟨ri (by rw [HF.out, HG.out]; rfl), HB0.out⟩)
        · go_enter Tryd.func37, Tryd.ntmps37
          go_wp2_with fail
          all_goals (
            go_ret
            exact ⟨ri (by rw [HF.out, HG.out]; rfl), HB0.out⟩)
  · have HG : Hid (selF ⟨k, t, cols, row, names, cnt, wh, ord, dn, lim, st, to⟩ = f3 (nmsF names) (whF wh) (ordF ord)) := by
      show _ = _
      rw [HF.out]
      have : sel0 n4 lim cnt dn ord = 0 := by
        unfold sel0
        rw [if_neg h6, if_neg hlim, HE.out, if_neg hbad]
      rw [this]
      simp
    have hc : cnt = false ∨ (cnt = true ∧ n4 = 0) := by
      cases cnt
      · exact .inl rfl
      · refine .inr ⟨rfl, ?_⟩
        by_cases h : 0 < n4
        · exact absurd (.inl ⟨rfl, h⟩) hbad
        · omega
    have hd : dn = false ∨ (dn = true ∧ e = false) := by
      cases dn
      · exact .inl rfl
      · refine .inr ⟨rfl, ?_⟩
        cases e
        · rfl
        · exact absurd (.inr ⟨rfl, rfl⟩) hbad
    clear HF hbad
    obtain ⟨W0, hW0⟩ : ∃ W0, W0 = w.alloc (.cells (stC ⟨k, t, cols, row, names, cnt, wh, ord, dn, lim, st, to⟩ ⟨a2, n2, c2, a3, n3, c3, a4, n4, c4, a6, n6, c6, a11, n11, c11⟩) 27) := ⟨_, rfl⟩
    have HNW : Hid (∀ w1, Below W0.heap.size W0 w1 → StB w1 w.heap.size ⟨k, t, cols, row, names, cnt, wh, ord, dn, lim, st, to⟩ ⟨a2, n2, c2, a3, n3, c3, a4, n4, c4, a6, n6, c6, a11, n11, c11⟩) := fun w1 hb => HNEW.out w1 (by rw [← hW0]; exact hb)
    have HBW : Hid (Below w.heap.size w W0) := by show Below _ _ _; rw [hW0]; exact HB0.out
    have HWE := Lib.hid hW0
    clear hW0 HNEW HB0
    rcases hc with rfl | ⟨rfl, rfl⟩
    · rcases hd with rfl | ⟨rfl, rfl⟩
      · go_enter Tryd.func37, Tryd.ntmps37
        go_wp2_with fail
        rw [← HWE.out]
        go_loopw [37] (fun i wr => ∃ j : Nat, j ≤ n4 ∧ i = .int .i64 (j : Int) ∧ Hid (nmsF names = nmsF (names.drop j)) ∧ Hid (Below W0.heap.size W0 wr)) (fun i _ => n4 - (intOf i).toNat)
        case atStart => exact ⟨0, by omega, rfl, by simp [Hid], Below.refl _ _⟩
        case round =>
          obtain ⟨j, hj, rfl, HX, HB⟩ := hrel
          by_cases hlt : j < n4
          · first
            | omega
            | (obtain ⟨b, o, cap, hv, _, _, hbw, hcell⟩ := HR4.out.pos (by omega) (by omega)
               simp only [Value.slice.injEq] at hv
               obtain ⟨rfl, -, rfl⟩ := hv
               have hll : j < names.length := by rw [← HL4.out]; exact hlt
               have c0 := (HB.out.cell (p := ⟨b, o + j, none⟩) (Nat.lt_of_lt_of_le hbw HBW.out.size)).trans ((HBW.out.cell (p := ⟨b, o + j, none⟩) hbw).trans (hcell _ _ (st_at' hll)))
               have hmem := sgetD_mem hll
               have hdr := sdrop_cons hll
               obtain ⟨x, hx⟩ : ∃ x, x = names.getD j nby := ⟨_, rfl⟩
               rw [← hx] at c0 hmem hdr
               have hc := HN.out x hmem wr (into HBW.out HB.out)
               have hE : nmsF (names.drop j) = if nmF x.data.toList ≠ 0 then nmF x.data.toList else nmsF (names.drop (j + 1)) := by rw [hdr]; rfl
               obtain ⟨r, hr⟩ : ∃ r, r = nmF x.data.toList := ⟨_, rfl⟩
               rw [← hr] at hc hE
               have HC := Lib.hid hc
               have HEQ := Lib.hid hE
               clear hcell hx hmem hdr hc hE hr hll
               by_cases hr0 : r = 0
               · subst hr0
                 go_wp2_with (go_at_call 17; ((with_reducible refine HC.out.mono ?_); rintro e w2 ⟨rfl, hb2⟩; have HB2 := Lib.hid (HB.out.trans (hb2.mono HB.out.size)); clear hb2))
                 go_roundw
                 case rel => exact ⟨j + 1, by omega, by go_num, by show _ = _; rw [HX.out, HEQ.out]; rfl, HB2.out⟩
                 case measure => simp [intOf]; omega
               · have hr0' : (r == 0) = false := by simpa using hr0
                 go_wp2_with (go_at_call 17; ((with_reducible refine HC.out.mono ?_); rintro e w2 ⟨rfl, hb2⟩; have HB2 := Lib.hid (HB.out.trans (hb2.mono HB.out.size)); clear hb2))
                 go_ret
                 refine ⟨ri ?_, into HBW.out HB2.out⟩
                 rw [HG.out, HX.out, HEQ.out]
                 unfold f3
                 rw [if_pos hr0, if_pos hr0])
          · obtain rfl : j = n4 := by omega
            have HQ : Hid (selF ⟨k, t, cols, row, names, false, wh, ord, false, lim, st, to⟩ = if whF wh ≠ 0 then whF wh else ordF ord) := by
              show _ = _
              rw [HG.out, HX.out, List.drop_eq_nil_of_le (by rw [← HL4.out]; exact Nat.le_refl _)]
              rfl
            obtain ⟨x0, x1, x2, x3, x4, x5, x6, x7, x8, x9, x10, x11⟩ := HNW.out wr HB.out
            have hc := HW.out wr (into HBW.out HB.out)
            obtain ⟨r, hr⟩ : ∃ r, r = whF wh := ⟨_, rfl⟩
            rw [← hr] at hc HQ
            have HC := Lib.hid hc
            clear hc hr HX HG
            simp only at x0 x1 x2 x3 x4 x5 x6 x7 x8 x9 x10 x11
            go_wp2_with fail
            refine HC.out.mono ?_
            rintro e2 w2 ⟨rfl, hb2⟩
            have HB2 := Lib.hid (HB.out.trans (hb2.mono HB.out.size))
            clear hb2 x0 x1 x2 x3 x4 x5 x6 x7 x8 x9 x10 x11
            obtain ⟨x0, x1, x2, x3, x4, x5, x6, x7, x8, x9, x10, x11⟩ := HNW.out w2 HB2.out
            simp only at x0 x1 x2 x3 x4 x5 x6 x7 x8 x9 x10 x11
            by_cases hr0 : r = 0
            · subst hr0
              have HO2 := Lib.hid (HO.out w2 (into HBW.out HB2.out))
              cases e
              · have HZ : Hid (ordF ord = nmF ord.data.toList) := by
                  show _ = _
                  unfold ordF
                  rw [HE.out]
                  rfl
                go_wp2_with fail
                refine HO2.out.mono ?_
                rintro e3 w3 ⟨rfl, hb3⟩
                go_wp2_with fail
                go_ret
                exact ⟨ri (by rw [HQ.out, HZ.out]; rfl), into HBW.out (HB2.out.trans (hb3.mono HB2.out.size))⟩
              · have HZ : Hid (ordF ord = 0) := by
                  show _ = _
                  unfold ordF
                  rw [HE.out]
                  rfl
                go_wp2_with fail
                go_ret
                exact ⟨ri (by rw [HQ.out, HZ.out]; rfl), into HBW.out HB2.out⟩
            · have hr0' : (r == 0) = false := by simpa using hr0
              go_wp2_with fail
              go_ret
              exact ⟨ri (by rw [HQ.out, if_pos hr0]), into HBW.out HB2.out⟩
      · go_enter Tryd.func37, Tryd.ntmps37
        go_wp2_with fail
        rw [← HWE.out]
        go_loopw [37] (fun i wr => ∃ j : Nat, j ≤ n4 ∧ i = .int .i64 (j : Int) ∧ Hid (nmsF names = nmsF (names.drop j)) ∧ Hid (Below W0.heap.size W0 wr)) (fun i _ => n4 - (intOf i).toNat)
        case atStart => exact ⟨0, by omega, rfl, by simp [Hid], Below.refl _ _⟩
        case round =>
          obtain ⟨j, hj, rfl, HX, HB⟩ := hrel
          by_cases hlt : j < n4
          · first
            | omega
            | (obtain ⟨b, o, cap, hv, _, _, hbw, hcell⟩ := HR4.out.pos (by omega) (by omega)
               simp only [Value.slice.injEq] at hv
               obtain ⟨rfl, -, rfl⟩ := hv
               have hll : j < names.length := by rw [← HL4.out]; exact hlt
               have c0 := (HB.out.cell (p := ⟨b, o + j, none⟩) (Nat.lt_of_lt_of_le hbw HBW.out.size)).trans ((HBW.out.cell (p := ⟨b, o + j, none⟩) hbw).trans (hcell _ _ (st_at' hll)))
               have hmem := sgetD_mem hll
               have hdr := sdrop_cons hll
               obtain ⟨x, hx⟩ : ∃ x, x = names.getD j nby := ⟨_, rfl⟩
               rw [← hx] at c0 hmem hdr
               have hc := HN.out x hmem wr (into HBW.out HB.out)
               have hE : nmsF (names.drop j) = if nmF x.data.toList ≠ 0 then nmF x.data.toList else nmsF (names.drop (j + 1)) := by rw [hdr]; rfl
               obtain ⟨r, hr⟩ : ∃ r, r = nmF x.data.toList := ⟨_, rfl⟩
               rw [← hr] at hc hE
               have HC := Lib.hid hc
               have HEQ := Lib.hid hE
               clear hcell hx hmem hdr hc hE hr hll
               by_cases hr0 : r = 0
               · subst hr0
                 go_wp2_with (go_at_call 17; ((with_reducible refine HC.out.mono ?_); rintro e w2 ⟨rfl, hb2⟩; have HB2 := Lib.hid (HB.out.trans (hb2.mono HB.out.size)); clear hb2))
                 go_roundw
                 case rel => exact ⟨j + 1, by omega, by go_num, by show _ = _; rw [HX.out, HEQ.out]; rfl, HB2.out⟩
                 case measure => simp [intOf]; omega
               · have hr0' : (r == 0) = false := by simpa using hr0
                 go_wp2_with (go_at_call 17; ((with_reducible refine HC.out.mono ?_); rintro e w2 ⟨rfl, hb2⟩; have HB2 := Lib.hid (HB.out.trans (hb2.mono HB.out.size)); clear hb2))
                 go_ret
                 refine ⟨ri ?_, into HBW.out HB2.out⟩
                 rw [HG.out, HX.out, HEQ.out]
                 unfold f3
                 rw [if_pos hr0, if_pos hr0])
          · obtain rfl : j = n4 := by omega
            have HQ : Hid (selF ⟨k, t, cols, row, names, false, wh, ord, true, lim, st, to⟩ = if whF wh ≠ 0 then whF wh else ordF ord) := by
              show _ = _
              rw [HG.out, HX.out, List.drop_eq_nil_of_le (by rw [← HL4.out]; exact Nat.le_refl _)]
              rfl
            obtain ⟨x0, x1, x2, x3, x4, x5, x6, x7, x8, x9, x10, x11⟩ := HNW.out wr HB.out
            have hc := HW.out wr (into HBW.out HB.out)
            obtain ⟨r, hr⟩ : ∃ r, r = whF wh := ⟨_, rfl⟩
            rw [← hr] at hc HQ
            have HC := Lib.hid hc
            clear hc hr HX HG
            simp only at x0 x1 x2 x3 x4 x5 x6 x7 x8 x9 x10 x11
            go_wp2_with fail
            refine HC.out.mono ?_
            rintro e2 w2 ⟨rfl, hb2⟩
            have HB2 := Lib.hid (HB.out.trans (hb2.mono HB.out.size))
            clear hb2 x0 x1 x2 x3 x4 x5 x6 x7 x8 x9 x10 x11
            obtain ⟨x0, x1, x2, x3, x4, x5, x6, x7, x8, x9, x10, x11⟩ := HNW.out w2 HB2.out
            simp only at x0 x1 x2 x3 x4 x5 x6 x7 x8 x9 x10 x11
            by_cases hr0 : r = 0
            · subst hr0
              have HO2 := Lib.hid (HO.out w2 (into HBW.out HB2.out))
              have HZ : Hid (ordF ord = nmF ord.data.toList) := by
                show _ = _
                unfold ordF
                rw [HE.out]
                rfl
              go_wp2_with fail
              refine HO2.out.mono ?_
              rintro e3 w3 ⟨rfl, hb3⟩
              go_wp2_with fail
              go_ret
              exact ⟨ri (by rw [HQ.out, HZ.out]; rfl), into HBW.out (HB2.out.trans (hb3.mono HB2.out.size))⟩
            · have hr0' : (r == 0) = false := by simpa using hr0
              go_wp2_with fail
              go_ret
              exact ⟨ri (by rw [HQ.out, if_pos hr0]), into HBW.out HB2.out⟩
    · rcases hd with rfl | ⟨rfl, rfl⟩
      · go_enter Tryd.func37, Tryd.ntmps37
        go_wp2_with fail
        rw [← HWE.out]
        go_loopw [37] (fun i wr => ∃ j : Nat, j ≤ 0 ∧ i = .int .i64 (j : Int) ∧ Hid (nmsF names = nmsF (names.drop j)) ∧ Hid (Below W0.heap.size W0 wr)) (fun i _ => 0 - (intOf i).toNat)
        case atStart => exact ⟨0, by omega, rfl, by simp [Hid], Below.refl _ _⟩
        case round =>
          obtain ⟨j, hj, rfl, HX, HB⟩ := hrel
          by_cases hlt : j < 0
          · first
            | omega
            | (obtain ⟨b, o, cap, hv, _, _, hbw, hcell⟩ := HR4.out.pos (by omega) (by omega)
               simp only [Value.slice.injEq] at hv
               obtain ⟨rfl, -, rfl⟩ := hv
               have hll : j < names.length := by rw [← HL4.out]; exact hlt
               have c0 := (HB.out.cell (p := ⟨b, o + j, none⟩) (Nat.lt_of_lt_of_le hbw HBW.out.size)).trans ((HBW.out.cell (p := ⟨b, o + j, none⟩) hbw).trans (hcell _ _ (st_at' hll)))
               have hmem := sgetD_mem hll
               have hdr := sdrop_cons hll
               obtain ⟨x, hx⟩ : ∃ x, x = names.getD j nby := ⟨_, rfl⟩
               rw [← hx] at c0 hmem hdr
               have hc := HN.out x hmem wr (into HBW.out HB.out)
               have hE : nmsF (names.drop j) = if nmF x.data.toList ≠ 0 then nmF x.data.toList else nmsF (names.drop (j + 1)) := by rw [hdr]; rfl
               obtain ⟨r, hr⟩ : ∃ r, r = nmF x.data.toList := ⟨_, rfl⟩
               rw [← hr] at hc hE
               have HC := Lib.hid hc
               have HEQ := Lib.hid hE
               clear hcell hx hmem hdr hc hE hr hll
               by_cases hr0 : r = 0
               · subst hr0
                 go_wp2_with (go_at_call 17; ((with_reducible refine HC.out.mono ?_); rintro e w2 ⟨rfl, hb2⟩; have HB2 := Lib.hid (HB.out.trans (hb2.mono HB.out.size)); clear hb2))
                 go_roundw
                 case rel => exact ⟨j + 1, by omega, by go_num, by show _ = _; rw [HX.out, HEQ.out]; rfl, HB2.out⟩
                 case measure => simp [intOf]; omega
               · have hr0' : (r == 0) = false := by simpa using hr0
                 go_wp2_with (go_at_call 17; ((with_reducible refine HC.out.mono ?_); rintro e w2 ⟨rfl, hb2⟩; have HB2 := Lib.hid (HB.out.trans (hb2.mono HB.out.size)); clear hb2))
                 go_ret
                 refine ⟨ri ?_, into HBW.out HB2.out⟩
                 rw [HG.out, HX.out, HEQ.out]
                 unfold f3
                 rw [if_pos hr0, if_pos hr0])
          · obtain rfl : j = 0 := by omega
            have HQ : Hid (selF ⟨k, t, cols, row, names, true, wh, ord, false, lim, st, to⟩ = if whF wh ≠ 0 then whF wh else ordF ord) := by
              show _ = _
              rw [HG.out, HX.out, List.drop_eq_nil_of_le (by rw [← HL4.out]; exact Nat.le_refl _)]
              rfl
            obtain ⟨x0, x1, x2, x3, x4, x5, x6, x7, x8, x9, x10, x11⟩ := HNW.out wr HB.out
            have hc := HW.out wr (into HBW.out HB.out)
            obtain ⟨r, hr⟩ : ∃ r, r = whF wh := ⟨_, rfl⟩
            rw [← hr] at hc HQ
            have HC := Lib.hid hc
            clear hc hr HX HG
            simp only at x0 x1 x2 x3 x4 x5 x6 x7 x8 x9 x10 x11
            go_wp2_with fail
            refine HC.out.mono ?_
            rintro e2 w2 ⟨rfl, hb2⟩
            have HB2 := Lib.hid (HB.out.trans (hb2.mono HB.out.size))
            clear hb2 x0 x1 x2 x3 x4 x5 x6 x7 x8 x9 x10 x11
            obtain ⟨x0, x1, x2, x3, x4, x5, x6, x7, x8, x9, x10, x11⟩ := HNW.out w2 HB2.out
            simp only at x0 x1 x2 x3 x4 x5 x6 x7 x8 x9 x10 x11
            by_cases hr0 : r = 0
            · subst hr0
              have HO2 := Lib.hid (HO.out w2 (into HBW.out HB2.out))
              cases e
              · have HZ : Hid (ordF ord = nmF ord.data.toList) := by
                  show _ = _
                  unfold ordF
                  rw [HE.out]
                  rfl
                go_wp2_with fail
                refine HO2.out.mono ?_
                rintro e3 w3 ⟨rfl, hb3⟩
                go_wp2_with fail
                go_ret
                exact ⟨ri (by rw [HQ.out, HZ.out]; rfl), into HBW.out (HB2.out.trans (hb3.mono HB2.out.size))⟩
              · have HZ : Hid (ordF ord = 0) := by
                  show _ = _
                  unfold ordF
                  rw [HE.out]
                  rfl
                go_wp2_with fail
                go_ret
                exact ⟨ri (by rw [HQ.out, HZ.out]; rfl), into HBW.out HB2.out⟩
            · have hr0' : (r == 0) = false := by simpa using hr0
              go_wp2_with fail
              go_ret
              exact ⟨ri (by rw [HQ.out, if_pos hr0]), into HBW.out HB2.out⟩
      · go_enter Tryd.func37, Tryd.ntmps37
        go_wp2_with fail
        rw [← HWE.out]
        go_loopw [37] (fun i wr => ∃ j : Nat, j ≤ 0 ∧ i = .int .i64 (j : Int) ∧ Hid (nmsF names = nmsF (names.drop j)) ∧ Hid (Below W0.heap.size W0 wr)) (fun i _ => 0 - (intOf i).toNat)
        case atStart => exact ⟨0, by omega, rfl, by simp [Hid], Below.refl _ _⟩
        case round =>
          obtain ⟨j, hj, rfl, HX, HB⟩ := hrel
          by_cases hlt : j < 0
          · first
            | omega
            | (obtain ⟨b, o, cap, hv, _, _, hbw, hcell⟩ := HR4.out.pos (by omega) (by omega)
               simp only [Value.slice.injEq] at hv
               obtain ⟨rfl, -, rfl⟩ := hv
               have hll : j < names.length := by rw [← HL4.out]; exact hlt
               have c0 := (HB.out.cell (p := ⟨b, o + j, none⟩) (Nat.lt_of_lt_of_le hbw HBW.out.size)).trans ((HBW.out.cell (p := ⟨b, o + j, none⟩) hbw).trans (hcell _ _ (st_at' hll)))
               have hmem := sgetD_mem hll
               have hdr := sdrop_cons hll
               obtain ⟨x, hx⟩ : ∃ x, x = names.getD j nby := ⟨_, rfl⟩
               rw [← hx] at c0 hmem hdr
               have hc := HN.out x hmem wr (into HBW.out HB.out)
               have hE : nmsF (names.drop j) = if nmF x.data.toList ≠ 0 then nmF x.data.toList else nmsF (names.drop (j + 1)) := by rw [hdr]; rfl
               obtain ⟨r, hr⟩ : ∃ r, r = nmF x.data.toList := ⟨_, rfl⟩
               rw [← hr] at hc hE
               have HC := Lib.hid hc
               have HEQ := Lib.hid hE
               clear hcell hx hmem hdr hc hE hr hll
               by_cases hr0 : r = 0
               · subst hr0
                 go_wp2_with (go_at_call 17; ((with_reducible refine HC.out.mono ?_); rintro e w2 ⟨rfl, hb2⟩; have HB2 := Lib.hid (HB.out.trans (hb2.mono HB.out.size)); clear hb2))
                 go_roundw
                 case rel => exact ⟨j + 1, by omega, by go_num, by show _ = _; rw [HX.out, HEQ.out]; rfl, HB2.out⟩
                 case measure => simp [intOf]; omega
               · have hr0' : (r == 0) = false := by simpa using hr0
                 go_wp2_with (go_at_call 17; ((with_reducible refine HC.out.mono ?_); rintro e w2 ⟨rfl, hb2⟩; have HB2 := Lib.hid (HB.out.trans (hb2.mono HB.out.size)); clear hb2))
                 go_ret
                 refine ⟨ri ?_, into HBW.out HB2.out⟩
                 rw [HG.out, HX.out, HEQ.out]
                 unfold f3
                 rw [if_pos hr0, if_pos hr0])
          · obtain rfl : j = 0 := by omega
            have HQ : Hid (selF ⟨k, t, cols, row, names, true, wh, ord, true, lim, st, to⟩ = if whF wh ≠ 0 then whF wh else ordF ord) := by
              show _ = _
              rw [HG.out, HX.out, List.drop_eq_nil_of_le (by rw [← HL4.out]; exact Nat.le_refl _)]
              rfl
            obtain ⟨x0, x1, x2, x3, x4, x5, x6, x7, x8, x9, x10, x11⟩ := HNW.out wr HB.out
            have hc := HW.out wr (into HBW.out HB.out)
            obtain ⟨r, hr⟩ : ∃ r, r = whF wh := ⟨_, rfl⟩
            rw [← hr] at hc HQ
            have HC := Lib.hid hc
            clear hc hr HX HG
            simp only at x0 x1 x2 x3 x4 x5 x6 x7 x8 x9 x10 x11
            go_wp2_with fail
            refine HC.out.mono ?_
            rintro e2 w2 ⟨rfl, hb2⟩
            have HB2 := Lib.hid (HB.out.trans (hb2.mono HB.out.size))
            clear hb2 x0 x1 x2 x3 x4 x5 x6 x7 x8 x9 x10 x11
            obtain ⟨x0, x1, x2, x3, x4, x5, x6, x7, x8, x9, x10, x11⟩ := HNW.out w2 HB2.out
            simp only at x0 x1 x2 x3 x4 x5 x6 x7 x8 x9 x10 x11
            by_cases hr0 : r = 0
            · subst hr0
              have HO2 := Lib.hid (HO.out w2 (into HBW.out HB2.out))
              have HZ : Hid (ordF ord = nmF ord.data.toList) := by
                show _ = _
                unfold ordF
                rw [HE.out]
                rfl
              go_wp2_with fail
              refine HO2.out.mono ?_
              rintro e3 w3 ⟨rfl, hb3⟩
              go_wp2_with fail
              go_ret
              exact ⟨ri (by rw [HQ.out, HZ.out]; rfl), into HBW.out (HB2.out.trans (hb3.mono HB2.out.size))⟩
            · have hr0' : (r == 0) = false := by simpa using hr0
              go_wp2_with fail
              go_ret
              exact ⟨ri (by rw [HQ.out, if_pos hr0]), into HBW.out HB2.out⟩
/-- The region of an Update's three checks. -/
theorem parts9 (Q : Exit → Act → World → Prop) (c0 c2 c3 c4 c5 c6 c7 c8 c9 c10 c11 c12 c13 c14 c15 c16 c17 c18 c19 c20 c21 c22 c23 c24 c25 c26 c27 c28 c29 c30 c31 c32 c33 c34 c35 c36 : Value) (w0 : World) (P : Nat) (hP : P < w0.heap.size) (t : ByteArray) (a11 : Option Addr) (n11 d11 : Nat) (a6 : Option Addr) (n6 d6 : Nat) (a b c : Int)
    (p0 : w0.cell? ⟨P, 10, none⟩ = some (.string t)) (p1 : w0.cell? ⟨P, 11, none⟩ = some (.slice a11 n11 d11)) (p2 : w0.cell? ⟨P, 6, none⟩ = some (.slice a6 n6 d6))
    (HA : Hid (∀ W, Below w0.heap.size w0 W → Calls Tryd.prog 17 #[.string t] W fun e w' => e = .returned (.int .i64 a) ∧ Below W.heap.size W w'))
    (HB : Hid (∀ W, Below w0.heap.size w0 W → Calls Tryd.prog 39 #[.slice a11 n11 d11] W fun e w' => e = .returned (.int .i64 b) ∧ Below W.heap.size W w'))
    (HC : Hid (∀ W, Below w0.heap.size w0 W → Calls Tryd.prog 40 #[.slice a6 n6 d6] W fun e w' => e = .returned (.int .i64 c) ∧ Below W.heap.size W w'))
    (hout : Hid (∀ (u21 u22 u23 u24 u25 u26 u27 u28 u29 u30 u31 : Value) (w' : World), Below w0.heap.size w0 w' → Q .normal ⟨List.toArray (c0 :: (.pointer (some ⟨P, 0, none⟩)) :: (.int .i64 (f3 a b c)) :: c3 :: c4 :: c5 :: c6 :: c7 :: c8 :: c9 :: c10 :: c11 :: c12 :: c13 :: c14 :: c15 :: c16 :: c17 :: c18 :: c19 :: c20 :: u21 :: u22 :: u23 :: u24 :: u25 :: u26 :: u27 :: u28 :: u29 :: u30 :: u31 :: c32 :: c33 :: c34 :: c35 :: c36 :: []), []⟩ w')) :
    Code.wp Tryd.prog ((regionOf 9 (Tryd.f18.body.getD .skip)).getD .skip) Q ⟨List.toArray (c0 :: (.pointer (some ⟨P, 0, none⟩)) :: c2 :: c3 :: c4 :: c5 :: c6 :: c7 :: c8 :: c9 :: c10 :: c11 :: c12 :: c13 :: c14 :: c15 :: c16 :: c17 :: c18 :: c19 :: c20 :: c21 :: c22 :: c23 :: c24 :: c25 :: c26 :: c27 :: c28 :: c29 :: c30 :: c31 :: c32 :: c33 :: c34 :: c35 :: c36 :: []), []⟩ w0 := by
  refine Code.wp_mono (Q := NQ Q) nq_to ?_
  conv => arg 2; whnf
  have hB0 : Below w0.heap.size w0 w0 := Below.refl _ _
  go_region_held3 (fun wx => wx.cell? ⟨P, 10, none⟩ = some (.string t) ∧ wx.cell? ⟨P, 11, none⟩ = some (.slice a11 n11 d11) ∧ wx.cell? ⟨P, 6, none⟩ = some (.slice a6 n6 d6))
    ((refine ⟨?_, ?_, ?_⟩ <;> (repeat' (first | (with_reducible assumption) | (with_reducible refine cell_dr ?_) | (with_reducible refine cell_al _ ?_) | (with_reducible refine cell_of_below hb3 ?_) | (with_reducible refine cell_of_below hb2 ?_) | (with_reducible refine cell_of_below hb1 ?_)))))
    ((first
      | (go_at_call 17; (with_reducible refine (HA.out _ (by go_grown)).mono ?_); rintro e w1 ⟨rfl, hb1⟩; have hB1 : Below w0.heap.size w0 w1 := into (by go_grown) hb1; have hz1 := hB1.size)
      | (go_at_call 39; (with_reducible refine (HB.out _ (by go_grown)).mono ?_); rintro e w2 ⟨rfl, hb2⟩; have hB2 : Below w0.heap.size w0 w2 := into (by go_grown) hb2; have hz2 := hB2.size)
      | (go_at_call 40; (with_reducible refine (HC.out _ (by go_grown)).mono ?_); rintro e w3 ⟨rfl, hb3⟩; have hB3 : Below w0.heap.size w0 w3 := into (by go_grown) hb3; have hz3 := hB3.size)
      | (go_at_call 38; (with_reducible refine (firstOf_any _ a b c _ (by simp) (by simp) (by simp)).mono ?_); rintro e w4 ⟨rfl, rfl⟩)))
  all_goals exact hout.out _ _ _ _ _ _ _ _ _ _ _ _ (by go_grown)
theorem checkParts_any (w : World) (hT : Tbs w) (s : Sq) (p : Ps) (hr : StR w s p) (hz : SqZ s) :
    Calls Tryd.prog 18 #[stV s p] w fun e w' => e = .returned (.int .i64 (partsF s)) ∧ Below w.heap.size w w' := by
  have hb0 : Below w.heap.size w (w.alloc (.cells (stC s p) 27)) := (Below.refl _ _).alloc (Nat.le_refl _) _
  obtain ⟨W0, hW0⟩ : ∃ W0, W0 = w.alloc (.cells (stC s p) 27) := ⟨_, rfl⟩
  have hsz : w.heap.size < W0.heap.size := by rw [hW0]; simp
  have hbx := StB.new w s p (w1 := W0) (by rw [hW0]; exact Below.refl _ _)
  rw [← hW0] at hb0
  have HSEL : Hid (∀ W, Below W0.heap.size W0 W → Calls Tryd.prog 37 #[stV s p] W fun e w' => e = .returned (.int .i64 (selF s)) ∧ Below W.heap.size W w') := fun W hW => checkSelect_any W (hT.below (into hb0 hW)) s p (hr.below (into hb0 hW)) hz
  have HCOL : Hid (∀ W, Below W0.heap.size W0 W → Calls Tryd.prog 35 #[.slice p.a2 p.n2 p.c2] W fun e w' => e = .returned (.int .i64 (colsF s.cols)) ∧ Below W.heap.size W w') := fun W hW => checkCols_any W (hT.m.below (into hb0 hW)) (hT.k.below (into hb0 hW)) _ _ s.cols (hr.r2.below (into hb0 hW)) hz.c
  have HROW : Hid (∀ W, Below W0.heap.size W0 W → Calls Tryd.prog 36 #[.slice p.a3 p.n3 p.c3] W fun e w' => e = .returned (.int .i64 (insF s.row)) ∧ Below W.heap.size W w') := fun W hW => checkRow_any W _ _ s.row (hr.r3.below (into hb0 hW))
  have HWH : Hid (∀ W, Below W0.heap.size W0 W → Calls Tryd.prog 40 #[.slice p.a6 p.n6 p.c6] W fun e w' => e = .returned (.int .i64 (whF s.wh)) ∧ Below W.heap.size W w') := fun W hW => checkWhere_any W (hT.below (into hb0 hW)) _ _ s.wh (hr.r6.below (into hb0 hW)) (fun o ho => (hz.h o ho).2.2)
  have HEX : Hid (∀ W, Below W0.heap.size W0 W → Calls Tryd.prog 39 #[.slice p.a11 p.n11 p.c11] W fun e w' => e = .returned (.int .i64 (exprF s.to)) ∧ Below W.heap.size W w') := fun W hW => expr_any W (hT.m.below (into hb0 hW)) (hT.k.below (into hb0 hW)) (hT.o.below (into hb0 hW)) _ _ s.to (hr.r11.below (into hb0 hW)) (fun o ho => (hz.x o ho).2.2)
  have HNM : Hid (∀ W, Below W0.heap.size W0 W → Calls Tryd.prog 17 #[.string s.st] W fun e w' => e = .returned (.int .i64 (nmF s.st.data.toList)) ∧ Below W.heap.size W w') := fun W hW => name_any W (hT.m.below (into hb0 hW)) (hT.k.below (into hb0 hW)) s.st hz.e
  have hF : partsF s = if s.k = 1 then colsF s.cols else if s.k = 3 then insF s.row else if s.k = 4 then selF s else if s.k = 5 then f3 (nmF s.st.data.toList) (exprF s.to) (whF s.wh) else if s.k = 6 then whF s.wh else 0 := rfl
  obtain ⟨qc, hqc⟩ : ∃ q, q = colsF s.cols := ⟨_, rfl⟩
  obtain ⟨qr, hqr⟩ : ∃ q, q = insF s.row := ⟨_, rfl⟩
  obtain ⟨qs, hqs⟩ : ∃ q, q = selF s := ⟨_, rfl⟩
  obtain ⟨qn, hqn⟩ : ∃ q, q = nmF s.st.data.toList := ⟨_, rfl⟩
  obtain ⟨qx, hqx⟩ : ∃ q, q = exprF s.to := ⟨_, rfl⟩
  obtain ⟨qw, hqw⟩ : ∃ q, q = whF s.wh := ⟨_, rfl⟩
  rw [← hqc, ← hqr, ← hqs, ← hqn, ← hqx, ← hqw] at hF
  rw [← hqc] at HCOL
  rw [← hqr] at HROW
  rw [← hqs] at HSEL
  rw [← hqn] at HNM
  rw [← hqx] at HEX
  rw [← hqw] at HWH
  have HF := Lib.hid hF
  have HB0 := Lib.hid hb0
  have HWE := Lib.hid hW0
  have HSZ := Lib.hid hsz
  have HBX := Lib.hid hbx
  clear hF hqc hqr hqs hqn hqx hqw hT hr hz hb0 hW0 hsz hbx
  obtain ⟨k, t, cols, row, names, cnt, wh, ord, dn, lim, st, to⟩ := s
  obtain ⟨a2, n2, c2, a3, n3, c3, a4, n4, c4, a6, n6, c6, a11, n11, c11⟩ := p
  simp only at HF HSEL HCOL HROW HWH HEX HNM
  by_cases h1 : k = 1
  · subst h1
    go_enter Tryd.func18, Tryd.ntmps18
    go_wp2_with fail
    refine (HCOL.out _ (by rw [HWE.out]; exact Below.refl _ _)).mono ?_
    rintro e w1 ⟨rfl, hb1⟩
    go_wp2_with fail
    go_ret
    exact ⟨ri (by rw [HF.out]; rfl), into HB0.out (by rw [HWE.out]; exact hb1)⟩
  by_cases h3 : k = 3
  · subst h3
    go_enter Tryd.func18, Tryd.ntmps18
    go_wp2_with fail
    refine (HROW.out _ (by rw [HWE.out]; exact Below.refl _ _)).mono ?_
    rintro e w1 ⟨rfl, hb1⟩
    go_wp2_with fail
    go_ret
    exact ⟨ri (by rw [HF.out]; rfl), into HB0.out (by rw [HWE.out]; exact hb1)⟩
  by_cases h4 : k = 4
  · subst h4
    go_enter Tryd.func18, Tryd.ntmps18
    go_wp2_with fail
    refine (HSEL.out _ (by rw [HWE.out]; exact Below.refl _ _)).mono ?_
    rintro e w1 ⟨rfl, hb1⟩
    go_wp2_with fail
    go_ret
    exact ⟨ri (by rw [HF.out]; rfl), into HB0.out (by rw [HWE.out]; exact hb1)⟩
  by_cases h5 : k = 5
  · subst h5
    obtain ⟨x0, x1, x2, x3, x4, x5, x6, x7, x8, x9, x10, x11⟩ := HBX.out
    simp only at x0 x1 x2 x3 x4 x5 x6 x7 x8 x9 x10 x11
    have X10 := Lib.hid x10
    have X11 := Lib.hid x11
    have X6 := Lib.hid x6
    clear x0 x1 x2 x3 x4 x5 x6 x7 x8 x9 x10 x11
    go_enter Tryd.func18, Tryd.ntmps18
    go_wp2_with fail
    rw [← HWE.out]
    change Code.wp _ ((regionOf 9 (Tryd.f18.body.getD .skip)).getD .skip) _ _ _
    refine parts9 _ _ _ _ _ _ _ _ _ _ _ _ _ _ _ _ _ _ _ _ _ _ _ _ _ _ _ _ _ _ _ _ _ _ _ _ _ W0 w.heap.size HSZ.out st a11 n11 c11 a6 n6 c6 qn qx qw X10.out X11.out X6.out HNM HEX HWH (Lib.hid ?_)
    intro u21 u22 u23 u24 u25 u26 u27 u28 u29 u30 u31 w1 hb1
    have HB1 := Lib.hid hb1
    clear hb1
    go_wp2_with fail
    go_ret
    exact ⟨ri (by rw [HF.out]; rfl), into HB0.out HB1.out⟩
  by_cases h6 : k = 6
  · subst h6
    go_enter Tryd.func18, Tryd.ntmps18
    go_wp2_with fail
    refine (HWH.out _ (by rw [HWE.out]; exact Below.refl _ _)).mono ?_
    rintro e w1 ⟨rfl, hb1⟩
    go_wp2_with fail
    go_ret
    exact ⟨ri (by rw [HF.out]; rfl), into HB0.out (by rw [HWE.out]; exact hb1)⟩
  · have e1 : (k == 1) = false := by simpa using h1
    have e3 : (k == 3) = false := by simpa using h3
    have e4 : (k == 4) = false := by simpa using h4
    have e5 : (k == 5) = false := by simpa using h5
    have e6 : (k == 6) = false := by simpa using h6
    go_enter Tryd.func18, Tryd.ntmps18
    go_wp2_with fail
    go_ret
    exact ⟨ri (by rw [HF.out, if_neg h1, if_neg h3, if_neg h4, if_neg h5, if_neg h6]), (Below.refl _ _).alloc (Nat.le_refl _) _⟩
end Go.Proofs.YtnheepkmaibofaaDoor.cs
