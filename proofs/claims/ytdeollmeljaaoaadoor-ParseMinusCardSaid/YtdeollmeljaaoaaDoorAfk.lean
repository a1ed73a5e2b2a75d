import Derived.Test.YtdeollmeljaaoaaDoorAdk
/- Chains of one kind each; what is denied; what binds strongest. -/
namespace Go.Proofs.YtdeollmeljaaoaaDoor.rd
open Go.ChangeShapes Go.WideShapes Go.ChangeAt Go.RowKit Go.Proofs.YtdeollmeljaaoaaDoor.cs
set_option linter.unusedVariables false
set_option linter.unusedSimpArgs false
set_option maxHeartbeats 4000000
set_option maxRecDepth 100000
theorem Rt.mono {B E : Nat} {a : Option Addr} {n c : Nat} {L : List Tk} {k0 k1 : Nat} {f : FuncId} {g : R} (h : Rt B E a n c L k0 f g) (hk : k0 ≤ k1) : Rt B E a n c L k1 f g := fun W k os h1 hx => h W k os (Nat.le_trans hk h1) hx
theorem loop_up {L : List Tk} {g : R} (hg : Up g) (ks : List Nat) : ∀ u, Up (loopC L g ks u)
  | 0 => fun k os k' os' h => by cases h; exact Nat.le_refl _
  | u + 1 => fun k os k' os' h => by
    unfold loopC at h
    split at h
    · cases h; exact Nat.le_refl _
    · obtain ⟨x, h1, h2⟩ := bd_ok h
      obtain ⟨y, h3, h4⟩ := bd_ok h2
      have e1 := hg _ _ x.1 x.2 h1
      have e2 := put_up _ _ _ y.1 y.2 h3
      have e3 := loop_up hg ks u _ _ _ _ h4
      omega
theorem chain_up {L : List Tk} {g : R} (hg : Up g) (ks : List Nat) : Up (chainF L g ks) := fun k os k' os' h => by
  obtain ⟨x, h1, h2⟩ := bd_ok h
  exact Nat.le_trans (hg _ _ x.1 x.2 h1) (loop_up hg ks _ _ _ _ _ h2)
theorem compare_up (q : Nat) (nt : Bool) : Up (compareF q nt) := fun k os k' os' h => by
  obtain ⟨x, h1, h2⟩ := bd_ok h
  have e1 := put_up _ _ _ x.1 x.2 h1
  split at h2
  · exact Nat.le_trans e1 (put_up _ _ _ _ _ h2)
  · cases h2; exact e1
theorem denied_up {L : List Tk} {g : R} (hg : Up g) : ∀ u, Up (deniedF L g u)
  | 0 => hg
  | u + 1 => fun k os k' os' h => by
    unfold deniedF at h
    split at h
    · obtain ⟨x, h1, h2⟩ := bd_ok h
      have e1 := denied_up hg u _ _ x.1 x.2 h1
      have e2 := put_up _ _ _ _ _ h2
      omega
    · exact hg _ _ _ _ h
theorem den_yes {L : List Tk} {g : R} {u k : Nat} {os : List Oq} (h : mayB L k sNOT = true) : deniedF L g (u + 1) k os = bd (deniedF L g u (k + 1) os) fun x => putF (opO 5) x.1 x.2 := by
  show (if mayB L k sNOT then _ else _) = _
  rw [if_pos h]
theorem den_no {L : List Tk} {g : R} {u k : Nat} {os : List Oq} (h : mayB L k sNOT = false) : deniedF L g (u + 1) k os = g k os := by
  show (if mayB L k sNOT then _ else _) = _
  rw [if_neg (by simp [h])]
theorem isF_up (L : List Tk) (n : Nat) : Up (isF L n) := fun k os k' os' h => by
  unfold isF at h
  split at h
  · split at h
    · have := compare_up _ _ _ _ _ _ h; omega
    · cases h
  · split at h
    · have := compare_up _ _ _ _ _ _ h; omega
    · cases h
theorem comparison_up {L : List Tk} {n : Nat} {g : R} (hg : Up g) : Up (comparisonF L n g) := fun k os k' os' h => by
  obtain ⟨x, h1, h2⟩ := bd_ok h
  have e1 := hg _ _ x.1 x.2 h1
  split at h2
  · have := isF_up L n _ _ _ _ h2; omega
  · split at h2
    · cases h2; exact e1
    · obtain ⟨y, h3, h4⟩ := bd_ok h2
      have e2 := hg _ _ y.1 y.2 h3
      have e3 := compare_up _ _ _ _ _ _ h4
      omega
theorem lit_up {L : List Tk} {n k : Nat} {x : Option V × Nat} (h : litG L n k = .inr x) : k ≤ x.2 := by
  unfold litG at h
  repeat' split at h
  all_goals (first | (cases h; done) | (cases h; first | exact Nat.le_refl _ | (show k ≤ k + _; omega)))
theorem name_up {L : List Tk} {n k : Nat} {x : ByteArray × Nat} (h : nameG L n k = .inr x) : x.2 = k + 1 := by
  unfold nameG at h
  repeat' split at h
  all_goals (first | (cases h; done) | (cases h; rfl))
theorem leaf_up (L : List Tk) (n : Nat) : Up (leafF L n) := fun k os k' os' h => by
  obtain ⟨⟨x, k1⟩, h1, h2⟩ := bd_ok h
  have e1 := lit_up h1
  cases x with
  | some v =>
    have := put_up _ _ _ _ _ h2
    simp only at e1 this
    omega
  | none =>
    obtain ⟨y, h3, h4⟩ := bd_ok h2
    have e2 := name_up h3
    have := put_up _ _ _ _ _ h4
    omega
theorem thing_up {L : List Tk} {n : Nat} {g : R} (hg : Up g) : Up (thingF L n g) := fun k os k' os' h => by
  unfold thingF at h
  split at h
  · obtain ⟨x, h1, h2⟩ := bd_ok h
    have e1 := hg _ _ x.1 x.2 h1
    split at h2
    · cases h2; omega
    · cases h2
  · exact leaf_up L n _ _ _ _ h
theorem either_up {L : List Tk} {n : Nat} {g : R} (hg : Up g) : Up (eitherF L n g) := chain_up (chain_up (denied_up (comparison_up (chain_up (chain_up (thing_up hg) _) _)) _) _) _
theorem eithD_up (L : List Tk) (n : Nat) : ∀ d, Up (eithD L n d)
  | 0 => fun k os k' os' h => by cases h; exact Nat.le_refl _
  | d + 1 => fun k os k' os' h => either_up (eithD_up L n d) k os k' os' h
section
variable {B E : Nat} {a : Option Addr} {n c : Nat} {L : List Tk}
theorem either_any {k0 : Nat} {g : R} (hg : Rt B E a n c L k0 89 g) (hu : Up g) : Rt B E a n c L k0 85 (chainF L g [4]) := by
  intro w k os hk h
  have HC : Hid (∀ W, W = w.alloc (.cells #[.int .i64 4] 3) → Calls Tryd.prog 88 #[.pointer (some ⟨B, 0, none⟩), .func (.func 89) #[.pointer (some ⟨B, 0, none⟩)] #[], .slice (some ⟨w.heap.size, 0, none⟩) 1 1] W (Ex W B E a n c L (chainF L g [4] k os))) := fun W hW => by
    have hb : Below w.heap.size w W := by rw [hW]; exact (Below.refl _ _).alloc (Nat.le_refl _) _
    exact chain_any W B E a n c L k0 89 g (enters Tryd.func89 (by kernel_rfl) (by kernel_rfl)) hg hu w.heap.size [4] (by rw [hW]; exact new0 _ _) (by have := h.lt; have := h.le; omega) (by simp) (by simp) (by simp) k os hk (h.later hb)
  obtain ⟨r, hr⟩ : ∃ r, r = chainF L g [4] k os := ⟨_, rfl⟩
  rw [← hr] at HC ⊢
  clear hg hu h hr
  go_enter Tryd.func85, Tryd.ntmps85
  go_wp2_with fail
  refine calls_nm (fun W hW => ?_)
  have hb : ButX B E w W := by rw [hW]; exact ButX.of E ((Below.refl _ _).alloc (Nat.le_refl _) _)
  have HB := Lib.hid hb
  have HCW := Lib.hid (HC.out W hW)
  clear hW hb HC
  refine HCW.out.mono ?_
  rintro e w1 ⟨hX, hr1⟩
  have HX := Lib.hid (HB.out.trans hX)
  clear hX
  rcases r with f0 | ⟨k1, os1⟩
  · obtain rfl : e = flt f0.1 f0.2 := hr1
    exact ⟨rfl, HX.out, rfl⟩
  · obtain ⟨rfl, hx1⟩ := hr1
    have HS := Lib.hid hx1
    clear hx1
    go_wp2_with fail
    go_returns
    exact ⟨HX.out, rfl, HS.out⟩
theorem both_any {k0 : Nat} {g : R} (hg : Rt B E a n c L k0 92 g) (hu : Up g) : Rt B E a n c L k0 89 (chainF L g [3]) := by
  intro w k os hk h
  have HC : Hid (∀ W, W = w.alloc (.cells #[.int .i64 3] 3) → Calls Tryd.prog 88 #[.pointer (some ⟨B, 0, none⟩), .func (.func 92) #[.pointer (some ⟨B, 0, none⟩)] #[], .slice (some ⟨w.heap.size, 0, none⟩) 1 1] W (Ex W B E a n c L (chainF L g [3] k os))) := fun W hW => by
    have hb : Below w.heap.size w W := by rw [hW]; exact (Below.refl _ _).alloc (Nat.le_refl _) _
    exact chain_any W B E a n c L k0 92 g (enters Tryd.func92 (by kernel_rfl) (by kernel_rfl)) hg hu w.heap.size [3] (by rw [hW]; exact new0 _ _) (by have := h.lt; have := h.le; omega) (by simp) (by simp) (by simp) k os hk (h.later hb)
  obtain ⟨r, hr⟩ : ∃ r, r = chainF L g [3] k os := ⟨_, rfl⟩
  rw [← hr] at HC ⊢
  clear hg hu h hr
  go_enter Tryd.func89, Tryd.ntmps89
  go_wp2_with fail
  refine calls_nm (fun W hW => ?_)
  have hb : ButX B E w W := by rw [hW]; exact ButX.of E ((Below.refl _ _).alloc (Nat.le_refl _) _)
  have HB := Lib.hid hb
  have HCW := Lib.hid (HC.out W hW)
  clear hW hb HC
  refine HCW.out.mono ?_
  rintro e w1 ⟨hX, hr1⟩
  have HX := Lib.hid (HB.out.trans hX)
  clear hX
  rcases r with f0 | ⟨k1, os1⟩
  · obtain rfl : e = flt f0.1 f0.2 := hr1
    exact ⟨rfl, HX.out, rfl⟩
  · obtain ⟨rfl, hx1⟩ := hr1
    have HS := Lib.hid hx1
    clear hx1
    go_wp2_with fail
    go_returns
    exact ⟨HX.out, rfl, HS.out⟩
theorem sum_any {k0 : Nat} {g : R} (hg : Rt B E a n c L k0 97 g) (hu : Up g) : Rt B E a n c L k0 94 (chainF L g [8, 9]) := by
  intro w k os hk h
  have HC : Hid (∀ W, W = w.alloc (.cells #[.int .i64 8, .int .i64 9] 3) → Calls Tryd.prog 88 #[.pointer (some ⟨B, 0, none⟩), .func (.func 97) #[.pointer (some ⟨B, 0, none⟩)] #[], .slice (some ⟨w.heap.size, 0, none⟩) 2 2] W (Ex W B E a n c L (chainF L g [8, 9] k os))) := fun W hW => by
    have hb : Below w.heap.size w W := by rw [hW]; exact (Below.refl _ _).alloc (Nat.le_refl _) _
    exact chain_any W B E a n c L k0 97 g (enters Tryd.func97 (by kernel_rfl) (by kernel_rfl)) hg hu w.heap.size [8, 9] (by rw [hW]; exact new0 _ _) (by have := h.lt; have := h.le; omega) (by simp) (by simp) (by simp) k os hk (h.later hb)
  obtain ⟨r, hr⟩ : ∃ r, r = chainF L g [8, 9] k os := ⟨_, rfl⟩
  rw [← hr] at HC ⊢
  clear hg hu h hr
  go_enter Tryd.func94, Tryd.ntmps94
  go_wp2_with fail
  refine calls_nm (fun W hW => ?_)
  have hb : ButX B E w W := by rw [hW]; exact ButX.of E ((Below.refl _ _).alloc (Nat.le_refl _) _)
  have HB := Lib.hid hb
  have HCW := Lib.hid (HC.out W hW)
  clear hW hb HC
  refine HCW.out.mono ?_
  rintro e w1 ⟨hX, hr1⟩
  have HX := Lib.hid (HB.out.trans hX)
  clear hX
  rcases r with f0 | ⟨k1, os1⟩
  · obtain rfl : e = flt f0.1 f0.2 := hr1
    exact ⟨rfl, HX.out, rfl⟩
  · obtain ⟨rfl, hx1⟩ := hr1
    have HS := Lib.hid hx1
    clear hx1
    go_wp2_with fail
    go_returns
    exact ⟨HX.out, rfl, HS.out⟩
theorem product_any {k0 : Nat} {g : R} (hg : Rt B E a n c L k0 99 g) (hu : Up g) : Rt B E a n c L k0 97 (chainF L g [10]) := by
  intro w k os hk h
  have HC : Hid (∀ W, W = w.alloc (.cells #[.int .i64 10] 3) → Calls Tryd.prog 88 #[.pointer (some ⟨B, 0, none⟩), .func (.func 99) #[.pointer (some ⟨B, 0, none⟩)] #[], .slice (some ⟨w.heap.size, 0, none⟩) 1 1] W (Ex W B E a n c L (chainF L g [10] k os))) := fun W hW => by
    have hb : Below w.heap.size w W := by rw [hW]; exact (Below.refl _ _).alloc (Nat.le_refl _) _
    exact chain_any W B E a n c L k0 99 g (enters Tryd.func99 (by kernel_rfl) (by kernel_rfl)) hg hu w.heap.size [10] (by rw [hW]; exact new0 _ _) (by have := h.lt; have := h.le; omega) (by simp) (by simp) (by simp) k os hk (h.later hb)
  obtain ⟨r, hr⟩ : ∃ r, r = chainF L g [10] k os := ⟨_, rfl⟩
  rw [← hr] at HC ⊢
  clear hg hu h hr
  go_enter Tryd.func97, Tryd.ntmps97
  go_wp2_with fail
  refine calls_nm (fun W hW => ?_)
  have hb : ButX B E w W := by rw [hW]; exact ButX.of E ((Below.refl _ _).alloc (Nat.le_refl _) _)
  have HB := Lib.hid hb
  have HCW := Lib.hid (HC.out W hW)
  clear hW hb HC
  refine HCW.out.mono ?_
  rintro e w1 ⟨hX, hr1⟩
  have HX := Lib.hid (HB.out.trans hX)
  clear hX
  rcases r with f0 | ⟨k1, os1⟩
  · obtain rfl : e = flt f0.1 f0.2 := hr1
    exact ⟨rfl, HX.out, rfl⟩
  · obtain ⟨rfl, hx1⟩ := hr1
    have HS := Lib.hid hx1
    clear hx1
    go_wp2_with fail
    go_returns
    exact ⟨HX.out, rfl, HS.out⟩
theorem compare_any {w : World} {k : Nat} {os : List Oq} (h : Xs w B E a n c L k os) (q : Nat) (nt : Bool) :
    Calls Tryd.prog 95 #[.pointer (some ⟨B, 0, none⟩), .int .i64 (q : Int), .bool nt] w (Ex w B E a n c L (compareF q nt k os)) := by
  have HPU : Hid (∀ W k os o, Xs W B E a n c L k os → Calls Tryd.prog 91 #[.pointer (some ⟨B, 0, none⟩), opV o] W (Ex W B E a n c L (putF o k os))) := fun W k os o hx => put_any W B E a n c L k os hx o
  have HP := Lib.hid (HPU.out w k os (opO q) h)
  obtain ⟨r1, hr1⟩ : ∃ r1, r1 = putF (opO q) k os := ⟨_, rfl⟩
  obtain ⟨r, hr⟩ : ∃ r, r = compareF q nt k os := ⟨_, rfl⟩
  have HR : Hid (r = bd r1 fun x => if nt then putF (opO 5) x.1 x.2 else .inr x) := by
    show _ = _
    rw [hr, hr1]
    rfl
  rw [← hr1] at HP
  rw [← hr]
  clear hr1 hr h
  go_enter Tryd.func95, Tryd.ntmps95
  go_wp2_with fail
  refine HP.out.mono ?_
  rintro e w1 ⟨hX, h1⟩
  have HX := Lib.hid hX
  clear hX HP
  rcases r1 with f0 | ⟨k1, os1⟩
  · obtain rfl : e = flt f0.1 f0.2 := h1
    obtain rfl : r = .inl f0 := HR.out
    exact ⟨rfl, HX.out, rfl⟩
  · obtain ⟨rfl, hx1⟩ := h1
    have HS := Lib.hid hx1
    clear hx1
    cases nt
    · obtain rfl : r = .inr (k1, os1) := HR.out
      go_wp2_with fail
      go_returns
      exact ⟨HX.out, rfl, HS.out⟩
    · have HP2 := Lib.hid (HPU.out w1 k1 os1 (opO 5) HS.out)
      have HR2 : Hid (r = putF (opO 5) k1 os1) := HR.out
      rw [← HR2.out] at HP2
      clear HR HR2 HS
      go_wp2_with fail
      refine HP2.out.mono ?_
      rintro e w2 ⟨hX2, h2⟩
      have HX2 := Lib.hid (HX.out.trans hX2)
      clear hX2 HP2
      rcases r with f0 | ⟨k2, os2⟩
      · obtain rfl : e = flt f0.1 f0.2 := h2
        exact ⟨rfl, HX2.out, rfl⟩
      · obtain ⟨rfl, hx2⟩ := h2
        have HS2 := Lib.hid hx2
        clear hx2
        go_wp2_with fail
        go_returns
        exact ⟨HX2.out, rfl, HS2.out⟩
theorem den_any {k0 : Nat} {g : R} (hg : Rt B E a n c L k0 93 g) : ∀ (u : Nat) (w : World) (k : Nat) (os : List Oq), k0 ≤ k → n ≤ k + u → Xs w B E a n c L k os → Calls Tryd.prog 92 #[.pointer (some ⟨B, 0, none⟩)] w (Ex w B E a n c L (deniedF L g u k os)) := by
  intro u
  induction u with
  | zero =>
    intro w k os hk hn h
    have hm : mayB L k sNOT = false := by
      cases hm : mayB L k sNOT with
      | false => rfl
      | true =>
        have := may_lt hm
        have := h.kn
        omega
    have HM := xmay h sNOT
    rw [hm] at HM
    have HM := Lib.hid HM
    have HG : Hid (∀ W, Xs W B E a n c L k os → Calls Tryd.prog 93 #[.pointer (some ⟨B, 0, none⟩)] W (Ex W B E a n c L (g k os))) := fun W hx => hg W k os hk hx
    obtain ⟨r, hr⟩ : ∃ r, r = g k os := ⟨_, rfl⟩
    rw [show deniedF L g 0 k os = r from hr.symm]
    rw [← hr] at HG
    clear h hm hr hn
    go_enter Tryd.func92, Tryd.ntmps92
    go_wp2_with fail
    refine HM.out.mono ?_
    rintro e w1 ⟨rfl, hX, hx⟩
    have hx : Xs w1 B E a n c L k os := hx
    have HX := Lib.hid hX
    have HG1 := Lib.hid (HG.out w1 hx)
    clear hX hx HM HG
    go_wp2_with fail
    refine HG1.out.mono ?_
    rintro e w2 ⟨hX2, h2⟩
    have HX2 := Lib.hid (HX.out.trans hX2)
    clear hX2 HG1 HX
    rcases r with f0 | ⟨k2, os2⟩
    · obtain rfl : e = flt f0.1 f0.2 := h2
      exact ⟨rfl, HX2.out, rfl⟩
    · obtain ⟨rfl, hx2⟩ := h2
      have HS2 := Lib.hid hx2
      clear hx2
      go_wp2_with fail
      go_returns
      exact ⟨HX2.out, rfl, HS2.out⟩
  | succ u ih =>
    intro w k os hk hn h
    have HM0 := xmay h sNOT
    by_cases hm : mayB L k sNOT = true
    · rw [hm] at HM0
      have HM := Lib.hid HM0
      have HI : Hid (∀ W, Xs W B E a n c L (k + 1) os → Calls Tryd.prog 92 #[.pointer (some ⟨B, 0, none⟩)] W (Ex W B E a n c L (deniedF L g u (k + 1) os))) := fun W hx => ih W (k + 1) os (by omega) (by omega) hx
      have HPU : Hid (∀ W k os o, Xs W B E a n c L k os → Calls Tryd.prog 91 #[.pointer (some ⟨B, 0, none⟩), opV o] W (Ex W B E a n c L (putF o k os))) := fun W k os o hx => put_any W B E a n c L k os hx o
      obtain ⟨r1, hr1⟩ : ∃ r1, r1 = deniedF L g u (k + 1) os := ⟨_, rfl⟩
      obtain ⟨r, hr⟩ : ∃ r, r = deniedF L g (u + 1) k os := ⟨_, rfl⟩
      have HR : Hid (r = bd r1 fun x => putF (opO 5) x.1 x.2) := by
        show _ = _
        rw [hr, hr1, den_yes hm]
      rw [← hr]
      rw [← hr1] at HI
      clear hr1 hr h hm HM0 ih hg hn hk
      go_enter Tryd.func92, Tryd.ntmps92
      go_wp2_with fail
      refine HM.out.mono ?_
      rintro e w1 ⟨rfl, hX, hx⟩
      have hx : Xs w1 B E a n c L (k + 1) os := hx
      have HX := Lib.hid hX
      have HI1 := Lib.hid (HI.out w1 hx)
      clear hX hx HM HI
      go_wp2_with fail
      refine HI1.out.mono ?_
      rintro e w2 ⟨hX2, h2⟩
      have HX2 := Lib.hid (HX.out.trans hX2)
      clear hX2 HI1 HX
      rcases r1 with f0 | ⟨k2, os2⟩
      · obtain rfl : e = flt f0.1 f0.2 := h2
        obtain rfl : r = .inl f0 := HR.out
        exact ⟨rfl, HX2.out, rfl⟩
      · obtain ⟨rfl, hx2⟩ := h2
        have HP2 := Lib.hid (HPU.out w2 k2 os2 (opO 5) hx2)
        have HR2 : Hid (r = putF (opO 5) k2 os2) := HR.out
        rw [← HR2.out] at HP2
        clear HR HR2 hx2
        go_wp2_with fail
        refine HP2.out.mono ?_
        rintro e w3 ⟨hX3, h3⟩
        have HX3 := Lib.hid (HX2.out.trans hX3)
        clear hX3 HP2
        rcases r with f0 | ⟨k3, os3⟩
        · obtain rfl : e = flt f0.1 f0.2 := h3
          exact ⟨rfl, HX3.out, rfl⟩
        · obtain ⟨rfl, hx3⟩ := h3
          have HS3 := Lib.hid hx3
          clear hx3
          go_wp2_with fail
          go_returns
          exact ⟨HX3.out, rfl, HS3.out⟩
    · have hm : mayB L k sNOT = false := by simpa using hm
      rw [hm] at HM0
      have HM := Lib.hid HM0
      have HG : Hid (∀ W, Xs W B E a n c L k os → Calls Tryd.prog 93 #[.pointer (some ⟨B, 0, none⟩)] W (Ex W B E a n c L (g k os))) := fun W hx => hg W k os hk hx
      obtain ⟨r, hr⟩ : ∃ r, r = g k os := ⟨_, rfl⟩
      rw [show deniedF L g (u + 1) k os = r by rw [hr, den_no hm]]
      rw [← hr] at HG
      clear h hm hr hn ih HM0
      go_enter Tryd.func92, Tryd.ntmps92
      go_wp2_with fail
      refine HM.out.mono ?_
      rintro e w1 ⟨rfl, hX, hx⟩
      have hx : Xs w1 B E a n c L k os := hx
      have HX := Lib.hid hX
      have HG1 := Lib.hid (HG.out w1 hx)
      clear hX hx HM HG
      go_wp2_with fail
      refine HG1.out.mono ?_
      rintro e w2 ⟨hX2, h2⟩
      have HX2 := Lib.hid (HX.out.trans hX2)
      clear hX2 HG1 HX
      rcases r with f0 | ⟨k2, os2⟩
      · obtain rfl : e = flt f0.1 f0.2 := h2
        exact ⟨rfl, HX2.out, rfl⟩
      · obtain ⟨rfl, hx2⟩ := h2
        have HS2 := Lib.hid hx2
        clear hx2
        go_wp2_with fail
        go_returns
        exact ⟨HX2.out, rfl, HS2.out⟩
theorem denied_any {k0 : Nat} {g : R} (hg : Rt B E a n c L k0 93 g) : Rt B E a n c L k0 92 (deniedF L g L.length) := fun W k os hk h => den_any hg L.length W k os hk (by have := h.kn; omega) h
end
end Go.Proofs.YtdeollmeljaaoaaDoor.rd
/- What binds strongest: a literal, a name, an expression in brackets. -/
namespace Go.Proofs.YtdeollmeljaaoaaDoor.rd
open Go.ChangeShapes Go.WideShapes Go.ChangeAt Go.RowKit Go.Proofs.YtdeollmeljaaoaaDoor.cs
set_option linter.unusedVariables false
set_option linter.unusedSimpArgs false
set_option maxHeartbeats 4000000
set_option maxRecDepth 100000
section
variable {B E : Nat} {a : Option Addr} {n c : Nat} {L : List Tk}
theorem xmust {w : World} {k : Nat} {os : List Oq} (h : Xs w B E a n c L k os) {b : Nat} {ts : List ByteArray} (hk : w.heap[b]? = some (.cells (ts.map Value.string).toArray 9 (0, 0))) (hb : b ≠ B) (h0 : 0 < ts.length) (h9 : ts.length ≤ 9) :
    Calls Tryd.prog 52 #[.pointer (some ⟨B, 0, none⟩), .slice (some ⟨b, 0, none⟩) ts.length ts.length] w fun e w' => ButX B E w w' ∧ match mustF L n k ts with
      | .inl f => e = flt f.1 f.2
      | .inr k' => e = .returned (.tuple #[]) ∧ Xs w' B E a n c L k' os := by
  have hh := h
  obtain ⟨⟨ov, hr, ho⟩, _⟩ := h
  have hrd := rd_new hk (by simp; omega)
  rw [show (ts.map Value.string).length = ts.length by simp] at hrd
  refine (must_any w B a n c L k ov hr ts.length _ ts h0 hrd (fun x cap e hn => by cases e; exact hb)).mono ?_
  rintro e w' ⟨h1, h2⟩
  refine ⟨h1.to E, ?_⟩
  cases hm : mustF L n k ts with
  | inl f =>
    rw [hm] at h2
    exact h2
  | inr k' =>
    rw [hm] at h2
    exact ⟨h2.1, hh.go ho h2.2 h1⟩
theorem xlit {w : World} {k : Nat} {os : List Oq} (h : Xs w B E a n c L k os) :
    Calls Tryd.prog 78 #[.pointer (some ⟨B, 0, none⟩)] w fun e w' => ButX B E w w' ∧ match litG L n k with
      | .inl f => e = flt f.1 f.2
      | .inr (v, k') => e = .returned (.tuple #[vV (v.getD v0).k (v.getD v0).n (v.getD v0).t, .bool v.isSome]) ∧ Xs w' B E a n c L k' os := by
  have hh := h
  obtain ⟨⟨ov, hr, ho⟩, _⟩ := h
  refine (literal_any w hh.tb B hh.off_c a n c L k ov hr (hh.ok _).2.1 (hh.ok _).2.2).mono ?_
  rintro e w' ⟨h1, h2⟩
  refine ⟨h1.to E, ?_⟩
  rw [litF_G] at h2
  rcases hm : litG L n k with f | ⟨v, k'⟩
  · rw [hm] at h2
    exact h2
  · rw [hm] at h2
    cases v with
    | none => exact ⟨h2.1, hh.go ho h2.2 h1⟩
    | some v => exact ⟨h2.1, hh.go ho h2.2 h1⟩
theorem xname {w : World} {k : Nat} {os : List Oq} (h : Xs w B E a n c L k os) :
    Calls Tryd.prog 53 #[.pointer (some ⟨B, 0, none⟩)] w fun e w' => ButX B E w w' ∧ match nameG L n k with
      | .inl f => e = flt f.1 f.2
      | .inr (t, k') => e = .returned (.string t) ∧ Xs w' B E a n c L k' os := by
  have hh := h
  obtain ⟨⟨ov, hr, ho⟩, _⟩ := h
  refine (rname_any w hh.tb B a n c L k ov hr (hh.ok _).1).mono ?_
  rintro e w' ⟨h1, h2⟩
  refine ⟨h1.to E, ?_⟩
  rw [nameF_G] at h2
  rcases hm : nameG L n k with f | ⟨v, k'⟩
  · rw [hm] at h2
    exact h2
  · rw [hm] at h2
    exact ⟨h2.1, hh.go ho h2.2 h1⟩
theorem thing_any {k0 : Nat} {g : R} (hg : Rt B E a n c L (k0 + 1) 85 g) : Rt B E a n c L k0 99 (thingF L n g) := by
  intro w k os hk h
  have HPU : Hid (∀ W k os o, Xs W B E a n c L k os → Calls Tryd.prog 91 #[.pointer (some ⟨B, 0, none⟩), opV o] W (Ex W B E a n c L (putF o k os))) := fun W k os o hx => put_any W B E a n c L k os hx o
  have HM0 := xmay h sOpen
  have hBE := h.lt
  have hEw := h.le
  obtain ⟨r, hr⟩ : ∃ r, r = thingF L n g k os := ⟨_, rfl⟩
  rw [← hr]
  by_cases hm : mayB L k sOpen = true
  · rw [hm] at HM0
    have HM := Lib.hid HM0
    have HI : Hid (∀ W, Xs W B E a n c L (k + 1) os → Calls Tryd.prog 85 #[.pointer (some ⟨B, 0, none⟩)] W (Ex W B E a n c L (g (k + 1) os))) := fun W hx => hg W (k + 1) os (by omega) hx
    have HMU : Hid (∀ W w2 k2 os2, Xs w2 B E a n c L k2 os2 → W = w2.alloc (.cells #[.string sClose] 9) → Calls Tryd.prog 52 #[.pointer (some ⟨B, 0, none⟩), .slice (some ⟨w2.heap.size, 0, none⟩) 1 1] W fun e w' => ButX B E w2 w' ∧ match mustF L n k2 [sClose] with
      | .inl f => e = flt f.1 f.2
      | .inr k' => e = .returned (.tuple #[]) ∧ Xs w' B E a n c L k' os2) := fun W w2 k2 os2 hx hW => by
        have hb : Below w2.heap.size w2 W := by rw [hW]; exact (Below.refl _ _).alloc (Nat.le_refl _) _
        refine (xmust (ts := [sClose]) (b := w2.heap.size) (hx.later hb) (by rw [hW]; exact new0 _ _) (by have := hx.lt; have := hx.le; omega) (by simp) (by simp)).mono ?_
        rintro e w' ⟨h1, h2⟩
        exact ⟨(ButX.of E hb).trans h1, h2⟩
    obtain ⟨r1, hr1⟩ : ∃ r1, r1 = g (k + 1) os := ⟨_, rfl⟩
    have HR : Hid (r = bd r1 fun x => if mayB L x.1 sClose then .inr (x.1 + 1, x.2) else .inl (fl n x.1 6)) := by
      show _ = _
      rw [hr, hr1]
      unfold thingF
      rw [if_pos hm]
    rw [← hr1] at HI
    clear hr1 hr h hm HM0 hg hk HPU
    go_enter Tryd.func99, Tryd.ntmps99
    go_wp2_with fail
    refine HM.out.mono ?_
    rintro e w1 ⟨rfl, hX, hx⟩
    have hx : Xs w1 B E a n c L (k + 1) os := hx
    have HX := Lib.hid hX
    have HI1 := Lib.hid (HI.out w1 hx)
    clear hX hx HM HI
    go_wp2_with fail
    refine HI1.out.mono ?_
    rintro e w2 ⟨hX2, h2⟩
    have HX2 := Lib.hid (HX.out.trans hX2)
    clear hX2 HI1 HX
    rcases r1 with f0 | ⟨k2, os2⟩
    · obtain rfl : e = flt f0.1 f0.2 := h2
      obtain rfl : r = .inl f0 := HR.out
      exact ⟨rfl, HX2.out, rfl⟩
    · obtain ⟨rfl, hx2⟩ := h2
      have HMU2 := Lib.hid (fun W => HMU.out W w2 k2 os2 hx2)
      have HR2 : Hid (r = if mayB L k2 sClose then .inr (k2 + 1, os2) else .inl (fl n k2 6)) := HR.out
      clear HR HMU hx2
      go_wp2_with fail
      refine calls_nm (fun W hW => ?_)
      have HM3 := Lib.hid (HMU2.out W hW)
      clear hW HMU2
      refine HM3.out.mono ?_
      rintro e w3 ⟨hX3, h3⟩
      have HX3 := Lib.hid (HX2.out.trans hX3)
      clear hX3 HM3
      unfold mustF at h3
      by_cases hm2 : mayB L k2 sClose = true
      · rw [if_pos hm2] at h3
        obtain rfl : r = .inr (k2 + 1, os2) := by rw [HR2.out, if_pos hm2]
        obtain ⟨rfl, hx3⟩ := h3
        have HS3 : Hid (Xs w3 B E a n c L (k2 + 1) os2) := hx3
        clear hx3
        go_wp2_with fail
        go_returns
        exact ⟨HX3.out, rfl, HS3.out⟩
      · rw [if_neg hm2] at h3
        obtain rfl : r = .inl (fl n k2 6) := by rw [HR2.out, if_neg hm2]
        obtain rfl : e = flt (fl n k2 6).1 (fl n k2 6).2 := h3
        exact ⟨rfl, HX3.out, rfl⟩
  · have hm : mayB L k sOpen = false := by simpa using hm
    rw [hm] at HM0
    have HM := Lib.hid HM0
    have HLI : Hid (∀ W, Xs W B E a n c L k os → Calls Tryd.prog 78 #[.pointer (some ⟨B, 0, none⟩)] W fun e w' => ButX B E W w' ∧ match litG L n k with
      | .inl f => e = flt f.1 f.2
      | .inr (v, k') => e = .returned (.tuple #[vV (v.getD v0).k (v.getD v0).n (v.getD v0).t, .bool v.isSome]) ∧ Xs w' B E a n c L k' os) := fun W hx => xlit hx
    obtain ⟨r1, hr1⟩ : ∃ r1, r1 = litG L n k := ⟨_, rfl⟩
    have HR : Hid (r = bd r1 fun x => match x.1 with
      | some v => putF ⟨1, v, ⟨#[]⟩⟩ x.2 os
      | none => bd (nameG L n k) fun y => putF ⟨2, v0, y.1⟩ y.2 os) := by
      show _ = _
      rw [hr, hr1]
      unfold thingF
      rw [if_neg (by simp [hm])]
      rfl
    have hsame : ∀ k1, r1 = .inr (none, k1) → k1 = k := fun k1 e => by
      rw [hr1] at e
      unfold litG at e
      repeat' split at e
      all_goals (first | (cases e; done) | (cases e; rfl))
    have HSM := Lib.hid hsame
    rw [← hr1] at HLI
    clear hr1 hr h hm HM0 hg hsame
    go_enter Tryd.func99, Tryd.ntmps99
    go_wp2_with fail
    refine HM.out.mono ?_
    rintro e w1 ⟨rfl, hX, hx⟩
    have hx : Xs w1 B E a n c L k os := hx
    have HX := Lib.hid hX
    have HI1 := Lib.hid (HLI.out w1 hx)
    clear hX hx HM HLI
    go_wp2_with fail
    refine HI1.out.mono ?_
    rintro e w2 ⟨hX2, h2⟩
    have HX2 := Lib.hid (HX.out.trans hX2)
    clear hX2 HI1 HX
    rcases r1 with f0 | ⟨v, k2⟩
    · obtain rfl : e = flt f0.1 f0.2 := h2
      obtain rfl : r = .inl f0 := HR.out
      exact ⟨rfl, HX2.out, rfl⟩
    · obtain ⟨rfl, hx2⟩ := h2
      have HS2 := Lib.hid hx2
      clear hx2
      cases v with
      | none =>
        obtain rfl : k2 = k := HSM.out k2 rfl
        simp only [Option.getD_none, v0, vV, Option.isSome_none]
        have HNA : Hid (∀ W, Xs W B E a n c L k2 os → Calls Tryd.prog 53 #[.pointer (some ⟨B, 0, none⟩)] W fun e w' => ButX B E W w' ∧ match nameG L n k2 with
      | .inl f => e = flt f.1 f.2
      | .inr (t, k') => e = .returned (.string t) ∧ Xs w' B E a n c L k' os) := fun W hx => xname hx
        obtain ⟨r3, hr3⟩ : ∃ r3, r3 = nameG L n k2 := ⟨_, rfl⟩
        have HR3 : Hid (r = bd r3 fun y => putF ⟨2, v0, y.1⟩ y.2 os) := by show _ = _; rw [HR.out, hr3]; rfl
        rw [← hr3] at HNA
        clear hr3 HR HSM
        go_wp2_with fail
        refine calls_nm (fun W hW => ?_)
        have hb : Below w2.heap.size w2 W := by rw [hW]; exact (Below.refl _ _).alloc (Nat.le_refl _) _
        have HXW := Lib.hid (HX2.out.trans (ButX.of E hb))
        have HNW := Lib.hid (HNA.out W (HS2.out.later hb))
        clear hb hW HNA HS2 HX2
        refine HNW.out.mono ?_
        rintro e w3 ⟨hX3, h3⟩
        have HX3 := Lib.hid (HXW.out.trans hX3)
        clear hX3 HNW HXW
        rcases r3 with f0 | ⟨t3, k3⟩
        · obtain rfl : e = flt f0.1 f0.2 := h3
          obtain rfl : r = .inl f0 := HR3.out
          exact ⟨rfl, HX3.out, rfl⟩
        · obtain ⟨rfl, hx3⟩ := h3
          have HP := Lib.hid (HPU.out w3 k3 os ⟨2, ⟨0, 0, ⟨#[]⟩⟩, t3⟩ hx3)
          have HR4 : Hid (r = putF ⟨2, ⟨0, 0, ⟨#[]⟩⟩, t3⟩ k3 os) := HR3.out
          rw [← HR4.out] at HP
          clear HR3 HR4 hx3
          go_wp2_with fail
          refine HP.out.mono ?_
          rintro e w4 ⟨hX4, h4⟩
          have HX4 := Lib.hid (HX3.out.trans hX4)
          clear hX4 HP HX3
          rcases r with f0 | ⟨k4, os4⟩
          · obtain rfl : e = flt f0.1 f0.2 := h4
            exact ⟨rfl, HX4.out, rfl⟩
          · obtain ⟨rfl, hx4⟩ := h4
            have HS4 := Lib.hid hx4
            clear hx4
            go_wp2_with fail
            go_returns
            exact ⟨HX4.out, rfl, HS4.out⟩
      | some v =>
        obtain ⟨vk, vn, vt⟩ := v
        simp only [Option.getD_some, vV, Option.isSome_some]
        have HR4 : Hid (r = putF ⟨1, ⟨vk, vn, vt⟩, ⟨#[]⟩⟩ k2 os) := HR.out
        clear HR HSM
        go_wp2_with fail
        refine calls_nm (fun W hW => ?_)
        have hb : Below w2.heap.size w2 W := by rw [hW]; exact (Below.refl _ _).alloc (Nat.le_refl _) _
        have HXW := Lib.hid (HX2.out.trans (ButX.of E hb))
        have HP := Lib.hid (HPU.out W k2 os ⟨1, ⟨vk, vn, vt⟩, ⟨#[]⟩⟩ (HS2.out.later hb))
        rw [← HR4.out] at HP
        clear hb hW HS2 HX2 HR4
        refine HP.out.mono ?_
        rintro e w4 ⟨hX4, h4⟩
        have HX4 := Lib.hid (HXW.out.trans hX4)
        clear hX4 HP HXW
        rcases r with f0 | ⟨k4, os4⟩
        · obtain rfl : e = flt f0.1 f0.2 := h4
          exact ⟨rfl, HX4.out, rfl⟩
        · obtain ⟨rfl, hx4⟩ := h4
          have HS4 := Lib.hid hx4
          clear hx4
          go_wp2_with fail
          go_returns
          exact ⟨HX4.out, rfl, HS4.out⟩
end
end Go.Proofs.YtdeollmeljaaoaaDoor.rd
