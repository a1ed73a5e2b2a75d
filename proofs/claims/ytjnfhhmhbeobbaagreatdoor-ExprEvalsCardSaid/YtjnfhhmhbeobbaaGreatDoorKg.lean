/- What an expression makes of a row: the document, from the last op down. -/
import Derived.Test.YtjnfhhmhbeobbaaGreatDoorKe
import Derived.Test.YtjnfhhmhbeobbaaGreatDoorKa
import Derived.Test.YtjnfhhmhbeobbaaGreatDoorVz
import Derived.Test.YtjnfhhmhbeobbaaGreatDoorQr
import Derived.Test.YtjnfhhmhbeobbaaGreatDoorKc
namespace Go.Proofs.YtjnfhhmhbeobbaaGreatDoor
open Go.ChangeShapes Go.WideShapes Go.ChangeAt Go.RowKit
set_option linter.unusedVariables false
set_option linter.unusedSimpArgs false
set_option maxHeartbeats 4000000
set_option maxRecDepth 100000
theorem onV_bad (k : Int) (a : V) (h : (onV k a).1 ≠ 0) : (onV k a).2 = nul := by
  show (one k a).1 = nul
  replace h : (one k a).2 ≠ 0 := h
  unfold one turn at *
  split at h
  · next h1 => rw [if_pos h1]
  · next h1 =>
    rw [if_neg h1]
    split at h
    · exact absurd rfl h
    · next h2 =>
      rw [if_neg h2]
      split at h
      · next h3 =>
        rw [if_pos h3]
        split at h
        · exact absurd rfl h
        · next h4 =>
          rw [if_neg h4]
          split at h
          · exact absurd rfl h
          · next h5 => rw [if_neg h5]
      · next h3 => rw [if_neg h3]
theorem roneV (w : World) (k : Int) (a : V) : Calls Tryz.prog 43 #[.int .i64 k, .agg #[.int .i64 a.k, .int .i64 a.n, .string a.t]] w (ValIs (onV k a) w) := (vv.rone_any k a.k a.n a.t w).mono fun e w' h => h
theorem rtwoV (w : World) (k : Int) (a b : V) (ha : Rng a.n) (hb : Rng b.n) : Calls Tryz.prog 45 #[.int .i64 k, .agg #[.int .i64 a.k, .int .i64 a.n, .string a.t], .agg #[.int .i64 b.k, .int .i64 b.n, .string b.t]] w (ValIs (twV k a b) w) := (vv.rtwo_any k a.k a.n b.k b.n a.t b.t w ha hb).mono fun e w' h => h
theorem ed_un (w : World) (n m q : Nat) (v r u : Value) (l : List Cq) (rs : List V) (o : Oq) (a : Tx) (ho : wks o.k = 1) (hm : m = a.flat.length + 1) (hm2 : m ≤ 1000) (hu : Rd w 5 m u (ocs (a.flat ++ [o]))) (hbad : (evT (lfV l rs) onV twV a).1 ≠ 0 → (evT (lfV l rs) onV twV a).2 = nul)
    (ih : ∀ W u', Below w.heap.size w W → Rd W 5 a.flat.length u' (ocs a.flat) → Calls Tryz.prog 19 #[v, r, u'] W (ValIs (evT (lfV l rs) onV twV a) W)) :
    Calls Tryz.prog 19 #[v, r, u] w (ValIs (evT (lfV l rs) onV twV (.un o a)) w) := by
  obtain ⟨b, p, cap, rfl, hmc, hcm, hbw, hcell⟩ := ops_of hu (by omega)
  obtain ⟨N, hN⟩ : ∃ N, N = a.flat.length := ⟨_, rfl⟩
  rw [← hN] at hm ih
  obtain ⟨g0, g1, g2, g3, g4⟩ := hcell N (by omega)
  have hg : (a.flat ++ [o]).getD N noq = o := by rw [hN]; exact getD_last _ _
  rw [hg] at g0 g1 g2 g3 g4
  have ht := hu.take N (by omega)
  have e1 : (ocs (a.flat ++ [o])).take (N * 5) = ocs a.flat := by rw [ocs_app, List.take_left' (by rw [ocs_len, hN])]
  rw [e1] at ht
  obtain ⟨k, ⟨vk, vn, vt⟩, t⟩ := o
  simp only at g0 g1 g2 g3 g4 ho
  obtain ⟨W0, hW0⟩ : ∃ W0, W0 = (w.alloc (.cells #[.int .i64 0, .int .i64 0, .string ⟨#[]⟩] 26)).alloc (.cells #[.int .i64 k, .int .i64 vk, .int .i64 vn, .string vt, .string t] 39) := ⟨_, rfl⟩
  have hb : Below w.heap.size w W0 := by subst hW0; exact ((Below.refl _ _).alloc (Nat.le_refl _) _).alloc (by simp) _
  have hz0 : W0.heap.size = w.heap.size + 2 := by subst hW0; simp
  have HM0 : Hid (W0.heap[w.heap.size]? = some (.cells #[.int .i64 0, .int .i64 0, .string ⟨#[]⟩] 26 (0, 0))) := Lib.hid (by subst hW0; rw [Below.heap_alloc _ _ _ (by simp)]; exact new0 w _)
  have HO0 : Hid (W0.cell? ⟨w.heap.size + 1, 0, none⟩ = some (.int .i64 k)) := Lib.hid (by
    have h := new0 (w.alloc (.cells #[.int .i64 0, .int .i64 0, .string ⟨#[]⟩] 26)) (.cells #[.int .i64 k, .int .i64 vk, .int .i64 vn, .string vt, .string t] 39)
    rw [World.size_alloc] at h
    subst hW0
    simp only [World.cell?]
    rw [h]
    rfl)
  have HW0 := Lib.hid hW0
  have hc := ih _ _ hb (ht.below hb)
  obtain ⟨R1, hR1⟩ : ∃ R, R = (evT (lfV l rs) onV twV a).1 := ⟨_, rfl⟩
  obtain ⟨x, hR2⟩ : ∃ R, R = (evT (lfV l rs) onV twV a).2 := ⟨_, rfl⟩
  have hev : evT (lfV l rs) onV twV (.un ⟨k, ⟨vk, vn, vt⟩, t⟩ a) = if R1 ≠ 0 then (R1, x) else onV k x := by
    rw [hR1, hR2]
    by_cases h : (evT (lfV l rs) onV twV a).1 = 0
    · rw [ev_un _ _ _ h, if_neg (by simpa using h)]
    · rw [ev_un_bad _ _ _ h, if_pos h]
  unfold ValIs at hc
  rw [← hR1, ← hR2] at hc hbad
  have HON : Hid (∀ W, Calls Tryz.prog 43 #[.int .i64 k, .agg #[.int .i64 x.k, .int .i64 x.n, .string x.t]] W (ValIs (onV k x) W)) := Lib.hid fun W => roneV W k x
  obtain ⟨⟨f, y⟩, hfy⟩ : ∃ R, R = onV k x := ⟨_, rfl⟩
  rw [← hfy] at hev HON
  unfold ValIs at HON
  have hi0 : (0 : Int) ≤ (N : Int) := by omega
  have hi1 : (N : Int) < (m : Int) := by omega
  have hi2 : (N : Int) ≤ (cap : Int) := by omega
  have hmi : (m : Int) - 1 = (N : Int) := by omega
  have HC := Lib.hid hc
  have HB := Lib.hid hb
  have HEV := Lib.hid hev
  have HWK : Hid (∀ W : World, Calls Tryz.prog 42 #[.int .i64 k] W fun e w' => e = .returned (.int .i64 1) ∧ W = w') := Lib.hid fun W => by
    have := works_any W k
    rw [ho] at this
    exact this
  have k1 : (k == 1) = false := by rcases wks_1 ho with rfl | rfl <;> rfl
  have k2 : (k == 2) = false := by rcases wks_1 ho with rfl | rfl <;> rfl
  clear hcell hg hu ht e1 ih hc hb hev hR1 hR2 hN hm hW0 hfy ho
  by_cases h1 : R1 = 0
  · subst h1
    clear hbad
    have HE : Hid (evT (lfV l rs) onV twV (.un ⟨k, ⟨vk, vn, vt⟩, t⟩ a) = (f, y)) := Lib.hid (by rw [HEV.out]; rfl)
    go_enter Tryz.func19, Tryz.ntmps19
    go_wp2_with fail
    refine (HWK.out _).mono ?_
    rintro e w1 ⟨rfl, rfl⟩
    rw [← HW0.out]
    go_wp2_with fail
    refine HC.out.mono ?_
    rintro e w2 ⟨rfl, hb2⟩
    have HM2 := Lib.hid ((hb2.block w.heap.size (by omega)).trans HM0.out)
    have HB2 := Lib.hid (into HB.out hb2)
    have hz2 := hb2.size
    have y0 := cell_blz ((Below.refl w2.heap.size w2).alloc (Nat.le_refl _) (.cells #[.int .i64 x.k, .int .i64 x.n, .string x.t] 26)) (cell_blz hb2 HO0.out)
    clear hb2
    go_wp2_with fail
    refine (HON.out _).mono ?_
    rintro e w3 ⟨rfl, hb3⟩
    have B3 : Below w2.heap.size w2 w3 := into ((Below.refl _ _).alloc (Nat.le_refl _) _) hb3
    have HM4 : Hid ((w3.alloc (.cells #[.int .i64 y.k, .int .i64 y.n, .string y.t] 26)).heap[w.heap.size]? = some (.cells #[.int .i64 0, .int .i64 0, .string ⟨#[]⟩] 26 (0, 0))) := Lib.hid ((Below.heap_alloc _ _ _ (by have := B3.size; omega)).trans ((B3.block w.heap.size (by omega)).trans HM2.out))
    have HB4 : Hid (Below w.heap.size w (w3.alloc (.cells #[.int .i64 y.k, .int .i64 y.n, .string y.t] 26))) := Lib.hid ((into HB2.out B3).alloc (into HB2.out B3).size _)
    clear hb3 B3
    obtain ⟨x0, x1, x2, f0, f1, f2⟩ := box3 HM4.out
    obtain ⟨v0, v1, v2⟩ := st3c HM4.out (.int .i64 y.k) (.int .i64 y.n) (.string y.t)
    have s3 := st3 HB4.out HM4.out (.int .i64 y.k) (.int .i64 y.n) (.string y.t)
    go_wp2_with fail
    (try simp only [Exit.inBlock, Exit.then])
    refine bodyPost_ret (by simp [results, Tryz.results19, go_sem, v0, v1, v2]; try rfl) rfl ?_
    rw [HE.out]
    exact ⟨rfl, s3.1⟩
  · have b1 : (R1 == 0) = false := by simpa using h1
    have b2 : (R1 != 0) = true := by simpa using h1
    have hx := hbad h1
    subst hx
    have HE : Hid (evT (lfV l rs) onV twV (.un ⟨k, ⟨vk, vn, vt⟩, t⟩ a) = (R1, nul)) := Lib.hid (by rw [HEV.out, if_pos h1])
    clear h1 hbad
    go_enter Tryz.func19, Tryz.ntmps19
    go_wp2_with fail
    refine (HWK.out _).mono ?_
    rintro e w1 ⟨rfl, rfl⟩
    rw [← HW0.out]
    go_wp2_with fail
    refine HC.out.mono ?_
    rintro e w2 ⟨rfl, hb2⟩
    have HM4 : Hid ((w2.alloc (.cells #[.int .i64 nul.k, .int .i64 nul.n, .string nul.t] 26)).heap[w.heap.size]? = some (.cells #[.int .i64 0, .int .i64 0, .string ⟨#[]⟩] 26 (0, 0))) := Lib.hid ((Below.heap_alloc _ _ _ (by have := hb2.size; omega)).trans ((hb2.block w.heap.size (by omega)).trans HM0.out))
    have HB4 : Hid (Below w.heap.size w (w2.alloc (.cells #[.int .i64 nul.k, .int .i64 nul.n, .string nul.t] 26))) := Lib.hid ((into HB.out hb2).alloc (into HB.out hb2).size _)
    clear hb2
    obtain ⟨x0, x1, x2, f0, f1, f2⟩ := box3 HM4.out
    obtain ⟨v0, v1, v2⟩ := st3c HM4.out (.int .i64 0) (.int .i64 0) (.string ⟨#[]⟩)
    have s3 := st3 HB4.out HM4.out (.int .i64 0) (.int .i64 0) (.string ⟨#[]⟩)
    go_wp2_with fail
    (try simp only [Exit.inBlock, Exit.then])
    refine bodyPost_ret (by simp [results, Tryz.results19, go_sem, v0, v1, v2]; try rfl) rfl ?_
    rw [HE.out]
    exact ⟨rfl, s3.1⟩
theorem ed_bi (w : World) (n m q : Nat) (v r u : Value) (l : List Cq) (rs : List V) (o : Oq) (a c : Tx) (ho : wks o.k = 2) (hcok : c.ok) (hm : m = a.flat.length + c.flat.length + 1) (hm2 : m ≤ 1000) (hu : Rd w 5 m u (ocs (a.flat ++ c.flat ++ [o])))
    (hbad : (evT (lfV l rs) onV twV a).1 ≠ 0 → (evT (lfV l rs) onV twV a).2 = nul) (hbad2 : (evT (lfV l rs) onV twV c).1 ≠ 0 → (evT (lfV l rs) onV twV c).2 = nul) (hra : Rng (evT (lfV l rs) onV twV a).2.n) (hrc : Rng (evT (lfV l rs) onV twV c).2.n)
    (ih : ∀ W u', Below w.heap.size w W → Rd W 5 a.flat.length u' (ocs a.flat) → Calls Tryz.prog 19 #[v, r, u'] W (ValIs (evT (lfV l rs) onV twV a) W))
    (ih2 : ∀ W u', Below w.heap.size w W → Rd W 5 c.flat.length u' (ocs c.flat) → Calls Tryz.prog 19 #[v, r, u'] W (ValIs (evT (lfV l rs) onV twV c) W)) :
    Calls Tryz.prog 19 #[v, r, u] w (ValIs (evT (lfV l rs) onV twV (.bi o a c)) w) := by
  have hap := a.flat_pos
  have hcp := c.flat_pos
  obtain ⟨b, p, cap, rfl, hmc, hcm, hbw, hcell⟩ := ops_of hu (by omega)
  have hb0 := fun (W : World) (hW : Below w.heap.size w W) => begins_any W m _ (a.flat ++ c.flat ++ [o]) (hu.below hW) hm2 (a.flat.length + c.flat.length) (by omega) a.flat c hcok (by rw [List.take_left' (by simp)])
  obtain ⟨A, hA⟩ : ∃ N, N = a.flat.length := ⟨_, rfl⟩
  obtain ⟨C, hC⟩ : ∃ N, N = c.flat.length := ⟨_, rfl⟩
  obtain ⟨N, hN⟩ : ∃ N, N = A + C := ⟨_, rfl⟩
  rw [← hA, ← hC, ← hN] at hm hb0
  rw [← hA] at ih hap
  rw [← hC] at ih2 hcp
  obtain ⟨g0, g1, g2, g3, g4⟩ := hcell N (by omega)
  have hg : (a.flat ++ c.flat ++ [o]).getD N noq = o := by
    have : N = (a.flat ++ c.flat).length := by rw [List.length_append]; omega
    rw [this]; exact getD_last _ _
  rw [hg] at g0 g1 g2 g3 g4
  have ht := hu.take A (by omega)
  have e1 : (ocs (a.flat ++ c.flat ++ [o])).take (A * 5) = ocs a.flat := by rw [List.append_assoc, ocs_app, List.take_left' (by rw [ocs_len, hA])]
  rw [e1] at ht
  have hd := (hu.take N (by omega)).drop A (by omega)
  have e2 : ((ocs (a.flat ++ c.flat ++ [o])).take (N * 5)).drop (A * 5) = ocs c.flat := by
    rw [ocs_app (a.flat ++ c.flat), List.take_left' (by rw [ocs_len, List.length_append]; omega), ocs_app, List.drop_left' (by rw [ocs_len, hA])]
  rw [e2] at hd
  have hNA : N - A = C := by omega
  rw [hNA] at hd
  have hsl : sliced (some ⟨b, p, none⟩) A N cap 5 = .slice (some ⟨b, p + A * 5, none⟩) C (cap - A) := by
    unfold sliced
    rw [if_neg (by omega), hNA]
    simp [Addr.add]
    omega
  rw [hsl] at hd
  obtain ⟨k, ⟨vk, vn, vt⟩, t⟩ := o
  simp only at g0 g1 g2 g3 g4 ho
  obtain ⟨W0, hW0⟩ : ∃ W0, W0 = (w.alloc (.cells #[.int .i64 0, .int .i64 0, .string ⟨#[]⟩] 26)).alloc (.cells #[.int .i64 k, .int .i64 vk, .int .i64 vn, .string vt, .string t] 39) := ⟨_, rfl⟩
  have hb : Below w.heap.size w W0 := by subst hW0; exact ((Below.refl _ _).alloc (Nat.le_refl _) _).alloc (by simp) _
  have hz0 : W0.heap.size = w.heap.size + 2 := by subst hW0; simp
  have HM0 : Hid (W0.heap[w.heap.size]? = some (.cells #[.int .i64 0, .int .i64 0, .string ⟨#[]⟩] 26 (0, 0))) := Lib.hid (by subst hW0; rw [Below.heap_alloc _ _ _ (by simp)]; exact new0 w _)
  have HO0 : Hid (W0.cell? ⟨w.heap.size + 1, 0, none⟩ = some (.int .i64 k)) := Lib.hid (by
    have h := new0 (w.alloc (.cells #[.int .i64 0, .int .i64 0, .string ⟨#[]⟩] 26)) (.cells #[.int .i64 k, .int .i64 vk, .int .i64 vn, .string vt, .string t] 39)
    rw [World.size_alloc] at h
    subst hW0
    simp only [World.cell?]
    rw [h]
    rfl)
  have HW0 := Lib.hid hW0
  have hbg := hb0 _ hb
  have hca := ih _ _ hb (ht.below hb)
  have hcb := fun (W : World) (hW : Below w.heap.size w W) => ih2 W _ hW (hd.below hW)
  obtain ⟨R1, hR1⟩ : ∃ R, R = (evT (lfV l rs) onV twV a).1 := ⟨_, rfl⟩
  obtain ⟨x, hR2⟩ : ∃ R, R = (evT (lfV l rs) onV twV a).2 := ⟨_, rfl⟩
  obtain ⟨S1, hS1⟩ : ∃ R, R = (evT (lfV l rs) onV twV c).1 := ⟨_, rfl⟩
  obtain ⟨y, hS2⟩ : ∃ R, R = (evT (lfV l rs) onV twV c).2 := ⟨_, rfl⟩
  have hev : evT (lfV l rs) onV twV (.bi ⟨k, ⟨vk, vn, vt⟩, t⟩ a c) = if R1 ≠ 0 then (R1, x) else if S1 ≠ 0 then (S1, y) else twV k x y := by
    rw [hR1, hR2, hS1, hS2]
    by_cases h : (evT (lfV l rs) onV twV a).1 = 0
    · rw [if_neg (by simpa using h)]
      by_cases h2 : (evT (lfV l rs) onV twV c).1 = 0
      · rw [ev_bi _ _ _ h h2, if_neg (by simpa using h2)]
      · rw [ev_bi_bad2 _ _ _ h h2, if_pos h2]
    · rw [ev_bi_bad _ _ _ h, if_pos h]
  unfold ValIs at hca hcb
  rw [← hR1, ← hR2] at hca hbad
  rw [← hR2] at hra
  rw [← hS1, ← hS2] at hbad2
  rw [← hS2] at hrc
  simp only [← hS1, ← hS2] at hcb
  have HTW : Hid (∀ W, Calls Tryz.prog 45 #[.int .i64 k, .agg #[.int .i64 x.k, .int .i64 x.n, .string x.t], .agg #[.int .i64 y.k, .int .i64 y.n, .string y.t]] W (ValIs (twV k x y) W)) := Lib.hid fun W => rtwoV W k x y hra hrc
  obtain ⟨⟨f, z⟩, hfz⟩ : ∃ R, R = twV k x y := ⟨_, rfl⟩
  rw [← hfz] at hev HTW
  unfold ValIs at HTW
  have hi0 : (0 : Int) ≤ (N : Int) := by omega
  have hi1 : (N : Int) < (m : Int) := by omega
  have hi2 : (A : Int) ≤ (cap : Int) := by omega
  have hi3 : (A : Int) ≤ (N : Int) := by omega
  have hi4 : (N : Int) ≤ (cap : Int) := by omega
  have hi5 : (0 : Int) ≤ (A : Int) := by omega
  have hi6 : ¬ A = cap := by omega
  have hi7 : ¬ cap = A := by omega
  have hmi : (m : Int) - 1 = (N : Int) := by omega
  have hsub : N - A = C := by omega
  have HBG := Lib.hid hbg
  have HCA := Lib.hid hca
  have HCB := Lib.hid hcb
  have HB := Lib.hid hb
  have HEV := Lib.hid hev
  have HWK : Hid (∀ W : World, Calls Tryz.prog 42 #[.int .i64 k] W fun e w' => e = .returned (.int .i64 2) ∧ W = w') := Lib.hid fun W => by
    have := works_any W k
    rw [ho] at this
    exact this
  obtain ⟨k1, k2, -, -⟩ := wks_2 ho
  have f1 : (k == 1) = false := by simpa using k1
  have f2 : (k == 2) = false := by simpa using k2
  clear hcell hg hu ht hd e1 e2 hsl ih ih2 hb0 hbg hca hcb hb hev hR1 hR2 hS1 hS2 hN hm hA hC hNA hmc hW0 hfz ho k1 k2 hra hrc
  by_cases h1 : R1 = 0
  · subst h1
    clear hbad
    by_cases h2 : S1 = 0
    · subst h2
      clear hbad2
      have HE : Hid (evT (lfV l rs) onV twV (.bi ⟨k, ⟨vk, vn, vt⟩, t⟩ a c) = (f, z)) := Lib.hid (by rw [HEV.out]; rfl)
      go_enter Tryz.func19, Tryz.ntmps19
      go_wp2_with fail
      refine (HWK.out _).mono ?_
      rintro e w1 ⟨rfl, rfl⟩
      rw [← HW0.out]
      go_wp2_with fail
      refine HBG.out.mono ?_
      rintro e w1 ⟨rfl, rfl⟩
      go_wp2_with fail
      refine HCA.out.mono ?_
      rintro e w2 ⟨rfl, hb2⟩
      have HM2 : Hid ((w2.alloc (.cells #[.int .i64 x.k, .int .i64 x.n, .string x.t] 26)).heap[w.heap.size]? = some (.cells #[.int .i64 0, .int .i64 0, .string ⟨#[]⟩] 26 (0, 0))) := Lib.hid ((Below.heap_alloc _ _ _ (by have := hb2.size; omega)).trans ((hb2.block w.heap.size (by omega)).trans HM0.out))
      have HB2 : Hid (Below w.heap.size w (w2.alloc (.cells #[.int .i64 x.k, .int .i64 x.n, .string x.t] 26))) := Lib.hid ((into HB.out hb2).alloc (into HB.out hb2).size _)
      have hz2 := hb2.size
      have y0 := cell_blz ((Below.refl w2.heap.size w2).alloc (Nat.le_refl _) (.cells #[.int .i64 x.k, .int .i64 x.n, .string x.t] 26)) (cell_blz hb2 HO0.out)
      clear hb2
      go_wp2_with fail
      refine (HCB.out _ HB2.out).mono ?_
      rintro e w3 ⟨rfl, hb3⟩
      have hz3 := hb3.size
      rw [World.size_alloc] at hz3
      have HM3 := Lib.hid ((hb3.block w.heap.size (by rw [World.size_alloc]; omega)).trans HM2.out)
      have HB3 := Lib.hid (into HB2.out hb3)
      have ha3 := (hb3.block w2.heap.size (by rw [World.size_alloc]; omega)).trans (new0 w2 (.cells #[.int .i64 x.k, .int .i64 x.n, .string x.t] 26))
      obtain ⟨a0, a1, a2, -, -, -⟩ := box3 ((Below.heap_alloc w3 (.cells #[.int .i64 y.k, .int .i64 y.n, .string y.t] 26) _ (by omega)).trans ha3)
      have y1 := cell_blz ((Below.refl w3.heap.size w3).alloc (Nat.le_refl _) (.cells #[.int .i64 y.k, .int .i64 y.n, .string y.t] 26)) (cell_blz hb3 y0)
      clear hb3 y0 ha3
      go_wp2_with fail
      refine (HTW.out _).mono ?_
      rintro e w4 ⟨rfl, hb4⟩
      have B4 : Below w3.heap.size w3 w4 := into ((Below.refl _ _).alloc (Nat.le_refl _) _) hb4
      have HM4 : Hid ((w4.alloc (.cells #[.int .i64 z.k, .int .i64 z.n, .string z.t] 26)).heap[w.heap.size]? = some (.cells #[.int .i64 0, .int .i64 0, .string ⟨#[]⟩] 26 (0, 0))) := Lib.hid ((Below.heap_alloc _ _ _ (by have := B4.size; omega)).trans ((B4.block w.heap.size (by omega)).trans HM3.out))
      have HB4 : Hid (Below w.heap.size w (w4.alloc (.cells #[.int .i64 z.k, .int .i64 z.n, .string z.t] 26))) := Lib.hid ((into HB3.out B4).alloc (into HB3.out B4).size _)
      clear hb4 B4
      obtain ⟨x0, x1, x2, f0, f3, f4⟩ := box3 HM4.out
      obtain ⟨v0, v1, v2⟩ := st3c HM4.out (.int .i64 z.k) (.int .i64 z.n) (.string z.t)
      have s3 := st3 HB4.out HM4.out (.int .i64 z.k) (.int .i64 z.n) (.string z.t)
      go_wp2_with fail
      (try simp only [Exit.inBlock, Exit.then])
      refine bodyPost_ret (by simp [results, Tryz.results19, go_sem, v0, v1, v2]; try rfl) rfl ?_
      rw [HE.out]
      exact ⟨rfl, s3.1⟩
    · have b1 : (S1 == 0) = false := by simpa using h2
      have b2 : (S1 != 0) = true := by simpa using h2
      have hy := hbad2 h2
      subst hy
      have HE : Hid (evT (lfV l rs) onV twV (.bi ⟨k, ⟨vk, vn, vt⟩, t⟩ a c) = (S1, nul)) := Lib.hid (by rw [HEV.out, if_neg (by simp), if_pos h2])
      clear h2 hbad2
      go_enter Tryz.func19, Tryz.ntmps19
      go_wp2_with fail
      refine (HWK.out _).mono ?_
      rintro e w1 ⟨rfl, rfl⟩
      rw [← HW0.out]
      go_wp2_with fail
      refine HBG.out.mono ?_
      rintro e w1 ⟨rfl, rfl⟩
      go_wp2_with fail
      refine HCA.out.mono ?_
      rintro e w2 ⟨rfl, hb2⟩
      have HM2 : Hid ((w2.alloc (.cells #[.int .i64 x.k, .int .i64 x.n, .string x.t] 26)).heap[w.heap.size]? = some (.cells #[.int .i64 0, .int .i64 0, .string ⟨#[]⟩] 26 (0, 0))) := Lib.hid ((Below.heap_alloc _ _ _ (by have := hb2.size; omega)).trans ((hb2.block w.heap.size (by omega)).trans HM0.out))
      have HB2 : Hid (Below w.heap.size w (w2.alloc (.cells #[.int .i64 x.k, .int .i64 x.n, .string x.t] 26))) := Lib.hid ((into HB.out hb2).alloc (into HB.out hb2).size _)
      have hz2 := hb2.size
      have y0 := cell_blz ((Below.refl w2.heap.size w2).alloc (Nat.le_refl _) (.cells #[.int .i64 x.k, .int .i64 x.n, .string x.t] 26)) (cell_blz hb2 HO0.out)
      clear hb2
      go_wp2_with fail
      refine (HCB.out _ HB2.out).mono ?_
      rintro e w3 ⟨rfl, hb3⟩
      have HM4 : Hid ((w3.alloc (.cells #[.int .i64 nul.k, .int .i64 nul.n, .string nul.t] 26)).heap[w.heap.size]? = some (.cells #[.int .i64 0, .int .i64 0, .string ⟨#[]⟩] 26 (0, 0))) := Lib.hid ((Below.heap_alloc _ _ _ (by have := hb3.size; rw [World.size_alloc] at this; omega)).trans ((hb3.block w.heap.size (by rw [World.size_alloc]; omega)).trans HM2.out))
      have HB4 : Hid (Below w.heap.size w (w3.alloc (.cells #[.int .i64 nul.k, .int .i64 nul.n, .string nul.t] 26))) := Lib.hid ((into HB2.out hb3).alloc (into HB2.out hb3).size _)
      clear hb3
      obtain ⟨x0, x1, x2, f0, f3, f4⟩ := box3 HM4.out
      obtain ⟨v0, v1, v2⟩ := st3c HM4.out (.int .i64 0) (.int .i64 0) (.string ⟨#[]⟩)
      have s3 := st3 HB4.out HM4.out (.int .i64 0) (.int .i64 0) (.string ⟨#[]⟩)
      go_wp2_with fail
      (try simp only [Exit.inBlock, Exit.then])
      refine bodyPost_ret (by simp [results, Tryz.results19, go_sem, v0, v1, v2]; try rfl) rfl ?_
      rw [HE.out]
      exact ⟨rfl, s3.1⟩
  · have b1 : (R1 == 0) = false := by simpa using h1
    have b2 : (R1 != 0) = true := by simpa using h1
    have hx := hbad h1
    subst hx
    have HE : Hid (evT (lfV l rs) onV twV (.bi ⟨k, ⟨vk, vn, vt⟩, t⟩ a c) = (R1, nul)) := Lib.hid (by rw [HEV.out, if_pos h1])
    clear h1 hbad hbad2
    go_enter Tryz.func19, Tryz.ntmps19
    go_wp2_with fail
    refine (HWK.out _).mono ?_
    rintro e w1 ⟨rfl, rfl⟩
    rw [← HW0.out]
    go_wp2_with fail
    refine HBG.out.mono ?_
    rintro e w1 ⟨rfl, rfl⟩
    go_wp2_with fail
    refine HCA.out.mono ?_
    rintro e w2 ⟨rfl, hb2⟩
    have HM4 : Hid ((w2.alloc (.cells #[.int .i64 nul.k, .int .i64 nul.n, .string nul.t] 26)).heap[w.heap.size]? = some (.cells #[.int .i64 0, .int .i64 0, .string ⟨#[]⟩] 26 (0, 0))) := Lib.hid ((Below.heap_alloc _ _ _ (by have := hb2.size; omega)).trans ((hb2.block w.heap.size (by omega)).trans HM0.out))
    have HB4 : Hid (Below w.heap.size w (w2.alloc (.cells #[.int .i64 nul.k, .int .i64 nul.n, .string nul.t] 26))) := Lib.hid ((into HB.out hb2).alloc (into HB.out hb2).size _)
    clear hb2
    obtain ⟨x0, x1, x2, f0, f3, f4⟩ := box3 HM4.out
    obtain ⟨v0, v1, v2⟩ := st3c HM4.out (.int .i64 0) (.int .i64 0) (.string ⟨#[]⟩)
    have s3 := st3 HB4.out HM4.out (.int .i64 0) (.int .i64 0) (.string ⟨#[]⟩)
    go_wp2_with fail
    (try simp only [Exit.inBlock, Exit.then])
    refine bodyPost_ret (by simp [results, Tryz.results19, go_sem, v0, v1, v2]; try rfl) rfl ?_
    rw [HE.out]
    exact ⟨rfl, s3.1⟩
end Go.Proofs.YtjnfhhmhbeobbaaGreatDoor
/- What a row lacks: the document. -/
namespace Go.Proofs.YtjnfhhmhbeobbaaGreatDoor
open Go.ChangeShapes Go.WideShapes Go.ChangeAt Go.RowKit
set_option linter.unusedVariables false
set_option linter.unusedSimpArgs false
set_option maxHeartbeats 4000000
set_option maxRecDepth 100000
theorem rowFault_any (w : World) (n m : Nat) (v u : Value) (l : List Cq) (r : List V) (hr : Rd w 2 n v (ccs l)) (hs : ∀ c ∈ l, c.t.size ≤ maxLen) (hu : Rd w 3 m u (vc r)) :
    Calls Tryz.prog 17 #[v, u] w fun e w' => e = .returned (.int .i64 (rowF l r)) ∧ Below w.heap.size w w' := by
  have hnl := len_c hr
  have hml := len_v hu
  have hmax := hu.len
  have hmax2 := hr.len
  unfold maxLen at hmax hmax2
  obtain ⟨ao, cap, rfl⟩ : ∃ ao cap, v = .slice ao n cap := by
    obtain ⟨_, ao, cap, h, _⟩ := id hr
    exact ⟨ao, cap, h⟩
  obtain ⟨bo, cbp, rfl⟩ : ∃ ao cap, u = .slice ao m cap := by
    obtain ⟨_, ao, cap, h, _⟩ := id hu
    exact ⟨ao, cap, h⟩
  have hc := colsFault_any w n _ l hr hs
  have hF : rowF l r = if colsF l ≠ 0 then colsF l else if m ≠ n then 1 else rvF 0 l r := by unfold rowF; rw [← hnl, ← hml]
  obtain ⟨q, hq⟩ : ∃ q, q = colsF l := ⟨_, rfl⟩
  have HQ := Lib.hid hq
  rw [← hq] at hc hF
  have HC := Lib.hid hc
  have HF := Lib.hid hF
  clear hc hF hq
  by_cases hq0 : q = 0
  · subst hq0
    by_cases hmn : m = n
    · subst hmn
      obtain ⟨hok, hn1, hn6⟩ := colsF_ok HQ.out.symm
      have HG : Hid (rowF l r = rvF 0 l r) := by show _ = _; rw [HF.out]; simp
      obtain ⟨b, o, cap', hv, _, _, hbw, hcell⟩ := cols_of hr (by omega)
      obtain ⟨_, b', o', cbp', hv', _, _, hbw', hcell'⟩ := vals_of hu (by omega)
      simp only [Value.slice.injEq] at hv hv'
      obtain ⟨rfl, -, rfl⟩ := hv
      obtain ⟨rfl, -, rfl⟩ := hv'
      have HC1 := Lib.hid hcell
      have HC2 := Lib.hid hcell'
      have HN := Lib.hid hnl
      have HM := Lib.hid hml
      have HOK := Lib.hid hok
      clear hcell hcell' hnl hml hok hr hu hs HF HQ hn1 hn6
      go_enter Tryz.func17, Tryz.ntmps17
      go_wp2_with fail
      refine HC.out.mono ?_
      rintro e w1 ⟨rfl, hb1⟩
      have HB1 := Lib.hid hb1
      clear hb1
      go_wp2_with fail
      go_loopw [5, 6] (fun e i wr => ∃ (k : Nat) (q : Int), k ≤ m ∧ i = .int .i64 (k : Int) ∧ e = .int .i64 q ∧ Hid (q = 0 → rvF 0 l r = rvF k (l.drop k) (r.drop k)) ∧ Hid (q ≠ 0 → rvF 0 l r = q) ∧ Hid (Below w.heap.size w wr)) (fun _ i _ => m - (intOf i).toNat)
      case atStart => exact ⟨0, 0, by omega, rfl, rfl, fun _ => rfl, fun h => absurd rfl h, HB1.out⟩
      case round =>
        obtain ⟨k, q, hk, rfl, rfl, HE, HE2, HB⟩ := hrel
        by_cases hq0 : q = 0
        · subst hq0
          by_cases hlt : k < m
          · obtain ⟨g0, g1⟩ := HC1.out k hlt
            obtain ⟨d0, d1, d2⟩ := HC2.out k hlt
            have c1 := (HB.out.cell (p := ⟨b, o + k * 2 + 1, none⟩) hbw).trans g1
            have e0 := (HB.out.cell (p := ⟨b', o' + k * 3, none⟩) hbw').trans d0
            have e1 := (HB.out.cell (p := ⟨b', o' + k * 3 + 1, none⟩) hbw').trans d1
            have e2 := (HB.out.cell (p := ⟨b', o' + k * 3 + 2, none⟩) hbw').trans d2
            have hll : k < l.length := by rw [← HN.out]; exact hlt
            have hrl : k < r.length := by rw [← HM.out]; exact hlt
            have hE : rvF k (l.drop k) (r.drop k) = if chk (r.getD k nul).k (r.getD k nul).n (r.getD k nul).t ≠ 0 then chk (r.getD k nul).k (r.getD k nul).n (r.getD k nul).t else if ((r.getD k nul).k ≠ (l.getD k ncq).k ∧ (r.getD k nul).k ≠ 0) ∨ (k = 0 ∧ (r.getD k nul).k = 0) then 4 else rvF (k + 1) (l.drop (k + 1)) (r.drop (k + 1)) := by
              rw [cdrop_cons hll, vdrop_cons hrl]
              rfl
            have hco := HOK.out _ (cgetD_mem hll)
            obtain ⟨x, hx⟩ : ∃ x, x = r.getD k nul := ⟨_, rfl⟩
            obtain ⟨ck, hck⟩ : ∃ ck, ck = (l.getD k ncq).k := ⟨_, rfl⟩
            rw [← hx] at e0 e1 e2 hE
            rw [← hck] at c1 hE hco
            obtain ⟨xk, xn, xt⟩ := x
            simp only at e0 e1 e2 hE
            have hch := vf_any xk xn xt wr
            obtain ⟨z, hz⟩ : ∃ z, z = chk xk xn xt := ⟨_, rfl⟩
            rw [← hz] at hch hE
            have HCH := Lib.hid hch
            have HEQ := Lib.hid hE
            have hk1 : 1 ≤ ck := hco.2.1
            clear hch hE hx hck hz hll hrl hco g0 g1 d0 d1 d2
            go_wp2_with fail
            refine HCH.out.mono ?_
            rintro e w2 ⟨rfl, hb2⟩
            have f1 := cell_blz hb2 c1
            have y0 := cell_blz hb2 e0
            have HB2 := Lib.hid (into HB.out hb2)
            clear hb2 c1 e0 e1 e2
            by_cases hz0 : z = 0
            · subst hz0
              obtain ⟨y, hy⟩ : ∃ y, y = (!(xk == ck) && !(decide (0 < k) && (xk == 0))) := ⟨_, rfl⟩
              have HYY : Hid (rvF 0 l r = if y = true then 4 else rvF (k + 1) (l.drop (k + 1)) (r.drop (k + 1))) := by
                show _ = _
                rw [HE.out trivial, HEQ.out, if_neg (by simp), hy]
                have e3 : ((xk ≠ ck ∧ xk ≠ 0) ∨ (k = 0 ∧ xk = 0)) ↔ (!(xk == ck) && !(decide (0 < k) && (xk == 0))) = true := by
                  simp
                  omega
                simp only [e3]
              have hcases : (xk = ck ∧ y = false) ∨ (¬ xk = ck ∧ 0 < k ∧ xk = 0 ∧ y = false) ∨ (¬ xk = ck ∧ 0 < k ∧ ¬ xk = 0 ∧ y = true) ∨ (¬ xk = ck ∧ k = 0 ∧ y = true) := by
                rw [hy]
                by_cases c1 : xk = ck
                · exact .inl ⟨c1, by simp [c1]⟩
                · by_cases c3 : 0 < k
                  · by_cases c2 : xk = 0
                    · exact .inr (.inl ⟨c1, c3, c2, by simp [c3, c2]⟩)
                    · exact .inr (.inr (.inl ⟨c1, c3, c2, by simp [c1, c2]⟩))
                  · exact .inr (.inr (.inr ⟨c1, by omega, by simp [c1, c3]⟩))
              clear hy HEQ HE HE2
              have hkc : (k : Int) < (m : Int) := by omega
              rcases hcases with ⟨rfl, rfl⟩ | ⟨h1, h3, rfl, rfl⟩ | ⟨h1, h3, h4, rfl⟩ | ⟨h1, rfl, rfl⟩
              · go_wp2_with fail
                go_quiet (fail)
                go_wp2_with fail
                go_roundw
                case rel => exact ⟨k + 1, 0, by omega, by go_num, rfl, fun _ => by rw [HYY.out]; rfl, fun h => absurd rfl h, HB2.out.trans ((below_drewN _ _).mono HB2.out.size)⟩
                case measure => (simp [intOf]) <;> omega
              · have hne : ((0 : Int) != ck) = true := by simp; omega
                have h30 : (0 : Int) < (k : Int) := by omega
                clear h1
                go_wp2_with fail
                go_quiet (fail)
                go_wp2_with fail
                go_roundw
                case rel => exact ⟨k + 1, 0, by omega, by go_num, rfl, fun _ => by rw [HYY.out]; rfl, fun h => absurd rfl h, HB2.out.trans ((below_drewN _ _).mono HB2.out.size)⟩
                case measure => (simp [intOf]) <;> omega
              · have hne : (xk != ck) = true := by simpa using h1
                have h30 : (0 : Int) < (k : Int) := by omega
                have hxz : (xk == 0) = false := by simpa using h4
                clear h1 h4
                go_wp2_with fail
                go_quiet (fail)
                go_wp2_with fail
                go_roundw
                case rel => exact ⟨k + 1, 4, by omega, by go_num, rfl, fun h => absurd h (by omega), fun _ => by rw [HYY.out]; rfl, HB2.out.trans ((below_drewN _ _).mono HB2.out.size)⟩
                case measure => (simp [intOf]) <;> omega
              · have hne : (xk != ck) = true := by simpa using h1
                simp only [Nat.zero_mul, Nat.add_zero] at f1 y0
                have hm0 : (0 : Int) < (m : Int) := by omega
                clear h1 hkc
                go_wp2_with fail
                go_quiet (fail)
                go_wp2_with fail
                go_roundw
                case rel => exact ⟨0 + 1, 4, by omega, by go_num, rfl, fun h => absurd h (by omega), fun _ => by rw [HYY.out]; rfl, HB2.out.trans ((below_drewN _ _).mono HB2.out.size)⟩
                case measure => (simp [intOf]) <;> omega
            · have hz0' : (z == 0) = false := by simpa using hz0
              have HZZ : Hid (rvF 0 l r = z) := by show _ = _; rw [HE.out trivial, HEQ.out, if_pos hz0]
              clear HEQ HE HE2
              go_wp2_with fail
              go_quiet (fail)
              go_wp2_with fail
              go_roundw
              case rel => exact ⟨k + 1, z, by omega, by go_num, rfl, fun h => absurd h hz0, fun _ => HZZ.out, HB2.out.trans ((below_drewN _ _).mono HB2.out.size)⟩
              case measure => (simp [intOf]) <;> omega
          · obtain rfl : k = m := by omega
            have HZ : Hid (rowF l r = 0) := by
              show _ = _
              rw [HG.out, HE.out rfl, List.drop_eq_nil_of_le (by rw [← HN.out]; exact Nat.le_refl _)]
              rfl
            go_wp2_with fail
            go_ret
            exact ⟨ri HZ.out.symm, HB.out⟩
        · have hq1 : (q == 0) = false := by simpa using hq0
          have HZ : Hid (rowF l r = q) := by show _ = _; rw [HG.out, HE2.out hq0]
          by_cases hlt : k < m
          all_goals (
            go_wp2_with fail
            go_ret
            exact ⟨ri HZ.out.symm, HB.out⟩)
    · have hmn2 : ¬ (m : Int) = (n : Int) := by omega
      have hmn' : ((m : Int) == (n : Int)) = false := by simpa using hmn2
      have HG : Hid (rowF l r = 1) := by show _ = _; rw [HF.out]; simp [hmn]
      clear HF hnl hml hr hu hs
      go_enter Tryz.func17, Tryz.ntmps17
      go_wp2_with fail
      refine HC.out.mono ?_
      rintro e w1 ⟨rfl, hb1⟩
      have HB1 := Lib.hid hb1
      clear hb1
      go_wp2_with fail
      go_rounds 1
      all_goals (go_ret; exact ⟨ri HG.out.symm, HB1.out⟩)
  · have hq0' : (q == 0) = false := by simpa using hq0
    have HG : Hid (rowF l r = q) := by show _ = _; rw [HF.out, if_pos hq0]
    clear HF hnl hml hr hu hs
    go_enter Tryz.func17, Tryz.ntmps17
    go_wp2_with fail
    refine HC.out.mono ?_
    rintro e w1 ⟨rfl, hb1⟩
    have HB1 := Lib.hid hb1
    clear hb1
    go_wp2_with fail
    go_rounds 1
    all_goals (go_ret; exact ⟨ri HG.out.symm, HB1.out⟩)
end Go.Proofs.YtjnfhhmhbeobbaaGreatDoor
/- What an expression makes of a row: the document, whole. -/
namespace Go.Proofs.YtjnfhhmhbeobbaaGreatDoor
open Go.ChangeShapes Go.WideShapes Go.ChangeAt Go.RowKit
set_option linter.unusedVariables false
set_option linter.unusedSimpArgs false
set_option maxHeartbeats 4000000
set_option maxRecDepth 100000
theorem join_bad (a b : V) (d : Int) (h : (join a b d).2 ≠ 0) : (join a b d).1 = nul := by
  unfold join at *
  split at h
  · next h1 => rw [if_pos h1]
  · next h1 =>
    rw [if_neg h1]
    split at h
    · exact absurd rfl h
    · next h2 =>
      rw [if_neg h2]
      split at h
      · exact absurd rfl h
      · next h3 =>
        rw [if_neg h3]
        split at h
        · exact absurd rfl h
        · exact absurd rfl h
theorem hold_bad (k : Int) (a b : V) (h : (hold k a b).2 ≠ 0) : (hold k a b).1 = nul := by
  unfold hold at *
  split at h
  · exact absurd rfl h
  · next h1 =>
    rw [if_neg h1]
    split at h
    · next h2 => rw [if_pos h2]
    · split at h
      · exact absurd rfl h
      · exact absurd rfl h
theorem reck_bad (k : Int) (a b : V) (h : (reck k a b).2 ≠ 0) : (reck k a b).1 = nul := by
  unfold reck at *
  split at h
  · next h1 => rw [if_pos h1]
  · next h1 =>
    rw [if_neg h1]
    split at h
    · exact absurd rfl h
    · next h2 =>
      rw [if_neg h2]
      split at h
      · next h3 => rw [if_pos h3]
      · exact absurd rfl h
theorem twV_bad (k : Int) (a b : V) (h : (twV k a b).1 ≠ 0) : (twV k a b).2 = nul := by
  show (two k a b).1 = nul
  replace h : (two k a b).2 ≠ 0 := h
  unfold two at *
  split at h
  · next h1 => rw [if_pos h1]
  · next h1 =>
    rw [if_neg h1]
    split at h
    · next h2 => rw [if_pos h2]; exact join_bad _ _ _ h
    · next h2 =>
      rw [if_neg h2]
      split at h
      · next h2 => rw [if_pos h2]; exact join_bad _ _ _ h
      · next h2 =>
        rw [if_neg h2]
        split at h
        · next h2 => rw [if_pos h2]; exact hold_bad _ _ _ h
        · next h2 =>
          rw [if_neg h2]
          split at h
          · next h2 => rw [if_pos h2]; exact hold_bad _ _ _ h
          · next h2 =>
            rw [if_neg h2]
            split at h
            · next h2 => rw [if_pos h2]; exact reck_bad _ _ _ h
            · next h2 =>
              rw [if_neg h2]
              split at h
              · next h2 => rw [if_pos h2]; exact reck_bad _ _ _ h
              · next h2 =>
                rw [if_neg h2]
                split at h
                · next h2 => rw [if_pos h2]; exact reck_bad _ _ _ h
                · next h2 => rw [if_neg h2]
theorem evV_bad (l : List Cq) (rs : List V) : ∀ t : Tx, (evT (lfV l rs) onV twV t).1 ≠ 0 → (evT (lfV l rs) onV twV t).2 = nul
  | .leaf o, h => absurd rfl h
  | .un o a, h => by
    by_cases h1 : (evT (lfV l rs) onV twV a).1 = 0
    · rw [ev_un _ _ _ h1] at h ⊢; exact onV_bad _ _ h
    · rw [ev_un_bad _ _ _ h1] at h ⊢; exact evV_bad l rs a h
  | .bi o a b, h => by
    by_cases h1 : (evT (lfV l rs) onV twV a).1 = 0
    · by_cases h2 : (evT (lfV l rs) onV twV b).1 = 0
      · rw [ev_bi _ _ _ h1 h2] at h ⊢; exact twV_bad _ _ _ h
      · rw [ev_bi_bad2 _ _ _ h1 h2] at h ⊢; exact evV_bad l rs b h
    · rw [ev_bi_bad _ _ _ h1] at h ⊢; exact evV_bad l rs a h
theorem rg_nul : Rng nul.n := by unfold Rng nul; decide
theorem rg_tru (b : Bool) : Rng (tru b).n := by cases b <;> (unfold Rng tru; decide)
theorem rg_one (k : Int) (a : V) (h : Rng a.n) : Rng (onV k a).2.n := by
  show Rng (one k a).1.n
  unfold one turn
  split
  · exact rg_nul
  · split
    · exact rg_tru _
    · split
      · split
        · exact rg_nul
        · split
          · exact rg_tru _
          · exact rg_nul
      · exact rg_nul
theorem rg_join (a b : V) (d : Int) (h : Rng a.n) (g : Rng b.n) : Rng (join a b d).1.n := by
  unfold join
  split
  · exact rg_nul
  · split
    · exact h
    · split
      · exact g
      · split
        · exact rg_nul
        · exact rg_tru _
theorem rg_hold (k : Int) (a b : V) : Rng (hold k a b).1.n := by
  unfold hold
  split
  · exact rg_nul
  · split
    · exact rg_nul
    · split
      · exact rg_tru _
      · exact rg_tru _
theorem rg_cpt (k a b : Int) : Rng (cpt k a b).1 := by
  unfold cpt tms
  split
  · exact wrap_rng _
  · split
    · exact wrap_rng _
    · split
      · show Rng 0; unfold Rng; decide
      · split <;> exact wrap_rng _
theorem rg_reck (k : Int) (a b : V) : Rng (reck k a b).1.n := by
  unfold reck
  split
  · exact rg_nul
  · split
    · exact rg_nul
    · split
      · exact rg_nul
      · exact rg_cpt _ _ _
theorem rg_two (k : Int) (a b : V) (h : Rng a.n) (g : Rng b.n) : Rng (twV k a b).2.n := by
  show Rng (two k a b).1.n
  unfold two
  split
  · exact rg_nul
  · split
    · exact rg_join _ _ _ h g
    · split
      · exact rg_join _ _ _ h g
      · split
        · exact rg_hold _ _ _
        · split
          · exact rg_hold _ _ _
          · split
            · exact rg_reck _ _ _
            · split
              · exact rg_reck _ _ _
              · split
                · exact rg_reck _ _ _
                · exact rg_nul
/-- What each leaf of an expression must be: a literal, or a column's name that is found. -/
def LfOk (l : List Cq) (rs : List V) (o : Oq) : Prop := Rng (lfV l rs o).2.n ∧ (o.k = 1 ∨ ∃ j : Nat, plI l o.t = (j : Int) ∧ j < rs.length)
theorem evV_rng (l : List Cq) (rs : List V) : ∀ t : Tx, t.ok → (∀ o ∈ t.flat, wks o.k = 0 → LfOk l rs o) → Rng (evT (lfV l rs) onV twV t).2.n
  | .leaf o, ht, h => (h o (by simp [Tx.flat]) ht.1).1
  | .un o a, ht, h => by
    have ha := evV_rng l rs a ht.2.2 fun x hx => h x (by simp [Tx.flat, hx])
    by_cases h1 : (evT (lfV l rs) onV twV a).1 = 0
    · rw [ev_un _ _ _ h1]; exact rg_one _ _ ha
    · rw [ev_un_bad _ _ _ h1]; exact ha
  | .bi o a b, ht, h => by
    have ha := evV_rng l rs a ht.2.2.1 fun x hx => h x (by simp [Tx.flat, hx])
    have hb := evV_rng l rs b ht.2.2.2 fun x hx => h x (by simp [Tx.flat, hx])
    by_cases h1 : (evT (lfV l rs) onV twV a).1 = 0
    · by_cases h2 : (evT (lfV l rs) onV twV b).1 = 0
      · rw [ev_bi _ _ _ h1 h2]; exact rg_two _ _ _ ha hb
      · rw [ev_bi_bad2 _ _ _ h1 h2]; exact hb
    · rw [ev_bi_bad _ _ _ h1]; exact ha
theorem ed_leaf (w : World) (n q : Nat) (v r u : Value) (l : List Cq) (rs : List V) (o : Oq) (ho : (Tx.leaf o).ok) (hin : o.k = 1 ∨ ∃ j : Nat, plI l o.t = (j : Int) ∧ j < rs.length) (hv : Rd w 2 n v (ccs l)) (hr : Rd w 3 q r (vc rs)) (hu : Rd w 5 1 u (ocs [o])) :
    Calls Tryz.prog 19 #[v, r, u] w (ValIs (lfV l rs o) w) := by
  obtain ⟨b, p, cap, rfl, _, hcm, hbw, hcell⟩ := ops_of hu (by omega)
  obtain ⟨g0, g1, g2, g3, g4⟩ := hcell 0 (by omega)
  simp only [Nat.zero_mul, Nat.add_zero, List.getD_cons_zero] at g0 g1 g2 g3 g4
  obtain ⟨k, ⟨vk, vn, vt⟩, t⟩ := o
  simp only at g0 g1 g2 g3 g4
  have hb : Below w.heap.size w ((w.alloc (.cells #[.int .i64 0, .int .i64 0, .string ⟨#[]⟩] 26)).alloc (.cells #[.int .i64 k, .int .i64 vk, .int .i64 vn, .string vt, .string t] 39)) := ((Below.refl _ _).alloc (Nat.le_refl _) _).alloc (by simp) _
  have HB := Lib.hid hb
  have HM0 : Hid (((w.alloc (.cells #[.int .i64 0, .int .i64 0, .string ⟨#[]⟩] 26)).alloc (.cells #[.int .i64 k, .int .i64 vk, .int .i64 vn, .string vt, .string t] 39)).heap[w.heap.size]? = some (.cells #[.int .i64 0, .int .i64 0, .string ⟨#[]⟩] 26 (0, 0))) := Lib.hid ((Below.heap_alloc _ _ _ (by simp)).trans (new0 w _))
  by_cases h1 : k = 1
  · subst h1
    clear hcell hb hv hr hin
    go_enter Tryz.func19, Tryz.ntmps19
    go_wp2_with fail
    go_returns
    exact ⟨rfl, ((Below.refl _ _).alloc (Nat.le_refl _) _).alloc (by simp) _⟩
  · have hk2 : k = 2 := by rcases wks_0 ho.1 with h | h; exact absurd h h1; exact h
    subst hk2
    obtain ⟨j, hj, hjr⟩ : ∃ j : Nat, plI l t = (j : Int) ∧ j < rs.length := by
      rcases hin with h | h
      · exact absurd h h1
      · exact h
    have HP := Lib.hid (fun (W : World) (h : Below w.heap.size w W) => colOf_any W n v l t (hv.below h))
    rw [hj] at HP
    have HF : Hid (lfV l rs ⟨2, ⟨vk, vn, vt⟩, t⟩ = (0, rs.getD j nul)) := by
      show _ = _
      unfold lfV
      simp [hj]
    obtain ⟨hrl, b', o', cap', rfl, _, _, hbw', hcell'⟩ := vals_of hr (by have := len_v hr; omega)
    obtain ⟨c0, c1, c2⟩ := hcell' j (by omega)
    obtain ⟨x, hxx⟩ : ∃ x, x = rs.getD j nul := ⟨_, rfl⟩
    rw [← hxx] at c0 c1 c2 HF
    have i0 : (0 : Int) ≤ (j : Int) := by omega
    have i1 : (j : Int) < (q : Int) := by omega
    clear hcell hcell' hb hv hr hin hj hjr hrl hxx
    go_enter Tryz.func19, Tryz.ntmps19
    go_wp2_with fail
    refine (HP.out _ HB.out).mono ?_
    rintro e w1 ⟨rfl, hb1⟩
    have HB1 := Lib.hid (into HB.out hb1)
    have HM1 := Lib.hid ((hb1.block w.heap.size (by simp; omega)).trans HM0.out)
    clear hb1
    have d0 := cell_blz HB1.out c0
    have d1 := cell_blz HB1.out c1
    have d2 := cell_blz HB1.out c2
    obtain ⟨x0, x1, x2, f0, f1, f2⟩ := box3 HM1.out
    obtain ⟨v0, v1, v2⟩ := st3c HM1.out (.int .i64 x.k) (.int .i64 x.n) (.string x.t)
    have s3 := st3 HB1.out HM1.out (.int .i64 x.k) (.int .i64 x.n) (.string x.t)
    go_wp2_with fail
    (try simp only [Exit.inBlock, Exit.then])
    refine bodyPost_ret (by simp [results, Tryz.results19, go_sem, v0, v1, v2]; try rfl) rfl ?_
    rw [HF.out]
    exact ⟨rfl, s3.1⟩
theorem ed_any : ∀ (t : Tx), t.ok → t.flat.length ≤ 1000 → ∀ (w : World) (n q : Nat) (v r u : Value) (l : List Cq) (rs : List V), (∀ o ∈ t.flat, wks o.k = 0 → LfOk l rs o) → Rd w 2 n v (ccs l) → Rd w 3 q r (vc rs) → Rd w 5 t.flat.length u (ocs t.flat) →
    Calls Tryz.prog 19 #[v, r, u] w (ValIs (evT (lfV l rs) onV twV t) w)
  | .leaf o, ht, _, w, n, q, v, r, u, l, rs, hl, hv, hr, hu => ed_leaf w n q v r u l rs o ht (hl o (by simp [Tx.flat]) ht.1).2 hv hr hu
  | .un o a, ht, hm, w, n, q, v, r, u, l, rs, hl, hv, hr, hu => by
    have hll : (Tx.un o a).flat.length = a.flat.length + 1 := by simp [Tx.flat]
    rw [hll] at hm hu
    have ha : ∀ x ∈ a.flat, wks x.k = 0 → LfOk l rs x := fun x hx => hl x (by simp [Tx.flat, hx])
    exact ed_un w n (a.flat.length + 1) q v r u l rs o a ht.1 rfl hm hu (evV_bad l rs a) fun W u' hW hu' => ed_any a ht.2.2 (by omega) W n q v r u' l rs ha (hv.below hW) (hr.below hW) hu'
  | .bi o a b, ht, hm, w, n, q, v, r, u, l, rs, hl, hv, hr, hu => by
    have hll : (Tx.bi o a b).flat.length = a.flat.length + b.flat.length + 1 := by simp [Tx.flat]; omega
    rw [hll] at hm hu
    have ha : ∀ x ∈ a.flat, wks x.k = 0 → LfOk l rs x := fun x hx => hl x (by simp [Tx.flat, hx])
    have hb : ∀ x ∈ b.flat, wks x.k = 0 → LfOk l rs x := fun x hx => hl x (by simp [Tx.flat, hx])
    exact ed_bi w n (a.flat.length + b.flat.length + 1) q v r u l rs o a b ht.1 ht.2.2.2 rfl hm hu (evV_bad l rs a) (evV_bad l rs b) (evV_rng l rs a ht.2.2.1 ha) (evV_rng l rs b ht.2.2.2 hb) (fun W u' hW hu' => ed_any a ht.2.2.1 (by omega) W n q v r u' l rs ha (hv.below hW) (hr.below hW) hu') fun W u' hW hu' => ed_any b ht.2.2.2 (by omega) W n q v r u' l rs hb (hv.below hW) (hr.below hW) hu'
theorem dEvalOf_any (w : World) (n q m : Nat) (v r u : Value) (l : List Cq) (rs : List V) (ops : List Oq) (hv : Rd w 2 n v (ccs l)) (hs : ∀ c ∈ l, c.t.size ≤ maxLen) (hr : Rd w 3 q r (vc rs)) (hrr : ∀ x ∈ rs, Rng x.n) (hu : Rd w 5 m u (ocs ops)) (hos : ∀ o ∈ ops, Rng o.v.n ∧ o.t.size ≤ maxLen) :
    Calls Tryz.prog 8 #[v, r, u] w (ValIs (evalF l rs ops) w) := by
  have hb : Below w.heap.size w (w.alloc (.cells #[.int .i64 0, .int .i64 0, .string ⟨#[]⟩] 26)) := (Below.refl _ _).alloc (Nat.le_refl _) _
  have HM0 := Lib.hid (new0 w (.cells #[.int .i64 0, .int .i64 0, .string ⟨#[]⟩] 26))
  have HRF := Lib.hid (rowFault_any _ n q v r l rs (hv.below hb) hs (hr.below hb))
  have HKD := Lib.hid (fun (W : World) (h : Below w.heap.size w W) => dKindOf_any W n m v u l ops (hv.below h) hs (hu.below h) fun o ho => (hos o ho).2)
  have hml := len_o hu
  have HED : Hid (rowF l rs = 0 → (kindF l ops).1 = 0 → ∀ W, Below w.heap.size w W → Calls Tryz.prog 19 #[v, r, u] W (ValIs ((rnF (lfV l rs) onV twV [] ops).1, if (rnF (lfV l rs) onV twV [] ops).1 ≠ 0 then nul else (rnF (lfV l rs) onV twV [] ops).2.headD nul) W)) := Lib.hid fun h3 h4 W hW => by
    obtain ⟨hl40, t, ht, rfl⟩ := expr_tree (kind_ok h4).1
    rw [hml] at hu
    have h := ed_any t ht (by omega) W n q v r u l rs (fun o ho hw => by
      have hin := leaf_in h3 h4 ho hw
      refine ⟨?_, hin⟩
      show Rng (if o.k = 1 then o.v else rs.getD (plI l o.t).toNat nul).n
      split
      · exact (hos o ho).1
      · next h1 =>
        rcases hin with h2 | ⟨j, h2, h5⟩
        · exact absurd h2 h1
        · rw [h2, Int.toNat_natCast, List.getD_eq_getElem?_getD, List.getElem?_eq_getElem h5]
          exact hrr _ (List.getElem_mem h5)) (hv.below hW) (hr.below hW) (hu.below hW)
    have e : ((rnF (lfV l rs) onV twV [] t.flat).1, if (rnF (lfV l rs) onV twV [] t.flat).1 ≠ 0 then nul else (rnF (lfV l rs) onV twV [] t.flat).2.headD nul) = evT (lfV l rs) onV twV t := by
      rw [rn_whole (lfV l rs) onV twV ht]
      by_cases h0 : (evT (lfV l rs) onV twV t).1 = 0
      · rw [if_neg (by simpa using h0)]
        exact Prod.ext h0.symm rfl
      · rw [if_pos h0]
        refine Prod.ext rfl ?_
        show (if (evT (lfV l rs) onV twV t).1 ≠ 0 then nul else _) = _
        rw [if_pos h0, evV_bad l rs t h0]
    rw [e]
    exact h
  have hF : evalF l rs ops = if rowF l rs ≠ 0 then (rowF l rs, nul) else if (kindF l ops).1 ≠ 0 then ((kindF l ops).1, nul) else ((rnF (lfV l rs) onV twV [] ops).1, if (rnF (lfV l rs) onV twV [] ops).1 ≠ 0 then nul else (rnF (lfV l rs) onV twV [] ops).2.headD nul) := rfl
  obtain ⟨y, hy⟩ : ∃ y, y = rowF l rs := ⟨_, rfl⟩
  obtain ⟨z, hz⟩ : ∃ z, z = kindF l ops := ⟨_, rfl⟩
  obtain ⟨g, hg⟩ : ∃ g, g = ((rnF (lfV l rs) onV twV [] ops).1, if (rnF (lfV l rs) onV twV [] ops).1 ≠ 0 then nul else (rnF (lfV l rs) onV twV [] ops).2.headD nul) := ⟨_, rfl⟩
  obtain ⟨z1, z2⟩ := z
  obtain ⟨f, g⟩ := g
  rw [← hy] at HRF HED hF
  rw [← hz] at HKD HED hF
  rw [← hg] at HED hF
  unfold ValIs at HED
  have HF := Lib.hid hF
  have HB := Lib.hid hb
  clear hF hy hz hg hv hs hr hrr hu hos hb hml
  by_cases hy0 : y = 0
  · subst hy0
    have ENT : True := trivial
    by_cases hz0 : z1 = 0
    · subst hz0
      have HZ : Hid (evalF l rs ops = (f, g)) := by show _ = _; rw [HF.out]; simp
      go_enter Tryz.func8, Tryz.ntmps8
      go_wp2_with fail
      refine HRF.out.mono ?_
      rintro e w1 ⟨rfl, hb1⟩
      have HM1 := Lib.hid ((hb1.block w.heap.size (by simp)).trans HM0.out)
      have HB1 := Lib.hid (into HB.out hb1)
      have hz1 := hb1.size
      rw [World.size_alloc] at hz1
      clear hb1
      go_wp2_with fail
      refine (HKD.out _ HB1.out).mono ?_
      rintro e w2 ⟨rfl, hb2⟩
      have HM2 := Lib.hid ((hb2.block w.heap.size (by omega)).trans HM1.out)
      have HB2 := Lib.hid (into HB1.out hb2)
      have hz2 := hb2.size
      clear hb2
      go_wp2_with fail
      refine (HED.out (by simp) (by simp) _ HB2.out).mono ?_
      rintro e w3 ⟨rfl, hb3⟩
      have hz3 := hb3.size
      have HM4 : Hid ((w3.alloc (.cells #[.int .i64 g.k, .int .i64 g.n, .string g.t] 26)).heap[w.heap.size]? = some (.cells #[.int .i64 0, .int .i64 0, .string ⟨#[]⟩] 26 (0, 0))) := Lib.hid ((Below.heap_alloc _ _ _ (by omega)).trans ((hb3.block w.heap.size (by omega)).trans HM2.out))
      have HB4 : Hid (Below w.heap.size w (w3.alloc (.cells #[.int .i64 g.k, .int .i64 g.n, .string g.t] 26))) := Lib.hid ((into HB2.out hb3).alloc (into HB2.out hb3).size _)
      clear hb3
      obtain ⟨x0, x1, x2, f0, f1, f2⟩ := box3 HM4.out
      obtain ⟨v0, v1, v2⟩ := st3c HM4.out (.int .i64 g.k) (.int .i64 g.n) (.string g.t)
      have s3 := st3 HB4.out HM4.out (.int .i64 g.k) (.int .i64 g.n) (.string g.t)
      go_wp2_with fail
      (try simp only [Exit.inBlock, Exit.then])
      refine bodyPost_ret (by simp [results, Tryz.results8, go_sem, v0, v1, v2]; try rfl) rfl ?_
      rw [HZ.out]
      exact ⟨rfl, s3.1⟩
    · have q0 : (z1 == 0) = false := by simpa using hz0
      have q1 : (z1 != 0) = true := by simpa using hz0
      have HZ : Hid (evalF l rs ops = (z1, nul)) := by show _ = _; rw [HF.out]; simp [hz0]
      clear hz0 HED
      go_enter Tryz.func8, Tryz.ntmps8
      go_wp2_with fail
      refine HRF.out.mono ?_
      rintro e w1 ⟨rfl, hb1⟩
      have HM1 := Lib.hid ((hb1.block w.heap.size (by simp)).trans HM0.out)
      have HB1 := Lib.hid (into HB.out hb1)
      have hz1 := hb1.size
      rw [World.size_alloc] at hz1
      clear hb1
      go_wp2_with fail
      refine (HKD.out _ HB1.out).mono ?_
      rintro e w2 ⟨rfl, hb2⟩
      have HM2 := Lib.hid ((hb2.block w.heap.size (by omega)).trans HM1.out)
      have HB2 := Lib.hid (into HB1.out hb2)
      clear hb2
      obtain ⟨x0, x1, x2, f0, f1, f2⟩ := box3 HM2.out
      obtain ⟨v0, v1, v2⟩ := st3c HM2.out (.int .i64 0) (.int .i64 0) (.string ⟨#[]⟩)
      have s3 := st3 HB2.out HM2.out (.int .i64 0) (.int .i64 0) (.string ⟨#[]⟩)
      go_wp2_with fail
      (try simp only [Exit.inBlock, Exit.then])
      refine bodyPost_ret (by simp [results, Tryz.results8, go_sem, v0, v1, v2]; try rfl) rfl ?_
      rw [HZ.out]
      exact ⟨rfl, s3.1⟩
  · have q0 : (y == 0) = false := by simpa using hy0
    have q1 : (y != 0) = true := by simpa using hy0
    have HZ : Hid (evalF l rs ops = (y, nul)) := by show _ = _; rw [HF.out]; simp [hy0]
    clear hy0 HED HKD
    go_enter Tryz.func8, Tryz.ntmps8
    go_wp2_with fail
    refine HRF.out.mono ?_
    rintro e w1 ⟨rfl, hb1⟩
    have HM1 := Lib.hid ((hb1.block w.heap.size (by simp)).trans HM0.out)
    have HB1 := Lib.hid (into HB.out hb1)
    clear hb1
    obtain ⟨x0, x1, x2, f0, f1, f2⟩ := box3 HM1.out
    obtain ⟨v0, v1, v2⟩ := st3c HM1.out (.int .i64 0) (.int .i64 0) (.string ⟨#[]⟩)
    have s3 := st3 HB1.out HM1.out (.int .i64 0) (.int .i64 0) (.string ⟨#[]⟩)
    go_wp2_with fail
    (try simp only [Exit.inBlock, Exit.then])
    refine bodyPost_ret (by simp [results, Tryz.results8, go_sem, v0, v1, v2]; try rfl) rfl ?_
    rw [HZ.out]
    exact ⟨rfl, s3.1⟩
end Go.Proofs.YtjnfhhmhbeobbaaGreatDoor
