/- Scan and Above at whatever tree that reads. -/
import Derived.Test.YtacpeibkamfibaaTy
import Derived.Test.YtacpeibkamfibaaHn
namespace Go.Proofs.Ytacpeibkamfibaa
open Go.ChangeShapes Go.WideShapes Go.ChangeAt Go.RowKit Go.Shelf
set_option linter.unusedVariables false
set_option linter.unusedSimpArgs false
set_option maxHeartbeats 2000000
set_option maxRecDepth 100000
def NilIs (c : Int) (w : World) (e : Ending) (w' : World) : Prop := e = .returned (.tuple #[.slice none 0 0, .int .i64 c]) ∧ Below w.heap.size w w'
def NoEnt (c : Int) (w : World) (e : Ending) (w' : World) : Prop := e = .returned (.tuple #[.agg #[.slice none 0 0, .int .i64 0], .int .i64 c]) ∧ Below w.heap.size w w'
theorem scan_bad (w : World) (ok : Nat → Prop) (hok : ∀ b, ok b → b < w.heap.size) (tv : Value) (ak a2 : Option Addr) (nk ck n2 c2 : Nat) (T : Tr) (ht : RT w ok tv T) (hs : Small T) (hb : ¬ (T.pages.length ≤ 4000 ∧ Pass T)) :
    Calls Try.prog 17 #[tv, .slice ak nk ck, .slice a2 n2 c2] w (NilIs 11 w) := by
  obtain ⟨ao, n, cap, rfl⟩ := rt_shape ht
  have hc := fun (W : World) (hB : Below w.heap.size w W) => check_any W ok (fun b hb' => by have := hok b hb'; have := hB.size; omega) _ T (ht.below hB) hs.1 hs.2
  unfold ChkIs at hc
  rw [chkT_no hb] at hc
  have HC := Lib.hid hc
  clear hc ht hs hb
  go_enter Try.func17, Try.ntmps17
  go_wp2_with fail
  refine (HC.out _ (by go_grown)).mono ?_
  rintro e w1 ⟨rfl, hb1⟩
  have HB := Lib.hid (into (by go_grown : Below w.heap.size w _) hb1)
  clear hb1
  go_wp2
  go_ret2
  exact ⟨rfl, HB.out⟩
theorem scan_size (w : World) (ok : Nat → Prop) (hok : ∀ b, ok b → b < w.heap.size) (tv : Value) (ak a2 : Option Addr) (nk ck n2 c2 : Nat) (T : Tr) (ht : RT w ok tv T) (hs : Small T) (hb : T.pages.length ≤ 4000 ∧ Pass T) (hk : 100 < nk ∨ 100 < n2) :
    Calls Try.prog 17 #[tv, .slice ak nk ck, .slice a2 n2 c2] w (NilIs 1 w) := by
  obtain ⟨ao, n, cap, rfl⟩ := rt_shape ht
  have hc := fun (W : World) (hB : Below w.heap.size w W) => check_any W ok (fun b hb' => by have := hok b hb'; have := hB.size; omega) _ T (ht.below hB) hs.1 hs.2
  unfold ChkIs at hc
  rw [chkT_yes hb.1 hb.2] at hc
  have HC := Lib.hid hc
  clear hc ht hs hb
  obtain ⟨W0, hW0⟩ : ∃ W0 : World, W0 = ((w.alloc (.cells #[.slice ao n cap, .int .i64 T.root] 24)).alloc (.cells #[.slice a2 n2 c2] 25)) := ⟨_, rfl⟩
  have hb0 : Below w.heap.size w W0 := by rw [hW0]; exact ((Below.refl _ _).alloc (Nat.le_refl _) _).alloc (by simp) _
  have hx2 : W0.heap[w.heap.size + 1]? = some (Obj.cells #[.slice a2 n2 c2] 25 (0, 0)) := by rw [hW0]; exact new_b2 w _ _
  have HW0 := Lib.hid hW0
  clear hW0
  by_cases h1 : (100 : Int) < (nk : Int)
  · go_enter Try.func17, Try.ntmps17
    go_wp2_with fail
    rw [← HW0.out]
    refine (HC.out _ hb0).mono ?_
    rintro e w1 ⟨rfl, hb1⟩
    have y2 := box1 ((hb1.block _ (Array.getElem?_eq_some_iff.1 hx2).1).trans hx2)
    have HB := Lib.hid (into hb0 hb1)
    clear hb1
    go_wp2
    go_ret2
    exact ⟨rfl, HB.out⟩
  · have h2 : (100 : Int) < (n2 : Int) := by omega
    go_enter Try.func17, Try.ntmps17
    go_wp2_with fail
    rw [← HW0.out]
    refine (HC.out _ hb0).mono ?_
    rintro e w1 ⟨rfl, hb1⟩
    have y2 := box1 ((hb1.block _ (Array.getElem?_eq_some_iff.1 hx2).1).trans hx2)
    have HB := Lib.hid (into hb0 hb1)
    clear hb1
    go_wp2
    go_ret2
    exact ⟨rfl, HB.out⟩
theorem scan_ok (w : World) (ok ok' ok2 : Nat → Prop) (hok : ∀ b, ok b → b < w.heap.size) (tv kv mv : Value) (T : Tr) (h : Nat) (t : Tb h) (k to : Key)
    (ht : RT w ok tv T) (hr : Reps T h t) (hk : RB w ok' kv k) (hk2 : RB w ok2 mv to) (hN : T.pages.length ≤ 4000) (hs : Small T) (hkl : k.length ≤ 100) (hkl2 : to.length ≤ 100) (hEl : (entT h t).length ≤ 1000000) :
    Calls Try.prog 17 #[tv, kv, mv] w (ScanIs (scanL k to (entT h t)) w) := by
  obtain ⟨ao, cap, _, _, _, rfl, -⟩ := pagesF ht
  obtain ⟨ak, ck, rfl⟩ := hk.sh
  obtain ⟨a2, c2, rfl⟩ := hk2.sh
  have hrise := ent_rise h [] [] t hr.2.2.1
  have q := scan_in w ok ok' ok2 hok ao _ cap ak _ ck a2 _ c2 T h t k to ht hr hk hk2 hN hs hkl hkl2 _ rfl (Nat.le_trans (List.length_filter_le _ _) hEl)
  rw [scan_take hrise] at q
  exact callsIn_wide.1 q
/-- The four boxes of Above. -/
theorem above_boxes (w : World) (c0 c1 c2 c3 : Array Value) (t0 t1 t2 t3 : TypeId) :
    Below w.heap.size w ((((w.alloc (.cells c0 t0)).alloc (.cells c1 t1)).alloc (.cells c2 t2)).alloc (.cells c3 t3)) ∧ ((((w.alloc (.cells c0 t0)).alloc (.cells c1 t1)).alloc (.cells c2 t2)).alloc (.cells c3 t3)).heap[w.heap.size + 2]? = some (.cells c2 t2 (0, 0)) ∧ ((((w.alloc (.cells c0 t0)).alloc (.cells c1 t1)).alloc (.cells c2 t2)).alloc (.cells c3 t3)).heap[w.heap.size + 3]? = some (.cells c3 t3 (0, 0)) := by
  have h2 := new_a2 ((w.alloc (.cells c0 t0)).alloc (.cells c1 t1)) (.cells c2 t2) (.cells c3 t3)
  have h3 := new_b2 ((w.alloc (.cells c0 t0)).alloc (.cells c1 t1)) (.cells c2 t2) (.cells c3 t3)
  rw [World.size_alloc, World.size_alloc] at h2 h3
  exact ⟨((((Below.refl _ _).alloc (Nat.le_refl _) _).alloc (by simp) _).alloc (by simp; omega) _).alloc (by simp; omega) _, h2, h3⟩
theorem above_no (w : World) (ao : Option Addr) (n cap : Nat) (root : Int) (ak : Option Addr) (nk ck : Nat) (c e : Int) (hc : ∀ W, Below w.heap.size w W → Calls Try.prog 33 #[.agg #[.slice ao n cap, .int .i64 root]] W fun v w' => v = .returned (.int .i64 e) ∧ Below W.heap.size W w') (h : (e ≠ 0 ∧ c = 11) ∨ (e = 0 ∧ 100 < nk ∧ c = 1)) :
    Calls Try.prog 22 #[.agg #[.slice ao n cap, .int .i64 root], .slice ak nk ck] w (NoEnt c w) := by
  obtain ⟨W0, hW0⟩ : ∃ W0 : World, W0 = ((((w.alloc (.cells #[.slice ao n cap, .int .i64 root] 24)).alloc (.cells #[.slice ak nk ck] 25)).alloc (.cells #[.slice none 0 0, .int .i64 0] 36)).alloc (.cells #[.int .i64 0] 28)) := ⟨_, rfl⟩
  obtain ⟨hb0, h2, h3⟩ := above_boxes w #[.slice ao n cap, .int .i64 root] #[.slice ak nk ck] #[.slice none 0 0, .int .i64 0] #[.int .i64 0] 24 25 36 28
  rw [← hW0] at hb0 h2 h3
  have HC := Lib.hid (hc W0 hb0)
  have HW0 := Lib.hid hW0
  clear hW0 hc
  have fin : ∀ w1 : World, Below W0.heap.size W0 w1 → ∃ q : Below w.heap.size w w1, w1.heap[w.heap.size + 2]? = some (.cells #[.slice none 0 0, .int .i64 0] 36 (0, 0)) ∧ w1.heap[w.heap.size + 3]? = some (.cells #[.int .i64 0] 28 (0, 0)) := fun w1 hb1 =>
    ⟨into hb0 hb1, (hb1.block _ (Array.getElem?_eq_some_iff.1 h2).1).trans h2, (hb1.block _ (Array.getElem?_eq_some_iff.1 h3).1).trans h3⟩
  have HF := Lib.hid fin
  have hk : ∀ w1 : World, Below w.heap.size w w1 → w1.heap[w.heap.size + 2]? = some (.cells #[.slice none 0 0, .int .i64 0] 36 (0, 0)) → w1.heap[w.heap.size + 3]? = some (.cells #[.int .i64 0] 28 (0, 0)) → ∀ x y z : Value,
      Below w.heap.size w (((w1.setCell ⟨w.heap.size + 2, 0, none⟩ x).setCell ⟨w.heap.size + 2, 1, none⟩ y).setCell ⟨w.heap.size + 3, 0, none⟩ z) ∧ (((w1.setCell ⟨w.heap.size + 2, 0, none⟩ x).setCell ⟨w.heap.size + 2, 1, none⟩ y).setCell ⟨w.heap.size + 3, 0, none⟩ z).cell? ⟨w.heap.size + 2, 0, none⟩ = some x ∧
      (((w1.setCell ⟨w.heap.size + 2, 0, none⟩ x).setCell ⟨w.heap.size + 2, 1, none⟩ y).setCell ⟨w.heap.size + 3, 0, none⟩ z).cell? ⟨w.heap.size + 2, 1, none⟩ = some y ∧ (((w1.setCell ⟨w.heap.size + 2, 0, none⟩ x).setCell ⟨w.heap.size + 2, 1, none⟩ y).setCell ⟨w.heap.size + 3, 0, none⟩ z).cell? ⟨w.heap.size + 3, 0, none⟩ = some z := fun w1 hb g2 g3 x y z => by
    obtain ⟨u0, u1, -⟩ := box2 g2
    have u2 := box1 g3
    refine ⟨((hb.setCell (p := ⟨w.heap.size + 2, 0, none⟩) (by show w.heap.size ≤ w.heap.size + 2; omega) _).setCell (p := ⟨w.heap.size + 2, 1, none⟩) (by show w.heap.size ≤ w.heap.size + 2; omega) _).setCell (p := ⟨w.heap.size + 3, 0, none⟩) (by show w.heap.size ≤ w.heap.size + 3; omega) _, ?_, ?_, ?_⟩
    · exact set_far (by simp) ((World.cell?_setCell_other _ _ _ _ (by simp)).trans (World.cell?_setCell_same _ _ _ u0))
    · exact set_far (by simp) (World.cell?_setCell_same _ _ _ ((World.cell?_setCell_other _ _ _ _ (by simp)).trans u1))
    · exact World.cell?_setCell_same _ _ _ (set_far (by simp) (set_far (by simp) u2))
  have HK := Lib.hid hk
  clear fin hk h2 h3 hb0
  rcases h with ⟨h1, rfl⟩ | ⟨rfl, h1, rfl⟩
  · have g1 : (e != 0) = true := by simpa using h1
    go_enter Try.func22, Try.ntmps22
    go_wp2_with fail
    rw [← HW0.out]
    refine HC.out.mono ?_
    rintro v w1 ⟨rfl, hb1⟩
    obtain ⟨hb, g2, g3⟩ := HF.out w1 hb1
    have HKK := Lib.hid (HK.out w1 hb g2 g3 (.slice none 0 0) (.int .i64 0) (.int .i64 11))
    obtain ⟨u0, u1, f0, f1⟩ := box2 g2
    have u2 := box1 g3
    have f2 : w1.frozen? ⟨w.heap.size + 3, 0, none⟩ = false := by simp [World.frozen?, g3]
    clear hb1 hb g2 g3
    go_wp2_with fail
    obtain ⟨q0, q1, q2, q3⟩ := HKK.out
    refine bodyPost_ret (v := .tuple #[.agg #[.slice none 0 0, .int .i64 0], .int .i64 11]) (by simp [results, Try.results22, go_sem, q1, q2, q3]; try rfl) rfl ⟨rfl, q0⟩
  · have h2 : (100 : Int) < (nk : Int) := by omega
    go_enter Try.func22, Try.ntmps22
    go_wp2_with fail
    rw [← HW0.out]
    refine HC.out.mono ?_
    rintro v w1 ⟨rfl, hb1⟩
    have y2' : W0.heap[w.heap.size + 1]? = some (Obj.cells #[.slice ak nk ck] 25 (0, 0)) := by
      rw [HW0.out]
      exact (Below.heap_alloc _ _ _ (by simp)).trans ((Below.heap_alloc _ _ _ (by simp)).trans (new_b2 w _ _))
    have y2 := box1 ((hb1.block _ (Array.getElem?_eq_some_iff.1 y2').1).trans y2')
    obtain ⟨hb, g2, g3⟩ := HF.out w1 hb1
    have HKK := Lib.hid (HK.out w1 hb g2 g3 (.slice none 0 0) (.int .i64 0) (.int .i64 1))
    obtain ⟨u0, u1, f0, f1⟩ := box2 g2
    have u2 := box1 g3
    have f2 : w1.frozen? ⟨w.heap.size + 3, 0, none⟩ = false := by simp [World.frozen?, g3]
    clear hb1 hb g2 g3 y2'
    go_wp2_with fail
    obtain ⟨q0, q1, q2, q3⟩ := HKK.out
    refine bodyPost_ret (v := .tuple #[.agg #[.slice none 0 0, .int .i64 0], .int .i64 1]) (by simp [results, Try.results22, go_sem, q1, q2, q3]; try rfl) rfl ⟨rfl, q0⟩
theorem above_bad (w : World) (ok : Nat → Prop) (hok : ∀ b, ok b → b < w.heap.size) (tv : Value) (ak : Option Addr) (nk ck : Nat) (T : Tr) (ht : RT w ok tv T) (hs : Small T) (hb : ¬ (T.pages.length ≤ 4000 ∧ Pass T)) :
    Calls Try.prog 22 #[tv, .slice ak nk ck] w (NoEnt 11 w) := by
  obtain ⟨ao, n, cap, rfl⟩ := rt_shape ht
  refine above_no w ao n cap T.root ak nk ck 11 11 (fun W hB => ?_) (.inl ⟨by omega, rfl⟩)
  have q := check_any W ok (fun b hb' => by have := hok b hb'; have := hB.size; omega) _ T (ht.below hB) hs.1 hs.2
  unfold ChkIs at q
  rwa [chkT_no hb] at q
theorem above_size (w : World) (ok : Nat → Prop) (hok : ∀ b, ok b → b < w.heap.size) (tv : Value) (ak : Option Addr) (nk ck : Nat) (T : Tr) (ht : RT w ok tv T) (hs : Small T) (hb : T.pages.length ≤ 4000 ∧ Pass T) (hk : 100 < nk) :
    Calls Try.prog 22 #[tv, .slice ak nk ck] w (NoEnt 1 w) := by
  obtain ⟨ao, n, cap, rfl⟩ := rt_shape ht
  refine above_no w ao n cap T.root ak nk ck 1 0 (fun W hB => ?_) (.inr ⟨rfl, hk, rfl⟩)
  have q := check_any W ok (fun b hb' => by have := hok b hb'; have := hB.size; omega) _ T (ht.below hB) hs.1 hs.2
  unfold ChkIs at q
  rwa [chkT_yes hb.1 hb.2] at q
theorem above_ok (w : World) (ok ok' : Nat → Prop) (hok : ∀ b, ok b → b < w.heap.size) (tv kv : Value) (T : Tr) (h : Nat) (t : Tb h) (k : Key) (ht : RT w ok tv T) (hr : Reps T h t) (hk : RB w ok' kv k) (hN : T.pages.length ≤ 4000) (hs : Small T) (hkl : k.length ≤ 100) :
    Calls Try.prog 22 #[tv, kv] w fun e w' => AboveIs w.heap.size (firstE k ((entT h t).filter fun e => !kl e.1 k)) e w' ∧ Below w.heap.size w w' := by
  obtain ⟨ao, cap, _, _, _, rfl, -⟩ := pagesF ht
  obtain ⟨ak, ck, rfl⟩ := hk.sh
  exact callsIn_wide.1 (above_in w ok ok' hok ao _ cap ak _ ck T h t k ht hr hk hN hs hkl _ rfl)
theorem ent_len {T : Tr} {h : Nat} {t : Tb h} (hr : Reps T h t) : (entT h t).length ≤ 4 * T.pages.length := by
  have hch := leaves_chain h [] [] t hr.2.1
  have hle : ∀ x ∈ leavesT h t, x.2.length ≤ 4 := fun x hx => by
    obtain ⟨hi, nx, hp⟩ := chain_leaf hch x hx
    have hlt := (List.getElem?_eq_some_iff.1 hp).1
    have hok := (reps_pass hr).page _ (getD_mem hlt)
    rw [getD_of hp] at hok
    simpa using hok.keys
  have h1 := (leaves_sub h t).length_le
  have h2 := hr.2.2.2.length_eq
  rw [List.length_map] at h1
  rw [List.length_range] at h2
  have h3 : ∀ l : List (Tb 0), (∀ x ∈ l, x.2.length ≤ 4) → (entL l).length ≤ 4 * l.length := by
    intro l
    induction l with
    | nil => intro _; simp [entL]
    | cons x r ih =>
      intro hx
      have a1 := ih fun y hy => hx y (List.mem_cons_of_mem _ hy)
      have a2 := hx x (by simp)
      show (x.2 ++ entL r).length ≤ 4 * (r.length + 1)
      rw [List.length_append]
      omega
  have h4 := h3 _ hle
  rw [leaves_ent] at h4
  omega
end Go.Proofs.Ytacpeibkamfibaa
