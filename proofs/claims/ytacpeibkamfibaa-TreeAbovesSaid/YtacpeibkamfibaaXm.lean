/- The document's scans and program's scans answer alike (four texts in one). -/
import Derived.Test.YtacpeibkamfibaaXk
import Derived.Test.YtacpeibkamfibaaTa
/- The document's scans, and entries compared. -/
namespace Go.Proofs.Ytacpeibkamfibaa
open Go.ChangeShapes Go.WideShapes Go.ChangeAt Go.RowKit Go.Shelf
set_option linter.unusedVariables false
set_option linter.unusedSimpArgs false
set_option maxHeartbeats 8000000
set_option maxRecDepth 100000
theorem sameEntry_yes (w : World) (ok1 ok2 : Nat → Prop) (xa ya : Option Addr) (m xc yc : Nat) (k : Key) (r : Int) (hx : RB w ok1 (.slice xa m xc) k) (hy : RB w ok2 (.slice ya m yc) k) :
    Calls Try.prog 24 #[.agg #[.slice xa m xc, .int .i64 r], .agg #[.slice ya m yc, .int .i64 r]] w (Yes w) := by
  obtain ⟨W0, hW0⟩ : ∃ W0 : World, W0 = (w.alloc (.cells #[.slice xa m xc, .int .i64 r] 36)).alloc (.cells #[.slice ya m yc, .int .i64 r] 36) := ⟨_, rfl⟩
  have hb0 : Below w.heap.size w W0 := by rw [hW0]; exact ((Below.refl _ _).alloc (Nat.le_refl _) _).alloc (by simp) _
  have t1 := str_of (hx.below hb0).1
  have t2 := str_of (hy.below hb0).1
  rw [hW0] at t1 t2
  have HW0 := Lib.hid hW0
  clear hx hy hW0
  go_enter Try.func24, Try.ntmps24
  go_wp2
  go_ret
  refine ⟨rfl, ?_⟩
  rw [← HW0.out]
  exact hb0
theorem sameEntries_yes (w : World) (n : Nat) (u v : Value) (es : List (Key × Int)) (hu : EntV w n u es) (hv : EntV w n v es) (hn : n ≤ 1000000000) : Calls Try.prog 20 #[u, v] w (Yes w) := by
  obtain ⟨ua, uc, rfl⟩ := hu.sh
  obtain ⟨va, vc, rfl⟩ := hv.sh
  have hln : n = es.length := by obtain ⟨_, h, -, -⟩ := hu; exact h
  have HU := Lib.hid hu
  have HV := Lib.hid hv
  have HLN := Lib.hid hln
  clear hu hv hln
  go_enter Try.func20, Try.ntmps20
  go_wp2_with fail
  go_loopw [5] (fun i wr => ∃ x : Nat, x ≤ n ∧ i = .int .i64 (x : Int) ∧ Hid (Below w.heap.size w wr)) (fun i _ => n - (intOf i).toNat)
  case atStart => exact ⟨0, by omega, rfl, Below.refl _ _⟩
  case round =>
    obtain ⟨x, hx, rfl, HQ⟩ := hrel
    by_cases hlt : (x : Int) < (n : Int)
    · obtain ⟨b1, o1, c1, e9, -, -, p3⟩ := HU.out.pos (by omega)
      simp only [Value.slice.injEq] at e9
      obtain ⟨rfl, -, rfl⟩ := e9
      obtain ⟨b2, o2, c2, e8, -, -, p4⟩ := HV.out.pos (by omega)
      simp only [Value.slice.injEq] at e8
      obtain ⟨rfl, -, rfl⟩ := e8
      have hxl : x < es.length := by have := HLN.out; omega
      obtain ⟨en, hen⟩ : ∃ en, en = es[x] := ⟨_, rfl⟩
      have hat : es[x]? = some en := by rw [hen]; exact List.getElem?_eq_getElem hxl
      obtain ⟨ya, yc, y1, y2, y3⟩ := p3 x en hat
      obtain ⟨za, zc, u1, u2, u3⟩ := p4 x en hat
      have g1 := cell_of_below HQ.out y1
      have g2 := cell_of_below HQ.out y2
      have g3 := cell_of_below HQ.out u1
      have g4 := cell_of_below HQ.out u2
      obtain ⟨ek, er⟩ := en
      simp only at g1 g2 g3 g4 y3 u3
      obtain ⟨yn, hyn⟩ : ∃ yn, yn = ek.length := ⟨_, rfl⟩
      rw [← hyn] at g1 g3 y3 u3
      have HC := Lib.hid (fun (W' : World) (hW : Below wr.heap.size wr W') => sameEntry_yes W' _ _ ya za yn yc zc ek er ((y3.below HQ.out).below hW) ((u3.below HQ.out).below hW))
      clear y1 y2 y3 u1 u2 u3 p3 p4 hen hat hyn hxl
      go_wp2_with fail
      refine wpT_begin2 (S := (fun wx => wx.cell? ⟨b1, o1 + x * 2, none⟩ = some (.slice ya yn yc) ∧ wx.cell? ⟨b1, o1 + x * 2 + 1, none⟩ = some (.int .i64 er) ∧ wx.cell? ⟨b2, o2 + x * 2, none⟩ = some (.slice za yn zc) ∧ wx.cell? ⟨b2, o2 + x * 2 + 1, none⟩ = some (.int .i64 er) ∧ Below wr.heap.size wr wx)) [] (by kernel_rfl) ?_ (fun Wd hHeld => ?_)
      · (try dsimp only)
        exact ⟨cell_dr g1, cell_dr g2, cell_dr g3, cell_dr g4, (Below.refl _ _).drew⟩
      refine wpAnyT_pure (i := 0) (oi := _) (v := ?_) rfl (by kernel_rfl) (by kernel_rfl) (by kernel_rfl) (by kernel_rfl) (fun _ _ _ h => h) (Or.inl ⟨by rfl, ?_⟩) (fun _ => by assumption) ?_
      rotate_left
      · (intro w hSw; go_simp)
        all_goals (with_reducible rfl)
      (try simp only [List.getElem_toArray, List.getElem_cons_zero, List.getElem_cons_succ, Act.put, List.setIfInBounds_toArray, List.set_cons_zero, List.set_cons_succ])
      refine wpAnyT_pure (i := 1) (oi := _) (v := ?_) rfl (by kernel_rfl) (by kernel_rfl) (by kernel_rfl) (by kernel_rfl) (fun _ _ _ h => h) (Or.inl ⟨by rfl, ?_⟩) (fun _ => by assumption) ?_
      rotate_left
      · (intro w hSw; go_simp)
        all_goals (with_reducible rfl)
      (try simp only [List.getElem_toArray, List.getElem_cons_zero, List.getElem_cons_succ, Act.put, List.setIfInBounds_toArray, List.set_cons_zero, List.set_cons_succ])
      refine wpAnyT_pure (i := 2) (oi := _) (v := ?_) rfl (by kernel_rfl) (by kernel_rfl) (by kernel_rfl) (by kernel_rfl) (fun _ _ _ h => h) (Or.inl ⟨by rfl, ?_⟩) (fun _ => by assumption) ?_
      rotate_left
      · (intro w hSw; go_simp)
        all_goals (with_reducible rfl)
      (try simp only [List.getElem_toArray, List.getElem_cons_zero, List.getElem_cons_succ, Act.put, List.setIfInBounds_toArray, List.set_cons_zero, List.set_cons_succ])
      refine wpAnyT_take (i := 3) (oi := _) (v := ?_) rfl (by kernel_rfl) (by kernel_rfl) (by kernel_rfl) (by kernel_rfl) (fun _ _ _ h => h) (Or.inl ⟨by rfl, ?_⟩) (by assumption) ?_
      rotate_left
      · (intro w hSw; (try dsimp only at hSw); go_simp)
        all_goals (with_reducible rfl)
      (try simp only [List.getElem_toArray, List.getElem_cons_zero, List.getElem_cons_succ, Act.put, List.setIfInBounds_toArray, List.set_cons_zero, List.set_cons_succ])
      refine wpAnyT_pure (i := 4) (oi := _) (v := ?_) rfl (by kernel_rfl) (by kernel_rfl) (by kernel_rfl) (by kernel_rfl) (fun _ _ _ h => h) (Or.inl ⟨by rfl, ?_⟩) (fun _ => by assumption) ?_
      rotate_left
      · (intro w hSw; go_simp)
        all_goals (with_reducible rfl)
      (try simp only [List.getElem_toArray, List.getElem_cons_zero, List.getElem_cons_succ, Act.put, List.setIfInBounds_toArray, List.set_cons_zero, List.set_cons_succ])
      refine wpAnyT_pure (i := 5) (oi := _) (v := ?_) rfl (by kernel_rfl) (by kernel_rfl) (by kernel_rfl) (by kernel_rfl) (fun _ _ _ h => h) (Or.inl ⟨by rfl, ?_⟩) (fun _ => by assumption) ?_
      rotate_left
      · (intro w hSw; go_simp)
        all_goals (with_reducible rfl)
      (try simp only [List.getElem_toArray, List.getElem_cons_zero, List.getElem_cons_succ, Act.put, List.setIfInBounds_toArray, List.set_cons_zero, List.set_cons_succ])
      refine wpAnyT_pure (i := 6) (oi := _) (v := ?_) rfl (by kernel_rfl) (by kernel_rfl) (by kernel_rfl) (by kernel_rfl) (fun _ _ _ h => h) (Or.inl ⟨by rfl, ?_⟩) (fun _ => by assumption) ?_
      rotate_left
      · (intro w hSw; go_simp)
        all_goals (with_reducible rfl)
      (try simp only [List.getElem_toArray, List.getElem_cons_zero, List.getElem_cons_succ, Act.put, List.setIfInBounds_toArray, List.set_cons_zero, List.set_cons_succ])
      refine wpAnyT_take (i := 7) (oi := _) (v := ?_) rfl (by kernel_rfl) (by kernel_rfl) (by kernel_rfl) (by kernel_rfl) (fun _ _ _ h => h) (Or.inl ⟨by rfl, ?_⟩) (by assumption) ?_
      rotate_left
      · (intro w hSw; (try dsimp only at hSw); go_simp)
        all_goals (with_reducible rfl)
      (try simp only [List.getElem_toArray, List.getElem_cons_zero, List.getElem_cons_succ, Act.put, List.setIfInBounds_toArray, List.set_cons_zero, List.set_cons_succ])
      refine wpAnyT_ready (rs := [8]) (by kernel_rfl) (by simp) ?_
      refine AllReadyT.cons rfl (fun K hK => ?_) AllReadyT.nil
      go_simp
      (go_at_call 24; refine (HC.out _ hHeld.2.2.2.2).mono ?_; rintro e w6 ⟨rfl, hbc⟩)
      go_wp2_with fail
      refine hK.out _ _ (fun _ => ?_) (fun hHeld0 => ?_)
      · (try dsimp only)
        exact ⟨cell_bel hbc (hHeld.1), cell_bel hbc (hHeld.2.1), cell_bel hbc (hHeld.2.2.1), cell_bel hbc (hHeld.2.2.2.1), Below.trans (hHeld.2.2.2.2) (hbc.mono (hHeld.2.2.2.2).size)⟩
      have hHeld1 := hHeld0 (by kernel_rfl)
      clear hK K hHeld0
      clear hHeld; have hHeld := hHeld1; clear hHeld1
      (try simp only [List.getElem_toArray, List.getElem_cons_zero, List.getElem_cons_succ, Act.put, List.setIfInBounds_toArray, List.set_cons_zero, List.set_cons_succ])
      refine wpAnyT_pure (i := 9) (oi := _) (v := ?_) rfl (by kernel_rfl) (by kernel_rfl) (by kernel_rfl) (by kernel_rfl) (fun _ _ _ h => h) (Or.inl ⟨by rfl, ?_⟩) (fun _ => by assumption) ?_
      rotate_left
      · (intro w hSw; go_simp)
        all_goals (with_reducible rfl)
      (try simp only [List.getElem_toArray, List.getElem_cons_zero, List.getElem_cons_succ, Act.put, List.setIfInBounds_toArray, List.set_cons_zero, List.set_cons_succ])
      refine wpAnyT_done (by kernel_rfl) ?_ _
      have HQ6 := Lib.hid (HQ.out.trans (hHeld.2.2.2.2.mono HQ.out.size))
      clear hHeld hbc g1 g2 g3 g4
      go_wp2_with fail
      go_roundw
      case rel => exact ⟨x + 1, by omega, by go_num, HQ6.out⟩
      case measure => simp [intOf]; omega
    · go_wp2_with fail
      go_ret
      exact ⟨rfl, HQ.out⟩
theorem scanned_no (w : World) (ok : Nat → Prop) (hok : ∀ b, ok b → b < w.heap.size) (tv : Value) (ak a2 : Option Addr) (nk ck n2 c2 : Nat) (T : Tr) (ht : RT w ok tv T) (hrr : Rng T.root) (c : Int) (h : (¬ (T.pages.length ≤ 4000 ∧ Pass T) ∧ c = 11) ∨ ((T.pages.length ≤ 4000 ∧ Pass T) ∧ (100 < nk ∨ 100 < n2) ∧ c = 1)) :
    Calls Try.prog 19 #[tv, .slice ak nk ck, .slice a2 n2 c2] w (NilIs c w) := by
  obtain ⟨ao, n, cap, rfl⟩ := rt_shape ht
  have hb0 : Below w.heap.size w (w.alloc (.cells #[.slice ao n cap, .int .i64 T.root] 24)) := bel_al _ _
  have hc := treeFault_any (w.alloc (.cells #[.slice ao n cap, .int .i64 T.root] 24)) ok (fun b hb' => by have := hok b hb'; simp; omega) _ T (ht.below hb0) hrr
  unfold ChkIs at hc
  rcases h with ⟨h1, rfl⟩ | ⟨h1, h2, rfl⟩
  · rw [chkT_no h1] at hc
    have HC := Lib.hid hc
    clear hc ht
    go_enter Try.func19, Try.ntmps19
    go_wp2_with fail
    refine HC.out.mono ?_
    rintro e w1 ⟨rfl, hb1⟩
    have HB := Lib.hid (into hb0 hb1)
    clear hb1
    go_wp2
    go_ret2
    exact ⟨rfl, HB.out⟩
  · rw [chkT_yes h1.1 h1.2] at hc
    have HC := Lib.hid hc
    clear hc ht
    by_cases h3 : (100 : Int) < (nk : Int)
    · go_enter Try.func19, Try.ntmps19
      go_wp2_with fail
      refine HC.out.mono ?_
      rintro e w1 ⟨rfl, hb1⟩
      have HB := Lib.hid (into hb0 hb1)
      clear hb1
      go_wp2
      go_ret2
      exact ⟨rfl, HB.out⟩
    · have h4 : (100 : Int) < (n2 : Int) := by omega
      go_enter Try.func19, Try.ntmps19
      go_wp2_with fail
      refine HC.out.mono ?_
      rintro e w1 ⟨rfl, hb1⟩
      have HB := Lib.hid (into hb0 hb1)
      clear hb1
      go_wp2
      go_ret2
      exact ⟨rfl, HB.out⟩
end Go.Proofs.Ytacpeibkamfibaa
/- The document's scan of a tree that may be. -/
namespace Go.Proofs.Ytacpeibkamfibaa
open Go.ChangeShapes Go.WideShapes Go.ChangeAt Go.RowKit Go.Shelf
set_option linter.unusedVariables false
set_option linter.unusedSimpArgs false
set_option maxHeartbeats 8000000
set_option maxRecDepth 100000
theorem scanned_ok (w : World) (ok ok1 ok2 : Nat → Prop) (hok : ∀ b, ok b → b < w.heap.size) (tv kv mv : Value) (T : Tr) (h : Nat) (t : Tb h) (k to : Key) (ht : RT w ok tv T) (hr : Reps T h t) (hk : RB w ok1 kv k) (hk2 : RB w ok2 mv to) (hN : T.pages.length ≤ 4000) (hrr : Rng T.root) (hkl : k.length ≤ 100) (hkl2 : to.length ≤ 100) :
    Calls Try.prog 19 #[tv, kv, mv] w (ScanV (scanL k to (entT h t)) w) := by
  obtain ⟨ao, n, cap, rfl⟩ := rt_shape ht
  obtain ⟨ak, ck, rfl⟩ := hk.sh
  obtain ⟨a2, c2, rfl⟩ := hk2.sh
  obtain ⟨nk, hnk⟩ : ∃ n, n = k.length := ⟨_, rfl⟩
  obtain ⟨n2, hn2⟩ : ∃ n, n = to.length := ⟨_, rfl⟩
  rw [← hnk] at hk ⊢
  rw [← hn2] at hk2 ⊢
  have hnk1 : (nk : Int) ≤ 100 := by omega
  have hnk2 : (n2 : Int) ≤ 100 := by omega
  have hb0 : Below w.heap.size w (w.alloc (.cells #[.slice ao n cap, .int .i64 T.root] 24)) := bel_al _ _
  have hx0 : (w.alloc (.cells #[.slice ao n cap, .int .i64 T.root] 24)).heap[w.heap.size]? = some (.cells #[.slice ao n cap, .int .i64 T.root] 24 (0, 0)) := new0 _ _
  have hc := treeFault_any (w.alloc (.cells #[.slice ao n cap, .int .i64 T.root] 24)) ok (fun b hb' => by have := hok b hb'; simp; omega) _ T (ht.below hb0) hrr
  unfold ChkIs at hc
  rw [chkT_yes hN (reps_pass hr)] at hc
  have hes := fun (W : World) (hW : Below w.heap.size w W) => entriesOf_any W ok (fun b hb' => by have := hok b hb'; have := hW.size; omega) _ T (ht.below hW) h t hr hN
  obtain ⟨l, hl⟩ : ∃ l, l = entT h t := ⟨_, rfl⟩
  have hl6 : l.length ≤ 1000000 := by have := ent_len hr; rw [← hl] at this; omega
  rw [← hl] at hes ⊢
  have HES := Lib.hid hes
  have HC := Lib.hid hc
  have HK := Lib.hid (And.intro hk (And.intro hk2 (And.intro hnk hn2)))
  have HX0 := Lib.hid hx0
  have HL6 := Lib.hid hl6
  clear hc ht hr hk hk2 hN hkl hkl2 hes hl hnk hn2 hl6 hx0
  go_enter Try.func19, Try.ntmps19
  go_wp2_with fail
  refine HC.out.mono ?_
  rintro e w1 ⟨rfl, hb1⟩
  have HB1 := Lib.hid (into hb0 hb1)
  obtain ⟨z0, z1, -⟩ := box2 ((hb1.block _ (Array.getElem?_eq_some_iff.1 HX0.out).1).trans HX0.out)
  clear hb1 hb0
  go_wp2_with fail
  refine (HES.out w1 HB1.out).mono ?_
  rintro e w5 ⟨vv, cs0, rfl, hown5, hent5, hb5, -⟩
  have HL5' := (show EntV w5 l.length vv l from ⟨cs0, rfl, Rd.own hown5, hent5.mono fun _ _ => trivial⟩)
  obtain ⟨la, lc, rfl⟩ := HL5'.sh
  obtain ⟨ln, hln⟩ : ∃ n, n = l.length := ⟨_, rfl⟩
  rw [← hln] at HL5' ⊢
  have HL5 := Lib.hid HL5'
  have HB5 := Lib.hid (into HB1.out hb5)
  have HKF := Lib.hid (And.intro (HK.out.1.below HB5.out) (HK.out.2.1.below HB5.out))
  have hln6 : ln ≤ 1000000 := by have := HL6.out; omega
  have HLN := Lib.hid hln
  clear hown5 hent5 hb5 z0 z1 HL5' hln
  go_wp2_with fail
  obtain ⟨P, hP⟩ : ∃ P : Key × Int → Bool, P = fun e => !kl e.1 k && toOk to e := ⟨_, rfl⟩
  have hsc : scanL k to l = l.filter P := by rw [hP]; rfl
  have hPe : ∀ e, P e = (!kl e.1 k && (to.isEmpty || !kl to e.1)) := fun e => by rw [hP]; rfl
  have HSC := Lib.hid (And.intro hsc hPe)
  clear hP hsc hPe
  go_loopw [10, 11] (fun wv i wr => ∃ (j m : Nat) (cs : List Value), j ≤ ln ∧ m ≤ j ∧ i = .int .i64 (j : Int) ∧ Hid (m = ((l.take j).filter P).length) ∧ Hid (wr.ownsRow w5.heap.size 36 2 wv m cs) ∧ Hid (EntC w5 (fun b => b < w5.heap.size) cs ((l.take j).filter P)) ∧ Hid (Below w5.heap.size w5 wr)) (fun _ i _ => ln - (intOf i).toNat)
  case atStart => exact ⟨0, 0, [], by omega, by omega, rfl, rfl, World.ownsRow_nil _ _ _ _, trivial, Below.refl _ _⟩
  case round =>
    obtain ⟨j, m, cs, hj, hmj, rfl, HM, HO, HE, HB⟩ := hrel
    by_cases hlt : (j : Int) < (ln : Int)
    · obtain ⟨b, o, c, e9, q1, q2, q3⟩ := HL5.out.pos (by omega)
      simp only [Value.slice.injEq] at e9
      obtain ⟨rfl, -, rfl⟩ := e9
      have hjl : j < l.length := by have := HLN.out; omega
      obtain ⟨en, hen⟩ : ∃ en, en = l[j] := ⟨_, rfl⟩
      obtain ⟨ya, yc, y1, y2, y3⟩ := q3 j en (by rw [hen]; exact List.getElem?_eq_getElem hjl)
      have htk : l.take (j + 1) = l.take j ++ [en] := by rw [hen]; exact List.take_succ_eq_append_getElem hjl
      have d1 := cell_of_below HB.out y1
      have d2 := cell_of_below HB.out y2
      have hb1 := bef_any wr _ _ en.1 k (y3.below HB.out).1 (by have q := HKF.out.1.below HB.out; exact q.1)
      have hb2 := bef_any wr _ _ to en.1 (by have q := HKF.out.2.below HB.out; exact q.1) (y3.below HB.out).1
      have hPe := HSC.out.2 en
      have HTK := Lib.hid htk
      obtain ⟨ek, er⟩ := en
      simp only at hPe d1 d2 hb1 hb2 y3
      obtain ⟨yn, hyn⟩ : ∃ yn, yn = ek.length := ⟨_, rfl⟩
      rw [← hyn] at d1 y3 hb1 hb2
      have HY3 := Lib.hid y3
      obtain ⟨x1, hx1⟩ : ∃ x, x = kl ek k := ⟨_, rfl⟩
      obtain ⟨x2, hx2⟩ : ∃ x, x = kl to ek := ⟨_, rfl⟩
      rw [← hx1] at hb1 hPe
      rw [← hx2] at hb2 hPe
      have hte : to.isEmpty = decide (n2 = 0) := by rw [HK.out.2.2.2]; rcases to with _ | ⟨a, r⟩ <;> rfl
      rw [hte] at hPe
      have HB1' := Lib.hid hb1
      have HB2' := Lib.hid hb2
      clear y1 y2 y3 q3 hen hyn htk hx1 hx2 hte hb1 hb2
      obtain ⟨_, wa', wc', rfl, -⟩ := Rd.own HO.out
      cases x1
      · by_cases h0 : n2 = 0
        · have h0' : ((n2 : Int) == 0) = true := by simpa using h0
          have HF := Lib.hid (show (l.take (j + 1)).filter P = (l.take j).filter P ++ [(ek, er)] by rw [HTK.out, List.filter_append, List.filter_cons_of_pos (by rw [hPe]; simp [h0])]; rfl)
          clear hPe
          (try clear h0)
          go_wp2_with (first | (go_at_call 40; refine HB1'.out.mono ?_; rintro e w' ⟨rfl, rfl⟩) | (go_at_call 40; refine HB2'.out.mono ?_; rintro e w' ⟨rfl, rfl⟩) | (at_builtin; refine apx wr 1 rfl _ _ 27 36 _ 2 32 Try.underlying27 Try.info36 rfl (by omega) rfl HO.out HB.out.size (by omega) (by unfold maxLen; omega) [.slice ya yn yc, .int .i64 er] rfl (by intro u hu; simp at hu; rcases hu with rfl | rfl <;> rfl) wr.heap.size rfl rfl rfl ?_))
          intro v7 w7 hown7 hb7 hg7 hat7
          have HO7 := Lib.hid hown7
          have HB7 := Lib.hid (HB.out.trans hb7)
          clear hown7 hb7 hg7 hat7 d1 d2
          go_wp2_with fail
          go_roundw
          case rel => exact ⟨j + 1, m + 1, _, by omega, by omega, by go_num, by rw [HF.out, List.length_append, ← HM.out]; rfl, HO7.out, by rw [HF.out]; exact EntC.app HE.out (EntC.single ⟨by have q := HY3.out.1; exact q, by have q := HY3.out.1; exact q.at_lt (by omega)⟩), HB7.out⟩
          case measure => simp [intOf]; omega
        · have h0' : ((n2 : Int) == 0) = false := by simpa using h0
          cases x2
          · skip
            have HF := Lib.hid (show (l.take (j + 1)).filter P = (l.take j).filter P ++ [(ek, er)] by rw [HTK.out, List.filter_append, List.filter_cons_of_pos (by rw [hPe]; simp)]; rfl)
            clear hPe
            (try clear h0)
            go_wp2_with (first | (go_at_call 40; refine HB1'.out.mono ?_; rintro e w' ⟨rfl, rfl⟩) | (go_at_call 40; refine HB2'.out.mono ?_; rintro e w' ⟨rfl, rfl⟩) | (at_builtin; refine apx wr 1 rfl _ _ 27 36 _ 2 32 Try.underlying27 Try.info36 rfl (by omega) rfl HO.out HB.out.size (by omega) (by unfold maxLen; omega) [.slice ya yn yc, .int .i64 er] rfl (by intro u hu; simp at hu; rcases hu with rfl | rfl <;> rfl) wr.heap.size rfl rfl rfl ?_))
            intro v7 w7 hown7 hb7 hg7 hat7
            have HO7 := Lib.hid hown7
            have HB7 := Lib.hid (HB.out.trans hb7)
            clear hown7 hb7 hg7 hat7 d1 d2
            go_wp2_with fail
            go_roundw
            case rel => exact ⟨j + 1, m + 1, _, by omega, by omega, by go_num, by rw [HF.out, List.length_append, ← HM.out]; rfl, HO7.out, by rw [HF.out]; exact EntC.app HE.out (EntC.single ⟨by have q := HY3.out.1; exact q, by have q := HY3.out.1; exact q.at_lt (by omega)⟩), HB7.out⟩
            case measure => simp [intOf]; omega
          · skip
            have HF := Lib.hid (show (l.take (j + 1)).filter P = (l.take j).filter P by rw [HTK.out, List.filter_append, List.filter_cons_of_neg (by rw [hPe]; simp [h0])]; simp)
            clear hPe
            (try clear h0)
            go_wp2_with (first | (go_at_call 40; refine HB1'.out.mono ?_; rintro e w' ⟨rfl, rfl⟩) | (go_at_call 40; refine HB2'.out.mono ?_; rintro e w' ⟨rfl, rfl⟩))
            clear d1 d2
            go_roundw
            case rel => exact ⟨j + 1, m, cs, by omega, by omega, by go_num, by rw [HF.out]; exact HM.out, HO.out, by rw [HF.out]; exact HE.out, HB.out⟩
            case measure => simp [intOf]; omega
      · skip
        have HF := Lib.hid (show (l.take (j + 1)).filter P = (l.take j).filter P by rw [HTK.out, List.filter_append, List.filter_cons_of_neg (by rw [hPe]; simp)]; simp)
        clear hPe
        (try clear h0)
        go_wp2_with (first | (go_at_call 40; refine HB1'.out.mono ?_; rintro e w' ⟨rfl, rfl⟩) | (go_at_call 40; refine HB2'.out.mono ?_; rintro e w' ⟨rfl, rfl⟩))
        clear d1 d2
        go_roundw
        case rel => exact ⟨j + 1, m, cs, by omega, by omega, by go_num, by rw [HF.out]; exact HM.out, HO.out, by rw [HF.out]; exact HE.out, HB.out⟩
        case measure => simp [intOf]; omega
    · obtain rfl : j = ln := by omega
      have hml : l.take j = l := List.take_of_length_le (by rw [HLN.out]; exact Nat.le_refl _)
      obtain ⟨_, wa', wc', rfl, -⟩ := Rd.own HO.out
      go_wp2_with fail
      go_ret2
      have hs : scanL k to l = (l.take j).filter P := by rw [hml]; exact HSC.out.1
      refine ⟨_, _, _, rfl, ⟨cs, by rw [hs]; exact HM.out, Rd.own HO.out, by rw [hs]; exact (HE.out.below HB.out).mono fun _ _ => trivial⟩, HB5.out.trans (HB.out.mono HB5.out.size)⟩
end Go.Proofs.Ytacpeibkamfibaa
/- The document's next entry above a key. -/
namespace Go.Proofs.Ytacpeibkamfibaa
open Go.ChangeShapes Go.WideShapes Go.ChangeAt Go.RowKit Go.Shelf
set_option linter.unusedVariables false
set_option linter.unusedSimpArgs false
set_option maxHeartbeats 8000000
set_option maxRecDepth 100000
theorem box2t {W : World} {P : Nat} {u v x y : Value} (h0 : W.cell? ⟨P, 0, none⟩ = some u) (h1 : W.cell? ⟨P, 1, none⟩ = some v) :
    ((W.setCell ⟨P, 0, none⟩ x).setCell ⟨P, 1, none⟩ y).cell? ⟨P, 0, none⟩ = some x ∧ ((W.setCell ⟨P, 0, none⟩ x).setCell ⟨P, 1, none⟩ y).cell? ⟨P, 1, none⟩ = some y :=
  ⟨(World.cell?_setCell_other _ _ _ _ (by simp)).trans (World.cell?_setCell_same _ _ _ h0), World.cell?_setCell_same _ _ _ ((World.cell?_setCell_other _ _ _ _ (by simp)).trans h1)⟩
theorem first_is (k : Key) (l : List (Key × Int)) : firstE k (l.filter fun e => !kl e.1 k) = l.find? fun e => kl k e.1 := by
  unfold firstE
  rw [List.find?_filter]
  congr 1
  funext e
  rcases q : kl k e.1 with _ | _
  · rcases p : kl e.1 k with _ | _
    · have : e.1 = k := bl_tri e.1 k p q
      simp [this]
    · simp
  · have p := kl_not q
    have : e.1 ≠ k := fun h => by rw [h, show kl k k = false from bl_irr k] at q; cases q
    simp [p, this]
def EntOut (r : Option (Key × Int)) (w : World) (e : Ending) (w' : World) : Prop :=
  (∀ en, r = some en → ∃ xa xc, e = .returned (.tuple #[.agg #[.slice xa en.1.length xc, .int .i64 en.2], .int .i64 0]) ∧ RB w' (fun _ => True) (.slice xa en.1.length xc) en.1) ∧ (r = none → e = .returned (.tuple #[.agg #[.slice none 0 0, .int .i64 0], .int .i64 8])) ∧ Below w.heap.size w w'
theorem find_at {k : Key} {l : List (Key × Int)} {j : Nat} (hj : j < l.length) (hb : ∀ i (h : i < l.length), i < j → kl k (l[i]).1 = false) (he : kl k (l[j]).1 = true) : (l.find? fun e => kl k e.1) = some l[j] := by
  have hl : l = l.take j ++ l[j] :: l.drop (j + 1) := by rw [← List.drop_eq_getElem_cons hj, List.take_append_drop]
  obtain ⟨e, hee⟩ : ∃ e, e = l[j] := ⟨_, rfl⟩
  rw [← hee] at he hl ⊢
  rw [hl, List.find?_append]
  have h0 : (l.take j).find? (fun e => kl k e.1) = none := by
    rw [List.find?_eq_none]
    intro x hx
    obtain ⟨i, hi, rfl⟩ := List.getElem_of_mem hx
    rw [List.getElem_take]
    rw [List.length_take] at hi
    simpa using hb i (by omega) (by omega)
  rw [h0]
  simp [he]
theorem rd_box2 {W : World} {B n m c j : Nat} {a : Option Addr} {r : Int} {u x : Value} {T : TypeId} {l : List UInt8} (hbox : W.heap[B]? = some (.cells #[.slice a m c, .int .i64 r] T (0, 0))) (h : Rd W 1 n x (bc l)) : Rd (W.setCell ⟨B, j, none⟩ u) 1 n x (bc l) := by
  obtain ⟨h1, ao, cap, h2, h3, h4, h5, h6⟩ := h
  refine ⟨h1, ao, cap, h2, h3, h4, h5, fun d hd i y hy => ?_⟩
  have hc := h6 d hd i y hy
  by_cases hb : B = (d.add i).block
  · exfalso
    have hm : y ∈ bc l := List.mem_of_getElem? hy
    obtain ⟨b, _, rfl⟩ := List.mem_map.1 hm
    unfold World.cell? at hc
    rw [← hb, hbox] at hc
    simp only at hc
    split at hc
    · cases hc
    · rcases hq : (d.add i).off with _ | _ | q
      · rw [hq] at hc; simp at hc
      · rw [hq] at hc; simp at hc
      · rw [hq] at hc; simp at hc
  · exact set_far (p := ⟨B, j, none⟩) hb hc
theorem aboveK_no (w : World) (ok : Nat → Prop) (hok : ∀ b, ok b → b < w.heap.size) (tv : Value) (ak : Option Addr) (nk ck : Nat) (T : Tr) (ht : RT w ok tv T) (hrr : Rng T.root) (c : Int) (h : (¬ (T.pages.length ≤ 4000 ∧ Pass T) ∧ c = 11) ∨ ((T.pages.length ≤ 4000 ∧ Pass T) ∧ 100 < nk ∧ c = 1)) :
    Calls Try.prog 23 #[tv, .slice ak nk ck] w (NoEnt c w) := by
  obtain ⟨ao, n, cap, rfl⟩ := rt_shape ht
  obtain ⟨W0, hW0⟩ : ∃ W0 : World, W0 = (w.alloc (.cells #[.slice ao n cap, .int .i64 T.root] 24)).alloc (.cells #[.slice none 0 0, .int .i64 0] 36) := ⟨_, rfl⟩
  have hb0 : Below w.heap.size w W0 := by rw [hW0]; exact ((Below.refl _ _).alloc (Nat.le_refl _) _).alloc (by simp) _
  have hy : W0.heap[w.heap.size + 1]? = some (.cells #[.slice none 0 0, .int .i64 0] 36 (0, 0)) := by rw [hW0]; exact new_b2 w _ _
  have hc := treeFault_any W0 ok (fun b hb' => by have := hok b hb'; have := hb0.size; omega) _ T (ht.below hb0) hrr
  unfold ChkIs at hc
  have HW0 := Lib.hid hW0
  clear hW0
  rcases h with ⟨h1, rfl⟩ | ⟨h1, h2, rfl⟩
  · rw [chkT_no h1] at hc
    have HC := Lib.hid hc
    clear hc ht
    go_enter Try.func23, Try.ntmps23
    go_wp2_with fail
    rw [← HW0.out]
    refine HC.out.mono ?_
    rintro e w1 ⟨rfl, hb1⟩
    have HB := Lib.hid (into hb0 hb1)
    obtain ⟨y0, y1, yf0, yf1⟩ := box2 ((hb1.block _ (Array.getElem?_eq_some_iff.1 hy).1).trans hy)
    clear hb1
    go_wp2_with fail
    obtain ⟨q0, q1⟩ := box2t (x := .slice none 0 0) (y := .int .i64 0) y0 y1
    refine bodyPost_ret (v := .tuple #[.agg #[.slice none 0 0, .int .i64 0], .int .i64 11]) (by simp [results, Try.results23, go_sem, q0, q1]; try rfl) rfl ?_
    exact ⟨rfl, (HB.out.setCell (by show w.heap.size ≤ w.heap.size + 1; omega) _).setCell (by show w.heap.size ≤ w.heap.size + 1; omega) _⟩
  · rw [chkT_yes h1.1 h1.2] at hc
    have h3 : (100 : Int) < (nk : Int) := by omega
    have HC := Lib.hid hc
    clear hc ht
    go_enter Try.func23, Try.ntmps23
    go_wp2_with fail
    rw [← HW0.out]
    refine HC.out.mono ?_
    rintro e w1 ⟨rfl, hb1⟩
    have HB := Lib.hid (into hb0 hb1)
    obtain ⟨y0, y1, yf0, yf1⟩ := box2 ((hb1.block _ (Array.getElem?_eq_some_iff.1 hy).1).trans hy)
    clear hb1
    go_wp2_with fail
    obtain ⟨q0, q1⟩ := box2t (x := .slice none 0 0) (y := .int .i64 0) y0 y1
    refine bodyPost_ret (v := .tuple #[.agg #[.slice none 0 0, .int .i64 0], .int .i64 1]) (by simp [results, Try.results23, go_sem, q0, q1]; try rfl) rfl ?_
    exact ⟨rfl, (HB.out.setCell (by show w.heap.size ≤ w.heap.size + 1; omega) _).setCell (by show w.heap.size ≤ w.heap.size + 1; omega) _⟩
theorem aboveK_ok (w : World) (ok ok1 : Nat → Prop) (hok : ∀ b, ok b → b < w.heap.size) (tv kv : Value) (T : Tr) (h : Nat) (t : Tb h) (k : Key) (ht : RT w ok tv T) (hr : Reps T h t) (hk : RB w ok1 kv k) (hN : T.pages.length ≤ 4000) (hrr : Rng T.root) (hkl : k.length ≤ 100) :
    Calls Try.prog 23 #[tv, kv] w (EntOut ((entT h t).find? fun e => kl k e.1) w) := by
  obtain ⟨ao, n, cap, rfl⟩ := rt_shape ht
  obtain ⟨ak, ck, rfl⟩ := hk.sh
  obtain ⟨nk, hnk⟩ : ∃ n, n = k.length := ⟨_, rfl⟩
  rw [← hnk] at hk ⊢
  have hnk1 : (nk : Int) ≤ 100 := by omega
  obtain ⟨W0, hW0⟩ : ∃ W0 : World, W0 = (w.alloc (.cells #[.slice ao n cap, .int .i64 T.root] 24)).alloc (.cells #[.slice none 0 0, .int .i64 0] 36) := ⟨_, rfl⟩
  have hb0 : Below w.heap.size w W0 := by rw [hW0]; exact ((Below.refl _ _).alloc (Nat.le_refl _) _).alloc (by simp) _
  have hx : W0.heap[w.heap.size]? = some (.cells #[.slice ao n cap, .int .i64 T.root] 24 (0, 0)) := by rw [hW0]; exact new_a2 w _ _
  have hy : W0.heap[w.heap.size + 1]? = some (.cells #[.slice none 0 0, .int .i64 0] 36 (0, 0)) := by rw [hW0]; exact new_b2 w _ _
  have hc := treeFault_any W0 ok (fun b hb' => by have := hok b hb'; have := hb0.size; omega) _ T (ht.below hb0) hrr
  unfold ChkIs at hc
  rw [chkT_yes hN (reps_pass hr)] at hc
  have hes := fun (W : World) (hW : Below w.heap.size w W) => entriesOf_any W ok (fun b hb' => by have := hok b hb'; have := hW.size; omega) _ T (ht.below hW) h t hr hN
  obtain ⟨l, hl⟩ : ∃ l, l = entT h t := ⟨_, rfl⟩
  have hl6 : l.length ≤ 1000000 := by have := ent_len hr; rw [← hl] at this; omega
  rw [← hl] at hes ⊢
  have HES := Lib.hid hes
  have HC := Lib.hid hc
  have HK := Lib.hid (And.intro hk hnk)
  have HX0 := Lib.hid (And.intro hx hy)
  have HL6 := Lib.hid hl6
  have HW0 := Lib.hid hW0
  have HB0 := Lib.hid hb0
  clear hc ht hr hk hN hkl hes hl hnk hl6 hx hy hW0 hb0
  go_enter Try.func23, Try.ntmps23
  go_wp2_with fail
  rw [← HW0.out]
  refine HC.out.mono ?_
  rintro e w1 ⟨rfl, hb1⟩
  have HB1 := Lib.hid (into HB0.out hb1)
  have HY1 := Lib.hid ((hb1.block _ (Array.getElem?_eq_some_iff.1 HX0.out.2).1).trans HX0.out.2)
  obtain ⟨z0, z1, -⟩ := box2 ((hb1.block _ (Array.getElem?_eq_some_iff.1 HX0.out.1).1).trans HX0.out.1)
  clear hb1
  go_wp2_with fail
  refine (HES.out w1 HB1.out).mono ?_
  rintro e w5 ⟨vv, cs0, rfl, hown5, hent5, hb5, -⟩
  have HL5' := (show EntV w5 l.length vv l from ⟨cs0, rfl, Rd.own hown5, hent5.mono fun _ _ => trivial⟩)
  obtain ⟨la, lc, rfl⟩ := HL5'.sh
  obtain ⟨ln, hln⟩ : ∃ n, n = l.length := ⟨_, rfl⟩
  rw [← hln] at HL5' ⊢
  have HL5 := Lib.hid HL5'
  have HB5 := Lib.hid (into HB1.out hb5)
  have HKF := Lib.hid (HK.out.1.below HB5.out)
  have HY5 := Lib.hid ((hb5.block _ (Array.getElem?_eq_some_iff.1 HY1.out).1).trans HY1.out)
  have hln6 : ln ≤ 1000000 := by have := HL6.out; omega
  have HLN := Lib.hid hln
  clear hown5 hent5 hb5 z0 z1 HL5' hln
  go_wp2_with fail
  go_loopw [8] (fun i wr => ∃ (j : Nat), j ≤ ln ∧ i = .int .i64 (j : Int) ∧ Hid (∀ i (h : i < l.length), i < j → kl k (l[i]).1 = false) ∧ Hid (wr = w5)) (fun i _ => ln - (intOf i).toNat)
  case atStart => exact ⟨0, by omega, rfl, (fun i h hi => by omega), rfl⟩
  case round =>
    obtain ⟨j, hj, rfl, HF, HW⟩ := hrel
    have hw := HW.out
    subst hw
    obtain ⟨y0, y1, yf0, yf1⟩ := box2 HY5.out
    by_cases hlt : (j : Int) < (ln : Int)
    · obtain ⟨b, o, c, e9, q1, q2, q3⟩ := HL5.out.pos (by omega)
      simp only [Value.slice.injEq] at e9
      obtain ⟨rfl, -, rfl⟩ := e9
      have hjl : j < l.length := by have := HLN.out; omega
      obtain ⟨en, hen⟩ : ∃ en, en = l[j] := ⟨_, rfl⟩
      obtain ⟨ya, yc, d1, d2, y3⟩ := q3 j en (by rw [hen]; exact List.getElem?_eq_getElem hjl)
      have hb1 := bef_any wr _ _ k en.1 (by have q := HKF.out; exact q.1) y3.1
      have HF2 := HF
      rcases hx1 : kl k en.1 with _ | _
      · rw [hx1] at hb1
        have HB1' := Lib.hid hb1
        have HX1 := Lib.hid (And.intro hx1 hen)
        clear hb1 hx1 hen q3 y3
        obtain ⟨ek, er⟩ := en
        simp only at d1 d2 HB1'
        obtain ⟨yn, hyn⟩ : ∃ yn, yn = ek.length := ⟨_, rfl⟩
        rw [← hyn] at d1 HB1'
        clear hyn
        go_wp2_with (go_at_call 40; refine HB1'.out.mono ?_; rintro e w' ⟨rfl, rfl⟩)
        clear d1 d2
        go_roundw
        case rel => exact ⟨j + 1, by omega, by go_num, Lib.hid (fun i h hi => by
          rcases Nat.lt_or_ge i j with g | g
          · exact HF2.out i h g
          · obtain rfl : i = j := by omega
            have := HX1.out
            rw [← this.2]; exact this.1), HW⟩
        case measure => simp [intOf]; omega
      · rw [hx1] at hb1
        have HB1' := Lib.hid hb1
        have hfi := find_at hjl HF.out (by rw [← hen]; exact hx1)
        rw [← hen] at hfi
        have HFI := Lib.hid hfi
        have HY3 := Lib.hid y3
        clear hb1 hx1 hen q3 y3 hfi
        obtain ⟨ek, er⟩ := en
        simp only at d1 d2 HB1' HY3
        obtain ⟨yn, hyn⟩ : ∃ yn, yn = ek.length := ⟨_, rfl⟩
        rw [← hyn] at d1 HB1' HY3
        have HYN := Lib.hid hyn
        clear hyn
        go_wp2_with (go_at_call 40; refine HB1'.out.mono ?_; rintro e w' ⟨rfl, rfl⟩)
        obtain ⟨g0, g1⟩ := box2t (x := .slice ya yn yc) (y := .int .i64 er) y0 y1
        refine bodyPost_ret (v := .tuple #[.agg #[.slice ya yn yc, .int .i64 er], .int .i64 0]) (by simp [results, Try.results23, go_sem, g0, g1]; try rfl) rfl ?_
        refine ⟨fun en' he => ?_, fun he => (by rw [HFI.out] at he; cases he), (HB5.out.setCell (by show w.heap.size ≤ w.heap.size + 1; omega) _).setCell (by show w.heap.size ≤ w.heap.size + 1; omega) _⟩
        rw [HFI.out] at he
        cases he
        have h1 : (wr.setCell ⟨w.heap.size + 1, 0, none⟩ (.slice ya yn yc)).heap[w.heap.size + 1]? = some (.cells #[.slice ya yn yc, .int .i64 0] 36 (0, 0)) := by rw [Lib.heap_setCell_same HY5.out]; rfl
        refine ⟨ya, yc, by rw [HYN.out], ?_, fun _ _ _ _ _ => trivial⟩
        have q := HY3.out.1
        have q2 := rd_box2 (u := .int .i64 er) (j := 1) h1 (rd_box2 (u := .slice ya yn yc) (j := 0) HY5.out q)
        rw [HYN.out] at q2 ⊢
        exact q2
    · obtain rfl : j = ln := by omega
      have hno : (l.find? fun e => kl k e.1) = none := by
        rw [List.find?_eq_none]
        intro e he
        obtain ⟨i, hi, rfl⟩ := List.getElem_of_mem he
        simpa using HF.out i hi (by rw [HLN.out]; exact hi)
      have HNO := Lib.hid hno
      clear hno
      go_wp2_with fail
      obtain ⟨g0, g1⟩ := box2t (x := .slice none 0 0) (y := .int .i64 0) y0 y1
      refine bodyPost_ret (v := .tuple #[.agg #[.slice none 0 0, .int .i64 0], .int .i64 8]) (by simp [results, Try.results23, go_sem, g0, g1]; try rfl) rfl ?_
      exact ⟨fun en he => by (rw [HNO.out] at he; cases he), fun _ => rfl, (HB5.out.setCell (by show w.heap.size ≤ w.heap.size + 1; omega) _).setCell (by show w.heap.size ≤ w.heap.size + 1; omega) _⟩
end Go.Proofs.Ytacpeibkamfibaa
/- Program and document answer alike: a scan, the next entry. -/
namespace Go.Proofs.Ytacpeibkamfibaa
open Go.ChangeShapes Go.WideShapes Go.ChangeAt Go.RowKit Go.Shelf
set_option linter.unusedVariables false
set_option linter.unusedSimpArgs false
set_option maxHeartbeats 2000000
set_option maxRecDepth 100000
def EntR (k : Key) (r c : Int) (w : World) (e : Ending) (w' : World) : Prop := ∃ xa xc, e = .returned (.tuple #[.agg #[.slice xa k.length xc, .int .i64 r], .int .i64 c]) ∧ RB w' (fun _ => True) (.slice xa k.length xc) k ∧ Below w.heap.size w w'
def ScanR (es : List (Key × Int)) (c : Int) (w : World) (e : Ending) (w' : World) : Prop := ∃ a n c', e = .returned (.tuple #[.slice a n c', .int .i64 c]) ∧ EntV w' n (.slice a n c') es ∧ Below w.heap.size w w'
theorem NoEnt.r {c : Int} {w : World} {e : Ending} {w' : World} (h : NoEnt c w e w') : EntR [] 0 c w e w' := ⟨none, 0, h.1, rb_nil w', h.2⟩
theorem NilIs.r {c : Int} {w : World} {e : Ending} {w' : World} (h : NilIs c w e w') : ScanR [] c w e w' := ⟨none, 0, 0, h.1, ⟨[], rfl, Rd.nil w' 2, trivial⟩, h.2⟩
theorem ScanV.r {es : List (Key × Int)} {w : World} {e : Ending} {w' : World} (h : ScanV es w e w') : ScanR es 0 w e w' := h
theorem above_both {T : Tr} (k : Key) (hs : Small T) : ∃ (kk : Key) (r c : Int),
    (∀ (w : World) (ok ok1 : Nat → Prop) (tv kv : Value), (∀ b, ok b → b < w.heap.size) → RT w ok tv T → RB w ok1 kv k → Calls Try.prog 22 #[tv, kv] w (EntR kk r c w)) ∧
    (∀ (w : World) (ok ok1 : Nat → Prop) (tv kv : Value), (∀ b, ok b → b < w.heap.size) → RT w ok tv T → RB w ok1 kv k → Calls Try.prog 23 #[tv, kv] w (EntR kk r c w)) := by
  by_cases hb : T.pages.length ≤ 4000 ∧ Pass T
  · by_cases hk : k.length ≤ 100
    · obtain ⟨h, t, hr⟩ := pass_reps hb.2
      rcases hf : (entT h t).find? (fun e => kl k e.1) with _ | en
      · refine ⟨[], 0, 8, fun w ok ok1 tv kv h1 h2 h3 => ?_, fun w ok ok1 tv kv h1 h2 h3 => ?_⟩
        · refine (above_ok w ok ok1 h1 tv kv T h t k h2 hr h3 hb.1 hs hk).mono fun e w' q => ?_
          rw [first_is, hf] at q
          exact ⟨none, 0, q.1.2 rfl, rb_nil w', q.2⟩
        · refine (aboveK_ok w ok ok1 h1 tv kv T h t k h2 hr h3 hb.1 hs.2 hk).mono fun e w' q => ?_
          rw [hf] at q
          exact ⟨none, 0, q.2.1 rfl, rb_nil w', q.2.2⟩
      · refine ⟨en.1, en.2, 0, fun w ok ok1 tv kv h1 h2 h3 => ?_, fun w ok ok1 tv kv h1 h2 h3 => ?_⟩
        · refine (above_ok w ok ok1 h1 tv kv T h t k h2 hr h3 hb.1 hs hk).mono fun e w' q => ?_
          rw [first_is, hf] at q
          obtain ⟨x, rfl, r⟩ := q.1.1 en rfl
          have hr := Rd.own r
          obtain ⟨_, a, c, rfl, _⟩ := id hr
          exact ⟨a, c, rfl, ⟨hr, fun _ _ _ _ _ => trivial⟩, q.2⟩
        · refine (aboveK_ok w ok ok1 h1 tv kv T h t k h2 hr h3 hb.1 hs.2 hk).mono fun e w' q => ?_
          rw [hf] at q
          obtain ⟨xa, xc, rfl, r⟩ := q.1 en rfl
          exact ⟨xa, xc, rfl, r, q.2.2⟩
    · refine ⟨[], 0, 1, fun w ok ok1 tv kv h1 h2 h3 => ?_, fun w ok ok1 tv kv h1 h2 h3 => ?_⟩
      · obtain ⟨ak, ck, rfl⟩ := h3.sh
        exact (above_size w ok h1 tv ak _ ck T h2 hs hb (by omega)).mono fun e w' q => q.r
      · obtain ⟨ak, ck, rfl⟩ := h3.sh
        exact (aboveK_no w ok h1 tv ak _ ck T h2 hs.2 1 (.inr ⟨hb, by omega, rfl⟩)).mono fun e w' q => q.r
  · refine ⟨[], 0, 11, fun w ok ok1 tv kv h1 h2 h3 => ?_, fun w ok ok1 tv kv h1 h2 h3 => ?_⟩
    · obtain ⟨ak, ck, rfl⟩ := h3.sh
      exact (above_bad w ok h1 tv ak _ ck T h2 hs hb).mono fun e w' q => q.r
    · obtain ⟨ak, ck, rfl⟩ := h3.sh
      exact (aboveK_no w ok h1 tv ak _ ck T h2 hs.2 11 (.inl ⟨hb, rfl⟩)).mono fun e w' q => q.r
theorem scan_both {T : Tr} (k to : Key) (hs : Small T) : ∃ (es : List (Key × Int)) (c : Int), es.length ≤ 1000000 ∧
    (∀ (w : World) (ok ok1 ok2 : Nat → Prop) (tv kv mv : Value), (∀ b, ok b → b < w.heap.size) → RT w ok tv T → RB w ok1 kv k → RB w ok2 mv to → Calls Try.prog 17 #[tv, kv, mv] w (ScanR es c w)) ∧
    (∀ (w : World) (ok ok1 ok2 : Nat → Prop) (tv kv mv : Value), (∀ b, ok b → b < w.heap.size) → RT w ok tv T → RB w ok1 kv k → RB w ok2 mv to → Calls Try.prog 19 #[tv, kv, mv] w (ScanR es c w)) := by
  by_cases hb : T.pages.length ≤ 4000 ∧ Pass T
  · by_cases hk : k.length ≤ 100 ∧ to.length ≤ 100
    · obtain ⟨h, t, hr⟩ := pass_reps hb.2
      have hl := ent_len hr
      refine ⟨scanL k to (entT h t), 0, Nat.le_trans (List.length_filter_le _ _) (by omega), fun w ok ok1 ok2 tv kv mv h1 h2 h3 h4 => ?_, fun w ok ok1 ok2 tv kv mv h1 h2 h3 h4 => ?_⟩
      · exact (scan_ok w ok ok1 ok2 h1 tv kv mv T h t k to h2 hr h3 h4 hb.1 hs hk.1 hk.2 (by omega)).mono fun e w' q => q.v.r
      · exact (scanned_ok w ok ok1 ok2 h1 tv kv mv T h t k to h2 hr h3 h4 hb.1 hs.2 hk.1 hk.2).mono fun e w' q => q.r
    · refine ⟨[], 1, by simp, fun w ok ok1 ok2 tv kv mv h1 h2 h3 h4 => ?_, fun w ok ok1 ok2 tv kv mv h1 h2 h3 h4 => ?_⟩
      · obtain ⟨ak, ck, rfl⟩ := h3.sh
        obtain ⟨a2, c2, rfl⟩ := h4.sh
        exact (scan_size w ok h1 tv ak a2 _ ck _ c2 T h2 hs hb (by omega)).mono fun e w' q => q.r
      · obtain ⟨ak, ck, rfl⟩ := h3.sh
        obtain ⟨a2, c2, rfl⟩ := h4.sh
        exact (scanned_no w ok h1 tv ak a2 _ ck _ c2 T h2 hs.2 1 (.inr ⟨hb, by omega, rfl⟩)).mono fun e w' q => q.r
  · refine ⟨[], 11, by simp, fun w ok ok1 ok2 tv kv mv h1 h2 h3 h4 => ?_, fun w ok ok1 ok2 tv kv mv h1 h2 h3 h4 => ?_⟩
    · obtain ⟨ak, ck, rfl⟩ := h3.sh
      obtain ⟨a2, c2, rfl⟩ := h4.sh
      exact (scan_bad w ok h1 tv ak a2 _ ck _ c2 T h2 hs hb).mono fun e w' q => q.r
    · obtain ⟨ak, ck, rfl⟩ := h3.sh
      obtain ⟨a2, c2, rfl⟩ := h4.sh
      exact (scanned_no w ok h1 tv ak a2 _ ck _ c2 T h2 hs.2 11 (.inl ⟨hb, rfl⟩)).mono fun e w' q => q.r
end Go.Proofs.Ytacpeibkamfibaa
