/- The document's scans, and entries compared. -/
import Derived.Test.YtacpeibkamfibaaXk
import Derived.Test.YtacpeibkamfibaaTa
namespace Go.Proofs.Ytacpeibkamfibaa
open Go.ChangeShapes Go.WideShapes Go.ChangeAt Go.RowKit Go.Shelf
set_option linter.unusedVariables false
set_option linter.unusedSimpArgs false
set_option maxHeartbeats 8000000
set_option maxRecDepth 100000
theorem sameEntry_yes (w : World) (ok1 ok2 : Nat → Prop) (xa ya : Option Addr) (m xc yc : Nat) (k : Key) (r : Int) (hx : RB w ok1 (.slice xa m xc) k) (hy : RB w ok2 (.slice ya m yc) k) :
    Calls Try.prog 24 #[.agg #[.slice xa m xc, .int .i64 r], .agg #[.slice ya m yc, .int .i64 r]] w (Yes w) := by
  obtain ⟨W0, hW0⟩ : ∃ W0 : World, W0 = (w.alloc (.cells #[.slice xa m xc, .int .i64 r] 36)).alloc (.cells #[.slice ya m yc, .int .i64 r] 36) := ⟨_, rfl⟩
  have hb0 : Below w.heap.size w W0 := by rw [hW0]; exact ((Below.refl _ _).alloc (Nat.le_refl _) _).alloc (by simp) _
  have t1 := str_of (hx.below hb0).1
  have t2 := str_of (hy.below hb0).1
  rw [hW0] at t1 t2
  have HW0 := Lib.hid hW0
  clear hx hy hW0
  go_enter Try.func24, Try.ntmps24
  go_wp2
  go_ret
  refine ⟨rfl, ?_⟩
  rw [← HW0.out]
  exact hb0
theorem sameEntries_yes (w : World) (n : Nat) (u v : Value) (es : List (Key × Int)) (hu : EntV w n u es) (hv : EntV w n v es) (hn : n ≤ 1000000000) : Calls Try.prog 20 #[u, v] w (Yes w) := by
  obtain ⟨ua, uc, rfl⟩ := hu.sh
  obtain ⟨va, vc, rfl⟩ := hv.sh
  have hln : n = es.length := by obtain ⟨_, h, -, -⟩ := hu; exact h
  have HU := Lib.hid hu
  have HV := Lib.hid hv
  have HLN := Lib.hid hln
  clear hu hv hln
  go_enter Try.func20, Try.ntmps20
  go_wp2_with fail
  go_loopw [5] (fun i wr => ∃ x : Nat, x ≤ n ∧ i = .int .i64 (x : Int) ∧ Hid (Below w.heap.size w wr)) (fun i _ => n - (intOf i).toNat)
  case atStart => exact ⟨0, by omega, rfl, Below.refl _ _⟩
  case round =>
    obtain ⟨x, hx, rfl, HQ⟩ := hrel
    by_cases hlt : (x : Int) < (n : Int)
    · obtain ⟨b1, o1, c1, e9, -, -, p3⟩ := HU.out.pos (by omega)
      simp only [Value.slice.injEq] at e9
      obtain ⟨rfl, -, rfl⟩ := e9
      obtain ⟨b2, o2, c2, e8, -, -, p4⟩ := HV.out.pos (by omega)
      simp only [Value.slice.injEq] at e8
      obtain ⟨rfl, -, rfl⟩ := e8
      have hxl : x < es.length := by have := HLN.out; omega
      obtain ⟨en, hen⟩ : ∃ en, en = es[x] := ⟨_, rfl⟩
      have hat : es[x]? = some en := by rw [hen]; exact List.getElem?_eq_getElem hxl
      obtain ⟨ya, yc, y1, y2, y3⟩ := p3 x en hat
      obtain ⟨za, zc, u1, u2, u3⟩ := p4 x en hat
      have g1 := cell_of_below HQ.out y1
      have g2 := cell_of_below HQ.out y2
      have g3 := cell_of_below HQ.out u1
      have g4 := cell_of_below HQ.out u2
      obtain ⟨ek, er⟩ := en
      simp only at g1 g2 g3 g4 y3 u3
      obtain ⟨yn, hyn⟩ : ∃ yn, yn = ek.length := ⟨_, rfl⟩
      rw [← hyn] at g1 g3 y3 u3
      have HC := Lib.hid (fun (W' : World) (hW : Below wr.heap.size wr W') => sameEntry_yes W' _ _ ya za yn yc zc ek er ((y3.below HQ.out).below hW) ((u3.below HQ.out).below hW))
      clear y1 y2 y3 u1 u2 u3 p3 p4 hen hat hyn hxl
      go_wp2_with fail
      refine wpT_begin2 (S := (fun wx => wx.cell? ⟨b1, o1 + x * 2, none⟩ = some (.slice ya yn yc) ∧ wx.cell? ⟨b1, o1 + x * 2 + 1, none⟩ = some (.int .i64 er) ∧ wx.cell? ⟨b2, o2 + x * 2, none⟩ = some (.slice za yn zc) ∧ wx.cell? ⟨b2, o2 + x * 2 + 1, none⟩ = some (.int .i64 er) ∧ Below wr.heap.size wr wx)) [] (by kernel_rfl) ?_ (fun Wd hHeld => ?_)
      · (try dsimp only)
        exact ⟨cell_dr g1, cell_dr g2, cell_dr g3, cell_dr g4, (Below.refl _ _).drew⟩
      refine wpAnyT_pure (i := 0) (oi := _) (v := ?_) rfl (by kernel_rfl) (by kernel_rfl) (by kernel_rfl) (by kernel_rfl) (fun _ _ _ h => h) (Or.inl ⟨by rfl, ?_⟩) (fun _ => by assumption) ?_
      rotate_left
      · (intro w hSw; go_simp)
        all_goals (with_reducible rfl)
      (try simp only [List.getElem_toArray, List.getElem_cons_zero, List.getElem_cons_succ, Act.put, List.setIfInBounds_toArray, List.set_cons_zero, List.set_cons_succ])
      refine wpAnyT_pure (i := 1) (oi := _) (v := ?_) rfl (by kernel_rfl) (by kernel_rfl) (by kernel_rfl) (by kernel_rfl) (fun _ _ _ h => h) (Or.inl ⟨by rfl, ?_⟩) (fun _ => by assumption) ?_
      rotate_left
      · (intro w hSw; go_simp)
        all_goals (with_reducible rfl)
      (try simp only [List.getElem_toArray, List.getElem_cons_zero, List.getElem_cons_succ, Act.put, List.setIfInBounds_toArray, List.set_cons_zero, List.set_cons_succ])
      refine wpAnyT_pure (i := 2) (oi := _) (v := ?_) rfl (by kernel_rfl) (by kernel_rfl) (by kernel_rfl) (by kernel_rfl) (fun _ _ _ h => h) (Or.inl ⟨by rfl, ?_⟩) (fun _ => by assumption) ?_
      rotate_left
      · (intro w hSw; go_simp)
        all_goals (with_reducible rfl)
      (try simp only [List.getElem_toArray, List.getElem_cons_zero, List.getElem_cons_succ, Act.put, List.setIfInBounds_toArray, List.set_cons_zero, List.set_cons_succ])
      refine wpAnyT_take (i := 3) (oi := _) (v := ?_) rfl (by kernel_rfl) (by kernel_rfl) (by kernel_rfl) (by kernel_rfl) (fun _ _ _ h => h) (Or.inl ⟨by rfl, ?_⟩) (by assumption) ?_
      rotate_left
      · (intro w hSw; (try dsimp only at hSw); go_simp)
        all_goals (with_reducible rfl)
      (try simp only [List.getElem_toArray, List.getElem_cons_zero, List.getElem_cons_succ, Act.put, List.setIfInBounds_toArray, List.set_cons_zero, List.set_cons_succ])
      refine wpAnyT_pure (i := 4) (oi := _) (v := ?_) rfl (by kernel_rfl) (by kernel_rfl) (by kernel_rfl) (by kernel_rfl) (fun _ _ _ h => h) (Or.inl ⟨by rfl, ?_⟩) (fun _ => by assumption) ?_
      rotate_left
      · (intro w hSw; go_simp)
        all_goals (with_reducible rfl)
      (try simp only [List.getElem_toArray, List.getElem_cons_zero, List.getElem_cons_succ, Act.put, List.setIfInBounds_toArray, List.set_cons_zero, List.set_cons_succ])
      refine wpAnyT_pure (i := 5) (oi := _) (v := ?_) rfl (by kernel_rfl) (by kernel_rfl) (by kernel_rfl) (by kernel_rfl) (fun _ _ _ h => h) (Or.inl ⟨by rfl, ?_⟩) (fun _ => by assumption) ?_
      rotate_left
      · (intro w hSw; go_simp)
        all_goals (with_reducible rfl)
      (try simp only [List.getElem_toArray, List.getElem_cons_zero, List.getElem_cons_succ, Act.put, List.setIfInBounds_toArray, List.set_cons_zero, List.set_cons_succ])
      refine wpAnyT_pure (i := 6) (oi := _) (v := ?_) rfl (by kernel_rfl) (by kernel_rfl) (by kernel_rfl) (by kernel_rfl) (fun _ _ _ h => h) (Or.inl ⟨by rfl, ?_⟩) (fun _ => by assumption) ?_
      rotate_left
      · (intro w hSw; go_simp)
        all_goals (with_reducible rfl)
      (try simp only [List.getElem_toArray, List.getElem_cons_zero, List.getElem_cons_succ, Act.put, List.setIfInBounds_toArray, List.set_cons_zero, List.set_cons_succ])
      refine wpAnyT_take (i := 7) (oi := _) (v := ?_) rfl (by kernel_rfl) (by kernel_rfl) (by kernel_rfl) (by kernel_rfl) (fun _ _ _ h => h) (Or.inl ⟨by rfl, ?_⟩) (by assumption) ?_
      rotate_left
      · (intro w hSw; (try dsimp only at hSw); go_simp)
        all_goals (with_reducible rfl)
      (try simp only [List.getElem_toArray, List.getElem_cons_zero, List.getElem_cons_succ, Act.put, List.setIfInBounds_toArray, List.set_cons_zero, List.set_cons_succ])
      refine wpAnyT_ready (rs := [8]) (by kernel_rfl) (by simp) ?_
      refine AllReadyT.cons rfl (fun K hK => ?_) AllReadyT.nil
      go_simp
      (go_at_call 24; refine (HC.out _ hHeld.2.2.2.2).mono ?_; rintro e w6 ⟨rfl, hbc⟩)
      go_wp2_with fail
      refine hK.out _ _ (fun _ => ?_) (fun hHeld0 => ?_)
      · (try dsimp only)
        exact ⟨cell_bel hbc (hHeld.1), cell_bel hbc (hHeld.2.1), cell_bel hbc (hHeld.2.2.1), cell_bel hbc (hHeld.2.2.2.1), Below.trans (hHeld.2.2.2.2) (hbc.mono (hHeld.2.2.2.2).size)⟩
      have hHeld1 := hHeld0 (by kernel_rfl)
      clear hK K hHeld0
      clear hHeld; have hHeld := hHeld1; clear hHeld1
      (try simp only [List.getElem_toArray, List.getElem_cons_zero, List.getElem_cons_succ, Act.put, List.setIfInBounds_toArray, List.set_cons_zero, List.set_cons_succ])
      refine wpAnyT_pure (i := 9) (oi := _) (v := ?_) rfl (by kernel_rfl) (by kernel_rfl) (by kernel_rfl) (by kernel_rfl) (fun _ _ _ h => h) (Or.inl ⟨by rfl, ?_⟩) (fun _ => by assumption) ?_
      rotate_left
      · (intro w hSw; go_simp)
        all_goals (with_reducible rfl)
      (try simp only [List.getElem_toArray, List.getElem_cons_zero, List.getElem_cons_succ, Act.put, List.setIfInBounds_toArray, List.set_cons_zero, List.set_cons_succ])
      refine wpAnyT_done (by kernel_rfl) ?_ _
      have HQ6 := Lib.hid (HQ.out.trans (hHeld.2.2.2.2.mono HQ.out.size))
      clear hHeld hbc g1 g2 g3 g4
      go_wp2_with fail
      go_roundw
      case rel => exact ⟨x + 1, by omega, by go_num, HQ6.out⟩
      case measure => simp [intOf]; omega
    · go_wp2_with fail
      go_ret
      exact ⟨rfl, HQ.out⟩
theorem scanned_no (w : World) (ok : Nat → Prop) (hok : ∀ b, ok b → b < w.heap.size) (tv : Value) (ak a2 : Option Addr) (nk ck n2 c2 : Nat) (T : Tr) (ht : RT w ok tv T) (hrr : Rng T.root) (c : Int) (h : (¬ (T.pages.length ≤ 4000 ∧ Pass T) ∧ c = 11) ∨ ((T.pages.length ≤ 4000 ∧ Pass T) ∧ (100 < nk ∨ 100 < n2) ∧ c = 1)) :
    Calls Try.prog 19 #[tv, .slice ak nk ck, .slice a2 n2 c2] w (NilIs c w) := by
  obtain ⟨ao, n, cap, rfl⟩ := rt_shape ht
  have hb0 : Below w.heap.size w (w.alloc (.cells #[.slice ao n cap, .int .i64 T.root] 24)) := bel_al _ _
  have hc := treeFault_any (w.alloc (.cells #[.slice ao n cap, .int .i64 T.root] 24)) ok (fun b hb' => by have := hok b hb'; simp; omega) _ T (ht.below hb0) hrr
  unfold ChkIs at hc
  rcases h with ⟨h1, rfl⟩ | ⟨h1, h2, rfl⟩
  · rw [chkT_no h1] at hc
    have HC := Lib.hid hc
    clear hc ht
    go_enter Try.func19, Try.ntmps19
    go_wp2_with fail
    refine HC.out.mono ?_
    rintro e w1 ⟨rfl, hb1⟩
    have HB := Lib.hid (into hb0 hb1)
    clear hb1
    go_wp2
    go_ret2
    exact ⟨rfl, HB.out⟩
  · rw [chkT_yes h1.1 h1.2] at hc
    have HC := Lib.hid hc
    clear hc ht
    by_cases h3 : (100 : Int) < (nk : Int)
    · go_enter Try.func19, Try.ntmps19
      go_wp2_with fail
      refine HC.out.mono ?_
      rintro e w1 ⟨rfl, hb1⟩
      have HB := Lib.hid (into hb0 hb1)
      clear hb1
      go_wp2
      go_ret2
      exact ⟨rfl, HB.out⟩
    · have h4 : (100 : Int) < (n2 : Int) := by omega
      go_enter Try.func19, Try.ntmps19
      go_wp2_with fail
      refine HC.out.mono ?_
      rintro e w1 ⟨rfl, hb1⟩
      have HB := Lib.hid (into hb0 hb1)
      clear hb1
      go_wp2
      go_ret2
      exact ⟨rfl, HB.out⟩
end Go.Proofs.Ytacpeibkamfibaa
