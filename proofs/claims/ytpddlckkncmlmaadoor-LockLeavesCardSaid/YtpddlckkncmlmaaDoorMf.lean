/- Locks anew, in memory of the call's own. -/
import Derived.Test.YtpddlckkncmlmaaDoorNh
import Derived.Test.YtpddlckkncmlmaaDoorMa
import Derived.Test.YtpddlckkncmlmaaDoorMg
import Derived.Test.YtpddlckkncmlmaaDoorShe
import Derived.Lib.SliceRun
namespace Go.Proofs.YtpddlckkncmlmaaDoor
open Go.ChangeShapes Go.WideShapes Go.ChangeAt Go.RowKit
set_option linter.unusedVariables false
set_option linter.unusedSimpArgs false
set_option maxHeartbeats 4000000
set_option maxRecDepth 100000
theorem sclone_any (w : World) (s : ByteArray) (hs : s.size ≤ 281474976710656) : Calls Tryd.prog 18 #[.string s] w fun e w' => e = .returned (.string s) ∧ Below w.heap.size w w' := by
  go_enter Tryd.func18, Tryd.ntmps18
  go_wp2_with fail
  refine (Tryd.stringslite_Clone s w hs).mono ?_
  rintro e w1 ⟨rfl, hb⟩
  go_wp2_with fail
  go_ret
  exact ⟨rfl, hb⟩
theorem clone_any (w : World) (n : Nat) (v : Value) (l : List Lk) (hr : Rd w 3 n v (lkc l)) (hn : n ≤ 1000000) :
    Calls Tryd.prog 55 #[v] w fun e w' => ∃ v', e = .returned v' ∧ w'.ownsRow w.heap.size 26 3 v' n (lkc l) ∧ Below w.heap.size w w' := by
  have hml := len_l hr
  obtain ⟨h1, ao, cap, rfl, h2, h3, h4, h5⟩ := id hr
  have q : ∀ (w : World) (a : Option Addr) (n c n' c' : Nat), (binOp .eql 22 (.slice a n c) (.slice none n' c')).run Tryd.prog w = .ok (.bool a.isNone) w := fun w a n c n' c' => Lib.run_eql_slice_nil w _ _ a n c n' c' Tryd.underlying22
  cases ao with
  | none =>
    obtain ⟨rfl, rfl⟩ := h4 rfl
    have hl0 : l = [] := List.eq_nil_of_length_eq_zero hml.symm
    subst hl0
    clear hr h1 h5 hml
    go_enter Tryd.func55, Tryd.ntmps55
    go_wp2
    go_ret
    exact ⟨_, rfl, World.ownsRow_nil _ _ _ _, Below.refl _ _⟩
  | some a =>
    have HR := Lib.hid (hr.below ((Below.refl _ w).alloc (Nat.le_refl _) (.cells #[] 26)))
    clear hr h1 h5 h4 hml
    go_enter Tryd.func55, Tryd.ntmps55
    go_wp2_with (at_builtin; refine apg (w.alloc (.cells #[] 26)) n rfl _ _ 22 26 _ 3 32 Tryd.underlying22 Tryd.info26 rfl (by omega) rfl (World.ownsRow_made (base := w.heap.size) w #[] 0 (Nat.le_refl _) (Nat.zero_le _) rfl) (by simp) (by omega) (by unfold maxLen; omega) (lkc_one _) HR.out rfl rfl ?_; intro v1 w1 hown1 hb1 _; have HO := Lib.hid hown1; have HB := Lib.hid hb1; clear hown1 hb1)
    go_ret
    exact ⟨_, rfl, by simpa using HO.out, (((Below.refl _ w).alloc (Nat.le_refl _) _)).trans (HB.out.mono (Nat.le_refl _))⟩
theorem set_same {l : List Value} {j : Nat} {u : Value} (h : l[j]? = some u) : l.set j u = l := by
  obtain ⟨hj, rfl⟩ := List.getElem?_eq_some_iff.1 h
  exact List.set_getElem_self hj
/-- What is owned, in the shape in which its first cell's address shows. -/
theorem own_head {w : World} {B e s n : Nat} {v : Value} {xs : List Value} (h : w.ownsRow B e s v n xs) (hn : 0 < n) : ∃ g cap, v = .slice (some ⟨g, 0, none⟩) n cap ∧ B ≤ g ∧ g < w.heap.size ∧ n ≤ cap ∧ cap ≤ maxLen := by
  rcases h.2 with ⟨_, h0⟩ | ⟨g, cap, cur, hv, hb, hg, hnc, hcm, _⟩
  · omega
  · exact ⟨g, cap, hv, hb, (Array.getElem?_eq_some_iff.1 hg).1, hnc, hcm⟩
theorem own_lk {w : World} {B n g cap : Nat} {l : List Lk} (h : w.ownsRow B 26 3 (.slice (some ⟨g, 0, none⟩) n cap) n (lkc l)) {k : Nat} (hk : k < n) :
    (w.cell? ⟨g, k * 3, none⟩ = some (.int .i64 (l.getD k nlk).t) ∧ w.cell? ⟨g, k * 3 + 1, none⟩ = some (.string (l.getD k nlk).th) ∧ w.cell? ⟨g, k * 3 + 2, none⟩ = some (.int .i64 (l.getD k nlk).m)) ∧
    (w.frozen? ⟨g, k * 3, none⟩ = false ∧ w.frozen? ⟨g, k * 3 + 1, none⟩ = false ∧ w.frozen? ⟨g, k * 3 + 2, none⟩ = false) := by
  have hl : n = l.length := by have := h.1; rw [lkc_length] at this; omega
  obtain ⟨c0, c1, c2⟩ := lkc_at (l := l) (k := k) (by omega)
  exact ⟨⟨(h.cellAt _ (by omega)).trans c0, (h.cellAt _ (by omega)).trans c1, (h.cellAt _ (by omega)).trans c2⟩, h.frozenAt _, h.frozenAt _, h.frozenAt _⟩
theorem freshList_any (w : World) (n : Nat) (v : Value) (l : List Lk) (hr : Rd w 3 n v (lkc l)) (hn : n ≤ 1000000) (hs : ∀ x ∈ l, x.th.size ≤ 1000) :
    Calls Tryd.prog 38 #[v] w fun e w' => ∃ v', e = .returned v' ∧ w'.ownsRow w.heap.size 26 3 v' n (lkc l) ∧ Below w.heap.size w w' := by
  have hml := len_l hr
  have HC := Lib.hid (clone_any w n v l hr hn)
  have HS := Lib.hid hs
  have HN := Lib.hid hml
  clear hr hs hml
  by_cases h0 : n = 0
  · subst h0
    go_enter Tryd.func38, Tryd.ntmps38
    go_wp2_with fail
    refine HC.out.mono ?_
    rintro e w1 ⟨v1, rfl, hown1, hb1⟩
    obtain ⟨_, a1, c1, rfl, _⟩ := Rd.own hown1
    have HO1 := Lib.hid hown1
    have HB1 := Lib.hid hb1
    clear hown1 hb1
    go_wp2_with fail
    go_rounds 1
    go_ret
    exact ⟨_, rfl, HO1.out, HB1.out⟩
  · go_enter Tryd.func38, Tryd.ntmps38
    go_wp2_with fail
    refine HC.out.mono ?_
    rintro e w1 ⟨v1, rfl, hown1, hb1⟩
    obtain ⟨g, cap, rfl, hg1, hg2, hcap, hcm⟩ := own_head hown1 (by omega)
    unfold maxLen at hcm
    have HO1 := Lib.hid hown1
    have HB1 := Lib.hid hb1
    clear hown1 hb1
    go_wp2_with fail
    go_loopw [10] (fun i wr => ∃ k : Nat, k ≤ n ∧ i = .int .i64 (k : Int) ∧ Hid (wr.ownsRow w.heap.size 26 3 (.slice (some ⟨g, 0, none⟩) n cap) n (lkc l)) ∧ Hid (Below w.heap.size w wr)) (fun i _ => n - (intOf i).toNat)
    case atStart => exact ⟨0, by omega, rfl, HO1.out, HB1.out⟩
    case round =>
      obtain ⟨k, hk, rfl, HO, HB⟩ := hrel
      by_cases hlt : k < n
      · obtain ⟨⟨c0, c1, c2⟩, -⟩ := own_lk HO.out hlt
        have hkl : k < l.length := by rw [← HN.out]; exact hlt
        have hsz := HS.out _ (mem_getD hkl)
        have hat := (lkc_at hkl).2.1
        obtain ⟨u, hu⟩ : ∃ u, u = l.getD k nlk := ⟨_, rfl⟩
        rw [← hu] at c0 c1 c2 hsz hat
        have HAT := Lib.hid hat
        clear hu hkl hat
        obtain ⟨ut, uth, um⟩ := u
        simp only at c0 c1 c2 hsz
        have HCL : Hid (∀ W, Calls Tryd.prog 18 #[.string uth] W fun e w' => e = .returned (.string uth) ∧ Below W.heap.size W w') := fun W => sclone_any W uth (by omega)
        go_wp2_with fail
        refine (HCL.out _).mono ?_
        rintro e w2 ⟨rfl, hb2⟩
        have hbw : Below wr.heap.size wr w2 := into ((Below.refl _ _).alloc (Nat.le_refl _) _) hb2
        have HO2 := Lib.hid (own_below HO.out hbw)
        have HB2 := Lib.hid (into HB.out hbw)
        obtain ⟨⟨d0, d1, d2⟩, f0, f1, f2⟩ := own_lk HO2.out hlt
        clear hb2 hbw c0 c1 c2 d0 d2 f0 f2
        go_wp2_with fail
        have hst := HO2.out.stored (k * 3 + 1) (.string uth)
        rw [set_same HAT.out] at hst
        have HST := Lib.hid hst.1
        clear hst
        go_roundw
        case rel => exact ⟨k + 1, by omega, by go_num, HST.out, HB2.out.setCell hg1 _⟩
        case measure => (simp [intOf]) <;> omega
      · obtain rfl : k = n := by omega
        go_wp2_with fail
        go_ret
        exact ⟨_, rfl, HO.out, HB.out⟩
end Go.Proofs.YtpddlckkncmlmaaDoor
