/- Lists of numbers compared: what reads alike is the same. -/
import Derived.Test.YtpddlckkncmlmaaDoorZf
import Derived.Deep.RegionHeld3
namespace Go.Proofs.YtpddlckkncmlmaaDoor
open Go.ChangeShapes Go.WideShapes Go.ChangeAt Go.RowKit
set_option linter.unusedVariables false
set_option linter.unusedSimpArgs false
set_option maxHeartbeats 4000000
set_option maxRecDepth 100000
theorem ic_get {L : List Int} {k : Nat} (h : k < L.length) : (ic L)[k]? = some (.int .i64 (L.getD k 0)) := by simp [ic, List.getD, h]
theorem si_any (w : World) (n : Nat) (v v' : Value) (L : List Int) (h : Rd w 1 n v (ic L)) (h' : Rd w 1 n v' (ic L)) (hn : n ≤ 1000000) :
    Calls Tryd.prog 15 #[v, v'] w fun e w' => e = .returned (.bool true) ∧ Below w.heap.size w w' := by
  have hl : n = L.length := by have := h.1; simp [ic] at this; omega
  by_cases h0 : n = 0
  · subst h0
    obtain ⟨_, a, c, rfl, _⟩ := h.zero
    obtain ⟨_, a', c', rfl, _⟩ := h'.zero
    clear hl
    go_enter Tryd.func15, Tryd.ntmps15
    go_wp2
    go_rounds 1
    go_ret
    exact ⟨rfl, Below.refl _ _⟩
  · obtain ⟨b, o, cap, rfl, hcap, hcm, hbw, hc⟩ := h.pos (by omega) (by omega)
    obtain ⟨b', o', cap', rfl, hcap', hcm', hbw', hc'⟩ := h'.pos (by omega) (by omega)
    have HC : Hid (∀ k, k < n → w.cell? ⟨b, o + k, none⟩ = some (.int .i64 (L.getD k 0)) ∧ w.cell? ⟨b', o' + k, none⟩ = some (.int .i64 (L.getD k 0))) := fun k hk => ⟨hc k _ (ic_get (by omega)), hc' k _ (ic_get (by omega))⟩
    clear hl hc hc' h h' hcap hcm hcap' hcm' hbw hbw'
    go_enter Tryd.func15, Tryd.ntmps15
    go_wp2
    go_loopw [5] (fun iv wr => ∃ k : Nat, k ≤ n ∧ iv = .int .i64 (k : Int) ∧ Hid (Below w.heap.size w wr)) (fun iv _ => n - (intOf iv).toNat)
    case atStart => exact ⟨0, by omega, rfl, Below.refl _ _⟩
    case round =>
      obtain ⟨k, hk, rfl, HB⟩ := hrel
      by_cases hlt : k < n
      · obtain ⟨g0, g1⟩ := HC.out k hlt
        have c0 := cell_of_below HB.out g0
        have c1 := cell_of_below HB.out g1
        obtain ⟨t, ht⟩ : ∃ t, t = L.getD k 0 := ⟨_, rfl⟩
        rw [← ht] at c0 c1
        have hkI : (0 : Int) ≤ (k : Int) := by omega
        have hkn : (k : Int) < (n : Int) := by omega
        clear g0 g1 ht
        go_wp2_with fail
        go_quiet (fail)
        go_wp2_with fail
        go_roundw
        case rel => exact ⟨k + 1, by omega, by go_num, below_drewN HB.out _⟩
        case measure => simp [intOf]; omega
      · obtain rfl : k = n := by omega
        go_wp2_with fail
        go_ret
        exact ⟨rfl, HB.out⟩
theorem slists_any (w : World) (v v' : Value) (L : List (List Int)) (h : RJ w v L) (h' : RJ w v' L) (hn : L.length ≤ 1000000) (hk : ∀ k ∈ L, k.length ≤ 1000000) :
    Calls Tryd.prog 12 #[v, v'] w fun e w' => e = .returned (.bool true) ∧ Below w.heap.size w w' := by
  obtain ⟨vs, g1, g2⟩ := h
  obtain ⟨vs', g1', g2'⟩ := h'
  obtain ⟨n, hnn⟩ : ∃ n, n = L.length := ⟨_, rfl⟩
  rw [← hnn] at g1 g1' hn
  by_cases h0 : n = 0
  · subst h0
    obtain ⟨_, a, c, rfl, _⟩ := g1.zero
    obtain ⟨_, a', c', rfl, _⟩ := g1'.zero
    clear hnn g2 g2' hk g1 g1'
    go_enter Tryd.func12, Tryd.ntmps12
    go_wp2
    go_rounds 1
    go_ret
    exact ⟨rfl, Below.refl _ _⟩
  · obtain ⟨b, o, cap, rfl, hcap, hcm, hbw, hc⟩ := g1.pos (by omega) (by omega)
    obtain ⟨b', o', cap', rfl, hcap', hcm', hbw', hc'⟩ := g1'.pos (by omega) (by omega)
    have HC : Hid (∀ k, k < n → ∃ (K : List Int) (a : Option Addr) (c : Nat) (a' : Option Addr) (c' : Nat), K.length ≤ 1000000 ∧ w.cell? ⟨b, o + k, none⟩ = some (.slice a K.length c) ∧ w.cell? ⟨b', o' + k, none⟩ = some (.slice a' K.length c') ∧ Rd w 1 K.length (.slice a K.length c) (ic K) ∧ Rd w 1 K.length (.slice a' K.length c') (ic K)) := fun k hkn => by
      have hkl : k < L.length := by omega
      obtain ⟨a, c, e1, e2⟩ := g2 k _ (List.getElem?_eq_getElem hkl)
      obtain ⟨a', c', e1', e2'⟩ := g2' k _ (List.getElem?_eq_getElem hkl)
      exact ⟨L[k], a, c, a', c', hk _ (List.getElem_mem hkl), hc k _ e1, hc' k _ e1', e2, e2'⟩
    clear hnn hc hc' g1 g1' g2 g2' hcap hcm hcap' hcm' hbw hbw' hk
    go_enter Tryd.func12, Tryd.ntmps12
    go_wp2
    go_loopw [5] (fun iv wr => ∃ k : Nat, k ≤ n ∧ iv = .int .i64 (k : Int) ∧ Hid (Below w.heap.size w wr)) (fun iv _ => n - (intOf iv).toNat)
    case atStart => exact ⟨0, by omega, rfl, Below.refl _ _⟩
    case round =>
      obtain ⟨k, hk, rfl, HB⟩ := hrel
      by_cases hlt : k < n
      · obtain ⟨K, a, c, a', c', hKl, e0, e1, r0, r1⟩ := HC.out k hlt
        have c0 := cell_of_below HB.out e0
        have c1 := cell_of_below HB.out e1
        obtain ⟨m, hm⟩ : ∃ m, m = K.length := ⟨_, rfl⟩
        rw [← hm] at c0 c1 r0 r1 hKl
        have HSI : Hid (∀ W, Below wr.heap.size wr W → Calls Tryd.prog 15 #[.slice a m c, .slice a' m c'] W fun e w' => e = .returned (.bool true) ∧ Below W.heap.size W w') := fun W hW => si_any W m _ _ K (r0.below (into HB.out hW)) (r1.below (into HB.out hW)) hKl
        have HD : Hid (Below wr.heap.size wr wr.drew) := (Below.refl _ _).drew
        have hkI : (0 : Int) ≤ (k : Int) := by omega
        have hkn : (k : Int) < (n : Int) := by omega
        clear e0 e1 r0 r1 hm hKl
        go_wp2_with fail
        go_region_held3 (fun wx => wx.cell? ⟨b, o + k, none⟩ = some (.slice a m c) ∧ wx.cell? ⟨b', o' + k, none⟩ = some (.slice a' m c'))
          ((first
            | (with_reducible exact ⟨cell_dr c0, cell_dr c1⟩)
            | (with_reducible exact ⟨cell_of_below hb2 (cell_dr c0), cell_of_below hb2 (cell_dr c1)⟩)))
          ((first
            | (go_at_call 15; ((with_reducible refine (HSI.out wr.drew HD.out).mono ?_); rintro e w2 ⟨rfl, hb2⟩))))
        have HB2 := Lib.hid (into HB.out (into HD.out hb2))
        clear hb2 c0 c1
        go_wp2_with fail
        go_roundw
        case rel => exact ⟨k + 1, by omega, by go_num, HB2.out⟩
        case measure => simp [intOf]; omega
      · obtain rfl : k = n := by omega
        go_wp2_with fail
        go_ret
        exact ⟨rfl, HB.out⟩
end Go.Proofs.YtpddlckkncmlmaaDoor
