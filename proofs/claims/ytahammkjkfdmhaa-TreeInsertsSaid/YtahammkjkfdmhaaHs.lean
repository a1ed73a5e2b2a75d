/- Two trees that read alike are told to be the same. -/
import Derived.Test.YtahammkjkfdmhaaB1
import Derived.Test.YtahammkjkfdmhaaH5
namespace Go.Proofs.Ytahammkjkfdmhaa
open Go.ChangeShapes Go.WideShapes Go.ChangeAt Go.RowKit
set_option linter.unusedVariables false
set_option linter.unusedSimpArgs false
set_option maxHeartbeats 2000000
set_option maxRecDepth 100000
theorem below_drewN (w : World) (n : Nat) : Below w.heap.size w (w.drewN n) := ⟨rfl, rfl, rfl, Nat.le_refl _, fun k _ => rfl⟩
/-- The answer is true, and what was there stands. -/
def Yes (w : World) (e : Ending) (w' : World) : Prop := e = .returned (.bool true) ∧ Below w.heap.size w w'
theorem sameInts_yes (w : World) (o1 o2 : Nat → Prop) (u v : Value) (l : List Int) (hu : RI w o1 u l) (hv : RI w o2 v l) :
    Calls Try.prog 22 #[u, v] w (Yes w) := by
  obtain ⟨a, ca, rfl, a1, a2, a3⟩ := intsF hu
  obtain ⟨b, cb, rfl, b1, b2, b3⟩ := intsF hv
  obtain ⟨n, hn⟩ : ∃ n, n = l.length := ⟨_, rfl⟩
  rw [← hn] at a1 a3 b1 b3
  rw [← hn]
  unfold maxLen at a2 b2
  have HA := Lib.hid a3
  have HB := Lib.hid b3
  clear a3 b3 hn hu hv
  go_enter Try.func22, Try.ntmps22
  go_wp2
  go_loopw [5] (fun i wr => ∃ k : Nat, k ≤ n ∧ i = .int .i64 (k : Int) ∧ Below w.heap.size w wr) (fun i _ => n - (intOf i).toNat)
  case atStart => exact ⟨0, by omega, rfl, Below.refl _ _⟩
  case round =>
    obtain ⟨k, hk, rfl, hb⟩ := hrel
    have hz := hb.size
    have HBW := Lib.hid hb
    clear hb
    by_cases hlt : k < n
    · obtain ⟨b1', o1', rfl, h1, _, c1⟩ := HA.out k hlt
      obtain ⟨b2', o2', rfl, h2, _, c2⟩ := HB.out k hlt
      have d1 := (HBW.out.cell (p := ⟨b1', o1' + k, none⟩) h1).trans c1
      have d2 := (HBW.out.cell (p := ⟨b2', o2' + k, none⟩) h2).trans c2
      obtain ⟨x, hx⟩ : ∃ x, x = l.getD k 0 := ⟨_, rfl⟩
      rw [← hx] at d1 d2
      have hlt' : (k : Int) < (n : Int) := by omega
      clear c1 c2 hx
      go_wp2
      go_quiet (fail)
      go_wp2
      go_roundw
      case rel => exact ⟨k + 1, by omega, by go_num, HBW.out.trans (((below_drewN wr nq)).mono hz)⟩
      case measure => simp [intOf]; omega
    · obtain rfl : k = n := by omega
      go_wp2
      go_ret
      exact ⟨rfl, HBW.out⟩
theorem cell_below {W W' : World} {a : Addr} {v : Value} (hb : Below W.heap.size W W') (h : W.cell? a = some v) : W'.cell? a = some v := (hb.cell (lt_cell h)).trans h
theorem sameTree_yes (w : World) (o1 o2 : Nat → Prop) (u v : Value) (T : Tr) (hu : RT w o1 u T) (hv : RT w o2 v T) :
    Calls Try.prog 9 #[u, v] w (Yes w) := by
  obtain ⟨a, ca, ka, da, ga, rfl, a1, a2, a3⟩ := pagesF hu
  obtain ⟨b, cb, kb, db, gb, rfl, b1, b2, b3⟩ := pagesF hv
  obtain ⟨n, hn⟩ : ∃ n, n = T.pages.length := ⟨_, rfl⟩
  obtain ⟨rt, hrt⟩ : ∃ rt, rt = T.root := ⟨_, rfl⟩
  rw [← hn] at a1 a3 b1 b3
  rw [← hn, ← hrt]
  unfold maxLen at a2 b2
  have HA := Lib.hid a3
  have HB := Lib.hid b3
  clear a3 b3 hn hu hv hrt
  go_enter Try.func9, Try.ntmps9
  go_wp2
  go_loopw [5] (fun i wr => ∃ k : Nat, k ≤ n ∧ i = .int .i64 (k : Int) ∧ Below w.heap.size w wr ∧ w.heap.size + 1 < wr.heap.size ∧ wr.cell? ⟨w.heap.size, 0, none⟩ = some (.slice a n ca) ∧ wr.cell? ⟨w.heap.size + 1, 0, none⟩ = some (.slice b n cb)) (fun i _ => n - (intOf i).toNat)
  case atStart => exact ⟨0, by omega, rfl, by go_grown, by simp, by first | go_simp | simp, by first | go_simp | simp⟩
  case round =>
    obtain ⟨k, hk, rfl, hb, hz, c0, c1⟩ := hrel
    have HBW := Lib.hid hb
    clear hb
    by_cases hlt : k < n
    · obtain ⟨p1, q1, rfl, h1, _, ha⟩ := HA.out k hlt
      obtain ⟨p2, q2, rfl, h2, _, hb⟩ := HB.out k hlt
      obtain ⟨p, hp⟩ : ∃ p, p = T.pages.getD k noPg := ⟨_, rfl⟩
      rw [← hp] at ha hb
      obtain ⟨pl, pks, pds, ph, pn⟩ := p
      obtain ⟨x1, x2, x3, x4, x5, x6, x7, x8⟩ := ha.below HBW.out
      obtain ⟨y1, y2, y3, y4, y5, y6, y7, y8⟩ := hb.below HBW.out
      simp only at x1 x5 x6 x7 x8 y1 y5 y6 y7 y8
      obtain ⟨xk, xc, xf, xk0, xk1, xk2, xk3⟩ := keysF x6
      obtain ⟨yk, yc, yf, yk0, yk1, yk2, yk3⟩ := keysF y6
      obtain ⟨xd, xe, xd0, _, _, _⟩ := intsF x7
      obtain ⟨yd, ye, yd0, _, _, _⟩ := intsF y7
      obtain ⟨xg, xh, xg0⟩ := x8.sh
      obtain ⟨yg, yh, yg0⟩ := y8.sh
      rw [xk0] at x2
      rw [yk0] at y2
      rw [xd0] at x3 x7
      rw [yd0] at y3 y7
      rw [xg0] at x4 x8
      rw [yg0] at y4 y8
      obtain ⟨K, hK⟩ : ∃ K, K = pks.length := ⟨_, rfl⟩
      obtain ⟨Kd, hKd⟩ : ∃ K, K = pds.length := ⟨_, rfl⟩
      obtain ⟨Kg, hKg⟩ : ∃ K, K = ph.length := ⟨_, rfl⟩
      rw [← hK] at x2 y2 xk1 xk3 yk1 yk3
      rw [← hKd] at x3 x7 y3 y7
      rw [← hKg] at x4 x8 y4 y8
      unfold maxLen at xk2 yk2
      have hpr1 : p1 < wr.heap.size := by omega
      have hpr2 : p2 < wr.heap.size := by omega
      have X3 := Lib.hid xk3
      have Y3 := Lib.hid yk3
      have X7 := Lib.hid x7
      have Y7 := Lib.hid y7
      have X8 := Lib.hid x8
      have Y8 := Lib.hid y8
      clear ha hb x6 y6 x7 y7 x8 y8 xk0 yk0 xk3 yk3 xd0 yd0 xg0 yg0 hK hKd hKg hp
      obtain ⟨W, hW⟩ : ∃ W : World, W = (wr.alloc (.cells #[.bool pl, .slice xk K xc, .slice xd Kd xe, .slice xg Kg xh, .int .i64 pn] 43)).alloc (.cells #[.bool pl, .slice yk K yc, .slice yd Kd ye, .slice yg Kg yh, .int .i64 pn] 43) := ⟨_, rfl⟩
      have hBW : Below wr.heap.size wr W := by rw [hW]; go_grown
      have s1 := str_of (X8.out.below hBW).1
      have s2 := str_of (Y8.out.below hBW).1
      rw [hW] at s1 s2
      have HBX := Lib.hid hBW
      have HW := Lib.hid hW
      clear hBW hW
      have e1 : W.cell? ⟨wr.heap.size, 1, none⟩ = some (.slice xk K xc) := by rw [HW.out]; simp
      have e2 : W.cell? ⟨wr.heap.size + 1, 1, none⟩ = some (.slice yk K yc) := by rw [HW.out]; simp
      have zW : W.heap.size = wr.heap.size + 2 := by rw [HW.out]; simp
      go_wp2_with fail
      rw [← HW.out]
      refine (sameInts_yes W o1 o2 _ _ pds (X7.out.below HBX.out) (Y7.out.below HBX.out)).mono ?_
      rintro e w2 ⟨rfl, hb2⟩
      have z2 := hb2.size
      have f1 := cell_below hb2 e1
      have f2 := cell_below hb2 e2
      have hB2 : Below w.heap.size w w2 := HBW.out.trans ((into HBX.out hb2).mono (by omega))
      have hBr : Below wr.heap.size wr w2 := into HBX.out hb2
      have c0' := cell_below hBr c0
      have c1' := cell_below hBr c1
      have HB2 := Lib.hid hB2
      have HBR := Lib.hid hBr
      clear s1 s2 hb2 hB2 hBr e1 e2
      go_wp2
      obtain ⟨wo, rfl⟩ : ∃ wo : World, wo = wr := ⟨_, rfl⟩
      go_loopw [8] (fun i wr => ∃ q : Nat, q ≤ K ∧ i = .int .i64 (q : Int) ∧ Below w2.heap.size w2 wr) (fun i _ => K - (intOf i).toNat)
      case atStart => exact ⟨0, by omega, rfl, Below.refl _ _⟩
      case round =>
        obtain ⟨q, hq, rfl, hb⟩ := hrel
        have g1 := cell_below hb f1
        have g2 := cell_below hb f2
        have hz3 := hb.size
        have HB3 := Lib.hid hb
        by_cases hlt2 : q < K
        · obtain ⟨b3, o3, rfl, h3, _, m1, m2⟩ := X3.out q hlt2
          obtain ⟨b4, o4, rfl, h4, _, m3, m4⟩ := Y3.out q hlt2
          obtain ⟨s, hs⟩ : ∃ s, s = pks.getD q [] := ⟨_, rfl⟩
          rw [← hs] at m2 m4
          have hB := (HBR.out.trans (hb.mono (by omega)))
          have m1' := cell_below hB m1
          have m3' := cell_below hB m3
          have t1 : ∀ nq, (convert 25 9 (xf q)).run Try.prog (wr.drewN nq) = .ok (.string ⟨s.toArray⟩) (wr.drewN nq) := fun nq => str_of ((m2.below hB).below (below_drewN _ _)).1
          have t2 : ∀ nq, (convert 25 9 (yf q)).run Try.prog (wr.drewN nq) = .ok (.string ⟨s.toArray⟩) (wr.drewN nq) := fun nq => str_of ((m4.below hB).below (below_drewN _ _)).1
          have hq1 : (q : Int) < (K : Int) := by omega
          clear m1 m2 m3 m4 hB hb hs
          go_wp2
          go_quiet (fail)
          go_wp2
          go_roundw
          case rel => exact ⟨q + 1, by omega, by go_num, HB3.out.trans ((below_drewN wr nq).mono hz3)⟩
          case measure => simp [intOf]; omega
        · obtain rfl : q = K := by omega
          have k0 := cell_below hb c0'
          have k1 := cell_below hb c1'
          have HBn := Lib.hid (HB2.out.trans (hb.mono HB2.out.size))
          clear hb
          go_wp2
          go_roundw
          case rel => exact ⟨k + 1, by omega, by go_num, HBn.out, by omega, k0, k1⟩
          case measure => simp [intOf]; omega
    · obtain rfl : k = n := by omega
      go_wp2
      go_ret
      exact ⟨rfl, HBW.out⟩
end Go.Proofs.Ytahammkjkfdmhaa
