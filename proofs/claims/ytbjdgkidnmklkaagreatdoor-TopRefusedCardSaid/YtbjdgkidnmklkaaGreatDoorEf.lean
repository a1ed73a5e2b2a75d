/- session.Run, where no session says anything. -/
import Derived.Test.YtbjdgkidnmklkaaGreatDoorEb
import Derived.RegionTactic
import Derived.ChangeAlike
import Derived.Lib.BufferMore
namespace Go.Proofs.YtbjdgkidnmklkaaGreatDoor
open Go.ChangeShapes Go.WideShapes Go.ChangeAt Go.RowKit
set_option linter.unusedVariables false
set_option linter.unusedSimpArgs false
set_option maxHeartbeats 2000000
set_option maxRecDepth 100000
/-- A seat that is new; so many of them. -/
def z6 : List Value := [.slice none 0 0, .slice none 0 0, .int .i64 0, .bool false, .bool false, .slice none 0 0]
def zl : Nat → List Value
  | 0 => []
  | n + 1 => z6 ++ zl n
theorem zl_len : ∀ n, (zl n).length = n * 6
  | 0 => rfl
  | n + 1 => by rw [zl, List.length_append, zl_len n]; simp [z6]; omega
theorem zl_at : ∀ (n j i : Nat) (u : Value), j < n → z6[i]? = some u → (zl n)[j * 6 + i]? = some u
  | 0, j, i, u, h, _ => by omega
  | n + 1, 0, i, u, _, h => by
    have hi : i < z6.length := (List.getElem?_eq_some_iff.1 h).1
    rw [Nat.zero_mul, Nat.zero_add, zl, List.getElem?_append_left hi]
    exact h
  | n + 1, j + 1, i, u, hj, h => by
    rw [zl, List.getElem?_append_right (by simp [z6]; omega)]
    have e : (j + 1) * 6 + i - z6.length = j * 6 + i := by simp [z6]; omega
    rw [e]
    exact zl_at n j i u (by omega) h
/-- New seats in a block. -/
def Zs (w : World) (B n : Nat) : Prop := w.heap[B]? = some (.cells (zl n).toArray 46 (0, 0))
theorem Zs.cell {w : World} {B n : Nat} (h : Zs w B n) {j i : Nat} {u : Value} (hj : j < n) (hu : z6[i]? = some u) : w.cell? ⟨B, j * 6 + i, none⟩ = some u := by
  have e : (zl n).toArray[j * 6 + i]? = some u := by simpa using zl_at n j i u hj hu
  unfold Zs at h
  simp [World.cell?, h, e]
theorem Zs.frozen {w : World} {B n : Nat} (h : Zs w B n) (i : Nat) : w.frozen? ⟨B, i, none⟩ = false := by
  unfold Zs at h
  simp [World.frozen?, h]
theorem Zs.below {w w' : World} {B n : Nat} (h : Zs w B n) (hb : Below w.heap.size w w') : Zs w' B n := by
  unfold Zs at h ⊢
  refine (hb.block B ?_).trans h
  rcases Nat.lt_or_ge B w.heap.size with g | g
  · exact g
  · rw [Array.getElem?_eq_none g] at h; cases h
theorem set_self {a : Array Value} {i : Nat} {x : Value} (h : a[i]? = some x) : a.setIfInBounds i x = a := by
  apply Array.ext'
  rw [Array.toList_setIfInBounds]
  apply List.ext_getElem?
  intro k
  rw [List.getElem?_set]
  split
  · next e =>
    subst e
    split
    · next hlt =>
      rw [← h]
      simp
    · next hlt => rw [List.getElem?_eq_none (by omega)]
  · rfl
theorem goes_any (w : World) : Calls Tryz.prog 10 #[.agg #[.slice none 0 0, .slice none 0 0, .int .i64 0, .bool false, .bool false, .slice none 0 0]] w fun e w' => e = .returned (.bool false) ∧ Below w.heap.size w w' := by
  go_enter Tryz.func10, Tryz.ntmps10
  go_wp2
  go_ret
  exact ⟨rfl, by go_grown⟩
theorem idxT_no (w : World) (B n : Nat) (hn : n ≤ 4) (hz : Zs w B n) :
    Calls Tryz.prog 18 #[.slice (some ⟨B, 0, none⟩) n n, .func (.func 10) #[] #[]] w fun e w' => e = .returned (.int .i64 (-1)) ∧ Below w.heap.size w w' := by
  have HZ := Lib.hid hz
  clear hz
  go_enter Tryz.func18, Tryz.ntmps18
  go_wp2_with fail
  go_loopw [8] (fun i wr => ∃ k : Nat, k ≤ n ∧ i = .int .i64 (k : Int) ∧ Hid (Below w.heap.size w wr)) (fun i _ => n - (intOf i).toNat)
  case atStart => exact ⟨0, by omega, rfl, Below.refl _ _⟩
  case round =>
    obtain ⟨k, hk, rfl, HB⟩ := hrel
    by_cases hlt : k < n
    · have hz := HZ.out.below HB.out
      have c0 := hz.cell (i := 0) hlt rfl
      have c1 := hz.cell (i := 1) hlt rfl
      have c2 := hz.cell (i := 2) hlt rfl
      have c3 := hz.cell (i := 3) hlt rfl
      have c4 := hz.cell (i := 4) hlt rfl
      have c5 := hz.cell (i := 5) hlt rfl
      rw [Nat.add_zero] at c0
      have HG := Lib.hid (goes_any wr)
      clear hz
      go_wp2_with (go_at_call 10; ((with_reducible refine HG.out.mono ?_); rintro e w2 ⟨rfl, hb2⟩; have HB2 := Lib.hid (into HB.out hb2); clear hb2))
      go_roundw
      case rel => exact ⟨k + 1, by omega, by go_num, HB2.out⟩
      case measure => (simp [intOf]) <;> omega
    · go_wp2_with fail
      go_ret
      exact ⟨rfl, HB.out⟩
theorem hasT_no (w : World) (B n : Nat) (hn : n ≤ 4) (hz : Zs w B n) :
    Calls Tryz.prog 9 #[.slice (some ⟨B, 0, none⟩) n n, .func (.func 10) #[] #[]] w fun e w' => e = .returned (.bool false) ∧ Below w.heap.size w w' := by
  have H := Lib.hid (idxT_no w B n hn hz)
  clear hz
  go_enter Tryz.func9, Tryz.ntmps9
  go_wp2_with fail
  refine H.out.mono ?_
  rintro e w' ⟨rfl, hb⟩
  go_wp2_with fail
  go_ret
  exact ⟨rfl, hb⟩
theorem Tryz.info43 : (Tryz.prog.info? 43).map (fun i => (i.zero, i.size, i.bytes)) = some (some (.slice none 0 0), 1, 24) := by kernel_rfl
theorem nil_one (l : List Value) (h : ∀ u ∈ l, u = .slice none 0 0) : ∀ u ∈ l, u.oneCell' = true := fun u hu => by rw [h u hu]; rfl
theorem own_shape {w : World} {B e s n : Nat} {v : Value} {xs : List Value} (h : w.ownsRow B e s v n xs) : ∃ ao cap, v = .slice ao n cap := by
  obtain ⟨_, ao, cap, h1, _⟩ := Rd.own h
  exact ⟨ao, cap, h1⟩
theorem bx3 {w : World} {B : Nat} {x y z : Value} {T : TypeId} (h : w.heap[B]? = some (.cells #[x, y, z] T (0, 0))) :
    w.cell? ⟨B, 0, none⟩ = some x ∧ w.cell? ⟨B, 1, none⟩ = some y ∧ w.cell? ⟨B, 2, none⟩ = some z ∧ w.frozen? ⟨B, 0, none⟩ = false ∧ w.frozen? ⟨B, 1, none⟩ = false ∧ w.frozen? ⟨B, 2, none⟩ = false := by
  refine ⟨?_, ?_, ?_, ?_, ?_, ?_⟩ <;> (simp only [World.cell?, World.frozen?]; rw [h]; rfl)
theorem bx3c {w : World} {B : Nat} {x y z : Value} {T : TypeId} (h : w.heap[B]? = some (.cells #[x, y, z] T (0, 0))) (a b c : Value) :
    (w.setCell ⟨B, 0, none⟩ a).cell? ⟨B, 0, none⟩ = some a ∧ ((w.setCell ⟨B, 0, none⟩ a).setCell ⟨B, 1, none⟩ b).cell? ⟨B, 1, none⟩ = some b ∧ (((w.setCell ⟨B, 0, none⟩ a).setCell ⟨B, 1, none⟩ b).setCell ⟨B, 2, none⟩ c).cell? ⟨B, 2, none⟩ = some c := by
  have h0 := Lib.heap_setCell_same (i := 0) h a
  have h1 := Lib.heap_setCell_same (i := 1) h0 b
  have h2 := Lib.heap_setCell_same (i := 2) h1 c
  refine ⟨?_, ?_, ?_⟩
  · simp only [World.cell?]; rw [h0]; simp
  · simp only [World.cell?]; rw [h1]; simp
  · simp only [World.cell?]; rw [h2]; simp
/-- The room's cells. -/
abbrev rmC (B n : Nat) : Array Value := #[.slice (some ⟨B, 0, none⟩) n n, .slice none 0 0, .slice none 0 0, .slice none 0 0, .int .i64 0, .slice none 0 0]
theorem wp_name' {K : Exit → Act → World → Prop} {e : Exit} {a : Act} {w : World} (h : ∀ w8, w8 = w → K e a w8) : K e a w := h w rfl
def OutIs (n : Nat) (w : World) (e : Ending) (w' : World) : Prop := ∃ (a : Option Addr) (c : Nat), e = .returned (.agg #[.slice a n c, .slice none 0 0, .slice none 0 0]) ∧ Below w.heap.size w w'
theorem outcome_any (w : World) (R B n : Nat) (h1 : 1 ≤ n) (hn : n ≤ 4) (hz : Zs w B n) (hr : w.heap[R]? = some (.cells (rmC B n) 42 (0, 0))) :
    Calls Tryz.prog 11 #[.pointer (some ⟨R, 0, none⟩)] w (OutIs n w) := by
  have HZ := Lib.hid hz
  have HR := Lib.hid hr
  have hb0 : Below w.heap.size w (w.alloc (.cells #[.slice none 0 0, .slice none 0 0, .slice none 0 0] 30)) := (Below.refl _ _).alloc (Nat.le_refl _) _
  have hR : R < w.heap.size := by
    rcases Nat.lt_or_ge R w.heap.size with g | g
    · exact g
    · rw [Array.getElem?_eq_none g] at hr; cases hr
  have r0 : w.cell? ⟨R, 0, none⟩ = some (.slice (some ⟨B, 0, none⟩) n n) := by simp [World.cell?, hr]
  have r1 : w.cell? ⟨R, 1, none⟩ = some (.slice none 0 0) := by simp [World.cell?, hr]
  have r5 : w.cell? ⟨R, 5, none⟩ = some (.slice none 0 0) := by simp [World.cell?, hr]
  have k0 := (hb0.cell (p := ⟨R, 0, none⟩) hR).trans r0
  have k1 := (hb0.cell (p := ⟨R, 1, none⟩) hR).trans r1
  have k5 := (hb0.cell (p := ⟨R, 5, none⟩) hR).trans r5
  clear hz hr r1 r5 hb0
  go_enter Tryz.func11, Tryz.ntmps11
  go_wp2_with fail
  go_region
  refine wp_name' (fun w1 hw1 => ?_)
  have HB1 : Hid (Below w.heap.size w w1) := Lib.hid (by rw [hw1]; go_grown)
  have HO1 : Hid (w1.heap[w.heap.size + 1]? = some (.cells #[.slice none 0 0, .slice none 0 0, .slice none 0 0] 30 (0, 0))) := Lib.hid (by rw [hw1]; exact new1 w _ _)
  have HQ1 : Hid (w1.heap[w.heap.size]? = some (.cells #[.slice none 0 0, .slice none 0 0, .slice none 0 0] 30 (0, 0))) := Lib.hid (by rw [hw1]; show ((w.alloc _).alloc _).heap[w.heap.size]? = _; rw [Below.heap_alloc _ _ _ (by simp)]; exact new0 w _)
  have hz1 : w.heap.size + 1 < w1.heap.size := by rw [hw1]; simp
  have k0 := (HB1.out.cell (p := ⟨R, 0, none⟩) hR).trans r0
  clear hw1
  go_wp2_with fail
  go_loopw [20] (fun i wr => ∃ (k : Nat) (rv : Value), k ≤ n ∧ i = .int .i64 (k : Int) ∧ Hid (Below w.heap.size w wr) ∧ Hid (wr.heap[w.heap.size + 1]? = some (.cells #[rv, .slice none 0 0, .slice none 0 0] 30 (0, 0))) ∧ Hid (wr.heap[w.heap.size]? = some (.cells #[.slice none 0 0, .slice none 0 0, .slice none 0 0] 30 (0, 0))) ∧ Hid (wr.ownsRow (w.heap.size + 2) 43 1 rv k (List.replicate k (.slice none 0 0)))) (fun i _ => n - (intOf i).toNat)
  case atStart => exact ⟨0, .slice none 0 0, by omega, rfl, HB1.out, HO1.out, HQ1.out, World.ownsRow_nil _ _ _ _⟩
  case round =>
    obtain ⟨k, rv, hk, rfl, HB, HO, HQ, HU⟩ := hrel
    have hzr : w.heap.size + 1 < wr.heap.size := by
      rcases Nat.lt_or_ge (w.heap.size + 1) wr.heap.size with g | g
      · exact g
      · have := HO.out; rw [Array.getElem?_eq_none g] at this; cases this
    obtain ⟨ra, rc, rfl⟩ := own_shape HU.out
    by_cases hlt : k < n
    · have hz := HZ.out.below HB.out
      have c0 := hz.cell (i := 0) hlt rfl
      have c1 := hz.cell (i := 1) hlt rfl
      have c2 := hz.cell (i := 2) hlt rfl
      have c3 := hz.cell (i := 3) hlt rfl
      have c4 := hz.cell (i := 4) hlt rfl
      have c5 := hz.cell (i := 5) hlt rfl
      rw [Nat.add_zero] at c0
      clear hz
      have SB : Below wr.heap.size wr (wr.alloc (.cells #[.slice none 0 0, .slice none 0 0, .int .i64 0, .bool false, .bool false, .slice none 0 0] 46)) := (Below.refl _ _).alloc (Nat.le_refl _) _
      have o0 : (wr.alloc (.cells #[.slice none 0 0, .slice none 0 0, .int .i64 0, .bool false, .bool false, .slice none 0 0] 46)).cell? ⟨w.heap.size + 1, 0, none⟩ = some (.slice ra k rc) := (SB.cell (p := ⟨w.heap.size + 1, 0, none⟩) hzr).trans (by simp [World.cell?, HO.out])
      have HRD : Hid (Rd ((wr.alloc (.cells #[.slice none 0 0, .slice none 0 0, .int .i64 0, .bool false, .bool false, .slice none 0 0] 46)).alloc (.cells #[.slice none 0 0] 43)) 1 1 (.slice (some ⟨wr.heap.size + 1, 0, none⟩) 1 1) [.slice none 0 0]) := Lib.hid (by
        have h := Rd.own (World.ownsRow_lit (base := (wr.alloc (.cells #[.slice none 0 0, .slice none 0 0, .int .i64 0, .bool false, .bool false, .slice none 0 0] 46)).heap.size) (wr.alloc (.cells #[.slice none 0 0, .slice none 0 0, .int .i64 0, .bool false, .bool false, .slice none 0 0] 46)) (e := 43) (size := 1) #[.slice none 0 0] 1 (Nat.le_refl _) (by unfold maxLen; omega) rfl)
        simpa using h)
      clear SB
      go_wp2_with (at_builtin; refine apg ((wr.alloc (.cells #[.slice none 0 0, .slice none 0 0, .int .i64 0, .bool false, .bool false, .slice none 0 0] 46)).alloc (.cells #[.slice none 0 0] 43)) 1 rfl _ _ 24 43 _ 1 24 Tryz.underlying24 Tryz.info43 rfl (by omega) rfl ((HU.out.alloc _).alloc _) (by simp; omega) (by omega) (by unfold maxLen; omega) (fun u hu => by rw [List.mem_singleton.1 hu]; rfl) HRD.out rfl rfl ?_; intro v2 w2 hown2 hb2 _; obtain ⟨va, vc2, rfl⟩ := own_shape hown2; have HO2 := Lib.hid hown2; have HB2 := Lib.hid hb2; have hs1 : w.heap.size + 1 < (wr.alloc (.cells #[.slice none 0 0, .slice none 0 0, .int .i64 0, .bool false, .bool false, .slice none 0 0] 46)).heap.size := (by rw [World.size_alloc]; omega); have b2 := (hb2.block (w.heap.size + 1) (by omega)).trans ((Below.heap_alloc _ _ _ hs1).trans ((Below.heap_alloc _ _ _ hzr).trans HO.out)); have b3 := (hb2.block w.heap.size (by omega)).trans ((Below.heap_alloc _ _ _ (Nat.lt_of_succ_lt hs1)).trans ((Below.heap_alloc _ _ _ (Nat.lt_of_succ_lt hzr)).trans HQ.out)); have HX2 := Lib.hid (And.intro b2 b3); have o1 : w2.cell? ⟨w.heap.size + 1, 0, none⟩ = some (.slice ra k rc) := (by simp [World.cell?, b2]); have f1 : w2.frozen? ⟨w.heap.size + 1, 0, none⟩ = false := (by simp [World.frozen?, b2]); clear hown2 hb2 b2 b3 hs1)
      have HBX : Hid (Below w.heap.size w w2) := Lib.hid (((HB.out.alloc HB.out.size _).alloc (by simp; omega) _).trans (HB2.out.mono (by omega)))
      go_roundw
      case rel =>
        refine ⟨k + 1, .slice va (k + 1) vc2, by omega, by go_num, HBX.out.setCell (p := ⟨w.heap.size + 1, 0, none⟩) (by show _ ≤ w.heap.size + 1; omega) _, ?_, ?_, ?_⟩
        · have h := Lib.heap_setCell_same (i := 0) HX2.out.1 (.slice va (k + 1) vc2)
          show _ = _
          simpa using h
        · show _ = _
          exact (Below.heap_setCell _ _ _ _ (by show _ ≠ w.heap.size + 1; omega)).trans HX2.out.2
        · have h := ownsRow_setCell_below HO2.out (a := ⟨w.heap.size + 1, 0, none⟩) (by show w.heap.size + 1 < _; omega) (.slice va (k + 1) vc2)
          show World.ownsRow _ _ _ _ _ _ _
          rw [List.replicate_succ']
          exact h
      case measure => (simp [intOf]) <;> omega
    · obtain rfl : k = n := by omega
      have o0 : wr.cell? ⟨w.heap.size + 1, 0, none⟩ = some (.slice ra k rc) := by simp [World.cell?, HO.out]
      have o1 : wr.cell? ⟨w.heap.size + 1, 1, none⟩ = some (.slice none 0 0) := by simp [World.cell?, HO.out]
      have o2 : wr.cell? ⟨w.heap.size + 1, 2, none⟩ = some (.slice none 0 0) := by simp [World.cell?, HO.out]
      obtain ⟨q0, q1, q2, f0, f1, f2⟩ := bx3 HQ.out
      go_wp2_with fail
      obtain ⟨v0, v1, v2⟩ := bx3c HQ.out (.slice ra k rc) (.slice none 0 0) (.slice none 0 0)
      (try simp only [Exit.inBlock, Exit.then])
      refine bodyPost_ret (by simp [results, Tryz.results11, go_sem, v0, v1, v2]; try rfl) rfl ?_
      exact ⟨ra, rc, rfl, ((HB.out.setCell (p := ⟨w.heap.size, 0, none⟩) (Nat.le_refl _) _).setCell (p := ⟨w.heap.size, 1, none⟩) (Nat.le_refl _) _).setCell (p := ⟨w.heap.size, 2, none⟩) (Nat.le_refl _) _⟩
end Go.Proofs.YtbjdgkidnmklkaaGreatDoor
