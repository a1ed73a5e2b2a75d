/- What is wrong with asking: the program. -/
import Derived.Test.YtpddlckkncmlmaaDoorMh
namespace Go.Proofs.YtpddlckkncmlmaaDoor
open Go.ChangeShapes Go.WideShapes Go.ChangeAt Go.RowKit
set_option linter.unusedVariables false
set_option linter.unusedSimpArgs false
set_option maxHeartbeats 4000000
set_option maxRecDepth 100000
theorem refusal_any (w : World) (hT : Tog w) (hJ : Jnd w) (nh n : Nat) (hv qv : Value) (held l : List Lk) (x : Lk) (hrh : Rd w 3 nh hv (lkc held)) (hr : Rd w 3 n qv (lkc l)) (h1 : nh ≤ 1000000000000000) (h2 : n ≤ 1000000000000000) :
    Calls Tryd.prog 16 #[.agg #[hv, qv], lkv x] w fun e w' => e = .returned (.int .i64 (refL held l x)) ∧ Below w.heap.size w w' := by
  obtain ⟨_, ah, ch, rfl, _⟩ := id hrh
  obtain ⟨_, aq, cq, rfl, _⟩ := id hr
  obtain ⟨xt, xth, xm⟩ := x
  obtain ⟨W0, hW0⟩ : ∃ W0 : World, W0 = (w.alloc (.cells #[.slice ah nh ch, .slice aq n cq] 24)).alloc (.cells #[.int .i64 xt, .string xth, .int .i64 xm] 26) := ⟨_, rfl⟩
  have hb0 : Below w.heap.size w W0 := by rw [hW0]; exact ((Below.refl _ _).alloc (Nat.le_refl _) _).alloc (by simp) _
  have s0 : W0.cell? ⟨w.heap.size, 0, none⟩ = some (.slice ah nh ch) := by rw [hW0]; go_simp
  have s1 : W0.cell? ⟨w.heap.size, 1, none⟩ = some (.slice aq n cq) := by rw [hW0]; go_simp
  have p0 : W0.cell? ⟨w.heap.size + 1, 0, none⟩ = some (.int .i64 xt) := by rw [hW0]; go_simp
  have p1 : W0.cell? ⟨w.heap.size + 1, 1, none⟩ = some (.string xth) := by rw [hW0]; go_simp
  have p2 : W0.cell? ⟨w.heap.size + 1, 2, none⟩ = some (.int .i64 xm) := by rw [hW0]; go_simp
  have HCK : Hid (Calls Tryd.prog 29 #[.agg #[.slice ah nh ch, .slice aq n cq]] W0 fun e w' => e = .returned (.int .i64 (lksF held l)) ∧ Below W0.heap.size W0 w') := check_any W0 (hT.below hb0) (hJ.below hb0) nh n _ _ held l (hrh.below hb0) (hr.below hb0) h1 h2
  have HFM : Hid (∀ W, Calls Tryd.prog 36 #[.agg #[.int .i64 xt, .string xth, .int .i64 xm]] W fun e w' => e = .returned (.int .i64 (frm ⟨xt, xth, xm⟩)) ∧ Below W.heap.size W w') := fun W => form_any W ⟨xt, xth, xm⟩
  have HOF : Hid (∀ W, Below W0.heap.size W0 W → Calls Tryd.prog 32 #[.int .i64 xt] W fun e w' => ∃ P : Nat, e = .returned (.func (.func 53) #[] #[.pointer (some ⟨P, 0, none⟩)]) ∧ Below W0.heap.size W0 w' ∧
      Calls Tryd.prog 37 #[.slice aq n cq, .func (.func 53) #[] #[.pointer (some ⟨P, 0, none⟩)]] w' fun e w' => e = .returned (.bool (l.any (ofB xt))) ∧ Below W0.heap.size W0 w') := by
    intro W hW
    have hs := of_says W xt l
    refine (of_maker W xt).mono ?_
    rintro e w' ⟨rfl, rfl⟩
    have hbn : Below W0.heap.size W0 (W.alloc (.cells #[.int .i64 xt] 3)) := hW.alloc hW.size _
    refine ⟨_, rfl, hbn, (con_of _ n _ l (ofB xt) _ (hr.below (into hb0 hbn)) hs).mono ?_⟩
    rintro e w2 ⟨rfl, hb2'⟩
    exact ⟨rfl, into hbn hb2'⟩
  have hR : refL held l ⟨xt, xth, xm⟩ = if lksF held l ≠ 0 then 11 else if frm ⟨xt, xth, xm⟩ ≠ 0 then frm ⟨xt, xth, xm⟩ else if l.any (ofB xt) = true then 9 else 0 := rfl
  obtain ⟨c, hc⟩ : ∃ c, c = lksF held l := ⟨_, rfl⟩
  obtain ⟨f, hf⟩ : ∃ f, f = frm ⟨xt, xth, xm⟩ := ⟨_, rfl⟩
  obtain ⟨q, hq⟩ : ∃ q, q = l.any (ofB xt) := ⟨_, rfl⟩
  rw [← hc, ← hf, ← hq] at hR
  rw [← hc] at HCK
  rw [← hf] at HFM
  rw [← hq] at HOF
  have HR := Lib.hid hR
  have HW0 := Lib.hid hW0
  have HB0 := Lib.hid hb0
  have HS := Lib.hid (And.intro s1 p0)
  clear hT hJ hrh hr hc hf hq hR hW0 hb0
  by_cases hc0 : c = 0
  · subst hc0
    by_cases hf0 : f = 0
    · subst hf0
      have hR2 : refL held l ⟨xt, xth, xm⟩ = if q = true then 9 else 0 := by rw [HR.out]; simp
      have HR2 := Lib.hid hR2
      clear hR2 HR
      go_enter Tryd.func16, Tryd.ntmps16
      go_wp2_with fail
      rw [← HW0.out]
      refine HCK.out.mono ?_
      rintro e w1 ⟨rfl, hb1⟩
      have u0 := cell_of_below hb1 s0
      have u1 := cell_of_below hb1 s1
      have v0 := cell_of_below hb1 p0
      have v1 := cell_of_below hb1 p1
      have v2 := cell_of_below hb1 p2
      have HB1 := Lib.hid hb1
      clear hb1 s0 s1 p0 p1 p2
      go_wp2_with fail
      refine (HFM.out _).mono ?_
      rintro e w2 ⟨rfl, hb2⟩
      have s0 := cell_of_below hb2 u0
      have s1 := cell_of_below hb2 u1
      have p0 := cell_of_below hb2 v0
      have HB2 := Lib.hid (into HB1.out hb2)
      have HD2 : Hid (Below W0.heap.size W0 w2.drew) := HB2.out.drew
      clear hb2 u0 u1 v0 v1 v2
      go_wp2_with fail
      go_region_held3 (fun wx => wx.cell? ⟨w.heap.size, 1, none⟩ = some (.slice aq n cq) ∧ wx.cell? ⟨w.heap.size + 1, 0, none⟩ = some (.int .i64 xt))
        ((first
          | (with_reducible exact ⟨cell_dr s1, cell_dr p0⟩)
          | (with_reducible exact ⟨cell_of_below hb4 HS.out.1, cell_of_below hb4 HS.out.2⟩)
          | (with_reducible exact ⟨cell_of_below hb3 HS.out.1, cell_of_below hb3 HS.out.2⟩)))
        ((first
          | (go_at_call 32; ((with_reducible refine (HOF.out _ HD2.out).mono ?_); rintro e w3 ⟨P, rfl, hb3, hc3⟩))
          | (go_at_call 37; ((with_reducible refine hc3.mono ?_); rintro e w4 ⟨rfl, hb4⟩))))
      have HB4 := Lib.hid (into HB0.out hb4)
      clear hb3 hb4 hc3 s0 s1 p0
      cases q
      all_goals (
        go_wp2_with fail
        go_ret
        exact ⟨ri (by rw [HR2.out]; rfl), HB4.out⟩)
    · have hR2 : refL held l ⟨xt, xth, xm⟩ = f := by rw [HR.out]; simp [hf0]
      have HR2 := Lib.hid hR2
      have hf1 : (f == 0) = false := by simpa using hf0
      clear hR2 HR
      go_enter Tryd.func16, Tryd.ntmps16
      go_wp2_with fail
      rw [← HW0.out]
      refine HCK.out.mono ?_
      rintro e w1 ⟨rfl, hb1⟩
      have v0 := cell_of_below hb1 p0
      have v1 := cell_of_below hb1 p1
      have v2 := cell_of_below hb1 p2
      have HB1 := Lib.hid hb1
      clear hb1 s0 s1 p0 p1 p2
      go_wp2_with fail
      refine (HFM.out _).mono ?_
      rintro e w2 ⟨rfl, hb2⟩
      have p0 := cell_of_below hb2 v0
      have p1 := cell_of_below hb2 v1
      have p2 := cell_of_below hb2 v2
      have HB2 := Lib.hid (into HB1.out hb2)
      clear hb2 v0 v1 v2
      go_wp2_with fail
      refine (HFM.out _).mono ?_
      rintro e w3 ⟨rfl, hb3⟩
      have HB3 := Lib.hid (into HB2.out hb3)
      clear hb3 p0 p1 p2
      go_wp2_with fail
      go_ret
      exact ⟨ri HR2.out.symm, into HB0.out HB3.out⟩
  · have hR2 : refL held l ⟨xt, xth, xm⟩ = 11 := by rw [HR.out, if_pos hc0]
    have HR2 := Lib.hid hR2
    have hc1 : (c == 0) = false := by simpa using hc0
    clear hR2 HR
    go_enter Tryd.func16, Tryd.ntmps16
    go_wp2_with fail
    rw [← HW0.out]
    refine HCK.out.mono ?_
    rintro e w1 ⟨rfl, hb1⟩
    have HB1 := Lib.hid (into HB0.out hb1)
    clear hb1 s0 s1 p0 p1 p2
    go_wp2_with fail
    go_ret
    exact ⟨ri HR2.out.symm, HB1.out⟩
end Go.Proofs.YtpddlckkncmlmaaDoor
