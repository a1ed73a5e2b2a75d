import Derived.Test.YtdeollmeljaaoaaDoorCkk
/- The ops of an expression shown one by one: the region that draws its order. -/
namespace Go.Proofs.YtdeollmeljaaoaaDoor.cs
open Go.ChangeShapes Go.WideShapes Go.ChangeAt Go.RowKit
set_option linter.unusedVariables false
set_option linter.unusedSimpArgs false
set_option maxHeartbeats 4000000
set_option maxRecDepth 1000000
theorem Tryd.info35 : (Tryd.prog.info? 35).map (fun i => (i.zero, i.size, i.bytes)) = some (some (.slice none 0 0), 1, 24) := by kernel_rfl
theorem tt_ne : 35 ≠ 45 := by decide
theorem r6A (Q : Exit → Act → World → Prop) (c0 c1 c2 c4 c7 c8 c9 c10 c11 c12 c13 c14 c15 c16 c17 c18 c19 c20 c21 c22 c23 c24 c25 c26 c27 c28 c29 c30 c31 c32 c33 : Value) (w0 : World) (P B : Nat) (hP : P < w0.heap.size) (hB : B ≤ w0.heap.size) (xk vk vn : Int) (vt xt : ByteArray) (ys : List Value) (L : List Tk) (hn : 0 ≤ 1000)
    (p0 : w0.cell? ⟨P, 0, none⟩ = some (.int .i64 xk)) (p1 : w0.cell? ⟨P, 1, none⟩ = some (.int .i64 vk)) (p2 : w0.cell? ⟨P, 2, none⟩ = some (.int .i64 vn)) (p3 : w0.cell? ⟨P, 3, none⟩ = some (.string vt)) (p4 : w0.cell? ⟨P, 4, none⟩ = some (.string xt))
    (hne : ∀ k, Value.ownBlock (.slice none 0 0) = some k → k ≠ P) (hown : Hid (w0.ownsRow B 35 1 (.slice none 0 0) 0 ys))
    (HSO : Hid (∀ W, Below w0.heap.size w0 W → ∀ on, Calls Tryd.prog 64 #[.agg #[.int .i64 xk, .int .i64 vk, .int .i64 vn, .string vt, .string xt], on] W (ToksIs L W)))
    (hout : Hid (∀ (u20 u21 u22 u23 u24 u25 u26 u27 u28 u29 : Value) (x : Sv) (gg cap1 : Nat) (wz : World), Rk B wz x L → wz.ownsRow B 35 1 (.slice (some ⟨gg, 0, none⟩) (0 + 1) cap1) (0 + 1) (ys ++ [svv x]) → Below B w0 wz → (∀ s l, Rk B w0 s l → Rk B wz s l) → Q .normal ⟨List.toArray (c0 :: c1 :: c2 :: (.slice (some ⟨gg, 0, none⟩) (0 + 1) cap1) :: c4 :: (.pointer (some ⟨P, 0, none⟩)) :: (.int .i64 0) :: c7 :: c8 :: c9 :: c10 :: c11 :: c12 :: c13 :: c14 :: c15 :: c16 :: c17 :: c18 :: c19 :: u20 :: u21 :: u22 :: u23 :: u24 :: u25 :: u26 :: u27 :: u28 :: u29 :: c30 :: c31 :: c32 :: c33 :: []), []⟩ wz)) :
    Code.wp Tryd.prog ((regionOf 6 (Tryd.f40.body.getD .skip)).getD .skip) Q ⟨List.toArray (c0 :: c1 :: c2 :: (.slice none 0 0) :: c4 :: (.pointer (some ⟨P, 0, none⟩)) :: (.int .i64 0) :: c7 :: c8 :: c9 :: c10 :: c11 :: c12 :: c13 :: c14 :: c15 :: c16 :: c17 :: c18 :: c19 :: c20 :: c21 :: c22 :: c23 :: c24 :: c25 :: c26 :: c27 :: c28 :: c29 :: c30 :: c31 :: c32 :: c33 :: []), []⟩ w0 := by
  refine Code.wp_mono (Q := NQ Q) nq_to ?_
  conv => arg 2; whnf
  have hB0 : Below w0.heap.size w0 w0 := Below.refl _ _
  obtain ⟨i9, hi0, hz0, hz1, hz2⟩ := info_parts Tryd.info35
  go_region_held3 (fun wx => wx.cell? ⟨P, 0, none⟩ = some (.int .i64 xk) ∧ wx.cell? ⟨P, 1, none⟩ = some (.int .i64 vk) ∧ wx.cell? ⟨P, 2, none⟩ = some (.int .i64 vn) ∧ wx.cell? ⟨P, 3, none⟩ = some (.string vt) ∧ wx.cell? ⟨P, 4, none⟩ = some (.string xt))
    ((refine ⟨?_, ?_, ?_, ?_, ?_⟩ <;> (repeat' (first | (with_reducible assumption) | (with_reducible refine cell_dr ?_) | (with_reducible refine cell_al _ ?_) | (with_reducible refine cell_of_below hbA ?_) | (refine cell_blk (hgrow.block P (by simp; omega) (fun e => hne _ e.symm rfl)) ?_)))))
    ((first
      | (go_at_call 64; (with_reducible refine (HSO.out _ (by go_grown) _).mono ?_); rintro e wA ⟨vA, rfl, hownA, hbA⟩; obtain ⟨aA, qA, rfl⟩ := own_shape hownA; have hBA : Below w0.heap.size w0 wA := into (by go_grown) hbA; have hzA := hBA.size; have hrA : Rk B wA ⟨aA, L.length, qA⟩ L := Rk.own hownA (by simp; try omega); have hownB := (own_below hown.out hBA).alloc (.cells #[.slice aA L.length qA] 35))
      | (refine step_append_lies _ (by rfl) _ _ _ (by rfl) B 35 i9 _ 1 24 Tryd.underlying99 hi0 hz0 hz1 hz2 rfl (by omega) (.slice none 0 0) 0 ys (by rfl) hownB ⟨wA.heap.size, 0, none⟩ 1 1 [.slice aA L.length qA] (by rfl) (by rfl) (new_cells wA _ _) (by intro u hu; simp at hu; rcases hu with rfl; rfl) (by omega) (by unfold maxLen; omega) (by omega) (by simp; omega) (wA.heap.size + 1) (by simp) ?_; intro gg cap1 w4 hown4 hgrow hat4 hlt4; have hgg := (Below.refl B _).grown hgrow (by simp; omega) (own_ge hownB); have hb4 : Below B w0 w4 := Below.trans (Below.mono (show Below w0.heap.size w0 _ from hBA.alloc (by omega) _) hB) hgg)))
  all_goals exact hout.out _ _ _ _ _ _ _ _ _ _ ⟨aA, L.length, qA⟩ gg cap1 w4 ((hrA.below ((Below.refl _ _).alloc (Nat.le_refl _) _)).grown hownB hgrow tt_ne) hown4 hb4 (fun s l h => ((h.below hBA).below ((Below.refl _ _).alloc (Nat.le_refl _) _)).grown hownB hgrow tt_ne)
theorem r6B (Q : Exit → Act → World → Prop) (c0 c1 c2 c4 c7 c8 c9 c10 c11 c12 c13 c14 c15 c16 c17 c18 c19 c20 c21 c22 c23 c24 c25 c26 c27 c28 c29 c30 c31 c32 c33 : Value) (w0 : World) (P B : Nat) (g q : Nat) (hP : P < w0.heap.size) (hB : B ≤ w0.heap.size) (xk vk vn : Int) (vt xt : ByteArray) (ys : List Value) (L : List Tk) (hn : q ≤ 1000)
    (p0 : w0.cell? ⟨P, 0, none⟩ = some (.int .i64 xk)) (p1 : w0.cell? ⟨P, 1, none⟩ = some (.int .i64 vk)) (p2 : w0.cell? ⟨P, 2, none⟩ = some (.int .i64 vn)) (p3 : w0.cell? ⟨P, 3, none⟩ = some (.string vt)) (p4 : w0.cell? ⟨P, 4, none⟩ = some (.string xt))
    (hne : ∀ k, Value.ownBlock (.slice (some ⟨g, 0, none⟩) q q) = some k → k ≠ P) (hown : Hid (w0.ownsRow B 35 1 (.slice (some ⟨g, 0, none⟩) q q) q ys))
    (HSO : Hid (∀ W, Below w0.heap.size w0 W → ∀ on, Calls Tryd.prog 64 #[.agg #[.int .i64 xk, .int .i64 vk, .int .i64 vn, .string vt, .string xt], on] W (ToksIs L W)))
    (hout : Hid (∀ (u20 u21 u22 u23 u24 u25 u26 u27 u28 u29 : Value) (x : Sv) (gg cap1 : Nat) (wz : World), Rk B wz x L → wz.ownsRow B 35 1 (.slice (some ⟨gg, 0, none⟩) (q + 1) cap1) (q + 1) (ys ++ [svv x]) → Below B w0 wz → (∀ s l, Rk B w0 s l → Rk B wz s l) → Q .normal ⟨List.toArray (c0 :: c1 :: c2 :: (.slice (some ⟨gg, 0, none⟩) (q + 1) cap1) :: c4 :: (.pointer (some ⟨P, 0, none⟩)) :: (.int .i64 (q : Int)) :: c7 :: c8 :: c9 :: c10 :: c11 :: c12 :: c13 :: c14 :: c15 :: c16 :: c17 :: c18 :: c19 :: u20 :: u21 :: u22 :: u23 :: u24 :: u25 :: u26 :: u27 :: u28 :: u29 :: c30 :: c31 :: c32 :: c33 :: []), []⟩ wz)) :
    Code.wp Tryd.prog ((regionOf 6 (Tryd.f40.body.getD .skip)).getD .skip) Q ⟨List.toArray (c0 :: c1 :: c2 :: (.slice (some ⟨g, 0, none⟩) q q) :: c4 :: (.pointer (some ⟨P, 0, none⟩)) :: (.int .i64 (q : Int)) :: c7 :: c8 :: c9 :: c10 :: c11 :: c12 :: c13 :: c14 :: c15 :: c16 :: c17 :: c18 :: c19 :: c20 :: c21 :: c22 :: c23 :: c24 :: c25 :: c26 :: c27 :: c28 :: c29 :: c30 :: c31 :: c32 :: c33 :: []), []⟩ w0 := by
  refine Code.wp_mono (Q := NQ Q) nq_to ?_
  conv => arg 2; whnf
  have hB0 : Below w0.heap.size w0 w0 := Below.refl _ _
  obtain ⟨i9, hi0, hz0, hz1, hz2⟩ := info_parts Tryd.info35
  go_region_held3 (fun wx => wx.cell? ⟨P, 0, none⟩ = some (.int .i64 xk) ∧ wx.cell? ⟨P, 1, none⟩ = some (.int .i64 vk) ∧ wx.cell? ⟨P, 2, none⟩ = some (.int .i64 vn) ∧ wx.cell? ⟨P, 3, none⟩ = some (.string vt) ∧ wx.cell? ⟨P, 4, none⟩ = some (.string xt))
    ((refine ⟨?_, ?_, ?_, ?_, ?_⟩ <;> (repeat' (first | (with_reducible assumption) | (with_reducible refine cell_dr ?_) | (with_reducible refine cell_al _ ?_) | (with_reducible refine cell_of_below hbA ?_) | (refine cell_blk (hgrow.block P (by simp; omega) (fun e => hne _ e.symm rfl)) ?_)))))
    ((first
      | (go_at_call 64; (with_reducible refine (HSO.out _ (by go_grown) _).mono ?_); rintro e wA ⟨vA, rfl, hownA, hbA⟩; obtain ⟨aA, qA, rfl⟩ := own_shape hownA; have hBA : Below w0.heap.size w0 wA := into (by go_grown) hbA; have hzA := hBA.size; have hrA : Rk B wA ⟨aA, L.length, qA⟩ L := Rk.own hownA (by simp; try omega); have hownB := (own_below hown.out hBA).alloc (.cells #[.slice aA L.length qA] 35))
      | (refine step_append_lies _ (by rfl) _ _ _ (by rfl) B 35 i9 _ 1 24 Tryd.underlying99 hi0 hz0 hz1 hz2 rfl (by omega) (.slice (some ⟨g, 0, none⟩) q q) q ys (by rfl) hownB ⟨wA.heap.size, 0, none⟩ 1 1 [.slice aA L.length qA] (by rfl) (by rfl) (new_cells wA _ _) (by intro u hu; simp at hu; rcases hu with rfl; rfl) (by omega) (by unfold maxLen; omega) (by omega) (by simp; omega) (wA.heap.size + 1) (by simp) ?_; intro gg cap1 w4 hown4 hgrow hat4 hlt4; have hgg := (Below.refl B _).grown hgrow (by simp; omega) (own_ge hownB); have hb4 : Below B w0 w4 := Below.trans (Below.mono (show Below w0.heap.size w0 _ from hBA.alloc (by omega) _) hB) hgg)))
  all_goals exact hout.out _ _ _ _ _ _ _ _ _ _ ⟨aA, L.length, qA⟩ gg cap1 w4 ((hrA.below ((Below.refl _ _).alloc (Nat.le_refl _) _)).grown hownB hgrow tt_ne) hown4 hb4 (fun s l h => ((h.below hBA).below ((Below.refl _ _).alloc (Nat.le_refl _) _)).grown hownB hgrow tt_ne)
theorem r6C (Q : Exit → Act → World → Prop) (c0 c1 c2 c4 c7 c8 c9 c10 c11 c12 c13 c14 c15 c16 c17 c18 c19 c20 c21 c22 c23 c24 c25 c26 c27 c28 c29 c30 c31 c32 c33 : Value) (w0 : World) (P B : Nat) (g q cp : Nat) (h1 : (q : Int) ≤ (cp : Int)) (h2 : ¬ q = cp) (h3 : ¬ cp = q) (h4 : (0 : Int) ≤ (q : Int)) (h5 : q < cp) (hP : P < w0.heap.size) (hB : B ≤ w0.heap.size) (xk vk vn : Int) (vt xt : ByteArray) (ys : List Value) (L : List Tk) (hn : q ≤ 1000)
    (p0 : w0.cell? ⟨P, 0, none⟩ = some (.int .i64 xk)) (p1 : w0.cell? ⟨P, 1, none⟩ = some (.int .i64 vk)) (p2 : w0.cell? ⟨P, 2, none⟩ = some (.int .i64 vn)) (p3 : w0.cell? ⟨P, 3, none⟩ = some (.string vt)) (p4 : w0.cell? ⟨P, 4, none⟩ = some (.string xt))
    (hne : ∀ k, Value.ownBlock (.slice (some ⟨g, 0, none⟩) q cp) = some k → k ≠ P) (hown : Hid (w0.ownsRow B 35 1 (.slice (some ⟨g, 0, none⟩) q cp) q ys))
    (HSO : Hid (∀ W, Below w0.heap.size w0 W → ∀ on, Calls Tryd.prog 64 #[.agg #[.int .i64 xk, .int .i64 vk, .int .i64 vn, .string vt, .string xt], on] W (ToksIs L W)))
    (hout : Hid (∀ (u20 u21 u22 u23 u24 u25 u26 u27 u28 u29 : Value) (x : Sv) (gg cap1 : Nat) (wz : World), Rk B wz x L → wz.ownsRow B 35 1 (.slice (some ⟨gg, 0, none⟩) (q + 1) cap1) (q + 1) (ys ++ [svv x]) → Below B w0 wz → (∀ s l, Rk B w0 s l → Rk B wz s l) → Q .normal ⟨List.toArray (c0 :: c1 :: c2 :: (.slice (some ⟨gg, 0, none⟩) (q + 1) cap1) :: c4 :: (.pointer (some ⟨P, 0, none⟩)) :: (.int .i64 (q : Int)) :: c7 :: c8 :: c9 :: c10 :: c11 :: c12 :: c13 :: c14 :: c15 :: c16 :: c17 :: c18 :: c19 :: u20 :: u21 :: u22 :: u23 :: u24 :: u25 :: u26 :: u27 :: u28 :: u29 :: c30 :: c31 :: c32 :: c33 :: []), []⟩ wz)) :
    Code.wp Tryd.prog ((regionOf 6 (Tryd.f40.body.getD .skip)).getD .skip) Q ⟨List.toArray (c0 :: c1 :: c2 :: (.slice (some ⟨g, 0, none⟩) q cp) :: c4 :: (.pointer (some ⟨P, 0, none⟩)) :: (.int .i64 (q : Int)) :: c7 :: c8 :: c9 :: c10 :: c11 :: c12 :: c13 :: c14 :: c15 :: c16 :: c17 :: c18 :: c19 :: c20 :: c21 :: c22 :: c23 :: c24 :: c25 :: c26 :: c27 :: c28 :: c29 :: c30 :: c31 :: c32 :: c33 :: []), []⟩ w0 := by
  refine Code.wp_mono (Q := NQ Q) nq_to ?_
  conv => arg 2; whnf
  have hB0 : Below w0.heap.size w0 w0 := Below.refl _ _
  obtain ⟨i9, hi0, hz0, hz1, hz2⟩ := info_parts Tryd.info35
  go_region_held3 (fun wx => wx.cell? ⟨P, 0, none⟩ = some (.int .i64 xk) ∧ wx.cell? ⟨P, 1, none⟩ = some (.int .i64 vk) ∧ wx.cell? ⟨P, 2, none⟩ = some (.int .i64 vn) ∧ wx.cell? ⟨P, 3, none⟩ = some (.string vt) ∧ wx.cell? ⟨P, 4, none⟩ = some (.string xt))
    ((refine ⟨?_, ?_, ?_, ?_, ?_⟩ <;> (repeat' (first | (with_reducible assumption) | (with_reducible refine cell_dr ?_) | (with_reducible refine cell_al _ ?_) | (with_reducible refine cell_of_below hbA ?_) | (refine cell_blk (hgrow.block P (by simp; omega) (fun e => hne _ e.symm rfl)) ?_)))))
    ((first
      | (go_at_call 64; (with_reducible refine (HSO.out _ (by go_grown) _).mono ?_); rintro e wA ⟨vA, rfl, hownA, hbA⟩; obtain ⟨aA, qA, rfl⟩ := own_shape hownA; have hBA : Below w0.heap.size w0 wA := into (by go_grown) hbA; have hzA := hBA.size; have hrA : Rk B wA ⟨aA, L.length, qA⟩ L := Rk.own hownA (by simp; try omega); have hownB := (own_below hown.out hBA).alloc (.cells #[.slice aA L.length qA] 35))
      | (refine step_append_lies _ (by rfl) _ _ _ (by rfl) B 35 i9 _ 1 24 Tryd.underlying99 hi0 hz0 hz1 hz2 rfl (by omega) (.slice (some ⟨g, 0, none⟩) q cp) q ys (by rfl) hownB ⟨wA.heap.size, 0, none⟩ 1 1 [.slice aA L.length qA] (by rfl) (by rfl) (new_cells wA _ _) (by intro u hu; simp at hu; rcases hu with rfl; rfl) (by omega) (by unfold maxLen; omega) (by omega) (by simp; omega) (wA.heap.size + 1) (by simp) ?_; intro gg cap1 w4 hown4 hgrow hat4 hlt4; have hgg := (Below.refl B _).grown hgrow (by simp; omega) (own_ge hownB); have hb4 : Below B w0 w4 := Below.trans (Below.mono (show Below w0.heap.size w0 _ from hBA.alloc (by omega) _) hB) hgg)))
  all_goals exact hout.out _ _ _ _ _ _ _ _ _ _ ⟨aA, L.length, qA⟩ gg cap1 w4 ((hrA.below ((Below.refl _ _).alloc (Nat.le_refl _) _)).grown hownB hgrow tt_ne) hown4 hb4 (fun s l h => ((h.below hBA).below ((Below.refl _ _).alloc (Nat.le_refl _) _)).grown hownB hgrow tt_ne)
theorem r6D (Q : Exit → Act → World → Prop) (c0 c1 c2 c4 c7 c8 c9 c10 c11 c12 c13 c14 c15 c16 c17 c18 c19 c20 c21 c22 c23 c24 c25 c26 c27 c28 c29 c30 c31 c32 c33 : Value) (w0 : World) (P B : Nat) (g q p cp r : Nat) (h1 : (q : Int) ≤ (cp : Int)) (h2 : ¬ p = cp) (h3 : ¬ cp = p) (h4 : (0 : Int) ≤ (p : Int)) (h5 : (p : Int) ≤ (q : Int)) (h6 : (p : Int) ≤ (cp : Int)) (h7 : q - p = r) (hP : P < w0.heap.size) (hB : B ≤ w0.heap.size) (xk vk vn : Int) (vt xt : ByteArray) (ys : List Value) (L : List Tk) (hn : p ≤ 1000)
    (p0 : w0.cell? ⟨P, 0, none⟩ = some (.int .i64 xk)) (p1 : w0.cell? ⟨P, 1, none⟩ = some (.int .i64 vk)) (p2 : w0.cell? ⟨P, 2, none⟩ = some (.int .i64 vn)) (p3 : w0.cell? ⟨P, 3, none⟩ = some (.string vt)) (p4 : w0.cell? ⟨P, 4, none⟩ = some (.string xt))
    (hne : ∀ k, Value.ownBlock (.slice (some ⟨g, 0, none⟩) p cp) = some k → k ≠ P) (hown : Hid (w0.ownsRow B 35 1 (.slice (some ⟨g, 0, none⟩) p cp) p ys))
    (HSO : Hid (∀ W, Below w0.heap.size w0 W → Calls Tryd.prog 64 #[.agg #[.int .i64 xk, .int .i64 vk, .int .i64 vn, .string vt, .string xt], .slice (some ⟨g, p, none⟩) r (cp - p)] W (ToksIs L W)))
    (hout : Hid (∀ (u20 u21 u22 u23 u24 u25 u26 u27 u28 u29 : Value) (x : Sv) (gg cap1 : Nat) (wz : World), Rk B wz x L → wz.ownsRow B 35 1 (.slice (some ⟨gg, 0, none⟩) (p + 1) cap1) (p + 1) (ys ++ [svv x]) → Below B w0 wz → (∀ s l, Rk B w0 s l → Rk B wz s l) → Q .normal ⟨List.toArray (c0 :: c1 :: c2 :: (.slice (some ⟨gg, 0, none⟩) (p + 1) cap1) :: c4 :: (.pointer (some ⟨P, 0, none⟩)) :: (.int .i64 (p : Int)) :: c7 :: c8 :: c9 :: c10 :: c11 :: c12 :: c13 :: c14 :: c15 :: c16 :: c17 :: c18 :: c19 :: u20 :: u21 :: u22 :: u23 :: u24 :: u25 :: u26 :: u27 :: u28 :: u29 :: c30 :: c31 :: c32 :: c33 :: []), []⟩ wz)) :
    Code.wp Tryd.prog ((regionOf 6 (Tryd.f40.body.getD .skip)).getD .skip) Q ⟨List.toArray (c0 :: c1 :: c2 :: (.slice (some ⟨g, 0, none⟩) q cp) :: c4 :: (.pointer (some ⟨P, 0, none⟩)) :: (.int .i64 (p : Int)) :: c7 :: c8 :: c9 :: c10 :: c11 :: c12 :: c13 :: c14 :: c15 :: c16 :: c17 :: c18 :: c19 :: c20 :: c21 :: c22 :: c23 :: c24 :: c25 :: c26 :: c27 :: c28 :: c29 :: c30 :: c31 :: c32 :: c33 :: []), []⟩ w0 := by
  refine Code.wp_mono (Q := NQ Q) nq_to ?_
  conv => arg 2; whnf
  have hB0 : Below w0.heap.size w0 w0 := Below.refl _ _
  obtain ⟨i9, hi0, hz0, hz1, hz2⟩ := info_parts Tryd.info35
  go_region_held3 (fun wx => wx.cell? ⟨P, 0, none⟩ = some (.int .i64 xk) ∧ wx.cell? ⟨P, 1, none⟩ = some (.int .i64 vk) ∧ wx.cell? ⟨P, 2, none⟩ = some (.int .i64 vn) ∧ wx.cell? ⟨P, 3, none⟩ = some (.string vt) ∧ wx.cell? ⟨P, 4, none⟩ = some (.string xt))
    ((refine ⟨?_, ?_, ?_, ?_, ?_⟩ <;> (repeat' (first | (with_reducible assumption) | (with_reducible refine cell_dr ?_) | (with_reducible refine cell_al _ ?_) | (with_reducible refine cell_of_below hbA ?_) | (refine cell_blk (hgrow.block P (by simp; omega) (fun e => hne _ e.symm rfl)) ?_)))))
    ((first
      | (go_at_call 64; (with_reducible refine (HSO.out _ (by go_grown)).mono ?_); rintro e wA ⟨vA, rfl, hownA, hbA⟩; obtain ⟨aA, qA, rfl⟩ := own_shape hownA; have hBA : Below w0.heap.size w0 wA := into (by go_grown) hbA; have hzA := hBA.size; have hrA : Rk B wA ⟨aA, L.length, qA⟩ L := Rk.own hownA (by simp; try omega); have hownB := (own_below hown.out hBA).alloc (.cells #[.slice aA L.length qA] 35))
      | (refine step_append_lies _ (by rfl) _ _ _ (by rfl) B 35 i9 _ 1 24 Tryd.underlying99 hi0 hz0 hz1 hz2 rfl (by omega) (.slice (some ⟨g, 0, none⟩) p cp) p ys (by rfl) hownB ⟨wA.heap.size, 0, none⟩ 1 1 [.slice aA L.length qA] (by rfl) (by rfl) (new_cells wA _ _) (by intro u hu; simp at hu; rcases hu with rfl; rfl) (by omega) (by unfold maxLen; omega) (by omega) (by simp; omega) (wA.heap.size + 1) (by simp) ?_; intro gg cap1 w4 hown4 hgrow hat4 hlt4; have hgg := (Below.refl B _).grown hgrow (by simp; omega) (own_ge hownB); have hb4 : Below B w0 w4 := Below.trans (Below.mono (show Below w0.heap.size w0 _ from hBA.alloc (by omega) _) hB) hgg)))
  all_goals exact hout.out _ _ _ _ _ _ _ _ _ _ ⟨aA, L.length, qA⟩ gg cap1 w4 ((hrA.below ((Below.refl _ _).alloc (Nat.le_refl _) _)).grown hownB hgrow tt_ne) hown4 hb4 (fun s l h => ((h.below hBA).below ((Below.refl _ _).alloc (Nat.le_refl _) _)).grown hownB hgrow tt_ne)
end Go.Proofs.YtdeollmeljaaoaaDoor.cs
/- An expression shown: the program. -/
namespace Go.Proofs.YtdeollmeljaaoaaDoor.cs
open Go.ChangeShapes Go.WideShapes Go.ChangeAt Go.RowKit
set_option linter.unusedVariables false
set_option linter.unusedSimpArgs false
set_option maxHeartbeats 8000000
set_option maxRecDepth 1000000
theorem sv_rev (s : List Sv) (x : Sv) : (x :: s).reverse.map svv = s.reverse.map svv ++ [svv x] := by simp
def tot : List (List Tk) → Nat
  | [] => 0
  | t :: r => t.length + tot r
theorem own_cell1 {w : World} {B e n cap : Nat} {ao : Option Addr} {l : List Value} (h : w.ownsRow B e 1 (.slice ao n cap) n l) {j : Nat} {x : Value} (hj : l[j]? = some x) : ∃ g, ao = some ⟨g, 0, none⟩ ∧ w.cell? ⟨g, j, none⟩ = some x := by
  have hjl : j < l.length := (List.getElem?_eq_some_iff.1 hj).1
  have hl := h.1
  rcases h.2 with ⟨hv, h0⟩ | ⟨g, c, cur, hv, _⟩
  · omega
  · simp only [Value.slice.injEq] at hv
    obtain ⟨rfl, _, rfl⟩ := hv
    have h1 := h.cells rfl _ _ hj
    rw [Addr.add_lit, Nat.zero_add] at h1
    exact ⟨g, rfl, h1⟩
theorem own_forms {w : World} {B e s n : Nat} {v : Value} {xs : List Value} (h : w.ownsRow B e s v n xs) : (v = .slice none 0 0 ∧ n = 0) ∨ ∃ g cap, v = .slice (some ⟨g, 0, none⟩) n cap ∧ n ≤ cap ∧ B ≤ g ∧ g < w.heap.size := by
  rcases id h.2 with h0 | ⟨g, cap, _, hv, hb, hg, hc, _⟩
  · exact Or.inl h0
  · exact Or.inr ⟨g, cap, hv, hc, hb, (h.lt g (by rw [hv]; rfl)).2⟩
theorem exF_cons {n : Int} {o : Oq} {l : List Oq} (h : exF n (o :: l) = 0) : wks o.k ≤ n ∧ exF (n + 1 - wks o.k) l = 0 := by
  unfold exF at h
  split at h
  · omega
  · split at h
    · omega
    · exact ⟨by omega, h⟩
theorem own_tak {w : World} {B e s n cap : Nat} {ao : Option Addr} {xs : List Value} (h : w.ownsRow B e s (.slice ao n cap) n xs) (k : Nat) (hk : k ≤ n) : w.ownsRow B e s (.slice ao k cap) k (xs.take (k * s)) := by
  refine ⟨?_, ?_⟩
  · rw [List.length_take, h.1]
    exact Nat.min_eq_left (Nat.mul_le_mul_right _ hk)
  · rcases h.2 with ⟨hv, h0⟩ | ⟨g, c, cur, hv, h1, h2, h3, h4, h5, h6⟩
    · simp only [Value.slice.injEq] at hv
      obtain ⟨rfl, _, rfl⟩ := hv
      exact .inl ⟨by rw [show k = 0 by omega], by omega⟩
    · simp only [Value.slice.injEq] at hv
      obtain ⟨rfl, _, rfl⟩ := hv
      refine .inr ⟨g, cap, cur, rfl, h1, h2, by omega, h4, h5, ?_⟩
      rw [← h6, List.take_take, Nat.min_eq_left (Nat.mul_le_mul_right _ hk)]
theorem own_pre {w : World} {B e n cap p : Nat} {ao : Option Addr} {l : List Value} (h : w.ownsRow B e 1 (.slice ao n cap) n l) (hp : p ≤ n) : w.ownsRow B e 1 (.slice ao p cap) p (l.take p) := by
  have := own_tak h p hp
  simpa using this
theorem rev_one {s : List Sv} {a : Sv} {q : Nat} (h : s.length = q) : ((a :: s).reverse.map svv).take q = s.reverse.map svv ∧ ((a :: s).reverse.map svv)[q]? = some (svv a) := by
  rw [sv_rev]
  refine ⟨?_, ?_⟩
  · rw [List.take_append_of_le_length (by simp; omega)]
    exact List.take_of_length_le (by simp; omega)
  · rw [List.getElem?_append_right (by simp; omega)]
    simp [h]
theorem rev_two {s : List Sv} {a c : Sv} {q : Nat} (h : s.length = q) : ((c :: a :: s).reverse.map svv).take q = s.reverse.map svv ∧ ((c :: a :: s).reverse.map svv)[q]? = some (svv a) ∧ ((c :: a :: s).reverse.map svv)[q + 1]? = some (svv c) := by
  rw [sv_rev, sv_rev, List.append_assoc]
  refine ⟨?_, ?_, ?_⟩
  · rw [List.take_append_of_le_length (by simp; omega)]
    exact List.take_of_length_le (by simp; omega)
  · rw [List.getElem?_append_right (by simp; omega)]
    simp [h]
  · rw [List.getElem?_append_right (by simp; omega)]
    simp [h]
theorem showExp_any (w : World) (hT : Tbp w) (m : Nat) (v : Value) (l : List Oq) (hr : Rd w 5 m v (ocs l)) (hex : exprF l = 0) (hok : ∀ o ∈ l, OOk o) :
    Calls Tryd.prog 40 #[v] w (ToksIs (exT l) w) := by
  have hml := len_o hr
  obtain ⟨h40, tree, _, htree⟩ := expr_tree hex
  have hpos : 0 < m := by rw [hml, htree]; exact tree.flat_pos
  have hexF : exF 0 l = 0 := by
    unfold exprF at hex
    rw [if_neg (by omega)] at hex
    exact hex
  obtain ⟨b, o, cap, rfl, _, _, hbw, hcell⟩ := ops_of hr hpos
  have hm40 : m ≤ 40 := by omega
  have HC := Lib.hid hcell
  have HOK := Lib.hid hok
  have HT := Lib.hid hT
  have HML := Lib.hid hml
  obtain ⟨R, hR⟩ : ∃ R, R = rnF lfS onS twS [] l := ⟨_, rfl⟩
  have HF : Hid (exT l = R.2.headD []) := by show _ = _; rw [hR]; rfl
  have HE0 := Lib.hid hexF
  have HR0 := Lib.hid hR
  clear hcell hok hT hr hml h40 htree hex hexF hR
  go_enter Tryd.func40, Tryd.ntmps40
  go_wp2_with fail
  go_loopw [3, 9] (fun u i wr => ∃ (k : Nat) (st : List (List Tk)) (xs : List Sv) (q : Nat), k ≤ m ∧ i = .int .i64 (k : Int) ∧ Hid (q = xs.length) ∧ q ≤ k ∧ Hid (wr.ownsRow w.heap.size 35 1 u q (xs.reverse.map svv)) ∧ Hid (RKs w.heap.size wr xs st) ∧ Hid (exF (q : Int) (l.drop k) = 0) ∧ Hid (R = rnF lfS onS twS st (l.drop k)) ∧ Hid (tot st ≤ 4 * k) ∧ Hid (Below w.heap.size w wr)) (fun _ i _ => m - (intOf i).toNat)
  case atStart => exact ⟨0, [], [], 0, by omega, rfl, rfl, by omega, World.ownsRow_nil _ _ _ _, trivial, HE0.out, HR0.out, Nat.le_refl _, Below.refl _ _⟩
  case round =>
    obtain ⟨k, st, xs, q, hk, rfl, HQ, hqk, HU, HKS, HE, HRN, HTO, HB⟩ := hrel
    by_cases hlt : k < m
    · have hll : k < l.length := by rw [← HML.out]; exact hlt
      have hHC := HC.out k hlt
      have hoo := HOK.out _ (getD_mem hll)
      have hdr := drop_cons hll
      obtain ⟨x, hx⟩ : ∃ x, x = l.getD k noq := ⟨_, rfl⟩
      rw [← hx] at hHC hoo hdr
      obtain ⟨g0, g1, g2, g3, g4⟩ := hHC
      have c0 := (HB.out.cell (p := ⟨b, o + k * 5, none⟩) hbw).trans g0
      have c1 := (HB.out.cell (p := ⟨b, o + k * 5 + 1, none⟩) hbw).trans g1
      have c2 := (HB.out.cell (p := ⟨b, o + k * 5 + 2, none⟩) hbw).trans g2
      have c3 := (HB.out.cell (p := ⟨b, o + k * 5 + 3, none⟩) hbw).trans g3
      have c4 := (HB.out.cell (p := ⟨b, o + k * 5 + 4, none⟩) hbw).trans g4
      have he := HE.out
      rw [hdr] at he
      obtain ⟨hwq, he2⟩ := exF_cons he
      have hrn := HRN.out
      rw [hdr] at hrn
      obtain ⟨hk1, hk11⟩ := opF_kind hoo.1
      obtain ⟨w0, w2⟩ := wks_in x.k
      have HRN2 := Lib.hid hrn
      have HE2 := Lib.hid he2
      have HOO := Lib.hid hoo
      have HBN : Hid (Below w.heap.size w (wr.alloc (.cells #[.int .i64 x.k, .int .i64 x.v.k, .int .i64 x.v.n, .string x.v.t, .string x.t] 54))) := HB.out.alloc HB.out.size _
      obtain ⟨kn, hkn⟩ : ∃ kn : Nat, x.k = (kn : Int) := ⟨x.k.toNat, by omega⟩
      have hwo0 := wo_at (HT.out.b.o.below HBN.out) (k := kn) (by omega) (by omega)
      have hfrm := own_forms HU.out
      have hz := HB.out.size
      have HNEW := Lib.hid (fun w2 (hb : Below (wr.alloc (.cells #[.int .i64 x.k, .int .i64 x.v.k, .int .i64 x.v.n, .string x.v.t, .string x.t] 54)).heap.size (wr.alloc (.cells #[.int .i64 x.k, .int .i64 x.v.k, .int .i64 x.v.n, .string x.v.t, .string x.t] 54)) w2) => has5 (new0 wr (.cells #[.int .i64 x.k, .int .i64 x.v.k, .int .i64 x.v.n, .string x.v.t, .string x.t] 54)) hb)
      obtain ⟨W1, hW1⟩ : ∃ W1, W1 = wr.alloc (.cells #[.int .i64 x.k, .int .i64 x.v.k, .int .i64 x.v.n, .string x.v.t, .string x.t] 54) := ⟨_, rfl⟩
      have HB1 : Hid (Below wr.heap.size wr W1) := by show Below _ _ _; rw [hW1]; exact (Below.refl _ _).alloc (Nat.le_refl _) _
      have hsz1 : wr.heap.size < W1.heap.size := by rw [hW1]; simp
      obtain ⟨y0, y1, y2, y3, y4⟩ := HNEW.out W1 (by rw [hW1]; exact Below.refl _ _)
      have HO1 := Lib.hid (own_below HU.out HB1.out)
      have HKS1 := Lib.hid (HKS.out.mono (fun _ _ h => h.below HB1.out))
      have HBW := Lib.hid (into HB.out HB1.out)
      have HW1 := Lib.hid hW1
      have hwo : (wr.alloc (.cells #[.int .i64 x.k, .int .i64 x.v.k, .int .i64 x.v.n, .string x.v.t, .string x.t] 54)).cell? ⟨2, kn, none⟩ = some (.int .i64 (wks x.k)) := by rw [hkn]; rw [hkn] at hwo0; exact hwo0
      clear g0 g1 g2 g3 g4 hx hdr he hrn he2 hoo hW1 hwo0 HNEW HE HRN hll HU HKS
      by_cases hw0 : wks x.k = 0
      · have HRL : Hid (R = rnF lfS onS twS (lfT x :: st) (l.drop (k + 1))) := by
          show _ = _
          rw [HRN2.out, rn_leaf lfS onS twS hw0]
          rfl
        have HSO : Hid (∀ W, Below W1.heap.size W1 W → ∀ on, Calls Tryd.prog 64 #[oqV x, on] W (ToksIs (lfT x) W)) := fun W hW on => showOp_leaf W (HT.out.below (into HBW.out hW)) x HOO.out hw0 on
        have HLN : Hid ((lfT x).length ≤ 2) := lfT_len x
        have HE3 : Hid (exF ((q : Int) + 1) (l.drop (k + 1)) = 0) := by
          show _ = _
          rw [← HE2.out, hw0]
          (congr 1) <;> omega
        rw [hw0] at hwo
        clear hw0 hwq HE2 HRN2 w0 w2
        rcases hfrm with ⟨rfl, rfl⟩ | ⟨g, cp, rfl, hqc, hBg, hgw⟩
        · obtain ⟨xk, ⟨vk, vn, vt⟩, xt⟩ := x
          simp only at c0 c1 c2 c3 c4 hwo HRL HSO HLN HW1 y0 y1 y2 y3 y4 hkn hk1 hk11 HBN
          subst hkn
          go_wp2_with fail
          rw [← HW1.out]
          change Code.wp _ ((regionOf 6 (Tryd.f40.body.getD .skip)).getD .skip) _ _ _
          refine r6A _ _ _ _ _ _ _ _ _ _ _ _ _ _ _ _ _ _ _ _ _ _ _ _ _ _ _ _ _ _ _ _ W1 wr.heap.size w.heap.size  hsz1 (by omega) _ _ _ _ _ _ _ (by omega) y0 y1 y2 y3 y4 (fun k e => by simp [Value.ownBlock] at e) HO1 HSO (Lib.hid ?_)
          intro e20 e21 e22 e23 e24 e25 e26 e27 e28 e29 xz gg cap1 wz h1 h2 h3 h4
          have H1 := Lib.hid h1
          have H2 := Lib.hid h2
          have H3 := Lib.hid (HBW.out.trans h3)
          have H4 := Lib.hid h4
          clear h1 h2 h3 h4 y0 y1 y2 y3 y4 hwo c0 c1 c2 c3 c4
          go_wp2_with fail
          go_roundw
          case rel =>
            refine ⟨k + 1, _ :: st, xz :: xs, 0 + 1, by omega, by go_num, ?_, by omega, ?_, ⟨H1.out, HKS1.out.mono H4.out⟩, ?_, HRL.out, ?_, H3.out⟩
            · show _ = _
              rw [List.length_cons, ← HQ.out]
            · show World.ownsRow _ _ _ _ _ _ _
              rw [sv_rev]
              exact H2.out
            · show _ = _
              have h := HE3.out
              simpa using h
            · show _ ≤ _
              have hl := HLN.out
              show _ + tot _ ≤ _
              have := HTO.out; omega
          case measure => (simp [intOf]) <;> omega
        · by_cases hqq : q = cp
          · subst hqq
            obtain ⟨xk, ⟨vk, vn, vt⟩, xt⟩ := x
            simp only at c0 c1 c2 c3 c4 hwo HRL HSO HLN HW1 y0 y1 y2 y3 y4 hkn hk1 hk11 HBN
            subst hkn
            go_wp2_with fail
            rw [← HW1.out]
            change Code.wp _ ((regionOf 6 (Tryd.f40.body.getD .skip)).getD .skip) _ _ _
            refine r6B _ _ _ _ _ _ _ _ _ _ _ _ _ _ _ _ _ _ _ _ _ _ _ _ _ _ _ _ _ _ _ _ W1 wr.heap.size w.heap.size g q hsz1 (by omega) _ _ _ _ _ _ _ (by omega) y0 y1 y2 y3 y4 (fun k e => by simp [Value.ownBlock] at e; omega) HO1 HSO (Lib.hid ?_)
            intro e20 e21 e22 e23 e24 e25 e26 e27 e28 e29 xz gg cap1 wz h1 h2 h3 h4
            have H1 := Lib.hid h1
            have H2 := Lib.hid h2
            have H3 := Lib.hid (HBW.out.trans h3)
            have H4 := Lib.hid h4
            clear h1 h2 h3 h4 y0 y1 y2 y3 y4 hwo c0 c1 c2 c3 c4
            go_wp2_with fail
            go_roundw
            case rel =>
              refine ⟨k + 1, _ :: st, xz :: xs, q + 1, by omega, by go_num, ?_, by omega, ?_, ⟨H1.out, HKS1.out.mono H4.out⟩, ?_, HRL.out, ?_, H3.out⟩
              · show _ = _
                rw [List.length_cons, ← HQ.out]
              · show World.ownsRow _ _ _ _ _ _ _
                rw [sv_rev]
                exact H2.out
              · show _ = _
                have h := HE3.out
                simpa using h
              · show _ ≤ _
                have hl := HLN.out
                show _ + tot _ ≤ _
                have := HTO.out; omega
            case measure => (simp [intOf]) <;> omega
          · have j1 : (q : Int) ≤ (cp : Int) := by omega
            have j2 : ¬ cp = q := fun e => hqq e.symm
            have j3 : q < cp := by omega
            obtain ⟨xk, ⟨vk, vn, vt⟩, xt⟩ := x
            simp only at c0 c1 c2 c3 c4 hwo HRL HSO HLN HW1 y0 y1 y2 y3 y4 hkn hk1 hk11 HBN
            subst hkn
            go_wp2_with fail
            rw [← HW1.out]
            change Code.wp _ ((regionOf 6 (Tryd.f40.body.getD .skip)).getD .skip) _ _ _
            refine r6C _ _ _ _ _ _ _ _ _ _ _ _ _ _ _ _ _ _ _ _ _ _ _ _ _ _ _ _ _ _ _ _ W1 wr.heap.size w.heap.size g q cp (by omega) hqq (fun e => hqq e.symm) (by omega) (by omega) hsz1 (by omega) _ _ _ _ _ _ _ (by omega) y0 y1 y2 y3 y4 (fun k e => by simp [Value.ownBlock] at e; omega) HO1 HSO (Lib.hid ?_)
            intro e20 e21 e22 e23 e24 e25 e26 e27 e28 e29 xz gg cap1 wz h1 h2 h3 h4
            have H1 := Lib.hid h1
            have H2 := Lib.hid h2
            have H3 := Lib.hid (HBW.out.trans h3)
            have H4 := Lib.hid h4
            clear h1 h2 h3 h4 y0 y1 y2 y3 y4 hwo c0 c1 c2 c3 c4
            go_wp2_with fail
            go_roundw
            case rel =>
              refine ⟨k + 1, _ :: st, xz :: xs, q + 1, by omega, by go_num, ?_, by omega, ?_, ⟨H1.out, HKS1.out.mono H4.out⟩, ?_, HRL.out, ?_, H3.out⟩
              · show _ = _
                rw [List.length_cons, ← HQ.out]
              · show World.ownsRow _ _ _ _ _ _ _
                rw [sv_rev]
                exact H2.out
              · show _ = _
                have h := HE3.out
                simpa using h
              · show _ ≤ _
                have hl := HLN.out
                show _ + tot _ ≤ _
                have := HTO.out; omega
            case measure => (simp [intOf]) <;> omega
      · by_cases hw1 : wks x.k = 1
        · obtain ⟨p, rfl⟩ : ∃ p, q = p + 1 := ⟨q - 1, by omega⟩
          obtain ⟨a, s', hst⟩ : ∃ a s', xs = a :: s' := by
            match xs, HQ.out with
            | a :: s', _ => exact ⟨a, s', rfl⟩
            | [], h => simp at h
          have hsl : s'.length = p := by have := HQ.out; rw [hst] at this; simp at this; omega
          have hps := HKS1.out
          rw [hst] at hps
          obtain ⟨pa, ps', hpt⟩ : ∃ a s', st = a :: s' := by
            match st, hps with
            | a :: s', _ => exact ⟨a, s', rfl⟩
            | [], h => exact h.elim
          rw [hpt] at hps
          have HRL : Hid (R = rnF lfS onS twS (onT x.k pa :: ps') (l.drop (k + 1))) := by
            show _ = _
            rw [HRN2.out, hpt, rn_un lfS onS twS hw1]
            rfl
          have htot := HTO.out
          rw [hpt] at htot
          have htt : pa.length + tot ps' ≤ 4 * k := htot
          have HLN : Hid ((onT x.k pa).length ≤ pa.length + 4) := onT_len _ _
          have HE3 : Hid (exF ((p : Int) + 1) (l.drop (k + 1)) = 0) := by
            show _ = _
            rw [← HE2.out, hw1]
            (congr 1) <;> omega
          obtain ⟨t1, t2⟩ := rev_one (a := a) hsl
          have ho := HO1.out
          rw [hst] at ho
          rcases hfrm with ⟨_, h0⟩ | ⟨g, cp, rfl, hqc, hBg, hgw⟩
          · omega
          have hop := own_pre ho (show p ≤ p + 1 by omega)
          rw [t1] at hop
          obtain ⟨g', hgg, hcg⟩ := own_cell1 ho t2
          obtain rfl : g = g' := by simpa using hgg
          have HOP := Lib.hid hop
          have HSO : Hid (∀ W, Below W1.heap.size W1 W → Calls Tryd.prog 64 #[oqV x, .slice (some ⟨g, p, none⟩) 1 (cp - p)] W (ToksIs (onT x.k pa) W)) := fun W hW => showOp_un W (HT.out.below (into HBW.out hW)) x HOO.out hw1 g p _ a pa (cell_blz hW hcg) _ (hps.1.below hW) (by omega)
          have HPS := Lib.hid hps.2
          have HSL := Lib.hid hsl
          rw [hw1] at hwo
          clear hw0 hw1 hwq HE2 HRN2 w0 w2 hst hsl hps hpt t1 t2 ho hop hgg hcg htot HQ HO1 HKS1 HTO
          have j1 : (p : Int) ≤ (cp : Int) := by omega
          have j2 : ¬ p = cp := by omega
          have j3 : ¬ cp = p := by omega
          have j4 : (p : Int) + 1 - 1 = (p : Int) := by omega
          have j5 : (p : Int) ≤ (p : Int) + 1 := by omega
          obtain ⟨xk, ⟨vk, vn, vt⟩, xt⟩ := x
          simp only at c0 c1 c2 c3 c4 hwo HRL HSO HLN HW1 y0 y1 y2 y3 y4 hkn hk1 hk11 HBN
          subst hkn
          go_wp2_with fail
          rw [← HW1.out]
          change Code.wp _ ((regionOf 6 (Tryd.f40.body.getD .skip)).getD .skip) _ _ _
          refine r6D _ _ _ _ _ _ _ _ _ _ _ _ _ _ _ _ _ _ _ _ _ _ _ _ _ _ _ _ _ _ _ _ W1 wr.heap.size w.heap.size g (p + 1) p cp 1 (by omega) (by omega) (by omega) (by omega) (by omega) (by omega) (by omega) hsz1 (by omega) _ _ _ _ _ _ _ (by omega) y0 y1 y2 y3 y4 (fun k e => by simp [Value.ownBlock] at e; omega) HOP HSO (Lib.hid ?_)
          intro e20 e21 e22 e23 e24 e25 e26 e27 e28 e29 xz gg cap1 wz h1 h2 h3 h4
          have H1 := Lib.hid h1
          have H2 := Lib.hid h2
          have H3 := Lib.hid (HBW.out.trans h3)
          have H4 := Lib.hid h4
          clear h1 h2 h3 h4 y0 y1 y2 y3 y4 hwo c0 c1 c2 c3 c4
          go_wp2_with fail
          go_roundw
          case rel =>
            refine ⟨k + 1, _ :: ps', xz :: s', p + 1, by omega, by go_num, ?_, by omega, ?_, ⟨H1.out, HPS.out.mono H4.out⟩, ?_, HRL.out, ?_, H3.out⟩
            · show _ = _
              rw [List.length_cons, HSL.out]
            · show World.ownsRow _ _ _ _ _ _ _
              rw [sv_rev]
              exact H2.out
            · show _ = _
              have h := HE3.out
              simpa using h
            · show _ ≤ _
              have hl := HLN.out
              show _ + tot _ ≤ _
              omega
          case measure => (simp [intOf]) <;> omega
        · have hw2 : wks x.k = 2 := by omega
          obtain ⟨p, rfl⟩ : ∃ p, q = p + 2 := ⟨q - 2, by omega⟩
          obtain ⟨a, c, s', hst⟩ : ∃ a c s', xs = c :: a :: s' := by
            match xs, HQ.out with
            | c :: a :: s', _ => exact ⟨a, c, s', rfl⟩
            | [], h => simp at h
            | [_], h => simp at h
          have hsl : s'.length = p := by have := HQ.out; rw [hst] at this; simp at this; omega
          have hps := HKS1.out
          rw [hst] at hps
          obtain ⟨pc, pa, ps', hpt⟩ : ∃ c a s', st = c :: a :: s' := by
            match st, hps with
            | c :: a :: s', _ => exact ⟨c, a, s', rfl⟩
            | [], h => exact h.elim
            | [_], h => exact h.2.elim
          rw [hpt] at hps
          have HRL : Hid (R = rnF lfS onS twS (twT x.k pa pc :: ps') (l.drop (k + 1))) := by
            show _ = _
            rw [HRN2.out, hpt, rn_bi lfS onS twS hw2]
            rfl
          have htot := HTO.out
          rw [hpt] at htot
          have htt : pc.length + (pa.length + tot ps') ≤ 4 * k := htot
          have HLN : Hid ((twT x.k pa pc).length = pa.length + pc.length + 3) := twT_len _ _ _
          have HE3 : Hid (exF ((p : Int) + 1) (l.drop (k + 1)) = 0) := by
            show _ = _
            rw [← HE2.out, hw2]
            (congr 1) <;> omega
          obtain ⟨t1, t2, t3⟩ := rev_two (a := a) (c := c) hsl
          have ho := HO1.out
          rw [hst] at ho
          rcases hfrm with ⟨_, h0⟩ | ⟨g, cp, rfl, hqc, hBg, hgw⟩
          · omega
          have hop := own_pre ho (show p ≤ p + 2 by omega)
          rw [t1] at hop
          obtain ⟨g', hgg, hcg⟩ := own_cell1 ho t2
          obtain rfl : g = g' := by simpa using hgg
          obtain ⟨g', hgg, hcg1⟩ := own_cell1 ho t3
          obtain rfl : g = g' := by simpa using hgg
          have HOP := Lib.hid hop
          have HSO : Hid (∀ W, Below W1.heap.size W1 W → Calls Tryd.prog 64 #[oqV x, .slice (some ⟨g, p, none⟩) 2 (cp - p)] W (ToksIs (twT x.k pa pc) W)) := fun W hW => showOp_bi W (HT.out.below (into HBW.out hW)) x HOO.out hw2 g p _ a c pa pc (cell_blz hW hcg) (cell_blz hW hcg1) _ (hps.2.1.below hW) (hps.1.below hW) (by omega) (by omega)
          have HPS := Lib.hid hps.2.2
          have HSL := Lib.hid hsl
          rw [hw2] at hwo
          clear hw0 hw1 hw2 hwq HE2 HRN2 w0 w2 hst hsl hps hpt t1 t2 t3 ho hop hgg hcg hcg1 htot HQ HO1 HKS1 HTO
          have j1 : (p : Int) ≤ (cp : Int) := by omega
          have j2 : ¬ p = cp := by omega
          have j3 : ¬ cp = p := by omega
          have j4 : (p : Int) + 2 - 2 = (p : Int) := by omega
          have j5 : (p : Int) ≤ (p : Int) + 2 := by omega
          obtain ⟨xk, ⟨vk, vn, vt⟩, xt⟩ := x
          simp only at c0 c1 c2 c3 c4 hwo HRL HSO HLN HW1 y0 y1 y2 y3 y4 hkn hk1 hk11 HBN
          subst hkn
          go_wp2_with fail
          rw [← HW1.out]
          change Code.wp _ ((regionOf 6 (Tryd.f40.body.getD .skip)).getD .skip) _ _ _
          refine r6D _ _ _ _ _ _ _ _ _ _ _ _ _ _ _ _ _ _ _ _ _ _ _ _ _ _ _ _ _ _ _ _ W1 wr.heap.size w.heap.size g (p + 2) p cp 2 (by omega) (by omega) (by omega) (by omega) (by omega) (by omega) (by omega) hsz1 (by omega) _ _ _ _ _ _ _ (by omega) y0 y1 y2 y3 y4 (fun k e => by simp [Value.ownBlock] at e; omega) HOP HSO (Lib.hid ?_)
          intro e20 e21 e22 e23 e24 e25 e26 e27 e28 e29 xz gg cap1 wz h1 h2 h3 h4
          have H1 := Lib.hid h1
          have H2 := Lib.hid h2
          have H3 := Lib.hid (HBW.out.trans h3)
          have H4 := Lib.hid h4
          clear h1 h2 h3 h4 y0 y1 y2 y3 y4 hwo c0 c1 c2 c3 c4
          go_wp2_with fail
          go_roundw
          case rel =>
            refine ⟨k + 1, _ :: ps', xz :: s', p + 1, by omega, by go_num, ?_, by omega, ?_, ⟨H1.out, HPS.out.mono H4.out⟩, ?_, HRL.out, ?_, H3.out⟩
            · show _ = _
              rw [List.length_cons, HSL.out]
            · show World.ownsRow _ _ _ _ _ _ _
              rw [sv_rev]
              exact H2.out
            · show _ = _
              have h := HE3.out
              simpa using h
            · show _ ≤ _
              have hl := HLN.out
              show _ + tot _ ≤ _
              omega
          case measure => (simp [intOf]) <;> omega
    · obtain rfl : k = m := by omega
      have he := HE.out
      rw [List.drop_eq_nil_of_le (by rw [← HML.out]; exact Nat.le_refl _)] at he
      have h1 : q = 1 := by
        unfold exF at he
        split at he <;> omega
      subst h1
      obtain ⟨y, rfl⟩ : ∃ x, xs = [x] := by
        match xs, HQ.out with
        | [x], _ => exact ⟨x, rfl⟩
        | [], h => simp at h
        | _ :: _ :: _, h => simp at h
      obtain ⟨py, rfl⟩ : ∃ p, st = [p] := by
        match st, HKS.out with
        | [p], _ => exact ⟨p, rfl⟩
        | [], h => exact h.elim
        | _ :: _ :: _, h => exact h.2.elim
      have hu := HU.out
      rcases own_forms hu with ⟨_, h0⟩ | ⟨g, cp, rfl, _, _, _⟩
      · omega
      obtain ⟨g', hgg, hg0⟩ := own_cell1 (j := 0) (x := svv y) hu rfl
      obtain rfl : g = g' := by simpa using hgg
      have HZ : Hid (exT l = py) := by
        show _ = _
        rw [HF.out, HRN.out, List.drop_eq_nil_of_le (by rw [← HML.out]; exact Nat.le_refl _)]
        rfl
      have HRK := Lib.hid HKS.out.1
      obtain ⟨ya, yn, yc⟩ := y
      simp only [svv] at hg0
      clear he HE HRN hu HU HKS HQ hgg
      go_wp2_with fail
      go_ret
      rw [HZ.out]
      refine ⟨_, rfl, ?_, HB.out⟩
      exact HRK.out
end Go.Proofs.YtdeollmeljaaoaaDoor.cs
